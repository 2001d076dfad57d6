/-
  Texts in one: MgSgSame.
-/
import Derived.Test.YtnbejckdhdbamaaGreatMessageRightQFL
import Derived.Test.YtnbejckdhdbamaaGreatMessageRightQ0
import Derived.Test.YtnbejckdhdbamaaGreatMessageRightQ1
import Derived.Test.YtnbejckdhdbamaaGreatMessageRightQ3
namespace Go.Proofs.YtnbejckdhdbamaaGreat
open Go.RowKit
def svB (a b : SV) : Bool := decide (a.fr = b.fr) && (decide (a.b = b.b) && decide (a.tag = b.tag))
theorem svB_iff (a b : SV) : svB a b = true ↔ a = b := by
 unfold svB
 cases a; cases b
 simp
def sgB : List SV → List SV → Bool
 | [], [] => true
 | a :: x, b :: y => svB a b && sgB x y
 | _, _ => false
theorem sgB_iff : ∀ a b : List SV, sgB a b = true ↔ a = b
 | [], [] => by simp [sgB]
 | [], _ :: _ => by simp [sgB]
 | _ :: _, [] => by simp [sgB]
 | a :: x, b :: y => by rw [sgB, Bool.and_eq_true, svB_iff, sgB_iff x y]; simp
theorem sgB_true {a b : List SV} (h : a = b) : sgB a b = true := (sgB_iff a b).2 h
theorem sgB_false {a b : List SV} (h : a ≠ b) : sgB a b = false := by
 cases q : sgB a b with
 | false => rfl
 | true => exact absurd ((sgB_iff a b).1 q) h
theorem below_same {w : World} {ao bo : Option Addr} {n cap m cap2 : Nat} {xs ys : List Int} (h : Sl w ao n cap xs) (h2 : Sl w bo m cap2 ys) (V : World) (hV : Below w.heap.size w V) : Calls Tryz.prog 32 #[.slice ao n cap, .slice bo m cap2] V fun e w' => e = .returned (.bool (decide (xs = ys))) ∧ Below V.heap.size V w' := by
 refine (same_any V ao bo n cap m cap2 xs ys (h.below hV) (h2.below hV)).mono ?_
 rintro e w' ⟨rfl, q, rfl⟩
 exact ⟨rfl, belN (Below.refl _ _) q⟩
set_option maxHeartbeats 8000000 in
set_option maxRecDepth 100000 in
theorem signeds_any (w : World) (ao bo : Option Addr) (n cap m cap2 : Nat) (l j : List SA) (L : GL elS w ao n cap l) (J : GL elS w bo m cap2 j) :
  Calls Tryz.prog 34 #[.slice ao n cap, .slice bo m cap2] w fun e w' => e = .returned (.bool (sgB (l.map SA.v) (j.map SA.v))) ∧ Below w.heap.size w w' := by
 have hl := L.len
 have hj := J.len
 have hle := L.le
 have hmx := L.mx
 have hle2 := J.le
 have hmx2 := J.mx
 unfold maxLen at hmx hmx2
 by_cases hnm : n = m
 ·subst hnm
  have hne : ((n : Int) != (n : Int)) = false := by simp
  go_enter Tryz.func34, Tryz.ntmps34
  go_wp2
  go_loopw [5] (fun i wr => ∃ k : Nat, k ≤ n ∧ i = .int .i64 k ∧ Hid ((l.map SA.v).take k = (j.map SA.v).take k) ∧ Below w.heap.size w wr) (fun i _ => n - (intOf i).toNat)
  case atStart => exact ⟨0, Nat.zero_le _, rfl, by show _ = _; simp, Below.refl _ _⟩
  case round =>
   obtain ⟨k, hk, rfl, HK, B⟩ := hrel
   by_cases hlt : k < n
   ·have hki : (k : Int) < (n : Int) := by omega
    have k1 : k < l.length := by omega
    have k2 : k < j.length := by omega
    obtain ⟨b, off, ea, hc⟩ := (L.below elS_fine B).atS (by omega)
    obtain ⟨b2, off2, eb, hd⟩ := (J.below elS_fine B).atS (by omega)
    obtain ⟨x0, x1, x2⟩ := hc k k1
    obtain ⟨y0, y1, y2⟩ := hd k k2
    subst ea
    subst eb
    have uok : SA.ok l[k] wr := (L.below elS_fine B).ok _ (List.getElem_mem k1)
    have vok : SA.ok j[k] wr := (J.below elS_fine B).ok _ (List.getElem_mem k2)
    have HNE : Hid (l[k].v ≠ j[k].v → sgB (l.map SA.v) (j.map SA.v) = false) := fun q => by
     refine sgB_false fun e => q ?_
     have h1 : (l.map SA.v)[k]? = (j.map SA.v)[k]? := by rw [e]
     rw [List.getElem?_map, List.getElem?_map, List.getElem?_eq_getElem k1, List.getElem?_eq_getElem k2] at h1
     simpa using h1
    have HEQ : Hid (l[k].v = j[k].v → (l.map SA.v).take (k + 1) = (j.map SA.v).take (k + 1)) := fun q => by
     rw [List.take_succ_eq_append_getElem (by rw [List.length_map]; exact k1), List.take_succ_eq_append_getElem (by rw [List.length_map]; exact k2), HK.out, List.getElem_map, List.getElem_map, q]
    obtain ⟨u, hu⟩ : ∃ u, u = l[k] := ⟨_, rfl⟩
    obtain ⟨v, hv⟩ : ∃ v, v = j[k] := ⟨_, rfl⟩
    rw [← hu] at x0 x1 x2 uok HNE HEQ
    rw [← hv] at y0 y1 y2 vok HNE HEQ
    have CB := fun (V : World) (hV : Below wr.heap.size wr V) => below_same uok.b vok.b V hV
    have CT := fun (V : World) (hV : Below wr.heap.size wr V) => below_same uok.tag vok.tag V hV
    clear hu hv hc hd uok vok HK
    by_cases q0 : u.fr = v.fr
    ·have i0 : ((u.fr : Int) != (v.fr : Int)) = false := by simp; omega
     by_cases q1 : u.b.xs = v.b.xs
     ·have HB : Hid (∀ V, Below wr.heap.size wr V → Calls Tryz.prog 32 #[.slice u.b.ao u.b.n u.b.cap, .slice v.b.ao v.b.n v.b.cap] V fun e w' => e = .returned (.bool true) ∧ Below V.heap.size V w') := fun V hV => by have := CB V hV; rwa [decide_eq_true q1] at this
      by_cases q2 : u.tag.xs = v.tag.xs
      ·have HT : Hid (∀ V, Below wr.heap.size wr V → Calls Tryz.prog 32 #[.slice u.tag.ao u.tag.n u.tag.cap, .slice v.tag.ao v.tag.n v.tag.cap] V fun e w' => e = .returned (.bool true) ∧ Below V.heap.size V w') := fun V hV => by have := CT V hV; rwa [decide_eq_true q2] at this
       have HK2 : Hid ((l.map SA.v).take (k + 1) = (j.map SA.v).take (k + 1)) := HEQ.out (by unfold SA.v; rw [q0, q1, q2])
       clear CB CT q0 q1 q2 HNE HEQ
       go_wp2_with fail
       have tHS : Hid (∀ V, Below wr.heap.size wr V → V.cell? ⟨b, off + k * 3, none⟩ = some (.int .u64 (u.fr : Nat)) ∧ V.cell? ⟨b, off + k * 3 + 1, none⟩ = some (.slice u.b.ao u.b.n u.b.cap) ∧ V.cell? ⟨b, off + k * 3 + 2, none⟩ = some (.slice u.tag.ao u.tag.n u.tag.cap) ∧ V.cell? ⟨b2, off2 + k * 3, none⟩ = some (.int .u64 (v.fr : Nat)) ∧ V.cell? ⟨b2, off2 + k * 3 + 1, none⟩ = some (.slice v.b.ao v.b.n v.b.cap) ∧ V.cell? ⟨b2, off2 + k * 3 + 2, none⟩ = some (.slice v.tag.ao v.tag.n v.tag.cap)) := fun V hV => ⟨(hV.cell (World.block_lt_of_cell? _ _ x0)).trans x0, (hV.cell (World.block_lt_of_cell? _ _ x1)).trans x1, (hV.cell (World.block_lt_of_cell? _ _ x2)).trans x2, (hV.cell (World.block_lt_of_cell? _ _ y0)).trans y0, (hV.cell (World.block_lt_of_cell? _ _ y1)).trans y1, (hV.cell (World.block_lt_of_cell? _ _ y2)).trans y2⟩
       refine zB (by kernel_rfl) tHS.out fun tv0 tE0 tH0 => ?_
       refine zT 0 (some 17) (.slice (some ⟨b, off, none⟩) n cap) rfl rfl (by kernel_rfl) rfl (fun W ⟨h0, h1, h2, h3, h4, h5⟩ => by go_simp) tH0 ?_
       simp only [FL]
       refine zT 1 (some 18) (.int .i64 (k : Nat)) rfl rfl (by kernel_rfl) rfl (fun W ⟨h0, h1, h2, h3, h4, h5⟩ => by go_simp) tH0 ?_
       simp only [FL]
       refine zT 2 (some 19) (.pointer (some ⟨b, off + k * 3, none⟩)) rfl rfl (by kernel_rfl) rfl (fun W ⟨h0, h1, h2, h3, h4, h5⟩ => by go_simp) tH0 ?_
       simp only [FL]
       refine zT 3 (some 20) (.pointer (some ⟨b, off + k * 3, none⟩)) rfl rfl (by kernel_rfl) rfl (fun W ⟨h0, h1, h2, h3, h4, h5⟩ => by go_simp) tH0 ?_
       simp only [FL]
       refine zT 4 (some 21) (.int .u64 (u.fr : Nat)) rfl rfl (by kernel_rfl) rfl (fun W ⟨h0, h1, h2, h3, h4, h5⟩ => by go_simp) tH0 ?_
       simp only [FL]
       refine zT 5 (some 22) (.slice (some ⟨b2, off2, none⟩) n cap2) rfl rfl (by kernel_rfl) rfl (fun W ⟨h0, h1, h2, h3, h4, h5⟩ => by go_simp) tH0 ?_
       simp only [FL]
       refine zT 6 (some 23) (.int .i64 (k : Nat)) rfl rfl (by kernel_rfl) rfl (fun W ⟨h0, h1, h2, h3, h4, h5⟩ => by go_simp) tH0 ?_
       simp only [FL]
       refine zT 7 (some 24) (.pointer (some ⟨b2, off2 + k * 3, none⟩)) rfl rfl (by kernel_rfl) rfl (fun W ⟨h0, h1, h2, h3, h4, h5⟩ => by go_simp) tH0 ?_
       simp only [FL]
       refine zT 8 (some 25) (.pointer (some ⟨b2, off2 + k * 3, none⟩)) rfl rfl (by kernel_rfl) rfl (fun W ⟨h0, h1, h2, h3, h4, h5⟩ => by go_simp) tH0 ?_
       simp only [FL]
       refine zT 9 (some 26) (.int .u64 (v.fr : Nat)) rfl rfl (by kernel_rfl) rfl (fun W ⟨h0, h1, h2, h3, h4, h5⟩ => by go_simp) tH0 ?_
       simp only [FL]
       refine zT 10 (some 27) (.bool false) rfl rfl (by kernel_rfl) rfl (fun W ⟨h0, h1, h2, h3, h4, h5⟩ => by go_simp) tH0 ?_
       simp only [FL]
       refine zT 11 (some 28) (.bool false) rfl rfl (by kernel_rfl) rfl (fun W ⟨h0, h1, h2, h3, h4, h5⟩ => by go_simp) tH0 ?_
       simp only [FL]
       refine zT 12 (some 29) (.slice (some ⟨b, off, none⟩) n cap) rfl rfl (by kernel_rfl) rfl (fun W ⟨h0, h1, h2, h3, h4, h5⟩ => by go_simp) tH0 ?_
       simp only [FL]
       refine zT 13 (some 30) (.int .i64 (k : Nat)) rfl rfl (by kernel_rfl) rfl (fun W ⟨h0, h1, h2, h3, h4, h5⟩ => by go_simp) tH0 ?_
       simp only [FL]
       refine zT 14 (some 31) (.pointer (some ⟨b, off + k * 3, none⟩)) rfl rfl (by kernel_rfl) rfl (fun W ⟨h0, h1, h2, h3, h4, h5⟩ => by go_simp) tH0 ?_
       simp only [FL]
       refine zT 15 (some 32) (.pointer (some ⟨b, off + k * 3 + 1, none⟩)) rfl rfl (by kernel_rfl) rfl (fun W ⟨h0, h1, h2, h3, h4, h5⟩ => by go_simp) tH0 ?_
       simp only [FL]
       refine zT 16 (some 33) (.slice u.b.ao u.b.n u.b.cap) rfl rfl (by kernel_rfl) rfl (fun W ⟨h0, h1, h2, h3, h4, h5⟩ => by go_simp) tH0 ?_
       simp only [FL]
       refine zT 17 (some 34) (.slice (some ⟨b2, off2, none⟩) n cap2) rfl rfl (by kernel_rfl) rfl (fun W ⟨h0, h1, h2, h3, h4, h5⟩ => by go_simp) tH0 ?_
       simp only [FL]
       refine zT 18 (some 35) (.int .i64 (k : Nat)) rfl rfl (by kernel_rfl) rfl (fun W ⟨h0, h1, h2, h3, h4, h5⟩ => by go_simp) tH0 ?_
       simp only [FL]
       refine zT 19 (some 36) (.pointer (some ⟨b2, off2 + k * 3, none⟩)) rfl rfl (by kernel_rfl) rfl (fun W ⟨h0, h1, h2, h3, h4, h5⟩ => by go_simp) tH0 ?_
       simp only [FL]
       refine zT 20 (some 37) (.pointer (some ⟨b2, off2 + k * 3 + 1, none⟩)) rfl rfl (by kernel_rfl) rfl (fun W ⟨h0, h1, h2, h3, h4, h5⟩ => by go_simp) tH0 ?_
       simp only [FL]
       refine zT 21 (some 38) (.slice v.b.ao v.b.n v.b.cap) rfl rfl (by kernel_rfl) rfl (fun W ⟨h0, h1, h2, h3, h4, h5⟩ => by go_simp) tH0 ?_
       simp only [FL]
       refine hr_call_w 22 (some 39) 32 #[.slice u.b.ao u.b.n u.b.cap, .slice v.b.ao v.b.n v.b.cap] rfl rfl (by kernel_rfl) rfl (by go_simp) (fun v w' => v = .bool true ∧ Below tv0.heap.size tv0 w') ((HB.out tv0 tE0).mono (by
        rintro e w' ⟨rfl, C⟩
        exact ⟨_, rfl, rfl, C⟩)) ?_
       rintro v tv1 ⟨rfl, tC0⟩
       have tE1 := tE0.trans (tC0.mono tE0.size)
       have tH1 := tHS.out tv1 tE1
       refine ⟨tH1, ?_⟩
       simp only [FL]
       refine zT 23 (some 40) (.bool false) rfl rfl (by kernel_rfl) rfl (fun W ⟨h0, h1, h2, h3, h4, h5⟩ => by go_simp) tH1 ?_
       simp only [FL]
       refine zT 24 (some 41) (.bool false) rfl rfl (by kernel_rfl) rfl (fun W ⟨h0, h1, h2, h3, h4, h5⟩ => by go_simp) tH1 ?_
       simp only [FL]
       refine zT 25 (some 42) (.bool false) rfl rfl (by kernel_rfl) rfl (fun W ⟨h0, h1, h2, h3, h4, h5⟩ => by go_simp) tH1 ?_
       simp only [FL]
       refine zT 26 (some 43) (.slice (some ⟨b, off, none⟩) n cap) rfl rfl (by kernel_rfl) rfl (fun W ⟨h0, h1, h2, h3, h4, h5⟩ => by go_simp) tH1 ?_
       simp only [FL]
       refine zT 27 (some 44) (.int .i64 (k : Nat)) rfl rfl (by kernel_rfl) rfl (fun W ⟨h0, h1, h2, h3, h4, h5⟩ => by go_simp) tH1 ?_
       simp only [FL]
       refine zT 28 (some 45) (.pointer (some ⟨b, off + k * 3, none⟩)) rfl rfl (by kernel_rfl) rfl (fun W ⟨h0, h1, h2, h3, h4, h5⟩ => by go_simp) tH1 ?_
       simp only [FL]
       refine zT 29 (some 46) (.pointer (some ⟨b, off + k * 3 + 2, none⟩)) rfl rfl (by kernel_rfl) rfl (fun W ⟨h0, h1, h2, h3, h4, h5⟩ => by go_simp) tH1 ?_
       simp only [FL]
       refine zT 30 (some 47) (.slice u.tag.ao u.tag.n u.tag.cap) rfl rfl (by kernel_rfl) rfl (fun W ⟨h0, h1, h2, h3, h4, h5⟩ => by go_simp) tH1 ?_
       simp only [FL]
       refine zT 31 (some 48) (.slice (some ⟨b2, off2, none⟩) n cap2) rfl rfl (by kernel_rfl) rfl (fun W ⟨h0, h1, h2, h3, h4, h5⟩ => by go_simp) tH1 ?_
       simp only [FL]
       refine zT 32 (some 49) (.int .i64 (k : Nat)) rfl rfl (by kernel_rfl) rfl (fun W ⟨h0, h1, h2, h3, h4, h5⟩ => by go_simp) tH1 ?_
       simp only [FL]
       refine zT 33 (some 50) (.pointer (some ⟨b2, off2 + k * 3, none⟩)) rfl rfl (by kernel_rfl) rfl (fun W ⟨h0, h1, h2, h3, h4, h5⟩ => by go_simp) tH1 ?_
       simp only [FL]
       refine zT 34 (some 51) (.pointer (some ⟨b2, off2 + k * 3 + 2, none⟩)) rfl rfl (by kernel_rfl) rfl (fun W ⟨h0, h1, h2, h3, h4, h5⟩ => by go_simp) tH1 ?_
       simp only [FL]
       refine zT 35 (some 52) (.slice v.tag.ao v.tag.n v.tag.cap) rfl rfl (by kernel_rfl) rfl (fun W ⟨h0, h1, h2, h3, h4, h5⟩ => by go_simp) tH1 ?_
       simp only [FL]
       refine hr_call_w 36 (some 53) 32 #[.slice u.tag.ao u.tag.n u.tag.cap, .slice v.tag.ao v.tag.n v.tag.cap] rfl rfl (by kernel_rfl) rfl (by go_simp) (fun v w' => v = .bool true ∧ Below tv1.heap.size tv1 w') ((HT.out tv1 tE1).mono (by
        rintro e w' ⟨rfl, C⟩
        exact ⟨_, rfl, rfl, C⟩)) ?_
       rintro v tv2 ⟨rfl, tC1⟩
       have tE2 := tE1.trans (tC1.mono tE1.size)
       have tH2 := tHS.out tv2 tE2
       refine ⟨tH2, ?_⟩
       simp only [FL]
       refine zT 37 (some 54) (.bool false) rfl rfl (by kernel_rfl) rfl (fun W ⟨h0, h1, h2, h3, h4, h5⟩ => by go_simp) tH2 ?_
       simp only [FL]
       refine zT 38 (some 55) (.bool false) rfl rfl (by kernel_rfl) rfl (fun W ⟨h0, h1, h2, h3, h4, h5⟩ => by go_simp) tH2 ?_
       simp only [FL]
       refine wpAnyH_done (by kernel_rfl) ?_ _
       refine NoPanic.normal ?_
       go_wp2
       go_roundw
       case rel => exact ⟨k + 1, by omega, by go_num, HK2, B.trans (tE2.mono B.size)⟩
       case measure => simp [intOf]; omega
      ·have HT : Hid (∀ V, Below wr.heap.size wr V → Calls Tryz.prog 32 #[.slice u.tag.ao u.tag.n u.tag.cap, .slice v.tag.ao v.tag.n v.tag.cap] V fun e w' => e = .returned (.bool false) ∧ Below V.heap.size V w') := fun V hV => by have := CT V hV; rwa [decide_eq_false q2] at this
       have HD : u.v ≠ v.v := fun e => q2 (by have := congrArg SV.tag e; exact this)
       clear CB CT q0 q1 q2 HEQ
       go_wp2_with fail
       have tHS : Hid (∀ V, Below wr.heap.size wr V → V.cell? ⟨b, off + k * 3, none⟩ = some (.int .u64 (u.fr : Nat)) ∧ V.cell? ⟨b, off + k * 3 + 1, none⟩ = some (.slice u.b.ao u.b.n u.b.cap) ∧ V.cell? ⟨b, off + k * 3 + 2, none⟩ = some (.slice u.tag.ao u.tag.n u.tag.cap) ∧ V.cell? ⟨b2, off2 + k * 3, none⟩ = some (.int .u64 (v.fr : Nat)) ∧ V.cell? ⟨b2, off2 + k * 3 + 1, none⟩ = some (.slice v.b.ao v.b.n v.b.cap) ∧ V.cell? ⟨b2, off2 + k * 3 + 2, none⟩ = some (.slice v.tag.ao v.tag.n v.tag.cap)) := fun V hV => ⟨(hV.cell (World.block_lt_of_cell? _ _ x0)).trans x0, (hV.cell (World.block_lt_of_cell? _ _ x1)).trans x1, (hV.cell (World.block_lt_of_cell? _ _ x2)).trans x2, (hV.cell (World.block_lt_of_cell? _ _ y0)).trans y0, (hV.cell (World.block_lt_of_cell? _ _ y1)).trans y1, (hV.cell (World.block_lt_of_cell? _ _ y2)).trans y2⟩
       refine zB (by kernel_rfl) tHS.out fun tv0 tE0 tH0 => ?_
       refine zT 0 (some 17) (.slice (some ⟨b, off, none⟩) n cap) rfl rfl (by kernel_rfl) rfl (fun W ⟨h0, h1, h2, h3, h4, h5⟩ => by go_simp) tH0 ?_
       simp only [FL]
       refine zT 1 (some 18) (.int .i64 (k : Nat)) rfl rfl (by kernel_rfl) rfl (fun W ⟨h0, h1, h2, h3, h4, h5⟩ => by go_simp) tH0 ?_
       simp only [FL]
       refine zT 2 (some 19) (.pointer (some ⟨b, off + k * 3, none⟩)) rfl rfl (by kernel_rfl) rfl (fun W ⟨h0, h1, h2, h3, h4, h5⟩ => by go_simp) tH0 ?_
       simp only [FL]
       refine zT 3 (some 20) (.pointer (some ⟨b, off + k * 3, none⟩)) rfl rfl (by kernel_rfl) rfl (fun W ⟨h0, h1, h2, h3, h4, h5⟩ => by go_simp) tH0 ?_
       simp only [FL]
       refine zT 4 (some 21) (.int .u64 (u.fr : Nat)) rfl rfl (by kernel_rfl) rfl (fun W ⟨h0, h1, h2, h3, h4, h5⟩ => by go_simp) tH0 ?_
       simp only [FL]
       refine zT 5 (some 22) (.slice (some ⟨b2, off2, none⟩) n cap2) rfl rfl (by kernel_rfl) rfl (fun W ⟨h0, h1, h2, h3, h4, h5⟩ => by go_simp) tH0 ?_
       simp only [FL]
       refine zT 6 (some 23) (.int .i64 (k : Nat)) rfl rfl (by kernel_rfl) rfl (fun W ⟨h0, h1, h2, h3, h4, h5⟩ => by go_simp) tH0 ?_
       simp only [FL]
       refine zT 7 (some 24) (.pointer (some ⟨b2, off2 + k * 3, none⟩)) rfl rfl (by kernel_rfl) rfl (fun W ⟨h0, h1, h2, h3, h4, h5⟩ => by go_simp) tH0 ?_
       simp only [FL]
       refine zT 8 (some 25) (.pointer (some ⟨b2, off2 + k * 3, none⟩)) rfl rfl (by kernel_rfl) rfl (fun W ⟨h0, h1, h2, h3, h4, h5⟩ => by go_simp) tH0 ?_
       simp only [FL]
       refine zT 9 (some 26) (.int .u64 (v.fr : Nat)) rfl rfl (by kernel_rfl) rfl (fun W ⟨h0, h1, h2, h3, h4, h5⟩ => by go_simp) tH0 ?_
       simp only [FL]
       refine zT 10 (some 27) (.bool false) rfl rfl (by kernel_rfl) rfl (fun W ⟨h0, h1, h2, h3, h4, h5⟩ => by go_simp) tH0 ?_
       simp only [FL]
       refine zT 11 (some 28) (.bool false) rfl rfl (by kernel_rfl) rfl (fun W ⟨h0, h1, h2, h3, h4, h5⟩ => by go_simp) tH0 ?_
       simp only [FL]
       refine zT 12 (some 29) (.slice (some ⟨b, off, none⟩) n cap) rfl rfl (by kernel_rfl) rfl (fun W ⟨h0, h1, h2, h3, h4, h5⟩ => by go_simp) tH0 ?_
       simp only [FL]
       refine zT 13 (some 30) (.int .i64 (k : Nat)) rfl rfl (by kernel_rfl) rfl (fun W ⟨h0, h1, h2, h3, h4, h5⟩ => by go_simp) tH0 ?_
       simp only [FL]
       refine zT 14 (some 31) (.pointer (some ⟨b, off + k * 3, none⟩)) rfl rfl (by kernel_rfl) rfl (fun W ⟨h0, h1, h2, h3, h4, h5⟩ => by go_simp) tH0 ?_
       simp only [FL]
       refine zT 15 (some 32) (.pointer (some ⟨b, off + k * 3 + 1, none⟩)) rfl rfl (by kernel_rfl) rfl (fun W ⟨h0, h1, h2, h3, h4, h5⟩ => by go_simp) tH0 ?_
       simp only [FL]
       refine zT 16 (some 33) (.slice u.b.ao u.b.n u.b.cap) rfl rfl (by kernel_rfl) rfl (fun W ⟨h0, h1, h2, h3, h4, h5⟩ => by go_simp) tH0 ?_
       simp only [FL]
       refine zT 17 (some 34) (.slice (some ⟨b2, off2, none⟩) n cap2) rfl rfl (by kernel_rfl) rfl (fun W ⟨h0, h1, h2, h3, h4, h5⟩ => by go_simp) tH0 ?_
       simp only [FL]
       refine zT 18 (some 35) (.int .i64 (k : Nat)) rfl rfl (by kernel_rfl) rfl (fun W ⟨h0, h1, h2, h3, h4, h5⟩ => by go_simp) tH0 ?_
       simp only [FL]
       refine zT 19 (some 36) (.pointer (some ⟨b2, off2 + k * 3, none⟩)) rfl rfl (by kernel_rfl) rfl (fun W ⟨h0, h1, h2, h3, h4, h5⟩ => by go_simp) tH0 ?_
       simp only [FL]
       refine zT 20 (some 37) (.pointer (some ⟨b2, off2 + k * 3 + 1, none⟩)) rfl rfl (by kernel_rfl) rfl (fun W ⟨h0, h1, h2, h3, h4, h5⟩ => by go_simp) tH0 ?_
       simp only [FL]
       refine zT 21 (some 38) (.slice v.b.ao v.b.n v.b.cap) rfl rfl (by kernel_rfl) rfl (fun W ⟨h0, h1, h2, h3, h4, h5⟩ => by go_simp) tH0 ?_
       simp only [FL]
       refine hr_call_w 22 (some 39) 32 #[.slice u.b.ao u.b.n u.b.cap, .slice v.b.ao v.b.n v.b.cap] rfl rfl (by kernel_rfl) rfl (by go_simp) (fun v w' => v = .bool true ∧ Below tv0.heap.size tv0 w') ((HB.out tv0 tE0).mono (by
        rintro e w' ⟨rfl, C⟩
        exact ⟨_, rfl, rfl, C⟩)) ?_
       rintro v tv1 ⟨rfl, tC0⟩
       have tE1 := tE0.trans (tC0.mono tE0.size)
       have tH1 := tHS.out tv1 tE1
       refine ⟨tH1, ?_⟩
       simp only [FL]
       refine zT 23 (some 40) (.bool false) rfl rfl (by kernel_rfl) rfl (fun W ⟨h0, h1, h2, h3, h4, h5⟩ => by go_simp) tH1 ?_
       simp only [FL]
       refine zT 24 (some 41) (.bool false) rfl rfl (by kernel_rfl) rfl (fun W ⟨h0, h1, h2, h3, h4, h5⟩ => by go_simp) tH1 ?_
       simp only [FL]
       refine zT 25 (some 42) (.bool false) rfl rfl (by kernel_rfl) rfl (fun W ⟨h0, h1, h2, h3, h4, h5⟩ => by go_simp) tH1 ?_
       simp only [FL]
       refine zT 26 (some 43) (.slice (some ⟨b, off, none⟩) n cap) rfl rfl (by kernel_rfl) rfl (fun W ⟨h0, h1, h2, h3, h4, h5⟩ => by go_simp) tH1 ?_
       simp only [FL]
       refine zT 27 (some 44) (.int .i64 (k : Nat)) rfl rfl (by kernel_rfl) rfl (fun W ⟨h0, h1, h2, h3, h4, h5⟩ => by go_simp) tH1 ?_
       simp only [FL]
       refine zT 28 (some 45) (.pointer (some ⟨b, off + k * 3, none⟩)) rfl rfl (by kernel_rfl) rfl (fun W ⟨h0, h1, h2, h3, h4, h5⟩ => by go_simp) tH1 ?_
       simp only [FL]
       refine zT 29 (some 46) (.pointer (some ⟨b, off + k * 3 + 2, none⟩)) rfl rfl (by kernel_rfl) rfl (fun W ⟨h0, h1, h2, h3, h4, h5⟩ => by go_simp) tH1 ?_
       simp only [FL]
       refine zT 30 (some 47) (.slice u.tag.ao u.tag.n u.tag.cap) rfl rfl (by kernel_rfl) rfl (fun W ⟨h0, h1, h2, h3, h4, h5⟩ => by go_simp) tH1 ?_
       simp only [FL]
       refine zT 31 (some 48) (.slice (some ⟨b2, off2, none⟩) n cap2) rfl rfl (by kernel_rfl) rfl (fun W ⟨h0, h1, h2, h3, h4, h5⟩ => by go_simp) tH1 ?_
       simp only [FL]
       refine zT 32 (some 49) (.int .i64 (k : Nat)) rfl rfl (by kernel_rfl) rfl (fun W ⟨h0, h1, h2, h3, h4, h5⟩ => by go_simp) tH1 ?_
       simp only [FL]
       refine zT 33 (some 50) (.pointer (some ⟨b2, off2 + k * 3, none⟩)) rfl rfl (by kernel_rfl) rfl (fun W ⟨h0, h1, h2, h3, h4, h5⟩ => by go_simp) tH1 ?_
       simp only [FL]
       refine zT 34 (some 51) (.pointer (some ⟨b2, off2 + k * 3 + 2, none⟩)) rfl rfl (by kernel_rfl) rfl (fun W ⟨h0, h1, h2, h3, h4, h5⟩ => by go_simp) tH1 ?_
       simp only [FL]
       refine zT 35 (some 52) (.slice v.tag.ao v.tag.n v.tag.cap) rfl rfl (by kernel_rfl) rfl (fun W ⟨h0, h1, h2, h3, h4, h5⟩ => by go_simp) tH1 ?_
       simp only [FL]
       refine hr_call_w 36 (some 53) 32 #[.slice u.tag.ao u.tag.n u.tag.cap, .slice v.tag.ao v.tag.n v.tag.cap] rfl rfl (by kernel_rfl) rfl (by go_simp) (fun v w' => v = .bool false ∧ Below tv1.heap.size tv1 w') ((HT.out tv1 tE1).mono (by
        rintro e w' ⟨rfl, C⟩
        exact ⟨_, rfl, rfl, C⟩)) ?_
       rintro v tv2 ⟨rfl, tC1⟩
       have tE2 := tE1.trans (tC1.mono tE1.size)
       have tH2 := tHS.out tv2 tE2
       refine ⟨tH2, ?_⟩
       simp only [FL]
       refine zT 37 (some 54) (.bool true) rfl rfl (by kernel_rfl) rfl (fun W ⟨h0, h1, h2, h3, h4, h5⟩ => by go_simp) tH2 ?_
       simp only [FL]
       refine zT 38 (some 55) (.bool true) rfl rfl (by kernel_rfl) rfl (fun W ⟨h0, h1, h2, h3, h4, h5⟩ => by go_simp) tH2 ?_
       simp only [FL]
       refine wpAnyH_done (by kernel_rfl) ?_ _
       refine NoPanic.normal ?_
       have BF := B.trans (tE2.mono B.size)
       have HX := HNE.out HD
       go_wp2
       go_ret
       exact ⟨by rw [HX]; rfl, BF⟩
     ·have HB : Hid (∀ V, Below wr.heap.size wr V → Calls Tryz.prog 32 #[.slice u.b.ao u.b.n u.b.cap, .slice v.b.ao v.b.n v.b.cap] V fun e w' => e = .returned (.bool false) ∧ Below V.heap.size V w') := fun V hV => by have := CB V hV; rwa [decide_eq_false q1] at this
      have HD : u.v ≠ v.v := fun e => q1 (by have := congrArg SV.b e; exact this)
      clear CB CT q0 q1 HEQ
      go_wp2_with fail
      have tHS : Hid (∀ V, Below wr.heap.size wr V → V.cell? ⟨b, off + k * 3, none⟩ = some (.int .u64 (u.fr : Nat)) ∧ V.cell? ⟨b, off + k * 3 + 1, none⟩ = some (.slice u.b.ao u.b.n u.b.cap) ∧ V.cell? ⟨b, off + k * 3 + 2, none⟩ = some (.slice u.tag.ao u.tag.n u.tag.cap) ∧ V.cell? ⟨b2, off2 + k * 3, none⟩ = some (.int .u64 (v.fr : Nat)) ∧ V.cell? ⟨b2, off2 + k * 3 + 1, none⟩ = some (.slice v.b.ao v.b.n v.b.cap) ∧ V.cell? ⟨b2, off2 + k * 3 + 2, none⟩ = some (.slice v.tag.ao v.tag.n v.tag.cap)) := fun V hV => ⟨(hV.cell (World.block_lt_of_cell? _ _ x0)).trans x0, (hV.cell (World.block_lt_of_cell? _ _ x1)).trans x1, (hV.cell (World.block_lt_of_cell? _ _ x2)).trans x2, (hV.cell (World.block_lt_of_cell? _ _ y0)).trans y0, (hV.cell (World.block_lt_of_cell? _ _ y1)).trans y1, (hV.cell (World.block_lt_of_cell? _ _ y2)).trans y2⟩
      refine zB (by kernel_rfl) tHS.out fun tv0 tE0 tH0 => ?_
      refine zT 0 (some 17) (.slice (some ⟨b, off, none⟩) n cap) rfl rfl (by kernel_rfl) rfl (fun W ⟨h0, h1, h2, h3, h4, h5⟩ => by go_simp) tH0 ?_
      simp only [FL]
      refine zT 1 (some 18) (.int .i64 (k : Nat)) rfl rfl (by kernel_rfl) rfl (fun W ⟨h0, h1, h2, h3, h4, h5⟩ => by go_simp) tH0 ?_
      simp only [FL]
      refine zT 2 (some 19) (.pointer (some ⟨b, off + k * 3, none⟩)) rfl rfl (by kernel_rfl) rfl (fun W ⟨h0, h1, h2, h3, h4, h5⟩ => by go_simp) tH0 ?_
      simp only [FL]
      refine zT 3 (some 20) (.pointer (some ⟨b, off + k * 3, none⟩)) rfl rfl (by kernel_rfl) rfl (fun W ⟨h0, h1, h2, h3, h4, h5⟩ => by go_simp) tH0 ?_
      simp only [FL]
      refine zT 4 (some 21) (.int .u64 (u.fr : Nat)) rfl rfl (by kernel_rfl) rfl (fun W ⟨h0, h1, h2, h3, h4, h5⟩ => by go_simp) tH0 ?_
      simp only [FL]
      refine zT 5 (some 22) (.slice (some ⟨b2, off2, none⟩) n cap2) rfl rfl (by kernel_rfl) rfl (fun W ⟨h0, h1, h2, h3, h4, h5⟩ => by go_simp) tH0 ?_
      simp only [FL]
      refine zT 6 (some 23) (.int .i64 (k : Nat)) rfl rfl (by kernel_rfl) rfl (fun W ⟨h0, h1, h2, h3, h4, h5⟩ => by go_simp) tH0 ?_
      simp only [FL]
      refine zT 7 (some 24) (.pointer (some ⟨b2, off2 + k * 3, none⟩)) rfl rfl (by kernel_rfl) rfl (fun W ⟨h0, h1, h2, h3, h4, h5⟩ => by go_simp) tH0 ?_
      simp only [FL]
      refine zT 8 (some 25) (.pointer (some ⟨b2, off2 + k * 3, none⟩)) rfl rfl (by kernel_rfl) rfl (fun W ⟨h0, h1, h2, h3, h4, h5⟩ => by go_simp) tH0 ?_
      simp only [FL]
      refine zT 9 (some 26) (.int .u64 (v.fr : Nat)) rfl rfl (by kernel_rfl) rfl (fun W ⟨h0, h1, h2, h3, h4, h5⟩ => by go_simp) tH0 ?_
      simp only [FL]
      refine zT 10 (some 27) (.bool false) rfl rfl (by kernel_rfl) rfl (fun W ⟨h0, h1, h2, h3, h4, h5⟩ => by go_simp) tH0 ?_
      simp only [FL]
      refine zT 11 (some 28) (.bool false) rfl rfl (by kernel_rfl) rfl (fun W ⟨h0, h1, h2, h3, h4, h5⟩ => by go_simp) tH0 ?_
      simp only [FL]
      refine zT 12 (some 29) (.slice (some ⟨b, off, none⟩) n cap) rfl rfl (by kernel_rfl) rfl (fun W ⟨h0, h1, h2, h3, h4, h5⟩ => by go_simp) tH0 ?_
      simp only [FL]
      refine zT 13 (some 30) (.int .i64 (k : Nat)) rfl rfl (by kernel_rfl) rfl (fun W ⟨h0, h1, h2, h3, h4, h5⟩ => by go_simp) tH0 ?_
      simp only [FL]
      refine zT 14 (some 31) (.pointer (some ⟨b, off + k * 3, none⟩)) rfl rfl (by kernel_rfl) rfl (fun W ⟨h0, h1, h2, h3, h4, h5⟩ => by go_simp) tH0 ?_
      simp only [FL]
      refine zT 15 (some 32) (.pointer (some ⟨b, off + k * 3 + 1, none⟩)) rfl rfl (by kernel_rfl) rfl (fun W ⟨h0, h1, h2, h3, h4, h5⟩ => by go_simp) tH0 ?_
      simp only [FL]
      refine zT 16 (some 33) (.slice u.b.ao u.b.n u.b.cap) rfl rfl (by kernel_rfl) rfl (fun W ⟨h0, h1, h2, h3, h4, h5⟩ => by go_simp) tH0 ?_
      simp only [FL]
      refine zT 17 (some 34) (.slice (some ⟨b2, off2, none⟩) n cap2) rfl rfl (by kernel_rfl) rfl (fun W ⟨h0, h1, h2, h3, h4, h5⟩ => by go_simp) tH0 ?_
      simp only [FL]
      refine zT 18 (some 35) (.int .i64 (k : Nat)) rfl rfl (by kernel_rfl) rfl (fun W ⟨h0, h1, h2, h3, h4, h5⟩ => by go_simp) tH0 ?_
      simp only [FL]
      refine zT 19 (some 36) (.pointer (some ⟨b2, off2 + k * 3, none⟩)) rfl rfl (by kernel_rfl) rfl (fun W ⟨h0, h1, h2, h3, h4, h5⟩ => by go_simp) tH0 ?_
      simp only [FL]
      refine zT 20 (some 37) (.pointer (some ⟨b2, off2 + k * 3 + 1, none⟩)) rfl rfl (by kernel_rfl) rfl (fun W ⟨h0, h1, h2, h3, h4, h5⟩ => by go_simp) tH0 ?_
      simp only [FL]
      refine zT 21 (some 38) (.slice v.b.ao v.b.n v.b.cap) rfl rfl (by kernel_rfl) rfl (fun W ⟨h0, h1, h2, h3, h4, h5⟩ => by go_simp) tH0 ?_
      simp only [FL]
      refine hr_call_w 22 (some 39) 32 #[.slice u.b.ao u.b.n u.b.cap, .slice v.b.ao v.b.n v.b.cap] rfl rfl (by kernel_rfl) rfl (by go_simp) (fun v w' => v = .bool false ∧ Below tv0.heap.size tv0 w') ((HB.out tv0 tE0).mono (by
       rintro e w' ⟨rfl, C⟩
       exact ⟨_, rfl, rfl, C⟩)) ?_
      rintro v tv1 ⟨rfl, tC0⟩
      have tE1 := tE0.trans (tC0.mono tE0.size)
      have tH1 := tHS.out tv1 tE1
      refine ⟨tH1, ?_⟩
      simp only [FL]
      refine zT 23 (some 40) (.bool true) rfl rfl (by kernel_rfl) rfl (fun W ⟨h0, h1, h2, h3, h4, h5⟩ => by go_simp) tH1 ?_
      simp only [FL]
      refine zT 24 (some 41) (.bool true) rfl rfl (by kernel_rfl) rfl (fun W ⟨h0, h1, h2, h3, h4, h5⟩ => by go_simp) tH1 ?_
      simp only [FL]
      refine zT 25 (some 42) (.bool true) rfl rfl (by kernel_rfl) rfl (fun W ⟨h0, h1, h2, h3, h4, h5⟩ => by go_simp) tH1 ?_
      simp only [FL]
      refine zN 26 (some 43) rfl rfl (by kernel_rfl) rfl tH1 ?_
      simp only [FL]
      refine zN 27 (some 44) rfl rfl (by kernel_rfl) rfl tH1 ?_
      simp only [FL]
      refine zN 28 (some 45) rfl rfl (by kernel_rfl) rfl tH1 ?_
      simp only [FL]
      refine zN 29 (some 46) rfl rfl (by kernel_rfl) rfl tH1 ?_
      simp only [FL]
      refine zN 30 (some 47) rfl rfl (by kernel_rfl) rfl tH1 ?_
      simp only [FL]
      refine zN 31 (some 48) rfl rfl (by kernel_rfl) rfl tH1 ?_
      simp only [FL]
      refine zN 32 (some 49) rfl rfl (by kernel_rfl) rfl tH1 ?_
      simp only [FL]
      refine zN 33 (some 50) rfl rfl (by kernel_rfl) rfl tH1 ?_
      simp only [FL]
      refine zN 34 (some 51) rfl rfl (by kernel_rfl) rfl tH1 ?_
      simp only [FL]
      refine zN 35 (some 52) rfl rfl (by kernel_rfl) rfl tH1 ?_
      simp only [FL]
      refine zN 36 (some 53) rfl rfl (by kernel_rfl) rfl tH1 ?_
      simp only [FL]
      refine zN 37 (some 54) rfl rfl (by kernel_rfl) rfl tH1 ?_
      simp only [FL]
      refine zT 38 (some 55) (.bool true) rfl rfl (by kernel_rfl) rfl (fun W ⟨h0, h1, h2, h3, h4, h5⟩ => by go_simp) tH1 ?_
      simp only [FL]
      refine wpAnyH_done (by kernel_rfl) ?_ _
      refine NoPanic.normal ?_
      have BF := B.trans (tE1.mono B.size)
      have HX := HNE.out HD
      go_wp2
      go_ret
      exact ⟨by rw [HX]; rfl, BF⟩
    ·have i0 : ((u.fr : Int) != (v.fr : Int)) = true := by simp; omega
     have HD : u.v ≠ v.v := fun e => q0 (by have := congrArg SV.fr e; exact this)
     clear CB CT q0 HEQ
     go_wp2_with fail
     have tHS : Hid (∀ V, Below wr.heap.size wr V → V.cell? ⟨b, off + k * 3, none⟩ = some (.int .u64 (u.fr : Nat)) ∧ V.cell? ⟨b, off + k * 3 + 1, none⟩ = some (.slice u.b.ao u.b.n u.b.cap) ∧ V.cell? ⟨b, off + k * 3 + 2, none⟩ = some (.slice u.tag.ao u.tag.n u.tag.cap) ∧ V.cell? ⟨b2, off2 + k * 3, none⟩ = some (.int .u64 (v.fr : Nat)) ∧ V.cell? ⟨b2, off2 + k * 3 + 1, none⟩ = some (.slice v.b.ao v.b.n v.b.cap) ∧ V.cell? ⟨b2, off2 + k * 3 + 2, none⟩ = some (.slice v.tag.ao v.tag.n v.tag.cap)) := fun V hV => ⟨(hV.cell (World.block_lt_of_cell? _ _ x0)).trans x0, (hV.cell (World.block_lt_of_cell? _ _ x1)).trans x1, (hV.cell (World.block_lt_of_cell? _ _ x2)).trans x2, (hV.cell (World.block_lt_of_cell? _ _ y0)).trans y0, (hV.cell (World.block_lt_of_cell? _ _ y1)).trans y1, (hV.cell (World.block_lt_of_cell? _ _ y2)).trans y2⟩
     refine zB (by kernel_rfl) tHS.out fun tv0 tE0 tH0 => ?_
     refine zT 0 (some 17) (.slice (some ⟨b, off, none⟩) n cap) rfl rfl (by kernel_rfl) rfl (fun W ⟨h0, h1, h2, h3, h4, h5⟩ => by go_simp) tH0 ?_
     simp only [FL]
     refine zT 1 (some 18) (.int .i64 (k : Nat)) rfl rfl (by kernel_rfl) rfl (fun W ⟨h0, h1, h2, h3, h4, h5⟩ => by go_simp) tH0 ?_
     simp only [FL]
     refine zT 2 (some 19) (.pointer (some ⟨b, off + k * 3, none⟩)) rfl rfl (by kernel_rfl) rfl (fun W ⟨h0, h1, h2, h3, h4, h5⟩ => by go_simp) tH0 ?_
     simp only [FL]
     refine zT 3 (some 20) (.pointer (some ⟨b, off + k * 3, none⟩)) rfl rfl (by kernel_rfl) rfl (fun W ⟨h0, h1, h2, h3, h4, h5⟩ => by go_simp) tH0 ?_
     simp only [FL]
     refine zT 4 (some 21) (.int .u64 (u.fr : Nat)) rfl rfl (by kernel_rfl) rfl (fun W ⟨h0, h1, h2, h3, h4, h5⟩ => by go_simp) tH0 ?_
     simp only [FL]
     refine zT 5 (some 22) (.slice (some ⟨b2, off2, none⟩) n cap2) rfl rfl (by kernel_rfl) rfl (fun W ⟨h0, h1, h2, h3, h4, h5⟩ => by go_simp) tH0 ?_
     simp only [FL]
     refine zT 6 (some 23) (.int .i64 (k : Nat)) rfl rfl (by kernel_rfl) rfl (fun W ⟨h0, h1, h2, h3, h4, h5⟩ => by go_simp) tH0 ?_
     simp only [FL]
     refine zT 7 (some 24) (.pointer (some ⟨b2, off2 + k * 3, none⟩)) rfl rfl (by kernel_rfl) rfl (fun W ⟨h0, h1, h2, h3, h4, h5⟩ => by go_simp) tH0 ?_
     simp only [FL]
     refine zT 8 (some 25) (.pointer (some ⟨b2, off2 + k * 3, none⟩)) rfl rfl (by kernel_rfl) rfl (fun W ⟨h0, h1, h2, h3, h4, h5⟩ => by go_simp) tH0 ?_
     simp only [FL]
     refine zT 9 (some 26) (.int .u64 (v.fr : Nat)) rfl rfl (by kernel_rfl) rfl (fun W ⟨h0, h1, h2, h3, h4, h5⟩ => by go_simp) tH0 ?_
     simp only [FL]
     refine zT 10 (some 27) (.bool true) rfl rfl (by kernel_rfl) rfl (fun W ⟨h0, h1, h2, h3, h4, h5⟩ => by go_simp) tH0 ?_
     simp only [FL]
     refine zT 11 (some 28) (.bool true) rfl rfl (by kernel_rfl) rfl (fun W ⟨h0, h1, h2, h3, h4, h5⟩ => by go_simp) tH0 ?_
     simp only [FL]
     refine zN 12 (some 29) rfl rfl (by kernel_rfl) rfl tH0 ?_
     simp only [FL]
     refine zN 13 (some 30) rfl rfl (by kernel_rfl) rfl tH0 ?_
     simp only [FL]
     refine zN 14 (some 31) rfl rfl (by kernel_rfl) rfl tH0 ?_
     simp only [FL]
     refine zN 15 (some 32) rfl rfl (by kernel_rfl) rfl tH0 ?_
     simp only [FL]
     refine zN 16 (some 33) rfl rfl (by kernel_rfl) rfl tH0 ?_
     simp only [FL]
     refine zN 17 (some 34) rfl rfl (by kernel_rfl) rfl tH0 ?_
     simp only [FL]
     refine zN 18 (some 35) rfl rfl (by kernel_rfl) rfl tH0 ?_
     simp only [FL]
     refine zN 19 (some 36) rfl rfl (by kernel_rfl) rfl tH0 ?_
     simp only [FL]
     refine zN 20 (some 37) rfl rfl (by kernel_rfl) rfl tH0 ?_
     simp only [FL]
     refine zN 21 (some 38) rfl rfl (by kernel_rfl) rfl tH0 ?_
     simp only [FL]
     refine zN 22 (some 39) rfl rfl (by kernel_rfl) rfl tH0 ?_
     simp only [FL]
     refine zN 23 (some 40) rfl rfl (by kernel_rfl) rfl tH0 ?_
     simp only [FL]
     refine zT 24 (some 41) (.bool true) rfl rfl (by kernel_rfl) rfl (fun W ⟨h0, h1, h2, h3, h4, h5⟩ => by go_simp) tH0 ?_
     simp only [FL]
     refine zT 25 (some 42) (.bool true) rfl rfl (by kernel_rfl) rfl (fun W ⟨h0, h1, h2, h3, h4, h5⟩ => by go_simp) tH0 ?_
     simp only [FL]
     refine zN 26 (some 43) rfl rfl (by kernel_rfl) rfl tH0 ?_
     simp only [FL]
     refine zN 27 (some 44) rfl rfl (by kernel_rfl) rfl tH0 ?_
     simp only [FL]
     refine zN 28 (some 45) rfl rfl (by kernel_rfl) rfl tH0 ?_
     simp only [FL]
     refine zN 29 (some 46) rfl rfl (by kernel_rfl) rfl tH0 ?_
     simp only [FL]
     refine zN 30 (some 47) rfl rfl (by kernel_rfl) rfl tH0 ?_
     simp only [FL]
     refine zN 31 (some 48) rfl rfl (by kernel_rfl) rfl tH0 ?_
     simp only [FL]
     refine zN 32 (some 49) rfl rfl (by kernel_rfl) rfl tH0 ?_
     simp only [FL]
     refine zN 33 (some 50) rfl rfl (by kernel_rfl) rfl tH0 ?_
     simp only [FL]
     refine zN 34 (some 51) rfl rfl (by kernel_rfl) rfl tH0 ?_
     simp only [FL]
     refine zN 35 (some 52) rfl rfl (by kernel_rfl) rfl tH0 ?_
     simp only [FL]
     refine zN 36 (some 53) rfl rfl (by kernel_rfl) rfl tH0 ?_
     simp only [FL]
     refine zN 37 (some 54) rfl rfl (by kernel_rfl) rfl tH0 ?_
     simp only [FL]
     refine zT 38 (some 55) (.bool true) rfl rfl (by kernel_rfl) rfl (fun W ⟨h0, h1, h2, h3, h4, h5⟩ => by go_simp) tH0 ?_
     simp only [FL]
     refine wpAnyH_done (by kernel_rfl) ?_ _
     refine NoPanic.normal ?_
     have BF := B.trans (tE0.mono B.size)
     have HX := HNE.out HD
     go_wp2
     go_ret
     exact ⟨by rw [HX]; rfl, BF⟩
   ·have hge : ¬ (k : Int) < (n : Int) := by omega
    have HX : Hid (sgB (l.map SA.v) (j.map SA.v) = true) := by
     have h := HK.out
     rw [List.take_of_length_le (by rw [List.length_map]; omega), List.take_of_length_le (by rw [List.length_map]; omega)] at h
     exact sgB_true h
    clear HK
    go_wp2
    go_ret
    exact ⟨by rw [HX.out]; rfl, B⟩
 ·have HX : sgB (l.map SA.v) (j.map SA.v) = false := sgB_false fun e => by
   have := congrArg List.length e
   rw [List.length_map, List.length_map] at this
   omega
  rw [HX]
  have hne : ((n : Int) != (m : Int)) = true := by simp; omega
  clear HX hnm
  go_enter Tryz.func34, Tryz.ntmps34
  go_wp2
  go_ret
  exact ⟨rfl, Below.refl _ _⟩
end Go.Proofs.YtnbejckdhdbamaaGreat

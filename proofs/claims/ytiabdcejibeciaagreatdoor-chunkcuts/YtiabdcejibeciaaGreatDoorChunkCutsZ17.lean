/-
  Texts in one: RSmall7, CutsLaw9, TOpen, Laid7, RowIn.
-/
import Derived.Test.YtiabdcejibeciaaGreatDoorChunkCutsZ5
import Derived.Test.YtiabdcejibeciaaGreatDoorChunkCutsZ7
import Derived.Test.YtiabdcejibeciaaGreatDoorChunkCutsZ15
import Derived.Test.YtiabdcejibeciaaGreatDoorChunkCutsZ16
import Derived.Deep.Slices
import Derived.Deep.SlicePairs
import Derived.ChangeSame
import Derived.Test.YtiabdcejibeciaaGreatDoorRows
import Derived.Test.YtiabdcejibeciaaGreatDoorChunkCutsZ0
import Derived.ProofKit
import Derived.LaidMore
import Derived.Lay
import Derived.OpenShut
import Derived.Lib.LaidU8
import Derived.Stop.Joined
namespace Go.Proofs.YtiabdcejibeciaaGreatDoor
open Go.RowKit

/-- Few and short. -/
def ligQ (q : IP) : Bool := decide (q.k.n ≤ 300) && decide (q.v.n ≤ 1100)
def ligB (its : List IP) (m : Int) : Bool := decide ((its.length : Int) ≤ m) && its.all ligQ

set_option maxHeartbeats 1000000 in
set_option maxRecDepth 100000 in
theorem light7_any (w : World) (ao : Option Addr) (n cap : Nat) (its : List IP) (m : Int) (h : IL w ao n cap its) :
    Calls Tryz.prog 5 #[.slice ao n cap, .int .i64 m] w fun e w' => e = .returned (.bool (ligB its m)) ∧ w' = w := by
  have hl1 := Nat.le_of_eq h.len
  have hl2 := Nat.le_of_eq h.len.symm
  have hmx := h.mx
  have hle := h.le
  have hnx : (n : Int) ≤ 9223372036854775807 := by unfold maxLen at hmx; omega
  by_cases hm : (n : Int) > m
  · have HR : Hid (ligB its m = false) := by show _ = _; simp only [ligB, Bool.and_eq_false_imp]; intro e; have := of_decide_eq_true e; omega
    go_enter Tryz.func5, Tryz.ntmps5
    go_wp2
    go_ret
    rw [HR.out]
    exact ⟨rfl, rfl⟩
  go_enter Tryz.func5, Tryz.ntmps5
  go_wp2
  go_loopw [5] (fun i wr => ∃ k : Nat, k ≤ n ∧ i = .int .i64 k ∧ (∀ q ∈ its.take k, ligQ q = true) ∧ w = wr) (fun i _ => n - (intOf i).toNat)
  case atStart => exact ⟨0, Nat.zero_le _, rfl, by simp, rfl⟩
  case round =>
    obtain ⟨k, hk, rfl, hj, rfl⟩ := hrel
    have HJ : Hid (∀ q ∈ its.take k, ligQ q = true) := hj
    clear hj
    by_cases hlt : k < n
    · have hki : (k : Int) < (n : Int) := by omega
      have hkl : k < its.length := by omega
      obtain ⟨b, off, rfl, hc⟩ := h.at (by omega)
      obtain ⟨c1, c2⟩ := hc k hkl
      have HM : Hid (its[k] ∈ its) := List.getElem_mem hkl
      have HT : Hid (its.take (k + 1) = its.take k ++ [its[k]]) := List.take_succ_eq_append_getElem hkl
      obtain ⟨q, hqe⟩ : ∃ q, q = its[k] := ⟨_, rfl⟩
      rw [← hqe] at c1 c2 HM HT
      unfold Part.val at c1 c2
      clear hc hqe
      have bad : ligQ q = false → ligB its m = false := fun e => by
        simp only [ligB, Bool.and_eq_false_imp]
        intro _
        rw [List.all_eq_false]
        exact ⟨q, HM.out, by simp [e]⟩
      have BAD : Hid (ligQ q = false → ligB its m = false) := bad
      clear bad
      by_cases h1 : 300 < q.k.n
      · have h1' : (q.k.n : Int) > 300 := by omega
        have HR : Hid (ligB its m = false) := BAD.out (by simp [ligQ]; omega)
        go_wp2
        go_ret
        rw [HR.out]
        exact ⟨rfl, rfl⟩
      have h1' : ¬ (q.k.n : Int) > 300 := by omega
      by_cases h2 : 1100 < q.v.n
      · have h2' : (q.v.n : Int) > 1100 := by omega
        have HR : Hid (ligB its m = false) := BAD.out (by simp [ligQ]; omega)
        go_wp2
        go_ret
        rw [HR.out]
        exact ⟨rfl, rfl⟩
      have h2' : ¬ (q.v.n : Int) > 1100 := by omega
      go_wp2
      go_roundw
      case rel =>
        refine ⟨k + 1, by omega, by go_num, fun r hr => ?_, by first | rfl | trivial⟩
        rw [HT.out] at hr
        rcases List.mem_append.1 hr with hr | hr
        · exact HJ.out r hr
        · rw [List.mem_singleton.1 hr]
          simp [ligQ]
          omega
      case measure => simp [intOf]; omega
    · have hge : ¬ (k : Int) < (n : Int) := by omega
      have HR : Hid (ligB its m = true) := by
        show _ = _
        simp only [ligB, Bool.and_eq_true]
        refine ⟨decide_eq_true (by omega), List.all_eq_true.2 fun q hq => HJ.out q ?_⟩
        rw [List.take_of_length_le (by omega)]
        exact hq
      go_wp2
      go_ret
      rw [HR.out]
      exact ⟨rfl, rfl⟩

end Go.Proofs.YtiabdcejibeciaaGreatDoor

namespace Go.Proofs.YtiabdcejibeciaaGreatDoor
open Go.RowKit

/-- Items that were put one by one, no key twice. -/
theorem ins_perm {l : List It} {x : It} (h : ∀ y ∈ l, y.k ≠ x.k) : (ins l x).Perm (x :: l) := by
  unfold ins
  refine List.perm_middle.trans ((List.perm_cons x).2 ?_)
  have e : hi x.k l = l.filter fun y => !decide (cmpL y.k x.k < 0) := by
    unfold hi
    refine List.filter_congr fun y hy => ?_
    rcases cmpL_total y.k x.k with h1 | h1 | h1
    · rw [decide_eq_false (cmpL_asym h1), decide_eq_true h1]
      rfl
    · exact absurd h1 (h y hy)
    · rw [decide_eq_true h1, decide_eq_false (cmpL_asym h1)]
      rfl
  rw [e]
  exact List.filter_append_perm _ _
theorem puts_perm (l : List It) (h : (l.map It.k).Nodup) : Srt (l.foldl ins []) ∧ (l.foldl ins []).Perm l := by
  have key : ∀ (l a : List It), Srt a → ((a ++ l).map It.k).Nodup → Srt (l.foldl ins a) ∧ (l.foldl ins a).Perm (a ++ l) := by
    intro l
    induction l with
    | nil =>
      intro a ha _
      exact ⟨ha, by simp⟩
    | cons x l ih =>
      intro a ha hn
      have hx : ∀ y ∈ a, y.k ≠ x.k := fun y hy e => by
        rw [List.map_append, List.map_cons, List.nodup_append] at hn
        exact hn.2.2 y.k (List.mem_map.2 ⟨y, hy, rfl⟩) x.k (List.mem_cons_self ..) e
      have p1 := ins_perm hx
      have p2 : (ins a x ++ l).Perm (a ++ x :: l) := (p1.append_right l).trans List.perm_middle.symm
      obtain ⟨h1, h2⟩ := ih (ins a x) (ha.ofIns x) ((p2.map It.k).nodup_iff.2 hn)
      exact ⟨h1, h2.trans p2⟩
  have := key l [] List.Pairwise.nil (by simpa using h)
  simpa using this

set_option maxHeartbeats 8000000 in
set_option maxRecDepth 100000 in
theorem chunkCuts_any (W : World) (a0 : Option Addr) (n0 c0 : Nat) (its : List IP) (per : Int) (h0 : IL W a0 n0 c0 its) (hT : Tabs W) :
    Calls Tryz.prog 3 #[.slice a0 n0 c0, .int .i64 per] W fun e w' => e = .returned (.bool true) ∧ Below W.heap.size W w' := by
  have t2 := hT.two
  have CL := light7_any W a0 n0 c0 its 25 h0
  have AL := alive9 W hT
  obtain ⟨lb, hlb⟩ : ∃ b, b = ligB its 25 := ⟨_, rfl⟩
  have HLB : Hid (lb = ligB its 25) := hlb
  rw [← hlb] at CL
  clear hlb
  go_enter Tryz.func3, Tryz.ntmps3
  go_wp2_with fail
  refine CL.mono ?_
  rintro e w' ⟨rfl, hw⟩
  obtain rfl := hw.symm
  clear CL
  cases lb with
  | false =>
    go_wp2_with fail
    refine AL.mono ?_
    rintro e w2 ⟨rfl, B⟩
    go_wp2
    go_ret
    exact ⟨rfl, B⟩
  | true =>
    clear AL
    have hlig : its.length ≤ 25 ∧ ∀ q ∈ its, q.k.n ≤ 300 ∧ q.v.n ≤ 1100 := by
      have h := HLB.out.symm
      unfold ligB ligQ at h
      simp only [Bool.and_eq_true, decide_eq_true_eq, List.all_eq_true] at h
      exact ⟨by omega, h.2⟩
    have hlen := h0.len
    have hn0 : n0 ≤ 25 := by have := hlig.1; omega
    have HLG : Hid (∀ q ∈ its, q.k.n ≤ 300 ∧ q.v.n ≤ 1100) := hlig.2
    have HLN : Hid (its.length = n0) := hlen
    have HT : Hid (Tabs W) := hT
    clear hlig hlen
    have CM := tmake_any W a0 n0 c0 its hT h0 (by omega) (fun q hq => by have := HLG.out q hq; omega)
    clear hT
    go_wp2_with fail
    refine CM.mono ?_
    rintro e w1 ⟨u, kd, rfl, B1, hp⟩
    clear CM
    rcases hp with ⟨rfl, hj0, l, hperm, hsrt, TT1⟩ | ⟨hkd, -, -⟩
    · have HS : Hid (Srt l) := hsrt
      have HPM : Hid (l.Perm (its.map IP.it)) := hperm
      have HJ0 : Hid (jL its 0 = 0) := hj0
      have hll : l.length ≤ 25 := by have := hperm.length_eq; rw [List.length_map] at this; have := HLN.out; omega
      clear hsrt hperm hj0
      go_wp2_with fail
      obtain ⟨wo, rfl⟩ : ∃ W, W = w1 := ⟨w1, rfl⟩
      go_loopw [7, 8] (fun mv i wr => ∃ (k mn : Nat) (mo : Option Addr) (mc : Nat) (ms : List IP), k ≤ n0 ∧ i = .int .i64 k ∧ mv = .slice mo mn mc ∧ IL wr mo mn mc ms ∧ Hid (ms.map IP.it = ((its.map IP.it).take k).foldl ins []) ∧ mn ≤ k ∧ Below wo.heap.size wo wr) (fun _ i _ => n0 - (intOf i).toNat)
      case atStart => exact ⟨0, 0, none, 0, [], Nat.zero_le _, rfl, rfl, IL.nothing _, rfl, Nat.le_refl _, Below.refl _ _⟩
      case round =>
        obtain ⟨k, mn, mo, mc, ms, hkn, rfl, rfl, IM, HMS, hmn, hBo⟩ := hrel
        have hB := B1.trans (hBo.mono B1.size)
        by_cases hlt : k < n0
        · have hki : (k : Int) < (n0 : Int) := by omega
          have hkl : k < its.length := by have := HLN.out; omega
          have ILq := h0.below hB
          obtain ⟨b, off, rfl, hc⟩ := ILq.at (by omega)
          obtain ⟨c1, c2⟩ := hc k hkl
          have SQ := ILq.sl its[k] (List.getElem_mem hkl)
          have HT2 : Hid ((its.map IP.it).take (k + 1) = (its.map IP.it).take k ++ [its[k].it]) := by show _ = _; rw [List.take_succ_eq_append_getElem (by simpa using hkl), List.getElem_map]
          obtain ⟨q, hqe⟩ : ∃ q, q = its[k] := ⟨_, rfl⟩
          rw [← hqe] at c1 c2 SQ HT2
          unfold Part.val at c1 c2
          have hsm : Srt (ms.map IP.it) := by
            rw [HMS.out]
            have key : ∀ (r a : List It), Srt a → Srt (r.foldl ins a) := by
              intro r
              induction r with
              | nil => intro a ha; exact ha
              | cons x r ih => intro a ha; exact ih _ (ha.ofIns x)
            exact key _ _ List.Pairwise.nil
          have CP : ∀ V, Below wr.heap.size wr V → Calls Tryz.prog 8 #[.slice mo mn mc, .slice q.k.ao q.k.n q.k.cap, .slice q.v.ao q.v.n q.v.cap] V fun e w' => ∃ ro rn rc rs, e = .returned (.slice ro rn rc) ∧ (IL w' ro rn rc rs ∧ rs.map IP.it = ins (ms.map IP.it) q.it) ∧ Below V.heap.size V w' := fun V hV => (rput7_any V mo q.k.ao q.v.ao mn mc q.k.n q.k.cap q.v.n q.v.cap ms q.k.xs q.v.xs (IM.below hV) hsm (SQ.1.below hV) (SQ.2.below hV) (by omega)).mono fun e w' ⟨ro, rn, rc, rs, h1, h2, h3, h4⟩ => ⟨ro, rn, rc, rs, h1, ⟨h2, h3⟩, h4⟩
          clear hc hqe ILq hsm SQ
          go_wp2_with fail
          have HS : Hid (∀ V, Below wr.heap.size wr V → V.cell? ⟨b, off + k * 2, none⟩ = some (.slice q.k.ao q.k.n q.k.cap) ∧ V.cell? ⟨b, off + k * 2 + 1, none⟩ = some (.slice q.v.ao q.v.n q.v.cap)) := fun V hV => ⟨(hV.cell (World.block_lt_of_cell? _ _ c1)).trans c1, (hV.cell (World.block_lt_of_cell? _ _ c2)).trans c2⟩
          have E0 : Below wr.heap.size wr wr.drew := (Below.refl _ _).drew
          refine wp_region_noPanic ?_
          refine wp_region_held_drew (S := fun V => V.cell? ⟨b, off + k * 2, none⟩ = some (.slice q.k.ao q.k.n q.k.cap) ∧ V.cell? ⟨b, off + k * 2 + 1, none⟩ = some (.slice q.v.ao q.v.n q.v.cap)) (by kernel_rfl) (HS.out _ E0) (fun H0 => ?_)
          obtain ⟨v0, hv0⟩ : ∃ v, v = wr.drew := ⟨_, rfl⟩
          rw [← hv0] at H0 E0 ⊢
          clear hv0
          refine hr_take_w 0 (some 31) (.slice mo mn mc) rfl rfl (by kernel_rfl) (by kernel_rfl) (by kernel_rfl) rfl (fun W hW => by obtain ⟨h0, h1⟩ := hW; go_simp) H0 ?_
          simp only [Act.put, List.setIfInBounds_toArray, List.set_cons_zero, List.set_cons_succ]
          refine hr_take_w 1 (some 32) (.slice (some ⟨b, off, none⟩) n0 c0) rfl rfl (by kernel_rfl) (by kernel_rfl) (by kernel_rfl) rfl (fun W hW => by obtain ⟨h0, h1⟩ := hW; go_simp) H0 ?_
          simp only [Act.put, List.setIfInBounds_toArray, List.set_cons_zero, List.set_cons_succ]
          refine hr_take_w 2 (some 33) (.int .i64 k) rfl rfl (by kernel_rfl) (by kernel_rfl) (by kernel_rfl) rfl (fun W hW => by obtain ⟨h0, h1⟩ := hW; go_simp) H0 ?_
          simp only [Act.put, List.setIfInBounds_toArray, List.set_cons_zero, List.set_cons_succ]
          refine hr_take_w 3 (some 34) (.pointer (some ⟨b, off + k * 2, none⟩)) rfl rfl (by kernel_rfl) (by kernel_rfl) (by kernel_rfl) rfl (fun W hW => by obtain ⟨h0, h1⟩ := hW; go_simp) H0 ?_
          simp only [Act.put, List.setIfInBounds_toArray, List.set_cons_zero, List.set_cons_succ]
          refine hr_take_w 4 (some 35) (.pointer (some ⟨b, off + k * 2, none⟩)) rfl rfl (by kernel_rfl) (by kernel_rfl) (by kernel_rfl) rfl (fun W hW => by obtain ⟨h0, h1⟩ := hW; go_simp) H0 ?_
          simp only [Act.put, List.setIfInBounds_toArray, List.set_cons_zero, List.set_cons_succ]
          refine hr_take_w 5 (some 36) (.slice q.k.ao q.k.n q.k.cap) rfl rfl (by kernel_rfl) (by kernel_rfl) (by kernel_rfl) rfl (fun W hW => by obtain ⟨h0, h1⟩ := hW; go_simp) H0 ?_
          simp only [Act.put, List.setIfInBounds_toArray, List.set_cons_zero, List.set_cons_succ]
          refine hr_take_w 6 (some 37) (.slice (some ⟨b, off, none⟩) n0 c0) rfl rfl (by kernel_rfl) (by kernel_rfl) (by kernel_rfl) rfl (fun W hW => by obtain ⟨h0, h1⟩ := hW; go_simp) H0 ?_
          simp only [Act.put, List.setIfInBounds_toArray, List.set_cons_zero, List.set_cons_succ]
          refine hr_take_w 7 (some 38) (.int .i64 k) rfl rfl (by kernel_rfl) (by kernel_rfl) (by kernel_rfl) rfl (fun W hW => by obtain ⟨h0, h1⟩ := hW; go_simp) H0 ?_
          simp only [Act.put, List.setIfInBounds_toArray, List.set_cons_zero, List.set_cons_succ]
          refine hr_take_w 8 (some 39) (.pointer (some ⟨b, off + k * 2, none⟩)) rfl rfl (by kernel_rfl) (by kernel_rfl) (by kernel_rfl) rfl (fun W hW => by obtain ⟨h0, h1⟩ := hW; go_simp) H0 ?_
          simp only [Act.put, List.setIfInBounds_toArray, List.set_cons_zero, List.set_cons_succ]
          refine hr_take_w 9 (some 40) (.pointer (some ⟨b, off + k * 2 + 1, none⟩)) rfl rfl (by kernel_rfl) (by kernel_rfl) (by kernel_rfl) rfl (fun W hW => by obtain ⟨h0, h1⟩ := hW; go_simp) H0 ?_
          simp only [Act.put, List.setIfInBounds_toArray, List.set_cons_zero, List.set_cons_succ]
          refine hr_take_w 10 (some 41) (.slice q.v.ao q.v.n q.v.cap) rfl rfl (by kernel_rfl) (by kernel_rfl) (by kernel_rfl) rfl (fun W hW => by obtain ⟨h0, h1⟩ := hW; go_simp) H0 ?_
          simp only [Act.put, List.setIfInBounds_toArray, List.set_cons_zero, List.set_cons_succ]
          refine hr_call_w 11 (some 42) 8 #[.slice mo mn mc, .slice q.k.ao q.k.n q.k.cap, .slice q.v.ao q.v.n q.v.cap] rfl rfl (by kernel_rfl) rfl (by go_simp) (fun v w' => ∃ ro rn rc rs, v = .slice ro rn rc ∧ (IL w' ro rn rc rs ∧ rs.map IP.it = ins (ms.map IP.it) q.it) ∧ Below v0.heap.size v0 w') ((CP v0 E0).mono (by
            rintro e w' ⟨ro, rn, rc, rs, rfl, F, C⟩
            exact ⟨_, rfl, ro, rn, rc, rs, rfl, F, C⟩)) ?_
          rintro v v1 ⟨ro, rn, rc, rs, rfl, F0, C0⟩
          have E1 := E0.trans (C0.mono E0.size)
          have H1 := HS.out v1 E1
          refine ⟨H1, ?_⟩
          simp only [Act.put, List.setIfInBounds_toArray, List.set_cons_zero, List.set_cons_succ]
          refine hr_take_w 12 (some 7) (.slice ro rn rc) rfl rfl (by kernel_rfl) (by kernel_rfl) (by kernel_rfl) rfl (fun W hW => by obtain ⟨h0, h1⟩ := hW; go_simp) H1 ?_
          simp only [Act.put, List.setIfInBounds_toArray, List.set_cons_zero, List.set_cons_succ]
          refine wpAnyH_done (by kernel_rfl) ?_ _
          refine NoPanic.normal ?_
          have HN : Hid (rs.map IP.it = ((its.map IP.it).take (k + 1)).foldl ins []) := by
            show _ = _
            rw [HT2.out, List.foldl_append, F0.2, HMS.out]
            rfl
          have hrn : rn ≤ k + 1 := by
            have h1 := F0.1.len
            have h2 := congrArg List.length F0.2
            rw [List.length_map] at h2
            have h3 : (ins (ms.map IP.it) q.it).length ≤ (ms.map IP.it).length + 1 := by
              unfold ins
              rw [List.length_append, List.length_cons]
              have := lo_hi_len (ms.map IP.it) q.it.k
              omega
            have h4 := IM.len
            rw [List.length_map] at h3
            omega
          have IN := F0.1
          have hEo := hBo.trans (E1.mono hBo.size)
          clear c1 c2 CP
          go_wp2
          go_roundw
          case rel => exact ⟨k + 1, rn, ro, rc, rs, by omega, by go_num, rfl, IN, HN.out, hrn, hEo⟩
          case measure => simp [intOf]; omega
        · have hge : ¬ (k : Int) < (n0 : Int) := by omega
          have hnd : ((its.map IP.it).map It.k).Nodup := by
            rw [← (HPM.out.map It.k).nodup_iff]
            exact HS.out.nodup
          have HML : Hid (ms.map IP.it = l) := by
            show _ = _
            have h1 := HMS.out
            rw [List.take_of_length_le (by rw [List.length_map]; have := HLN.out; omega)] at h1
            obtain ⟨h2, h3⟩ := puts_perm _ hnd
            rw [h1]
            exact h2.perm HS.out (h3.trans HPM.out.symm)
          have hsz : ∀ q ∈ its, 1 ≤ q.k.n ∧ q.k.n ≤ 256 ∧ q.v.n ≤ 1024 := jL_sz its HJ0.out
          have hlz : ∀ x ∈ l, (Byt x.k ∧ x.k.length ≤ 256) ∧ Byt x.v ∧ x.v.length ≤ 1000000 := fun x hx => by
            obtain ⟨q, hq, rfl⟩ := List.mem_map.1 (HPM.out.mem_iff.1 hx)
            have h3 := hsz q hq
            have h4 := h0.sl q hq
            have h5 := h4.1.len
            have h6 := h4.2.len
            exact ⟨⟨h4.1.byte, by show q.k.xs.length ≤ _; omega⟩, h4.2.byte, by show q.v.xs.length ≤ _; omega⟩
          have CC := cut_any wr (.pointer u) l per (TT1.below hBo) HS.out (by omega) hlz
          have CR : ∀ V, Below wr.heap.size wr V → Calls Tryz.prog 10 #[.slice mo mn mc, .int .i64 per] V (CutPost V l per) := fun V hV => by
            rw [← HML.out]
            exact rcut_any V mo mn mc ms per (IM.below hV) (by omega) (fun q hq => by
              have h3 := hlz q.it (by rw [← HML.out]; exact List.mem_map.2 ⟨q, hq, rfl⟩)
              have h5 := (IM.sl q hq).1.len
              have h6 := (IM.sl q hq).2.len
              have h7 : q.k.xs.length ≤ 256 := h3.1.2
              have h8 : q.v.xs.length ≤ 1000000 := h3.2.2
              omega)
          clear hnd hsz hlz HMS
          go_wp2_with fail
          refine CC.mono ?_
          rintro e w2 P2
          by_cases hper : per < 1 ∨ 64 < per
          · obtain rfl := P2.bad hper
            have C2 := P2.bel
            have B2 := hB.trans (C2.mono hB.size)
            clear P2 CC
            go_wp2_with fail
            refine (CR w2 C2).mono ?_
            rintro e w3 P3
            obtain rfl := P3.bad hper
            have C3 := P3.bel
            have B3 := B2.trans (C3.mono B2.size)
            have CS := lsame9_any w3 none none 0 0 0 0 [] [] ⟨VL.nothing w3, fun _ h => by simp at h⟩ ⟨VL.nothing w3, fun _ h => by simp at h⟩ (by omega)
            rw [show decide (List.map Part.xs [] = List.map Part.xs []) = true from rfl] at CS
            clear P3 CR
            go_wp2_with fail
            refine CS.mono ?_
            rintro e w4 ⟨rfl, C4⟩
            have B4 := B3.trans (C4.mono B3.size)
            have AL := alive9 w4 (HT.out.below B4 t2)
            clear CS
            go_wp2_with fail
            refine AL.mono ?_
            rintro e w5 ⟨rfl, C5⟩
            have B5 := B4.trans (C5.mono B4.size)
            go_wp2
            go_ret
            exact ⟨rfl, B5⟩
          · have hp1 : 1 ≤ per := by omega
            have hp2 : per ≤ 64 := by omega
            obtain ⟨ao, an, ac, aq, rfl, KA, ha⟩ := P2.good hp1 hp2
            have C2 := P2.bel
            have B2 := hB.trans (C2.mono hB.size)
            have HA : Hid (aq.map Part.xs = (cuts per.toNat l).map putCk) := ha
            have hal : an ≤ 1000000 := by
              have h1 := KA.len
              have h2 := congrArg List.length ha
              rw [List.length_map, List.length_map] at h2
              have h3 := cuts_len (per := per.toNat) (by omega) l.length l (Nat.le_refl _)
              have h4 : (cuts per.toNat l).length ≤ l.length := h3
              omega
            clear P2 CC ha hper
            go_wp2_with fail
            refine (CR w2 C2).mono ?_
            rintro e w3 P3
            obtain ⟨bo, bn, bc, bs, rfl, KB, hb⟩ := P3.good hp1 hp2
            have C3 := P3.bel
            have B3 := B2.trans (C3.mono B2.size)
            have CS := lsame9_any w3 ao bo an ac bn bc aq bs (KA.below C3) KB hal
            rw [decide_eq_true (HA.out.trans hb.symm)] at CS
            clear P3 CR hb KA KB
            go_wp2_with fail
            refine CS.mono ?_
            rintro e w4 ⟨rfl, C4⟩
            have B4 := B3.trans (C4.mono B3.size)
            have AL := alive9 w4 (HT.out.below B4 t2)
            clear CS
            go_wp2_with fail
            refine AL.mono ?_
            rintro e w5 ⟨rfl, C5⟩
            have B5 := B4.trans (C5.mono B4.size)
            go_wp2
            go_ret
            exact ⟨rfl, B5⟩
    · have hkb : (kd != 0) = true := by simp [hkd]
      have AL := alive9 w1 (HT.out.below B1 t2)
      clear hkd
      go_wp2_with fail
      refine AL.mono ?_
      rintro e w2 ⟨rfl, B⟩
      have B2 := B1.trans (B.mono B1.size)
      go_wp2
      go_ret
      exact ⟨rfl, B2⟩
end Go.Proofs.YtiabdcejibeciaaGreatDoor

namespace Go.Deep
open Go.ChangeShapes Go.WideShapes
variable {H : Type} {enc : TypeId × Value → H} {P : Program} {w : World} {base : Nat} {spare : Nat → Bool} {held : Bool}

/-- A slice of structs, each field one cell, opened at every index. -/
theorem open_slice_struct {t e : TypeId} {fs : Array Field} {fuel : Nat} {cs : List Value} {x : DataW H × List MemPlace} (ht : P.underlying t = some (.slice e)) (he : P.underlying e = some (.struct fs))
    (ce : P.cellsOf e = fs.size) (off : ∀ (j : Nat) (f : Field), fs[j]? = some f → f.offset = j ∧ P.cellsOf f.type = 1)
    (h : DataW.trod enc P w base spare held fuel t cs = some x) :
    cs = [.slice none 0 0] ∨
    ∃ (a : Addr) (len cap m n : Nat), cs = [.slice (some a) len cap] ∧ len ≤ cap ∧ cap ≤ maxLen ∧ len ≤ m ∧
      ∀ i, i < m → ∀ (j : Nat) (f : Field), fs[j]? = some f → ∃ v y, w.cell? (a.add (i * fs.size + j)) = some v ∧ DataW.trod enc P w base spare held n f.type [v] = some y := by
  rcases open_slice ht h with h0 | ⟨a, len, cap, m, n, D, Pl, rfl, hb, hl, hm, hmm, rfl, hx⟩
  · exact Or.inl h0.1
  right
  have hlm : len ≤ m := by rw [hmm]; split <;> omega
  refine ⟨a, len, cap, m, n - 1, rfl, hl, hm, hlm, fun i hi j f hf => ?_⟩
  obtain ⟨cs', h1, h2⟩ := hx i hi
  rw [ce] at h1
  obtain ⟨_, hlen, hcell⟩ := World.cells?_some h1
  obtain ⟨xs, k, hk, hxy, _, hxl, hfs⟩ := DataW.trod_struct he h2
  have hk' : k = n - 1 := by omega
  subst hk'
  have hj : j < fs.size := (Array.getElem?_eq_some_iff.1 hf).1
  obtain ⟨o, c⟩ := off j f hf
  have g := hfs j f hf
  have e0 := hcell j (by omega)
  rw [add_add] at e0
  have hjc : j < cs'.length := by omega
  have hjx : j < xs.length := by omega
  rw [o, c, List.take_one, List.head?_drop, List.getElem?_eq_getElem hjc, List.getElem?_eq_getElem hjx] at g
  rw [List.getElem?_eq_getElem hjc] at e0
  exact ⟨cs'[j], xs[j], e0, g⟩

end Go.Deep

namespace Go.Proofs.YtiabdcejibeciaaGreatDoor
open Go.RowKit
theorem IL.make {w : World} {a : Addr} {n cap : Nat} (hl : n ≤ cap) (hm : cap ≤ maxLen) (h : ∀ i, i < n → ∃ q : IP, (w.cell? (a.add (i * 2)) = some q.k.val ∧ w.cell? (a.add (i * 2 + 1)) = some q.v.val) ∧ q.ok w) : ∃ its, IL w (some a) n cap its := by
  have : Inhabited IP := ⟨⟨⟨none, 0, 0, []⟩, ⟨none, 0, 0, []⟩⟩⟩
  obtain ⟨z, hz⟩ := Deep.choose_lt h
  refine ⟨(List.range n).map z, by simp, hl, hm, fun h => by simp at h, fun b hb i hi => ?_, fun q hq => ?_⟩
  · obtain rfl := Option.some.inj hb
    have hi' : i < n := by simpa using hi
    simpa using (hz i hi').1
  · obtain ⟨i, hi, rfl⟩ := List.mem_map.1 hq
    exact (hz i (List.mem_range.1 hi)).2
end Go.Proofs.YtiabdcejibeciaaGreatDoor

namespace Go.Proofs.YtiabdcejibeciaaGreatDoor
open Go.RowKit

abbrev laidL : List (String × DataW Unit) := [("unicode/utf8.acceptRanges", Rows.laid_unicode_utf8_acceptRanges), ("bulwark/digest.firstWords", Rows.laid_bulwark_digest_firstWords), ("bulwark/digest.roundWords", Rows.laid_bulwark_digest_roundWords), ("unicode/utf8.first", Rows.laid_unicode_utf8_first)]

theorem gFirst : Tryz.prog.globalNamed "bulwark/digest.firstWords" = some 2 := by kernel_rfl
theorem gRound : Tryz.prog.globalNamed "bulwark/digest.roundWords" = some 1 := by kernel_rfl
theorem tFirst : (Tryz.prog.globals[2]?).map (·.type) = some 132 := by kernel_rfl
theorem tRound : (Tryz.prog.globals[1]?).map (·.type) = some 149 := by kernel_rfl
theorem laidL_plain : (laidL.all fun x => x.2.handleName?.isNone) = true := by kernel_rfl

/-- A world in which the four read so. -/
theorem all_met (os : Os) (args : Array Value) : laidMetH Tryz.prog laidL ((World.laidAll Tryz.prog os laidL).forCall (fun _ _ => 0) ⟨#[], args, []⟩).memory := by
  rw [MakeChecks.laidMetH_plain _ _ _ laidL_plain]
  exact laidMet_laidAll _ (by kernel_rfl) (by kernel_rfl)

/-- An array of words that reads as some numbers has them in its cells. -/
theorem words_of {H : Type} {enc : TypeId × Value → H} {w : World} {base : Nat} {sp : Nat → Bool} {held : Bool} {fuel n : Nat} {t : TypeId} {cs : List Value} {zs : List Int} {p : List MemPlace}
    (ht : Tryz.prog.underlying t = some (.array n 124)) (h : DataW.trod enc Tryz.prog w base sp held fuel t cs = some (.agg (zs.map fun z => .lit (.int .u32 z)), p)) (hz : zs.length = n) :
    ∀ (j : Nat) (v : Value), (wv zs)[j]? = some v → cs[j]? = some v := by
  intro j v hv
  have hj : j < zs.length := by have := (List.getElem?_eq_some_iff.1 hv).1; rwa [wv_length] at this
  rw [wv_get zs j hj] at hv
  obtain rfl := Option.some.inj hv
  obtain ⟨f', d, q, hd, he⟩ := Lib.array_elem ht h j (by omega)
  have c1 : Tryz.prog.cellsOf 124 = 1 := by kernel_rfl
  rw [c1, Nat.mul_one] at he
  obtain ⟨k, e1, e2, _⟩ := DataW.trod_int Tryz.underlying124 he
  simp only [Prod.mk.injEq] at e2
  rw [e2.1] at hd
  simp only [List.getElem?_map, List.getElem?_eq_getElem hj, Option.map_some, Option.some.injEq, DataW.lit.injEq, Lit.int.injEq, true_and] at hd
  have : (cs.drop j)[0]? = some (.int .u32 k) := by
    have := congrArg (fun l : List Value => l[0]?) e1
    simpa [List.getElem?_take] using this
  rw [List.getElem?_drop, Nat.add_zero] at this
  rw [this, ← hd]
  simp [List.getD, hj]

/-- WHAT THE CONDITION GIVES THE WALKS. -/
theorem tabs_of {W : World} (h : laidMetH Tryz.prog laidL W) : Tabs W := by
  rw [MakeChecks.laidMetH_plain _ _ _ laidL_plain] at h
  obtain ⟨ps, ⟨gx, tx, csx, fx, px, qx, _, _, _, _, ⟨g0, t0, cs0, f0, p0, q0, hg0, ht0, hv0, hd0, ⟨g1, t1, cs1, f1, p1, q1, hg1, ht1, hv1, hd1, _, _⟩, _⟩, _⟩, _, _⟩ := h
  obtain rfl := Option.some.inj (gFirst.symm.trans hg0)
  obtain rfl := Option.some.inj (gRound.symm.trans hg1)
  obtain rfl := Option.some.inj (tFirst.symm.trans ht0)
  obtain rfl := Option.some.inj (tRound.symm.trans ht1)
  have hA := words_of (zs := H0) Tryz.underlying132 hd0 rfl
  have hB := words_of (zs := K0) Tryz.underlying149 hd1 rfl
  have cA : ∀ j v, (wv H0)[j]? = some v → W.cell? ⟨2, j, none⟩ = some v := fun j v hv => by
    rw [World.var?_cell hg0 hv0 j]
    simpa using hA j v hv
  refine ⟨cA, fun j v hv => ?_, ?_⟩
  · rw [World.var?_cell hg1 hv1 j]
    simpa using hB j v hv
  · have := block_lt_of_cell (cA 0 _ rfl)
    exact this

end Go.Proofs.YtiabdcejibeciaaGreatDoor

namespace Go.Proofs.YtiabdcejibeciaaGreatDoor
open Go.RowKit

/-- A slice of bytes that came in, as the frame of a proof tells it. -/
theorem Sl.row {w : World} {a : Option Addr} {n cap : Nat} {zs : List Int} (h : (a = none ∧ n = 0 ∧ cap = 0 ∧ zs = []) ∨
    ∃ x, a = some x ∧ n ≤ cap ∧ cap ≤ maxLen ∧ zs.length = cap ∧ (∀ i, i < zs.length → w.cell? (x.add i) = some (.int .u8 (zs.getD i 0))) ∧ ∀ z ∈ zs, (Lit.int .u8 z).wf = true) : Sl w a n cap (zs.take n) := by
  rcases h with ⟨rfl, rfl, rfl, rfl⟩ | ⟨x, rfl, hl, hm, hz, hc, hw⟩
  · exact Sl.nothing w
  · refine ⟨by simp; omega, hl, hm, fun h => by simp at h, fun b hb i hi => ?_, fun z hz => ?_⟩
    · obtain rfl := Option.some.inj hb
      rw [hc i (by omega)]
      simp [List.getD, hi]
    · have := hw z (List.mem_of_mem_take hz)
      simp [Lit.wf, IntKind.min, IntKind.max, IntKind.signed, IntKind.bits] at this
      omega
end Go.Proofs.YtiabdcejibeciaaGreatDoor

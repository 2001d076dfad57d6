/-
  Texts in one: ChOwn.
-/
import Derived.Test.YtdcebokfnbgkaaaDoorChoosePicksQFL
import Derived.Test.YtdcebokfnbgkaaaDoorChoosePicksQ0
import Derived.Test.YtdcebokfnbgkaaaDoorChoosePicksQ2
import Derived.Test.YtdcebokfnbgkaaaDoorChoosePicksQ6
namespace Go.Proofs.YtdcebokfnbgkaaaDoor
open Go.RowKit
def OutR (w : World) (l : List CA) (v i : Value) (wr : World) : Prop := ∃ (k : Nat) (ys : List CA), k ≤ l.length ∧ i = .int .i64 (k : Nat) ∧ GI elC 49 wr w.heap.size v ys ∧ ys.map CA.cv = (l.take k).map CA.cv ∧ Below w.heap.size w wr
theorem OutR.mk {w wr : World} {l : List CA} {v i : Value} (k : Nat) (ys : List CA) (h1 : k ≤ l.length) (h2 : i = .int .i64 (k : Nat)) (h3 : GI elC 49 wr w.heap.size v ys) (h4 : ys.map CA.cv = (l.take k).map CA.cv) (h5 : Below w.heap.size w wr) : OutR w l v i wr := ⟨k, ys, h1, h2, h3, h4, h5⟩
def InR (w wA : World) (g cf cl : Nat) (cz : Bs) (sl : List PA) (i : Value) (wq : World) : Prop := ∃ (x : Nat) (v : Value), x ≤ sl.length ∧ i = .int .i64 (x : Nat) ∧ GNew elP 46 w wq (g + 1) v (sl.take x) ∧ Arr wq g 49 [.int .u64 (cf : Nat), .int .u64 (cl : Nat), .slice cz.ao cz.n cz.cap, v] ∧ Below wA.heap.size wA wq ∧ g + 1 ≤ wq.heap.size
theorem InR.mk {w wA wq : World} {g cf cl : Nat} {cz : Bs} {sl : List PA} {i : Value} (x : Nat) (v : Value) (h1 : x ≤ sl.length) (h2 : i = .int .i64 (x : Nat)) (h3 : GNew elP 46 w wq (g + 1) v (sl.take x)) (h4 : Arr wq g 49 [.int .u64 (cf : Nat), .int .u64 (cl : Nat), .slice cz.ao cz.n cz.cap, v]) (h5 : Below wA.heap.size wA wq) : InR w wA g cf cl cz sl i wq := ⟨x, v, h1, h2, h3, h4, h5, h4.lt⟩
def OwnPost16 (w : World) (l : List CA) (e : Ending) (w' : World) : Prop := ∃ ao cap ys, e = .returned (.slice ao l.length cap) ∧ GL elC w' ao l.length cap ys ∧ ys.map CA.cv = l.map CA.cv ∧ Below w.heap.size w w'
set_option maxRecDepth 100000 in
set_option maxHeartbeats 16000000 in
theorem own16 (w : World) (ao : Option Addr) (n cap : Nat) (l : List CA) (h : GL elC w ao n cap l) (hn : n ≤ 1000) (hs : ∀ c ∈ l, c.s.l.length ≤ 1000) :
    Calls Tryd.prog 9 #[.slice ao n cap] w (OwnPost16 w l) := by
  have hl := h.len
  have O0 : OutR w l (.slice none 0 0) (.int .i64 0) w := OutR.mk 0 [] (Nat.zero_le _) rfl (GI.nil _ _ _ _) rfl (Below.refl _ _)
  go_enter Tryd.func9, Tryd.ntmps9
  go_wp2_with fail
  go_loopw [3, 4] (fun v i wr => OutR w l v i wr) (fun _ i _ => n - (intOf i).toNat)
  case atStart => exact O0
  case round =>
    clear O0
    obtain ⟨wA, hwA⟩ : ∃ v, v = wr := ⟨_, rfl⟩
    subst hwA
    obtain ⟨k, ys, hk, rfl, GO, hys, BA⟩ := hrel
    have HYS : Hid (ys.map CA.cv = (l.take k).map CA.cv) := hys
    have hyl : ys.length = k := by
      have := congrArg List.length hys
      simp only [List.length_map, List.length_take] at this
      omega
    clear hys
    by_cases hlt : k < n
    · have hki : (k : Int) < (n : Int) := by omega
      obtain ⟨b, off, rfl, hX⟩ := h.atC (by omega)
      have hkx : k < l.length := by omega
      have HX := (hX k hkx).below BA
      have hok := h.ok _ (List.getElem_mem hkx)
      have hcs := hs _ (List.getElem_mem hkx)
      obtain ⟨⟨cf, cl, cz, ⟨sao, sn, scap, sl⟩⟩, ho⟩ : ∃ o, o = l[k] := ⟨_, rfl⟩
      rw [← ho] at HX hok hcs
      have HO : Hid (l[k] = ⟨cf, cl, cz, ⟨sao, sn, scap, sl⟩⟩) := ho.symm
      have hsl : sl.length = sn := hok.s.len
      have hcs : sl.length ≤ 1000 := hcs
      have HOK : Hid ((⟨cf, cl, cz, ⟨sao, sn, scap, sl⟩⟩ : CA).ok w) := hok
      obtain ⟨r0, r1, r2, -⟩ := HX.below (V' := wA.alloc (.cells #[.int .u64 0, .int .u64 0, .slice none 0 0, .slice none 0 0] 49)) ((Below.refl _ _).alloc (Nat.le_refl _) _)
      obtain ⟨q0, q1, q2, q3⟩ := HX
      have HQ3 : Hid (wA.cell? ⟨b, off + k * 4 + 3, none⟩ = some (.slice sao sn scap)) := q3
      clear hX ho hok
      go_wp2_with fail
      go_region
      obtain ⟨W1, hW1⟩ : ∃ W, W = (wA.alloc (.cells #[.int .u64 (cf : Nat), .int .u64 (cl : Nat), .slice cz.ao cz.n cz.cap, .slice none 0 0] 49)).drew := ⟨_, rfl⟩
      have BD : Below (wA.alloc (.cells #[.int .u64 (cf : Nat), .int .u64 (cl : Nat), .slice cz.ao cz.n cz.cap, .slice none 0 0] 49)).heap.size (wA.alloc (.cells #[.int .u64 (cf : Nat), .int .u64 (cl : Nat), .slice cz.ao cz.n cz.cap, .slice none 0 0] 49)) (wA.alloc (.cells #[.int .u64 (cf : Nat), .int .u64 (cl : Nat), .slice cz.ao cz.n cz.cap, .slice none 0 0] 49)).drew := (Below.refl _ _).drew
      have B1 : Below wA.heap.size wA W1 := by rw [hW1]; exact ((Below.refl _ _).alloc (Nat.le_refl _) _).trans (BD.mono (by simp))
      have A1 : Arr W1 wA.heap.size 49 [.int .u64 (cf : Nat), .int .u64 (cl : Nat), .slice cz.ao cz.n cz.cap, .slice none 0 0] := by
        rw [hW1]
        exact Arr.below (heap_alloc_new wA _) BD (by simp)
      rw [← hW1]
      clear hW1 BD r0 r1 r2
      have HQ : Hid (∀ V, Below wA.heap.size wA V → V.cell? ⟨b, off + k * 4 + 3, none⟩ = some (.slice sao sn scap)) := fun V hV => (hV.cell (World.block_lt_of_cell? _ _ HQ3.out)).trans HQ3.out
      obtain ⟨g, hg⟩ : ∃ g, g = wA.heap.size := ⟨_, rfl⟩
      rw [← hg] at A1 ⊢
      have I0 : InR w wA g cf cl cz sl (.int .i64 0) W1 := InR.mk 0 _ (Nat.zero_le _) rfl (by rw [List.take_zero]; exact GNew.nil _ _ _ _ _) A1 B1
      have HGA : Hid (g = wA.heap.size) := hg
      have hgA : wA.heap.size ≤ g + 1 := by omega
      have hgl : wA.heap.size ≤ g := by omega
      clear q0 q1 q2 q3 A1 B1 hg
      go_wp2_with fail
      go_loopw [6] (fun i wq => InR w wA g cf cl cz sl i wq) (fun i _ => sn - (intOf i).toNat)
      case atStart => exact I0
      case round =>
        clear I0
        obtain ⟨wq, hwq⟩ : ∃ v, v = wr := ⟨_, rfl⟩
        subst hwq
        obtain ⟨x, v, hx, rfl, GN, A2r, B, hgs⟩ := hrel
        have q3 := HQ.out wq B
        by_cases hxl : x < sl.length
        · have hxi : (x : Int) < (sn : Int) := by omega
          obtain ⟨pb, poff, rfl, hP⟩ := GL.atP HOK.out.s (by show 0 < sn; omega)
          have HP : Hid (∀ V, Below wA.heap.size wA V → PX V pb (poff + x * 3) sl[x]) := fun V hV => (hP x hxl).below (BA.trans (hV.mono BA.size))
          have hpk := HOK.out.s.ok _ (List.getElem_mem (show x < sl.length from hxl))
          have et : sl.take (x + 1) = sl.take x ++ [sl[x]] := List.take_succ_eq_append_getElem hxl
          obtain ⟨p, hp⟩ : ∃ p, p = sl[x] := ⟨_, rfl⟩
          rw [← hp] at HP hpk et
          have HPK : Hid (elP.ok p w) := hpk
          have HET : Hid (sl.take (x + 1) = sl.take x ++ [p]) := et
          have HSV : Hid (∀ V, Below wA.heap.size wA V → V.cell? ⟨b, off + k * 4 + 3, none⟩ = some (.slice (some ⟨pb, poff, none⟩) sn scap) ∧ V.cell? ⟨pb, poff + x * 3, none⟩ = some (.int .u64 (p.sq : Nat)) ∧ V.cell? ⟨pb, poff + x * 3 + 1, none⟩ = some (.int .u64 (p.vw : Nat)) ∧ V.cell? ⟨pb, poff + x * 3 + 2, none⟩ = some (.slice p.b.ao p.b.n p.b.cap)) := fun V hV => by
            obtain ⟨p0, p1, p2⟩ := HP.out V hV
            exact ⟨HQ.out V hV, p0, p1, p2⟩
          have HG3 : Hid (∀ V, Below wq.heap.size wq V → V.cell? ⟨g, 3, none⟩ = some v) := fun V hV => (Arr.below A2r hV A2r.lt).cell 3
          have hg := A2r.lt
          have hxs : sl.length ≤ 1000 := hcs
          clear hP hp hpk et HP
          go_wp2_with fail
          have yHS : Hid (∀ V, Below wq.heap.size wq V → V.cell? ⟨b, off + k * 4 + 3, none⟩ = some (.slice (some ⟨pb, poff, none⟩) sn scap) ∧ V.cell? ⟨pb, poff + x * 3, none⟩ = some (.int .u64 (p.sq : Nat)) ∧ V.cell? ⟨pb, poff + x * 3 + 1, none⟩ = some (.int .u64 (p.vw : Nat)) ∧ V.cell? ⟨pb, poff + x * 3 + 2, none⟩ = some (.slice p.b.ao p.b.n p.b.cap)) := fun V hV => HSV.out V (B.trans (hV.mono B.size))
          have yE0 : Below wq.heap.size wq wq.drew := (Below.refl _ _).drew
          refine wp_region_noPanic ?_
          refine wp_region_held_drew (S := fun V => V.cell? ⟨b, off + k * 4 + 3, none⟩ = some (.slice (some ⟨pb, poff, none⟩) sn scap) ∧ V.cell? ⟨pb, poff + x * 3, none⟩ = some (.int .u64 (p.sq : Nat)) ∧ V.cell? ⟨pb, poff + x * 3 + 1, none⟩ = some (.int .u64 (p.vw : Nat)) ∧ V.cell? ⟨pb, poff + x * 3 + 2, none⟩ = some (.slice p.b.ao p.b.n p.b.cap)) (by kernel_rfl) (yHS.out _ yE0) (fun yH0 => ?_)
          obtain ⟨yv0, hv0⟩ : ∃ v, v = wq.drew := ⟨_, rfl⟩
          rw [← hv0] at yH0 yE0 ⊢
          clear hv0
          refine hr_take_w 0 (some 39) (.pointer (some ⟨g, 3, none⟩)) rfl rfl (by kernel_rfl) (by kernel_rfl) (by kernel_rfl) rfl (fun W hW => by obtain ⟨h0, h1, h2, h3⟩ := hW; go_simp) yH0 ?_
          simp only [FL]
          refine hr_take_w 2 (some 41) (.slice (some ⟨b, off, none⟩) n cap) rfl rfl (by kernel_rfl) (by kernel_rfl) (by kernel_rfl) rfl (fun W hW => by obtain ⟨h0, h1, h2, h3⟩ := hW; go_simp) yH0 ?_
          simp only [FL]
          refine hr_take_w 3 (some 42) (.int .i64 (k : Nat)) rfl rfl (by kernel_rfl) (by kernel_rfl) (by kernel_rfl) rfl (fun W hW => by obtain ⟨h0, h1, h2, h3⟩ := hW; go_simp) yH0 ?_
          simp only [FL]
          refine hr_take_w 4 (some 43) (.pointer (some ⟨b, off + k * 4, none⟩)) rfl rfl (by kernel_rfl) (by kernel_rfl) (by kernel_rfl) rfl (fun W hW => by obtain ⟨h0, h1, h2, h3⟩ := hW; go_simp) yH0 ?_
          simp only [FL]
          refine hr_take_w 5 (some 44) (.pointer (some ⟨b, off + k * 4 + 3, none⟩)) rfl rfl (by kernel_rfl) (by kernel_rfl) (by kernel_rfl) rfl (fun W hW => by obtain ⟨h0, h1, h2, h3⟩ := hW; go_simp) yH0 ?_
          simp only [FL]
          refine hr_take_w 6 (some 45) (.slice (some ⟨pb, poff, none⟩) sn scap) rfl rfl (by kernel_rfl) (by kernel_rfl) (by kernel_rfl) rfl (fun W hW => by obtain ⟨h0, h1, h2, h3⟩ := hW; go_simp) yH0 ?_
          simp only [FL]
          refine hr_take_w 7 (some 46) (.int .i64 (x : Nat)) rfl rfl (by kernel_rfl) (by kernel_rfl) (by kernel_rfl) rfl (fun W hW => by obtain ⟨h0, h1, h2, h3⟩ := hW; go_simp) yH0 ?_
          simp only [FL]
          refine hr_take_w 8 (some 47) (.pointer (some ⟨pb, poff + x * 3, none⟩)) rfl rfl (by kernel_rfl) (by kernel_rfl) (by kernel_rfl) rfl (fun W hW => by obtain ⟨h0, h1, h2, h3⟩ := hW; go_simp) yH0 ?_
          simp only [FL]
          refine hr_take_w 9 (some 48) (.pointer (some ⟨pb, poff + x * 3, none⟩)) rfl rfl (by kernel_rfl) (by kernel_rfl) (by kernel_rfl) rfl (fun W hW => by obtain ⟨h0, h1, h2, h3⟩ := hW; go_simp) yH0 ?_
          simp only [FL]
          refine hr_take_w 10 (some 49) (.int .u64 (p.sq : Nat)) rfl rfl (by kernel_rfl) (by kernel_rfl) (by kernel_rfl) rfl (fun W hW => by obtain ⟨h0, h1, h2, h3⟩ := hW; go_simp) yH0 ?_
          simp only [FL]
          refine hr_take_w 11 (some 50) (.slice (some ⟨b, off, none⟩) n cap) rfl rfl (by kernel_rfl) (by kernel_rfl) (by kernel_rfl) rfl (fun W hW => by obtain ⟨h0, h1, h2, h3⟩ := hW; go_simp) yH0 ?_
          simp only [FL]
          refine hr_take_w 12 (some 51) (.int .i64 (k : Nat)) rfl rfl (by kernel_rfl) (by kernel_rfl) (by kernel_rfl) rfl (fun W hW => by obtain ⟨h0, h1, h2, h3⟩ := hW; go_simp) yH0 ?_
          simp only [FL]
          refine hr_take_w 13 (some 52) (.pointer (some ⟨b, off + k * 4, none⟩)) rfl rfl (by kernel_rfl) (by kernel_rfl) (by kernel_rfl) rfl (fun W hW => by obtain ⟨h0, h1, h2, h3⟩ := hW; go_simp) yH0 ?_
          simp only [FL]
          refine hr_take_w 14 (some 53) (.pointer (some ⟨b, off + k * 4 + 3, none⟩)) rfl rfl (by kernel_rfl) (by kernel_rfl) (by kernel_rfl) rfl (fun W hW => by obtain ⟨h0, h1, h2, h3⟩ := hW; go_simp) yH0 ?_
          simp only [FL]
          refine hr_take_w 15 (some 54) (.slice (some ⟨pb, poff, none⟩) sn scap) rfl rfl (by kernel_rfl) (by kernel_rfl) (by kernel_rfl) rfl (fun W hW => by obtain ⟨h0, h1, h2, h3⟩ := hW; go_simp) yH0 ?_
          simp only [FL]
          refine hr_take_w 16 (some 55) (.int .i64 (x : Nat)) rfl rfl (by kernel_rfl) (by kernel_rfl) (by kernel_rfl) rfl (fun W hW => by obtain ⟨h0, h1, h2, h3⟩ := hW; go_simp) yH0 ?_
          simp only [FL]
          refine hr_take_w 17 (some 56) (.pointer (some ⟨pb, poff + x * 3, none⟩)) rfl rfl (by kernel_rfl) (by kernel_rfl) (by kernel_rfl) rfl (fun W hW => by obtain ⟨h0, h1, h2, h3⟩ := hW; go_simp) yH0 ?_
          simp only [FL]
          refine hr_take_w 18 (some 57) (.pointer (some ⟨pb, poff + x * 3 + 1, none⟩)) rfl rfl (by kernel_rfl) (by kernel_rfl) (by kernel_rfl) rfl (fun W hW => by obtain ⟨h0, h1, h2, h3⟩ := hW; go_simp) yH0 ?_
          simp only [FL]
          refine hr_take_w 19 (some 58) (.int .u64 (p.vw : Nat)) rfl rfl (by kernel_rfl) (by kernel_rfl) (by kernel_rfl) rfl (fun W hW => by obtain ⟨h0, h1, h2, h3⟩ := hW; go_simp) yH0 ?_
          simp only [FL]
          refine hr_take_w 20 (some 59) (.slice (some ⟨b, off, none⟩) n cap) rfl rfl (by kernel_rfl) (by kernel_rfl) (by kernel_rfl) rfl (fun W hW => by obtain ⟨h0, h1, h2, h3⟩ := hW; go_simp) yH0 ?_
          simp only [FL]
          refine hr_take_w 21 (some 60) (.int .i64 (k : Nat)) rfl rfl (by kernel_rfl) (by kernel_rfl) (by kernel_rfl) rfl (fun W hW => by obtain ⟨h0, h1, h2, h3⟩ := hW; go_simp) yH0 ?_
          simp only [FL]
          refine hr_take_w 22 (some 61) (.pointer (some ⟨b, off + k * 4, none⟩)) rfl rfl (by kernel_rfl) (by kernel_rfl) (by kernel_rfl) rfl (fun W hW => by obtain ⟨h0, h1, h2, h3⟩ := hW; go_simp) yH0 ?_
          simp only [FL]
          refine hr_take_w 23 (some 62) (.pointer (some ⟨b, off + k * 4 + 3, none⟩)) rfl rfl (by kernel_rfl) (by kernel_rfl) (by kernel_rfl) rfl (fun W hW => by obtain ⟨h0, h1, h2, h3⟩ := hW; go_simp) yH0 ?_
          simp only [FL]
          refine hr_take_w 24 (some 63) (.slice (some ⟨pb, poff, none⟩) sn scap) rfl rfl (by kernel_rfl) (by kernel_rfl) (by kernel_rfl) rfl (fun W hW => by obtain ⟨h0, h1, h2, h3⟩ := hW; go_simp) yH0 ?_
          simp only [FL]
          refine hr_take_w 25 (some 64) (.int .i64 (x : Nat)) rfl rfl (by kernel_rfl) (by kernel_rfl) (by kernel_rfl) rfl (fun W hW => by obtain ⟨h0, h1, h2, h3⟩ := hW; go_simp) yH0 ?_
          simp only [FL]
          refine hr_take_w 26 (some 65) (.pointer (some ⟨pb, poff + x * 3, none⟩)) rfl rfl (by kernel_rfl) (by kernel_rfl) (by kernel_rfl) rfl (fun W hW => by obtain ⟨h0, h1, h2, h3⟩ := hW; go_simp) yH0 ?_
          simp only [FL]
          refine hr_take_w 27 (some 66) (.pointer (some ⟨pb, poff + x * 3 + 2, none⟩)) rfl rfl (by kernel_rfl) (by kernel_rfl) (by kernel_rfl) rfl (fun W hW => by obtain ⟨h0, h1, h2, h3⟩ := hW; go_simp) yH0 ?_
          simp only [FL]
          refine hr_take_w 28 (some 67) (.slice p.b.ao p.b.n p.b.cap) rfl rfl (by kernel_rfl) (by kernel_rfl) (by kernel_rfl) rfl (fun W hW => by obtain ⟨h0, h1, h2, h3⟩ := hW; go_simp) yH0 ?_
          simp only [FL]
          refine hr_take_w 29 (some 68) (.agg #[.int .u64 (p.sq : Nat), .int .u64 (p.vw : Nat), .slice p.b.ao p.b.n p.b.cap]) rfl rfl (by kernel_rfl) (by kernel_rfl) (by kernel_rfl) rfl (fun W hW => by obtain ⟨h0, h1, h2, h3⟩ := hW; go_simp) yH0 ?_
          simp only [FL]
          refine wpAnyH_effto 3 (fun zi zv zw => (zi = 1 → zv = v) ∧ (zi = 30 → ∃ gb, zv = .slice (some ⟨gb, 0, none⟩) 1 1 ∧ Arr zw gb 46 [.int .u64 (p.sq : Nat), .int .u64 (p.vw : Nat), .slice p.b.ao p.b.n p.b.cap])) [(1, 40), (30, 69)] 77 (by kernel_rfl) (by decide) (by decide) rfl ?_ (fun W hW => yHS.out W (yE0.trans (hW.mono yE0.size))) ?_ ?_
          · intro zi v w w' h hb
            refine ⟨fun e => ?_, fun e => ?_⟩
            · have h := h.1 e
              exact h
            · have h := h.2 e
              obtain ⟨gb, h1, h2⟩ := h
              exact ⟨gb, h1, Arr.below h2 hb h2.lt⟩
          · intro zp zhi o a w ho hs hb hdep
            have yEB := yE0.trans (hb.mono yE0.size)
            simp only [List.mem_cons, List.not_mem_nil, or_false] at zhi
            rcases zhi with rfl | rfl
            · obtain rfl : _ = o := Option.some.inj (show some _ = some o from ho)
              have t39 : a.tmps[39]? = some (.pointer (some ⟨g, 3, none⟩)) := hs.get 39 (by kernel_rfl) rfl
              have lc := HG3.out w yEB
              exact .inl ⟨v, w, by go_simp, ⟨fun _ => rfl, fun e => absurd e (by decide)⟩, Below.refl _ _⟩
            · obtain rfl : _ = o := Option.some.inj (show some _ = some o from ho)
              have t68 : a.tmps[68]? = some (.agg #[.int .u64 (p.sq : Nat), .int .u64 (p.vw : Nat), .slice p.b.ao p.b.n p.b.cap]) := hs.get 68 (by kernel_rfl) rfl
              have CA_ : Below w.heap.size w (w.alloc (.cells #[.int .u64 (p.sq : Nat), .int .u64 (p.vw : Nat), .slice p.b.ao p.b.n p.b.cap] 46)) := (Below.refl _ _).alloc (Nat.le_refl _) _
              exact .inl ⟨_, _, by go_simp, ⟨fun e => absurd e (by decide), fun _ => ⟨_, rfl, heap_alloc_new w _⟩⟩, CA_⟩
          intro zf yv1 hb hh
          have yE1 := yE0.trans (hb.mono yE0.size)
          obtain e1 := (hh (1, 40) (by simp)).1 rfl
          obtain ⟨gb, e30, A8⟩ := (hh (30, 69) (by simp)).2 rfl
          clear hh hb
          simp only [putL, List.foldl_cons, List.foldl_nil, e1, e30]
          clear e1 e30
          simp only [FL]
          have R1 := GN.below yE1
          obtain ⟨v2, w3, ha, R2, B3⟩ := run_appG1 elP_fine tyP 26 R1 (by have := yE1.size; omega) (ad := ⟨gb, 0, none⟩) (cp := 1) (y := p) (fun j q hq => by rw [Addr.add_lit, Nat.zero_add, Arr.cell A8]; exact hq) HPK.out (by rw [List.length_take]; omega) (by rw [List.length_take]; unfold maxLen; omega)
          obtain ⟨ao3, n3, cap3, rfl⟩ := R2.slice
          have A4 : Arr yv1 g 49 [.int .u64 (cf : Nat), .int .u64 (cl : Nat), .slice cz.ao cz.n cz.cap, v] := A2r.below yE1 A2r.lt
          have A5 : Arr w3 g 49 [.int .u64 (cf : Nat), .int .u64 (cl : Nat), .slice cz.ao cz.n cz.cap, v] := A4.below B3 (Nat.lt_succ_self g)
          have A6 : Arr (w3.setCell ⟨g, 3, none⟩ (.slice ao3 n3 cap3)) g 49 [.int .u64 (cf : Nat), .int .u64 (cl : Nat), .slice cz.ao cz.n cz.cap, .slice ao3 n3 cap3] := A5.set 3 (.slice ao3 n3 cap3)
          have gfb := A5.free 3
          have g3b : w3.cell? ⟨g, 3, none⟩ = some v := A5.cell 3
          have E5 : Below wA.heap.size wA w3 := (B.trans (yE1.mono B.size)).trans (B3.mono hgA)
          have E6 : Below wA.heap.size wA (w3.setCell ⟨g, 3, none⟩ (.slice ao3 n3 cap3)) := E5.setCell (p := ⟨g, 3, none⟩) hgl (.slice ao3 n3 cap3)
          have yH3 := HSV.out w3 E5
          have yH4 := HSV.out _ E6
          have R4 : GNew elP 46 w (w3.setCell ⟨g, 3, none⟩ (.slice ao3 n3 cap3)) (g + 1) (.slice ao3 n3 cap3) (sl.take x ++ [p]) := ⟨own_kept R2.row fun z hz => heap_setCell_other w3 ⟨g, 3, none⟩ z (.slice ao3 n3 cap3) (by
            have := (R2.row.lt z hz).1
            show z ≠ g
            omega), R2.ok⟩
          clear R1 R2 A4 A8 GN A2r E5
          refine hr_ex 31 (some 70) rfl rfl (by kernel_rfl) rfl (R := fun v w' => .slice ao3 n3 cap3 = v ∧ w3 = w') ⟨_, w3, by simp [execOp, Act.eval, resolve, invoke, builtin, ha], rfl, rfl⟩ ?_
          rintro v w' ⟨rfl, rfl⟩
          refine ⟨yH3, ?_⟩
          simp only [FL]
          have yH1 := yH3
          refine hr_take_w 32 (some 71) (.pointer (some ⟨g, 3, none⟩)) rfl rfl (by kernel_rfl) (by kernel_rfl) (by kernel_rfl) rfl (fun W hW => by obtain ⟨h0, h1, h2, h3⟩ := hW; go_simp) yH1 ?_
          simp only [FL]
          refine hr_skip 33 none (w' := w3.setCell ⟨g, 3, none⟩ (.slice ao3 n3 cap3)) rfl rfl (by kernel_rfl) rfl (by go_simp) yH4 ?_
          simp only [Act.put]
          refine wpAnyH_done (by kernel_rfl) ?_ _
          refine NoPanic.normal ?_
          go_wp2
          have RL : ∀ i : Value, i = .int .i64 ((x + 1 : Nat) : Int) → InR w wA g cf cl cz sl i (w3.setCell ⟨g, 3, none⟩ (.slice ao3 n3 cap3)) := fun i hi => InR.mk (x + 1) _ hxl hi (by rw [HET.out]; exact R4) A6 E6
          all_goals (try go_big_round)
          all_goals refine ⟨?_, ?_⟩
          all_goals first
            | exact RL _ (by go_num)
            | (simp [intOf]; omega)
        · have hxi : ¬ (x : Int) < (sn : Int) := by omega
          have et : sl.take x = sl := List.take_of_length_le (by omega)
          rw [et] at GN
          have BW := BA.trans (B.mono BA.size)
          obtain ⟨ro, rc, rfl, GP, farP⟩ := GN.gl elP_fine BW
          rw [hsl] at GP farP
          obtain ⟨m0, m1, m2, m3⟩ : wq.cell? ⟨g, 0, none⟩ = some (.int .u64 (cf : Nat)) ∧ wq.cell? ⟨g, 1, none⟩ = some (.int .u64 (cl : Nat)) ∧ wq.cell? ⟨g, 2, none⟩ = some (.slice cz.ao cz.n cz.cap) ∧ wq.cell? ⟨g, 3, none⟩ = some (.slice ro sn rc) := by
            rw [← hsl]
            exact ⟨A2r.cell 0, A2r.cell 1, A2r.cell 2, A2r.cell 3⟩
          have C5 : Below wq.heap.size wq (wq.alloc (.cells #[.int .u64 (cf : Nat), .int .u64 (cl : Nat), .slice cz.ao cz.n cz.cap, .slice ro sn rc] 49)) := (Below.refl _ _).alloc (Nat.le_refl _) _
          have A5 : Arr (wq.alloc (.cells #[.int .u64 (cf : Nat), .int .u64 (cl : Nat), .slice cz.ao cz.n cz.cap, .slice ro sn rc] 49)) wq.heap.size 49 [.int .u64 (cf : Nat), .int .u64 (cl : Nat), .slice cz.ao cz.n cz.cap, .slice ro sn rc] := heap_alloc_new wq _
          have GO5 : GI elC 49 (wq.alloc (.cells #[.int .u64 (cf : Nat), .int .u64 (cl : Nat), .slice cz.ao cz.n cz.cap, .slice ro sn rc] 49)) w.heap.size _ ys := (GO.below elC_fine B).below elC_fine C5
          have HG : Hid (∀ j u, (elC.c (⟨cf, cl, cz, ⟨ro, sn, rc, sl⟩⟩ : CA))[j]? = some u → (wq.alloc (.cells #[.int .u64 (cf : Nat), .int .u64 (cl : Nat), .slice cz.ao cz.n cz.cap, .slice ro sn rc] 49)).cell? ((⟨wq.heap.size, 0, none⟩ : Addr).add j) = some u) := fun j u hu => by rw [add_at, Nat.zero_add, A5.cell]; exact hu
          have E5 := BW.trans (C5.mono BW.size)
          have hb5 := E5.size
          have yok5 : elC.ok (⟨cf, cl, cz, ⟨ro, sn, rc, sl⟩⟩ : CA) (wq.alloc (.cells #[.int .u64 (cf : Nat), .int .u64 (cl : Nat), .slice cz.ao cz.n cz.cap, .slice ro sn rc] 49)) := ⟨HOK.out.fr, HOK.out.low, HOK.out.z.below E5, GP.below elP_fine C5⟩
          have HF : Hid (∀ z, elC.blk (⟨cf, cl, cz, ⟨ro, sn, rc, sl⟩⟩ : CA) z → Value.ownBlock _ ≠ some z) := fun z hz e => by
            have h1 := GO.own.lt z e
            have h3 := HGA.out
            rcases hz with hz | hz | ⟨q, hq, hz⟩
            · have := Sl.blk_lt HOK.out.z hz
              omega
            · have := farP z hz
              omega
            · have := elP_fine.lt q w z (HOK.out.s.ok q hq) hz
              omega
          clear GN GP farP A2r A5 C5 GO BW
          go_wp2_with (refine wpList_appG elC_fine tyC rfl (.tmp 72) (.tmp 74) rfl GO5 rfl rfl HG.out yok5 HF.out (by omega) (by unfold maxLen; omega) hb5 ?_; intro v6 w6 GO6 B6)
          have RL : ∀ i : Value, i = .int .i64 ((k + 1 : Nat) : Int) → OutR w l v6 i w6 := fun i hi => OutR.mk (k + 1) _ hkx hi GO6 (by
            rw [List.map_append, HYS.out, List.take_succ_eq_append_getElem hkx, List.map_append, List.map_singleton, List.map_singleton, HO.out]
            rfl) (E5.trans B6)
          all_goals (try go_big_round)
          all_goals refine ⟨?_, ?_⟩
          all_goals first
            | exact RL _ (by go_num)
            | (simp [intOf]; omega)
    · have hki : ¬ (k : Int) < (n : Int) := by omega
      have et : l.take k = l := List.take_of_length_le (by omega)
      rw [et] at HYS
      obtain ⟨ro, rc, rfl, GF, -⟩ := GO.gl elC_fine
      have hyn : ys.length = l.length := by omega
      rw [hyn] at GF ⊢
      go_wp2
      go_ret
      exact ⟨ro, rc, ys, by rw [hl] <;> rfl, GF, HYS.out, BA⟩
end Go.Proofs.YtdcebokfnbgkaaaDoor

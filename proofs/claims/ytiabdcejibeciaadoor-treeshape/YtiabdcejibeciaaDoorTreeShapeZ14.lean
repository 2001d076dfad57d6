/-
  Texts in one: SumOfW, PClone, PChgW.
-/
import Derived.Test.YtiabdcejibeciaaDoorTreeShapeZ3
import Derived.Test.YtiabdcejibeciaaDoorTreeShapeZ6
import Derived.Lib.SliceRun
namespace Go.Proofs.YtiabdcejibeciaaDoor
open Go.RowKit

set_option maxRecDepth 100000 in
set_option maxHeartbeats 1000000 in
theorem sumOf_any (w : World) (b o : Nat) (n cap : Nat) (ps : List Part) (hT : Tabs w) (hP : Pts w ⟨b, o, none⟩ ps) (hn : ps.length = n) (hnb : (n : Int) < 4611686018427387904) (hl : (allB ps).length + 72 < 18446744073709551616) :
    Calls Tryd.prog 119 #[.slice (some ⟨b, o, none⟩) n cap] w fun e w' => ∃ v, e = .returned v ∧ w'.ownsRow w.heap.size 5 1 v 32 (bv (sumL (allB ps))) ∧ Below w.heap.size w w' := by
  have h2 := hT.two
  go_enter Tryd.func119, Tryd.ntmps119
  go_wp2_with (go_at_call 83; refine (new_any w).mono ?_; rintro e w1 ⟨rfl, H1, g1⟩; have B1 : Below w.heap.size w w1 := (Below.refl _ w).grown g1 (Nat.le_refl _) (by simp); clear g1)
  go_loopw [9] (fun i wr => ∃ k : Nat, k ≤ n ∧ i = .int .i64 k ∧ Below w.heap.size w wr ∧ HS wr w.heap.size (allB (ps.take k))) (fun i _ => n - (intOf i).toNat)
  case atStart => exact ⟨0, by omega, rfl, B1, H1⟩
  case round =>
    clear H1 B1
    obtain ⟨k, hk, rfl, B2, H2⟩ := hrel
    have T2 := hT.below B2 h2
    have s2 := B2.size
    by_cases hlt : k < n
    · have hki : (k : Int) < (n : Int) := by omega
      have hkl : k < ps.length := by omega
      obtain ⟨c1, S1⟩ := (hP.below B2) k hkl
      rw [add_at] at c1
      have HT : Hid (allB (ps.take (k + 1)) = allB (ps.take k) ++ ps[k].xs) := allB_take ps k hkl
      have hle := allB_le ps (k + 1)
      have hne : ∀ a, ps[k].ao = some a → 0 < ps[k].n → a.block ≠ w.heap.size := by
        intro a ha h0
        have := (hP k hkl).2.lt a ha h0
        omega
      rw [HT.out, List.length_append] at hle
      obtain ⟨q, hq⟩ : ∃ q, q = ps[k] := ⟨_, rfl⟩
      rw [← hq] at c1 S1 hne HT hle
      clear hq
      unfold Part.val at c1
      go_wp2_with (go_at_call 84; refine (add_any wr w.heap.size _ q.ao q.n q.cap q.xs T2 H2 h2 S1 hne (by omega)).mono ?_; rintro e w3 ⟨⟨v, rfl⟩, H3, g3⟩; have B3 : Below w.heap.size w w3 := B2.grown g3 s2 (by intro k hk; cases hk; exact Nat.le_refl _))
      go_roundw
      case rel =>
        refine ⟨k + 1, by omega, by go_num, B3, ?_⟩
        rw [HT.out]
        exact H3
      case measure => simp [intOf]; omega
    · have hge : (n : Int) ≤ (k : Int) := by omega
      have e : ps.take k = ps := List.take_of_length_le (by omega)
      rw [e] at H2
      clear e
      go_wp2_with (go_at_call 85; refine (hsum_any wr w.heap.size _ T2 H2 hl).mono ?_; rintro e w3 ⟨v, rfl, own3, B3⟩)
      go_ret
      refine ⟨_, rfl, own_base own3 s2, B2.trans (B3.mono s2)⟩
/-- Parts laid in a new block. -/
theorem Pts.new (w : World) (ps : List Part) (t : TypeId) (h : ∀ q ∈ ps, Sl w q.ao q.n q.cap q.xs) : Pts (w.alloc (.cells (ps.map Part.val).toArray t)) ⟨w.heap.size, 0, none⟩ ps := by
  intro i hi
  refine ⟨?_, (h _ (List.getElem_mem hi)).below ((Below.refl _ w).alloc (Nat.le_refl _) _)⟩
  rw [add_at, Nat.zero_add, cell_of_row _ _ i _ _ _ (heap_alloc_new w _)]
  simp [hi]

set_option maxRecDepth 100000 in
set_option maxHeartbeats 1000000 in
/-- Sum of whatever bytes. -/
theorem sum_any (w : World) (ao : Option Addr) (n cap : Nat) (xs : List Int) (hT : Tabs w) (hS : Sl w ao n cap xs) :
    Calls Tryd.prog 100 #[.slice ao n cap] w fun e w' => ∃ v, e = .returned v ∧ w'.ownsRow w.heap.size 5 1 v 32 (bv (sumL xs)) ∧ Below w.heap.size w w' := by
  have h2 := hT.two
  have hm := hS.mx
  have hle := hS.le
  have hln := hS.len
  unfold maxLen at hm
  go_enter Tryd.func100, Tryd.ntmps100
  go_wp2_with fail
  have B1 : Below w.heap.size w (w.alloc (.cells #[.slice ao n cap] 26)) := (Below.refl _ w).alloc (Nat.le_refl _) _
  have hq : Pts (w.alloc (.cells #[.slice ao n cap] 26)) ⟨w.heap.size, 0, none⟩ [⟨ao, n, cap, xs⟩] := Pts.new w [⟨ao, n, cap, xs⟩] 26 (by intro q hq; rw [List.mem_singleton.1 hq]; exact hS)
  have ea : allB [⟨ao, n, cap, xs⟩] = xs := by simp [allB]
  refine (sumOf_any _ w.heap.size 0 1 1 [⟨ao, n, cap, xs⟩] (hT.below B1 h2) hq rfl (by decide) (by rw [ea]; omega)).mono ?_
  rintro e w3 ⟨v, rfl, own3, B3⟩
  rw [ea] at own3
  clear ea hq
  go_wp2
  go_ret
  exact ⟨_, rfl, own_base own3 B1.size, B1.trans (B3.mono B1.size)⟩
end Go.Proofs.YtiabdcejibeciaaDoor

namespace Go.Proofs.YtiabdcejibeciaaDoor
open Go.RowKit

set_option maxHeartbeats 400000 in
set_option maxRecDepth 100000 in
theorem bclone_any (w : World) (ao : Option Addr) (n cap : Nat) (xs : List Int) (h : Sl w ao n cap xs) (hn : n ≤ 1000000) :
    Calls Tryd.prog 40 #[.slice ao n cap] w (RetB w n xs) := by
  cases ao with
  | none =>
    obtain ⟨rfl, rfl⟩ := h.nil rfl
    obtain rfl : xs = [] := List.eq_nil_of_length_eq_zero h.len
    have hq : ∀ W, _ := fun W => Lib.run_eql_slice_nil (P := Tryd.prog) W 26 5 none 0 0 0 0 Tryd.underlying26
    go_enter Tryd.func40, Tryd.ntmps40
    go_wp2
    go_ret
    exact ⟨none, 0, rfl, Sl.nothing w, Below.refl _ _⟩
  | some a =>
    have B0 : Below w.heap.size w (w.alloc (.cells #[] 5)) := (Below.refl _ w).alloc (Nat.le_refl _) _
    have h0 := h.below B0
    have o0 := own_nothing w
    have hb := h.byte
    have hq : ∀ W, _ := fun W => Lib.run_eql_slice_nil (P := Tryd.prog) W 26 5 (some a) n cap 0 0 Tryd.underlying26
    go_enter Tryd.func40, Tryd.ntmps40
    go_wp2_with (at_builtin; refine wpList_app rfl _ _ rfl w.heap.size _ _ _ rfl o0 _ _ _ _ rfl h0 (by omega) (by simp) ?_; intro v1 w1 own1 B1)
    simp only [Nat.zero_add, List.nil_append] at own1
    obtain ⟨ro, rc, rfl, S, -⟩ := Sl.own own1 hb
    go_wp2
    go_ret
    exact ⟨ro, rc, rfl, S, B0.trans B1⟩
end Go.Proofs.YtiabdcejibeciaaDoor

namespace Go.Proofs.YtiabdcejibeciaaDoor
open Go.RowKit

set_option maxHeartbeats 1000000 in
set_option maxRecDepth 100000 in
theorem chgK_any (w : World) (ao bo : Option Addr) (n cap m c i j : Nat) (vs ys : List Value) (h : VL w ao n cap vs) (hx : VL w bo m c ys) (h1 : ∀ u ∈ vs, u.oneCell' = true) (h2 : ∀ u ∈ ys, u.oneCell' = true) (hij : i ≤ j) (hj : j ≤ n) (hn : n + m ≤ 1000000) :
    Calls Tryd.prog 58 #[.slice ao n cap, .int .i64 i, .int .i64 j, .slice bo m c] w fun e w' =>
      ∃ ro rc, e = .returned (.slice ro (i + m + (n - j)) rc) ∧ VL w' ro (i + m + (n - j)) rc (vs.take i ++ ys ++ vs.drop j) ∧ Below w.heap.size w w' := by
  obtain ⟨i0, hi, hz0, hz1, hz2⟩ := info_parts kinfo
  have hle := h.le
  have F1 : ∀ W, _ := fun W => run_front (P := Tryd.prog) (W := W) (t := 51) (ao := ao) (n := n) (cap := cap) (i := i) (c := i) Tryd.underlying51 (Nat.le_refl _) (by omega) ksize
  have F2 : ∀ W, _ := fun W => run_back (P := Tryd.prog) (W := W) (t := 51) (ao := ao) (n := n) (cap := cap) (j := j) Tryd.underlying51 (by omega) ksize
  go_enter Tryd.func58, Tryd.ntmps58
  go_wp2
  have HS : Hid (∀ V, Below w.heap.size w V → True) := fun _ _ => trivial
  have E0 : Below w.heap.size w w.drew := (Below.refl _ _).drew
  refine wp_region_noPanic ?_
  refine wp_region_held_drew (S := fun V => True) (by kernel_rfl) (HS.out _ E0) (fun H0 => ?_)
  obtain ⟨v0, hv0⟩ : ∃ v, v = w.drew := ⟨_, rfl⟩
  rw [← hv0] at E0 ⊢
  clear hv0
  refine hr_take_w 0 (some 9) (.slice ao n cap) rfl rfl (by kernel_rfl) (by kernel_rfl) (by kernel_rfl) rfl (fun W hW => by go_simp) H0 ?_
  simp only [Act.put, List.setIfInBounds_toArray, List.set_cons_zero, List.set_cons_succ]
  refine hr_take_w 1 (some 10) (.int .i64 i) rfl rfl (by kernel_rfl) (by kernel_rfl) (by kernel_rfl) rfl (fun W hW => by go_simp) H0 ?_
  simp only [Act.put, List.setIfInBounds_toArray, List.set_cons_zero, List.set_cons_succ]
  refine hr_take_w 2 (some 11) (.int .i64 i) rfl rfl (by kernel_rfl) (by kernel_rfl) (by kernel_rfl) rfl (fun W hW => by go_simp) H0 ?_
  simp only [Act.put, List.setIfInBounds_toArray, List.set_cons_zero, List.set_cons_succ]
  refine hr_take_w 3 (some 12) (.slice ao i i) rfl rfl (by kernel_rfl) (by kernel_rfl) (by kernel_rfl) rfl (fun W hW => by simp [execOp, Act.eval, F1]) H0 ?_
  simp only [Act.put, List.setIfInBounds_toArray, List.set_cons_zero, List.set_cons_succ]
  refine hr_take_w 4 (some 13) (.slice bo m c) rfl rfl (by kernel_rfl) (by kernel_rfl) (by kernel_rfl) rfl (fun W hW => by go_simp) H0 ?_
  simp only [Act.put, List.setIfInBounds_toArray, List.set_cons_zero, List.set_cons_succ]
  refine hr_take_w 6 (some 15) (.slice ao n cap) rfl rfl (by kernel_rfl) (by kernel_rfl) (by kernel_rfl) rfl (fun W hW => by go_simp) H0 ?_
  simp only [Act.put, List.setIfInBounds_toArray, List.set_cons_zero, List.set_cons_succ]
  refine hr_take_w 7 (some 16) (.int .i64 j) rfl rfl (by kernel_rfl) (by kernel_rfl) (by kernel_rfl) rfl (fun W hW => by go_simp) H0 ?_
  simp only [Act.put, List.setIfInBounds_toArray, List.set_cons_zero, List.set_cons_succ]
  refine hr_take_w 8 (some 17) (.slice (bk ao cap j) (n - j) (cap - j)) rfl rfl (by kernel_rfl) (by kernel_rfl) (by kernel_rfl) rfl (fun W hW => by simp [execOp, Act.eval, F2]) H0 ?_
  simp only [Act.put, List.setIfInBounds_toArray, List.set_cons_zero, List.set_cons_succ]
  refine hr_ex 5 (some 14) rfl rfl (by kernel_rfl) rfl (R := fun v w' => Apd w' w.heap.size 26 v (i + m) (vs.take i ++ ys) ∧ Below v0.heap.size v0 w') (by obtain ⟨v', w', hr, h3, h4⟩ := run_apd (P := Tryd.prog) (w := v0) (base := v0.heap.size) (t := 51) (ty := 51) Tryd.underlying51 hi hz0 hz1 hz2 rfl (.inl ⟨ao, rfl, (h.below E0).front i i (by omega) (Nat.le_refl _) (by omega)⟩) (Nat.le_refl _) (hx.below E0) h2 (by omega) (by decide); exact ⟨v', w', by simp [execOp, Act.eval, resolve, invoke, builtin, hr], h3.base E0.size, h4⟩) ?_
  rintro v v1 ⟨A1, C0⟩
  have E1 := E0.trans (C0.mono E0.size)
  have H1 := HS.out v1 E1
  refine ⟨H1, ?_⟩
  simp only [Act.put, List.setIfInBounds_toArray, List.set_cons_zero, List.set_cons_succ]
  refine hr_ex 9 (some 18) rfl rfl (by kernel_rfl) rfl (R := fun u w' => Apd w' w.heap.size 26 u (i + m + (n - j)) (vs.take i ++ ys ++ vs.drop j) ∧ Below w.heap.size v1 w') (by obtain ⟨v', w', hr, h3, h4⟩ := run_apd (P := Tryd.prog) (w := v1) (base := w.heap.size) (t := 51) (ty := 51) Tryd.underlying51 hi hz0 hz1 hz2 rfl A1 E1.size ((h.below E1).from j hj) (fun u hu => h1 u (List.mem_of_mem_drop hu)) (by omega) (by decide); exact ⟨v', w', by simp [execOp, Act.eval, resolve, invoke, builtin, hr], h3, h4⟩) ?_
  rintro v v2 ⟨A2, C1⟩
  have E2 := E1.trans C1
  have H2 := HS.out v2 E2
  refine ⟨H2, ?_⟩
  simp only [Act.put, List.setIfInBounds_toArray, List.set_cons_zero, List.set_cons_succ]
  refine hr_take_w 10 (some 8) (v) rfl rfl (by kernel_rfl) (by kernel_rfl) (by kernel_rfl) rfl (fun W hW => by go_simp) H2 ?_
  simp only [Act.put, List.setIfInBounds_toArray, List.set_cons_zero, List.set_cons_succ]
  refine wpAnyH_done (by kernel_rfl) ?_ _
  refine NoPanic.normal ?_
  obtain ⟨ro, rc, rfl, hv⟩ := A2.vl
  go_wp2
  go_ret
  exact ⟨ro, rc, rfl, hv, E2⟩

set_option maxHeartbeats 1000000 in
set_option maxRecDepth 100000 in
theorem chgN_any (w : World) (ao bo : Option Addr) (n cap m c i j : Nat) (vs ys : List Value) (h : VL w ao n cap vs) (hx : VL w bo m c ys) (h1 : ∀ u ∈ vs, u.oneCell' = true) (h2 : ∀ u ∈ ys, u.oneCell' = true) (hij : i ≤ j) (hj : j ≤ n) (hn : n + m ≤ 1000000) :
    Calls Tryd.prog 59 #[.slice ao n cap, .int .i64 i, .int .i64 j, .slice bo m c] w fun e w' =>
      ∃ ro rc, e = .returned (.slice ro (i + m + (n - j)) rc) ∧ VL w' ro (i + m + (n - j)) rc (vs.take i ++ ys ++ vs.drop j) ∧ Below w.heap.size w w' := by
  obtain ⟨i0, hi, hz0, hz1, hz2⟩ := info_parts ninfo
  have hle := h.le
  have F1 : ∀ W, _ := fun W => run_front (P := Tryd.prog) (W := W) (t := 71) (ao := ao) (n := n) (cap := cap) (i := i) (c := i) Tryd.underlying71 (Nat.le_refl _) (by omega) nsize
  have F2 : ∀ W, _ := fun W => run_back (P := Tryd.prog) (W := W) (t := 71) (ao := ao) (n := n) (cap := cap) (j := j) Tryd.underlying71 (by omega) nsize
  go_enter Tryd.func59, Tryd.ntmps59
  go_wp2
  have HS : Hid (∀ V, Below w.heap.size w V → True) := fun _ _ => trivial
  have E0 : Below w.heap.size w w.drew := (Below.refl _ _).drew
  refine wp_region_noPanic ?_
  refine wp_region_held_drew (S := fun V => True) (by kernel_rfl) (HS.out _ E0) (fun H0 => ?_)
  obtain ⟨v0, hv0⟩ : ∃ v, v = w.drew := ⟨_, rfl⟩
  rw [← hv0] at E0 ⊢
  clear hv0
  refine hr_take_w 0 (some 9) (.slice ao n cap) rfl rfl (by kernel_rfl) (by kernel_rfl) (by kernel_rfl) rfl (fun W hW => by go_simp) H0 ?_
  simp only [Act.put, List.setIfInBounds_toArray, List.set_cons_zero, List.set_cons_succ]
  refine hr_take_w 1 (some 10) (.int .i64 i) rfl rfl (by kernel_rfl) (by kernel_rfl) (by kernel_rfl) rfl (fun W hW => by go_simp) H0 ?_
  simp only [Act.put, List.setIfInBounds_toArray, List.set_cons_zero, List.set_cons_succ]
  refine hr_take_w 2 (some 11) (.int .i64 i) rfl rfl (by kernel_rfl) (by kernel_rfl) (by kernel_rfl) rfl (fun W hW => by go_simp) H0 ?_
  simp only [Act.put, List.setIfInBounds_toArray, List.set_cons_zero, List.set_cons_succ]
  refine hr_take_w 3 (some 12) (.slice ao i i) rfl rfl (by kernel_rfl) (by kernel_rfl) (by kernel_rfl) rfl (fun W hW => by simp [execOp, Act.eval, F1]) H0 ?_
  simp only [Act.put, List.setIfInBounds_toArray, List.set_cons_zero, List.set_cons_succ]
  refine hr_take_w 4 (some 13) (.slice bo m c) rfl rfl (by kernel_rfl) (by kernel_rfl) (by kernel_rfl) rfl (fun W hW => by go_simp) H0 ?_
  simp only [Act.put, List.setIfInBounds_toArray, List.set_cons_zero, List.set_cons_succ]
  refine hr_take_w 6 (some 15) (.slice ao n cap) rfl rfl (by kernel_rfl) (by kernel_rfl) (by kernel_rfl) rfl (fun W hW => by go_simp) H0 ?_
  simp only [Act.put, List.setIfInBounds_toArray, List.set_cons_zero, List.set_cons_succ]
  refine hr_take_w 7 (some 16) (.int .i64 j) rfl rfl (by kernel_rfl) (by kernel_rfl) (by kernel_rfl) rfl (fun W hW => by go_simp) H0 ?_
  simp only [Act.put, List.setIfInBounds_toArray, List.set_cons_zero, List.set_cons_succ]
  refine hr_take_w 8 (some 17) (.slice (bk ao cap j) (n - j) (cap - j)) rfl rfl (by kernel_rfl) (by kernel_rfl) (by kernel_rfl) rfl (fun W hW => by simp [execOp, Act.eval, F2]) H0 ?_
  simp only [Act.put, List.setIfInBounds_toArray, List.set_cons_zero, List.set_cons_succ]
  refine hr_ex 5 (some 14) rfl rfl (by kernel_rfl) rfl (R := fun v w' => Apd w' w.heap.size 46 v (i + m) (vs.take i ++ ys) ∧ Below v0.heap.size v0 w') (by obtain ⟨v', w', hr, h3, h4⟩ := run_apd (P := Tryd.prog) (w := v0) (base := v0.heap.size) (t := 71) (ty := 71) Tryd.underlying71 hi hz0 hz1 hz2 rfl (.inl ⟨ao, rfl, (h.below E0).front i i (by omega) (Nat.le_refl _) (by omega)⟩) (Nat.le_refl _) (hx.below E0) h2 (by omega) (by decide); exact ⟨v', w', by simp [execOp, Act.eval, resolve, invoke, builtin, hr], h3.base E0.size, h4⟩) ?_
  rintro v v1 ⟨A1, C0⟩
  have E1 := E0.trans (C0.mono E0.size)
  have H1 := HS.out v1 E1
  refine ⟨H1, ?_⟩
  simp only [Act.put, List.setIfInBounds_toArray, List.set_cons_zero, List.set_cons_succ]
  refine hr_ex 9 (some 18) rfl rfl (by kernel_rfl) rfl (R := fun u w' => Apd w' w.heap.size 46 u (i + m + (n - j)) (vs.take i ++ ys ++ vs.drop j) ∧ Below w.heap.size v1 w') (by obtain ⟨v', w', hr, h3, h4⟩ := run_apd (P := Tryd.prog) (w := v1) (base := w.heap.size) (t := 71) (ty := 71) Tryd.underlying71 hi hz0 hz1 hz2 rfl A1 E1.size ((h.below E1).from j hj) (fun u hu => h1 u (List.mem_of_mem_drop hu)) (by omega) (by decide); exact ⟨v', w', by simp [execOp, Act.eval, resolve, invoke, builtin, hr], h3, h4⟩) ?_
  rintro v v2 ⟨A2, C1⟩
  have E2 := E1.trans C1
  have H2 := HS.out v2 E2
  refine ⟨H2, ?_⟩
  simp only [Act.put, List.setIfInBounds_toArray, List.set_cons_zero, List.set_cons_succ]
  refine hr_take_w 10 (some 8) (v) rfl rfl (by kernel_rfl) (by kernel_rfl) (by kernel_rfl) rfl (fun W hW => by go_simp) H2 ?_
  simp only [Act.put, List.setIfInBounds_toArray, List.set_cons_zero, List.set_cons_succ]
  refine wpAnyH_done (by kernel_rfl) ?_ _
  refine NoPanic.normal ?_
  obtain ⟨ro, rc, rfl, hv⟩ := A2.vl
  go_wp2
  go_ret
  exact ⟨ro, rc, rfl, hv, E2⟩
end Go.Proofs.YtiabdcejibeciaaDoor

/-
  Texts in one: PChg, PChgW.
-/
import Derived.Test.YtlljmhcgjkolpaaGreatDoorSplitCutsQFL
import Derived.Test.YtlljmhcgjkolpaaGreatDoorSplitCutsQ3
namespace Go.Proofs.YtlljmhcgjkolpaaGreatDoor
open Go.RowKit
theorem kinfo : (Tryz.prog.info? 25).map (fun i => (i.zero, i.size, i.bytes)) = some (some (.slice none 0 0), 1, 24) := by kernel_rfl
theorem ninfo : (Tryz.prog.info? 136).map (fun i => (i.zero, i.size, i.bytes)) = some (some (.pointer none), 1, 8) := by kernel_rfl
theorem Apd.base {w : World} {b b' : Nat} {e : TypeId} {v : Value} {n : Nat} {vs : List Value} (h : Apd w b e v n vs) (hb : b' ≤ b) : Apd w b' e v n vs := by
  rcases h with h | h
  · exact .inl h
  · exact .inr (own_base h hb)
theorem ksize (w : World) : (sizeOf 25).run Tryz.prog w = .ok 1 w := size1 _ (by kernel_rfl) w
theorem nsize (w : World) : (sizeOf 136).run Tryz.prog w = .ok 1 w := size1 _ (by kernel_rfl) w
open Go.RowKit
set_option maxHeartbeats 1000000 in
set_option maxRecDepth 100000 in
theorem chgK_any (w : World) (ao bo : Option Addr) (n cap m c i j : Nat) (vs ys : List Value) (h : VL w ao n cap vs) (hx : VL w bo m c ys) (h1 : ∀ u ∈ vs, u.oneCell' = true) (h2 : ∀ u ∈ ys, u.oneCell' = true) (hij : i ≤ j) (hj : j ≤ n) (hn : n + m ≤ 1000000) :
    Calls Tryz.prog 138 #[.slice ao n cap, .int .i64 i, .int .i64 j, .slice bo m c] w fun e w' =>
      ∃ ro rc, e = .returned (.slice ro (i + m + (n - j)) rc) ∧ VL w' ro (i + m + (n - j)) rc (vs.take i ++ ys ++ vs.drop j) ∧ Below w.heap.size w w' := by
  obtain ⟨i0, hi, hz0, hz1, hz2⟩ := info_parts kinfo
  have hle := h.le
  have F1 : ∀ W, _ := fun W => run_front (P := Tryz.prog) (W := W) (t := 99) (ao := ao) (n := n) (cap := cap) (i := i) (c := i) Tryz.underlying99 (Nat.le_refl _) (by omega) ksize
  have F2 : ∀ W, _ := fun W => run_back (P := Tryz.prog) (W := W) (t := 99) (ao := ao) (n := n) (cap := cap) (j := j) Tryz.underlying99 (by omega) ksize
  go_enter Tryz.func138, Tryz.ntmps138
  go_wp2
  have HS : Hid (∀ V, Below w.heap.size w V → True) := fun _ _ => trivial
  have E0 : Below w.heap.size w w.drew := (Below.refl _ _).drew
  refine wp_region_noPanic ?_
  refine wp_region_held_drew (S := fun V => True) (by kernel_rfl) (HS.out _ E0) (fun H0 => ?_)
  obtain ⟨v0, hv0⟩ : ∃ v, v = w.drew := ⟨_, rfl⟩
  rw [← hv0] at E0 ⊢
  clear hv0
  refine hr_take_w 0 (some 9) (.slice ao n cap) rfl rfl (by kernel_rfl) (by kernel_rfl) (by kernel_rfl) rfl (fun W hW => by go_simp) H0 ?_
  simp only [FL]
  refine hr_take_w 1 (some 10) (.int .i64 i) rfl rfl (by kernel_rfl) (by kernel_rfl) (by kernel_rfl) rfl (fun W hW => by go_simp) H0 ?_
  simp only [FL]
  refine hr_take_w 2 (some 11) (.int .i64 i) rfl rfl (by kernel_rfl) (by kernel_rfl) (by kernel_rfl) rfl (fun W hW => by go_simp) H0 ?_
  simp only [FL]
  refine hr_take_w 3 (some 12) (.slice ao i i) rfl rfl (by kernel_rfl) (by kernel_rfl) (by kernel_rfl) rfl (fun W hW => by simp [execOp, Act.eval, F1]) H0 ?_
  simp only [FL]
  refine hr_take_w 4 (some 13) (.slice bo m c) rfl rfl (by kernel_rfl) (by kernel_rfl) (by kernel_rfl) rfl (fun W hW => by go_simp) H0 ?_
  simp only [FL]
  refine hr_take_w 6 (some 15) (.slice ao n cap) rfl rfl (by kernel_rfl) (by kernel_rfl) (by kernel_rfl) rfl (fun W hW => by go_simp) H0 ?_
  simp only [FL]
  refine hr_take_w 7 (some 16) (.int .i64 j) rfl rfl (by kernel_rfl) (by kernel_rfl) (by kernel_rfl) rfl (fun W hW => by go_simp) H0 ?_
  simp only [FL]
  refine hr_take_w 8 (some 17) (.slice (bk ao cap j) (n - j) (cap - j)) rfl rfl (by kernel_rfl) (by kernel_rfl) (by kernel_rfl) rfl (fun W hW => by simp [execOp, Act.eval, F2]) H0 ?_
  simp only [FL]
  refine hr_ex 5 (some 14) rfl rfl (by kernel_rfl) rfl (R := fun v w' => Apd w' w.heap.size 25 v (i + m) (vs.take i ++ ys) ∧ Below v0.heap.size v0 w') (by obtain ⟨v', w', hr, h3, h4⟩ := run_apd (P := Tryz.prog) (w := v0) (base := v0.heap.size) (t := 99) (ty := 99) Tryz.underlying99 hi hz0 hz1 hz2 rfl (.inl ⟨ao, rfl, (h.below E0).front i i (by omega) (Nat.le_refl _) (by omega)⟩) (Nat.le_refl _) (hx.below E0) h2 (by omega) (by decide); exact ⟨v', w', by simp [execOp, Act.eval, resolve, invoke, builtin, hr], h3.base E0.size, h4⟩) ?_
  rintro v v1 ⟨A1, C0⟩
  have E1 := E0.trans (C0.mono E0.size)
  have H1 := HS.out v1 E1
  refine ⟨H1, ?_⟩
  simp only [FL]
  refine hr_ex 9 (some 18) rfl rfl (by kernel_rfl) rfl (R := fun u w' => Apd w' w.heap.size 25 u (i + m + (n - j)) (vs.take i ++ ys ++ vs.drop j) ∧ Below w.heap.size v1 w') (by obtain ⟨v', w', hr, h3, h4⟩ := run_apd (P := Tryz.prog) (w := v1) (base := w.heap.size) (t := 99) (ty := 99) Tryz.underlying99 hi hz0 hz1 hz2 rfl A1 E1.size ((h.below E1).from j hj) (fun u hu => h1 u (List.mem_of_mem_drop hu)) (by omega) (by decide); exact ⟨v', w', by simp [execOp, Act.eval, resolve, invoke, builtin, hr], h3, h4⟩) ?_
  rintro v v2 ⟨A2, C1⟩
  have E2 := E1.trans C1
  have H2 := HS.out v2 E2
  refine ⟨H2, ?_⟩
  simp only [FL]
  refine hr_take_w 10 (some 8) (v) rfl rfl (by kernel_rfl) (by kernel_rfl) (by kernel_rfl) rfl (fun W hW => by go_simp) H2 ?_
  simp only [FL]
  refine wpAnyH_done (by kernel_rfl) ?_ _
  refine NoPanic.normal ?_
  obtain ⟨ro, rc, rfl, hv⟩ := A2.vl
  go_wp2
  go_ret
  exact ⟨ro, rc, rfl, hv, E2⟩
set_option maxHeartbeats 1000000 in
set_option maxRecDepth 100000 in
theorem chgN_any (w : World) (ao bo : Option Addr) (n cap m c i j : Nat) (vs ys : List Value) (h : VL w ao n cap vs) (hx : VL w bo m c ys) (h1 : ∀ u ∈ vs, u.oneCell' = true) (h2 : ∀ u ∈ ys, u.oneCell' = true) (hij : i ≤ j) (hj : j ≤ n) (hn : n + m ≤ 1000000) :
    Calls Tryz.prog 139 #[.slice ao n cap, .int .i64 i, .int .i64 j, .slice bo m c] w fun e w' =>
      ∃ ro rc, e = .returned (.slice ro (i + m + (n - j)) rc) ∧ VL w' ro (i + m + (n - j)) rc (vs.take i ++ ys ++ vs.drop j) ∧ Below w.heap.size w w' := by
  obtain ⟨i0, hi, hz0, hz1, hz2⟩ := info_parts ninfo
  have hle := h.le
  have F1 : ∀ W, _ := fun W => run_front (P := Tryz.prog) (W := W) (t := 174) (ao := ao) (n := n) (cap := cap) (i := i) (c := i) Tryz.underlying174 (Nat.le_refl _) (by omega) nsize
  have F2 : ∀ W, _ := fun W => run_back (P := Tryz.prog) (W := W) (t := 174) (ao := ao) (n := n) (cap := cap) (j := j) Tryz.underlying174 (by omega) nsize
  go_enter Tryz.func139, Tryz.ntmps139
  go_wp2
  have HS : Hid (∀ V, Below w.heap.size w V → True) := fun _ _ => trivial
  have E0 : Below w.heap.size w w.drew := (Below.refl _ _).drew
  refine wp_region_noPanic ?_
  refine wp_region_held_drew (S := fun V => True) (by kernel_rfl) (HS.out _ E0) (fun H0 => ?_)
  obtain ⟨v0, hv0⟩ : ∃ v, v = w.drew := ⟨_, rfl⟩
  rw [← hv0] at E0 ⊢
  clear hv0
  refine hr_take_w 0 (some 9) (.slice ao n cap) rfl rfl (by kernel_rfl) (by kernel_rfl) (by kernel_rfl) rfl (fun W hW => by go_simp) H0 ?_
  simp only [FL]
  refine hr_take_w 1 (some 10) (.int .i64 i) rfl rfl (by kernel_rfl) (by kernel_rfl) (by kernel_rfl) rfl (fun W hW => by go_simp) H0 ?_
  simp only [FL]
  refine hr_take_w 2 (some 11) (.int .i64 i) rfl rfl (by kernel_rfl) (by kernel_rfl) (by kernel_rfl) rfl (fun W hW => by go_simp) H0 ?_
  simp only [FL]
  refine hr_take_w 3 (some 12) (.slice ao i i) rfl rfl (by kernel_rfl) (by kernel_rfl) (by kernel_rfl) rfl (fun W hW => by simp [execOp, Act.eval, F1]) H0 ?_
  simp only [FL]
  refine hr_take_w 4 (some 13) (.slice bo m c) rfl rfl (by kernel_rfl) (by kernel_rfl) (by kernel_rfl) rfl (fun W hW => by go_simp) H0 ?_
  simp only [FL]
  refine hr_take_w 6 (some 15) (.slice ao n cap) rfl rfl (by kernel_rfl) (by kernel_rfl) (by kernel_rfl) rfl (fun W hW => by go_simp) H0 ?_
  simp only [FL]
  refine hr_take_w 7 (some 16) (.int .i64 j) rfl rfl (by kernel_rfl) (by kernel_rfl) (by kernel_rfl) rfl (fun W hW => by go_simp) H0 ?_
  simp only [FL]
  refine hr_take_w 8 (some 17) (.slice (bk ao cap j) (n - j) (cap - j)) rfl rfl (by kernel_rfl) (by kernel_rfl) (by kernel_rfl) rfl (fun W hW => by simp [execOp, Act.eval, F2]) H0 ?_
  simp only [FL]
  refine hr_ex 5 (some 14) rfl rfl (by kernel_rfl) rfl (R := fun v w' => Apd w' w.heap.size 136 v (i + m) (vs.take i ++ ys) ∧ Below v0.heap.size v0 w') (by obtain ⟨v', w', hr, h3, h4⟩ := run_apd (P := Tryz.prog) (w := v0) (base := v0.heap.size) (t := 174) (ty := 174) Tryz.underlying174 hi hz0 hz1 hz2 rfl (.inl ⟨ao, rfl, (h.below E0).front i i (by omega) (Nat.le_refl _) (by omega)⟩) (Nat.le_refl _) (hx.below E0) h2 (by omega) (by decide); exact ⟨v', w', by simp [execOp, Act.eval, resolve, invoke, builtin, hr], h3.base E0.size, h4⟩) ?_
  rintro v v1 ⟨A1, C0⟩
  have E1 := E0.trans (C0.mono E0.size)
  have H1 := HS.out v1 E1
  refine ⟨H1, ?_⟩
  simp only [FL]
  refine hr_ex 9 (some 18) rfl rfl (by kernel_rfl) rfl (R := fun u w' => Apd w' w.heap.size 136 u (i + m + (n - j)) (vs.take i ++ ys ++ vs.drop j) ∧ Below w.heap.size v1 w') (by obtain ⟨v', w', hr, h3, h4⟩ := run_apd (P := Tryz.prog) (w := v1) (base := w.heap.size) (t := 174) (ty := 174) Tryz.underlying174 hi hz0 hz1 hz2 rfl A1 E1.size ((h.below E1).from j hj) (fun u hu => h1 u (List.mem_of_mem_drop hu)) (by omega) (by decide); exact ⟨v', w', by simp [execOp, Act.eval, resolve, invoke, builtin, hr], h3, h4⟩) ?_
  rintro v v2 ⟨A2, C1⟩
  have E2 := E1.trans C1
  have H2 := HS.out v2 E2
  refine ⟨H2, ?_⟩
  simp only [FL]
  refine hr_take_w 10 (some 8) (v) rfl rfl (by kernel_rfl) (by kernel_rfl) (by kernel_rfl) rfl (fun W hW => by go_simp) H2 ?_
  simp only [FL]
  refine wpAnyH_done (by kernel_rfl) ?_ _
  refine NoPanic.normal ?_
  obtain ⟨ro, rc, rfl, hv⟩ := A2.vl
  go_wp2
  go_ret
  exact ⟨ro, rc, rfl, hv, E2⟩
end Go.Proofs.YtlljmhcgjkolpaaGreatDoor

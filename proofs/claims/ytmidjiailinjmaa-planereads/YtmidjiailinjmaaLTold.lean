/-
  plain, told, Norm, alive.
-/
import Derived.Test.YtmidjiailinjmaaRIs
namespace Go.Proofs.Ytmidjiailinjmaa
open Go.RowKit

theorem neq_zero {b : Nat} {s : Bool} {n : Int} (h : FV b s n) (hn : n ≠ 0) : (FloatKind.f64.format.order b 0 != some .eq) = true := by
  have c : FV 0 (decide ((0 : Int) < 0)) 0 := by rw [← fw_zero]; exact fv _ (by decide)
  have := h.eql c
  rw [decide_eq_false hn] at this
  rw [bne, this]
  rfl
theorem same_float (n : Int) (hn : n.natAbs < 9007199254740992) : (FloatKind.f64.format.order (fw n) (floatOfInt .f64 n) == some .eq) = true := by
  rw [floatOfInt_fw n hn, (fv n hn).eql (fv n hn), decide_eq_true rfl]
theorem zero_same : (FloatKind.f64.format.order 0 (floatOfInt .f64 0) == some .eq) = true := same_float 0 (by decide)
theorem zero_eq : (FloatKind.f64.format.order 0 0 != some .eq) = false := by decide

set_option maxHeartbeats 2000000 in
set_option maxRecDepth 100000 in
theorem lplain_any (w : World) (m n : Int) (hm : m.natAbs < 9007199254740992) (hn : n.natAbs < 9007199254740992) :
    Calls Try.prog 12 #[.complex .f64 (fw m) (fw n), .agg #[.int .i64 m, .int .i64 n]] w fun e w' => e = .returned (.bool true) ∧ Below w.heap.size w w' := by
  have k1 : PC (w.alloc (.cells #[.int .i64 m, .int .i64 n] 28)) w.heap.size m n := heap_alloc_new w _
  have B1 : Below w.heap.size w (w.alloc (.cells #[.int .i64 m, .int .i64 n] 28)) := (Below.refl _ w).alloc (Nat.le_refl _) _
  have hq : ∀ t W, (binOp .quo t (.float .f64 4607182418800017408) (.float .f64 0)).run Try.prog W = .ok (.float .f64 9218868437227405312) W := fun t W => run_float_arith W .quo t .f64 _ _ _ quo_zero
  have hi := inf_above
  have s1 := same_float m hm
  have s2 := same_float n hn
  have r0 := k1.c0
  have r1 := k1.c1
  have hz := zero_eq
  by_cases c1 : m = 0
  · subst c1
    rw [fw_zero] at s1 ⊢
    by_cases c2 : n = 0
    · subst c2
      rw [fw_zero]
      clear s2 hm hn
      go_enter Try.func12, Try.ntmps12
      go_wp2_with (simp only [hq])
      go_ret
      exact ⟨rfl, B1⟩
    · have t2 := neq_zero (fv n hn) c2
      clear hm hn c2
      go_enter Try.func12, Try.ntmps12
      go_wp2_with (simp only [hq])
      go_ret
      exact ⟨rfl, B1⟩
  · have t1 := neq_zero (fv m hm) c1
    by_cases c2 : n = 0
    · subst c2
      rw [fw_zero] at s2 ⊢
      clear hm hn c1
      go_enter Try.func12, Try.ntmps12
      go_wp2_with (simp only [hq])
      go_ret
      exact ⟨rfl, B1⟩
    · have t2 := neq_zero (fv n hn) c2
      clear hm hn c2 c1
      go_enter Try.func12, Try.ntmps12
      go_wp2_with (simp only [hq])
      go_ret
      exact ⟨rfl, B1⟩

set_option maxHeartbeats 2000000 in
set_option maxRecDepth 100000 in
theorem ltold_ok (w : World) (m n : Int) (hm : m.natAbs < 9007199254740992) (hn : n.natAbs < 9007199254740992) :
    Calls Try.prog 7 #[.complex .f64 (fw m) (fw n), .int .i64 0, .agg #[.int .i64 m, .int .i64 n], .int .i64 0] w fun e w' => e = .returned (.bool true) ∧ Below w.heap.size w w' := by
  have k1 : PC (w.alloc (.cells #[.int .i64 m, .int .i64 n] 28)) w.heap.size m n := heap_alloc_new w _
  have B1 : Below w.heap.size w (w.alloc (.cells #[.int .i64 m, .int .i64 n] 28)) := (Below.refl _ w).alloc (Nat.le_refl _) _
  have r0 := k1.c0
  have r1 := k1.c1
  go_enter Try.func7, Try.ntmps7
  go_wp2_with fail
  refine (lplain_any _ m n hm hn).mono ?_
  rintro e w' ⟨rfl, C⟩
  have B2 := B1.trans (C.mono B1.size)
  clear C
  go_wp2
  go_ret
  exact ⟨rfl, B2⟩

set_option maxHeartbeats 2000000 in
set_option maxRecDepth 100000 in
theorem ltold_bad (w : World) (x y : Int) :
    Calls Try.prog 7 #[.complex .f64 0 0, .int .i64 5, .agg #[.int .i64 x, .int .i64 y], .int .i64 5] w fun e w' => e = .returned (.bool true) ∧ Below w.heap.size w w' := by
  have B1 : Below w.heap.size w (w.alloc (.cells #[.int .i64 x, .int .i64 y] 28)) := (Below.refl _ w).alloc (Nat.le_refl _) _
  have L : Hid (∀ W, Calls Try.prog 12 #[.complex .f64 0 0, .agg #[.int .i64 0, .int .i64 0]] W fun e w' => e = .returned (.bool true) ∧ Below W.heap.size W w') := fun W => by
    have := lplain_any W 0 0 (by decide) (by decide)
    rw [fw_zero] at this
    exact this
  go_enter Try.func7, Try.ntmps7
  go_wp2_with fail
  refine (L.out _).mono ?_
  rintro e w' ⟨rfl, C⟩
  have B2 := B1.trans (C.mono B1.size)
  clear C
  go_wp2
  go_ret
  exact ⟨rfl, B2⟩

theorem neg_four : Op.negFloat .f64 4616189618054758400 = 13839561654909534208 := by decide
theorem mul_mirror : cMulBits 4613937818241073152 4616189618054758400 4613937818241073152 13839561654909534208 = some (4627730092099895296, 0) := by decide
theorem to_25 : floatToIntVal .f64 4627730092099895296 .u64 = some 25 := by decide

set_option maxHeartbeats 2000000 in
set_option maxRecDepth 100000 in
theorem pnorm_34 (w : World) :
    Calls Try.prog 9 #[.complex .f64 4613937818241073152 4616189618054758400] w fun e w' => e = .returned (.tuple #[.int .u64 25, .int .i64 0]) ∧ w' = w := by
  have F3 : FV 4613937818241073152 (decide ((3 : Int) < 0)) 3 := by rw [← fw_three]; exact fv _ (by decide)
  have F4 : FV 4616189618054758400 (decide ((4 : Int) < 0)) 4 := by rw [← fw_four]; exact fv _ (by decide)
  have hm : ∀ t W, (binOp .mul t (.complex .f64 4613937818241073152 4616189618054758400) (.complex .f64 4613937818241073152 13839561654909534208)).run Try.prog W = .ok (.complex .f64 4627730092099895296 0) W := fun t W => run_complex_mul W t _ _ _ _ _ _ mul_mirror
  have hcv : ∀ W, (convert 39 35 (.float .f64 4627730092099895296)).run Try.prog W = .ok (.int .u64 25) W := fun W => run_convert_float_int W 39 35 .f64 .u64 _ 25 (by rw [Try.underlying39]; rfl) Try.underlying35 to_25
  have hng : ∀ W, (Op.unary .neg (.float .f64 4616189618054758400)).run Try.prog W = .ok (.float .f64 13839561654909534208) W := fun W => by
    rw [← neg_four]
    rfl
  go_enter Try.func9, Try.ntmps9
  go_wp2_with fail
  refine (pright_any w _ _ _ _ 3 4 F3 F4).mono ?_
  rintro e w' ⟨rfl, hw⟩
  obtain rfl := hw.symm
  have hi : (inP 3 && inP 4) = true := by decide
  rw [hi]
  simp only [if_true]
  clear hi F3 F4
  go_wp2_with (simp only [hm, hcv, hng])
  go_ret2
  exact ⟨rfl, rfl⟩

set_option maxHeartbeats 2000000 in
set_option maxRecDepth 100000 in
theorem alive_any (w : World) :
    Calls Try.prog 4 #[] w fun e w' => e = .returned (.bool true) ∧ Below w.heap.size w w' := by
  have F0 : FV 0 (decide ((0 : Int) < 0)) 0 := by rw [← fw_zero]; exact fv _ (by decide)
  go_enter Try.func4, Try.ntmps4
  go_wp2_with fail
  refine (prow_any w 0 0 _ _ 0 0 F0 F0 (by decide)).mono ?_
  rintro e w1 ⟨⟨r, rfl, hr⟩, B1⟩
  obtain rfl : r = ⟨#[112, 3, 0, 0, 0, 0, 0]⟩ := by
    apply sb_inj
    rw [hr]
    decide
  clear hr F0
  go_wp2_with fail
  refine (pnorm_34 w1).mono ?_
  rintro e w' ⟨rfl, hw⟩
  obtain rfl := hw.symm
  go_wp2
  go_ret
  exact ⟨rfl, B1⟩
end Go.Proofs.Ytmidjiailinjmaa

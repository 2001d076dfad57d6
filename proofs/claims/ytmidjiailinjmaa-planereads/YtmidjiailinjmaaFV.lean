/-
  Words of whole floats: what the operations give.
-/
import Derived.Test.YtmidjiailinjmaaFW
namespace Go.Proofs.Ytmidjiailinjmaa
open Ieee

/-- The float whose word is b is the whole number n, with the sign s. -/
structure FV (b : Nat) (s : Bool) (n : Int) : Prop where
  word : b = fb s n.natAbs
  lt : n.natAbs < 9007199254740992
  neg : n < 0 → s = true
  pos : 0 < n → s = false
/-- The word of a whole number, a nought without a sign. -/
def fw (n : Int) : Nat := fb (decide (n < 0)) n.natAbs
theorem FV.st {b : Nat} {s : Bool} {n : Int} (h : FV b s n) : St (double.read b) s n := by
  rw [h.word]; exact st_fb s n h.lt h.neg h.pos
theorem FV.of_st {d : Datum} {s : Bool} {n : Int} (h : St d s n) (hn : n.natAbs < 9007199254740992) : FV (double.write d) s n := by
  refine ⟨h.write hn, hn, ?_, ?_⟩
  · obtain ⟨_, _, h1, _⟩ := h; exact h1
  · obtain ⟨_, _, _, h2⟩ := h; exact h2
theorem fv (n : Int) (h : n.natAbs < 9007199254740992) : FV (fw n) (decide (n < 0)) n := ⟨rfl, h, fun c => decide_eq_true c, fun c => decide_eq_false (by omega)⟩
theorem FV.fw {b : Nat} {n : Int} (h : FV b (decide (n < 0)) n) : b = fw n := h.word
theorem FV.add {a b : Nat} {s t : Bool} {m n : Int} (h : FV a s m) (k : FV b t n) (hl : (m + n).natAbs < 9007199254740992) : ∃ r, floatBits .add .f64 a b = some r ∧ FV r (if m + n = 0 then s && t else decide (m + n < 0)) (m + n) := by
  obtain ⟨f, e, hf⟩ := h.st.sum k.st
  refine ⟨double.write f, ?_, FV.of_st hf hl⟩
  show ((double.read a).sum (double.read b)).map double.write = _
  rw [e]; rfl
theorem FV.sub {a b : Nat} {s t : Bool} {m n : Int} (h : FV a s m) (k : FV b t n) (hl : (m - n).natAbs < 9007199254740992) : ∃ r, floatBits .sub .f64 a b = some r ∧ FV r (if m - n = 0 then s && !t else decide (m - n < 0)) (m - n) := by
  obtain ⟨f, e, hf⟩ := h.st.sum k.st.opposite
  rw [← Int.sub_eq_add_neg] at hf
  refine ⟨double.write f, ?_, FV.of_st hf hl⟩
  show ((double.read a).sum (double.read b).opposite).map double.write = _
  rw [e]; rfl
theorem FV.mul {a b : Nat} {s t : Bool} {m n : Int} (h : FV a s m) (k : FV b t n) (hl : (m * n).natAbs < 9007199254740992) : ∃ r, floatBits .mul .f64 a b = some r ∧ FV r (s ^^ t) (m * n) := by
  obtain ⟨f, e, hf⟩ := h.st.product k.st
  refine ⟨double.write f, ?_, FV.of_st hf hl⟩
  show ((double.read a).product (double.read b)).map double.write = _
  rw [e]; rfl
theorem FV.order {a b : Nat} {s t : Bool} {m n : Int} (h : FV a s m) (k : FV b t n) : FloatKind.f64.format.order a b = some (compare m n) := h.st.order k.st
theorem FV.toInt {b : Nat} {s : Bool} {n : Int} (h : FV b s n) (k : IntKind) (h1 : k.min ≤ n) (h2 : n ≤ k.max) : floatToIntVal .f64 b k = some n := by
  unfold floatToIntVal
  have : (FloatKind.f64.decode b).toInt .zero = some n := h.st.toInt .zero
  rw [this]
  exact if_pos ⟨h1, h2⟩
theorem FV.integral {b : Nat} {s : Bool} {n : Int} (h : FV b s n) (way : Toward) : FloatKind.f64.encode ((FloatKind.f64.decode b).integral way) = b := by
  rw [h.word]
  have := (h.st.integral way).write h.lt
  rw [h.word] at this
  exact this
theorem floatOfInt_fw (n : Int) (h : n.natAbs < 9007199254740992) : floatOfInt .f64 n = fw n := by
  have := nearest_st (decide (n < 0)) n.natAbs 0 h
  rw [Nat.pow_zero, Nat.mul_one] at this
  exact this
theorem FV.eql {a b : Nat} {s t : Bool} {m n : Int} (h : FV a s m) (k : FV b t n) : (FloatKind.f64.format.order a b == some .eq) = decide (m = n) := by
  rw [h.order k]
  rcases Int.lt_trichotomy m n with c | c | c
  · rw [Int.compare_eq_lt.2 c, decide_eq_false (by omega)]; rfl
  · rw [Int.compare_eq_eq.2 c, decide_eq_true c]; rfl
  · rw [Int.compare_eq_gt.2 c, decide_eq_false (by omega)]; rfl
theorem FV.leq {a b : Nat} {s t : Bool} {m n : Int} (h : FV a s m) (k : FV b t n) : (FloatKind.f64.format.order a b == some .lt || FloatKind.f64.format.order a b == some .eq) = decide (m ≤ n) := by
  rw [h.order k]
  rcases Int.lt_trichotomy m n with c | c | c
  · rw [Int.compare_eq_lt.2 c, decide_eq_true (by omega)]; rfl
  · rw [Int.compare_eq_eq.2 c, decide_eq_true (by omega)]; rfl
  · rw [Int.compare_eq_gt.2 c, decide_eq_false (by omega)]; rfl
theorem FV.gtr {a b : Nat} {s t : Bool} {m n : Int} (h : FV a s m) (k : FV b t n) : (FloatKind.f64.format.order a b == some .gt) = decide (n < m) := by
  rw [h.order k]
  rcases Int.lt_trichotomy m n with c | c | c
  · rw [Int.compare_eq_lt.2 c, decide_eq_false (by omega)]; rfl
  · rw [Int.compare_eq_eq.2 c, decide_eq_false (by omega)]; rfl
  · rw [Int.compare_eq_gt.2 c, decide_eq_true (by omega)]; rfl
theorem FV.nan {b : Nat} {s : Bool} {n : Int} (h : FV b s n) : ∃ s m e, FloatKind.f64.decode b = .number s m e := by
  obtain ⟨j, e, _⟩ := h.st
  exact ⟨_, _, _, e⟩
/-- The constants of the texts. -/
theorem fw_max : fw 1048576 = 4697254411347427328 := by decide
theorem fw_min : fw (-1048576) = 13920626448202203136 := by decide
theorem fw_zero : fw 0 = 0 := by decide
theorem fw_three : fw 3 = 4613937818241073152 := by decide
theorem fw_four : fw 4 = 4616189618054758400 := by decide
/-- One over a nought without a sign is above nought. -/
theorem quo_zero : floatBits .quo .f64 4607182418800017408 0 = some 9218868437227405312 := by decide
theorem inf_above : (FloatKind.f64.format.order 9218868437227405312 0 == some .gt) = true := by decide
end Go.Proofs.Ytmidjiailinjmaa

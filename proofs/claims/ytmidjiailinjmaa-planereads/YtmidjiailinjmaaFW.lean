/-
  Floats that are whole numbers: their words, sums, products, order.
-/
import Derived.WalkLawsBesides
namespace Go.Proofs.Ytmidjiailinjmaa
open Ieee

/-- The word of a whole number below 2^53, with a sign. -/
def fb (s : Bool) (n : Nat) : Nat := double.word s (if n = 0 then 0 else (n.log2 + 1022) * 4503599627370496 + n * 2 ^ (52 - n.log2))

theorem log2_bounds {n : Nat} (h0 : n ≠ 0) (h : n < 9007199254740992) : n.log2 ≤ 52 ∧ 4503599627370496 ≤ n * 2 ^ (52 - n.log2) ∧ n * 2 ^ (52 - n.log2) < 9007199254740992 := by
  have h1 : n.log2 ≤ 52 := by
    have : n.log2 < 53 := (Nat.log2_lt h0).2 (by simpa using h)
    omega
  have h2 := Nat.log2_self_le h0
  have h3 : n < 2 ^ (n.log2 + 1) := (Nat.log2_lt h0).1 (Nat.lt_succ_self _)
  refine ⟨h1, ?_, ?_⟩
  · have : 2 ^ n.log2 * 2 ^ (52 - n.log2) ≤ n * 2 ^ (52 - n.log2) := Nat.mul_le_mul_right _ h2
    rw [← Nat.pow_add, show n.log2 + (52 - n.log2) = 52 by omega] at this
    simpa using this
  · have : n * 2 ^ (52 - n.log2) < 2 ^ (n.log2 + 1) * 2 ^ (52 - n.log2) := Nat.mul_lt_mul_of_pos_right h3 (Nat.two_pow_pos _)
    rw [← Nat.pow_add, show n.log2 + 1 + (52 - n.log2) = 53 by omega] at this
    simpa using this

theorem word_read (s : Bool) (r : Nat) (h : r < 9223372036854775808) : (double.word s r / 9223372036854775808 % 2 == 1) = s ∧ double.word s r % 9223372036854775808 = r := by
  have hs : double.signWeight = 9223372036854775808 := by decide
  unfold Format.word
  rw [hs]
  cases s
  · simp only [Bool.false_eq_true, if_false]
    refine ⟨?_, by omega⟩
    have : r / 9223372036854775808 % 2 = 0 := by omega
    rw [this]; rfl
  · simp only [if_true]
    refine ⟨?_, by omega⟩
    have : (9223372036854775808 + r) / 9223372036854775808 % 2 = 1 := by omega
    rw [this]; rfl

/-- A datum that is the whole number n, with the sign s. -/
def St (d : Datum) (s : Bool) (n : Int) : Prop := ∃ j : Nat, d = .number s (n.natAbs * 2 ^ j) (-(j : Int)) ∧ (n < 0 → s = true) ∧ (0 < n → s = false)

theorem read_fb (s : Bool) (n : Nat) (h : n < 9007199254740992) : ∃ j : Nat, double.read (fb s n) = .number s (n * 2 ^ j) (-(j : Int)) := by
  have hs : double.signWeight = 9223372036854775808 := by decide
  have hb : double.binade = 4503599627370496 := by decide
  have hi : double.infRung = 9218868437227405312 := by decide
  have hl : double.leastPlace = -1074 := by decide
  by_cases h0 : n = 0
  · subst h0
    obtain ⟨j, hj⟩ : ∃ j : Nat, (-(j : Int)) = -1074 := ⟨_, rfl⟩
    refine ⟨j, ?_⟩
    rw [hj, Nat.zero_mul]
    unfold fb
    obtain ⟨e1, e2⟩ := word_read s 0 (by omega)
    unfold Format.read
    simp only [if_true, hs, hb, hi, hl, e1, e2]
    rfl
  · obtain ⟨h1, h2, h3⟩ := log2_bounds h0 h
    refine ⟨52 - n.log2, ?_⟩
    unfold fb
    rw [if_neg h0]
    generalize hk : n.log2 = k at *
    generalize hm : n * 2 ^ (52 - k) = m at *
    have hr : (k + 1022) * 4503599627370496 + m < 9223372036854775808 := by omega
    obtain ⟨e1, e2⟩ := word_read s _ hr
    unfold Format.read
    simp only [hs, hb, hi, hl, e1, e2]
    rw [if_neg (by omega), if_pos (by omega)]
    have a1 : ((k + 1022) * 4503599627370496 + m) % 4503599627370496 = m - 4503599627370496 := by omega
    have a2 : ((k + 1022) * 4503599627370496 + m) / 4503599627370496 = k + 1023 := by omega
    rw [a1, a2]
    have a3 : 4503599627370496 + (m - 4503599627370496) = m := by omega
    have a4 : (-1074 : Int) + ((k + 1023 - 1 : Nat) : Int) = -((52 - k : Nat) : Int) := by omega
    rw [a3, a4]

theorem cut_exact (s : Bool) (way : Toward) (q drop : Nat) (hq : q ≠ 0) : way.cut s (q * 2 ^ drop) drop = q := by
  have hl : (q * 2 ^ drop).log2 = q.log2 + drop := by
    rw [Nat.log2_eq_iff (Nat.mul_ne_zero hq (Nat.pos_iff_ne_zero.1 (Nat.two_pow_pos _)))]
    have h2 := Nat.log2_self_le hq
    have h3 : q < 2 ^ (q.log2 + 1) := (Nat.log2_lt hq).1 (Nat.lt_succ_self _)
    constructor
    · rw [Nat.pow_add]; exact Nat.mul_le_mul_right _ h2
    · rw [show q.log2 + drop + 1 = q.log2 + 1 + drop by omega, Nat.pow_add]
      exact Nat.mul_lt_mul_of_pos_right h3 (Nat.two_pow_pos _)
  unfold Toward.cut
  rw [hl, Nat.min_eq_left (by omega)]
  simp only [Nat.one_shiftLeft]
  rw [Nat.mul_div_cancel _ (Nat.two_pow_pos _), Nat.mul_mod_left]
  have hp := Nat.two_pow_pos drop
  cases way
  · have e1 : decide (2 ^ drop < 2 * 0) = false := by simp
    have e2 : (2 ^ drop == 2 * 0) = false := by
      rw [beq_eq_false_iff_ne]; omega
    simp only [e1, e2]
    rfl
  · simp
  · simp
  · rfl

theorem nearest_st (s : Bool) (n j : Nat) (h : n < 9007199254740992) : double.nearest s (n * 2 ^ j) (-(j : Int)) = fb s n := by
  have hb : double.binade = 4503599627370496 := by decide
  have hi : double.infRung = 9218868437227405312 := by decide
  have hl : double.leastPlace = -1074 := by decide
  have hf : double.fractionBits = 52 := rfl
  unfold Format.nearest fb
  by_cases h0 : n = 0
  · subst h0
    simp
  · obtain ⟨h1, h2, h3⟩ := log2_bounds h0 h
    have hn : n * 2 ^ j ≠ 0 := Nat.mul_ne_zero h0 (Nat.pos_iff_ne_zero.1 (Nat.two_pow_pos _))
    have hlg : (n * 2 ^ j).log2 = n.log2 + j := by
      rw [Nat.log2_eq_iff hn]
      have h2 := Nat.log2_self_le h0
      have h3 : n < 2 ^ (n.log2 + 1) := (Nat.log2_lt h0).1 (Nat.lt_succ_self _)
      constructor
      · rw [Nat.pow_add]; exact Nat.mul_le_mul_right _ h2
      · rw [show n.log2 + j + 1 = n.log2 + 1 + j by omega, Nat.pow_add]
        exact Nat.mul_lt_mul_of_pos_right h3 (Nat.two_pow_pos _)
    rw [if_neg hn, if_neg h0, hlg]
    simp only [hf, hl, hb, hi]
    generalize hk : n.log2 = k at *
    have hlast : max (-(j : Int) + ((k + j : Nat) : Int) - ((52 : Nat) : Int)) (-1074) = (k : Int) - 52 := by omega
    rw [hlast]
    have hkept : Toward.even.cut s ((n * 2 ^ j) <<< (-(j : Int) - ((k : Int) - 52)).toNat) ((k : Int) - 52 - -(j : Int)).toNat = n * 2 ^ (52 - k) := by
      rw [Nat.shiftLeft_eq]
      by_cases c : j + k ≤ 52
      · rw [show (-(j : Int) - ((k : Int) - 52)).toNat = 52 - k - j by omega, show ((k : Int) - 52 - -(j : Int)).toNat = 0 by omega, Nat.mul_assoc, ← Nat.pow_add, show j + (52 - k - j) = 52 - k by omega]
        have := cut_exact s .even (n * 2 ^ (52 - k)) 0 (by omega)
        rwa [Nat.pow_zero, Nat.mul_one] at this
      · rw [show (-(j : Int) - ((k : Int) - 52)).toNat = 0 by omega, Nat.pow_zero, Nat.mul_one]
        have := cut_exact s .even (n * 2 ^ (52 - k)) ((k : Int) - 52 - -(j : Int)).toNat (by omega)
        rwa [Nat.mul_assoc, ← Nat.pow_add, show 52 - k + ((k : Int) - 52 - -(j : Int)).toNat = j by omega] at this
    have hk2 : ((k : Int) - 52 - -1074).toNat = k + 1022 := by omega
    rw [hkept, hk2, Nat.min_eq_left (by omega)]

theorem St.write {d : Datum} {s : Bool} {n : Int} (h : St d s n) (hn : n.natAbs < 9007199254740992) : double.write d = fb s n.natAbs := by
  obtain ⟨j, rfl, _⟩ := h
  exact nearest_st s n.natAbs j hn

theorem st_fb (s : Bool) (n : Int) (hn : n.natAbs < 9007199254740992) (h1 : n < 0 → s = true) (h2 : 0 < n → s = false) : St (double.read (fb s n.natAbs)) s n := by
  obtain ⟨j, h⟩ := read_fb s n.natAbs hn
  exact ⟨j, h, h1, h2⟩

theorem signed_st (s : Bool) (n : Int) (j up : Nat) (h1 : n < 0 → s = true) (h2 : 0 < n → s = false) : signed s (n.natAbs * 2 ^ j) up = n * 2 ^ (j + up) := by
  have e : (((n.natAbs * 2 ^ j) <<< up : Nat) : Int) = (n.natAbs : Int) * 2 ^ (j + up) := by
    rw [Nat.shiftLeft_eq, Nat.mul_assoc, ← Nat.pow_add]
    push_cast
    rfl
  unfold signed
  rw [e]
  rcases Int.lt_trichotomy n 0 with c | c | c
  · rw [h1 c, if_pos rfl, show (n.natAbs : Int) = -n by omega, Int.neg_mul, Int.neg_neg]
  · subst c; simp
  · rw [h2 c, show (n.natAbs : Int) = n by omega]; rfl

theorem natAbs_two (n : Int) (j : Nat) : (n * 2 ^ j).natAbs = n.natAbs * 2 ^ j := by
  have : ((2 : Int) ^ j) = ((2 ^ j : Nat) : Int) := by push_cast; rfl
  rw [Int.natAbs_mul, this, Int.natAbs_natCast]
theorem two_pos (j : Nat) : (0 : Int) < 2 ^ j := Int.pow_pos (by decide)
theorem mul_two_zero (n : Int) (j : Nat) : n * 2 ^ j = 0 ↔ n = 0 := by
  have := two_pos j
  constructor
  · intro h
    rcases Int.mul_eq_zero.1 h with h | h
    · exact h
    · omega
  · rintro rfl; simp
theorem mul_two_neg (n : Int) (j : Nat) : n * 2 ^ j < 0 ↔ n < 0 := by
  have := two_pos j
  constructor
  · intro h
    by_cases c : n < 0
    · exact c
    · have := Int.mul_nonneg (show 0 ≤ n by omega) (Int.le_of_lt this)
      omega
  · intro h
    exact Int.mul_neg_of_neg_of_pos h this

theorem St.sum {d e : Datum} {s t : Bool} {m n : Int} (h : St d s m) (k : St e t n) : ∃ f, d.sum e = some f ∧ St f (if m + n = 0 then s && t else decide (m + n < 0)) (m + n) := by
  obtain ⟨i, rfl, h1, h2⟩ := h
  obtain ⟨j, rfl, k1, k2⟩ := k
  refine ⟨_, rfl, ?_⟩
  have b1 : i + (-(i : Int) - min (-(i : Int)) (-(j : Int))).toNat = max i j := by omega
  have b2 : j + (-(j : Int) - min (-(i : Int)) (-(j : Int))).toNat = max i j := by omega
  rw [signed_st s m i _ h1 h2, signed_st t n j _ k1 k2, b1, b2, ← Int.add_mul]
  refine ⟨max i j, ?_, ?_, ?_⟩
  · rw [natAbs_two]
    have e3 : min (-(i : Int)) (-(j : Int)) = -((max i j : Nat) : Int) := by omega
    rw [e3]
    congr 1
    by_cases c : m + n = 0
    · rw [if_pos c, if_pos ((mul_two_zero _ _).2 c)]
    · rw [if_neg c, if_neg (fun x => c ((mul_two_zero _ _).1 x))]
      exact decide_eq_decide.2 (mul_two_neg _ _)
  · intro c
    rw [if_neg (by omega)]
    exact decide_eq_true c
  · intro c
    rw [if_neg (by omega)]
    exact decide_eq_false (by omega)

theorem St.product {d e : Datum} {s t : Bool} {m n : Int} (h : St d s m) (k : St e t n) : ∃ f, d.product e = some f ∧ St f (s ^^ t) (m * n) := by
  obtain ⟨i, rfl, h1, h2⟩ := h
  obtain ⟨j, rfl, k1, k2⟩ := k
  refine ⟨_, rfl, i + j, ?_, ?_, ?_⟩
  · congr 1
    · rw [Int.natAbs_mul, Nat.pow_add]
      rw [Nat.mul_assoc, Nat.mul_assoc]
      congr 1
      rw [← Nat.mul_assoc, ← Nat.mul_assoc, Nat.mul_comm (2 ^ i)]
    · push_cast; omega
  · intro c
    rcases Int.lt_trichotomy m 0 with a | a | a
    · rcases Int.lt_trichotomy n 0 with b | b | b
      · have := Int.mul_pos_of_neg_of_neg a b; omega
      · subst b; simp at c
      · rw [h1 a, k2 b]; rfl
    · subst a; simp at c
    · rcases Int.lt_trichotomy n 0 with b | b | b
      · rw [h2 a, k1 b]; rfl
      · subst b; simp at c
      · have := Int.mul_pos a b; omega
  · intro c
    rcases Int.lt_trichotomy m 0 with a | a | a
    · rcases Int.lt_trichotomy n 0 with b | b | b
      · rw [h1 a, k1 b]; rfl
      · subst b; simp at c
      · have := Int.mul_neg_of_neg_of_pos a b; omega
    · subst a; simp at c
    · rcases Int.lt_trichotomy n 0 with b | b | b
      · have := Int.mul_neg_of_pos_of_neg a b; omega
      · subst b; simp at c
      · rw [h2 a, k2 b]; rfl

theorem St.opposite {d : Datum} {s : Bool} {n : Int} (h : St d s n) : St d.opposite (!s) (-n) := by
  obtain ⟨j, rfl, h1, h2⟩ := h
  refine ⟨j, ?_, ?_, ?_⟩
  · rw [Int.natAbs_neg]; rfl
  · intro c; rw [h2 (by omega)]; rfl
  · intro c; rw [h1 (by omega)]; rfl

theorem St.order {d e : Datum} {s t : Bool} {m n : Int} (h : St d s m) (k : St e t n) : d.order e = some (compare m n) := by
  obtain ⟨i, rfl, h1, h2⟩ := h
  obtain ⟨j, rfl, k1, k2⟩ := k
  have b1 : i + (-(i : Int) - min (-(i : Int)) (-(j : Int))).toNat = max i j := by omega
  have b2 : j + (-(j : Int) - min (-(i : Int)) (-(j : Int))).toNat = max i j := by omega
  show some (compare (signed s (m.natAbs * 2 ^ i) _) (signed t (n.natAbs * 2 ^ j) _)) = _
  rw [signed_st s m i _ h1 h2, signed_st t n j _ k1 k2, b1, b2]
  congr 1
  have hp := two_pos (max i j)
  generalize (2 : Int) ^ (max i j) = p at *
  rcases Int.lt_trichotomy m n with c | c | c
  · have l : m * p < n * p := Int.mul_lt_mul_of_pos_right c hp
    rw [Int.compare_eq_lt.2 c, Int.compare_eq_lt.2 l]
  · subst c
    rw [Int.compare_eq_eq.2 rfl, Int.compare_eq_eq.2 rfl]
  · have l : n * p < m * p := Int.mul_lt_mul_of_pos_right c hp
    rw [Int.compare_eq_gt.2 c, Int.compare_eq_gt.2 l]

theorem St.integral {d : Datum} {s : Bool} {n : Int} (h : St d s n) (way : Toward) : St (d.integral way) s n := by
  obtain ⟨j, rfl, h1, h2⟩ := h
  refine ⟨0, ?_, h1, h2⟩
  show Datum.number s (way.cut s ((n.natAbs * 2 ^ j) <<< (-(j : Int)).toNat) (- -(j : Int)).toNat) 0 = _
  rw [show (-(j : Int)).toNat = 0 by omega, show (- -(j : Int)).toNat = j by omega, Nat.shiftLeft_zero]
  by_cases c : n.natAbs = 0
  · rw [c]
    have : way.cut s (0 * 2 ^ j) j = 0 := by
      rw [Nat.zero_mul]
      unfold Toward.cut
      have hp := Nat.two_pow_pos (min j (Nat.log2 0 + 2))
      simp only [Nat.one_shiftLeft, Nat.zero_div, Nat.zero_mod]
      cases way
      · have e2 : (2 ^ min j (Nat.log2 0 + 2) == 2 * 0) = false := by
          rw [beq_eq_false_iff_ne]; omega
        rw [e2]; simp
      · simp
      · simp
      · rfl
    rw [this]; simp
  · rw [cut_exact s way n.natAbs j c]; simp

theorem St.toInt {d : Datum} {s : Bool} {n : Int} (h : St d s n) (way : Toward) : d.toInt way = some n := by
  obtain ⟨j, e, h1, h2⟩ := h.integral way
  unfold Datum.toInt
  rw [e]
  show some (signed s (n.natAbs * 2 ^ j) 0) = some n
  have hj : (n.natAbs * 2 ^ j) = n.natAbs := by
    obtain ⟨i, rfl, _⟩ := h
    have e2 : Datum.integral way (.number s (n.natAbs * 2 ^ i) (-(i : Int))) = .number s (way.cut s ((n.natAbs * 2 ^ i) <<< (-(i : Int)).toNat) (- -(i : Int)).toNat) 0 := rfl
    rw [e2] at e
    have := (Datum.number.inj e).2.2
    obtain rfl : j = 0 := by omega
    simp
  rw [hj]
  have := signed_st s n 0 0 h1 h2
  simpa using this
end Go.Proofs.Ytmidjiailinjmaa

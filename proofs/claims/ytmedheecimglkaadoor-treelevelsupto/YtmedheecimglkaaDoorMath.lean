/-
  Plain facts on a number's form: groups of seven bits, the lowest first. No program is named here.
-/
import Derived.KernelRfl
namespace Go.Proofs.YtmedheecimglkaaDoor

def encF : Nat → Nat → List Int
  | 0, n => [(n : Int)]
  | f + 1, n => if n < 128 then [(n : Int)] else ((n % 128 + 128 : Nat) : Int) :: encF f (n / 128)
/-- A number's form. -/
def enc (n : Nat) : List Int := encF 10 n

theorem encF_succ (f n : Nat) : encF (f + 1) n = if n < 128 then [(n : Int)] else ((n % 128 + 128 : Nat) : Int) :: encF f (n / 128) := rfl
theorem encF_stable (f : Nat) : ∀ n, n < 128 ^ (f + 1) → encF (f + 1) n = encF f n := by
  induction f with
  | zero => intro n h; simp [encF]; omega
  | succ f ih =>
    intro n h
    rw [encF_succ (f + 1) n, encF_succ f n]
    split
    · rfl
    · rw [ih (n / 128) (by rw [Nat.div_lt_iff_lt_mul (by decide)]; rw [Nat.pow_succ] at h; exact h)]
theorem enc_small {n : Nat} (h : n < 128) : enc n = [(n : Int)] := by simp [enc, encF, h]
theorem enc_big {n : Nat} (h : 128 ≤ n) (h2 : n < 18446744073709551616) : enc n = ((n % 128 + 128 : Nat) : Int) :: enc (n / 128) := by
  have : enc n = ((n % 128 + 128 : Nat) : Int) :: encF 9 (n / 128) := by
    unfold enc
    rw [encF_succ, if_neg (by omega)]
  rw [this]
  unfold enc
  rw [encF_stable 9 (n / 128) (by omega)]
theorem encF_length (f : Nat) : ∀ n, (encF f n).length ≤ f + 1 := by
  induction f with
  | zero => intro n; simp [encF]
  | succ f ih =>
    intro n
    rw [encF_succ]
    split
    · simp
    · have := ih (n / 128)
      simp; omega
theorem enc_length {n : Nat} (h : n < 18446744073709551616) : (enc n).length ≤ 10 := by
  unfold enc
  rw [encF_stable 9 n (by omega)]
  exact encF_length 9 n
theorem enc_pos (n : Nat) : 1 ≤ (enc n).length := by
  unfold enc
  rw [encF_succ]
  split <;> simp
theorem encF_byte (f : Nat) : ∀ n, n < 128 ^ (f + 1) → ∀ x ∈ encF f n, 0 ≤ x ∧ x ≤ 255 := by
  induction f with
  | zero => intro n h x hx; simp [encF] at hx; omega
  | succ f ih =>
    intro n h x hx
    rw [encF_succ] at hx
    split at hx
    · simp at hx; omega
    · simp only [List.mem_cons] at hx
      rcases hx with hx | hx
      · omega
      · exact ih (n / 128) (by rw [Nat.div_lt_iff_lt_mul (by decide)]; rw [Nat.pow_succ] at h; exact h) x hx
theorem enc_byte {n : Nat} (h : n < 18446744073709551616) : ∀ x ∈ enc n, 0 ≤ x ∧ x ≤ 255 := by
  intro x hx
  exact encF_byte 10 n (by omega) x hx

/-- What is read of a number: the number, how many bytes it took, and what was wrong (0: nothing, 2: too short, 3: no form). i bytes are read, acc is what they tell. -/
def tk : Nat → Nat → List Int → Nat × Nat × Nat
  | _, _, [] => (0, 0, 2)
  | i, acc, c :: r =>
    if i = 9 ∧ 1 < c then (0, 0, 3) else
    if c = 0 ∧ 0 < i then (0, 0, 3) else
    if 128 ≤ c then tk (i + 1) (acc + (c % 128).toNat * 128 ^ i) r else (acc + (c % 128).toNat * 128 ^ i, i + 1, 0)

theorem tk_used : ∀ (xs : List Int) (i acc : Nat), (tk i acc xs).2.2 = 0 → i < (tk i acc xs).2.1 ∧ (tk i acc xs).2.1 ≤ i + xs.length := by
  intro xs
  induction xs with
  | nil => intro i acc h; simp [tk] at h
  | cons c r ih =>
    intro i acc h
    unfold tk at h ⊢
    split at h
    · simp at h
    · rename_i h1
      rw [if_neg h1]
      split at h
      · simp at h
      · rename_i h2
        rw [if_neg h2]
        split at h
        · rename_i h3
          rw [if_pos h3]
          have := ih _ _ h
          simp only [List.length_cons]
          omega
        · rename_i h3
          rw [if_neg h3]
          simp

theorem pow_le_63 (i : Nat) (h : i ≤ 9) : (128 : Nat) ^ i ≤ 9223372036854775808 :=
  Nat.le_trans (Nat.pow_le_pow_right (by decide) h) (by decide)
theorem sum_lt (acc i : Nat) (c : Int) (hacc : acc < 128 ^ i) (hi : i ≤ 9) (h9 : i = 9 → c ≤ 1) (hc : 0 ≤ c) :
    acc + (c % 128).toNat * 128 ^ i < 18446744073709551616 ∧ acc + (c % 128).toNat * 128 ^ i < 128 ^ (i + 1) := by
  have hx : (c % 128).toNat ≤ 127 := by omega
  constructor
  · by_cases h : i = 9
    · subst h
      have := h9 rfl
      have h1 : (c % 128).toNat ≤ 1 := by omega
      have := Nat.mul_le_mul_right (128 ^ 9) h1
      have e : (128 : Nat) ^ 9 = 9223372036854775808 := by decide
      rw [e] at *
      omega
    · have h8 : (128 : Nat) ^ i ≤ 128 ^ 8 := Nat.pow_le_pow_right (by decide) (by omega)
      have e : (128 : Nat) ^ 8 = 72057594037927936 := by decide
      have := Nat.mul_le_mul hx h8
      rw [e] at *
      omega
  · rw [Nat.pow_succ]
    have := Nat.mul_le_mul_right (128 ^ i) hx
    omega

theorem tk_lt : ∀ (xs : List Int) (i acc : Nat), (∀ x ∈ xs, 0 ≤ x ∧ x ≤ 255) → i ≤ 9 → acc < 128 ^ i → (tk i acc xs).1 < 18446744073709551616 := by
  intro xs
  induction xs with
  | nil => intro i acc _ _ _; simp [tk]
  | cons c r ih =>
    intro i acc hb hi hacc
    have hc := hb c (by simp)
    unfold tk
    split
    · simp
    · rename_i h1
      split
      · simp
      · have hs := sum_lt acc i c hacc hi (by omega) hc.1
        split
        · exact ih _ _ (fun x hx => hb x (by simp [hx])) (by omega) hs.2
        · exact hs.1

end Go.Proofs.YtmedheecimglkaaDoor

/-
  Plain laws on numbers' forms: what was put is read, what is read is what would be put, and no form begins another one. No program is named here.
-/
import Derived.Test.YtbfcilfdeemnpaaMath
namespace Go.Proofs.Ytbfcilfdeemnpaa

theorem tk_cons' (i acc : Nat) (c : Int) (r : List Int) : tk i acc (c :: r) = if i = 9 ∧ 1 < c then (0, 0, 3) else if c = 0 ∧ 0 < i then (0, 0, 3) else if 128 ≤ c then tk (i + 1) (acc + (c % 128).toNat * 128 ^ i) r else (acc + (c % 128).toNat * 128 ^ i, i + 1, 0) := rfl

theorem nine_small {n acc : Nat} (h : acc + n * 128 ^ 9 < 18446744073709551616) : n ≤ 1 := by
  have e : (128 : Nat) ^ 9 = 9223372036854775808 := by decide
  rw [e] at h
  omega

theorem tk_last (i acc n : Nat) (rest : List Int) (hn : n < 128) (hi : i ≤ 9) (hs : acc + n * 128 ^ i < 18446744073709551616) (hp : 0 < i → 0 < n) : tk i acc ((n : Int) :: rest) = (acc + n * 128 ^ i, i + 1, 0) := by
  rw [tk_cons']
  have h9 : ¬ (i = 9 ∧ 1 < (n : Int)) := by
    rintro ⟨rfl, h⟩
    have := nine_small hs
    omega
  rw [if_neg h9, if_neg (by omega), if_neg (by omega)]
  rw [show ((n : Int) % 128).toNat = n from by omega]

theorem tk_encF (f : Nat) : ∀ (i acc n : Nat) (rest : List Int), n < 128 ^ (f + 1) → i + f ≤ 9 → acc + n * 128 ^ i < 18446744073709551616 → (0 < i → 0 < n) →
    tk i acc (encF f n ++ rest) = (acc + n * 128 ^ i, i + (encF f n).length, 0) := by
  induction f with
  | zero =>
    intro i acc n rest hn hi hs hp
    exact tk_last i acc n rest (by simpa using hn) (by omega) hs hp
  | succ f ih =>
    intro i acc n rest hn hi hs hp
    rw [encF_succ]
    by_cases h : n < 128
    · rw [if_pos h]
      exact tk_last i acc n rest h (by omega) hs hp
    · rw [if_neg h, List.cons_append, tk_cons', if_neg (by omega), if_neg (by omega), if_pos (by omega)]
      have e1 : (((n % 128 + 128 : Nat) : Int) % 128).toNat = n % 128 := by omega
      have e2 : acc + n % 128 * 128 ^ i + n / 128 * 128 ^ (i + 1) = acc + n * 128 ^ i := by
        have : n / 128 * 128 ^ (i + 1) = (n / 128 * 128) * 128 ^ i := by rw [Nat.pow_succ, Nat.mul_assoc, Nat.mul_comm 128]
        rw [this, Nat.add_assoc, ← Nat.add_mul]
        congr 2
        omega
      rw [e1, ih (i + 1) _ (n / 128) rest (by rw [Nat.div_lt_iff_lt_mul (by decide)]; rw [Nat.pow_succ] at hn; exact hn) (by omega) (by rw [e2]; exact hs) (by omega), e2]
      simp only [List.length_cons]
      congr 2
      omega

theorem enc9 {n : Nat} (h : n < 18446744073709551616) : enc n = encF 9 n := by
  unfold enc
  rw [encF_stable 9 n (by omega)]

/-- What was put is read. -/
theorem tk_enc {n : Nat} (h : n < 18446744073709551616) (rest : List Int) : tk 0 0 (enc n ++ rest) = (n, (enc n).length, 0) := by
  rw [enc9 h, tk_encF 9 0 0 n rest (by omega) (by omega) (by omega) (by omega)]
  simp

/-- What is read is what would be put. -/
theorem tk_form : ∀ (xs : List Int) (i acc m u : Nat), (∀ x ∈ xs, 0 ≤ x ∧ x ≤ 255) → i ≤ 9 → acc < 128 ^ i → tk i acc xs = (m, u, 0) →
    ∃ n, m = acc + n * 128 ^ i ∧ xs.take (u - i) = enc n ∧ (0 < i → 0 < n) ∧ i < u ∧ m < 18446744073709551616 := by
  intro xs
  induction xs with
  | nil => intro i acc m u _ _ _ h; simp [tk] at h
  | cons c r ih =>
    intro i acc m u hb hi hacc h
    have hc := hb c (by simp)
    rw [tk_cons'] at h
    by_cases h1 : i = 9 ∧ 1 < c
    · rw [if_pos h1] at h; simp at h
    · rw [if_neg h1] at h
      by_cases h2 : c = 0 ∧ 0 < i
      · rw [if_pos h2] at h; simp at h
      · rw [if_neg h2] at h
        have hs := sum_lt acc i c hacc hi (by omega) hc.1
        by_cases h3 : 128 ≤ c
        · rw [if_pos h3] at h
          obtain ⟨n, hm, ht, hp, hu, hlt⟩ := ih (i + 1) _ m u (fun x hx => hb x (by simp [hx])) (by omega) hs.2 h
          have hn := hp (by omega)
          obtain ⟨d, hd⟩ : ∃ d : Nat, c = ((d + 128 : Nat) : Int) := ⟨(c - 128).toNat, by omega⟩
          have hd1 : (c % 128).toNat = d := by omega
          have hd2 : d < 128 := by omega
          have e : acc + d * 128 ^ i + n * 128 ^ (i + 1) = acc + (d + n * 128) * 128 ^ i := by
            rw [Nat.pow_succ, Nat.mul_comm (128 ^ i) 128, ← Nat.mul_assoc, Nat.add_assoc, ← Nat.add_mul]
          rw [hd1, e] at hm
          refine ⟨d + n * 128, hm, ?_, by omega, by omega, hlt⟩
          have hge : (d + n * 128) ≤ (d + n * 128) * 128 ^ i := Nat.le_mul_of_pos_right _ (Nat.pow_pos (by decide))
          rw [enc_big (n := d + n * 128) (by omega) (by omega)]
          rw [show (d + n * 128) / 128 = n from by omega, show (d + n * 128) % 128 = d from by omega]
          rw [show u - i = (u - (i + 1)) + 1 from by omega, List.take_succ_cons, ht, hd]
        · rw [if_neg h3] at h
          simp only [Prod.mk.injEq] at h
          obtain ⟨hm, hu, _⟩ := h
          obtain ⟨d, rfl⟩ : ∃ d : Nat, c = (d : Int) := ⟨c.toNat, by omega⟩
          have e1 : ((d : Int) % 128).toNat = d := by omega
          rw [e1] at hm hs
          refine ⟨d, hm.symm, ?_, by omega, by omega, by omega⟩
          rw [← hu, enc_small (by omega), show i + 1 - i = 1 from by omega]
          simp

theorem tk_back {xs : List Int} {m u : Nat} (hb : ∀ x ∈ xs, 0 ≤ x ∧ x ≤ 255) (h : tk 0 0 xs = (m, u, 0)) : xs.take u = enc m ∧ m < 18446744073709551616 := by
  obtain ⟨n, hm, ht, _, _, hlt⟩ := tk_form xs 0 0 m u hb (by omega) (by decide) h
  simp at hm ht
  subst hm
  exact ⟨ht, hlt⟩

/-- How many groups are left. -/
def ln (y : Nat) : Nat := if y = 0 then 0 else (enc y).length
theorem enc_ln {n : Nat} (h : n < 18446744073709551616) : (enc n).length = 1 + ln (n / 128) := by
  unfold ln
  by_cases h1 : n < 128
  · rw [enc_small h1, if_pos (by omega)]; rfl
  · rw [enc_big (by omega) h, if_neg (by omega), List.length_cons]; omega
theorem ln_step {y : Nat} (h0 : 0 < y) (h : y < 18446744073709551616) : ln y = 1 + ln (y / 128) := by
  rw [← enc_ln h]
  unfold ln
  rw [if_neg (by omega)]

theorem encF_mono (f : Nat) : ∀ a b, a ≤ b → (encF f a).length ≤ (encF f b).length := by
  induction f with
  | zero => intro a b _; simp [encF]
  | succ f ih =>
    intro a b h
    rw [encF_succ, encF_succ]
    by_cases h1 : a < 128
    · rw [if_pos h1]
      by_cases h2 : b < 128
      · rw [if_pos h2]; simp
      · rw [if_neg h2]; simp
    · rw [if_neg h1, if_neg (by omega)]
      have := ih (a / 128) (b / 128) (by omega)
      simpa using this
theorem enc_mono {a b : Nat} (h : a ≤ b) : (enc a).length ≤ (enc b).length := encF_mono 10 a b h

/-- No number's form begins another one's. -/
theorem enc_prefix {a b : Nat} (ha : a < 18446744073709551616) (hb : b < 18446744073709551616) (k : Nat) (h : enc a = (enc b).take k) : a = b := by
  have h1 := tk_enc hb []
  have h2 := tk_enc ha ((enc b).drop k)
  rw [List.append_nil] at h1
  rw [h, List.take_append_drop, h1] at h2
  simp only [Prod.mk.injEq] at h2
  omega
theorem enc_inj {a b : Nat} (ha : a < 18446744073709551616) (hb : b < 18446744073709551616) (h : enc a = enc b) : a = b :=
  enc_prefix ha hb (enc b).length (by rw [List.take_length]; exact h)

end Go.Proofs.Ytbfcilfdeemnpaa

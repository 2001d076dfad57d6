/-
  Small texts in one.
-/
import Derived.KernelRfl
import Derived.Test.YtbfcilfdeemnpaaProg
import Derived.WalkKit
import Derived.WalkSpells
import Derived.WalkMore
import Derived.ScopeJumps
import Derived.Laws.AppendOwnNone
import Derived.Lib.ConvBytes
import Derived.BigQuiet
import Derived.Laws.BytesArg
import Derived.Laws.IdiomStrings
import Derived.Deep.RegionHeld3
namespace Go.Proofs.Ytbfcilfdeemnpaa

def encF : Nat → Nat → List Int
  | 0, n => [(n : Int)]
  | f + 1, n => if n < 128 then [(n : Int)] else ((n % 128 + 128 : Nat) : Int) :: encF f (n / 128)
/-- A number's form. -/
def enc (n : Nat) : List Int := encF 10 n

theorem encF_succ (f n : Nat) : encF (f + 1) n = if n < 128 then [(n : Int)] else ((n % 128 + 128 : Nat) : Int) :: encF f (n / 128) := rfl
theorem encF_stable (f : Nat) : ∀ n, n < 128 ^ (f + 1) → encF (f + 1) n = encF f n := by
  induction f with
  | zero => intro n h; simp [encF]; omega
  | succ f ih =>
    intro n h
    rw [encF_succ (f + 1) n, encF_succ f n]
    split
    · rfl
    · rw [ih (n / 128) (by rw [Nat.div_lt_iff_lt_mul (by decide)]; rw [Nat.pow_succ] at h; exact h)]
theorem enc_small {n : Nat} (h : n < 128) : enc n = [(n : Int)] := by simp [enc, encF, h]
theorem enc_big {n : Nat} (h : 128 ≤ n) (h2 : n < 18446744073709551616) : enc n = ((n % 128 + 128 : Nat) : Int) :: enc (n / 128) := by
  have : enc n = ((n % 128 + 128 : Nat) : Int) :: encF 9 (n / 128) := by
    unfold enc
    rw [encF_succ, if_neg (by omega)]
  rw [this]
  unfold enc
  rw [encF_stable 9 (n / 128) (by omega)]
theorem encF_length (f : Nat) : ∀ n, (encF f n).length ≤ f + 1 := by
  induction f with
  | zero => intro n; simp [encF]
  | succ f ih =>
    intro n
    rw [encF_succ]
    split
    · simp
    · have := ih (n / 128)
      simp; omega
theorem enc_length {n : Nat} (h : n < 18446744073709551616) : (enc n).length ≤ 10 := by
  unfold enc
  rw [encF_stable 9 n (by omega)]
  exact encF_length 9 n
theorem enc_pos (n : Nat) : 1 ≤ (enc n).length := by
  unfold enc
  rw [encF_succ]
  split <;> simp
theorem encF_byte (f : Nat) : ∀ n, n < 128 ^ (f + 1) → ∀ x ∈ encF f n, 0 ≤ x ∧ x ≤ 255 := by
  induction f with
  | zero => intro n h x hx; simp [encF] at hx; omega
  | succ f ih =>
    intro n h x hx
    rw [encF_succ] at hx
    split at hx
    · simp at hx; omega
    · simp only [List.mem_cons] at hx
      rcases hx with hx | hx
      · omega
      · exact ih (n / 128) (by rw [Nat.div_lt_iff_lt_mul (by decide)]; rw [Nat.pow_succ] at h; exact h) x hx
theorem enc_byte {n : Nat} (h : n < 18446744073709551616) : ∀ x ∈ enc n, 0 ≤ x ∧ x ≤ 255 := by
  intro x hx
  exact encF_byte 10 n (by omega) x hx

/-- What is read of a number: the number, how many bytes it took, and what was wrong (0: nothing, 2: too short, 3: no form). i bytes are read, acc is what they tell. -/
def tk : Nat → Nat → List Int → Nat × Nat × Nat
  | _, _, [] => (0, 0, 2)
  | i, acc, c :: r =>
    if i = 9 ∧ 1 < c then (0, 0, 3) else
    if c = 0 ∧ 0 < i then (0, 0, 3) else
    if 128 ≤ c then tk (i + 1) (acc + (c % 128).toNat * 128 ^ i) r else (acc + (c % 128).toNat * 128 ^ i, i + 1, 0)

theorem tk_used : ∀ (xs : List Int) (i acc : Nat), (tk i acc xs).2.2 = 0 → i < (tk i acc xs).2.1 ∧ (tk i acc xs).2.1 ≤ i + xs.length := by
  intro xs
  induction xs with
  | nil => intro i acc h; simp [tk] at h
  | cons c r ih =>
    intro i acc h
    unfold tk at h ⊢
    split at h
    · simp at h
    · rename_i h1
      rw [if_neg h1]
      split at h
      · simp at h
      · rename_i h2
        rw [if_neg h2]
        split at h
        · rename_i h3
          rw [if_pos h3]
          have := ih _ _ h
          simp only [List.length_cons]
          omega
        · rename_i h3
          rw [if_neg h3]
          simp

theorem pow_le_63 (i : Nat) (h : i ≤ 9) : (128 : Nat) ^ i ≤ 9223372036854775808 :=
  Nat.le_trans (Nat.pow_le_pow_right (by decide) h) (by decide)
theorem sum_lt (acc i : Nat) (c : Int) (hacc : acc < 128 ^ i) (hi : i ≤ 9) (h9 : i = 9 → c ≤ 1) (hc : 0 ≤ c) :
    acc + (c % 128).toNat * 128 ^ i < 18446744073709551616 ∧ acc + (c % 128).toNat * 128 ^ i < 128 ^ (i + 1) := by
  have hx : (c % 128).toNat ≤ 127 := by omega
  constructor
  · by_cases h : i = 9
    · subst h
      have := h9 rfl
      have h1 : (c % 128).toNat ≤ 1 := by omega
      have := Nat.mul_le_mul_right (128 ^ 9) h1
      have e : (128 : Nat) ^ 9 = 9223372036854775808 := by decide
      rw [e] at *
      omega
    · have h8 : (128 : Nat) ^ i ≤ 128 ^ 8 := Nat.pow_le_pow_right (by decide) (by omega)
      have e : (128 : Nat) ^ 8 = 72057594037927936 := by decide
      have := Nat.mul_le_mul hx h8
      rw [e] at *
      omega
  · rw [Nat.pow_succ]
    have := Nat.mul_le_mul_right (128 ^ i) hx
    omega

theorem tk_lt : ∀ (xs : List Int) (i acc : Nat), (∀ x ∈ xs, 0 ≤ x ∧ x ≤ 255) → i ≤ 9 → acc < 128 ^ i → (tk i acc xs).1 < 18446744073709551616 := by
  intro xs
  induction xs with
  | nil => intro i acc _ _ _; simp [tk]
  | cons c r ih =>
    intro i acc hb hi hacc
    have hc := hb c (by simp)
    unfold tk
    split
    · simp
    · rename_i h1
      split
      · simp
      · have hs := sum_lt acc i c hacc hi (by omega) hc.1
        split
        · exact ih _ _ (fun x hx => hb x (by simp [hx])) (by omega) hs.2
        · exact hs.1

end Go.Proofs.Ytbfcilfdeemnpaa

namespace Go.Proofs.Ytbfcilfdeemnpaa

theorem tk_cons' (i acc : Nat) (c : Int) (r : List Int) : tk i acc (c :: r) = if i = 9 ∧ 1 < c then (0, 0, 3) else if c = 0 ∧ 0 < i then (0, 0, 3) else if 128 ≤ c then tk (i + 1) (acc + (c % 128).toNat * 128 ^ i) r else (acc + (c % 128).toNat * 128 ^ i, i + 1, 0) := rfl

theorem nine_small {n acc : Nat} (h : acc + n * 128 ^ 9 < 18446744073709551616) : n ≤ 1 := by
  have e : (128 : Nat) ^ 9 = 9223372036854775808 := by decide
  rw [e] at h
  omega

theorem tk_last (i acc n : Nat) (rest : List Int) (hn : n < 128) (hi : i ≤ 9) (hs : acc + n * 128 ^ i < 18446744073709551616) (hp : 0 < i → 0 < n) : tk i acc ((n : Int) :: rest) = (acc + n * 128 ^ i, i + 1, 0) := by
  rw [tk_cons']
  have h9 : ¬ (i = 9 ∧ 1 < (n : Int)) := by
    rintro ⟨rfl, h⟩
    have := nine_small hs
    omega
  rw [if_neg h9, if_neg (by omega), if_neg (by omega)]
  rw [show ((n : Int) % 128).toNat = n from by omega]

theorem tk_encF (f : Nat) : ∀ (i acc n : Nat) (rest : List Int), n < 128 ^ (f + 1) → i + f ≤ 9 → acc + n * 128 ^ i < 18446744073709551616 → (0 < i → 0 < n) →
    tk i acc (encF f n ++ rest) = (acc + n * 128 ^ i, i + (encF f n).length, 0) := by
  induction f with
  | zero =>
    intro i acc n rest hn hi hs hp
    exact tk_last i acc n rest (by simpa using hn) (by omega) hs hp
  | succ f ih =>
    intro i acc n rest hn hi hs hp
    rw [encF_succ]
    by_cases h : n < 128
    · rw [if_pos h]
      exact tk_last i acc n rest h (by omega) hs hp
    · rw [if_neg h, List.cons_append, tk_cons', if_neg (by omega), if_neg (by omega), if_pos (by omega)]
      have e1 : (((n % 128 + 128 : Nat) : Int) % 128).toNat = n % 128 := by omega
      have e2 : acc + n % 128 * 128 ^ i + n / 128 * 128 ^ (i + 1) = acc + n * 128 ^ i := by
        have : n / 128 * 128 ^ (i + 1) = (n / 128 * 128) * 128 ^ i := by rw [Nat.pow_succ, Nat.mul_assoc, Nat.mul_comm 128]
        rw [this, Nat.add_assoc, ← Nat.add_mul]
        congr 2
        omega
      rw [e1, ih (i + 1) _ (n / 128) rest (by rw [Nat.div_lt_iff_lt_mul (by decide)]; rw [Nat.pow_succ] at hn; exact hn) (by omega) (by rw [e2]; exact hs) (by omega), e2]
      simp only [List.length_cons]
      congr 2
      omega

theorem enc9 {n : Nat} (h : n < 18446744073709551616) : enc n = encF 9 n := by
  unfold enc
  rw [encF_stable 9 n (by omega)]

/-- What was put is read. -/
theorem tk_enc {n : Nat} (h : n < 18446744073709551616) (rest : List Int) : tk 0 0 (enc n ++ rest) = (n, (enc n).length, 0) := by
  rw [enc9 h, tk_encF 9 0 0 n rest (by omega) (by omega) (by omega) (by omega)]
  simp

/-- What is read is what would be put. -/
theorem tk_form : ∀ (xs : List Int) (i acc m u : Nat), (∀ x ∈ xs, 0 ≤ x ∧ x ≤ 255) → i ≤ 9 → acc < 128 ^ i → tk i acc xs = (m, u, 0) →
    ∃ n, m = acc + n * 128 ^ i ∧ xs.take (u - i) = enc n ∧ (0 < i → 0 < n) ∧ i < u ∧ m < 18446744073709551616 := by
  intro xs
  induction xs with
  | nil => intro i acc m u _ _ _ h; simp [tk] at h
  | cons c r ih =>
    intro i acc m u hb hi hacc h
    have hc := hb c (by simp)
    rw [tk_cons'] at h
    by_cases h1 : i = 9 ∧ 1 < c
    · rw [if_pos h1] at h; simp at h
    · rw [if_neg h1] at h
      by_cases h2 : c = 0 ∧ 0 < i
      · rw [if_pos h2] at h; simp at h
      · rw [if_neg h2] at h
        have hs := sum_lt acc i c hacc hi (by omega) hc.1
        by_cases h3 : 128 ≤ c
        · rw [if_pos h3] at h
          obtain ⟨n, hm, ht, hp, hu, hlt⟩ := ih (i + 1) _ m u (fun x hx => hb x (by simp [hx])) (by omega) hs.2 h
          have hn := hp (by omega)
          obtain ⟨d, hd⟩ : ∃ d : Nat, c = ((d + 128 : Nat) : Int) := ⟨(c - 128).toNat, by omega⟩
          have hd1 : (c % 128).toNat = d := by omega
          have hd2 : d < 128 := by omega
          have e : acc + d * 128 ^ i + n * 128 ^ (i + 1) = acc + (d + n * 128) * 128 ^ i := by
            rw [Nat.pow_succ, Nat.mul_comm (128 ^ i) 128, ← Nat.mul_assoc, Nat.add_assoc, ← Nat.add_mul]
          rw [hd1, e] at hm
          refine ⟨d + n * 128, hm, ?_, by omega, by omega, hlt⟩
          have hge : (d + n * 128) ≤ (d + n * 128) * 128 ^ i := Nat.le_mul_of_pos_right _ (Nat.pow_pos (by decide))
          rw [enc_big (n := d + n * 128) (by omega) (by omega)]
          rw [show (d + n * 128) / 128 = n from by omega, show (d + n * 128) % 128 = d from by omega]
          rw [show u - i = (u - (i + 1)) + 1 from by omega, List.take_succ_cons, ht, hd]
        · rw [if_neg h3] at h
          simp only [Prod.mk.injEq] at h
          obtain ⟨hm, hu, _⟩ := h
          obtain ⟨d, rfl⟩ : ∃ d : Nat, c = (d : Int) := ⟨c.toNat, by omega⟩
          have e1 : ((d : Int) % 128).toNat = d := by omega
          rw [e1] at hm hs
          refine ⟨d, hm.symm, ?_, by omega, by omega, by omega⟩
          rw [← hu, enc_small (by omega), show i + 1 - i = 1 from by omega]
          simp

theorem tk_back {xs : List Int} {m u : Nat} (hb : ∀ x ∈ xs, 0 ≤ x ∧ x ≤ 255) (h : tk 0 0 xs = (m, u, 0)) : xs.take u = enc m ∧ m < 18446744073709551616 := by
  obtain ⟨n, hm, ht, _, _, hlt⟩ := tk_form xs 0 0 m u hb (by omega) (by decide) h
  simp at hm ht
  subst hm
  exact ⟨ht, hlt⟩

/-- How many groups are left. -/
def ln (y : Nat) : Nat := if y = 0 then 0 else (enc y).length
theorem enc_ln {n : Nat} (h : n < 18446744073709551616) : (enc n).length = 1 + ln (n / 128) := by
  unfold ln
  by_cases h1 : n < 128
  · rw [enc_small h1, if_pos (by omega)]; rfl
  · rw [enc_big (by omega) h, if_neg (by omega), List.length_cons]; omega
theorem ln_step {y : Nat} (h0 : 0 < y) (h : y < 18446744073709551616) : ln y = 1 + ln (y / 128) := by
  rw [← enc_ln h]
  unfold ln
  rw [if_neg (by omega)]

theorem encF_mono (f : Nat) : ∀ a b, a ≤ b → (encF f a).length ≤ (encF f b).length := by
  induction f with
  | zero => intro a b _; simp [encF]
  | succ f ih =>
    intro a b h
    rw [encF_succ, encF_succ]
    by_cases h1 : a < 128
    · rw [if_pos h1]
      by_cases h2 : b < 128
      · rw [if_pos h2]; simp
      · rw [if_neg h2]; simp
    · rw [if_neg h1, if_neg (by omega)]
      have := ih (a / 128) (b / 128) (by omega)
      simpa using this
theorem enc_mono {a b : Nat} (h : a ≤ b) : (enc a).length ≤ (enc b).length := encF_mono 10 a b h

/-- No number's form begins another one's. -/
theorem enc_prefix {a b : Nat} (ha : a < 18446744073709551616) (hb : b < 18446744073709551616) (k : Nat) (h : enc a = (enc b).take k) : a = b := by
  have h1 := tk_enc hb []
  have h2 := tk_enc ha ((enc b).drop k)
  rw [List.append_nil] at h1
  rw [h, List.take_append_drop, h1] at h2
  simp only [Prod.mk.injEq] at h2
  omega
theorem enc_inj {a b : Nat} (ha : a < 18446744073709551616) (hb : b < 18446744073709551616) (h : enc a = enc b) : a = b :=
  enc_prefix ha hb (enc b).length (by rw [List.take_length]; exact h)

end Go.Proofs.Ytbfcilfdeemnpaa

namespace Go.Proofs.Ytbfcilfdeemnpaa
open Go.RowKit

theorem u8info : (Try.prog.info? 5).map (fun i => (i.zero, i.size, i.bytes)) = some (some (.int .u8 0), 1, 1) := by kernel_rfl

/-- The cells of some bytes. -/
def bv (xs : List Int) : List Value := xs.map (Value.int .u8)
theorem bv_length (xs : List Int) : (bv xs).length = xs.length := by simp [bv]
theorem bv_append (xs ys : List Int) : bv (xs ++ ys) = bv xs ++ bv ys := by simp [bv]
theorem bv_one (xs : List Int) : ∀ u ∈ bv xs, u.oneCell' = true := ints_oneCell .u8 xs
theorem bv_get (xs : List Int) (j : Nat) (h : j < xs.length) : (bv xs)[j]? = some (.int .u8 (xs.getD j 0)) := by
  simp [bv, h]

/-- Each is a byte. -/
def Byt (xs : List Int) : Prop := ∀ x ∈ xs, 0 ≤ x ∧ x ≤ 255
theorem Byt.append {xs ys : List Int} (h : Byt xs) (k : Byt ys) : Byt (xs ++ ys) := by
  intro x hx
  rcases List.mem_append.1 hx with h1 | h1
  · exact h x h1
  · exact k x h1
theorem Byt.drop {xs : List Int} (h : Byt xs) (n : Nat) : Byt (xs.drop n) := fun x hx => h x (List.mem_of_mem_drop hx)
theorem Byt.take {xs : List Int} (h : Byt xs) (n : Nat) : Byt (xs.take n) := fun x hx => h x (List.mem_of_mem_take hx)
theorem Byt.at {xs : List Int} (h : Byt xs) (j : Nat) : 0 ≤ xs[j]?.getD 0 ∧ xs[j]?.getD 0 ≤ 255 := by
  by_cases hj : j < xs.length
  · simp [hj]
    exact h _ (List.getElem_mem hj)
  · simp [hj]

/-- The slice at ao, of n elements, up to cap, reads as the bytes xs. -/
structure Sl (w : World) (ao : Option Addr) (n cap : Nat) (xs : List Int) : Prop where
  len : xs.length = n
  le : n ≤ cap
  mx : cap ≤ maxLen
  nil : ao = none → n = 0 ∧ cap = 0
  cell : ∀ a, ao = some a → ∀ i, i < n → w.cell? (a.add i) = some (.int .u8 (xs.getD i 0))
  byte : Byt xs

theorem Sl.cells {w : World} {ao : Option Addr} {n cap : Nat} {xs : List Int} (h : Sl w ao n cap xs) : ∀ ad, ao = some ad → ∀ j u, (bv xs)[j]? = some u → w.cell? (ad.add j) = some u := by
  intro ad had j u hu
  have hj : j < xs.length := by
    have := (List.getElem?_eq_some_iff.1 hu).1
    simpa [bv] using this
  rw [bv_get xs j hj] at hu
  rw [h.cell ad had j (by rw [← h.len]; exact hj)]
  exact hu

theorem Sl.lt {w : World} {ao : Option Addr} {n cap : Nat} {xs : List Int} (h : Sl w ao n cap xs) : ∀ a, ao = some a → 0 < n → a.block < w.heap.size := by
  intro a ha hn
  have := World.block_lt_of_cell? w _ (h.cell a ha 0 hn)
  simpa [Addr.add] using this

/-- What reads so still does where all that lies below w's end is as it was. -/
theorem Sl.below {w w' : World} {ao : Option Addr} {n cap : Nat} {xs : List Int} (h : Sl w ao n cap xs) (hb : Below w.heap.size w w') : Sl w' ao n cap xs := by
  refine ⟨h.len, h.le, h.mx, h.nil, fun a ha i hi => ?_, h.byte⟩
  have hc := h.cell a ha i hi
  rw [← hc]
  exact hb.cell (World.block_lt_of_cell? w _ hc)

theorem Sl.nothing (w : World) : Sl w none 0 0 [] := ⟨rfl, Nat.le_refl _, Nat.zero_le _, fun _ => ⟨rfl, rfl⟩, fun _ h => by simp at h, fun _ h => by simp at h⟩

/-- One byte that lies in a block of its own. -/
theorem Sl.one (w : World) (c : Int) (h : 0 ≤ c ∧ c ≤ 255) : Sl (w.alloc (.cells #[.int .u8 c] 5)) (some ⟨w.heap.size, 0, none⟩) 1 1 [c] := by
  refine ⟨rfl, Nat.le_refl _, by decide, fun h => by simp at h, fun a ha i hi => ?_, fun x hx => by simp at hx; omega⟩
  obtain rfl := Option.some.inj ha
  obtain rfl : i = 0 := by omega
  exact cell_one_new _ _ _ 0 _ (by simp)

/-- Bytes that are written out, in a block of their own. -/
theorem Sl.new (w : World) (xs : List Int) (h : Byt xs) (hn : xs.length ≤ maxLen) : Sl (w.alloc (.cells (bv xs).toArray 5)) (some ⟨w.heap.size, 0, none⟩) xs.length xs.length xs := by
  refine ⟨rfl, Nat.le_refl _, hn, fun h => by simp at h, fun a ha i hi => ?_, h⟩
  obtain rfl := Option.some.inj ha
  rw [Addr.add_lit, Nat.zero_add, cell_of_row _ w.heap.size i (bv xs).toArray 5 (0, 0) (heap_alloc_new w _)]
  simpa using bv_get xs i hi

/-- What the call owns reads as its bytes. -/
theorem Sl.own {w : World} {base : Nat} {v : Value} {n : Nat} {xs : List Int} (h : w.ownsRow base 5 1 v n (bv xs)) (hb : Byt xs) :
    ∃ ao cap, v = .slice ao n cap ∧ Sl w ao n cap xs ∧ ∀ a, ao = some a → base ≤ a.block ∧ a.block < w.heap.size ∧ a.off = 0 ∧ a.spot = none := by
  have hl : xs.length = n := by have := h.1; rw [bv_length] at this; omega
  rcases h.2 with ⟨rfl, rfl⟩ | ⟨g, cap, cur, rfl, hg, hh, hle, hmx, hcs, htk⟩
  · obtain rfl : xs = [] := List.eq_nil_of_length_eq_zero hl
    exact ⟨none, 0, rfl, Sl.nothing w, fun a ha => by simp at ha⟩
  · refine ⟨some ⟨g, 0, none⟩, cap, rfl, ⟨hl, hle, hmx, fun h => by simp at h, fun a ha i hi => ?_, hb⟩, fun a ha => ?_⟩
    · obtain rfl := Option.some.inj ha
      exact h.cells (g := g) rfl i _ (bv_get xs i (by omega))
    · obtain rfl := Option.some.inj ha
      exact ⟨hg, (Array.getElem?_eq_some_iff.1 hh).1, rfl, rfl⟩

/-- append(out, x...), out the call's own, x whatever slice of bytes. -/
theorem wpList_app {w : World} {ops : Array Oper} {rest : List Oper} {o : Oper} {a : Act} {Q : Exit → Act → World → Prop} (hgd : o.guard = none) (s x : Operand)
    (ho : o.op = .call { callee := .builtin .append, args := #[s, x], argTypes := #[25, 25] })
    (base : Nat) (v : Value) (n : Nat) (xs : List Int) (hs : a.eval s = v) (hown : w.ownsRow base 5 1 v n (bv xs))
    (bo : Option Addr) (m c : Nat) (ys : List Int) (hx : a.eval x = .slice bo m c) (hsl : Sl w bo m c ys) (hb : n + m ≤ 140737488355328) (hbase : base ≤ w.heap.size)
    (h : ∀ v' w', w'.ownsRow base 5 1 v' (n + m) (bv (xs ++ ys)) → Below base w w' → wpList Try.prog ops Q rest (a.put o.dst v') w') : wpList Try.prog ops Q (o :: rest) a w := by
  obtain ⟨i0, hi, hz0, hz1, hz2⟩ := info_parts u8info
  cases bo with
  | some ad =>
    refine wpList_append_own w hgd s x 25 ho base 5 i0 (.int .u8 0) 1 1 Try.underlying25 hi hz0 hz1 hz2 rfl (by decide) v n (bv xs) hs hown ad m c (bv ys) hx (by rw [bv_length, hsl.len, Nat.mul_one]) (hsl.cells ad rfl) (bv_one ys) (by unfold maxLen; omega) (by omega) hbase ?_
    intro v' w' h1 h2 _
    rw [← bv_append] at h1
    exact h v' w' h1 ((Below.refl _ w).grown h2 hbase (fun k hk => (hown.lt k hk).1))
  | none =>
    obtain ⟨rfl, rfl⟩ := hsl.nil rfl
    obtain rfl : ys = [] := List.eq_nil_of_length_eq_zero hsl.len
    refine wpList_append_own_none hgd s x 25 ho base 5 i0 1 Try.underlying25 hi v n (bv xs) hs hown hx ?_
    exact h v w (by simpa using hown) (Below.refl _ _)

theorem or128 (m : Nat) : bits BinOp.or IntKind.u8 128 ((m : Int) % 128) = ((m % 128 + 128 : Nat) : Int) := by
  have key : ∀ x : Fin 128, bits BinOp.or IntKind.u8 128 ((x.val : Nat) : Int) = ((x.val + 128 : Nat) : Int) := by decide
  have h := key ⟨m % 128, Nat.mod_lt _ (by decide)⟩
  simpa using h

/-- A scope that begins with a label, to which the run jumps back: what holds there each time, and a measure that falls. -/
theorem wp_scope_label {P : Program} {Q : Exit → Act → World → Prop} {a : Act} {w : World} {y : Code} (l : Nat) (J : Act → World → Prop) (μ : Act → World → Nat) (h0 : J a w)
    (pass : ∀ a w, J a w → y.wp P (Exit.jump l (fun a' w' => J a' w' ∧ μ a' w' < μ a w) Q) a w) : (Code.scope ((Code.label l).seq y)).wp P Q a w := by
  refine wp_scope_jumps l J μ (rest := .seq .skip y) (by simp [findLabel]) ?_ ?_
  · refine wp_seq (wp_label ?_)
    show y.wp P _ a w
    refine wp_mono (pass a w h0) ?_
    intro e a' w' h
    cases e with
    | goto l' => exact ⟨h.1, h.2.1⟩
    | _ => exact h
  · intro a w hJ
    exact wp_seq (wp_skip (pass a w hJ))

end Go.Proofs.Ytbfcilfdeemnpaa

namespace Go.Proofs.Ytbfcilfdeemnpaa
open Go.RowKit

/-- What Uint tells, and the reader behind it. -/
def uintS (xs : List Int) (k : Int) : Nat × List Int × Int :=
  if k = 0 then (if (tk 0 0 xs).2.2 = 0 then ((tk 0 0 xs).1, xs.drop (tk 0 0 xs).2.1, 0) else (0, [], ((tk 0 0 xs).2.2 : Nat))) else (0, xs, k)

/-- What Int tells, and the reader behind it. -/
def intS (xs : List Int) (k most : Int) : Nat × List Int × Int :=
  if (uintS xs k).2.2 = 0 then (if most < 0 ∨ most < (uintS xs k).1 then (0, [], 4) else uintS xs k) else (0, (uintS xs k).2)
/-- What Bytes tells, and the reader behind it. -/
def bytesS (xs : List Int) (k most : Int) : List Int × List Int × Int :=
  if (intS xs k most).2.2 = 0 then (if (intS xs k most).2.1.length < (intS xs k most).1 then ([], [], 2) else ((intS xs k most).2.1.take (intS xs k most).1, (intS xs k most).2.1.drop (intS xs k most).1, 0)) else ([], (intS xs k most).2)
/-- What Bool tells, and the reader behind it. -/
def boolS (xs : List Int) (k : Int) : Bool × List Int × Int :=
  if k = 0 then (match xs with
    | [] => (false, [], 2)
    | c :: r => if 1 < c then (false, [], 3) else (c == 1, r, 0)) else (false, xs, k)

theorem uintS_lt {xs : List Int} {k : Int} (hb : Byt xs) : (uintS xs k).1 < 18446744073709551616 := by
  unfold uintS
  split
  · split
    · exact tk_lt xs 0 0 hb (by omega) (by decide)
    · simp
  · simp

/-- What Done tells. -/
def doneS (xs : List Int) (k : Int) : Int := if k = 0 then (if xs = [] then 0 else 3) else k
/-- A truth's form. -/
def enb (b : Bool) : List Int := if b then [1] else [0]
theorem enb_byte (b : Bool) : Byt (enb b) := by
  intro x hx
  cases b <;> simp [enb] at hx <;> omega

theorem uintS_enc {k : Nat} (hk : k < 18446744073709551616) (xs : List Int) : uintS (enc k ++ xs) 0 = (k, xs, 0) := by
  unfold uintS
  rw [if_pos rfl, tk_enc hk xs]
  simp

theorem bytesS_put {xs : List Int} {n : Nat} (hl : xs.length = n) (hn : n < 18446744073709551616) (rest : List Int) (most : Int) :
    bytesS (enc n ++ (xs ++ rest)) 0 most = if most < 0 ∨ most < n then ([], [], 4) else (xs, rest, 0) := by
  unfold bytesS intS
  rw [uintS_enc hn]
  simp only [if_true]
  by_cases h : most < 0 ∨ most < (n : Int)
  · rw [if_pos h]; simp [h]
  · rw [if_neg h]
    simp only [h, if_false]
    rw [if_pos trivial, if_neg (by simp; omega)]
    rw [← hl]
    simp
theorem boolS_put (b : Bool) (rest : List Int) : boolS (enb b ++ rest) 0 = (b, rest, 0) := by
  cases b <;> simp [boolS, enb]
/-- What the reference's Uint tells, and its reader behind it: it keeps its bytes where something is wrong. -/
def uintT (xs : List Int) (k : Int) : Nat × List Int × Int :=
  if k = 0 then (if (tk 0 0 xs).2.2 = 0 then ((tk 0 0 xs).1, xs.drop (tk 0 0 xs).2.1, 0) else (0, xs, ((tk 0 0 xs).2.2 : Nat))) else (0, xs, k)

theorem uintT_ok {xs : List Int} {m u : Nat} (h : tk 0 0 xs = (m, u, 0)) : uintT xs 0 = (m, xs.drop u, 0) := by
  unfold uintT
  rw [if_pos rfl, h]
  rfl
theorem uintT_bad {xs : List Int} {m u q : Nat} (h : tk 0 0 xs = (m, u, q)) (hq : q ≠ 0) : uintT xs 0 = (0, xs, (q : Int)) := by
  unfold uintT
  rw [if_pos rfl, h]
  simp [hq]
def intT (xs : List Int) (k most : Int) : Nat × List Int × Int :=
  if (uintT xs k).2.2 = 0 then (if most < 0 ∨ most < (uintT xs k).1 then (0, (uintT xs k).2.1, 4) else uintT xs k) else (0, (uintT xs k).2)
def bytesT (xs : List Int) (k most : Int) : List Int × List Int × Int :=
  if (intT xs k most).2.2 = 0 then (if (intT xs k most).2.1.length < (intT xs k most).1 then ([], (intT xs k most).2.1, 2) else ((intT xs k most).2.1.take (intT xs k most).1, (intT xs k most).2.1.drop (intT xs k most).1, 0)) else ([], (intT xs k most).2)
def boolT (xs : List Int) (k : Int) : Bool × List Int × Int :=
  if k = 0 then (match xs with
    | [] => (false, [], 2)
    | c :: r => if 1 < c then (false, c :: r, 3) else (c == 1, r, 0)) else (false, xs, k)

theorem uintT_lt {xs : List Int} {k : Int} (hb : Byt xs) : (uintT xs k).1 < 18446744073709551616 := by
  unfold uintT
  split
  · split
    · exact tk_lt xs 0 0 hb (by omega) (by decide)
    · simp
  · simp

theorem uint_same {xs ys : List Int} {k : Int} (h : k = 0 → xs = ys) : (uintT ys k).1 = (uintS xs k).1 ∧ (uintT ys k).2.2 = (uintS xs k).2.2 ∧ ((uintS xs k).2.2 = 0 → (uintS xs k).2.1 = (uintT ys k).2.1) := by
  unfold uintS uintT
  by_cases hk : k = 0
  · obtain rfl := h hk
    rw [if_pos hk, if_pos hk]
    by_cases hq : (tk 0 0 xs).2.2 = 0
    · rw [if_pos hq, if_pos hq]; exact ⟨rfl, rfl, fun _ => rfl⟩
    · rw [if_neg hq, if_neg hq]; exact ⟨rfl, rfl, fun h => by simp at h; omega⟩
  · rw [if_neg hk, if_neg hk]; exact ⟨rfl, rfl, fun h => absurd h hk⟩

theorem int_same {xs ys : List Int} {k : Int} (h : k = 0 → xs = ys) (most : Int) : (intT ys k most).1 = (intS xs k most).1 ∧ (intT ys k most).2.2 = (intS xs k most).2.2 ∧ ((intS xs k most).2.2 = 0 → (intS xs k most).2.1 = (intT ys k most).2.1) := by
  obtain ⟨h1, h2, h3⟩ := uint_same h
  unfold intS intT
  rw [h1, h2]
  by_cases hq : (uintS xs k).2.2 = 0
  · rw [if_pos hq, if_pos hq]
    by_cases hb : most < 0 ∨ most < ((uintS xs k).1 : Int)
    · rw [if_pos hb, if_pos hb]; exact ⟨rfl, rfl, fun h => by simp at h⟩
    · rw [if_neg hb, if_neg hb]; exact ⟨h1, h2, h3⟩
  · rw [if_neg hq, if_neg hq]; exact ⟨rfl, h2, h3⟩

theorem bytes_same {xs ys : List Int} {k : Int} (h : k = 0 → xs = ys) (most : Int) : (bytesT ys k most).1 = (bytesS xs k most).1 ∧ (bytesT ys k most).2.2 = (bytesS xs k most).2.2 ∧ ((bytesS xs k most).2.2 = 0 → (bytesS xs k most).2.1 = (bytesT ys k most).2.1) := by
  obtain ⟨h1, h2, h3⟩ := int_same h most
  unfold bytesS bytesT
  rw [h1, h2]
  by_cases hq : (intS xs k most).2.2 = 0
  · rw [if_pos hq, if_pos hq, ← h3 hq]
    by_cases hb : (intS xs k most).2.1.length < (intS xs k most).1
    · rw [if_pos hb, if_pos hb]; exact ⟨rfl, rfl, fun h => by simp at h⟩
    · rw [if_neg hb, if_neg hb]; exact ⟨rfl, rfl, fun _ => rfl⟩
  · rw [if_neg hq, if_neg hq]; exact ⟨rfl, h2, h3⟩

theorem bool_same {xs ys : List Int} {k : Int} (h : k = 0 → xs = ys) : (boolT ys k).1 = (boolS xs k).1 ∧ (boolT ys k).2.2 = (boolS xs k).2.2 ∧ ((boolS xs k).2.2 = 0 → (boolS xs k).2.1 = (boolT ys k).2.1) := by
  by_cases hk : k = 0
  · obtain rfl := h hk
    subst hk
    cases xs with
    | nil => exact ⟨rfl, rfl, fun h => by simp [boolS] at h⟩
    | cons c r =>
      by_cases hc : 1 < c
      · simp [boolS, boolT, hc]
      · simp [boolS, boolT, hc]
  · simp [boolS, boolT, hk]

theorem left_same {xs ys : List Int} {k : Int} (h : k = 0 → xs = ys) : (if k = 0 then (ys.length : Int) else 0) = (if k = 0 then (xs.length : Int) else 0) := by
  by_cases hk : k = 0
  · rw [h hk]
  · rw [if_neg hk, if_neg hk]
theorem done_same {xs ys : List Int} {k : Int} (h : k = 0 → xs = ys) : doneS ys k = doneS xs k := by
  by_cases hk : k = 0
  · rw [h hk]
  · simp [doneS, hk]

end Go.Proofs.Ytbfcilfdeemnpaa

namespace Go.Proofs.Ytbfcilfdeemnpaa

/-- What a reader tells: what was wrong, or a thing and what is left. -/
abbrev Rs (α : Type) := Sum Int (α × List Int)
def then_ {α β : Type} (r : Rs α) (f : α → List Int → Rs β) : Rs β :=
  match r with
  | .inl k => .inl k
  | .inr (v, rest) => f v rest
theorem then_good {α β : Type} {r : Rs α} {f : α → List Int → Rs β} {b : β} {rest : List Int} (h : then_ r f = .inr (b, rest)) : ∃ a r', r = .inr (a, r') ∧ f a r' = .inr (b, rest) := by
  match r, h with
  | .inl k, h => simp [then_] at h
  | .inr (a, r'), h => exact ⟨a, r', rfl, h⟩

/-- A reader P reads just what f puts, of things that are ok. -/
structure Good {α : Type} (P : List Int → Rs α) (f : α → List Int) (ok : α → Prop) : Prop where
  put : ∀ v rest, ok v → P (f v ++ rest) = .inr (v, rest)
  back : ∀ xs v rest, Byt xs → P xs = .inr (v, rest) → xs = f v ++ rest ∧ ok v
  cut : ∀ v c, ok v → c < (f v).length → P ((f v).take c) = .inl 2

theorem byt_right {xs ys : List Int} (h : Byt (xs ++ ys)) : Byt ys := fun x hx => h x (List.mem_append_right _ hx)
theorem byt_left {xs ys : List Int} (h : Byt (xs ++ ys)) : Byt xs := fun x hx => h x (List.mem_append_left _ hx)

/-- One behind the other; the second may lean on what the first read. -/
def andThen {α β : Type} (P : List Int → Rs α) (Q : α → List Int → Rs β) (xs : List Int) : Rs (α × β) := then_ (P xs) fun a r => then_ (Q a r) fun b r' => .inr ((a, b), r')
theorem Good.andThen {α β : Type} {P : List Int → Rs α} {Q : α → List Int → Rs β} {f : α → List Int} {g : α → β → List Int} {okP : α → Prop} {okQ : α → β → Prop} (h : Good P f okP) (k : ∀ a, okP a → Good (Q a) (g a) (okQ a)) :
    Good (andThen P Q) (fun p => f p.1 ++ g p.1 p.2) (fun p => okP p.1 ∧ okQ p.1 p.2) := by
  refine ⟨?_, ?_, ?_⟩
  · rintro ⟨a, b⟩ rest ⟨h1, h2⟩
    unfold Go.Proofs.Ytbfcilfdeemnpaa.andThen
    simp only [List.append_assoc]
    rw [h.put a _ h1]
    simp only [then_]
    rw [(k a h1).put b _ h2]
  · rintro xs ⟨a, b⟩ rest hb hx
    obtain ⟨a', r', e1, hx⟩ := then_good hx
    obtain ⟨b', r'', e2, hx⟩ := then_good hx
    simp only [Sum.inr.injEq, Prod.mk.injEq] at hx
    obtain ⟨⟨rfl, rfl⟩, rfl⟩ := hx
    obtain ⟨x1, o1⟩ := h.back xs _ _ hb e1
    subst x1
    obtain ⟨x2, o2⟩ := (k _ o1).back _ _ _ (byt_right hb) e2
    refine ⟨?_, o1, o2⟩
    rw [x2, List.append_assoc]
  · rintro ⟨a, b⟩ c ⟨h1, h2⟩ hc
    unfold Go.Proofs.Ytbfcilfdeemnpaa.andThen
    simp only [List.length_append] at hc
    by_cases l : c < (f a).length
    · simp only [List.take_append_of_le_length (Nat.le_of_lt l)]
      rw [h.cut a c h1 l]
      rfl
    · have e : (f a ++ g a b).take c = f a ++ (g a b).take (c - (f a).length) := by
        rw [List.take_append, List.take_of_length_le (by omega)]
      simp only [e]
      rw [h.put a _ h1]
      simp only [then_]
      rw [(k a h1).cut b _ h2 (by omega)]

/-- The same thing in another dress. -/
def dress {α β : Type} (t : α → β) : Rs α → Rs β
  | .inl k => .inl k
  | .inr (v, rest) => .inr (t v, rest)
theorem dress_good {α β : Type} {t : α → β} {r : Rs α} {b : β} {rest : List Int} (h : dress t r = .inr (b, rest)) : ∃ a, r = .inr (a, rest) ∧ t a = b := by
  match r, h with
  | .inl k, h => simp [dress] at h
  | .inr (a, r'), h =>
    simp only [dress, Sum.inr.injEq, Prod.mk.injEq] at h
    exact ⟨a, by rw [h.2], h.1⟩
theorem Good.map {α β : Type} {P : List Int → Rs α} {f : α → List Int} {ok : α → Prop} (h : Good P f ok) (t : α → β) (u : β → α) (ok' : β → Prop) (h1 : ∀ b, ok' b → t (u b) = b ∧ ok (u b)) (h2 : ∀ a, ok a → u (t a) = a ∧ ok' (t a)) :
    Good (fun xs => dress t (P xs)) (fun b => f (u b)) ok' := by
  refine ⟨?_, ?_, ?_⟩
  · intro b rest hb
    simp only [h.put _ rest (h1 b hb).2, dress, (h1 b hb).1]
  · intro xs b rest hx hb
    obtain ⟨a, e, rfl⟩ := dress_good hb
    obtain ⟨x1, o1⟩ := h.back xs a rest hx e
    rw [(h2 a o1).1]
    exact ⟨x1, (h2 a o1).2⟩
  · intro b c hb hc
    simp only [h.cut _ c (h1 b hb).2 hc, dress]
theorem Good.only {α : Type} {P : List Int → Rs α} {f g : α → List Int} {ok ok' : α → Prop} (h : Good P f ok) (hk : ∀ a, ok a ↔ ok' a) (hf : ∀ a, ok a → f a = g a) : Good P g ok' := by
  refine ⟨?_, ?_, ?_⟩
  · intro v rest hv
    rw [← hf v ((hk v).2 hv)]
    exact h.put v rest ((hk v).2 hv)
  · intro xs v rest hb hx
    obtain ⟨e, o⟩ := h.back xs v rest hb hx
    rw [← hf v o]
    exact ⟨e, (hk v).1 o⟩
  · intro v c hv hc
    rw [← hf v ((hk v).2 hv)] at hc ⊢
    exact h.cut v c ((hk v).2 hv) hc

/-- n things, one behind the other. -/
def pRep {α : Type} (P : List Int → Rs α) : Nat → List Int → Rs (List α)
  | 0, xs => .inr ([], xs)
  | n + 1, xs => then_ (P xs) fun a r => then_ (pRep P n r) fun l r' => .inr ((a :: l), r')
theorem Good.rep {α : Type} {P : List Int → Rs α} {f : α → List Int} {ok : α → Prop} (h : Good P f ok) : ∀ n, Good (pRep P n) (fun l => (l.map f).flatten) (fun l => l.length = n ∧ ∀ a ∈ l, ok a)
  | 0 => by
    refine ⟨?_, ?_, ?_⟩
    · rintro l rest ⟨h1, _⟩
      obtain rfl := List.eq_nil_of_length_eq_zero h1
      rfl
    · rintro xs l rest _ hx
      simp only [pRep, Sum.inr.injEq, Prod.mk.injEq] at hx
      obtain ⟨rfl, rfl⟩ := hx
      simp
    · rintro l c ⟨h1, _⟩ hc
      obtain rfl := List.eq_nil_of_length_eq_zero h1
      simp at hc
  | n + 1 => by
    have ih := h.rep n
    refine ⟨?_, ?_, ?_⟩
    · rintro l rest ⟨h1, h2⟩
      cases l with
      | nil => simp at h1
      | cons a l =>
        simp only [List.map_cons, List.flatten_cons, List.append_assoc]
        unfold pRep
        rw [h.put a _ (h2 a (List.mem_cons_self ..))]
        simp only [then_]
        have := ih.put l rest ⟨by simpa using h1, fun x hx => h2 x (List.mem_cons_of_mem _ hx)⟩
        rw [this]
    · rintro xs l rest hb hx
      obtain ⟨a, r', e1, hx⟩ := then_good hx
      obtain ⟨l', r'', e2, hx⟩ := then_good hx
      simp only [Sum.inr.injEq, Prod.mk.injEq] at hx
      obtain ⟨rfl, rfl⟩ := hx
      obtain ⟨x1, o1⟩ := h.back xs a r' hb e1
      subst x1
      obtain ⟨x2, o2, o3⟩ := ih.back _ _ _ (byt_right hb) e2
      refine ⟨?_, by simp [o2], ?_⟩
      · rw [x2]; simp
      · intro x hx
        rcases List.mem_cons.1 hx with rfl | hx
        · exact o1
        · exact o3 x hx
    · rintro l c ⟨h1, h2⟩ hc
      cases l with
      | nil => simp at h1
      | cons a l =>
        simp only [List.map_cons, List.flatten_cons, List.length_append] at hc ⊢
        have ok1 := h2 a (List.mem_cons_self ..)
        unfold pRep
        by_cases q : c < (f a).length
        · rw [List.take_append_of_le_length (Nat.le_of_lt q), h.cut a c ok1 q]
          rfl
        · rw [List.take_append, List.take_of_length_le (by omega), h.put a _ ok1]
          simp only [then_]
          have := ih.cut l (c - (f a).length) ⟨by simpa using h1, fun x hx => h2 x (List.mem_cons_of_mem _ hx)⟩ (by omega)
          simp only [this]

def pUint (xs : List Int) : Rs Nat := if (tk 0 0 xs).2.2 = 0 then .inr ((tk 0 0 xs).1, xs.drop (tk 0 0 xs).2.1) else .inl ((tk 0 0 xs).2.2 : Nat)
def pInt (most : Nat) (xs : List Int) : Rs Nat := then_ (pUint xs) fun n r => if most < n then .inl 4 else .inr (n, r)
def pBytes (most : Nat) (xs : List Int) : Rs (List Int) := then_ (pInt most xs) fun n r => if r.length < n then .inl 2 else .inr ((r.take n), (r.drop n))
def pBool : List Int → Rs Bool
  | [] => .inl 2
  | c :: r => if 1 < c then .inl 3 else .inr ((c == 1), r)

theorem tk_shortF' (f : Nat) : ∀ (i acc n c : Nat), n < 128 ^ (f + 1) → i + f ≤ 9 → c < (encF f n).length → tk i acc ((encF f n).take c) = (0, 0, 2) := by
  induction f with
  | zero =>
    intro i acc n c _ _ hc
    have : (encF 0 n).length = 1 := rfl
    obtain rfl : c = 0 := by omega
    rfl
  | succ f ih =>
    intro i acc n c hn hi hc
    rw [encF_succ] at hc ⊢
    by_cases h : n < 128
    · rw [if_pos h] at hc ⊢
      obtain rfl : c = 0 := by simpa using hc
      rfl
    · rw [if_neg h] at hc ⊢
      cases c with
      | zero => rfl
      | succ c =>
        rw [List.take_succ_cons, tk_cons', if_neg (by omega), if_neg (by omega), if_pos (by omega)]
        exact ih (i + 1) _ (n / 128) c (by rw [Nat.div_lt_iff_lt_mul (by decide)]; rw [Nat.pow_succ] at hn; exact hn) (by omega) (by simpa using hc)
theorem tk_short' {n : Nat} (h : n < 18446744073709551616) (c : Nat) (hc : c < (enc n).length) : tk 0 0 ((enc n).take c) = (0, 0, 2) := by
  rw [enc9 h] at hc ⊢
  exact tk_shortF' 9 0 0 n c (by omega) (by omega) hc

theorem good_uint : Good pUint enc (fun n => n < 18446744073709551616) := by
  refine ⟨?_, ?_, ?_⟩
  · intro n rest hn
    unfold pUint
    rw [tk_enc hn]
    simp
  · intro xs n rest hb hx
    unfold pUint at hx
    by_cases h : (tk 0 0 xs).2.2 = 0
    · rw [if_pos h] at hx
      simp only [Sum.inr.injEq, Prod.mk.injEq] at hx
      obtain ⟨e1, e2⟩ := hx
      have := tk_back (m := n) (u := (tk 0 0 xs).2.1) hb (Prod.ext e1 (Prod.ext rfl h))
      refine ⟨?_, this.2⟩
      rw [← e2, ← this.1, List.take_append_drop]
    · rw [if_neg h] at hx
      simp at hx
  · intro n c hn hc
    unfold pUint
    rw [tk_short' hn c hc]
    rfl
theorem good_int (most : Nat) (hm : most < 18446744073709551616) : Good (pInt most) enc (fun n => n ≤ most) := by
  refine ⟨?_, ?_, ?_⟩
  · intro n rest hn
    unfold pInt
    rw [good_uint.put n rest (by omega)]
    simp only [then_]
    rw [if_neg (by omega)]
  · intro xs n rest hb hx
    obtain ⟨n', r', e1, hx⟩ := then_good hx
    by_cases h : most < n'
    · rw [if_pos h] at hx; simp at hx
    · rw [if_neg h] at hx
      simp only [Sum.inr.injEq, Prod.mk.injEq] at hx
      obtain ⟨rfl, rfl⟩ := hx
      exact ⟨(good_uint.back xs _ _ hb e1).1, by omega⟩
  · intro n c hn hc
    unfold pInt
    rw [good_uint.cut n c (by omega) hc]
    rfl
theorem good_bytes (most : Nat) (hm : most < 18446744073709551616) : Good (pBytes most) (fun l => enc l.length ++ l) (fun l => l.length ≤ most ∧ Byt l) := by
  refine ⟨?_, ?_, ?_⟩
  · rintro l rest ⟨hl, _⟩
    unfold pBytes
    rw [List.append_assoc, (good_int most hm).put _ _ hl]
    simp only [then_]
    rw [if_neg (by simp), List.take_left, List.drop_left]
  · intro xs l rest hb hx
    obtain ⟨n, r', e1, hx⟩ := then_good hx
    obtain ⟨x1, o1⟩ := (good_int most hm).back xs _ _ hb e1
    by_cases h : r'.length < n
    · rw [if_pos h] at hx; simp at hx
    · rw [if_neg h] at hx
      simp only [Sum.inr.injEq, Prod.mk.injEq] at hx
      obtain ⟨rfl, rfl⟩ := hx
      have e2 : (r'.take n).length = n := by rw [List.length_take]; omega
      rw [e2, List.append_assoc, List.take_append_drop]
      refine ⟨x1, o1, ?_⟩
      rw [x1] at hb
      exact (byt_right hb).take n
  · rintro l c ⟨hl, _⟩ hc
    unfold pBytes
    rw [List.length_append] at hc
    by_cases q : c < (enc l.length).length
    · rw [List.take_append_of_le_length (Nat.le_of_lt q), (good_int most hm).cut _ c hl q]
      rfl
    · rw [List.take_append, List.take_of_length_le (by omega), (good_int most hm).put _ _ hl]
      simp only [then_]
      rw [if_pos (by rw [List.length_take]; omega)]
theorem good_bool : Good pBool enb (fun _ => True) := by
  refine ⟨?_, ?_, ?_⟩
  · intro b rest _
    cases b <;> simp [pBool, enb]
  · intro xs b rest hb hx
    cases xs with
    | nil => simp [pBool] at hx
    | cons c r =>
      have hc := hb c (List.mem_cons_self ..)
      simp only [pBool] at hx
      by_cases h : 1 < c
      · rw [if_pos h] at hx; simp at hx
      · rw [if_neg h] at hx
        simp only [Sum.inr.injEq, Prod.mk.injEq] at hx
        obtain ⟨rfl, rfl⟩ := hx
        refine ⟨?_, trivial⟩
        obtain rfl | rfl : c = 0 ∨ c = 1 := by omega
        · rfl
        · rfl
  · intro b c _ hc
    cases b <;> simp [enb] at hc <;> subst hc <;> rfl
end Go.Proofs.Ytbfcilfdeemnpaa

namespace Go.Proofs.Ytbfcilfdeemnpaa

/-- A name's bytes. -/
def nm : List Int → List Int
  | [] => [0, 1]
  | c :: t => if c = 0 then 0 :: 255 :: nm t else c :: nm t
/-- The order of texts. -/
def cmpL : List Int → List Int → Int
  | [], [] => 0
  | [], _ :: _ => -1
  | _ :: _, [] => 1
  | a :: s, b :: t => if a = b then cmpL s t else if a < b then -1 else 1
theorem cmpL_self : ∀ s, cmpL s s = 0
  | [] => rfl
  | a :: s => by simp [cmpL, cmpL_self s]
theorem cmpL_eq : ∀ s t, cmpL s t = 0 → s = t
  | [], [], _ => rfl
  | [], _ :: _, h => by simp [cmpL] at h
  | _ :: _, [], h => by simp [cmpL] at h
  | a :: s, b :: t, h => by
    unfold cmpL at h
    by_cases e : a = b
    · rw [if_pos e] at h; rw [e, cmpL_eq s t h]
    · rw [if_neg e] at h; split at h <;> simp at h
theorem cmpL_three : ∀ s t, cmpL s t = -1 ∨ cmpL s t = 0 ∨ cmpL s t = 1
  | [], [] => .inr (.inl rfl)
  | [], _ :: _ => .inl rfl
  | _ :: _, [] => .inr (.inr rfl)
  | a :: s, b :: t => by
    unfold cmpL
    split
    · exact cmpL_three s t
    · split <;> simp
theorem cmpL_neg : ∀ s t, cmpL t s = -cmpL s t
  | [], [] => rfl
  | [], _ :: _ => rfl
  | _ :: _, [] => rfl
  | a :: s, b :: t => by
    unfold cmpL
    by_cases e : a = b
    · rw [if_pos e, if_pos e.symm]; exact cmpL_neg s t
    · rw [if_neg e, if_neg (fun h => e h.symm)]
      by_cases l : a < b
      · rw [if_pos l, if_neg (by omega)]; rfl
      · rw [if_neg l, if_pos (by omega)]
theorem cmpL_nil (u : List Int) : 0 ≤ cmpL u [] := by
  cases u <;> simp [cmpL]
/-- Names' bytes, whatever stands behind: as the names; of one name as what stands behind. -/
theorem nm_cmp : ∀ (s t : List Int), Byt s → Byt t → ∀ u v, cmpL (nm s ++ u) (nm t ++ v) = if cmpL s t = 0 then cmpL u v else cmpL s t
  | [], [], _, _, u, v => by simp [nm, cmpL]
  | [], b :: t, _, h, u, v => by
    have hb := h b (List.mem_cons_self ..)
    by_cases e : b = 0
    · simp [nm, cmpL, e]
    · have : (0 : Int) ≠ b := fun h => e h.symm
      have l : (0 : Int) < b := by omega
      simp [nm, cmpL, e, this, l]
  | a :: s, [], h, _, u, v => by
    have hb := h a (List.mem_cons_self ..)
    by_cases e : a = 0
    · simp [nm, cmpL, e]
    · have l : ¬ a < 0 := by omega
      simp [nm, cmpL, e, l]
  | a :: s, b :: t, hs, ht, u, v => by
    have ha := hs a (List.mem_cons_self ..)
    have hb := ht b (List.mem_cons_self ..)
    have ih := nm_cmp s t (fun x hx => hs x (List.mem_cons_of_mem _ hx)) (fun x hx => ht x (List.mem_cons_of_mem _ hx)) u v
    by_cases e : a = b
    · subst e
      by_cases z : a = 0
      · simp [nm, cmpL, z, ih]
      · simp [nm, cmpL, z, ih]
    · by_cases l : a < b
      · by_cases z : a = 0
        · subst z
          have n : b ≠ 0 := fun h => e h.symm
          simp [nm, cmpL, n, e, l]
        · have n : b ≠ 0 := by omega
          simp [nm, cmpL, z, n, e, l]
      · have z : a ≠ 0 := by omega
        by_cases n : b = 0
        · subst n
          simp [nm, cmpL, z, l]
        · simp [nm, cmpL, z, n, e, l]
theorem nm_byte : ∀ (s : List Int), Byt s → Byt (nm s)
  | [], _ => by intro x hx; simp [nm] at hx; omega
  | a :: s, h => by
    have ih := nm_byte s (fun x hx => h x (List.mem_cons_of_mem _ hx))
    have ha := h a (List.mem_cons_self ..)
    intro x hx
    unfold nm at hx
    split at hx
    · rcases List.mem_cons.1 hx with rfl | hx
      · omega
      rcases List.mem_cons.1 hx with rfl | hx
      · omega
      exact ih x hx
    · rcases List.mem_cons.1 hx with rfl | hx
      · exact ha
      exact ih x hx
theorem nm_len : ∀ (s : List Int), 2 ≤ (nm s).length ∧ (nm s).length ≤ 2 * s.length + 2
  | [] => by simp [nm]
  | a :: s => by
    have ih := nm_len s
    unfold nm
    split <;> simp only [List.length_cons] <;> omega
/-- No name's bytes begin another one's. -/
theorem nm_prefix : ∀ (s t : List Int), ∀ u v, nm s ++ u <+: nm t ++ v → s = t ∧ u <+: v
  | [], [], u, v, h => by
    simp only [nm, List.cons_append, List.nil_append, List.cons_prefix_cons, true_and] at h
    exact ⟨rfl, h⟩
  | [], b :: t, u, v, h => by
    by_cases e : b = 0
    · simp [nm, e, List.cons_prefix_cons] at h
    · simp [nm, e, List.cons_prefix_cons] at h
      exact absurd h.1.symm e
  | a :: s, [], u, v, h => by
    by_cases e : a = 0
    · simp [nm, e, List.cons_prefix_cons] at h
    · simp [nm, e, List.cons_prefix_cons] at h
  | a :: s, b :: t, u, v, h => by
    by_cases e : a = 0
    · by_cases n : b = 0
      · simp only [nm, e, n, if_true, List.cons_append, List.cons_prefix_cons, true_and] at h
        have ih := nm_prefix s t u v h
        exact ⟨by rw [e, n, ih.1], ih.2⟩
      · simp [nm, e, n, List.cons_prefix_cons] at h
        exact absurd h.1.symm n
    · by_cases n : b = 0
      · simp [nm, e, n, List.cons_prefix_cons] at h
      · simp only [nm, e, n, if_false, List.cons_append, List.cons_prefix_cons] at h
        have ih := nm_prefix s t u v h.2
        exact ⟨by rw [h.1, ih.1], ih.2⟩

/-- A name off the front. -/
def cutL : List Int → Option (List Int × List Int)
  | [] => none
  | [c] => if c = 0 then none else none
  | c :: d :: r => if c = 0 then (if d = 1 then some ([], r) else if d = 255 then (cutL r).map fun p => (0 :: p.1, p.2) else none) else (cutL (d :: r)).map fun p => (c :: p.1, p.2)
theorem cutL_nm : ∀ (s : List Int) (u : List Int), cutL (nm s ++ u) = some (s, u)
  | [], u => by simp [nm, cutL]
  | a :: s, u => by
    have ih := cutL_nm s u
    by_cases e : a = 0
    · simp [nm, e, cutL, ih]
    · have h := (nm_len s).1
      obtain ⟨d, r, hr⟩ : ∃ d r, nm s ++ u = d :: r := by
        cases hh : nm s ++ u with
        | nil => have := congrArg List.length hh; rw [List.length_append, List.length_nil] at this; omega
        | cons d r => exact ⟨d, r, rfl⟩
      rw [hr] at ih
      simp [nm, e, cutL, hr, ih]
theorem nm_of_cutL : ∀ (n : Nat) (b s r : List Int), b.length ≤ n → cutL b = some (s, r) → b = nm s ++ r
  | 0, b, s, r, hn, h => by
    have : b = [] := List.length_eq_zero_iff.1 (by omega)
    subst this
    simp [cutL] at h
  | n + 1, [], s, r, _, h => by simp [cutL] at h
  | n + 1, [c], s, r, _, h => by simp [cutL] at h
  | n + 1, c :: d :: t, s, r, hn, h => by
    simp only [List.length_cons] at hn
    unfold cutL at h
    by_cases e : c = 0
    · rw [if_pos e] at h
      by_cases e1 : d = 1
      · rw [if_pos e1] at h
        simp only [Option.some.injEq, Prod.mk.injEq] at h
        rw [← h.1, ← h.2, e, e1]; rfl
      · rw [if_neg e1] at h
        by_cases e2 : d = 255
        · rw [if_pos e2] at h
          obtain ⟨p, hp, he⟩ := Option.map_eq_some_iff.1 h
          simp only [Prod.mk.injEq] at he
          have := nm_of_cutL n t p.1 p.2 (by omega) hp
          rw [← he.1, ← he.2, e, e2, this]
          simp [nm]
        · rw [if_neg e2] at h; simp at h
    · rw [if_neg e] at h
      obtain ⟨p, hp, he⟩ := Option.map_eq_some_iff.1 h
      simp only [Prod.mk.injEq] at he
      have := nm_of_cutL n (d :: t) p.1 p.2 (by simp only [List.length_cons]; omega) hp
      rw [← he.1, ← he.2, this]
      simp [nm, e]

/-- A number's n bytes, each turned, the great ones first. -/
def beL : Nat → Nat → List Int
  | 0, _ => []
  | n + 1, T => (255 - ((T / 256 ^ n % 256 : Nat) : Int)) :: beL n T
theorem beL_len : ∀ n T, (beL n T).length = n
  | 0, _ => rfl
  | n + 1, T => by simp [beL, beL_len n]
theorem beL_byte : ∀ n T, Byt (beL n T)
  | 0, _ => fun x hx => by simp [beL] at hx
  | n + 1, T => fun x hx => by
    rcases List.mem_cons.1 hx with rfl | h
    · omega
    · exact beL_byte n T x h
theorem mod_split (a n : Nat) : a % 256 ^ (n + 1) = a / 256 ^ n % 256 * 256 ^ n + a % 256 ^ n := by
  rw [Nat.pow_succ, Nat.mod_mul, Nat.mul_comm (256 ^ n), Nat.add_comm]
theorem beL_cmp : ∀ n a b, cmpL (beL n a) (beL n b) = if a % 256 ^ n = b % 256 ^ n then 0 else if b % 256 ^ n < a % 256 ^ n then -1 else 1
  | 0, a, b => by simp [beL, cmpL, Nat.mod_one]
  | n + 1, a, b => by
    have ih := beL_cmp n a b
    have ha := mod_split a n
    have hb := mod_split b n
    have la : a % 256 ^ n < 256 ^ n := Nat.mod_lt _ (Nat.pow_pos (by omega))
    have lb : b % 256 ^ n < 256 ^ n := Nat.mod_lt _ (Nat.pow_pos (by omega))
    have xa : a / 256 ^ n % 256 < 256 := Nat.mod_lt _ (by omega)
    have xb : b / 256 ^ n % 256 < 256 := Nat.mod_lt _ (by omega)
    unfold beL cmpL
    generalize a / 256 ^ n % 256 = x at *
    generalize b / 256 ^ n % 256 = y at *
    generalize 256 ^ n = P at *
    rw [ih, ha, hb]
    generalize a % P = p at *
    generalize b % P = q at *
    by_cases e : x = y
    · subst e
      simp
    · rw [if_neg (by omega)]
      by_cases l : y < x
      · have : y * P + P ≤ x * P := by rw [← Nat.succ_mul]; exact Nat.mul_le_mul_right _ l
        rw [if_pos (by omega), if_neg (by omega), if_pos (by omega)]
      · have : x * P + P ≤ y * P := by rw [← Nat.succ_mul]; exact Nat.mul_le_mul_right _ (by omega)
        rw [if_neg (by omega), if_neg (by omega), if_neg (by omega)]

/-- A key: its texts as bytes, its time. -/
structure KV where
  row : List Int
  fam : List Int
  qual : List Int
  time : Nat
def KV.byt (k : KV) : Prop := Byt k.row ∧ Byt k.fam ∧ Byt k.qual ∧ k.time < 18446744073709551616
abbrev KV.right (k : KV) : Prop := 1 ≤ k.row.length ∧ k.row.length ≤ 32 ∧ 1 ≤ k.fam.length ∧ k.fam.length ≤ 32 ∧ k.qual.length ≤ 32
def keyL (k : KV) : List Int := nm k.row ++ (nm k.fam ++ (nm k.qual ++ beL 8 k.time))
def cmpT (a b : Nat) : Int := if a = b then 0 else if b < a then -1 else 1
/-- The order of keys. -/
def cmpK (a b : KV) : Int :=
  if cmpL a.row b.row = 0 then (if cmpL a.fam b.fam = 0 then (if cmpL a.qual b.qual = 0 then cmpT a.time b.time else cmpL a.qual b.qual) else cmpL a.fam b.fam) else cmpL a.row b.row
theorem beL8_cmp (a b : Nat) (ha : a < 18446744073709551616) (hb : b < 18446744073709551616) : cmpL (beL 8 a) (beL 8 b) = cmpT a b := by
  have h := beL_cmp 8 a b
  rw [show (256 : Nat) ^ 8 = 18446744073709551616 from rfl, Nat.mod_eq_of_lt ha, Nat.mod_eq_of_lt hb] at h
  exact h
/-- Keys stand as their bytes do. -/
theorem keyL_cmp (a b : KV) (ha : a.byt) (hb : b.byt) : cmpL (keyL a) (keyL b) = cmpK a b := by
  unfold keyL cmpK
  rw [nm_cmp _ _ ha.1 hb.1, nm_cmp _ _ ha.2.1 hb.2.1, nm_cmp _ _ ha.2.2.1 hb.2.2.1, beL8_cmp _ _ ha.2.2.2 hb.2.2.2]
theorem cmpT_zero (a b : Nat) : cmpT a b = 0 ↔ a = b := by
  unfold cmpT
  constructor
  · intro h; split at h
    · assumption
    · split at h <;> simp at h
  · intro h; rw [if_pos h]
theorem cmpT_neg (a b : Nat) : cmpT b a = -cmpT a b := by
  unfold cmpT
  by_cases e : a = b
  · rw [if_pos e, if_pos e.symm]; rfl
  · rw [if_neg e, if_neg (fun h => e h.symm)]
    by_cases l : b < a
    · rw [if_pos l, if_neg (by omega)]; rfl
    · rw [if_neg l, if_pos (by omega)]
theorem cmpK_zero (a b : KV) : cmpK a b = 0 ↔ a = b := by
  constructor
  · intro h
    unfold cmpK at h
    by_cases e1 : cmpL a.row b.row = 0
    · rw [if_pos e1] at h
      by_cases e2 : cmpL a.fam b.fam = 0
      · rw [if_pos e2] at h
        by_cases e3 : cmpL a.qual b.qual = 0
        · rw [if_pos e3] at h
          have h1 := cmpL_eq _ _ e1
          have h2 := cmpL_eq _ _ e2
          have h3 := cmpL_eq _ _ e3
          have h4 := (cmpT_zero _ _).1 h
          cases a; cases b
          simp_all
        · rw [if_neg e3] at h; exact absurd h e3
      · rw [if_neg e2] at h; exact absurd h e2
    · rw [if_neg e1] at h; exact absurd h e1
  · rintro rfl
    simp [cmpK, cmpL_self, cmpT]
theorem cmpK_neg (a b : KV) : cmpK b a = -cmpK a b := by
  unfold cmpK
  rw [cmpL_neg a.row b.row, cmpL_neg a.fam b.fam, cmpL_neg a.qual b.qual, cmpT_neg a.time b.time]
  simp only [Int.neg_eq_zero]
  split
  · split
    · split <;> rfl
    · rfl
  · rfl
/-- No key's bytes begin another one's. -/
theorem keyL_prefix (a b : KV) (h : keyL a <+: keyL b) : (keyL a).length = (keyL b).length := by
  unfold keyL at *
  obtain ⟨e1, h⟩ := nm_prefix _ _ _ _ h
  obtain ⟨e2, h⟩ := nm_prefix _ _ _ _ h
  obtain ⟨e3, h⟩ := nm_prefix _ _ _ _ h
  rw [e1, e2, e3]
  simp only [List.length_append, beL_len]
theorem keyL_len (k : KV) : 14 ≤ (keyL k).length := by
  unfold keyL
  have h1 := (nm_len k.row).1
  have h2 := (nm_len k.fam).1
  have h3 := (nm_len k.qual).1
  simp only [List.length_append, beL_len]
  omega
theorem keyL_byte (k : KV) (h : k.byt) : Byt (keyL k) := by
  intro x hx
  unfold keyL at hx
  simp only [List.mem_append] at hx
  rcases hx with hx | hx | hx | hx
  · exact nm_byte _ h.1 x hx
  · exact nm_byte _ h.2.1 x hx
  · exact nm_byte _ h.2.2.1 x hx
  · exact beL_byte _ _ x hx
def colK (a b : KV) : Bool := decide (a.row = b.row ∧ a.fam = b.fam ∧ a.qual = b.qual)
theorem cmpL_sandwich (s t : List Int) (h1 : cmpL s t ≤ 0) (h2 : cmpL t s ≤ 0) : s = t := by
  rw [cmpL_neg s t] at h2
  exact cmpL_eq _ _ (by omega)
/-- Between two keys of one column stands no key of another. -/
theorem colK_between (a b c : KV) (hb : b.row = a.row ∧ b.fam = a.fam ∧ b.qual = a.qual) (h1 : cmpK a c ≤ 0) (h2 : cmpK c b ≤ 0) : a.row = c.row ∧ a.fam = c.fam ∧ a.qual = c.qual := by
  unfold cmpK at h1 h2
  rw [hb.1, hb.2.1, hb.2.2] at h2
  rw [cmpL_neg a.row c.row, cmpL_neg a.fam c.fam, cmpL_neg a.qual c.qual] at h2
  simp only [Int.neg_eq_zero] at h2
  by_cases e1 : cmpL a.row c.row = 0
  · rw [if_pos e1] at h1 h2
    by_cases e2 : cmpL a.fam c.fam = 0
    · rw [if_pos e2] at h1 h2
      by_cases e3 : cmpL a.qual c.qual = 0
      · exact ⟨cmpL_eq _ _ e1, cmpL_eq _ _ e2, cmpL_eq _ _ e3⟩
      · rw [if_neg e3] at h1 h2; omega
    · rw [if_neg e2] at h1 h2; omega
  · rw [if_neg e1] at h1 h2; omega
theorem cmpK_col (a b : KV) (h : a.row = b.row ∧ a.fam = b.fam ∧ a.qual = b.qual) : cmpK a b = cmpT a.time b.time := by
  unfold cmpK
  rw [h.1, h.2.1, h.2.2, cmpL_self, cmpL_self, cmpL_self]
  rfl
/-- Behind 33 bytes of 255 stands no name of up to 32. -/
theorem nm_top : ∀ (s : List Int) (u : List Int) (k : Nat), Byt s → s.length ≤ k → cmpL (nm s ++ u) (List.replicate (k + 1) 255) = -1
  | [], u, k, _, _ => by simp [nm, List.replicate_succ, cmpL]
  | a :: s, u, k + 1, h, hk => by
    have ha := h a (List.mem_cons_self ..)
    have ih := nm_top s u k (fun x hx => h x (List.mem_cons_of_mem _ hx)) (by simpa using hk)
    rw [List.replicate_succ]
    by_cases e : a = 0
    · simp [nm, e, cmpL]
    · by_cases f : a = 255
      · subst f
        simp [nm, cmpL, ih]
      · have l : a < 255 := by omega
        simp [nm, e, cmpL, f, l]
/-- Where a key stands, beside a name's bytes. -/
theorem keyL_below (k : KV) (t : List Int) (hk : k.byt) (ht : Byt t) : cmpL (keyL k) (nm t) < 0 ↔ cmpL k.row t < 0 := by
  have h := nm_cmp k.row t hk.1 ht (nm k.fam ++ (nm k.qual ++ beL 8 k.time)) []
  rw [List.append_nil] at h
  unfold keyL
  rw [h]
  have hn := cmpL_nil (nm k.fam ++ (nm k.qual ++ beL 8 k.time))
  by_cases e : cmpL k.row t = 0
  · rw [if_pos e, e]; omega
  · rw [if_neg e]

/-- The number of bytes that were turned. -/
def ofBe : List Int → Nat → Nat
  | [], t => t
  | c :: r, t => ofBe r (t * 256 + (255 - c).toNat)
theorem ofBe_beL : ∀ n T t, ofBe (beL n T) t = t * 256 ^ n + T % 256 ^ n
  | 0, T, t => by simp [beL, ofBe, Nat.mod_one]
  | n + 1, T, t => by
    have xa : T / 256 ^ n % 256 < 256 := Nat.mod_lt _ (by omega)
    rw [beL, ofBe, ofBe_beL n T, mod_split T n, Nat.pow_succ]
    generalize T / 256 ^ n % 256 = x at *
    rw [show (255 - (255 - (x : Int))).toNat = x by omega, Nat.add_mul, Nat.mul_assoc, Nat.mul_comm 256, Nat.add_assoc]
theorem ofBe_lt : ∀ (l : List Int), Byt l → ∀ t, ofBe l t < (t + 1) * 256 ^ l.length
  | [], _, t => by simp [ofBe]
  | c :: r, h, t => by
    have hc := h c (List.mem_cons_self ..)
    have ih := ofBe_lt r (fun x hx => h x (List.mem_cons_of_mem _ hx)) (t * 256 + (255 - c).toNat)
    rw [ofBe, List.length_cons, Nat.pow_succ]
    refine Nat.lt_of_lt_of_le ih ?_
    rw [Nat.mul_comm (256 ^ r.length), ← Nat.mul_assoc]
    exact Nat.mul_le_mul_right _ (by omega)
theorem beL_high : ∀ n T t, beL n (t * 256 ^ n + T) = beL n T
  | 0, _, _ => rfl
  | n + 1, T, t => by
    have h : t * 256 ^ (n + 1) + T = (t * 256) * 256 ^ n + T := by rw [Nat.pow_succ, Nat.mul_comm (256 ^ n), Nat.mul_assoc]
    rw [beL, beL, h, beL_high n T (t * 256)]
    congr 3
    rw [Nat.mul_comm (t * 256), Nat.mul_add_div (Nat.pow_pos (by omega))]
    omega
theorem ofBe_ge : ∀ (l : List Int), ∀ t, t * 256 ^ l.length ≤ ofBe l t
  | [], t => by simp [ofBe]
  | c :: r, t => by
    rw [ofBe, List.length_cons, Nat.pow_succ, Nat.mul_comm (256 ^ r.length), ← Nat.mul_assoc]
    exact Nat.le_trans (Nat.mul_le_mul_right _ (by omega)) (ofBe_ge r _)
theorem ofBe_div (l : List Int) (h : Byt l) (t : Nat) : ofBe l t / 256 ^ l.length = t := by
  have h1 := ofBe_ge l t
  have h2 := ofBe_lt l h t
  exact Nat.div_eq_of_lt_le h1 h2
theorem byt_of_nm : ∀ (s : List Int), Byt (nm s) → Byt s
  | [], _ => fun x hx => by simp at hx
  | a :: s, h => by
    unfold nm at h
    intro x hx
    by_cases e : a = 0
    · rw [if_pos e] at h
      have ih := byt_of_nm s (fun y hy => h y (List.mem_cons_of_mem _ (List.mem_cons_of_mem _ hy)))
      rcases List.mem_cons.1 hx with rfl | hx
      · omega
      · exact ih x hx
    · rw [if_neg e] at h
      have ih := byt_of_nm s (fun y hy => h y (List.mem_cons_of_mem _ hy))
      rcases List.mem_cons.1 hx with rfl | hx
      · exact h x (List.mem_cons_self ..)
      · exact ih x hx
theorem beL_ofBe : ∀ (l : List Int), Byt l → ∀ t, beL l.length (ofBe l t) = l
  | [], _, _ => rfl
  | c :: r, h, t => by
    have hc := h c (List.mem_cons_self ..)
    have hr : Byt r := fun x hx => h x (List.mem_cons_of_mem _ hx)
    have ih := beL_ofBe r hr (t * 256 + (255 - c).toNat)
    rw [List.length_cons, beL, ofBe, ih]
    have hd : ofBe r (t * 256 + (255 - c).toNat) / 256 ^ r.length = t * 256 + (255 - c).toNat := ofBe_div r hr _
    rw [hd]
    congr 1
    omega
/-- A key of bytes. -/
def readL (b : List Int) : Option KV :=
  (cutL b).bind fun p => (cutL p.2).bind fun q => (cutL q.2).bind fun r =>
    if r.2.length = 8 ∧ KV.right ⟨p.1, q.1, r.1, ofBe r.2 0⟩ then some ⟨p.1, q.1, r.1, ofBe r.2 0⟩ else none
theorem readL_keyL (k : KV) (hk : k.byt) (hr : k.right) : readL (keyL k) = some k := by
  have h8 : ofBe (beL 8 k.time) 0 = k.time := by
    rw [ofBe_beL, Nat.zero_mul, Nat.zero_add]
    exact Nat.mod_eq_of_lt hk.2.2.2
  unfold readL keyL
  simp only [cutL_nm, Option.bind_some, beL_len, h8]
  exact if_pos ⟨trivial, hr⟩
theorem cutL_byte {b s r : List Int} (hb : Byt b) (h : cutL b = some (s, r)) : b = nm s ++ r ∧ Byt s ∧ Byt r := by
  have e := nm_of_cutL b.length b s r (Nat.le_refl _) h
  have hr : Byt r := fun x hx => hb x (by rw [e]; exact List.mem_append_right _ hx)
  have hn : Byt (nm s) := fun x hx => hb x (by rw [e]; exact List.mem_append_left _ hx)
  exact ⟨e, byt_of_nm s hn, hr⟩
theorem keyL_readL {b : List Int} {k : KV} (hb : Byt b) (h : readL b = some k) : keyL k = b ∧ k.right ∧ k.byt := by
  unfold readL at h
  obtain ⟨⟨r, b1⟩, h1, h⟩ := Option.bind_eq_some_iff.1 h
  obtain ⟨⟨f, b2⟩, h2, h⟩ := Option.bind_eq_some_iff.1 h
  obtain ⟨⟨q, b3⟩, h3, h⟩ := Option.bind_eq_some_iff.1 h
  obtain ⟨e1, r1, k1⟩ := cutL_byte hb h1
  obtain ⟨e2, r2, k2⟩ := cutL_byte k1 h2
  obtain ⟨e3, r3, k3⟩ := cutL_byte k2 h3
  split at h
  · next hc =>
    obtain rfl := Option.some.inj h
    have hl := ofBe_lt b3 k3 0
    have hx := beL_ofBe b3 k3 0
    rw [hc.1] at hl hx
    refine ⟨?_, hc.2, r1, r2, r3, ?_⟩
    · show nm r ++ (nm f ++ (nm q ++ beL 8 (ofBe b3 0))) = b
      rw [hx, e1, e2, e3]
    · show ofBe b3 0 < 18446744073709551616
      simpa using hl
  · simp at h

end Go.Proofs.Ytbfcilfdeemnpaa

namespace Go.Proofs.Ytbfcilfdeemnpaa
open Go.RowKit

/-- A string's bytes. -/
def sb (s : ByteArray) : List Int := s.data.toList.map fun c => (c.toNat : Int)
theorem sb_len (s : ByteArray) : (sb s).length = s.size := by simp [sb]
theorem sb_byte (s : ByteArray) : Byt (sb s) := by
  intro x hx
  simp only [sb, List.mem_map] at hx
  obtain ⟨c, _, rfl⟩ := hx
  have := c.toNat_lt
  omega
theorem sb_inj {s t : ByteArray} (h : sb s = sb t) : s = t := by
  have h1 : s.data.toList = t.data.toList := by
    refine List.map_inj_right (f := fun c : UInt8 => (c.toNat : Int)) (fun a b e => ?_) |>.1 h
    exact UInt8.toNat_inj.1 (Int.ofNat.inj e)
  exact ByteArray.ext (Array.toList_inj.1 h1)

theorem bytesWorld_sl (w : World) (s : ByteArray) (hs : s.size ≤ 140737488355328) : Sl (Lib.bytesWorld w 5 s) (some ⟨w.heap.size, 0, none⟩) s.size (grownCap w s.size 0 5) (sb s) := by
  refine ⟨sb_len s, grownCap_ge w _ _ _, grownCap_le_maxLen w _ _ _ (by simp only [maxLen]; omega), fun h => by simp at h, fun a ha i hi => ?_, sb_byte s⟩
  obtain rfl := Option.some.inj ha
  rw [Addr.add_lit, Nat.zero_add, Lib.bytesWorld_cell w _ s i hi]
  simp [sb, List.getD, hi]
theorem bytesWorld_below (w : World) (s : ByteArray) : Below w.heap.size w (Lib.bytesWorld w 5 s) :=
  ⟨rfl, rfl, rfl, by rw [Lib.bytesWorld_size]; omega, fun k hk => Lib.bytesWorld_at_old w _ s k hk⟩

/-- []byte(s). -/
theorem wpList_conv_bytes {w : World} {ops : Array Oper} {rest : List Oper} {o : Oper} {a : Act} {Q : Exit → Act → World → Prop} (hgd : o.guard = none) (x : Operand) (ho : o.op = .convert 9 25 x)
    (s : ByteArray) (hx : a.eval x = .string s) (hs : s.size ≤ 140737488355328)
    (h : ∀ g c w', g = w.heap.size → Sl w' (some ⟨g, 0, none⟩) s.size c (sb s) → Below w.heap.size w w' → wpList Try.prog ops Q rest (a.put o.dst (.slice (some ⟨g, 0, none⟩) s.size c)) w') : wpList Try.prog ops Q (o :: rest) a w := by
  refine wpList_plain hgd fun K hK => ?_
  have hr := Lib.run_convert_string_bytes (P := Try.prog) w 9 25 5 s Try.underlying9 Try.underlying25 Try.underlying5
  unfold Oper.wp execOp
  simp only [ho, hx, hr, Sem.run_bind, Sem.run_pure, Result.andThen_ok]
  exact hK _ _ (h _ _ _ rfl (bytesWorld_sl w s hs) (bytesWorld_below w s))

end Go.Proofs.Ytbfcilfdeemnpaa

namespace Go.Proofs.Ytbfcilfdeemnpaa
open Go.RowKit

theorem sb_at (s : ByteArray) (k : Nat) (h : k < s.size) : (sb s).drop k = (s[k].toNat : Int) :: (sb s).drop (k + 1) := by
  have hl : k < (sb s).length := by rw [sb_len]; exact h
  rw [List.drop_eq_getElem_cons hl]
  simp [sb, ByteArray.getElem_eq_getElem_data]
theorem cmpL_cons (a b : Int) (s t : List Int) : cmpL (a :: s) (b :: t) = if a = b then cmpL s t else if a < b then -1 else 1 := by rw [cmpL]
theorem sb_end (s : ByteArray) (k : Nat) (h : s.size ≤ k) : (sb s).drop k = [] := List.drop_eq_nil_of_le (by rw [sb_len]; exact h)

theorem belN {n : Nat} {a w : World} (h : Below n a w) (q : Nat) : Below n a (w.drewN q) := by
  have e0 : (w.drewN q).heap = w.heap := by simp
  exact ⟨by rw [← h.os]; rfl, by rw [← h.tape]; rfl, by rw [← h.output]; rfl, by rw [e0]; exact h.size, fun k hk => by rw [e0]; exact h.block k hk⟩
end Go.Proofs.Ytbfcilfdeemnpaa

namespace Go.Proofs.Ytbfcilfdeemnpaa
open Go.RowKit

theorem sb_str {xs : List Int} (h : Byt xs) : sb (strOfNums xs) = xs := by
  unfold sb
  rw [strOfNums_data, List.map_map]
  refine (List.map_congr_left fun x hx => ?_).trans (List.map_id xs)
  have := h x hx
  simp only [Function.comp_apply, id_eq, UInt8.toNat_ofNat']
  omega
theorem conv_str {w : World} {ao : Option Addr} {n cap : Nat} {xs : List Int} (h : Sl w ao n cap xs) : (convert 25 9 (.slice ao n cap)).run Try.prog w = .ok (.string (strOfNums xs)) w := by
  cases ao with
  | none =>
    obtain ⟨rfl, rfl⟩ := h.nil rfl
    obtain rfl : xs = [] := List.eq_nil_of_length_eq_zero h.len
    exact run_convert_bytes_nil w _ _ Try.underlying25 Try.underlying5 _ _ _ Try.underlying9
  | some a =>
    have hl := h.len
    have hc := run_convert_bytes_back (P := Try.prog) w 25 9 5 a cap (xs.map fun n => UInt8.ofNat n.toNat) Try.underlying25 Try.underlying5 Try.underlying9 (fun j hj => by
      have hj' : j < xs.length := by simpa using hj
      have hb := h.byte xs[j] (List.getElem_mem hj')
      rw [h.cells a rfl j _ (bv_get xs j hj')]
      simp only [List.getElem_map, UInt8.toNat_ofNat', List.getD, List.getElem?_eq_getElem hj', Option.getD_some, Option.some.injEq, Value.int.injEq, true_and]
      omega)
    rw [List.length_map, hl] at hc
    exact hc
end Go.Proofs.Ytbfcilfdeemnpaa

namespace Go.Proofs.Ytbfcilfdeemnpaa
open Go.RowKit

/-- A slice of bytes that came in, as the frame of a proof tells it. -/
theorem Sl.row {w : World} {a : Option Addr} {n cap : Nat} {zs : List Int} (h : (a = none ∧ n = 0 ∧ cap = 0 ∧ zs = []) ∨
    ∃ x, a = some x ∧ n ≤ cap ∧ cap ≤ maxLen ∧ zs.length = cap ∧ (∀ i, i < zs.length → w.cell? (x.add i) = some (.int .u8 (zs.getD i 0))) ∧ ∀ z ∈ zs, (Lit.int .u8 z).wf = true) : Sl w a n cap (zs.take n) := by
  rcases h with ⟨rfl, rfl, rfl, rfl⟩ | ⟨x, rfl, hl, hm, hz, hc, hw⟩
  · exact Sl.nothing w
  · refine ⟨by simp; omega, hl, hm, fun h => by simp at h, fun b hb i hi => ?_, fun z hz => ?_⟩
    · obtain rfl := Option.some.inj hb
      rw [hc i (by omega)]
      simp [List.getD, hi]
    · have := hw z (List.mem_of_mem_take hz)
      simp [Lit.wf, IntKind.min, IntKind.max, IntKind.signed, IntKind.bits] at this
      omega
end Go.Proofs.Ytbfcilfdeemnpaa

namespace Go.Proofs.Ytbfcilfdeemnpaa
open Go.RowKit

theorem wp_scope_mid {P : Program} {Q : Exit → Act → World → Prop} {a : Act} {w : World} {h1 h2 h3 h4 h5 y : Code} (l : Nat) (J : Act → World → Prop) (μ : Act → World → Nat)
    (hf : findLabel (h1.seq (h2.seq (h3.seq (h4.seq (h5.seq ((Code.label l).seq y)))))) l = some (.seq .skip y))
    (first : h1.wp P (Exit.then (fun a w => h2.wp P (Exit.then (fun a w => h3.wp P (Exit.then (fun a w => h4.wp P (Exit.then (fun a w => h5.wp P (Exit.then J (Exit.jump l J Q)) a w) (Exit.jump l J Q)) a w) (Exit.jump l J Q)) a w) (Exit.jump l J Q)) a w) (Exit.jump l J Q)) a w)
    (pass : ∀ a w, J a w → y.wp P (Exit.jump l (fun a' w' => J a' w' ∧ μ a' w' < μ a w) Q) a w) :
    (Code.scope (h1.seq (h2.seq (h3.seq (h4.seq (h5.seq ((Code.label l).seq y))))))).wp P Q a w := by
  refine wp_scope_jumps l J μ hf ?_ ?_
  · have last : ∀ a w, J a w → ((Code.label l).seq y).wp P (Exit.jump l J Q) a w := fun a w hJ => by
      refine wp_seq (wp_label ?_)
      show y.wp P _ a w
      refine wp_mono (pass a w hJ) ?_
      intro e a' w' h
      cases e with
      | goto l' => exact ⟨h.1, h.2.1⟩
      | _ => exact h
    have up : ∀ {K K' : Act → World → Prop} {Q' : Exit → Act → World → Prop}, (∀ a w, K a w → K' a w) → ∀ e a w, Exit.then K Q' e a w → Exit.then K' Q' e a w := fun hk e a w h => by
      cases e with
      | normal => exact hk a w h
      | _ => exact h
    refine wp_seq (wp_mono first (up fun a w h => ?_))
    refine wp_seq (wp_mono h (up fun a w h => ?_))
    refine wp_seq (wp_mono h (up fun a w h => ?_))
    refine wp_seq (wp_mono h (up fun a w h => ?_))
    exact wp_seq (wp_mono h (up fun a w h => last a w h))
  · intro a w hJ
    exact wp_seq (wp_skip (pass a w hJ))
end Go.Proofs.Ytbfcilfdeemnpaa

namespace Go
section
variable {P : Program} {ops : Array Oper} {S : World → Prop} {Q : Exit → Act → World → Prop} {fuel : Nat} {listed : Array Bool} {a : Act} {w : World}
/-- Take number i first. -/
theorem hr_take (i : Nat) (d : Option Tmp) (v : Value) {oi : Oper} (hi : ops[i]? = some oi) (hd : oi.dst = d) (hs : Region.noSelect ops = true) (hf : Region.free .any ops listed i = true) (hr : (Region.ready .any ops listed).contains i = true)
    (hg : oi.guard = none) (hrun : ∀ W, S W → (execOp a.eval oi).run P W = .ok (.value v) W) (hS : S w) (h : wpAnyH P .any ops (NoPanic Q) S fuel (listed.setIfInBounds i true) (a.put d v) w) : wpAnyH P .any ops (NoPanic Q) S (fuel + 1) listed a w :=
  wpAnyH_take hi hs hf hr (fun _ _ _ h => h) (.inl ⟨by simp [Region.wanted, hg], hrun⟩) hS (by rw [hd]; exact h)
theorem hr_take_w (i : Nat) (d : Option Tmp) (v : Value) {oi : Oper} (hi : ops[i]? = some oi) (hd : oi.dst = d) (hs : Region.noSelect ops = true) (hf : Region.free .any ops listed i = true) (hr : (Region.ready .any ops listed).contains i = true)
    (hw : Region.wanted oi (yielded ops a.tmps) = true) (hrun : ∀ W, S W → (execOp a.eval oi).run P W = .ok (.value v) W) (hS : S w) (h : wpAnyH P .any ops (NoPanic Q) S fuel (listed.setIfInBounds i true) (a.put d v) w) : wpAnyH P .any ops (NoPanic Q) S (fuel + 1) listed a w :=
  wpAnyH_take hi hs hf hr (fun _ _ _ h => h) (.inl ⟨hw, hrun⟩) hS (by rw [hd]; exact h)
/-- Number i's guard says no. -/
theorem hr_none (i : Nat) (d : Option Tmp) {oi : Oper} (hi : ops[i]? = some oi) (hd : oi.dst = d) (hs : Region.noSelect ops = true) (hf : Region.free .any ops listed i = true) (hr : (Region.ready .any ops listed).contains i = true)
    (hw : Region.wanted oi (yielded ops a.tmps) = false) (hS : S w) (h : wpAnyH P .any ops (NoPanic Q) S fuel (listed.setIfInBounds i true) (a.put d undef) w) : wpAnyH P .any ops (NoPanic Q) S (fuel + 1) listed a w :=
  wpAnyH_take hi hs hf hr (fun _ _ _ h => h) (.inr ⟨hw, rfl⟩) hS (by rw [hd]; exact h)
/-- Carry number i out: no other may come up. -/
theorem hr_do (i : Nat) (d : Option Tmp) (v : Value) {oi : Oper} {w' : World} (hi : ops[i]? = some oi) (hd : oi.dst = d) (hr : Region.ready .any ops listed = [i]) (hg : oi.guard = none) (hrun : (execOp a.eval oi).run P w = .ok (.value v) w') (hS : S w')
    (h : wpAnyH P .any ops (NoPanic Q) S fuel (listed.setIfInBounds i true) (a.put d v) w') : wpAnyH P .any ops (NoPanic Q) S (fuel + 1) listed a w := by
  refine wpAnyH_all hr (by simp) fun j hj => ?_
  obtain rfl := List.mem_singleton.1 hj
  have hw : Region.wanted oi (yielded ops a.tmps) = true := by simp [Region.wanted, hg]
  unfold wpOp
  simp only [hi, hw, if_true, Oper.wp, hrun, Oper.upon, hd]
  exact .inl ⟨hS, h⟩
theorem hr_skip (i : Nat) (d : Option Tmp) {oi : Oper} {w' : World} (hi : ops[i]? = some oi) (hd : oi.dst = d) (hr : Region.ready .any ops listed = [i]) (hg : oi.guard = none) (hrun : (execOp a.eval oi).run P w = .ok .skip w') (hS : S w')
    (h : wpAnyH P .any ops (NoPanic Q) S fuel (listed.setIfInBounds i true) (a.put d undef) w') : wpAnyH P .any ops (NoPanic Q) S (fuel + 1) listed a w := by
  refine wpAnyH_all hr (by simp) fun j hj => ?_
  obtain rfl := List.mem_singleton.1 hj
  have hw : Region.wanted oi (yielded ops a.tmps) = true := by simp [Region.wanted, hg]
  unfold wpOp
  simp only [hi, hw, if_true, Oper.wp, hrun, Oper.upon, hd]
  exact .inl ⟨hS, h⟩
theorem hr_skip_ex (i : Nat) (d : Option Tmp) {oi : Oper} {R : World → Prop} (hi : ops[i]? = some oi) (hd : oi.dst = d) (hr : Region.ready .any ops listed = [i]) (hg : oi.guard = none) (hrun : ∃ w', (execOp a.eval oi).run P w = .ok .skip w' ∧ R w')
    (h : ∀ w', R w' → S w' ∧ wpAnyH P .any ops (NoPanic Q) S fuel (listed.setIfInBounds i true) (a.put d undef) w') : wpAnyH P .any ops (NoPanic Q) S (fuel + 1) listed a w := by
  obtain ⟨w', h1, h2⟩ := hrun
  exact hr_skip i d hi hd hr hg h1 (h w' h2).1 (h w' h2).2
/-- .. a call. -/
theorem hr_call (i : Nat) (d : Option Tmp) {oi : Oper} (f : FuncId) (args : Array Value) (hi : ops[i]? = some oi) (hd : oi.dst = d) (hr : Region.ready .any ops listed = [i]) (hg : oi.guard = none) (hrun : (execOp a.eval oi).run P w = .ok (.enter f args) w)
    (R : Value → World → Prop) (hc : Calls P f args w fun e w' => ∃ v, e = .returned v ∧ R v w')
    (h : ∀ v w', R v w' → S w' ∧ wpAnyH P .any ops (NoPanic Q) S fuel (listed.setIfInBounds i true) (a.put d v) w') : wpAnyH P .any ops (NoPanic Q) S (fuel + 1) listed a w := by
  refine wpAnyH_all hr (by simp) fun j hj => ?_
  obtain rfl := List.mem_singleton.1 hj
  have hw : Region.wanted oi (yielded ops a.tmps) = true := by simp [Region.wanted, hg]
  unfold wpOp
  simp only [hi, hw, if_true, Oper.wp, hrun, Oper.upon, hd]
  refine .inl (hc.mono ?_)
  rintro e w' ⟨v, rfl, hR⟩
  exact h v w' hR
theorem hr_call_w (i : Nat) (d : Option Tmp) {oi : Oper} (f : FuncId) (args : Array Value) (hi : ops[i]? = some oi) (hd : oi.dst = d) (hr : Region.ready .any ops listed = [i]) (hw : Region.wanted oi (yielded ops a.tmps) = true) (hrun : (execOp a.eval oi).run P w = .ok (.enter f args) w)
    (R : Value → World → Prop) (hc : Calls P f args w fun e w' => ∃ v, e = .returned v ∧ R v w')
    (h : ∀ v w', R v w' → S w' ∧ wpAnyH P .any ops (NoPanic Q) S fuel (listed.setIfInBounds i true) (a.put d v) w') : wpAnyH P .any ops (NoPanic Q) S (fuel + 1) listed a w := by
  refine wpAnyH_all hr (by simp) fun j hj => ?_
  obtain rfl := List.mem_singleton.1 hj
  unfold wpOp
  simp only [hi, hw, if_true, Oper.wp, hrun, Oper.upon, hd]
  refine .inl (hc.mono ?_)
  rintro e w' ⟨v, rfl, hR⟩
  exact h v w' hR
end
end Go

namespace Go.Proofs.Ytbfcilfdeemnpaa
open Go.RowKit

set_option maxHeartbeats 400000 in
theorem withRoom_any (w : World) (ao : Option Addr) (n cap r : Nat) (xs : List Int) (h : Sl w ao n cap xs) (hr : n + r ≤ 140737488355328) :
    Calls Try.prog 65 #[.slice ao n cap, .int .i64 r] w fun e w' =>
      e = .returned (.slice (some ⟨w.heap.size, 0, none⟩) n (n + r)) ∧ w'.ownsRow w.heap.size 5 1 (.slice (some ⟨w.heap.size, 0, none⟩) n (n + r)) n (bv xs) ∧ Below w.heap.size w w' := by
  obtain ⟨i0, hi, hz0, hz1, hz2⟩ := info_parts u8info
  have hl := h.len
  have hnil := h.nil
  have hcells := h.cells
  go_enter Try.func65, Try.ntmps65
  go_wp2_with (first | (at_make; refine wpList_make_own _ rfl _ _ 25 rfl w.heap.size 5 i0 (.int .u8 0) 1 Try.underlying25 hi hz0 hz1 _ _ _ (n + r) rfl rfl (by omega) (by rw [hz2]; omega) (by unfold maxLen; omega) (Nat.le_refl _) ?_; intro w1 hown1 hgrow1) | (at_builtin; refine wpList_append_fits_any _ rfl _ _ 25 rfl w.heap.size 5 i0 1 Try.underlying25 hi hz1 w.heap.size 0 (n + r) [] rfl hown1 ao n cap (bv xs) rfl (by rw [bv_length]; omega) hnil (fun ad had j u hu => hgrow1.cell (hcells ad had j u hu) (by simp)) (bv_one xs) (by omega) ?_; intro w2 hown2 hgrow2; simp only [Nat.zero_add, List.nil_append] at hown2) | fail)
  have hb : Below w.heap.size w w2 := ((Below.refl _ w).grown hgrow1 (Nat.le_refl _) (fun k hk => by simp at hk)).grown hgrow2 hgrow1.size (fun k hk => by simp at hk; omega)
  go_ret
  exact ⟨rfl, hown2, hb⟩
end Go.Proofs.Ytbfcilfdeemnpaa

namespace Go.Proofs.Ytbfcilfdeemnpaa
open Go.RowKit

/-- The first k bytes. -/
theorem Sl.take {w : World} {ao : Option Addr} {n cap : Nat} {xs : List Int} (h : Sl w ao n cap xs) (k : Nat) (hk : k ≤ n) : Sl w ao k cap (xs.take k) := by
  have h1 := h.le
  have h2 := h.len
  refine ⟨by simp; omega, by omega, h.mx, fun hn => ?_, fun a ha i hi => ?_, h.byte.take k⟩
  · have := h.nil hn
    omega
  · rw [h.cell a ha i (by omega)]
    simp [List.getD, hi]

end Go.Proofs.Ytbfcilfdeemnpaa

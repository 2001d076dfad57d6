/-
  Texts in one: Take.
-/
import Derived.Test.YtnbejckdhdbamaaGreatMessageRightQ1
import Derived.Test.YtnbejckdhdbamaaGreatMessageRightQ0
namespace Go.Proofs.YtnbejckdhdbamaaGreat
open Go.RowKit
theorem pow128 (i : Nat) : (128 : Nat) ^ i = 2 ^ (7 * i) := by rw [Nat.pow_mul]
theorem orShl (acc i : Nat) (c : Int) (hacc : acc < 128 ^ i) (hc : 0 ≤ c) (hi : i ≤ 9) (h9 : i = 9 → c ≤ 1) :
  bits BinOp.or IntKind.u64 (acc : Int) (IntKind.u64.wrap (c % 128 * 2 ^ (7 * i))) = ((acc + (c % 128).toNat * 128 ^ i : Nat) : Int) ∧ acc + (c % 128).toNat * 128 ^ i < 18446744073709551616 := by
 obtain ⟨x, hx⟩ : ∃ x : Nat, c % 128 = x := ⟨(c % 128).toNat, by omega⟩
 rw [hx]
 have hx1 : x < 128 := by omega
 have hx9 : i = 9 → x ≤ 1 := fun h => by have := h9 h; omega
 rw [pow128] at hacc ⊢
 have hpow : (2 : Nat) ^ (7 * i) ≤ 2 ^ 63 := Nat.pow_le_pow_right (by decide) (by omega)
 have hb : x * 2 ^ (7 * i) ≤ 18446744073709551615 - 2 ^ (7 * i) + 1 := by
  by_cases h : i = 9
  ·subst h
   have := hx9 rfl
   have : x = 0 ∨ x = 1 := by omega
   rcases this with rfl | rfl <;> decide
  ·have h56 : (2 : Nat) ^ (7 * i) ≤ 2 ^ 56 := Nat.pow_le_pow_right (by decide) (by omega)
   have : x * 2 ^ (7 * i) ≤ 127 * 2 ^ 56 := Nat.mul_le_mul (by omega) h56
   have : (2 : Nat) ^ 56 = 72057594037927936 := by decide
   omega
 have hp63 : (2 : Nat) ^ 63 = 9223372036854775808 := by decide
 have e1 : ((x : Nat) : Int) * 2 ^ (7 * i) = ((x * 2 ^ (7 * i) : Nat) : Int) := by
  rw [Int.natCast_mul, Int.natCast_pow]
  rfl
 rw [e1, IntKind.wrap_u64]
 rw [Int.toNat_natCast]
 generalize hA : 2 ^ (7 * i) = A at *
 have e2 : ((x * A : Nat) : Int) % 18446744073709551616 = ((x * A : Nat) : Int) := by omega
 rw [e2, bits_or_u64_nat acc (x * A) (by omega) (by omega)]
 have e3 : acc ||| x * A = acc + x * A := by
  subst hA
  rw [Nat.or_comm, Nat.mul_comm, ← Nat.two_pow_add_eq_or_of_lt hacc x, Nat.add_comm]
 rw [e3]
 exact ⟨rfl, by omega⟩
theorem tk_cons (i acc : Nat) (c : Int) (r : List Int) : tk i acc (c :: r) = if i = 9 ∧ 1 < c then (0, 0, 3) else if c = 0 ∧ 0 < i then (0, 0, 3) else if 128 ≤ c then tk (i + 1) (acc + (c % 128).toNat * 128 ^ i) r else (acc + (c % 128).toNat * 128 ^ i, i + 1, 0) := rfl
set_option maxHeartbeats 800000 in
set_option maxRecDepth 100000 in
theorem takeNumber_any (w : World) (ao : Option Addr) (n cap : Nat) (xs : List Int) (h : Sl w ao n cap xs) :
  Calls Tryz.prog 77 #[.slice ao n cap] w fun e w' =>
   e = .returned (.tuple #[.int .u64 ((tk 0 0 xs).1 : Nat), .int .i64 ((tk 0 0 xs).2.1 : Nat), .int .i64 ((tk 0 0 xs).2.2 : Nat)]) ∧ w' = w := by
 have hl := h.len
 have hle := h.le
 have hmx := h.mx
 unfold maxLen at hmx
 go_enter Tryz.func77, Tryz.ntmps77
 go_wp2
 refine wp_scope_label 0 (fun a' w' => w' = w ∧ ∃ (i acc : Nat) (u5 u6 u7 u8 u9 u10 u11 u12 u13 u14 u15 u16 u17 u18 u19 u20 u21 u22 u23 u24 u25 u26 u27 u28 u29 u30 u31 u32 u33 u34 u35 u36 u37 u38 u39 : Value), a' = { tmps := #[.slice ao n cap, undef, .int .u64 acc, .int .i64 i, .int .i64 0, u5, u6, u7, u8, u9, u10, u11, u12, u13, u14, u15, u16, u17, u18, u19, u20, u21, u22, u23, u24, u25, u26, u27, u28, u29, u30, u31, u32, u33, u34, u35, u36, u37, u38, u39], defers := [] } ∧ i ≤ n ∧ i ≤ 9 ∧ acc < 128 ^ i ∧ tk i acc (xs.drop i) = tk 0 0 xs) (fun a' _ => n - (intOf (a'.tmps.getD 3 undef)).toNat) ?_ ?_
 ·exact ⟨rfl, 0, 0, _, _, _, _, _, _, _, _, _, _, _, _, _, _, _, _, _, _, _, _, _, _, _, _, _, _, _, _, _, _, _, _, _, _, _, rfl, by omega, by omega, by decide, rfl⟩
 ·rintro a' w' ⟨rfl, i, acc, u5, u6, u7, u8, u9, u10, u11, u12, u13, u14, u15, u16, u17, u18, u19, u20, u21, u22, u23, u24, u25, u26, u27, u28, u29, u30, u31, u32, u33, u34, u35, u36, u37, u38, u39, rfl, hin, hi9, hacc, htk⟩
  have HT : Hid (tk i acc (xs.drop i) = tk 0 0 xs) := htk
  clear htk
  by_cases hend : i = n
  ·have hb : ((i : Int) == (n : Int)) = true := by simp [hend]
   have ht : tk 0 0 xs = (0, 0, 2) := by
    rw [← HT.out, List.drop_eq_nil_of_le (by omega)]
    rfl
   have HT2 : Hid (tk 0 0 xs = (0, 0, 2)) := ht
   clear ht
   go_wp2
   try simp only [Exit.jump]
   go_ret3
   rw [HT2.out]
   exact ⟨rfl, rfl⟩
  ·have hb : ((i : Int) == (n : Int)) = false := by simp; omega
   obtain ⟨b, off, rfl, hc⟩ := h.at (by omega)
   have c1 := hc i (by omega)
   have k1 : i < xs.length := by omega
   have hby := h.byte _ (List.getElem_mem k1)
   have hlt1 : (i : Int) < (n : Int) := by omega
   have hg : xs.getD i 0 = xs[i] := by simp [List.getD, k1]
   rw [hg] at c1
   have hd : xs.drop i = xs[i] :: xs.drop (i + 1) := List.drop_eq_getElem_cons k1
   have HD : Hid (xs.drop i = xs[i] :: xs.drop (i + 1)) := hd
   clear hc hd hg
   generalize xs[i] = c at c1 hby HD
   have ht := HT.out
   rw [HD.out, tk_cons] at ht
   by_cases hA : i = 9 ∧ 1 < c
   ·rw [if_pos hA] at ht
    obtain ⟨h9, h1⟩ := hA
    subst h9
    have HT2 : Hid ((0, 0, 3) = tk 0 0 xs) := ht
    clear ht
    go_wp2
    try simp only [Exit.jump]
    go_ret3
    rw [← HT2.out]
    exact ⟨rfl, rfl⟩
   ·rw [if_neg hA] at ht
    by_cases hB : c = 0 ∧ 0 < i
    ·rw [if_pos hB] at ht
     have HT2 : Hid ((0, 0, 3) = tk 0 0 xs) := ht
     obtain ⟨h0, hip⟩ := hB
     subst h0
     clear ht hA
     by_cases h9 : i = 9
     ·subst h9
      go_wp2
      try simp only [Exit.jump]
      go_ret3
      rw [← HT2.out]
      exact ⟨rfl, rfl⟩
     ·have hb9 : ((i : Int) == 9) = false := by simp; omega
      go_wp2
      try simp only [Exit.jump]
      go_ret3
      rw [← HT2.out]
      exact ⟨rfl, rfl⟩
    ·rw [if_neg hB] at ht
     obtain ⟨ho, hsum⟩ := orShl acc i c hacc (by omega) hi9 (by omega)
     have hpw : acc + (c % 128).toNat * 128 ^ i < 128 ^ (i + 1) := by
      have h1 : (c % 128).toNat * 128 ^ i ≤ 127 * 128 ^ i := Nat.mul_le_mul (by omega) (Nat.le_refl _)
      rw [Nat.pow_succ]
      omega
     generalize acc + (c % 128).toNat * 128 ^ i = s at ho hsum ht hpw
     by_cases hC : 128 ≤ c
     ·have h9 : ((i : Int) == 9) = false := by simp; omega
      have h0 : (c == 0) = false := by simp; omega
      rw [if_pos hC] at ht
      have HT2 : Hid (_ = tk 0 0 xs) := ht
      have hi8 : i ≤ 8 := by omega
      clear hA hB ht
      go_wp2
      go_step3
      rw [show ((i : Int) + 1) = ((i + 1 : Nat) : Int) from by omega]
      refine ⟨rfl, ⟨rfl, i + 1, s, _, _, _, _, _, _, _, _, _, _, _, _, _, _, _, _, _, _, _, _, _, _, _, _, _, _, _, _, _, _, _, _, _, _, _, rfl, by omega, by omega, hpw, HT2.out⟩, ?_⟩
      simp [intOf]
      omega
     ·rw [if_neg hC] at ht
      have HT2 : Hid (_ = tk 0 0 xs) := ht
      clear ht
      by_cases h9 : i = 9
      ·have hb9 : ((i : Int) == 9) = true := by simp; omega
       have hc1 : c ≤ 1 := by omega
       have h0 : (c == 0) = false := by simp; omega
       have h9l : 9 ≤ i := by omega
       clear hA hB h9
       go_wp2
       try simp only [Exit.jump]
       go_ret3
       rw [← HT2.out]
       exact ⟨rfl, rfl⟩
      ·have hb9 : ((i : Int) == 9) = false := by simp; omega
       clear hA
       by_cases h0 : c = 0
       ·have hb0 : (c == 0) = true := by simp; omega
        have hc0 : c ≤ 0 := by omega
        have hi0 : i ≤ 0 := by omega
        clear hB h0
        go_wp2
        try simp only [Exit.jump]
        go_ret3
        rw [← HT2.out]
        exact ⟨rfl, rfl⟩
       ·have h0 : (c == 0) = false := by simp; omega
        clear hB
        go_wp2
        try simp only [Exit.jump]
        go_ret3
        rw [← HT2.out]
        exact ⟨rfl, rfl⟩
end Go.Proofs.YtnbejckdhdbamaaGreat

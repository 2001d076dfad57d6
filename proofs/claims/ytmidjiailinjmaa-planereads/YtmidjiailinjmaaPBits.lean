/-
  Bits of two numbers, side by side.
-/
import Derived.Test.YtmidjiailinjmaaBase
import Derived.Laws.Bits64b
namespace Go.Proofs.Ytmidjiailinjmaa

/-- The bits at the even places, k of them. -/
def gat : Nat → Nat → Nat
  | 0, _ => 0
  | k + 1, N => N % 2 + 2 * gat k (N / 4)
/-- The lowest k bits, laid at the even places. -/
def spr : Nat → Nat → Nat
  | 0, _ => 0
  | k + 1, X => X % 2 + 4 * spr k (X / 2)
theorem gat_snoc : ∀ k N, gat (k + 1) N = gat k N + N / 4 ^ k % 2 * 2 ^ k
  | 0, N => by simp [gat]
  | k + 1, N => by
    have ih := gat_snoc k (N / 4)
    have e : N / 4 / 4 ^ k = N / 4 ^ (k + 1) := by rw [Nat.div_div_eq_div_mul, Nat.pow_succ, Nat.mul_comm]
    rw [e] at ih
    have h2 : ∀ x : Nat, 2 * (x * 2 ^ k) = x * 2 ^ (k + 1) := fun x => by rw [Nat.pow_succ, Nat.mul_comm (2 ^ k) 2, Nat.mul_left_comm]
    show N % 2 + 2 * gat (k + 1) (N / 4) = _
    rw [ih, Nat.mul_add, h2, show gat (k + 1) N = N % 2 + 2 * gat k (N / 4) from rfl, Nat.add_assoc]
theorem spr_snoc : ∀ k X, spr (k + 1) X = spr k X + X / 2 ^ k % 2 * 4 ^ k
  | 0, X => by simp [spr]
  | k + 1, X => by
    have ih := spr_snoc k (X / 2)
    have e : X / 2 / 2 ^ k = X / 2 ^ (k + 1) := by rw [Nat.div_div_eq_div_mul, Nat.pow_succ, Nat.mul_comm]
    rw [e] at ih
    have h2 : ∀ x : Nat, 4 * (x * 4 ^ k) = x * 4 ^ (k + 1) := fun x => by rw [Nat.pow_succ, Nat.mul_comm (4 ^ k) 4, Nat.mul_left_comm]
    show X % 2 + 4 * spr (k + 1) (X / 2) = _
    rw [ih, Nat.mul_add, h2, show spr (k + 1) X = X % 2 + 4 * spr k (X / 2) from rfl, Nat.add_assoc]
theorem gat_lt : ∀ k N, gat k N < 2 ^ k
  | 0, _ => by simp [gat]
  | k + 1, N => by
    have := gat_lt k (N / 4)
    rw [gat, Nat.pow_succ]
    omega
theorem spr_lt : ∀ k X, spr k X < 4 ^ k
  | 0, _ => by simp [spr]
  | k + 1, X => by
    have := spr_lt k (X / 2)
    rw [spr, Nat.pow_succ]
    omega
theorem spr_gat_succ (k N : Nat) : spr (k + 1) (gat (k + 1) N) = N % 2 + 4 * spr k (gat k (N / 4)) := by
  rw [spr, gat]
  rw [show (N % 2 + 2 * gat k (N / 4)) % 2 = N % 2 by omega, show (N % 2 + 2 * gat k (N / 4)) / 2 = gat k (N / 4) by omega]
/-- What is drawn apart and laid side by side again. -/
theorem spr_gat : ∀ k N, 2 * spr k (gat k (N / 2)) + spr k (gat k N) = N % 4 ^ k
  | 0, N => by simp [spr, Nat.mod_one]
  | k + 1, N => by
    have ih := spr_gat k (N / 4)
    rw [show N / 4 / 2 = N / 2 / 4 by omega] at ih
    rw [spr_gat_succ, spr_gat_succ, Nat.pow_succ, Nat.mul_comm (4 ^ k), Nat.mod_mul]
    omega
theorem or_add (A b i : Nat) (h : b < 2 ^ i) : b ||| A * 2 ^ i = b + A * 2 ^ i := by
  have := Nat.two_pow_add_eq_or_of_lt h A
  rw [Nat.mul_comm] at this
  rw [Nat.or_comm, ← this, Nat.add_comm]
theorem or_four (P p Q q : Nat) (hp : p < 4) (hq : q < 4) : (4 * P + p) ||| (4 * Q + q) = 4 * (P ||| Q) + (p ||| q) := by
  have h1 := Nat.two_pow_add_eq_or_of_lt (i := 2) hp P
  have h2 := Nat.two_pow_add_eq_or_of_lt (i := 2) hq Q
  have h4 : p ||| q < 2 ^ 2 := Nat.or_lt_two_pow hp hq
  have h3 := Nat.two_pow_add_eq_or_of_lt (i := 2) h4 (P ||| Q)
  simp only [show (2 : Nat) ^ 2 = 4 from rfl] at h1 h2 h3
  have e : 4 * (P ||| Q) = 4 * P ||| 4 * Q := by
    have := Nat.shiftLeft_or_distrib (a := P) (b := Q) (i := 2)
    simp only [Nat.shiftLeft_eq, show (2 : Nat) ^ 2 = 4 from rfl] at this
    rw [Nat.mul_comm, this, Nat.mul_comm P, Nat.mul_comm Q]
  rw [h1, h2, h3, e]
  rw [Nat.or_assoc, Nat.or_assoc]
  congr 1
  rw [← Nat.or_assoc, Nat.or_comm p, Nat.or_assoc]
theorem spr_or : ∀ k X Y, 2 * spr k X ||| spr k Y = 2 * spr k X + spr k Y
  | 0, _, _ => by simp [spr]
  | k + 1, X, Y => by
    have ih := spr_or k (X / 2) (Y / 2)
    rw [spr, spr]
    have hx : X % 2 < 2 := Nat.mod_lt _ (by omega)
    have hy : Y % 2 < 2 := Nat.mod_lt _ (by omega)
    generalize X % 2 = x at *
    generalize Y % 2 = y at *
    have h := or_four (2 * spr k (X / 2)) (2 * x) (spr k (Y / 2)) y (by omega) (by omega)
    have hs : 2 * x ||| y = 2 * x + y := by
      have : ∀ a : Fin 2, ∀ b : Fin 2, 2 * a.val ||| b.val = 2 * a.val + b.val := by decide
      exact this ⟨x, hx⟩ ⟨y, hy⟩
    rw [ih, hs] at h
    rw [show 2 * (x + 4 * spr k (X / 2)) = 4 * (2 * spr k (X / 2)) + 2 * x by omega, show y + 4 * spr k (Y / 2) = 4 * spr k (Y / 2) + y by omega, h]
    omega
theorem bit_at (N m : Nat) (hN : N < 18446744073709551616) : bits BinOp.and IntKind.u64 ((N : Int) / 2 ^ m) 1 = ((N / 2 ^ m % 2 : Nat) : Int) := by
  have e : (N : Int) / 2 ^ m = ((N / 2 ^ m : Nat) : Int) := by push_cast; rfl
  rw [e]
  have h := bits_and_u64_nat (N / 2 ^ m) 1 (Nat.lt_of_le_of_lt (Nat.div_le_self _ _) hN) (by omega)
  have a := Nat.and_two_pow_sub_one_eq_mod (N / 2 ^ m) 1
  exact h.trans (by rw [show (1 : Nat) = 2 ^ 1 - 1 from rfl, a])
theorem or_step (A b i : Nat) (hb : b < 2 ^ i) (hA : A ≤ 1) (hi : i ≤ 43) : bits BinOp.or IntKind.u64 (b : Int) (IntKind.u64.wrap ((A : Int) * 2 ^ i)) = ((b + A * 2 ^ i : Nat) : Int) := by
  have hp : 2 ^ i ≤ 2 ^ 43 := Nat.pow_le_pow_right (by omega) hi
  have hm : A * 2 ^ i ≤ 1 * 2 ^ i := Nat.mul_le_mul_right _ hA
  have e : ((A : Int) * 2 ^ i) = ((A * 2 ^ i : Nat) : Int) := by push_cast; rfl
  rw [e, IntKind.wrap_u64, Int.emod_eq_of_lt (by omega) (by omega), ← or_add A b i hb]
  exact bits_or_u64_nat b (A * 2 ^ i) (by omega) (by omega)
theorem gat_step (N j : Nat) (hN : N < 18446744073709551616) (hj : j < 22) : bits BinOp.or IntKind.u64 ((gat j N : Nat) : Int) (IntKind.u64.wrap (bits BinOp.and IntKind.u64 ((N : Int) / 2 ^ (2 * j)) 1 * 2 ^ j)) = ((gat (j + 1) N : Nat) : Int) := by
  rw [bit_at N _ hN, or_step _ _ j (gat_lt j N) (by omega) (by omega), gat_snoc, show (2 : Nat) ^ (2 * j) = 4 ^ j by rw [Nat.pow_mul]]
theorem spr_step (X j : Nat) (hX : X < 18446744073709551616) (hj : j < 22) : bits BinOp.or IntKind.u64 ((spr j X : Nat) : Int) (IntKind.u64.wrap (bits BinOp.and IntKind.u64 ((X : Int) / 2 ^ j) 1 * 2 ^ (2 * j))) = ((spr (j + 1) X : Nat) : Int) := by
  have e : (2 : Nat) ^ (2 * j) = 4 ^ j := by rw [Nat.pow_mul]
  rw [bit_at X _ hX, or_step _ _ (2 * j) (by rw [e]; exact spr_lt j X) (by omega) (by omega), spr_snoc, e]
end Go.Proofs.Ytmidjiailinjmaa

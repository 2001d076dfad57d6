/-
  A time's bytes: small facts.
-/
import Derived.Test.YthghninlfkkahaaCEsc
import Derived.Laws.Bits64b
namespace Go.Proofs.Ythghninlfkkahaa
open Go.RowKit

theorem byte_at (T m : Nat) (hT : T < 18446744073709551616) : bits BinOp.and IntKind.u64 ((T : Int) / 2 ^ (8 * m)) 255 = ((T / 256 ^ m % 256 : Nat) : Int) := by
  have h2 : (2 : Nat) ^ (8 * m) = 256 ^ m := by rw [Nat.pow_mul]
  have e : (T : Int) / 2 ^ (8 * m) = ((T / 256 ^ m : Nat) : Int) := by
    rw [← h2]
    push_cast
    rfl
  rw [e]
  have h := bits_and_u64_nat (T / 256 ^ m) 255 (Nat.lt_of_le_of_lt (Nat.div_le_self _ _) hT) (by omega)
  have a := Nat.and_two_pow_sub_one_eq_mod (T / 256 ^ m) 8
  exact h.trans (by rw [show (255 : Nat) = 2 ^ 8 - 1 from rfl, a])
theorem beL_take : ∀ n T j, j < n → (beL n T).take (j + 1) = (beL n T).take j ++ [255 - ((T / 256 ^ (n - 1 - j) % 256 : Nat) : Int)]
  | 0, _, _, h => by omega
  | n + 1, T, 0, _ => by simp [beL]
  | n + 1, T, j + 1, h => by
    rw [beL, List.take_succ_cons, List.take_succ_cons, beL_take n T j (by omega), List.cons_append]
    rw [show n + 1 - 1 - (j + 1) = n - 1 - j by omega]
end Go.Proofs.Ythghninlfkkahaa

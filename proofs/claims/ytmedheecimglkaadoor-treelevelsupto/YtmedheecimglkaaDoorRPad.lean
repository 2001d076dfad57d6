/-
  What the reference's Sum makes of the bytes, held against what the program makes of them.
-/
import Derived.Test.YtmedheecimglkaaDoorSumM
namespace Go.Proofs.YtmedheecimglkaaDoor
open Go.RowKit

/-- A length by eight bytes, the highest first. -/
def be8 (L : Nat) : List Int := (List.range 8).map fun i => ((L / 2 ^ (8 * (7 - i)) % 256 : Nat) : Int)

theorem padL_ref (n : Nat) : padL n = 128 :: (List.replicate (pe n - 9) 0 ++ be8 (n * 8 % 18446744073709551616)) := by
  have he := pe_le n
  obtain ⟨e, hee⟩ : ∃ e, e = pe n := ⟨_, rfl⟩
  obtain ⟨L, hL⟩ : ∃ L, L = n * 8 % 18446744073709551616 := ⟨_, rfl⟩
  unfold padL
  rw [← hee, ← hL]
  rw [← hee] at he
  refine List.ext_getElem? fun q => ?_
  by_cases hq : q < e
  · have h72 : q < 72 := by omega
    rw [List.getElem?_take_of_lt hq]
    simp only [tl, List.getElem?_map, List.getElem?_range h72, Option.map_some]
    by_cases h8 : e ≤ q + 8
    · rw [if_pos ⟨h8, hq⟩]
      obtain ⟨p, rfl⟩ : ∃ p, q = p + 1 := ⟨q - 1, by omega⟩
      have i8 : p - (e - 9) < 8 := by omega
      rw [List.getElem?_cons_succ, List.getElem?_append_right (by simp; omega)]
      simp only [List.length_replicate, be8, List.getElem?_map, List.getElem?_range i8, Option.map_some]
      have e7 : 7 - (p - (e - 9)) = e - 1 - (p + 1) := by omega
      rw [e7]
    · rw [if_neg (by omega)]
      cases q with
      | zero => rfl
      | succ p =>
        rw [if_neg (by omega), List.getElem?_cons_succ, List.getElem?_append_left (by simp; omega), List.getElem?_replicate, if_pos (by omega)]
  · rw [List.getElem?_take_eq_none (by omega), List.getElem?_eq_none (by simp [be8]; omega)]

/-- The words behind i blocks. -/
def XS (bs : List Int) (i : Nat) : List Int := part H0 (AA bs i) 8
theorem XS_zero (bs : List Int) : XS bs 0 = H0 := by
  unfold XS AA
  decide
theorem XS_succ (bs : List Int) (i : Nat) : part (Rr (XS bs i) (W (blk bs i) 64) 64) (XS bs i) 8 = XS bs (i + 1) := by
  refine List.ext_getElem? fun j => ?_
  by_cases hj : j < 8
  · have lA := AA_len bs i
    simp only [XS, AA, mixA, part, List.getElem?_map, List.getElem?_range hj, Option.map_some, hj, if_true]
    refine congrArg some ?_
    have g1 : ∀ (F : Nat → Int), ((List.range 8).map F).getD j 0 = F j := fun F => by simp [List.getD, hj]
    rw [g1, g1]
    simp only [hj, if_true]
    obtain ⟨x, hx⟩ : ∃ x, x = H0.getD j 0 := ⟨_, rfl⟩
    obtain ⟨y, hy⟩ : ∃ y, y = (AA bs i).getD j 0 := ⟨_, rfl⟩
    rw [← hx, ← hy]
    generalize (Rr _ _ 64).getD j 0 = z
    simp only [ad, IntKind.wrap_u32']
    omega
  · simp [XS, part, hj]
theorem wds_XS (bs : List Int) : wds bs = XS (bs ++ padL bs.length) ((bs ++ padL bs.length).length / 64) := rfl

end Go.Proofs.YtmedheecimglkaaDoor

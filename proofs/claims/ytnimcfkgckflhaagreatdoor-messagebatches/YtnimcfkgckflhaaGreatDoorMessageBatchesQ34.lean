/-
  Texts in one: RPad, App2.
-/
import Derived.Test.YtnimcfkgckflhaaGreatDoorMessageBatchesQ15
import Derived.Test.YtnimcfkgckflhaaGreatDoorMessageBatchesQ0
namespace Go.Proofs.YtnimcfkgckflhaaGreatDoor
open Go.RowKit
def be8 (L : Nat) : List Int := (List.range 8).map fun i => ((L / 2 ^ (8 * (7 - i)) % 256 : Nat) : Int)
theorem padL_ref (n : Nat) : padL n = 128 :: (List.replicate (pe n - 9) 0 ++ be8 (n * 8 % 18446744073709551616)) := by
  have he := pe_le n
  obtain ⟨e, hee⟩ : ∃ e, e = pe n := ⟨_, rfl⟩
  obtain ⟨L, hL⟩ : ∃ L, L = n * 8 % 18446744073709551616 := ⟨_, rfl⟩
  unfold padL
  rw [← hee, ← hL]
  rw [← hee] at he
  refine List.ext_getElem? fun q => ?_
  by_cases hq : q < e
  · have h72 : q < 72 := by omega
    rw [List.getElem?_take_of_lt hq]
    simp only [tl, List.getElem?_map, List.getElem?_range h72, Option.map_some]
    by_cases h8 : e ≤ q + 8
    · rw [if_pos ⟨h8, hq⟩]
      obtain ⟨p, rfl⟩ : ∃ p, q = p + 1 := ⟨q - 1, by omega⟩
      have i8 : p - (e - 9) < 8 := by omega
      rw [List.getElem?_cons_succ, List.getElem?_append_right (by simp; omega)]
      simp only [List.length_replicate, be8, List.getElem?_map, List.getElem?_range i8, Option.map_some]
      have e7 : 7 - (p - (e - 9)) = e - 1 - (p + 1) := by omega
      rw [e7]
    · rw [if_neg (by omega)]
      cases q with
      | zero => rfl
      | succ p =>
        rw [if_neg (by omega), List.getElem?_cons_succ, List.getElem?_append_left (by simp; omega), List.getElem?_replicate, if_pos (by omega)]
  · rw [List.getElem?_take_eq_none (by omega), List.getElem?_eq_none (by simp [be8]; omega)]
def XS (bs : List Int) (i : Nat) : List Int := part H0 (AA bs i) 8
theorem XS_zero (bs : List Int) : XS bs 0 = H0 := by
  unfold XS AA
  decide
theorem XS_succ (bs : List Int) (i : Nat) : part (Rr (XS bs i) (W (blk bs i) 64) 64) (XS bs i) 8 = XS bs (i + 1) := by
  refine List.ext_getElem? fun j => ?_
  by_cases hj : j < 8
  · have lA := AA_len bs i
    simp only [XS, AA, mixA, part, List.getElem?_map, List.getElem?_range hj, Option.map_some, hj, if_true]
    refine congrArg some ?_
    have g1 : ∀ (F : Nat → Int), ((List.range 8).map F).getD j 0 = F j := fun F => by simp [List.getD, hj]
    rw [g1, g1]
    simp only [hj, if_true]
    obtain ⟨x, hx⟩ : ∃ x, x = H0.getD j 0 := ⟨_, rfl⟩
    obtain ⟨y, hy⟩ : ∃ y, y = (AA bs i).getD j 0 := ⟨_, rfl⟩
    rw [← hx, ← hy]
    generalize (Rr _ _ 64).getD j 0 = z
    simp only [ad, IntKind.wrap_u32']
    omega
  · simp [XS, part, hj]
theorem wds_XS (bs : List Int) : wds bs = XS (bs ++ padL bs.length) ((bs ++ padL bs.length).length / 64) := rfl
open Go.RowKit
theorem wpList_app2 {w : World} {ops : Array Oper} {rest : List Oper} {o : Oper} {a : Act} {Q : Exit → Act → World → Prop} (hgd : o.guard = none) (s x : Operand)
    (ho : o.op = .call { callee := .builtin .append, args := #[s, x], argTypes := #[28, 28] })
    (base : Nat) (g0 n c0 : Nat) (xs : List Int) (hs : a.eval s = .slice (some ⟨g0, 0, none⟩) n c0) (hown : w.ownsRow base 5 1 (.slice (some ⟨g0, 0, none⟩) n c0) n (bv xs))
    (bo : Option Addr) (m c : Nat) (ys : List Int) (hx : a.eval x = .slice bo m c) (hsl : Sl w bo m c ys) (hb : n + m ≤ 140737488355328) (hbase : base ≤ w.heap.size)
    (h : ∀ g cap w', w'.ownsRow base 5 1 (.slice (some ⟨g, 0, none⟩) (n + m) cap) (n + m) (bv (xs ++ ys)) → Below base w w' → wpList Tryz.prog ops Q rest (a.put o.dst (.slice (some ⟨g, 0, none⟩) (n + m) cap)) w') : wpList Tryz.prog ops Q (o :: rest) a w := by
  obtain ⟨i0, hi, hz0, hz1, hz2⟩ := info_parts u8info
  cases bo with
  | some ad =>
    refine wpList_append_own w hgd s x 28 ho base 5 i0 (.int .u8 0) 1 1 Tryz.underlying28 hi hz0 hz1 hz2 rfl (by decide) _ n (bv xs) hs hown ad m c (bv ys) hx (by rw [bv_length, hsl.len, Nat.mul_one]) (hsl.cells ad rfl) (bv_one ys) (by unfold maxLen; omega) (by omega) hbase ?_
    intro v' w' h1 h2 h3
    rw [← bv_append] at h1
    have hb2 := (Below.refl _ w).grown h2 hbase (fun k hk => (hown.lt k hk).1)
    rcases h1.2 with ⟨e, _⟩ | ⟨g, cap, cur, e, _⟩
    · exact absurd (h3.1 e).1 (by simp)
    · subst e
      exact h g cap w' h1 hb2
  | none =>
    obtain ⟨rfl, rfl⟩ := hsl.nil rfl
    obtain rfl : ys = [] := List.eq_nil_of_length_eq_zero hsl.len
    refine wpList_append_own_none hgd s x 28 ho base 5 i0 1 Tryz.underlying28 hi _ n (bv xs) hs hown hx ?_
    exact h g0 c0 w (by simpa using hown) (Below.refl _ _)
end Go.Proofs.YtnimcfkgckflhaaGreatDoor

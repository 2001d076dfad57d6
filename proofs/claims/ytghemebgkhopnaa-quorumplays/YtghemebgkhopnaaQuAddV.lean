/-
  Add, in one form.
-/
import Derived.Test.YtghemebgkhopnaaQuAdd
import Derived.Test.YtghemebgkhopnaaQuNew
namespace Go.Proofs.Ytghemebgkhopnaa
open Go.RowKit

/-- What becomes of votes, and what is answered. -/
def addV (f : Nat) (l : List VT) (fr : Nat) (v : VT) : List VT × Int :=
  if fr = 0 ∨ 3 * f + 1 < fr then (l, 15) else if (l[fr - 1]?.map VT.is).getD false = true then (l, 18) else (l.set (fr - 1) v, 0)
theorem addV_out {f : Nat} {l : List VT} {fr : Nat} {v : VT} (h : fr = 0 ∨ 3 * f + 1 < fr) : addV f l fr v = (l, 15) := by unfold addV; rw [if_pos h]
theorem addV_again {f : Nat} {l : List VT} {k : Nat} {v : VT} (h : k < 3 * f + 1) (hk : k < l.length) (hi : l[k].is = true) : addV f l (k + 1) v = (l, 18) := by
  unfold addV
  rw [if_neg (by omega), Nat.add_sub_cancel, if_pos (by rw [List.getElem?_eq_getElem hk]; exact hi)]
theorem addV_ok {f : Nat} {l : List VT} {k : Nat} {v : VT} (h : k < 3 * f + 1) (hk : k < l.length) (hi : l[k].is = false) : addV f l (k + 1) v = (l.set k v, 0) := by
  unfold addV
  rw [if_neg (by omega), Nat.add_sub_cancel, if_neg (by rw [List.getElem?_eq_getElem hk]; show ¬ l[k].is = true; rw [hi]; simp)]
theorem add_any (w : World) (p f : Nat) (l : List VT) (h : QS w p f l) (fr : Nat) (hfr : fr < 18446744073709551616) (ao bo co : Option Addr) (n1 cap n2 cap2 n3 cap3 : Nat) (xs ys zs : List Int) (S1 : Sl w ao n1 cap xs) (S2 : Sl w bo n2 cap2 ys) (S3 : Sl w co n3 cap3 zs) (b1 : n1 ≤ 1000000) (b2 : n2 ≤ 1000000) (b3 : n3 ≤ 1000000) :
    Calls Try.prog 20 #[.pointer (some ⟨p, 0, none⟩), .agg #[.int .u64 (fr : Nat), .slice ao n1 cap, .slice bo n2 cap2], .slice co n3 cap3] w fun x w' =>
      x = .returned (.int .i64 (addV f l fr ⟨true, strOfNums zs, strOfNums xs, strOfNums ys⟩).2) ∧ QS w' p f (addV f l fr ⟨true, strOfNums zs, strOfNums xs, strOfNums ys⟩).1 ∧ w.grownBy w' (some p) := by
  match fr, hfr with
  | 0, _ =>
    rw [addV_out (.inl rfl)]
    refine (add_zero w p f l h ao bo co n1 cap n2 cap2 n3 cap3).mono ?_
    rintro x w' ⟨rfl, C⟩
    exact ⟨rfl, h.below C, bel_grown C _⟩
  | k + 1, hfr =>
    by_cases hk : 3 * f + 1 ≤ k
    · rw [addV_out (.inr (by omega))]
      refine (add_over w p f l h k _ rfl hk hfr ao bo co n1 cap n2 cap2 n3 cap3).mono ?_
      rintro x w' ⟨rfl, C⟩
      exact ⟨rfl, h.below C, bel_grown C _⟩
    · have hk2 : k < 3 * f + 1 := by omega
      have f4 := h.f4
      have hkl : k < l.length := by rw [h.len]; omega
      cases hi : l[k].is with
      | true =>
        rw [addV_again hk2 hkl hi]
        refine (add_again w p f l h k _ rfl hk2 (fun _ => hi) ao bo co n1 cap n2 cap2 n3 cap3).mono ?_
        rintro x w' ⟨rfl, C⟩
        exact ⟨rfl, h.below C, bel_grown C _⟩
      | false =>
        rw [addV_ok hk2 hkl hi]
        refine (add_ok w p f l h k _ rfl hk2 (fun _ => hi) ao bo co n1 cap n2 cap2 n3 cap3 xs ys zs S1 S2 S3 b1 b2 b3).mono ?_
        rintro x w' ⟨rfl, Q, G⟩
        exact ⟨rfl, Q, G⟩
end Go.Proofs.Ytghemebgkhopnaa

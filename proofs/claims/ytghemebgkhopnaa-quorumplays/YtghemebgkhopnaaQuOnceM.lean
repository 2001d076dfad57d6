/-
  Votes: no two words have Most. No program is named here.
-/
import Derived.Test.YtghemebgkhopnaaQuEnough
namespace Go.Proofs.Ytghemebgkhopnaa
open Go.RowKit

def voters (l : List VT) : Nat := (l.filter VT.is).length
theorem cnt_two (s t : ByteArray) (h : s ≠ t) : ∀ l : List VT, cntV s l + cntV t l ≤ voters l
  | [] => Nat.le_refl _
  | v :: l => by
    have ih := cnt_two s t h l
    unfold cntV voters at ih ⊢
    simp only [List.filter_cons]
    cases hv : v.is with
    | false =>
      have e1 : v.fo s = false := by unfold VT.fo; rw [hv]; rfl
      have e2 : v.fo t = false := by unfold VT.fo; rw [hv]; rfl
      rw [e1, e2]
      simpa using ih
    | true =>
      by_cases e1 : v.word = s
      · have f1 : v.fo s = true := by unfold VT.fo; rw [hv, e1]; simp
        have f2 : v.fo t = false := by unfold VT.fo; rw [hv, e1]; simpa using h
        rw [f1, f2]
        simp only [if_true, List.length_cons]
        simp
        omega
      · have f1 : v.fo s = false := by unfold VT.fo; rw [hv]; simpa using e1
        rw [f1]
        cases f2 : v.fo t <;> simp <;> omega
theorem cnt_voters (s : ByteArray) : ∀ l : List VT, cntV s l ≤ voters l
  | [] => Nat.le_refl _
  | v :: l => by
    have ih := cnt_voters s l
    unfold cntV voters at ih ⊢
    simp only [List.filter_cons]
    cases hv : v.is with
    | false =>
      have e1 : v.fo s = false := by unfold VT.fo; rw [hv]; rfl
      rw [e1]
      simpa using ih
    | true => cases f2 : v.fo s <;> simp <;> omega
theorem voters_le (l : List VT) (n : Nat) (h : ∀ i (hi : i < l.length), n ≤ i → l[i].is = false) : voters l ≤ n := by
  have e : l.filter VT.is = (l.take n).filter VT.is ++ (l.drop n).filter VT.is := by rw [← List.filter_append, List.take_append_drop]
  have e2 : (l.drop n).filter VT.is = [] := by
    rw [List.filter_eq_nil_iff]
    intro v hv
    obtain ⟨i, hi, rfl⟩ := List.getElem_of_mem hv
    rw [List.getElem_drop]
    rw [List.length_drop] at hi
    rw [h (n + i) (by omega) (by omega)]
    simp
  unfold voters
  rw [e, e2, List.append_nil]
  exact Nat.le_trans (List.length_filter_le _ _) (by rw [List.length_take]; omega)
theorem en_of (l : List VT) (s : ByteArray) (M : Nat) (hc : M ≤ cntV s l) (h2 : voters l < 2 * M) : enV l M = some s := by
  have hex : ∃ v ∈ l, v.fo s = true := by
    have : 0 < (l.filter fun v => v.fo s).length := by unfold cntV at hc; omega
    obtain ⟨v, hv⟩ := List.exists_mem_of_length_pos this
    rw [List.mem_filter] at hv
    exact ⟨v, hv.1, by simpa using hv.2⟩
  obtain ⟨v, hv, hf⟩ := hex
  have hvi : v.is = true := by unfold VT.fo at hf; cases h : v.is with | true => rfl | false => rw [h] at hf; cases hf
  have hvw : v.word = s := by unfold VT.fo at hf; rw [hvi] at hf; simpa using hf
  unfold enV
  cases hfd : l.find? (fun v => v.is && decide ((M : Int) ≤ cntV v.word l)) with
  | none =>
    have := List.find?_eq_none.1 hfd v hv
    rw [hvi, hvw] at this
    simp at this
    omega
  | some u =>
    have hu := List.find?_some hfd
    simp only [Bool.and_eq_true, decide_eq_true_eq] at hu
    have hcu : M ≤ cntV u.word l := by omega
    by_cases e : u.word = s
    · rw [Option.map_some, e]
    · have := cnt_two u.word s e l
      omega
theorem en_cnt {l : List VT} {s : ByteArray} {M : Nat} (h : enV l M = some s) : M ≤ cntV s l := by
  unfold enV at h
  cases hfd : l.find? (fun v => v.is && decide ((M : Int) ≤ cntV v.word l)) with
  | none => rw [hfd] at h; cases h
  | some u =>
    rw [hfd] at h
    have hu := List.find?_some hfd
    simp only [Bool.and_eq_true, decide_eq_true_eq] at hu
    have : u.word = s := by simpa using h
    rw [← this]
    omega
theorem str_sb (s : ByteArray) : strOfNums (sb s) = s := sb_inj (sb_str (sb_byte s))
end Go.Proofs.Ytghemebgkhopnaa

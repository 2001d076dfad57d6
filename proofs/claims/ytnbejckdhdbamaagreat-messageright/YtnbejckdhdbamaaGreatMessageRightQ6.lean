/-
  Texts in one: PLeafM.
-/
import Derived.Test.YtnbejckdhdbamaaGreatMessageRightQ5
namespace Go.Proofs.YtnbejckdhdbamaaGreat
open Go.RowKit
def noBs : Bs := ⟨none, 0, 0, []⟩
def OA.noW (o : OA) : OA := { o with wa := noBs, has := false }
def OA.noV (o : OA) : OA := { o with va := noBs }
def OA.noT (o : OA) : OA := { o with time := 0 }
def OA.noK (o : OA) : OA := { o with fam := noTxt, qual := noTxt }
def OA.noTo (o : OA) : OA := { o with to := noTxt }
def OA.noS (o : OA) : OA := { o with so := none, sn := 0, sc := 0 }
theorem OA.ok.noW {o : OA} {w : World} (h : o.ok w) : o.noW.ok w := ⟨h.kind, h.row, h.fam, h.qual, h.time, h.to, h.va, Sl.nothing w, h.le, h.mx, h.nil⟩
theorem OA.ok.noV {o : OA} {w : World} (h : o.ok w) : o.noV.ok w := ⟨h.kind, h.row, h.fam, h.qual, h.time, h.to, Sl.nothing w, h.wa, h.le, h.mx, h.nil⟩
theorem OA.ok.noT {o : OA} {w : World} (h : o.ok w) : o.noT.ok w := ⟨h.kind, h.row, h.fam, h.qual, by show 0 < 18446744073709551616; decide, h.to, h.va, h.wa, h.le, h.mx, h.nil⟩
theorem OA.ok.noK {o : OA} {w : World} (h : o.ok w) : o.noK.ok w := ⟨h.kind, h.row, Nat.zero_le _, Nat.zero_le _, h.time, h.to, h.va, h.wa, h.le, h.mx, h.nil⟩
theorem OA.ok.noTo {o : OA} {w : World} (h : o.ok w) : o.noTo.ok w := ⟨h.kind, h.row, h.fam, h.qual, h.time, Nat.zero_le _, h.va, h.wa, h.le, h.mx, h.nil⟩
theorem OA.ok.noS {o : OA} {w : World} (h : o.ok w) : o.noS.ok w := ⟨h.kind, h.row, h.fam, h.qual, h.time, h.to, h.va, h.wa, Nat.le_refl _, Nat.zero_le _, fun _ => ⟨rfl, rfl⟩⟩
def OA.key (o : OA) : KA := ⟨o.row, o.fam, o.qual, o.time⟩
theorem len_nil {o : Bs} {w : World} (h : Sl w o.ao o.n o.cap o.xs) : o.xs = [] ↔ o.n = 0 := by
 rw [← h.len]
 exact (List.length_eq_zero_iff).symm
theorem leaf5 {o : OA} {w : World} (h : o.ok w) (hk : o.kind = 5) (hw : o.wa.n ≤ 256 ∧ (o.has = true ∨ o.wa.n = 0)) (hv : o.va.n ≤ 256) (hr : o.key.isRight = true) : leaf o.s o.sn = isAlone o.noW.noV.noT.noK := by
 have l1 := h.va.len
 have l2 := h.wa.len
 have n2 := len_nil h.wa
 have hr := of_decide_eq_true hr
 have hw2 : (if o.has = true then o.wa.xs else []) = o.wa.xs := by
  rcases hw.2 with c | c
  ·rw [if_pos c]
  ·by_cases d : o.has = true
   ·rw [if_pos d]
   ·rw [if_neg d, n2.2 c]
 rw [Bool.eq_iff_iff]
 unfold leaf isAlone sameS onlyS aloneO keyR OA.s OA.noW OA.noV OA.noT OA.noK
 simp only [OA.key] at hr
 simp [hk, hw2, l1, l2, hv, hw.1, hr, noBs]
theorem leaf1 {o : OA} {w : World} (h : o.ok w) (hk : o.kind = 1) (hv : o.va.n ≤ 256) (hr : o.key.isRight = true) : leaf o.s o.sn = isAlone o.noV.noT.noK := by
 have l1 := h.va.len
 have hr := of_decide_eq_true hr
 rw [Bool.eq_iff_iff]
 unfold leaf isAlone sameS onlyS aloneO keyR OA.s OA.noV OA.noT OA.noK
 simp only [OA.key] at hr
 simp [hk, l1, hv, hr, noBs]
 grind
theorem leaf2 {o : OA} (hk : o.kind = 2) (hr : o.key.isRight = true) : leaf o.s o.sn = isAlone o.noT.noK := by
 have hr := of_decide_eq_true hr
 rw [Bool.eq_iff_iff]
 unfold leaf isAlone sameS onlyS aloneO keyR OA.s OA.noT OA.noK
 simp only [OA.key] at hr
 simp [hk, hr]
 grind
theorem leaf37 {o : OA} (hk : o.kind = 3 ∨ o.kind = 7) (hr : o.key.isRight = true) : leaf o.s o.sn = isAlone o.noK := by
 have hr := of_decide_eq_true hr
 rw [Bool.eq_iff_iff]
 unfold leaf isAlone sameS onlyS aloneO keyR OA.s OA.noK
 simp only [OA.key] at hr
 rcases hk with hk | hk
 ·simp [hk, hr]
  grind
 ·simp [hk, hr]
  grind
theorem leaf4 {o : OA} (hk : o.kind = 4) (hr : o.row.size ≠ 0) : leaf o.s o.sn = isAlone o := by
 rw [Bool.eq_iff_iff]
 unfold leaf isAlone sameS onlyS aloneO rowR OA.s
 simp [hk]
 grind
theorem leaf8 {o : OA} (hk : o.kind = 8) (ht : o.to.size ≤ 32) : leaf o.s o.sn = isAlone o.noTo := by
 rw [Bool.eq_iff_iff]
 unfold leaf isAlone sameS onlyS aloneO OA.s OA.noTo
 simp [hk, ht]
 grind
theorem leaf6 {o : OA} (hk : o.kind = 6) (hr : o.row.size ≠ 0) : leaf o.s o.sn = (isAlone o.noS && decide (1 ≤ o.sn ∧ o.sn ≤ 8)) := by
 rw [Bool.eq_iff_iff]
 unfold leaf isAlone sameS onlyS aloneO rowR OA.s OA.noS
 simp [hk]
 grind
theorem leaf_noKey {o : SO} {n : Nat} (hk : o.kind = 1 ∨ o.kind = 2 ∨ o.kind = 3 ∨ o.kind = 5 ∨ o.kind = 7) (hr : (⟨o.row, o.fam, o.qual, o.time⟩ : KA).isRight = false) : leaf o n = false := by
 unfold leaf
 rw [if_pos hk, show keyR o = false from hr, Bool.and_false]
theorem leaf_noRow {o : SO} {n : Nat} (hk : o.kind = 4 ∨ o.kind = 6) (hr : o.row.size = 0) : leaf o n = false := by
 unfold leaf rowR
 rcases hk with hk | hk <;> simp [hk, hr]
theorem leaf_noTo {o : SO} {n : Nat} (hk : o.kind = 8) (hr : 32 < o.to.size) : leaf o n = false := by
 unfold leaf
 simp [hk]
 omega
theorem leaf_noKind {o : SO} {n : Nat} (hk : o.kind < 1 ∨ 8 < o.kind) : leaf o n = false := by
 by_cases h : leaf o n = true
 ·have := leaf_kind h
  omega
 ·simpa using h
theorem leaf_long {o : SO} {n : Nat} (h : 256 < o.value.length ∨ 256 < o.want.length) : leaf o n = false := by
 unfold leaf
 rw [decide_eq_false (by omega), Bool.false_and]
theorem leaf_noHas {o : SO} {n : Nat} (hk : o.kind = 5) (h1 : o.has = false) (h2 : o.want ≠ []) : leaf o n = false := by
 unfold leaf
 rw [decide_eq_false, Bool.false_and]
 rintro ⟨h, _⟩
 have e := (sameS_iff _ _).1 h
 apply h2
 rw [e]
 unfold onlyS
 simp [hk, h1]
end Go.Proofs.YtnbejckdhdbamaaGreat

/-
  What readers tell, as functions on bytes: the program's (S: nothing is left where something is wrong) and the reference's (T: its bytes stay). No program is named here.
-/
import Derived.Test.YtbfcilfdeemnpaaLaws
import Derived.Test.YtbfcilfdeemnpaaBase
namespace Go.Proofs.Ytbfcilfdeemnpaa
open Go.RowKit

/-- What Uint tells, and the reader behind it. -/
def uintS (xs : List Int) (k : Int) : Nat × List Int × Int :=
  if k = 0 then (if (tk 0 0 xs).2.2 = 0 then ((tk 0 0 xs).1, xs.drop (tk 0 0 xs).2.1, 0) else (0, [], ((tk 0 0 xs).2.2 : Nat))) else (0, xs, k)

/-- What Int tells, and the reader behind it. -/
def intS (xs : List Int) (k most : Int) : Nat × List Int × Int :=
  if (uintS xs k).2.2 = 0 then (if most < 0 ∨ most < (uintS xs k).1 then (0, [], 4) else uintS xs k) else (0, (uintS xs k).2)
/-- What Bytes tells, and the reader behind it. -/
def bytesS (xs : List Int) (k most : Int) : List Int × List Int × Int :=
  if (intS xs k most).2.2 = 0 then (if (intS xs k most).2.1.length < (intS xs k most).1 then ([], [], 2) else ((intS xs k most).2.1.take (intS xs k most).1, (intS xs k most).2.1.drop (intS xs k most).1, 0)) else ([], (intS xs k most).2)
/-- What Bool tells, and the reader behind it. -/
def boolS (xs : List Int) (k : Int) : Bool × List Int × Int :=
  if k = 0 then (match xs with
    | [] => (false, [], 2)
    | c :: r => if 1 < c then (false, [], 3) else (c == 1, r, 0)) else (false, xs, k)

theorem uintS_lt {xs : List Int} {k : Int} (hb : Byt xs) : (uintS xs k).1 < 18446744073709551616 := by
  unfold uintS
  split
  · split
    · exact tk_lt xs 0 0 hb (by omega) (by decide)
    · simp
  · simp

/-- What Done tells. -/
def doneS (xs : List Int) (k : Int) : Int := if k = 0 then (if xs = [] then 0 else 3) else k
/-- A truth's form. -/
def enb (b : Bool) : List Int := if b then [1] else [0]
theorem enb_byte (b : Bool) : Byt (enb b) := by
  intro x hx
  cases b <;> simp [enb] at hx <;> omega

theorem uintS_enc {k : Nat} (hk : k < 18446744073709551616) (xs : List Int) : uintS (enc k ++ xs) 0 = (k, xs, 0) := by
  unfold uintS
  rw [if_pos rfl, tk_enc hk xs]
  simp

theorem bytesS_put {xs : List Int} {n : Nat} (hl : xs.length = n) (hn : n < 18446744073709551616) (rest : List Int) (most : Int) :
    bytesS (enc n ++ (xs ++ rest)) 0 most = if most < 0 ∨ most < n then ([], [], 4) else (xs, rest, 0) := by
  unfold bytesS intS
  rw [uintS_enc hn]
  simp only [if_true]
  by_cases h : most < 0 ∨ most < (n : Int)
  · rw [if_pos h]; simp [h]
  · rw [if_neg h]
    simp only [h, if_false]
    rw [if_pos trivial, if_neg (by simp; omega)]
    rw [← hl]
    simp
theorem boolS_put (b : Bool) (rest : List Int) : boolS (enb b ++ rest) 0 = (b, rest, 0) := by
  cases b <;> simp [boolS, enb]
/-- What the reference's Uint tells, and its reader behind it: it keeps its bytes where something is wrong. -/
def uintT (xs : List Int) (k : Int) : Nat × List Int × Int :=
  if k = 0 then (if (tk 0 0 xs).2.2 = 0 then ((tk 0 0 xs).1, xs.drop (tk 0 0 xs).2.1, 0) else (0, xs, ((tk 0 0 xs).2.2 : Nat))) else (0, xs, k)

theorem uintT_ok {xs : List Int} {m u : Nat} (h : tk 0 0 xs = (m, u, 0)) : uintT xs 0 = (m, xs.drop u, 0) := by
  unfold uintT
  rw [if_pos rfl, h]
  rfl
theorem uintT_bad {xs : List Int} {m u q : Nat} (h : tk 0 0 xs = (m, u, q)) (hq : q ≠ 0) : uintT xs 0 = (0, xs, (q : Int)) := by
  unfold uintT
  rw [if_pos rfl, h]
  simp [hq]
def intT (xs : List Int) (k most : Int) : Nat × List Int × Int :=
  if (uintT xs k).2.2 = 0 then (if most < 0 ∨ most < (uintT xs k).1 then (0, (uintT xs k).2.1, 4) else uintT xs k) else (0, (uintT xs k).2)
def bytesT (xs : List Int) (k most : Int) : List Int × List Int × Int :=
  if (intT xs k most).2.2 = 0 then (if (intT xs k most).2.1.length < (intT xs k most).1 then ([], (intT xs k most).2.1, 2) else ((intT xs k most).2.1.take (intT xs k most).1, (intT xs k most).2.1.drop (intT xs k most).1, 0)) else ([], (intT xs k most).2)
def boolT (xs : List Int) (k : Int) : Bool × List Int × Int :=
  if k = 0 then (match xs with
    | [] => (false, [], 2)
    | c :: r => if 1 < c then (false, c :: r, 3) else (c == 1, r, 0)) else (false, xs, k)

theorem uintT_lt {xs : List Int} {k : Int} (hb : Byt xs) : (uintT xs k).1 < 18446744073709551616 := by
  unfold uintT
  split
  · split
    · exact tk_lt xs 0 0 hb (by omega) (by decide)
    · simp
  · simp

theorem uint_same {xs ys : List Int} {k : Int} (h : k = 0 → xs = ys) : (uintT ys k).1 = (uintS xs k).1 ∧ (uintT ys k).2.2 = (uintS xs k).2.2 ∧ ((uintS xs k).2.2 = 0 → (uintS xs k).2.1 = (uintT ys k).2.1) := by
  unfold uintS uintT
  by_cases hk : k = 0
  · obtain rfl := h hk
    rw [if_pos hk, if_pos hk]
    by_cases hq : (tk 0 0 xs).2.2 = 0
    · rw [if_pos hq, if_pos hq]; exact ⟨rfl, rfl, fun _ => rfl⟩
    · rw [if_neg hq, if_neg hq]; exact ⟨rfl, rfl, fun h => by simp at h; omega⟩
  · rw [if_neg hk, if_neg hk]; exact ⟨rfl, rfl, fun h => absurd h hk⟩

theorem int_same {xs ys : List Int} {k : Int} (h : k = 0 → xs = ys) (most : Int) : (intT ys k most).1 = (intS xs k most).1 ∧ (intT ys k most).2.2 = (intS xs k most).2.2 ∧ ((intS xs k most).2.2 = 0 → (intS xs k most).2.1 = (intT ys k most).2.1) := by
  obtain ⟨h1, h2, h3⟩ := uint_same h
  unfold intS intT
  rw [h1, h2]
  by_cases hq : (uintS xs k).2.2 = 0
  · rw [if_pos hq, if_pos hq]
    by_cases hb : most < 0 ∨ most < ((uintS xs k).1 : Int)
    · rw [if_pos hb, if_pos hb]; exact ⟨rfl, rfl, fun h => by simp at h⟩
    · rw [if_neg hb, if_neg hb]; exact ⟨h1, h2, h3⟩
  · rw [if_neg hq, if_neg hq]; exact ⟨rfl, h2, h3⟩

theorem bytes_same {xs ys : List Int} {k : Int} (h : k = 0 → xs = ys) (most : Int) : (bytesT ys k most).1 = (bytesS xs k most).1 ∧ (bytesT ys k most).2.2 = (bytesS xs k most).2.2 ∧ ((bytesS xs k most).2.2 = 0 → (bytesS xs k most).2.1 = (bytesT ys k most).2.1) := by
  obtain ⟨h1, h2, h3⟩ := int_same h most
  unfold bytesS bytesT
  rw [h1, h2]
  by_cases hq : (intS xs k most).2.2 = 0
  · rw [if_pos hq, if_pos hq, ← h3 hq]
    by_cases hb : (intS xs k most).2.1.length < (intS xs k most).1
    · rw [if_pos hb, if_pos hb]; exact ⟨rfl, rfl, fun h => by simp at h⟩
    · rw [if_neg hb, if_neg hb]; exact ⟨rfl, rfl, fun _ => rfl⟩
  · rw [if_neg hq, if_neg hq]; exact ⟨rfl, h2, h3⟩

theorem bool_same {xs ys : List Int} {k : Int} (h : k = 0 → xs = ys) : (boolT ys k).1 = (boolS xs k).1 ∧ (boolT ys k).2.2 = (boolS xs k).2.2 ∧ ((boolS xs k).2.2 = 0 → (boolS xs k).2.1 = (boolT ys k).2.1) := by
  by_cases hk : k = 0
  · obtain rfl := h hk
    subst hk
    cases xs with
    | nil => exact ⟨rfl, rfl, fun h => by simp [boolS] at h⟩
    | cons c r =>
      by_cases hc : 1 < c
      · simp [boolS, boolT, hc]
      · simp [boolS, boolT, hc]
  · simp [boolS, boolT, hk]

theorem left_same {xs ys : List Int} {k : Int} (h : k = 0 → xs = ys) : (if k = 0 then (ys.length : Int) else 0) = (if k = 0 then (xs.length : Int) else 0) := by
  by_cases hk : k = 0
  · rw [h hk]
  · rw [if_neg hk, if_neg hk]
theorem done_same {xs ys : List Int} {k : Int} (h : k = 0 → xs = ys) : doneS ys k = doneS xs k := by
  by_cases hk : k = 0
  · rw [h hk]
  · simp [doneS, hk]

end Go.Proofs.Ytbfcilfdeemnpaa

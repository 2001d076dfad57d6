/-
  Votes of replicas: how many are for a word, who is the first. No program is named here.
-/
import Derived.Test.YtghemebgkhopnaaBase
namespace Go.Proofs.Ytghemebgkhopnaa

/-- Can so many be faulty? -/
def okF (f : Int) : Bool := decide (1 ≤ f ∧ f ≤ 4)
def nF (f : Int) (t : Int) : Int := if okF f = true then t * f + 1 else 0
def prF (v : Nat) (f : Int) : Nat := if okF f = true then 1 + v % (3 * f + 1).toNat else 0
/-- A vote, as it is kept: whether it is, its word, its text and tag. -/
structure VT where
  is : Bool
  word : ByteArray
  body : ByteArray
  tag : ByteArray
def zVT : VT := ⟨false, ⟨#[]⟩, ⟨#[]⟩, ⟨#[]⟩⟩
def VT.cells (v : VT) : List Value := [.bool v.is, .string v.word, .string v.body, .string v.tag]
structure VT.ok (v : VT) : Prop where
  word : v.word.size ≤ 1000000
  body : v.body.size ≤ 1000000
  tag : v.tag.size ≤ 1000000
theorem zVT_ok : zVT.ok := ⟨Nat.zero_le _, Nat.zero_le _, Nat.zero_le _⟩
/-- Is it for that word? -/
def VT.fo (v : VT) (s : ByteArray) : Bool := v.is && decide (v.word = s)
/-- How many are for a word. -/
def cntV (s : ByteArray) (l : List VT) : Nat := (l.filter fun v => v.fo s).length
theorem cntV_le (s : ByteArray) (l : List VT) : cntV s l ≤ l.length := List.length_filter_le _ _
theorem cntV_snoc (s : ByteArray) (l : List VT) (v : VT) : cntV s (l ++ [v]) = cntV s l + (if v.fo s = true then 1 else 0) := by
  unfold cntV
  rw [List.filter_append, List.length_append]
  congr 1
  simp only [List.filter_cons, List.filter_nil]
  split <;> rfl
/-- A map that has each word's number. -/
def CntS (F : Value → Option Value) (l : List VT) : Prop := ∀ s : ByteArray, (F (.string s)).getD (.int .i64 0) = .int .i64 (cntV s l : Nat)
theorem CntS.skip {F : Value → Option Value} {l : List VT} {v : VT} (h : CntS F l) (hv : v.is = false) : CntS F (l ++ [v]) := fun s => by
  rw [cntV_snoc, h s]
  have : v.fo s = false := by unfold VT.fo; rw [hv]; rfl
  rw [this]
  simp
theorem CntS.step {F F' : Value → Option Value} {l : List VT} {v : VT} (h : CntS F l) (hv : v.is = true) (h1 : F' (.string v.word) = some (.int .i64 ((cntV v.word l : Nat) + 1 : Int))) (h2 : ∀ x, x ≠ .string v.word → F' x = F x) : CntS F' (l ++ [v]) := fun s => by
  rw [cntV_snoc]
  unfold VT.fo
  rw [hv]
  by_cases e : v.word = s
  · subst e
    rw [h1]
    simp
  · rw [h2 _ (fun q => e (by simpa using q.symm)), h s]
    simp [e]
/-- The cells of all votes. -/
def cellsV (l : List VT) : List Value := (l.map VT.cells).flatten
theorem v_one (v : VT) : ∀ u ∈ v.cells, u.oneCell' = true := by
  intro u hu
  unfold VT.cells at hu
  simp only [List.mem_cons, List.not_mem_nil, or_false] at hu
  rcases hu with rfl | rfl | rfl | rfl <;> rfl
theorem cellsV_len : ∀ l : List VT, (cellsV l).length = l.length * 4
  | [] => rfl
  | v :: l => by
    have := cellsV_len l
    unfold cellsV at this ⊢
    simp only [List.map_cons, List.flatten_cons, List.length_append, VT.cells, List.length_cons, List.length_nil] at this ⊢
    omega
theorem cellsV_at : ∀ (l : List VT) (k : Nat) (hk : k < l.length), ((cellsV l).drop (k * 4)).take 4 = l[k].cells
  | [], _, hk => absurd hk (Nat.not_lt_zero _)
  | v :: l, 0, _ => by simp [cellsV, VT.cells]
  | v :: l, k + 1, hk => by
    have e : (k + 1) * 4 = 4 + k * 4 := by omega
    have := cellsV_at l k (by simpa using hk)
    rw [e]
    unfold cellsV at this ⊢
    simp only [List.map_cons, List.flatten_cons, List.getElem_cons_succ]
    rw [← this, ← List.drop_drop]
    simp [VT.cells]
theorem cellsV_get (l : List VT) (k j : Nat) (hk : k < l.length) (hj : j < 4) : (cellsV l)[k * 4 + j]? = (l[k].cells)[j]? := by
  rw [← cellsV_at l k hk]
  simp [List.getElem?_drop, hj]
/-- A vote written over another. -/
theorem cellsV_set : ∀ (l : List VT) (k : Nat) (v : VT), k < l.length → (((((cellsV l).set (k * 4) (.bool v.is)).set (k * 4 + 1) (.string v.word)).set (k * 4 + 2) (.string v.body)).set (k * 4 + 3) (.string v.tag)) = cellsV (l.set k v)
  | [], _, _, hk => absurd hk (Nat.not_lt_zero _)
  | u :: l, 0, v, _ => by simp [cellsV, VT.cells]
  | u :: l, k + 1, v, hk => by
    have := cellsV_set l k v (by simpa using hk)
    have e0 : (k + 1) * 4 = k * 4 + 1 + 1 + 1 + 1 := by omega
    unfold cellsV at this ⊢
    rw [e0]
    have e1 : k * 4 + 1 + 1 + 1 + 1 + 1 = (k * 4 + 1) + 1 + 1 + 1 + 1 := by omega
    have e2 : k * 4 + 1 + 1 + 1 + 1 + 2 = (k * 4 + 2) + 1 + 1 + 1 + 1 := by omega
    have e3 : k * 4 + 1 + 1 + 1 + 1 + 3 = (k * 4 + 3) + 1 + 1 + 1 + 1 := by omega
    rw [e1, e2, e3]
    simp only [List.map_cons, List.flatten_cons, List.set_cons_succ, VT.cells, List.cons_append, List.nil_append] at this ⊢
    rw [this]
/-- Who votes for the first word that n have voted for. -/
def enV (l : List VT) (n : Int) : Option ByteArray := (l.find? fun v => v.is && decide (n ≤ cntV v.word l)).map VT.word
end Go.Proofs.Ytghemebgkhopnaa

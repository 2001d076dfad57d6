/-
  The reference's readers, as functions: what they leave behind a fault is another, what they tell is the same. No program is named here.
-/
import Derived.Test.YtbfcilfdeemnpaaPRdRM
namespace Go.Proofs.Ytbfcilfdeemnpaa

/-- Two readers that tell the same. -/
def Alike {α : Type} (f g : Th α) : Prop := ∀ xs k, (f xs k).2.2 = (g xs k).2.2 ∧ ((g xs k).2.2 = 0 → f xs k = g xs k)
theorem Thr.alike {α : Type} {P : List Int → Rs α} {f g : Th α} (h : Thr P g) (a : Alike f g) : Thr P f := by
  refine ⟨fun xs v r hx => ?_, fun xs q hx => ?_, fun xs k hk => ?_⟩
  · have e := h.ok xs v r hx
    rw [(a xs 0).2 (by rw [e])]
    exact e
  · rw [(a xs 0).1]
    exact h.bad xs q hx
  · rw [(a xs k).1]
    exact h.stuck xs k hk
theorem alike_uint : Alike uintT uintS := by
  intro xs k
  unfold uintT uintS
  by_cases hk : k = 0
  · rw [if_pos hk, if_pos hk]
    by_cases ht : (tk 0 0 xs).2.2 = 0
    · rw [if_pos ht, if_pos ht]
      exact ⟨rfl, fun _ => rfl⟩
    · rw [if_neg ht, if_neg ht]
      exact ⟨rfl, fun h => absurd (by simpa using h) ht⟩
  · rw [if_neg hk, if_neg hk]
    exact ⟨rfl, fun _ => rfl⟩
def intR (most : Nat) : Th Nat := fun xs k => intT xs k most
theorem alike_int (most : Nat) : Alike (intR most) (intT' most) := by
  intro xs k
  have a := alike_uint xs k
  unfold intR intT' intT intS
  by_cases h : (uintS xs k).2.2 = 0
  · rw [a.2 h, if_pos h, if_pos h]
    by_cases c : (most : Int) < 0 ∨ (most : Int) < (uintS xs k).1
    · rw [if_pos c, if_pos c]
      exact ⟨rfl, fun h => absurd h (by decide)⟩
    · rw [if_neg c, if_neg c]
      exact ⟨rfl, fun _ => rfl⟩
  · rw [if_neg h, if_neg (by rw [a.1]; exact h)]
    exact ⟨a.1, fun e => absurd e h⟩
def byR (most : Nat) : Th (List Int) := fun xs k => bytesT xs k most
theorem alike_by (most : Nat) : Alike (byR most) (byT most) := by
  intro xs k
  have a : (intT xs k most).2.2 = (intS xs k most).2.2 ∧ ((intS xs k most).2.2 = 0 → intT xs k most = intS xs k most) := alike_int most xs k
  unfold byR byT bytesT bytesS
  by_cases h : (intS xs k most).2.2 = 0
  · rw [a.2 h, if_pos h, if_pos h]
    by_cases c : (intS xs k most).2.1.length < (intS xs k most).1
    · rw [if_pos c, if_pos c]
      exact ⟨rfl, fun h => absurd h (by decide)⟩
    · rw [if_neg c, if_neg c]
      exact ⟨rfl, fun _ => rfl⟩
  · rw [if_neg h, if_neg (by rw [a.1]; exact h)]
    exact ⟨a.1, fun e => absurd e h⟩
theorem alike_bool : Alike boolT boolS := by
  intro xs k
  unfold boolT boolS
  by_cases hk : k = 0
  · rw [if_pos hk, if_pos hk]
    cases xs with
    | nil => exact ⟨rfl, fun _ => rfl⟩
    | cons c r =>
      by_cases hc : 1 < c
      · simp only [hc, if_true]
        exact ⟨trivial, fun h => absurd h (by decide)⟩
      · simp only [hc, if_false]
        exact ⟨trivial, fun _ => trivial⟩
  · rw [if_neg hk, if_neg hk]
    exact ⟨rfl, fun _ => rfl⟩
theorem thr_uintR : Thr pUint uintT := thr_uint.alike alike_uint
theorem thr_intR (most : Nat) : Thr (pInt most) (intR most) := (thr_int most).alike (alike_int most)
theorem thr_byR (most : Nat) : Thr (pBytes most) (byR most) := (thr_bytes most).alike (alike_by most)
theorem thr_boolR : Thr pBool boolT := thr_bool.alike alike_bool
def txR (most : Nat) : Th ByteArray := mapT strOfNums (byR most)
theorem thr_txR (most : Nat) : Thr (pText most) (txR most) := (thr_byR most).map strOfNums
def keyRT : Th (ByteArray × ByteArray × ByteArray × Nat) := andT (txR 32) (andT (txR 32) (andT (txR 32) uintT))
def rawR (most : Nat) : Th Raw := andT (intR 100) (andT (txR 32) (andT (txR 32) (andT (txR 32) (andT uintT (andT (txR 32) (andT (byR 256) (andT (byR 256) (andT boolT (intR most)))))))))
def sR (most : Nat) : Th SN := mapT toS (rawR most)
theorem thr_sR (most : Nat) : Thr (pS most) (sR most) :=
  ((thr_intR 100).andThen ((thr_txR 32).andThen ((thr_txR 32).andThen ((thr_txR 32).andThen (thr_uintR.andThen ((thr_txR 32).andThen ((thr_byR 256).andThen ((thr_byR 256).andThen (thr_boolR.andThen (thr_intR most)))))))))).map toS
def opR : Th OP := mapT toP (andD (sR 8) fun p => stopT (sR 0) p.2)
theorem thr_pR : Thr pP opR := ((thr_sR 8).dep fun p => (thr_sR 0).stop p.2).map toP
def reqR : Th QV := andT uintT (andT uintT opR)
theorem thr_qR : Thr pQ reqR := thr_uintR.andThen (thr_uintR.andThen thr_pR)
def cR : Th CV := mapT toC (andT (txR 32) (andT (txR 32) (andT (txR 32) (andT uintT (andT (byR 256) boolT)))))
theorem thr_cR : Thr pC cR := ((thr_txR 32).andThen ((thr_txR 32).andThen ((thr_txR 32).andThen (thr_uintR.andThen ((thr_byR 256).andThen thr_boolR))))).map toC
def resRT : Th RV := mapT toR (andT (intR 100) (andD (intR 16) fun n => andT (stopT cR n) boolT))
theorem thr_rR : Thr pR resRT := ((thr_intR 100).andThen ((thr_intR 16).dep fun n => (thr_cR.stop n).andThen thr_boolR)).map toR
/-- What the reference reads of bytes. -/
theorem rdO_ref (xs : List Int) : rdO xs = rdT opR kindP xs := rd_thr thr_pR kindP xs
theorem rdQ_ref (xs : List Int) : rdQ xs = rdT reqR kindQ xs := rd_thr thr_qR kindQ xs
theorem rdR_ref (xs : List Int) : rdR xs = rdT resRT kindR xs := rd_thr thr_rR kindR xs
end Go.Proofs.Ytbfcilfdeemnpaa

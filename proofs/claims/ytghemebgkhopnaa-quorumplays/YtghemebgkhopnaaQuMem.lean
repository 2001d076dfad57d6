/-
  Votes in memory.
-/
import Derived.Test.YtghemebgkhopnaaQuMath
import Derived.Test.YtghemebgkhopnaaDCells
import Derived.Test.YtghemebgkhopnaaSgMem
import Derived.Test.YtghemebgkhopnaaMapE
import Derived.StringKeys
import Derived.Deep.MidRow
namespace Go.Proofs.Ytghemebgkhopnaa
open Go.RowKit

/-- The votes of replicas of f faulty ones, in block p. -/
structure QS (w : World) (p f : Nat) (l : List VT) : Prop where
  mem : Arr w p 66 (.int .i64 f :: cellsV l)
  len : l.length = 13
  f1 : 1 ≤ f
  f4 : f ≤ 4
  ok : ∀ v ∈ l, v.ok
  out : ∀ i (hi : i < l.length), 3 * f + 1 ≤ i → l[i].is = false
theorem QS.lt {w : World} {p f : Nat} {l : List VT} (h : QS w p f l) : p < w.heap.size := h.mem.lt
theorem QS.keep {w w' : World} {p f : Nat} {l : List VT} (h : QS w p f l) (hk : w'.heap[p]? = w.heap[p]?) : QS w' p f l := ⟨hk.trans h.mem, h.len, h.f1, h.f4, h.ok, h.out⟩
theorem QS.below {w w' : World} {p f : Nat} {l : List VT} (h : QS w p f l) (hb : Below w.heap.size w w') : QS w' p f l := h.keep (hb.block p h.lt)
theorem QS.f {w : World} {p f : Nat} {l : List VT} (h : QS w p f l) : w.cell? ⟨p, 0, none⟩ = some (.int .i64 f) := by rw [h.mem.cell]; rfl
theorem QS.cells {w : World} {p f : Nat} {l : List VT} (h : QS w p f l) (k j : Nat) (hk : k < l.length) (hj : j < 4) : w.cell? ⟨p, 1 + k * 4 + j, none⟩ = (l[k].cells)[j]? := by
  rw [h.mem.cell, show 1 + k * 4 + j = (k * 4 + j) + 1 from by omega, List.getElem?_cons_succ, cellsV_get l k j hk hj]
theorem QS.row {w : World} {p f : Nat} {l : List VT} (h : QS w p f l) : ∀ j v, (cellsV l)[j]? = some v → w.cell? ((⟨p, 1, none⟩ : Addr).add j) = some v := by
  intro j v hv
  rw [add_at, h.mem.cell, show 1 + j = j + 1 from by omega, List.getElem?_cons_succ]
  exact hv
theorem aggV (w : World) : (isAgg 64).run Try.prog w = .ok true w := by
  simp [isAgg, run_underlying Try.underlying64 w]
theorem sizeV : (Try.prog.info? 64).map (·.size) = some 52 := by kernel_rfl
theorem size1 : (Try.prog.info? 63).map (·.size) = some 4 := by kernel_rfl
theorem agg1 (w : World) : (isAgg 63).run Try.prog w = .ok true w := by
  simp [isAgg, run_underlying Try.underlying63 w]
/-- A vote out of an array that is held as a value. -/
theorem indexV (l : List VT) (hl : l.length = 13) (k : Nat) (hk : k < l.length) (w : World) : (Instr.index 64 (.agg (cellsV l).toArray) (.int .i64 k)).run Try.prog w = .ok (.agg #[.bool l[k].is, .string l[k].word, .string l[k].body, .string l[k].tag]) w := by
  have e : (cellsV l).toArray.extract (k * 4) (k * 4 + 4) = #[.bool l[k].is, .string l[k].word, .string l[k].body, .string l[k].tag] := by
    have h := cellsV_at l k hk
    apply Array.ext'
    simp only [Array.toList_extract, List.extract_eq_take_drop, Nat.add_sub_cancel_left]
    exact h
  have hk2 : k < 13 := by omega
  cases hq : Try.prog.info? 63 with
  | none => have := size1; rw [hq] at this; simp at this
  | some i =>
    have hs : i.size = 4 := by have := size1; rw [hq] at this; simpa using this
    simp [Instr.index, asIntOf, run_underlying Try.underlying64 w, sizeOf, typeInfo, hq, hs, Go.part, hk2]
    simpa using e
/-- A vote is written. -/
theorem QS.set {w : World} {p f : Nat} {l : List VT} (h : QS w p f l) (k : Nat) (hk : k < 3 * f + 1) (v : VT) (hv : v.ok) : QS (w.setCells p (1 + k * 4) [.bool v.is, .string v.word, .string v.body, .string v.tag]) p f (l.set k v) := by
  have f4 := h.f4
  have hkl : k < l.length := by rw [h.len]; omega
  have hm := ((((h.mem.set (1 + k * 4) (.bool v.is)).set (1 + k * 4 + 1) (.string v.word)).set (1 + k * 4 + 1 + 1) (.string v.body)).set (1 + k * 4 + 1 + 1 + 1) (.string v.tag))
  have e : ((((.int .i64 f :: cellsV l).set (1 + k * 4) (.bool v.is)).set (1 + k * 4 + 1) (.string v.word)).set (1 + k * 4 + 1 + 1) (.string v.body)).set (1 + k * 4 + 1 + 1 + 1) (.string v.tag) = .int .i64 f :: cellsV (l.set k v) := by
    rw [show 1 + k * 4 = k * 4 + 1 from by omega]
    simp only [List.set_cons_succ]
    rw [← cellsV_set l k v hkl]
  refine ⟨?_, by rw [List.length_set]; exact h.len, h.f1, h.f4, fun u hu => ?_, fun i hi ho => ?_⟩
  · rw [e] at hm
    exact hm
  · rcases List.mem_or_eq_of_mem_set hu with hu | rfl
    · exact h.ok u hu
    · exact hv
  · rw [List.getElem_set_ne (by omega)]
    exact h.out i (by rw [List.length_set] at hi; exact hi) ho
theorem grown_cells (w : World) (p o : Nat) (vs : List Value) : w.grownBy (w.setCells p o vs) (some p) := by
  induction vs generalizing w o with
  | nil => exact ⟨rfl, rfl, rfl, Nat.le_refl _, fun _ _ _ => rfl⟩
  | cons v vs ih =>
    have h1 : w.grownBy (w.setCell ⟨p, o, none⟩ v) (some p) := grown_set (bel_grown (Below.refl _ w) _) o v
    exact gro_trans h1 (ih _ _)
theorem QS.there {w : World} {p f : Nat} {l : List VT} (h : QS w p f l) (k : Nat) (hk : k < l.length) : w.there p (1 + k * 4) 4 := fun j hj => by
  refine ⟨?_, h.mem.free _⟩
  rw [h.cells k j hk hj]
  have : j < (l[k].cells).length := hj
  simp [this]
theorem keyLawS : WideMaps.KeyLaw Try.prog 9 := WideMaps.string_law Try.underlying9
theorem keyedS : Maps.Keyed Try.prog 9 := Maps.Keyed.of_law keyLawS
theorem keyS (s : ByteArray) (h : s.size ≤ maxLen) : ∃ l, keyOf Try.prog 9 (.string s) = some l := by
  unfold keyOf
  rw [Try.underlying9]
  simp [mapKey, h]
theorem zeroN (u : World) : (zeroValue 3).run Try.prog u = .ok (.int .i64 0) u := by kernel_rfl
theorem look_c {w : World} {b n : Nat} {F : Value → Option Value} {l : List VT} (h : MF w 9 b n F) (hc : CntS F l) (s : ByteArray) (hs : s.size ≤ maxLen) : (Instr.lookup 68 (.map (some b)) (.string s) false).run Try.prog w = .ok (.int .i64 (cntV s l : Nat)) w := by
  obtain ⟨li, hl⟩ := keyS s hs
  have := h.look1 keyedS Try.underlying68 (zeroN w) hl
  rw [hc s] at this
  exact this
end Go.Proofs.Ytghemebgkhopnaa

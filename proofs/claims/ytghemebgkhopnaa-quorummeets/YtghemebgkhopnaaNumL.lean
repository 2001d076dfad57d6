/-
  Lists of numbers that came in.
-/
import Derived.Test.YtghemebgkhopnaaBase
namespace Go.Proofs.Ytghemebgkhopnaa
open Go.RowKit

/-- The slice at ao, of n numbers, reads as ns. -/
structure NL (w : World) (ao : Option Addr) (n cap : Nat) (ns : List Nat) : Prop where
  len : ns.length = n
  le : n ≤ cap
  mx : cap ≤ maxLen
  nil : ao = none → n = 0
  cell : ∀ a, ao = some a → ∀ i, i < n → w.cell? (a.add i) = some (.int .u64 (ns.getD i 0))
  rng : ∀ x ∈ ns, x < 18446744073709551616

theorem NL.nothing (w : World) : NL w none 0 0 [] := ⟨rfl, Nat.le_refl _, Nat.zero_le _, fun _ => rfl, fun _ h => by simp at h, fun _ h => by simp at h⟩
theorem NL.row {w : World} {a : Addr} {n cap : Nat} {zs : List Int} (hl : n ≤ cap) (hm : cap ≤ maxLen) (hz : zs.length = cap) (hc : ∀ i, i < zs.length → w.cell? (a.add i) = some (.int .u64 (zs.getD i 0))) (hw : ∀ z ∈ zs, (Lit.int .u64 z).wf = true) :
    NL w (some a) n cap ((zs.take n).map Int.toNat) := by
  have hb : ∀ z ∈ zs, 0 ≤ z ∧ z < 18446744073709551616 := fun z h => by
    have := hw z h
    simp [Lit.wf, IntKind.min, IntKind.max, IntKind.signed, IntKind.bits] at this
    omega
  refine ⟨by simp; omega, hl, hm, fun h => by simp at h, fun b hb' i hi => ?_, fun x hx => ?_⟩
  · obtain rfl := Option.some.inj hb'
    rw [hc i (by omega)]
    have h1 : i < zs.length := by omega
    have := hb zs[i] (List.getElem_mem h1)
    simp [List.getD, hi, h1]
    omega
  · obtain ⟨z, h1, rfl⟩ := List.mem_map.1 hx
    have := hb z (List.mem_of_mem_take h1)
    omega
theorem NL.below {w w' : World} {ao : Option Addr} {n cap : Nat} {ns : List Nat} (h : NL w ao n cap ns) (hb : Below w.heap.size w w') : NL w' ao n cap ns :=
  ⟨h.len, h.le, h.mx, h.nil, fun a ha i hi => by have hc := h.cell a ha i hi; rw [← hc]; exact hb.cell (World.block_lt_of_cell? w _ hc), h.rng⟩
theorem NL.at {w : World} {ao : Option Addr} {n cap : Nat} {ns : List Nat} (h : NL w ao n cap ns) (hn : 0 < n) : ∃ b off, ao = some ⟨b, off, none⟩ ∧ ∀ i, i < n → w.cell? ⟨b, off + i, none⟩ = some (.int .u64 (ns.getD i 0)) := by
  cases ao with
  | none => have := h.nil rfl; omega
  | some a =>
    obtain ⟨b, off, spot⟩ := a
    have hc := h.cell _ rfl 0 hn
    have hs : spot = none := by simpa [Addr.add] using World.cell?_spot hc
    subst hs
    exact ⟨b, off, rfl, fun i hi => by have := h.cell _ rfl i hi; rw [Addr.add_lit] at this; exact this⟩
/-- Numbers laid in a new block. -/
theorem NL.new (w : World) (ns : List Nat) (t : TypeId) (h : ∀ x ∈ ns, x < 18446744073709551616) (hl : ns.length ≤ maxLen) : NL (w.alloc (.cells (ns.map fun x => Value.int .u64 (x : Nat)).toArray t)) (some ⟨w.heap.size, 0, none⟩) ns.length ns.length ns := by
  refine ⟨rfl, Nat.le_refl _, hl, fun h => by simp at h, fun a ha i hi => ?_, h⟩
  obtain rfl := Option.some.inj ha
  rw [Addr.add_lit, Nat.zero_add, cell_of_row _ _ i _ _ _ (heap_alloc_new w _)]
  simp [List.getD, hi]

/-- Do numbers rise, above the last? -/
def riseF : Nat → List Nat → Bool
  | _, [] => true
  | l, x :: xs => decide (l < x) && riseF x xs
end Go.Proofs.Ytghemebgkhopnaa

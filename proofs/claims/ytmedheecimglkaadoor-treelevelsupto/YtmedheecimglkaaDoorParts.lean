/-
  Lists of slices of bytes that came in.
-/
import Derived.Test.YtmedheecimglkaaDoorSumOf
import Derived.Deep.Slices
namespace Go.Proofs.YtmedheecimglkaaDoor
open Go.RowKit


/-- The slice at ao, of n slices of bytes, reads as the parts ps. -/
structure PL (w : World) (ao : Option Addr) (n cap : Nat) (ps : List Part) : Prop where
  len : ps.length = n
  le : n ≤ cap
  mx : cap ≤ maxLen
  nil : ao = none → n = 0
  cell : ∀ a, ao = some a → ∀ i (h : i < ps.length), w.cell? (a.add i) = some ps[i].val
  sl : ∀ q ∈ ps, Sl w q.ao q.n q.cap q.xs

theorem PL.nothing (w : World) : PL w none 0 0 [] := ⟨rfl, Nat.le_refl _, Nat.zero_le _, fun _ => rfl, fun _ h => by simp at h, fun _ h => by simp at h⟩

theorem PL.make {w : World} {a : Addr} {n cap : Nat} (hl : n ≤ cap) (hm : cap ≤ maxLen) (h : ∀ i, i < n → ∃ q : Part, w.cell? (a.add i) = some q.val ∧ Sl w q.ao q.n q.cap q.xs) : ∃ ps, PL w (some a) n cap ps := by
  have : Inhabited Part := ⟨⟨none, 0, 0, []⟩⟩
  obtain ⟨z, hz⟩ := Deep.choose_lt h
  refine ⟨(List.range n).map z, by simp, hl, hm, fun h => by simp at h, fun b hb i hi => ?_, fun q hq => ?_⟩
  · obtain rfl := Option.some.inj hb
    have hi' : i < n := by simpa using hi
    simpa using (hz i hi').1
  · obtain ⟨i, hi, rfl⟩ := List.mem_map.1 hq
    exact (hz i (List.mem_range.1 hi)).2

theorem PL.below {w w' : World} {ao : Option Addr} {n cap : Nat} {ps : List Part} (h : PL w ao n cap ps) (hb : Below w.heap.size w w') : PL w' ao n cap ps :=
  ⟨h.len, h.le, h.mx, h.nil, fun a ha i hi => by have hc := h.cell a ha i hi; rw [← hc]; exact hb.cell (World.block_lt_of_cell? w _ hc), fun q hq => (h.sl q hq).below hb⟩

/-- Where an element is read the slice has an address without a spot. -/
theorem PL.at {w : World} {ao : Option Addr} {n cap : Nat} {ps : List Part} (h : PL w ao n cap ps) (hn : 0 < n) :
    ∃ b off, ao = some ⟨b, off, none⟩ ∧ ∀ i (hi : i < ps.length), w.cell? ⟨b, off + i, none⟩ = some ps[i].val := by
  have hl := h.len
  cases ao with
  | none => have := h.nil rfl; omega
  | some a =>
    obtain ⟨b, off, spot⟩ := a
    have hc := h.cell _ rfl 0 (by omega)
    have hs : spot = none := by simpa [Addr.add] using World.cell?_spot hc
    subst hs
    exact ⟨b, off, rfl, fun i hi => by have := h.cell _ rfl i hi; rw [Addr.add_lit] at this; exact this⟩

theorem allB_short (ps : List Part) (k : Nat) (hk : ps.length ≤ k) (h : ∀ q ∈ ps, q.xs.length ≤ 200) : (allB ps).length ≤ 200 * k := by
  induction ps generalizing k with
  | nil => simp [allB]
  | cons q ps ih =>
    cases k with
    | zero => simp at hk
    | succ k =>
      have h1 := ih k (by simpa using hk) (fun q hq => h q (List.mem_cons_of_mem _ hq))
      have h2 := h q (List.mem_cons_self ..)
      have e : allB (q :: ps) = q.xs ++ allB ps := by simp [allB]
      rw [e, List.length_append]
      omega

end Go.Proofs.YtmedheecimglkaaDoor

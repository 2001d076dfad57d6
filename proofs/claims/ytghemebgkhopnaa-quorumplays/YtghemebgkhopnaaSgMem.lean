/-
  Signed texts in memory.
-/
import Derived.Test.YtghemebgkhopnaaGRow
import Derived.Test.YtghemebgkhopnaaSvD
namespace Go.Proofs.Ytghemebgkhopnaa
open Go.RowKit

/-- A signed text. -/
structure SA where
  fr : Nat
  b : Bs
  tag : Bs
def SA.cells (s : SA) : List Value := [.int .u64 s.fr, .slice s.b.ao s.b.n s.b.cap, .slice s.tag.ao s.tag.n s.tag.cap]
structure SA.ok (s : SA) (w : World) : Prop where
  fr : s.fr < 18446744073709551616
  b : Sl w s.b.ao s.b.n s.b.cap s.b.xs
  tag : Sl w s.tag.ao s.tag.n s.tag.cap s.tag.xs
def SA.blk (s : SA) (z : Nat) : Prop := s.b.blk z ∨ s.tag.blk z
def SA.v (s : SA) : SV := ⟨s.fr, s.b.xs, s.tag.xs⟩
def SA.val (s : SA) : Value := .agg #[.int .u64 s.fr, .slice s.b.ao s.b.n s.b.cap, .slice s.tag.ao s.tag.n s.tag.cap]
def elS : El SA := ⟨SA.cells, 3, SA.ok, SA.blk⟩
theorem elS_fine : elS.Fine := by
  refine ⟨fun _ => rfl, by decide, fun x u hu => ?_, fun x w w' h hk => ⟨h.fr, h.b.kept fun z hz => hk z (.inl hz), h.tag.kept fun z hz => hk z (.inr hz)⟩, fun x w z h hz => ?_⟩
  · have hu : u ∈ x.cells := hu
    unfold SA.cells at hu
    simp only [List.mem_cons, List.not_mem_nil, or_false] at hu
    rcases hu with rfl | rfl | rfl <;> rfl
  · rcases hz with hz | hz
    · exact h.b.blk_lt hz
    · exact h.tag.blk_lt hz
theorem SA.ok.below {s : SA} {w w' : World} (h : s.ok w) (hb : Below w.heap.size w w') : s.ok w' := elS_fine.below h hb
/-- Its three cells. -/
structure SX (V : World) (b p : Nat) (s : SA) : Prop where
  c0 : V.cell? ⟨b, p, none⟩ = some (.int .u64 s.fr)
  c1 : V.cell? ⟨b, p + 1, none⟩ = some (.slice s.b.ao s.b.n s.b.cap)
  c2 : V.cell? ⟨b, p + 2, none⟩ = some (.slice s.tag.ao s.tag.n s.tag.cap)
theorem SX.below {V V' : World} {b p : Nat} {s : SA} (h : SX V b p s) (hb : Below V.heap.size V V') : SX V' b p s :=
  ⟨(hb.cell (World.block_lt_of_cell? V _ h.c0)).trans h.c0, (hb.cell (World.block_lt_of_cell? V _ h.c1)).trans h.c1, (hb.cell (World.block_lt_of_cell? V _ h.c2)).trans h.c2⟩
theorem GL.atS {w : World} {ao : Option Addr} {n cap : Nat} {l : List SA} (h : GL elS w ao n cap l) (hn : 0 < n) :
    ∃ b off, ao = some ⟨b, off, none⟩ ∧ ∀ i (hi : i < l.length), SX w b (off + i * 3) l[i] := by
  obtain ⟨b, off, e, k⟩ := h.pl elS_fine hn
  exact ⟨b, off, e, fun i hi => ⟨k i hi 0 _ rfl, k i hi 1 _ rfl, k i hi 2 _ rfl⟩⟩
theorem GL.atL {w : World} {ao : Option Addr} {n cap : Nat} {l : List (LS SA)} (h : GL elS.lists w ao n cap l) (hn : 0 < n) :
    ∃ b off, ao = some ⟨b, off, none⟩ ∧ ∀ i (hi : i < l.length), w.cell? ⟨b, off + i, none⟩ = some (.slice l[i].ao l[i].n l[i].cap) := by
  obtain ⟨b, off, e, k⟩ := h.pl elS_fine.lists hn
  refine ⟨b, off, e, fun i hi => ?_⟩
  have := k i hi 0 _ rfl
  rw [show off + i * elS.lists.sz + 0 = off + i by show off + i * 1 + 0 = off + i; omega] at this
  exact this
end Go.Proofs.Ytghemebgkhopnaa

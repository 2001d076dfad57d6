/-
  Texts in one: OAt.
-/
import Derived.Test.YtkjaapomaaakmaaGreatMessageBytesQ0
namespace Go.Proofs.YtkjaapomaaakmaaGreat
open Go.RowKit
structure OX (V : World) (b p : Nat) (o : OA) : Prop where
 c0 : V.cell? ⟨b, p, none⟩ = some (.int .i64 o.kind)
 c1 : V.cell? ⟨b, p + 1, none⟩ = some (.string o.row)
 c2 : V.cell? ⟨b, p + 2, none⟩ = some (.string o.fam)
 c3 : V.cell? ⟨b, p + 3, none⟩ = some (.string o.qual)
 c4 : V.cell? ⟨b, p + 4, none⟩ = some (.int .u64 o.time)
 c5 : V.cell? ⟨b, p + 5, none⟩ = some (.string o.to)
 c6 : V.cell? ⟨b, p + 6, none⟩ = some (.slice o.va.ao o.va.n o.va.cap)
 c7 : V.cell? ⟨b, p + 7, none⟩ = some (.slice o.wa.ao o.wa.n o.wa.cap)
 c8 : V.cell? ⟨b, p + 8, none⟩ = some (.bool o.has)
 c9 : V.cell? ⟨b, p + 9, none⟩ = some (.slice o.so o.sn o.sc)
theorem OX.below {V V' : World} {b p : Nat} {o : OA} (h : OX V b p o) (hb : Below V.heap.size V V') : OX V' b p o :=
 have k : ∀ a v, V.cell? a = some v → V'.cell? a = some v := fun _ _ hc => (hb.cell (World.block_lt_of_cell? V _ hc)).trans hc
 ⟨k _ _ h.c0, k _ _ h.c1, k _ _ h.c2, k _ _ h.c3, k _ _ h.c4, k _ _ h.c5, k _ _ h.c6, k _ _ h.c7, k _ _ h.c8, k _ _ h.c9⟩
theorem OWL.at {w : World} {d : Nat} {ao : Option Addr} {n cap : Nat} {l : List (OD d)} (h : OWL w d ao n cap l) (hn : 0 < n) :
  ∃ b off, ao = some ⟨b, off, none⟩ ∧ ∀ i (hi : i < l.length), OX w b (off + i * 10) (topD d l[i]) := by
 have hl := h.len
 cases ao with
 | none => have := (h.nil rfl).1; omega
 | some a =>
  obtain ⟨b, off, spot⟩ := a
  have hc := h.cell _ rfl 0 (by omega) 0 _ rfl
  have hs : spot = none := by simpa [Addr.add] using World.cell?_spot hc
  subst hs
  refine ⟨b, off, rfl, fun i hi => ?_⟩
  have k : ∀ j v, (topD d l[i]).cells[j]? = some v → w.cell? ⟨b, off + i * 10 + j, none⟩ = some v := fun j v hv => by
   have := h.cell _ rfl i hi j v hv
   rw [Addr.add_lit] at this
   rw [Nat.add_assoc]
   exact this
  exact ⟨k 0 _ rfl, k 1 _ rfl, k 2 _ rfl, k 3 _ rfl, k 4 _ rfl, k 5 _ rfl, k 6 _ rfl, k 7 _ rfl, k 8 _ rfl, k 9 _ rfl⟩
theorem OW.subs {w : World} {d : Nat} {x : OD (d + 1)} (h : OW w (d + 1) x) : OWL w d x.1.so x.1.sn x.1.sc x.2 :=
 ⟨h.2.1, h.1.le, h.1.mx, h.1.nil, h.2.2.1, h.2.2.2⟩
end Go.Proofs.YtkjaapomaaakmaaGreat

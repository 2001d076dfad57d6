/-
  What is kept while a reader's block, and blocks of the call's own, are written.
-/
import Derived.Test.YtbfcilfdeemnpaaMB
import Derived.Test.YtbfcilfdeemnpaaMC
namespace Go.Proofs.Ytbfcilfdeemnpaa
open Go.RowKit

/-- All blocks below L, and from s on, are as they were. -/
def Keeps (L s : Nat) (w w' : World) : Prop := w.heap.size ≤ w'.heap.size ∧ ∀ i, i < w.heap.size → (i < L ∨ s ≤ i) → w'.heap[i]? = w.heap[i]?
theorem Keeps.refl (L s : Nat) (w : World) : Keeps L s w w := ⟨Nat.le_refl _, fun _ _ _ => rfl⟩
theorem Keeps.trans {L s : Nat} {a b c : World} (h : Keeps L s a b) (k : Keeps L s b c) : Keeps L s a c :=
  ⟨Nat.le_trans h.1 k.1, fun i hi hl => (k.2 i (Nat.lt_of_lt_of_le hi h.1) hl).trans (h.2 i hi hl)⟩
theorem Keeps.grown {L s p : Nat} {w w' : World} (h : w.grownBy w' (some p)) (h1 : L ≤ p) (h2 : p < s) : Keeps L s w w' :=
  ⟨h.size, fun i hi hl => h.block i hi (by simp; omega)⟩
theorem Keeps.below {L s : Nat} {w w' : World} (h : Below w.heap.size w w') : Keeps L s w w' := ⟨h.size, fun i hi _ => h.block i hi⟩
theorem Keeps.alloc (L s : Nat) (w : World) (o : Obj) : Keeps L s w (w.alloc o) := Keeps.below ((Below.refl _ w).alloc (Nat.le_refl _) _)
theorem Keeps.setCell {L s : Nat} (w : World) (q i : Nat) (v : Value) (h1 : L ≤ q) (h2 : q < s) : Keeps L s w (w.setCell ⟨q, i, none⟩ v) :=
  Keeps.grown (grown_setCell w q i v) h1 h2
/-- A slice that lies below L, or from s on. -/
def Bs.far (L s : Nat) (b : Bs) : Prop := ∀ a, b.ao = some a → 0 < b.n → a.block < L ∨ s ≤ a.block
theorem Sl.far {w w' : World} {b : Bs} {L s : Nat} (h : Sl w b.ao b.n b.cap b.xs) (hf : b.far L s) (hk : Keeps L s w w') : Sl w' b.ao b.n b.cap b.xs := by
  refine ⟨h.len, h.le, h.mx, h.nil, fun a ha i hi => ?_, h.byte⟩
  have hc := h.cell a ha i hi
  have hb : (a.add i).block = a.block := by unfold Addr.add; split <;> rfl
  have hlt := World.block_lt_of_cell? w _ hc
  rw [← hc]
  exact World.cell?_of_block (hk.2 _ hlt (by rw [hb]; exact hf a ha (by omega)))
def OA.far (L s : Nat) (o : OA) : Prop := o.va.far L s ∧ o.wa.far L s
theorem OA.ok.far {o : OA} {w w' : World} {L s : Nat} (h : o.ok w) (hf : o.far L s) (hk : Keeps L s w w') : o.ok w' :=
  ⟨h.kind, h.row, h.fam, h.qual, h.time, h.to, h.va.far hf.1 hk, h.wa.far hf.2 hk, h.le, h.mx, h.nil⟩
theorem Bs.far_mono {L s s' : Nat} {b : Bs} (h : b.far L s') (hs : s ≤ s') : b.far L s := fun a ha hn => by
  rcases h a ha hn with c | c
  · exact .inl c
  · exact .inr (by omega)
theorem OA.far_mono {L s s' : Nat} {o : OA} (h : o.far L s') (hs : s ≤ s') : o.far L s := ⟨Bs.far_mono h.1 hs, Bs.far_mono h.2 hs⟩
end Go.Proofs.Ytbfcilfdeemnpaa

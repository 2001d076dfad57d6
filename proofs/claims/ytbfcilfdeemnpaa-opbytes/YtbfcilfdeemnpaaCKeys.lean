/-
  Keys in blocks of their own.
-/
import Derived.Test.YtbfcilfdeemnpaaCRight
namespace Go.Proofs.Ytbfcilfdeemnpaa
open Go.RowKit

/-- The key k lies in block p. -/
def KC (V : World) (p : Nat) (k : KA) : Prop := V.heap[p]? = some (.cells #[.string k.row, .string k.fam, .string k.qual, .int .u64 k.time] 24)
theorem KC.lt {V : World} {p : Nat} {k : KA} (h : KC V p k) : p < V.heap.size := (Array.getElem?_eq_some_iff.1 h).1
theorem KC.below {V V' : World} {p n : Nat} {k : KA} (h : KC V p k) (hb : Below n V V') (hp : p < n) : KC V' p k := (hb.block p hp).trans h
theorem KC.keep {V V' : World} {p : Nat} {k : KA} (h : KC V p k) (hb : Below V.heap.size V V') : KC V' p k := h.below hb h.lt
theorem KC.new (w : World) (k : KA) : KC (w.alloc (.cells #[.string k.row, .string k.fam, .string k.qual, .int .u64 k.time] 24)) w.heap.size k := heap_alloc_new w _
theorem KC.alloc {V : World} {p : Nat} {k : KA} (h : KC V p k) (o : Obj) : KC (V.alloc o) p k := (heap_alloc_old V o h.lt).trans h
theorem KC.c0 {V : World} {p : Nat} {k : KA} (h : KC V p k) : V.cell? ⟨p, 0, none⟩ = some (.string k.row) := cell_of_row V p 0 _ _ _ h
theorem KC.c1 {V : World} {p : Nat} {k : KA} (h : KC V p k) : V.cell? ⟨p, 1, none⟩ = some (.string k.fam) := cell_of_row V p 1 _ _ _ h
theorem KC.c2 {V : World} {p : Nat} {k : KA} (h : KC V p k) : V.cell? ⟨p, 2, none⟩ = some (.string k.qual) := cell_of_row V p 2 _ _ _ h
theorem KC.c3 {V : World} {p : Nat} {k : KA} (h : KC V p k) : V.cell? ⟨p, 3, none⟩ = some (.int .u64 k.time) := cell_of_row V p 3 _ _ _ h
end Go.Proofs.Ytbfcilfdeemnpaa

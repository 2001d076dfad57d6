/-
  Operations while they are read: what is kept.
-/
import Derived.Test.YtbfcilfdeemnpaaHRegB
import Derived.Test.YtbfcilfdeemnpaaPText
import Derived.Test.YtbfcilfdeemnpaaPRight
import Derived.Test.YtbfcilfdeemnpaaMA
namespace Go.Proofs.Ytbfcilfdeemnpaa
open Go.RowKit

/-- The operation o, its parts at v, lies in block p. -/
def OV (V : World) (p : Nat) (o : OA) (v : Value) : Prop := V.heap[p]? = some (.cells #[.int .i64 o.kind, .string o.row, .string o.fam, .string o.qual, .int .u64 o.time, .string o.to, .slice o.va.ao o.va.n o.va.cap, .slice o.wa.ao o.wa.n o.wa.cap, .bool o.has, v] 28)
theorem OV.lt {V : World} {p : Nat} {o : OA} {v : Value} (h : OV V p o v) : p < V.heap.size := (Array.getElem?_eq_some_iff.1 h).1
theorem OV.kept {V V' : World} {p : Nat} {o : OA} {v : Value} (h : OV V p o v) (hk : V'.heap[p]? = V.heap[p]?) : OV V' p o v := hk.trans h
theorem OV.grown {V V' : World} {q p : Nat} {o : OA} {v : Value} (h : OV V q o v) (hg : V.grownBy V' (some p)) (hne : q ≠ p) : OV V' q o v := h.kept (hg.block q h.lt (by simp; omega))
structure OVs (V : World) (p : Nat) (o : OA) (v : Value) : Prop where
  c0 : V.cell? ⟨p, 0, none⟩ = some (.int .i64 o.kind)
  c1 : V.cell? ⟨p, 1, none⟩ = some (.string o.row)
  c2 : V.cell? ⟨p, 2, none⟩ = some (.string o.fam)
  c3 : V.cell? ⟨p, 3, none⟩ = some (.string o.qual)
  c4 : V.cell? ⟨p, 4, none⟩ = some (.int .u64 o.time)
  c5 : V.cell? ⟨p, 5, none⟩ = some (.string o.to)
  c6 : V.cell? ⟨p, 6, none⟩ = some (.slice o.va.ao o.va.n o.va.cap)
  c7 : V.cell? ⟨p, 7, none⟩ = some (.slice o.wa.ao o.wa.n o.wa.cap)
  c8 : V.cell? ⟨p, 8, none⟩ = some (.bool o.has)
  c9 : V.cell? ⟨p, 9, none⟩ = some (v)
theorem OV.cs {V : World} {p : Nat} {o : OA} {v : Value} (h : OV V p o v) : OVs V p o v :=
  ⟨cell_of_row V p 0 _ _ _ h, cell_of_row V p 1 _ _ _ h, cell_of_row V p 2 _ _ _ h, cell_of_row V p 3 _ _ _ h, cell_of_row V p 4 _ _ _ h, cell_of_row V p 5 _ _ _ h, cell_of_row V p 6 _ _ _ h, cell_of_row V p 7 _ _ _ h, cell_of_row V p 8 _ _ _ h, cell_of_row V p 9 _ _ _ h⟩
theorem OV.fz {V : World} {p : Nat} {o : OA} {v : Value} (h : OV V p o v) (i : Nat) : V.frozen? ⟨p, i, none⟩ = false := frozen_of_row V p i _ _ h
theorem OV.setV {V : World} {p : Nat} {o : OA} {v : Value} (h : OV V p o v) (b : Bs) : OV (V.setCell ⟨p, 6, none⟩ (.slice b.ao b.n b.cap)) p { o with va := b } v := heap_setCell_same V p 6 _ _ _ h
theorem OV.setW {V : World} {p : Nat} {o : OA} {v : Value} (h : OV V p o v) (b : Bs) : OV (V.setCell ⟨p, 7, none⟩ (.slice b.ao b.n b.cap)) p { o with wa := b } v := heap_setCell_same V p 7 _ _ _ h
theorem OV.setH {V : World} {p : Nat} {o : OA} {v : Value} (h : OV V p o v) (b : Bool) : OV (V.setCell ⟨p, 8, none⟩ (.bool b)) p { o with has := b } v := heap_setCell_same V p 8 _ _ _ h
theorem OV.setP {V : World} {p : Nat} {o : OA} {v : Value} (h : OV V p o v) (u : Value) : OV (V.setCell ⟨p, 9, none⟩ u) p o u := heap_setCell_same V p 9 _ _ _ h
def OA.sblk (o : OA) (x : Nat) : Prop := ∃ a, o.so = some a ∧ 0 < o.sn ∧ a.block = x
/-- What takeOp leaves. -/
def TakePost (F : Nat) (w : World) (p L most : Nat) (xs : List Int) (k : Int) (e : Ending) (w' : World) : Prop :=
  ∃ (o : OA) (l : List OA), e = .returned o.val ∧ o.ok w' ∧ OWL w' 0 o.so o.sn o.sc l ∧ (∀ x, (o.blks x ∨ o.sblk x ∨ ∃ y ∈ l, y.blks x) → x < F ∨ w.heap.size ≤ x) ∧ o.s = (sT most xs k).1.1 ∧
    l.map sn0 = (repT (sT 0) (sT most xs k).1.2 (sT most xs k).2.1 (sT most xs k).2.2).1 ∧ Left w p L (repT (sT 0) (sT most xs k).1.2 (sT most xs k).2.1 (sT most xs k).2.2).2 w'
def lenAt (M : Nat) (V : World) : Nat := match V.cell? ⟨M, 9, none⟩ with
  | some (.slice _ n _) => n
  | _ => 0
def ptrOf : Value → Nat
  | .pointer (some a) => a.block
  | _ => 0
/-- While parts are read: o without its parts in block M, l the parts that were read. -/
structure TakeInv (F : Nat) (w : World) (p L N M parts : Nat) (o : OA) (hx : List Int) (hk : Int) (V : World) (v : Value) (l : List OA) : Prop where
  rd : R V p L (repT (sT 0) l.length hx hk).2.1 (repT (sT 0) l.length hx hk).2.2
  ov : OV V M o v
  res : V.heap[N]? = some (.cells #[.int .i64 0, .string ⟨#[]⟩, .string ⟨#[]⟩, .string ⟨#[]⟩, .int .u64 0, .string ⟨#[]⟩, .slice none 0 0, .slice none 0 0, .bool false, .slice none 0 0] 28)
  own : V.ownsRow (M + 1) 28 10 v l.length (cellsO l)
  ok : o.ok V
  oks : ∀ y ∈ l, y.ok V
  far : ∀ x, (o.blks x ∨ ∃ y ∈ l, y.blks x) → (x < F ∨ M < x) ∧ v.ownBlock ≠ some x
  thr : l.map sn0 = (repT (sT 0) l.length hx hk).1
  gr : w.grownBy V (some p)
  le : l.length ≤ parts
  pos : L ≤ p ∧ p < N ∧ N < M ∧ w.heap.size ≤ N ∧ F ≤ L
theorem SameBut.trans {N : Nat} {a b c : World} (h : b.heap.size = a.heap.size ∧ ∀ j, j ≠ N → b.heap[j]? = a.heap[j]?) (k : c.heap.size = b.heap.size ∧ ∀ j, j ≠ N → c.heap[j]? = b.heap[j]?) : c.heap.size = a.heap.size ∧ ∀ j, j ≠ N → c.heap[j]? = a.heap[j]? :=
  ⟨k.1.trans h.1, fun j hj => (k.2 j hj).trans (h.2 j hj)⟩
theorem same_set (w : World) (N i : Nat) (v : Value) : (w.setCell ⟨N, i, none⟩ v).heap.size = w.heap.size ∧ ∀ j, j ≠ N → (w.setCell ⟨N, i, none⟩ v).heap[j]? = w.heap[j]? :=
  ⟨World.size_setCell .., fun j hj => Below.heap_setCell w ⟨N, i, none⟩ v j hj⟩
theorem TakeInv.drew {F : Nat} {w : World} {p L N M parts : Nat} {o : OA} {hx : List Int} {hk : Int} {V : World} {v : Value} {l : List OA} (h : TakeInv F w p L N M parts o hx hk V v l) : TakeInv F w p L N M parts o hx hk V.drew v l :=
  ⟨h.rd.below (Below.refl _ _).drew, h.ov, h.res, h.own.drew, h.ok.below (Below.refl _ _).drew, fun y hy => (h.oks y hy).below (Below.refl _ _).drew, h.far, h.thr, grown_trans h.gr (grown_below (Below.refl _ _).drew), h.le, h.pos⟩
theorem TakeInv.ownlt {F : Nat} {w : World} {p L N M parts : Nat} {o : OA} {hx : List Int} {hk : Int} {V : World} {v : Value} {l : List OA} (h : TakeInv F w p L N M parts o hx hk V v l) {g : Nat} (hg : v.ownBlock = some g) : M < g ∧ g < V.heap.size := by
  have := h.own.lt g hg
  omega
/-- One more part. -/
theorem TakeInv.step {F : Nat} {w : World} {p L N M parts : Nat} {o : OA} {hx : List Int} {hk : Int} {V : World} {v : Value} {l : List OA} (h : TakeInv F w p L N M parts o hx hk V v l) (hlt : l.length < parts)
    {y : OA} {V1 V3 : World} {v' : Value} {ob : Obj} (y1 : y.ok V1) (y2 : ∀ x, y.blks x → x < F ∨ V.heap.size ≤ x) (y3 : sn0 y = (sT 0 (repT (sT 0) l.length hx hk).2.1 (repT (sT 0) l.length hx hk).2.2).1)
    (y4 : R V1 p L (sT 0 (repT (sT 0) l.length hx hk).2.1 (repT (sT 0) l.length hx hk).2.2).2.1 (sT 0 (repT (sT 0) l.length hx hk).2.1 (repT (sT 0) l.length hx hk).2.2).2.2) (y5 : V.grownBy V1 (some p))
    (a1 : V3.ownsRow (M + 1) 28 10 v' (l.length + 1) (cellsO l ++ y.cells)) (a2 : (V1.alloc ob).grownBy V3 v.ownBlock) (a3 : ∀ g, v'.ownBlock = some g → v.ownBlock = some g ∨ (V1.alloc ob).heap.size ≤ g) :
    TakeInv F w p L N M parts o hx hk (V3.setCell ⟨M, 9, none⟩ v') v' (l ++ [y]) := by
  have hp := h.pos
  have sz1 := y5.size
  have sz2 : (V1.alloc ob).heap.size = V1.heap.size + 1 := by simp
  have sz3 := a2.size
  have key : ∀ x, x < V1.heap.size → v.ownBlock ≠ some x → V3.heap[x]? = V1.heap[x]? := fun x hx1 hx2 => (a2.block x (by omega) (fun e => hx2 e.symm)).trans (heap_alloc_old V1 ob hx1)
  have own1 : ∀ x, x ≤ M → v.ownBlock ≠ some x := fun x hx1 hx2 => by have := (h.ownlt hx2).1; omega
  have hM : M < V.heap.size := h.ov.lt
  have RB : ∀ x, x < V.heap.size → x ≠ p → V1.heap[x]? = V.heap[x]? := fun x hx1 hx2 => y5.block x hx1 (by simp; exact hx2)
  have ov1 : OV V1 M o v := h.ov.kept (RB M hM (by omega))
  have ov3 : OV V3 M o v := ov1.kept (key M (by omega) (own1 M (Nat.le_refl _)))
  have hset : ∀ x, x ≠ M → (V3.setCell ⟨M, 9, none⟩ v').heap[x]? = V3.heap[x]? := (same_set V3 M 9 v').2
  have fin : ∀ x, x < V.heap.size → x ≠ p → x ≠ M → v.ownBlock ≠ some x → (V3.setCell ⟨M, 9, none⟩ v').heap[x]? = V.heap[x]? := fun x b1 b2 b3 b4 => ((hset x b3).trans (key x (by omega) b4)).trans (RB x b1 b2)
  have oldfar : ∀ x, (o.blks x ∨ ∃ y ∈ l, y.blks x) → x ≠ p ∧ x ≠ M := fun x hx1 => by have := (h.far x hx1).1; omega
  refine ⟨?_, ov3.setP v', ?_, ?_, ?_, ?_, ?_, ?_, ?_, ?_, hp⟩
  · rw [List.length_append, List.length_singleton, repT_snoc]
    obtain ⟨ao, n, cap, r⟩ := y4
    have r3 : R V3 p L (sT 0 (repT (sT 0) l.length hx hk).2.1 (repT (sT 0) l.length hx hk).2.2).2.1 (sT 0 (repT (sT 0) l.length hx hk).2.1 (repT (sT 0) l.length hx hk).2.2).2.2 := by
      have rp : p < V1.heap.size := r.plt
      have hbk := key p rp (own1 p (by omega))
      refine ⟨ao, n, cap, (World.cell?_of_block (a := ⟨p, 0, none⟩) hbk).trans r.c0, (World.cell?_of_block (a := ⟨p, 1, none⟩) hbk).trans r.c1, (World.frozen?_of_block (a := ⟨p, 0, none⟩) hbk).trans r.f0, (World.frozen?_of_block (a := ⟨p, 1, none⟩) hbk).trans r.f1, ?_, r.low, r.le, r.sm⟩
      exact Sl.kept (b := ⟨ao, n, cap, _⟩) r.sl (fun x hx1 => by
        obtain ⟨a, ha, hn, rfl⟩ := hx1
        have hl1 := r.low a ha hn
        exact key _ (by omega) (own1 _ (by omega)))
    exact r3.own (by omega) (by omega)
  · exact (fin N (Array.getElem?_eq_some_iff.1 h.res).1 (by omega) (by omega) (own1 N (by omega))).trans h.res
  · rw [List.length_append, List.length_singleton]
    have e : cellsO (l ++ [y]) = cellsO l ++ y.cells := by unfold cellsO; simp
    rw [e]
    refine own_kept a1 fun g hg => hset g ?_
    have := (a1.lt g hg).1
    omega
  · exact h.ok.kept fun x hx1 => fin x (h.ok.blk_lt hx1) (oldfar x (.inl hx1)).1 (oldfar x (.inl hx1)).2 (h.far x (.inl hx1)).2
  · intro q hq
    rcases List.mem_append.1 hq with hq | hq
    · exact (h.oks q hq).kept fun x hx1 => fin x ((h.oks q hq).blk_lt hx1) (oldfar x (.inr ⟨q, hq, hx1⟩)).1 (oldfar x (.inr ⟨q, hq, hx1⟩)).2 (h.far x (.inr ⟨q, hq, hx1⟩)).2
    · rw [List.mem_singleton.1 hq]
      refine y1.kept fun x hx1 => ?_
      have c1 := y2 x hx1
      have c2 := y1.blk_lt hx1
      have c3 : v.ownBlock ≠ some x := fun e => by have := h.ownlt e; omega
      exact (hset x (by omega)).trans (key x c2 c3)
  · intro x hx1
    have old : ∀ x, x < V1.heap.size → v.ownBlock ≠ some x → v'.ownBlock ≠ some x := fun x b1 b2 b3 => by
      rcases a3 x b3 with c | c
      · exact b2 c
      · omega
    rcases hx1 with hx1 | ⟨q, hq, hx1⟩
    · have := h.far x (.inl hx1)
      exact ⟨this.1, old x (by have := h.ok.blk_lt hx1; omega) this.2⟩
    · rcases List.mem_append.1 hq with hq | hq
      · have := h.far x (.inr ⟨q, hq, hx1⟩)
        exact ⟨this.1, old x (by have := (h.oks q hq).blk_lt hx1; omega) this.2⟩
      · rw [List.mem_singleton.1 hq] at hx1
        have c1 := y2 x hx1
        have c2 := y1.blk_lt hx1
        refine ⟨by omega, old x c2 fun e => ?_⟩
        have := h.ownlt e
        omega
  · rw [List.length_append, List.length_singleton, repT_snoc, List.map_append, h.thr, ← y3]
    rfl
  · refine grown_own ?_ (by omega)
    refine ⟨?_, ?_, ?_, ?_, ?_⟩
    · rw [a2.os]; exact y5.os.trans h.gr.os
    · rw [a2.tape]; exact y5.tape.trans h.gr.tape
    · rw [a2.output]; exact y5.output.trans h.gr.output
    · have := h.gr.size; omega
    · intro x b1 b2
      have b3 := h.gr.size
      exact ((key x (by omega) (own1 x (by omega))).trans (y5.block x (by omega) b2)).trans (h.gr.block x b1 b2)
  · rw [List.length_append, List.length_singleton]
    omega

end Go.Proofs.Ytbfcilfdeemnpaa

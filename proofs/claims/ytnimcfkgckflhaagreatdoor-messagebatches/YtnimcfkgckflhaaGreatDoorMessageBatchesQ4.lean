/-
  Texts in one: PRdRM, GRow, Put, Forms, FormsB, PPut, HRegA, PKey, PutL, PVal.
-/
import Derived.Test.YtnimcfkgckflhaaGreatDoorMessageBatchesQFL
import Derived.Test.YtnimcfkgckflhaaGreatDoorMessageBatchesQ1
import Derived.Test.YtnimcfkgckflhaaGreatDoorMessageBatchesQ3
import Derived.Test.YtnimcfkgckflhaaGreatDoorMessageBatchesQ0
import Derived.Deep.RegionHeld3
namespace Go.Proofs.YtnimcfkgckflhaaGreatDoor
open Go.RowKit
def cT : Th CV := mapT toC (andT (txT 32) (andT (txT 32) (andT (txT 32) (andT uintS (andT (byT 256) boolS)))))
theorem thr_c : Thr pC cT := ((thr_text 32).andThen ((thr_text 32).andThen ((thr_text 32).andThen (thr_uint.andThen ((thr_bytes 256).andThen thr_bool))))).map toC
def resTh : Th RV := mapT toR (andT (intT' 100) (andD (intT' 16) fun n => andT (repT cT n) boolS))
theorem thr_r : Thr pR resTh := ((thr_int 100).andThen ((thr_int 16).dep fun n => (thr_c.rep n).andThen thr_bool)).map toR
theorem cT_key (xs : List Int) (k : Int) : cT xs k = (⟨(keyT xs k).1.1, (keyT xs k).1.2.1, (keyT xs k).1.2.2.1, (keyT xs k).1.2.2.2, (bytesS (keyT xs k).2.1 (keyT xs k).2.2 256).1, (boolS (bytesS (keyT xs k).2.1 (keyT xs k).2.2 256).2.1 (bytesS (keyT xs k).2.1 (keyT xs k).2.2 256).2.2).1⟩, (boolS (bytesS (keyT xs k).2.1 (keyT xs k).2.2 256).2.1 (bytesS (keyT xs k).2.1 (keyT xs k).2.2 256).2.2).2) := by
  have e : ((256 : Nat) : Int) = 256 := rfl
  unfold cT mapT
  simp only [andT, keyT, byT, toC, e]
theorem CA.ok.blk_lt {c : CA} {w : World} (h : c.ok w) {x : Nat} (hx : c.va.blk x) : x < w.heap.size := h.va.blk_lt hx
theorem CA.ok.kept {c : CA} {w w' : World} (h : c.ok w) (hk : ∀ x, c.va.blk x → w'.heap[x]? = w.heap[x]?) : c.ok w' := ⟨h.row, h.fam, h.qual, h.time, h.va.kept hk⟩
def sblk (ao : Option Addr) (n x : Nat) : Prop := ∃ a, ao = some a ∧ 0 < n ∧ a.block = x
theorem CL.kept {w w' : World} {ao : Option Addr} {n cap : Nat} {l : List CA} (h : CL w ao n cap l) (hk : ∀ x, (sblk ao n x ∨ ∃ c ∈ l, c.va.blk x) → w'.heap[x]? = w.heap[x]?) : CL w' ao n cap l := by
  refine ⟨h.len, h.le, h.mx, h.nil, fun a ha i hi j v hv => ?_, fun y hy => (h.ok y hy).kept fun x hx => hk x (.inr ⟨y, hy, hx⟩)⟩
  have hb : (a.add (i * 6 + j)).block = a.block := by unfold Addr.add; split <;> rfl
  rw [← h.cell a ha i hi j v hv]
  exact World.cell?_of_block (by rw [hb]; exact hk _ (.inl ⟨a, ha, by have := h.len; omega, rfl⟩))
def RW (V : World) (p : Nat) (e : Int) (v : Value) (m : Bool) : Prop := V.heap[p]? = some (.cells #[.int .i64 e, v, .bool m] 45)
theorem RW.lt {V : World} {p : Nat} {e : Int} {v : Value} {m : Bool} (h : RW V p e v m) : p < V.heap.size := (Array.getElem?_eq_some_iff.1 h).1
theorem RW.kept {V V' : World} {p : Nat} {e : Int} {v : Value} {m : Bool} (h : RW V p e v m) (hk : V'.heap[p]? = V.heap[p]?) : RW V' p e v m := hk.trans h
theorem RW.c0 {V : World} {p : Nat} {e : Int} {v : Value} {m : Bool} (h : RW V p e v m) : V.cell? ⟨p, 0, none⟩ = some (.int .i64 e) := cell_of_row V p 0 _ _ _ h
theorem RW.c1 {V : World} {p : Nat} {e : Int} {v : Value} {m : Bool} (h : RW V p e v m) : V.cell? ⟨p, 1, none⟩ = some v := cell_of_row V p 1 _ _ _ h
theorem RW.c2 {V : World} {p : Nat} {e : Int} {v : Value} {m : Bool} (h : RW V p e v m) : V.cell? ⟨p, 2, none⟩ = some (.bool m) := cell_of_row V p 2 _ _ _ h
theorem RW.fz {V : World} {p : Nat} {e : Int} {v : Value} {m : Bool} (h : RW V p e v m) (i : Nat) : V.frozen? ⟨p, i, none⟩ = false := frozen_of_row V p i _ _ h
theorem RW.setL {V : World} {p : Nat} {e : Int} {v : Value} {m : Bool} (h : RW V p e v m) (u : Value) : RW (V.setCell ⟨p, 1, none⟩ u) p e u m := heap_setCell_same V p 1 _ _ _ h
theorem RW.setM {V : World} {p : Nat} {e : Int} {v : Value} {m : Bool} (h : RW V p e v m) (b : Bool) : RW (V.setCell ⟨p, 2, none⟩ (.bool b)) p e v b := heap_setCell_same V p 2 _ _ _ h
structure ResInv (w : World) (p L N M parts : Nat) (e : Int) (hx : List Int) (hk : Int) (V : World) (v : Value) (l : List CA) : Prop where
  rd : R V p L (repT cT l.length hx hk).2.1 (repT cT l.length hx hk).2.2
  ov : RW V M e v false
  res : RW V N 0 (.slice none 0 0) false
  own : V.ownsRow (M + 1) 123 6 v l.length (cellsC l)
  oks : ∀ y ∈ l, y.ok V
  far : ∀ x, (∃ y ∈ l, y.va.blk x) → M < x ∧ v.ownBlock ≠ some x
  thr : l.map CA.c = (repT cT l.length hx hk).1
  bel : Below N w V
  le : l.length ≤ parts
  pos : L ≤ p ∧ p < M ∧ N < p
theorem ResInv.drew {w : World} {p L N M parts : Nat} {e : Int} {hx : List Int} {hk : Int} {V : World} {v : Value} {l : List CA} (h : ResInv w p L N M parts e hx hk V v l) : ResInv w p L N M parts e hx hk V.drew v l :=
  ⟨h.rd.below (Below.refl _ _).drew, h.ov, h.res, h.own.drew, fun y hy => (h.oks y hy).below (Below.refl _ _).drew, h.far, h.thr, h.bel.drew, h.le, h.pos⟩
theorem ResInv.ownlt {w : World} {p L N M parts : Nat} {e : Int} {hx : List Int} {hk : Int} {V : World} {v : Value} {l : List CA} (h : ResInv w p L N M parts e hx hk V v l) {g : Nat} (hg : v.ownBlock = some g) : M < g ∧ g < V.heap.size := by
  have := h.own.lt g hg
  omega
theorem ResInv.step {w : World} {p L N M parts : Nat} {e : Int} {hx : List Int} {hk : Int} {V : World} {v : Value} {l : List CA} (h : ResInv w p L N M parts e hx hk V v l) (hlt : l.length < parts)
    {y : CA} {V1 V3 : World} {v' : Value} {ob : Obj} (y1 : y.ok V1) (y2 : ∀ x, y.va.blk x → V.heap.size ≤ x) (y3 : y.c = (cT (repT cT l.length hx hk).2.1 (repT cT l.length hx hk).2.2).1)
    (y4 : R V1 p L (cT (repT cT l.length hx hk).2.1 (repT cT l.length hx hk).2.2).2.1 (cT (repT cT l.length hx hk).2.1 (repT cT l.length hx hk).2.2).2.2) (y5 : V.grownBy V1 (some p))
    (a1 : V3.ownsRow (M + 1) 123 6 v' (l.length + 1) (cellsC l ++ y.cells)) (a2 : (V1.alloc ob).grownBy V3 v.ownBlock) (a3 : ∀ g, v'.ownBlock = some g → v.ownBlock = some g ∨ (V1.alloc ob).heap.size ≤ g) :
    ResInv w p L N M parts e hx hk (V3.setCell ⟨M, 1, none⟩ v') v' (l ++ [y]) := by
  have hp := h.pos
  have sz1 := y5.size
  have sz2 : (V1.alloc ob).heap.size = V1.heap.size + 1 := by simp
  have sz3 := a2.size
  have key : ∀ x, x < V1.heap.size → v.ownBlock ≠ some x → V3.heap[x]? = V1.heap[x]? := fun x hx1 hx2 => (a2.block x (by omega) (fun e => hx2 e.symm)).trans (heap_alloc_old V1 ob hx1)
  have own1 : ∀ x, x ≤ M → v.ownBlock ≠ some x := fun x hx1 hx2 => by have := (h.ownlt hx2).1; omega
  have hM : M < V.heap.size := h.ov.lt
  have RB : ∀ x, x < V.heap.size → x ≠ p → V1.heap[x]? = V.heap[x]? := fun x hx1 hx2 => y5.block x hx1 (by simp; exact hx2)
  have ov3 : RW V3 M e v false := (h.ov.kept (RB M hM (by omega))).kept (key M (by omega) (own1 M (Nat.le_refl _)))
  have hset : ∀ x, x ≠ M → (V3.setCell ⟨M, 1, none⟩ v').heap[x]? = V3.heap[x]? := (same_set V3 M 1 v').2
  have fin : ∀ x, x < V.heap.size → x ≠ p → x ≠ M → v.ownBlock ≠ some x → (V3.setCell ⟨M, 1, none⟩ v').heap[x]? = V.heap[x]? := fun x b1 b2 b3 b4 => ((hset x b3).trans (key x (by omega) b4)).trans (RB x b1 b2)
  refine ⟨?_, ov3.setL v', ?_, ?_, ?_, ?_, ?_, ?_, ?_, hp⟩
  · rw [List.length_append, List.length_singleton, repT_snoc]
    obtain ⟨ao, n, cap, r⟩ := y4
    have r3 : R V3 p L (cT (repT cT l.length hx hk).2.1 (repT cT l.length hx hk).2.2).2.1 (cT (repT cT l.length hx hk).2.1 (repT cT l.length hx hk).2.2).2.2 := by
      have rp : p < V1.heap.size := r.plt
      have hbk := key p rp (own1 p (by omega))
      refine ⟨ao, n, cap, (World.cell?_of_block (a := ⟨p, 0, none⟩) hbk).trans r.c0, (World.cell?_of_block (a := ⟨p, 1, none⟩) hbk).trans r.c1, (World.frozen?_of_block (a := ⟨p, 0, none⟩) hbk).trans r.f0, (World.frozen?_of_block (a := ⟨p, 1, none⟩) hbk).trans r.f1, ?_, r.low, r.le, r.sm⟩
      exact Sl.kept (b := ⟨ao, n, cap, _⟩) r.sl (fun x hx1 => by
        obtain ⟨a, ha, hn, rfl⟩ := hx1
        have hl1 := r.low a ha hn
        exact key _ (by omega) (own1 _ (by omega)))
    exact r3.own (by omega) (by omega)
  · exact h.res.kept (fin N h.res.lt (by omega) (by omega) (own1 N (by omega)))
  · rw [List.length_append, List.length_singleton]
    have e : cellsC (l ++ [y]) = cellsC l ++ y.cells := by unfold cellsC; simp
    rw [e]
    refine own_kept a1 fun g hg => hset g ?_
    have := (a1.lt g hg).1
    omega
  · intro q hq
    rcases List.mem_append.1 hq with hq | hq
    · exact (h.oks q hq).kept fun x hx1 => fin x ((h.oks q hq).blk_lt hx1) (by have := (h.far x ⟨q, hq, hx1⟩).1; omega) (by have := (h.far x ⟨q, hq, hx1⟩).1; omega) (h.far x ⟨q, hq, hx1⟩).2
    · rw [List.mem_singleton.1 hq]
      refine y1.kept fun x hx1 => ?_
      have c1 := y2 x hx1
      have c2 := y1.blk_lt hx1
      have c3 : v.ownBlock ≠ some x := fun e => by have := h.ownlt e; omega
      exact (hset x (by omega)).trans (key x c2 c3)
  · intro x hx1
    have old : ∀ x, x < V1.heap.size → v.ownBlock ≠ some x → v'.ownBlock ≠ some x := fun x b1 b2 b3 => by
      rcases a3 x b3 with c | c
      · exact b2 c
      · omega
    obtain ⟨q, hq, hx1⟩ := hx1
    rcases List.mem_append.1 hq with hq | hq
    · have := h.far x ⟨q, hq, hx1⟩
      exact ⟨this.1, old x (by have := (h.oks q hq).blk_lt hx1; omega) this.2⟩
    · rw [List.mem_singleton.1 hq] at hx1
      have c1 := y2 x hx1
      have c2 := y1.blk_lt hx1
      refine ⟨by omega, old x c2 fun e => ?_⟩
      have := h.ownlt e
      omega
  · rw [List.length_append, List.length_singleton, repT_snoc, List.map_append, h.thr, ← y3]
    rfl
  · have hb := h.bel.size
    refine Below.setCell (h.bel.trans ⟨?_, ?_, ?_, ?_, ?_⟩) (by show N ≤ M; omega) _
    · rw [a2.os]; exact y5.os
    · rw [a2.tape]; exact y5.tape
    · rw [a2.output]; exact y5.output
    · omega
    · intro x b1
      have b2 := h.res.lt
      exact (key x (by omega) (own1 x (by omega))).trans (RB x (by omega) (by omega))
  · rw [List.length_append, List.length_singleton]
    omega
open Go.RowKit
structure El (α : Type) where
  c : α → List Value
  sz : Nat
  ok : α → World → Prop
  blk : α → Nat → Prop
structure El.Fine {α : Type} (E : El α) : Prop where
  len : ∀ x, (E.c x).length = E.sz
  pos : 0 < E.sz
  one : ∀ x, ∀ u ∈ E.c x, u.oneCell' = true
  kept : ∀ x w w', E.ok x w → (∀ z, E.blk x z → w'.heap[z]? = w.heap[z]?) → E.ok x w'
  lt : ∀ x w z, E.ok x w → E.blk x z → z < w.heap.size
theorem El.Fine.below {α : Type} {E : El α} (F : E.Fine) {x : α} {w w' : World} (h : E.ok x w) (hb : Below w.heap.size w w') : E.ok x w' := F.kept x w w' h fun z hz => hb.block z (F.lt x w z h hz)
structure GL {α : Type} (E : El α) (w : World) (ao : Option Addr) (n cap : Nat) (l : List α) : Prop where
  len : l.length = n
  le : n ≤ cap
  mx : cap ≤ maxLen
  nil : ao = none → n = 0 ∧ cap = 0
  cell : ∀ a, ao = some a → ∀ i (h : i < l.length), ∀ j v, (E.c l[i])[j]? = some v → w.cell? (a.add (i * E.sz + j)) = some v
  ok : ∀ x ∈ l, E.ok x w
def GLb {α : Type} (E : El α) (ao : Option Addr) (n : Nat) (l : List α) (z : Nat) : Prop := sblk ao n z ∨ ∃ x ∈ l, E.blk x z
variable {α : Type} {E : El α} {w w' : World} {ao : Option Addr} {n cap : Nat} {l : List α}
theorem GL.kept (F : E.Fine) (h : GL E w ao n cap l) (hk : ∀ z, GLb E ao n l z → w'.heap[z]? = w.heap[z]?) : GL E w' ao n cap l := by
  refine ⟨h.len, h.le, h.mx, h.nil, fun a ha i hi j v hv => ?_, fun x hx => F.kept x w w' (h.ok x hx) fun z hz => hk z (.inr ⟨x, hx, hz⟩)⟩
  have hb : (a.add (i * E.sz + j)).block = a.block := by unfold Addr.add; split <;> rfl
  rw [← h.cell a ha i hi j v hv]
  exact World.cell?_of_block (by rw [hb]; exact hk _ (.inl ⟨a, ha, by have := h.len; omega, rfl⟩))
theorem GL.lt (F : E.Fine) (h : GL E w ao n cap l) {z : Nat} (hz : GLb E ao n l z) : z < w.heap.size := by
  rcases hz with ⟨a, ha, hn, rfl⟩ | ⟨x, hx, hz⟩
  · have hl := h.len
    have hi : 0 < l.length := by omega
    have h1 : 0 < (E.c l[0]).length := by rw [F.len]; exact F.pos
    have h0 := h.cell a ha 0 hi 0 _ (List.getElem?_eq_getElem h1)
    have hlt := World.block_lt_of_cell? w _ h0
    have hb : (a.add (0 * E.sz + 0)).block = a.block := by unfold Addr.add; split <;> rfl
    rw [hb] at hlt
    exact hlt
  · exact F.lt x w z (h.ok x hx) hz
theorem GL.below (F : E.Fine) (h : GL E w ao n cap l) (hb : Below w.heap.size w w') : GL E w' ao n cap l := h.kept F fun z hz => hb.block z (h.lt F hz)
theorem GL.nothing (E : El α) (w : World) : GL E w none 0 0 [] := ⟨rfl, Nat.le_refl _, Nat.zero_le _, fun _ => ⟨rfl, rfl⟩, fun _ _ _ hi => absurd hi (Nat.not_lt_zero _), fun _ h => absurd h List.not_mem_nil⟩
theorem GL.at (h : GL E w ao n cap l) (hn : 0 < n) : ∃ a, ao = some a := by
  match e : ao with
  | some a => exact ⟨a, rfl⟩
  | none => exact absurd (h.nil rfl).1 (by omega)
theorem GL.pl (F : E.Fine) (h : GL E w ao n cap l) (hn : 0 < n) : ∃ b off, ao = some ⟨b, off, none⟩ ∧ ∀ i (hi : i < l.length), ∀ j v, (E.c l[i])[j]? = some v → w.cell? ⟨b, off + i * E.sz + j, none⟩ = some v := by
  obtain ⟨⟨b, off, spot⟩, rfl⟩ := h.at hn
  have hl := h.len
  have h1 : 0 < (E.c (l[0]'(by omega))).length := by rw [F.len]; exact F.pos
  have hc := h.cell _ rfl 0 (by omega) 0 _ (List.getElem?_eq_getElem h1)
  have hs : spot = none := by simpa [Addr.add] using World.cell?_spot hc
  subst hs
  refine ⟨b, off, rfl, fun i hi j v hv => ?_⟩
  have := h.cell _ rfl i hi j v hv
  rw [Addr.add_lit] at this
  rw [Nat.add_assoc]
  exact this
structure LS (α : Type) where
  ao : Option Addr
  n : Nat
  cap : Nat
  l : List α
def El.lists (E : El α) : El (LS α) := ⟨fun s => [.slice s.ao s.n s.cap], 1, fun s w => GL E w s.ao s.n s.cap s.l, fun s z => GLb E s.ao s.n s.l z⟩
theorem El.Fine.lists (F : E.Fine) : E.lists.Fine := by
  refine ⟨fun _ => rfl, Nat.one_pos, fun x u hu => ?_, fun x w w' h hk => GL.kept F h hk, fun x w z h hz => GL.lt F h hz⟩
  have : u = .slice x.ao x.n x.cap := by simpa [El.lists] using hu
  rw [this]
  rfl
def elB : El Bs := ⟨fun s => [.slice s.ao s.n s.cap], 1, fun s w => Sl w s.ao s.n s.cap s.xs, fun s z => s.blk z⟩
theorem elB_fine : elB.Fine := by
  refine ⟨fun _ => rfl, Nat.one_pos, fun x u hu => ?_, fun x w w' h hk => Sl.kept h hk, fun x w z h hz => Sl.blk_lt h hz⟩
  have : u = .slice x.ao x.n x.cap := by simpa [elB] using hu
  rw [this]
  rfl
structure GTy (sz bytes : Nat) (z : Value) (t s : TypeId) : Prop where
  info : (Tryz.prog.info? t).map (fun i => (i.zero, i.size, i.bytes)) = some (some z, sz, bytes)
  zs : z.cells.size = sz
  und : Tryz.prog.underlying s = some (.slice t)
structure GI (E : El α) (t : TypeId) (W : World) (base : Nat) (v : Value) (ys : List α) : Prop where
  own : W.ownsRow base t E.sz v ys.length ((ys.map E.c).flatten)
  ok : ∀ y ∈ ys, E.ok y W
  far : ∀ y ∈ ys, ∀ x, E.blk y x → v.ownBlock ≠ some x
variable {t s : TypeId} {W W' : World} {base : Nat} {v : Value} {ys : List α}
theorem GI.nil (E : El α) (t : TypeId) (W : World) (base : Nat) : GI E t W base (.slice none 0 0) [] := ⟨World.ownsRow_nil _ _ _ _, fun _ h => by simp at h, fun _ h => by simp at h⟩
theorem GI.kept (F : E.Fine) (h : GI E t W base v ys) (hk : ∀ z, (v.ownBlock = some z ∨ ∃ y ∈ ys, E.blk y z) → W'.heap[z]? = W.heap[z]?) : GI E t W' base v ys :=
  ⟨own_kept h.own fun g hg => hk g (.inl hg), fun y hy => F.kept y W W' (h.ok y hy) fun z hz => hk z (.inr ⟨y, hy, hz⟩), h.far⟩
theorem GI.lt (F : E.Fine) (h : GI E t W base v ys) {z : Nat} (hz : v.ownBlock = some z ∨ ∃ y ∈ ys, E.blk y z) : z < W.heap.size := by
  rcases hz with hz | ⟨y, hy, hz⟩
  · exact (h.own.lt z hz).2
  · exact F.lt y W z (h.ok y hy) hz
theorem GI.below (F : E.Fine) (h : GI E t W base v ys) (hb : Below W.heap.size W W') : GI E t W' base v ys := h.kept F fun z hz => hb.block z (h.lt F hz)
theorem GI.app (F : E.Fine) {bytes : Nat} {z : Value} (hty : GTy E.sz bytes z t s) (h : GI E t W base v ys) (ty : TypeId) {a : Addr} {cp : Nat} {y : α} (hG : ∀ j u, (E.c y)[j]? = some u → W.cell? (a.add j) = some u) (he : E.ok y W) (hf : ∀ x, E.blk y x → v.ownBlock ≠ some x) (hn : (ys.length + 1) * bytes ≤ 140737488355328) (hm : ys.length + 1 ≤ maxLen) (hbase : base ≤ W.heap.size) :
    ∃ v' W1, (Builtin.append_ #[s, s] ty #[v, .slice (some a) 1 cp]).run Tryz.prog W = .ok v' W1 ∧ GI E t W1 base v' (ys ++ [y]) ∧ Below base W W1 ∧ W.grownBy W1 v.ownBlock ∧ ∃ ao n cap, v' = .slice ao n cap := by
  obtain ⟨i0, hi, hz0, hz1, hz2⟩ := info_parts hty.info
  obtain ⟨v', W1, hr, ho, hg, ha⟩ := run_append_own2 (P := Tryz.prog) W base s ty t i0 _ E.sz bytes hty.und hi hz0 hz1 hz2 hty.zs F.pos v ys.length ((ys.map E.c).flatten) h.own a 1 cp (E.c y) (by rw [F.len, Nat.one_mul]) hG (F.one y) hm hn hbase
  have hown : W1.ownsRow base t E.sz v' (ys ++ [y]).length (((ys ++ [y]).map E.c).flatten) := by
    have e1 : ((ys ++ [y]).map E.c).flatten = (ys.map E.c).flatten ++ E.c y := by simp
    rw [e1, List.length_append]
    exact ho
  have key : ∀ z : α, E.ok z W → (∀ x, E.blk z x → v.ownBlock ≠ some x) → E.ok z W1 ∧ ∀ x, E.blk z x → v'.ownBlock ≠ some x := fun z hz hzf => ⟨F.kept z W W1 hz fun x hx => hg.block x (F.lt z W x hz hx) (fun e => hzf x hx e.symm), fun x hx e => by
    rcases ha x e with c | c
    · exact hzf x hx c
    · have := F.lt z W x hz hx
      omega⟩
  refine ⟨v', W1, hr, ⟨hown, fun z hz => ?_, fun z hz => ?_⟩, (Below.refl _ W).grown hg hbase (fun k hk => (h.own.lt k hk).1), hg, ?_⟩
  · rcases List.mem_append.1 hz with hz | hz
    · exact (key z (h.ok z hz) (h.far z hz)).1
    · rw [List.mem_singleton.1 hz]; exact (key y he hf).1
  · rcases List.mem_append.1 hz with hz | hz
    · exact (key z (h.ok z hz) (h.far z hz)).2
    · rw [List.mem_singleton.1 hz]; exact (key y he hf).2
  · rcases ho.2 with ⟨rfl, _⟩ | ⟨g, cap, cur, rfl, _⟩
    · exact ⟨none, 0, 0, rfl⟩
    · exact ⟨_, _, cap, rfl⟩
theorem GI.gl (F : E.Fine) (h : GI E t W base v ys) : ∃ ao cap, v = .slice ao ys.length cap ∧ GL E W ao ys.length cap ys ∧ ∀ z, sblk ao ys.length z → base ≤ z := by
  rcases h.own.2 with ⟨rfl, e⟩ | ⟨g, cap, cur, rfl, a1, a2, a3, a4, a5, a6⟩
  · rw [e]
    have : ys = [] := List.eq_nil_of_length_eq_zero e
    subst this
    exact ⟨none, 0, rfl, GL.nothing E W, fun z hz => by obtain ⟨a, ha, _⟩ := hz; cases ha⟩
  · refine ⟨some ⟨g, 0, none⟩, cap, rfl, ⟨rfl, a3, a4, fun h => by simp at h, fun a ha i hi j u hu => ?_, h.ok⟩, fun z hz => by obtain ⟨a, ha, _, rfl⟩ := hz; cases ha; exact a1⟩
    obtain rfl := Option.some.inj ha
    have hj : j < E.sz := by have := (List.getElem?_eq_some_iff.1 hu).1; rw [F.len] at this; exact this
    refine h.own.cells (g := g) rfl (i * E.sz + j) u ?_
    rw [flat_get E.c E.sz F.len ys i j hi hj]
    exact hu
open Go.RowKit
theorem own_snoc {w : World} {base : Nat} {v : Value} {k : Nat} {xs ys : List Int} {c : Int} (h : w.ownsRow base 5 1 v (k + ys.length + 1) (bv (xs ++ ys) ++ [.int .u8 c])) :
    w.ownsRow base 5 1 v (k + (ys ++ [c]).length) (bv (xs ++ (ys ++ [c]))) := by
  have e : bv (xs ++ (ys ++ [c])) = bv (xs ++ ys) ++ [.int .u8 c] := by simp [bv]
  have l : k + (ys ++ [c]).length = k + ys.length + 1 := by simp; omega
  rw [e, l]
  exact h
set_option maxHeartbeats 800000 in
set_option maxRecDepth 100000 in
theorem putNumber_any (w : World) (base : Nat) (v : Value) (k n : Nat) (xs : List Int) (hn : n < 18446744073709551616) (hk : k + 20 ≤ 140737488355328) (hbase : base ≤ w.heap.size) (hown : w.ownsRow base 5 1 v k (bv xs)) :
    Calls Tryz.prog 70 #[v, .int .u64 n] w fun e w' =>
      ∃ v', e = .returned v' ∧ w'.ownsRow base 5 1 v' (k + (enc n).length) (bv (xs ++ enc n)) ∧ Below base w w' := by
  obtain ⟨i0, hi, hz0, hz1, hz2⟩ := info_parts u8info
  go_enter Tryz.func70, Tryz.ntmps70
  go_wp2
  refine wp_scope_label 0 (fun a' w' => Below base w w' ∧ ∃ (m : Nat) (v' u5 u6 u7 u8 u9 u10 u11 u12 u13 u14 u15 u16 u17 u18 u19 u20 : Value) (ys : List Int), a' = { tmps := #[v', .int .u64 m, undef, undef, .slice none 0 0, u5, u6, u7, u8, u9, u10, u11, u12, u13, u14, u15, u16, u17, u18, u19, u20], defers := [] } ∧ m < 18446744073709551616 ∧ ys ++ enc m = enc n ∧ ys.length + (enc m).length ≤ 10 ∧ w'.ownsRow base 5 1 v' (k + ys.length) (bv (xs ++ ys))) (fun a' _ => (intOf (a'.tmps.getD 1 undef)).toNat) ?_ ?_
  · exact ⟨Below.refl _ _, n, v, _, _, _, _, _, _, _, _, _, _, _, _, _, _, _, _, [], rfl, hn, rfl, by simpa using enc_length hn, by simpa using hown⟩
  · rintro a' w' ⟨hbel, m, v', u5, u6, u7, u8, u9, u10, u11, u12, u13, u14, u15, u16, u17, u18, u19, u20, ys, rfl, hm, hys, hy9, hown'⟩
    have hp := enc_pos m
    have hsz := hbel.size
    by_cases hlt : m < 128
    · have HY : Hid (ys ++ enc m = enc n) := hys
      clear hys
      go_wp2_with (at_builtin; refine wpList_append_own _ rfl _ _ 28 rfl base 5 i0 (.int .u8 0) 1 1 Tryz.underlying28 hi hz0 hz1 hz2 rfl (by decide) _ _ _ rfl (hown'.alloc _) ⟨w'.heap.size, 0, none⟩ 1 1 [.int .u8 m] rfl rfl (cell_one_new _ _ _) (by simp [Value.oneCell']) (by unfold maxLen; omega) (by omega) (by simp; omega) ?_; intro v2 w2 hown2 hgrow2 hn2)
      have e1 : enc m = [(m : Int)] := enc_small hlt
      have e2 := HY.out
      rw [e1] at e2
      have ho := own_snoc hown2
      rw [e2] at ho
      have hb2 : Below base w w2 := (hbel.alloc (by omega) _).grown hgrow2 (by simp; omega) (fun j hj => (hown'.lt j hj).1)
      clear hown2 hgrow2 hn2
      simp only [Exit.jump]
      go_ret
      exact ⟨v2, rfl, ho, hb2⟩
    · have HY : Hid (ys ++ enc m = enc n) := hys
      clear hys
      have ho := or128 m
      go_wp2_with (at_builtin; refine wpList_append_own _ rfl _ _ 28 rfl base 5 i0 (.int .u8 0) 1 1 Tryz.underlying28 hi hz0 hz1 hz2 rfl (by decide) _ _ _ rfl (hown'.alloc _) ⟨w'.heap.size, 0, none⟩ 1 1 [.int .u8 ((m % 128 + 128 : Nat) : Int)] rfl rfl (cell_one_new _ _ _) (by simp [Value.oneCell']) (by unfold maxLen; omega) (by omega) (by simp; omega) ?_; intro v2 w2 hown2 hgrow2 hn2)
      have e1 := enc_big (n := m) (by omega) hm
      have e2 := HY.out
      rw [e1] at e2
      have hl : (enc m).length = (enc (m / 128)).length + 1 := by rw [e1]; rfl
      have ho2 := own_snoc hown2
      have hb2 : Below base w w2 := (hbel.alloc (by omega) _).grown hgrow2 (by simp; omega) (fun j hj => (hown'.lt j hj).1)
      clear hown2 hgrow2 hn2
      go_step3
      rw [show ((m : Int) / 128) = ((m / 128 : Nat) : Int) from by omega]
      refine ⟨rfl, ⟨hb2, m / 128, v2, _, _, _, _, _, _, _, _, _, _, _, _, _, _, _, _, ys ++ [((m % 128 + 128 : Nat) : Int)], rfl, by omega, by rw [← e2]; simp, by simp; omega, ho2⟩, ?_⟩
      simp [intOf]
      omega
open Go.RowKit
theorem own_empty (w : World) : (w.alloc (.cells #[] 5)).ownsRow w.heap.size 5 1 (.slice (some ⟨w.heap.size, 0, none⟩) 0 0) 0 (bv []) :=
  World.ownsRow_made w #[] 0 (Nat.le_refl _) (Nat.zero_le _) rfl
set_option maxHeartbeats 400000 in
theorem wUint_any (w : World) (ao : Option Addr) (n cap m : Nat) (xs : List Int) (h : Sl w ao n cap xs) (hr : n + 30 ≤ 140737488355328) (hm : m < 18446744073709551616) :
    Calls Tryz.prog 37 #[.slice ao n cap, .int .u64 m] w fun e w' =>
      ∃ v, e = .returned v ∧ w'.ownsRow w.heap.size 5 1 v (n + (enc m).length) (bv (xs ++ enc m)) ∧ Below w.heap.size w w' := by
  go_enter Tryz.func37, Tryz.ntmps37
  go_wp2_with fail
  refine (withRoom_any w ao n cap 10 xs h (by omega)).mono ?_
  rintro e w1 ⟨rfl, hown1, hb1⟩
  have hs := hb1.size
  go_wp2_with fail
  refine (putNumber_any w1 w.heap.size _ n m xs hm (by omega) hs hown1).mono ?_
  rintro e w2 ⟨v2, rfl, hown2, hb2⟩
  have hb := hb1.trans hb2
  clear hown1 hb1 hb2
  go_wp2_with fail
  go_ret
  exact ⟨v2, rfl, hown2, hb⟩
set_option maxHeartbeats 400000 in
theorem wBytes_any (w : World) (ao bo : Option Addr) (n cap m cap2 : Nat) (xs ys : List Int) (h : Sl w ao n cap xs) (h2 : Sl w bo m cap2 ys) (hr : n + m + 60 ≤ 140737488355328) :
    Calls Tryz.prog 40 #[.slice ao n cap, .slice bo m cap2] w fun e w' =>
      ∃ v, e = .returned v ∧ w'.ownsRow w.heap.size 5 1 v (n + (enc m).length + m) (bv (xs ++ enc m ++ ys)) ∧ Below w.heap.size w w' := by
  obtain ⟨i0, hi, hz0, hz1, hz2⟩ := info_parts u8info
  go_enter Tryz.func40, Tryz.ntmps40
  go_wp2_with fail
  rw [show (10 + (m : Int)) = ((10 + m : Nat) : Int) from by omega]
  refine (withRoom_any w ao n cap (10 + m) xs h (by omega)).mono ?_
  rintro e w1 ⟨rfl, hown1, hb1⟩
  have hs := hb1.size
  go_wp2_with fail
  refine (putNumber_any w1 w.heap.size _ n m xs (by omega) (by omega) hs hown1).mono ?_
  rintro e w2 ⟨v2, rfl, hown2, hb2⟩
  have hs2 := hb2.size
  have hb := hb1.trans hb2
  have hl := enc_length (n := m) (by omega)
  have h3 := h2.below hb
  clear hown1 hb1 hb2
  go_wp2_with (at_builtin; refine wpList_app rfl _ _ rfl w.heap.size _ _ _ rfl hown2 _ _ _ _ rfl h3 (by omega) (by omega) ?_; intro v3 w3 hown3 hb3)
  have hb4 := hb.trans hb3
  clear hb hown2 hb3 h3
  go_ret
  exact ⟨v3, rfl, hown3, hb4⟩
open Go.RowKit
set_option maxHeartbeats 400000 in
theorem wBool_any (w : World) (ao : Option Addr) (n cap : Nat) (b : Bool) (xs : List Int) (h : Sl w ao n cap xs) (hr : n + 30 ≤ 140737488355328) :
    Calls Tryz.prog 69 #[.slice ao n cap, .bool b] w fun e w' =>
      ∃ v, e = .returned v ∧ w'.ownsRow w.heap.size 5 1 v (n + 1) (bv (xs ++ enb b)) ∧ Below w.heap.size w w' := by
  cases b
  all_goals
    go_enter Tryz.func69, Tryz.ntmps69
    go_wp2_with fail
    refine (withRoom_any w ao n cap 1 xs h (by omega)).mono ?_
    rintro e w1 ⟨rfl, hown1, hb1⟩
    have hs := hb1.size
    go_wp2_with (at_builtin; refine wpList_app rfl _ _ rfl w.heap.size _ _ _ rfl (hown1.alloc _) _ _ _ _ rfl (Sl.one w1 _ (by decide)) (by omega) (by simp; omega) ?_; intro v3 w3 hown3 hb3)
    have hb4 := (hb1.alloc hs _).trans hb3
    clear hb1 hown1 hb3
    go_ret
    exact ⟨v3, rfl, hown3, hb4⟩
open Go.RowKit
theorem sl_of_own {w w' : World} {v : Value} {n : Nat} {xs : List Int} (h : w'.ownsRow w.heap.size 5 1 v n (bv xs)) (hb : Byt xs) : ∃ ao m cap, v = .slice ao m cap ∧ Sl w' ao m cap xs := by
  obtain ⟨ao, cap, e, s, _⟩ := Sl.own h hb
  exact ⟨ao, n, cap, e, s⟩
theorem fUint (w : World) (ao : Option Addr) (n cap m : Nat) (xs : List Int) (h : Sl w ao n cap xs) (hr : n ≤ 1000000) (hm : m < 18446744073709551616) :
    Calls Tryz.prog 37 #[.slice ao n cap, .int .u64 m] w fun e w' => ∃ bo k c, e = .returned (.slice bo k c) ∧ Sl w' bo k c (xs ++ enc m) ∧ Below w.heap.size w w' := by
  refine (wUint_any w ao n cap m xs h (by omega) hm).mono ?_
  rintro e w' ⟨v, rfl, O, B⟩
  obtain ⟨bo, k, c, rfl, s⟩ := sl_of_own O (h.byte.append (enc_byte hm))
  exact ⟨bo, k, c, rfl, s, B⟩
theorem fBytes (w : World) (ao bo : Option Addr) (n cap m cap2 : Nat) (xs ys : List Int) (h : Sl w ao n cap xs) (h2 : Sl w bo m cap2 ys) (hr : n ≤ 1000000) (hr2 : m ≤ 1000000) :
    Calls Tryz.prog 40 #[.slice ao n cap, .slice bo m cap2] w fun e w' => ∃ bo k c, e = .returned (.slice bo k c) ∧ Sl w' bo k c (xs ++ byts ys) ∧ Below w.heap.size w w' := by
  refine (wBytes_any w ao bo n cap m cap2 xs ys h h2 (by omega)).mono ?_
  rintro e w' ⟨v, rfl, O, B⟩
  have e1 : xs ++ enc m ++ ys = xs ++ byts ys := by unfold byts; rw [h2.len, List.append_assoc]
  rw [e1] at O
  obtain ⟨bo, k, c, rfl, s⟩ := sl_of_own O (h.byte.append (by unfold byts; rw [h2.len]; exact Byt.append (enc_byte (n := m) (by omega)) h2.byte))
  exact ⟨bo, k, c, rfl, s, B⟩
theorem fBool (w : World) (ao : Option Addr) (n cap : Nat) (b : Bool) (xs : List Int) (h : Sl w ao n cap xs) (hr : n ≤ 1000000) :
    Calls Tryz.prog 69 #[.slice ao n cap, .bool b] w fun e w' => ∃ bo k c, e = .returned (.slice bo k c) ∧ Sl w' bo k c (xs ++ enb b) ∧ Below w.heap.size w w' := by
  refine (wBool_any w ao n cap b xs h (by omega)).mono ?_
  rintro e w' ⟨v, rfl, O, B⟩
  obtain ⟨bo, k, c, rfl, s⟩ := sl_of_own O (h.byte.append (enb_byte b))
  exact ⟨bo, k, c, rfl, s, B⟩
theorem txt_len {s : ByteArray} (h : s.size ≤ 32) : (txt s).length ≤ 42 := by
  have := enc_length (n := s.size) (by omega)
  unfold txt
  rw [List.length_append, sb_len]
  omega
theorem txt_byts (s : ByteArray) : byts (sb s) = txt s := by unfold byts txt; rw [sb_len]
set_option maxRecDepth 100000 in
set_option maxHeartbeats 1000000 in
theorem ptexts_any (w : World) (ao : Option Addr) (n cap : Nat) (xs : List Int) (h : Sl w ao n cap xs) (hr : n ≤ 900000) (g : Nat) (ss : List ByteArray) (hs : ∀ i (hi : i < ss.length), w.cell? ⟨g, i, none⟩ = some (.string ss[i])) (hl : ss.length ≤ 3) (h32 : ∀ s ∈ ss, s.size ≤ 32) :
    Calls Tryz.prog 68 #[.slice ao n cap, .slice (some ⟨g, 0, none⟩) ss.length ss.length] w fun e w' => ∃ bo k c, e = .returned (.slice bo k c) ∧ Sl w' bo k c (xs ++ (ss.map txt).flatten) ∧ Below w.heap.size w w' := by
  have hxl := h.len
  go_enter Tryz.func68, Tryz.ntmps68
  go_wp2
  go_loopw [0, 6, 9] (fun b _ i wr => ∃ (k : Nat) (bo : Option Addr) (m c : Nat), k ≤ ss.length ∧ i = .int .i64 k ∧ b = .slice bo m c ∧ Sl wr bo m c (xs ++ ((ss.take k).map txt).flatten) ∧ m ≤ n + 42 * k ∧ Below w.heap.size w wr) (fun _ _ i _ => ss.length - (intOf i).toNat)
  case atStart => exact ⟨0, ao, n, cap, Nat.zero_le _, rfl, rfl, by simpa using h, by omega, Below.refl _ _⟩
  case round =>
    obtain ⟨k, bo, m, c, hk, rfl, rfl, S, hm, B⟩ := hrel
    by_cases hlt : k < ss.length
    · have i1 : (k : Int) < (ss.length : Int) := by omega
      have q1 : wr.cell? ⟨g, k, none⟩ = some (.string ss[k]) := (B.cell (World.block_lt_of_cell? w _ (hs k hlt))).trans (hs k hlt)
      have z1 := h32 _ (List.getElem_mem hlt)
      have HT : Hid (((ss.take (k + 1)).map txt).flatten = ((ss.take k).map txt).flatten ++ txt ss[k]) := by
        show _ = _
        rw [List.take_succ_eq_append_getElem hlt, List.map_append, List.flatten_append]
        simp
      obtain ⟨s, hs1⟩ : ∃ s, s = ss[k] := ⟨_, rfl⟩
      obtain ⟨p, hp⟩ : ∃ p, p = ((ss.take k).map txt).flatten := ⟨_, rfl⟩
      rw [← hs1] at q1 z1 HT
      rw [← hp] at S HT
      clear hs1 hp hs h32
      have hm1 : m ≤ 1000000 := by omega
      have hm2 : s.size ≤ 1000000 := by omega
      go_wp2_with (refine wpList_conv_bytes rfl (.tmp 14) rfl s rfl (by omega) ?_; intro g1 c1 w1 hg1 S1 B1; have D1 : Below w.heap.size w w1 := B.trans (B1.mono B.size); have T1 := S.below B1; have hl1 := S.len; clear B1 S hg1)
      refine (fBytes w1 bo (some ⟨g1, 0, none⟩) m c s.size c1 (xs ++ p) (sb s) T1 S1 hm1 hm2).mono ?_
      rintro e w2 ⟨bo2, m2, c2, rfl, S2, B2⟩
      have D2 := D1.trans (B2.mono D1.size)
      have l2 := S2.len
      rw [txt_byts] at S2 l2
      clear B2 T1 S1
      go_wp2
      have hl2 := txt_len z1
      go_roundw
      case rel => exact ⟨k + 1, bo2, m2, c2, by omega, by go_num, rfl, by rw [HT.out, ← List.append_assoc]; exact S2, by simp only [List.length_append] at l2 hl1; omega, D2⟩
      case measure => simp [intOf]; omega
    · have i1 : (ss.length : Int) ≤ (k : Int) := by omega
      rw [List.take_of_length_le (by omega)] at S
      go_wp2
      go_ret
      exact ⟨bo, m, c, rfl, S, B⟩
end Go.Proofs.YtnimcfkgckflhaaGreatDoor
namespace Go
section
variable {P : Program} {ops : Array Oper} {S : World → Prop} {Q : Exit → Act → World → Prop} {fuel : Nat} {listed : Array Bool} {a : Act} {w : World}
theorem hr_take (i : Nat) (d : Option Tmp) (v : Value) {oi : Oper} (hi : ops[i]? = some oi) (hd : oi.dst = d) (hs : Region.noSelect ops = true) (hf : Region.free .any ops listed i = true) (hr : (Region.ready .any ops listed).contains i = true)
    (hg : oi.guard = none) (hrun : ∀ W, S W → (execOp a.eval oi).run P W = .ok (.value v) W) (hS : S w) (h : wpAnyH P .any ops (NoPanic Q) S fuel (listed.setIfInBounds i true) (a.put d v) w) : wpAnyH P .any ops (NoPanic Q) S (fuel + 1) listed a w :=
  wpAnyH_take hi hs hf hr (fun _ _ _ h => h) (.inl ⟨by simp [Region.wanted, hg], hrun⟩) hS (by rw [hd]; exact h)
theorem hr_take_w (i : Nat) (d : Option Tmp) (v : Value) {oi : Oper} (hi : ops[i]? = some oi) (hd : oi.dst = d) (hs : Region.noSelect ops = true) (hf : Region.free .any ops listed i = true) (hr : (Region.ready .any ops listed).contains i = true)
    (hw : Region.wanted oi (yielded ops a.tmps) = true) (hrun : ∀ W, S W → (execOp a.eval oi).run P W = .ok (.value v) W) (hS : S w) (h : wpAnyH P .any ops (NoPanic Q) S fuel (listed.setIfInBounds i true) (a.put d v) w) : wpAnyH P .any ops (NoPanic Q) S (fuel + 1) listed a w :=
  wpAnyH_take hi hs hf hr (fun _ _ _ h => h) (.inl ⟨hw, hrun⟩) hS (by rw [hd]; exact h)
theorem hr_none (i : Nat) (d : Option Tmp) {oi : Oper} (hi : ops[i]? = some oi) (hd : oi.dst = d) (hs : Region.noSelect ops = true) (hf : Region.free .any ops listed i = true) (hr : (Region.ready .any ops listed).contains i = true)
    (hw : Region.wanted oi (yielded ops a.tmps) = false) (hS : S w) (h : wpAnyH P .any ops (NoPanic Q) S fuel (listed.setIfInBounds i true) (a.put d undef) w) : wpAnyH P .any ops (NoPanic Q) S (fuel + 1) listed a w :=
  wpAnyH_take hi hs hf hr (fun _ _ _ h => h) (.inr ⟨hw, rfl⟩) hS (by rw [hd]; exact h)
theorem hr_do (i : Nat) (d : Option Tmp) (v : Value) {oi : Oper} {w' : World} (hi : ops[i]? = some oi) (hd : oi.dst = d) (hr : Region.ready .any ops listed = [i]) (hg : oi.guard = none) (hrun : (execOp a.eval oi).run P w = .ok (.value v) w') (hS : S w')
    (h : wpAnyH P .any ops (NoPanic Q) S fuel (listed.setIfInBounds i true) (a.put d v) w') : wpAnyH P .any ops (NoPanic Q) S (fuel + 1) listed a w := by
  refine wpAnyH_all hr (by simp) fun j hj => ?_
  obtain rfl := List.mem_singleton.1 hj
  have hw : Region.wanted oi (yielded ops a.tmps) = true := by simp [Region.wanted, hg]
  unfold wpOp
  simp only [hi, hw, if_true, Oper.wp, hrun, Oper.upon, hd]
  exact .inl ⟨hS, h⟩
theorem hr_skip (i : Nat) (d : Option Tmp) {oi : Oper} {w' : World} (hi : ops[i]? = some oi) (hd : oi.dst = d) (hr : Region.ready .any ops listed = [i]) (hg : oi.guard = none) (hrun : (execOp a.eval oi).run P w = .ok .skip w') (hS : S w')
    (h : wpAnyH P .any ops (NoPanic Q) S fuel (listed.setIfInBounds i true) (a.put d undef) w') : wpAnyH P .any ops (NoPanic Q) S (fuel + 1) listed a w := by
  refine wpAnyH_all hr (by simp) fun j hj => ?_
  obtain rfl := List.mem_singleton.1 hj
  have hw : Region.wanted oi (yielded ops a.tmps) = true := by simp [Region.wanted, hg]
  unfold wpOp
  simp only [hi, hw, if_true, Oper.wp, hrun, Oper.upon, hd]
  exact .inl ⟨hS, h⟩
theorem hr_call (i : Nat) (d : Option Tmp) {oi : Oper} (f : FuncId) (args : Array Value) (hi : ops[i]? = some oi) (hd : oi.dst = d) (hr : Region.ready .any ops listed = [i]) (hg : oi.guard = none) (hrun : (execOp a.eval oi).run P w = .ok (.enter f args) w)
    (R : Value → World → Prop) (hc : Calls P f args w fun e w' => ∃ v, e = .returned v ∧ R v w')
    (h : ∀ v w', R v w' → S w' ∧ wpAnyH P .any ops (NoPanic Q) S fuel (listed.setIfInBounds i true) (a.put d v) w') : wpAnyH P .any ops (NoPanic Q) S (fuel + 1) listed a w := by
  refine wpAnyH_all hr (by simp) fun j hj => ?_
  obtain rfl := List.mem_singleton.1 hj
  have hw : Region.wanted oi (yielded ops a.tmps) = true := by simp [Region.wanted, hg]
  unfold wpOp
  simp only [hi, hw, if_true, Oper.wp, hrun, Oper.upon, hd]
  refine .inl (hc.mono ?_)
  rintro e w' ⟨v, rfl, hR⟩
  exact h v w' hR
theorem hr_call_w (i : Nat) (d : Option Tmp) {oi : Oper} (f : FuncId) (args : Array Value) (hi : ops[i]? = some oi) (hd : oi.dst = d) (hr : Region.ready .any ops listed = [i]) (hw : Region.wanted oi (yielded ops a.tmps) = true) (hrun : (execOp a.eval oi).run P w = .ok (.enter f args) w)
    (R : Value → World → Prop) (hc : Calls P f args w fun e w' => ∃ v, e = .returned v ∧ R v w')
    (h : ∀ v w', R v w' → S w' ∧ wpAnyH P .any ops (NoPanic Q) S fuel (listed.setIfInBounds i true) (a.put d v) w') : wpAnyH P .any ops (NoPanic Q) S (fuel + 1) listed a w := by
  refine wpAnyH_all hr (by simp) fun j hj => ?_
  obtain rfl := List.mem_singleton.1 hj
  unfold wpOp
  simp only [hi, hw, if_true, Oper.wp, hrun, Oper.upon, hd]
  refine .inl (hc.mono ?_)
  rintro e w' ⟨v, rfl, hR⟩
  exact h v w' hR
end
end Go
namespace Go.Proofs.YtnimcfkgckflhaaGreatDoor
open Go.RowKit
def putK (k : KA) : List Int := txt k.row ++ (txt k.fam ++ (txt k.qual ++ enc k.time))
structure KA.fits (k : KA) : Prop where
  row : k.row.size ≤ 32
  fam : k.fam.size ≤ 32
  qual : k.qual.size ≤ 32
  time : k.time < 18446744073709551616
set_option maxRecDepth 100000 in
set_option maxHeartbeats 4000000 in
theorem pkey_any (w : World) (ao : Option Addr) (n cap : Nat) (xs : List Int) (h : Sl w ao n cap xs) (hr : n ≤ 900000) (k : KA) (hk : k.fits) :
    Calls Tryz.prog 67 #[.slice ao n cap, k.val] w fun e w' => ∃ bo m c, e = .returned (.slice bo m c) ∧ Sl w' bo m c (xs ++ putK k) ∧ Below w.heap.size w w' := by
  have hxl := h.len
  have B : Below w.heap.size w (w.alloc (.cells #[.string k.row, .string k.fam, .string k.qual, .int .u64 k.time] 27)) := (Below.refl _ w).alloc (Nat.le_refl _) _
  have K := KyC.new w k
  have h1 := h.below B
  unfold KA.val
  go_enter Tryz.func67, Tryz.ntmps67
  go_wp2_with fail
  obtain ⟨w1, hw1⟩ : ∃ W, W = w.alloc (.cells #[.string k.row, .string k.fam, .string k.qual, .int .u64 k.time] 27) := ⟨_, rfl⟩
  obtain ⟨N, hN⟩ : ∃ N, N = w.heap.size := ⟨_, rfl⟩
  rw [← hw1] at B K h1 ⊢
  rw [← hN] at B K ⊢
  have HN : Hid (N = w.heap.size) := hN
  clear h hw1 hN
  have HS : Hid (∀ V, Below w1.heap.size w1 V → V.cell? ⟨N, 0, none⟩ = some (.string k.row) ∧ V.cell? ⟨N, 1, none⟩ = some (.string k.fam) ∧ V.cell? ⟨N, 2, none⟩ = some (.string k.qual) ∧ V.cell? ⟨N, 3, none⟩ = some (.int .u64 k.time)) := fun V hV => have q := K.keep hV; ⟨q.c0, q.c1, q.c2, q.c3⟩
  have E0 : Below w1.heap.size w1 w1.drew := (Below.refl _ _).drew
  refine wp_region_noPanic ?_
  refine wp_region_held_drew (S := fun V => V.cell? ⟨N, 0, none⟩ = some (.string k.row) ∧ V.cell? ⟨N, 1, none⟩ = some (.string k.fam) ∧ V.cell? ⟨N, 2, none⟩ = some (.string k.qual) ∧ V.cell? ⟨N, 3, none⟩ = some (.int .u64 k.time)) (by kernel_rfl) (HS.out _ E0) (fun H0 => ?_)
  obtain ⟨v0, hv0⟩ : ∃ v, v = w1.drew := ⟨_, rfl⟩
  rw [← hv0] at H0 E0 ⊢
  clear hv0
  refine hr_take_w 0 (some 5) (.slice ao n cap) rfl rfl (by kernel_rfl) (by kernel_rfl) (by kernel_rfl) rfl (fun W hW => by obtain ⟨h0, h1, h2, h3⟩ := hW; go_simp) H0 ?_
  simp only [FL]
  refine hr_take_w 1 (some 6) (.pointer (some ⟨N, 0, none⟩)) rfl rfl (by kernel_rfl) (by kernel_rfl) (by kernel_rfl) rfl (fun W hW => by obtain ⟨h0, h1, h2, h3⟩ := hW; go_simp) H0 ?_
  simp only [FL]
  refine hr_take_w 2 (some 7) (.string k.row) rfl rfl (by kernel_rfl) (by kernel_rfl) (by kernel_rfl) rfl (fun W hW => by obtain ⟨h0, h1, h2, h3⟩ := hW; go_simp) H0 ?_
  simp only [FL]
  refine hr_take_w 3 (some 8) (.pointer (some ⟨N, 1, none⟩)) rfl rfl (by kernel_rfl) (by kernel_rfl) (by kernel_rfl) rfl (fun W hW => by obtain ⟨h0, h1, h2, h3⟩ := hW; go_simp) H0 ?_
  simp only [FL]
  refine hr_take_w 4 (some 9) (.string k.fam) rfl rfl (by kernel_rfl) (by kernel_rfl) (by kernel_rfl) rfl (fun W hW => by obtain ⟨h0, h1, h2, h3⟩ := hW; go_simp) H0 ?_
  simp only [FL]
  refine hr_take_w 5 (some 10) (.pointer (some ⟨N, 2, none⟩)) rfl rfl (by kernel_rfl) (by kernel_rfl) (by kernel_rfl) rfl (fun W hW => by obtain ⟨h0, h1, h2, h3⟩ := hW; go_simp) H0 ?_
  simp only [FL]
  refine hr_take_w 6 (some 11) (.string k.qual) rfl rfl (by kernel_rfl) (by kernel_rfl) (by kernel_rfl) rfl (fun W hW => by obtain ⟨h0, h1, h2, h3⟩ := hW; go_simp) H0 ?_
  simp only [FL]
  refine hr_take_w 9 (some 14) (.pointer (some ⟨N, 3, none⟩)) rfl rfl (by kernel_rfl) (by kernel_rfl) (by kernel_rfl) rfl (fun W hW => by obtain ⟨h0, h1, h2, h3⟩ := hW; go_simp) H0 ?_
  simp only [FL]
  refine hr_take_w 10 (some 15) (.int .u64 k.time) rfl rfl (by kernel_rfl) (by kernel_rfl) (by kernel_rfl) rfl (fun W hW => by obtain ⟨h0, h1, h2, h3⟩ := hW; go_simp) H0 ?_
  simp only [FL]
  obtain ⟨g, hg⟩ : ∃ g, g = v0.heap.size := ⟨_, rfl⟩
  obtain ⟨u0, hu0⟩ : ∃ V, V = v0.alloc (.cells #[.string k.row, .string k.fam, .string k.qual] 9) := ⟨_, rfl⟩
  have U0 : Below v0.heap.size v0 u0 := by rw [hu0]; exact (Below.refl _ _).alloc (Nat.le_refl _) _
  have hc : ∀ i (hi : i < [k.row, k.fam, k.qual].length), u0.cell? ⟨g, i, none⟩ = some (.string [k.row, k.fam, k.qual][i]) := fun i hi => by
    rw [hu0, hg, cell_of_row _ v0.heap.size i #[.string k.row, .string k.fam, .string k.qual] 9 (0, 0) (heap_alloc_new v0 _)]
    have hi : i < 3 := hi
    obtain rfl | rfl | rfl : i = 0 ∨ i = 1 ∨ i = 2 := by omega
    all_goals rfl
  have E1 := E0.trans (U0.mono E0.size)
  have H1 := HS.out u0 E1
  refine hr_do 7 (some 12) (.slice (some ⟨g, 0, none⟩) 3 3) rfl rfl (by kernel_rfl) rfl (w' := u0) (by rw [hu0, hg]; go_simp) H1 ?_
  simp only [FL]
  clear hu0 hg U0
  have s1 := h1.below E1
  obtain ⟨v1, hv1⟩ : ∃ V, V = u0 := ⟨_, rfl⟩
  rw [← hv1] at hc E1 H1 s1 ⊢
  clear hv1
  have h32 : ∀ s ∈ [k.row, k.fam, k.qual], s.size ≤ 32 := by
    intro s hs
    simp only [List.mem_cons, List.not_mem_nil, or_false] at hs
    rcases hs with rfl | rfl | rfl
    · exact hk.row
    · exact hk.fam
    · exact hk.qual
  have l0 := txt_len hk.row
  have l1 := txt_len hk.fam
  have l2 := txt_len hk.qual
  refine hr_call_w 8 (some 13) 68 #[.slice ao n cap, .slice (some ⟨g, 0, none⟩) 3 3] rfl rfl (by kernel_rfl) rfl (by go_simp) (fun v w' => ∃ bo m c, v = .slice bo m c ∧ Sl w' bo m c (xs ++ ([k.row, k.fam, k.qual].map txt).flatten) ∧ Below v1.heap.size v1 w') ((ptexts_any v1 ao n cap xs s1 hr g [k.row, k.fam, k.qual] hc (Nat.le_refl 3) h32).mono (by
    rintro e w' ⟨bo, m, c, rfl, F, C⟩
    exact ⟨_, rfl, bo, m, c, rfl, F, C⟩)) ?_
  rintro v v2 ⟨bo, m, c, rfl, F1, C1⟩
  have E2 := E1.trans (C1.mono E1.size)
  have H2 := HS.out v2 E2
  refine ⟨H2, ?_⟩
  simp only [FL]
  have lm := F1.len
  simp only [List.map_cons, List.map_nil, List.flatten_cons, List.flatten_nil, List.length_append, List.append_nil] at lm
  refine hr_call_w 11 (some 16) 37 #[.slice bo m c, .int .u64 k.time] rfl rfl (by kernel_rfl) rfl (by go_simp) (fun v w' => ∃ bo2 m2 c2, v = .slice bo2 m2 c2 ∧ Sl w' bo2 m2 c2 (xs ++ ([k.row, k.fam, k.qual].map txt).flatten ++ enc k.time) ∧ Below v2.heap.size v2 w') ((fUint v2 bo m c k.time _ F1 (by omega) hk.time).mono (by
    rintro e w' ⟨bo2, m2, c2, rfl, F, C⟩
    exact ⟨_, rfl, bo2, m2, c2, rfl, F, C⟩)) ?_
  rintro v v3 ⟨bo2, m2, c2, rfl, F2, C2⟩
  have E3 := E2.trans (C2.mono E2.size)
  have H3 := HS.out v3 E3
  refine ⟨H3, ?_⟩
  simp only [FL]
  refine hr_take_w 12 (some 4) (.slice bo2 m2 c2) rfl rfl (by kernel_rfl) (by kernel_rfl) (by kernel_rfl) rfl (fun W hW => by obtain ⟨h0, h1, h2, h3⟩ := hW; go_simp) H3 ?_
  simp only [FL]
  refine wpAnyH_done (by kernel_rfl) ?_ _
  refine NoPanic.normal ?_
  have D := B.trans (E3.mono (by have := B.size; have := HN.out; omega))
  have fin : xs ++ ([k.row, k.fam, k.qual].map txt).flatten ++ enc k.time = xs ++ putK k := by
    unfold putK
    simp
  rw [fin] at F2
  go_wp2
  go_ret
  exact ⟨bo2, m2, c2, rfl, F2, by rw [← HN.out]; exact D⟩
open Go.RowKit
theorem fUintI (w : World) (ao : Option Addr) (n cap : Nat) (m : Int) (xs : List Int) (h : Sl w ao n cap xs) (hr : n ≤ 1000000) (h0 : 0 ≤ m) (hm : m < 18446744073709551616) :
    Calls Tryz.prog 37 #[.slice ao n cap, .int .u64 m] w fun e w' => ∃ bo k c, e = .returned (.slice bo k c) ∧ Sl w' bo k c (xs ++ enc m.toNat) ∧ Below w.heap.size w w' := by
  obtain ⟨k, rfl⟩ : ∃ k : Nat, m = k := ⟨m.toNat, (Int.toNat_of_nonneg h0).symm⟩
  exact fUint w ao n cap k xs h hr (by omega)
theorem byts_len {l : List Int} (h : l.length ≤ 256) : (byts l).length ≤ 266 := by
  have := enc_length (n := l.length) (by omega)
  unfold byts
  rw [List.length_append]
  omega
theorem putK_len {k : KA} (h : k.fits) : (putK k).length ≤ 136 := by
  have := txt_len h.row
  have := txt_len h.fam
  have := txt_len h.qual
  have := enc_length h.time
  unfold putK
  simp only [List.length_append]
  omega
theorem enb_len (b : Bool) : (enb b).length = 1 := by cases b <;> rfl
def PutPost (w : World) (ys : List Int) (e : Ending) (w' : World) : Prop := ∃ bo m c, e = .returned (.slice bo m c) ∧ Sl w' bo m c ys ∧ Below w.heap.size w w'
open Go.RowKit
theorem pwant_any (w : World) (ao : Option Addr) (n cap : Nat) (b : Bool) :
    Calls Tryz.prog 103 #[.slice ao n cap, .bool b] w fun e w' => e = .returned (.bool (decide (n ≤ 256 ∧ (b = true ∨ n = 0)))) ∧ w' = w := by
  by_cases l : n ≤ 256
  · have hv : decide (n ≤ 256) = true := decide_eq_true l
    cases b with
    | true =>
      rw [decide_eq_true ⟨l, .inl rfl⟩]
      go_enter Tryz.func103, Tryz.ntmps103
      go_wp2_with (go_at_call 97; refine (pvalue_any _ ao n cap).mono ?_; rintro e w' ⟨rfl, rfl⟩; rw [hv])
      go_ret
      exact ⟨rfl, rfl⟩
    | false =>
      by_cases z : n = 0
      · subst z
        rw [decide_eq_true ⟨by omega, .inr rfl⟩]
        go_enter Tryz.func103, Tryz.ntmps103
        go_wp2_with (go_at_call 97; refine (pvalue_any _ ao 0 cap).mono ?_; rintro e w' ⟨rfl, rfl⟩; rw [hv])
        go_ret
        exact ⟨rfl, rfl⟩
      · have i : ((n : Int) == 0) = false := by simp; omega
        rw [decide_eq_false (by simp; omega)]
        go_enter Tryz.func103, Tryz.ntmps103
        go_wp2_with (go_at_call 97; refine (pvalue_any _ ao n cap).mono ?_; rintro e w' ⟨rfl, rfl⟩; rw [hv])
        go_ret
        exact ⟨rfl, rfl⟩
  · have hv : decide (n ≤ 256) = false := decide_eq_false l
    rw [decide_eq_false (fun h => l h.1)]
    go_enter Tryz.func103, Tryz.ntmps103
    go_wp2_with (go_at_call 97; refine (pvalue_any _ ao n cap).mono ?_; rintro e w' ⟨rfl, rfl⟩; rw [hv])
    go_ret
    exact ⟨rfl, rfl⟩
theorem pequal_any (w : World) (ao bo : Option Addr) (n cap m cap2 : Nat) (xs ys : List Int) (h : Sl w ao n cap xs) (h2 : Sl w bo m cap2 ys) :
    Calls Tryz.prog 109 #[.slice ao n cap, .slice bo m cap2] w fun e w' => e = .returned (.bool (decide (xs = ys))) ∧ w' = w := by
  have c1 := conv_str h
  have c2 := conv_str h2
  by_cases e : xs = ys
  · subst e
    rw [decide_eq_true rfl]
    go_enter Tryz.func109, Tryz.ntmps109
    go_wp2
    go_ret
    exact ⟨rfl, rfl⟩
  · have i : ((strOfNums xs).toList == (strOfNums ys).toList) = false := toL_ne fun q => e (by rw [← sb_str h.byte, q, sb_str h2.byte])
    rw [decide_eq_false e]
    go_enter Tryz.func109, Tryz.ntmps109
    go_wp2
    go_ret
    exact ⟨rfl, rfl⟩
end Go.Proofs.YtnimcfkgckflhaaGreatDoor

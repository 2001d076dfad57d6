/-
  Texts in one: PChg, CkCutM, SPerm, CkLayM.
-/
import Derived.Test.YtkmkmekhodcioaaGreatDoorChunkLaysZ2
import Derived.Test.YtkmkmekhodcioaaGreatDoorChunkLaysZ8
import Derived.Test.YtkmkmekhodcioaaGreatDoorChunkLaysZ12
import Derived.Test.YtkmkmekhodcioaaGreatDoorChunkLaysZ13
import Derived.Test.YtkmkmekhodcioaaGreatDoorChunkLaysZ0
namespace Go.Proofs.YtkmkmekhodcioaaGreatDoor
open Go.RowKit

theorem kinfo : (Tryz.prog.info? 23).map (fun i => (i.zero, i.size, i.bytes)) = some (some (.slice none 0 0), 1, 24) := by kernel_rfl
theorem ninfo : (Tryz.prog.info? 56).map (fun i => (i.zero, i.size, i.bytes)) = some (some (.pointer none), 1, 8) := by kernel_rfl
theorem Apd.base {w : World} {b b' : Nat} {e : TypeId} {v : Value} {n : Nat} {vs : List Value} (h : Apd w b e v n vs) (hb : b' ≤ b) : Apd w b' e v n vs := by
  rcases h with h | h
  · exact .inl h
  · exact .inr (own_base h hb)
theorem ksize (w : World) : (sizeOf 23).run Tryz.prog w = .ok 1 w := size1 _ (by kernel_rfl) w
theorem nsize (w : World) : (sizeOf 56).run Tryz.prog w = .ok 1 w := size1 _ (by kernel_rfl) w

end Go.Proofs.YtkmkmekhodcioaaGreatDoor

namespace Go.Proofs.YtkmkmekhodcioaaGreatDoor
open Go.RowKit

/-- The blocks that hold some items. -/
def ILb (ao : Option Addr) (its : List IP) (x : Nat) : Prop := (∃ a, ao = some a ∧ 0 < its.length ∧ a.block = x) ∨ ∃ q ∈ its, q.blk x
theorem IL.keptB {w w' : World} {ao : Option Addr} {n cap : Nat} {its : List IP} (h : IL w ao n cap its) (hk : ∀ x, ILb ao its x → w'.heap[x]? = w.heap[x]?) : IL w' ao n cap its := by
  refine ⟨h.len, h.le, h.mx, h.nil, fun a ha i hi => ?_, fun q hq => (h.sl q hq).kept fun x hx => hk x (.inr ⟨q, hq, hx⟩)⟩
  obtain ⟨h1, h2⟩ := h.cell a ha i hi
  have hb : ∀ j, (a.add j).block = a.block := fun j => by unfold Addr.add; split <;> rfl
  have hx := hk a.block (.inl ⟨a, ha, by omega, rfl⟩)
  exact ⟨(World.cell?_of_block (a := a.add (i * 2)) (by rw [hb]; exact hx)).trans h1, (World.cell?_of_block (a := a.add (i * 2 + 1)) (by rw [hb]; exact hx)).trans h2⟩
theorem IL.blkLt {w : World} {ao : Option Addr} {n cap : Nat} {its : List IP} (h : IL w ao n cap its) {x : Nat} (hx : ILb ao its x) : x < w.heap.size := by
  rcases hx with ⟨a, ha, hp, rfl⟩ | ⟨q, hq, hx⟩
  · obtain ⟨h1, -⟩ := h.cell a ha 0 hp
    have hb : (a.add (0 * 2)).block = a.block := by unfold Addr.add; split <;> rfl
    have := World.block_lt_of_cell? _ _ h1
    rw [hb] at this
    exact this
  · exact (h.sl q hq).lt hx
/-- A block of one cell that is a slice holds none of them. -/
theorem IL.notBox {w : World} {ao : Option Addr} {n cap : Nat} {its : List IP} (h : IL w ao n cap its) {B : Nat} {so : Option Addr} {sn sc : Nat} {t : TypeId} (hB : w.heap[B]? = some (.cells #[.slice so sn sc] t)) {x : Nat} (hx : ILb ao its x) : x ≠ B := by
  rintro rfl
  rcases hx with ⟨a, ha, hp, rfl⟩ | ⟨q, hq, hx⟩
  · obtain ⟨h1, h2⟩ := h.cell a ha 0 hp
    obtain ⟨b, off, spot⟩ := a
    have hs : spot = none := by simpa [Addr.add] using World.cell?_spot h1
    subst hs
    rw [Addr.add_lit] at h2
    simp only at hB
    rw [cell_of_row w b (off + (0 * 2 + 1)) _ _ _ hB] at h2
    simp at h2
  · have key : ∀ r : Part, Sl w r.ao r.n r.cap r.xs → blkP r x → False := fun r hr ⟨a, ha, hn, e⟩ => by
      have h1 := hr.cell a ha 0 hn
      obtain ⟨b, off, spot⟩ := a
      have hs : spot = none := by simpa [Addr.add] using World.cell?_spot h1
      subst hs
      simp only at e
      subst e
      rw [Addr.add_lit, cell_of_row w b (off + 0) _ _ _ hB] at h1
      cases off with
      | zero => simp at h1
      | succ o => simp at h1
    rcases hx with hx | hx
    · exact key _ (h.sl q hq).1 hx
    · exact key _ (h.sl q hq).2 hx
/-- A part of the items. -/
theorem IL.part {w : World} {ao : Option Addr} {n cap : Nat} {its : List IP} (h : IL w ao n cap its) {i m : Nat} (hi : i + m ≤ n) (hm : 0 < m) : IL w (sA ao i) m m ((its.drop i).take m) := by
  have hl := h.len
  have hle := h.le
  have hmx := h.mx
  refine ⟨by rw [List.length_take, List.length_drop]; omega, Nat.le_refl _, by omega, fun e => ?_, fun b hb j hj => ?_, fun q hq => h.sl q (List.mem_of_mem_drop (List.mem_of_mem_take hq))⟩
  · unfold sA at e
    have := h.nil (by simpa using e)
    omega
  · simp only [List.length_take, List.length_drop] at hj
    unfold sA at hb
    cases ao with
    | none => simp at hb
    | some a =>
      have hb' : a.add (i * 2) = b := by simpa using hb
      have := h.cell a rfl (i + j) (by omega)
      rw [← hb', Addr.add_add, Addr.add_add, List.getElem_take, List.getElem_drop, ← Nat.add_mul, ← Nat.add_assoc, ← Nat.add_mul]
      exact this

theorem row_is {w : World} {base : Nat} {e : TypeId} {size : Nat} {v : Value} {n : Nat} {xs : List Value} (h : w.ownsRow base e size v n xs) : ∃ ao cap, v = .slice ao n cap := by
  rcases h.2 with ⟨rfl, e⟩ | ⟨g, cap, cur, rfl, _⟩
  · rw [e]
    exact ⟨none, 0, rfl⟩
  · exact ⟨_, cap, rfl⟩
/-- Chunks while they are cut: they are in the row v, of which block B holds the slice. -/
structure CtI (w0 w2 : World) (B : Nat) (ao : Option Addr) (its : List IP) (pre : List (List It)) (W : World) (v : Value) (qs : List Part) : Prop where
  bx : W.heap[B]? = some (.cells #[v] 22)
  own : W.ownsRow w2.heap.size 23 1 v qs.length (qs.map Part.val)
  xs : qs.map Part.xs = pre.map putCk
  sl : ∀ q ∈ qs, SlT W q
  kp : ∀ x, ILb ao its x → W.heap[x]? = w2.heap[x]?
  bel : Below w0.heap.size w0 W
  sz : w2.heap.size ≤ W.heap.size
theorem CtI.below {w0 w2 : World} {B : Nat} {ao : Option Addr} {its : List IP} {pre : List (List It)} {W W' : World} {v : Value} {qs : List Part} (h : CtI w0 w2 B ao its pre W v qs) (hb : Below W.heap.size W W') (hI : ∀ x, ILb ao its x → x < w2.heap.size) : CtI w0 w2 B ao its pre W' v qs :=
  ⟨(hb.block B (Array.getElem?_eq_some_iff.1 h.bx).1).trans h.bx, own_below h.own hb, h.xs, fun q hq => (h.sl q hq).kp (KpB.below hb), fun x hx => (hb.block x (by have := hI x hx; have := h.sz; omega)).trans (h.kp x hx), h.bel.trans (hb.mono h.bel.size), by have := hb.size; have := h.sz; omega⟩
/-- What is written that is no cells does not touch it. -/
theorem CtI.walk {w0 w2 : World} {B : Nat} {ao : Option Addr} {its : List IP} {pre : List (List It)} {W W' : World} {v : Value} {qs : List Part} {row : Option Nat} (h : CtI w0 w2 B ao its pre W v qs) (hg : W.grownBy W' row) (hr : ∀ r, row = some r → w2.heap.size ≤ r ∧ ∃ o : Obj, W.heap[r]? = some o ∧ o.isCells = false) (hI : ∀ x, ILb ao its x → x < w2.heap.size) (h02 : w0.heap.size ≤ w2.heap.size) : CtI w0 w2 B ao its pre W' v qs := by
  have cellsKept : ∀ (b : Nat) (c : Array Value) (t : TypeId) (u : Nat × Nat), W.heap[b]? = some (.cells c t u) → W'.heap[b]? = W.heap[b]? := fun b c t u hb => by
    refine hg.block b (Array.getElem?_eq_some_iff.1 hb).1 fun e => ?_
    obtain ⟨-, o, ho, hc⟩ := hr b e.symm
    rw [hb] at ho
    rw [← Option.some.inj ho] at hc
    simp [Obj.isCells] at hc
  refine ⟨(cellsKept B _ _ _ h.bx).trans h.bx, own_kept h.own fun g hgv => ?_, h.xs, fun q hq => (h.sl q hq).kp fun b cur hb => (cellsKept b _ _ _ hb).trans hb, fun x hx => ?_, ?_, by have := hg.size; have := h.sz; omega⟩
  · rcases h.own.2 with ⟨e, -⟩ | ⟨g', cap, cur, e, -, hh, -⟩
    · rw [e] at hgv
      simp [Value.ownBlock] at hgv
    · rw [e] at hgv
      obtain rfl : g' = g := by simpa [Value.ownBlock] using hgv
      exact cellsKept g' _ _ _ hh
  · have hx2 := hI x hx
    refine (hg.block x (by have := h.sz; omega) fun e => ?_).trans (h.kp x hx)
    have := (hr x e.symm).1
    omega
  · refine h.bel.trans ⟨hg.os, hg.tape, hg.output, hg.size, fun i hi => hg.block i (by have := h.bel.size; omega) fun e => ?_⟩
    have := (hr i e.symm).1
    omega
/-- One chunk more. -/
theorem CtI.step {w0 w2 : World} {B : Nat} {ao : Option Addr} {its : List IP} {pre : List (List It)} {W W2 : World} {v : Value} {qs : List Part} {q : Part} {x : List It} {g : Nat} (h : CtI w0 w2 B ao its pre W v qs) (hI : ∀ x, ILb ao its x → x < w2.heap.size ∧ x ≠ B) (hB : w0.heap.size ≤ B) (hB2 : B < w2.heap.size)
    (bW2 : Below W.heap.size W W2) (hq2 : SlT W2 q) (hx : q.xs = putCk x) (hxc : W2.heap[g]? = some (.cells #[q.val] 23)) (hn : qs.length ≤ 1000000) (ty : TypeId) (c : Nat) :
    ∃ v' W3, (Builtin.append_ #[22, 22] ty #[v, .slice (some ⟨g, 0, none⟩) 1 c]).run Tryz.prog W2 = .ok v' W3 ∧ (∃ u, W3.cell? ⟨B, 0, none⟩ = some u) ∧ W3.frozen? ⟨B, 0, none⟩ = false ∧
      CtI w0 w2 B ao its (pre ++ [x]) (W3.setCell ⟨B, 0, none⟩ v') v' (qs ++ [q]) ∧ KeepsOthers W (W3.setCell ⟨B, 0, none⟩ v') ∧ ∀ y, y < w2.heap.size → y ≠ B → (W3.setCell ⟨B, 0, none⟩ v').heap[y]? = W.heap[y]? := by
  have hI1 : ∀ x, ILb ao its x → x < w2.heap.size := fun x hx => (hI x hx).1
  have k2 := h.below bW2 hI1
  obtain ⟨i0, hi, hz0, hz1, hz2⟩ := info_parts kinfo
  have hs2 := k2.sz
  obtain ⟨v', W3, hrun, own3, g3, -⟩ := run_append_own2 (P := Tryz.prog) W2 w2.heap.size 22 ty 23 i0 _ 1 24 Tryz.underlying22 hi hz0 hz1 hz2 rfl (by decide) v qs.length (qs.map Part.val) k2.own ⟨g, 0, none⟩ 1 c [q.val] rfl
    (fun j u hu => by
      rw [Addr.add_lit, Nat.zero_add, cell_of_row W2 g j _ _ _ hxc]
      simpa using hu) (fun u hu => by
      rw [List.mem_singleton.1 hu]
      rfl) (by unfold maxLen; omega) (by omega) hs2
  have A2 : Arr W2 B 22 [v] := k2.bx
  have hne := arr_not_row A2 (by decide) k2.own
  have A3 : Arr W3 B 22 [v] := A2.grown g3 (fun e => hne e.symm)
  have hW2 : W.heap.size ≤ W2.heap.size := bW2.size
  have rowge : ∀ g, v.ownBlock = some g → w2.heap.size ≤ g := fun g hg => (k2.own.lt g hg).1
  have kpb : KpB W2 (W3.setCell ⟨B, 0, none⟩ v') := (KpB.row k2.own (by decide) g3).trans (KpB.set A3 (by decide) 0 v')
  have far : ∀ y, y < w2.heap.size → y ≠ B → (W3.setCell ⟨B, 0, none⟩ v').heap[y]? = W2.heap[y]? := fun y hy hyB => by
    refine (heap_setCell_other W3 ⟨B, 0, none⟩ y v' hyB).trans (g3.block y (by omega) fun e => ?_)
    have := rowge y e.symm
    omega
  have hsz := h.sz
  refine ⟨v', W3, hrun, ⟨v, A3.cell 0⟩, ?_, ⟨A3.set 0 v', ?_, ?_, ?_, ?_, ?_, ?_⟩, ⟨?_, ?_⟩, fun y hy hyB => (far y hy hyB).trans (bW2.block y (by omega))⟩
  · exact frozen_of_row W3 B 0 _ _ A3
  · rw [List.length_append, List.map_append]
    exact own3.kept (row := some B) (grown_set (a := W3) (b := W3) ⟨rfl, rfl, rfl, Nat.le_refl _, fun _ _ _ => rfl⟩ 0 v') (.inr (arr_not_row A3 (by decide) own3))
  · rw [List.map_append, List.map_append, h.xs, List.map_singleton, List.map_singleton, hx]
  · intro r hr
    rcases List.mem_append.1 hr with hr | hr
    · exact (k2.sl r hr).kp kpb
    · rw [List.mem_singleton.1 hr]
      exact hq2.kp kpb
  · exact fun y hy => (far y (hI y hy).1 (hI y hy).2).trans (k2.kp y hy)
  · exact k2.bel.trans (((Below.refl w0.heap.size W2).grown g3 (by omega) (fun k hk => by have := rowge k hk; omega)).setCell hB v')
  · have := g3.size
    simp only [World.size_setCell]
    omega
  · have := g3.size
    simp only [World.size_setCell]
    omega
  · intro k o hk ho
    have hkl := (Array.getElem?_eq_some_iff.1 hk).1
    have hk2 : W2.heap[k]? = some o := (bW2.block k hkl).trans hk
    have hkB : k ≠ B := by
      rintro rfl
      rw [show W2.heap[k]? = _ from A2] at hk2
      rw [← Option.some.inj hk2] at ho
      simp [Obj.isCells] at ho
    refine (heap_setCell_other W3 ⟨B, 0, none⟩ k v' hkB).trans ((g3.block k (by omega) fun e => ?_).trans hk2)
    rcases k2.own.2 with ⟨e', -⟩ | ⟨g', cap, cur, e', -, hh, -⟩
    · rw [e'] at e
      simp [Value.ownBlock] at e
    · rw [e'] at e
      obtain rfl : k = g' := by simpa [Value.ownBlock] using e
      rw [hh] at hk2
      rw [← Option.some.inj hk2] at ho
      simp [Obj.isCells] at ho
end Go.Proofs.YtkmkmekhodcioaaGreatDoor

namespace Go.Proofs.YtkmkmekhodcioaaGreatDoor
open Go.RowKit

/-- Two lists that rise and have the same items are one. -/
theorem Srt.perm : ∀ {l r : List It}, Srt l → Srt r → l.Perm r → l = r
  | [], r, _, _, h => (List.Perm.nil_eq h)
  | x :: l, [], _, _, h => by simpa using h.length_eq
  | x :: l, y :: r, hl, hr, h => by
    have hx : x ∈ y :: r := h.mem_iff.1 (List.mem_cons_self ..)
    have hy : y ∈ x :: l := h.mem_iff.2 (List.mem_cons_self ..)
    have e : x = y := by
      rcases List.mem_cons.1 hx with e | hx
      · exact e
      · rcases List.mem_cons.1 hy with e | hy
        · exact e.symm
        · exact absurd (cmpL_lt_trans _ _ _ (hl.cons.1 y hy) (hr.cons.1 x hx)) (cmpL_irr _)
    subst e
    rw [Srt.perm hl.cons.2 hr.cons.2 ((List.perm_cons x).1 h)]
end Go.Proofs.YtkmkmekhodcioaaGreatDoor

namespace Go.Proofs.YtkmkmekhodcioaaGreatDoor
open Go.RowKit

/-- Does the first of some items stand above the last of others? -/
def joins (a l : List It) : Bool := match a.getLast?, l with
  | some x, y :: _ => decide (cmpL x.k y.k < 0)
  | _, _ => true
/-- All that was read, and whether each stands above what was ahead. -/
def jn (a : List It) : List (List It) → Bool
  | [] => true
  | l :: ls => joins a l && jn (a ++ l) ls
def layR : List (List Int) → Sum Int (List (List It))
  | [] => .inr []
  | b :: bs => match rdCk b, layR bs with
    | .inl k, _ => .inl k
    | .inr _, .inl k => .inl k
    | .inr l, .inr ls => .inr (l :: ls)
/-- What is laid. -/
def layC (bs : List (List Int)) : Sum Int (List It) := match layR bs with
  | .inl k => .inl k
  | .inr ls => if jn [] ls then .inr ls.flatten else .inl 3
theorem joins_srt {a l : List It} (ha : Srt a) (hl : Srt l) (h : joins a l = true) (hne : l ≠ []) : Srt (a ++ l) := by
  refine Srt.mk ha hl fun x hx y hy => ?_
  cases l with
  | nil => exact absurd rfl hne
  | cons z l =>
    obtain ⟨b, e, rfl⟩ : ∃ b e, a = b ++ [e] := by
      have hn : a ≠ [] := fun h => by rw [h] at hx; simp at hx
      exact ⟨a.dropLast, a.getLast hn, (List.dropLast_concat_getLast hn).symm⟩
    have h1 : cmpL e.k z.k < 0 := by simpa [joins] using h
    have h2 : x = e ∨ cmpL x.k e.k < 0 := by
      rcases List.mem_append.1 hx with hx | hx
      · exact .inr (ha.app.2.2 x hx e (by simp))
      · exact .inl (by simpa using hx)
    have h3 : z = y ∨ cmpL z.k y.k < 0 := by
      rcases List.mem_cons.1 hy with hy | hy
      · exact .inl hy.symm
      · exact .inr (hl.cons.1 y hy)
    rcases h2 with rfl | h2
    · rcases h3 with rfl | h3
      · exact h1
      · exact cmpL_lt_trans _ _ _ h1 h3
    · rcases h3 with rfl | h3
      · exact cmpL_lt_trans _ _ _ h2 h1
      · exact cmpL_lt_trans _ _ _ h2 (cmpL_lt_trans _ _ _ h1 h3)
theorem jn_srt : ∀ (ls : List (List It)) (a : List It), Srt a → (∀ l ∈ ls, Srt l ∧ l ≠ []) → jn a ls = true → Srt (a ++ ls.flatten)
  | [], a, ha, _, _ => by simpa using ha
  | l :: ls, a, ha, h, hj => by
    unfold jn at hj
    rw [Bool.and_eq_true] at hj
    have h1 := h l (List.mem_cons_self ..)
    have := jn_srt ls (a ++ l) (joins_srt ha h1.1 hj.1 h1.2) (fun x hx => h x (List.mem_cons_of_mem _ hx)) hj.2
    rw [List.flatten_cons, ← List.append_assoc]
    exact this

/-- append of items, and where they lie. -/
theorem run_appI2 {w : World} {base : Nat} {v : Value} {ps qs : List IP} (ty : TypeId) (h : w.ownsRow base 43 2 v ps.length (flatI ps)) (hb : base ≤ w.heap.size) {bo : Option Addr} {m c : Nat} (hx : IL w bo m c qs) (hm : 0 < m) (hn : ps.length + m ≤ 1000000) :
    ∃ v' w', (Builtin.append_ #[30, 30] ty #[v, .slice bo m c]).run Tryz.prog w = .ok v' w' ∧ w'.ownsRow base 43 2 v' (ps ++ qs).length (flatI (ps ++ qs)) ∧ w.grownBy w' v.ownBlock ∧ ∀ g, v'.ownBlock = some g → v.ownBlock = some g ∨ w.heap.size ≤ g := by
  obtain ⟨i0, hi, hz0, hz1, hz2⟩ := info_parts itemInfo
  have hlen := hx.len
  obtain ⟨ad, rfl⟩ : ∃ ad, bo = some ad := by
    cases bo with
    | none => have := (hx.nil rfl).1; omega
    | some ad => exact ⟨ad, rfl⟩
  obtain ⟨v', w', h1, h2, h3, h4⟩ := run_append_own2 (P := Tryz.prog) w base 30 ty 43 i0 _ 2 48 Tryz.underlying30 hi hz0 hz1 hz2 rfl (by decide) v ps.length (flatI ps) h ad m c (flatI qs) (by rw [flatI_length, hlen])
    (fun j u hu => by
      have hj := (List.getElem?_eq_some_iff.1 hu).1
      rw [flatI_length] at hj
      have hq : j / 2 < qs.length := by omega
      obtain ⟨e1, e2⟩ := flatI_get qs (j / 2) hq
      obtain ⟨d1, d2⟩ := hx.cell ad rfl (j / 2) hq
      rcases Nat.mod_two_eq_zero_or_one j with hp | hp
      · have ej : j / 2 * 2 = j := by omega
        rw [ej] at e1 d1
        rw [d1, ← hu, e1]
      · have ej : j / 2 * 2 + 1 = j := by omega
        rw [ej] at e2 d2
        rw [d2, ← hu, e2]) (flatI_one qs) (by unfold maxLen; omega) (by omega) hb
  refine ⟨v', w', h1, ?_, h3, h4⟩
  rw [flatI_app, List.length_append, hlen]
  exact h2
/-- Items while they are gathered: block A holds their slice, block R whether they rise. -/
structure LyI (w0 : World) (A R base : Nat) (W : World) (v : Value) (ps : List IP) (r : Bool) : Prop where
  ba : W.heap[A]? = some (.cells #[v] 30)
  br : W.heap[R]? = some (.cells #[.bool r] 4)
  own : W.ownsRow base 43 2 v ps.length (flatI ps)
  oks : ∀ q ∈ ps, q.ok W
  far : ∀ q ∈ ps, ∀ x, q.blk x → x ≠ A ∧ x ≠ R ∧ v.ownBlock ≠ some x
  bel : Below w0.heap.size w0 W
  pos : w0.heap.size ≤ A ∧ A < base ∧ w0.heap.size ≤ R ∧ R < base ∧ A ≠ R ∧ base ≤ W.heap.size
theorem LyI.below {w0 : World} {A R base : Nat} {W W' : World} {v : Value} {ps : List IP} {r : Bool} (h : LyI w0 A R base W v ps r) (hb : Below W.heap.size W W') : LyI w0 A R base W' v ps r :=
  ⟨(hb.block A (Array.getElem?_eq_some_iff.1 h.ba).1).trans h.ba, (hb.block R (Array.getElem?_eq_some_iff.1 h.br).1).trans h.br, own_below h.own hb, fun q hq => (h.oks q hq).below hb, h.far, h.bel.trans (hb.mono h.bel.size), by have := hb.size; have := h.pos; omega⟩
theorem LyI.row {w0 : World} {A R base : Nat} {W : World} {v : Value} {ps : List IP} {r : Bool} (h : LyI w0 A R base W v ps r) : ∃ ao cap, v = .slice ao ps.length cap ∧ IL W ao ps.length cap ps := own_items h.own h.oks
/-- They do not rise. -/
theorem LyI.fall {w0 : World} {A R base : Nat} {W : World} {v : Value} {ps : List IP} {r : Bool} (h : LyI w0 A R base W v ps r) : LyI w0 A R base (W.setCell ⟨R, 0, none⟩ (.bool false)) v ps false := by
  have hp := h.pos
  have ho : ∀ x, x ≠ R → (W.setCell ⟨R, 0, none⟩ (.bool false)).heap[x]? = W.heap[x]? := fun x hx => heap_setCell_other W ⟨R, 0, none⟩ x _ hx
  have AR : Arr W R 4 [.bool r] := h.br
  refine ⟨(ho A hp.2.2.2.2.1).trans h.ba, AR.set 0 (.bool false), own_kept h.own fun g hg => ho g ?_, fun q hq => (h.oks q hq).kept fun x hx => ho x (h.far q hq x hx).2.1, h.far, h.bel.setCell hp.2.2.1 _, by simp only [World.size_setCell]; exact hp⟩
  have := (h.own.lt g hg).1
  omega
/-- Some items more. -/
theorem LyI.more {w0 : World} {A R base : Nat} {W : World} {v : Value} {ps qs : List IP} {r : Bool} (h : LyI w0 A R base W v ps r) {bo : Option Addr} {m c : Nat} (hx : IL W bo m c qs) (hm : 0 < m) (hn : ps.length + m ≤ 1000000) (hfar : ∀ q ∈ qs, ∀ x, q.blk x → x ≠ A ∧ x ≠ R ∧ v.ownBlock ≠ some x) (ty : TypeId) :
    ∃ v' W1, (Builtin.append_ #[30, 30] ty #[v, .slice bo m c]).run Tryz.prog W = .ok v' W1 ∧ (∃ u, W1.cell? ⟨A, 0, none⟩ = some u) ∧ W1.frozen? ⟨A, 0, none⟩ = false ∧ LyI w0 A R base (W1.setCell ⟨A, 0, none⟩ v') v' (ps ++ qs) r := by
  have hp := h.pos
  obtain ⟨v', W1, hrun, own1, g1, w1⟩ := run_appI2 (w := W) ty h.own (by omega) hx hm hn
  have AA : Arr W A 30 [v] := h.ba
  have rowne : ∀ g, v.ownBlock = some g → base ≤ g := fun g hg => (h.own.lt g hg).1
  have A1 : Arr W1 A 30 [v] := AA.grown g1 (fun e => by have := rowne A e.symm; omega)
  have ho : ∀ x, x ≠ A → (W1.setCell ⟨A, 0, none⟩ v').heap[x]? = W1.heap[x]? := fun x hx => heap_setCell_other W1 ⟨A, 0, none⟩ x _ hx
  have kp : ∀ q : IP, q.ok W → (∀ x, q.blk x → x ≠ A ∧ x ≠ R ∧ v.ownBlock ≠ some x) → q.ok (W1.setCell ⟨A, 0, none⟩ v') ∧ ∀ x, q.blk x → x ≠ A ∧ x ≠ R ∧ v'.ownBlock ≠ some x := fun q hq hf => by
    refine ⟨hq.kept fun x hx => (ho x (hf x hx).1).trans (g1.block x (hq.lt hx) fun e => (hf x hx).2.2 e.symm), fun x hx => ⟨(hf x hx).1, (hf x hx).2.1, fun e => ?_⟩⟩
    rcases w1 x e with e' | e'
    · exact (hf x hx).2.2 e'
    · have := hq.lt hx
      omega
  have hs := g1.size
  refine ⟨v', W1, hrun, ⟨v, A1.cell 0⟩, frozen_of_row W1 A 0 _ _ A1, A1.set 0 v', ?_, ?_, ?_, ?_, ?_, by simp only [World.size_setCell]; omega⟩
  · refine (ho R (fun e => hp.2.2.2.2.1 e.symm)).trans ((g1.block R (Array.getElem?_eq_some_iff.1 h.br).1 fun e => ?_).trans h.br)
    have := rowne R e.symm
    omega
  · refine own_kept own1 fun g hg => ho g ?_
    have := (own1.lt g hg).1
    omega
  · intro q hq
    rcases List.mem_append.1 hq with hq | hq
    · exact (kp q (h.oks q hq) (h.far q hq)).1
    · exact (kp q (hx.sl q hq) (hfar q hq)).1
  · intro q hq
    rcases List.mem_append.1 hq with hq | hq
    · exact (kp q (h.oks q hq) (h.far q hq)).2
    · exact (kp q (hx.sl q hq) (hfar q hq)).2
  · exact h.bel.trans (((Below.refl w0.heap.size W).grown g1 h.bel.size (fun k hk => by have := rowne k hk; omega)).setCell hp.1 v')
end Go.Proofs.YtkmkmekhodcioaaGreatDoor

/-
  Texts in one: DCells, GNew, AppG.
-/
import Derived.Test.YtkjaapomaaakmaaGreatMessageBytesQ0
import Derived.Deep.WholeRow
import Derived.Deep.Draws
import Derived.Test.YtkjaapomaaakmaaGreatMessageBytesQ2
import Derived.DataElems
import Derived.ArgAppend
import Derived.Deep.Upon
namespace Go
structure StopS (p : Prop) : Prop where
 out : p
theorem stop_at {P : Program} {ops : Array Oper} {rest : List Oper} {o : Oper} {a : Act} {w : World} {Q : Exit → Act → World → Prop} (op : Op) (_ : o.op = op) (h : StopS (wpList P ops Q (o :: rest) a w)) : wpList P ops Q (o :: rest) a w := h.out
end Go
namespace Go.Proofs.YtkjaapomaaakmaaGreat
open Go.RowKit
def Arr (w : World) (b : Nat) (t : TypeId) (cs : List Value) : Prop := w.heap[b]? = some (.cells cs.toArray t)
theorem Arr.lt {w : World} {b : Nat} {t : TypeId} {cs : List Value} (h : Arr w b t cs) : b < w.heap.size := (Array.getElem?_eq_some_iff.1 h).1
theorem Arr.cell {w : World} {b : Nat} {t : TypeId} {cs : List Value} (h : Arr w b t cs) (j : Nat) : w.cell? ⟨b, j, none⟩ = cs[j]? := by
 rw [cell_of_row w b j _ _ _ h]; simp
theorem Arr.free {w : World} {b : Nat} {t : TypeId} {cs : List Value} (h : Arr w b t cs) (j : Nat) : w.frozen? ⟨b, j, none⟩ = false := frozen_of_row w b j _ _ h
theorem Arr.grown {w w' : World} {b : Nat} {t : TypeId} {cs : List Value} {row : Option Nat} (h : Arr w b t cs) (hg : w.grownBy w' row) (hne : some b ≠ row) : Arr w' b t cs := (hg.block b h.lt hne).trans h
theorem Arr.below {w w' : World} {b : Nat} {t : TypeId} {cs : List Value} {n : Nat} (h : Arr w b t cs) (hg : Below n w w') (hne : b < n) : Arr w' b t cs := (hg.block b hne).trans h
theorem Arr.set {w : World} {b : Nat} {t : TypeId} {cs : List Value} (h : Arr w b t cs) (j : Nat) (v : Value) : Arr (w.setCell ⟨b, j, none⟩ v) b t (cs.set j v) := by
 unfold Arr
 rw [heap_setCell_same w b j _ t v h]
 simp
theorem bel_grown {w w' : World} (h : Below w.heap.size w w') (row : Option Nat) : w.grownBy w' row := ⟨h.os, h.tape, h.output, h.size, fun k hk _ => h.block k hk⟩
theorem gro_trans {a b c : World} {row : Option Nat} (h : a.grownBy b row) (k : b.grownBy c row) : a.grownBy c row :=
 ⟨k.os.trans h.os, k.tape.trans h.tape, k.output.trans h.output, Nat.le_trans h.size k.size, fun i hi hn => (k.block i (Nat.lt_of_lt_of_le hi h.size) hn).trans (h.block i hi hn)⟩
theorem grown_set {a b : World} {p : Nat} (h : a.grownBy b (some p)) (j : Nat) (v : Value) : a.grownBy (b.setCell ⟨p, j, none⟩ v) (some p) :=
 ⟨h.os, h.tape, h.output, by simpa using h.size, fun i hi hn => (heap_setCell_other b _ i v (fun e => hn (by rw [e]))).trans (h.block i hi hn)⟩
end Go.Proofs.YtkjaapomaaakmaaGreat
namespace Go.Proofs.YtkjaapomaaakmaaGreat
open Go.RowKit
def flatE {α : Type} (E : El α) (l : List α) : List Value := (l.map E.c).flatten
variable {α : Type} {E : El α} {w0 w W W' : World} {base : Nat} {v : Value} {l qs : List α} {t s : TypeId} {bytes : Nat} {z : Value}
theorem flatE_app (E : El α) (l m : List α) : flatE E (l ++ m) = flatE E l ++ flatE E m := by simp [flatE]
theorem flatE_one (F : E.Fine) (l : List α) : ∀ u ∈ flatE E l, u.oneCell' = true := by
 intro u hu
 unfold flatE at hu
 obtain ⟨cs, h1, h2⟩ := List.mem_flatten.1 hu
 obtain ⟨c, -, rfl⟩ := List.mem_map.1 h1
 exact F.one c u h2
theorem flatE_len (F : E.Fine) (l : List α) : (flatE E l).length = l.length * E.sz := flat_len E.c E.sz F.len l
theorem grow_bel {n : Nat} {e : TypeId} {size : Nat} {xs : List Value} (h : W.ownsRow base e size v n xs) (hb : Below W.heap.size W W') : W'.ownsRow base e size v n xs :=
 own_kept h fun g hg => hb.block g (h.lt g hg).2
theorem GL.flat (F : E.Fine) {ao : Option Addr} {n cap : Nat} (h : GL E w ao n cap qs) {a : Addr} (ha : ao = some a) : ∀ j u, (flatE E qs)[j]? = some u → w.cell? (a.add j) = some u := fun j u hu => by
 have hj := (List.getElem?_eq_some_iff.1 hu).1
 rw [flatE_len F] at hj
 have hz := F.pos
 have hq : j / E.sz < qs.length := (Nat.div_lt_iff_lt_mul hz).2 hj
 have ej : j / E.sz * E.sz + j % E.sz = j := by rw [Nat.mul_comm]; exact Nat.div_add_mod j E.sz
 have hg := flat_get E.c E.sz F.len qs (j / E.sz) (j % E.sz) hq (Nat.mod_lt _ hz)
 rw [ej] at hg
 have := h.cell a ha (j / E.sz) hq (j % E.sz) u (hg.symm.trans hu)
 rw [ej] at this
 exact this
structure GNew (E : El α) (t : TypeId) (w0 W : World) (base : Nat) (v : Value) (l : List α) : Prop where
 row : W.ownsRow base t E.sz v l.length (flatE E l)
 ok : ∀ c ∈ l, E.ok c w0
theorem GNew.nil (E : El α) (t : TypeId) (w0 W : World) (base : Nat) : GNew E t w0 W base (.slice none 0 0) [] := ⟨World.ownsRow_nil _ _ _ _, fun _ h => absurd h List.not_mem_nil⟩
theorem GNew.below (h : GNew E t w0 W base v l) (hb : Below W.heap.size W W') : GNew E t w0 W' base v l := ⟨grow_bel h.row hb, h.ok⟩
theorem GNew.slice (h : GNew E t w0 W base v l) : ∃ ao n cap, v = .slice ao n cap := by
 rcases h.row.2 with ⟨rfl, e⟩ | ⟨g, cap, cur, rfl, _⟩
 ·exact ⟨none, 0, 0, rfl⟩
 ·exact ⟨_, _, cap, rfl⟩
theorem GNew.gl (F : E.Fine) (h : GNew E t w0 W base v l) (hb : Below w0.heap.size w0 W) : ∃ ao cap, v = .slice ao l.length cap ∧ GL E W ao l.length cap l ∧ ∀ z, sblk ao l.length z → base ≤ z := by
 have hok : ∀ c ∈ l, E.ok c W := fun c hc => F.kept c w0 W (h.ok c hc) fun z hz => hb.block z (F.lt c w0 z (h.ok c hc) hz)
 rcases h.row.2 with ⟨rfl, e⟩ | ⟨g, cap, cur, rfl, a1, a2, a3, a4, a5, a6⟩
 ·rw [e]
  have : l = [] := List.eq_nil_of_length_eq_zero e
  subst this
  exact ⟨none, 0, rfl, GL.nothing E W, fun z hz => by obtain ⟨a, ha, _⟩ := hz; cases ha⟩
 ·refine ⟨some ⟨g, 0, none⟩, cap, rfl, ⟨rfl, a3, a4, fun h => by simp at h, fun a ha i hi j u hu => ?_, hok⟩, fun z hz => by obtain ⟨a, ha, _, rfl⟩ := hz; cases ha; exact a1⟩
  obtain rfl := Option.some.inj ha
  have hj : j < E.sz := by have := (List.getElem?_eq_some_iff.1 hu).1; rw [F.len] at this; exact this
  refine h.row.cells (g := g) rfl (i * E.sz + j) u ?_
  unfold flatE
  rw [flat_get E.c E.sz F.len l i j hi hj]
  exact hu
def TyAt (W : World) (ao : Option Addr) (t : TypeId) : Prop := ∀ a, ao = some a → ∃ cur, W.heap[a.block]? = some (.cells cur t)
theorem TyAt.below {ao : Option Addr} (h : TyAt W ao t) (hb : Below W.heap.size W W') : TyAt W' ao t := fun a ha => by
 obtain ⟨cur, e⟩ := h a ha
 exact ⟨cur, (hb.block _ (Array.getElem?_eq_some_iff.1 e).1).trans e⟩
theorem GNew.typ (h : GNew E t w0 W base v l) : ∀ ao n cap, v = .slice ao n cap → TyAt W ao t := by
 rcases h.row.2 with ⟨rfl, e⟩ | ⟨g, cap, cur, rfl, a1, a2, _⟩
 ·intro ao n cap e a ha
  simp only [Value.slice.injEq] at e
  rw [← e.1] at ha
  cases ha
 ·intro ao n cap e a ha
  simp only [Value.slice.injEq] at e
  rw [← e.1] at ha
  obtain rfl := Option.some.inj ha
  exact ⟨cur, a2⟩
theorem src_nil {P : Program} {w : World} {t e : TypeId} {i : TypeInfo} {bo : Option Addr} {c : Nat} (ht : P.underlying t = some (.slice e)) : Src P i.size t (.slice bo 0 c) 0 [] w := by
 refine ⟨.inl ⟨e, ht⟩, fun w' => rfl, ?_, ?_, by simp, by simp⟩ <;> cases bo <;> simp [Builtin.firstCells] <;> rfl
theorem run_appGs (F : E.Fine) (hty : GTy E.sz bytes z t s) (ty : TypeId) (h : GNew E t w0 w base v l) (hb : base ≤ w.heap.size) {bo : Option Addr} {m c : Nat} (hx : GL E w bo m c qs) (hok : ∀ q ∈ qs, E.ok q w0) (hn : (l.length + m) * bytes ≤ 140737488355328) (hm : l.length + m ≤ maxLen) :
  ∃ v' w', (Builtin.append_ #[s, s] ty #[v, .slice bo m c]).run Tryz.prog w = .ok v' w' ∧ GNew E t w0 w' base v' (l ++ qs) ∧ Below base w w' := by
 obtain ⟨i0, hi, hz0, hz1, hz2⟩ := info_parts hty.info
 have hlen := hx.len
 have key : ∀ d ∈ l ++ qs, E.ok d w0 := fun d hd => by
  rcases List.mem_append.1 hd with hd | hd
  ·exact h.ok d hd
  ·exact hok d hd
 by_cases h0 : m = 0
 ·subst h0
  obtain rfl : qs = [] := List.eq_nil_of_length_eq_zero hlen
  have hv : ∃ ao cap, v = .slice ao l.length cap ∧ l.length ≤ cap := by
   rcases h.row.2 with ⟨rfl, e⟩ | ⟨g, cap, cur, rfl, hg, hh, hle, _⟩
   ·rw [e]
    exact ⟨none, 0, rfl, Nat.le_refl _⟩
   ·exact ⟨_, cap, rfl, hle⟩
  obtain ⟨ao, cap, rfl, hle⟩ := hv
  refine ⟨_, w, run_append_nothing w s s ty t i0 hty.und hi ao l.length cap hle _ (src_nil hty.und), ⟨?_, key⟩, Below.refl _ _⟩
  simpa using h.row
 ·obtain ⟨ad, rfl⟩ : ∃ ad, bo = some ad := by
   cases bo with
   | none => have := (hx.nil rfl).1; omega
   | some ad => exact ⟨ad, rfl⟩
  obtain ⟨v', w', h1, h2, h3, -⟩ := run_append_own (P := Tryz.prog) w base s ty t i0 _ E.sz bytes hty.und hi hz0 hz1 hz2 hty.zs F.pos v l.length (flatE E l) h.row ad m c (flatE E qs) (by rw [flatE_len F, hlen]) (hx.flat F rfl) (flatE_one F qs) hm hn hb
  refine ⟨v', w', h1, ⟨?_, key⟩, (Below.refl _ w).grown h3 hb (fun k hk => (h.row.lt k hk).1)⟩
  rw [flatE_app, List.length_append, hlen]
  exact h2
theorem run_appG1 (F : E.Fine) (hty : GTy E.sz bytes z t s) (ty : TypeId) (h : GNew E t w0 w base v l) (hb : base ≤ w.heap.size) {ad : Addr} {cp : Nat} {y : α} (hG : ∀ j u, (E.c y)[j]? = some u → w.cell? (ad.add j) = some u) (hok : E.ok y w0) (hn : (l.length + 1) * bytes ≤ 140737488355328) (hm : l.length + 1 ≤ maxLen) :
  ∃ v' w', (Builtin.append_ #[s, s] ty #[v, .slice (some ad) 1 cp]).run Tryz.prog w = .ok v' w' ∧ GNew E t w0 w' base v' (l ++ [y]) ∧ Below base w w' := by
 obtain ⟨i0, hi, hz0, hz1, hz2⟩ := info_parts hty.info
 obtain ⟨v', w', h1, h2, h3, -⟩ := run_append_own (P := Tryz.prog) w base s ty t i0 _ E.sz bytes hty.und hi hz0 hz1 hz2 hty.zs F.pos v l.length (flatE E l) h.row ad 1 cp (E.c y) (by rw [F.len, Nat.one_mul]) hG (F.one y) hm hn hb
 refine ⟨v', w', h1, ⟨?_, fun d hd => ?_⟩, (Below.refl _ w).grown h3 hb (fun k hk => (h.row.lt k hk).1)⟩
 ·have e : flatE E (l ++ [y]) = flatE E l ++ E.c y := by simp [flatE]
  rw [e, List.length_append]
  exact h2
 ·rcases List.mem_append.1 hd with hd | hd
  ·exact h.ok d hd
  ·rw [List.mem_singleton.1 hd]; exact hok
end Go.Proofs.YtkjaapomaaakmaaGreat
namespace Go.Proofs.YtkjaapomaaakmaaGreat
open Go.RowKit
theorem wpList_append_run {P : Program} {w w' : World} {v v' u : Value} {sl : TypeId} {ops : Array Oper} {rest : List Oper} {o : Oper} {a : Act} {Q : Exit → Act → World → Prop} (hgd : o.guard = none) (s x : Operand)
  (ho : o.op = .call { callee := .builtin .append, args := #[s, x], argTypes := #[sl, sl] }) (hs : a.eval s = v) (hx : a.eval x = u) (hr : (Builtin.append_ #[sl, sl] o.type #[v, u]).run P w = .ok v' w')
  (K : wpList P ops Q rest (a.put o.dst v') w') : wpList P ops Q (o :: rest) a w := by
 refine wpList_plain hgd fun K' hK => ?_
 unfold Oper.wp execOp
 simp only [ho, resolve, invoke, builtin, Sem.run_bind, Sem.run_pure, Result.andThen_ok, List.map_toArray, List.map_cons, List.map_nil, hs, hx, hr]
 exact hK _ _ K
theorem wpList_appG {α : Type} {E : El α} (F : E.Fine) {bytes : Nat} {zv : Value} {t sl : TypeId} (hty : GTy E.sz bytes zv t sl) {w : World} {ops : Array Oper} {rest : List Oper} {o : Oper} {a : Act} {Q : Exit → Act → World → Prop} (hgd : o.guard = none) (s x : Operand)
  (ho : o.op = .call { callee := .builtin .append, args := #[s, x], argTypes := #[sl, sl] }) {base : Nat} {v : Value} {ys : List α} (h : GI E t w base v ys) (hs : a.eval s = v) {ad : Addr} {cp : Nat} (hx : a.eval x = .slice (some ad) 1 cp) {y : α}
  (hG : ∀ j u, (E.c y)[j]? = some u → w.cell? (ad.add j) = some u) (he : E.ok y w) (hf : ∀ x, E.blk y x → v.ownBlock ≠ some x) (hn : (ys.length + 1) * bytes ≤ 140737488355328) (hm : ys.length + 1 ≤ maxLen) (hbase : base ≤ w.heap.size)
  (K : ∀ v' w', GI E t w' base v' (ys ++ [y]) → Below base w w' → wpList Tryz.prog ops Q rest (a.put o.dst v') w') : wpList Tryz.prog ops Q (o :: rest) a w := by
 obtain ⟨v', w', hr, h2, h3, _, _⟩ := h.app F hty o.type hG he hf hn hm hbase
 exact wpList_append_run hgd s x ho hs hx hr (K v' w' h2 h3)
theorem tyS : GTy elS.sz 56 (.agg #[.int .u64 0, .slice none 0 0, .slice none 0 0]) 114 38 := ⟨by kernel_rfl, rfl, Tryz.underlying38⟩
end Go.Proofs.YtkjaapomaaakmaaGreat

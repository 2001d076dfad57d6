/-
  Texts in one: DCells, GNew, HRegE, HRegG, MgSgn, GSet, ExSt.
-/
import Derived.Test.YtnbejckdhdbamaaGreatMessageRightQFL
import Derived.Test.YtnbejckdhdbamaaGreatMessageRightQ0
import Derived.Deep.WholeRow
import Derived.Deep.Draws
import Derived.DataElems
import Derived.ArgAppend
import Derived.Deep.Upon
import Derived.Test.YtnbejckdhdbamaaGreatMessageRightQ17
import Derived.Deep.MidRow
namespace Go
structure StopS (p : Prop) : Prop where
 out : p
theorem stop_at {P : Program} {ops : Array Oper} {rest : List Oper} {o : Oper} {a : Act} {w : World} {Q : Exit → Act → World → Prop} (op : Op) (_ : o.op = op) (h : StopS (wpList P ops Q (o :: rest) a w)) : wpList P ops Q (o :: rest) a w := h.out
end Go
namespace Go.Proofs.YtnbejckdhdbamaaGreat
open Go.RowKit
def Arr (w : World) (b : Nat) (t : TypeId) (cs : List Value) : Prop := w.heap[b]? = some (.cells cs.toArray t)
theorem Arr.lt {w : World} {b : Nat} {t : TypeId} {cs : List Value} (h : Arr w b t cs) : b < w.heap.size := (Array.getElem?_eq_some_iff.1 h).1
theorem Arr.cell {w : World} {b : Nat} {t : TypeId} {cs : List Value} (h : Arr w b t cs) (j : Nat) : w.cell? ⟨b, j, none⟩ = cs[j]? := by
 rw [cell_of_row w b j _ _ _ h]; simp
theorem Arr.free {w : World} {b : Nat} {t : TypeId} {cs : List Value} (h : Arr w b t cs) (j : Nat) : w.frozen? ⟨b, j, none⟩ = false := frozen_of_row w b j _ _ h
theorem Arr.grown {w w' : World} {b : Nat} {t : TypeId} {cs : List Value} {row : Option Nat} (h : Arr w b t cs) (hg : w.grownBy w' row) (hne : some b ≠ row) : Arr w' b t cs := (hg.block b h.lt hne).trans h
theorem Arr.below {w w' : World} {b : Nat} {t : TypeId} {cs : List Value} {n : Nat} (h : Arr w b t cs) (hg : Below n w w') (hne : b < n) : Arr w' b t cs := (hg.block b hne).trans h
theorem Arr.set {w : World} {b : Nat} {t : TypeId} {cs : List Value} (h : Arr w b t cs) (j : Nat) (v : Value) : Arr (w.setCell ⟨b, j, none⟩ v) b t (cs.set j v) := by
 unfold Arr
 rw [heap_setCell_same w b j _ t v h]
 simp
theorem bel_grown {w w' : World} (h : Below w.heap.size w w') (row : Option Nat) : w.grownBy w' row := ⟨h.os, h.tape, h.output, h.size, fun k hk _ => h.block k hk⟩
theorem gro_trans {a b c : World} {row : Option Nat} (h : a.grownBy b row) (k : b.grownBy c row) : a.grownBy c row :=
 ⟨k.os.trans h.os, k.tape.trans h.tape, k.output.trans h.output, Nat.le_trans h.size k.size, fun i hi hn => (k.block i (Nat.lt_of_lt_of_le hi h.size) hn).trans (h.block i hi hn)⟩
theorem grown_set {a b : World} {p : Nat} (h : a.grownBy b (some p)) (j : Nat) (v : Value) : a.grownBy (b.setCell ⟨p, j, none⟩ v) (some p) :=
 ⟨h.os, h.tape, h.output, by simpa using h.size, fun i hi hn => (heap_setCell_other b _ i v (fun e => hn (by rw [e]))).trans (h.block i hi hn)⟩
end Go.Proofs.YtnbejckdhdbamaaGreat
namespace Go.Proofs.YtnbejckdhdbamaaGreat
open Go.RowKit
def flatE {α : Type} (E : El α) (l : List α) : List Value := (l.map E.c).flatten
variable {α : Type} {E : El α} {w0 w W W' : World} {base : Nat} {v : Value} {l qs : List α} {t s : TypeId} {bytes : Nat} {z : Value}
theorem flatE_app (E : El α) (l m : List α) : flatE E (l ++ m) = flatE E l ++ flatE E m := by simp [flatE]
theorem flatE_one (F : E.Fine) (l : List α) : ∀ u ∈ flatE E l, u.oneCell' = true := by
 intro u hu
 unfold flatE at hu
 obtain ⟨cs, h1, h2⟩ := List.mem_flatten.1 hu
 obtain ⟨c, -, rfl⟩ := List.mem_map.1 h1
 exact F.one c u h2
theorem flatE_len (F : E.Fine) (l : List α) : (flatE E l).length = l.length * E.sz := flat_len E.c E.sz F.len l
theorem grow_bel {n : Nat} {e : TypeId} {size : Nat} {xs : List Value} (h : W.ownsRow base e size v n xs) (hb : Below W.heap.size W W') : W'.ownsRow base e size v n xs :=
 own_kept h fun g hg => hb.block g (h.lt g hg).2
theorem GL.flat (F : E.Fine) {ao : Option Addr} {n cap : Nat} (h : GL E w ao n cap qs) {a : Addr} (ha : ao = some a) : ∀ j u, (flatE E qs)[j]? = some u → w.cell? (a.add j) = some u := fun j u hu => by
 have hj := (List.getElem?_eq_some_iff.1 hu).1
 rw [flatE_len F] at hj
 have hz := F.pos
 have hq : j / E.sz < qs.length := (Nat.div_lt_iff_lt_mul hz).2 hj
 have ej : j / E.sz * E.sz + j % E.sz = j := by rw [Nat.mul_comm]; exact Nat.div_add_mod j E.sz
 have hg := flat_get E.c E.sz F.len qs (j / E.sz) (j % E.sz) hq (Nat.mod_lt _ hz)
 rw [ej] at hg
 have := h.cell a ha (j / E.sz) hq (j % E.sz) u (hg.symm.trans hu)
 rw [ej] at this
 exact this
structure GNew (E : El α) (t : TypeId) (w0 W : World) (base : Nat) (v : Value) (l : List α) : Prop where
 row : W.ownsRow base t E.sz v l.length (flatE E l)
 ok : ∀ c ∈ l, E.ok c w0
theorem GNew.nil (E : El α) (t : TypeId) (w0 W : World) (base : Nat) : GNew E t w0 W base (.slice none 0 0) [] := ⟨World.ownsRow_nil _ _ _ _, fun _ h => absurd h List.not_mem_nil⟩
theorem GNew.below (h : GNew E t w0 W base v l) (hb : Below W.heap.size W W') : GNew E t w0 W' base v l := ⟨grow_bel h.row hb, h.ok⟩
theorem GNew.slice (h : GNew E t w0 W base v l) : ∃ ao n cap, v = .slice ao n cap := by
 rcases h.row.2 with ⟨rfl, e⟩ | ⟨g, cap, cur, rfl, _⟩
 ·exact ⟨none, 0, 0, rfl⟩
 ·exact ⟨_, _, cap, rfl⟩
theorem GNew.gl (F : E.Fine) (h : GNew E t w0 W base v l) (hb : Below w0.heap.size w0 W) : ∃ ao cap, v = .slice ao l.length cap ∧ GL E W ao l.length cap l ∧ ∀ z, sblk ao l.length z → base ≤ z := by
 have hok : ∀ c ∈ l, E.ok c W := fun c hc => F.kept c w0 W (h.ok c hc) fun z hz => hb.block z (F.lt c w0 z (h.ok c hc) hz)
 rcases h.row.2 with ⟨rfl, e⟩ | ⟨g, cap, cur, rfl, a1, a2, a3, a4, a5, a6⟩
 ·rw [e]
  have : l = [] := List.eq_nil_of_length_eq_zero e
  subst this
  exact ⟨none, 0, rfl, GL.nothing E W, fun z hz => by obtain ⟨a, ha, _⟩ := hz; cases ha⟩
 ·refine ⟨some ⟨g, 0, none⟩, cap, rfl, ⟨rfl, a3, a4, fun h => by simp at h, fun a ha i hi j u hu => ?_, hok⟩, fun z hz => by obtain ⟨a, ha, _, rfl⟩ := hz; cases ha; exact a1⟩
  obtain rfl := Option.some.inj ha
  have hj : j < E.sz := by have := (List.getElem?_eq_some_iff.1 hu).1; rw [F.len] at this; exact this
  refine h.row.cells (g := g) rfl (i * E.sz + j) u ?_
  unfold flatE
  rw [flat_get E.c E.sz F.len l i j hi hj]
  exact hu
def TyAt (W : World) (ao : Option Addr) (t : TypeId) : Prop := ∀ a, ao = some a → ∃ cur, W.heap[a.block]? = some (.cells cur t)
theorem TyAt.below {ao : Option Addr} (h : TyAt W ao t) (hb : Below W.heap.size W W') : TyAt W' ao t := fun a ha => by
 obtain ⟨cur, e⟩ := h a ha
 exact ⟨cur, (hb.block _ (Array.getElem?_eq_some_iff.1 e).1).trans e⟩
theorem GNew.typ (h : GNew E t w0 W base v l) : ∀ ao n cap, v = .slice ao n cap → TyAt W ao t := by
 rcases h.row.2 with ⟨rfl, e⟩ | ⟨g, cap, cur, rfl, a1, a2, _⟩
 ·intro ao n cap e a ha
  simp only [Value.slice.injEq] at e
  rw [← e.1] at ha
  cases ha
 ·intro ao n cap e a ha
  simp only [Value.slice.injEq] at e
  rw [← e.1] at ha
  obtain rfl := Option.some.inj ha
  exact ⟨cur, a2⟩
theorem src_nil {P : Program} {w : World} {t e : TypeId} {i : TypeInfo} {bo : Option Addr} {c : Nat} (ht : P.underlying t = some (.slice e)) : Src P i.size t (.slice bo 0 c) 0 [] w := by
 refine ⟨.inl ⟨e, ht⟩, fun w' => rfl, ?_, ?_, by simp, by simp⟩ <;> cases bo <;> simp [Builtin.firstCells] <;> rfl
theorem run_appGs (F : E.Fine) (hty : GTy E.sz bytes z t s) (ty : TypeId) (h : GNew E t w0 w base v l) (hb : base ≤ w.heap.size) {bo : Option Addr} {m c : Nat} (hx : GL E w bo m c qs) (hok : ∀ q ∈ qs, E.ok q w0) (hn : (l.length + m) * bytes ≤ 140737488355328) (hm : l.length + m ≤ maxLen) :
  ∃ v' w', (Builtin.append_ #[s, s] ty #[v, .slice bo m c]).run Tryz.prog w = .ok v' w' ∧ GNew E t w0 w' base v' (l ++ qs) ∧ Below base w w' := by
 obtain ⟨i0, hi, hz0, hz1, hz2⟩ := info_parts hty.info
 have hlen := hx.len
 have key : ∀ d ∈ l ++ qs, E.ok d w0 := fun d hd => by
  rcases List.mem_append.1 hd with hd | hd
  ·exact h.ok d hd
  ·exact hok d hd
 by_cases h0 : m = 0
 ·subst h0
  obtain rfl : qs = [] := List.eq_nil_of_length_eq_zero hlen
  have hv : ∃ ao cap, v = .slice ao l.length cap ∧ l.length ≤ cap := by
   rcases h.row.2 with ⟨rfl, e⟩ | ⟨g, cap, cur, rfl, hg, hh, hle, _⟩
   ·rw [e]
    exact ⟨none, 0, rfl, Nat.le_refl _⟩
   ·exact ⟨_, cap, rfl, hle⟩
  obtain ⟨ao, cap, rfl, hle⟩ := hv
  refine ⟨_, w, run_append_nothing w s s ty t i0 hty.und hi ao l.length cap hle _ (src_nil hty.und), ⟨?_, key⟩, Below.refl _ _⟩
  simpa using h.row
 ·obtain ⟨ad, rfl⟩ : ∃ ad, bo = some ad := by
   cases bo with
   | none => have := (hx.nil rfl).1; omega
   | some ad => exact ⟨ad, rfl⟩
  obtain ⟨v', w', h1, h2, h3, -⟩ := run_append_own (P := Tryz.prog) w base s ty t i0 _ E.sz bytes hty.und hi hz0 hz1 hz2 hty.zs F.pos v l.length (flatE E l) h.row ad m c (flatE E qs) (by rw [flatE_len F, hlen]) (hx.flat F rfl) (flatE_one F qs) hm hn hb
  refine ⟨v', w', h1, ⟨?_, key⟩, (Below.refl _ w).grown h3 hb (fun k hk => (h.row.lt k hk).1)⟩
  rw [flatE_app, List.length_append, hlen]
  exact h2
theorem run_appG1 (F : E.Fine) (hty : GTy E.sz bytes z t s) (ty : TypeId) (h : GNew E t w0 w base v l) (hb : base ≤ w.heap.size) {ad : Addr} {cp : Nat} {y : α} (hG : ∀ j u, (E.c y)[j]? = some u → w.cell? (ad.add j) = some u) (hok : E.ok y w0) (hn : (l.length + 1) * bytes ≤ 140737488355328) (hm : l.length + 1 ≤ maxLen) :
  ∃ v' w', (Builtin.append_ #[s, s] ty #[v, .slice (some ad) 1 cp]).run Tryz.prog w = .ok v' w' ∧ GNew E t w0 w' base v' (l ++ [y]) ∧ Below base w w' := by
 obtain ⟨i0, hi, hz0, hz1, hz2⟩ := info_parts hty.info
 obtain ⟨v', w', h1, h2, h3, -⟩ := run_append_own (P := Tryz.prog) w base s ty t i0 _ E.sz bytes hty.und hi hz0 hz1 hz2 hty.zs F.pos v l.length (flatE E l) h.row ad 1 cp (E.c y) (by rw [F.len, Nat.one_mul]) hG (F.one y) hm hn hb
 refine ⟨v', w', h1, ⟨?_, fun d hd => ?_⟩, (Below.refl _ w).grown h3 hb (fun k hk => (h.row.lt k hk).1)⟩
 ·have e : flatE E (l ++ [y]) = flatE E l ++ E.c y := by simp [flatE]
  rw [e, List.length_append]
  exact h2
 ·rcases List.mem_append.1 hd with hd | hd
  ·exact h.ok d hd
  ·rw [List.mem_singleton.1 hd]; exact hok
end Go.Proofs.YtnbejckdhdbamaaGreat
namespace Go
open Go.RowKit
def EffRun (P : Program) (o : Oper) (a : Act) (w : World) (R : Value → World → Prop) : Prop :=
 (∃ v w', (execOp a.eval o).run P w = .ok (.value v) w' ∧ R v w') ∨
 (∃ f args, (execOp a.eval o).run P w = .ok (.enter f args) w ∧ Calls P f args w fun e w' => ∃ v, e = .returned v ∧ R v w')
end Go
namespace Go
open Go.RowKit
def setL (L : Array Bool) (is : List Nat) : Array Bool := is.foldl (fun L i => L.setIfInBounds i true) L
theorem setL_size (is : List Nat) : ∀ L : Array Bool, (setL L is).size = L.size := by
 induction is with
 | nil => intro L; rfl
 | cons i is ih => intro L; exact (ih _).trans (by simp)
theorem setL_get (is : List Nat) : ∀ (L : Array Bool) (j : Nat), j < L.size → (setL L is).getD j true = (L.getD j true || is.contains j) := by
 induction is with
 | nil => intro L j _; simp [setL]
 | cons i is ih =>
  intro L j hj
  have h := ih (L.setIfInBounds i true) j (by simpa using hj)
  show (setL (L.setIfInBounds i true) is).getD j true = _
  rw [h]
  by_cases hij : i = j
  ·subst hij
   have : (L.setIfInBounds i true).getD i true = true := by simp [hj]
   rw [this]
   simp
  ·rw [getD_set_ne true hij]
   have : (i :: is).contains j = is.contains j := by
    rw [List.contains_cons, show (j == i) = false by simpa using fun e => hij e.symm, Bool.false_or]
   rw [this]
theorem arr_ext {A B : Array Bool} (hs : A.size = B.size) (h : ∀ j, j < A.size → A.getD j true = B.getD j true) : A = B := by
 refine Array.ext hs fun j h1 h2 => ?_
 have := h j h1
 simpa [h1, h2] using this
def depOk (ops : Array Oper) (L : Array Bool) (i : Nat) : Bool := ((ops[i]?).map (·.after.all fun e => !Region.binds .any e || L.getD e.on false)).getD false
theorem depOk_of {ops : Array Oper} {L : Array Bool} {i : Nat} {o : Oper} (ho : ops[i]? = some o) (h : ∀ e ∈ o.after, Region.binds .any e = true → L.getD e.on false = true) : depOk ops L i = true := by
 simp only [depOk, ho, Option.map_some, Option.getD_some]
 refine Array.all_eq_true_iff_forall_mem.2 fun e he => ?_
 by_cases hb : Region.binds .any e = true
 ·rw [h e he hb, Bool.or_true]
 ·simp [hb]
theorem getD_set_on {L : Array Bool} {i j : Nat} (h : L.getD j false = true) : (L.setIfInBounds i true).getD j false = true := by
 by_cases hij : i = j
 ·subst hij
  by_cases hlt : i < L.size
  ·simp [hlt]
  ·simp [hlt] at h
 ·simp only [Array.getD_eq_getD_getElem?] at h ⊢
  rw [Array.getElem?_setIfInBounds_ne hij]
  exact h
theorem depOk_set {ops : Array Oper} {L : Array Bool} {i j : Nat} (h : depOk ops L i = true) : depOk ops (L.setIfInBounds j true) i = true := by
 cases ho : ops[i]? with
 | none => simp [depOk, ho] at h
 | some o =>
  refine depOk_of ho fun e he hb => ?_
  simp only [depOk, ho, Option.map_some, Option.getD_some] at h
  have := Array.all_eq_true_iff_forall_mem.1 h e he
  rw [hb, Bool.not_true, Bool.false_or] at this
  exact getD_set_on this
def effChk (ops : Array Oper) (all : List Nat) : List Nat → Array Bool → Bool → Bool
 | [], L, sk => !sk || !(all.all fun i => !L.getD i true || depOk ops L i) || (!(Region.ready .any ops L).isEmpty && (Region.ready .any ops L).all fun j => all.contains j)
 | i :: is, L, sk => effChk ops all is (L.setIfInBounds i true) sk && effChk ops all is L true
theorem effChk_spec {ops : Array Oper} {all : List Nat} (c : Nat → Bool) : ∀ (is : List Nat) (L : Array Bool) (sk : Bool), effChk ops all is L sk = true → (sk = true ∨ ∃ i ∈ is, c i = false) → (∀ i ∈ all, (setL L (is.filter c)).getD i true = true → depOk ops (setL L (is.filter c)) i = true) →
  Region.ready .any ops (setL L (is.filter c)) ≠ [] ∧ ∀ j ∈ Region.ready .any ops (setL L (is.filter c)), j ∈ all
 | [], L, sk, h, hs, hcl => by
  rcases hs with rfl | ⟨i, hi, _⟩
  ·have hcl' : (all.all fun i => !L.getD i true || depOk ops L i) = true := List.all_eq_true.2 fun i hi => by
    by_cases hL : L.getD i true = true
    ·have := hcl i hi hL
     have h2 : depOk ops L i = true := this
     rw [h2, Bool.or_true]
    ·have h2 : L.getD i true = false := by simpa using hL
     rw [h2]
     rfl
   simp only [effChk, hcl', Bool.not_true, Bool.false_or, Bool.and_eq_true] at h
   refine ⟨fun e => ?_, fun j hj => ?_⟩
   ·have : Region.ready .any ops L = [] := e
    rw [this] at h
    simp at h
   ·have := List.all_eq_true.1 h.2 j hj
    simpa using this
  ·simp at hi
 | i :: is, L, sk, h, hs, hcl => by
  simp only [effChk, Bool.and_eq_true] at h
  by_cases hc : c i = true
  ·rw [List.filter_cons, if_pos hc] at hcl ⊢
   refine effChk_spec c is (L.setIfInBounds i true) sk h.1 ?_ hcl
   rcases hs with hs | ⟨j, hj, hf⟩
   ·exact .inl hs
   ·rcases List.mem_cons.1 hj with rfl | hj
    ·rw [hc] at hf; simp at hf
    ·exact .inr ⟨j, hj, hf⟩
  ·rw [List.filter_cons, if_neg hc] at hcl ⊢
   exact effChk_spec c is L true h.2 (.inl rfl) hcl
def unC (c : Nat → Bool) : List Nat → Nat
 | [] => 0
 | i :: is => unC c is + (if c i then 0 else 1)
theorem unC_same {c d : Nat → Bool} : ∀ (is : List Nat), (∀ i ∈ is, c i = d i) → unC c is = unC d is
 | [], _ => rfl
 | i :: is, h => by rw [unC, unC, unC_same is (fun j hj => h j (List.mem_cons_of_mem _ hj)), h i (List.mem_cons_self ..)]
theorem unC_set {c : Nat → Bool} {i : Nat} (hc : c i = false) : ∀ (is : List Nat), is.Nodup → i ∈ is → unC c is = unC (fun j => c j || j == i) is + 1
 | [], _, h => by simp at h
 | j :: is, hn, h => by
  have hn' := List.nodup_cons.1 hn
  rw [unC, unC]
  by_cases hji : j = i
  ·subst hji
   have := unC_same (c := c) (d := fun k => c k || k == j) is (fun k hk => by
    have hne : k ≠ j := fun e => hn'.1 (e ▸ hk)
    have : (k == j) = false := by simpa using hne
    simp [this])
   rw [← this, hc]
   simp
  ·have hi : i ∈ is := by
    rcases List.mem_cons.1 h with h | h
    ·exact absurd h.symm hji
    ·exact h
   have ih := unC_set hc is hn'.2 hi
   have : (j == i) = false := by simpa using hji
   rw [ih]
   simp only [this, Bool.or_false]
   omega
theorem unC_zero {c : Nat → Bool} : ∀ (is : List Nat), unC c is = 0 → ∀ i ∈ is, c i = true
 | [], _, i, h => by simp at h
 | j :: is, h0, i, h => by
  rw [unC] at h0
  rcases List.mem_cons.1 h with rfl | h
  ·by_cases hc : c i = true
   ·exact hc
   ·rw [if_neg hc] at h0; omega
  ·exact unC_zero is (by omega) i h
theorem unC_none : ∀ (is : List Nat), unC (fun _ => false) is = is.length
 | [] => rfl
 | i :: is => by rw [unC, unC_none is]; simp
def putL (a : Act) (f : Nat → Value) (ids : List (Nat × Nat)) : Act := ids.foldl (fun a p => a.put (some p.2) (f p.1)) a
theorem putL_size (f : Nat → Value) (ids : List (Nat × Nat)) : ∀ a : Act, (putL a f ids).tmps.size = a.tmps.size := by
 induction ids with
 | nil => intro a; rfl
 | cons p ids ih => intro a; exact (ih _).trans (by simp [Act.put])
theorem putL_defers (f : Nat → Value) (ids : List (Nat × Nat)) : ∀ a : Act, (putL a f ids).defers = a.defers := by
 induction ids with
 | nil => intro a; rfl
 | cons p ids ih => intro a; exact (ih _).trans rfl
theorem putL_other (f : Nat → Value) (k : Nat) (ids : List (Nat × Nat)) : ∀ a : Act, (∀ p ∈ ids, p.2 ≠ k) → (putL a f ids).tmps[k]? = a.tmps[k]? := by
 induction ids with
 | nil => intro a _; rfl
 | cons p ids ih =>
  intro a h
  have h1 := ih (a.put (some p.2) (f p.1)) (fun q hq => h q (List.mem_cons_of_mem _ hq))
  refine h1.trans ?_
  have hne := h p (List.mem_cons_self ..)
  simp [Act.put, Array.getElem?_setIfInBounds_ne hne]
theorem putL_at (f : Nat → Value) : ∀ (ids : List (Nat × Nat)) (a : Act), (ids.map (·.2)).Nodup → ∀ p ∈ ids, p.2 < a.tmps.size → (putL a f ids).tmps[p.2]? = some (f p.1)
 | [], a, _, p, h, _ => by simp at h
 | q :: ids, a, hn, p, h, hlt => by
  have hn' := List.nodup_cons.1 hn
  rcases List.mem_cons.1 h with rfl | h
  ·have h1 := putL_other f p.2 ids (a.put (some p.2) (f p.1)) (fun q hq e => hn'.1 (List.mem_map.2 ⟨q, hq, e⟩))
   refine h1.trans ?_
   simp [Act.put, hlt]
  ·exact putL_at f ids (a.put (some q.2) (f q.1)) hn'.2 p h (by simpa [Act.put] using hlt)
def effTo (ops : Array Oper) (L0 : Array Bool) (ids : List (Nat × Nat)) (n : Nat) : Bool :=
 ids.all (fun p => decide (p.2 < n) && !L0.getD p.1 true && (match ops[p.1]? with | some o => o.dst == some p.2 && o.guard.isNone | none => false)) &&
 effChk ops (ids.map (·.1)) (ids.map (·.1)) L0 false && decide (L0.size = ops.size)
def EffGot (ids : List (Nat × Nat)) (F : Nat → Value → World → Prop) (a : Act) (w : World) (j : Nat) : Prop := ∀ p ∈ ids, p.1 = j → ∃ v, a.tmps[p.2]? = some v ∧ F j v w
structure EffKeep (ids : List (Nat × Nat)) (a0 a : Act) : Prop where
 defers : a.defers = a0.defers
 size : a.tmps.size = a0.tmps.size
 same : ∀ k, (∀ p ∈ ids, p.2 ≠ k) → a.tmps[k]? = a0.tmps[k]?
theorem EffKeep.get {ids : List (Nat × Nat)} {a0 a : Act} (h : EffKeep ids a0 a) (k : Nat) {v : Value} (hk : ids.all (fun p => p.2 != k) = true) (h0 : a0.tmps[k]? = some v) : a.tmps[k]? = some v := by
 rw [h.same k (fun p hp => by simpa using List.all_eq_true.1 hk p hp)]
 exact h0
theorem EffGot.at {ids : List (Nat × Nat)} {F : Nat → Value → World → Prop} {a : Act} {w : World} {j : Nat} (h : EffGot ids F a w j) (d : Nat) (hd : ids.contains (j, d) = true) : ∃ v, a.tmps[d]? = some v ∧ F j v w :=
 h (j, d) (by simpa using hd) rfl
theorem wpAnyH_effto {P : Program} {ops : Array Oper} {S : World → Prop} {Q : Exit → Act → World → Prop} {a0 : Act} {W0 : World} {L0 : Array Bool} (m : Nat) (F : Nat → Value → World → Prop) (ids : List (Nat × Nat)) (n : Nat)
  (hok : effTo ops L0 ids n = true) (hn1 : (ids.map (·.1)).Nodup) (hn2 : (ids.map (·.2)).Nodup) (hn : n = a0.tmps.size)
  (mono : ∀ i v w w', F i v w → Below w.heap.size w w' → F i v w')
  (hS : ∀ w, Below W0.heap.size W0 w → S w)
  (step : ∀ p ∈ ids, ∀ o a w, ops[p.1]? = some o → EffKeep ids a0 a → Below W0.heap.size W0 w → (∀ j, o.after.any (fun e => Region.binds .any e && e.on == j) = true → EffGot ids F a w j) → EffRun P o a w (fun v w' => F p.1 v w' ∧ Below w.heap.size w w'))
  (fin : ∀ (f : Nat → Value) w, Below W0.heap.size W0 w → (∀ p ∈ ids, F p.1 (f p.1) w) → wpAnyH P .any ops (NoPanic Q) S m (setL L0 (ids.map (·.1))) (putL a0 f ids) w) :
  wpAnyH P .any ops (NoPanic Q) S (ids.length + m) L0 a0 W0 := by
 simp only [effTo, Bool.and_eq_true, decide_eq_true_eq] at hok
 obtain ⟨⟨hok1, hok2⟩, hLs⟩ := hok
 have hat : ∀ p ∈ ids, p.2 < a0.tmps.size ∧ L0.getD p.1 true = false ∧ ∃ o, ops[p.1]? = some o ∧ o.dst = some p.2 ∧ o.guard = none := fun p hp => by
  have h := List.all_eq_true.1 hok1 p hp
  simp only [Bool.and_eq_true, decide_eq_true_eq, Bool.not_eq_true'] at h
  obtain ⟨⟨h1, h2⟩, h3⟩ := h
  refine ⟨hn ▸ h1, h2, ?_⟩
  cases ho : ops[p.1]? with
  | none => rw [ho] at h3; simp at h3
  | some o =>
   rw [ho] at h3
   simp only [Bool.and_eq_true, beq_iff_eq] at h3
   exact ⟨o, rfl, h3.1, Option.isNone_iff_eq_none.1 h3.2⟩
 have main : ∀ (k : Nat) (c : Nat → Bool) (a : Act) (w : World), unC c (ids.map (·.1)) = k → EffKeep ids a0 a → Below W0.heap.size W0 w → (∀ p ∈ ids, c p.1 = true → ∃ v, a.tmps[p.2]? = some v ∧ F p.1 v w) →
   (∀ i ∈ ids.map (·.1), (setL L0 ((ids.map (·.1)).filter c)).getD i true = true → depOk ops (setL L0 ((ids.map (·.1)).filter c)) i = true) →
   wpAnyH P .any ops (NoPanic Q) S (k + m) (setL L0 ((ids.map (·.1)).filter c)) a w := by
  intro k
  induction k with
  | zero =>
   intro c a w hu hs hb hh _
   have hz := unC_zero _ hu
   have hall : ∀ p ∈ ids, ∃ v, a.tmps[p.2]? = some v ∧ F p.1 v w := fun p hp => hh p hp (hz p.1 (List.mem_map_of_mem hp))
   have hLeq : setL L0 ((ids.map (·.1)).filter c) = setL L0 (ids.map (·.1)) := by rw [List.filter_eq_self.2 hz]
   obtain ⟨f, hf⟩ : ∃ f : Nat → Value, ∀ p ∈ ids, a.tmps[p.2]? = some (f p.1) ∧ F p.1 (f p.1) w := by
    have hch : ∀ j, ∃ v, ∀ p ∈ ids, p.1 = j → a.tmps[p.2]? = some v ∧ F p.1 v w := fun j => by
     by_cases hj : ∃ p ∈ ids, p.1 = j
     ·obtain ⟨p, hp, rfl⟩ := hj
      obtain ⟨v, h1, h2⟩ := hall p hp
      refine ⟨v, fun q hq e => ?_⟩
      obtain ⟨-, -, o, ho, hd, -⟩ := hat p hp
      obtain ⟨-, -, o', ho', hd', -⟩ := hat q hq
      rw [e, ho] at ho'
      obtain rfl := Option.some.inj ho'
      have : p.2 = q.2 := Option.some.inj (hd.symm.trans hd')
      rw [← this, e]
      exact ⟨h1, h2⟩
     ·exact ⟨undef, fun q hq e => absurd ⟨q, hq, e⟩ hj⟩
    exact ⟨fun j => Classical.choose (hch j), fun p hp => Classical.choose_spec (hch p.1) p hp rfl⟩
   have ha : a = putL a0 f ids := by
    have ht : a.tmps = (putL a0 f ids).tmps := by
     refine Array.ext (by rw [putL_size]; exact hs.size) fun j h1 h2 => ?_
     have : a.tmps[j]? = (putL a0 f ids).tmps[j]? := by
      by_cases hj : ∃ p ∈ ids, p.2 = j
      ·obtain ⟨p, hp, rfl⟩ := hj
       rw [(hf p hp).1, putL_at f ids a0 hn2 p hp (hat p hp).1]
      ·have hj' : ∀ p ∈ ids, p.2 ≠ j := fun p hp e => hj ⟨p, hp, e⟩
       rw [hs.same j hj', putL_other f j ids a0 hj']
     simpa [h1, h2] using this
    have hd : a.defers = (putL a0 f ids).defers := by rw [putL_defers]; exact hs.defers
    cases a
    cases hp : putL a0 f ids
    rw [hp] at ht hd
    simp only at ht hd
    rw [ht, hd]
   rw [hLeq, ha, Nat.zero_add]
   exact fin f w hb (fun p hp => (hf p hp).2)
  | succ k ih =>
   intro c a w hu hs hb hh hcl
   have hex : ∃ i ∈ ids.map (·.1), c i = false := by
    by_cases h : ∃ i ∈ ids.map (·.1), c i = false
    ·exact h
    ·exfalso
     have hz : ∀ i ∈ ids.map (·.1), c i = true := fun i hi => by
      by_cases hc : c i = true
      ·exact hc
      ·exact absurd ⟨i, hi, by simpa using hc⟩ h
     have : unC c (ids.map (·.1)) = unC (fun _ => true) (ids.map (·.1)) := unC_same _ (fun i hi => hz i hi)
     have h0 : ∀ l : List Nat, unC (fun _ => true) l = 0 := fun l => by
      induction l with
      | nil => rfl
      | cons x l ih => rw [unC, ih]; rfl
     rw [hu, h0] at this
     omega
   obtain ⟨hne, hsub⟩ := effChk_spec (ops := ops) (all := ids.map (·.1)) c (ids.map (·.1)) L0 false hok2 (.inr hex) hcl
   have hsz : (setL L0 ((ids.map (·.1)).filter c)).size = ops.size := by rw [setL_size]; exact hLs
   rw [show k + 1 + m = (k + m) + 1 by omega]
   refine ⟨fun h => absurd h hne, fun i hi => ?_⟩
   obtain ⟨p, hp, rfl⟩ := List.mem_map.1 (hsub i hi)
   obtain ⟨h1, o, ho, hdep⟩ := mem_ready.1 hi
   obtain ⟨hdl, hL0, o', ho', hdo, hg⟩ := hat p hp
   rw [ho] at ho'
   obtain rfl := Option.some.inj ho'
   have hlt := (Array.getElem?_eq_some_iff.1 ho).1
   have hci : c p.1 = false := by
    by_cases hc : c p.1 = true
    ·exfalso
     rw [setL_get _ _ _ (by omega)] at h1
     have : ((ids.map (·.1)).filter c).contains p.1 = true := by
      simpa using ⟨⟨p.2, hp⟩, hc⟩
     rw [this] at h1
     simp at h1
    ·simpa using hc
   have hw : Region.wanted o (yielded ops a.tmps) = true := by simp [Region.wanted, hg]
   have hrun := step p hp o a w ho hs hb (fun j hj q hq hqj => by
    obtain ⟨e, hem, hbj⟩ := Array.any_eq_true'.1 hj
    simp only [Bool.and_eq_true, beq_iff_eq] at hbj
    obtain ⟨hbi, rfl⟩ := hbj
    have h2 := hdep e hem hbi
    obtain ⟨-, hq0, oq, hoq, -⟩ := hat q hq
    have hqlt := (Array.getElem?_eq_some_iff.1 hoq).1
    have h4 : (setL L0 ((ids.map (·.1)).filter c)).getD q.1 true = true := by
     rw [hqj]
     have : e.on < (setL L0 ((ids.map (·.1)).filter c)).size := by rw [hsz, ← hqj]; exact hqlt
     simpa [this] using h2
    rw [setL_get _ _ _ (by omega), hq0, Bool.false_or] at h4
    have h5 : c q.1 = true := by
     have h6 : q.1 ∈ (ids.map (·.1)).filter c := by simpa using h4
     exact (List.mem_filter.1 h6).2
    have := hh q hq h5
    rw [hqj] at this
    exact this)
   have next : ∀ v w', F p.1 v w' ∧ Below w.heap.size w w' → S w' ∧ wpAnyH P .any ops (NoPanic Q) S (k + m) ((setL L0 ((ids.map (·.1)).filter c)).setIfInBounds p.1 true) (a.put (some p.2) v) w' := by
    rintro v w' ⟨hF, hb'⟩
    have hbw := hb.trans (hb'.mono hb.size)
    have htm : (a.put (some p.2) v).tmps = a.tmps.setIfInBounds p.2 v := rfl
    refine ⟨hS w' hbw, ?_⟩
    have hLq : (setL L0 ((ids.map (·.1)).filter c)).setIfInBounds p.1 true = setL L0 ((ids.map (·.1)).filter fun j => c j || j == p.1) := by
     refine arr_ext (by simp [setL_size]) fun j hj => ?_
     have hj' : j < L0.size := by simpa [setL_size] using hj
     rw [setL_get _ _ _ hj']
     by_cases hji : p.1 = j
     ·subst hji
      have h7 : ((setL L0 ((ids.map (·.1)).filter c)).setIfInBounds p.1 true).getD p.1 true = true := by
       have : p.1 < (setL L0 ((ids.map (·.1)).filter c)).size := by rw [setL_size]; exact hj'
       simp [this]
      have h8 : ((ids.map (·.1)).filter fun j => c j || j == p.1).contains p.1 = true := by
       rw [List.contains_iff_mem]
       exact List.mem_filter.2 ⟨List.mem_map_of_mem hp, by simp⟩
      rw [h7, h8]
      simp
     ·rw [getD_set_ne true hji, setL_get _ _ _ hj']
      congr 1
      have hbe : (j == p.1) = false := by simpa using fun e => hji e.symm
      rw [Bool.eq_iff_iff, List.contains_iff_mem, List.contains_iff_mem, List.mem_filter, List.mem_filter, hbe, Bool.or_false]
    rw [hLq]
    refine ih _ _ _ ?_ ⟨hs.defers, by rw [htm, Array.size_setIfInBounds]; exact hs.size, fun q hq => ?_⟩ hbw (fun q hq hcq => ?_) ?_
    ·have := unC_set hci (ids.map (·.1)) hn1 (List.mem_map_of_mem hp)
     omega
    ·rw [htm, Array.getElem?_setIfInBounds_ne (hq p hp)]
     exact hs.same q hq
    ·by_cases hqp : q.1 = p.1
     ·have h9 : q.2 = p.2 := by
       obtain ⟨-, -, oq, hoq, hdq, -⟩ := hat q hq
       rw [hqp, ho] at hoq
       obtain rfl := Option.some.inj hoq
       exact Option.some.inj (hdq.symm.trans hdo)
      rw [hqp, h9]
      refine ⟨v, ?_, hF⟩
      rw [htm, Array.getElem?_setIfInBounds_self_of_lt (by rw [hs.size]; exact hdl)]
     ·have hbe : (q.1 == p.1) = false := by simpa using hqp
      have hcq' : c q.1 = true := by simpa [hbe] using hcq
      obtain ⟨v', h1', h2'⟩ := hh q hq hcq'
      refine ⟨v', ?_, mono _ _ _ _ h2' hb'⟩
      have hne : p.2 ≠ q.2 := fun e => hqp (by
       have hinj : ∀ (l : List (Nat × Nat)), (l.map (·.2)).Nodup → ∀ x ∈ l, ∀ y ∈ l, x.2 = y.2 → x = y := by
        intro l
        induction l with
        | nil => intro _ x hx; simp at hx
        | cons z l ihl =>
         intro hnd x hx y hy exy
         have hnd' := List.nodup_cons.1 hnd
         rcases List.mem_cons.1 hx with rfl | hxl
         ·rcases List.mem_cons.1 hy with rfl | hyl
          ·rfl
          ·exact absurd (List.mem_map.2 ⟨y, hyl, exy.symm⟩) hnd'.1
         ·rcases List.mem_cons.1 hy with rfl | hyl
          ·exact absurd (List.mem_map.2 ⟨x, hxl, exy⟩) hnd'.1
          ·exact ihl hnd'.2 x hxl y hyl exy
       rw [hinj ids hn2 q hq p hp e.symm])
      rw [htm, Array.getElem?_setIfInBounds_ne hne]
      exact h1'
    ·rw [← hLq]
     intro i hi hiL
     by_cases hip : p.1 = i
     ·subst hip
      exact depOk_set (depOk_of ho hdep)
     ·rw [getD_set_ne true hip] at hiL
      exact depOk_set (hcl i hi hiL)
   rcases hrun with ⟨v, w', hr, hR⟩ | ⟨f, args, hr, hc⟩
   ·unfold wpOp
    simp only [ho, hw, if_true, Oper.wp, hr, Oper.upon, hdo]
    exact .inl (next v w' hR)
   ·unfold wpOp
    simp only [ho, hw, if_true, Oper.wp, hr, Oper.upon, hdo]
    refine .inl (hc.mono ?_)
    rintro e w' ⟨v, rfl, hR⟩
    exact next v w' hR
 have h := main (ids.length) (fun _ => false) a0 W0 (by rw [unC_none]; simp) ⟨rfl, rfl, fun _ _ => rfl⟩ (Below.refl _ _) (fun p hp h => by simp at h) (fun i hi hL => by
  exfalso
  obtain ⟨p, hp, rfl⟩ := List.mem_map.1 hi
  rw [List.filter_eq_nil_iff.2 (by simp)] at hL
  have := (hat p hp).2.1
  have h2 : L0.getD p.1 true = true := hL
  rw [this] at h2
  simp at h2)
 have he : setL L0 ((ids.map (·.1)).filter fun _ => false) = L0 := by
  rw [List.filter_eq_nil_iff.2 (by simp)]
  rfl
 rw [he] at h
 exact h
end Go
namespace Go.Proofs.YtnbejckdhdbamaaGreat
open Go.RowKit
theorem osigns_ty : GTy elS.sz 56 (.agg #[.int .u64 0, .slice none 0 0, .slice none 0 0]) 112 38 := ⟨by kernel_rfl, rfl, Tryz.underlying38⟩
set_option maxHeartbeats 8000000 in
set_option maxRecDepth 100000 in
theorem osigns_typed (w : World) (ao : Option Addr) (n cap : Nat) (l : List SA) (L : GL elS w ao n cap l) (hn : n ≤ 1000) :
  Calls Tryz.prog 19 #[.slice ao n cap] w fun e w' => ∃ ro rc, e = .returned (.slice ro n rc) ∧ GL elS w' ro n rc l ∧ (∀ z, sblk ro n z → w.heap.size ≤ z) ∧ TyAt w' ro 112 ∧ Below w.heap.size w w' := by
 have hl1 := Nat.le_of_eq L.len
 have hl2 := Nat.le_of_eq L.len.symm
 have HOK : Hid (∀ x ∈ l, elS.ok x w) := L.ok
 go_enter Tryz.func19, Tryz.ntmps19
 go_wp2
 go_loopw [3, 4] (fun v' i wr => ∃ (k : Nat) (v : Value), k ≤ n ∧ i = .int .i64 k ∧ v = v' ∧ GNew elS 112 w wr w.heap.size v (l.take k) ∧ Below w.heap.size w wr) (fun _ i _ => n - (intOf i).toNat)
 case atStart => exact ⟨0, _, Nat.zero_le _, rfl, rfl, GNew.nil _ _ _ _ _, Below.refl _ _⟩
 case round =>
  obtain ⟨k, v, hk, rfl, rfl, GR, B⟩ := hrel
  have hsz := B.size
  by_cases hlt : k < n
  ·have hki : (k : Int) < (n : Int) := by omega
   have hkl : k < l.length := by omega
   obtain ⟨b, off, ea, hc⟩ := L.atS (by omega)
   have X := hc k hkl
   subst ea
   have HTK : Hid (l.take (k + 1) = l.take k ++ [l[k]]) := List.take_succ_eq_append_getElem hkl
   have uok := HOK.out _ (List.getElem_mem hkl)
   obtain ⟨u, hu⟩ : ∃ u, u = l[k] := ⟨_, rfl⟩
   rw [← hu] at X HTK uok
   clear hu hc
   have HS2 : Hid (∀ V, Below w.heap.size w V → V.cell? ⟨b, off + k * 3, none⟩ = some (.int .u64 (u.fr : Nat)) ∧ V.cell? ⟨b, off + k * 3 + 1, none⟩ = some (.slice u.b.ao u.b.n u.b.cap) ∧ V.cell? ⟨b, off + k * 3 + 2, none⟩ = some (.slice u.tag.ao u.tag.n u.tag.cap)) := fun V hV => ⟨(X.below hV).c0, (X.below hV).c1, (X.below hV).c2⟩
   obtain ⟨x0, x1, x2⟩ := HS2.out wr B
   clear X
   go_wp2_with fail
   have tHS : Hid (∀ V, Below wr.heap.size wr V → V.cell? ⟨b, off + k * 3, none⟩ = some (.int .u64 (u.fr : Nat)) ∧ V.cell? ⟨b, off + k * 3 + 1, none⟩ = some (.slice u.b.ao u.b.n u.b.cap) ∧ V.cell? ⟨b, off + k * 3 + 2, none⟩ = some (.slice u.tag.ao u.tag.n u.tag.cap)) := fun V hV => ⟨(hV.cell (World.block_lt_of_cell? _ _ x0)).trans x0, (hV.cell (World.block_lt_of_cell? _ _ x1)).trans x1, (hV.cell (World.block_lt_of_cell? _ _ x2)).trans x2⟩
   refine zB (by kernel_rfl) tHS.out fun tv0 tE0 tH0 => ?_
   refine zT 0 (some 11) (v) rfl rfl (by kernel_rfl) rfl (fun W ⟨h0, h1, h2⟩ => by go_simp) tH0 ?_
   simp only [FL]
   refine zT 1 (some 12) (.slice (some ⟨b, off, none⟩) n cap) rfl rfl (by kernel_rfl) rfl (fun W ⟨h0, h1, h2⟩ => by go_simp) tH0 ?_
   simp only [FL]
   refine zT 2 (some 13) (.int .i64 (k : Nat)) rfl rfl (by kernel_rfl) rfl (fun W ⟨h0, h1, h2⟩ => by go_simp) tH0 ?_
   simp only [FL]
   refine zT 3 (some 14) (.pointer (some ⟨b, off + k * 3, none⟩)) rfl rfl (by kernel_rfl) rfl (fun W ⟨h0, h1, h2⟩ => by go_simp) tH0 ?_
   simp only [FL]
   refine zT 4 (some 15) (.pointer (some ⟨b, off + k * 3, none⟩)) rfl rfl (by kernel_rfl) rfl (fun W ⟨h0, h1, h2⟩ => by go_simp) tH0 ?_
   simp only [FL]
   refine zT 5 (some 16) (.int .u64 (u.fr : Nat)) rfl rfl (by kernel_rfl) rfl (fun W ⟨h0, h1, h2⟩ => by go_simp) tH0 ?_
   simp only [FL]
   refine zT 6 (some 17) (.slice (some ⟨b, off, none⟩) n cap) rfl rfl (by kernel_rfl) rfl (fun W ⟨h0, h1, h2⟩ => by go_simp) tH0 ?_
   simp only [FL]
   refine zT 7 (some 18) (.int .i64 (k : Nat)) rfl rfl (by kernel_rfl) rfl (fun W ⟨h0, h1, h2⟩ => by go_simp) tH0 ?_
   simp only [FL]
   refine zT 8 (some 19) (.pointer (some ⟨b, off + k * 3, none⟩)) rfl rfl (by kernel_rfl) rfl (fun W ⟨h0, h1, h2⟩ => by go_simp) tH0 ?_
   simp only [FL]
   refine zT 9 (some 20) (.pointer (some ⟨b, off + k * 3 + 1, none⟩)) rfl rfl (by kernel_rfl) rfl (fun W ⟨h0, h1, h2⟩ => by go_simp) tH0 ?_
   simp only [FL]
   refine zT 10 (some 21) (.slice u.b.ao u.b.n u.b.cap) rfl rfl (by kernel_rfl) rfl (fun W ⟨h0, h1, h2⟩ => by go_simp) tH0 ?_
   simp only [FL]
   refine zT 11 (some 22) (.slice (some ⟨b, off, none⟩) n cap) rfl rfl (by kernel_rfl) rfl (fun W ⟨h0, h1, h2⟩ => by go_simp) tH0 ?_
   simp only [FL]
   refine zT 12 (some 23) (.int .i64 (k : Nat)) rfl rfl (by kernel_rfl) rfl (fun W ⟨h0, h1, h2⟩ => by go_simp) tH0 ?_
   simp only [FL]
   refine zT 13 (some 24) (.pointer (some ⟨b, off + k * 3, none⟩)) rfl rfl (by kernel_rfl) rfl (fun W ⟨h0, h1, h2⟩ => by go_simp) tH0 ?_
   simp only [FL]
   refine zT 14 (some 25) (.pointer (some ⟨b, off + k * 3 + 2, none⟩)) rfl rfl (by kernel_rfl) rfl (fun W ⟨h0, h1, h2⟩ => by go_simp) tH0 ?_
   simp only [FL]
   refine zT 15 (some 26) (.slice u.tag.ao u.tag.n u.tag.cap) rfl rfl (by kernel_rfl) rfl (fun W ⟨h0, h1, h2⟩ => by go_simp) tH0 ?_
   simp only [FL]
   refine zT 16 (some 27) (.agg #[.int .u64 (u.fr : Nat), .slice u.b.ao u.b.n u.b.cap, .slice u.tag.ao u.tag.n u.tag.cap]) rfl rfl (by kernel_rfl) rfl (fun W ⟨h0, h1, h2⟩ => by go_simp) tH0 ?_
   simp only [FL]
   refine hr_ex 17 (some 28) rfl rfl (by kernel_rfl) rfl (R := fun v w' => ∃ g, v = .slice (some ⟨g, 0, none⟩) 1 1 ∧ Arr w' g 112 [.int .u64 (u.fr : Nat), .slice u.b.ao u.b.n u.b.cap, .slice u.tag.ao u.tag.n u.tag.cap] ∧ Below tv0.heap.size tv0 w') (⟨_, _, by go_simp, _, rfl, heap_alloc_new tv0 _, (Below.refl _ _).alloc (Nat.le_refl _) _⟩) ?_
   rintro v tv1 ⟨gc, rfl, A8, tC0⟩
   have tE1 := tE0.trans (tC0.mono tE0.size)
   have tH1 := tHS.out tv1 tE1
   have N1 := (GR.below tE0).below tC0
   refine ⟨tH1, ?_⟩
   simp only [FL]
   refine hr_ex 18 (some 29) rfl rfl (by kernel_rfl) rfl (R := fun v w' => ∃ r1 n1 c1, v = .slice r1 n1 c1 ∧ GNew elS 112 w w' w.heap.size (.slice r1 n1 c1) (l.take k ++ [u]) ∧ Below w.heap.size tv1 w') (by obtain ⟨v', w', hr, h3, h4⟩ := run_appG1 elS_fine osigns_ty 38 N1 (Nat.le_trans hsz tE1.size) (ad := ⟨gc, 0, none⟩) (cp := 1) (y := u) (fun j q hq => by rw [Addr.add_lit, Nat.zero_add, Arr.cell A8]; exact hq) uok (by rw [List.length_take]; omega) (by rw [List.length_take]; unfold maxLen; omega); obtain ⟨r1, n1, c1, rfl⟩ := h3.slice; exact ⟨_, w', by simp [execOp, Act.eval, resolve, invoke, builtin, hr], _, _, _, rfl, h3, h4⟩) ?_
   rintro v tv2 ⟨r1, n1, c1, rfl, N5, tC1⟩
   have tF2 := (B.trans (tE1.mono B.size)).trans tC1
   have tH2 := HS2.out tv2 tF2
   refine ⟨tH2, ?_⟩
   simp only [FL]
   refine zT 19 (some 3) (.slice r1 n1 c1) rfl rfl (by kernel_rfl) rfl (fun W ⟨h0, h1, h2⟩ => by go_simp) tH2 ?_
   simp only [FL]
   refine wpAnyH_done (by kernel_rfl) ?_ _
   refine NoPanic.normal ?_
   go_wp2
   go_roundw
   case rel => exact ⟨k + 1, _, by omega, by go_num, rfl, by rw [HTK.out]; exact N5, tF2⟩
   case measure => simp [intOf]; omega
  ·have hge : ¬ (k : Int) < (n : Int) := by omega
   have HT : Hid (l.take k = l) := List.take_of_length_le (by omega)
   rw [HT.out] at GR
   have HTY := GR.typ
   obtain ⟨ro, rc, rfl, G2, far⟩ := GR.gl elS_fine B
   have hty := HTY ro _ rc rfl
   have hln : l.length = n := by omega
   rw [hln] at G2 far ⊢
   clear GR HTY
   go_wp2
   go_ret
   exact ⟨ro, rc, rfl, G2, far, hty, B⟩
theorem osigns_any (w : World) (ao : Option Addr) (n cap : Nat) (l : List SA) (L : GL elS w ao n cap l) (hn : n ≤ 1000) :
  Calls Tryz.prog 19 #[.slice ao n cap] w fun e w' => ∃ ro rc, e = .returned (.slice ro n rc) ∧ GL elS w' ro n rc l ∧ (∀ z, sblk ro n z → w.heap.size ≤ z) ∧ Below w.heap.size w w' := by
 refine (osigns_typed w ao n cap l L hn).mono ?_
 rintro e w' ⟨ro, rc, rfl, G, far, _, B⟩
 exact ⟨ro, rc, rfl, G, far, B⟩
end Go.Proofs.YtnbejckdhdbamaaGreat
namespace Go.Proofs.YtnbejckdhdbamaaGreat
open Go.RowKit
variable {α : Type} {E : El α} {w0 w W : World} {base : Nat} {v : Value} {l : List α} {t : TypeId}
theorem cells_grown (w : World) (p o : Nat) (vs : List Value) : w.grownBy (w.setCells p o vs) (some p) := by
 induction vs generalizing w o with
 | nil => exact ⟨rfl, rfl, rfl, Nat.le_refl _, fun _ _ _ => rfl⟩
 | cons v vs ih =>
  have h1 : w.grownBy (w.setCell ⟨p, o, none⟩ v) (some p) := grown_set (bel_grown (Below.refl _ w) _) o v
  exact gro_trans h1 (ih _ _)
end Go.Proofs.YtnbejckdhdbamaaGreat
namespace Go.Proofs.YtnbejckdhdbamaaGreat
open Go.RowKit
theorem exec_store {P : Program} {w w' : World} {o : Oper} {a : Act} {t : TypeId} {x y : Operand} {p v : Value} (ho : o.op = .store t x y) (hx : a.eval x = p) (hy : a.eval y = v) (h : (Instr.storeAt t p v).run P w = .ok () w') : (execOp a.eval o).run P w = .ok .skip w' := by
 unfold execOp
 simp only [ho, hx, hy, Sem.run_bind, h, Result.andThen_ok, Sem.run_pure]
def putAt : List Value → Nat → List Value → List Value
 | zs, _, [] => zs
 | zs, o, v :: vs => putAt (zs.set o v) (o + 1) vs
theorem Arr.setAll {g : Nat} {t : TypeId} : ∀ (vs zs : List Value) (o : Nat) (w : World), Arr w g t zs → Arr (w.setCells g o vs) g t (putAt zs o vs)
 | [], _, _, _, h => h
 | v :: vs, zs, o, w, h => Arr.setAll vs (zs.set o v) (o + 1) (w.setCell ⟨g, o, none⟩ v) (h.set o v)
theorem store_row {w : World} {g : Nat} {t : TypeId} {zs cs : List Value} (A : Arr w g t zs) (sz : (Tryz.prog.info? t).map (·.size) = some cs.length) (hl : zs.length = cs.length) (one : ∀ u ∈ cs, u.oneCell' = true) :
  (Instr.storeAt t (.pointer (some ⟨g, 0, none⟩)) (.agg cs.toArray)).run Tryz.prog w = .ok () (w.setCells g 0 cs) ∧ w.grownBy (w.setCells g 0 cs) (some g) := by
 refine ⟨run_storeAt_mid w g 0 t cs.toArray (fun j hj => ⟨?_, A.free _⟩) (by simpa using sz) (all_oneCell_toArray one), cells_grown w g 0 cs⟩
 have hj : j < zs.length := by rw [hl]; simpa using hj
 rw [Nat.zero_add, A.cell, List.getElem?_eq_getElem hj]
 rfl
theorem arr_far {w : World} {b n : Nat} {t u : TypeId} {cs : List Value} {ao : Option Addr} (h : Arr w b t cs) (hne : t ≠ u) (ho : TyAt w ao u) {z : Nat} (hz : sblk ao n z) : z ≠ b := by
 rintro rfl
 obtain ⟨a, ha, _, e⟩ := hz
 obtain ⟨cur, e2⟩ := ho a ha
 rw [e] at e2
 unfold Arr at h
 rw [h] at e2
 simp only [Option.some.injEq, Obj.cells.injEq] at e2
 exact hne e2.2.1
end Go.Proofs.YtnbejckdhdbamaaGreat

/-
  Texts in one: Own10, HRegB, ScopeMid, PTakeM, KeyT.
-/
import Derived.Test.YtcgphdipfekccaaMessageBackQ0
import Derived.Test.YtcgphdipfekccaaMessageBackQ2
import Derived.Test.YtcgphdipfekccaaMessageBackQ4
import Derived.Test.YtcgphdipfekccaaMessageBackQ9
namespace Go.Proofs.Ytcgphdipfekccaa
open Go.RowKit
theorem opInfo : (Try.prog.info? 57).map (fun i => (i.zero, i.size, i.bytes)) = some (some (.agg #[.int .i64 0, .string ⟨#[]⟩, .string ⟨#[]⟩, .string ⟨#[]⟩, .int .u64 0, .string ⟨#[]⟩, .slice none 0 0, .slice none 0 0, .bool false, .slice none 0 0]), 10, 160) := by kernel_rfl
def cellsO (l : List OA) : List Value := (l.map OA.cells).flatten
theorem OWL.own {w : World} {base : Nat} {v : Value} {n : Nat} {l : List OA} (h : w.ownsRow base 57 10 v n (cellsO l)) (hok : ∀ o ∈ l, o.ok w) : ∃ ao cap, v = .slice ao n cap ∧ OWL w 0 ao n cap l := by
  have hl : l.length = n := by
    have := h.1
    unfold cellsO at this
    rw [flat_len OA.cells 10 (fun _ => rfl)] at this
    omega
  rcases h.2 with ⟨rfl, rfl⟩ | ⟨g, cap, cur, rfl, a1, a2, a3, a4, a5, a6⟩
  · exact ⟨Option.none, 0, rfl, hl, Nat.le_refl _, Nat.zero_le _, fun _ => ⟨rfl, rfl⟩, fun _ h => by simp at h, fun y hy => hok y hy⟩
  · refine ⟨some ⟨g, 0, Option.none⟩, cap, rfl, hl, a3, a4, fun h => by simp at h, fun a ha i hi j u hu => ?_, fun y hy => hok y hy⟩
    obtain rfl := Option.some.inj ha
    have hj : j < 10 := (List.getElem?_eq_some_iff.1 hu).1
    refine h.cells (g := g) rfl (i * 10 + j) u ?_
    unfold cellsO
    rw [flat_get OA.cells 10 (fun _ => rfl) l i j hi hj]
    exact hu
def OA.blks (o : OA) (x : Nat) : Prop := o.va.blk x ∨ o.wa.blk x
theorem OA.ok.blk_lt {o : OA} {w : World} (h : o.ok w) {x : Nat} (hx : o.blks x) : x < w.heap.size := by
  rcases hx with hx | hx
  · exact h.va.blk_lt hx
  · exact h.wa.blk_lt hx
theorem OA.ok.kept {o : OA} {w w' : World} (h : o.ok w) (hk : ∀ x, o.blks x → w'.heap[x]? = w.heap[x]?) : o.ok w' :=
  ⟨h.kind, h.row, h.fam, h.qual, h.time, h.to, h.va.kept (fun x hx => hk x (.inl hx)), h.wa.kept (fun x hx => hk x (.inr hx)), h.le, h.mx, h.nil⟩
end Go.Proofs.Ytcgphdipfekccaa
namespace Go
section
variable {P : Program} {ops : Array Oper} {S : World → Prop} {Q : Exit → Act → World → Prop} {fuel : Nat} {listed : Array Bool} {a : Act} {w : World}
theorem op_do (i : Nat) (d : Option Tmp) (v : Value) {oi : Oper} {w' : World} (hi : ops[i]? = some oi) (hd : oi.dst = d) (hg : oi.guard = none) (hrun : (execOp a.eval oi).run P w = .ok (.value v) w') (hS : S w')
    (h : wpAnyH P .any ops (NoPanic Q) S fuel (listed.setIfInBounds i true) (a.put d v) w') : wpOp P ops (NoPanic Q) i (fun a' w' => S w' ∧ wpAnyH P .any ops (NoPanic Q) S fuel (listed.setIfInBounds i true) a' w') a w := by
  have hw : Region.wanted oi (yielded ops a.tmps) = true := by simp [Region.wanted, hg]
  unfold wpOp
  simp only [hi, hw, if_true, Oper.wp, hrun, Oper.upon, hd]
  exact .inl ⟨hS, h⟩
theorem op_call (i : Nat) (d : Option Tmp) {oi : Oper} (f : FuncId) (args : Array Value) (hi : ops[i]? = some oi) (hd : oi.dst = d) (hg : oi.guard = none) (hrun : (execOp a.eval oi).run P w = .ok (.enter f args) w)
    (R : Value → World → Prop) (hc : Calls P f args w fun e w' => ∃ v, e = .returned v ∧ R v w')
    (h : ∀ v w', R v w' → S w' ∧ wpAnyH P .any ops (NoPanic Q) S fuel (listed.setIfInBounds i true) (a.put d v) w') : wpOp P ops (NoPanic Q) i (fun a' w' => S w' ∧ wpAnyH P .any ops (NoPanic Q) S fuel (listed.setIfInBounds i true) a' w') a w := by
  have hw : Region.wanted oi (yielded ops a.tmps) = true := by simp [Region.wanted, hg]
  unfold wpOp
  simp only [hi, hw, if_true, Oper.wp, hrun, Oper.upon, hd]
  refine .inl (hc.mono ?_)
  rintro e w' ⟨v, rfl, hR⟩
  exact h v w' hR
theorem hr_two {i j : Nat} (hr : Region.ready .any ops listed = [i, j]) (h1 : wpOp P ops (NoPanic Q) i (fun a' w' => S w' ∧ wpAnyH P .any ops (NoPanic Q) S fuel (listed.setIfInBounds i true) a' w') a w)
    (h2 : wpOp P ops (NoPanic Q) j (fun a' w' => S w' ∧ wpAnyH P .any ops (NoPanic Q) S fuel (listed.setIfInBounds j true) a' w') a w) : wpAnyH P .any ops (NoPanic Q) S (fuel + 1) listed a w := by
  refine wpAnyH_all hr (by simp) fun k hk => ?_
  simp only [List.mem_cons, List.not_mem_nil, or_false] at hk
  rcases hk with rfl | rfl
  · exact h1
  · exact h2
theorem hr_own (i : Nat) (d : Option Tmp) {oi : Oper} (hi : ops[i]? = some oi) (hd : oi.dst = d) (hr : Region.ready .any ops listed = [i]) (hg : oi.guard = none) (s x : Operand) (t : TypeId)
    (ho : oi.op = .call { callee := .builtin .append, args := #[s, x], argTypes := #[t, t] })
    (base : Nat) (e : TypeId) (inf : TypeInfo) (z : Value) (size bytes : Nat) (ht : P.underlying t = some (.slice e)) (hinf : P.info? e = some inf) (hz : inf.zero = some z)
    (hsize : inf.size = size) (hby : inf.bytes = bytes) (hzs : z.cells.size = size) (hsz : 0 < size)
    (v : Value) (n : Nat) (xs : List Value) (hs : a.eval s = v) (hown : w.ownsRow base e size v n xs)
    (ad : Addr) (m c : Nat) (news : List Value) (hx : a.eval x = .slice (some ad) m c) (hl : news.length = m * size) (hnews : ∀ j u, news[j]? = some u → w.cell? (ad.add j) = some u) (h1 : ∀ u ∈ news, u.oneCell' = true)
    (h63 : n + m ≤ maxLen) (hbytes : (n + m) * bytes ≤ 140737488355328) (hbase : base ≤ w.heap.size)
    (h : ∀ v' w', w'.ownsRow base e size v' (n + m) (xs ++ news) → w.grownBy w' v.ownBlock → (∀ g, v'.ownBlock = some g → v.ownBlock = some g ∨ w.heap.size ≤ g) → S w' ∧ wpAnyH P .any ops (NoPanic Q) S fuel (listed.setIfInBounds i true) (a.put d v') w') : wpAnyH P .any ops (NoPanic Q) S (fuel + 1) listed a w := by
  refine wpAnyH_all hr (by simp) fun j hj => ?_
  obtain rfl := List.mem_singleton.1 hj
  have hw : Region.wanted oi (yielded ops a.tmps) = true := by simp [Region.wanted, hg]
  obtain ⟨v', w', hrun, h2, h3, h4⟩ := Go.Proofs.Ytcgphdipfekccaa.run_append_own2 (P := P) w base t oi.type e inf z size bytes ht hinf hz hsize hby hzs hsz v n xs hown ad m c news hl hnews h1 h63 hbytes hbase
  unfold wpOp
  simp only [hi, hw, if_true]
  refine .inl ?_
  unfold Oper.wp execOp
  simp only [ho, resolve, invoke, builtin, Sem.run_bind, Sem.run_pure, Result.andThen_ok, List.map_toArray, List.map_cons, List.map_nil, hs, hx, hrun, Oper.upon, hd]
  exact h v' w' h2 h3 h4
end
end Go
namespace Go.Proofs.Ytcgphdipfekccaa
open Go.RowKit
theorem wp_scope_mid {P : Program} {Q : Exit → Act → World → Prop} {a : Act} {w : World} {h1 h2 h3 h4 h5 y : Code} (l : Nat) (J : Act → World → Prop) (μ : Act → World → Nat)
    (hf : findLabel (h1.seq (h2.seq (h3.seq (h4.seq (h5.seq ((Code.label l).seq y)))))) l = some (.seq .skip y))
    (first : h1.wp P (Exit.then (fun a w => h2.wp P (Exit.then (fun a w => h3.wp P (Exit.then (fun a w => h4.wp P (Exit.then (fun a w => h5.wp P (Exit.then J (Exit.jump l J Q)) a w) (Exit.jump l J Q)) a w) (Exit.jump l J Q)) a w) (Exit.jump l J Q)) a w) (Exit.jump l J Q)) a w)
    (pass : ∀ a w, J a w → y.wp P (Exit.jump l (fun a' w' => J a' w' ∧ μ a' w' < μ a w) Q) a w) :
    (Code.scope (h1.seq (h2.seq (h3.seq (h4.seq (h5.seq ((Code.label l).seq y))))))).wp P Q a w := by
  refine wp_scope_jumps l J μ hf ?_ ?_
  · have last : ∀ a w, J a w → ((Code.label l).seq y).wp P (Exit.jump l J Q) a w := fun a w hJ => by
      refine wp_seq (wp_label ?_)
      show y.wp P _ a w
      refine wp_mono (pass a w hJ) ?_
      intro e a' w' h
      cases e with
      | goto l' => exact ⟨h.1, h.2.1⟩
      | _ => exact h
    have up : ∀ {K K' : Act → World → Prop} {Q' : Exit → Act → World → Prop}, (∀ a w, K a w → K' a w) → ∀ e a w, Exit.then K Q' e a w → Exit.then K' Q' e a w := fun hk e a w h => by
      cases e with
      | normal => exact hk a w h
      | _ => exact h
    refine wp_seq (wp_mono first (up fun a w h => ?_))
    refine wp_seq (wp_mono h (up fun a w h => ?_))
    refine wp_seq (wp_mono h (up fun a w h => ?_))
    refine wp_seq (wp_mono h (up fun a w h => ?_))
    exact wp_seq (wp_mono h (up fun a w h => last a w h))
  · intro a w hJ
    exact wp_seq (wp_skip (pass a w hJ))
open Go.RowKit
def OV (V : World) (p : Nat) (o : OA) (v : Value) : Prop := V.heap[p]? = some (.cells #[.int .i64 o.kind, .string o.row, .string o.fam, .string o.qual, .int .u64 o.time, .string o.to, .slice o.va.ao o.va.n o.va.cap, .slice o.wa.ao o.wa.n o.wa.cap, .bool o.has, v] 57)
theorem OV.lt {V : World} {p : Nat} {o : OA} {v : Value} (h : OV V p o v) : p < V.heap.size := (Array.getElem?_eq_some_iff.1 h).1
theorem OV.kept {V V' : World} {p : Nat} {o : OA} {v : Value} (h : OV V p o v) (hk : V'.heap[p]? = V.heap[p]?) : OV V' p o v := hk.trans h
theorem OV.grown {V V' : World} {q p : Nat} {o : OA} {v : Value} (h : OV V q o v) (hg : V.grownBy V' (some p)) (hne : q ≠ p) : OV V' q o v := h.kept (hg.block q h.lt (by simp; omega))
structure OVs (V : World) (p : Nat) (o : OA) (v : Value) : Prop where
  c0 : V.cell? ⟨p, 0, none⟩ = some (.int .i64 o.kind)
  c1 : V.cell? ⟨p, 1, none⟩ = some (.string o.row)
  c2 : V.cell? ⟨p, 2, none⟩ = some (.string o.fam)
  c3 : V.cell? ⟨p, 3, none⟩ = some (.string o.qual)
  c4 : V.cell? ⟨p, 4, none⟩ = some (.int .u64 o.time)
  c5 : V.cell? ⟨p, 5, none⟩ = some (.string o.to)
  c6 : V.cell? ⟨p, 6, none⟩ = some (.slice o.va.ao o.va.n o.va.cap)
  c7 : V.cell? ⟨p, 7, none⟩ = some (.slice o.wa.ao o.wa.n o.wa.cap)
  c8 : V.cell? ⟨p, 8, none⟩ = some (.bool o.has)
  c9 : V.cell? ⟨p, 9, none⟩ = some (v)
theorem OV.cs {V : World} {p : Nat} {o : OA} {v : Value} (h : OV V p o v) : OVs V p o v :=
  ⟨cell_of_row V p 0 _ _ _ h, cell_of_row V p 1 _ _ _ h, cell_of_row V p 2 _ _ _ h, cell_of_row V p 3 _ _ _ h, cell_of_row V p 4 _ _ _ h, cell_of_row V p 5 _ _ _ h, cell_of_row V p 6 _ _ _ h, cell_of_row V p 7 _ _ _ h, cell_of_row V p 8 _ _ _ h, cell_of_row V p 9 _ _ _ h⟩
theorem OV.fz {V : World} {p : Nat} {o : OA} {v : Value} (h : OV V p o v) (i : Nat) : V.frozen? ⟨p, i, none⟩ = false := frozen_of_row V p i _ _ h
theorem OV.setV {V : World} {p : Nat} {o : OA} {v : Value} (h : OV V p o v) (b : Bs) : OV (V.setCell ⟨p, 6, none⟩ (.slice b.ao b.n b.cap)) p { o with va := b } v := heap_setCell_same V p 6 _ _ _ h
theorem OV.setW {V : World} {p : Nat} {o : OA} {v : Value} (h : OV V p o v) (b : Bs) : OV (V.setCell ⟨p, 7, none⟩ (.slice b.ao b.n b.cap)) p { o with wa := b } v := heap_setCell_same V p 7 _ _ _ h
theorem OV.setH {V : World} {p : Nat} {o : OA} {v : Value} (h : OV V p o v) (b : Bool) : OV (V.setCell ⟨p, 8, none⟩ (.bool b)) p { o with has := b } v := heap_setCell_same V p 8 _ _ _ h
theorem OV.setP {V : World} {p : Nat} {o : OA} {v : Value} (h : OV V p o v) (u : Value) : OV (V.setCell ⟨p, 9, none⟩ u) p o u := heap_setCell_same V p 9 _ _ _ h
def OA.sblk (o : OA) (x : Nat) : Prop := ∃ a, o.so = some a ∧ 0 < o.sn ∧ a.block = x
def TakePost (F : Nat) (w : World) (p L most : Nat) (xs : List Int) (k : Int) (e : Ending) (w' : World) : Prop :=
  ∃ (o : OA) (l : List OA), e = .returned o.val ∧ o.ok w' ∧ OWL w' 0 o.so o.sn o.sc l ∧ (∀ x, (o.blks x ∨ o.sblk x ∨ ∃ y ∈ l, y.blks x) → x < F ∨ w.heap.size ≤ x) ∧ o.s = (sT most xs k).1.1 ∧
    l.map sn0 = (repT (sT 0) (sT most xs k).1.2 (sT most xs k).2.1 (sT most xs k).2.2).1 ∧ Left w p L (repT (sT 0) (sT most xs k).1.2 (sT most xs k).2.1 (sT most xs k).2.2).2 w'
def lenAt (M : Nat) (V : World) : Nat := match V.cell? ⟨M, 9, none⟩ with
  | some (.slice _ n _) => n
  | _ => 0
def ptrOf : Value → Nat
  | .pointer (some a) => a.block
  | _ => 0
structure TakeInv (F : Nat) (w : World) (p L N M parts : Nat) (o : OA) (hx : List Int) (hk : Int) (V : World) (v : Value) (l : List OA) : Prop where
  rd : R V p L (repT (sT 0) l.length hx hk).2.1 (repT (sT 0) l.length hx hk).2.2
  ov : OV V M o v
  res : V.heap[N]? = some (.cells #[.int .i64 0, .string ⟨#[]⟩, .string ⟨#[]⟩, .string ⟨#[]⟩, .int .u64 0, .string ⟨#[]⟩, .slice none 0 0, .slice none 0 0, .bool false, .slice none 0 0] 57)
  own : V.ownsRow (M + 1) 57 10 v l.length (cellsO l)
  ok : o.ok V
  oks : ∀ y ∈ l, y.ok V
  far : ∀ x, (o.blks x ∨ ∃ y ∈ l, y.blks x) → (x < F ∨ M < x) ∧ v.ownBlock ≠ some x
  thr : l.map sn0 = (repT (sT 0) l.length hx hk).1
  gr : w.grownBy V (some p)
  le : l.length ≤ parts
  pos : L ≤ p ∧ p < N ∧ N < M ∧ w.heap.size ≤ N ∧ F ≤ L
theorem TakeInv.drew {F : Nat} {w : World} {p L N M parts : Nat} {o : OA} {hx : List Int} {hk : Int} {V : World} {v : Value} {l : List OA} (h : TakeInv F w p L N M parts o hx hk V v l) : TakeInv F w p L N M parts o hx hk V.drew v l :=
  ⟨h.rd.below (Below.refl _ _).drew, h.ov, h.res, h.own.drew, h.ok.below (Below.refl _ _).drew, fun y hy => (h.oks y hy).below (Below.refl _ _).drew, h.far, h.thr, grown_trans h.gr (grown_below (Below.refl _ _).drew), h.le, h.pos⟩
theorem TakeInv.ownlt {F : Nat} {w : World} {p L N M parts : Nat} {o : OA} {hx : List Int} {hk : Int} {V : World} {v : Value} {l : List OA} (h : TakeInv F w p L N M parts o hx hk V v l) {g : Nat} (hg : v.ownBlock = some g) : M < g ∧ g < V.heap.size := by
  have := h.own.lt g hg
  omega
theorem TakeInv.step {F : Nat} {w : World} {p L N M parts : Nat} {o : OA} {hx : List Int} {hk : Int} {V : World} {v : Value} {l : List OA} (h : TakeInv F w p L N M parts o hx hk V v l) (hlt : l.length < parts)
    {y : OA} {V1 V3 : World} {v' : Value} {ob : Obj} (y1 : y.ok V1) (y2 : ∀ x, y.blks x → x < F ∨ V.heap.size ≤ x) (y3 : sn0 y = (sT 0 (repT (sT 0) l.length hx hk).2.1 (repT (sT 0) l.length hx hk).2.2).1)
    (y4 : R V1 p L (sT 0 (repT (sT 0) l.length hx hk).2.1 (repT (sT 0) l.length hx hk).2.2).2.1 (sT 0 (repT (sT 0) l.length hx hk).2.1 (repT (sT 0) l.length hx hk).2.2).2.2) (y5 : V.grownBy V1 (some p))
    (a1 : V3.ownsRow (M + 1) 57 10 v' (l.length + 1) (cellsO l ++ y.cells)) (a2 : (V1.alloc ob).grownBy V3 v.ownBlock) (a3 : ∀ g, v'.ownBlock = some g → v.ownBlock = some g ∨ (V1.alloc ob).heap.size ≤ g) :
    TakeInv F w p L N M parts o hx hk (V3.setCell ⟨M, 9, none⟩ v') v' (l ++ [y]) := by
  have hp := h.pos
  have sz1 := y5.size
  have sz2 : (V1.alloc ob).heap.size = V1.heap.size + 1 := by simp
  have sz3 := a2.size
  have key : ∀ x, x < V1.heap.size → v.ownBlock ≠ some x → V3.heap[x]? = V1.heap[x]? := fun x hx1 hx2 => (a2.block x (by omega) (fun e => hx2 e.symm)).trans (heap_alloc_old V1 ob hx1)
  have own1 : ∀ x, x ≤ M → v.ownBlock ≠ some x := fun x hx1 hx2 => by have := (h.ownlt hx2).1; omega
  have hM : M < V.heap.size := h.ov.lt
  have RB : ∀ x, x < V.heap.size → x ≠ p → V1.heap[x]? = V.heap[x]? := fun x hx1 hx2 => y5.block x hx1 (by simp; exact hx2)
  have ov1 : OV V1 M o v := h.ov.kept (RB M hM (by omega))
  have ov3 : OV V3 M o v := ov1.kept (key M (by omega) (own1 M (Nat.le_refl _)))
  have hset : ∀ x, x ≠ M → (V3.setCell ⟨M, 9, none⟩ v').heap[x]? = V3.heap[x]? := (same_set V3 M 9 v').2
  have fin : ∀ x, x < V.heap.size → x ≠ p → x ≠ M → v.ownBlock ≠ some x → (V3.setCell ⟨M, 9, none⟩ v').heap[x]? = V.heap[x]? := fun x b1 b2 b3 b4 => ((hset x b3).trans (key x (by omega) b4)).trans (RB x b1 b2)
  have oldfar : ∀ x, (o.blks x ∨ ∃ y ∈ l, y.blks x) → x ≠ p ∧ x ≠ M := fun x hx1 => by have := (h.far x hx1).1; omega
  refine ⟨?_, ov3.setP v', ?_, ?_, ?_, ?_, ?_, ?_, ?_, ?_, hp⟩
  · rw [List.length_append, List.length_singleton, repT_snoc]
    obtain ⟨ao, n, cap, r⟩ := y4
    have r3 : R V3 p L (sT 0 (repT (sT 0) l.length hx hk).2.1 (repT (sT 0) l.length hx hk).2.2).2.1 (sT 0 (repT (sT 0) l.length hx hk).2.1 (repT (sT 0) l.length hx hk).2.2).2.2 := by
      have rp : p < V1.heap.size := r.plt
      have hbk := key p rp (own1 p (by omega))
      refine ⟨ao, n, cap, (World.cell?_of_block (a := ⟨p, 0, none⟩) hbk).trans r.c0, (World.cell?_of_block (a := ⟨p, 1, none⟩) hbk).trans r.c1, (World.frozen?_of_block (a := ⟨p, 0, none⟩) hbk).trans r.f0, (World.frozen?_of_block (a := ⟨p, 1, none⟩) hbk).trans r.f1, ?_, r.low, r.le, r.sm⟩
      exact Sl.kept (b := ⟨ao, n, cap, _⟩) r.sl (fun x hx1 => by
        obtain ⟨a, ha, hn, rfl⟩ := hx1
        have hl1 := r.low a ha hn
        exact key _ (by omega) (own1 _ (by omega)))
    exact r3.own (by omega) (by omega)
  · exact (fin N (Array.getElem?_eq_some_iff.1 h.res).1 (by omega) (by omega) (own1 N (by omega))).trans h.res
  · rw [List.length_append, List.length_singleton]
    have e : cellsO (l ++ [y]) = cellsO l ++ y.cells := by unfold cellsO; simp
    rw [e]
    refine own_kept a1 fun g hg => hset g ?_
    have := (a1.lt g hg).1
    omega
  · exact h.ok.kept fun x hx1 => fin x (h.ok.blk_lt hx1) (oldfar x (.inl hx1)).1 (oldfar x (.inl hx1)).2 (h.far x (.inl hx1)).2
  · intro q hq
    rcases List.mem_append.1 hq with hq | hq
    · exact (h.oks q hq).kept fun x hx1 => fin x ((h.oks q hq).blk_lt hx1) (oldfar x (.inr ⟨q, hq, hx1⟩)).1 (oldfar x (.inr ⟨q, hq, hx1⟩)).2 (h.far x (.inr ⟨q, hq, hx1⟩)).2
    · rw [List.mem_singleton.1 hq]
      refine y1.kept fun x hx1 => ?_
      have c1 := y2 x hx1
      have c2 := y1.blk_lt hx1
      have c3 : v.ownBlock ≠ some x := fun e => by have := h.ownlt e; omega
      exact (hset x (by omega)).trans (key x c2 c3)
  · intro x hx1
    have old : ∀ x, x < V1.heap.size → v.ownBlock ≠ some x → v'.ownBlock ≠ some x := fun x b1 b2 b3 => by
      rcases a3 x b3 with c | c
      · exact b2 c
      · omega
    rcases hx1 with hx1 | ⟨q, hq, hx1⟩
    · have := h.far x (.inl hx1)
      exact ⟨this.1, old x (by have := h.ok.blk_lt hx1; omega) this.2⟩
    · rcases List.mem_append.1 hq with hq | hq
      · have := h.far x (.inr ⟨q, hq, hx1⟩)
        exact ⟨this.1, old x (by have := (h.oks q hq).blk_lt hx1; omega) this.2⟩
      · rw [List.mem_singleton.1 hq] at hx1
        have c1 := y2 x hx1
        have c2 := y1.blk_lt hx1
        refine ⟨by omega, old x c2 fun e => ?_⟩
        have := h.ownlt e
        omega
  · rw [List.length_append, List.length_singleton, repT_snoc, List.map_append, h.thr, ← y3]
    rfl
  · refine grown_own ?_ (by omega)
    refine ⟨?_, ?_, ?_, ?_, ?_⟩
    · rw [a2.os]; exact y5.os.trans h.gr.os
    · rw [a2.tape]; exact y5.tape.trans h.gr.tape
    · rw [a2.output]; exact y5.output.trans h.gr.output
    · have := h.gr.size; omega
    · intro x b1 b2
      have b3 := h.gr.size
      exact ((key x (by omega) (own1 x (by omega))).trans (y5.block x (by omega) b2)).trans (h.gr.block x b1 b2)
  · rw [List.length_append, List.length_singleton]
    omega
open Go.RowKit
theorem txT_ok {xs : List Int} (h : Byt xs) {k : Int} : (txT 32 xs k).1.size ≤ 32 := by
  show (strOfNums (bytesS xs k ((32 : Nat) : Int)).1).size ≤ 32
  rw [str_size (bytesS_byt h k 32).1]
  exact bytesS_le xs k 32
theorem txT_byt {xs : List Int} (h : Byt xs) {k : Int} : Byt (txT 32 xs k).2.1 := (bytesS_byt h k 32).2
theorem keyT_ok {xs : List Int} (h : Byt xs) {k : Int} : (keyT xs k).1.1.size ≤ 32 ∧ (keyT xs k).1.2.1.size ≤ 32 ∧ (keyT xs k).1.2.2.1.size ≤ 32 ∧ (keyT xs k).1.2.2.2 < 18446744073709551616 :=
  ⟨txT_ok h, txT_ok (txT_byt h), txT_ok (txT_byt (txT_byt h)), uintS_lt (txT_byt (txT_byt (txT_byt h)))⟩
end Go.Proofs.Ytcgphdipfekccaa

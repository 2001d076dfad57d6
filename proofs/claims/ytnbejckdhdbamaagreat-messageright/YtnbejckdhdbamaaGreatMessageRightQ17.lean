/-
  Texts in one: RReqs, MgVal, MgOwnD, HRegX.
-/
import Derived.Test.YtnbejckdhdbamaaGreatMessageRightQ16
import Derived.Test.YtnbejckdhdbamaaGreatMessageRightQ9
import Derived.Test.YtnbejckdhdbamaaGreatMessageRightQ10
import Derived.Test.YtnbejckdhdbamaaGreatMessageRightQ3
namespace Go.Proofs.YtnbejckdhdbamaaGreat
open Go.RowKit
set_option maxRecDepth 100000 in
set_option maxHeartbeats 4000000 in
theorem rreqs_any (d : Nat) (w : World) (c1 t1 c2 t2 : Nat) (x y : OD d) (hx : OW w d x) (hy : OW w d y) (lx : lightD d x = true) (ly : lightD d y = true) :
  Calls Tryz.prog 35 #[qVal c1 t1 (topD d x), qVal c2 t2 (topD d y)] w fun e w' => e = .returned (.bool (decide (c1 = c2) && (decide (t1 = t2) && sameD d x y))) ∧ Below w.heap.size w w' := by
 obtain ⟨a, ha⟩ : ∃ a, a = topD d x := ⟨_, rfl⟩
 obtain ⟨b, hb⟩ : ∃ b, b = topD d y := ⟨_, rfl⟩
 have B : Below w.heap.size w ((w.alloc (Obj.cells #[.int .u64 c1, .int .u64 t1, .int .i64 a.kind, .string a.row, .string a.fam, .string a.qual, .int .u64 a.time, .string a.to, .slice a.va.ao a.va.n a.va.cap, .slice a.wa.ao a.wa.n a.wa.cap, .bool a.has, .slice a.so a.sn a.sc] 60)).alloc (Obj.cells #[.int .u64 c2, .int .u64 t2, .int .i64 b.kind, .string b.row, .string b.fam, .string b.qual, .int .u64 b.time, .string b.to, .slice b.va.ao b.va.n b.va.cap, .slice b.wa.ao b.wa.n b.wa.cap, .bool b.has, .slice b.so b.sn b.sc] 60)) := ((Below.refl _ w).alloc (Nat.le_refl _) _).alloc (by simp) _
 have CR := rsame6 d ((w.alloc (Obj.cells #[.int .u64 c1, .int .u64 t1, .int .i64 a.kind, .string a.row, .string a.fam, .string a.qual, .int .u64 a.time, .string a.to, .slice a.va.ao a.va.n a.va.cap, .slice a.wa.ao a.wa.n a.wa.cap, .bool a.has, .slice a.so a.sn a.sc] 60)).alloc (Obj.cells #[.int .u64 c2, .int .u64 t2, .int .i64 b.kind, .string b.row, .string b.fam, .string b.qual, .int .u64 b.time, .string b.to, .slice b.va.ao b.va.n b.va.cap, .slice b.wa.ao b.wa.n b.wa.cap, .bool b.has, .slice b.so b.sn b.sc] 60)) x y (hx.below B) (hy.below B) lx ly
 rw [← ha, ← hb] at CR ⊢
 clear hx hy lx ly ha hb
 rw [show qVal c1 t1 a = .agg #[.int .u64 c1, .int .u64 t1, .int .i64 a.kind, .string a.row, .string a.fam, .string a.qual, .int .u64 a.time, .string a.to, .slice a.va.ao a.va.n a.va.cap, .slice a.wa.ao a.wa.n a.wa.cap, .bool a.has, .slice a.so a.sn a.sc] from rfl, show qVal c2 t2 b = .agg #[.int .u64 c2, .int .u64 t2, .int .i64 b.kind, .string b.row, .string b.fam, .string b.qual, .int .u64 b.time, .string b.to, .slice b.va.ao b.va.n b.va.cap, .slice b.wa.ao b.wa.n b.wa.cap, .bool b.has, .slice b.so b.sn b.sc] from rfl]
 unfold OA.val at CR
 by_cases z1 : c1 = c2
 case neg =>
  have i1 : ((c1 : Int) == (c2 : Int)) = false := by simp; omega
  have hv : Hid ((decide (c1 = c2) && (decide (t1 = t2) && sameD d x y)) = false) := by show _ = _; simp [z1]
  clear CR z1
  go_enter Tryz.func35, Tryz.ntmps35
  go_wp2
  go_ret
  exact ⟨by rw [hv.out] <;> rfl, B⟩
 by_cases z2 : t1 = t2
 case neg =>
  have i1 : ((c1 : Int) == (c2 : Int)) = true := by simp; omega
  have i2 : ((t1 : Int) == (t2 : Int)) = false := by simp; omega
  have hv : Hid ((decide (c1 = c2) && (decide (t1 = t2) && sameD d x y)) = false) := by show _ = _; simp [z2]
  clear CR z1 z2
  go_enter Tryz.func35, Tryz.ntmps35
  go_wp2
  go_ret
  exact ⟨by rw [hv.out] <;> rfl, B⟩
 have i1 : ((c1 : Int) == (c2 : Int)) = true := by simp; omega
 have i2 : ((t1 : Int) == (t2 : Int)) = true := by simp; omega
 have hv : Hid ((decide (c1 = c2) && (decide (t1 = t2) && sameD d x y)) = sameD d x y) := by show _ = _; simp [z1, z2]
 clear z1 z2
 go_enter Tryz.func35, Tryz.ntmps35
 go_wp2_with (go_at_call 73; refine CR.mono ?_; rintro e w2 ⟨rfl, C⟩; have D := B.trans (C.mono B.size))
 go_ret
 exact ⟨by rw [hv.out] <;> rfl, D⟩
open Go.RowKit
def rzV (p : PV) : Bool := decide (p.cl = 0 ∧ p.st = 0 ∧ p.vw = 0 ∧ p.r.e = 0 ∧ p.r.cells.length = 0) && !p.r.more
def badV (k : Int) (q : QV) : Bool := decide (kindQ q ≠ 0) || (decide (k = 13) && decide (q.2.2.1.kind ≠ 7 ∧ q.2.2.1.kind ≠ 8))
def txV (k : Int) (s : SV) : Bool := txOk k s.fr s.b.length s.tag.length
def setV (l : List SV) : Bool := decide (16 < l.length) || l.any fun s => !(sgnd s.fr s.b.length s.tag.length)
def repV (x : BV) : Bool := decide (x.kind ≠ 5) || (rightR x.rep.r && decide (x.rep.cl ≠ 0 ∧ x.rep.st ≠ 0 ∧ x.rep.vw ≤ 4611686018427387903))
def rightV (x : BV) : Bool := shpOk x.kind ⟨x.view, x.seq, x.sum.length, x.reqs.length, x.cert.length, x.sets.length, !(rzV x.rep)⟩ && (!(x.reqs.any (badV x.kind)) && (repV x && (!(x.cert.any fun s => !(txV x.kind s)) && !(x.sets.any setV))))
theorem any_map_on {α β : Type} (f : α → β) (p : β → Bool) (q : α → Bool) : ∀ l : List α, (∀ a ∈ l, p (f a) = q a) → (l.map f).any p = l.any q
 | [], _ => rfl
 | a :: l, h => by
  rw [List.map_cons, List.any_cons, List.any_cons, h a (List.mem_cons_self ..), any_map_on f p q l (fun b hb => h b (List.mem_cons_of_mem _ hb))]
theorem rightM_v {x : BM} {w : World} (h : x.ok w) (fl : ∀ q ∈ x.q.l, ∀ y ∈ q.l, y.sn = 0) : rightM x = rightV x.v := by
 unfold rightM rightV
 have e1 : x.hv = ⟨x.v.view, x.v.seq, x.v.sum.length, x.v.reqs.length, x.v.cert.length, x.v.sets.length, !(rzV x.v.rep)⟩ := by
  unfold BM.hv BM.v
  simp only [List.length_map, h.sum.len, h.q.len, h.s.len, h.t.len, HV.mk.injEq, true_and, Bool.not_eq_eq_eq_not, Bool.not_not]
  unfold BM.rz rzV
  have : (resR x.e x.c.l x.more).cells.length = x.c.n := by
   show (x.c.l.map CA.c).length = _
   rw [List.length_map, h.c.len]
  simp only [this]
  rfl
 have e2 : (x.v.reqs.any (badV x.v.kind)) = x.q.l.any (reqBad x.kind) := any_map_on QM.v _ _ _ fun q hq => by
  unfold badV reqBad
  have := kindq_read (o := q.o) q.cl q.st (fl q hq)
  show (decide (kindQ (q.cl, q.st, (q.o.s, q.l.map OA.s)) ≠ 0) || _) = _
  rw [this]
  rfl
 have e3 : (x.v.cert.any fun s => !(txV x.v.kind s)) = x.s.l.any fun s => !(s.tx x.kind) := any_map_on SA.v _ _ _ fun s hs => by
  have h1 := (h.s.ok s hs).b.len
  have h2 := (h.s.ok s hs).tag.len
  show (!(txOk x.kind s.fr s.b.xs.length s.tag.xs.length)) = _
  rw [h1, h2]
  rfl
 have e4 : x.v.sets.any setV = x.t.l.any setBad := any_map_on (fun s : LS SA => s.l.map SA.v) _ _ _ fun t ht => by
  have ht' : GL elS w t.ao t.n t.cap t.l := h.t.ok t ht
  unfold setV setBad
  rw [List.length_map, ht'.len]
  congr 1
  refine any_map_on SA.v _ _ _ fun s hs => ?_
  have h1 := (ht'.ok s hs).b.len
  have h2 := (ht'.ok s hs).tag.len
  show (!(sgnd s.fr s.b.xs.length s.tag.xs.length)) = _
  rw [h1, h2]
  rfl
 rw [e2, e3, e4, ← e1]
 rfl
open Go.RowKit
def lsV (s : LS SA) : Nat × List SA := (s.n, s.l)
def ownB (x : BM) (so : Option Addr) (sc : Nat) (vo : Option Addr) (vc : Nat) (ys : List (LS SA)) : BM := { x with s := ⟨so, x.s.n, sc, x.s.l⟩, t := ⟨vo, x.t.n, vc, ys⟩ }
def OwnPost (w : World) (x : BM) (e : Ending) (w' : World) : Prop :=
 ∃ so sc vo vc ys, e = .returned (ownB x so sc vo vc ys).val ∧ (ownB x so sc vo vc ys).ok w' ∧ ys.map lsV = x.t.l.map lsV ∧ Below w.heap.size w w'
theorem own_right {x : BM} {so : Option Addr} {sc : Nat} {vo : Option Addr} {vc : Nat} {ys : List (LS SA)} (h : ys.map lsV = x.t.l.map lsV) : rightM (ownB x so sc vo vc ys) = rightM x := by
 have e : ys.any setBad = x.t.l.any setBad := by
  have e1 := any_map_on lsV (fun p : Nat × List SA => decide (16 < p.1) || p.2.any fun x => !x.sg) setBad ys (fun _ _ => rfl)
  have e2 := any_map_on lsV (fun p : Nat × List SA => decide (16 < p.1) || p.2.any fun x => !x.sg) setBad x.t.l (fun _ _ => rfl)
  rw [← e1, ← e2, h]
 unfold rightM
 show (_ && (_ && (_ && (_ && !(ys.any setBad))))) = _
 rw [e]
 rfl
end Go.Proofs.YtnbejckdhdbamaaGreat
namespace Go
section
variable {P : Program} {ops : Array Oper} {S : World → Prop} {Q : Exit → Act → World → Prop} {fuel : Nat} {listed : Array Bool} {a : Act} {w : World}
theorem hr_ex (i : Nat) (d : Option Tmp) {oi : Oper} {R : Value → World → Prop} (hi : ops[i]? = some oi) (hd : oi.dst = d) (hr : Region.ready .any ops listed = [i]) (hw : Region.wanted oi (yielded ops a.tmps) = true)
  (hrun : ∃ v w', (execOp a.eval oi).run P w = .ok (.value v) w' ∧ R v w')
  (h : ∀ v w', R v w' → S w' ∧ wpAnyH P .any ops (NoPanic Q) S fuel (listed.setIfInBounds i true) (a.put d v) w') : wpAnyH P .any ops (NoPanic Q) S (fuel + 1) listed a w := by
 refine wpAnyH_all hr (by simp) fun j hj => ?_
 obtain rfl := List.mem_singleton.1 hj
 obtain ⟨v, w', hrun, hR⟩ := hrun
 unfold wpOp
 simp only [hi, hw, if_true, Oper.wp, hrun, Oper.upon, hd]
 exact .inl (h v w' hR)
theorem op_ex (i : Nat) (d : Option Tmp) {oi : Oper} {R : Value → World → Prop} (hi : ops[i]? = some oi) (hd : oi.dst = d) (hw : Region.wanted oi (yielded ops a.tmps) = true)
  (hrun : ∃ v w', (execOp a.eval oi).run P w = .ok (.value v) w' ∧ R v w')
  (h : ∀ v w', R v w' → S w' ∧ wpAnyH P .any ops (NoPanic Q) S fuel (listed.setIfInBounds i true) (a.put d v) w') : wpOp P ops (NoPanic Q) i (fun a' w' => S w' ∧ wpAnyH P .any ops (NoPanic Q) S fuel (listed.setIfInBounds i true) a' w') a w := by
 obtain ⟨v, w', hrun, hR⟩ := hrun
 unfold wpOp
 simp only [hi, hw, if_true, Oper.wp, hrun, Oper.upon, hd]
 exact .inl (h v w' hR)
theorem op_calls (i : Nat) (d : Option Tmp) {oi : Oper} (f : FuncId) (args : Array Value) (hi : ops[i]? = some oi) (hd : oi.dst = d) (hw : Region.wanted oi (yielded ops a.tmps) = true) (hrun : (execOp a.eval oi).run P w = .ok (.enter f args) w)
  (R : Value → World → Prop) (hc : Calls P f args w fun e w' => ∃ v, e = .returned v ∧ R v w')
  (h : ∀ v w', R v w' → S w' ∧ wpAnyH P .any ops (NoPanic Q) S fuel (listed.setIfInBounds i true) (a.put d v) w') : wpOp P ops (NoPanic Q) i (fun a' w' => S w' ∧ wpAnyH P .any ops (NoPanic Q) S fuel (listed.setIfInBounds i true) a' w') a w := by
 unfold wpOp
 simp only [hi, hw, if_true, Oper.wp, hrun, Oper.upon, hd]
 refine .inl (hc.mono ?_)
 rintro e w' ⟨v, rfl, hR⟩
 exact h v w' hR
end
end Go

/-
  Texts in one: RgMath, MgSameEq.
-/
import Derived.Test.YtnbejckdhdbamaaGreatMessageRightQ18
import Derived.Test.YtnbejckdhdbamaaGreatMessageRightQ13
namespace Go.Proofs.YtnbejckdhdbamaaGreat
open Go.RowKit
def hasVw (k : Int) : Bool := decide (k = 2 ∨ k = 3 ∨ k = 4 ∨ k = 7 ∨ k = 8)
def hasSq (k : Int) : Bool := decide (k = 2 ∨ k = 3 ∨ k = 4 ∨ k = 6 ∨ k = 7 ∨ k = 9 ∨ k = 10 ∨ k = 14)
def hasSm (k : Int) : Bool := decide (k = 2 ∨ k = 3 ∨ k = 4 ∨ k = 6 ∨ k = 10 ∨ k = 11)
def hasRq (k : Int) : Bool := decide (k = 1 ∨ k = 13)
def hasRp (k : Int) : Bool := decide (k = 5)
def hasCt (k : Int) : Bool := decide (k = 7 ∨ k = 8 ∨ k = 10 ∨ k = 12 ∨ k = 14)
def hasSt (k : Int) : Bool := decide (k = 7 ∨ k = 8)
def onlyB (x : BM) : BM :=
 ⟨x.kind, if hasVw x.kind then x.view else 0, if hasSq x.kind then x.seq else 0, if hasSm x.kind then x.sum else ⟨none, 0, 0, []⟩, if hasRq x.kind then x.q else ⟨none, 0, 0, []⟩, if hasRp x.kind then x.cl else 0, if hasRp x.kind then x.st else 0, if hasRp x.kind then x.vw else 0, if hasRp x.kind then x.e else 0, if hasRp x.kind then x.c else ⟨none, 0, 0, []⟩, if hasRp x.kind then x.more else false, if hasCt x.kind then x.s else ⟨none, 0, 0, []⟩, if hasSt x.kind then x.t else ⟨none, 0, 0, []⟩⟩
def onlyQ (x : BM) (xs : List QE) : List QE := if hasRq x.kind then xs else []
theorem onlyB_ok {x : BM} {w : World} (h : x.ok w) : (onlyB x).ok w := by
 refine ⟨h.kind, ?_, ?_, ?_, ?_, ?_, ?_, ?_, ?_, ?_, ?_, ?_⟩
 all_goals unfold onlyB
 all_goals simp only
 all_goals split
 ·exact h.view
 ·decide
 ·exact h.seq
 ·decide
 ·exact h.sum
 ·exact Sl.nothing w
 ·exact h.q
 ·exact GL.nothing _ _
 ·exact h.cl
 ·decide
 ·exact h.st
 ·decide
 ·exact h.vw
 ·decide
 ·exact h.e
 ·exact ⟨by decide, by decide⟩
 ·exact h.c
 ·exact CL.nothing _
 ·exact h.s
 ·exact GL.nothing _ _
 ·exact h.t
 ·exact GL.nothing _ _
theorem onlyQ_map {x : BM} {xs : List QE} (h : x.q.l = xs.map QE.m) : (onlyB x).q.l = (onlyQ x xs).map QE.m := by
 unfold onlyB onlyQ
 simp only
 split
 ·exact h
 ·rfl
theorem onlyQ_mem {x : BM} {xs : List QE} {q : QE} (h : q ∈ onlyQ x xs) : q ∈ xs := by
 unfold onlyQ at h
 split at h
 ·exact h
 ·cases h
theorem rz_pv {x : BM} {w : World} (h : x.ok w) : pvB x.v.rep zPV = x.rz := by
 have hc := h.c.len
 unfold BM.rz
 show (decide (x.cl = 0 ∧ x.st = 0 ∧ x.vw = 0) && (decide (x.e = 0 ∧ x.more = false) && cvL (x.c.l.map CA.c) [])) = _
 have e : cvL (x.c.l.map CA.c) [] = decide (x.c.n = 0) := by
  cases hl : x.c.l with
  | nil => rw [hl] at hc; simp only [List.length_nil] at hc; rw [decide_eq_true hc.symm]; rfl
  | cons a l => rw [hl] at hc; simp only [List.length_cons] at hc; rw [decide_eq_false (by omega)]; rfl
 rw [e, Bool.eq_iff_iff]
 simp only [Bool.and_eq_true, decide_eq_true_eq, Bool.not_eq_true']
 grind
theorem sgB_nil {l : List SV} : sgB l [] = decide (l.length = 0) := by
 cases l with
 | nil => rfl
 | cons a l => rfl
theorem sameL_nil {α : Type} (f : α → α → Bool) (l : List α) : sameL f l [] = decide (l.length = 0) := by
 cases l with
 | nil => rfl
 | cons a l => rfl
theorem qB_self (q : QE) : qB q q = true := by
 unfold qB
 rw [decide_eq_true rfl, decide_eq_true rfl, sameD_self]
 rfl
def noElse (x : BM) : Bool := (hasVw x.kind || decide (x.view = 0)) && ((hasSq x.kind || decide (x.seq = 0)) && ((hasSm x.kind || decide (x.sum.n = 0)) && ((hasRq x.kind || decide (x.q.n = 0)) && ((hasRp x.kind || x.rz) && ((hasCt x.kind || decide (x.s.n = 0)) && (hasSt x.kind || decide (x.t.n = 0)))))))
theorem same_only {x : BM} {xs : List QE} {w : World} (h : x.ok w) (qx : x.q.l = xs.map QE.m) : sameB x (onlyB x) xs (onlyQ x xs) = noElse x := by
 have n1 := h.sum.len
 have n2 : xs.length = x.q.n := by rw [← h.q.len, qx, List.length_map]
 have n3 := h.s.len
 have n4 := h.t.len
 have e1 : decide (x.kind = (onlyB x).kind ∧ x.view = (onlyB x).view ∧ x.seq = (onlyB x).seq ∧ x.sum.xs = (onlyB x).sum.xs ∧ x.q.n = (onlyB x).q.n ∧ x.t.n = (onlyB x).t.n) = ((hasVw x.kind || decide (x.view = 0)) && ((hasSq x.kind || decide (x.seq = 0)) && ((hasSm x.kind || decide (x.sum.n = 0)) && ((hasRq x.kind || decide (x.q.n = 0)) && (hasSt x.kind || decide (x.t.n = 0)))))) := by
  have hs : x.sum.xs = [] ↔ x.sum.n = 0 := by rw [← n1]; exact List.length_eq_zero_iff.symm
  rw [Bool.eq_iff_iff]
  unfold onlyB
  simp only [Bool.and_eq_true, Bool.or_eq_true, decide_eq_true_eq]
  cases hasVw x.kind <;> cases hasSq x.kind <;> cases hasSm x.kind <;> cases hasRq x.kind <;> cases hasSt x.kind <;> simp [hs]
 have e2 : pvB x.v.rep (onlyB x).v.rep = (hasRp x.kind || x.rz) := by
  cases hp : hasRp x.kind with
  | true =>
   have : (onlyB x).v.rep = x.v.rep := by unfold BM.v onlyB; simp only [hp, if_true]
   rw [this, (pvB_iff _ _).2 rfl]
   rfl
  | false =>
   have : (onlyB x).v.rep = zPV := by unfold BM.v onlyB; simp only [hp]; rfl
   rw [this, rz_pv h]
   rfl
 have e3 : sgB (x.s.l.map SA.v) ((onlyB x).s.l.map SA.v) = (hasCt x.kind || decide (x.s.n = 0)) := by
  cases hp : hasCt x.kind with
  | true =>
   have : (onlyB x).s = x.s := by unfold onlyB; simp only [hp, if_true]
   rw [this, sgB_true rfl]
   rfl
  | false =>
   have : (onlyB x).s.l = [] := by unfold onlyB; simp [hp]
   rw [this, List.map_nil, sgB_nil, List.length_map, n3]
   rfl
 have e4 : sameL qB xs (onlyQ x xs) = (hasRq x.kind || decide (x.q.n = 0)) := by
  unfold onlyQ
  cases hp : hasRq x.kind with
  | true =>
   rw [if_pos rfl, sameL_self _ _ (fun q _ => qB_self q)]
   rfl
  | false =>
   rw [if_neg (by decide), sameL_nil, n2]
   rfl
 have e5 : sameL lB x.t.l (onlyB x).t.l = (hasSt x.kind || decide (x.t.n = 0)) := by
  cases hp : hasSt x.kind with
  | true =>
   have : (onlyB x).t = x.t := by unfold onlyB; simp only [hp, if_true]
   rw [this, sameL_self lB x.t.l (fun t _ => (sgB_true rfl : sgB (t.l.map SA.v) (t.l.map SA.v) = true))]
   rfl
  | false =>
   have : (onlyB x).t.l = [] := by unfold onlyB; simp [hp]
   rw [this, sameL_nil, n4]
   rfl
 unfold sameB noElse
 rw [e1, e2, e3, e4, e5]
 cases (hasVw x.kind || decide (x.view = 0)) <;> cases (hasSq x.kind || decide (x.seq = 0)) <;> cases (hasSm x.kind || decide (x.sum.n = 0)) <;> cases (hasRq x.kind || decide (x.q.n = 0)) <;> cases (hasSt x.kind || decide (x.t.n = 0)) <;> cases (hasRp x.kind || x.rz) <;> cases (hasCt x.kind || decide (x.s.n = 0)) <;> rfl
def r1 (x : BM) : Bool := noElse x && decide (1 ≤ x.kind ∧ x.kind ≤ 14 ∧ x.view ≤ 4611686018427387903 ∧ x.seq ≤ 4611686018427387903 ∧ x.t.n ≤ 16)
def r3 (x : BM) : Bool := r1 x && (!(hasSm x.kind) || decide (x.sum.n = 32))
def qOk (q : QM) : Bool := decide (kq q.cl q.st (rightO q.o.s (q.l.map sn0)) = 0)
def tOk (t : LS SA) : Bool := decide (t.n ≤ 16) && t.l.all SA.sg
def wrs (k : Int) : Bool := decide (1 ≤ k ∧ k ≤ 6)
def swR (x : BM) : Bool :=
 if x.kind = 1 then decide (x.q.n = 1)
 else if x.kind = 12 then decide (x.s.n ≤ 4)
 else if x.kind = 13 then decide (x.q.n = 1) && !(x.q.l.any fun q => wrs q.o.kind)
 else if x.kind = 5 then decide (x.cl ≠ 0 ∧ x.st ≠ 0 ∧ x.vw ≤ 4611686018427387903) && rightR (resR x.e x.c.l x.more)
 else if x.kind = 8 then decide (x.t.n = 1)
 else true
def ctR (x : BM) : Bool :=
 if x.kind = 10 then decide (x.s.n = 1) && x.s.l.all SA.pl
 else if x.kind = 14 then decide (x.s.n = 3) && x.s.l.all SA.pl
 else decide (x.s.n ≤ 16) && x.s.l.all SA.sg
def refR (x : BM) : Bool := r3 x && (x.q.l.all qOk && (x.t.l.all tOk && (swR x && ctR x)))
theorem any_not_all {α : Type} {p q : α → Bool} : ∀ {l : List α}, (∀ a ∈ l, p a = !(q a)) → l.any p = !(l.all q)
 | [], _ => rfl
 | a :: l, h => by
  rw [List.any_cons, List.all_cons, h a (List.mem_cons_self ..), any_not_all (fun b hb => h b (List.mem_cons_of_mem _ hb))]
  cases q a <;> rfl
theorem kq_kind {q : QM} (h : qOk q = true) : 1 ≤ q.o.kind ∧ q.o.kind ≤ 8 := by
 obtain ⟨_, _, hr⟩ := kq_zero (of_decide_eq_true h)
 unfold rightO at hr
 exact leaf_kind (Bool.and_eq_true_iff.1 hr).1
theorem ref_right {x : BM} {w : World} (h : x.ok w) : refR x = rightM x := by
 have F1 : (!(x.t.l.any setBad)) = x.t.l.all tOk := by
  rw [any_not_all (q := tOk) (fun t _ => ?_), Bool.not_not]
  unfold setBad tOk
  rw [any_not_all (q := SA.sg) (fun s _ => rfl)]
  by_cases c : t.n ≤ 16
  ·rw [decide_eq_true c, decide_eq_false (by omega)]; simp
  ·rw [decide_eq_false c, decide_eq_true (by omega)]; rfl
 have F2 : x.kind ≠ 13 → (!(x.q.l.any (reqBad x.kind))) = x.q.l.all qOk := fun hk => by
  rw [any_not_all (q := qOk) (fun q _ => ?_), Bool.not_not]
  unfold reqBad qOk
  rw [decide_eq_false hk, Bool.false_and, Bool.or_false]
  exact decide_not
 have F2b : x.kind = 13 → (!(x.q.l.any (reqBad x.kind))) = (x.q.l.all qOk && !(x.q.l.any fun q => wrs q.o.kind)) := fun hk => by
  rw [Bool.eq_iff_iff]
  simp only [Bool.and_eq_true, Bool.not_eq_true', List.any_eq_false, List.all_eq_true]
  constructor
  ·intro g
   have g1 : ∀ q ∈ x.q.l, qOk q = true ∧ ¬ (q.o.kind ≠ 7 ∧ q.o.kind ≠ 8) := fun q hq => by
    have := g q hq
    unfold reqBad at this
    rw [decide_eq_true hk, Bool.true_and] at this
    simp only [Bool.or_eq_true, decide_eq_true_eq, not_or] at this
    exact ⟨decide_eq_true (Decidable.not_not.1 this.1), this.2⟩
   refine ⟨fun q hq => (g1 q hq).1, fun q hq => ?_⟩
   have := (g1 q hq).2
   unfold wrs
   simp only [decide_eq_true_eq]
   omega
  ·rintro ⟨g1, g2⟩ q hq
   have a := kq_kind (g1 q hq)
   have b := g2 q hq
   have c := of_decide_eq_true (g1 q hq)
   unfold wrs at b
   simp only [decide_eq_true_eq] at b
   unfold reqBad
   simp only [Bool.or_eq_true, Bool.and_eq_true, decide_eq_true_eq]
   omega
 have F3 : (!(x.s.l.any fun s => !s.tx x.kind)) = x.s.l.all (SA.tx x.kind ·) := by
  rw [any_not_all (q := (SA.tx x.kind ·)) (fun s _ => rfl), Bool.not_not]
 have zq : x.q.n = 0 → x.q.l = [] := fun e => List.eq_nil_of_length_eq_zero (h.q.len.trans e)
 have zs : x.s.n = 0 → x.s.l = [] := fun e => List.eq_nil_of_length_eq_zero (h.s.len.trans e)
 have zt : x.t.n = 0 → x.t.l = [] := fun e => List.eq_nil_of_length_eq_zero (h.t.len.trans e)
 have T1 : x.kind ≠ 10 ∧ x.kind ≠ 14 → x.s.l.all (SA.tx x.kind ·) = x.s.l.all SA.sg := fun hk => by
  congr 1
  funext s
  unfold SA.tx txOk SA.sg
  rw [if_neg (by omega)]
 have T2 : x.kind = 10 ∨ x.kind = 14 → x.s.l.all (SA.tx x.kind ·) = x.s.l.all SA.pl := fun hk => by
  congr 1
  funext s
  unfold SA.tx txOk SA.pl
  rw [if_pos hk]
 unfold rightM
 rw [F1, F3]
 clear F1 F3
 have hk : x.kind = 1 ∨ x.kind = 2 ∨ x.kind = 3 ∨ x.kind = 4 ∨ x.kind = 5 ∨ x.kind = 6 ∨ x.kind = 7 ∨ x.kind = 8 ∨ x.kind = 9 ∨ x.kind = 10 ∨ x.kind = 11 ∨ x.kind = 12 ∨ x.kind = 13 ∨ x.kind = 14 ∨ ¬ (1 ≤ x.kind ∧ x.kind ≤ 14) := by omega
 have Q0 : x.q.n = 0 → x.q.l.all qOk = true := fun e => by rw [zq e]; rfl
 have S0 : x.s.n = 0 → x.s.l.all SA.sg = true := fun e => by rw [zs e]; rfl
 have R0 : x.t.n = 0 → x.t.l.all tOk = true := fun e => by rw [zt e]; rfl
 have RZ : x.rz = true → x.cl = 0 := fun e => by
  unfold BM.rz at e
  exact (of_decide_eq_true (Bool.and_eq_true_iff.1 e).1).1
 clear zq zs zt
 rcases hk with hk | hk | hk | hk | hk | hk | hk | hk | hk | hk | hk | hk | hk | hk | hk
 ·rw [F2 (by omega), T1 (by omega)]
  clear F2 F2b T1 T2
  unfold refR r3 r1 noElse swR ctR shpOk repOk hasVw hasSq hasSm hasRq hasRp hasCt hasSt BM.hv
  simp only [hk]
  rw [Bool.eq_iff_iff]
  simp
  grind
 ·rw [F2 (by omega), T1 (by omega)]
  clear F2 F2b T1 T2
  unfold refR r3 r1 noElse swR ctR shpOk repOk hasVw hasSq hasSm hasRq hasRp hasCt hasSt BM.hv
  simp only [hk]
  rw [Bool.eq_iff_iff]
  simp
  grind
 ·rw [F2 (by omega), T1 (by omega)]
  clear F2 F2b T1 T2
  unfold refR r3 r1 noElse swR ctR shpOk repOk hasVw hasSq hasSm hasRq hasRp hasCt hasSt BM.hv
  simp only [hk]
  rw [Bool.eq_iff_iff]
  simp
  grind
 ·rw [F2 (by omega), T1 (by omega)]
  clear F2 F2b T1 T2
  unfold refR r3 r1 noElse swR ctR shpOk repOk hasVw hasSq hasSm hasRq hasRp hasCt hasSt BM.hv
  simp only [hk]
  rw [Bool.eq_iff_iff]
  simp
  grind
 ·rw [F2 (by omega), T1 (by omega)]
  clear F2 F2b T1 T2
  unfold refR r3 r1 noElse swR ctR shpOk repOk hasVw hasSq hasSm hasRq hasRp hasCt hasSt BM.hv
  simp only [hk]
  rw [Bool.eq_iff_iff]
  simp
  grind
 ·rw [F2 (by omega), T1 (by omega)]
  clear F2 F2b T1 T2
  unfold refR r3 r1 noElse swR ctR shpOk repOk hasVw hasSq hasSm hasRq hasRp hasCt hasSt BM.hv
  simp only [hk]
  rw [Bool.eq_iff_iff]
  simp
  grind
 ·rw [F2 (by omega), T1 (by omega)]
  clear F2 F2b T1 T2
  unfold refR r3 r1 noElse swR ctR shpOk repOk hasVw hasSq hasSm hasRq hasRp hasCt hasSt BM.hv
  simp only [hk]
  rw [Bool.eq_iff_iff]
  simp
  grind
 ·rw [F2 (by omega), T1 (by omega)]
  clear F2 F2b T1 T2
  unfold refR r3 r1 noElse swR ctR shpOk repOk hasVw hasSq hasSm hasRq hasRp hasCt hasSt BM.hv
  simp only [hk]
  rw [Bool.eq_iff_iff]
  simp
  grind
 ·rw [F2 (by omega), T1 (by omega)]
  clear F2 F2b T1 T2
  unfold refR r3 r1 noElse swR ctR shpOk repOk hasVw hasSq hasSm hasRq hasRp hasCt hasSt BM.hv
  simp only [hk]
  rw [Bool.eq_iff_iff]
  simp
  grind
 ·rw [F2 (by omega), T2 (by omega)]
  clear F2 F2b T1 T2
  unfold refR r3 r1 noElse swR ctR shpOk repOk hasVw hasSq hasSm hasRq hasRp hasCt hasSt BM.hv
  simp only [hk]
  rw [Bool.eq_iff_iff]
  simp
  grind
 ·rw [F2 (by omega), T1 (by omega)]
  clear F2 F2b T1 T2
  unfold refR r3 r1 noElse swR ctR shpOk repOk hasVw hasSq hasSm hasRq hasRp hasCt hasSt BM.hv
  simp only [hk]
  rw [Bool.eq_iff_iff]
  simp
  grind
 ·rw [F2 (by omega), T1 (by omega)]
  clear F2 F2b T1 T2
  unfold refR r3 r1 noElse swR ctR shpOk repOk hasVw hasSq hasSm hasRq hasRp hasCt hasSt BM.hv
  simp only [hk]
  rw [Bool.eq_iff_iff]
  simp
  grind
 ·rw [F2b hk, T1 (by omega)]
  clear F2 F2b T1 T2
  unfold refR r3 r1 noElse swR ctR shpOk repOk hasVw hasSq hasSm hasRq hasRp hasCt hasSt BM.hv
  simp only [hk]
  rw [Bool.eq_iff_iff]
  simp
  grind
 ·rw [F2 (by omega), T2 (by omega)]
  clear F2 F2b T1 T2
  unfold refR r3 r1 noElse swR ctR shpOk repOk hasVw hasSq hasSm hasRq hasRp hasCt hasSt BM.hv
  simp only [hk]
  rw [Bool.eq_iff_iff]
  simp
  grind
 ·have e1 : refR x = false := by
   unfold refR r3 r1
   rw [decide_eq_false (fun g => hk ⟨g.1, g.2.1⟩)]
   simp
  rw [e1]
  have e2 : shpOk x.kind x.hv = false := by
   cases e : shpOk x.kind x.hv with
   | false => rfl
   | true => exact absurd (shp_kind e) hk
  rw [e2]
  rfl
open Go.RowKit
theorem sameL_cong {α : Type} {f g : α → α → Bool} (h : ∀ a b, f a b = g a b) : ∀ l m : List α, sameL f l m = sameL g l m
 | [], [] => rfl
 | a :: l, b :: m => by rw [sameL, sameL, h, sameL_cong h l m]
 | [], _ :: _ => rfl
 | _ :: _, [] => rfl
theorem sameL_of_map {α β : Type} (p : α → β) (F : β → β → Bool) : ∀ l m : List α, sameL (fun a b => F (p a) (p b)) l m = sameL F (l.map p) (m.map p)
 | [], [] => rfl
 | a :: l, b :: m => by rw [List.map_cons, List.map_cons, sameL, sameL, sameL_of_map p F l m]
 | [], _ :: _ => rfl
 | _ :: _, [] => rfl
theorem sg_eq : ∀ l m : List SA, sameL sgE l m = sgB (l.map SA.v) (m.map SA.v)
 | [], [] => rfl
 | a :: l, b :: m => by
  rw [List.map_cons, List.map_cons, sameL, sgB, sg_eq l m]
  rfl
 | [], _ :: _ => rfl
 | _ :: _, [] => rfl
theorem ls_eq (s t : LS SA) : lsE s t = lB s t := sg_eq s.l t.l
theorem ce_eq (c d : CA) : ceE c d = cvB c.c d.c := by
 unfold ceE kyE cvB
 rw [Bool.eq_iff_iff]
 simp only [Bool.and_eq_true, decide_eq_true_eq]
 constructor
 ·rintro ⟨⟨h1, h2, h3, h4⟩, h5, h6⟩
  exact ⟨h1, h2, h3, h4, h5, h6⟩
 ·rintro ⟨h1, h2, h3, h4, h5, h6⟩
  exact ⟨⟨h1, h2, h3, h4⟩, h5, h6⟩
theorem ceL_eq : ∀ l m : List CA, sameL ceE l m = cvL (l.map CA.c) (m.map CA.c)
 | [], [] => rfl
 | a :: l, b :: m => by rw [List.map_cons, List.map_cons, sameL, cvL, ce_eq, ceL_eq l m]
 | [], _ :: _ => rfl
 | _ :: _, [] => rfl
theorem lsL_eq {zs ts : List (LS SA)} {xs ys : List (LS SA)} (h1 : zs.map lsV = xs.map lsV) (h2 : ts.map lsV = ys.map lsV) : sameL lsE zs ts = sameL lB xs ys := by
 have e : ∀ l m : List (LS SA), sameL lsE l m = sameL (fun a b : Nat × List SA => sameL sgE a.2 b.2) (l.map lsV) (m.map lsV) := fun l m => sameL_of_map lsV (fun a b : Nat × List SA => sameL sgE a.2 b.2) l m
 rw [e, h1, h2, ← e]
 exact sameL_cong ls_eq xs ys
theorem ms_own {x y : BM} {xs ys : List QE} {so vo so2 vo2 : Option Addr} {sc vc sc2 vc2 : Nat} {zs zs2 : List (LS SA)} (h1 : zs.map lsV = x.t.l.map lsV) (h2 : zs2.map lsV = y.t.l.map lsV) (nx : xs.length = x.q.n) (ny : ys.length = y.q.n) (tx : x.t.l.length = x.t.n) (ty : y.t.l.length = y.t.n) :
  msB (ownB x so sc vo vc zs) (ownB y so2 sc2 vo2 vc2 zs2) xs ys = sameB x y xs ys := by
 have e1 : sameL lsE zs zs2 = sameL lB x.t.l y.t.l := lsL_eq h1 h2
 have e2 : sameL qeE xs ys = sameL qB xs ys := sameL_cong (fun _ _ => rfl) xs ys
 have e3 : sameL sgE x.s.l y.s.l = sgB (x.s.l.map SA.v) (y.s.l.map SA.v) := sg_eq _ _
 have e4 : sameL ceE x.c.l y.c.l = cvL (x.c.l.map CA.c) (y.c.l.map CA.c) := ceL_eq _ _
 show (decide (x.kind = y.kind) && (decide (x.view = y.view) && (decide (x.seq = y.seq) && (decide (x.sum.xs = y.sum.xs) && (sameL qeE xs ys && (rpE x.cl x.st x.vw y.cl y.st y.vw (decide (x.e = y.e) && (decide (x.more = y.more) && sameL ceE x.c.l y.c.l)) && (sameL sgE x.s.l y.s.l && sameL lsE zs zs2))))))) = _
 rw [e1, e2, e3, e4]
 unfold sameB pvB rvB rpE
 show _ = (_ && ((decide (x.cl = y.cl ∧ x.st = y.st ∧ x.vw = y.vw) && (decide (x.e = y.e ∧ x.more = y.more) && cvL (x.c.l.map CA.c) (y.c.l.map CA.c))) && _))
 rw [Bool.eq_iff_iff]
 simp only [Bool.and_eq_true, decide_eq_true_eq]
 constructor
 ·rintro ⟨a1, a2, a3, a4, a5, ⟨b1, b2, b3, b4, b5, b6⟩, a7, a8⟩
  have l1 := sameL_len3 a5
  have l2 := sameL_len3 a8
  exact ⟨⟨a1, a2, a3, a4, by omega, by omega⟩, ⟨⟨b1, b2, b3⟩, ⟨b4, b5⟩, b6⟩, a7, a5, a8⟩
 ·rintro ⟨⟨a1, a2, a3, a4, -, -⟩, ⟨⟨b1, b2, b3⟩, ⟨b4, b5⟩, b6⟩, a7, a5, a8⟩
  exact ⟨a1, a2, a3, a4, a5, ⟨b1, b2, b3, b4, b5, b6⟩, a7, a8⟩
theorem sameB_self (x : BM) (xs : List QE) : sameB x x xs xs = true := by
 unfold sameB
 rw [decide_eq_true ⟨rfl, rfl, rfl, rfl, rfl, rfl⟩, (pvB_iff _ _).2 rfl, (sgB_iff _ _).2 rfl, sameL_self qB xs (fun q _ => qB_self q), sameL_self lB x.t.l (fun s _ => (sgB_iff _ _).2 rfl)]
 rfl
end Go.Proofs.YtnbejckdhdbamaaGreat

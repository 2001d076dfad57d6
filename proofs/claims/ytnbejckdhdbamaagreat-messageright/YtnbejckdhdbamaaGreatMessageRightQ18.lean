/-
  Texts in one: RSame13.
-/
import Derived.Test.YtnbejckdhdbamaaGreatMessageRightQFL
import Derived.Test.YtnbejckdhdbamaaGreatMessageRightQ14
import Derived.Test.YtnbejckdhdbamaaGreatMessageRightQ15
import Derived.Test.YtnbejckdhdbamaaGreatMessageRightQ17
import Derived.Test.YtnbejckdhdbamaaGreatMessageRightQ10
import Derived.Test.YtnbejckdhdbamaaGreatMessageRightQ8
namespace Go.Proofs.YtnbejckdhdbamaaGreat
open Go.RowKit
def pvB (a b : PV) : Bool := decide (a.cl = b.cl ∧ a.st = b.st ∧ a.vw = b.vw) && rvB a.r b.r
theorem pvB_iff (a b : PV) : pvB a b = true ↔ a = b := by
 obtain ⟨a1, a2, a3, a4⟩ := a
 obtain ⟨b1, b2, b3, b4⟩ := b
 unfold pvB
 simp only [Bool.and_eq_true, decide_eq_true_eq, rvB_iff, PV.mk.injEq]
 constructor
 ·rintro ⟨⟨h1, h2, h3⟩, h4⟩; exact ⟨h1, h2, h3, h4⟩
 ·rintro ⟨h1, h2, h3, h4⟩; exact ⟨⟨h1, h2, h3⟩, h4⟩
theorem pvB_no {a b : PV} (h : a ≠ b) : pvB a b = false := by
 cases e : pvB a b with
 | false => rfl
 | true => exact absurd ((pvB_iff a b).1 e) h
def qB (x y : QE) : Bool := decide (x.cl = y.cl) && (decide (x.st = y.st) && sameD 3 x.x y.x)
def lB (s t : LS SA) : Bool := sgB (s.l.map SA.v) (t.l.map SA.v)
def sameB (x y : BM) (xs ys : List QE) : Bool := decide (x.kind = y.kind ∧ x.view = y.view ∧ x.seq = y.seq ∧ x.sum.xs = y.sum.xs ∧ x.q.n = y.q.n ∧ x.t.n = y.t.n) && (pvB x.v.rep y.v.rep && (sgB (x.s.l.map SA.v) (y.s.l.map SA.v) && (sameL qB xs ys && sameL lB x.t.l y.t.l)))
set_option maxRecDepth 100000 in
set_option maxHeartbeats 4000000 in
theorem rreplies_any (w : World) (a1 a2 a3 b1 b2 b3 : Nat) (ae be : Int) (ao bo : Option Addr) (an ac bn bc : Nat) (l l2 : List CA) (am bm : Bool) (L : CL w ao an ac l) (L2 : CL w bo bn bc l2) :
  Calls Tryz.prog 33 #[.agg #[.int .u64 (a1 : Nat), .int .u64 (a2 : Nat), .int .u64 (a3 : Nat), .int .i64 ae, .slice ao an ac, .bool am], .agg #[.int .u64 (b1 : Nat), .int .u64 (b2 : Nat), .int .u64 (b3 : Nat), .int .i64 be, .slice bo bn bc, .bool bm]] w fun x w' => x = .returned (.bool (pvB ⟨a1, a2, a3, resR ae l am⟩ ⟨b1, b2, b3, resR be l2 bm⟩)) ∧ Below w.heap.size w w' := by
 have B : Below w.heap.size w ((w.alloc (Obj.cells #[.int .u64 (a1 : Nat), .int .u64 (a2 : Nat), .int .u64 (a3 : Nat), .int .i64 ae, .slice ao an ac, .bool am] 30)).alloc (Obj.cells #[.int .u64 (b1 : Nat), .int .u64 (b2 : Nat), .int .u64 (b3 : Nat), .int .i64 be, .slice bo bn bc, .bool bm] 30)) := ((Below.refl _ w).alloc (Nat.le_refl _) _).alloc (by simp) _
 by_cases c0 : ¬ (a1 = b1)
 ·have i0 : ((a1 : Int) == (b1 : Int)) = false := by simp; omega
  have hv : Hid (pvB ⟨a1, a2, a3, resR ae l am⟩ ⟨b1, b2, b3, resR be l2 bm⟩ = false) := pvB_no fun h => c0 (congrArg PV.cl h)
  clear c0 L L2
  go_enter Tryz.func33, Tryz.ntmps33
  go_wp2
  go_ret
  exact ⟨by rw [hv.out] <;> rfl, B⟩
 have H0 : Hid (a1 = b1) := Classical.not_not.1 c0
 have i0 : ((a1 : Int) == (b1 : Int)) = true := by have := H0.out; simp; omega
 clear c0
 by_cases c1 : ¬ (a2 = b2)
 ·have i1 : ((a2 : Int) == (b2 : Int)) = false := by simp; omega
  have hv : Hid (pvB ⟨a1, a2, a3, resR ae l am⟩ ⟨b1, b2, b3, resR be l2 bm⟩ = false) := pvB_no fun h => c1 (congrArg PV.st h)
  clear c1 L L2
  go_enter Tryz.func33, Tryz.ntmps33
  go_wp2
  go_ret
  exact ⟨by rw [hv.out] <;> rfl, B⟩
 have H1 : Hid (a2 = b2) := Classical.not_not.1 c1
 have i1 : ((a2 : Int) == (b2 : Int)) = true := by have := H1.out; simp; omega
 clear c1
 by_cases c2 : ¬ (a3 = b3)
 ·have i2 : ((a3 : Int) == (b3 : Int)) = false := by simp; omega
  have hv : Hid (pvB ⟨a1, a2, a3, resR ae l am⟩ ⟨b1, b2, b3, resR be l2 bm⟩ = false) := pvB_no fun h => c2 (congrArg PV.vw h)
  clear c2 L L2
  go_enter Tryz.func33, Tryz.ntmps33
  go_wp2
  go_ret
  exact ⟨by rw [hv.out] <;> rfl, B⟩
 have H2 : Hid (a3 = b3) := Classical.not_not.1 c2
 have i2 : ((a3 : Int) == (b3 : Int)) = true := by have := H2.out; simp; omega
 clear c2
 have hv : Hid (pvB ⟨a1, a2, a3, resR ae l am⟩ ⟨b1, b2, b3, resR be l2 bm⟩ = rvB (resR ae l am) (resR be l2 bm)) := by
  show _ = _
  unfold pvB
  simp only
  rw [decide_eq_true ⟨H0.out, H1.out, H2.out⟩, Bool.true_and]
 clear H0 H1 H2
 have CR := rresg_any ((w.alloc (Obj.cells #[.int .u64 (a1 : Nat), .int .u64 (a2 : Nat), .int .u64 (a3 : Nat), .int .i64 ae, .slice ao an ac, .bool am] 30)).alloc (Obj.cells #[.int .u64 (b1 : Nat), .int .u64 (b2 : Nat), .int .u64 (b3 : Nat), .int .i64 be, .slice bo bn bc, .bool bm] 30)) ae be ao bo an ac bn bc l l2 am bm (L.below B) (L2.below B)
 go_enter Tryz.func33, Tryz.ntmps33
 go_wp2_with fail
 refine CR.mono ?_
 rintro e w2 ⟨rfl, C⟩
 have B2 := B.trans (C.mono B.size)
 clear CR C B L L2
 go_wp2
 go_ret
 exact ⟨by rw [hv.out] <;> rfl, B2⟩
set_option maxRecDepth 100000 in
set_option maxHeartbeats 16000000 in
theorem rsame13 (w : World) (x y : BM) (xs ys : List QE) (hx : x.ok w) (hy : y.ok w) (qx : x.q.l = xs.map QE.m) (qy : y.q.l = ys.map QE.m) (wx : ∀ q ∈ xs, OW w 3 q.x) (wy : ∀ q ∈ ys, OW w 3 q.x) (lx : ∀ q ∈ xs, lightD 3 q.x = true) (ly : ∀ q ∈ ys, lightD 3 q.x = true) :
  Calls Tryz.prog 11 #[x.val, y.val] w fun e w' => e = .returned (.bool (sameB x y xs ys)) ∧ Below w.heap.size w w' := by
 have B : Below w.heap.size w ((w.alloc (Obj.cells #[.int .i64 x.kind, .int .u64 (x.view : Nat), .int .u64 (x.seq : Nat), .slice x.sum.ao x.sum.n x.sum.cap, .slice x.q.ao x.q.n x.q.cap, .int .u64 (x.cl : Nat), .int .u64 (x.st : Nat), .int .u64 (x.vw : Nat), .int .i64 x.e, .slice x.c.ao x.c.n x.c.cap, .bool x.more, .slice x.s.ao x.s.n x.s.cap, .slice x.t.ao x.t.n x.t.cap] 34)).alloc (Obj.cells #[.int .i64 y.kind, .int .u64 (y.view : Nat), .int .u64 (y.seq : Nat), .slice y.sum.ao y.sum.n y.sum.cap, .slice y.q.ao y.q.n y.q.cap, .int .u64 (y.cl : Nat), .int .u64 (y.st : Nat), .int .u64 (y.vw : Nat), .int .i64 y.e, .slice y.c.ao y.c.n y.c.cap, .bool y.more, .slice y.s.ao y.s.n y.s.cap, .slice y.t.ao y.t.n y.t.cap] 34)) := ((Below.refl _ w).alloc (Nat.le_refl _) _).alloc (by simp) _
 have KX : ((w.alloc (Obj.cells #[.int .i64 x.kind, .int .u64 (x.view : Nat), .int .u64 (x.seq : Nat), .slice x.sum.ao x.sum.n x.sum.cap, .slice x.q.ao x.q.n x.q.cap, .int .u64 (x.cl : Nat), .int .u64 (x.st : Nat), .int .u64 (x.vw : Nat), .int .i64 x.e, .slice x.c.ao x.c.n x.c.cap, .bool x.more, .slice x.s.ao x.s.n x.s.cap, .slice x.t.ao x.t.n x.t.cap] 34)).alloc (Obj.cells #[.int .i64 y.kind, .int .u64 (y.view : Nat), .int .u64 (y.seq : Nat), .slice y.sum.ao y.sum.n y.sum.cap, .slice y.q.ao y.q.n y.q.cap, .int .u64 (y.cl : Nat), .int .u64 (y.st : Nat), .int .u64 (y.vw : Nat), .int .i64 y.e, .slice y.c.ao y.c.n y.c.cap, .bool y.more, .slice y.s.ao y.s.n y.s.cap, .slice y.t.ao y.t.n y.t.cap] 34)).heap[w.heap.size]? = some (.cells #[.int .i64 x.kind, .int .u64 (x.view : Nat), .int .u64 (x.seq : Nat), .slice x.sum.ao x.sum.n x.sum.cap, .slice x.q.ao x.q.n x.q.cap, .int .u64 (x.cl : Nat), .int .u64 (x.st : Nat), .int .u64 (x.vw : Nat), .int .i64 x.e, .slice x.c.ao x.c.n x.c.cap, .bool x.more, .slice x.s.ao x.s.n x.s.cap, .slice x.t.ao x.t.n x.t.cap] 34) := (heap_alloc_old _ _ (by simp)).trans (heap_alloc_new w _)
 have KY : ((w.alloc (Obj.cells #[.int .i64 x.kind, .int .u64 (x.view : Nat), .int .u64 (x.seq : Nat), .slice x.sum.ao x.sum.n x.sum.cap, .slice x.q.ao x.q.n x.q.cap, .int .u64 (x.cl : Nat), .int .u64 (x.st : Nat), .int .u64 (x.vw : Nat), .int .i64 x.e, .slice x.c.ao x.c.n x.c.cap, .bool x.more, .slice x.s.ao x.s.n x.s.cap, .slice x.t.ao x.t.n x.t.cap] 34)).alloc (Obj.cells #[.int .i64 y.kind, .int .u64 (y.view : Nat), .int .u64 (y.seq : Nat), .slice y.sum.ao y.sum.n y.sum.cap, .slice y.q.ao y.q.n y.q.cap, .int .u64 (y.cl : Nat), .int .u64 (y.st : Nat), .int .u64 (y.vw : Nat), .int .i64 y.e, .slice y.c.ao y.c.n y.c.cap, .bool y.more, .slice y.s.ao y.s.n y.s.cap, .slice y.t.ao y.t.n y.t.cap] 34)).heap[w.heap.size + 1]? = some (.cells #[.int .i64 y.kind, .int .u64 (y.view : Nat), .int .u64 (y.seq : Nat), .slice y.sum.ao y.sum.n y.sum.cap, .slice y.q.ao y.q.n y.q.cap, .int .u64 (y.cl : Nat), .int .u64 (y.st : Nat), .int .u64 (y.vw : Nat), .int .i64 y.e, .slice y.c.ao y.c.n y.c.cap, .bool y.more, .slice y.s.ao y.s.n y.s.cap, .slice y.t.ao y.t.n y.t.cap] 34) := by
  have := heap_alloc_new (w.alloc (Obj.cells #[.int .i64 x.kind, .int .u64 (x.view : Nat), .int .u64 (x.seq : Nat), .slice x.sum.ao x.sum.n x.sum.cap, .slice x.q.ao x.q.n x.q.cap, .int .u64 (x.cl : Nat), .int .u64 (x.st : Nat), .int .u64 (x.vw : Nat), .int .i64 x.e, .slice x.c.ao x.c.n x.c.cap, .bool x.more, .slice x.s.ao x.s.n x.s.cap, .slice x.t.ao x.t.n x.t.cap] 34)) (Obj.cells #[.int .i64 y.kind, .int .u64 (y.view : Nat), .int .u64 (y.seq : Nat), .slice y.sum.ao y.sum.n y.sum.cap, .slice y.q.ao y.q.n y.q.cap, .int .u64 (y.cl : Nat), .int .u64 (y.st : Nat), .int .u64 (y.vw : Nat), .int .i64 y.e, .slice y.c.ao y.c.n y.c.cap, .bool y.more, .slice y.s.ao y.s.n y.s.cap, .slice y.t.ao y.t.n y.t.cap] 34)
  simpa using this
 have nx : xs.length = x.q.n := by rw [← hx.q.len, qx, List.length_map]
 have ny : ys.length = y.q.n := by rw [← hy.q.len, qy, List.length_map]
 have tx : x.t.l.length = x.t.n := hx.t.len
 have ty : y.t.l.length = y.t.n := hy.t.len
 have mx1 := hx.q.mx
 have mx2 := hx.q.le
 have mx3 := hx.t.mx
 have mx4 := hx.t.le
 simp only [maxLen] at mx1 mx3
 have GX : GL elQ w x.q.ao x.q.n x.q.cap (xs.map QE.m) := by rw [← qx]; exact hx.q
 have GY : GL elQ w y.q.ao y.q.n y.q.cap (ys.map QE.m) := by rw [← qy]; exact hy.q
 clear qx qy
 unfold BM.val
 by_cases c0 : ¬ (x.kind = y.kind)
 ·have ic0 : (x.kind != y.kind) = true := by simp [c0]
  have hv : Hid (sameB x y xs ys = false) := by show _ = _; unfold sameB; rw [decide_eq_false (fun h => c0 h.1)]; rfl
  clear c0
  go_enter Tryz.func11, Tryz.ntmps11
  go_wp2
  go_ret
  exact ⟨by rw [hv.out] <;> rfl, B⟩
 have Hc0 : Hid (x.kind = y.kind) := Classical.not_not.1 c0
 have ic0 : (x.kind != y.kind) = false := by simp [Hc0.out]
 clear c0
 by_cases c1 : ¬ (x.view = y.view)
 ·have ic1 : ((x.view : Int) != (y.view : Int)) = true := by simp; omega
  have hv : Hid (sameB x y xs ys = false) := by show _ = _; unfold sameB; rw [decide_eq_false (fun h => c1 h.2.1)]; rfl
  clear c1
  go_enter Tryz.func11, Tryz.ntmps11
  go_wp2
  go_ret
  exact ⟨by rw [hv.out] <;> rfl, B⟩
 have Hc1 : Hid (x.view = y.view) := Classical.not_not.1 c1
 have ic1 : ((x.view : Int) != (y.view : Int)) = false := by have := Hc1.out; simp; omega
 clear c1
 by_cases c2 : ¬ (x.seq = y.seq)
 ·have ic2 : ((x.seq : Int) != (y.seq : Int)) = true := by simp; omega
  have hv : Hid (sameB x y xs ys = false) := by show _ = _; unfold sameB; rw [decide_eq_false (fun h => c2 h.2.2.1)]; rfl
  clear c2
  go_enter Tryz.func11, Tryz.ntmps11
  go_wp2
  go_ret
  exact ⟨by rw [hv.out] <;> rfl, B⟩
 have Hc2 : Hid (x.seq = y.seq) := Classical.not_not.1 c2
 have ic2 : ((x.seq : Int) != (y.seq : Int)) = false := by have := Hc2.out; simp; omega
 clear c2
 go_enter Tryz.func11, Tryz.ntmps11
 go_wp2_with fail
 obtain ⟨w1, hw1⟩ : ∃ W, W = ((w.alloc (Obj.cells #[.int .i64 x.kind, .int .u64 (x.view : Nat), .int .u64 (x.seq : Nat), .slice x.sum.ao x.sum.n x.sum.cap, .slice x.q.ao x.q.n x.q.cap, .int .u64 (x.cl : Nat), .int .u64 (x.st : Nat), .int .u64 (x.vw : Nat), .int .i64 x.e, .slice x.c.ao x.c.n x.c.cap, .bool x.more, .slice x.s.ao x.s.n x.s.cap, .slice x.t.ao x.t.n x.t.cap] 34)).alloc (Obj.cells #[.int .i64 y.kind, .int .u64 (y.view : Nat), .int .u64 (y.seq : Nat), .slice y.sum.ao y.sum.n y.sum.cap, .slice y.q.ao y.q.n y.q.cap, .int .u64 (y.cl : Nat), .int .u64 (y.st : Nat), .int .u64 (y.vw : Nat), .int .i64 y.e, .slice y.c.ao y.c.n y.c.cap, .bool y.more, .slice y.s.ao y.s.n y.s.cap, .slice y.t.ao y.t.n y.t.cap] 34)) := ⟨_, rfl⟩
 rw [← hw1] at B KX KY ⊢
 obtain ⟨N, hN⟩ : ∃ N, N = w.heap.size := ⟨_, rfl⟩
 rw [← hN] at KX KY ⊢
 have HN : Hid (N = w.heap.size) := hN
 have hN1 : N + 1 < w1.heap.size := (Array.getElem?_eq_some_iff.1 KY).1
 clear hw1 hN ic0 ic1 ic2
 have C : Below w1.heap.size w1 w1 := Below.refl _ _
 have BX : Hid (Below w.heap.size w w1) := B
 refine (below_same (hx.sum.below B) (hy.sum.below B) w1 (Below.refl _ _)).mono ?_
 rintro e w3 ⟨rfl, D⟩
 have B := B.trans (D.mono B.size)
 have C := C.trans (D.mono C.size)
 clear D
 have p0 := cell_of_row w3 (N) 0 _ _ _ ((C.block (N) (by omega)).trans KX)
 have p1 := cell_of_row w3 (N) 1 _ _ _ ((C.block (N) (by omega)).trans KX)
 have p2 := cell_of_row w3 (N) 2 _ _ _ ((C.block (N) (by omega)).trans KX)
 have p3 := cell_of_row w3 (N) 3 _ _ _ ((C.block (N) (by omega)).trans KX)
 have p4 := cell_of_row w3 (N) 4 _ _ _ ((C.block (N) (by omega)).trans KX)
 have p5 := cell_of_row w3 (N) 5 _ _ _ ((C.block (N) (by omega)).trans KX)
 have p6 := cell_of_row w3 (N) 6 _ _ _ ((C.block (N) (by omega)).trans KX)
 have p7 := cell_of_row w3 (N) 7 _ _ _ ((C.block (N) (by omega)).trans KX)
 have p8 := cell_of_row w3 (N) 8 _ _ _ ((C.block (N) (by omega)).trans KX)
 have p9 := cell_of_row w3 (N) 9 _ _ _ ((C.block (N) (by omega)).trans KX)
 have p10 := cell_of_row w3 (N) 10 _ _ _ ((C.block (N) (by omega)).trans KX)
 have p11 := cell_of_row w3 (N) 11 _ _ _ ((C.block (N) (by omega)).trans KX)
 have p12 := cell_of_row w3 (N) 12 _ _ _ ((C.block (N) (by omega)).trans KX)
 have q0 := cell_of_row w3 (N + 1) 0 _ _ _ ((C.block (N + 1) (by omega)).trans KY)
 have q1 := cell_of_row w3 (N + 1) 1 _ _ _ ((C.block (N + 1) (by omega)).trans KY)
 have q2 := cell_of_row w3 (N + 1) 2 _ _ _ ((C.block (N + 1) (by omega)).trans KY)
 have q3 := cell_of_row w3 (N + 1) 3 _ _ _ ((C.block (N + 1) (by omega)).trans KY)
 have q4 := cell_of_row w3 (N + 1) 4 _ _ _ ((C.block (N + 1) (by omega)).trans KY)
 have q5 := cell_of_row w3 (N + 1) 5 _ _ _ ((C.block (N + 1) (by omega)).trans KY)
 have q6 := cell_of_row w3 (N + 1) 6 _ _ _ ((C.block (N + 1) (by omega)).trans KY)
 have q7 := cell_of_row w3 (N + 1) 7 _ _ _ ((C.block (N + 1) (by omega)).trans KY)
 have q8 := cell_of_row w3 (N + 1) 8 _ _ _ ((C.block (N + 1) (by omega)).trans KY)
 have q9 := cell_of_row w3 (N + 1) 9 _ _ _ ((C.block (N + 1) (by omega)).trans KY)
 have q10 := cell_of_row w3 (N + 1) 10 _ _ _ ((C.block (N + 1) (by omega)).trans KY)
 have q11 := cell_of_row w3 (N + 1) 11 _ _ _ ((C.block (N + 1) (by omega)).trans KY)
 have q12 := cell_of_row w3 (N + 1) 12 _ _ _ ((C.block (N + 1) (by omega)).trans KY)
 by_cases c3 : ¬ (x.sum.xs = y.sum.xs)
 ·rw [decide_eq_false c3]
  have hv : Hid (sameB x y xs ys = false) := by show _ = _; unfold sameB; rw [decide_eq_false (fun h => c3 h.2.2.2.1)]; rfl
  clear c3
  go_wp2
  go_ret
  exact ⟨by rw [hv.out] <;> rfl, B⟩
 have Hc3 : Hid (x.sum.xs = y.sum.xs) := Classical.not_not.1 c3
 rw [decide_eq_true Hc3.out]
 clear c3
 go_wp2_with fail
 refine (rreplies_any w3 x.cl x.st x.vw y.cl y.st y.vw x.e y.e x.c.ao y.c.ao x.c.n x.c.cap y.c.n y.c.cap x.c.l y.c.l x.more y.more (hx.c.below B) (hy.c.below B)).mono ?_
 rintro e w4 ⟨rfl, D⟩
 have B := B.trans (D.mono B.size)
 have C := C.trans (D.mono C.size)
 clear D
 clear p0 p1 p2 p3 p4 p5 p6 p7 p8 p9 p10 p11 p12 q0 q1 q2 q3 q4 q5 q6 q7 q8 q9 q10 q11 q12
 have p0 := cell_of_row w4 (N) 0 _ _ _ ((C.block (N) (by omega)).trans KX)
 have p1 := cell_of_row w4 (N) 1 _ _ _ ((C.block (N) (by omega)).trans KX)
 have p2 := cell_of_row w4 (N) 2 _ _ _ ((C.block (N) (by omega)).trans KX)
 have p3 := cell_of_row w4 (N) 3 _ _ _ ((C.block (N) (by omega)).trans KX)
 have p4 := cell_of_row w4 (N) 4 _ _ _ ((C.block (N) (by omega)).trans KX)
 have p5 := cell_of_row w4 (N) 5 _ _ _ ((C.block (N) (by omega)).trans KX)
 have p6 := cell_of_row w4 (N) 6 _ _ _ ((C.block (N) (by omega)).trans KX)
 have p7 := cell_of_row w4 (N) 7 _ _ _ ((C.block (N) (by omega)).trans KX)
 have p8 := cell_of_row w4 (N) 8 _ _ _ ((C.block (N) (by omega)).trans KX)
 have p9 := cell_of_row w4 (N) 9 _ _ _ ((C.block (N) (by omega)).trans KX)
 have p10 := cell_of_row w4 (N) 10 _ _ _ ((C.block (N) (by omega)).trans KX)
 have p11 := cell_of_row w4 (N) 11 _ _ _ ((C.block (N) (by omega)).trans KX)
 have p12 := cell_of_row w4 (N) 12 _ _ _ ((C.block (N) (by omega)).trans KX)
 have q0 := cell_of_row w4 (N + 1) 0 _ _ _ ((C.block (N + 1) (by omega)).trans KY)
 have q1 := cell_of_row w4 (N + 1) 1 _ _ _ ((C.block (N + 1) (by omega)).trans KY)
 have q2 := cell_of_row w4 (N + 1) 2 _ _ _ ((C.block (N + 1) (by omega)).trans KY)
 have q3 := cell_of_row w4 (N + 1) 3 _ _ _ ((C.block (N + 1) (by omega)).trans KY)
 have q4 := cell_of_row w4 (N + 1) 4 _ _ _ ((C.block (N + 1) (by omega)).trans KY)
 have q5 := cell_of_row w4 (N + 1) 5 _ _ _ ((C.block (N + 1) (by omega)).trans KY)
 have q6 := cell_of_row w4 (N + 1) 6 _ _ _ ((C.block (N + 1) (by omega)).trans KY)
 have q7 := cell_of_row w4 (N + 1) 7 _ _ _ ((C.block (N + 1) (by omega)).trans KY)
 have q8 := cell_of_row w4 (N + 1) 8 _ _ _ ((C.block (N + 1) (by omega)).trans KY)
 have q9 := cell_of_row w4 (N + 1) 9 _ _ _ ((C.block (N + 1) (by omega)).trans KY)
 have q10 := cell_of_row w4 (N + 1) 10 _ _ _ ((C.block (N + 1) (by omega)).trans KY)
 have q11 := cell_of_row w4 (N + 1) 11 _ _ _ ((C.block (N + 1) (by omega)).trans KY)
 have q12 := cell_of_row w4 (N + 1) 12 _ _ _ ((C.block (N + 1) (by omega)).trans KY)
 by_cases c4 : ¬ (x.v.rep = y.v.rep)
 ·rw [show pvB ⟨x.cl, x.st, x.vw, resR x.e x.c.l x.more⟩ ⟨y.cl, y.st, y.vw, resR y.e y.c.l y.more⟩ = false from pvB_no c4]
  have hv : Hid (sameB x y xs ys = false) := by show _ = _; unfold sameB; rw [pvB_no c4, Bool.false_and, Bool.and_false]
  clear c4
  go_wp2
  go_ret
  exact ⟨by rw [hv.out] <;> rfl, B⟩
 have Hc4 : Hid (x.v.rep = y.v.rep) := Classical.not_not.1 c4
 rw [show pvB ⟨x.cl, x.st, x.vw, resR x.e x.c.l x.more⟩ ⟨y.cl, y.st, y.vw, resR y.e y.c.l y.more⟩ = true from (pvB_iff _ _).2 Hc4.out]
 clear c4
 by_cases c5 : ¬ (x.q.n = y.q.n)
 ·have i5 : ((x.q.n : Int) != (y.q.n : Int)) = true := by simp; omega
  have hv : Hid (sameB x y xs ys = false) := by show _ = _; unfold sameB; rw [decide_eq_false (fun h => c5 h.2.2.2.2.1)]; rfl
  clear c5
  go_wp2
  go_ret
  exact ⟨by rw [hv.out] <;> rfl, B⟩
 have Hc5 : Hid (x.q.n = y.q.n) := Classical.not_not.1 c5
 have i5 : ((x.q.n : Int) != (y.q.n : Int)) = false := by have := Hc5.out; simp; omega
 clear c5
 go_wp2_with fail
 refine (signeds_any w4 x.s.ao y.s.ao x.s.n x.s.cap y.s.n y.s.cap x.s.l y.s.l (hx.s.below elS_fine B) (hy.s.below elS_fine B)).mono ?_
 rintro e w5 ⟨rfl, D⟩
 have B := B.trans (D.mono B.size)
 have C := C.trans (D.mono C.size)
 clear D i5
 clear p0 p1 p2 p3 p4 p5 p6 p7 p8 p9 p10 p11 p12 q0 q1 q2 q3 q4 q5 q6 q7 q8 q9 q10 q11 q12
 have p0 := cell_of_row w5 (N) 0 _ _ _ ((C.block (N) (by omega)).trans KX)
 have p1 := cell_of_row w5 (N) 1 _ _ _ ((C.block (N) (by omega)).trans KX)
 have p2 := cell_of_row w5 (N) 2 _ _ _ ((C.block (N) (by omega)).trans KX)
 have p3 := cell_of_row w5 (N) 3 _ _ _ ((C.block (N) (by omega)).trans KX)
 have p4 := cell_of_row w5 (N) 4 _ _ _ ((C.block (N) (by omega)).trans KX)
 have p5 := cell_of_row w5 (N) 5 _ _ _ ((C.block (N) (by omega)).trans KX)
 have p6 := cell_of_row w5 (N) 6 _ _ _ ((C.block (N) (by omega)).trans KX)
 have p7 := cell_of_row w5 (N) 7 _ _ _ ((C.block (N) (by omega)).trans KX)
 have p8 := cell_of_row w5 (N) 8 _ _ _ ((C.block (N) (by omega)).trans KX)
 have p9 := cell_of_row w5 (N) 9 _ _ _ ((C.block (N) (by omega)).trans KX)
 have p10 := cell_of_row w5 (N) 10 _ _ _ ((C.block (N) (by omega)).trans KX)
 have p11 := cell_of_row w5 (N) 11 _ _ _ ((C.block (N) (by omega)).trans KX)
 have p12 := cell_of_row w5 (N) 12 _ _ _ ((C.block (N) (by omega)).trans KX)
 have q0 := cell_of_row w5 (N + 1) 0 _ _ _ ((C.block (N + 1) (by omega)).trans KY)
 have q1 := cell_of_row w5 (N + 1) 1 _ _ _ ((C.block (N + 1) (by omega)).trans KY)
 have q2 := cell_of_row w5 (N + 1) 2 _ _ _ ((C.block (N + 1) (by omega)).trans KY)
 have q3 := cell_of_row w5 (N + 1) 3 _ _ _ ((C.block (N + 1) (by omega)).trans KY)
 have q4 := cell_of_row w5 (N + 1) 4 _ _ _ ((C.block (N + 1) (by omega)).trans KY)
 have q5 := cell_of_row w5 (N + 1) 5 _ _ _ ((C.block (N + 1) (by omega)).trans KY)
 have q6 := cell_of_row w5 (N + 1) 6 _ _ _ ((C.block (N + 1) (by omega)).trans KY)
 have q7 := cell_of_row w5 (N + 1) 7 _ _ _ ((C.block (N + 1) (by omega)).trans KY)
 have q8 := cell_of_row w5 (N + 1) 8 _ _ _ ((C.block (N + 1) (by omega)).trans KY)
 have q9 := cell_of_row w5 (N + 1) 9 _ _ _ ((C.block (N + 1) (by omega)).trans KY)
 have q10 := cell_of_row w5 (N + 1) 10 _ _ _ ((C.block (N + 1) (by omega)).trans KY)
 have q11 := cell_of_row w5 (N + 1) 11 _ _ _ ((C.block (N + 1) (by omega)).trans KY)
 have q12 := cell_of_row w5 (N + 1) 12 _ _ _ ((C.block (N + 1) (by omega)).trans KY)
 by_cases c6 : ¬ (x.s.l.map SA.v = y.s.l.map SA.v)
 ·rw [sgB_false c6]
  have hv : Hid (sameB x y xs ys = false) := by show _ = _; unfold sameB; rw [sgB_false c6, Bool.false_and, Bool.and_false, Bool.and_false]
  clear c6
  go_wp2
  go_ret
  exact ⟨by rw [hv.out] <;> rfl, B⟩
 have Hc6 : Hid (x.s.l.map SA.v = y.s.l.map SA.v) := Classical.not_not.1 c6
 rw [sgB_true Hc6.out]
 clear c6
 by_cases c7 : ¬ (x.t.n = y.t.n)
 ·have i7 : ((x.t.n : Int) != (y.t.n : Int)) = true := by simp; omega
  have hv : Hid (sameB x y xs ys = false) := by show _ = _; unfold sameB; rw [decide_eq_false (fun h => c7 h.2.2.2.2.2)]; rfl
  clear c7
  go_wp2
  go_ret
  exact ⟨by rw [hv.out] <;> rfl, B⟩
 have Hc7 : Hid (x.t.n = y.t.n) := Classical.not_not.1 c7
 have i7 : ((x.t.n : Int) != (y.t.n : Int)) = false := by have := Hc7.out; simp; omega
 clear c7
 go_wp2_with fail
 have HV : Hid (sameB x y xs ys = (sameL qB xs ys && sameL lB x.t.l y.t.l)) := by
  show _ = _
  unfold sameB
  rw [decide_eq_true ⟨Hc0.out, Hc1.out, Hc2.out, Hc3.out, Hc5.out, Hc7.out⟩, (pvB_iff _ _).2 Hc4.out, sgB_true Hc6.out, Bool.true_and, Bool.true_and, Bool.true_and]
 have hqn := Hc5.out
 have htn := Hc7.out
 have HQN : Hid (x.q.n = y.q.n) := hqn
 have HTN : Hid (x.t.n = y.t.n) := htn
 clear Hc0 Hc1 Hc2 Hc3 Hc4 Hc5 Hc6 Hc7 i7 hqn htn
 clear p0 p1 p2 p3 p4 p5 p6 p7 p8 p9 p10 p11 p12 q0 q1 q2 q3 q4 q5 q6 q7 q8 q9 q10 q11 q12
 go_loopw [5] (fun i wr => ∃ k : Nat, k ≤ x.q.n ∧ i = .int .i64 k ∧ Below w.heap.size w wr ∧ Below w1.heap.size w1 wr ∧ Hid (sameL qB (xs.take k) (ys.take k) = true)) (fun i _ => x.q.n - (intOf i).toNat)
 case atStart => exact ⟨0, Nat.zero_le _, rfl, B, C, rfl⟩
 case round =>
  clear B C
  obtain ⟨k, hk, rfl, B, C, HA⟩ := hrel
  have BW1 : Below w.heap.size w w1 := BX.out
  have p4 := cell_of_row wr N 4 _ _ _ ((C.block N (by omega)).trans KX)
  by_cases hlt : k < x.q.n
  ·have hki : (k : Int) < (x.q.n : Int) := by omega
   have hqn := HQN.out
   have hk1 : k < xs.length := by omega
   have hk2 : k < ys.length := by omega
   obtain ⟨b1, o1, e1, hc1⟩ := (GX.below elQ_fine BW1).atQ (by omega)
   obtain ⟨b2, o2, e2, hc2⟩ := (GY.below elQ_fine BW1).atQ (by omega)
   have X := hc1 k (by rw [List.length_map]; exact hk1)
   have Y := hc2 k (by rw [List.length_map]; exact hk2)
   rw [List.getElem_map] at X Y
   have wu := OW.below BW1 (wx _ (List.getElem_mem hk1))
   have wv := OW.below BW1 (wy _ (List.getElem_mem hk2))
   have lu := lx _ (List.getElem_mem hk1)
   have lv := ly _ (List.getElem_mem hk2)
   have HT : Hid (sameL qB (xs.take (k + 1)) (ys.take (k + 1)) = qB xs[k] ys[k]) := sameL_take _ xs ys k hk1 hk2 HA.out
   have HL : Hid (qB xs[k] ys[k] = false → sameL qB xs ys = false) := fun h => sameL_no _ xs ys k hk1 hk2 h
   obtain ⟨u, hu⟩ : ∃ u, u = xs[k] := ⟨_, rfl⟩
   obtain ⟨v, hv⟩ : ∃ v, v = ys[k] := ⟨_, rfl⟩
   rw [← hu, ← hv] at HT HL
   rw [← hu] at X wu lu
   rw [← hv] at Y wv lv
   clear hu hv hc1 hc2
   obtain ⟨qb, hqb⟩ : ∃ b, b = qB u v := ⟨_, rfl⟩
   have HCR : ∀ V, Below w1.heap.size w1 V → Calls Tryz.prog 35 #[qVal u.cl u.st (topD 3 u.x), qVal v.cl v.st (topD 3 v.x)] V fun e w' => e = .returned (.bool qb) ∧ Below V.heap.size V w' := fun V hV => by
    rw [hqb]
    exact rreqs_any 3 V u.cl u.st v.cl v.st u.x v.x (OW.below hV wu) (OW.below hV wv) lu lv
   rw [← hqb] at HT HL
   have X : QX w1 b1 (o1 + k * 12) ⟨u.cl, u.st, topD 3 u.x, []⟩ := ⟨X.c0, X.c1, X.c2, X.c3, X.c4, X.c5, X.c6, X.c7, X.c8, X.c9, X.c10, X.c11⟩
   have Y : QX w1 b2 (o2 + k * 12) ⟨v.cl, v.st, topD 3 v.x, []⟩ := ⟨Y.c0, Y.c1, Y.c2, Y.c3, Y.c4, Y.c5, Y.c6, Y.c7, Y.c8, Y.c9, Y.c10, Y.c11⟩
   generalize topD 3 u.x = ou at HCR X
   generalize topD 3 v.x = ov at HCR Y
   have HCR : Hid (∀ V, Below w1.heap.size w1 V → Calls Tryz.prog 35 #[.agg #[.int .u64 (u.cl : Nat), .int .u64 (u.st : Nat), .int .i64 ou.kind, .string ou.row, .string ou.fam, .string ou.qual, .int .u64 (ou.time : Nat), .string ou.to, .slice ou.va.ao ou.va.n ou.va.cap, .slice ou.wa.ao ou.wa.n ou.wa.cap, .bool ou.has, .slice ou.so ou.sn ou.sc], .agg #[.int .u64 (v.cl : Nat), .int .u64 (v.st : Nat), .int .i64 ov.kind, .string ov.row, .string ov.fam, .string ov.qual, .int .u64 (ov.time : Nat), .string ov.to, .slice ov.va.ao ov.va.n ov.va.cap, .slice ov.wa.ao ov.wa.n ov.wa.cap, .bool ov.has, .slice ov.so ov.sn ov.sc]] V fun e w' => e = .returned (.bool qb) ∧ Below V.heap.size V w') := HCR
   have HSV : Hid (∀ V, Below w1.heap.size w1 V → V.cell? ⟨N, 4, none⟩ = some (.slice (some ⟨b1, o1, none⟩) x.q.n x.q.cap) ∧ V.cell? ⟨N + 1, 4, none⟩ = some (.slice (some ⟨b2, o2, none⟩) y.q.n y.q.cap) ∧ V.cell? ⟨b1, o1 + k * 12, none⟩ = some (.int .u64 (u.cl : Nat)) ∧ V.cell? ⟨b1, o1 + k * 12 + 1, none⟩ = some (.int .u64 (u.st : Nat)) ∧ V.cell? ⟨b1, o1 + k * 12 + 2, none⟩ = some (.int .i64 ou.kind) ∧ V.cell? ⟨b1, o1 + k * 12 + 3, none⟩ = some (.string ou.row) ∧ V.cell? ⟨b1, o1 + k * 12 + 4, none⟩ = some (.string ou.fam) ∧ V.cell? ⟨b1, o1 + k * 12 + 5, none⟩ = some (.string ou.qual) ∧ V.cell? ⟨b1, o1 + k * 12 + 6, none⟩ = some (.int .u64 (ou.time : Nat)) ∧ V.cell? ⟨b1, o1 + k * 12 + 7, none⟩ = some (.string ou.to) ∧ V.cell? ⟨b1, o1 + k * 12 + 8, none⟩ = some (.slice ou.va.ao ou.va.n ou.va.cap) ∧ V.cell? ⟨b1, o1 + k * 12 + 9, none⟩ = some (.slice ou.wa.ao ou.wa.n ou.wa.cap) ∧ V.cell? ⟨b1, o1 + k * 12 + 10, none⟩ = some (.bool ou.has) ∧ V.cell? ⟨b1, o1 + k * 12 + 11, none⟩ = some (.slice ou.so ou.sn ou.sc) ∧ V.cell? ⟨b2, o2 + k * 12, none⟩ = some (.int .u64 (v.cl : Nat)) ∧ V.cell? ⟨b2, o2 + k * 12 + 1, none⟩ = some (.int .u64 (v.st : Nat)) ∧ V.cell? ⟨b2, o2 + k * 12 + 2, none⟩ = some (.int .i64 ov.kind) ∧ V.cell? ⟨b2, o2 + k * 12 + 3, none⟩ = some (.string ov.row) ∧ V.cell? ⟨b2, o2 + k * 12 + 4, none⟩ = some (.string ov.fam) ∧ V.cell? ⟨b2, o2 + k * 12 + 5, none⟩ = some (.string ov.qual) ∧ V.cell? ⟨b2, o2 + k * 12 + 6, none⟩ = some (.int .u64 (ov.time : Nat)) ∧ V.cell? ⟨b2, o2 + k * 12 + 7, none⟩ = some (.string ov.to) ∧ V.cell? ⟨b2, o2 + k * 12 + 8, none⟩ = some (.slice ov.va.ao ov.va.n ov.va.cap) ∧ V.cell? ⟨b2, o2 + k * 12 + 9, none⟩ = some (.slice ov.wa.ao ov.wa.n ov.wa.cap) ∧ V.cell? ⟨b2, o2 + k * 12 + 10, none⟩ = some (.bool ov.has) ∧ V.cell? ⟨b2, o2 + k * 12 + 11, none⟩ = some (.slice ov.so ov.sn ov.sc)) := fun V hV => ⟨by have := cell_of_row V (N) 4 _ _ _ ((hV.block (N) (by omega)).trans KX); rw [← e1]; exact this, by have := cell_of_row V (N + 1) 4 _ _ _ ((hV.block (N + 1) (by omega)).trans KY); rw [← e2]; exact this, (hV.cell (World.block_lt_of_cell? _ _ X.c0)).trans X.c0, (hV.cell (World.block_lt_of_cell? _ _ X.c1)).trans X.c1, (hV.cell (World.block_lt_of_cell? _ _ X.c2)).trans X.c2, (hV.cell (World.block_lt_of_cell? _ _ X.c3)).trans X.c3, (hV.cell (World.block_lt_of_cell? _ _ X.c4)).trans X.c4, (hV.cell (World.block_lt_of_cell? _ _ X.c5)).trans X.c5, (hV.cell (World.block_lt_of_cell? _ _ X.c6)).trans X.c6, (hV.cell (World.block_lt_of_cell? _ _ X.c7)).trans X.c7, (hV.cell (World.block_lt_of_cell? _ _ X.c8)).trans X.c8, (hV.cell (World.block_lt_of_cell? _ _ X.c9)).trans X.c9, (hV.cell (World.block_lt_of_cell? _ _ X.c10)).trans X.c10, (hV.cell (World.block_lt_of_cell? _ _ X.c11)).trans X.c11, (hV.cell (World.block_lt_of_cell? _ _ Y.c0)).trans Y.c0, (hV.cell (World.block_lt_of_cell? _ _ Y.c1)).trans Y.c1, (hV.cell (World.block_lt_of_cell? _ _ Y.c2)).trans Y.c2, (hV.cell (World.block_lt_of_cell? _ _ Y.c3)).trans Y.c3, (hV.cell (World.block_lt_of_cell? _ _ Y.c4)).trans Y.c4, (hV.cell (World.block_lt_of_cell? _ _ Y.c5)).trans Y.c5, (hV.cell (World.block_lt_of_cell? _ _ Y.c6)).trans Y.c6, (hV.cell (World.block_lt_of_cell? _ _ Y.c7)).trans Y.c7, (hV.cell (World.block_lt_of_cell? _ _ Y.c8)).trans Y.c8, (hV.cell (World.block_lt_of_cell? _ _ Y.c9)).trans Y.c9, (hV.cell (World.block_lt_of_cell? _ _ Y.c10)).trans Y.c10, (hV.cell (World.block_lt_of_cell? _ _ Y.c11)).trans Y.c11⟩
   rw [e1] at p4
   have i7 : (k : Int) < (y.q.n : Int) := by omega
   clear X Y wu wv lu lv hqb e1 e2 hqn BW1
   go_wp2_with fail
   have tHS : Hid (∀ V, Below wr.heap.size wr V → V.cell? ⟨N, 4, none⟩ = some (.slice (some ⟨b1, o1, none⟩) x.q.n x.q.cap) ∧ V.cell? ⟨N + 1, 4, none⟩ = some (.slice (some ⟨b2, o2, none⟩) y.q.n y.q.cap) ∧ V.cell? ⟨b1, o1 + k * 12, none⟩ = some (.int .u64 (u.cl : Nat)) ∧ V.cell? ⟨b1, o1 + k * 12 + 1, none⟩ = some (.int .u64 (u.st : Nat)) ∧ V.cell? ⟨b1, o1 + k * 12 + 2, none⟩ = some (.int .i64 ou.kind) ∧ V.cell? ⟨b1, o1 + k * 12 + 3, none⟩ = some (.string ou.row) ∧ V.cell? ⟨b1, o1 + k * 12 + 4, none⟩ = some (.string ou.fam) ∧ V.cell? ⟨b1, o1 + k * 12 + 5, none⟩ = some (.string ou.qual) ∧ V.cell? ⟨b1, o1 + k * 12 + 6, none⟩ = some (.int .u64 (ou.time : Nat)) ∧ V.cell? ⟨b1, o1 + k * 12 + 7, none⟩ = some (.string ou.to) ∧ V.cell? ⟨b1, o1 + k * 12 + 8, none⟩ = some (.slice ou.va.ao ou.va.n ou.va.cap) ∧ V.cell? ⟨b1, o1 + k * 12 + 9, none⟩ = some (.slice ou.wa.ao ou.wa.n ou.wa.cap) ∧ V.cell? ⟨b1, o1 + k * 12 + 10, none⟩ = some (.bool ou.has) ∧ V.cell? ⟨b1, o1 + k * 12 + 11, none⟩ = some (.slice ou.so ou.sn ou.sc) ∧ V.cell? ⟨b2, o2 + k * 12, none⟩ = some (.int .u64 (v.cl : Nat)) ∧ V.cell? ⟨b2, o2 + k * 12 + 1, none⟩ = some (.int .u64 (v.st : Nat)) ∧ V.cell? ⟨b2, o2 + k * 12 + 2, none⟩ = some (.int .i64 ov.kind) ∧ V.cell? ⟨b2, o2 + k * 12 + 3, none⟩ = some (.string ov.row) ∧ V.cell? ⟨b2, o2 + k * 12 + 4, none⟩ = some (.string ov.fam) ∧ V.cell? ⟨b2, o2 + k * 12 + 5, none⟩ = some (.string ov.qual) ∧ V.cell? ⟨b2, o2 + k * 12 + 6, none⟩ = some (.int .u64 (ov.time : Nat)) ∧ V.cell? ⟨b2, o2 + k * 12 + 7, none⟩ = some (.string ov.to) ∧ V.cell? ⟨b2, o2 + k * 12 + 8, none⟩ = some (.slice ov.va.ao ov.va.n ov.va.cap) ∧ V.cell? ⟨b2, o2 + k * 12 + 9, none⟩ = some (.slice ov.wa.ao ov.wa.n ov.wa.cap) ∧ V.cell? ⟨b2, o2 + k * 12 + 10, none⟩ = some (.bool ov.has) ∧ V.cell? ⟨b2, o2 + k * 12 + 11, none⟩ = some (.slice ov.so ov.sn ov.sc)) := fun V hV => HSV.out V (C.trans (hV.mono C.size))
   refine zB (by kernel_rfl) tHS.out fun tv0 tE0 tH0 => ?_
   refine zT 0 (some 75) (.pointer (some ⟨N, 4, none⟩)) rfl rfl (by kernel_rfl) rfl (fun W ⟨h0, h1, h2, h3, h4, h5, h6, h7, h8, h9, h10, h11, h12, h13, h14, h15, h16, h17, h18, h19, h20, h21, h22, h23, h24, h25⟩ => by go_simp) tH0 ?_
   simp only [FL]
   refine zT 1 (some 76) (.slice (some ⟨b1, o1, none⟩) x.q.n x.q.cap) rfl rfl (by kernel_rfl) rfl (fun W ⟨h0, h1, h2, h3, h4, h5, h6, h7, h8, h9, h10, h11, h12, h13, h14, h15, h16, h17, h18, h19, h20, h21, h22, h23, h24, h25⟩ => by go_simp) tH0 ?_
   simp only [FL]
   refine zT 2 (some 77) (.int .i64 (k : Nat)) rfl rfl (by kernel_rfl) rfl (fun W ⟨h0, h1, h2, h3, h4, h5, h6, h7, h8, h9, h10, h11, h12, h13, h14, h15, h16, h17, h18, h19, h20, h21, h22, h23, h24, h25⟩ => by go_simp) tH0 ?_
   simp only [FL]
   refine zT 3 (some 78) (.pointer (some ⟨b1, o1 + k * 12, none⟩)) rfl rfl (by kernel_rfl) rfl (fun W ⟨h0, h1, h2, h3, h4, h5, h6, h7, h8, h9, h10, h11, h12, h13, h14, h15, h16, h17, h18, h19, h20, h21, h22, h23, h24, h25⟩ => by go_simp) tH0 ?_
   simp only [FL]
   refine zT 4 (some 79) (.agg #[.int .u64 (u.cl : Nat), .int .u64 (u.st : Nat), .int .i64 ou.kind, .string ou.row, .string ou.fam, .string ou.qual, .int .u64 (ou.time : Nat), .string ou.to, .slice ou.va.ao ou.va.n ou.va.cap, .slice ou.wa.ao ou.wa.n ou.wa.cap, .bool ou.has, .slice ou.so ou.sn ou.sc]) rfl rfl (by kernel_rfl) rfl (fun W ⟨h0, h1, h2, h3, h4, h5, h6, h7, h8, h9, h10, h11, h12, h13, h14, h15, h16, h17, h18, h19, h20, h21, h22, h23, h24, h25⟩ => by go_simp) tH0 ?_
   simp only [FL]
   refine zT 5 (some 80) (.pointer (some ⟨N + 1, 4, none⟩)) rfl rfl (by kernel_rfl) rfl (fun W ⟨h0, h1, h2, h3, h4, h5, h6, h7, h8, h9, h10, h11, h12, h13, h14, h15, h16, h17, h18, h19, h20, h21, h22, h23, h24, h25⟩ => by go_simp) tH0 ?_
   simp only [FL]
   refine zT 6 (some 81) (.slice (some ⟨b2, o2, none⟩) y.q.n y.q.cap) rfl rfl (by kernel_rfl) rfl (fun W ⟨h0, h1, h2, h3, h4, h5, h6, h7, h8, h9, h10, h11, h12, h13, h14, h15, h16, h17, h18, h19, h20, h21, h22, h23, h24, h25⟩ => by go_simp) tH0 ?_
   simp only [FL]
   refine zT 7 (some 82) (.int .i64 (k : Nat)) rfl rfl (by kernel_rfl) rfl (fun W ⟨h0, h1, h2, h3, h4, h5, h6, h7, h8, h9, h10, h11, h12, h13, h14, h15, h16, h17, h18, h19, h20, h21, h22, h23, h24, h25⟩ => by go_simp) tH0 ?_
   simp only [FL]
   refine zT 8 (some 83) (.pointer (some ⟨b2, o2 + k * 12, none⟩)) rfl rfl (by kernel_rfl) rfl (fun W ⟨h0, h1, h2, h3, h4, h5, h6, h7, h8, h9, h10, h11, h12, h13, h14, h15, h16, h17, h18, h19, h20, h21, h22, h23, h24, h25⟩ => by go_simp) tH0 ?_
   simp only [FL]
   refine zT 9 (some 84) (.agg #[.int .u64 (v.cl : Nat), .int .u64 (v.st : Nat), .int .i64 ov.kind, .string ov.row, .string ov.fam, .string ov.qual, .int .u64 (ov.time : Nat), .string ov.to, .slice ov.va.ao ov.va.n ov.va.cap, .slice ov.wa.ao ov.wa.n ov.wa.cap, .bool ov.has, .slice ov.so ov.sn ov.sc]) rfl rfl (by kernel_rfl) rfl (fun W ⟨h0, h1, h2, h3, h4, h5, h6, h7, h8, h9, h10, h11, h12, h13, h14, h15, h16, h17, h18, h19, h20, h21, h22, h23, h24, h25⟩ => by go_simp) tH0 ?_
   simp only [FL]
   refine hr_call_w 10 (some 85) 35 #[.agg #[.int .u64 (u.cl : Nat), .int .u64 (u.st : Nat), .int .i64 ou.kind, .string ou.row, .string ou.fam, .string ou.qual, .int .u64 (ou.time : Nat), .string ou.to, .slice ou.va.ao ou.va.n ou.va.cap, .slice ou.wa.ao ou.wa.n ou.wa.cap, .bool ou.has, .slice ou.so ou.sn ou.sc], .agg #[.int .u64 (v.cl : Nat), .int .u64 (v.st : Nat), .int .i64 ov.kind, .string ov.row, .string ov.fam, .string ov.qual, .int .u64 (ov.time : Nat), .string ov.to, .slice ov.va.ao ov.va.n ov.va.cap, .slice ov.wa.ao ov.wa.n ov.wa.cap, .bool ov.has, .slice ov.so ov.sn ov.sc]] rfl rfl (by kernel_rfl) rfl (by go_simp) (fun v w' => v = .bool qb ∧ Below tv0.heap.size tv0 w') ((HCR.out tv0 (C.trans (tE0.mono C.size))).mono (by
    rintro e w' ⟨rfl, C⟩
    exact ⟨_, rfl, rfl, C⟩)) ?_
   rintro v tv1 ⟨rfl, tC0⟩
   have tE1 := tE0.trans (tC0.mono tE0.size)
   have tH1 := tHS.out tv1 tE1
   refine ⟨tH1, ?_⟩
   simp only [FL]
   refine zT 11 (some 86) (.bool (!qb)) rfl rfl (by kernel_rfl) rfl (fun W ⟨h0, h1, h2, h3, h4, h5, h6, h7, h8, h9, h10, h11, h12, h13, h14, h15, h16, h17, h18, h19, h20, h21, h22, h23, h24, h25⟩ => by go_simp) tH1 ?_
   simp only [FL]
   refine wpAnyH_done (by kernel_rfl) ?_ _
   refine NoPanic.normal ?_
   have B := B.trans (tE1.mono B.size)
   have C := C.trans (tE1.mono C.size)
   cases qb with
   | true =>
    have HT2 : Hid (sameL qB (xs.take (k + 1)) (ys.take (k + 1)) = true) := HT.out
    clear tE0 tE1 tH0 tH1 tHS tC0 HSV HCR HA HT HL p4
    go_wp2
    go_roundw
    case rel => exact ⟨k + 1, by omega, by go_num, B, C, HT2⟩
    case measure => simp [intOf]; omega
   | false =>
    have hv : Hid (sameB x y xs ys = false) := by
     show _ = _
     rw [HV.out, HL.out rfl, Bool.false_and]
    clear tE0 tE1 tH0 tH1 tHS tC0 HSV HCR HA HT HL p4
    go_wp2
    go_ret
    exact ⟨by rw [hv.out] <;> rfl, B⟩
  ·have hge : ¬ (k : Int) < (x.q.n : Int) := by omega
   have HQ : Hid (sameL qB xs ys = true) := by
    have h := HA.out
    have hqn := HQN.out
    rw [List.take_of_length_le (by omega), List.take_of_length_le (by omega)] at h
    exact h
   clear HA
   go_wp2_with fail
   clear p4 hge hlt hk
   go_loopw [6] (fun i wr => ∃ k : Nat, k ≤ x.t.n ∧ i = .int .i64 k ∧ Below w.heap.size w wr ∧ Below w1.heap.size w1 wr ∧ Hid (sameL lB (x.t.l.take k) (y.t.l.take k) = true)) (fun i _ => x.t.n - (intOf i).toNat)
   case atStart => exact ⟨0, Nat.zero_le _, rfl, B, C, rfl⟩
   case round =>
    clear B C
    obtain ⟨k, hk, rfl, B, C, HA⟩ := hrel
    have BW1 : Below w.heap.size w w1 := BX.out
    have p12 := cell_of_row wr N 12 _ _ _ ((C.block N (by omega)).trans KX)
    by_cases hlt : k < x.t.n
    ·have hki : (k : Int) < (x.t.n : Int) := by omega
     have hqn := HTN.out
     have hk1 : k < x.t.l.length := by omega
     have hk2 : k < y.t.l.length := by omega
     obtain ⟨b1, o1, e1, hc1⟩ := (hx.t.below elS_fine.lists BW1).atL (by omega)
     obtain ⟨b2, o2, e2, hc2⟩ := (hy.t.below elS_fine.lists BW1).atL (by omega)
     have X := hc1 k hk1
     have Y := hc2 k hk2
     have wu : elS.lists.ok x.t.l[k] w := hx.t.ok _ (List.getElem_mem hk1)
     have wv : elS.lists.ok y.t.l[k] w := hy.t.ok _ (List.getElem_mem hk2)
     have HT : Hid (sameL lB (x.t.l.take (k + 1)) (y.t.l.take (k + 1)) = lB x.t.l[k] y.t.l[k]) := sameL_take _ _ _ k hk1 hk2 HA.out
     have HL : Hid (lB x.t.l[k] y.t.l[k] = false → sameL lB x.t.l y.t.l = false) := fun h => sameL_no _ _ _ k hk1 hk2 h
     obtain ⟨u, hu⟩ : ∃ u, u = x.t.l[k] := ⟨_, rfl⟩
     obtain ⟨v, hv⟩ : ∃ v, v = y.t.l[k] := ⟨_, rfl⟩
     rw [← hu, ← hv] at HT HL
     rw [← hu] at X wu
     rw [← hv] at Y wv
     clear hu hv hc1 hc2
     obtain ⟨qb, hqb⟩ : ∃ b, b = lB u v := ⟨_, rfl⟩
     have wu : GL elS w u.ao u.n u.cap u.l := wu
     have wv : GL elS w v.ao v.n v.cap v.l := wv
     have HCR : Hid (∀ V, Below w1.heap.size w1 V → Calls Tryz.prog 34 #[.slice u.ao u.n u.cap, .slice v.ao v.n v.cap] V fun e w' => e = .returned (.bool qb) ∧ Below V.heap.size V w') := fun V hV => by
      rw [hqb]
      exact signeds_any V u.ao v.ao u.n u.cap v.n v.cap u.l v.l (wu.below elS_fine (BW1.trans (hV.mono BW1.size))) (wv.below elS_fine (BW1.trans (hV.mono BW1.size)))
     rw [← hqb] at HT HL
     have HSV : Hid (∀ V, Below w1.heap.size w1 V → V.cell? ⟨N, 12, none⟩ = some (.slice (some ⟨b1, o1, none⟩) x.t.n x.t.cap) ∧ V.cell? ⟨N + 1, 12, none⟩ = some (.slice (some ⟨b2, o2, none⟩) y.t.n y.t.cap) ∧ V.cell? ⟨b1, o1 + k, none⟩ = some (.slice u.ao u.n u.cap) ∧ V.cell? ⟨b2, o2 + k, none⟩ = some (.slice v.ao v.n v.cap)) := fun V hV => ⟨by have := cell_of_row V (N) 12 _ _ _ ((hV.block (N) (by omega)).trans KX); rw [← e1]; exact this, by have := cell_of_row V (N + 1) 12 _ _ _ ((hV.block (N + 1) (by omega)).trans KY); rw [← e2]; exact this, (hV.cell (World.block_lt_of_cell? _ _ X)).trans X, (hV.cell (World.block_lt_of_cell? _ _ Y)).trans Y⟩
     rw [e1] at p12
     have i7 : (k : Int) < (y.t.n : Int) := by omega
     clear X Y wu wv hqb e1 e2 hqn BW1
     go_wp2_with fail
     have tHS : Hid (∀ V, Below wr.heap.size wr V → V.cell? ⟨N, 12, none⟩ = some (.slice (some ⟨b1, o1, none⟩) x.t.n x.t.cap) ∧ V.cell? ⟨N + 1, 12, none⟩ = some (.slice (some ⟨b2, o2, none⟩) y.t.n y.t.cap) ∧ V.cell? ⟨b1, o1 + k, none⟩ = some (.slice u.ao u.n u.cap) ∧ V.cell? ⟨b2, o2 + k, none⟩ = some (.slice v.ao v.n v.cap)) := fun V hV => HSV.out V (C.trans (hV.mono C.size))
     refine zB (by kernel_rfl) tHS.out fun tv0 tE0 tH0 => ?_
     refine zT 0 (some 94) (.pointer (some ⟨N, 12, none⟩)) rfl rfl (by kernel_rfl) rfl (fun W ⟨h0, h1, h2, h3⟩ => by go_simp) tH0 ?_
     simp only [FL]
     refine zT 1 (some 95) (.slice (some ⟨b1, o1, none⟩) x.t.n x.t.cap) rfl rfl (by kernel_rfl) rfl (fun W ⟨h0, h1, h2, h3⟩ => by go_simp) tH0 ?_
     simp only [FL]
     refine zT 2 (some 96) (.int .i64 (k : Nat)) rfl rfl (by kernel_rfl) rfl (fun W ⟨h0, h1, h2, h3⟩ => by go_simp) tH0 ?_
     simp only [FL]
     refine zT 3 (some 97) (.pointer (some ⟨b1, o1 + k, none⟩)) rfl rfl (by kernel_rfl) rfl (fun W ⟨h0, h1, h2, h3⟩ => by go_simp) tH0 ?_
     simp only [FL]
     refine zT 4 (some 98) (.slice u.ao u.n u.cap) rfl rfl (by kernel_rfl) rfl (fun W ⟨h0, h1, h2, h3⟩ => by go_simp) tH0 ?_
     simp only [FL]
     refine zT 5 (some 99) (.pointer (some ⟨N + 1, 12, none⟩)) rfl rfl (by kernel_rfl) rfl (fun W ⟨h0, h1, h2, h3⟩ => by go_simp) tH0 ?_
     simp only [FL]
     refine zT 6 (some 100) (.slice (some ⟨b2, o2, none⟩) y.t.n y.t.cap) rfl rfl (by kernel_rfl) rfl (fun W ⟨h0, h1, h2, h3⟩ => by go_simp) tH0 ?_
     simp only [FL]
     refine zT 7 (some 101) (.int .i64 (k : Nat)) rfl rfl (by kernel_rfl) rfl (fun W ⟨h0, h1, h2, h3⟩ => by go_simp) tH0 ?_
     simp only [FL]
     refine zT 8 (some 102) (.pointer (some ⟨b2, o2 + k, none⟩)) rfl rfl (by kernel_rfl) rfl (fun W ⟨h0, h1, h2, h3⟩ => by go_simp) tH0 ?_
     simp only [FL]
     refine zT 9 (some 103) (.slice v.ao v.n v.cap) rfl rfl (by kernel_rfl) rfl (fun W ⟨h0, h1, h2, h3⟩ => by go_simp) tH0 ?_
     simp only [FL]
     refine hr_call_w 10 (some 104) 34 #[.slice u.ao u.n u.cap, .slice v.ao v.n v.cap] rfl rfl (by kernel_rfl) rfl (by go_simp) (fun v w' => v = .bool qb ∧ Below tv0.heap.size tv0 w') ((HCR.out tv0 (C.trans (tE0.mono C.size))).mono (by
      rintro e w' ⟨rfl, C⟩
      exact ⟨_, rfl, rfl, C⟩)) ?_
     rintro v tv1 ⟨rfl, tC0⟩
     have tE1 := tE0.trans (tC0.mono tE0.size)
     have tH1 := tHS.out tv1 tE1
     refine ⟨tH1, ?_⟩
     simp only [FL]
     refine zT 11 (some 105) (.bool (!qb)) rfl rfl (by kernel_rfl) rfl (fun W ⟨h0, h1, h2, h3⟩ => by go_simp) tH1 ?_
     simp only [FL]
     refine wpAnyH_done (by kernel_rfl) ?_ _
     refine NoPanic.normal ?_
     have B := B.trans (tE1.mono B.size)
     have C := C.trans (tE1.mono C.size)
     cases qb with
     | true =>
      have HT2 : Hid (sameL lB (x.t.l.take (k + 1)) (y.t.l.take (k + 1)) = true) := HT.out
      clear tE0 tE1 tH0 tH1 tHS tC0 HSV HCR HA HT HL p12
      go_wp2
      go_roundw
      case rel => exact ⟨k + 1, by omega, by go_num, B, C, HT2⟩
      case measure => simp [intOf]; omega
     | false =>
      have hv : Hid (sameB x y xs ys = false) := by
       show _ = _
       rw [HV.out, HL.out rfl, Bool.and_false]
      clear tE0 tE1 tH0 tH1 tHS tC0 HSV HCR HA HT HL p12
      go_wp2
      go_ret
      exact ⟨by rw [hv.out] <;> rfl, B⟩
    ·have hge : ¬ (k : Int) < (x.t.n : Int) := by omega
     have hv : Hid (sameB x y xs ys = true) := by
      have h := HA.out
      have hqn := HTN.out
      rw [List.take_of_length_le (by omega), List.take_of_length_le (by omega)] at h
      show _ = _
      rw [HV.out, HQ.out, h]
      rfl
     clear HA
     go_wp2
     go_ret
     exact ⟨by rw [hv.out] <;> rfl, B⟩
end Go.Proofs.YtnbejckdhdbamaaGreat

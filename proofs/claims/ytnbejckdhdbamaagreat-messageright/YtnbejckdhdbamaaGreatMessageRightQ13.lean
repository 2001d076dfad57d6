/-
  Texts in one: MgPSameB.
-/
import Derived.Test.YtnbejckdhdbamaaGreatMessageRightQ12
namespace Go.Proofs.YtnbejckdhdbamaaGreat
open Go.RowKit
def msB (x y : BM) (xs ys : List QE) : Bool := decide (x.kind = y.kind) && (decide (x.view = y.view) && (decide (x.seq = y.seq) && (decide (x.sum.xs = y.sum.xs) && (sameL qeE xs ys && (rpE x.cl x.st x.vw y.cl y.st y.vw (decide (x.e = y.e) && (decide (x.more = y.more) && sameL ceE x.c.l y.c.l)) && (sameL sgE x.s.l y.s.l && sameL lsE x.t.l y.t.l))))))
set_option maxRecDepth 100000 in
set_option maxHeartbeats 8000000 in
theorem msame_any (w : World) (x y : BM) (xs ys : List QE) (hx : x.ok w) (hy : y.ok w) (qx : x.q.l = xs.map QE.m) (qy : y.q.l = ys.map QE.m) (wx : ∀ q ∈ xs, OW w 3 q.x) (wy : ∀ q ∈ ys, OW w 3 q.x) (lx : ∀ q ∈ xs, lightD 3 q.x = true) (ly : ∀ q ∈ ys, lightD 3 q.x = true)
  (nq : x.q.n ≤ 1000000) (nc : x.c.n ≤ 1000000) (ns : x.s.n ≤ 1000000) (nt : x.t.n ≤ 1000000) (nu : ∀ t ∈ x.t.l, t.n ≤ 1000000) :
  Calls Tryz.prog 10 #[x.val, y.val] w fun e w' => e = .returned (.bool (msB x y xs ys)) ∧ Below w.heap.size w w' := by
 have B : Below w.heap.size w ((w.alloc (.cells #[.int .i64 x.kind, .int .u64 (x.view : Nat), .int .u64 (x.seq : Nat), .slice x.sum.ao x.sum.n x.sum.cap, .slice x.q.ao x.q.n x.q.cap, .int .u64 (x.cl : Nat), .int .u64 (x.st : Nat), .int .u64 (x.vw : Nat), .int .i64 x.e, .slice x.c.ao x.c.n x.c.cap, .bool x.more, .slice x.s.ao x.s.n x.s.cap, .slice x.t.ao x.t.n x.t.cap] 41)).alloc (.cells #[.int .i64 y.kind, .int .u64 (y.view : Nat), .int .u64 (y.seq : Nat), .slice y.sum.ao y.sum.n y.sum.cap, .slice y.q.ao y.q.n y.q.cap, .int .u64 (y.cl : Nat), .int .u64 (y.st : Nat), .int .u64 (y.vw : Nat), .int .i64 y.e, .slice y.c.ao y.c.n y.c.cap, .bool y.more, .slice y.s.ao y.s.n y.s.cap, .slice y.t.ao y.t.n y.t.cap] 41)) := ((Below.refl _ w).alloc (Nat.le_refl _) _).alloc (by simp) _
 have KX : BC ((w.alloc (.cells #[.int .i64 x.kind, .int .u64 (x.view : Nat), .int .u64 (x.seq : Nat), .slice x.sum.ao x.sum.n x.sum.cap, .slice x.q.ao x.q.n x.q.cap, .int .u64 (x.cl : Nat), .int .u64 (x.st : Nat), .int .u64 (x.vw : Nat), .int .i64 x.e, .slice x.c.ao x.c.n x.c.cap, .bool x.more, .slice x.s.ao x.s.n x.s.cap, .slice x.t.ao x.t.n x.t.cap] 41)).alloc (.cells #[.int .i64 y.kind, .int .u64 (y.view : Nat), .int .u64 (y.seq : Nat), .slice y.sum.ao y.sum.n y.sum.cap, .slice y.q.ao y.q.n y.q.cap, .int .u64 (y.cl : Nat), .int .u64 (y.st : Nat), .int .u64 (y.vw : Nat), .int .i64 y.e, .slice y.c.ao y.c.n y.c.cap, .bool y.more, .slice y.s.ao y.s.n y.s.cap, .slice y.t.ao y.t.n y.t.cap] 41)) w.heap.size x := (heap_alloc_old _ _ (by simp)).trans (heap_alloc_new w _)
 have KY : BC ((w.alloc (.cells #[.int .i64 x.kind, .int .u64 (x.view : Nat), .int .u64 (x.seq : Nat), .slice x.sum.ao x.sum.n x.sum.cap, .slice x.q.ao x.q.n x.q.cap, .int .u64 (x.cl : Nat), .int .u64 (x.st : Nat), .int .u64 (x.vw : Nat), .int .i64 x.e, .slice x.c.ao x.c.n x.c.cap, .bool x.more, .slice x.s.ao x.s.n x.s.cap, .slice x.t.ao x.t.n x.t.cap] 41)).alloc (.cells #[.int .i64 y.kind, .int .u64 (y.view : Nat), .int .u64 (y.seq : Nat), .slice y.sum.ao y.sum.n y.sum.cap, .slice y.q.ao y.q.n y.q.cap, .int .u64 (y.cl : Nat), .int .u64 (y.st : Nat), .int .u64 (y.vw : Nat), .int .i64 y.e, .slice y.c.ao y.c.n y.c.cap, .bool y.more, .slice y.s.ao y.s.n y.s.cap, .slice y.t.ao y.t.n y.t.cap] 41)) (w.heap.size + 1) y := by
  have h := heap_alloc_new (w.alloc (.cells #[.int .i64 x.kind, .int .u64 (x.view : Nat), .int .u64 (x.seq : Nat), .slice x.sum.ao x.sum.n x.sum.cap, .slice x.q.ao x.q.n x.q.cap, .int .u64 (x.cl : Nat), .int .u64 (x.st : Nat), .int .u64 (x.vw : Nat), .int .i64 x.e, .slice x.c.ao x.c.n x.c.cap, .bool x.more, .slice x.s.ao x.s.n x.s.cap, .slice x.t.ao x.t.n x.t.cap] 41)) (.cells #[.int .i64 y.kind, .int .u64 (y.view : Nat), .int .u64 (y.seq : Nat), .slice y.sum.ao y.sum.n y.sum.cap, .slice y.q.ao y.q.n y.q.cap, .int .u64 (y.cl : Nat), .int .u64 (y.st : Nat), .int .u64 (y.vw : Nat), .int .i64 y.e, .slice y.c.ao y.c.n y.c.cap, .bool y.more, .slice y.s.ao y.s.n y.s.cap, .slice y.t.ao y.t.n y.t.cap] 41)
  have e : (w.alloc (.cells #[.int .i64 x.kind, .int .u64 (x.view : Nat), .int .u64 (x.seq : Nat), .slice x.sum.ao x.sum.n x.sum.cap, .slice x.q.ao x.q.n x.q.cap, .int .u64 (x.cl : Nat), .int .u64 (x.st : Nat), .int .u64 (x.vw : Nat), .int .i64 x.e, .slice x.c.ao x.c.n x.c.cap, .bool x.more, .slice x.s.ao x.s.n x.s.cap, .slice x.t.ao x.t.n x.t.cap] 41)).heap.size = w.heap.size + 1 := by simp
  rw [e] at h
  exact h
 have HBX : Hid (∀ V, Below ((w.alloc (.cells #[.int .i64 x.kind, .int .u64 (x.view : Nat), .int .u64 (x.seq : Nat), .slice x.sum.ao x.sum.n x.sum.cap, .slice x.q.ao x.q.n x.q.cap, .int .u64 (x.cl : Nat), .int .u64 (x.st : Nat), .int .u64 (x.vw : Nat), .int .i64 x.e, .slice x.c.ao x.c.n x.c.cap, .bool x.more, .slice x.s.ao x.s.n x.s.cap, .slice x.t.ao x.t.n x.t.cap] 41)).alloc (.cells #[.int .i64 y.kind, .int .u64 (y.view : Nat), .int .u64 (y.seq : Nat), .slice y.sum.ao y.sum.n y.sum.cap, .slice y.q.ao y.q.n y.q.cap, .int .u64 (y.cl : Nat), .int .u64 (y.st : Nat), .int .u64 (y.vw : Nat), .int .i64 y.e, .slice y.c.ao y.c.n y.c.cap, .bool y.more, .slice y.s.ao y.s.n y.s.cap, .slice y.t.ao y.t.n y.t.cap] 41)).heap.size ((w.alloc (.cells #[.int .i64 x.kind, .int .u64 (x.view : Nat), .int .u64 (x.seq : Nat), .slice x.sum.ao x.sum.n x.sum.cap, .slice x.q.ao x.q.n x.q.cap, .int .u64 (x.cl : Nat), .int .u64 (x.st : Nat), .int .u64 (x.vw : Nat), .int .i64 x.e, .slice x.c.ao x.c.n x.c.cap, .bool x.more, .slice x.s.ao x.s.n x.s.cap, .slice x.t.ao x.t.n x.t.cap] 41)).alloc (.cells #[.int .i64 y.kind, .int .u64 (y.view : Nat), .int .u64 (y.seq : Nat), .slice y.sum.ao y.sum.n y.sum.cap, .slice y.q.ao y.q.n y.q.cap, .int .u64 (y.cl : Nat), .int .u64 (y.st : Nat), .int .u64 (y.vw : Nat), .int .i64 y.e, .slice y.c.ao y.c.n y.c.cap, .bool y.more, .slice y.s.ao y.s.n y.s.cap, .slice y.t.ao y.t.n y.t.cap] 41)) V → BCs V w.heap.size x ∧ BCs V (w.heap.size + 1) y) := fun V hV => ⟨(KX.keep hV).cs, (KY.keep hV).cs⟩
 have X1 := hx.below B
 have Y1 := hy.below B
 have GX : GLQ ((w.alloc (.cells #[.int .i64 x.kind, .int .u64 (x.view : Nat), .int .u64 (x.seq : Nat), .slice x.sum.ao x.sum.n x.sum.cap, .slice x.q.ao x.q.n x.q.cap, .int .u64 (x.cl : Nat), .int .u64 (x.st : Nat), .int .u64 (x.vw : Nat), .int .i64 x.e, .slice x.c.ao x.c.n x.c.cap, .bool x.more, .slice x.s.ao x.s.n x.s.cap, .slice x.t.ao x.t.n x.t.cap] 41)).alloc (.cells #[.int .i64 y.kind, .int .u64 (y.view : Nat), .int .u64 (y.seq : Nat), .slice y.sum.ao y.sum.n y.sum.cap, .slice y.q.ao y.q.n y.q.cap, .int .u64 (y.cl : Nat), .int .u64 (y.st : Nat), .int .u64 (y.vw : Nat), .int .i64 y.e, .slice y.c.ao y.c.n y.c.cap, .bool y.more, .slice y.s.ao y.s.n y.s.cap, .slice y.t.ao y.t.n y.t.cap] 41)) x.q.ao x.q.n x.q.cap xs := ⟨by rw [← qx]; exact X1.q⟩
 have GY : GLQ ((w.alloc (.cells #[.int .i64 x.kind, .int .u64 (x.view : Nat), .int .u64 (x.seq : Nat), .slice x.sum.ao x.sum.n x.sum.cap, .slice x.q.ao x.q.n x.q.cap, .int .u64 (x.cl : Nat), .int .u64 (x.st : Nat), .int .u64 (x.vw : Nat), .int .i64 x.e, .slice x.c.ao x.c.n x.c.cap, .bool x.more, .slice x.s.ao x.s.n x.s.cap, .slice x.t.ao x.t.n x.t.cap] 41)).alloc (.cells #[.int .i64 y.kind, .int .u64 (y.view : Nat), .int .u64 (y.seq : Nat), .slice y.sum.ao y.sum.n y.sum.cap, .slice y.q.ao y.q.n y.q.cap, .int .u64 (y.cl : Nat), .int .u64 (y.st : Nat), .int .u64 (y.vw : Nat), .int .i64 y.e, .slice y.c.ao y.c.n y.c.cap, .bool y.more, .slice y.s.ao y.s.n y.s.cap, .slice y.t.ao y.t.n y.t.cap] 41)) y.q.ao y.q.n y.q.cap ys := ⟨by rw [← qy]; exact Y1.q⟩
 have CE := pequal_any _ _ _ _ _ _ _ _ _ X1.sum Y1.sum
 have CQ := fun V (hV : Below ((w.alloc (.cells #[.int .i64 x.kind, .int .u64 (x.view : Nat), .int .u64 (x.seq : Nat), .slice x.sum.ao x.sum.n x.sum.cap, .slice x.q.ao x.q.n x.q.cap, .int .u64 (x.cl : Nat), .int .u64 (x.st : Nat), .int .u64 (x.vw : Nat), .int .i64 x.e, .slice x.c.ao x.c.n x.c.cap, .bool x.more, .slice x.s.ao x.s.n x.s.cap, .slice x.t.ao x.t.n x.t.cap] 41)).alloc (.cells #[.int .i64 y.kind, .int .u64 (y.view : Nat), .int .u64 (y.seq : Nat), .slice y.sum.ao y.sum.n y.sum.cap, .slice y.q.ao y.q.n y.q.cap, .int .u64 (y.cl : Nat), .int .u64 (y.st : Nat), .int .u64 (y.vw : Nat), .int .i64 y.e, .slice y.c.ao y.c.n y.c.cap, .bool y.more, .slice y.s.ao y.s.n y.s.cap, .slice y.t.ao y.t.n y.t.cap] 41)).heap.size ((w.alloc (.cells #[.int .i64 x.kind, .int .u64 (x.view : Nat), .int .u64 (x.seq : Nat), .slice x.sum.ao x.sum.n x.sum.cap, .slice x.q.ao x.q.n x.q.cap, .int .u64 (x.cl : Nat), .int .u64 (x.st : Nat), .int .u64 (x.vw : Nat), .int .i64 x.e, .slice x.c.ao x.c.n x.c.cap, .bool x.more, .slice x.s.ao x.s.n x.s.cap, .slice x.t.ao x.t.n x.t.cap] 41)).alloc (.cells #[.int .i64 y.kind, .int .u64 (y.view : Nat), .int .u64 (y.seq : Nat), .slice y.sum.ao y.sum.n y.sum.cap, .slice y.q.ao y.q.n y.q.cap, .int .u64 (y.cl : Nat), .int .u64 (y.st : Nat), .int .u64 (y.vw : Nat), .int .i64 y.e, .slice y.c.ao y.c.n y.c.cap, .bool y.more, .slice y.s.ao y.s.n y.s.cap, .slice y.t.ao y.t.n y.t.cap] 41)) V) => eqfQ_any V _ _ _ _ _ _ xs ys (GX.below hV) (GY.below hV) qeE nq fun U hU a ha b hb => sameRequest_any U a b ((((wx a ha).below B).below hV).below hU) ((((wy b hb).below B).below hV).below hU) (lx a ha) (ly b hb)
 have CR := fun V (hV : Below ((w.alloc (.cells #[.int .i64 x.kind, .int .u64 (x.view : Nat), .int .u64 (x.seq : Nat), .slice x.sum.ao x.sum.n x.sum.cap, .slice x.q.ao x.q.n x.q.cap, .int .u64 (x.cl : Nat), .int .u64 (x.st : Nat), .int .u64 (x.vw : Nat), .int .i64 x.e, .slice x.c.ao x.c.n x.c.cap, .bool x.more, .slice x.s.ao x.s.n x.s.cap, .slice x.t.ao x.t.n x.t.cap] 41)).alloc (.cells #[.int .i64 y.kind, .int .u64 (y.view : Nat), .int .u64 (y.seq : Nat), .slice y.sum.ao y.sum.n y.sum.cap, .slice y.q.ao y.q.n y.q.cap, .int .u64 (y.cl : Nat), .int .u64 (y.st : Nat), .int .u64 (y.vw : Nat), .int .i64 y.e, .slice y.c.ao y.c.n y.c.cap, .bool y.more, .slice y.s.ao y.s.n y.s.cap, .slice y.t.ao y.t.n y.t.cap] 41)).heap.size ((w.alloc (.cells #[.int .i64 x.kind, .int .u64 (x.view : Nat), .int .u64 (x.seq : Nat), .slice x.sum.ao x.sum.n x.sum.cap, .slice x.q.ao x.q.n x.q.cap, .int .u64 (x.cl : Nat), .int .u64 (x.st : Nat), .int .u64 (x.vw : Nat), .int .i64 x.e, .slice x.c.ao x.c.n x.c.cap, .bool x.more, .slice x.s.ao x.s.n x.s.cap, .slice x.t.ao x.t.n x.t.cap] 41)).alloc (.cells #[.int .i64 y.kind, .int .u64 (y.view : Nat), .int .u64 (y.seq : Nat), .slice y.sum.ao y.sum.n y.sum.cap, .slice y.q.ao y.q.n y.q.cap, .int .u64 (y.cl : Nat), .int .u64 (y.st : Nat), .int .u64 (y.vw : Nat), .int .i64 y.e, .slice y.c.ao y.c.n y.c.cap, .bool y.more, .slice y.s.ao y.s.n y.s.cap, .slice y.t.ao y.t.n y.t.cap] 41)) V) => sameReply_any V x.cl x.st x.vw y.cl y.st y.vw x.e y.e _ _ _ _ _ _ x.more y.more x.c.l y.c.l (X1.c.below hV) (Y1.c.below hV) nc
 have CT := fun V (hV : Below ((w.alloc (.cells #[.int .i64 x.kind, .int .u64 (x.view : Nat), .int .u64 (x.seq : Nat), .slice x.sum.ao x.sum.n x.sum.cap, .slice x.q.ao x.q.n x.q.cap, .int .u64 (x.cl : Nat), .int .u64 (x.st : Nat), .int .u64 (x.vw : Nat), .int .i64 x.e, .slice x.c.ao x.c.n x.c.cap, .bool x.more, .slice x.s.ao x.s.n x.s.cap, .slice x.t.ao x.t.n x.t.cap] 41)).alloc (.cells #[.int .i64 y.kind, .int .u64 (y.view : Nat), .int .u64 (y.seq : Nat), .slice y.sum.ao y.sum.n y.sum.cap, .slice y.q.ao y.q.n y.q.cap, .int .u64 (y.cl : Nat), .int .u64 (y.st : Nat), .int .u64 (y.vw : Nat), .int .i64 y.e, .slice y.c.ao y.c.n y.c.cap, .bool y.more, .slice y.s.ao y.s.n y.s.cap, .slice y.t.ao y.t.n y.t.cap] 41)).heap.size ((w.alloc (.cells #[.int .i64 x.kind, .int .u64 (x.view : Nat), .int .u64 (x.seq : Nat), .slice x.sum.ao x.sum.n x.sum.cap, .slice x.q.ao x.q.n x.q.cap, .int .u64 (x.cl : Nat), .int .u64 (x.st : Nat), .int .u64 (x.vw : Nat), .int .i64 x.e, .slice x.c.ao x.c.n x.c.cap, .bool x.more, .slice x.s.ao x.s.n x.s.cap, .slice x.t.ao x.t.n x.t.cap] 41)).alloc (.cells #[.int .i64 y.kind, .int .u64 (y.view : Nat), .int .u64 (y.seq : Nat), .slice y.sum.ao y.sum.n y.sum.cap, .slice y.q.ao y.q.n y.q.cap, .int .u64 (y.cl : Nat), .int .u64 (y.st : Nat), .int .u64 (y.vw : Nat), .int .i64 y.e, .slice y.c.ao y.c.n y.c.cap, .bool y.more, .slice y.s.ao y.s.n y.s.cap, .slice y.t.ao y.t.n y.t.cap] 41)) V) => sameTexts_any V _ _ _ _ _ _ x.s.l y.s.l (X1.s.below elS_fine hV) (Y1.s.below elS_fine hV) ns
 have CS := fun V (hV : Below ((w.alloc (.cells #[.int .i64 x.kind, .int .u64 (x.view : Nat), .int .u64 (x.seq : Nat), .slice x.sum.ao x.sum.n x.sum.cap, .slice x.q.ao x.q.n x.q.cap, .int .u64 (x.cl : Nat), .int .u64 (x.st : Nat), .int .u64 (x.vw : Nat), .int .i64 x.e, .slice x.c.ao x.c.n x.c.cap, .bool x.more, .slice x.s.ao x.s.n x.s.cap, .slice x.t.ao x.t.n x.t.cap] 41)).alloc (.cells #[.int .i64 y.kind, .int .u64 (y.view : Nat), .int .u64 (y.seq : Nat), .slice y.sum.ao y.sum.n y.sum.cap, .slice y.q.ao y.q.n y.q.cap, .int .u64 (y.cl : Nat), .int .u64 (y.st : Nat), .int .u64 (y.vw : Nat), .int .i64 y.e, .slice y.c.ao y.c.n y.c.cap, .bool y.more, .slice y.s.ao y.s.n y.s.cap, .slice y.t.ao y.t.n y.t.cap] 41)).heap.size ((w.alloc (.cells #[.int .i64 x.kind, .int .u64 (x.view : Nat), .int .u64 (x.seq : Nat), .slice x.sum.ao x.sum.n x.sum.cap, .slice x.q.ao x.q.n x.q.cap, .int .u64 (x.cl : Nat), .int .u64 (x.st : Nat), .int .u64 (x.vw : Nat), .int .i64 x.e, .slice x.c.ao x.c.n x.c.cap, .bool x.more, .slice x.s.ao x.s.n x.s.cap, .slice x.t.ao x.t.n x.t.cap] 41)).alloc (.cells #[.int .i64 y.kind, .int .u64 (y.view : Nat), .int .u64 (y.seq : Nat), .slice y.sum.ao y.sum.n y.sum.cap, .slice y.q.ao y.q.n y.q.cap, .int .u64 (y.cl : Nat), .int .u64 (y.st : Nat), .int .u64 (y.vw : Nat), .int .i64 y.e, .slice y.c.ao y.c.n y.c.cap, .bool y.more, .slice y.s.ao y.s.n y.s.cap, .slice y.t.ao y.t.n y.t.cap] 41)) V) => sameSets_any V _ _ _ _ _ _ x.t.l y.t.l (X1.t.below elS_fine.lists hV) (Y1.t.below elS_fine.lists hV) nt nu
 obtain ⟨dE, h0⟩ : ∃ v, v = decide (x.sum.xs = y.sum.xs) := ⟨_, rfl⟩
 obtain ⟨S1, h1⟩ : ∃ v, v = sameL qeE xs ys := ⟨_, rfl⟩
 obtain ⟨S2, h2⟩ : ∃ v, v = rpE x.cl x.st x.vw y.cl y.st y.vw (decide (x.e = y.e) && (decide (x.more = y.more) && sameL ceE x.c.l y.c.l)) := ⟨_, rfl⟩
 obtain ⟨S3, h3⟩ : ∃ v, v = sameL sgE x.s.l y.s.l := ⟨_, rfl⟩
 obtain ⟨S4, h4⟩ : ∃ v, v = sameL lsE x.t.l y.t.l := ⟨_, rfl⟩
 have HE : Hid (msB x y xs ys = (decide (x.kind = y.kind) && (decide (x.view = y.view) && (decide (x.seq = y.seq) && (dE && (S1 && (S2 && (S3 && S4)))))))) := by show _ = _; unfold msB; rw [h0, h1, h2, h3, h4]
 rw [HE.out]
 rw [← h0] at CE
 rw [← h1] at CQ
 rw [← h2] at CR
 rw [← h3] at CT
 rw [← h4] at CS
 clear KX KY HE h0 h1 h2 h3 h4 X1 Y1 GX GY hx hy qx qy wx wy lx ly nq nc ns nt nu
 unfold BM.val
 by_cases a0 : x.kind = y.kind
 ·have i0 : (x.kind == y.kind) = true := by simp [a0]
  rw [decide_eq_true a0]
  clear a0
  by_cases a1 : x.view = y.view
  ·have i1 : ((x.view : Int) == (y.view : Int)) = true := by simp [a1]
   rw [decide_eq_true a1]
   clear a1
   by_cases a2 : x.seq = y.seq
   ·have i2 : ((x.seq : Int) == (y.seq : Int)) = true := by simp [a2]
    rw [decide_eq_true a2]
    clear a2
    cases dE with
    | false =>
     clear CQ CR CT CS
     go_enter Tryz.func10, Tryz.ntmps10
     go_wp2_with (first
      | (go_at_call 26; refine CE.mono ?_; rintro e w4 ⟨rfl, hw4⟩; have hw4 := hw4.symm; subst hw4))
     go_ret
     exact ⟨by first | rfl | simp, B⟩
    | true =>
     cases S1 with
     | false =>
      clear CR CT CS
      go_enter Tryz.func10, Tryz.ntmps10
      go_wp2_with (first
       | (go_at_call 26; refine CE.mono ?_; rintro e w4 ⟨rfl, hw4⟩; have hw4 := hw4.symm; subst hw4)
       | (go_at_call 27; refine (CQ _ (Below.refl _ _)).mono ?_; rintro e w5 ⟨rfl, E5⟩; obtain ⟨⟨-, -, -, -, -, x5, x6, x7, x8, x9, x10, x11, x12⟩, ⟨-, -, -, -, -, y5, y6, y7, y8, y9, y10, y11, y12⟩⟩ := HBX.out w5 E5))
      go_ret
      exact ⟨by first | rfl | simp, B.trans (E5.mono B.size)⟩
     | true =>
      cases S2 with
      | false =>
       clear CT CS
       go_enter Tryz.func10, Tryz.ntmps10
       go_wp2_with (first
        | (go_at_call 26; refine CE.mono ?_; rintro e w4 ⟨rfl, hw4⟩; have hw4 := hw4.symm; subst hw4)
        | (go_at_call 27; refine (CQ _ (Below.refl _ _)).mono ?_; rintro e w5 ⟨rfl, E5⟩; obtain ⟨⟨-, -, -, -, -, x5, x6, x7, x8, x9, x10, x11, x12⟩, ⟨-, -, -, -, -, y5, y6, y7, y8, y9, y10, y11, y12⟩⟩ := HBX.out w5 E5)
        | (go_at_call 29; refine (CR w5 E5).mono ?_; rintro e w6 ⟨rfl, E6⟩; have E6 := E5.trans (E6.mono E5.size); clear x5 y5 x6 y6 x7 y7 x8 y8 x9 y9 x10 y10 x11 y11 x12 y12; obtain ⟨⟨-, -, -, -, -, -, -, -, -, -, -, x11, x12⟩, ⟨-, -, -, -, -, -, -, -, -, -, -, y11, y12⟩⟩ := HBX.out w6 E6))
       go_ret
       exact ⟨by first | rfl | simp, B.trans (E6.mono B.size)⟩
      | true =>
       cases S3 with
       | false =>
        clear CS
        go_enter Tryz.func10, Tryz.ntmps10
        go_wp2_with (first
         | (go_at_call 26; refine CE.mono ?_; rintro e w4 ⟨rfl, hw4⟩; have hw4 := hw4.symm; subst hw4)
         | (go_at_call 27; refine (CQ _ (Below.refl _ _)).mono ?_; rintro e w5 ⟨rfl, E5⟩; obtain ⟨⟨-, -, -, -, -, x5, x6, x7, x8, x9, x10, x11, x12⟩, ⟨-, -, -, -, -, y5, y6, y7, y8, y9, y10, y11, y12⟩⟩ := HBX.out w5 E5)
         | (go_at_call 29; refine (CR w5 E5).mono ?_; rintro e w6 ⟨rfl, E6⟩; have E6 := E5.trans (E6.mono E5.size); clear x5 y5 x6 y6 x7 y7 x8 y8 x9 y9 x10 y10 x11 y11 x12 y12; obtain ⟨⟨-, -, -, -, -, -, -, -, -, -, -, x11, x12⟩, ⟨-, -, -, -, -, -, -, -, -, -, -, y11, y12⟩⟩ := HBX.out w6 E6)
         | (go_at_call 30; refine (CT w6 E6).mono ?_; rintro e w7 ⟨rfl, E7⟩; have E7 := E6.trans (E7.mono E6.size); clear x11 y11 x12 y12; obtain ⟨⟨-, -, -, -, -, -, -, -, -, -, -, -, x12⟩, ⟨-, -, -, -, -, -, -, -, -, -, -, -, y12⟩⟩ := HBX.out w7 E7))
        go_ret
        exact ⟨by first | rfl | simp, B.trans (E7.mono B.size)⟩
       | true =>
        cases S4 with
        | false =>
         go_enter Tryz.func10, Tryz.ntmps10
         go_wp2_with (first
          | (go_at_call 26; refine CE.mono ?_; rintro e w4 ⟨rfl, hw4⟩; have hw4 := hw4.symm; subst hw4)
          | (go_at_call 27; refine (CQ _ (Below.refl _ _)).mono ?_; rintro e w5 ⟨rfl, E5⟩; obtain ⟨⟨-, -, -, -, -, x5, x6, x7, x8, x9, x10, x11, x12⟩, ⟨-, -, -, -, -, y5, y6, y7, y8, y9, y10, y11, y12⟩⟩ := HBX.out w5 E5)
          | (go_at_call 29; refine (CR w5 E5).mono ?_; rintro e w6 ⟨rfl, E6⟩; have E6 := E5.trans (E6.mono E5.size); clear x5 y5 x6 y6 x7 y7 x8 y8 x9 y9 x10 y10 x11 y11 x12 y12; obtain ⟨⟨-, -, -, -, -, -, -, -, -, -, -, x11, x12⟩, ⟨-, -, -, -, -, -, -, -, -, -, -, y11, y12⟩⟩ := HBX.out w6 E6)
          | (go_at_call 30; refine (CT w6 E6).mono ?_; rintro e w7 ⟨rfl, E7⟩; have E7 := E6.trans (E7.mono E6.size); clear x11 y11 x12 y12; obtain ⟨⟨-, -, -, -, -, -, -, -, -, -, -, -, x12⟩, ⟨-, -, -, -, -, -, -, -, -, -, -, -, y12⟩⟩ := HBX.out w7 E7)
          | (go_at_call 31; refine (CS w7 E7).mono ?_; rintro e w8 ⟨rfl, E8⟩; have E8 := E7.trans (E8.mono E7.size)))
         go_ret
         exact ⟨by first | rfl | simp, B.trans (E8.mono B.size)⟩
        | true =>
         go_enter Tryz.func10, Tryz.ntmps10
         go_wp2_with (first
          | (go_at_call 26; refine CE.mono ?_; rintro e w4 ⟨rfl, hw4⟩; have hw4 := hw4.symm; subst hw4)
          | (go_at_call 27; refine (CQ _ (Below.refl _ _)).mono ?_; rintro e w5 ⟨rfl, E5⟩; obtain ⟨⟨-, -, -, -, -, x5, x6, x7, x8, x9, x10, x11, x12⟩, ⟨-, -, -, -, -, y5, y6, y7, y8, y9, y10, y11, y12⟩⟩ := HBX.out w5 E5)
          | (go_at_call 29; refine (CR w5 E5).mono ?_; rintro e w6 ⟨rfl, E6⟩; have E6 := E5.trans (E6.mono E5.size); clear x5 y5 x6 y6 x7 y7 x8 y8 x9 y9 x10 y10 x11 y11 x12 y12; obtain ⟨⟨-, -, -, -, -, -, -, -, -, -, -, x11, x12⟩, ⟨-, -, -, -, -, -, -, -, -, -, -, y11, y12⟩⟩ := HBX.out w6 E6)
          | (go_at_call 30; refine (CT w6 E6).mono ?_; rintro e w7 ⟨rfl, E7⟩; have E7 := E6.trans (E7.mono E6.size); clear x11 y11 x12 y12; obtain ⟨⟨-, -, -, -, -, -, -, -, -, -, -, -, x12⟩, ⟨-, -, -, -, -, -, -, -, -, -, -, -, y12⟩⟩ := HBX.out w7 E7)
          | (go_at_call 31; refine (CS w7 E7).mono ?_; rintro e w8 ⟨rfl, E8⟩; have E8 := E7.trans (E8.mono E7.size)))
         go_ret
         exact ⟨by first | rfl | simp, B.trans (E8.mono B.size)⟩
   ·have i2 : ((x.seq : Int) == (y.seq : Int)) = false := by simp; omega
    rw [decide_eq_false a2]
    clear a2
    clear CE CQ CR CT CS
    go_enter Tryz.func10, Tryz.ntmps10
    go_wp2
    go_ret
    exact ⟨by first | rfl | simp, B⟩
  ·have i1 : ((x.view : Int) == (y.view : Int)) = false := by simp; omega
   rw [decide_eq_false a1]
   clear a1
   clear CE CQ CR CT CS
   go_enter Tryz.func10, Tryz.ntmps10
   go_wp2
   go_ret
   exact ⟨by first | rfl | simp, B⟩
 ·have i0 : (x.kind == y.kind) = false := by simp [a0]
  rw [decide_eq_false a0]
  clear a0
  clear CE CQ CR CT CS
  go_enter Tryz.func10, Tryz.ntmps10
  go_wp2
  go_ret
  exact ⟨by first | rfl | simp, B⟩
end Go.Proofs.YtnbejckdhdbamaaGreat

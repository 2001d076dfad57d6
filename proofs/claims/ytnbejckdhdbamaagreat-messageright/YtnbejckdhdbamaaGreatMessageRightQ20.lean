/-
  Texts in one: RgOnly.
-/
import Derived.Test.YtnbejckdhdbamaaGreatMessageRightQ19
import Derived.Test.YtnbejckdhdbamaaGreatMessageRightQ17
import Derived.Test.YtnbejckdhdbamaaGreatMessageRightQ3
import Derived.Deep.DeepCutAuto
import Derived.Deep.CutBlock
namespace Go.Proofs.YtnbejckdhdbamaaGreat
open Go.RowKit
set_option maxRecDepth 100000 in
set_option maxHeartbeats 16000000 in
theorem only13_any (w : World) (x : BM) : Calls Tryz.prog 20 #[x.val] w fun e w' => e = .returned (onlyB x).val ∧ Below w.heap.size w w' := by
 have B : Below w.heap.size w (((w.alloc (Obj.cells #[.int .i64 x.kind, .int .u64 (x.view : Nat), .int .u64 (x.seq : Nat), .slice x.sum.ao x.sum.n x.sum.cap, .slice x.q.ao x.q.n x.q.cap, .int .u64 (x.cl : Nat), .int .u64 (x.st : Nat), .int .u64 (x.vw : Nat), .int .i64 x.e, .slice x.c.ao x.c.n x.c.cap, .bool x.more, .slice x.s.ao x.s.n x.s.cap, .slice x.t.ao x.t.n x.t.cap] 34)).alloc (Obj.cells #[.int .i64 0, .int .u64 0, .int .u64 0, .slice none 0 0, .slice none 0 0, .int .u64 0, .int .u64 0, .int .u64 0, .int .i64 0, .slice none 0 0, .bool false, .slice none 0 0, .slice none 0 0] 34)).alloc (Obj.cells #[.int .i64 x.kind, .int .u64 0, .int .u64 0, .slice none 0 0, .slice none 0 0, .int .u64 0, .int .u64 0, .int .u64 0, .int .i64 0, .slice none 0 0, .bool false, .slice none 0 0, .slice none 0 0] 34)) := (((Below.refl _ w).alloc (Nat.le_refl _) _).alloc (by simp) _).alloc (by simp; omega) _
 have KX : (((w.alloc (Obj.cells #[.int .i64 x.kind, .int .u64 (x.view : Nat), .int .u64 (x.seq : Nat), .slice x.sum.ao x.sum.n x.sum.cap, .slice x.q.ao x.q.n x.q.cap, .int .u64 (x.cl : Nat), .int .u64 (x.st : Nat), .int .u64 (x.vw : Nat), .int .i64 x.e, .slice x.c.ao x.c.n x.c.cap, .bool x.more, .slice x.s.ao x.s.n x.s.cap, .slice x.t.ao x.t.n x.t.cap] 34)).alloc (Obj.cells #[.int .i64 0, .int .u64 0, .int .u64 0, .slice none 0 0, .slice none 0 0, .int .u64 0, .int .u64 0, .int .u64 0, .int .i64 0, .slice none 0 0, .bool false, .slice none 0 0, .slice none 0 0] 34)).alloc (Obj.cells #[.int .i64 x.kind, .int .u64 0, .int .u64 0, .slice none 0 0, .slice none 0 0, .int .u64 0, .int .u64 0, .int .u64 0, .int .i64 0, .slice none 0 0, .bool false, .slice none 0 0, .slice none 0 0] 34)).heap[w.heap.size]? = some (.cells #[.int .i64 x.kind, .int .u64 (x.view : Nat), .int .u64 (x.seq : Nat), .slice x.sum.ao x.sum.n x.sum.cap, .slice x.q.ao x.q.n x.q.cap, .int .u64 (x.cl : Nat), .int .u64 (x.st : Nat), .int .u64 (x.vw : Nat), .int .i64 x.e, .slice x.c.ao x.c.n x.c.cap, .bool x.more, .slice x.s.ao x.s.n x.s.cap, .slice x.t.ao x.t.n x.t.cap] 34) := (heap_alloc_old _ _ (by simp; omega)).trans ((heap_alloc_old _ _ (by simp)).trans (heap_alloc_new w _))
 have KM : (((w.alloc (Obj.cells #[.int .i64 x.kind, .int .u64 (x.view : Nat), .int .u64 (x.seq : Nat), .slice x.sum.ao x.sum.n x.sum.cap, .slice x.q.ao x.q.n x.q.cap, .int .u64 (x.cl : Nat), .int .u64 (x.st : Nat), .int .u64 (x.vw : Nat), .int .i64 x.e, .slice x.c.ao x.c.n x.c.cap, .bool x.more, .slice x.s.ao x.s.n x.s.cap, .slice x.t.ao x.t.n x.t.cap] 34)).alloc (Obj.cells #[.int .i64 0, .int .u64 0, .int .u64 0, .slice none 0 0, .slice none 0 0, .int .u64 0, .int .u64 0, .int .u64 0, .int .i64 0, .slice none 0 0, .bool false, .slice none 0 0, .slice none 0 0] 34)).alloc (Obj.cells #[.int .i64 x.kind, .int .u64 0, .int .u64 0, .slice none 0 0, .slice none 0 0, .int .u64 0, .int .u64 0, .int .u64 0, .int .i64 0, .slice none 0 0, .bool false, .slice none 0 0, .slice none 0 0] 34)).heap[w.heap.size + 1]? = some (.cells #[.int .i64 0, .int .u64 0, .int .u64 0, .slice none 0 0, .slice none 0 0, .int .u64 0, .int .u64 0, .int .u64 0, .int .i64 0, .slice none 0 0, .bool false, .slice none 0 0, .slice none 0 0] 34) := by
  refine (heap_alloc_old _ _ (by simp)).trans ?_
  have := heap_alloc_new (w.alloc (Obj.cells #[.int .i64 x.kind, .int .u64 (x.view : Nat), .int .u64 (x.seq : Nat), .slice x.sum.ao x.sum.n x.sum.cap, .slice x.q.ao x.q.n x.q.cap, .int .u64 (x.cl : Nat), .int .u64 (x.st : Nat), .int .u64 (x.vw : Nat), .int .i64 x.e, .slice x.c.ao x.c.n x.c.cap, .bool x.more, .slice x.s.ao x.s.n x.s.cap, .slice x.t.ao x.t.n x.t.cap] 34)) (Obj.cells #[.int .i64 0, .int .u64 0, .int .u64 0, .slice none 0 0, .slice none 0 0, .int .u64 0, .int .u64 0, .int .u64 0, .int .i64 0, .slice none 0 0, .bool false, .slice none 0 0, .slice none 0 0] 34)
  simpa using this
 have KG : (((w.alloc (Obj.cells #[.int .i64 x.kind, .int .u64 (x.view : Nat), .int .u64 (x.seq : Nat), .slice x.sum.ao x.sum.n x.sum.cap, .slice x.q.ao x.q.n x.q.cap, .int .u64 (x.cl : Nat), .int .u64 (x.st : Nat), .int .u64 (x.vw : Nat), .int .i64 x.e, .slice x.c.ao x.c.n x.c.cap, .bool x.more, .slice x.s.ao x.s.n x.s.cap, .slice x.t.ao x.t.n x.t.cap] 34)).alloc (Obj.cells #[.int .i64 0, .int .u64 0, .int .u64 0, .slice none 0 0, .slice none 0 0, .int .u64 0, .int .u64 0, .int .u64 0, .int .i64 0, .slice none 0 0, .bool false, .slice none 0 0, .slice none 0 0] 34)).alloc (Obj.cells #[.int .i64 x.kind, .int .u64 0, .int .u64 0, .slice none 0 0, .slice none 0 0, .int .u64 0, .int .u64 0, .int .u64 0, .int .i64 0, .slice none 0 0, .bool false, .slice none 0 0, .slice none 0 0] 34)).heap[w.heap.size + 2]? = some (.cells #[.int .i64 x.kind, .int .u64 0, .int .u64 0, .slice none 0 0, .slice none 0 0, .int .u64 0, .int .u64 0, .int .u64 0, .int .i64 0, .slice none 0 0, .bool false, .slice none 0 0, .slice none 0 0] 34) := by
  have := heap_alloc_new ((w.alloc (Obj.cells #[.int .i64 x.kind, .int .u64 (x.view : Nat), .int .u64 (x.seq : Nat), .slice x.sum.ao x.sum.n x.sum.cap, .slice x.q.ao x.q.n x.q.cap, .int .u64 (x.cl : Nat), .int .u64 (x.st : Nat), .int .u64 (x.vw : Nat), .int .i64 x.e, .slice x.c.ao x.c.n x.c.cap, .bool x.more, .slice x.s.ao x.s.n x.s.cap, .slice x.t.ao x.t.n x.t.cap] 34)).alloc (Obj.cells #[.int .i64 0, .int .u64 0, .int .u64 0, .slice none 0 0, .slice none 0 0, .int .u64 0, .int .u64 0, .int .u64 0, .int .i64 0, .slice none 0 0, .bool false, .slice none 0 0, .slice none 0 0] 34)) (Obj.cells #[.int .i64 x.kind, .int .u64 0, .int .u64 0, .slice none 0 0, .slice none 0 0, .int .u64 0, .int .u64 0, .int .u64 0, .int .i64 0, .slice none 0 0, .bool false, .slice none 0 0, .slice none 0 0] 34)
  simpa using this
 unfold BM.val
 go_enter Tryz.func20, Tryz.ntmps20
 go_upto_region 2 with fail
 obtain ⟨w3, hw3⟩ : ∃ W, W = (((w.alloc (Obj.cells #[.int .i64 x.kind, .int .u64 (x.view : Nat), .int .u64 (x.seq : Nat), .slice x.sum.ao x.sum.n x.sum.cap, .slice x.q.ao x.q.n x.q.cap, .int .u64 (x.cl : Nat), .int .u64 (x.st : Nat), .int .u64 (x.vw : Nat), .int .i64 x.e, .slice x.c.ao x.c.n x.c.cap, .bool x.more, .slice x.s.ao x.s.n x.s.cap, .slice x.t.ao x.t.n x.t.cap] 34)).alloc (Obj.cells #[.int .i64 0, .int .u64 0, .int .u64 0, .slice none 0 0, .slice none 0 0, .int .u64 0, .int .u64 0, .int .u64 0, .int .i64 0, .slice none 0 0, .bool false, .slice none 0 0, .slice none 0 0] 34)).alloc (Obj.cells #[.int .i64 x.kind, .int .u64 0, .int .u64 0, .slice none 0 0, .slice none 0 0, .int .u64 0, .int .u64 0, .int .u64 0, .int .i64 0, .slice none 0 0, .bool false, .slice none 0 0, .slice none 0 0] 34)) := ⟨_, rfl⟩
 rw [← hw3] at B KX KM KG ⊢
 obtain ⟨N, hN⟩ : ∃ N, N = w.heap.size := ⟨_, rfl⟩
 rw [← hN] at KX KM KG B ⊢
 have HN : Hid (N = w.heap.size) := hN
 have hN3 : N + 2 < w3.heap.size := (Array.getElem?_eq_some_iff.1 KG).1
 clear hw3 hN
 have p0 := cell_of_row w3 N 0 _ _ _ KX
 have p1 := cell_of_row w3 N 1 _ _ _ KX
 have p2 := cell_of_row w3 N 2 _ _ _ KX
 have p3 := cell_of_row w3 N 3 _ _ _ KX
 have p4 := cell_of_row w3 N 4 _ _ _ KX
 have p5 := cell_of_row w3 N 5 _ _ _ KX
 have p6 := cell_of_row w3 N 6 _ _ _ KX
 have p7 := cell_of_row w3 N 7 _ _ _ KX
 have p8 := cell_of_row w3 N 8 _ _ _ KX
 have p9 := cell_of_row w3 N 9 _ _ _ KX
 have p10 := cell_of_row w3 N 10 _ _ _ KX
 have p11 := cell_of_row w3 N 11 _ _ _ KX
 have p12 := cell_of_row w3 N 12 _ _ _ KX
 have m1 := cell_of_row w3 (N + 2) 1 _ _ _ KG
 have f1 : w3.frozen? ⟨N + 2, 1, none⟩ = false := frozen_of_row w3 (N + 2) 1 _ _ KG
 have m2 := cell_of_row w3 (N + 2) 2 _ _ _ KG
 have f2 : w3.frozen? ⟨N + 2, 2, none⟩ = false := frozen_of_row w3 (N + 2) 2 _ _ KG
 have m3 := cell_of_row w3 (N + 2) 3 _ _ _ KG
 have f3 : w3.frozen? ⟨N + 2, 3, none⟩ = false := frozen_of_row w3 (N + 2) 3 _ _ KG
 have m4 := cell_of_row w3 (N + 2) 4 _ _ _ KG
 have f4 : w3.frozen? ⟨N + 2, 4, none⟩ = false := frozen_of_row w3 (N + 2) 4 _ _ KG
 have m5 := cell_of_row w3 (N + 2) 5 _ _ _ KG
 have f5 : w3.frozen? ⟨N + 2, 5, none⟩ = false := frozen_of_row w3 (N + 2) 5 _ _ KG
 have m6 := cell_of_row w3 (N + 2) 6 _ _ _ KG
 have f6 : w3.frozen? ⟨N + 2, 6, none⟩ = false := frozen_of_row w3 (N + 2) 6 _ _ KG
 have m7 := cell_of_row w3 (N + 2) 7 _ _ _ KG
 have f7 : w3.frozen? ⟨N + 2, 7, none⟩ = false := frozen_of_row w3 (N + 2) 7 _ _ KG
 have m8 := cell_of_row w3 (N + 2) 8 _ _ _ KG
 have f8 : w3.frozen? ⟨N + 2, 8, none⟩ = false := frozen_of_row w3 (N + 2) 8 _ _ KG
 have m9 := cell_of_row w3 (N + 2) 9 _ _ _ KG
 have f9 : w3.frozen? ⟨N + 2, 9, none⟩ = false := frozen_of_row w3 (N + 2) 9 _ _ KG
 have m10 := cell_of_row w3 (N + 2) 10 _ _ _ KG
 have f10 : w3.frozen? ⟨N + 2, 10, none⟩ = false := frozen_of_row w3 (N + 2) 10 _ _ KG
 have m11 := cell_of_row w3 (N + 2) 11 _ _ _ KG
 have f11 : w3.frozen? ⟨N + 2, 11, none⟩ = false := frozen_of_row w3 (N + 2) 11 _ _ KG
 have m12 := cell_of_row w3 (N + 2) 12 _ _ _ KG
 have f12 : w3.frozen? ⟨N + 2, 12, none⟩ = false := frozen_of_row w3 (N + 2) 12 _ _ KG
 go_upto_block 0 with fail
 go_cut [3] (fun s wx => s = .pointer (some ⟨N + 2, 0, none⟩) ∧ wx.heap[N + 1]? = some (.cells #[.int .i64 0, .int .u64 0, .int .u64 0, .slice none 0 0, .slice none 0 0, .int .u64 0, .int .u64 0, .int .u64 0, .int .i64 0, .slice none 0 0, .bool false, .slice none 0 0, .slice none 0 0] 34) ∧ wx.heap[N + 2]? = some (.cells (onlyB x).cells.toArray 34) ∧ Below N w wx)
 case first =>
  have hk : x.kind = 1 ∨ x.kind = 2 ∨ x.kind = 3 ∨ x.kind = 4 ∨ x.kind = 5 ∨ x.kind = 6 ∨ x.kind = 7 ∨ x.kind = 8 ∨ x.kind = 9 ∨ x.kind = 10 ∨ x.kind = 11 ∨ x.kind = 12 ∨ x.kind = 13 ∨ x.kind = 14 ∨ ¬ (1 ≤ x.kind ∧ x.kind ≤ 14) := by omega
  rcases hk with hk | hk | hk | hk | hk | hk | hk | hk | hk | hk | hk | hk | hk | hk | hk
  ·as_aux_lemma =>
    have HZ : (#[.int .i64 x.kind, .int .u64 0, .int .u64 0, .slice none 0 0, .slice x.q.ao x.q.n x.q.cap, .int .u64 0, .int .u64 0, .int .u64 0, .int .i64 0, .slice none 0 0, .bool false, .slice none 0 0, .slice none 0 0] : Array Value) = (onlyB x).cells.toArray := by
     unfold onlyB BM.cells hasVw hasSq hasSm hasRq hasRp hasCt hasSt
     simp [hk]
    have t1 : (x.kind == 1) = true := by simp [hk]
    have t2 : (x.kind == 2) = false := by simp [hk]
    have t3 : (x.kind == 3) = false := by simp [hk]
    have t4 : (x.kind == 4) = false := by simp [hk]
    have t5 : (x.kind == 5) = false := by simp [hk]
    have t6 : (x.kind == 6) = false := by simp [hk]
    have t7 : (x.kind == 7) = false := by simp [hk]
    have t8 : (x.kind == 8) = false := by simp [hk]
    have t9 : (x.kind == 9) = false := by simp [hk]
    have t10 : (x.kind == 10) = false := by simp [hk]
    have t11 : (x.kind == 11) = false := by simp [hk]
    have t12 : (x.kind == 12) = false := by simp [hk]
    have t13 : (x.kind == 13) = false := by simp [hk]
    have t14 : (x.kind == 14) = false := by simp [hk]
    have KGt : ((w3).setCell ⟨N + 2, 4, none⟩ (.slice x.q.ao x.q.n x.q.cap)).heap[N + 2]? = some (.cells #[.int .i64 x.kind, .int .u64 0, .int .u64 0, .slice none 0 0, .slice x.q.ao x.q.n x.q.cap, .int .u64 0, .int .u64 0, .int .u64 0, .int .i64 0, .slice none 0 0, .bool false, .slice none 0 0, .slice none 0 0] 34) := (heap_setCell_same _ _ 4 _ _ _ KG)
    rw [HZ] at KGt
    have KMt : ((w3).setCell ⟨N + 2, 4, none⟩ (.slice x.q.ao x.q.n x.q.cap)).heap[N + 1]? = some (.cells #[.int .i64 0, .int .u64 0, .int .u64 0, .slice none 0 0, .slice none 0 0, .int .u64 0, .int .u64 0, .int .u64 0, .int .i64 0, .slice none 0 0, .bool false, .slice none 0 0, .slice none 0 0] 34) := (heap_setCell_other _ _ (N + 1) _ (by show N + 1 ≠ N + 2; omega)).trans (KM)
    have Bt : Below N w ((w3).setCell ⟨N + 2, 4, none⟩ (.slice x.q.ao x.q.n x.q.cap)) := (B).setCell (p := ⟨N + 2, 4, none⟩) (by show N ≤ N + 2; omega) _
    clear hk HZ KM KG B KX
    go_wp2_with fail
    go_meet
    exact ⟨rfl, KMt, KGt, Bt⟩
  ·as_aux_lemma =>
    have HZ : (#[.int .i64 x.kind, .int .u64 (x.view : Nat), .int .u64 (x.seq : Nat), .slice x.sum.ao x.sum.n x.sum.cap, .slice none 0 0, .int .u64 0, .int .u64 0, .int .u64 0, .int .i64 0, .slice none 0 0, .bool false, .slice none 0 0, .slice none 0 0] : Array Value) = (onlyB x).cells.toArray := by
     unfold onlyB BM.cells hasVw hasSq hasSm hasRq hasRp hasCt hasSt
     simp [hk]
    have t1 : (x.kind == 1) = false := by simp [hk]
    have t2 : (x.kind == 2) = true := by simp [hk]
    have t3 : (x.kind == 3) = false := by simp [hk]
    have t4 : (x.kind == 4) = false := by simp [hk]
    have t5 : (x.kind == 5) = false := by simp [hk]
    have t6 : (x.kind == 6) = false := by simp [hk]
    have t7 : (x.kind == 7) = false := by simp [hk]
    have t8 : (x.kind == 8) = false := by simp [hk]
    have t9 : (x.kind == 9) = false := by simp [hk]
    have t10 : (x.kind == 10) = false := by simp [hk]
    have t11 : (x.kind == 11) = false := by simp [hk]
    have t12 : (x.kind == 12) = false := by simp [hk]
    have t13 : (x.kind == 13) = false := by simp [hk]
    have t14 : (x.kind == 14) = false := by simp [hk]
    have KGt : ((((w3).setCell ⟨N + 1 + 1, 1, none⟩ (.int .u64 (x.view : Nat))).setCell ⟨N + 1 + 1, 2, none⟩ (.int .u64 (x.seq : Nat))).setCell ⟨N + 1 + 1, 3, none⟩ (.slice x.sum.ao x.sum.n x.sum.cap)).heap[N + 1 + 1]? = some (.cells #[.int .i64 x.kind, .int .u64 (x.view : Nat), .int .u64 (x.seq : Nat), .slice x.sum.ao x.sum.n x.sum.cap, .slice none 0 0, .int .u64 0, .int .u64 0, .int .u64 0, .int .i64 0, .slice none 0 0, .bool false, .slice none 0 0, .slice none 0 0] 34) := (heap_setCell_same _ _ 3 _ _ _ (heap_setCell_same _ _ 2 _ _ _ (heap_setCell_same _ _ 1 _ _ _ KG)))
    rw [HZ] at KGt
    have KMt : ((((w3).setCell ⟨N + 1 + 1, 1, none⟩ (.int .u64 (x.view : Nat))).setCell ⟨N + 1 + 1, 2, none⟩ (.int .u64 (x.seq : Nat))).setCell ⟨N + 1 + 1, 3, none⟩ (.slice x.sum.ao x.sum.n x.sum.cap)).heap[N + 1]? = some (.cells #[.int .i64 0, .int .u64 0, .int .u64 0, .slice none 0 0, .slice none 0 0, .int .u64 0, .int .u64 0, .int .u64 0, .int .i64 0, .slice none 0 0, .bool false, .slice none 0 0, .slice none 0 0] 34) := (heap_setCell_other _ _ (N + 1) _ (by show N + 1 ≠ N + 1 + 1; omega)).trans ((heap_setCell_other _ _ (N + 1) _ (by show N + 1 ≠ N + 1 + 1; omega)).trans ((heap_setCell_other _ _ (N + 1) _ (by show N + 1 ≠ N + 1 + 1; omega)).trans (KM)))
    have Bt : Below N w ((((w3).setCell ⟨N + 1 + 1, 1, none⟩ (.int .u64 (x.view : Nat))).setCell ⟨N + 1 + 1, 2, none⟩ (.int .u64 (x.seq : Nat))).setCell ⟨N + 1 + 1, 3, none⟩ (.slice x.sum.ao x.sum.n x.sum.cap)) := (((B).setCell (p := ⟨N + 1 + 1, 1, none⟩) (by show N ≤ N + 1 + 1; omega) _).setCell (p := ⟨N + 1 + 1, 2, none⟩) (by show N ≤ N + 1 + 1; omega) _).setCell (p := ⟨N + 1 + 1, 3, none⟩) (by show N ≤ N + 1 + 1; omega) _
    clear hk HZ KM KG B KX
    go_wp2_with fail
    go_region
    go_wp2_with fail
    go_meet
    exact ⟨rfl, KMt, KGt, Bt.drew⟩
  ·as_aux_lemma =>
    have HZ : (#[.int .i64 x.kind, .int .u64 (x.view : Nat), .int .u64 (x.seq : Nat), .slice x.sum.ao x.sum.n x.sum.cap, .slice none 0 0, .int .u64 0, .int .u64 0, .int .u64 0, .int .i64 0, .slice none 0 0, .bool false, .slice none 0 0, .slice none 0 0] : Array Value) = (onlyB x).cells.toArray := by
     unfold onlyB BM.cells hasVw hasSq hasSm hasRq hasRp hasCt hasSt
     simp [hk]
    have t1 : (x.kind == 1) = false := by simp [hk]
    have t2 : (x.kind == 2) = false := by simp [hk]
    have t3 : (x.kind == 3) = true := by simp [hk]
    have t4 : (x.kind == 4) = false := by simp [hk]
    have t5 : (x.kind == 5) = false := by simp [hk]
    have t6 : (x.kind == 6) = false := by simp [hk]
    have t7 : (x.kind == 7) = false := by simp [hk]
    have t8 : (x.kind == 8) = false := by simp [hk]
    have t9 : (x.kind == 9) = false := by simp [hk]
    have t10 : (x.kind == 10) = false := by simp [hk]
    have t11 : (x.kind == 11) = false := by simp [hk]
    have t12 : (x.kind == 12) = false := by simp [hk]
    have t13 : (x.kind == 13) = false := by simp [hk]
    have t14 : (x.kind == 14) = false := by simp [hk]
    have KGt : ((((w3).setCell ⟨N + 1 + 1, 1, none⟩ (.int .u64 (x.view : Nat))).setCell ⟨N + 1 + 1, 2, none⟩ (.int .u64 (x.seq : Nat))).setCell ⟨N + 1 + 1, 3, none⟩ (.slice x.sum.ao x.sum.n x.sum.cap)).heap[N + 1 + 1]? = some (.cells #[.int .i64 x.kind, .int .u64 (x.view : Nat), .int .u64 (x.seq : Nat), .slice x.sum.ao x.sum.n x.sum.cap, .slice none 0 0, .int .u64 0, .int .u64 0, .int .u64 0, .int .i64 0, .slice none 0 0, .bool false, .slice none 0 0, .slice none 0 0] 34) := (heap_setCell_same _ _ 3 _ _ _ (heap_setCell_same _ _ 2 _ _ _ (heap_setCell_same _ _ 1 _ _ _ KG)))
    rw [HZ] at KGt
    have KMt : ((((w3).setCell ⟨N + 1 + 1, 1, none⟩ (.int .u64 (x.view : Nat))).setCell ⟨N + 1 + 1, 2, none⟩ (.int .u64 (x.seq : Nat))).setCell ⟨N + 1 + 1, 3, none⟩ (.slice x.sum.ao x.sum.n x.sum.cap)).heap[N + 1]? = some (.cells #[.int .i64 0, .int .u64 0, .int .u64 0, .slice none 0 0, .slice none 0 0, .int .u64 0, .int .u64 0, .int .u64 0, .int .i64 0, .slice none 0 0, .bool false, .slice none 0 0, .slice none 0 0] 34) := (heap_setCell_other _ _ (N + 1) _ (by show N + 1 ≠ N + 1 + 1; omega)).trans ((heap_setCell_other _ _ (N + 1) _ (by show N + 1 ≠ N + 1 + 1; omega)).trans ((heap_setCell_other _ _ (N + 1) _ (by show N + 1 ≠ N + 1 + 1; omega)).trans (KM)))
    have Bt : Below N w ((((w3).setCell ⟨N + 1 + 1, 1, none⟩ (.int .u64 (x.view : Nat))).setCell ⟨N + 1 + 1, 2, none⟩ (.int .u64 (x.seq : Nat))).setCell ⟨N + 1 + 1, 3, none⟩ (.slice x.sum.ao x.sum.n x.sum.cap)) := (((B).setCell (p := ⟨N + 1 + 1, 1, none⟩) (by show N ≤ N + 1 + 1; omega) _).setCell (p := ⟨N + 1 + 1, 2, none⟩) (by show N ≤ N + 1 + 1; omega) _).setCell (p := ⟨N + 1 + 1, 3, none⟩) (by show N ≤ N + 1 + 1; omega) _
    clear hk HZ KM KG B KX
    go_wp2_with fail
    go_region
    go_wp2_with fail
    go_meet
    exact ⟨rfl, KMt, KGt, Bt.drew⟩
  ·as_aux_lemma =>
    have HZ : (#[.int .i64 x.kind, .int .u64 (x.view : Nat), .int .u64 (x.seq : Nat), .slice x.sum.ao x.sum.n x.sum.cap, .slice none 0 0, .int .u64 0, .int .u64 0, .int .u64 0, .int .i64 0, .slice none 0 0, .bool false, .slice none 0 0, .slice none 0 0] : Array Value) = (onlyB x).cells.toArray := by
     unfold onlyB BM.cells hasVw hasSq hasSm hasRq hasRp hasCt hasSt
     simp [hk]
    have t1 : (x.kind == 1) = false := by simp [hk]
    have t2 : (x.kind == 2) = false := by simp [hk]
    have t3 : (x.kind == 3) = false := by simp [hk]
    have t4 : (x.kind == 4) = true := by simp [hk]
    have t5 : (x.kind == 5) = false := by simp [hk]
    have t6 : (x.kind == 6) = false := by simp [hk]
    have t7 : (x.kind == 7) = false := by simp [hk]
    have t8 : (x.kind == 8) = false := by simp [hk]
    have t9 : (x.kind == 9) = false := by simp [hk]
    have t10 : (x.kind == 10) = false := by simp [hk]
    have t11 : (x.kind == 11) = false := by simp [hk]
    have t12 : (x.kind == 12) = false := by simp [hk]
    have t13 : (x.kind == 13) = false := by simp [hk]
    have t14 : (x.kind == 14) = false := by simp [hk]
    have KGt : ((((w3).setCell ⟨N + 1 + 1, 1, none⟩ (.int .u64 (x.view : Nat))).setCell ⟨N + 1 + 1, 2, none⟩ (.int .u64 (x.seq : Nat))).setCell ⟨N + 1 + 1, 3, none⟩ (.slice x.sum.ao x.sum.n x.sum.cap)).heap[N + 1 + 1]? = some (.cells #[.int .i64 x.kind, .int .u64 (x.view : Nat), .int .u64 (x.seq : Nat), .slice x.sum.ao x.sum.n x.sum.cap, .slice none 0 0, .int .u64 0, .int .u64 0, .int .u64 0, .int .i64 0, .slice none 0 0, .bool false, .slice none 0 0, .slice none 0 0] 34) := (heap_setCell_same _ _ 3 _ _ _ (heap_setCell_same _ _ 2 _ _ _ (heap_setCell_same _ _ 1 _ _ _ KG)))
    rw [HZ] at KGt
    have KMt : ((((w3).setCell ⟨N + 1 + 1, 1, none⟩ (.int .u64 (x.view : Nat))).setCell ⟨N + 1 + 1, 2, none⟩ (.int .u64 (x.seq : Nat))).setCell ⟨N + 1 + 1, 3, none⟩ (.slice x.sum.ao x.sum.n x.sum.cap)).heap[N + 1]? = some (.cells #[.int .i64 0, .int .u64 0, .int .u64 0, .slice none 0 0, .slice none 0 0, .int .u64 0, .int .u64 0, .int .u64 0, .int .i64 0, .slice none 0 0, .bool false, .slice none 0 0, .slice none 0 0] 34) := (heap_setCell_other _ _ (N + 1) _ (by show N + 1 ≠ N + 1 + 1; omega)).trans ((heap_setCell_other _ _ (N + 1) _ (by show N + 1 ≠ N + 1 + 1; omega)).trans ((heap_setCell_other _ _ (N + 1) _ (by show N + 1 ≠ N + 1 + 1; omega)).trans (KM)))
    have Bt : Below N w ((((w3).setCell ⟨N + 1 + 1, 1, none⟩ (.int .u64 (x.view : Nat))).setCell ⟨N + 1 + 1, 2, none⟩ (.int .u64 (x.seq : Nat))).setCell ⟨N + 1 + 1, 3, none⟩ (.slice x.sum.ao x.sum.n x.sum.cap)) := (((B).setCell (p := ⟨N + 1 + 1, 1, none⟩) (by show N ≤ N + 1 + 1; omega) _).setCell (p := ⟨N + 1 + 1, 2, none⟩) (by show N ≤ N + 1 + 1; omega) _).setCell (p := ⟨N + 1 + 1, 3, none⟩) (by show N ≤ N + 1 + 1; omega) _
    clear hk HZ KM KG B KX
    go_wp2_with fail
    go_region
    go_wp2_with fail
    go_meet
    exact ⟨rfl, KMt, KGt, Bt.drew⟩
  ·as_aux_lemma =>
    have HZ : (#[.int .i64 x.kind, .int .u64 0, .int .u64 0, .slice none 0 0, .slice none 0 0, .int .u64 (x.cl : Nat), .int .u64 (x.st : Nat), .int .u64 (x.vw : Nat), .int .i64 x.e, .slice x.c.ao x.c.n x.c.cap, .bool x.more, .slice none 0 0, .slice none 0 0] : Array Value) = (onlyB x).cells.toArray := by
     unfold onlyB BM.cells hasVw hasSq hasSm hasRq hasRp hasCt hasSt
     simp [hk]
    have t1 : (x.kind == 1) = false := by simp [hk]
    have t2 : (x.kind == 2) = false := by simp [hk]
    have t3 : (x.kind == 3) = false := by simp [hk]
    have t4 : (x.kind == 4) = false := by simp [hk]
    have t5 : (x.kind == 5) = true := by simp [hk]
    have t6 : (x.kind == 6) = false := by simp [hk]
    have t7 : (x.kind == 7) = false := by simp [hk]
    have t8 : (x.kind == 8) = false := by simp [hk]
    have t9 : (x.kind == 9) = false := by simp [hk]
    have t10 : (x.kind == 10) = false := by simp [hk]
    have t11 : (x.kind == 11) = false := by simp [hk]
    have t12 : (x.kind == 12) = false := by simp [hk]
    have t13 : (x.kind == 13) = false := by simp [hk]
    have t14 : (x.kind == 14) = false := by simp [hk]
    have KGt : (((((((w3).setCell ⟨N + 2, 5, none⟩ (.int .u64 (x.cl : Nat))).setCell ⟨N + 2, 6, none⟩ (.int .u64 (x.st : Nat))).setCell ⟨N + 2, 7, none⟩ (.int .u64 (x.vw : Nat))).setCell ⟨N + 2, 8, none⟩ (.int .i64 x.e)).setCell ⟨N + 2, 9, none⟩ (.slice x.c.ao x.c.n x.c.cap)).setCell ⟨N + 2, 10, none⟩ (.bool x.more)).heap[N + 2]? = some (.cells #[.int .i64 x.kind, .int .u64 0, .int .u64 0, .slice none 0 0, .slice none 0 0, .int .u64 (x.cl : Nat), .int .u64 (x.st : Nat), .int .u64 (x.vw : Nat), .int .i64 x.e, .slice x.c.ao x.c.n x.c.cap, .bool x.more, .slice none 0 0, .slice none 0 0] 34) := (heap_setCell_same _ _ 10 _ _ _ (heap_setCell_same _ _ 9 _ _ _ (heap_setCell_same _ _ 8 _ _ _ (heap_setCell_same _ _ 7 _ _ _ (heap_setCell_same _ _ 6 _ _ _ (heap_setCell_same _ _ 5 _ _ _ KG))))))
    rw [HZ] at KGt
    have KMt : (((((((w3).setCell ⟨N + 2, 5, none⟩ (.int .u64 (x.cl : Nat))).setCell ⟨N + 2, 6, none⟩ (.int .u64 (x.st : Nat))).setCell ⟨N + 2, 7, none⟩ (.int .u64 (x.vw : Nat))).setCell ⟨N + 2, 8, none⟩ (.int .i64 x.e)).setCell ⟨N + 2, 9, none⟩ (.slice x.c.ao x.c.n x.c.cap)).setCell ⟨N + 2, 10, none⟩ (.bool x.more)).heap[N + 1]? = some (.cells #[.int .i64 0, .int .u64 0, .int .u64 0, .slice none 0 0, .slice none 0 0, .int .u64 0, .int .u64 0, .int .u64 0, .int .i64 0, .slice none 0 0, .bool false, .slice none 0 0, .slice none 0 0] 34) := (heap_setCell_other _ _ (N + 1) _ (by show N + 1 ≠ N + 2; omega)).trans ((heap_setCell_other _ _ (N + 1) _ (by show N + 1 ≠ N + 2; omega)).trans ((heap_setCell_other _ _ (N + 1) _ (by show N + 1 ≠ N + 2; omega)).trans ((heap_setCell_other _ _ (N + 1) _ (by show N + 1 ≠ N + 2; omega)).trans ((heap_setCell_other _ _ (N + 1) _ (by show N + 1 ≠ N + 2; omega)).trans ((heap_setCell_other _ _ (N + 1) _ (by show N + 1 ≠ N + 2; omega)).trans (KM))))))
    have Bt : Below N w (((((((w3).setCell ⟨N + 2, 5, none⟩ (.int .u64 (x.cl : Nat))).setCell ⟨N + 2, 6, none⟩ (.int .u64 (x.st : Nat))).setCell ⟨N + 2, 7, none⟩ (.int .u64 (x.vw : Nat))).setCell ⟨N + 2, 8, none⟩ (.int .i64 x.e)).setCell ⟨N + 2, 9, none⟩ (.slice x.c.ao x.c.n x.c.cap)).setCell ⟨N + 2, 10, none⟩ (.bool x.more)) := ((((((B).setCell (p := ⟨N + 2, 5, none⟩) (by show N ≤ N + 2; omega) _).setCell (p := ⟨N + 2, 6, none⟩) (by show N ≤ N + 2; omega) _).setCell (p := ⟨N + 2, 7, none⟩) (by show N ≤ N + 2; omega) _).setCell (p := ⟨N + 2, 8, none⟩) (by show N ≤ N + 2; omega) _).setCell (p := ⟨N + 2, 9, none⟩) (by show N ≤ N + 2; omega) _).setCell (p := ⟨N + 2, 10, none⟩) (by show N ≤ N + 2; omega) _
    clear hk HZ KM KG B KX
    go_wp2_with fail
    go_meet
    exact ⟨rfl, KMt, KGt, Bt⟩
  ·as_aux_lemma =>
    have HZ : (#[.int .i64 x.kind, .int .u64 0, .int .u64 (x.seq : Nat), .slice x.sum.ao x.sum.n x.sum.cap, .slice none 0 0, .int .u64 0, .int .u64 0, .int .u64 0, .int .i64 0, .slice none 0 0, .bool false, .slice none 0 0, .slice none 0 0] : Array Value) = (onlyB x).cells.toArray := by
     unfold onlyB BM.cells hasVw hasSq hasSm hasRq hasRp hasCt hasSt
     simp [hk]
    have t1 : (x.kind == 1) = false := by simp [hk]
    have t2 : (x.kind == 2) = false := by simp [hk]
    have t3 : (x.kind == 3) = false := by simp [hk]
    have t4 : (x.kind == 4) = false := by simp [hk]
    have t5 : (x.kind == 5) = false := by simp [hk]
    have t6 : (x.kind == 6) = true := by simp [hk]
    have t7 : (x.kind == 7) = false := by simp [hk]
    have t8 : (x.kind == 8) = false := by simp [hk]
    have t9 : (x.kind == 9) = false := by simp [hk]
    have t10 : (x.kind == 10) = false := by simp [hk]
    have t11 : (x.kind == 11) = false := by simp [hk]
    have t12 : (x.kind == 12) = false := by simp [hk]
    have t13 : (x.kind == 13) = false := by simp [hk]
    have t14 : (x.kind == 14) = false := by simp [hk]
    have KGt : (((w3).setCell ⟨N + 1 + 1, 2, none⟩ (.int .u64 (x.seq : Nat))).setCell ⟨N + 1 + 1, 3, none⟩ (.slice x.sum.ao x.sum.n x.sum.cap)).heap[N + 1 + 1]? = some (.cells #[.int .i64 x.kind, .int .u64 0, .int .u64 (x.seq : Nat), .slice x.sum.ao x.sum.n x.sum.cap, .slice none 0 0, .int .u64 0, .int .u64 0, .int .u64 0, .int .i64 0, .slice none 0 0, .bool false, .slice none 0 0, .slice none 0 0] 34) := (heap_setCell_same _ _ 3 _ _ _ (heap_setCell_same _ _ 2 _ _ _ KG))
    rw [HZ] at KGt
    have KMt : (((w3).setCell ⟨N + 1 + 1, 2, none⟩ (.int .u64 (x.seq : Nat))).setCell ⟨N + 1 + 1, 3, none⟩ (.slice x.sum.ao x.sum.n x.sum.cap)).heap[N + 1]? = some (.cells #[.int .i64 0, .int .u64 0, .int .u64 0, .slice none 0 0, .slice none 0 0, .int .u64 0, .int .u64 0, .int .u64 0, .int .i64 0, .slice none 0 0, .bool false, .slice none 0 0, .slice none 0 0] 34) := (heap_setCell_other _ _ (N + 1) _ (by show N + 1 ≠ N + 1 + 1; omega)).trans ((heap_setCell_other _ _ (N + 1) _ (by show N + 1 ≠ N + 1 + 1; omega)).trans (KM))
    have Bt : Below N w (((w3).setCell ⟨N + 1 + 1, 2, none⟩ (.int .u64 (x.seq : Nat))).setCell ⟨N + 1 + 1, 3, none⟩ (.slice x.sum.ao x.sum.n x.sum.cap)) := ((B).setCell (p := ⟨N + 1 + 1, 2, none⟩) (by show N ≤ N + 1 + 1; omega) _).setCell (p := ⟨N + 1 + 1, 3, none⟩) (by show N ≤ N + 1 + 1; omega) _
    clear hk HZ KM KG B KX
    go_wp2_with fail
    go_region
    go_wp2_with fail
    go_meet
    exact ⟨rfl, KMt, KGt, Bt.drew⟩
  ·as_aux_lemma =>
    have HZ : (#[.int .i64 x.kind, .int .u64 (x.view : Nat), .int .u64 (x.seq : Nat), .slice none 0 0, .slice none 0 0, .int .u64 0, .int .u64 0, .int .u64 0, .int .i64 0, .slice none 0 0, .bool false, .slice x.s.ao x.s.n x.s.cap, .slice x.t.ao x.t.n x.t.cap] : Array Value) = (onlyB x).cells.toArray := by
     unfold onlyB BM.cells hasVw hasSq hasSm hasRq hasRp hasCt hasSt
     simp [hk]
    have t1 : (x.kind == 1) = false := by simp [hk]
    have t2 : (x.kind == 2) = false := by simp [hk]
    have t3 : (x.kind == 3) = false := by simp [hk]
    have t4 : (x.kind == 4) = false := by simp [hk]
    have t5 : (x.kind == 5) = false := by simp [hk]
    have t6 : (x.kind == 6) = false := by simp [hk]
    have t7 : (x.kind == 7) = true := by simp [hk]
    have t8 : (x.kind == 8) = false := by simp [hk]
    have t9 : (x.kind == 9) = false := by simp [hk]
    have t10 : (x.kind == 10) = false := by simp [hk]
    have t11 : (x.kind == 11) = false := by simp [hk]
    have t12 : (x.kind == 12) = false := by simp [hk]
    have t13 : (x.kind == 13) = false := by simp [hk]
    have t14 : (x.kind == 14) = false := by simp [hk]
    have KGt : (((((w3).setCell ⟨N + 1 + 1, 1, none⟩ (.int .u64 (x.view : Nat))).setCell ⟨N + 1 + 1, 2, none⟩ (.int .u64 (x.seq : Nat))).setCell ⟨N + 1 + 1, 11, none⟩ (.slice x.s.ao x.s.n x.s.cap)).setCell ⟨N + 1 + 1, 12, none⟩ (.slice x.t.ao x.t.n x.t.cap)).heap[N + 1 + 1]? = some (.cells #[.int .i64 x.kind, .int .u64 (x.view : Nat), .int .u64 (x.seq : Nat), .slice none 0 0, .slice none 0 0, .int .u64 0, .int .u64 0, .int .u64 0, .int .i64 0, .slice none 0 0, .bool false, .slice x.s.ao x.s.n x.s.cap, .slice x.t.ao x.t.n x.t.cap] 34) := (heap_setCell_same _ _ 12 _ _ _ (heap_setCell_same _ _ 11 _ _ _ (heap_setCell_same _ _ 2 _ _ _ (heap_setCell_same _ _ 1 _ _ _ KG))))
    rw [HZ] at KGt
    have KMt : (((((w3).setCell ⟨N + 1 + 1, 1, none⟩ (.int .u64 (x.view : Nat))).setCell ⟨N + 1 + 1, 2, none⟩ (.int .u64 (x.seq : Nat))).setCell ⟨N + 1 + 1, 11, none⟩ (.slice x.s.ao x.s.n x.s.cap)).setCell ⟨N + 1 + 1, 12, none⟩ (.slice x.t.ao x.t.n x.t.cap)).heap[N + 1]? = some (.cells #[.int .i64 0, .int .u64 0, .int .u64 0, .slice none 0 0, .slice none 0 0, .int .u64 0, .int .u64 0, .int .u64 0, .int .i64 0, .slice none 0 0, .bool false, .slice none 0 0, .slice none 0 0] 34) := (heap_setCell_other _ _ (N + 1) _ (by show N + 1 ≠ N + 1 + 1; omega)).trans ((heap_setCell_other _ _ (N + 1) _ (by show N + 1 ≠ N + 1 + 1; omega)).trans ((heap_setCell_other _ _ (N + 1) _ (by show N + 1 ≠ N + 1 + 1; omega)).trans ((heap_setCell_other _ _ (N + 1) _ (by show N + 1 ≠ N + 1 + 1; omega)).trans (KM))))
    have Bt : Below N w (((((w3).setCell ⟨N + 1 + 1, 1, none⟩ (.int .u64 (x.view : Nat))).setCell ⟨N + 1 + 1, 2, none⟩ (.int .u64 (x.seq : Nat))).setCell ⟨N + 1 + 1, 11, none⟩ (.slice x.s.ao x.s.n x.s.cap)).setCell ⟨N + 1 + 1, 12, none⟩ (.slice x.t.ao x.t.n x.t.cap)) := ((((B).setCell (p := ⟨N + 1 + 1, 1, none⟩) (by show N ≤ N + 1 + 1; omega) _).setCell (p := ⟨N + 1 + 1, 2, none⟩) (by show N ≤ N + 1 + 1; omega) _).setCell (p := ⟨N + 1 + 1, 11, none⟩) (by show N ≤ N + 1 + 1; omega) _).setCell (p := ⟨N + 1 + 1, 12, none⟩) (by show N ≤ N + 1 + 1; omega) _
    clear hk HZ KM KG B KX
    go_wp2_with fail
    go_region
    go_wp2_with fail
    go_meet
    exact ⟨rfl, KMt, KGt, Bt.drew⟩
  ·as_aux_lemma =>
    have HZ : (#[.int .i64 x.kind, .int .u64 (x.view : Nat), .int .u64 0, .slice none 0 0, .slice none 0 0, .int .u64 0, .int .u64 0, .int .u64 0, .int .i64 0, .slice none 0 0, .bool false, .slice x.s.ao x.s.n x.s.cap, .slice x.t.ao x.t.n x.t.cap] : Array Value) = (onlyB x).cells.toArray := by
     unfold onlyB BM.cells hasVw hasSq hasSm hasRq hasRp hasCt hasSt
     simp [hk]
    have t1 : (x.kind == 1) = false := by simp [hk]
    have t2 : (x.kind == 2) = false := by simp [hk]
    have t3 : (x.kind == 3) = false := by simp [hk]
    have t4 : (x.kind == 4) = false := by simp [hk]
    have t5 : (x.kind == 5) = false := by simp [hk]
    have t6 : (x.kind == 6) = false := by simp [hk]
    have t7 : (x.kind == 7) = false := by simp [hk]
    have t8 : (x.kind == 8) = true := by simp [hk]
    have t9 : (x.kind == 9) = false := by simp [hk]
    have t10 : (x.kind == 10) = false := by simp [hk]
    have t11 : (x.kind == 11) = false := by simp [hk]
    have t12 : (x.kind == 12) = false := by simp [hk]
    have t13 : (x.kind == 13) = false := by simp [hk]
    have t14 : (x.kind == 14) = false := by simp [hk]
    have KGt : ((((w3).setCell ⟨N + 1 + 1, 1, none⟩ (.int .u64 (x.view : Nat))).setCell ⟨N + 1 + 1, 11, none⟩ (.slice x.s.ao x.s.n x.s.cap)).setCell ⟨N + 1 + 1, 12, none⟩ (.slice x.t.ao x.t.n x.t.cap)).heap[N + 1 + 1]? = some (.cells #[.int .i64 x.kind, .int .u64 (x.view : Nat), .int .u64 0, .slice none 0 0, .slice none 0 0, .int .u64 0, .int .u64 0, .int .u64 0, .int .i64 0, .slice none 0 0, .bool false, .slice x.s.ao x.s.n x.s.cap, .slice x.t.ao x.t.n x.t.cap] 34) := (heap_setCell_same _ _ 12 _ _ _ (heap_setCell_same _ _ 11 _ _ _ (heap_setCell_same _ _ 1 _ _ _ KG)))
    rw [HZ] at KGt
    have KMt : ((((w3).setCell ⟨N + 1 + 1, 1, none⟩ (.int .u64 (x.view : Nat))).setCell ⟨N + 1 + 1, 11, none⟩ (.slice x.s.ao x.s.n x.s.cap)).setCell ⟨N + 1 + 1, 12, none⟩ (.slice x.t.ao x.t.n x.t.cap)).heap[N + 1]? = some (.cells #[.int .i64 0, .int .u64 0, .int .u64 0, .slice none 0 0, .slice none 0 0, .int .u64 0, .int .u64 0, .int .u64 0, .int .i64 0, .slice none 0 0, .bool false, .slice none 0 0, .slice none 0 0] 34) := (heap_setCell_other _ _ (N + 1) _ (by show N + 1 ≠ N + 1 + 1; omega)).trans ((heap_setCell_other _ _ (N + 1) _ (by show N + 1 ≠ N + 1 + 1; omega)).trans ((heap_setCell_other _ _ (N + 1) _ (by show N + 1 ≠ N + 1 + 1; omega)).trans (KM)))
    have Bt : Below N w ((((w3).setCell ⟨N + 1 + 1, 1, none⟩ (.int .u64 (x.view : Nat))).setCell ⟨N + 1 + 1, 11, none⟩ (.slice x.s.ao x.s.n x.s.cap)).setCell ⟨N + 1 + 1, 12, none⟩ (.slice x.t.ao x.t.n x.t.cap)) := (((B).setCell (p := ⟨N + 1 + 1, 1, none⟩) (by show N ≤ N + 1 + 1; omega) _).setCell (p := ⟨N + 1 + 1, 11, none⟩) (by show N ≤ N + 1 + 1; omega) _).setCell (p := ⟨N + 1 + 1, 12, none⟩) (by show N ≤ N + 1 + 1; omega) _
    clear hk HZ KM KG B KX
    go_wp2_with fail
    go_region
    go_wp2_with fail
    go_meet
    exact ⟨rfl, KMt, KGt, Bt.drew⟩
  ·as_aux_lemma =>
    have HZ : (#[.int .i64 x.kind, .int .u64 0, .int .u64 (x.seq : Nat), .slice none 0 0, .slice none 0 0, .int .u64 0, .int .u64 0, .int .u64 0, .int .i64 0, .slice none 0 0, .bool false, .slice none 0 0, .slice none 0 0] : Array Value) = (onlyB x).cells.toArray := by
     unfold onlyB BM.cells hasVw hasSq hasSm hasRq hasRp hasCt hasSt
     simp [hk]
    have t1 : (x.kind == 1) = false := by simp [hk]
    have t2 : (x.kind == 2) = false := by simp [hk]
    have t3 : (x.kind == 3) = false := by simp [hk]
    have t4 : (x.kind == 4) = false := by simp [hk]
    have t5 : (x.kind == 5) = false := by simp [hk]
    have t6 : (x.kind == 6) = false := by simp [hk]
    have t7 : (x.kind == 7) = false := by simp [hk]
    have t8 : (x.kind == 8) = false := by simp [hk]
    have t9 : (x.kind == 9) = true := by simp [hk]
    have t10 : (x.kind == 10) = false := by simp [hk]
    have t11 : (x.kind == 11) = false := by simp [hk]
    have t12 : (x.kind == 12) = false := by simp [hk]
    have t13 : (x.kind == 13) = false := by simp [hk]
    have t14 : (x.kind == 14) = false := by simp [hk]
    have KGt : ((w3).setCell ⟨N + 2, 2, none⟩ (.int .u64 (x.seq : Nat))).heap[N + 2]? = some (.cells #[.int .i64 x.kind, .int .u64 0, .int .u64 (x.seq : Nat), .slice none 0 0, .slice none 0 0, .int .u64 0, .int .u64 0, .int .u64 0, .int .i64 0, .slice none 0 0, .bool false, .slice none 0 0, .slice none 0 0] 34) := (heap_setCell_same _ _ 2 _ _ _ KG)
    rw [HZ] at KGt
    have KMt : ((w3).setCell ⟨N + 2, 2, none⟩ (.int .u64 (x.seq : Nat))).heap[N + 1]? = some (.cells #[.int .i64 0, .int .u64 0, .int .u64 0, .slice none 0 0, .slice none 0 0, .int .u64 0, .int .u64 0, .int .u64 0, .int .i64 0, .slice none 0 0, .bool false, .slice none 0 0, .slice none 0 0] 34) := (heap_setCell_other _ _ (N + 1) _ (by show N + 1 ≠ N + 2; omega)).trans (KM)
    have Bt : Below N w ((w3).setCell ⟨N + 2, 2, none⟩ (.int .u64 (x.seq : Nat))) := (B).setCell (p := ⟨N + 2, 2, none⟩) (by show N ≤ N + 2; omega) _
    clear hk HZ KM KG B KX
    go_wp2_with fail
    go_meet
    exact ⟨rfl, KMt, KGt, Bt⟩
  ·as_aux_lemma =>
    have HZ : (#[.int .i64 x.kind, .int .u64 0, .int .u64 (x.seq : Nat), .slice x.sum.ao x.sum.n x.sum.cap, .slice none 0 0, .int .u64 0, .int .u64 0, .int .u64 0, .int .i64 0, .slice none 0 0, .bool false, .slice x.s.ao x.s.n x.s.cap, .slice none 0 0] : Array Value) = (onlyB x).cells.toArray := by
     unfold onlyB BM.cells hasVw hasSq hasSm hasRq hasRp hasCt hasSt
     simp [hk]
    have t1 : (x.kind == 1) = false := by simp [hk]
    have t2 : (x.kind == 2) = false := by simp [hk]
    have t3 : (x.kind == 3) = false := by simp [hk]
    have t4 : (x.kind == 4) = false := by simp [hk]
    have t5 : (x.kind == 5) = false := by simp [hk]
    have t6 : (x.kind == 6) = false := by simp [hk]
    have t7 : (x.kind == 7) = false := by simp [hk]
    have t8 : (x.kind == 8) = false := by simp [hk]
    have t9 : (x.kind == 9) = false := by simp [hk]
    have t10 : (x.kind == 10) = true := by simp [hk]
    have t11 : (x.kind == 11) = false := by simp [hk]
    have t12 : (x.kind == 12) = false := by simp [hk]
    have t13 : (x.kind == 13) = false := by simp [hk]
    have t14 : (x.kind == 14) = false := by simp [hk]
    have KGt : ((((w3).setCell ⟨N + 1 + 1, 2, none⟩ (.int .u64 (x.seq : Nat))).setCell ⟨N + 1 + 1, 3, none⟩ (.slice x.sum.ao x.sum.n x.sum.cap)).setCell ⟨N + 1 + 1, 11, none⟩ (.slice x.s.ao x.s.n x.s.cap)).heap[N + 1 + 1]? = some (.cells #[.int .i64 x.kind, .int .u64 0, .int .u64 (x.seq : Nat), .slice x.sum.ao x.sum.n x.sum.cap, .slice none 0 0, .int .u64 0, .int .u64 0, .int .u64 0, .int .i64 0, .slice none 0 0, .bool false, .slice x.s.ao x.s.n x.s.cap, .slice none 0 0] 34) := (heap_setCell_same _ _ 11 _ _ _ (heap_setCell_same _ _ 3 _ _ _ (heap_setCell_same _ _ 2 _ _ _ KG)))
    rw [HZ] at KGt
    have KMt : ((((w3).setCell ⟨N + 1 + 1, 2, none⟩ (.int .u64 (x.seq : Nat))).setCell ⟨N + 1 + 1, 3, none⟩ (.slice x.sum.ao x.sum.n x.sum.cap)).setCell ⟨N + 1 + 1, 11, none⟩ (.slice x.s.ao x.s.n x.s.cap)).heap[N + 1]? = some (.cells #[.int .i64 0, .int .u64 0, .int .u64 0, .slice none 0 0, .slice none 0 0, .int .u64 0, .int .u64 0, .int .u64 0, .int .i64 0, .slice none 0 0, .bool false, .slice none 0 0, .slice none 0 0] 34) := (heap_setCell_other _ _ (N + 1) _ (by show N + 1 ≠ N + 1 + 1; omega)).trans ((heap_setCell_other _ _ (N + 1) _ (by show N + 1 ≠ N + 1 + 1; omega)).trans ((heap_setCell_other _ _ (N + 1) _ (by show N + 1 ≠ N + 1 + 1; omega)).trans (KM)))
    have Bt : Below N w ((((w3).setCell ⟨N + 1 + 1, 2, none⟩ (.int .u64 (x.seq : Nat))).setCell ⟨N + 1 + 1, 3, none⟩ (.slice x.sum.ao x.sum.n x.sum.cap)).setCell ⟨N + 1 + 1, 11, none⟩ (.slice x.s.ao x.s.n x.s.cap)) := (((B).setCell (p := ⟨N + 1 + 1, 2, none⟩) (by show N ≤ N + 1 + 1; omega) _).setCell (p := ⟨N + 1 + 1, 3, none⟩) (by show N ≤ N + 1 + 1; omega) _).setCell (p := ⟨N + 1 + 1, 11, none⟩) (by show N ≤ N + 1 + 1; omega) _
    clear hk HZ KM KG B KX
    go_wp2_with fail
    go_region
    go_wp2_with fail
    go_meet
    exact ⟨rfl, KMt, KGt, Bt.drew⟩
  ·as_aux_lemma =>
    have HZ : (#[.int .i64 x.kind, .int .u64 0, .int .u64 0, .slice x.sum.ao x.sum.n x.sum.cap, .slice none 0 0, .int .u64 0, .int .u64 0, .int .u64 0, .int .i64 0, .slice none 0 0, .bool false, .slice none 0 0, .slice none 0 0] : Array Value) = (onlyB x).cells.toArray := by
     unfold onlyB BM.cells hasVw hasSq hasSm hasRq hasRp hasCt hasSt
     simp [hk]
    have t1 : (x.kind == 1) = false := by simp [hk]
    have t2 : (x.kind == 2) = false := by simp [hk]
    have t3 : (x.kind == 3) = false := by simp [hk]
    have t4 : (x.kind == 4) = false := by simp [hk]
    have t5 : (x.kind == 5) = false := by simp [hk]
    have t6 : (x.kind == 6) = false := by simp [hk]
    have t7 : (x.kind == 7) = false := by simp [hk]
    have t8 : (x.kind == 8) = false := by simp [hk]
    have t9 : (x.kind == 9) = false := by simp [hk]
    have t10 : (x.kind == 10) = false := by simp [hk]
    have t11 : (x.kind == 11) = true := by simp [hk]
    have t12 : (x.kind == 12) = false := by simp [hk]
    have t13 : (x.kind == 13) = false := by simp [hk]
    have t14 : (x.kind == 14) = false := by simp [hk]
    have KGt : ((w3).setCell ⟨N + 2, 3, none⟩ (.slice x.sum.ao x.sum.n x.sum.cap)).heap[N + 2]? = some (.cells #[.int .i64 x.kind, .int .u64 0, .int .u64 0, .slice x.sum.ao x.sum.n x.sum.cap, .slice none 0 0, .int .u64 0, .int .u64 0, .int .u64 0, .int .i64 0, .slice none 0 0, .bool false, .slice none 0 0, .slice none 0 0] 34) := (heap_setCell_same _ _ 3 _ _ _ KG)
    rw [HZ] at KGt
    have KMt : ((w3).setCell ⟨N + 2, 3, none⟩ (.slice x.sum.ao x.sum.n x.sum.cap)).heap[N + 1]? = some (.cells #[.int .i64 0, .int .u64 0, .int .u64 0, .slice none 0 0, .slice none 0 0, .int .u64 0, .int .u64 0, .int .u64 0, .int .i64 0, .slice none 0 0, .bool false, .slice none 0 0, .slice none 0 0] 34) := (heap_setCell_other _ _ (N + 1) _ (by show N + 1 ≠ N + 2; omega)).trans (KM)
    have Bt : Below N w ((w3).setCell ⟨N + 2, 3, none⟩ (.slice x.sum.ao x.sum.n x.sum.cap)) := (B).setCell (p := ⟨N + 2, 3, none⟩) (by show N ≤ N + 2; omega) _
    clear hk HZ KM KG B KX
    go_wp2_with fail
    go_meet
    exact ⟨rfl, KMt, KGt, Bt⟩
  ·as_aux_lemma =>
    have HZ : (#[.int .i64 x.kind, .int .u64 0, .int .u64 0, .slice none 0 0, .slice none 0 0, .int .u64 0, .int .u64 0, .int .u64 0, .int .i64 0, .slice none 0 0, .bool false, .slice x.s.ao x.s.n x.s.cap, .slice none 0 0] : Array Value) = (onlyB x).cells.toArray := by
     unfold onlyB BM.cells hasVw hasSq hasSm hasRq hasRp hasCt hasSt
     simp [hk]
    have t1 : (x.kind == 1) = false := by simp [hk]
    have t2 : (x.kind == 2) = false := by simp [hk]
    have t3 : (x.kind == 3) = false := by simp [hk]
    have t4 : (x.kind == 4) = false := by simp [hk]
    have t5 : (x.kind == 5) = false := by simp [hk]
    have t6 : (x.kind == 6) = false := by simp [hk]
    have t7 : (x.kind == 7) = false := by simp [hk]
    have t8 : (x.kind == 8) = false := by simp [hk]
    have t9 : (x.kind == 9) = false := by simp [hk]
    have t10 : (x.kind == 10) = false := by simp [hk]
    have t11 : (x.kind == 11) = false := by simp [hk]
    have t12 : (x.kind == 12) = true := by simp [hk]
    have t13 : (x.kind == 13) = false := by simp [hk]
    have t14 : (x.kind == 14) = false := by simp [hk]
    have KGt : ((w3).setCell ⟨N + 2, 11, none⟩ (.slice x.s.ao x.s.n x.s.cap)).heap[N + 2]? = some (.cells #[.int .i64 x.kind, .int .u64 0, .int .u64 0, .slice none 0 0, .slice none 0 0, .int .u64 0, .int .u64 0, .int .u64 0, .int .i64 0, .slice none 0 0, .bool false, .slice x.s.ao x.s.n x.s.cap, .slice none 0 0] 34) := (heap_setCell_same _ _ 11 _ _ _ KG)
    rw [HZ] at KGt
    have KMt : ((w3).setCell ⟨N + 2, 11, none⟩ (.slice x.s.ao x.s.n x.s.cap)).heap[N + 1]? = some (.cells #[.int .i64 0, .int .u64 0, .int .u64 0, .slice none 0 0, .slice none 0 0, .int .u64 0, .int .u64 0, .int .u64 0, .int .i64 0, .slice none 0 0, .bool false, .slice none 0 0, .slice none 0 0] 34) := (heap_setCell_other _ _ (N + 1) _ (by show N + 1 ≠ N + 2; omega)).trans (KM)
    have Bt : Below N w ((w3).setCell ⟨N + 2, 11, none⟩ (.slice x.s.ao x.s.n x.s.cap)) := (B).setCell (p := ⟨N + 2, 11, none⟩) (by show N ≤ N + 2; omega) _
    clear hk HZ KM KG B KX
    go_wp2_with fail
    go_meet
    exact ⟨rfl, KMt, KGt, Bt⟩
  ·as_aux_lemma =>
    have HZ : (#[.int .i64 x.kind, .int .u64 0, .int .u64 0, .slice none 0 0, .slice x.q.ao x.q.n x.q.cap, .int .u64 0, .int .u64 0, .int .u64 0, .int .i64 0, .slice none 0 0, .bool false, .slice none 0 0, .slice none 0 0] : Array Value) = (onlyB x).cells.toArray := by
     unfold onlyB BM.cells hasVw hasSq hasSm hasRq hasRp hasCt hasSt
     simp [hk]
    have t1 : (x.kind == 1) = false := by simp [hk]
    have t2 : (x.kind == 2) = false := by simp [hk]
    have t3 : (x.kind == 3) = false := by simp [hk]
    have t4 : (x.kind == 4) = false := by simp [hk]
    have t5 : (x.kind == 5) = false := by simp [hk]
    have t6 : (x.kind == 6) = false := by simp [hk]
    have t7 : (x.kind == 7) = false := by simp [hk]
    have t8 : (x.kind == 8) = false := by simp [hk]
    have t9 : (x.kind == 9) = false := by simp [hk]
    have t10 : (x.kind == 10) = false := by simp [hk]
    have t11 : (x.kind == 11) = false := by simp [hk]
    have t12 : (x.kind == 12) = false := by simp [hk]
    have t13 : (x.kind == 13) = true := by simp [hk]
    have t14 : (x.kind == 14) = false := by simp [hk]
    have KGt : ((w3).setCell ⟨N + 2, 4, none⟩ (.slice x.q.ao x.q.n x.q.cap)).heap[N + 2]? = some (.cells #[.int .i64 x.kind, .int .u64 0, .int .u64 0, .slice none 0 0, .slice x.q.ao x.q.n x.q.cap, .int .u64 0, .int .u64 0, .int .u64 0, .int .i64 0, .slice none 0 0, .bool false, .slice none 0 0, .slice none 0 0] 34) := (heap_setCell_same _ _ 4 _ _ _ KG)
    rw [HZ] at KGt
    have KMt : ((w3).setCell ⟨N + 2, 4, none⟩ (.slice x.q.ao x.q.n x.q.cap)).heap[N + 1]? = some (.cells #[.int .i64 0, .int .u64 0, .int .u64 0, .slice none 0 0, .slice none 0 0, .int .u64 0, .int .u64 0, .int .u64 0, .int .i64 0, .slice none 0 0, .bool false, .slice none 0 0, .slice none 0 0] 34) := (heap_setCell_other _ _ (N + 1) _ (by show N + 1 ≠ N + 2; omega)).trans (KM)
    have Bt : Below N w ((w3).setCell ⟨N + 2, 4, none⟩ (.slice x.q.ao x.q.n x.q.cap)) := (B).setCell (p := ⟨N + 2, 4, none⟩) (by show N ≤ N + 2; omega) _
    clear hk HZ KM KG B KX
    go_wp2_with fail
    go_meet
    exact ⟨rfl, KMt, KGt, Bt⟩
  ·as_aux_lemma =>
    have HZ : (#[.int .i64 x.kind, .int .u64 0, .int .u64 (x.seq : Nat), .slice none 0 0, .slice none 0 0, .int .u64 0, .int .u64 0, .int .u64 0, .int .i64 0, .slice none 0 0, .bool false, .slice x.s.ao x.s.n x.s.cap, .slice none 0 0] : Array Value) = (onlyB x).cells.toArray := by
     unfold onlyB BM.cells hasVw hasSq hasSm hasRq hasRp hasCt hasSt
     simp [hk]
    have t1 : (x.kind == 1) = false := by simp [hk]
    have t2 : (x.kind == 2) = false := by simp [hk]
    have t3 : (x.kind == 3) = false := by simp [hk]
    have t4 : (x.kind == 4) = false := by simp [hk]
    have t5 : (x.kind == 5) = false := by simp [hk]
    have t6 : (x.kind == 6) = false := by simp [hk]
    have t7 : (x.kind == 7) = false := by simp [hk]
    have t8 : (x.kind == 8) = false := by simp [hk]
    have t9 : (x.kind == 9) = false := by simp [hk]
    have t10 : (x.kind == 10) = false := by simp [hk]
    have t11 : (x.kind == 11) = false := by simp [hk]
    have t12 : (x.kind == 12) = false := by simp [hk]
    have t13 : (x.kind == 13) = false := by simp [hk]
    have t14 : (x.kind == 14) = true := by simp [hk]
    have KGt : (((w3).setCell ⟨N + 1 + 1, 2, none⟩ (.int .u64 (x.seq : Nat))).setCell ⟨N + 1 + 1, 11, none⟩ (.slice x.s.ao x.s.n x.s.cap)).heap[N + 1 + 1]? = some (.cells #[.int .i64 x.kind, .int .u64 0, .int .u64 (x.seq : Nat), .slice none 0 0, .slice none 0 0, .int .u64 0, .int .u64 0, .int .u64 0, .int .i64 0, .slice none 0 0, .bool false, .slice x.s.ao x.s.n x.s.cap, .slice none 0 0] 34) := (heap_setCell_same _ _ 11 _ _ _ (heap_setCell_same _ _ 2 _ _ _ KG))
    rw [HZ] at KGt
    have KMt : (((w3).setCell ⟨N + 1 + 1, 2, none⟩ (.int .u64 (x.seq : Nat))).setCell ⟨N + 1 + 1, 11, none⟩ (.slice x.s.ao x.s.n x.s.cap)).heap[N + 1]? = some (.cells #[.int .i64 0, .int .u64 0, .int .u64 0, .slice none 0 0, .slice none 0 0, .int .u64 0, .int .u64 0, .int .u64 0, .int .i64 0, .slice none 0 0, .bool false, .slice none 0 0, .slice none 0 0] 34) := (heap_setCell_other _ _ (N + 1) _ (by show N + 1 ≠ N + 1 + 1; omega)).trans ((heap_setCell_other _ _ (N + 1) _ (by show N + 1 ≠ N + 1 + 1; omega)).trans (KM))
    have Bt : Below N w (((w3).setCell ⟨N + 1 + 1, 2, none⟩ (.int .u64 (x.seq : Nat))).setCell ⟨N + 1 + 1, 11, none⟩ (.slice x.s.ao x.s.n x.s.cap)) := ((B).setCell (p := ⟨N + 1 + 1, 2, none⟩) (by show N ≤ N + 1 + 1; omega) _).setCell (p := ⟨N + 1 + 1, 11, none⟩) (by show N ≤ N + 1 + 1; omega) _
    clear hk HZ KM KG B KX
    go_wp2_with fail
    go_region
    go_wp2_with fail
    go_meet
    exact ⟨rfl, KMt, KGt, Bt.drew⟩
  ·as_aux_lemma =>
    have HZ : (#[.int .i64 x.kind, .int .u64 0, .int .u64 0, .slice none 0 0, .slice none 0 0, .int .u64 0, .int .u64 0, .int .u64 0, .int .i64 0, .slice none 0 0, .bool false, .slice none 0 0, .slice none 0 0] : Array Value) = (onlyB x).cells.toArray := by
     unfold onlyB BM.cells hasVw hasSq hasSm hasRq hasRp hasCt hasSt
     rw [decide_eq_false (by omega), decide_eq_false (by omega), decide_eq_false (by omega), decide_eq_false (by omega), decide_eq_false (by omega), decide_eq_false (by omega), decide_eq_false (by omega)]
     rfl
    have t1 : (x.kind == 1) = false := by simp; omega
    have t2 : (x.kind == 2) = false := by simp; omega
    have t3 : (x.kind == 3) = false := by simp; omega
    have t4 : (x.kind == 4) = false := by simp; omega
    have t5 : (x.kind == 5) = false := by simp; omega
    have t6 : (x.kind == 6) = false := by simp; omega
    have t7 : (x.kind == 7) = false := by simp; omega
    have t8 : (x.kind == 8) = false := by simp; omega
    have t9 : (x.kind == 9) = false := by simp; omega
    have t10 : (x.kind == 10) = false := by simp; omega
    have t11 : (x.kind == 11) = false := by simp; omega
    have t12 : (x.kind == 12) = false := by simp; omega
    have t13 : (x.kind == 13) = false := by simp; omega
    have t14 : (x.kind == 14) = false := by simp; omega
    have KGt : (w3).heap[N + 2]? = some (.cells #[.int .i64 x.kind, .int .u64 0, .int .u64 0, .slice none 0 0, .slice none 0 0, .int .u64 0, .int .u64 0, .int .u64 0, .int .i64 0, .slice none 0 0, .bool false, .slice none 0 0, .slice none 0 0] 34) := KG
    rw [HZ] at KGt
    have KMt : (w3).heap[N + 1]? = some (.cells #[.int .i64 0, .int .u64 0, .int .u64 0, .slice none 0 0, .slice none 0 0, .int .u64 0, .int .u64 0, .int .u64 0, .int .i64 0, .slice none 0 0, .bool false, .slice none 0 0, .slice none 0 0] 34) := KM
    have Bt : Below N w (w3) := B
    clear hk HZ KM KG B KX
    go_wp2_with fail
    go_meet
    exact ⟨rfl, KMt, KGt, Bt⟩
 case rest =>
  obtain ⟨rfl, KM, KG, B⟩ := hcut
  clear p0 p1 p2 p3 p4 p5 p6 p7 p8 p9 p10 p11 p12 m1 f1 m2 f2 m3 f3 m4 f4 m5 f5 m6 f6 m7 f7 m8 f8 m9 f9 m10 f10 m11 f11 m12 f12 KX
  obtain ⟨z, hz⟩ : ∃ z, z = onlyB x := ⟨_, rfl⟩
  rw [← hz] at KG
  have HZ : Hid (z = onlyB x) := hz
  clear hz
  unfold BM.cells at KG
  have m0 : wc.cell? ⟨N + 2, 0, none⟩ = some (.int .i64 z.kind) := cell_of_row wc (N + 2) 0 _ _ _ KG
  have m1 : wc.cell? ⟨N + 2, 1, none⟩ = some (.int .u64 (z.view : Nat)) := cell_of_row wc (N + 2) 1 _ _ _ KG
  have m2 : wc.cell? ⟨N + 2, 2, none⟩ = some (.int .u64 (z.seq : Nat)) := cell_of_row wc (N + 2) 2 _ _ _ KG
  have m3 : wc.cell? ⟨N + 2, 3, none⟩ = some (.slice z.sum.ao z.sum.n z.sum.cap) := cell_of_row wc (N + 2) 3 _ _ _ KG
  have m4 : wc.cell? ⟨N + 2, 4, none⟩ = some (.slice z.q.ao z.q.n z.q.cap) := cell_of_row wc (N + 2) 4 _ _ _ KG
  have m5 : wc.cell? ⟨N + 2, 5, none⟩ = some (.int .u64 (z.cl : Nat)) := cell_of_row wc (N + 2) 5 _ _ _ KG
  have m6 : wc.cell? ⟨N + 2, 6, none⟩ = some (.int .u64 (z.st : Nat)) := cell_of_row wc (N + 2) 6 _ _ _ KG
  have m7 : wc.cell? ⟨N + 2, 7, none⟩ = some (.int .u64 (z.vw : Nat)) := cell_of_row wc (N + 2) 7 _ _ _ KG
  have m8 : wc.cell? ⟨N + 2, 8, none⟩ = some (.int .i64 z.e) := cell_of_row wc (N + 2) 8 _ _ _ KG
  have m9 : wc.cell? ⟨N + 2, 9, none⟩ = some (.slice z.c.ao z.c.n z.c.cap) := cell_of_row wc (N + 2) 9 _ _ _ KG
  have m10 : wc.cell? ⟨N + 2, 10, none⟩ = some (.bool z.more) := cell_of_row wc (N + 2) 10 _ _ _ KG
  have m11 : wc.cell? ⟨N + 2, 11, none⟩ = some (.slice z.s.ao z.s.n z.s.cap) := cell_of_row wc (N + 2) 11 _ _ _ KG
  have m12 : wc.cell? ⟨N + 2, 12, none⟩ = some (.slice z.t.ao z.t.n z.t.cap) := cell_of_row wc (N + 2) 12 _ _ _ KG
  have n0 := cell_of_row wc (N + 1) 0 _ _ _ KM
  have f0 : wc.frozen? ⟨N + 1, 0, none⟩ = false := frozen_of_row wc (N + 1) 0 _ _ KM
  have n1 := cell_of_row wc (N + 1) 1 _ _ _ KM
  have f1 : wc.frozen? ⟨N + 1, 1, none⟩ = false := frozen_of_row wc (N + 1) 1 _ _ KM
  have n2 := cell_of_row wc (N + 1) 2 _ _ _ KM
  have f2 : wc.frozen? ⟨N + 1, 2, none⟩ = false := frozen_of_row wc (N + 1) 2 _ _ KM
  have n3 := cell_of_row wc (N + 1) 3 _ _ _ KM
  have f3 : wc.frozen? ⟨N + 1, 3, none⟩ = false := frozen_of_row wc (N + 1) 3 _ _ KM
  have n4 := cell_of_row wc (N + 1) 4 _ _ _ KM
  have f4 : wc.frozen? ⟨N + 1, 4, none⟩ = false := frozen_of_row wc (N + 1) 4 _ _ KM
  have n5 := cell_of_row wc (N + 1) 5 _ _ _ KM
  have f5 : wc.frozen? ⟨N + 1, 5, none⟩ = false := frozen_of_row wc (N + 1) 5 _ _ KM
  have n6 := cell_of_row wc (N + 1) 6 _ _ _ KM
  have f6 : wc.frozen? ⟨N + 1, 6, none⟩ = false := frozen_of_row wc (N + 1) 6 _ _ KM
  have n7 := cell_of_row wc (N + 1) 7 _ _ _ KM
  have f7 : wc.frozen? ⟨N + 1, 7, none⟩ = false := frozen_of_row wc (N + 1) 7 _ _ KM
  have n8 := cell_of_row wc (N + 1) 8 _ _ _ KM
  have f8 : wc.frozen? ⟨N + 1, 8, none⟩ = false := frozen_of_row wc (N + 1) 8 _ _ KM
  have n9 := cell_of_row wc (N + 1) 9 _ _ _ KM
  have f9 : wc.frozen? ⟨N + 1, 9, none⟩ = false := frozen_of_row wc (N + 1) 9 _ _ KM
  have n10 := cell_of_row wc (N + 1) 10 _ _ _ KM
  have f10 : wc.frozen? ⟨N + 1, 10, none⟩ = false := frozen_of_row wc (N + 1) 10 _ _ KM
  have n11 := cell_of_row wc (N + 1) 11 _ _ _ KM
  have f11 : wc.frozen? ⟨N + 1, 11, none⟩ = false := frozen_of_row wc (N + 1) 11 _ _ KM
  have n12 := cell_of_row wc (N + 1) 12 _ _ _ KM
  have f12 : wc.frozen? ⟨N + 1, 12, none⟩ = false := frozen_of_row wc (N + 1) 12 _ _ KM
  have BF : Below w.heap.size w ((((((((((((((wc).setCell ⟨N + 1, 0, none⟩ (.int .i64 z.kind)).setCell ⟨N + 1, 1, none⟩ (.int .u64 (z.view : Nat))).setCell ⟨N + 1, 2, none⟩ (.int .u64 (z.seq : Nat))).setCell ⟨N + 1, 3, none⟩ (.slice z.sum.ao z.sum.n z.sum.cap)).setCell ⟨N + 1, 4, none⟩ (.slice z.q.ao z.q.n z.q.cap)).setCell ⟨N + 1, 5, none⟩ (.int .u64 (z.cl : Nat))).setCell ⟨N + 1, 6, none⟩ (.int .u64 (z.st : Nat))).setCell ⟨N + 1, 7, none⟩ (.int .u64 (z.vw : Nat))).setCell ⟨N + 1, 8, none⟩ (.int .i64 z.e)).setCell ⟨N + 1, 9, none⟩ (.slice z.c.ao z.c.n z.c.cap)).setCell ⟨N + 1, 10, none⟩ (.bool z.more)).setCell ⟨N + 1, 11, none⟩ (.slice z.s.ao z.s.n z.s.cap)).setCell ⟨N + 1, 12, none⟩ (.slice z.t.ao z.t.n z.t.cap)) := by
   rw [← HN.out]
   exact (((((((((((((B).setCell (p := ⟨N + 1, 0, none⟩) (Nat.le_succ N) _).setCell (p := ⟨N + 1, 1, none⟩) (Nat.le_succ N) _).setCell (p := ⟨N + 1, 2, none⟩) (Nat.le_succ N) _).setCell (p := ⟨N + 1, 3, none⟩) (Nat.le_succ N) _).setCell (p := ⟨N + 1, 4, none⟩) (Nat.le_succ N) _).setCell (p := ⟨N + 1, 5, none⟩) (Nat.le_succ N) _).setCell (p := ⟨N + 1, 6, none⟩) (Nat.le_succ N) _).setCell (p := ⟨N + 1, 7, none⟩) (Nat.le_succ N) _).setCell (p := ⟨N + 1, 8, none⟩) (Nat.le_succ N) _).setCell (p := ⟨N + 1, 9, none⟩) (Nat.le_succ N) _).setCell (p := ⟨N + 1, 10, none⟩) (Nat.le_succ N) _).setCell (p := ⟨N + 1, 11, none⟩) (Nat.le_succ N) _).setCell (p := ⟨N + 1, 12, none⟩) (Nat.le_succ N) _
  clear KG KM B
  go_wp2
  refine bodyPost_ret (v := .agg #[.int .i64 z.kind, .int .u64 (z.view : Nat), .int .u64 (z.seq : Nat), .slice z.sum.ao z.sum.n z.sum.cap, .slice z.q.ao z.q.n z.q.cap, .int .u64 (z.cl : Nat), .int .u64 (z.st : Nat), .int .u64 (z.vw : Nat), .int .i64 z.e, .slice z.c.ao z.c.n z.c.cap, .bool z.more, .slice z.s.ao z.s.n z.s.cap, .slice z.t.ao z.t.n z.t.cap]) (by simp [results, Tryz.results20, go_sem, n0, n1, n2, n3, n4, n5, n6, n7, n8, n9, n10, n11, n12]) rfl ?_
  exact ⟨by rw [← HZ.out] <;> rfl, BF⟩
end Go.Proofs.YtnbejckdhdbamaaGreat

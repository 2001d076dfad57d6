/-
  Texts in one: MgShape.
-/
import Derived.Test.YtnbejckdhdbamaaGreatMessageRightQFL
import Derived.Test.YtnbejckdhdbamaaGreatMessageRightQ37
import Derived.Test.YtnbejckdhdbamaaGreatMessageRightQ17
import Derived.Test.YtnbejckdhdbamaaGreatMessageRightQ0
import Derived.Deep.Slices
import Derived.ArgAppend
import Derived.Deep.Upon
import Derived.DataElems
import Derived.Lib.MinMax
namespace Go.Proofs.YtnbejckdhdbamaaGreat
open Go.RowKit
def HV.val (h : HV) : Value := .agg #[.int .u64 h.view, .int .u64 h.seq, .int .i64 h.sum, .int .i64 h.reqs, .int .i64 h.cert, .int .i64 h.sets, .bool h.rep]
set_option maxRecDepth 100000 in
set_option maxHeartbeats 4000000 in
theorem shapeOf_any (w : World) (x : BM) :
  Calls Tryz.prog 57 #[x.val] w fun e w' => e = .returned x.hv.val ∧ Below w.heap.size w w' := by
 have B0 : Below w.heap.size w (w.alloc (.cells #[.int .i64 x.kind, .int .u64 x.view, .int .u64 x.seq, .slice x.sum.ao x.sum.n x.sum.cap, .slice x.q.ao x.q.n x.q.cap, .int .u64 x.cl, .int .u64 x.st, .int .u64 x.vw, .int .i64 x.e, .slice x.c.ao x.c.n x.c.cap, .bool x.more, .slice x.s.ao x.s.n x.s.cap, .slice x.t.ao x.t.n x.t.cap] 41)) := (Below.refl _ w).alloc (Nat.le_refl _) _
 have K0 : BC (w.alloc (.cells #[.int .i64 x.kind, .int .u64 x.view, .int .u64 x.seq, .slice x.sum.ao x.sum.n x.sum.cap, .slice x.q.ao x.q.n x.q.cap, .int .u64 x.cl, .int .u64 x.st, .int .u64 x.vw, .int .i64 x.e, .slice x.c.ao x.c.n x.c.cap, .bool x.more, .slice x.s.ao x.s.n x.s.cap, .slice x.t.ao x.t.n x.t.cap] 41)) w.heap.size x := heap_alloc_new w _
 have B1 := B0.alloc (o := .cells #[.int .u64 0, .int .u64 0, .int .i64 0, .int .i64 0, .int .i64 0, .int .i64 0, .bool false] 104) B0.size
 have C1 : Below (w.alloc (.cells #[.int .i64 x.kind, .int .u64 x.view, .int .u64 x.seq, .slice x.sum.ao x.sum.n x.sum.cap, .slice x.q.ao x.q.n x.q.cap, .int .u64 x.cl, .int .u64 x.st, .int .u64 x.vw, .int .i64 x.e, .slice x.c.ao x.c.n x.c.cap, .bool x.more, .slice x.s.ao x.s.n x.s.cap, .slice x.t.ao x.t.n x.t.cap] 41)).heap.size (w.alloc (.cells #[.int .i64 x.kind, .int .u64 x.view, .int .u64 x.seq, .slice x.sum.ao x.sum.n x.sum.cap, .slice x.q.ao x.q.n x.q.cap, .int .u64 x.cl, .int .u64 x.st, .int .u64 x.vw, .int .i64 x.e, .slice x.c.ao x.c.n x.c.cap, .bool x.more, .slice x.s.ao x.s.n x.s.cap, .slice x.t.ao x.t.n x.t.cap] 41)) ((w.alloc (.cells #[.int .i64 x.kind, .int .u64 x.view, .int .u64 x.seq, .slice x.sum.ao x.sum.n x.sum.cap, .slice x.q.ao x.q.n x.q.cap, .int .u64 x.cl, .int .u64 x.st, .int .u64 x.vw, .int .i64 x.e, .slice x.c.ao x.c.n x.c.cap, .bool x.more, .slice x.s.ao x.s.n x.s.cap, .slice x.t.ao x.t.n x.t.cap] 41)).alloc (.cells #[.int .u64 0, .int .u64 0, .int .i64 0, .int .i64 0, .int .i64 0, .int .i64 0, .bool false] 104)) := (Below.refl _ _).alloc (Nat.le_refl _) _
 have K := K0.keep C1
 have KM : ((w.alloc (.cells #[.int .i64 x.kind, .int .u64 x.view, .int .u64 x.seq, .slice x.sum.ao x.sum.n x.sum.cap, .slice x.q.ao x.q.n x.q.cap, .int .u64 x.cl, .int .u64 x.st, .int .u64 x.vw, .int .i64 x.e, .slice x.c.ao x.c.n x.c.cap, .bool x.more, .slice x.s.ao x.s.n x.s.cap, .slice x.t.ao x.t.n x.t.cap] 41)).alloc (.cells #[.int .u64 0, .int .u64 0, .int .i64 0, .int .i64 0, .int .i64 0, .int .i64 0, .bool false] 104)).heap[(w.alloc (.cells #[.int .i64 x.kind, .int .u64 x.view, .int .u64 x.seq, .slice x.sum.ao x.sum.n x.sum.cap, .slice x.q.ao x.q.n x.q.cap, .int .u64 x.cl, .int .u64 x.st, .int .u64 x.vw, .int .i64 x.e, .slice x.c.ao x.c.n x.c.cap, .bool x.more, .slice x.s.ao x.s.n x.s.cap, .slice x.t.ao x.t.n x.t.cap] 41)).heap.size]? = some (.cells #[.int .u64 0, .int .u64 0, .int .i64 0, .int .i64 0, .int .i64 0, .int .i64 0, .bool false] 104) := heap_alloc_new _ _
 have hsz : (w.alloc (.cells #[.int .i64 x.kind, .int .u64 x.view, .int .u64 x.seq, .slice x.sum.ao x.sum.n x.sum.cap, .slice x.q.ao x.q.n x.q.cap, .int .u64 x.cl, .int .u64 x.st, .int .u64 x.vw, .int .i64 x.e, .slice x.c.ao x.c.n x.c.cap, .bool x.more, .slice x.s.ao x.s.n x.s.cap, .slice x.t.ao x.t.n x.t.cap] 41)).heap.size = w.heap.size + 1 := World.size_alloc ..
 rw [hsz] at KM
 clear B0 K0 C1 hsz
 have HV' : Hid (x.hv.val = .agg #[.int .u64 x.view, .int .u64 x.seq, .int .i64 x.sum.n, .int .i64 x.q.n, .int .i64 x.s.n, .int .i64 x.t.n, .bool (!zr2 x.cl x.st x.vw x.e x.c.n x.more)]) := by
  show _ = _
  unfold BM.hv HV.val
  rw [BM.rz_eq]
 unfold BM.val
 go_enter Tryz.func57, Tryz.ntmps57
 go_wp2_with fail
 obtain ⟨w1, hw1⟩ : ∃ W, W = (w.alloc (.cells #[.int .i64 x.kind, .int .u64 x.view, .int .u64 x.seq, .slice x.sum.ao x.sum.n x.sum.cap, .slice x.q.ao x.q.n x.q.cap, .int .u64 x.cl, .int .u64 x.st, .int .u64 x.vw, .int .i64 x.e, .slice x.c.ao x.c.n x.c.cap, .bool x.more, .slice x.s.ao x.s.n x.s.cap, .slice x.t.ao x.t.n x.t.cap] 41)).alloc (.cells #[.int .u64 0, .int .u64 0, .int .i64 0, .int .i64 0, .int .i64 0, .int .i64 0, .bool false] 104) := ⟨_, rfl⟩
 obtain ⟨M, hM⟩ : ∃ M, M = w.heap.size + 1 := ⟨_, rfl⟩
 obtain ⟨N, hN⟩ : ∃ N, N = w.heap.size := ⟨_, rfl⟩
 try rw [← hw1] at B1 K KM ⊢
 rw [← hM] at KM ⊢
 rw [← hN] at K ⊢
 have HN : Hid (N = w.heap.size) := hN
 have HM : Hid (M = w.heap.size + 1) := hM
 have hNM : N ≠ M := by omega
 clear hw1 hN hM
 have HS : Hid (∀ V, Below w1.heap.size w1 V → V.cell? ⟨N, 0, none⟩ = some (.int .i64 x.kind) ∧ V.cell? ⟨N, 1, none⟩ = some (.int .u64 x.view) ∧ V.cell? ⟨N, 2, none⟩ = some (.int .u64 x.seq) ∧ V.cell? ⟨N, 3, none⟩ = some (.slice x.sum.ao x.sum.n x.sum.cap) ∧ V.cell? ⟨N, 4, none⟩ = some (.slice x.q.ao x.q.n x.q.cap) ∧ V.cell? ⟨N, 5, none⟩ = some (.int .u64 x.cl) ∧ V.cell? ⟨N, 6, none⟩ = some (.int .u64 x.st) ∧ V.cell? ⟨N, 7, none⟩ = some (.int .u64 x.vw) ∧ V.cell? ⟨N, 8, none⟩ = some (.int .i64 x.e) ∧ V.cell? ⟨N, 9, none⟩ = some (.slice x.c.ao x.c.n x.c.cap) ∧ V.cell? ⟨N, 10, none⟩ = some (.bool x.more) ∧ V.cell? ⟨N, 11, none⟩ = some (.slice x.s.ao x.s.n x.s.cap) ∧ V.cell? ⟨N, 12, none⟩ = some (.slice x.t.ao x.t.n x.t.cap)) := fun V hV => have q := (K.keep hV).cs; ⟨q.c0, q.c1, q.c2, q.c3, q.c4, q.c5, q.c6, q.c7, q.c8, q.c9, q.c10, q.c11, q.c12⟩
 refine zB (by kernel_rfl) HS.out fun v0 E0 H0 => ?_
 refine zT 0 (some 3) (.pointer (some ⟨N, 1, none⟩)) rfl rfl (by kernel_rfl) rfl (fun W ⟨h0, h1, h2, h3, h4, h5, h6, h7, h8, h9, h10, h11, h12⟩ => by go_simp) H0 ?_
 simp only [FL]
 refine zT 1 (some 4) (.int .u64 x.view) rfl rfl (by kernel_rfl) rfl (fun W ⟨h0, h1, h2, h3, h4, h5, h6, h7, h8, h9, h10, h11, h12⟩ => by go_simp) H0 ?_
 simp only [FL]
 refine zT 2 (some 5) (.pointer (some ⟨N, 2, none⟩)) rfl rfl (by kernel_rfl) rfl (fun W ⟨h0, h1, h2, h3, h4, h5, h6, h7, h8, h9, h10, h11, h12⟩ => by go_simp) H0 ?_
 simp only [FL]
 refine zT 3 (some 6) (.int .u64 x.seq) rfl rfl (by kernel_rfl) rfl (fun W ⟨h0, h1, h2, h3, h4, h5, h6, h7, h8, h9, h10, h11, h12⟩ => by go_simp) H0 ?_
 simp only [FL]
 refine zT 4 (some 7) (.pointer (some ⟨N, 3, none⟩)) rfl rfl (by kernel_rfl) rfl (fun W ⟨h0, h1, h2, h3, h4, h5, h6, h7, h8, h9, h10, h11, h12⟩ => by go_simp) H0 ?_
 simp only [FL]
 refine zT 5 (some 8) (.slice x.sum.ao x.sum.n x.sum.cap) rfl rfl (by kernel_rfl) rfl (fun W ⟨h0, h1, h2, h3, h4, h5, h6, h7, h8, h9, h10, h11, h12⟩ => by go_simp) H0 ?_
 simp only [FL]
 refine zT 6 (some 9) (.int .i64 x.sum.n) rfl rfl (by kernel_rfl) rfl (fun W ⟨h0, h1, h2, h3, h4, h5, h6, h7, h8, h9, h10, h11, h12⟩ => by go_simp) H0 ?_
 simp only [FL]
 refine zT 7 (some 10) (.pointer (some ⟨N, 4, none⟩)) rfl rfl (by kernel_rfl) rfl (fun W ⟨h0, h1, h2, h3, h4, h5, h6, h7, h8, h9, h10, h11, h12⟩ => by go_simp) H0 ?_
 simp only [FL]
 refine zT 8 (some 11) (.slice x.q.ao x.q.n x.q.cap) rfl rfl (by kernel_rfl) rfl (fun W ⟨h0, h1, h2, h3, h4, h5, h6, h7, h8, h9, h10, h11, h12⟩ => by go_simp) H0 ?_
 simp only [FL]
 refine zT 9 (some 12) (.int .i64 x.q.n) rfl rfl (by kernel_rfl) rfl (fun W ⟨h0, h1, h2, h3, h4, h5, h6, h7, h8, h9, h10, h11, h12⟩ => by go_simp) H0 ?_
 simp only [FL]
 refine zT 10 (some 13) (.pointer (some ⟨N, 11, none⟩)) rfl rfl (by kernel_rfl) rfl (fun W ⟨h0, h1, h2, h3, h4, h5, h6, h7, h8, h9, h10, h11, h12⟩ => by go_simp) H0 ?_
 simp only [FL]
 refine zT 11 (some 14) (.slice x.s.ao x.s.n x.s.cap) rfl rfl (by kernel_rfl) rfl (fun W ⟨h0, h1, h2, h3, h4, h5, h6, h7, h8, h9, h10, h11, h12⟩ => by go_simp) H0 ?_
 simp only [FL]
 refine zT 12 (some 15) (.int .i64 x.s.n) rfl rfl (by kernel_rfl) rfl (fun W ⟨h0, h1, h2, h3, h4, h5, h6, h7, h8, h9, h10, h11, h12⟩ => by go_simp) H0 ?_
 simp only [FL]
 refine zT 13 (some 16) (.pointer (some ⟨N, 12, none⟩)) rfl rfl (by kernel_rfl) rfl (fun W ⟨h0, h1, h2, h3, h4, h5, h6, h7, h8, h9, h10, h11, h12⟩ => by go_simp) H0 ?_
 simp only [FL]
 refine zT 14 (some 17) (.slice x.t.ao x.t.n x.t.cap) rfl rfl (by kernel_rfl) rfl (fun W ⟨h0, h1, h2, h3, h4, h5, h6, h7, h8, h9, h10, h11, h12⟩ => by go_simp) H0 ?_
 simp only [FL]
 refine zT 15 (some 18) (.int .i64 x.t.n) rfl rfl (by kernel_rfl) rfl (fun W ⟨h0, h1, h2, h3, h4, h5, h6, h7, h8, h9, h10, h11, h12⟩ => by go_simp) H0 ?_
 simp only [FL]
 refine zT 16 (some 19) (.pointer (some ⟨N, 5, none⟩)) rfl rfl (by kernel_rfl) rfl (fun W ⟨h0, h1, h2, h3, h4, h5, h6, h7, h8, h9, h10, h11, h12⟩ => by go_simp) H0 ?_
 simp only [FL]
 refine zT 17 (some 20) (.agg #[.int .u64 x.cl, .int .u64 x.st, .int .u64 x.vw, .int .i64 x.e, .slice x.c.ao x.c.n x.c.cap, .bool x.more]) rfl rfl (by kernel_rfl) rfl (fun W ⟨h0, h1, h2, h3, h4, h5, h6, h7, h8, h9, h10, h11, h12⟩ => by go_simp) H0 ?_
 simp only [FL]
 refine zT 18 (some 21) (.agg #[.int .u64 0, .int .u64 0, .int .u64 0, .int .i64 0, .slice none 0 0, .bool false]) rfl rfl (by kernel_rfl) rfl (fun W ⟨h0, h1, h2, h3, h4, h5, h6, h7, h8, h9, h10, h11, h12⟩ => by go_simp) H0 ?_
 simp only [FL]
 refine hr_call_w 19 (some 22) 29 #[.agg #[.int .u64 x.cl, .int .u64 x.st, .int .u64 x.vw, .int .i64 x.e, .slice x.c.ao x.c.n x.c.cap, .bool x.more], .agg #[.int .u64 0, .int .u64 0, .int .u64 0, .int .i64 0, .slice none 0 0, .bool false]] rfl rfl (by kernel_rfl) rfl (by go_simp) (fun v w' => v = .bool (zr2 x.cl x.st x.vw x.e x.c.n x.more) ∧ Below v0.heap.size v0 w') ((sameReply0 v0 x.cl x.st x.vw x.e x.c.ao x.c.n x.c.cap x.more).mono (by
  rintro e w' ⟨rfl, C⟩
  exact ⟨_, rfl, rfl, C⟩)) ?_
 rintro v v1 ⟨rfl, C0⟩
 have E1 := E0.trans (C0.mono E0.size)
 have H1 := HS.out v1 E1
 refine ⟨H1, ?_⟩
 simp only [FL]
 refine zT 20 (some 23) (.bool (!zr2 x.cl x.st x.vw x.e x.c.n x.more)) rfl rfl (by kernel_rfl) rfl (fun W ⟨h0, h1, h2, h3, h4, h5, h6, h7, h8, h9, h10, h11, h12⟩ => by go_simp) H1 ?_
 simp only [FL]
 refine zT 21 (some 24) (.agg #[.int .u64 x.view, .int .u64 x.seq, .int .i64 x.sum.n, .int .i64 x.q.n, .int .i64 x.s.n, .int .i64 x.t.n, .bool (!zr2 x.cl x.st x.vw x.e x.c.n x.more)]) rfl rfl (by kernel_rfl) rfl (fun W ⟨h0, h1, h2, h3, h4, h5, h6, h7, h8, h9, h10, h11, h12⟩ => by go_simp) H1 ?_
 simp only [FL]
 have KM1 := (E1.block M (Array.getElem?_eq_some_iff.1 KM).1).trans KM
 have m0 : v1.cell? ⟨M, 0, none⟩ = some (.int .u64 0) := cell_of_row v1 M 0 _ _ _ KM1
 have z0 : v1.frozen? ⟨M, 0, none⟩ = false := frozen_of_row v1 M 0 _ _ KM1
 have m1 : v1.cell? ⟨M, 1, none⟩ = some (.int .u64 0) := cell_of_row v1 M 1 _ _ _ KM1
 have z1 : v1.frozen? ⟨M, 1, none⟩ = false := frozen_of_row v1 M 1 _ _ KM1
 have m2 : v1.cell? ⟨M, 2, none⟩ = some (.int .i64 0) := cell_of_row v1 M 2 _ _ _ KM1
 have z2 : v1.frozen? ⟨M, 2, none⟩ = false := frozen_of_row v1 M 2 _ _ KM1
 have m3 : v1.cell? ⟨M, 3, none⟩ = some (.int .i64 0) := cell_of_row v1 M 3 _ _ _ KM1
 have z3 : v1.frozen? ⟨M, 3, none⟩ = false := frozen_of_row v1 M 3 _ _ KM1
 have m4 : v1.cell? ⟨M, 4, none⟩ = some (.int .i64 0) := cell_of_row v1 M 4 _ _ _ KM1
 have z4 : v1.frozen? ⟨M, 4, none⟩ = false := frozen_of_row v1 M 4 _ _ KM1
 have m5 : v1.cell? ⟨M, 5, none⟩ = some (.int .i64 0) := cell_of_row v1 M 5 _ _ _ KM1
 have z5 : v1.frozen? ⟨M, 5, none⟩ = false := frozen_of_row v1 M 5 _ _ KM1
 have m6 : v1.cell? ⟨M, 6, none⟩ = some (.bool false) := cell_of_row v1 M 6 _ _ _ KM1
 have z6 : v1.frozen? ⟨M, 6, none⟩ = false := frozen_of_row v1 M 6 _ _ KM1
 have SB : ((((((((v1.setCell ⟨M, 0, none⟩ (.int .u64 x.view)).setCell ⟨M, 1, none⟩ (.int .u64 x.seq)).setCell ⟨M, 2, none⟩ (.int .i64 x.sum.n)).setCell ⟨M, 3, none⟩ (.int .i64 x.q.n)).setCell ⟨M, 4, none⟩ (.int .i64 x.s.n)).setCell ⟨M, 5, none⟩ (.int .i64 x.t.n)).setCell ⟨M, 6, none⟩ (.bool (!zr2 x.cl x.st x.vw x.e x.c.n x.more)))).heap.size = v1.heap.size ∧ ∀ j, j ≠ M → ((((((((v1.setCell ⟨M, 0, none⟩ (.int .u64 x.view)).setCell ⟨M, 1, none⟩ (.int .u64 x.seq)).setCell ⟨M, 2, none⟩ (.int .i64 x.sum.n)).setCell ⟨M, 3, none⟩ (.int .i64 x.q.n)).setCell ⟨M, 4, none⟩ (.int .i64 x.s.n)).setCell ⟨M, 5, none⟩ (.int .i64 x.t.n)).setCell ⟨M, 6, none⟩ (.bool (!zr2 x.cl x.st x.vw x.e x.c.n x.more)))).heap[j]? = v1.heap[j]? := SameBut.trans (SameBut.trans (SameBut.trans (SameBut.trans (SameBut.trans (SameBut.trans (same_set _ _ _ _) (same_set _ _ _ _)) (same_set _ _ _ _)) (same_set _ _ _ _)) (same_set _ _ _ _)) (same_set _ _ _ _)) (same_set _ _ _ _)
 have KS : ((((((((v1.setCell ⟨M, 0, none⟩ (.int .u64 x.view)).setCell ⟨M, 1, none⟩ (.int .u64 x.seq)).setCell ⟨M, 2, none⟩ (.int .i64 x.sum.n)).setCell ⟨M, 3, none⟩ (.int .i64 x.q.n)).setCell ⟨M, 4, none⟩ (.int .i64 x.s.n)).setCell ⟨M, 5, none⟩ (.int .i64 x.t.n)).setCell ⟨M, 6, none⟩ (.bool (!zr2 x.cl x.st x.vw x.e x.c.n x.more)))).heap[M]? = some (.cells #[.int .u64 x.view, .int .u64 x.seq, .int .i64 x.sum.n, .int .i64 x.q.n, .int .i64 x.s.n, .int .i64 x.t.n, .bool (!zr2 x.cl x.st x.vw x.e x.c.n x.more)] 104) := heap_setCell_same _ _ 6 _ _ _ (heap_setCell_same _ _ 5 _ _ _ (heap_setCell_same _ _ 4 _ _ _ (heap_setCell_same _ _ 3 _ _ _ (heap_setCell_same _ _ 2 _ _ _ (heap_setCell_same _ _ 1 _ _ _ (heap_setCell_same _ _ 0 _ _ _ (KM1)))))))
 have K3 : BC (((((((v1.setCell ⟨M, 0, none⟩ (.int .u64 x.view)).setCell ⟨M, 1, none⟩ (.int .u64 x.seq)).setCell ⟨M, 2, none⟩ (.int .i64 x.sum.n)).setCell ⟨M, 3, none⟩ (.int .i64 x.q.n)).setCell ⟨M, 4, none⟩ (.int .i64 x.s.n)).setCell ⟨M, 5, none⟩ (.int .i64 x.t.n)).setCell ⟨M, 6, none⟩ (.bool (!zr2 x.cl x.st x.vw x.e x.c.n x.more))) N x := (SB.2 N (by omega)).trans ((E1.block N K.lt).trans K)
 have BF : Below w.heap.size w (((((((v1.setCell ⟨M, 0, none⟩ (.int .u64 x.view)).setCell ⟨M, 1, none⟩ (.int .u64 x.seq)).setCell ⟨M, 2, none⟩ (.int .i64 x.sum.n)).setCell ⟨M, 3, none⟩ (.int .i64 x.q.n)).setCell ⟨M, 4, none⟩ (.int .i64 x.s.n)).setCell ⟨M, 5, none⟩ (.int .i64 x.t.n)).setCell ⟨M, 6, none⟩ (.bool (!zr2 x.cl x.st x.vw x.e x.c.n x.more))) := (((((((B1.trans (E1.mono (by have := B1.size; omega))).setCell (p := ⟨M, 0, none⟩) (by show w.heap.size ≤ M; have := HM.out; omega) _).setCell (p := ⟨M, 1, none⟩) (by show w.heap.size ≤ M; have := HM.out; omega) _).setCell (p := ⟨M, 2, none⟩) (by show w.heap.size ≤ M; have := HM.out; omega) _).setCell (p := ⟨M, 3, none⟩) (by show w.heap.size ≤ M; have := HM.out; omega) _).setCell (p := ⟨M, 4, none⟩) (by show w.heap.size ≤ M; have := HM.out; omega) _).setCell (p := ⟨M, 5, none⟩) (by show w.heap.size ≤ M; have := HM.out; omega) _).setCell (p := ⟨M, 6, none⟩) (by show w.heap.size ≤ M; have := HM.out; omega) _
 have H3 : ((((((((v1.setCell ⟨M, 0, none⟩ (.int .u64 x.view)).setCell ⟨M, 1, none⟩ (.int .u64 x.seq)).setCell ⟨M, 2, none⟩ (.int .i64 x.sum.n)).setCell ⟨M, 3, none⟩ (.int .i64 x.q.n)).setCell ⟨M, 4, none⟩ (.int .i64 x.s.n)).setCell ⟨M, 5, none⟩ (.int .i64 x.t.n)).setCell ⟨M, 6, none⟩ (.bool (!zr2 x.cl x.st x.vw x.e x.c.n x.more)))).cell? ⟨N, 0, none⟩ = some (.int .i64 x.kind) ∧ ((((((((v1.setCell ⟨M, 0, none⟩ (.int .u64 x.view)).setCell ⟨M, 1, none⟩ (.int .u64 x.seq)).setCell ⟨M, 2, none⟩ (.int .i64 x.sum.n)).setCell ⟨M, 3, none⟩ (.int .i64 x.q.n)).setCell ⟨M, 4, none⟩ (.int .i64 x.s.n)).setCell ⟨M, 5, none⟩ (.int .i64 x.t.n)).setCell ⟨M, 6, none⟩ (.bool (!zr2 x.cl x.st x.vw x.e x.c.n x.more)))).cell? ⟨N, 1, none⟩ = some (.int .u64 x.view) ∧ ((((((((v1.setCell ⟨M, 0, none⟩ (.int .u64 x.view)).setCell ⟨M, 1, none⟩ (.int .u64 x.seq)).setCell ⟨M, 2, none⟩ (.int .i64 x.sum.n)).setCell ⟨M, 3, none⟩ (.int .i64 x.q.n)).setCell ⟨M, 4, none⟩ (.int .i64 x.s.n)).setCell ⟨M, 5, none⟩ (.int .i64 x.t.n)).setCell ⟨M, 6, none⟩ (.bool (!zr2 x.cl x.st x.vw x.e x.c.n x.more)))).cell? ⟨N, 2, none⟩ = some (.int .u64 x.seq) ∧ ((((((((v1.setCell ⟨M, 0, none⟩ (.int .u64 x.view)).setCell ⟨M, 1, none⟩ (.int .u64 x.seq)).setCell ⟨M, 2, none⟩ (.int .i64 x.sum.n)).setCell ⟨M, 3, none⟩ (.int .i64 x.q.n)).setCell ⟨M, 4, none⟩ (.int .i64 x.s.n)).setCell ⟨M, 5, none⟩ (.int .i64 x.t.n)).setCell ⟨M, 6, none⟩ (.bool (!zr2 x.cl x.st x.vw x.e x.c.n x.more)))).cell? ⟨N, 3, none⟩ = some (.slice x.sum.ao x.sum.n x.sum.cap) ∧ ((((((((v1.setCell ⟨M, 0, none⟩ (.int .u64 x.view)).setCell ⟨M, 1, none⟩ (.int .u64 x.seq)).setCell ⟨M, 2, none⟩ (.int .i64 x.sum.n)).setCell ⟨M, 3, none⟩ (.int .i64 x.q.n)).setCell ⟨M, 4, none⟩ (.int .i64 x.s.n)).setCell ⟨M, 5, none⟩ (.int .i64 x.t.n)).setCell ⟨M, 6, none⟩ (.bool (!zr2 x.cl x.st x.vw x.e x.c.n x.more)))).cell? ⟨N, 4, none⟩ = some (.slice x.q.ao x.q.n x.q.cap) ∧ ((((((((v1.setCell ⟨M, 0, none⟩ (.int .u64 x.view)).setCell ⟨M, 1, none⟩ (.int .u64 x.seq)).setCell ⟨M, 2, none⟩ (.int .i64 x.sum.n)).setCell ⟨M, 3, none⟩ (.int .i64 x.q.n)).setCell ⟨M, 4, none⟩ (.int .i64 x.s.n)).setCell ⟨M, 5, none⟩ (.int .i64 x.t.n)).setCell ⟨M, 6, none⟩ (.bool (!zr2 x.cl x.st x.vw x.e x.c.n x.more)))).cell? ⟨N, 5, none⟩ = some (.int .u64 x.cl) ∧ ((((((((v1.setCell ⟨M, 0, none⟩ (.int .u64 x.view)).setCell ⟨M, 1, none⟩ (.int .u64 x.seq)).setCell ⟨M, 2, none⟩ (.int .i64 x.sum.n)).setCell ⟨M, 3, none⟩ (.int .i64 x.q.n)).setCell ⟨M, 4, none⟩ (.int .i64 x.s.n)).setCell ⟨M, 5, none⟩ (.int .i64 x.t.n)).setCell ⟨M, 6, none⟩ (.bool (!zr2 x.cl x.st x.vw x.e x.c.n x.more)))).cell? ⟨N, 6, none⟩ = some (.int .u64 x.st) ∧ ((((((((v1.setCell ⟨M, 0, none⟩ (.int .u64 x.view)).setCell ⟨M, 1, none⟩ (.int .u64 x.seq)).setCell ⟨M, 2, none⟩ (.int .i64 x.sum.n)).setCell ⟨M, 3, none⟩ (.int .i64 x.q.n)).setCell ⟨M, 4, none⟩ (.int .i64 x.s.n)).setCell ⟨M, 5, none⟩ (.int .i64 x.t.n)).setCell ⟨M, 6, none⟩ (.bool (!zr2 x.cl x.st x.vw x.e x.c.n x.more)))).cell? ⟨N, 7, none⟩ = some (.int .u64 x.vw) ∧ ((((((((v1.setCell ⟨M, 0, none⟩ (.int .u64 x.view)).setCell ⟨M, 1, none⟩ (.int .u64 x.seq)).setCell ⟨M, 2, none⟩ (.int .i64 x.sum.n)).setCell ⟨M, 3, none⟩ (.int .i64 x.q.n)).setCell ⟨M, 4, none⟩ (.int .i64 x.s.n)).setCell ⟨M, 5, none⟩ (.int .i64 x.t.n)).setCell ⟨M, 6, none⟩ (.bool (!zr2 x.cl x.st x.vw x.e x.c.n x.more)))).cell? ⟨N, 8, none⟩ = some (.int .i64 x.e) ∧ ((((((((v1.setCell ⟨M, 0, none⟩ (.int .u64 x.view)).setCell ⟨M, 1, none⟩ (.int .u64 x.seq)).setCell ⟨M, 2, none⟩ (.int .i64 x.sum.n)).setCell ⟨M, 3, none⟩ (.int .i64 x.q.n)).setCell ⟨M, 4, none⟩ (.int .i64 x.s.n)).setCell ⟨M, 5, none⟩ (.int .i64 x.t.n)).setCell ⟨M, 6, none⟩ (.bool (!zr2 x.cl x.st x.vw x.e x.c.n x.more)))).cell? ⟨N, 9, none⟩ = some (.slice x.c.ao x.c.n x.c.cap) ∧ ((((((((v1.setCell ⟨M, 0, none⟩ (.int .u64 x.view)).setCell ⟨M, 1, none⟩ (.int .u64 x.seq)).setCell ⟨M, 2, none⟩ (.int .i64 x.sum.n)).setCell ⟨M, 3, none⟩ (.int .i64 x.q.n)).setCell ⟨M, 4, none⟩ (.int .i64 x.s.n)).setCell ⟨M, 5, none⟩ (.int .i64 x.t.n)).setCell ⟨M, 6, none⟩ (.bool (!zr2 x.cl x.st x.vw x.e x.c.n x.more)))).cell? ⟨N, 10, none⟩ = some (.bool x.more) ∧ ((((((((v1.setCell ⟨M, 0, none⟩ (.int .u64 x.view)).setCell ⟨M, 1, none⟩ (.int .u64 x.seq)).setCell ⟨M, 2, none⟩ (.int .i64 x.sum.n)).setCell ⟨M, 3, none⟩ (.int .i64 x.q.n)).setCell ⟨M, 4, none⟩ (.int .i64 x.s.n)).setCell ⟨M, 5, none⟩ (.int .i64 x.t.n)).setCell ⟨M, 6, none⟩ (.bool (!zr2 x.cl x.st x.vw x.e x.c.n x.more)))).cell? ⟨N, 11, none⟩ = some (.slice x.s.ao x.s.n x.s.cap) ∧ ((((((((v1.setCell ⟨M, 0, none⟩ (.int .u64 x.view)).setCell ⟨M, 1, none⟩ (.int .u64 x.seq)).setCell ⟨M, 2, none⟩ (.int .i64 x.sum.n)).setCell ⟨M, 3, none⟩ (.int .i64 x.q.n)).setCell ⟨M, 4, none⟩ (.int .i64 x.s.n)).setCell ⟨M, 5, none⟩ (.int .i64 x.t.n)).setCell ⟨M, 6, none⟩ (.bool (!zr2 x.cl x.st x.vw x.e x.c.n x.more)))).cell? ⟨N, 12, none⟩ = some (.slice x.t.ao x.t.n x.t.cap) := have q := K3.cs; ⟨q.c0, q.c1, q.c2, q.c3, q.c4, q.c5, q.c6, q.c7, q.c8, q.c9, q.c10, q.c11, q.c12⟩
 refine hr_skip 22 none (w' := (((((((v1.setCell ⟨M, 0, none⟩ (.int .u64 x.view)).setCell ⟨M, 1, none⟩ (.int .u64 x.seq)).setCell ⟨M, 2, none⟩ (.int .i64 x.sum.n)).setCell ⟨M, 3, none⟩ (.int .i64 x.q.n)).setCell ⟨M, 4, none⟩ (.int .i64 x.s.n)).setCell ⟨M, 5, none⟩ (.int .i64 x.t.n)).setCell ⟨M, 6, none⟩ (.bool (!zr2 x.cl x.st x.vw x.e x.c.n x.more)))) rfl rfl (by kernel_rfl) rfl (by go_simp) H3 ?_
 simp only [Act.put]
 refine wpAnyH_done (by kernel_rfl) ?_ _
 refine NoPanic.normal ?_
 have q0 := cell_of_row _ M 0 _ _ _ KS
 have q1 := cell_of_row _ M 1 _ _ _ KS
 have q2 := cell_of_row _ M 2 _ _ _ KS
 have q3 := cell_of_row _ M 3 _ _ _ KS
 have q4 := cell_of_row _ M 4 _ _ _ KS
 have q5 := cell_of_row _ M 5 _ _ _ KS
 have q6 := cell_of_row _ M 6 _ _ _ KS
 go_wp2
 refine bodyPost_ret (v := .agg #[.int .u64 x.view, .int .u64 x.seq, .int .i64 x.sum.n, .int .i64 x.q.n, .int .i64 x.s.n, .int .i64 x.t.n, .bool (!zr2 x.cl x.st x.vw x.e x.c.n x.more)]) (by simp [results, Tryz.results57, go_sem, q0, q1, q2, q3, q4, q5, q6]) rfl ?_
 exact ⟨by rw [HV'.out], BF⟩
end Go.Proofs.YtnbejckdhdbamaaGreat

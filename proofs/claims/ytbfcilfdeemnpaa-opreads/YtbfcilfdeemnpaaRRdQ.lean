/-
  The reference's ReadRequest.
-/
import Derived.Test.YtbfcilfdeemnpaaRRdM
import Derived.Test.YtbfcilfdeemnpaaRReq
namespace Go.Proofs.Ytbfcilfdeemnpaa
open Go.RowKit

set_option maxRecDepth 100000 in
set_option maxHeartbeats 4000000 in
theorem rrdq_any (w : World) (ao : Option Addr) (n cap : Nat) (xs : List Int) (h : Sl w ao n cap xs) (hn : n ≤ 100000) :
    Calls Try.prog 19 #[.slice ao n cap] w (RdqPost w (rdQ xs)) := by
  have HRD : Hid (rdQ xs = rdT reqR kindQ xs) := rdQ_ref xs
  have HBY : Hid (Byt xs) := h.byte
  have B : Below w.heap.size w (((w.alloc (.cells #[.int .u64 0, .int .u64 0, .int .i64 0, .string ⟨#[]⟩, .string ⟨#[]⟩, .string ⟨#[]⟩, .int .u64 0, .string ⟨#[]⟩, .slice none 0 0, .slice none 0 0, .bool false, .slice none 0 0] 30)).alloc (.cells #[.slice ao n cap, .int .i64 0] 71)).alloc (.cells #[.int .u64 0, .int .u64 0, .int .i64 0, .string ⟨#[]⟩, .string ⟨#[]⟩, .string ⟨#[]⟩, .int .u64 0, .string ⟨#[]⟩, .slice none 0 0, .slice none 0 0, .bool false, .slice none 0 0] 30)) := (((Below.refl _ w).alloc (Nat.le_refl _) _).alloc (by simp) _).alloc (by simp; omega) _
  have K : (((w.alloc (.cells #[.int .u64 0, .int .u64 0, .int .i64 0, .string ⟨#[]⟩, .string ⟨#[]⟩, .string ⟨#[]⟩, .int .u64 0, .string ⟨#[]⟩, .slice none 0 0, .slice none 0 0, .bool false, .slice none 0 0] 30)).alloc (.cells #[.slice ao n cap, .int .i64 0] 71)).alloc (.cells #[.int .u64 0, .int .u64 0, .int .i64 0, .string ⟨#[]⟩, .string ⟨#[]⟩, .string ⟨#[]⟩, .int .u64 0, .string ⟨#[]⟩, .slice none 0 0, .slice none 0 0, .bool false, .slice none 0 0] 30)).heap[w.heap.size]? = some (.cells #[.int .u64 0, .int .u64 0, .int .i64 0, .string ⟨#[]⟩, .string ⟨#[]⟩, .string ⟨#[]⟩, .int .u64 0, .string ⟨#[]⟩, .slice none 0 0, .slice none 0 0, .bool false, .slice none 0 0] 30) := (heap_alloc_old _ _ (by simp; omega)).trans ((heap_alloc_old _ _ (by simp)).trans (heap_alloc_new w _))
  have P0 : (((w.alloc (.cells #[.int .u64 0, .int .u64 0, .int .i64 0, .string ⟨#[]⟩, .string ⟨#[]⟩, .string ⟨#[]⟩, .int .u64 0, .string ⟨#[]⟩, .slice none 0 0, .slice none 0 0, .bool false, .slice none 0 0] 30)).alloc (.cells #[.slice ao n cap, .int .i64 0] 71)).alloc (.cells #[.int .u64 0, .int .u64 0, .int .i64 0, .string ⟨#[]⟩, .string ⟨#[]⟩, .string ⟨#[]⟩, .int .u64 0, .string ⟨#[]⟩, .slice none 0 0, .slice none 0 0, .bool false, .slice none 0 0] 30)).heap[w.heap.size + 1]? = some (.cells #[.slice ao n cap, .int .i64 0] 71) := by
    refine (heap_alloc_old _ _ (by simp)).trans ?_
    have := heap_alloc_new (w.alloc (.cells #[.int .u64 0, .int .u64 0, .int .i64 0, .string ⟨#[]⟩, .string ⟨#[]⟩, .string ⟨#[]⟩, .int .u64 0, .string ⟨#[]⟩, .slice none 0 0, .slice none 0 0, .bool false, .slice none 0 0] 30)) (.cells #[.slice ao n cap, .int .i64 0] 71)
    simpa using this
  have O : (((w.alloc (.cells #[.int .u64 0, .int .u64 0, .int .i64 0, .string ⟨#[]⟩, .string ⟨#[]⟩, .string ⟨#[]⟩, .int .u64 0, .string ⟨#[]⟩, .slice none 0 0, .slice none 0 0, .bool false, .slice none 0 0] 30)).alloc (.cells #[.slice ao n cap, .int .i64 0] 71)).alloc (.cells #[.int .u64 0, .int .u64 0, .int .i64 0, .string ⟨#[]⟩, .string ⟨#[]⟩, .string ⟨#[]⟩, .int .u64 0, .string ⟨#[]⟩, .slice none 0 0, .slice none 0 0, .bool false, .slice none 0 0] 30)).heap[w.heap.size + 1 + 1]? = some (.cells #[.int .u64 0, .int .u64 0, .int .i64 0, .string ⟨#[]⟩, .string ⟨#[]⟩, .string ⟨#[]⟩, .int .u64 0, .string ⟨#[]⟩, .slice none 0 0, .slice none 0 0, .bool false, .slice none 0 0] 30) := by
    have := heap_alloc_new ((w.alloc (.cells #[.int .u64 0, .int .u64 0, .int .i64 0, .string ⟨#[]⟩, .string ⟨#[]⟩, .string ⟨#[]⟩, .int .u64 0, .string ⟨#[]⟩, .slice none 0 0, .slice none 0 0, .bool false, .slice none 0 0] 30)).alloc (.cells #[.slice ao n cap, .int .i64 0] 71)) (.cells #[.int .u64 0, .int .u64 0, .int .i64 0, .string ⟨#[]⟩, .string ⟨#[]⟩, .string ⟨#[]⟩, .int .u64 0, .string ⟨#[]⟩, .slice none 0 0, .slice none 0 0, .bool false, .slice none 0 0] 30)
    simpa using this
  have R0 : R (((w.alloc (.cells #[.int .u64 0, .int .u64 0, .int .i64 0, .string ⟨#[]⟩, .string ⟨#[]⟩, .string ⟨#[]⟩, .int .u64 0, .string ⟨#[]⟩, .slice none 0 0, .slice none 0 0, .bool false, .slice none 0 0] 30)).alloc (.cells #[.slice ao n cap, .int .i64 0] 71)).alloc (.cells #[.int .u64 0, .int .u64 0, .int .i64 0, .string ⟨#[]⟩, .string ⟨#[]⟩, .string ⟨#[]⟩, .int .u64 0, .string ⟨#[]⟩, .slice none 0 0, .slice none 0 0, .bool false, .slice none 0 0] 30)) (w.heap.size + 1) w.heap.size xs 0 := ⟨ao, n, cap, cell_of_row _ _ 0 _ _ _ P0, cell_of_row _ _ 1 _ _ _ P0, frozen_of_row _ _ 0 _ _ P0, frozen_of_row _ _ 1 _ _ P0, h.below B, fun a ha hp => h.lt a ha hp, by omega, by omega⟩
  clear h P0
  go_enter Try.func19, Try.ntmps19
  go_wp2_with fail
  obtain ⟨w0, hw0⟩ : ∃ W, W = (((w.alloc (.cells #[.int .u64 0, .int .u64 0, .int .i64 0, .string ⟨#[]⟩, .string ⟨#[]⟩, .string ⟨#[]⟩, .int .u64 0, .string ⟨#[]⟩, .slice none 0 0, .slice none 0 0, .bool false, .slice none 0 0] 30)).alloc (.cells #[.slice ao n cap, .int .i64 0] 71)).alloc (.cells #[.int .u64 0, .int .u64 0, .int .i64 0, .string ⟨#[]⟩, .string ⟨#[]⟩, .string ⟨#[]⟩, .int .u64 0, .string ⟨#[]⟩, .slice none 0 0, .slice none 0 0, .bool false, .slice none 0 0] 30)) := ⟨_, rfl⟩
  obtain ⟨N, hN⟩ : ∃ N, N = w.heap.size := ⟨_, rfl⟩
  rw [← hw0] at K B R0 O ⊢
  rw [← hN] at K B R0 O ⊢
  obtain ⟨M, hM⟩ : ∃ M, M = N + 1 + 1 := ⟨_, rfl⟩
  rw [← hM] at O ⊢
  have HN : Hid (N = w.heap.size) := hN
  have hNM : N + 1 < M ∧ N ≤ M := by omega
  clear hw0 hN hM
  refine (rUint_read w0 (N + 1) N xs 0 R0).mono ?_
  rintro e u1 ⟨rfl, R1, G1⟩
  obtain ⟨r1, e1⟩ : ∃ r, r = uintT xs 0 := ⟨_, rfl⟩
  have ER1 : Hid (r1 = uintT xs 0) := e1
  have Z1 : r1.1 < 18446744073709551616 := by rw [e1, fst_uint]; exact uintS_lt R0.byte
  rw [← e1] at R1 ⊢
  have K1 := (G1.block N (Array.getElem?_eq_some_iff.1 K).1 (by simp)).trans K
  have O1 := (G1.block M (Array.getElem?_eq_some_iff.1 O).1 (by simp; omega)).trans O
  have B1 := B.trans (below_grown G1 (by have := B.size; have := HN.out; omega) (by omega))
  have c0 : u1.cell? ⟨M, 0, none⟩ = some (.int .u64 0) := cell_of_row u1 M 0 _ _ _ O1
  have f0 : u1.frozen? ⟨M, 0, none⟩ = false := frozen_of_row u1 M 0 _ _ O1
  clear e1 R0 K O B G1
  obtain ⟨w1, hV⟩ : ∃ V, V = u1.setCell ⟨M, 0, none⟩ (.int .u64 r1.1) := ⟨_, rfl⟩
  have SB : w1.heap.size = u1.heap.size ∧ ∀ j, j ≠ M → w1.heap[j]? = u1.heap[j]? := by rw [hV]; exact same_set _ _ _ _
  have R0 : R w1 (N + 1) N r1.2.1 r1.2.2 := by rw [hV]; exact R.own R1 hNM.1 hNM.2
  have B : Below N w w1 := by rw [hV]; exact B1.setCell hNM.2 _
  have K := (SB.2 N (by omega)).trans K1
  have O : w1.heap[M]? = some (.cells #[.int .u64 r1.1, .int .u64 0, .int .i64 0, .string ⟨#[]⟩, .string ⟨#[]⟩, .string ⟨#[]⟩, .int .u64 0, .string ⟨#[]⟩, .slice none 0 0, .slice none 0 0, .bool false, .slice none 0 0] 30) := by rw [hV]; exact heap_setCell_same _ M 0 _ _ (.int .u64 r1.1) O1
  clear R1 B1 K1 O1 SB
  go_wp2_with fail
  rw [← hV]
  clear hV c0 f0
  refine (rUint_read w1 (N + 1) N r1.2.1 r1.2.2 R0).mono ?_
  rintro e u2 ⟨rfl, R1, G1⟩
  obtain ⟨r2, e1⟩ : ∃ r, r = uintT r1.2.1 r1.2.2 := ⟨_, rfl⟩
  have ER2 : Hid (r2 = uintT r1.2.1 r1.2.2) := e1
  have Z2 : r2.1 < 18446744073709551616 := by rw [e1, fst_uint]; exact uintS_lt R0.byte
  rw [← e1] at R1 ⊢
  have K1 := (G1.block N (Array.getElem?_eq_some_iff.1 K).1 (by simp)).trans K
  have O1 := (G1.block M (Array.getElem?_eq_some_iff.1 O).1 (by simp; omega)).trans O
  have B1 := B.trans (below_grown G1 (by have := B.size; have := HN.out; omega) (by omega))
  have c1 : u2.cell? ⟨M, 1, none⟩ = some (.int .u64 0) := cell_of_row u2 M 1 _ _ _ O1
  have f1 : u2.frozen? ⟨M, 1, none⟩ = false := frozen_of_row u2 M 1 _ _ O1
  clear e1 R0 K O B G1
  obtain ⟨w2, hV⟩ : ∃ V, V = u2.setCell ⟨M, 1, none⟩ (.int .u64 r2.1) := ⟨_, rfl⟩
  have SB : w2.heap.size = u2.heap.size ∧ ∀ j, j ≠ M → w2.heap[j]? = u2.heap[j]? := by rw [hV]; exact same_set _ _ _ _
  have R0 : R w2 (N + 1) N r2.2.1 r2.2.2 := by rw [hV]; exact R.own R1 hNM.1 hNM.2
  have B : Below N w w2 := by rw [hV]; exact B1.setCell hNM.2 _
  have K := (SB.2 N (by omega)).trans K1
  have O : w2.heap[M]? = some (.cells #[.int .u64 r1.1, .int .u64 r2.1, .int .i64 0, .string ⟨#[]⟩, .string ⟨#[]⟩, .string ⟨#[]⟩, .int .u64 0, .string ⟨#[]⟩, .slice none 0 0, .slice none 0 0, .bool false, .slice none 0 0] 30) := by rw [hV]; exact heap_setCell_same _ M 1 _ _ (.int .u64 r2.1) O1
  clear R1 B1 K1 O1 SB
  go_wp2_with fail
  rw [← hV]
  clear hV c1 f1
  refine (rtake_any w2 (N + 1) N r2.2.1 r2.2.2 R0).mono ?_
  intro e w4 TP
  obtain ⟨v4, rfl, ⟨o, l, rfl, ok, OL, far0, ht, hz⟩, R4, G4⟩ := rtake_op TP
  have FAR : Hid (∀ x, (o.blks x ∨ o.sblk x ∨ ∃ y ∈ l, y.blks x) → x ≠ N ∧ x ≠ M) := fun x hx => by have := far0 x hx; have := (Array.getElem?_eq_some_iff.1 K).1; have := (Array.getElem?_eq_some_iff.1 O).1; omega
  clear far0
  obtain ⟨T, hT⟩ : ∃ T, T = opR r2.2.1 r2.2.2 := ⟨_, rfl⟩
  have HT : Hid (T = opR r2.2.1 r2.2.2) := hT
  rw [← hT] at R4 ht
  have K4 := (G4.block N (Array.getElem?_eq_some_iff.1 K).1 (by simp)).trans K
  have O4 := (G4.block M (Array.getElem?_eq_some_iff.1 O).1 (by simp; omega)).trans O
  have B4 := B.trans (below_grown G4 (by have := B.size; have := HN.out; omega) (by omega))
  have Hht : Hid (T.1 = (o.s, l.map OA.s)) := ht
  have HZ : Hid (∀ y ∈ l, y.sn = 0) := hz
  clear hT ht hz TP K R0 B G4 O
  unfold OA.val
  have c2 : w4.cell? ⟨M, 2, none⟩ = some (.int .i64 0) := cell_of_row w4 M 2 _ _ _ O4
  have f2 : w4.frozen? ⟨M, 2, none⟩ = false := frozen_of_row w4 M 2 _ _ O4
  have c3 : w4.cell? ⟨M, 3, none⟩ = some (.string ⟨#[]⟩) := cell_of_row w4 M 3 _ _ _ O4
  have f3 : w4.frozen? ⟨M, 3, none⟩ = false := frozen_of_row w4 M 3 _ _ O4
  have c4 : w4.cell? ⟨M, 4, none⟩ = some (.string ⟨#[]⟩) := cell_of_row w4 M 4 _ _ _ O4
  have f4 : w4.frozen? ⟨M, 4, none⟩ = false := frozen_of_row w4 M 4 _ _ O4
  have c5 : w4.cell? ⟨M, 5, none⟩ = some (.string ⟨#[]⟩) := cell_of_row w4 M 5 _ _ _ O4
  have f5 : w4.frozen? ⟨M, 5, none⟩ = false := frozen_of_row w4 M 5 _ _ O4
  have c6 : w4.cell? ⟨M, 6, none⟩ = some (.int .u64 0) := cell_of_row w4 M 6 _ _ _ O4
  have f6 : w4.frozen? ⟨M, 6, none⟩ = false := frozen_of_row w4 M 6 _ _ O4
  have c7 : w4.cell? ⟨M, 7, none⟩ = some (.string ⟨#[]⟩) := cell_of_row w4 M 7 _ _ _ O4
  have f7 : w4.frozen? ⟨M, 7, none⟩ = false := frozen_of_row w4 M 7 _ _ O4
  have c8 : w4.cell? ⟨M, 8, none⟩ = some (.slice none 0 0) := cell_of_row w4 M 8 _ _ _ O4
  have f8 : w4.frozen? ⟨M, 8, none⟩ = false := frozen_of_row w4 M 8 _ _ O4
  have c9 : w4.cell? ⟨M, 9, none⟩ = some (.slice none 0 0) := cell_of_row w4 M 9 _ _ _ O4
  have f9 : w4.frozen? ⟨M, 9, none⟩ = false := frozen_of_row w4 M 9 _ _ O4
  have c10 : w4.cell? ⟨M, 10, none⟩ = some (.bool false) := cell_of_row w4 M 10 _ _ _ O4
  have f10 : w4.frozen? ⟨M, 10, none⟩ = false := frozen_of_row w4 M 10 _ _ O4
  have c11 : w4.cell? ⟨M, 11, none⟩ = some (.slice none 0 0) := cell_of_row w4 M 11 _ _ _ O4
  have f11 : w4.frozen? ⟨M, 11, none⟩ = false := frozen_of_row w4 M 11 _ _ O4
  obtain ⟨w5, hw5⟩ : ∃ W, W = ((((((((((w4.setCell ⟨M, 2, none⟩ (.int .i64 o.kind)).setCell ⟨M, 3, none⟩ (.string o.row)).setCell ⟨M, 4, none⟩ (.string o.fam)).setCell ⟨M, 5, none⟩ (.string o.qual)).setCell ⟨M, 6, none⟩ (.int .u64 o.time)).setCell ⟨M, 7, none⟩ (.string o.to)).setCell ⟨M, 8, none⟩ (.slice o.va.ao o.va.n o.va.cap)).setCell ⟨M, 9, none⟩ (.slice o.wa.ao o.wa.n o.wa.cap)).setCell ⟨M, 10, none⟩ (.bool o.has)).setCell ⟨M, 11, none⟩ (.slice o.so o.sn o.sc)) := ⟨_, rfl⟩
  have SB : w5.heap.size = w4.heap.size ∧ ∀ j, j ≠ M → w5.heap[j]? = w4.heap[j]? := by rw [hw5]; exact (SameBut.trans (SameBut.trans (SameBut.trans (SameBut.trans (SameBut.trans (SameBut.trans (SameBut.trans (SameBut.trans (SameBut.trans (SameBut.trans ⟨rfl, fun _ _ => rfl⟩ (same_set _ _ _ _)) (same_set _ _ _ _)) (same_set _ _ _ _)) (same_set _ _ _ _)) (same_set _ _ _ _)) (same_set _ _ _ _)) (same_set _ _ _ _)) (same_set _ _ _ _)) (same_set _ _ _ _)) (same_set _ _ _ _))
  have QX : QC w5 M r1.1 r2.1 o := by
    rw [hw5]
    have X2 : (w4.setCell ⟨M, 2, none⟩ (.int .i64 o.kind)).heap[M]? = some (.cells #[.int .u64 r1.1, .int .u64 r2.1, .int .i64 o.kind, .string ⟨#[]⟩, .string ⟨#[]⟩, .string ⟨#[]⟩, .int .u64 0, .string ⟨#[]⟩, .slice none 0 0, .slice none 0 0, .bool false, .slice none 0 0] 30) := heap_setCell_same _ M 2 _ _ (.int .i64 o.kind) O4
    have X3 : ((w4.setCell ⟨M, 2, none⟩ (.int .i64 o.kind)).setCell ⟨M, 3, none⟩ (.string o.row)).heap[M]? = some (.cells #[.int .u64 r1.1, .int .u64 r2.1, .int .i64 o.kind, .string o.row, .string ⟨#[]⟩, .string ⟨#[]⟩, .int .u64 0, .string ⟨#[]⟩, .slice none 0 0, .slice none 0 0, .bool false, .slice none 0 0] 30) := heap_setCell_same _ M 3 _ _ (.string o.row) X2
    have X4 : (((w4.setCell ⟨M, 2, none⟩ (.int .i64 o.kind)).setCell ⟨M, 3, none⟩ (.string o.row)).setCell ⟨M, 4, none⟩ (.string o.fam)).heap[M]? = some (.cells #[.int .u64 r1.1, .int .u64 r2.1, .int .i64 o.kind, .string o.row, .string o.fam, .string ⟨#[]⟩, .int .u64 0, .string ⟨#[]⟩, .slice none 0 0, .slice none 0 0, .bool false, .slice none 0 0] 30) := heap_setCell_same _ M 4 _ _ (.string o.fam) X3
    have X5 : ((((w4.setCell ⟨M, 2, none⟩ (.int .i64 o.kind)).setCell ⟨M, 3, none⟩ (.string o.row)).setCell ⟨M, 4, none⟩ (.string o.fam)).setCell ⟨M, 5, none⟩ (.string o.qual)).heap[M]? = some (.cells #[.int .u64 r1.1, .int .u64 r2.1, .int .i64 o.kind, .string o.row, .string o.fam, .string o.qual, .int .u64 0, .string ⟨#[]⟩, .slice none 0 0, .slice none 0 0, .bool false, .slice none 0 0] 30) := heap_setCell_same _ M 5 _ _ (.string o.qual) X4
    have X6 : (((((w4.setCell ⟨M, 2, none⟩ (.int .i64 o.kind)).setCell ⟨M, 3, none⟩ (.string o.row)).setCell ⟨M, 4, none⟩ (.string o.fam)).setCell ⟨M, 5, none⟩ (.string o.qual)).setCell ⟨M, 6, none⟩ (.int .u64 o.time)).heap[M]? = some (.cells #[.int .u64 r1.1, .int .u64 r2.1, .int .i64 o.kind, .string o.row, .string o.fam, .string o.qual, .int .u64 o.time, .string ⟨#[]⟩, .slice none 0 0, .slice none 0 0, .bool false, .slice none 0 0] 30) := heap_setCell_same _ M 6 _ _ (.int .u64 o.time) X5
    have X7 : ((((((w4.setCell ⟨M, 2, none⟩ (.int .i64 o.kind)).setCell ⟨M, 3, none⟩ (.string o.row)).setCell ⟨M, 4, none⟩ (.string o.fam)).setCell ⟨M, 5, none⟩ (.string o.qual)).setCell ⟨M, 6, none⟩ (.int .u64 o.time)).setCell ⟨M, 7, none⟩ (.string o.to)).heap[M]? = some (.cells #[.int .u64 r1.1, .int .u64 r2.1, .int .i64 o.kind, .string o.row, .string o.fam, .string o.qual, .int .u64 o.time, .string o.to, .slice none 0 0, .slice none 0 0, .bool false, .slice none 0 0] 30) := heap_setCell_same _ M 7 _ _ (.string o.to) X6
    have X8 : (((((((w4.setCell ⟨M, 2, none⟩ (.int .i64 o.kind)).setCell ⟨M, 3, none⟩ (.string o.row)).setCell ⟨M, 4, none⟩ (.string o.fam)).setCell ⟨M, 5, none⟩ (.string o.qual)).setCell ⟨M, 6, none⟩ (.int .u64 o.time)).setCell ⟨M, 7, none⟩ (.string o.to)).setCell ⟨M, 8, none⟩ (.slice o.va.ao o.va.n o.va.cap)).heap[M]? = some (.cells #[.int .u64 r1.1, .int .u64 r2.1, .int .i64 o.kind, .string o.row, .string o.fam, .string o.qual, .int .u64 o.time, .string o.to, .slice o.va.ao o.va.n o.va.cap, .slice none 0 0, .bool false, .slice none 0 0] 30) := heap_setCell_same _ M 8 _ _ (.slice o.va.ao o.va.n o.va.cap) X7
    have X9 : ((((((((w4.setCell ⟨M, 2, none⟩ (.int .i64 o.kind)).setCell ⟨M, 3, none⟩ (.string o.row)).setCell ⟨M, 4, none⟩ (.string o.fam)).setCell ⟨M, 5, none⟩ (.string o.qual)).setCell ⟨M, 6, none⟩ (.int .u64 o.time)).setCell ⟨M, 7, none⟩ (.string o.to)).setCell ⟨M, 8, none⟩ (.slice o.va.ao o.va.n o.va.cap)).setCell ⟨M, 9, none⟩ (.slice o.wa.ao o.wa.n o.wa.cap)).heap[M]? = some (.cells #[.int .u64 r1.1, .int .u64 r2.1, .int .i64 o.kind, .string o.row, .string o.fam, .string o.qual, .int .u64 o.time, .string o.to, .slice o.va.ao o.va.n o.va.cap, .slice o.wa.ao o.wa.n o.wa.cap, .bool false, .slice none 0 0] 30) := heap_setCell_same _ M 9 _ _ (.slice o.wa.ao o.wa.n o.wa.cap) X8
    have X10 : (((((((((w4.setCell ⟨M, 2, none⟩ (.int .i64 o.kind)).setCell ⟨M, 3, none⟩ (.string o.row)).setCell ⟨M, 4, none⟩ (.string o.fam)).setCell ⟨M, 5, none⟩ (.string o.qual)).setCell ⟨M, 6, none⟩ (.int .u64 o.time)).setCell ⟨M, 7, none⟩ (.string o.to)).setCell ⟨M, 8, none⟩ (.slice o.va.ao o.va.n o.va.cap)).setCell ⟨M, 9, none⟩ (.slice o.wa.ao o.wa.n o.wa.cap)).setCell ⟨M, 10, none⟩ (.bool o.has)).heap[M]? = some (.cells #[.int .u64 r1.1, .int .u64 r2.1, .int .i64 o.kind, .string o.row, .string o.fam, .string o.qual, .int .u64 o.time, .string o.to, .slice o.va.ao o.va.n o.va.cap, .slice o.wa.ao o.wa.n o.wa.cap, .bool o.has, .slice none 0 0] 30) := heap_setCell_same _ M 10 _ _ (.bool o.has) X9
    have X11 : ((((((((((w4.setCell ⟨M, 2, none⟩ (.int .i64 o.kind)).setCell ⟨M, 3, none⟩ (.string o.row)).setCell ⟨M, 4, none⟩ (.string o.fam)).setCell ⟨M, 5, none⟩ (.string o.qual)).setCell ⟨M, 6, none⟩ (.int .u64 o.time)).setCell ⟨M, 7, none⟩ (.string o.to)).setCell ⟨M, 8, none⟩ (.slice o.va.ao o.va.n o.va.cap)).setCell ⟨M, 9, none⟩ (.slice o.wa.ao o.wa.n o.wa.cap)).setCell ⟨M, 10, none⟩ (.bool o.has)).setCell ⟨M, 11, none⟩ (.slice o.so o.sn o.sc)).heap[M]? = some (.cells #[.int .u64 r1.1, .int .u64 r2.1, .int .i64 o.kind, .string o.row, .string o.fam, .string o.qual, .int .u64 o.time, .string o.to, .slice o.va.ao o.va.n o.va.cap, .slice o.wa.ao o.wa.n o.wa.cap, .bool o.has, .slice o.so o.sn o.sc] 30) := heap_setCell_same _ M 11 _ _ (.slice o.so o.sn o.sc) X10
    exact X11
  have R5 : R w5 (N + 1) N T.2.1 T.2.2 := by rw [hw5]; exact (R.own (R.own (R.own (R.own (R.own (R.own (R.own (R.own (R.own (R.own R4 hNM.1 hNM.2) hNM.1 hNM.2) hNM.1 hNM.2) hNM.1 hNM.2) hNM.1 hNM.2) hNM.1 hNM.2) hNM.1 hNM.2) hNM.1 hNM.2) hNM.1 hNM.2) hNM.1 hNM.2)
  have okX : o.ok w5 := ok.kept fun x hx => SB.2 x (FAR.out x (.inl hx)).2
  have OLX : OWL w5 0 o.so o.sn o.sc l := OL.kept fun x hx => SB.2 x (FAR.out x (.inr hx)).2
  have KX := (SB.2 N (by omega)).trans K4
  have BX : Below N w w5 := by rw [hw5]; exact ((((((((((B4.setCell hNM.2 _).setCell hNM.2 _).setCell hNM.2 _).setCell hNM.2 _).setCell hNM.2 _).setCell hNM.2 _).setCell hNM.2 _).setCell hNM.2 _).setCell hNM.2 _).setCell hNM.2 _)
  clear K4 R4 B4 ok OL O4 SB
  go_wp2_with fail
  rw [← hw5]
  clear hw5 c2 f2 c3 f3 c4 f4 c5 f5 c6 f6 c7 f7 c8 f8 c9 f9 c10 f10 c11 f11
  refine (rDone_any w5 (N + 1) N T.2.1 T.2.2 R5).mono ?_
  rintro e w6 ⟨rfl, rfl⟩
  obtain ⟨d, hd⟩ : ∃ d, d = doneS T.2.1 T.2.2 := ⟨_, rfl⟩
  rw [← hd]
  have HD : Hid (d = doneS T.2.1 T.2.2) := hd
  have HRT : Hid (reqR xs 0 = ((r1.1, r2.1, T.1), T.2)) := by
    have e1 := ER1.out
    have e2 := ER2.out
    have e3 := HT.out
    show _ = _
    subst e3 e2 e1
    rfl
  clear hd R5
  by_cases hk : d = 0
  case neg =>
    have HQ : Hid (rdQ xs = .inl d) := by
      show _ = _
      rw [HRD.out]
      unfold rdT
      rw [HRT.out]
      show (if doneS T.2.1 T.2.2 = 0 then _ else _) = _
      rw [← HD.out, if_neg hk]
    have hkc : (d != 0) = true := by simp [hk]
    have hkb : (d == 0) = false := by simp [hk]
    clear hk
    have n0 : w6.cell? ⟨N, 0, none⟩ = some (.int .u64 0) := cell_of_row w6 N 0 _ _ _ KX
    have n1 : w6.cell? ⟨N, 1, none⟩ = some (.int .u64 0) := cell_of_row w6 N 1 _ _ _ KX
    have n2 : w6.cell? ⟨N, 2, none⟩ = some (.int .i64 0) := cell_of_row w6 N 2 _ _ _ KX
    have n3 : w6.cell? ⟨N, 3, none⟩ = some (.string ⟨#[]⟩) := cell_of_row w6 N 3 _ _ _ KX
    have n4 : w6.cell? ⟨N, 4, none⟩ = some (.string ⟨#[]⟩) := cell_of_row w6 N 4 _ _ _ KX
    have n5 : w6.cell? ⟨N, 5, none⟩ = some (.string ⟨#[]⟩) := cell_of_row w6 N 5 _ _ _ KX
    have n6 : w6.cell? ⟨N, 6, none⟩ = some (.int .u64 0) := cell_of_row w6 N 6 _ _ _ KX
    have n7 : w6.cell? ⟨N, 7, none⟩ = some (.string ⟨#[]⟩) := cell_of_row w6 N 7 _ _ _ KX
    have n8 : w6.cell? ⟨N, 8, none⟩ = some (.slice none 0 0) := cell_of_row w6 N 8 _ _ _ KX
    have n9 : w6.cell? ⟨N, 9, none⟩ = some (.slice none 0 0) := cell_of_row w6 N 9 _ _ _ KX
    have n10 : w6.cell? ⟨N, 10, none⟩ = some (.bool false) := cell_of_row w6 N 10 _ _ _ KX
    have n11 : w6.cell? ⟨N, 11, none⟩ = some (.slice none 0 0) := cell_of_row w6 N 11 _ _ _ KX
    have g0 : w6.frozen? ⟨N, 0, none⟩ = false := frozen_of_row w6 N 0 _ _ KX
    have g1 : w6.frozen? ⟨N, 1, none⟩ = false := frozen_of_row w6 N 1 _ _ KX
    have g2 : w6.frozen? ⟨N, 2, none⟩ = false := frozen_of_row w6 N 2 _ _ KX
    have g3 : w6.frozen? ⟨N, 3, none⟩ = false := frozen_of_row w6 N 3 _ _ KX
    have g4 : w6.frozen? ⟨N, 4, none⟩ = false := frozen_of_row w6 N 4 _ _ KX
    have g5 : w6.frozen? ⟨N, 5, none⟩ = false := frozen_of_row w6 N 5 _ _ KX
    have g6 : w6.frozen? ⟨N, 6, none⟩ = false := frozen_of_row w6 N 6 _ _ KX
    have g7 : w6.frozen? ⟨N, 7, none⟩ = false := frozen_of_row w6 N 7 _ _ KX
    have g8 : w6.frozen? ⟨N, 8, none⟩ = false := frozen_of_row w6 N 8 _ _ KX
    have g9 : w6.frozen? ⟨N, 9, none⟩ = false := frozen_of_row w6 N 9 _ _ KX
    have g10 : w6.frozen? ⟨N, 10, none⟩ = false := frozen_of_row w6 N 10 _ _ KX
    have g11 : w6.frozen? ⟨N, 11, none⟩ = false := frozen_of_row w6 N 11 _ _ KX
    have BF : Hid (Below N w ((((((((((((w6.setCell ⟨N, 0, none⟩ (.int .u64 0)).setCell ⟨N, 1, none⟩ (.int .u64 0)).setCell ⟨N, 2, none⟩ (.int .i64 0)).setCell ⟨N, 3, none⟩ (.string ⟨#[]⟩)).setCell ⟨N, 4, none⟩ (.string ⟨#[]⟩)).setCell ⟨N, 5, none⟩ (.string ⟨#[]⟩)).setCell ⟨N, 6, none⟩ (.int .u64 0)).setCell ⟨N, 7, none⟩ (.string ⟨#[]⟩)).setCell ⟨N, 8, none⟩ (.slice none 0 0)).setCell ⟨N, 9, none⟩ (.slice none 0 0)).setCell ⟨N, 10, none⟩ (.bool false)).setCell ⟨N, 11, none⟩ (.slice none 0 0))) := ((((((((((((BX.setCell (Nat.le_refl _) _).setCell (Nat.le_refl _) _).setCell (Nat.le_refl _) _).setCell (Nat.le_refl _) _).setCell (Nat.le_refl _) _).setCell (Nat.le_refl _) _).setCell (Nat.le_refl _) _).setCell (Nat.le_refl _) _).setCell (Nat.le_refl _) _).setCell (Nat.le_refl _) _).setCell (Nat.le_refl _) _).setCell (Nat.le_refl _) _)
    clear KX QX okX OLX BX
    go_wp2
    refine bodyPost_ret (v := .tuple #[.agg #[.int .u64 0, .int .u64 0, .int .i64 0, .string ⟨#[]⟩, .string ⟨#[]⟩, .string ⟨#[]⟩, .int .u64 0, .string ⟨#[]⟩, .slice none 0 0, .slice none 0 0, .bool false, .slice none 0 0], .int .i64 d]) (by simp [results, Try.results19, go_sem, n0, n1, n2, n3, n4, n5, n6, n7, n8, n9, n10, n11]) rfl ?_
    exact ⟨fun k hk => by
      have e := Sum.inl.inj (HQ.out.symm.trans hk)
      subst e
      rfl, fun q hq => absurd (HQ.out.symm.trans hq) (by simp), by rw [← HN.out]; exact BF.out⟩
  subst hk
  have FT : OP.fits (o.s, l.map OA.s) := by
    have g := done_good good_q thr_qR HBY.out (by rw [HRT.out]; exact HD.out.symm)
    rw [HRT.out] at g
    have g2 := g.2.2
    rw [← Hht.out]
    exact g2
  have CR := rreq_any 1 w6 r1.1 r2.1 o (l.map (lift1 0)) Z1 Z2 (read_OW 0 okX OLX HZ.out) (read_light 0 okX OLX HZ.out FT) l (by rw [List.map_map]; exact (List.map_id l).symm)
  clear FT
  obtain ⟨q0, q1, q2, q3, q4, q5, q6, q7, q8, q9, q10, q11⟩ := QX.cs
  have HCR : Hid (Calls _ _ _ _ _) := CR
  clear CR
  go_wp2_with fail
  clear q0 q1 q2 q3 q4 q5 q6 q7 q8 q9 q10 q11
  refine (Calls.mono HCR.out) ?_
  rintro e w7 ⟨⟨bo, bn, bc, rfl, SS⟩, C⟩
  clear SS
  obtain ⟨kk, hkk⟩ : ∃ d, d = kq r1.1 r2.1 (rightO o.s (l.map sn0)) := ⟨_, rfl⟩
  rw [← hkk]
  have HK : Hid (kk = kq r1.1 r2.1 (rightO o.s (l.map sn0))) := hkk
  have BX := BX.trans (C.mono (by have := BX.size; have := HN.out; omega))
  have KX := (C.block N (Array.getElem?_eq_some_iff.1 KX).1).trans KX
  have QX := QX.keep C
  have okX := okX.below C
  have OLX := OLX.below C
  have HRQ : Hid (rdQ xs = if kk = 0 then .inr (r1.1, r2.1, T.1) else .inl kk) := by
    show _ = _
    rw [HRD.out]
    unfold rdT
    rw [HRT.out]
    show (if doneS T.2.1 T.2.2 = 0 then _ else _) = _
    rw [← HD.out, if_pos rfl, Hht.out, kindq_read r1.1 r2.1 HZ.out, ← HK.out]
  clear C hkk HCR HD HK
  have n0 : w7.cell? ⟨N, 0, none⟩ = some (.int .u64 0) := cell_of_row w7 N 0 _ _ _ KX
  have n1 : w7.cell? ⟨N, 1, none⟩ = some (.int .u64 0) := cell_of_row w7 N 1 _ _ _ KX
  have n2 : w7.cell? ⟨N, 2, none⟩ = some (.int .i64 0) := cell_of_row w7 N 2 _ _ _ KX
  have n3 : w7.cell? ⟨N, 3, none⟩ = some (.string ⟨#[]⟩) := cell_of_row w7 N 3 _ _ _ KX
  have n4 : w7.cell? ⟨N, 4, none⟩ = some (.string ⟨#[]⟩) := cell_of_row w7 N 4 _ _ _ KX
  have n5 : w7.cell? ⟨N, 5, none⟩ = some (.string ⟨#[]⟩) := cell_of_row w7 N 5 _ _ _ KX
  have n6 : w7.cell? ⟨N, 6, none⟩ = some (.int .u64 0) := cell_of_row w7 N 6 _ _ _ KX
  have n7 : w7.cell? ⟨N, 7, none⟩ = some (.string ⟨#[]⟩) := cell_of_row w7 N 7 _ _ _ KX
  have n8 : w7.cell? ⟨N, 8, none⟩ = some (.slice none 0 0) := cell_of_row w7 N 8 _ _ _ KX
  have n9 : w7.cell? ⟨N, 9, none⟩ = some (.slice none 0 0) := cell_of_row w7 N 9 _ _ _ KX
  have n10 : w7.cell? ⟨N, 10, none⟩ = some (.bool false) := cell_of_row w7 N 10 _ _ _ KX
  have n11 : w7.cell? ⟨N, 11, none⟩ = some (.slice none 0 0) := cell_of_row w7 N 11 _ _ _ KX
  have g0 : w7.frozen? ⟨N, 0, none⟩ = false := frozen_of_row w7 N 0 _ _ KX
  have g1 : w7.frozen? ⟨N, 1, none⟩ = false := frozen_of_row w7 N 1 _ _ KX
  have g2 : w7.frozen? ⟨N, 2, none⟩ = false := frozen_of_row w7 N 2 _ _ KX
  have g3 : w7.frozen? ⟨N, 3, none⟩ = false := frozen_of_row w7 N 3 _ _ KX
  have g4 : w7.frozen? ⟨N, 4, none⟩ = false := frozen_of_row w7 N 4 _ _ KX
  have g5 : w7.frozen? ⟨N, 5, none⟩ = false := frozen_of_row w7 N 5 _ _ KX
  have g6 : w7.frozen? ⟨N, 6, none⟩ = false := frozen_of_row w7 N 6 _ _ KX
  have g7 : w7.frozen? ⟨N, 7, none⟩ = false := frozen_of_row w7 N 7 _ _ KX
  have g8 : w7.frozen? ⟨N, 8, none⟩ = false := frozen_of_row w7 N 8 _ _ KX
  have g9 : w7.frozen? ⟨N, 9, none⟩ = false := frozen_of_row w7 N 9 _ _ KX
  have g10 : w7.frozen? ⟨N, 10, none⟩ = false := frozen_of_row w7 N 10 _ _ KX
  have g11 : w7.frozen? ⟨N, 11, none⟩ = false := frozen_of_row w7 N 11 _ _ KX
  by_cases hk : kk = 0
  · have HQ : Hid (rdQ xs = .inr (r1.1, r2.1, T.1)) := by show _ = _; rw [HRQ.out, if_pos hk]
    obtain ⟨q0, q1, q2, q3, q4, q5, q6, q7, q8, q9, q10, q11⟩ := QX.cs
    have BF : Below N w ((((((((((((w7.setCell ⟨N, 0, none⟩ (.int .u64 r1.1)).setCell ⟨N, 1, none⟩ (.int .u64 r2.1)).setCell ⟨N, 2, none⟩ (.int .i64 o.kind)).setCell ⟨N, 3, none⟩ (.string o.row)).setCell ⟨N, 4, none⟩ (.string o.fam)).setCell ⟨N, 5, none⟩ (.string o.qual)).setCell ⟨N, 6, none⟩ (.int .u64 o.time)).setCell ⟨N, 7, none⟩ (.string o.to)).setCell ⟨N, 8, none⟩ (.slice o.va.ao o.va.n o.va.cap)).setCell ⟨N, 9, none⟩ (.slice o.wa.ao o.wa.n o.wa.cap)).setCell ⟨N, 10, none⟩ (.bool o.has)).setCell ⟨N, 11, none⟩ (.slice o.so o.sn o.sc)) := ((((((((((((BX.setCell (Nat.le_refl _) _).setCell (Nat.le_refl _) _).setCell (Nat.le_refl _) _).setCell (Nat.le_refl _) _).setCell (Nat.le_refl _) _).setCell (Nat.le_refl _) _).setCell (Nat.le_refl _) _).setCell (Nat.le_refl _) _).setCell (Nat.le_refl _) _).setCell (Nat.le_refl _) _).setCell (Nat.le_refl _) _).setCell (Nat.le_refl _) _)
    have SB : (((((((((((((w7.setCell ⟨N, 0, none⟩ (.int .u64 r1.1)).setCell ⟨N, 1, none⟩ (.int .u64 r2.1)).setCell ⟨N, 2, none⟩ (.int .i64 o.kind)).setCell ⟨N, 3, none⟩ (.string o.row)).setCell ⟨N, 4, none⟩ (.string o.fam)).setCell ⟨N, 5, none⟩ (.string o.qual)).setCell ⟨N, 6, none⟩ (.int .u64 o.time)).setCell ⟨N, 7, none⟩ (.string o.to)).setCell ⟨N, 8, none⟩ (.slice o.va.ao o.va.n o.va.cap)).setCell ⟨N, 9, none⟩ (.slice o.wa.ao o.wa.n o.wa.cap)).setCell ⟨N, 10, none⟩ (.bool o.has)).setCell ⟨N, 11, none⟩ (.slice o.so o.sn o.sc))).heap.size = w7.heap.size ∧ ∀ j, j ≠ N → (((((((((((((w7.setCell ⟨N, 0, none⟩ (.int .u64 r1.1)).setCell ⟨N, 1, none⟩ (.int .u64 r2.1)).setCell ⟨N, 2, none⟩ (.int .i64 o.kind)).setCell ⟨N, 3, none⟩ (.string o.row)).setCell ⟨N, 4, none⟩ (.string o.fam)).setCell ⟨N, 5, none⟩ (.string o.qual)).setCell ⟨N, 6, none⟩ (.int .u64 o.time)).setCell ⟨N, 7, none⟩ (.string o.to)).setCell ⟨N, 8, none⟩ (.slice o.va.ao o.va.n o.va.cap)).setCell ⟨N, 9, none⟩ (.slice o.wa.ao o.wa.n o.wa.cap)).setCell ⟨N, 10, none⟩ (.bool o.has)).setCell ⟨N, 11, none⟩ (.slice o.so o.sn o.sc))).heap[j]? = w7.heap[j]? := (SameBut.trans (SameBut.trans (SameBut.trans (SameBut.trans (SameBut.trans (SameBut.trans (SameBut.trans (SameBut.trans (SameBut.trans (SameBut.trans (SameBut.trans (SameBut.trans ⟨rfl, fun _ _ => rfl⟩ (same_set _ _ _ _)) (same_set _ _ _ _)) (same_set _ _ _ _)) (same_set _ _ _ _)) (same_set _ _ _ _)) (same_set _ _ _ _)) (same_set _ _ _ _)) (same_set _ _ _ _)) (same_set _ _ _ _)) (same_set _ _ _ _)) (same_set _ _ _ _)) (same_set _ _ _ _))
    have GOOD : Hid (o.ok ((((((((((((w7.setCell ⟨N, 0, none⟩ (.int .u64 r1.1)).setCell ⟨N, 1, none⟩ (.int .u64 r2.1)).setCell ⟨N, 2, none⟩ (.int .i64 o.kind)).setCell ⟨N, 3, none⟩ (.string o.row)).setCell ⟨N, 4, none⟩ (.string o.fam)).setCell ⟨N, 5, none⟩ (.string o.qual)).setCell ⟨N, 6, none⟩ (.int .u64 o.time)).setCell ⟨N, 7, none⟩ (.string o.to)).setCell ⟨N, 8, none⟩ (.slice o.va.ao o.va.n o.va.cap)).setCell ⟨N, 9, none⟩ (.slice o.wa.ao o.wa.n o.wa.cap)).setCell ⟨N, 10, none⟩ (.bool o.has)).setCell ⟨N, 11, none⟩ (.slice o.so o.sn o.sc)) ∧ OWL ((((((((((((w7.setCell ⟨N, 0, none⟩ (.int .u64 r1.1)).setCell ⟨N, 1, none⟩ (.int .u64 r2.1)).setCell ⟨N, 2, none⟩ (.int .i64 o.kind)).setCell ⟨N, 3, none⟩ (.string o.row)).setCell ⟨N, 4, none⟩ (.string o.fam)).setCell ⟨N, 5, none⟩ (.string o.qual)).setCell ⟨N, 6, none⟩ (.int .u64 o.time)).setCell ⟨N, 7, none⟩ (.string o.to)).setCell ⟨N, 8, none⟩ (.slice o.va.ao o.va.n o.va.cap)).setCell ⟨N, 9, none⟩ (.slice o.wa.ao o.wa.n o.wa.cap)).setCell ⟨N, 10, none⟩ (.bool o.has)).setCell ⟨N, 11, none⟩ (.slice o.so o.sn o.sc)) 0 o.so o.sn o.sc l ∧ Below N w ((((((((((((w7.setCell ⟨N, 0, none⟩ (.int .u64 r1.1)).setCell ⟨N, 1, none⟩ (.int .u64 r2.1)).setCell ⟨N, 2, none⟩ (.int .i64 o.kind)).setCell ⟨N, 3, none⟩ (.string o.row)).setCell ⟨N, 4, none⟩ (.string o.fam)).setCell ⟨N, 5, none⟩ (.string o.qual)).setCell ⟨N, 6, none⟩ (.int .u64 o.time)).setCell ⟨N, 7, none⟩ (.string o.to)).setCell ⟨N, 8, none⟩ (.slice o.va.ao o.va.n o.va.cap)).setCell ⟨N, 9, none⟩ (.slice o.wa.ao o.wa.n o.wa.cap)).setCell ⟨N, 10, none⟩ (.bool o.has)).setCell ⟨N, 11, none⟩ (.slice o.so o.sn o.sc))) := ⟨okX.kept fun x hx => SB.2 x (FAR.out x (.inl hx)).1, OLX.kept fun x hx => SB.2 x (FAR.out x (.inr hx)).1, BF⟩
    clear SB BF okX OLX BX
    rw [hk]
    clear hk HRQ KX QX
    go_wp2
    refine bodyPost_ret (v := .tuple #[.agg #[.int .u64 r1.1, .int .u64 r2.1, .int .i64 o.kind, .string o.row, .string o.fam, .string o.qual, .int .u64 o.time, .string o.to, .slice o.va.ao o.va.n o.va.cap, .slice o.wa.ao o.wa.n o.wa.cap, .bool o.has, .slice o.so o.sn o.sc], .int .i64 0]) (by simp [results, Try.results19, go_sem, n0, n1, n2, n3, n4, n5, n6, n7, n8, n9, n10, n11]) rfl ?_
    exact ⟨fun k hk => absurd (HQ.out.symm.trans hk) (by simp), fun q hq => by
      have e := Sum.inr.inj (HQ.out.symm.trans hq)
      subst e
      exact ⟨o, l, rfl, Z1, Z2, GOOD.out.1, GOOD.out.2.1, Hht.out, HZ.out⟩, by rw [← HN.out]; exact GOOD.out.2.2⟩
  · have HQ : Hid (rdQ xs = .inl kk) := by show _ = _; rw [HRQ.out, if_neg hk]
    have hkb : (kk == 0) = false := by simp [hk]
    have hkc : (kk != 0) = true := by simp [hk]
    clear hk HRQ
    have BF : Hid (Below N w ((((((((((((w7.setCell ⟨N, 0, none⟩ (.int .u64 0)).setCell ⟨N, 1, none⟩ (.int .u64 0)).setCell ⟨N, 2, none⟩ (.int .i64 0)).setCell ⟨N, 3, none⟩ (.string ⟨#[]⟩)).setCell ⟨N, 4, none⟩ (.string ⟨#[]⟩)).setCell ⟨N, 5, none⟩ (.string ⟨#[]⟩)).setCell ⟨N, 6, none⟩ (.int .u64 0)).setCell ⟨N, 7, none⟩ (.string ⟨#[]⟩)).setCell ⟨N, 8, none⟩ (.slice none 0 0)).setCell ⟨N, 9, none⟩ (.slice none 0 0)).setCell ⟨N, 10, none⟩ (.bool false)).setCell ⟨N, 11, none⟩ (.slice none 0 0))) := ((((((((((((BX.setCell (Nat.le_refl _) _).setCell (Nat.le_refl _) _).setCell (Nat.le_refl _) _).setCell (Nat.le_refl _) _).setCell (Nat.le_refl _) _).setCell (Nat.le_refl _) _).setCell (Nat.le_refl _) _).setCell (Nat.le_refl _) _).setCell (Nat.le_refl _) _).setCell (Nat.le_refl _) _).setCell (Nat.le_refl _) _).setCell (Nat.le_refl _) _)
    clear KX QX okX OLX BX
    go_wp2
    refine bodyPost_ret (v := .tuple #[.agg #[.int .u64 0, .int .u64 0, .int .i64 0, .string ⟨#[]⟩, .string ⟨#[]⟩, .string ⟨#[]⟩, .int .u64 0, .string ⟨#[]⟩, .slice none 0 0, .slice none 0 0, .bool false, .slice none 0 0], .int .i64 kk]) (by simp [results, Try.results19, go_sem, n0, n1, n2, n3, n4, n5, n6, n7, n8, n9, n10, n11]) rfl ?_
    exact ⟨fun k hk => by
      have e := Sum.inl.inj (HQ.out.symm.trans hk)
      subst e
      rfl, fun q hq => absurd (HQ.out.symm.trans hq) (by simp), by rw [← HN.out]; exact BF.out⟩
end Go.Proofs.Ytbfcilfdeemnpaa

/-
  Texts in one: MgTake, MgTakeP, MgZero.
-/
import Derived.Test.YtnbejckdhdbamaaGreatMessageRightQ33
import Derived.Test.YtnbejckdhdbamaaGreatMessageRightQ34
import Derived.Test.YtnbejckdhdbamaaGreatMessageRightQ36
import Derived.Test.YtnbejckdhdbamaaGreatMessageRightQ10
namespace Go.Proofs.YtnbejckdhdbamaaGreat
open Go.RowKit
theorem bytes_left (xs : List Int) (k : Int) : bytesS xs k (if k = 0 then (xs.length : Int) else 0) = bytesS xs k xs.length := by
 by_cases h : k = 0
 ·rw [if_pos h]
 ·rw [bytesS_stuck h, bytesS_stuck h]
theorem R.lim {w : World} {p L : Nat} {xs : List Int} {k : Int} (h : R w p L xs k) : xs.length ≤ 1000000 := by
 obtain ⟨ao, n, cap, r⟩ := h
 have := r.sl.len
 have := r.sm
 omega
theorem RdqPostF.told {w w' : World} {t : Sum Int QV} {e : Ending} (h : RdqPostF w t e w') : ∃ q : QM, e = .returned (.tuple #[.agg #[.int .u64 q.cl, .int .u64 q.st, .int .i64 q.o.kind, .string q.o.row, .string q.o.fam, .string q.o.qual, .int .u64 q.o.time, .string q.o.to, .slice q.o.va.ao q.o.va.n q.o.va.cap, .slice q.o.wa.ao q.o.wa.n q.o.wa.cap, .bool q.o.has, .slice q.o.so q.o.sn q.o.sc], .int .i64 (kindN t)]) ∧ q.ok w' ∧ q.v = valN zQV t ∧ (∀ y ∈ q.l, y.sn = 0) ∧ ∀ z, q.blk z → w.heap.size ≤ z := by
 match e1 : t with
 | .inl k =>
  refine ⟨⟨0, 0, zeroOA, []⟩, h.bad k rfl, ⟨by decide, by decide, zeroOA_ok w', OWL.none (zeroOA_ok w') rfl⟩, rfl, (fun _ h => by cases h), fun z hz => ?_⟩
  rcases hz with (⟨a, ha, _⟩ | ⟨a, ha, _⟩) | ⟨a, ha, _⟩ | ⟨y, hy, _⟩
  ·cases ha
  ·cases ha
  ·cases ha
  ·cases hy
 | .inr q =>
  obtain ⟨o, l, h1, h2, h3, h4, h5, h6, h7, h8⟩ := h.good q rfl
  refine ⟨⟨q.1, q.2.1, o, l⟩, h1, ⟨h2, h3, h4, h5⟩, ?_, h7, h8⟩
  show (q.1, q.2.1, (o.s, l.map OA.s)) = q
  rw [← h6]
theorem RdrPostF.told {w w' : World} {t : Sum Int RV} {x : Ending} (h : RdrPostF w t x w') (ht : ∀ r, t = .inr r → rightR r = true) : ∃ (e : Int) (co : Option Addr) (cn cc : Nat) (cs : List CA) (m : Bool), x = .returned (.tuple #[.agg #[.int .i64 e, .slice co cn cc, .bool m], .int .i64 (kindN t)]) ∧ CL w' co cn cc cs ∧ resR e cs m = valN zR0 t ∧ (0 ≤ e ∧ e ≤ 18) ∧ ∀ z, (sblk co cn z ∨ ∃ c ∈ cs, c.va.blk z) → w.heap.size ≤ z := by
 match e1 : t with
 | .inl k =>
  refine ⟨0, none, 0, 0, [], false, h.bad k rfl, CL.nothing w', rfl, by decide, fun z hz => ?_⟩
  rcases hz with ⟨a, ha, _⟩ | ⟨y, hy, _⟩
  ·cases ha
  ·cases hy
 | .inr r =>
  obtain ⟨c, ao, n, cap, l, m, h1, h2, h3, h4⟩ := h.good r rfl
  have hr := ht r rfl
  refine ⟨c, ao, n, cap, l, m, h1, h2, h3.symm, ?_, h4⟩
  rw [h3] at hr
  unfold rightR resR at hr
  have := of_decide_eq_true (Bool.and_eq_true_iff.1 hr).1
  exact ⟨this.1, this.2.1⟩
theorem rdR_right {bs : List Int} {r : RV} (h : rdR bs = .inr r) : rightR r = true := by
 have h1 : rdT resTh kindR bs = .inr r := (rd_thr thr_r kindR bs).symm.trans h
 unfold rdT at h1
 by_cases c : doneS (resTh bs 0).2.1 (resTh bs 0).2.2 = 0
 ·rw [if_pos c] at h1
  by_cases d : kindR (resTh bs 0).1 = 0
  ·rw [if_pos d] at h1
   have e := Sum.inr.inj h1
   rw [e] at d
   unfold kindR at d
   by_cases q : rightR r = true
   ·exact q
   ·rw [if_neg q] at d; cases d
  ·rw [if_neg d] at h1; cases h1
 ·rw [if_neg c] at h1; cases h1
def TkqPost (w : World) (p : Nat) (xs : List Int) (k : Int) (e : Ending) (w' : World) : Prop :=
 ∃ q : QM, e = .returned (.agg #[.int .u64 q.cl, .int .u64 q.st, .int .i64 q.o.kind, .string q.o.row, .string q.o.fam, .string q.o.qual, .int .u64 q.o.time, .string q.o.to, .slice q.o.va.ao q.o.va.n q.o.va.cap, .slice q.o.wa.ao q.o.wa.n q.o.wa.cap, .bool q.o.has, .slice q.o.so q.o.sn q.o.sc]) ∧ q.ok w' ∧ q.v = (nestT zQV rdQ xs k).1 ∧ (∀ y ∈ q.l, y.sn = 0) ∧ R w' p p (nestT zQV rdQ xs k).2.1 (nestT zQV rdQ xs k).2.2 ∧ w.grownBy w' (some p) ∧ ∀ z, q.blk z → w.heap.size ≤ z
set_option maxRecDepth 100000 in
set_option maxHeartbeats 8000000 in
theorem takeRequest_any (w : World) (p : Nat) (xs : List Int) (k : Int) (h : R w p p xs k) :
  Calls Tryz.prog 40 #[.pointer (some ⟨p, 0, none⟩)] w (TkqPost w p xs k) := by
 have hp := h.plt.1
 have hlim := h.lim
 have B1 : Below w.heap.size w (w.alloc (.cells #[.int .u64 0, .int .u64 0, .int .i64 0, .string ⟨#[]⟩, .string ⟨#[]⟩, .string ⟨#[]⟩, .int .u64 0, .string ⟨#[]⟩, .slice none 0 0, .slice none 0 0, .bool false, .slice none 0 0] 60)) := (Below.refl _ w).alloc (Nat.le_refl _) _
 have K1 : (w.alloc (.cells #[.int .u64 0, .int .u64 0, .int .i64 0, .string ⟨#[]⟩, .string ⟨#[]⟩, .string ⟨#[]⟩, .int .u64 0, .string ⟨#[]⟩, .slice none 0 0, .slice none 0 0, .bool false, .slice none 0 0] 60)).heap[w.heap.size]? = some (.cells #[.int .u64 0, .int .u64 0, .int .i64 0, .string ⟨#[]⟩, .string ⟨#[]⟩, .string ⟨#[]⟩, .int .u64 0, .string ⟨#[]⟩, .slice none 0 0, .slice none 0 0, .bool false, .slice none 0 0] 60) := heap_alloc_new w _
 have R1 := h.below B1
 clear h
 go_enter Tryz.func40, Tryz.ntmps40
 go_wp2_with fail
 obtain ⟨w1, hw1⟩ : ∃ W, W = (w.alloc (.cells #[.int .u64 0, .int .u64 0, .int .i64 0, .string ⟨#[]⟩, .string ⟨#[]⟩, .string ⟨#[]⟩, .int .u64 0, .string ⟨#[]⟩, .slice none 0 0, .slice none 0 0, .bool false, .slice none 0 0] 60)) := ⟨_, rfl⟩
 obtain ⟨N, hN⟩ : ∃ N, N = w.heap.size := ⟨_, rfl⟩
 rw [← hw1] at B1 K1 R1 ⊢
 rw [← hN] at B1 K1 hp ⊢
 have HN : Hid (N = w.heap.size) := hN
 have hN1 : N < w1.heap.size := (Array.getElem?_eq_some_iff.1 K1).1
 clear hw1 hN
 refine (left_any w1 p p xs k R1).mono ?_
 rintro e w1' ⟨rfl, hw⟩
 obtain rfl := hw.symm
 clear hw
 have hmost : (if k = 0 then (xs.length : Int) else 0) ≤ 9223372036854775807 := by split <;> omega
 have CB := bytes_any w1 p p xs k _ hmost R1
 rw [bytes_left] at CB
 generalize (if k = 0 then (xs.length : Int) else 0) = most at CB hmost ⊢
 clear hmost
 go_wp2_with fail
 refine CB.mono ?_
 rintro e w2 ⟨bo, bn, bc, rfl, S2, F2, R2, G2⟩
 have HV : Hid (nestT zQV rdQ xs k = (valN zQV (rdQ (bytesS xs k xs.length).1), flS (bytesS xs k xs.length).2.1 (bytesS xs k xs.length).2.2 (kindN (rdQ (bytesS xs k xs.length).1)))) := rfl
 have hbl : (bytesS xs k xs.length).1.length ≤ xs.length := bytesS_le xs k xs.length
 generalize bytesS xs k xs.length = b at HV S2 R2 hbl
 have K2 := (G2.block N hN1 (by simp; omega)).trans K1
 have G2 : w.grownBy w2 (some p) := gtrans (gbelow p (by rw [← HN.out]; exact B1)) G2
 have hN2 : N < w2.heap.size := (Array.getElem?_eq_some_iff.1 K2).1
 have hl2 := S2.len
 clear CB F2 K1 B1 R1 hN1
 have CQ := prdq_far w2 bo bn bc b.1 S2 (by omega)
 go_wp2_with fail
 refine CQ.mono ?_
 intro e w3 PQ
 have C3 := PQ.bel
 obtain ⟨q, rfl, qok, qv, qfl, qfar⟩ := PQ.told
 clear CQ PQ S2
 have K3 := (C3.block N hN2).trans K2
 have R3 := R2.below C3
 have G3 := gtrans G2 (gbelow p C3)
 have HQF : Hid (∀ z, q.blk z → N < z) := fun z hz => Nat.lt_of_lt_of_le hN2 (qfar z hz)
 have HQL : Hid (∀ y ∈ q.l, y.sn = 0) := qfl
 have HQV : Hid (q.v = valN zQV (rdQ b.1)) := qv
 generalize kindN (rdQ b.1) = kk at HV ⊢
 clear qfar qfl qv C3 K2 R2 G2
 have C4 : Below w3.heap.size w3 (w3.alloc (.cells #[.int .u64 q.cl, .int .u64 q.st, .int .i64 q.o.kind, .string q.o.row, .string q.o.fam, .string q.o.qual, .int .u64 q.o.time, .string q.o.to, .slice q.o.va.ao q.o.va.n q.o.va.cap, .slice q.o.wa.ao q.o.wa.n q.o.wa.cap, .bool q.o.has, .slice q.o.so q.o.sn q.o.sc] 60)) := (Below.refl _ _).alloc (Nat.le_refl _) _
 have KM : (w3.alloc (.cells #[.int .u64 q.cl, .int .u64 q.st, .int .i64 q.o.kind, .string q.o.row, .string q.o.fam, .string q.o.qual, .int .u64 q.o.time, .string q.o.to, .slice q.o.va.ao q.o.va.n q.o.va.cap, .slice q.o.wa.ao q.o.wa.n q.o.wa.cap, .bool q.o.has, .slice q.o.so q.o.sn q.o.sc] 60)).heap[w3.heap.size]? = some (.cells #[.int .u64 q.cl, .int .u64 q.st, .int .i64 q.o.kind, .string q.o.row, .string q.o.fam, .string q.o.qual, .int .u64 q.o.time, .string q.o.to, .slice q.o.va.ao q.o.va.n q.o.va.cap, .slice q.o.wa.ao q.o.wa.n q.o.wa.cap, .bool q.o.has, .slice q.o.so q.o.sn q.o.sc] 60) := heap_alloc_new _ _
 have hN3 : N < w3.heap.size := (Array.getElem?_eq_some_iff.1 K3).1
 have K4 := (C4.block N hN3).trans K3
 have R4 := R3.below C4
 have q4 : q.ok (w3.alloc (.cells #[.int .u64 q.cl, .int .u64 q.st, .int .i64 q.o.kind, .string q.o.row, .string q.o.fam, .string q.o.qual, .int .u64 q.o.time, .string q.o.to, .slice q.o.va.ao q.o.va.n q.o.va.cap, .slice q.o.wa.ao q.o.wa.n q.o.wa.cap, .bool q.o.has, .slice q.o.so q.o.sn q.o.sc] 60)) := elQ_fine.below qok C4
 have G4 := gtrans G3 (gbelow p C4)
 go_wp2_with fail
 obtain ⟨w4, hw4⟩ : ∃ W, W = (w3.alloc (.cells #[.int .u64 q.cl, .int .u64 q.st, .int .i64 q.o.kind, .string q.o.row, .string q.o.fam, .string q.o.qual, .int .u64 q.o.time, .string q.o.to, .slice q.o.va.ao q.o.va.n q.o.va.cap, .slice q.o.wa.ao q.o.wa.n q.o.wa.cap, .bool q.o.has, .slice q.o.so q.o.sn q.o.sc] 60)) := ⟨_, rfl⟩
 obtain ⟨M, hM⟩ : ∃ M, M = w3.heap.size := ⟨_, rfl⟩
 rw [← hw4] at KM K4 R4 q4 G4 ⊢
 rw [← hM] at KM ⊢
 have hNM : N < M := by omega
 clear hw4 hM C4 K3 R3 G3 qok hN3 hN2
 refine (fail_gm w4 p p b.2.1 b.2.2 kk R4).mono ?_
 rintro e w5 ⟨rfl, R5, G5⟩
 have hN4 : N < w4.heap.size := (Array.getElem?_eq_some_iff.1 K4).1
 have hM4 : M < w4.heap.size := (Array.getElem?_eq_some_iff.1 KM).1
 have K5 := (G5.block N hN4 (by simp; omega)).trans K4
 have M5 := (G5.block M hM4 (by simp; omega)).trans KM
 have q5 : q.ok w5 := elQ_fine.kept q w4 w5 q4 fun z hz => G5.block z (elQ_fine.lt q w4 z q4 hz) (by have := HQF.out z hz; simp; omega)
 have G6 := gtrans G4 G5
 clear K4 KM q4 G4 G5 R4 hN4 hM4
 have n0 : w5.cell? ⟨N, 0, none⟩ = some (.int .u64 0) := cell_of_row w5 N 0 _ _ _ K5
 have n1 : w5.cell? ⟨N, 1, none⟩ = some (.int .u64 0) := cell_of_row w5 N 1 _ _ _ K5
 have n2 : w5.cell? ⟨N, 2, none⟩ = some (.int .i64 0) := cell_of_row w5 N 2 _ _ _ K5
 have n3 : w5.cell? ⟨N, 3, none⟩ = some (.string ⟨#[]⟩) := cell_of_row w5 N 3 _ _ _ K5
 have n4 : w5.cell? ⟨N, 4, none⟩ = some (.string ⟨#[]⟩) := cell_of_row w5 N 4 _ _ _ K5
 have n5 : w5.cell? ⟨N, 5, none⟩ = some (.string ⟨#[]⟩) := cell_of_row w5 N 5 _ _ _ K5
 have n6 : w5.cell? ⟨N, 6, none⟩ = some (.int .u64 0) := cell_of_row w5 N 6 _ _ _ K5
 have n7 : w5.cell? ⟨N, 7, none⟩ = some (.string ⟨#[]⟩) := cell_of_row w5 N 7 _ _ _ K5
 have n8 : w5.cell? ⟨N, 8, none⟩ = some (.slice none 0 0) := cell_of_row w5 N 8 _ _ _ K5
 have n9 : w5.cell? ⟨N, 9, none⟩ = some (.slice none 0 0) := cell_of_row w5 N 9 _ _ _ K5
 have n10 : w5.cell? ⟨N, 10, none⟩ = some (.bool false) := cell_of_row w5 N 10 _ _ _ K5
 have n11 : w5.cell? ⟨N, 11, none⟩ = some (.slice none 0 0) := cell_of_row w5 N 11 _ _ _ K5
 have g0 : w5.frozen? ⟨N, 0, none⟩ = false := frozen_of_row w5 N 0 _ _ K5
 have g1 : w5.frozen? ⟨N, 1, none⟩ = false := frozen_of_row w5 N 1 _ _ K5
 have g2 : w5.frozen? ⟨N, 2, none⟩ = false := frozen_of_row w5 N 2 _ _ K5
 have g3 : w5.frozen? ⟨N, 3, none⟩ = false := frozen_of_row w5 N 3 _ _ K5
 have g4 : w5.frozen? ⟨N, 4, none⟩ = false := frozen_of_row w5 N 4 _ _ K5
 have g5 : w5.frozen? ⟨N, 5, none⟩ = false := frozen_of_row w5 N 5 _ _ K5
 have g6 : w5.frozen? ⟨N, 6, none⟩ = false := frozen_of_row w5 N 6 _ _ K5
 have g7 : w5.frozen? ⟨N, 7, none⟩ = false := frozen_of_row w5 N 7 _ _ K5
 have g8 : w5.frozen? ⟨N, 8, none⟩ = false := frozen_of_row w5 N 8 _ _ K5
 have g9 : w5.frozen? ⟨N, 9, none⟩ = false := frozen_of_row w5 N 9 _ _ K5
 have g10 : w5.frozen? ⟨N, 10, none⟩ = false := frozen_of_row w5 N 10 _ _ K5
 have g11 : w5.frozen? ⟨N, 11, none⟩ = false := frozen_of_row w5 N 11 _ _ K5
 have m0 : w5.cell? ⟨M, 0, none⟩ = some (.int .u64 q.cl) := cell_of_row w5 M 0 _ _ _ M5
 have m1 : w5.cell? ⟨M, 1, none⟩ = some (.int .u64 q.st) := cell_of_row w5 M 1 _ _ _ M5
 have m2 : w5.cell? ⟨M, 2, none⟩ = some (.int .i64 q.o.kind) := cell_of_row w5 M 2 _ _ _ M5
 have m3 : w5.cell? ⟨M, 3, none⟩ = some (.string q.o.row) := cell_of_row w5 M 3 _ _ _ M5
 have m4 : w5.cell? ⟨M, 4, none⟩ = some (.string q.o.fam) := cell_of_row w5 M 4 _ _ _ M5
 have m5 : w5.cell? ⟨M, 5, none⟩ = some (.string q.o.qual) := cell_of_row w5 M 5 _ _ _ M5
 have m6 : w5.cell? ⟨M, 6, none⟩ = some (.int .u64 q.o.time) := cell_of_row w5 M 6 _ _ _ M5
 have m7 : w5.cell? ⟨M, 7, none⟩ = some (.string q.o.to) := cell_of_row w5 M 7 _ _ _ M5
 have m8 : w5.cell? ⟨M, 8, none⟩ = some (.slice q.o.va.ao q.o.va.n q.o.va.cap) := cell_of_row w5 M 8 _ _ _ M5
 have m9 : w5.cell? ⟨M, 9, none⟩ = some (.slice q.o.wa.ao q.o.wa.n q.o.wa.cap) := cell_of_row w5 M 9 _ _ _ M5
 have m10 : w5.cell? ⟨M, 10, none⟩ = some (.bool q.o.has) := cell_of_row w5 M 10 _ _ _ M5
 have m11 : w5.cell? ⟨M, 11, none⟩ = some (.slice q.o.so q.o.sn q.o.sc) := cell_of_row w5 M 11 _ _ _ M5
 have SB : (((((((((((((w5.setCell ⟨N, 0, none⟩ (.int .u64 q.cl)).setCell ⟨N, 1, none⟩ (.int .u64 q.st)).setCell ⟨N, 2, none⟩ (.int .i64 q.o.kind)).setCell ⟨N, 3, none⟩ (.string q.o.row)).setCell ⟨N, 4, none⟩ (.string q.o.fam)).setCell ⟨N, 5, none⟩ (.string q.o.qual)).setCell ⟨N, 6, none⟩ (.int .u64 q.o.time)).setCell ⟨N, 7, none⟩ (.string q.o.to)).setCell ⟨N, 8, none⟩ (.slice q.o.va.ao q.o.va.n q.o.va.cap)).setCell ⟨N, 9, none⟩ (.slice q.o.wa.ao q.o.wa.n q.o.wa.cap)).setCell ⟨N, 10, none⟩ (.bool q.o.has)).setCell ⟨N, 11, none⟩ (.slice q.o.so q.o.sn q.o.sc))).heap.size = w5.heap.size ∧ ∀ j, j ≠ N → (((((((((((((w5.setCell ⟨N, 0, none⟩ (.int .u64 q.cl)).setCell ⟨N, 1, none⟩ (.int .u64 q.st)).setCell ⟨N, 2, none⟩ (.int .i64 q.o.kind)).setCell ⟨N, 3, none⟩ (.string q.o.row)).setCell ⟨N, 4, none⟩ (.string q.o.fam)).setCell ⟨N, 5, none⟩ (.string q.o.qual)).setCell ⟨N, 6, none⟩ (.int .u64 q.o.time)).setCell ⟨N, 7, none⟩ (.string q.o.to)).setCell ⟨N, 8, none⟩ (.slice q.o.va.ao q.o.va.n q.o.va.cap)).setCell ⟨N, 9, none⟩ (.slice q.o.wa.ao q.o.wa.n q.o.wa.cap)).setCell ⟨N, 10, none⟩ (.bool q.o.has)).setCell ⟨N, 11, none⟩ (.slice q.o.so q.o.sn q.o.sc))).heap[j]? = w5.heap[j]? := SameBut.trans (SameBut.trans (SameBut.trans (SameBut.trans (SameBut.trans (SameBut.trans (SameBut.trans (SameBut.trans (SameBut.trans (SameBut.trans (SameBut.trans (same_set _ _ _ _) (same_set _ _ _ _)) (same_set _ _ _ _)) (same_set _ _ _ _)) (same_set _ _ _ _)) (same_set _ _ _ _)) (same_set _ _ _ _)) (same_set _ _ _ _)) (same_set _ _ _ _)) (same_set _ _ _ _)) (same_set _ _ _ _)) (same_set _ _ _ _)
 have BF : Below N w5 (((((((((((((w5.setCell ⟨N, 0, none⟩ (.int .u64 q.cl)).setCell ⟨N, 1, none⟩ (.int .u64 q.st)).setCell ⟨N, 2, none⟩ (.int .i64 q.o.kind)).setCell ⟨N, 3, none⟩ (.string q.o.row)).setCell ⟨N, 4, none⟩ (.string q.o.fam)).setCell ⟨N, 5, none⟩ (.string q.o.qual)).setCell ⟨N, 6, none⟩ (.int .u64 q.o.time)).setCell ⟨N, 7, none⟩ (.string q.o.to)).setCell ⟨N, 8, none⟩ (.slice q.o.va.ao q.o.va.n q.o.va.cap)).setCell ⟨N, 9, none⟩ (.slice q.o.wa.ao q.o.wa.n q.o.wa.cap)).setCell ⟨N, 10, none⟩ (.bool q.o.has)).setCell ⟨N, 11, none⟩ (.slice q.o.so q.o.sn q.o.sc))) := ((((((((((((Below.refl _ _).setCell (p := ⟨N, 0, none⟩) (Nat.le_refl _) _).setCell (p := ⟨N, 1, none⟩) (Nat.le_refl _) _).setCell (p := ⟨N, 2, none⟩) (Nat.le_refl _) _).setCell (p := ⟨N, 3, none⟩) (Nat.le_refl _) _).setCell (p := ⟨N, 4, none⟩) (Nat.le_refl _) _).setCell (p := ⟨N, 5, none⟩) (Nat.le_refl _) _).setCell (p := ⟨N, 6, none⟩) (Nat.le_refl _) _).setCell (p := ⟨N, 7, none⟩) (Nat.le_refl _) _).setCell (p := ⟨N, 8, none⟩) (Nat.le_refl _) _).setCell (p := ⟨N, 9, none⟩) (Nat.le_refl _) _).setCell (p := ⟨N, 10, none⟩) (Nat.le_refl _) _).setCell (p := ⟨N, 11, none⟩) (Nat.le_refl _) _
 have qF : Hid (q.ok (((((((((((((w5.setCell ⟨N, 0, none⟩ (.int .u64 q.cl)).setCell ⟨N, 1, none⟩ (.int .u64 q.st)).setCell ⟨N, 2, none⟩ (.int .i64 q.o.kind)).setCell ⟨N, 3, none⟩ (.string q.o.row)).setCell ⟨N, 4, none⟩ (.string q.o.fam)).setCell ⟨N, 5, none⟩ (.string q.o.qual)).setCell ⟨N, 6, none⟩ (.int .u64 q.o.time)).setCell ⟨N, 7, none⟩ (.string q.o.to)).setCell ⟨N, 8, none⟩ (.slice q.o.va.ao q.o.va.n q.o.va.cap)).setCell ⟨N, 9, none⟩ (.slice q.o.wa.ao q.o.wa.n q.o.wa.cap)).setCell ⟨N, 10, none⟩ (.bool q.o.has)).setCell ⟨N, 11, none⟩ (.slice q.o.so q.o.sn q.o.sc)))) := elQ_fine.kept q w5 _ q5 fun z hz => SB.2 z (by have := HQF.out z hz; omega)
 have RF : Hid (R (((((((((((((w5.setCell ⟨N, 0, none⟩ (.int .u64 q.cl)).setCell ⟨N, 1, none⟩ (.int .u64 q.st)).setCell ⟨N, 2, none⟩ (.int .i64 q.o.kind)).setCell ⟨N, 3, none⟩ (.string q.o.row)).setCell ⟨N, 4, none⟩ (.string q.o.fam)).setCell ⟨N, 5, none⟩ (.string q.o.qual)).setCell ⟨N, 6, none⟩ (.int .u64 q.o.time)).setCell ⟨N, 7, none⟩ (.string q.o.to)).setCell ⟨N, 8, none⟩ (.slice q.o.va.ao q.o.va.n q.o.va.cap)).setCell ⟨N, 9, none⟩ (.slice q.o.wa.ao q.o.wa.n q.o.wa.cap)).setCell ⟨N, 10, none⟩ (.bool q.o.has)).setCell ⟨N, 11, none⟩ (.slice q.o.so q.o.sn q.o.sc))) p p (flS b.2.1 b.2.2 kk).1 (flS b.2.1 b.2.2 kk).2) := R5.lowM BF hp
 have GF : Hid (w.grownBy (((((((((((((w5.setCell ⟨N, 0, none⟩ (.int .u64 q.cl)).setCell ⟨N, 1, none⟩ (.int .u64 q.st)).setCell ⟨N, 2, none⟩ (.int .i64 q.o.kind)).setCell ⟨N, 3, none⟩ (.string q.o.row)).setCell ⟨N, 4, none⟩ (.string q.o.fam)).setCell ⟨N, 5, none⟩ (.string q.o.qual)).setCell ⟨N, 6, none⟩ (.int .u64 q.o.time)).setCell ⟨N, 7, none⟩ (.string q.o.to)).setCell ⟨N, 8, none⟩ (.slice q.o.va.ao q.o.va.n q.o.va.cap)).setCell ⟨N, 9, none⟩ (.slice q.o.wa.ao q.o.wa.n q.o.wa.cap)).setCell ⟨N, 10, none⟩ (.bool q.o.has)).setCell ⟨N, 11, none⟩ (.slice q.o.so q.o.sn q.o.sc))) (some p)) := gthen G6 (by rw [← HN.out]; exact BF)
 clear SB BF q5 R5 G6 K5 M5
 go_wp2
 refine bodyPost_ret (v := .agg #[.int .u64 q.cl, .int .u64 q.st, .int .i64 q.o.kind, .string q.o.row, .string q.o.fam, .string q.o.qual, .int .u64 q.o.time, .string q.o.to, .slice q.o.va.ao q.o.va.n q.o.va.cap, .slice q.o.wa.ao q.o.wa.n q.o.wa.cap, .bool q.o.has, .slice q.o.so q.o.sn q.o.sc]) (by simp [results, Tryz.results40, go_sem, n0, n1, n2, n3, n4, n5, n6, n7, n8, n9, n10, n11]) rfl ?_
 exact ⟨q, rfl, qF.out, by rw [HV.out]; exact HQV.out, HQL.out, by rw [HV.out]; exact RF.out, GF.out, fun z hz => by have := HQF.out z hz; have := HN.out; omega⟩
open Go.RowKit
def TkpPost (w : World) (p : Nat) (xs : List Int) (k : Int) (x : Ending) (w' : World) : Prop :=
 ∃ (cl st vw : Nat) (e : Int) (co : Option Addr) (cn cc : Nat) (cs : List CA) (m : Bool), x = .returned (.agg #[.int .u64 cl, .int .u64 st, .int .u64 vw, .int .i64 e, .slice co cn cc, .bool m]) ∧ CL w' co cn cc cs ∧ (⟨cl, st, vw, resR e cs m⟩ : PV) = (pvT1 xs k).1 ∧ (cl < 18446744073709551616 ∧ st < 18446744073709551616 ∧ vw < 18446744073709551616 ∧ 0 ≤ e ∧ e ≤ 18) ∧ R w' p p (pvT1 xs k).2.1 (pvT1 xs k).2.2 ∧ w.grownBy w' (some p) ∧ ∀ z, (sblk co cn z ∨ ∃ c ∈ cs, c.va.blk z) → w.heap.size ≤ z
set_option maxRecDepth 100000 in
set_option maxHeartbeats 8000000 in
theorem takeReply_any (w : World) (p : Nat) (xs : List Int) (k : Int) (h : R w p p xs k) :
  Calls Tryz.prog 41 #[.pointer (some ⟨p, 0, none⟩)] w (TkpPost w p xs k) := by
 have hp := h.plt.1
 have B1 : Below w.heap.size w (w.alloc (.cells #[.int .u64 0, .int .u64 0, .int .u64 0, .int .i64 0, .slice none 0 0, .bool false] 30)) := (Below.refl _ w).alloc (Nat.le_refl _) _
 have w1K : (w.alloc (.cells #[.int .u64 0, .int .u64 0, .int .u64 0, .int .i64 0, .slice none 0 0, .bool false] 30)).heap[w.heap.size]? = some (.cells #[.int .u64 0, .int .u64 0, .int .u64 0, .int .i64 0, .slice none 0 0, .bool false] 30) := heap_alloc_new w _
 have w1R := h.below B1
 have HV : Hid (pvT1 xs k = (⟨(uintS xs k).1, (uintS (uintS xs k).2.1 (uintS xs k).2.2).1, (uintS (uintS (uintS xs k).2.1 (uintS xs k).2.2).2.1 (uintS (uintS xs k).2.1 (uintS xs k).2.2).2.2).1, (nestT zR0 rdR (uintS (uintS (uintS xs k).2.1 (uintS xs k).2.2).2.1 (uintS (uintS xs k).2.1 (uintS xs k).2.2).2.2).2.1 (uintS (uintS (uintS xs k).2.1 (uintS xs k).2.2).2.1 (uintS (uintS xs k).2.1 (uintS xs k).2.2).2.2).2.2).1⟩, (nestT zR0 rdR (uintS (uintS (uintS xs k).2.1 (uintS xs k).2.2).2.1 (uintS (uintS xs k).2.1 (uintS xs k).2.2).2.2).2.1 (uintS (uintS (uintS xs k).2.1 (uintS xs k).2.2).2.1 (uintS (uintS xs k).2.1 (uintS xs k).2.2).2.2).2.2).2)) := rfl
 clear h
 go_enter Tryz.func41, Tryz.ntmps41
 go_wp2_with fail
 obtain ⟨w1, hw1⟩ : ∃ W, W = (w.alloc (.cells #[.int .u64 0, .int .u64 0, .int .u64 0, .int .i64 0, .slice none 0 0, .bool false] 30)) := ⟨_, rfl⟩
 obtain ⟨N, hN⟩ : ∃ N, N = w.heap.size := ⟨_, rfl⟩
 rw [← hw1] at B1 w1K w1R ⊢
 rw [← hN] at B1 w1K hp ⊢
 have HN : Hid (N = w.heap.size) := hN
 have hN1 : N < w1.heap.size := (Array.getElem?_eq_some_iff.1 w1K).1
 have w1G : w.grownBy w1 (some p) := gbelow p (by rw [← HN.out]; exact B1)
 clear hw1 hN B1
 have CU := uint_any w1 p p xs k w1R
 have ltr1 := uintS_lt (k := k) w1R.byte
 refine CU.mono ?_
 rintro x w2 ⟨rfl, w2R, G_⟩
 generalize uintS xs k = r1 at HV ltr1 w2R ⊢
 have w2K := (G_.block N hN1 (by simp; omega)).trans w1K
 have hN2 : N < w2.heap.size := Nat.lt_of_lt_of_le hN1 G_.size
 have w2G := gtrans w1G G_
 clear CU G_ w1R w1K w1G hN1
 have CU := uint_any w2 p p r1.2.1 r1.2.2 w2R
 have ltr2 := uintS_lt (k := r1.2.2) w2R.byte
 go_wp2_with fail
 refine CU.mono ?_
 rintro x w3 ⟨rfl, w3R, G_⟩
 generalize uintS r1.2.1 r1.2.2 = r2 at HV ltr2 w3R ⊢
 have w3K := (G_.block N hN2 (by simp; omega)).trans w2K
 have hN3 : N < w3.heap.size := Nat.lt_of_lt_of_le hN2 G_.size
 have w3G := gtrans w2G G_
 clear CU G_ w2R w2K w2G hN2
 have CU := uint_any w3 p p r2.2.1 r2.2.2 w3R
 have ltr3 := uintS_lt (k := r2.2.2) w3R.byte
 go_wp2_with fail
 refine CU.mono ?_
 rintro x w4 ⟨rfl, w4R, G_⟩
 generalize uintS r2.2.1 r2.2.2 = r3 at HV ltr3 w4R ⊢
 have w4K := (G_.block N hN3 (by simp; omega)).trans w3K
 have hN4 : N < w4.heap.size := Nat.lt_of_lt_of_le hN3 G_.size
 have w4G := gtrans w3G G_
 clear CU G_ w3R w3K w3G hN3
 have C5 : Below w4.heap.size w4 (w4.alloc (.cells #[.int .u64 r1.1, .int .u64 r2.1, .int .u64 r3.1, .int .i64 0, .slice none 0 0, .bool false] 30)) := (Below.refl _ _).alloc (Nat.le_refl _) _
 have w5M : (w4.alloc (.cells #[.int .u64 r1.1, .int .u64 r2.1, .int .u64 r3.1, .int .i64 0, .slice none 0 0, .bool false] 30)).heap[w4.heap.size]? = some (.cells #[.int .u64 r1.1, .int .u64 r2.1, .int .u64 r3.1, .int .i64 0, .slice none 0 0, .bool false] 30) := heap_alloc_new _ _
 have w5K := (C5.block N hN4).trans w4K
 have w5R := w4R.below C5
 have w5G := gtrans w4G (gbelow p C5)
 go_wp2_with fail
 obtain ⟨w5, hw5⟩ : ∃ W, W = (w4.alloc (.cells #[.int .u64 r1.1, .int .u64 r2.1, .int .u64 r3.1, .int .i64 0, .slice none 0 0, .bool false] 30)) := ⟨_, rfl⟩
 obtain ⟨M, hM⟩ : ∃ M, M = w4.heap.size := ⟨_, rfl⟩
 rw [← hw5] at w5M w5K w5R w5G ⊢
 rw [← hM] at w5M ⊢
 have hNM : N < M := by omega
 clear hw5 hM C5 w4K w4R w4G hN4
 have hlim := w5R.lim
 refine (left_any w5 p p r3.2.1 r3.2.2 w5R).mono ?_
 rintro x w5' ⟨rfl, hw⟩
 obtain rfl := hw.symm
 clear hw
 have hmost : (if r3.2.2 = 0 then (r3.2.1.length : Int) else 0) ≤ 9223372036854775807 := by split <;> omega
 have CB := bytes_any w5 p p r3.2.1 r3.2.2 _ hmost w5R
 rw [bytes_left] at CB
 generalize (if r3.2.2 = 0 then (r3.2.1.length : Int) else 0) = most at CB hmost ⊢
 clear hmost
 go_wp2_with fail
 refine CB.mono ?_
 rintro x w6 ⟨bo, bn, bc, rfl, S6, F6, R6, G6⟩
 have HV2 : Hid (nestT zR0 rdR r3.2.1 r3.2.2 = (valN zR0 (rdR (bytesS r3.2.1 r3.2.2 r3.2.1.length).1), flS (bytesS r3.2.1 r3.2.2 r3.2.1.length).2.1 (bytesS r3.2.1 r3.2.2 r3.2.1.length).2.2 (kindN (rdR (bytesS r3.2.1 r3.2.2 r3.2.1.length).1)))) := rfl
 have hbl : (bytesS r3.2.1 r3.2.2 r3.2.1.length).1.length ≤ r3.2.1.length := bytesS_le r3.2.1 r3.2.2 r3.2.1.length
 generalize bytesS r3.2.1 r3.2.2 r3.2.1.length = b at HV2 S6 R6 hbl
 have hM5 : M < w5.heap.size := (Array.getElem?_eq_some_iff.1 w5M).1
 have K6 := (G6.block N (by omega) (by simp; omega)).trans w5K
 have M6 := (G6.block M hM5 (by simp; omega)).trans w5M
 have hM6 : M < w6.heap.size := Nat.lt_of_lt_of_le hM5 G6.size
 have G6 := gtrans w5G G6
 have hl6 := S6.len
 clear CB F6 w5K w5M w5R w5G hM5
 have CQ := prdr_far w6 bo bn bc b.1 S6 (by omega)
 go_wp2_with fail
 refine CQ.mono ?_
 intro x w7 PQ
 have C7 := PQ.bel
 obtain ⟨e, co, cn, cc, cs, m, rfl, L7, hrv, he18, far⟩ := PQ.told (fun r hr => rdR_right hr)
 clear CQ PQ S6
 have K7 := (C7.block N (by omega)).trans K6
 have M7 := (C7.block M hM6).trans M6
 have R7 := R6.below C7
 have G7 := gtrans G6 (gbelow p C7)
 have hM7 : M < w7.heap.size := Nat.lt_of_lt_of_le hM6 C7.size
 have HQF : Hid (∀ z, (sblk co cn z ∨ ∃ c ∈ cs, c.va.blk z) → M < z) := fun z hz => Nat.lt_of_lt_of_le hM6 (far z hz)
 have HQV : Hid (resR e cs m = valN zR0 (rdR b.1)) := hrv
 generalize kindN (rdR b.1) = kk at HV2 ⊢
 clear far hrv C7 K6 M6 R6 G6 hM6
 have C8 : Below w7.heap.size w7 (w7.alloc (.cells #[.int .i64 e, .slice co cn cc, .bool m] 28)) := (Below.refl _ _).alloc (Nat.le_refl _) _
 have KO : (w7.alloc (.cells #[.int .i64 e, .slice co cn cc, .bool m] 28)).heap[w7.heap.size]? = some (.cells #[.int .i64 e, .slice co cn cc, .bool m] 28) := heap_alloc_new _ _
 have K8 := (C8.block N (by omega)).trans K7
 have M8 := (C8.block M hM7).trans M7
 have R8 := R7.below C8
 have L8 := L7.below C8
 have G8 := gtrans G7 (gbelow p C8)
 go_wp2_with fail
 obtain ⟨w8, hw8⟩ : ∃ W, W = (w7.alloc (.cells #[.int .i64 e, .slice co cn cc, .bool m] 28)) := ⟨_, rfl⟩
 obtain ⟨O, hO⟩ : ∃ O, O = w7.heap.size := ⟨_, rfl⟩
 rw [← hw8] at KO K8 M8 R8 L8 G8 ⊢
 rw [← hO] at KO ⊢
 have hMO : M < O := by omega
 clear hw8 hO C8 K7 M7 R7 L7 G7 hM7
 refine (fail_gm w8 p p b.2.1 b.2.2 kk R8).mono ?_
 rintro x w9 ⟨rfl, R9, G9⟩
 have hO8 : O < w8.heap.size := (Array.getElem?_eq_some_iff.1 KO).1
 have K9 := (G9.block N (by omega) (by simp; omega)).trans K8
 have M9 := (G9.block M (by omega) (by simp; omega)).trans M8
 have O9 := (G9.block O hO8 (by simp; omega)).trans KO
 have L9 : CL w9 co cn cc cs := L8.kept fun z hz => G9.block z (by
  rcases hz with ⟨a, ha, hn, rfl⟩ | ⟨c, hc, hz⟩
  ·have hl := L8.len
   have h0 := L8.cell a ha 0 (by omega) 0 _ rfl
   have hlt := World.block_lt_of_cell? w8 _ h0
   have hb : (a.add (0 * 6 + 0)).block = a.block := by unfold Addr.add; split <;> rfl
   rw [hb] at hlt
   exact hlt
  ·exact (L8.ok c hc).blk_lt hz) (by have := HQF.out z hz; simp; omega)
 have G10 := gtrans G8 G9
 clear K8 M8 KO R8 L8 G8 G9
 have n0 : w9.cell? ⟨N, 0, none⟩ = some (.int .u64 0) := cell_of_row w9 N 0 _ _ _ K9
 have n1 : w9.cell? ⟨N, 1, none⟩ = some (.int .u64 0) := cell_of_row w9 N 1 _ _ _ K9
 have n2 : w9.cell? ⟨N, 2, none⟩ = some (.int .u64 0) := cell_of_row w9 N 2 _ _ _ K9
 have n3 : w9.cell? ⟨N, 3, none⟩ = some (.int .i64 0) := cell_of_row w9 N 3 _ _ _ K9
 have n4 : w9.cell? ⟨N, 4, none⟩ = some (.slice none 0 0) := cell_of_row w9 N 4 _ _ _ K9
 have n5 : w9.cell? ⟨N, 5, none⟩ = some (.bool false) := cell_of_row w9 N 5 _ _ _ K9
 have g0 : w9.frozen? ⟨N, 0, none⟩ = false := frozen_of_row w9 N 0 _ _ K9
 have g1 : w9.frozen? ⟨N, 1, none⟩ = false := frozen_of_row w9 N 1 _ _ K9
 have g2 : w9.frozen? ⟨N, 2, none⟩ = false := frozen_of_row w9 N 2 _ _ K9
 have g3 : w9.frozen? ⟨N, 3, none⟩ = false := frozen_of_row w9 N 3 _ _ K9
 have g4 : w9.frozen? ⟨N, 4, none⟩ = false := frozen_of_row w9 N 4 _ _ K9
 have g5 : w9.frozen? ⟨N, 5, none⟩ = false := frozen_of_row w9 N 5 _ _ K9
 have a0 : w9.cell? ⟨M, 0, none⟩ = some (.int .u64 r1.1) := cell_of_row w9 M 0 _ _ _ M9
 have a1 : w9.cell? ⟨M, 1, none⟩ = some (.int .u64 r2.1) := cell_of_row w9 M 1 _ _ _ M9
 have a2 : w9.cell? ⟨M, 2, none⟩ = some (.int .u64 r3.1) := cell_of_row w9 M 2 _ _ _ M9
 have a3 : w9.cell? ⟨M, 3, none⟩ = some (.int .i64 0) := cell_of_row w9 M 3 _ _ _ M9
 have a4 : w9.cell? ⟨M, 4, none⟩ = some (.slice none 0 0) := cell_of_row w9 M 4 _ _ _ M9
 have a5 : w9.cell? ⟨M, 5, none⟩ = some (.bool false) := cell_of_row w9 M 5 _ _ _ M9
 have f0 : w9.frozen? ⟨M, 0, none⟩ = false := frozen_of_row w9 M 0 _ _ M9
 have f1 : w9.frozen? ⟨M, 1, none⟩ = false := frozen_of_row w9 M 1 _ _ M9
 have f2 : w9.frozen? ⟨M, 2, none⟩ = false := frozen_of_row w9 M 2 _ _ M9
 have f3 : w9.frozen? ⟨M, 3, none⟩ = false := frozen_of_row w9 M 3 _ _ M9
 have f4 : w9.frozen? ⟨M, 4, none⟩ = false := frozen_of_row w9 M 4 _ _ M9
 have f5 : w9.frozen? ⟨M, 5, none⟩ = false := frozen_of_row w9 M 5 _ _ M9
 have o0 : w9.cell? ⟨O, 0, none⟩ = some (.int .i64 e) := cell_of_row w9 O 0 _ _ _ O9
 have o1 : w9.cell? ⟨O, 1, none⟩ = some (.slice co cn cc) := cell_of_row w9 O 1 _ _ _ O9
 have o2 : w9.cell? ⟨O, 2, none⟩ = some (.bool m) := cell_of_row w9 O 2 _ _ _ O9
 have SB1 : ((((w9.setCell ⟨M, 3, none⟩ (.int .i64 e)).setCell ⟨M, 4, none⟩ (.slice co cn cc)).setCell ⟨M, 5, none⟩ (.bool m))).heap.size = w9.heap.size ∧ ∀ j, j ≠ M → ((((w9.setCell ⟨M, 3, none⟩ (.int .i64 e)).setCell ⟨M, 4, none⟩ (.slice co cn cc)).setCell ⟨M, 5, none⟩ (.bool m))).heap[j]? = w9.heap[j]? := SameBut.trans (SameBut.trans (same_set _ _ _ _) (same_set _ _ _ _)) (same_set _ _ _ _)
 have SB2 : ((((((((((w9.setCell ⟨M, 3, none⟩ (.int .i64 e)).setCell ⟨M, 4, none⟩ (.slice co cn cc)).setCell ⟨M, 5, none⟩ (.bool m)).setCell ⟨N, 0, none⟩ (.int .u64 r1.1)).setCell ⟨N, 1, none⟩ (.int .u64 r2.1)).setCell ⟨N, 2, none⟩ (.int .u64 r3.1)).setCell ⟨N, 3, none⟩ (.int .i64 e)).setCell ⟨N, 4, none⟩ (.slice co cn cc)).setCell ⟨N, 5, none⟩ (.bool m))).heap.size = ((((w9.setCell ⟨M, 3, none⟩ (.int .i64 e)).setCell ⟨M, 4, none⟩ (.slice co cn cc)).setCell ⟨M, 5, none⟩ (.bool m))).heap.size ∧ ∀ j, j ≠ N → ((((((((((w9.setCell ⟨M, 3, none⟩ (.int .i64 e)).setCell ⟨M, 4, none⟩ (.slice co cn cc)).setCell ⟨M, 5, none⟩ (.bool m)).setCell ⟨N, 0, none⟩ (.int .u64 r1.1)).setCell ⟨N, 1, none⟩ (.int .u64 r2.1)).setCell ⟨N, 2, none⟩ (.int .u64 r3.1)).setCell ⟨N, 3, none⟩ (.int .i64 e)).setCell ⟨N, 4, none⟩ (.slice co cn cc)).setCell ⟨N, 5, none⟩ (.bool m))).heap[j]? = ((((w9.setCell ⟨M, 3, none⟩ (.int .i64 e)).setCell ⟨M, 4, none⟩ (.slice co cn cc)).setCell ⟨M, 5, none⟩ (.bool m))).heap[j]? := SameBut.trans (SameBut.trans (SameBut.trans (SameBut.trans (SameBut.trans (same_set _ _ _ _) (same_set _ _ _ _)) (same_set _ _ _ _)) (same_set _ _ _ _)) (same_set _ _ _ _)) (same_set _ _ _ _)
 have BF : Below N w9 ((((((((((w9.setCell ⟨M, 3, none⟩ (.int .i64 e)).setCell ⟨M, 4, none⟩ (.slice co cn cc)).setCell ⟨M, 5, none⟩ (.bool m)).setCell ⟨N, 0, none⟩ (.int .u64 r1.1)).setCell ⟨N, 1, none⟩ (.int .u64 r2.1)).setCell ⟨N, 2, none⟩ (.int .u64 r3.1)).setCell ⟨N, 3, none⟩ (.int .i64 e)).setCell ⟨N, 4, none⟩ (.slice co cn cc)).setCell ⟨N, 5, none⟩ (.bool m))) := (((((((((Below.refl _ _).setCell (p := ⟨M, 3, none⟩) (Nat.le_of_lt hNM) _).setCell (p := ⟨M, 4, none⟩) (Nat.le_of_lt hNM) _).setCell (p := ⟨M, 5, none⟩) (Nat.le_of_lt hNM) _).setCell (p := ⟨N, 0, none⟩) (Nat.le_refl _) _).setCell (p := ⟨N, 1, none⟩) (Nat.le_refl _) _).setCell (p := ⟨N, 2, none⟩) (Nat.le_refl _) _).setCell (p := ⟨N, 3, none⟩) (Nat.le_refl _) _).setCell (p := ⟨N, 4, none⟩) (Nat.le_refl _) _).setCell (p := ⟨N, 5, none⟩) (Nat.le_refl _) _
 have LF : Hid (CL ((((((((((w9.setCell ⟨M, 3, none⟩ (.int .i64 e)).setCell ⟨M, 4, none⟩ (.slice co cn cc)).setCell ⟨M, 5, none⟩ (.bool m)).setCell ⟨N, 0, none⟩ (.int .u64 r1.1)).setCell ⟨N, 1, none⟩ (.int .u64 r2.1)).setCell ⟨N, 2, none⟩ (.int .u64 r3.1)).setCell ⟨N, 3, none⟩ (.int .i64 e)).setCell ⟨N, 4, none⟩ (.slice co cn cc)).setCell ⟨N, 5, none⟩ (.bool m))) co cn cc cs) := L9.kept fun z hz => (SB2.2 z (by have := HQF.out z hz; omega)).trans (SB1.2 z (by have := HQF.out z hz; omega))
 have RF : Hid (R ((((((((((w9.setCell ⟨M, 3, none⟩ (.int .i64 e)).setCell ⟨M, 4, none⟩ (.slice co cn cc)).setCell ⟨M, 5, none⟩ (.bool m)).setCell ⟨N, 0, none⟩ (.int .u64 r1.1)).setCell ⟨N, 1, none⟩ (.int .u64 r2.1)).setCell ⟨N, 2, none⟩ (.int .u64 r3.1)).setCell ⟨N, 3, none⟩ (.int .i64 e)).setCell ⟨N, 4, none⟩ (.slice co cn cc)).setCell ⟨N, 5, none⟩ (.bool m))) p p (flS b.2.1 b.2.2 kk).1 (flS b.2.1 b.2.2 kk).2) := R9.lowM BF hp
 have GF : Hid (w.grownBy ((((((((((w9.setCell ⟨M, 3, none⟩ (.int .i64 e)).setCell ⟨M, 4, none⟩ (.slice co cn cc)).setCell ⟨M, 5, none⟩ (.bool m)).setCell ⟨N, 0, none⟩ (.int .u64 r1.1)).setCell ⟨N, 1, none⟩ (.int .u64 r2.1)).setCell ⟨N, 2, none⟩ (.int .u64 r3.1)).setCell ⟨N, 3, none⟩ (.int .i64 e)).setCell ⟨N, 4, none⟩ (.slice co cn cc)).setCell ⟨N, 5, none⟩ (.bool m))) (some p)) := gthen G10 (by rw [← HN.out]; exact BF)
 clear SB1 SB2 BF L9 R9 G10 K9 M9 O9
 go_wp2
 refine bodyPost_ret (v := .agg #[.int .u64 r1.1, .int .u64 r2.1, .int .u64 r3.1, .int .i64 e, .slice co cn cc, .bool m]) (by simp [results, Tryz.results41, go_sem, n0, n1, n2, n3, n4, n5]) rfl ?_
 exact ⟨r1.1, r2.1, r3.1, e, co, cn, cc, cs, m, rfl, LF.out, by rw [HV.out, HV2.out, HQV.out], ⟨ltr1, ltr2, ltr3, he18.1, he18.2⟩, by rw [HV.out, HV2.out]; exact RF.out, GF.out, fun z hz => by have := HQF.out z hz; have := HN.out; omega⟩
open Go.RowKit
set_option maxRecDepth 100000 in
set_option maxHeartbeats 4000000 in
theorem eqCells0 (w : World) (ao : Option Addr) (n cap : Nat) (fv : Value) :
  Calls Tryz.prog 106 #[.slice ao n cap, .slice none 0 0, fv] w fun e w' => e = .returned (.bool (decide (n = 0))) ∧ w' = w := by
 by_cases c : n = 0
 ·subst c
  go_enter Tryz.func106, Tryz.ntmps106
  go_wp2
  go_loopw [17] (fun i wr => i = .int .i64 0 ∧ wr = w) (fun _ _ => 0)
  case atStart => exact ⟨rfl, rfl⟩
  case round =>
   obtain ⟨rfl, rfl⟩ := hrel
   go_wp2
   go_ret
   exact ⟨rfl, rfl⟩
 ·have i : ((n : Int) != 0) = true := by simp; omega
  have hv : Hid (decide (n = 0) = false) := decide_eq_false c
  clear c
  go_enter Tryz.func106, Tryz.ntmps106
  go_wp2
  go_ret
  exact ⟨by rw [hv.out] <;> rfl, rfl⟩
def zr1 (e : Int) (cn : Nat) (m : Bool) : Bool := decide (e = 0 ∧ cn = 0) && !m
set_option maxRecDepth 100000 in
set_option maxHeartbeats 4000000 in
theorem sameResult0 (w : World) (e : Int) (co : Option Addr) (cn cc : Nat) (m : Bool) :
  Calls Tryz.prog 69 #[.agg #[.int .i64 e, .slice co cn cc, .bool m], .agg #[.int .i64 0, .slice none 0 0, .bool false]] w fun x w' => x = .returned (.bool (zr1 e cn m)) ∧ Below w.heap.size w w' := by
 have B0 : Below w.heap.size w (w.alloc (Obj.cells #[.int .i64 e, .slice co cn cc, .bool m] 28)) := (Below.refl _ w).alloc (Nat.le_refl _) _
 have B : Below w.heap.size w ((w.alloc (Obj.cells #[.int .i64 e, .slice co cn cc, .bool m] 28)).alloc (Obj.cells #[.int .i64 0, .slice none 0 0, .bool false] 28)) := B0.alloc B0.size _
 clear B0
 by_cases c0 : e = 0
 ·subst c0
  cases m with
  | true =>
   go_enter Tryz.func69, Tryz.ntmps69
   go_wp2
   go_ret
   exact ⟨by unfold zr1; simp, B⟩
  | false =>
   have CC := eqCells0 ((w.alloc (Obj.cells #[.int .i64 0, .slice co cn cc, .bool false] 28)).alloc (Obj.cells #[.int .i64 0, .slice none 0 0, .bool false] 28)) co cn cc (.func (.func 107) #[] #[])
   have hv : Hid (zr1 0 cn false = decide (cn = 0)) := by show _ = _; unfold zr1; simp
   go_enter Tryz.func69, Tryz.ntmps69
   go_wp2_with (go_at_call 106; refine CC.mono ?_; rintro x w' ⟨rfl, hw⟩; obtain rfl := hw.symm; clear hw)
   go_ret
   exact ⟨by rw [hv.out] <;> rfl, B⟩
 ·have i0 : (e == 0) = false := by simp [c0]
  have hv : Hid (zr1 e cn m = false) := by
   show _ = _
   unfold zr1
   rw [decide_eq_false (by omega), Bool.false_and]
  clear c0
  go_enter Tryz.func69, Tryz.ntmps69
  go_wp2
  go_ret
  exact ⟨by rw [hv.out] <;> rfl, B⟩
def zr2 (cl st vw : Nat) (e : Int) (cn : Nat) (m : Bool) : Bool := decide (cl = 0 ∧ st = 0 ∧ vw = 0) && zr1 e cn m
set_option maxRecDepth 100000 in
set_option maxHeartbeats 4000000 in
theorem sameReply0 (w : World) (cl st vw : Nat) (e : Int) (co : Option Addr) (cn cc : Nat) (m : Bool) :
  Calls Tryz.prog 29 #[.agg #[.int .u64 cl, .int .u64 st, .int .u64 vw, .int .i64 e, .slice co cn cc, .bool m], .agg #[.int .u64 0, .int .u64 0, .int .u64 0, .int .i64 0, .slice none 0 0, .bool false]] w fun x w' => x = .returned (.bool (zr2 cl st vw e cn m)) ∧ Below w.heap.size w w' := by
 have B0 : Below w.heap.size w (w.alloc (Obj.cells #[.int .u64 cl, .int .u64 st, .int .u64 vw, .int .i64 e, .slice co cn cc, .bool m] 30)) := (Below.refl _ w).alloc (Nat.le_refl _) _
 have B : Below w.heap.size w ((w.alloc (Obj.cells #[.int .u64 cl, .int .u64 st, .int .u64 vw, .int .i64 e, .slice co cn cc, .bool m] 30)).alloc (Obj.cells #[.int .u64 0, .int .u64 0, .int .u64 0, .int .i64 0, .slice none 0 0, .bool false] 30)) := B0.alloc B0.size _
 clear B0
 by_cases c0 : ¬ cl = 0
 ·have i0 : ((cl : Int) == 0) = false := by simp; omega
  have hv : Hid (zr2 cl st vw e cn m = false) := by
   show _ = _
   unfold zr2
   rw [decide_eq_false (by omega), Bool.false_and]
  clear c0
  go_enter Tryz.func29, Tryz.ntmps29
  go_wp2
  go_ret
  exact ⟨by rw [hv.out] <;> rfl, B⟩
 have i0 : ((cl : Int) == 0) = true := by simp; omega
 by_cases c1 : ¬ st = 0
 ·have i1 : ((st : Int) == 0) = false := by simp; omega
  have hv : Hid (zr2 cl st vw e cn m = false) := by
   show _ = _
   unfold zr2
   rw [decide_eq_false (by omega), Bool.false_and]
  clear c0 c1
  go_enter Tryz.func29, Tryz.ntmps29
  go_wp2
  go_ret
  exact ⟨by rw [hv.out] <;> rfl, B⟩
 have i1 : ((st : Int) == 0) = true := by simp; omega
 by_cases c2 : ¬ vw = 0
 ·have i2 : ((vw : Int) == 0) = false := by simp; omega
  have hv : Hid (zr2 cl st vw e cn m = false) := by
   show _ = _
   unfold zr2
   rw [decide_eq_false (by omega), Bool.false_and]
  clear c0 c1 c2
  go_enter Tryz.func29, Tryz.ntmps29
  go_wp2
  go_ret
  exact ⟨by rw [hv.out] <;> rfl, B⟩
 have i2 : ((vw : Int) == 0) = true := by simp; omega
 have hv : Hid (zr2 cl st vw e cn m = zr1 e cn m) := by
  show _ = _
  unfold zr2
  rw [decide_eq_true (by omega), Bool.true_and]
 have CC := sameResult0 ((w.alloc (Obj.cells #[.int .u64 cl, .int .u64 st, .int .u64 vw, .int .i64 e, .slice co cn cc, .bool m] 30)).alloc (Obj.cells #[.int .u64 0, .int .u64 0, .int .u64 0, .int .i64 0, .slice none 0 0, .bool false] 30)) e co cn cc m
 clear c0 c1 c2
 go_enter Tryz.func29, Tryz.ntmps29
 go_wp2_with (go_at_call 69; refine CC.mono ?_; rintro x w' ⟨rfl, C⟩; have D := B.trans (C.mono B.size))
 go_ret
 exact ⟨by rw [hv.out] <;> rfl, D⟩
theorem BM.rz_eq (x : BM) : x.rz = zr2 x.cl x.st x.vw x.e x.c.n x.more := by
 unfold BM.rz zr2 zr1
 rw [Bool.eq_iff_iff]
 simp [and_assoc]
end Go.Proofs.YtnbejckdhdbamaaGreat

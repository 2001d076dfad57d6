/-
  Texts in one: PRdQ, PRdQF.
-/
import Derived.Test.YtnbejckdhdbamaaGreatMessageRightQFL
import Derived.Test.YtnbejckdhdbamaaGreatMessageRightQ10
import Derived.Test.YtnbejckdhdbamaaGreatMessageRightQ33
namespace Go.Proofs.YtnbejckdhdbamaaGreat
open Go.RowKit
def zeroOA : OA := ⟨0, ⟨#[]⟩, ⟨#[]⟩, ⟨#[]⟩, 0, ⟨#[]⟩, noBs, noBs, false, none, 0, 0⟩
theorem zeroOA_ok (w : World) : zeroOA.ok w := ⟨by decide, by decide, by decide, by decide, by decide, by decide, Sl.nothing w, Sl.nothing w, Nat.le_refl _, Nat.zero_le _, fun _ => ⟨rfl, rfl⟩⟩
open Go.RowKit
structure RdqPostF (w : World) (t : Sum Int QV) (e : Ending) (w' : World) : Prop where
 bad : ∀ k, t = .inl k → e = .returned (.tuple #[qVal 0 0 zeroOA, .int .i64 k])
 good : ∀ q : QV, t = .inr q → ∃ (o : OA) (l : List OA), e = .returned (.tuple #[qVal q.1 q.2.1 o, .int .i64 0]) ∧ q.1 < 18446744073709551616 ∧ q.2.1 < 18446744073709551616 ∧ o.ok w' ∧ OWL w' 0 o.so o.sn o.sc l ∧ q.2.2 = (o.s, l.map OA.s) ∧ (∀ y ∈ l, y.sn = 0) ∧ ∀ x, (o.blks x ∨ o.sblk x ∨ ∃ y ∈ l, y.blks x) → w.heap.size ≤ x
 bel : Below w.heap.size w w'
set_option maxRecDepth 100000 in
set_option maxHeartbeats 16000000 in
theorem prdq_far (w : World) (ao : Option Addr) (n cap : Nat) (xs : List Int) (h : Sl w ao n cap xs) (hn : n ≤ 1000000) :
  Calls Tryz.prog 79 #[.slice ao n cap] w (RdqPostF w (rdQ xs)) := by
 have HRD : Hid (rdQ xs = rdT reqTh kindQ xs) := rd_thr thr_q kindQ xs
 have K0 : (w.alloc (.cells #[.int .u64 0, .int .u64 0, .int .i64 0, .string ⟨#[]⟩, .string ⟨#[]⟩, .string ⟨#[]⟩, .int .u64 0, .string ⟨#[]⟩, .slice none 0 0, .slice none 0 0, .bool false, .slice none 0 0] 60)).heap[w.heap.size]? = some (.cells #[.int .u64 0, .int .u64 0, .int .i64 0, .string ⟨#[]⟩, .string ⟨#[]⟩, .string ⟨#[]⟩, .int .u64 0, .string ⟨#[]⟩, .slice none 0 0, .slice none 0 0, .bool false, .slice none 0 0] 60) := heap_alloc_new w _
 have B0 : Below w.heap.size w (w.alloc (.cells #[.int .u64 0, .int .u64 0, .int .i64 0, .string ⟨#[]⟩, .string ⟨#[]⟩, .string ⟨#[]⟩, .int .u64 0, .string ⟨#[]⟩, .slice none 0 0, .slice none 0 0, .bool false, .slice none 0 0] 60)) := (Below.refl _ w).alloc (Nat.le_refl _) _
 have h0 := h.below B0
 clear h
 go_enter Tryz.func79, Tryz.ntmps79
 go_wp2_with fail
 obtain ⟨w0, hw0⟩ : ∃ W, W = w.alloc (.cells #[.int .u64 0, .int .u64 0, .int .i64 0, .string ⟨#[]⟩, .string ⟨#[]⟩, .string ⟨#[]⟩, .int .u64 0, .string ⟨#[]⟩, .slice none 0 0, .slice none 0 0, .bool false, .slice none 0 0] 60) := ⟨_, rfl⟩
 obtain ⟨N, hN⟩ : ∃ N, N = w.heap.size := ⟨_, rfl⟩
 rw [← hw0] at K0 B0 h0 ⊢
 rw [← hN] at K0 B0 ⊢
 have HN : Hid (N = w.heap.size) := hN
 clear hw0 hN
 refine (read_any w0 ao n cap xs h0 (by omega)).mono ?_
 rintro e w1 ⟨p, rfl, hp, R1, C1⟩
 have lN : N < w0.heap.size := (Array.getElem?_eq_some_iff.1 K0).1
 have K1 := (C1.block N lN).trans K0
 have B1 := B0.trans (C1.mono (by omega))
 have hNp : N < p := by omega
 clear K0 B0 C1 h0 hp lN
 go_wp2_with fail
 refine (uint_any w1 p p xs 0 R1).mono ?_
 rintro e w2 ⟨rfl, R2, G2⟩
 obtain ⟨r1, e1⟩ : ∃ r, r = uintS xs 0 := ⟨_, rfl⟩
 have ER1 : Hid (r1 = uintS xs 0) := e1
 have Z1 : r1.1 < 18446744073709551616 := by rw [e1]; exact uintS_lt R1.byte
 rw [← e1] at R2 ⊢
 have K2 := (G2.block N (Array.getElem?_eq_some_iff.1 K1).1 (by simp; omega)).trans K1
 have B2 := B1.trans (below_grown G2 (by have := B1.size; have := HN.out; omega) (by omega))
 clear e1 K1 R1 B1 G2
 go_wp2_with fail
 refine (uint_any w2 p p r1.2.1 r1.2.2 R2).mono ?_
 rintro e w3 ⟨rfl, R3, G3⟩
 obtain ⟨r2, e2⟩ : ∃ r, r = uintS r1.2.1 r1.2.2 := ⟨_, rfl⟩
 have ER2 : Hid (r2 = uintS r1.2.1 r1.2.2) := e2
 have Z2 : r2.1 < 18446744073709551616 := by rw [e2]; exact uintS_lt R2.byte
 rw [← e2] at R3 ⊢
 have K3 := (G3.block N (Array.getElem?_eq_some_iff.1 K2).1 (by simp; omega)).trans K2
 have B3 := B2.trans (below_grown G3 (by have := B2.size; have := HN.out; omega) (by omega))
 clear e2 K2 R2 B2 G3
 go_wp2_with fail
 refine (ttake_any w3 p p r2.2.1 r2.2.2 R3).mono ?_
 intro e w4 TP
 obtain ⟨v4, rfl, ⟨o, l, rfl, ok, OL, far0, ht, hz⟩, R4, G4⟩ := take_op TP
 have FAR : Hid (∀ x, (o.blks x ∨ o.sblk x ∨ ∃ y ∈ l, y.blks x) → x ≠ N ∧ N ≤ x) := fun x hx => by have := far0 x hx; have := (Array.getElem?_eq_some_iff.1 K3).1; have := B3.size; omega
 clear far0
 obtain ⟨T, hT⟩ : ∃ T, T = opTh r2.2.1 r2.2.2 := ⟨_, rfl⟩
 have HT : Hid (T = opTh r2.2.1 r2.2.2) := hT
 rw [← hT] at R4 ht
 have K4 := (G4.block N (Array.getElem?_eq_some_iff.1 K3).1 (by simp; omega)).trans K3
 have B4 := B3.trans (below_grown G4 (by have := B3.size; have := HN.out; omega) (by omega))
 have Hht : Hid (T.1 = (o.s, l.map OA.s)) := ht
 have HZ : Hid (∀ y ∈ l, y.sn = 0) := hz
 clear hT ht hz TP K3 R3 B3 G4
 unfold OA.val
 obtain ⟨M, hM⟩ : ∃ M, M = w4.heap.size := ⟨_, rfl⟩
 obtain ⟨w5, hw5⟩ : ∃ W, W = w4.alloc (.cells #[.int .u64 r1.1, .int .u64 r2.1, .int .i64 o.kind, .string o.row, .string o.fam, .string o.qual, .int .u64 o.time, .string o.to, .slice o.va.ao o.va.n o.va.cap, .slice o.wa.ao o.wa.n o.wa.cap, .bool o.has, .slice o.so o.sn o.sc] 60) := ⟨_, rfl⟩
 have C5 : Below w4.heap.size w4 w5 := by rw [hw5]; exact (Below.refl _ _).alloc (Nat.le_refl _) _
 have Q5 : QC w5 M r1.1 r2.1 o := by rw [hw5, hM]; exact heap_alloc_new w4 _
 have R5 := R4.below C5
 have ok5 := ok.below C5
 have OL5 := OL.below C5
 have K5 := (C5.block N (Array.getElem?_eq_some_iff.1 K4).1).trans K4
 have B5 := B4.trans (C5.mono (by have := B4.size; have := HN.out; omega))
 go_wp2_with fail
 rw [← hw5, ← hM]
 have HM : Hid (M = w4.heap.size) := hM
 clear hw5 hM C5 K4 R4 B4 ok OL
 have HS : Hid (∀ V, Below w5.heap.size w5 V → V.cell? ⟨M, 0, none⟩ = some (.int .u64 r1.1) ∧ V.cell? ⟨M, 1, none⟩ = some (.int .u64 r2.1) ∧ V.cell? ⟨M, 2, none⟩ = some (.int .i64 o.kind) ∧ V.cell? ⟨M, 3, none⟩ = some (.string o.row) ∧ V.cell? ⟨M, 4, none⟩ = some (.string o.fam) ∧ V.cell? ⟨M, 5, none⟩ = some (.string o.qual) ∧ V.cell? ⟨M, 6, none⟩ = some (.int .u64 o.time) ∧ V.cell? ⟨M, 7, none⟩ = some (.string o.to) ∧ V.cell? ⟨M, 8, none⟩ = some (.slice o.va.ao o.va.n o.va.cap) ∧ V.cell? ⟨M, 9, none⟩ = some (.slice o.wa.ao o.wa.n o.wa.cap) ∧ V.cell? ⟨M, 10, none⟩ = some (.bool o.has) ∧ V.cell? ⟨M, 11, none⟩ = some (.slice o.so o.sn o.sc)) := fun V hV => have q := (Q5.keep hV).cs; ⟨q.c0, q.c1, q.c2, q.c3, q.c4, q.c5, q.c6, q.c7, q.c8, q.c9, q.c10, q.c11⟩
 refine zB (by kernel_rfl) HS.out fun v0 E0 H0 => ?_
 refine zT 0 (some 16) (.pointer (some ⟨p, 0, none⟩)) rfl rfl (by kernel_rfl) rfl (fun W ⟨h0, h1, h2, h3, h4, h5, h6, h7, h8, h9, h10, h11⟩ => by go_simp) H0 ?_
 simp only [FL]
 refine zT 2 (some 18) (.agg #[.int .u64 r1.1, .int .u64 r2.1, .int .i64 o.kind, .string o.row, .string o.fam, .string o.qual, .int .u64 o.time, .string o.to, .slice o.va.ao o.va.n o.va.cap, .slice o.wa.ao o.wa.n o.wa.cap, .bool o.has, .slice o.so o.sn o.sc]) rfl rfl (by kernel_rfl) rfl (fun W ⟨h0, h1, h2, h3, h4, h5, h6, h7, h8, h9, h10, h11⟩ => by go_simp) H0 ?_
 simp only [FL]
 refine hr_call_w 1 (some 17) 43 #[.pointer (some ⟨p, 0, none⟩)] rfl rfl (by kernel_rfl) rfl (by go_simp) (fun v w' => v = .int .i64 (doneS T.2.1 T.2.2) ∧ Below v0.heap.size v0 w') ((((done_any v0 p p T.2.1 T.2.2 (R5.below E0)).mono (fun e w' h => ⟨h.1, by rw [h.2]; exact Below.refl _ _⟩) : Calls Tryz.prog 43 #[.pointer (some ⟨p, 0, none⟩)] v0 fun e w' => e = .returned (.int .i64 (doneS T.2.1 T.2.2)) ∧ Below v0.heap.size v0 w')).mono (by
  rintro e w' ⟨rfl, C⟩
  exact ⟨_, rfl, rfl, C⟩)) ?_
 rintro v v1 ⟨rfl, C0⟩
 have E1 := E0.trans (C0.mono E0.size)
 have H1 := HS.out v1 E1
 refine ⟨H1, ?_⟩
 simp only [FL]
 refine hr_call_w 3 (some 19) 88 #[.agg #[.int .u64 r1.1, .int .u64 r2.1, .int .i64 o.kind, .string o.row, .string o.fam, .string o.qual, .int .u64 o.time, .string o.to, .slice o.va.ao o.va.n o.va.cap, .slice o.wa.ao o.wa.n o.wa.cap, .bool o.has, .slice o.so o.sn o.sc]] rfl rfl (by kernel_rfl) rfl (by go_simp) (fun v w' => v = .int .i64 (kq r1.1 r2.1 (rightO o.s (l.map sn0))) ∧ Below v1.heap.size v1 w') ((prq_any v1 r1.1 r2.1 o l (ok5.below E1) (OL5.below E1)).mono (by
  rintro e w' ⟨rfl, C⟩
  exact ⟨_, rfl, rfl, C⟩)) ?_
 rintro v v2 ⟨rfl, C1⟩
 have E2 := E1.trans (C1.mono E1.size)
 have H2 := HS.out v2 E2
 refine ⟨H2, ?_⟩
 simp only [FL]
 obtain ⟨d, hd⟩ : ∃ d, d = doneS T.2.1 T.2.2 := ⟨_, rfl⟩
 obtain ⟨kk, hkk⟩ : ∃ d, d = kq r1.1 r2.1 (rightO o.s (l.map sn0)) := ⟨_, rfl⟩
 rw [← hd, ← hkk]
 have HD : Hid (d = doneS T.2.1 T.2.2) := hd
 have HK : Hid (kk = kq r1.1 r2.1 (rightO o.s (l.map sn0))) := hkk
 clear hd hkk
 obtain ⟨g, hg⟩ : ∃ g, g = v2.heap.size := ⟨_, rfl⟩
 obtain ⟨v3, hv3⟩ : ∃ V, V = v2.alloc (.cells #[.int .i64 d, .int .i64 kk] 25) := ⟨_, rfl⟩
 have U3 : Below v2.heap.size v2 v3 := by rw [hv3]; exact (Below.refl _ _).alloc (Nat.le_refl _) _
 have G3 : v3.heap[g]? = some (.cells #[.int .i64 d, .int .i64 kk] 25) := by rw [hv3, hg]; exact heap_alloc_new v2 _
 have E3 := E2.trans (U3.mono E2.size)
 have H3 := HS.out v3 E3
 refine hr_do 4 (some 20) (.slice (some ⟨g, 0, none⟩) 2 2) rfl rfl (by kernel_rfl) rfl (w' := v3) (by rw [hv3, hg]; go_simp) H3 ?_
 simp only [FL]
 clear hv3 hg U3
 refine hr_call_w 5 (some 21) 109 #[.slice (some ⟨g, 0, none⟩) 2 2] rfl rfl (by kernel_rfl) rfl (by go_simp) (fun v w' => v = .int .i64 (or2 d kk) ∧ Below v3.heap.size v3 w') ((((por2_any v3 g d kk G3).mono (fun e w' h => ⟨h.1, by rw [h.2]; exact Below.refl _ _⟩) : Calls Tryz.prog 109 #[.slice (some ⟨g, 0, none⟩) 2 2] v3 fun e w' => e = .returned (.int .i64 (or2 d kk)) ∧ Below v3.heap.size v3 w')).mono (by
  rintro e w' ⟨rfl, C⟩
  exact ⟨_, rfl, rfl, C⟩)) ?_
 rintro v v4 ⟨rfl, C3⟩
 have E4 := E3.trans (C3.mono E3.size)
 have H4 := HS.out v4 E4
 refine ⟨H4, ?_⟩
 simp only [FL]
 refine zT 6 (some 6) (.int .i64 (or2 d kk)) rfl rfl (by kernel_rfl) rfl (fun W ⟨h0, h1, h2, h3, h4, h5, h6, h7, h8, h9, h10, h11⟩ => by go_simp) H4 ?_
 simp only [FL]
 refine wpAnyH_done (by kernel_rfl) ?_ _
 refine NoPanic.normal ?_
 have BX : Below N w v4 := B5.trans (E4.mono (by have := B5.size; have := HN.out; omega))
 have KX := (E4.block N (Array.getElem?_eq_some_iff.1 K5).1).trans K5
 have QX := Q5.keep E4
 have okX := ok5.below E4
 have OLX := OL5.below E4
 have HRQ : Hid (rdQ xs = if or2 d kk = 0 then .inr (r1.1, r2.1, T.1) else .inl (or2 d kk)) := by
  show _ = _
  rw [HRD.out, rd_or]
  have e1 := ER1.out
  have e2 := ER2.out
  have e3 := HT.out
  have e4 : reqTh xs 0 = ((r1.1, r2.1, T.1), T.2) := by
   subst e3 e2 e1
   rfl
  rw [e4]
  simp only
  rw [Hht.out, kindq_read r1.1 r2.1 HZ.out, ← HK.out, ← HD.out]
 clear HS H0 H1 H2 H3 H4 E0 E1 E2 E3 E4 C0 C1 C3 G3 Q5 ok5 OL5 K5 B5 R5
 have n0 : v4.cell? ⟨N, 0, none⟩ = some (.int .u64 0) := cell_of_row v4 N 0 _ _ _ KX
 have n1 : v4.cell? ⟨N, 1, none⟩ = some (.int .u64 0) := cell_of_row v4 N 1 _ _ _ KX
 have n2 : v4.cell? ⟨N, 2, none⟩ = some (.int .i64 0) := cell_of_row v4 N 2 _ _ _ KX
 have n3 : v4.cell? ⟨N, 3, none⟩ = some (.string ⟨#[]⟩) := cell_of_row v4 N 3 _ _ _ KX
 have n4 : v4.cell? ⟨N, 4, none⟩ = some (.string ⟨#[]⟩) := cell_of_row v4 N 4 _ _ _ KX
 have n5 : v4.cell? ⟨N, 5, none⟩ = some (.string ⟨#[]⟩) := cell_of_row v4 N 5 _ _ _ KX
 have n6 : v4.cell? ⟨N, 6, none⟩ = some (.int .u64 0) := cell_of_row v4 N 6 _ _ _ KX
 have n7 : v4.cell? ⟨N, 7, none⟩ = some (.string ⟨#[]⟩) := cell_of_row v4 N 7 _ _ _ KX
 have n8 : v4.cell? ⟨N, 8, none⟩ = some (.slice none 0 0) := cell_of_row v4 N 8 _ _ _ KX
 have n9 : v4.cell? ⟨N, 9, none⟩ = some (.slice none 0 0) := cell_of_row v4 N 9 _ _ _ KX
 have n10 : v4.cell? ⟨N, 10, none⟩ = some (.bool false) := cell_of_row v4 N 10 _ _ _ KX
 have n11 : v4.cell? ⟨N, 11, none⟩ = some (.slice none 0 0) := cell_of_row v4 N 11 _ _ _ KX
 have g0 : v4.frozen? ⟨N, 0, none⟩ = false := frozen_of_row v4 N 0 _ _ KX
 have g1 : v4.frozen? ⟨N, 1, none⟩ = false := frozen_of_row v4 N 1 _ _ KX
 have g2 : v4.frozen? ⟨N, 2, none⟩ = false := frozen_of_row v4 N 2 _ _ KX
 have g3 : v4.frozen? ⟨N, 3, none⟩ = false := frozen_of_row v4 N 3 _ _ KX
 have g4 : v4.frozen? ⟨N, 4, none⟩ = false := frozen_of_row v4 N 4 _ _ KX
 have g5 : v4.frozen? ⟨N, 5, none⟩ = false := frozen_of_row v4 N 5 _ _ KX
 have g6 : v4.frozen? ⟨N, 6, none⟩ = false := frozen_of_row v4 N 6 _ _ KX
 have g7 : v4.frozen? ⟨N, 7, none⟩ = false := frozen_of_row v4 N 7 _ _ KX
 have g8 : v4.frozen? ⟨N, 8, none⟩ = false := frozen_of_row v4 N 8 _ _ KX
 have g9 : v4.frozen? ⟨N, 9, none⟩ = false := frozen_of_row v4 N 9 _ _ KX
 have g10 : v4.frozen? ⟨N, 10, none⟩ = false := frozen_of_row v4 N 10 _ _ KX
 have g11 : v4.frozen? ⟨N, 11, none⟩ = false := frozen_of_row v4 N 11 _ _ KX
 by_cases hk : or2 d kk = 0
 ·have HQ : Hid (rdQ xs = .inr (r1.1, r2.1, T.1)) := by show _ = _; rw [HRQ.out, if_pos hk]
  obtain ⟨q0, q1, q2, q3, q4, q5, q6, q7, q8, q9, q10, q11⟩ := QX.cs
  have BF : Below N w ((((((((((((v4.setCell ⟨N, 0, none⟩ (.int .u64 r1.1)).setCell ⟨N, 1, none⟩ (.int .u64 r2.1)).setCell ⟨N, 2, none⟩ (.int .i64 o.kind)).setCell ⟨N, 3, none⟩ (.string o.row)).setCell ⟨N, 4, none⟩ (.string o.fam)).setCell ⟨N, 5, none⟩ (.string o.qual)).setCell ⟨N, 6, none⟩ (.int .u64 o.time)).setCell ⟨N, 7, none⟩ (.string o.to)).setCell ⟨N, 8, none⟩ (.slice o.va.ao o.va.n o.va.cap)).setCell ⟨N, 9, none⟩ (.slice o.wa.ao o.wa.n o.wa.cap)).setCell ⟨N, 10, none⟩ (.bool o.has)).setCell ⟨N, 11, none⟩ (.slice o.so o.sn o.sc)) := ((((((((((((BX.setCell (Nat.le_refl _) _).setCell (Nat.le_refl _) _).setCell (Nat.le_refl _) _).setCell (Nat.le_refl _) _).setCell (Nat.le_refl _) _).setCell (Nat.le_refl _) _).setCell (Nat.le_refl _) _).setCell (Nat.le_refl _) _).setCell (Nat.le_refl _) _).setCell (Nat.le_refl _) _).setCell (Nat.le_refl _) _).setCell (Nat.le_refl _) _)
  have SB : (((((((((((((v4.setCell ⟨N, 0, none⟩ (.int .u64 r1.1)).setCell ⟨N, 1, none⟩ (.int .u64 r2.1)).setCell ⟨N, 2, none⟩ (.int .i64 o.kind)).setCell ⟨N, 3, none⟩ (.string o.row)).setCell ⟨N, 4, none⟩ (.string o.fam)).setCell ⟨N, 5, none⟩ (.string o.qual)).setCell ⟨N, 6, none⟩ (.int .u64 o.time)).setCell ⟨N, 7, none⟩ (.string o.to)).setCell ⟨N, 8, none⟩ (.slice o.va.ao o.va.n o.va.cap)).setCell ⟨N, 9, none⟩ (.slice o.wa.ao o.wa.n o.wa.cap)).setCell ⟨N, 10, none⟩ (.bool o.has)).setCell ⟨N, 11, none⟩ (.slice o.so o.sn o.sc))).heap.size = v4.heap.size ∧ ∀ j, j ≠ N → (((((((((((((v4.setCell ⟨N, 0, none⟩ (.int .u64 r1.1)).setCell ⟨N, 1, none⟩ (.int .u64 r2.1)).setCell ⟨N, 2, none⟩ (.int .i64 o.kind)).setCell ⟨N, 3, none⟩ (.string o.row)).setCell ⟨N, 4, none⟩ (.string o.fam)).setCell ⟨N, 5, none⟩ (.string o.qual)).setCell ⟨N, 6, none⟩ (.int .u64 o.time)).setCell ⟨N, 7, none⟩ (.string o.to)).setCell ⟨N, 8, none⟩ (.slice o.va.ao o.va.n o.va.cap)).setCell ⟨N, 9, none⟩ (.slice o.wa.ao o.wa.n o.wa.cap)).setCell ⟨N, 10, none⟩ (.bool o.has)).setCell ⟨N, 11, none⟩ (.slice o.so o.sn o.sc))).heap[j]? = v4.heap[j]? := (SameBut.trans (SameBut.trans (SameBut.trans (SameBut.trans (SameBut.trans (SameBut.trans (SameBut.trans (SameBut.trans (SameBut.trans (SameBut.trans (SameBut.trans (SameBut.trans ⟨rfl, fun _ _ => rfl⟩ (same_set _ _ _ _)) (same_set _ _ _ _)) (same_set _ _ _ _)) (same_set _ _ _ _)) (same_set _ _ _ _)) (same_set _ _ _ _)) (same_set _ _ _ _)) (same_set _ _ _ _)) (same_set _ _ _ _)) (same_set _ _ _ _)) (same_set _ _ _ _)) (same_set _ _ _ _))
  have GOOD : Hid (o.ok ((((((((((((v4.setCell ⟨N, 0, none⟩ (.int .u64 r1.1)).setCell ⟨N, 1, none⟩ (.int .u64 r2.1)).setCell ⟨N, 2, none⟩ (.int .i64 o.kind)).setCell ⟨N, 3, none⟩ (.string o.row)).setCell ⟨N, 4, none⟩ (.string o.fam)).setCell ⟨N, 5, none⟩ (.string o.qual)).setCell ⟨N, 6, none⟩ (.int .u64 o.time)).setCell ⟨N, 7, none⟩ (.string o.to)).setCell ⟨N, 8, none⟩ (.slice o.va.ao o.va.n o.va.cap)).setCell ⟨N, 9, none⟩ (.slice o.wa.ao o.wa.n o.wa.cap)).setCell ⟨N, 10, none⟩ (.bool o.has)).setCell ⟨N, 11, none⟩ (.slice o.so o.sn o.sc)) ∧ OWL ((((((((((((v4.setCell ⟨N, 0, none⟩ (.int .u64 r1.1)).setCell ⟨N, 1, none⟩ (.int .u64 r2.1)).setCell ⟨N, 2, none⟩ (.int .i64 o.kind)).setCell ⟨N, 3, none⟩ (.string o.row)).setCell ⟨N, 4, none⟩ (.string o.fam)).setCell ⟨N, 5, none⟩ (.string o.qual)).setCell ⟨N, 6, none⟩ (.int .u64 o.time)).setCell ⟨N, 7, none⟩ (.string o.to)).setCell ⟨N, 8, none⟩ (.slice o.va.ao o.va.n o.va.cap)).setCell ⟨N, 9, none⟩ (.slice o.wa.ao o.wa.n o.wa.cap)).setCell ⟨N, 10, none⟩ (.bool o.has)).setCell ⟨N, 11, none⟩ (.slice o.so o.sn o.sc)) 0 o.so o.sn o.sc l ∧ Below N w ((((((((((((v4.setCell ⟨N, 0, none⟩ (.int .u64 r1.1)).setCell ⟨N, 1, none⟩ (.int .u64 r2.1)).setCell ⟨N, 2, none⟩ (.int .i64 o.kind)).setCell ⟨N, 3, none⟩ (.string o.row)).setCell ⟨N, 4, none⟩ (.string o.fam)).setCell ⟨N, 5, none⟩ (.string o.qual)).setCell ⟨N, 6, none⟩ (.int .u64 o.time)).setCell ⟨N, 7, none⟩ (.string o.to)).setCell ⟨N, 8, none⟩ (.slice o.va.ao o.va.n o.va.cap)).setCell ⟨N, 9, none⟩ (.slice o.wa.ao o.wa.n o.wa.cap)).setCell ⟨N, 10, none⟩ (.bool o.has)).setCell ⟨N, 11, none⟩ (.slice o.so o.sn o.sc))) := ⟨okX.kept fun x hx => SB.2 x (FAR.out x (.inl hx)).1, OLX.kept fun x hx => SB.2 x (FAR.out x (.inr hx)).1, BF⟩
  clear SB BF okX OLX
  rw [hk]
  clear hk HRQ HD HK KX QX
  go_wp2
  refine bodyPost_ret (v := .tuple #[.agg #[.int .u64 r1.1, .int .u64 r2.1, .int .i64 o.kind, .string o.row, .string o.fam, .string o.qual, .int .u64 o.time, .string o.to, .slice o.va.ao o.va.n o.va.cap, .slice o.wa.ao o.wa.n o.wa.cap, .bool o.has, .slice o.so o.sn o.sc], .int .i64 0]) (by simp [results, Tryz.results79, go_sem, n0, n1, n2, n3, n4, n5, n6, n7, n8, n9, n10, n11]) rfl ?_
  exact ⟨fun k hk => absurd (HQ.out.symm.trans hk) (by simp), fun q hq => by
   have e := Sum.inr.inj (HQ.out.symm.trans hq)
   subst e
   exact ⟨o, l, rfl, Z1, Z2, GOOD.out.1, GOOD.out.2.1, Hht.out, HZ.out, fun x hx => by rw [← HN.out]; exact (FAR.out x hx).2⟩, by rw [← HN.out]; exact GOOD.out.2.2⟩
 ·have HQ : Hid (rdQ xs = .inl (or2 d kk)) := by show _ = _; rw [HRQ.out, if_neg hk]
  have hkb : (or2 d kk == 0) = false := by simp [hk]
  have hkc : (or2 d kk != 0) = true := by simp [hk]
  have BF : Hid (Below N w ((((((((((((v4.setCell ⟨N, 0, none⟩ (.int .u64 0)).setCell ⟨N, 1, none⟩ (.int .u64 0)).setCell ⟨N, 2, none⟩ (.int .i64 0)).setCell ⟨N, 3, none⟩ (.string ⟨#[]⟩)).setCell ⟨N, 4, none⟩ (.string ⟨#[]⟩)).setCell ⟨N, 5, none⟩ (.string ⟨#[]⟩)).setCell ⟨N, 6, none⟩ (.int .u64 0)).setCell ⟨N, 7, none⟩ (.string ⟨#[]⟩)).setCell ⟨N, 8, none⟩ (.slice none 0 0)).setCell ⟨N, 9, none⟩ (.slice none 0 0)).setCell ⟨N, 10, none⟩ (.bool false)).setCell ⟨N, 11, none⟩ (.slice none 0 0))) := ((((((((((((BX.setCell (Nat.le_refl _) _).setCell (Nat.le_refl _) _).setCell (Nat.le_refl _) _).setCell (Nat.le_refl _) _).setCell (Nat.le_refl _) _).setCell (Nat.le_refl _) _).setCell (Nat.le_refl _) _).setCell (Nat.le_refl _) _).setCell (Nat.le_refl _) _).setCell (Nat.le_refl _) _).setCell (Nat.le_refl _) _).setCell (Nat.le_refl _) _)
  clear hk HRQ HD HK KX QX okX OLX
  go_wp2
  refine bodyPost_ret (v := .tuple #[.agg #[.int .u64 0, .int .u64 0, .int .i64 0, .string ⟨#[]⟩, .string ⟨#[]⟩, .string ⟨#[]⟩, .int .u64 0, .string ⟨#[]⟩, .slice none 0 0, .slice none 0 0, .bool false, .slice none 0 0], .int .i64 (or2 d kk)]) (by simp [results, Tryz.results79, go_sem, n0, n1, n2, n3, n4, n5, n6, n7, n8, n9, n10, n11]) rfl ?_
  exact ⟨fun k hk => by
   have e := Sum.inl.inj (HQ.out.symm.trans hk)
   subst e
   rfl, fun q hq => absurd (HQ.out.symm.trans hq) (by simp), by rw [← HN.out]; exact BF.out⟩
end Go.Proofs.YtnbejckdhdbamaaGreat

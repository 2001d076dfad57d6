/-
  The reference's Read.
-/
import Derived.Test.YtbfcilfdeemnpaaRRdM
import Derived.Test.YtbfcilfdeemnpaaRBytes6
namespace Go.Proofs.Ytbfcilfdeemnpaa
open Go.RowKit

set_option maxRecDepth 100000 in
set_option maxHeartbeats 16000000 in
theorem rrdo_any (w : World) (ao : Option Addr) (n cap : Nat) (xs : List Int) (h : Sl w ao n cap xs) (hn : n ≤ 100000) :
    Calls Try.prog 17 #[.slice ao n cap] w (RdoPost w (rdO xs)) := by
  have HRD : Hid (rdO xs = rdT opR kindP xs) := rdO_ref xs
  have HBY : Hid (Byt xs) := h.byte
  have B0 : Below w.heap.size w ((w.alloc (.cells #[.int .i64 0, .string ⟨#[]⟩, .string ⟨#[]⟩, .string ⟨#[]⟩, .int .u64 0, .string ⟨#[]⟩, .slice none 0 0, .slice none 0 0, .bool false, .slice none 0 0] 28)).alloc (.cells #[.slice ao n cap, .int .i64 0] 71)) := ((Below.refl _ w).alloc (Nat.le_refl _) _).alloc (by simp) _
  have K0 : ((w.alloc (.cells #[.int .i64 0, .string ⟨#[]⟩, .string ⟨#[]⟩, .string ⟨#[]⟩, .int .u64 0, .string ⟨#[]⟩, .slice none 0 0, .slice none 0 0, .bool false, .slice none 0 0] 28)).alloc (.cells #[.slice ao n cap, .int .i64 0] 71)).heap[w.heap.size]? = some (.cells #[.int .i64 0, .string ⟨#[]⟩, .string ⟨#[]⟩, .string ⟨#[]⟩, .int .u64 0, .string ⟨#[]⟩, .slice none 0 0, .slice none 0 0, .bool false, .slice none 0 0] 28) := (heap_alloc_old _ _ (by simp)).trans (heap_alloc_new w _)
  have P0 : ((w.alloc (.cells #[.int .i64 0, .string ⟨#[]⟩, .string ⟨#[]⟩, .string ⟨#[]⟩, .int .u64 0, .string ⟨#[]⟩, .slice none 0 0, .slice none 0 0, .bool false, .slice none 0 0] 28)).alloc (.cells #[.slice ao n cap, .int .i64 0] 71)).heap[w.heap.size + 1]? = some (.cells #[.slice ao n cap, .int .i64 0] 71) := by
    have := heap_alloc_new (w.alloc (.cells #[.int .i64 0, .string ⟨#[]⟩, .string ⟨#[]⟩, .string ⟨#[]⟩, .int .u64 0, .string ⟨#[]⟩, .slice none 0 0, .slice none 0 0, .bool false, .slice none 0 0] 28)) (.cells #[.slice ao n cap, .int .i64 0] 71)
    simpa using this
  have R0 : R ((w.alloc (.cells #[.int .i64 0, .string ⟨#[]⟩, .string ⟨#[]⟩, .string ⟨#[]⟩, .int .u64 0, .string ⟨#[]⟩, .slice none 0 0, .slice none 0 0, .bool false, .slice none 0 0] 28)).alloc (.cells #[.slice ao n cap, .int .i64 0] 71)) (w.heap.size + 1) w.heap.size xs 0 := ⟨ao, n, cap, cell_of_row _ _ 0 _ _ _ P0, cell_of_row _ _ 1 _ _ _ P0, frozen_of_row _ _ 0 _ _ P0, frozen_of_row _ _ 1 _ _ P0, h.below B0, fun a ha hp => h.lt a ha hp, by omega, by omega⟩
  clear h P0
  go_enter Try.func17, Try.ntmps17
  go_wp2_with fail
  obtain ⟨w0, hw0⟩ : ∃ W, W = ((w.alloc (.cells #[.int .i64 0, .string ⟨#[]⟩, .string ⟨#[]⟩, .string ⟨#[]⟩, .int .u64 0, .string ⟨#[]⟩, .slice none 0 0, .slice none 0 0, .bool false, .slice none 0 0] 28)).alloc (.cells #[.slice ao n cap, .int .i64 0] 71)) := ⟨_, rfl⟩
  obtain ⟨N, hN⟩ : ∃ N, N = w.heap.size := ⟨_, rfl⟩
  rw [← hw0] at K0 B0 R0 ⊢
  rw [← hN] at K0 B0 R0 ⊢
  have HN : Hid (N = w.heap.size) := hN
  clear hw0 hN
  refine (rtake_any w0 (N + 1) N xs 0 R0).mono ?_
  intro e w4 TP
  obtain ⟨v4, rfl, ⟨o, l, rfl, ok, OL, far0, ht, hz⟩, R4, G4⟩ := rtake_op TP
  have FAR : Hid (∀ x, (o.blks x ∨ o.sblk x ∨ ∃ y ∈ l, y.blks x) → x ≠ N) := fun x hx => by have := far0 x hx; have := (Array.getElem?_eq_some_iff.1 K0).1; omega
  clear far0
  obtain ⟨T, hT⟩ : ∃ T, T = opR xs 0 := ⟨_, rfl⟩
  have HT : Hid (T = opR xs 0) := hT
  rw [← hT] at R4 ht
  have K4 := (G4.block N (Array.getElem?_eq_some_iff.1 K0).1 (by simp)).trans K0
  have B4 := B0.trans (below_grown G4 (by have := B0.size; have := HN.out; omega) (by omega))
  have Hht : Hid (T.1 = (o.s, l.map OA.s)) := ht
  have HZ : Hid (∀ y ∈ l, y.sn = 0) := hz
  clear hT ht hz TP K0 R0 B0 G4
  unfold OA.val
  obtain ⟨M, hM⟩ : ∃ M, M = w4.heap.size := ⟨_, rfl⟩
  obtain ⟨w5, hw5⟩ : ∃ W, W = w4.alloc (.cells #[.int .i64 o.kind, .string o.row, .string o.fam, .string o.qual, .int .u64 o.time, .string o.to, .slice o.va.ao o.va.n o.va.cap, .slice o.wa.ao o.wa.n o.wa.cap, .bool o.has, .slice o.so o.sn o.sc] 28) := ⟨_, rfl⟩
  have C5 : Below w4.heap.size w4 w5 := by rw [hw5]; exact (Below.refl _ _).alloc (Nat.le_refl _) _
  have QX : OC w5 M o := by rw [hw5, hM]; exact heap_alloc_new w4 _
  have R5 := R4.below C5
  have okX := ok.below C5
  have OLX := OL.below C5
  have KX := (C5.block N (Array.getElem?_eq_some_iff.1 K4).1).trans K4
  have BX := B4.trans (C5.mono (by have := B4.size; have := HN.out; omega))
  go_wp2_with fail
  rw [← hw5, ← hM]
  have HM : Hid (M = w4.heap.size) := hM
  clear hw5 hM C5 K4 R4 B4 ok OL
  refine (rDone_any w5 (N + 1) N T.2.1 T.2.2 R5).mono ?_
  rintro e w6 ⟨rfl, rfl⟩
  obtain ⟨d, hd⟩ : ∃ d, d = doneS T.2.1 T.2.2 := ⟨_, rfl⟩
  rw [← hd]
  have HD : Hid (d = doneS T.2.1 T.2.2) := hd
  clear hd R5
  by_cases hk : d = 0
  case neg =>
    have HQ : Hid (rdO xs = .inl d) := by
      show _ = _
      rw [HRD.out]
      unfold rdT
      rw [← HT.out, ← HD.out, if_neg hk]
    have hkc : (d != 0) = true := by simp [hk]
    have hkb : (d == 0) = false := by simp [hk]
    clear hk
    have n0 : w6.cell? ⟨N, 0, none⟩ = some (.int .i64 0) := cell_of_row w6 N 0 _ _ _ KX
    have n1 : w6.cell? ⟨N, 1, none⟩ = some (.string ⟨#[]⟩) := cell_of_row w6 N 1 _ _ _ KX
    have n2 : w6.cell? ⟨N, 2, none⟩ = some (.string ⟨#[]⟩) := cell_of_row w6 N 2 _ _ _ KX
    have n3 : w6.cell? ⟨N, 3, none⟩ = some (.string ⟨#[]⟩) := cell_of_row w6 N 3 _ _ _ KX
    have n4 : w6.cell? ⟨N, 4, none⟩ = some (.int .u64 0) := cell_of_row w6 N 4 _ _ _ KX
    have n5 : w6.cell? ⟨N, 5, none⟩ = some (.string ⟨#[]⟩) := cell_of_row w6 N 5 _ _ _ KX
    have n6 : w6.cell? ⟨N, 6, none⟩ = some (.slice none 0 0) := cell_of_row w6 N 6 _ _ _ KX
    have n7 : w6.cell? ⟨N, 7, none⟩ = some (.slice none 0 0) := cell_of_row w6 N 7 _ _ _ KX
    have n8 : w6.cell? ⟨N, 8, none⟩ = some (.bool false) := cell_of_row w6 N 8 _ _ _ KX
    have n9 : w6.cell? ⟨N, 9, none⟩ = some (.slice none 0 0) := cell_of_row w6 N 9 _ _ _ KX
    have g0 : w6.frozen? ⟨N, 0, none⟩ = false := frozen_of_row w6 N 0 _ _ KX
    have g1 : w6.frozen? ⟨N, 1, none⟩ = false := frozen_of_row w6 N 1 _ _ KX
    have g2 : w6.frozen? ⟨N, 2, none⟩ = false := frozen_of_row w6 N 2 _ _ KX
    have g3 : w6.frozen? ⟨N, 3, none⟩ = false := frozen_of_row w6 N 3 _ _ KX
    have g4 : w6.frozen? ⟨N, 4, none⟩ = false := frozen_of_row w6 N 4 _ _ KX
    have g5 : w6.frozen? ⟨N, 5, none⟩ = false := frozen_of_row w6 N 5 _ _ KX
    have g6 : w6.frozen? ⟨N, 6, none⟩ = false := frozen_of_row w6 N 6 _ _ KX
    have g7 : w6.frozen? ⟨N, 7, none⟩ = false := frozen_of_row w6 N 7 _ _ KX
    have g8 : w6.frozen? ⟨N, 8, none⟩ = false := frozen_of_row w6 N 8 _ _ KX
    have g9 : w6.frozen? ⟨N, 9, none⟩ = false := frozen_of_row w6 N 9 _ _ KX
    have BF : Hid (Below N w ((((((((((w6.setCell ⟨N, 0, none⟩ (.int .i64 0)).setCell ⟨N, 1, none⟩ (.string ⟨#[]⟩)).setCell ⟨N, 2, none⟩ (.string ⟨#[]⟩)).setCell ⟨N, 3, none⟩ (.string ⟨#[]⟩)).setCell ⟨N, 4, none⟩ (.int .u64 0)).setCell ⟨N, 5, none⟩ (.string ⟨#[]⟩)).setCell ⟨N, 6, none⟩ (.slice none 0 0)).setCell ⟨N, 7, none⟩ (.slice none 0 0)).setCell ⟨N, 8, none⟩ (.bool false)).setCell ⟨N, 9, none⟩ (.slice none 0 0))) := ((((((((((BX.setCell (Nat.le_refl _) _).setCell (Nat.le_refl _) _).setCell (Nat.le_refl _) _).setCell (Nat.le_refl _) _).setCell (Nat.le_refl _) _).setCell (Nat.le_refl _) _).setCell (Nat.le_refl _) _).setCell (Nat.le_refl _) _).setCell (Nat.le_refl _) _).setCell (Nat.le_refl _) _)
    clear KX QX okX OLX BX
    go_wp2
    refine bodyPost_ret (v := .tuple #[.agg #[.int .i64 0, .string ⟨#[]⟩, .string ⟨#[]⟩, .string ⟨#[]⟩, .int .u64 0, .string ⟨#[]⟩, .slice none 0 0, .slice none 0 0, .bool false, .slice none 0 0], .int .i64 d]) (by simp [results, Try.results17, go_sem, n0, n1, n2, n3, n4, n5, n6, n7, n8, n9]) rfl ?_
    exact ⟨fun k hk => by
      have e := Sum.inl.inj (HQ.out.symm.trans hk)
      subst e
      rfl, fun q hq => absurd (HQ.out.symm.trans hq) (by simp), by rw [← HN.out]; exact BF.out⟩
  subst hk
  have FT : OP.fits (o.s, l.map OA.s) := by
    rw [← Hht.out, HT.out]
    exact done_good good_p thr_pR HBY.out (by rw [← HT.out]; exact HD.out.symm)
  have CR := rright6 1 w6 o (l.map (lift1 0)) (read_OW 0 okX OLX HZ.out) (read_light 0 okX OLX HZ.out FT)
  have es : (l.map (lift1 0)).map (snD 1) = l.map sn0 := by
    rw [List.map_map]
    rfl
  rw [es] at CR
  clear FT es
  obtain ⟨q0, q1, q2, q3, q4, q5, q6, q7, q8, q9⟩ := QX.cs
  have HCR : Hid (Calls _ _ _ _ _) := CR
  clear CR
  go_wp2_with fail
  clear q0 q1 q2 q3 q4 q5 q6 q7 q8 q9
  refine HCR.out.mono ?_
  rintro e w7 ⟨rfl, C⟩
  obtain ⟨kk, hkk⟩ : ∃ d, d = kindO (rightO o.s (l.map sn0)) := ⟨_, rfl⟩
  rw [← hkk]
  have HK : Hid (kk = kindO (rightO o.s (l.map sn0))) := hkk
  have BX := BX.trans (C.mono (by have := BX.size; have := HN.out; omega))
  have KX := (C.block N (Array.getElem?_eq_some_iff.1 KX).1).trans KX
  have QX := QX.keep C
  have okX := okX.below C
  have OLX := OLX.below C
  have HRQ : Hid (rdO xs = if kk = 0 then .inr T.1 else .inl kk) := by
    show _ = _
    rw [HRD.out]
    unfold rdT
    rw [← HT.out, ← HD.out, if_pos rfl, Hht.out, kind_read HZ.out, ← HK.out]
  clear C hkk HCR HD HK
  have n0 : w7.cell? ⟨N, 0, none⟩ = some (.int .i64 0) := cell_of_row w7 N 0 _ _ _ KX
  have n1 : w7.cell? ⟨N, 1, none⟩ = some (.string ⟨#[]⟩) := cell_of_row w7 N 1 _ _ _ KX
  have n2 : w7.cell? ⟨N, 2, none⟩ = some (.string ⟨#[]⟩) := cell_of_row w7 N 2 _ _ _ KX
  have n3 : w7.cell? ⟨N, 3, none⟩ = some (.string ⟨#[]⟩) := cell_of_row w7 N 3 _ _ _ KX
  have n4 : w7.cell? ⟨N, 4, none⟩ = some (.int .u64 0) := cell_of_row w7 N 4 _ _ _ KX
  have n5 : w7.cell? ⟨N, 5, none⟩ = some (.string ⟨#[]⟩) := cell_of_row w7 N 5 _ _ _ KX
  have n6 : w7.cell? ⟨N, 6, none⟩ = some (.slice none 0 0) := cell_of_row w7 N 6 _ _ _ KX
  have n7 : w7.cell? ⟨N, 7, none⟩ = some (.slice none 0 0) := cell_of_row w7 N 7 _ _ _ KX
  have n8 : w7.cell? ⟨N, 8, none⟩ = some (.bool false) := cell_of_row w7 N 8 _ _ _ KX
  have n9 : w7.cell? ⟨N, 9, none⟩ = some (.slice none 0 0) := cell_of_row w7 N 9 _ _ _ KX
  have g0 : w7.frozen? ⟨N, 0, none⟩ = false := frozen_of_row w7 N 0 _ _ KX
  have g1 : w7.frozen? ⟨N, 1, none⟩ = false := frozen_of_row w7 N 1 _ _ KX
  have g2 : w7.frozen? ⟨N, 2, none⟩ = false := frozen_of_row w7 N 2 _ _ KX
  have g3 : w7.frozen? ⟨N, 3, none⟩ = false := frozen_of_row w7 N 3 _ _ KX
  have g4 : w7.frozen? ⟨N, 4, none⟩ = false := frozen_of_row w7 N 4 _ _ KX
  have g5 : w7.frozen? ⟨N, 5, none⟩ = false := frozen_of_row w7 N 5 _ _ KX
  have g6 : w7.frozen? ⟨N, 6, none⟩ = false := frozen_of_row w7 N 6 _ _ KX
  have g7 : w7.frozen? ⟨N, 7, none⟩ = false := frozen_of_row w7 N 7 _ _ KX
  have g8 : w7.frozen? ⟨N, 8, none⟩ = false := frozen_of_row w7 N 8 _ _ KX
  have g9 : w7.frozen? ⟨N, 9, none⟩ = false := frozen_of_row w7 N 9 _ _ KX
  by_cases hk : kk = 0
  · have HQ : Hid (rdO xs = .inr T.1) := by show _ = _; rw [HRQ.out, if_pos hk]
    obtain ⟨q0, q1, q2, q3, q4, q5, q6, q7, q8, q9⟩ := QX.cs
    have BF : Below N w ((((((((((w7.setCell ⟨N, 0, none⟩ (.int .i64 o.kind)).setCell ⟨N, 1, none⟩ (.string o.row)).setCell ⟨N, 2, none⟩ (.string o.fam)).setCell ⟨N, 3, none⟩ (.string o.qual)).setCell ⟨N, 4, none⟩ (.int .u64 o.time)).setCell ⟨N, 5, none⟩ (.string o.to)).setCell ⟨N, 6, none⟩ (.slice o.va.ao o.va.n o.va.cap)).setCell ⟨N, 7, none⟩ (.slice o.wa.ao o.wa.n o.wa.cap)).setCell ⟨N, 8, none⟩ (.bool o.has)).setCell ⟨N, 9, none⟩ (.slice o.so o.sn o.sc)) := ((((((((((BX.setCell (Nat.le_refl _) _).setCell (Nat.le_refl _) _).setCell (Nat.le_refl _) _).setCell (Nat.le_refl _) _).setCell (Nat.le_refl _) _).setCell (Nat.le_refl _) _).setCell (Nat.le_refl _) _).setCell (Nat.le_refl _) _).setCell (Nat.le_refl _) _).setCell (Nat.le_refl _) _)
    have SB : (((((((((((w7.setCell ⟨N, 0, none⟩ (.int .i64 o.kind)).setCell ⟨N, 1, none⟩ (.string o.row)).setCell ⟨N, 2, none⟩ (.string o.fam)).setCell ⟨N, 3, none⟩ (.string o.qual)).setCell ⟨N, 4, none⟩ (.int .u64 o.time)).setCell ⟨N, 5, none⟩ (.string o.to)).setCell ⟨N, 6, none⟩ (.slice o.va.ao o.va.n o.va.cap)).setCell ⟨N, 7, none⟩ (.slice o.wa.ao o.wa.n o.wa.cap)).setCell ⟨N, 8, none⟩ (.bool o.has)).setCell ⟨N, 9, none⟩ (.slice o.so o.sn o.sc))).heap.size = w7.heap.size ∧ ∀ j, j ≠ N → (((((((((((w7.setCell ⟨N, 0, none⟩ (.int .i64 o.kind)).setCell ⟨N, 1, none⟩ (.string o.row)).setCell ⟨N, 2, none⟩ (.string o.fam)).setCell ⟨N, 3, none⟩ (.string o.qual)).setCell ⟨N, 4, none⟩ (.int .u64 o.time)).setCell ⟨N, 5, none⟩ (.string o.to)).setCell ⟨N, 6, none⟩ (.slice o.va.ao o.va.n o.va.cap)).setCell ⟨N, 7, none⟩ (.slice o.wa.ao o.wa.n o.wa.cap)).setCell ⟨N, 8, none⟩ (.bool o.has)).setCell ⟨N, 9, none⟩ (.slice o.so o.sn o.sc))).heap[j]? = w7.heap[j]? := (SameBut.trans (SameBut.trans (SameBut.trans (SameBut.trans (SameBut.trans (SameBut.trans (SameBut.trans (SameBut.trans (SameBut.trans (SameBut.trans ⟨rfl, fun _ _ => rfl⟩ (same_set _ _ _ _)) (same_set _ _ _ _)) (same_set _ _ _ _)) (same_set _ _ _ _)) (same_set _ _ _ _)) (same_set _ _ _ _)) (same_set _ _ _ _)) (same_set _ _ _ _)) (same_set _ _ _ _)) (same_set _ _ _ _))
    have GOOD : Hid (o.ok ((((((((((w7.setCell ⟨N, 0, none⟩ (.int .i64 o.kind)).setCell ⟨N, 1, none⟩ (.string o.row)).setCell ⟨N, 2, none⟩ (.string o.fam)).setCell ⟨N, 3, none⟩ (.string o.qual)).setCell ⟨N, 4, none⟩ (.int .u64 o.time)).setCell ⟨N, 5, none⟩ (.string o.to)).setCell ⟨N, 6, none⟩ (.slice o.va.ao o.va.n o.va.cap)).setCell ⟨N, 7, none⟩ (.slice o.wa.ao o.wa.n o.wa.cap)).setCell ⟨N, 8, none⟩ (.bool o.has)).setCell ⟨N, 9, none⟩ (.slice o.so o.sn o.sc)) ∧ OWL ((((((((((w7.setCell ⟨N, 0, none⟩ (.int .i64 o.kind)).setCell ⟨N, 1, none⟩ (.string o.row)).setCell ⟨N, 2, none⟩ (.string o.fam)).setCell ⟨N, 3, none⟩ (.string o.qual)).setCell ⟨N, 4, none⟩ (.int .u64 o.time)).setCell ⟨N, 5, none⟩ (.string o.to)).setCell ⟨N, 6, none⟩ (.slice o.va.ao o.va.n o.va.cap)).setCell ⟨N, 7, none⟩ (.slice o.wa.ao o.wa.n o.wa.cap)).setCell ⟨N, 8, none⟩ (.bool o.has)).setCell ⟨N, 9, none⟩ (.slice o.so o.sn o.sc)) 0 o.so o.sn o.sc l ∧ Below N w ((((((((((w7.setCell ⟨N, 0, none⟩ (.int .i64 o.kind)).setCell ⟨N, 1, none⟩ (.string o.row)).setCell ⟨N, 2, none⟩ (.string o.fam)).setCell ⟨N, 3, none⟩ (.string o.qual)).setCell ⟨N, 4, none⟩ (.int .u64 o.time)).setCell ⟨N, 5, none⟩ (.string o.to)).setCell ⟨N, 6, none⟩ (.slice o.va.ao o.va.n o.va.cap)).setCell ⟨N, 7, none⟩ (.slice o.wa.ao o.wa.n o.wa.cap)).setCell ⟨N, 8, none⟩ (.bool o.has)).setCell ⟨N, 9, none⟩ (.slice o.so o.sn o.sc))) := ⟨okX.kept fun x hx => SB.2 x (FAR.out x (.inl hx)), OLX.kept fun x hx => SB.2 x (FAR.out x (.inr hx)), BF⟩
    clear SB BF okX OLX BX
    rw [hk]
    clear hk HRQ KX QX
    go_wp2
    refine bodyPost_ret (v := .tuple #[.agg #[.int .i64 o.kind, .string o.row, .string o.fam, .string o.qual, .int .u64 o.time, .string o.to, .slice o.va.ao o.va.n o.va.cap, .slice o.wa.ao o.wa.n o.wa.cap, .bool o.has, .slice o.so o.sn o.sc], .int .i64 0]) (by simp [results, Try.results17, go_sem, n0, n1, n2, n3, n4, n5, n6, n7, n8, n9]) rfl ?_
    exact ⟨fun k hk => absurd (HQ.out.symm.trans hk) (by simp), fun q hq => by
      have e := Sum.inr.inj (HQ.out.symm.trans hq)
      subst e
      exact ⟨o, l, rfl, GOOD.out.1, GOOD.out.2.1, Hht.out, HZ.out⟩, by rw [← HN.out]; exact GOOD.out.2.2⟩
  · have HQ : Hid (rdO xs = .inl kk) := by show _ = _; rw [HRQ.out, if_neg hk]
    have hkb : (kk == 0) = false := by simp [hk]
    have hkc : (kk != 0) = true := by simp [hk]
    clear hk HRQ
    have BF : Hid (Below N w ((((((((((w7.setCell ⟨N, 0, none⟩ (.int .i64 0)).setCell ⟨N, 1, none⟩ (.string ⟨#[]⟩)).setCell ⟨N, 2, none⟩ (.string ⟨#[]⟩)).setCell ⟨N, 3, none⟩ (.string ⟨#[]⟩)).setCell ⟨N, 4, none⟩ (.int .u64 0)).setCell ⟨N, 5, none⟩ (.string ⟨#[]⟩)).setCell ⟨N, 6, none⟩ (.slice none 0 0)).setCell ⟨N, 7, none⟩ (.slice none 0 0)).setCell ⟨N, 8, none⟩ (.bool false)).setCell ⟨N, 9, none⟩ (.slice none 0 0))) := ((((((((((BX.setCell (Nat.le_refl _) _).setCell (Nat.le_refl _) _).setCell (Nat.le_refl _) _).setCell (Nat.le_refl _) _).setCell (Nat.le_refl _) _).setCell (Nat.le_refl _) _).setCell (Nat.le_refl _) _).setCell (Nat.le_refl _) _).setCell (Nat.le_refl _) _).setCell (Nat.le_refl _) _)
    clear KX QX okX OLX BX
    go_wp2
    refine bodyPost_ret (v := .tuple #[.agg #[.int .i64 0, .string ⟨#[]⟩, .string ⟨#[]⟩, .string ⟨#[]⟩, .int .u64 0, .string ⟨#[]⟩, .slice none 0 0, .slice none 0 0, .bool false, .slice none 0 0], .int .i64 kk]) (by simp [results, Try.results17, go_sem, n0, n1, n2, n3, n4, n5, n6, n7, n8, n9]) rfl ?_
    exact ⟨fun k hk => by
      have e := Sum.inl.inj (HQ.out.symm.trans hk)
      subst e
      rfl, fun q hq => absurd (HQ.out.symm.trans hq) (by simp), by rw [← HN.out]; exact BF.out⟩
end Go.Proofs.Ytbfcilfdeemnpaa

/-
  The reference's readKey.
-/
import Derived.Test.YtbfcilfdeemnpaaRThr
import Derived.Test.YtbfcilfdeemnpaaRLow
namespace Go.Proofs.Ytbfcilfdeemnpaa
open Go.RowKit

theorem KC.kept {V V' : World} {q : Nat} {k : KA} (h : KC V q k) (hk : V'.heap[q]? = V.heap[q]?) : KC V' q k := hk.trans h

set_option maxRecDepth 100000 in
set_option maxHeartbeats 4000000 in
theorem rrkey_any (w : World) (p L : Nat) (xs : List Int) (k : Int) (h : R w p L xs k) :
    Calls Try.prog 49 #[.pointer (some ⟨p, 0, none⟩)] w fun e w' => e = .returned (keyOf (keyRT xs k).1).val ∧ Left w p L (keyRT xs k).2 w' := by
  have hpl := h.plt
  have B : Below w.heap.size w ((w.alloc (.cells #[.string ⟨#[]⟩, .string ⟨#[]⟩, .string ⟨#[]⟩, .int .u64 0] 24)).alloc (.cells #[.string ⟨#[]⟩, .string ⟨#[]⟩, .string ⟨#[]⟩, .int .u64 0] 24)) := ((Below.refl _ w).alloc (Nat.le_refl _) _).alloc (by simp) _
  have KN : KC ((w.alloc (.cells #[.string ⟨#[]⟩, .string ⟨#[]⟩, .string ⟨#[]⟩, .int .u64 0] 24)).alloc (.cells #[.string ⟨#[]⟩, .string ⟨#[]⟩, .string ⟨#[]⟩, .int .u64 0] 24)) w.heap.size zeroKA := (heap_alloc_old _ _ (by simp)).trans (heap_alloc_new w _)
  have KM : KC ((w.alloc (.cells #[.string ⟨#[]⟩, .string ⟨#[]⟩, .string ⟨#[]⟩, .int .u64 0] 24)).alloc (.cells #[.string ⟨#[]⟩, .string ⟨#[]⟩, .string ⟨#[]⟩, .int .u64 0] 24)) (w.heap.size + 1) ⟨⟨#[]⟩, ⟨#[]⟩, ⟨#[]⟩, 0⟩ := by
    have := heap_alloc_new (w.alloc (.cells #[.string ⟨#[]⟩, .string ⟨#[]⟩, .string ⟨#[]⟩, .int .u64 0] 24)) (.cells #[.string ⟨#[]⟩, .string ⟨#[]⟩, .string ⟨#[]⟩, .int .u64 0] 24)
    unfold KC
    simpa using this
  have R0 := h.below B
  have G : w.grownBy _ (some p) := grown_below B
  clear h
  go_enter Try.func49, Try.ntmps49
  go_wp2_with fail
  obtain ⟨w0, hw0⟩ : ∃ W, W = ((w.alloc (.cells #[.string ⟨#[]⟩, .string ⟨#[]⟩, .string ⟨#[]⟩, .int .u64 0] 24)).alloc (.cells #[.string ⟨#[]⟩, .string ⟨#[]⟩, .string ⟨#[]⟩, .int .u64 0] 24)) := ⟨_, rfl⟩
  obtain ⟨N, hN⟩ : ∃ N, N = w.heap.size := ⟨_, rfl⟩
  rw [← hw0] at KN KM R0 G ⊢
  rw [← hN] at KN KM ⊢
  have HN : Hid (N = w.heap.size) := hN
  have hne : N ≠ p := by omega
  have hneM : N + 1 ≠ p := by omega
  have hpM : p < N + 1 ∧ L ≤ N + 1 := by omega
  have hwM : w.heap.size ≤ N + 1 := by omega
  clear hw0 hN B
  refine (rBytes_low w0 p L xs k 32 (by decide) R0).mono ?_
  rintro e u1 ⟨bo, bn, bc, rfl, S, _, R1, G1⟩
  have cv := conv_str S
  obtain ⟨r1, e1⟩ : ∃ r, r = bytesT xs k 32 := ⟨_, rfl⟩
  obtain ⟨y1, e2⟩ : ∃ y, y = strOfNums r1.1 := ⟨_, rfl⟩
  rw [← e1] at R1 cv
  rw [← e2] at cv
  have E1 : Hid ((y1, r1.2) = txR 32 xs k) := by show (y1, r1.2) = _; rw [e2, e1]; exact rfl
  have KN := KN.grown G1 hne
  have KM := KM.grown G1 hneM
  have G := grown_trans G G1
  have c0 := KM.c0
  have f0 : u1.frozen? ⟨N + 1, 0, none⟩ = false := frozen_of_row u1 (N + 1) 0 _ _ KM
  obtain ⟨w1, hV⟩ : ∃ V, V = u1.setCell ⟨N + 1, 0, none⟩ (.string y1) := ⟨_, rfl⟩
  have R0 : R w1 p L r1.2.1 r1.2.2 := by rw [hV]; exact R1.own hpM.1 hpM.2
  have G : w.grownBy w1 (some p) := by rw [hV]; exact grown_own G hwM
  have KN : KC w1 N zeroKA := KN.kept (by rw [hV]; exact (same_set u1 (N + 1) 0 _).2 N (by omega))
  have KM : KC w1 (N + 1) ⟨y1, ⟨#[]⟩, ⟨#[]⟩, 0⟩ := by rw [hV]; exact heap_setCell_same u1 (N + 1) 0 _ _ _ KM
  clear e1 e2 S R1 G1
  go_wp2_with fail
  rw [← hV]
  clear hV c0 f0 cv
  refine (rBytes_low w1 p L r1.2.1 r1.2.2 32 (by decide) R0).mono ?_
  rintro e u2 ⟨bo, bn, bc, rfl, S, _, R1, G1⟩
  have cv := conv_str S
  obtain ⟨r2, e1⟩ : ∃ r, r = bytesT r1.2.1 r1.2.2 32 := ⟨_, rfl⟩
  obtain ⟨y2, e2⟩ : ∃ y, y = strOfNums r2.1 := ⟨_, rfl⟩
  rw [← e1] at R1 cv
  rw [← e2] at cv
  have E2 : Hid ((y2, r2.2) = txR 32 r1.2.1 r1.2.2) := by show (y2, r2.2) = _; rw [e2, e1]; exact rfl
  have KN := KN.grown G1 hne
  have KM := KM.grown G1 hneM
  have G := grown_trans G G1
  have c1 := KM.c1
  have f1 : u2.frozen? ⟨N + 1, 1, none⟩ = false := frozen_of_row u2 (N + 1) 1 _ _ KM
  obtain ⟨w2, hV⟩ : ∃ V, V = u2.setCell ⟨N + 1, 1, none⟩ (.string y2) := ⟨_, rfl⟩
  have R0 : R w2 p L r2.2.1 r2.2.2 := by rw [hV]; exact R1.own hpM.1 hpM.2
  have G : w.grownBy w2 (some p) := by rw [hV]; exact grown_own G hwM
  have KN : KC w2 N zeroKA := KN.kept (by rw [hV]; exact (same_set u2 (N + 1) 1 _).2 N (by omega))
  have KM : KC w2 (N + 1) ⟨y1, y2, ⟨#[]⟩, 0⟩ := by rw [hV]; exact heap_setCell_same u2 (N + 1) 1 _ _ _ KM
  clear e1 e2 S R1 G1
  go_wp2_with fail
  rw [← hV]
  clear hV c1 f1 cv
  refine (rBytes_low w2 p L r2.2.1 r2.2.2 32 (by decide) R0).mono ?_
  rintro e u3 ⟨bo, bn, bc, rfl, S, _, R1, G1⟩
  have cv := conv_str S
  obtain ⟨r3, e1⟩ : ∃ r, r = bytesT r2.2.1 r2.2.2 32 := ⟨_, rfl⟩
  obtain ⟨y3, e2⟩ : ∃ y, y = strOfNums r3.1 := ⟨_, rfl⟩
  rw [← e1] at R1 cv
  rw [← e2] at cv
  have E3 : Hid ((y3, r3.2) = txR 32 r2.2.1 r2.2.2) := by show (y3, r3.2) = _; rw [e2, e1]; exact rfl
  have KN := KN.grown G1 hne
  have KM := KM.grown G1 hneM
  have G := grown_trans G G1
  have c2 := KM.c2
  have f2 : u3.frozen? ⟨N + 1, 2, none⟩ = false := frozen_of_row u3 (N + 1) 2 _ _ KM
  obtain ⟨w3, hV⟩ : ∃ V, V = u3.setCell ⟨N + 1, 2, none⟩ (.string y3) := ⟨_, rfl⟩
  have R0 : R w3 p L r3.2.1 r3.2.2 := by rw [hV]; exact R1.own hpM.1 hpM.2
  have G : w.grownBy w3 (some p) := by rw [hV]; exact grown_own G hwM
  have KN : KC w3 N zeroKA := KN.kept (by rw [hV]; exact (same_set u3 (N + 1) 2 _).2 N (by omega))
  have KM : KC w3 (N + 1) ⟨y1, y2, y3, 0⟩ := by rw [hV]; exact heap_setCell_same u3 (N + 1) 2 _ _ _ KM
  clear e1 e2 S R1 G1
  go_wp2_with fail
  rw [← hV]
  clear hV c2 f2 cv
  refine (rUint_read w3 p L r3.2.1 r3.2.2 R0).mono ?_
  rintro e u4 ⟨rfl, R1, G1⟩
  obtain ⟨r4, e4⟩ : ∃ r, r = uintT r3.2.1 r3.2.2 := ⟨_, rfl⟩
  have E4 : Hid (r4 = uintT r3.2.1 r3.2.2) := e4
  rw [← e4] at R1 ⊢
  have KN := KN.grown G1 hne
  have KM := KM.grown G1 hneM
  have G := grown_trans G G1
  have m0 := KM.c0
  have n0 := KN.c0
  have g0 : u4.frozen? ⟨N, 0, none⟩ = false := frozen_of_row u4 N 0 _ _ KN
  have m1 := KM.c1
  have n1 := KN.c1
  have g1 : u4.frozen? ⟨N, 1, none⟩ = false := frozen_of_row u4 N 1 _ _ KN
  have m2 := KM.c2
  have n2 := KN.c2
  have g2 : u4.frozen? ⟨N, 2, none⟩ = false := frozen_of_row u4 N 2 _ _ KN
  have m3 := KM.c3
  have n3 := KN.c3
  have g3 : u4.frozen? ⟨N, 3, none⟩ = false := frozen_of_row u4 N 3 _ _ KN
  have f3 : u4.frozen? ⟨N + 1, 3, none⟩ = false := frozen_of_row u4 (N + 1) 3 _ _ KM
  have hpN : p < N ∧ L ≤ N := by have := HN.out; omega
  have hwN : w.heap.size ≤ N := by have := HN.out; omega
  have RF : Hid (R (((((u4.setCell ⟨N + 1, 3, none⟩ (.int .u64 r4.1)).setCell ⟨N, 0, none⟩ (.string y1)).setCell ⟨N, 1, none⟩ (.string y2)).setCell ⟨N, 2, none⟩ (.string y3)).setCell ⟨N, 3, none⟩ (.int .u64 r4.1)) p L r4.2.1 r4.2.2) := ((((R1.own hpM.1 hpM.2).own hpN.1 hpN.2).own hpN.1 hpN.2).own hpN.1 hpN.2).own hpN.1 hpN.2
  have GF : Hid (w.grownBy (((((u4.setCell ⟨N + 1, 3, none⟩ (.int .u64 r4.1)).setCell ⟨N, 0, none⟩ (.string y1)).setCell ⟨N, 1, none⟩ (.string y2)).setCell ⟨N, 2, none⟩ (.string y3)).setCell ⟨N, 3, none⟩ (.int .u64 r4.1)) (some p)) := grown_own (grown_own (grown_own (grown_own (grown_own G hwM) hwN) hwN) hwN) hwN
  have HK : Hid (keyRT xs k = ((y1, y2, y3, r4.1), r4.2)) := by
    show _ = _
    unfold keyRT andT
    rw [← E1.out]
    simp only
    rw [← E2.out]
    simp only
    rw [← E3.out, ← E4.out]
  clear e4 hpN hwN hpM hwM G R1 KN KM G1 R0 hneM hne hpl
  go_wp2
  refine bodyPost_ret (v := .agg #[.string y1, .string y2, .string y3, .int .u64 r4.1]) (by simp [results, Try.results49, go_sem, n0, n1, n2, n3]) rfl ⟨?_, ?_⟩
  · rw [HK.out]
    rfl
  · rw [HK.out]
    exact ⟨RF.out, GF.out⟩
end Go.Proofs.Ytbfcilfdeemnpaa

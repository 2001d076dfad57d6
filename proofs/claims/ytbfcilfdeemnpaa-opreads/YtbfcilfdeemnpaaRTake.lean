/-
  The reference's readOp: up to its parts.
-/
import Derived.Test.YtbfcilfdeemnpaaRSize
namespace Go.Proofs.Ytbfcilfdeemnpaa
open Go.RowKit

/-- What readOp leaves. -/
def RTakePost (w : World) (p L most : Nat) (xs : List Int) (k : Int) (e : Ending) (w' : World) : Prop :=
  ∃ (o : OA) (l : List OA), e = .returned o.val ∧ o.ok w' ∧ OWL w' 0 o.so o.sn o.sc l ∧ (∀ x, (o.blks x ∨ o.sblk x ∨ ∃ y ∈ l, y.blks x) → x < L ∨ w.heap.size ≤ x) ∧ o.s = (sR most xs k).1.1 ∧
    l.map sn0 = (stopT (sR 0) (sR most xs k).1.2 (sR most xs k).2.1 (sR most xs k).2.2).1 ∧ Left w p L (stopT (sR 0) (sR most xs k).1.2 (sR most xs k).2.1 (sR most xs k).2.2).2 w'
/-- A part that was read has none. -/
theorem rpart_post {V : World} {p L : Nat} {ys : List Int} {q : Int} {e : Ending} {w' : World} (h : RTakePost V p L 0 ys q e w') : ∃ v, e = .returned v ∧ ∃ y : OA, v = y.val ∧ y.ok w' ∧ (∀ x, y.blks x → x < L ∨ V.heap.size ≤ x) ∧ sn0 y = (sR 0 ys q).1 ∧ R w' p L (sR 0 ys q).2.1 (sR 0 ys q).2.2 ∧ V.grownBy w' (some p) := by
  obtain ⟨o, l, e1, ok, OL, far, hs, hl, hr, hg⟩ := h
  have hz : (sR 0 ys q).1.2 = 0 := by
    have : (sR 0 ys q).1.2 ≤ 0 := intT_le 0 _ _
    omega
  rw [hz] at hl hr
  have hl0 : l = [] := by
    have hl : l.map sn0 = [] := hl
    simpa using hl
  have hsn : o.sn = 0 := by
    have : l.length = o.sn := OL.len
    rw [hl0] at this
    exact this.symm
  refine ⟨_, e1, o, rfl, ok, fun x hx => far x (.inl hx), ?_, hr, hg⟩
  unfold sn0
  rw [hs, hsn]
  exact Prod.ext rfl hz.symm

set_option maxRecDepth 100000 in
set_option maxHeartbeats 16000000 in
theorem rtake_gen (most : Nat) (hm8 : most ≤ 8) (w : World) (p L : Nat) (xs : List Int) (k : Int) (h : R w p L xs k)
    (rec : most ≠ 0 → ∀ (V : World) (ys : List Int) (q : Int), R V p L ys q → Calls Try.prog 39 #[.pointer (some ⟨p, 0, none⟩), .int .i64 0] V (RTakePost V p L 0 ys q)) :
    Calls Try.prog 39 #[.pointer (some ⟨p, 0, none⟩), .int .i64 most] w (RTakePost w p L most xs k) := by
  have hpl := h.plt
  have B : Below w.heap.size w ((w.alloc (.cells #[.int .i64 0, .string ⟨#[]⟩, .string ⟨#[]⟩, .string ⟨#[]⟩, .int .u64 0, .string ⟨#[]⟩, .slice none 0 0, .slice none 0 0, .bool false, .slice none 0 0] 28)).alloc (.cells #[.int .i64 0, .string ⟨#[]⟩, .string ⟨#[]⟩, .string ⟨#[]⟩, .int .u64 0, .string ⟨#[]⟩, .slice none 0 0, .slice none 0 0, .bool false, .slice none 0 0] 28)) := ((Below.refl _ w).alloc (Nat.le_refl _) _).alloc (by simp) _
  have K : ((w.alloc (.cells #[.int .i64 0, .string ⟨#[]⟩, .string ⟨#[]⟩, .string ⟨#[]⟩, .int .u64 0, .string ⟨#[]⟩, .slice none 0 0, .slice none 0 0, .bool false, .slice none 0 0] 28)).alloc (.cells #[.int .i64 0, .string ⟨#[]⟩, .string ⟨#[]⟩, .string ⟨#[]⟩, .int .u64 0, .string ⟨#[]⟩, .slice none 0 0, .slice none 0 0, .bool false, .slice none 0 0] 28)).heap[w.heap.size]? = some (.cells #[.int .i64 0, .string ⟨#[]⟩, .string ⟨#[]⟩, .string ⟨#[]⟩, .int .u64 0, .string ⟨#[]⟩, .slice none 0 0, .slice none 0 0, .bool false, .slice none 0 0] 28) := (heap_alloc_old _ _ (by simp)).trans (heap_alloc_new w _)
  have O : OV ((w.alloc (.cells #[.int .i64 0, .string ⟨#[]⟩, .string ⟨#[]⟩, .string ⟨#[]⟩, .int .u64 0, .string ⟨#[]⟩, .slice none 0 0, .slice none 0 0, .bool false, .slice none 0 0] 28)).alloc (.cells #[.int .i64 0, .string ⟨#[]⟩, .string ⟨#[]⟩, .string ⟨#[]⟩, .int .u64 0, .string ⟨#[]⟩, .slice none 0 0, .slice none 0 0, .bool false, .slice none 0 0] 28)) (w.heap.size + 1) ⟨0, ⟨#[]⟩, ⟨#[]⟩, ⟨#[]⟩, 0, ⟨#[]⟩, noBs, noBs, false, none, 0, 0⟩ (.slice none 0 0) := by
    have t1 : ((w.alloc (.cells #[.int .i64 0, .string ⟨#[]⟩, .string ⟨#[]⟩, .string ⟨#[]⟩, .int .u64 0, .string ⟨#[]⟩, .slice none 0 0, .slice none 0 0, .bool false, .slice none 0 0] 28)).alloc (.cells #[.int .i64 0, .string ⟨#[]⟩, .string ⟨#[]⟩, .string ⟨#[]⟩, .int .u64 0, .string ⟨#[]⟩, .slice none 0 0, .slice none 0 0, .bool false, .slice none 0 0] 28)).heap[w.heap.size + 1]? = some (.cells #[.int .i64 0, .string ⟨#[]⟩, .string ⟨#[]⟩, .string ⟨#[]⟩, .int .u64 0, .string ⟨#[]⟩, .slice none 0 0, .slice none 0 0, .bool false, .slice none 0 0] 28) := by
      have := heap_alloc_new (w.alloc (.cells #[.int .i64 0, .string ⟨#[]⟩, .string ⟨#[]⟩, .string ⟨#[]⟩, .int .u64 0, .string ⟨#[]⟩, .slice none 0 0, .slice none 0 0, .bool false, .slice none 0 0] 28)) (.cells #[.int .i64 0, .string ⟨#[]⟩, .string ⟨#[]⟩, .string ⟨#[]⟩, .int .u64 0, .string ⟨#[]⟩, .slice none 0 0, .slice none 0 0, .bool false, .slice none 0 0] 28)
      simpa using this
    exact t1
  have R0 := h.below B
  have G : w.grownBy _ (some p) := grown_below B
  clear h
  go_enter Try.func39, Try.ntmps39
  go_wp2_with fail
  obtain ⟨w0, hw0⟩ : ∃ W, W = ((w.alloc (.cells #[.int .i64 0, .string ⟨#[]⟩, .string ⟨#[]⟩, .string ⟨#[]⟩, .int .u64 0, .string ⟨#[]⟩, .slice none 0 0, .slice none 0 0, .bool false, .slice none 0 0] 28)).alloc (.cells #[.int .i64 0, .string ⟨#[]⟩, .string ⟨#[]⟩, .string ⟨#[]⟩, .int .u64 0, .string ⟨#[]⟩, .slice none 0 0, .slice none 0 0, .bool false, .slice none 0 0] 28)) := ⟨_, rfl⟩
  obtain ⟨N, hN⟩ : ∃ N, N = w.heap.size := ⟨_, rfl⟩
  rw [← hw0] at K O R0 G ⊢
  rw [← hN] at K O ⊢
  have HN : Hid (N = w.heap.size) := hN
  have hNp : N ≠ p := by omega
  have hMp : N + 1 ≠ p := by omega
  have hpM : p < N + 1 ∧ L ≤ N + 1 := by omega
  have hwM : w.heap.size ≤ N + 1 := by omega
  clear hw0 hN B
  refine (rInt_any w0 p L xs k 100 (by decide) R0.byte R0).mono ?_
  rintro e u1 ⟨rfl, R1, G1⟩
  obtain ⟨r1, e1⟩ : ∃ r, r = intT xs k 100 := ⟨_, rfl⟩
  have E1 : Hid (r1 = intT xs k 100) := e1
  rw [← e1] at R1 ⊢
  have Z1 : r1.1 ≤ 100 := by rw [e1]; exact intT_le 100 xs k
  have K := (G1.block N (Array.getElem?_eq_some_iff.1 K).1 (by simp; omega)).trans K
  have O := O.grown G1 hMp
  have G := grown_trans G G1
  have c0 := O.cs.c0
  have f0 := O.fz 0
  obtain ⟨w1, hV⟩ : ∃ V, V = (u1.setCell ⟨N + 1, 0, none⟩ (.int .i64 r1.1)) := ⟨_, rfl⟩
  have SB : w1.heap.size = u1.heap.size ∧ ∀ j, j ≠ N + 1 → w1.heap[j]? = u1.heap[j]? := by rw [hV]; exact (SameBut.trans ⟨rfl, fun _ _ => rfl⟩ (same_set _ _ _ _))
  have R0 : R w1 p L r1.2.1 r1.2.2 := by rw [hV]; exact (R.own R1 hpM.1 hpM.2)
  have G : w.grownBy w1 (some p) := by rw [hV]; exact (grown_own G hwM)
  have K := (SB.2 N (by omega)).trans K
  have O : OV w1 (N + 1) ⟨r1.1, ⟨#[]⟩, ⟨#[]⟩, ⟨#[]⟩, 0, ⟨#[]⟩, noBs, noBs, false, none, 0, 0⟩ (.slice none 0 0) := by rw [hV]; exact (heap_setCell_same _ (N + 1) 0 _ _ (.int .i64 r1.1) O)
  clear e1 R1 G1 SB
  go_wp2_with fail
  rw [← hV]
  clear hV c0 f0
  refine (rrkey_any w1 p L r1.2.1 r1.2.2 R0).mono ?_
  rintro e u2 ⟨rfl, R1, G1⟩
  obtain ⟨r2, e1⟩ : ∃ r, r = keyRT r1.2.1 r1.2.2 := ⟨_, rfl⟩
  have E2 : Hid (r2 = keyRT r1.2.1 r1.2.2) := e1
  rw [← e1] at R1 ⊢
  have Z2 := keyRT_ok R0.byte (k := r1.2.2)
  rw [← e1] at Z2
  unfold KA.val keyOf
  have K := (G1.block N (Array.getElem?_eq_some_iff.1 K).1 (by simp; omega)).trans K
  have O := O.grown G1 hMp
  have G := grown_trans G G1
  have c1 := O.cs.c1
  have f1 := O.fz 1
  have c2 := O.cs.c2
  have f2 := O.fz 2
  have c3 := O.cs.c3
  have f3 := O.fz 3
  have c4 := O.cs.c4
  have f4 := O.fz 4
  obtain ⟨w2, hV⟩ : ∃ V, V = ((((u2.setCell ⟨N + 1, 1, none⟩ (.string r2.1.1)).setCell ⟨N + 1, 2, none⟩ (.string r2.1.2.1)).setCell ⟨N + 1, 3, none⟩ (.string r2.1.2.2.1)).setCell ⟨N + 1, 4, none⟩ (.int .u64 r2.1.2.2.2)) := ⟨_, rfl⟩
  have SB : w2.heap.size = u2.heap.size ∧ ∀ j, j ≠ N + 1 → w2.heap[j]? = u2.heap[j]? := by rw [hV]; exact (SameBut.trans (SameBut.trans (SameBut.trans (SameBut.trans ⟨rfl, fun _ _ => rfl⟩ (same_set _ _ _ _)) (same_set _ _ _ _)) (same_set _ _ _ _)) (same_set _ _ _ _))
  have R0 : R w2 p L r2.2.1 r2.2.2 := by rw [hV]; exact (R.own (R.own (R.own (R.own R1 hpM.1 hpM.2) hpM.1 hpM.2) hpM.1 hpM.2) hpM.1 hpM.2)
  have G : w.grownBy w2 (some p) := by rw [hV]; exact (grown_own (grown_own (grown_own (grown_own G hwM) hwM) hwM) hwM)
  have K := (SB.2 N (by omega)).trans K
  have O : OV w2 (N + 1) ⟨r1.1, r2.1.1, r2.1.2.1, r2.1.2.2.1, r2.1.2.2.2, ⟨#[]⟩, noBs, noBs, false, none, 0, 0⟩ (.slice none 0 0) := by rw [hV]; exact (heap_setCell_same _ (N + 1) 4 _ _ (.int .u64 r2.1.2.2.2) (heap_setCell_same _ (N + 1) 3 _ _ (.string r2.1.2.2.1) (heap_setCell_same _ (N + 1) 2 _ _ (.string r2.1.2.1) (heap_setCell_same _ (N + 1) 1 _ _ (.string r2.1.1) O))))
  clear e1 R1 G1 SB
  go_wp2_with fail
  rw [← hV]
  clear hV c1 f1 c2 f2 c3 f3 c4 f4
  refine (rBytes_low w2 p L r2.2.1 r2.2.2 32 (by decide) R0).mono ?_
  rintro e u3 ⟨bo, bn, bc, rfl, S, _, R1, G1⟩
  obtain ⟨r3, e1⟩ : ∃ r, r = txR 32 r2.2.1 r2.2.2 := ⟨_, rfl⟩
  have E3 : Hid (r3 = txR 32 r2.2.1 r2.2.2) := e1
  have R1 : R u3 p L (txR 32 r2.2.1 r2.2.2).2.1 (txR 32 r2.2.1 r2.2.2).2.2 := R1
  have cv : (convert 25 9 (.slice bo bn bc)).run Try.prog u3 = .ok (.string (txR 32 r2.2.1 r2.2.2).1) u3 := conv_str S
  rw [← e1] at R1 cv
  have Z3 := txR_ok R0.byte (k := r2.2.2)
  rw [← e1] at Z3
  have K := (G1.block N (Array.getElem?_eq_some_iff.1 K).1 (by simp; omega)).trans K
  have O := O.grown G1 hMp
  have G := grown_trans G G1
  have c5 := O.cs.c5
  have f5 := O.fz 5
  obtain ⟨w3, hV⟩ : ∃ V, V = (u3.setCell ⟨N + 1, 5, none⟩ (.string r3.1)) := ⟨_, rfl⟩
  have SB : w3.heap.size = u3.heap.size ∧ ∀ j, j ≠ N + 1 → w3.heap[j]? = u3.heap[j]? := by rw [hV]; exact (SameBut.trans ⟨rfl, fun _ _ => rfl⟩ (same_set _ _ _ _))
  have R0 : R w3 p L r3.2.1 r3.2.2 := by rw [hV]; exact (R.own R1 hpM.1 hpM.2)
  have G : w.grownBy w3 (some p) := by rw [hV]; exact (grown_own G hwM)
  have K := (SB.2 N (by omega)).trans K
  have O : OV w3 (N + 1) ⟨r1.1, r2.1.1, r2.1.2.1, r2.1.2.2.1, r2.1.2.2.2, r3.1, noBs, noBs, false, none, 0, 0⟩ (.slice none 0 0) := by rw [hV]; exact (heap_setCell_same _ (N + 1) 5 _ _ (.string r3.1) O)
  clear e1 R1 G1 SB
  go_wp2_with fail
  rw [← hV]
  clear hV c5 f5 cv S
  refine (rBytes_low w3 p L r3.2.1 r3.2.2 256 (by decide) R0).mono ?_
  rintro e u4 ⟨bo4, bn4, bc4, rfl, S, LO, R1, G1⟩
  obtain ⟨r4, e1⟩ : ∃ r, r = bytesT r3.2.1 r3.2.2 256 := ⟨_, rfl⟩
  have E4 : Hid (r4 = bytesT r3.2.1 r3.2.2 256) := e1
  rw [← e1] at S R1
  have Z4 : r4.1.length ≤ 256 := by rw [e1]; exact bytesT_le 256 _ _
  have K := (G1.block N (Array.getElem?_eq_some_iff.1 K).1 (by simp; omega)).trans K
  have O := O.grown G1 hMp
  have G := grown_trans G G1
  have c6 := O.cs.c6
  have f6 := O.fz 6
  obtain ⟨w4, hV⟩ : ∃ V, V = (u4.setCell ⟨N + 1, 6, none⟩ (.slice bo4 bn4 bc4)) := ⟨_, rfl⟩
  have SB : w4.heap.size = u4.heap.size ∧ ∀ j, j ≠ N + 1 → w4.heap[j]? = u4.heap[j]? := by rw [hV]; exact (SameBut.trans ⟨rfl, fun _ _ => rfl⟩ (same_set _ _ _ _))
  have R0 : R w4 p L r4.2.1 r4.2.2 := by rw [hV]; exact (R.own R1 hpM.1 hpM.2)
  have G : w.grownBy w4 (some p) := by rw [hV]; exact (grown_own G hwM)
  have K := (SB.2 N (by omega)).trans K
  have O : OV w4 (N + 1) ⟨r1.1, r2.1.1, r2.1.2.1, r2.1.2.2.1, r2.1.2.2.2, r3.1, ⟨bo4, bn4, bc4, r4.1⟩, noBs, false, none, 0, 0⟩ (.slice none 0 0) := by rw [hV]; exact (heap_setCell_same _ (N + 1) 6 _ _ (.slice bo4 bn4 bc4) O)
  have SA : Sl u4 bo4 bn4 bc4 r4.1 := S
  have HA : Hid (∀ a, bo4 = some a → 0 < bn4 → a.block < L) := LO
  have SA := Sl.kept (b := ⟨bo4, bn4, bc4, r4.1⟩) SA (w' := w4) (fun x hx => by
    obtain ⟨a, ha, hn, rfl⟩ := hx
    exact SB.2 _ (by have := HA.out a ha hn; omega))
  clear e1 R1 G1 SB S LO
  go_wp2_with fail
  rw [← hV]
  clear hV c6 f6
  refine (rBytes_low w4 p L r4.2.1 r4.2.2 256 (by decide) R0).mono ?_
  rintro e u5 ⟨bo5, bn5, bc5, rfl, S, LO, R1, G1⟩
  obtain ⟨r5, e1⟩ : ∃ r, r = bytesT r4.2.1 r4.2.2 256 := ⟨_, rfl⟩
  have E5 : Hid (r5 = bytesT r4.2.1 r4.2.2 256) := e1
  rw [← e1] at S R1
  have Z5 : r5.1.length ≤ 256 := by rw [e1]; exact bytesT_le 256 _ _
  have K := (G1.block N (Array.getElem?_eq_some_iff.1 K).1 (by simp; omega)).trans K
  have O := O.grown G1 hMp
  have G := grown_trans G G1
  have SA := Sl.kept (b := ⟨bo4, bn4, bc4, r4.1⟩) SA (w' := u5) (fun x hx => by
    obtain ⟨a, ha, hn, rfl⟩ := hx
    exact G1.block _ (SA.lt a ha hn) (by have := HA.out a ha hn; simp; omega))
  have c7 := O.cs.c7
  have f7 := O.fz 7
  obtain ⟨w5, hV⟩ : ∃ V, V = (u5.setCell ⟨N + 1, 7, none⟩ (.slice bo5 bn5 bc5)) := ⟨_, rfl⟩
  have SB : w5.heap.size = u5.heap.size ∧ ∀ j, j ≠ N + 1 → w5.heap[j]? = u5.heap[j]? := by rw [hV]; exact (SameBut.trans ⟨rfl, fun _ _ => rfl⟩ (same_set _ _ _ _))
  have R0 : R w5 p L r5.2.1 r5.2.2 := by rw [hV]; exact (R.own R1 hpM.1 hpM.2)
  have G : w.grownBy w5 (some p) := by rw [hV]; exact (grown_own G hwM)
  have K := (SB.2 N (by omega)).trans K
  have O : OV w5 (N + 1) ⟨r1.1, r2.1.1, r2.1.2.1, r2.1.2.2.1, r2.1.2.2.2, r3.1, ⟨bo4, bn4, bc4, r4.1⟩, ⟨bo5, bn5, bc5, r5.1⟩, false, none, 0, 0⟩ (.slice none 0 0) := by rw [hV]; exact (heap_setCell_same _ (N + 1) 7 _ _ (.slice bo5 bn5 bc5) O)
  have SB2 : Sl u5 bo5 bn5 bc5 r5.1 := S
  have HB2 : Hid (∀ a, bo5 = some a → 0 < bn5 → a.block < L) := LO
  have SA := Sl.kept (b := ⟨bo4, bn4, bc4, r4.1⟩) SA (w' := w5) (fun x hx => by
    obtain ⟨a, ha, hn, rfl⟩ := hx
    exact SB.2 _ (by have := HA.out a ha hn; omega))
  have SB2 := Sl.kept (b := ⟨bo5, bn5, bc5, r5.1⟩) SB2 (w' := w5) (fun x hx => by
    obtain ⟨a, ha, hn, rfl⟩ := hx
    exact SB.2 _ (by have := HB2.out a ha hn; omega))
  clear e1 R1 G1 SB S LO
  go_wp2_with fail
  rw [← hV]
  clear hV c7 f7
  refine (rBool_read w5 p L r5.2.1 r5.2.2 R0).mono ?_
  rintro e u6 ⟨rfl, R1, G1⟩
  obtain ⟨r6, e1⟩ : ∃ r, r = boolT r5.2.1 r5.2.2 := ⟨_, rfl⟩
  have E6 : Hid (r6 = boolT r5.2.1 r5.2.2) := e1
  rw [← e1] at R1 ⊢
  have K := (G1.block N (Array.getElem?_eq_some_iff.1 K).1 (by simp; omega)).trans K
  have O := O.grown G1 hMp
  have G := grown_trans G G1
  have SA := Sl.kept (b := ⟨bo4, bn4, bc4, r4.1⟩) SA (w' := u6) (fun x hx => by
    obtain ⟨a, ha, hn, rfl⟩ := hx
    exact G1.block _ (SA.lt a ha hn) (by have := HA.out a ha hn; simp; omega))
  have SB2 := Sl.kept (b := ⟨bo5, bn5, bc5, r5.1⟩) SB2 (w' := u6) (fun x hx => by
    obtain ⟨a, ha, hn, rfl⟩ := hx
    exact G1.block _ (SB2.lt a ha hn) (by have := HB2.out a ha hn; simp; omega))
  have c8 := O.cs.c8
  have f8 := O.fz 8
  obtain ⟨w6, hV⟩ : ∃ V, V = (u6.setCell ⟨N + 1, 8, none⟩ (.bool r6.1)) := ⟨_, rfl⟩
  have SB : w6.heap.size = u6.heap.size ∧ ∀ j, j ≠ N + 1 → w6.heap[j]? = u6.heap[j]? := by rw [hV]; exact (SameBut.trans ⟨rfl, fun _ _ => rfl⟩ (same_set _ _ _ _))
  have R0 : R w6 p L r6.2.1 r6.2.2 := by rw [hV]; exact (R.own R1 hpM.1 hpM.2)
  have G : w.grownBy w6 (some p) := by rw [hV]; exact (grown_own G hwM)
  have K := (SB.2 N (by omega)).trans K
  have O : OV w6 (N + 1) ⟨r1.1, r2.1.1, r2.1.2.1, r2.1.2.2.1, r2.1.2.2.2, r3.1, ⟨bo4, bn4, bc4, r4.1⟩, ⟨bo5, bn5, bc5, r5.1⟩, r6.1, none, 0, 0⟩ (.slice none 0 0) := by rw [hV]; exact (heap_setCell_same _ (N + 1) 8 _ _ (.bool r6.1) O)
  have SA := Sl.kept (b := ⟨bo4, bn4, bc4, r4.1⟩) SA (w' := w6) (fun x hx => by
    obtain ⟨a, ha, hn, rfl⟩ := hx
    exact SB.2 _ (by have := HA.out a ha hn; omega))
  have SB2 := Sl.kept (b := ⟨bo5, bn5, bc5, r5.1⟩) SB2 (w' := w6) (fun x hx => by
    obtain ⟨a, ha, hn, rfl⟩ := hx
    exact SB.2 _ (by have := HB2.out a ha hn; omega))
  clear e1 R1 G1 SB
  go_wp2_with fail
  rw [← hV]
  clear hV c8 f8
  refine (rInt_any w6 p L r6.2.1 r6.2.2 most (by omega) R0.byte R0).mono ?_
  rintro e u7 ⟨rfl, R1, G1⟩
  obtain ⟨r7, e1⟩ : ∃ r, r = intT r6.2.1 r6.2.2 most := ⟨_, rfl⟩
  have E7 : Hid (r7 = intT r6.2.1 r6.2.2 most) := e1
  rw [← e1] at R1 ⊢
  have Z7 : r7.1 ≤ most := by rw [e1]; exact intT_le most _ _
  have K := (G1.block N (Array.getElem?_eq_some_iff.1 K).1 (by simp; omega)).trans K
  have O := O.grown G1 hMp
  have G := grown_trans G G1
  have SA := Sl.kept (b := ⟨bo4, bn4, bc4, r4.1⟩) SA (w' := u7) (fun x hx => by
    obtain ⟨a, ha, hn, rfl⟩ := hx
    exact G1.block _ (SA.lt a ha hn) (by have := HA.out a ha hn; simp; omega))
  have SB2 := Sl.kept (b := ⟨bo5, bn5, bc5, r5.1⟩) SB2 (w' := u7) (fun x hx => by
    obtain ⟨a, ha, hn, rfl⟩ := hx
    exact G1.block _ (SB2.lt a ha hn) (by have := HB2.out a ha hn; simp; omega))
  have R0 := R1
  clear e1 R1 G1
  have HH : Hid (sR most xs k = ((⟨r1.1, r2.1.1, r2.1.2.1, r2.1.2.2.1, r2.1.2.2.2, r3.1, r4.1, r5.1, r6.1⟩, r7.1), r7.2)) := by
    have e1 := E1.out
    have e2 := E2.out
    have e3 := E3.out
    have e4 := E4.out
    have e5 := E5.out
    have e6 := E6.out
    have e7 := E7.out
    show _ = _
    subst e7 e6 e5 e4 e3 e2 e1
    rfl
  obtain ⟨o, ho⟩ : ∃ o : OA, o = ⟨r1.1, r2.1.1, r2.1.2.1, r2.1.2.2.1, r2.1.2.2.2, r3.1, ⟨bo4, bn4, bc4, r4.1⟩, ⟨bo5, bn5, bc5, r5.1⟩, r6.1, none, 0, 0⟩ := ⟨_, rfl⟩
  have HO : Hid (o = ⟨r1.1, r2.1.1, r2.1.2.1, r2.1.2.2.1, r2.1.2.2.2, r3.1, ⟨bo4, bn4, bc4, r4.1⟩, ⟨bo5, bn5, bc5, r5.1⟩, r6.1, none, 0, 0⟩) := ho
  rw [← ho] at O
  have hpos : L ≤ p ∧ p < N ∧ N < N + 1 ∧ w.heap.size ≤ N ∧ L ≤ L := by have := HN.out; omega
  have inv0 : TakeG L w p L N (N + 1) r7.1 o [] r7.2.1 r7.2.2 u7 (.slice none 0 0) [] := by
    refine ⟨R0, O, K, World.ownsRow_nil _ _ _ _, ?_, fun y hy => by simp at hy, ?_, rfl, G, Nat.zero_le _, hpos⟩
    · rw [ho]
      exact ⟨⟨by show (-9223372036854775808 : Int) ≤ (r1.1 : Int); omega, by show (r1.1 : Int) ≤ 9223372036854775807; omega⟩, Nat.le_trans Z2.1 (by decide), Nat.le_trans Z2.2.1 (by decide), Nat.le_trans Z2.2.2.1 (by decide), Z2.2.2.2, Nat.le_trans Z3 (by decide), SA, SB2, Nat.le_refl _, Nat.zero_le _, fun _ => ⟨rfl, rfl⟩⟩
    · intro x hx
      rw [ho] at hx
      refine ⟨.inl ?_, by simp [Value.ownBlock]⟩
      rcases hx with (hx | hx) | ⟨y, hy, _⟩
      · obtain ⟨a, ha, hn, rfl⟩ := hx
        exact HA.out a ha hn
      · obtain ⟨a, ha, hn, rfl⟩ := hx
        exact HB2.out a ha hn
      · simp at hy
  clear ho O K R0 G SA SB2 HA HB2 E1 E2 E3 E4 E5 E6 E7
  go_wp2_with fail
  go_loopw [7] (fun i wr => ∃ (v : Value) (l : List OA), i = .int .i64 (l.length : Nat) ∧ TakeG L w p L N (N + 1) r7.1 o (stopT (sR 0) l.length r7.2.1 r7.2.2).1 (stopT (sR 0) l.length r7.2.1 r7.2.2).2.1 (stopT (sR 0) l.length r7.2.1 r7.2.2).2.2 wr v l) (fun i _ => r7.1 - (intOf i).toNat)
  case atStart => exact ⟨_, [], rfl, inv0⟩
  case round =>
    clear inv0
    obtain ⟨v, l, rfl, inv⟩ := hrel
    obtain ⟨ao, cap, rfl, OL⟩ := OWL.own inv.own inv.oks
    have hle := inv.le
    have kk := inv.rd.kind
    by_cases hlt : l.length < r7.1
    · by_cases hq : (stopT (sR 0) l.length r7.2.1 r7.2.2).2.2 = 0
      · have i6 : (l.length : Int) < (r7.1 : Int) := by omega
        have HSN : Hid (stopT (sR 0) (l.length + 1) r7.2.1 r7.2.2 = ((stopT (sR 0) l.length r7.2.1 r7.2.2).1 ++ [(sR 0 (stopT (sR 0) l.length r7.2.1 r7.2.2).2.1 (stopT (sR 0) l.length r7.2.1 r7.2.2).2.2).1], (sR 0 (stopT (sR 0) l.length r7.2.1 r7.2.2).2.1 (stopT (sR 0) l.length r7.2.1 r7.2.2).2.2).2)) := stopT_snoc (sR 0) l.length r7.2.1 r7.2.2 hq
        obtain ⟨i0, hi, hz0, hz1, hz2⟩ := info_parts opInfo
        rw [hq] at kk
        have ib := inv.drew
        clear hq
        go_wp2_with fail
        clear kk
        obtain ⟨T, hT⟩ : ∃ T, T = (stopT (sR 0) l.length r7.2.1 r7.2.2) := ⟨_, rfl⟩
        refine wp_region_noPanic ?_
        refine wp_region_held_drew (S := fun _ => True) (by kernel_rfl) trivial (fun _ => ?_)
        obtain ⟨v0, hv0⟩ : ∃ v, v = wr.drew := ⟨_, rfl⟩
        rw [← hv0] at ib ⊢
        have RC0 := rec (by omega) v0 T.2.1 T.2.2 (by rw [hT]; exact ib.rd)
        have HI : Hid (TakeG L w p L N (N + 1) r7.1 o (stopT (sR 0) l.length r7.2.1 r7.2.2).1 (stopT (sR 0) l.length r7.2.1 r7.2.2).2.1 (stopT (sR 0) l.length r7.2.1 r7.2.2).2.2 v0 (.slice ao l.length cap) l) := ib
        have CC : Calls Try.prog 39 #[.pointer (some ⟨p, 0, none⟩), .int .i64 0] v0 fun e w' => ∃ v, e = .returned v ∧ (fun v w' => ∃ y : OA, v = y.val ∧ y.ok w' ∧ (∀ x, y.blks x → x < L ∨ v0.heap.size ≤ x) ∧ sn0 y = (sR 0 T.2.1 T.2.2).1 ∧ R w' p L (sR 0 T.2.1 T.2.2).2.1 (sR 0 T.2.1 T.2.2).2.2 ∧ v0.grownBy w' (some p)) v w' := RC0.mono fun e w' h => rpart_post h
        have HT : Hid (T = (stopT (sR 0) l.length r7.2.1 r7.2.2)) := hT
        have HCC : Hid (Calls _ _ _ _ _) := CC
        clear hv0 inv ib RC0 hT CC rec OL
        refine hr_take 0 (some 43) (.pointer (some ⟨N + 1, 9, none⟩)) rfl rfl (by kernel_rfl) (by kernel_rfl) (by kernel_rfl) rfl (fun W hW => by go_simp) trivial ?_
        simp only [Act.put, List.setIfInBounds_toArray, List.set_cons_zero, List.set_cons_succ]
        refine hr_take 2 (some 45) (.pointer (some ⟨p, 0, none⟩)) rfl rfl (by kernel_rfl) (by kernel_rfl) (by kernel_rfl) rfl (fun W hW => by go_simp) trivial ?_
        simp only [Act.put, List.setIfInBounds_toArray, List.set_cons_zero, List.set_cons_succ]
        refine hr_two (i := 1) (j := 3) (by kernel_rfl) ?_ ?_
        · have c9 : v0.cell? ⟨N + 1, 9, none⟩ = some (.slice ao l.length cap) := HI.out.ov.cs.c9
          refine op_do 1 (some 44) (.slice ao l.length cap) rfl rfl rfl (w' := v0) (by go_simp) trivial ?_
          simp only [Act.put, List.setIfInBounds_toArray, List.set_cons_zero, List.set_cons_succ]
          clear c9
          refine hr_call 3 (some 46) 39 #[.pointer (some ⟨p, 0, none⟩), .int .i64 0] rfl rfl (by kernel_rfl) rfl (by go_simp) (fun v w' => ∃ y : OA, v = y.val ∧ y.ok w' ∧ (∀ x, y.blks x → x < L ∨ v0.heap.size ≤ x) ∧ sn0 y = (sR 0 T.2.1 T.2.2).1 ∧ R w' p L (sR 0 T.2.1 T.2.2).2.1 (sR 0 T.2.1 T.2.2).2.2 ∧ v0.grownBy w' (some p)) HCC.out ?_
          rintro vv V1 ⟨y, rfl, y1, y2, y3, y4, y5⟩
          rw [HT.out] at y3 y4
          refine ⟨trivial, ?_⟩
          unfold OA.val
          simp only [Act.put, List.setIfInBounds_toArray, List.set_cons_zero, List.set_cons_succ]
          obtain ⟨g, hg⟩ : ∃ g, g = V1.heap.size := ⟨_, rfl⟩
          obtain ⟨V2, hV2⟩ : ∃ W, W = V1.alloc (.cells #[.int .i64 y.kind, .string y.row, .string y.fam, .string y.qual, .int .u64 y.time, .string y.to, .slice y.va.ao y.va.n y.va.cap, .slice y.wa.ao y.wa.n y.wa.cap, .bool y.has, .slice y.so y.sn y.sc] 28) := ⟨_, rfl⟩
          have N2 : V2.heap[g]? = some (.cells #[.int .i64 y.kind, .string y.row, .string y.fam, .string y.qual, .int .u64 y.time, .string y.to, .slice y.va.ao y.va.n y.va.cap, .slice y.wa.ao y.wa.n y.wa.cap, .bool y.has, .slice y.so y.sn y.sc] 28) := by rw [hV2, hg]; exact heap_alloc_new V1 _
          have B2 : Below V1.heap.size V1 V2 := by rw [hV2]; exact (Below.refl _ _).alloc (Nat.le_refl _) _
          refine hr_do 4 (some 47) (.slice (some ⟨g, 0, none⟩) 1 1) rfl rfl (by kernel_rfl) rfl (w' := V2) (by rw [hV2, hg]; go_simp) trivial ?_
          simp only [Act.put, List.setIfInBounds_toArray, List.set_cons_zero, List.set_cons_succ]
          have HV2 : Hid (V2 = V1.alloc (.cells #[.int .i64 y.kind, .string y.row, .string y.fam, .string y.qual, .int .u64 y.time, .string y.to, .slice y.va.ao y.va.n y.va.cap, .slice y.wa.ao y.wa.n y.wa.cap, .bool y.has, .slice y.so y.sn y.sc] 28)) := hV2
          clear hV2 hg
          have ownV1 : V1.ownsRow (N + 1 + 1) 28 10 (.slice ao l.length cap) l.length (cellsO l) := own_kept HI.out.own fun x hx => y5.block x (HI.out.ownlt hx).2 (by have := HI.out.ownlt hx; simp; omega)
          have ownV2 : V2.ownsRow (N + 1 + 1) 28 10 (.slice ao l.length cap) l.length (cellsO l) := own_kept ownV1 fun x hx => B2.block x (by have := HI.out.ownlt hx; have := y5.size; omega)
          refine hr_own 5 (some 48) rfl rfl (by kernel_rfl) rfl (.tmp 44) (.tmp 47) 26 rfl (N + 1 + 1) 28 i0 _ 10 160 Try.underlying26 hi hz0 hz1 hz2 rfl (by decide) (.slice ao l.length cap) l.length (cellsO l) rfl ownV2 ⟨g, 0, none⟩ 1 1 y.cells rfl rfl (fun j u hu => by rw [Addr.add_lit, Nat.zero_add]; exact (cell_of_row V2 g j #[.int .i64 y.kind, .string y.row, .string y.fam, .string y.qual, .int .u64 y.time, .string y.to, .slice y.va.ao y.va.n y.va.cap, .slice y.wa.ao y.wa.n y.wa.cap, .bool y.has, .slice y.so y.sn y.sc] _ (0, 0) N2).trans (show (y.cells.toArray)[j]? = some u from by rw [List.getElem?_toArray]; exact hu)) (y_one y) (by unfold maxLen; omega) (by omega) (by have := HI.out.ov.lt; have := y5.size; have := B2.size; omega) ?_
          intro v' V3 O3 G3 H3
          refine ⟨trivial, ?_⟩
          simp only [Act.put, List.setIfInBounds_toArray, List.set_cons_zero, List.set_cons_succ]
          rw [HV2.out] at G3 H3
          have ST := HI.out.step (by omega) y1 y2 y3 y4 y5 O3 G3 H3
          have ovm := HI.out.ov
          have m3 : V3.heap[N + 1]? = _ := ((G3.block (N + 1) (by have := ovm.lt; have := y5.size; simp; omega) (fun e => by have := HI.out.ownlt e.symm; omega)).trans (heap_alloc_old V1 _ (by have := ovm.lt; have := y5.size; omega))).trans ((y5.block (N + 1) ovm.lt (by simp; omega)).trans ovm)
          have d9 : V3.cell? ⟨N + 1, 9, none⟩ = some (.slice ao l.length cap) := cell_of_row V3 (N + 1) 9 _ _ _ m3
          have z9 : V3.frozen? ⟨N + 1, 9, none⟩ = false := frozen_of_row V3 (N + 1) 9 _ _ m3
          refine hr_take 6 (some 49) (.pointer (some ⟨N + 1, 9, none⟩)) rfl rfl (by kernel_rfl) (by kernel_rfl) (by kernel_rfl) rfl (fun W hW => by go_simp) trivial ?_
          simp only [Act.put, List.setIfInBounds_toArray, List.set_cons_zero, List.set_cons_succ]
          have mm := OWL.own ST.own ST.oks
          rw [List.length_append, List.length_singleton] at mm
          obtain ⟨ao3, cap3, rfl, _⟩ := mm
          refine hr_skip 7 none rfl rfl (by kernel_rfl) rfl (w' := V3.setCell ⟨N + 1, 9, none⟩ (.slice ao3 (l.length + 1) cap3)) (by go_simp) trivial ?_
          simp only [Act.put]
          refine wpAnyH_done (by kernel_rfl) ?_ _
          refine NoPanic.normal ?_
          have HST : Hid _ := ST
          clear ST ownV1 ownV2 O3 G3 H3 d9 z9 m3 ovm HV2 N2 B2 y1 y2 y3 y4 y5
          go_wp2
          go_roundw
          case rel => exact ⟨_, l ++ [y], by rw [List.length_append, List.length_singleton]; go_num, by rw [List.length_append, List.length_singleton, HSN.out]; exact HST.out⟩
          case measure => simp [intOf]; omega
        · refine op_call 3 (some 46) 39 #[.pointer (some ⟨p, 0, none⟩), .int .i64 0] rfl rfl rfl (by go_simp) (fun v w' => ∃ y : OA, v = y.val ∧ y.ok w' ∧ (∀ x, y.blks x → x < L ∨ v0.heap.size ≤ x) ∧ sn0 y = (sR 0 T.2.1 T.2.2).1 ∧ R w' p L (sR 0 T.2.1 T.2.2).2.1 (sR 0 T.2.1 T.2.2).2.2 ∧ v0.grownBy w' (some p)) HCC.out ?_
          rintro vv V1 ⟨y, rfl, y1, y2, y3, y4, y5⟩
          rw [HT.out] at y3 y4
          refine ⟨trivial, ?_⟩
          unfold OA.val
          simp only [Act.put, List.setIfInBounds_toArray, List.set_cons_zero, List.set_cons_succ]
          refine hr_two (i := 1) (j := 4) (by kernel_rfl) ?_ ?_
          · have c9 : V1.cell? ⟨N + 1, 9, none⟩ = some (.slice ao l.length cap) := (World.cell?_of_block (a := ⟨N + 1, 9, none⟩) (y5.block (N + 1) HI.out.ov.lt (by simp; omega))).trans HI.out.ov.cs.c9
            refine op_do 1 (some 44) (.slice ao l.length cap) rfl rfl rfl (w' := V1) (by go_simp) trivial ?_
            simp only [Act.put, List.setIfInBounds_toArray, List.set_cons_zero, List.set_cons_succ]
            clear c9
            obtain ⟨g, hg⟩ : ∃ g, g = V1.heap.size := ⟨_, rfl⟩
            obtain ⟨V2, hV2⟩ : ∃ W, W = V1.alloc (.cells #[.int .i64 y.kind, .string y.row, .string y.fam, .string y.qual, .int .u64 y.time, .string y.to, .slice y.va.ao y.va.n y.va.cap, .slice y.wa.ao y.wa.n y.wa.cap, .bool y.has, .slice y.so y.sn y.sc] 28) := ⟨_, rfl⟩
            have N2 : V2.heap[g]? = some (.cells #[.int .i64 y.kind, .string y.row, .string y.fam, .string y.qual, .int .u64 y.time, .string y.to, .slice y.va.ao y.va.n y.va.cap, .slice y.wa.ao y.wa.n y.wa.cap, .bool y.has, .slice y.so y.sn y.sc] 28) := by rw [hV2, hg]; exact heap_alloc_new V1 _
            have B2 : Below V1.heap.size V1 V2 := by rw [hV2]; exact (Below.refl _ _).alloc (Nat.le_refl _) _
            refine hr_do 4 (some 47) (.slice (some ⟨g, 0, none⟩) 1 1) rfl rfl (by kernel_rfl) rfl (w' := V2) (by rw [hV2, hg]; go_simp) trivial ?_
            simp only [Act.put, List.setIfInBounds_toArray, List.set_cons_zero, List.set_cons_succ]
            have HV2 : Hid (V2 = V1.alloc (.cells #[.int .i64 y.kind, .string y.row, .string y.fam, .string y.qual, .int .u64 y.time, .string y.to, .slice y.va.ao y.va.n y.va.cap, .slice y.wa.ao y.wa.n y.wa.cap, .bool y.has, .slice y.so y.sn y.sc] 28)) := hV2
            clear hV2 hg
            have ownV1 : V1.ownsRow (N + 1 + 1) 28 10 (.slice ao l.length cap) l.length (cellsO l) := own_kept HI.out.own fun x hx => y5.block x (HI.out.ownlt hx).2 (by have := HI.out.ownlt hx; simp; omega)
            have ownV2 : V2.ownsRow (N + 1 + 1) 28 10 (.slice ao l.length cap) l.length (cellsO l) := own_kept ownV1 fun x hx => B2.block x (by have := HI.out.ownlt hx; have := y5.size; omega)
            refine hr_own 5 (some 48) rfl rfl (by kernel_rfl) rfl (.tmp 44) (.tmp 47) 26 rfl (N + 1 + 1) 28 i0 _ 10 160 Try.underlying26 hi hz0 hz1 hz2 rfl (by decide) (.slice ao l.length cap) l.length (cellsO l) rfl ownV2 ⟨g, 0, none⟩ 1 1 y.cells rfl rfl (fun j u hu => by rw [Addr.add_lit, Nat.zero_add]; exact (cell_of_row V2 g j #[.int .i64 y.kind, .string y.row, .string y.fam, .string y.qual, .int .u64 y.time, .string y.to, .slice y.va.ao y.va.n y.va.cap, .slice y.wa.ao y.wa.n y.wa.cap, .bool y.has, .slice y.so y.sn y.sc] _ (0, 0) N2).trans (show (y.cells.toArray)[j]? = some u from by rw [List.getElem?_toArray]; exact hu)) (y_one y) (by unfold maxLen; omega) (by omega) (by have := HI.out.ov.lt; have := y5.size; have := B2.size; omega) ?_
            intro v' V3 O3 G3 H3
            refine ⟨trivial, ?_⟩
            simp only [Act.put, List.setIfInBounds_toArray, List.set_cons_zero, List.set_cons_succ]
            rw [HV2.out] at G3 H3
            have ST := HI.out.step (by omega) y1 y2 y3 y4 y5 O3 G3 H3
            have ovm := HI.out.ov
            have m3 : V3.heap[N + 1]? = _ := ((G3.block (N + 1) (by have := ovm.lt; have := y5.size; simp; omega) (fun e => by have := HI.out.ownlt e.symm; omega)).trans (heap_alloc_old V1 _ (by have := ovm.lt; have := y5.size; omega))).trans ((y5.block (N + 1) ovm.lt (by simp; omega)).trans ovm)
            have d9 : V3.cell? ⟨N + 1, 9, none⟩ = some (.slice ao l.length cap) := cell_of_row V3 (N + 1) 9 _ _ _ m3
            have z9 : V3.frozen? ⟨N + 1, 9, none⟩ = false := frozen_of_row V3 (N + 1) 9 _ _ m3
            refine hr_take 6 (some 49) (.pointer (some ⟨N + 1, 9, none⟩)) rfl rfl (by kernel_rfl) (by kernel_rfl) (by kernel_rfl) rfl (fun W hW => by go_simp) trivial ?_
            simp only [Act.put, List.setIfInBounds_toArray, List.set_cons_zero, List.set_cons_succ]
            have mm := OWL.own ST.own ST.oks
            rw [List.length_append, List.length_singleton] at mm
            obtain ⟨ao3, cap3, rfl, _⟩ := mm
            refine hr_skip 7 none rfl rfl (by kernel_rfl) rfl (w' := V3.setCell ⟨N + 1, 9, none⟩ (.slice ao3 (l.length + 1) cap3)) (by go_simp) trivial ?_
            simp only [Act.put]
            refine wpAnyH_done (by kernel_rfl) ?_ _
            refine NoPanic.normal ?_
            have HST : Hid _ := ST
            clear ST ownV1 ownV2 O3 G3 H3 d9 z9 m3 ovm HV2 N2 B2 y1 y2 y3 y4 y5
            go_wp2
            go_roundw
            case rel => exact ⟨_, l ++ [y], by rw [List.length_append, List.length_singleton]; go_num, by rw [List.length_append, List.length_singleton, HSN.out]; exact HST.out⟩
            case measure => simp [intOf]; omega
          · obtain ⟨g, hg⟩ : ∃ g, g = V1.heap.size := ⟨_, rfl⟩
            obtain ⟨V2, hV2⟩ : ∃ W, W = V1.alloc (.cells #[.int .i64 y.kind, .string y.row, .string y.fam, .string y.qual, .int .u64 y.time, .string y.to, .slice y.va.ao y.va.n y.va.cap, .slice y.wa.ao y.wa.n y.wa.cap, .bool y.has, .slice y.so y.sn y.sc] 28) := ⟨_, rfl⟩
            have N2 : V2.heap[g]? = some (.cells #[.int .i64 y.kind, .string y.row, .string y.fam, .string y.qual, .int .u64 y.time, .string y.to, .slice y.va.ao y.va.n y.va.cap, .slice y.wa.ao y.wa.n y.wa.cap, .bool y.has, .slice y.so y.sn y.sc] 28) := by rw [hV2, hg]; exact heap_alloc_new V1 _
            have B2 : Below V1.heap.size V1 V2 := by rw [hV2]; exact (Below.refl _ _).alloc (Nat.le_refl _) _
            refine op_do 4 (some 47) (.slice (some ⟨g, 0, none⟩) 1 1) rfl rfl rfl (w' := V2) (by rw [hV2, hg]; go_simp) trivial ?_
            simp only [Act.put, List.setIfInBounds_toArray, List.set_cons_zero, List.set_cons_succ]
            have HV2 : Hid (V2 = V1.alloc (.cells #[.int .i64 y.kind, .string y.row, .string y.fam, .string y.qual, .int .u64 y.time, .string y.to, .slice y.va.ao y.va.n y.va.cap, .slice y.wa.ao y.wa.n y.wa.cap, .bool y.has, .slice y.so y.sn y.sc] 28)) := hV2
            clear hV2 hg
            have c9 : V2.cell? ⟨N + 1, 9, none⟩ = some (.slice ao l.length cap) := (B2.cell (World.block_lt_of_cell? V1 ⟨N + 1, 9, none⟩ ((World.cell?_of_block (a := ⟨N + 1, 9, none⟩) (y5.block (N + 1) HI.out.ov.lt (by simp; omega))).trans HI.out.ov.cs.c9))).trans ((World.cell?_of_block (a := ⟨N + 1, 9, none⟩) (y5.block (N + 1) HI.out.ov.lt (by simp; omega))).trans HI.out.ov.cs.c9)
            refine hr_do 1 (some 44) (.slice ao l.length cap) rfl rfl (by kernel_rfl) rfl (w' := V2) (by go_simp) trivial ?_
            simp only [Act.put, List.setIfInBounds_toArray, List.set_cons_zero, List.set_cons_succ]
            clear c9
            have ownV1 : V1.ownsRow (N + 1 + 1) 28 10 (.slice ao l.length cap) l.length (cellsO l) := own_kept HI.out.own fun x hx => y5.block x (HI.out.ownlt hx).2 (by have := HI.out.ownlt hx; simp; omega)
            have ownV2 : V2.ownsRow (N + 1 + 1) 28 10 (.slice ao l.length cap) l.length (cellsO l) := own_kept ownV1 fun x hx => B2.block x (by have := HI.out.ownlt hx; have := y5.size; omega)
            refine hr_own 5 (some 48) rfl rfl (by kernel_rfl) rfl (.tmp 44) (.tmp 47) 26 rfl (N + 1 + 1) 28 i0 _ 10 160 Try.underlying26 hi hz0 hz1 hz2 rfl (by decide) (.slice ao l.length cap) l.length (cellsO l) rfl ownV2 ⟨g, 0, none⟩ 1 1 y.cells rfl rfl (fun j u hu => by rw [Addr.add_lit, Nat.zero_add]; exact (cell_of_row V2 g j #[.int .i64 y.kind, .string y.row, .string y.fam, .string y.qual, .int .u64 y.time, .string y.to, .slice y.va.ao y.va.n y.va.cap, .slice y.wa.ao y.wa.n y.wa.cap, .bool y.has, .slice y.so y.sn y.sc] _ (0, 0) N2).trans (show (y.cells.toArray)[j]? = some u from by rw [List.getElem?_toArray]; exact hu)) (y_one y) (by unfold maxLen; omega) (by omega) (by have := HI.out.ov.lt; have := y5.size; have := B2.size; omega) ?_
            intro v' V3 O3 G3 H3
            refine ⟨trivial, ?_⟩
            simp only [Act.put, List.setIfInBounds_toArray, List.set_cons_zero, List.set_cons_succ]
            rw [HV2.out] at G3 H3
            have ST := HI.out.step (by omega) y1 y2 y3 y4 y5 O3 G3 H3
            have ovm := HI.out.ov
            have m3 : V3.heap[N + 1]? = _ := ((G3.block (N + 1) (by have := ovm.lt; have := y5.size; simp; omega) (fun e => by have := HI.out.ownlt e.symm; omega)).trans (heap_alloc_old V1 _ (by have := ovm.lt; have := y5.size; omega))).trans ((y5.block (N + 1) ovm.lt (by simp; omega)).trans ovm)
            have d9 : V3.cell? ⟨N + 1, 9, none⟩ = some (.slice ao l.length cap) := cell_of_row V3 (N + 1) 9 _ _ _ m3
            have z9 : V3.frozen? ⟨N + 1, 9, none⟩ = false := frozen_of_row V3 (N + 1) 9 _ _ m3
            refine hr_take 6 (some 49) (.pointer (some ⟨N + 1, 9, none⟩)) rfl rfl (by kernel_rfl) (by kernel_rfl) (by kernel_rfl) rfl (fun W hW => by go_simp) trivial ?_
            simp only [Act.put, List.setIfInBounds_toArray, List.set_cons_zero, List.set_cons_succ]
            have mm := OWL.own ST.own ST.oks
            rw [List.length_append, List.length_singleton] at mm
            obtain ⟨ao3, cap3, rfl, _⟩ := mm
            refine hr_skip 7 none rfl rfl (by kernel_rfl) rfl (w' := V3.setCell ⟨N + 1, 9, none⟩ (.slice ao3 (l.length + 1) cap3)) (by go_simp) trivial ?_
            simp only [Act.put]
            refine wpAnyH_done (by kernel_rfl) ?_ _
            refine NoPanic.normal ?_
            have HST : Hid _ := ST
            clear ST ownV1 ownV2 O3 G3 H3 d9 z9 m3 ovm HV2 N2 B2 y1 y2 y3 y4 y5
            go_wp2
            go_roundw
            case rel => exact ⟨_, l ++ [y], by rw [List.length_append, List.length_singleton]; go_num, by rw [List.length_append, List.length_singleton, HSN.out]; exact HST.out⟩
            case measure => simp [intOf]; omega
      · have i6 : (l.length : Int) < (r7.1 : Int) := by omega
        have i7 : ((stopT (sR 0) l.length r7.2.1 r7.2.2).2.2 == 0) = false := by simp [hq]
        have HEQ : Hid (stopT (sR 0) r7.1 r7.2.1 r7.2.2 = (stopT (sR 0) l.length r7.2.1 r7.2.2)) := stopT_halt (sR 0) l.length r7.1 r7.2.1 r7.2.2 hle hq
        clear hq rec
        have n0 : wr.cell? ⟨N, 0, none⟩ = some (.int .i64 0) := cell_of_row wr N 0 _ _ _ inv.res
        have n1 : wr.cell? ⟨N, 1, none⟩ = some (.string ⟨#[]⟩) := cell_of_row wr N 1 _ _ _ inv.res
        have n2 : wr.cell? ⟨N, 2, none⟩ = some (.string ⟨#[]⟩) := cell_of_row wr N 2 _ _ _ inv.res
        have n3 : wr.cell? ⟨N, 3, none⟩ = some (.string ⟨#[]⟩) := cell_of_row wr N 3 _ _ _ inv.res
        have n4 : wr.cell? ⟨N, 4, none⟩ = some (.int .u64 0) := cell_of_row wr N 4 _ _ _ inv.res
        have n5 : wr.cell? ⟨N, 5, none⟩ = some (.string ⟨#[]⟩) := cell_of_row wr N 5 _ _ _ inv.res
        have n6 : wr.cell? ⟨N, 6, none⟩ = some (.slice none 0 0) := cell_of_row wr N 6 _ _ _ inv.res
        have n7 : wr.cell? ⟨N, 7, none⟩ = some (.slice none 0 0) := cell_of_row wr N 7 _ _ _ inv.res
        have n8 : wr.cell? ⟨N, 8, none⟩ = some (.bool false) := cell_of_row wr N 8 _ _ _ inv.res
        have n9 : wr.cell? ⟨N, 9, none⟩ = some (.slice none 0 0) := cell_of_row wr N 9 _ _ _ inv.res
        have g0 : wr.frozen? ⟨N, 0, none⟩ = false := frozen_of_row wr N 0 _ _ inv.res
        have g1 : wr.frozen? ⟨N, 1, none⟩ = false := frozen_of_row wr N 1 _ _ inv.res
        have g2 : wr.frozen? ⟨N, 2, none⟩ = false := frozen_of_row wr N 2 _ _ inv.res
        have g3 : wr.frozen? ⟨N, 3, none⟩ = false := frozen_of_row wr N 3 _ _ inv.res
        have g4 : wr.frozen? ⟨N, 4, none⟩ = false := frozen_of_row wr N 4 _ _ inv.res
        have g5 : wr.frozen? ⟨N, 5, none⟩ = false := frozen_of_row wr N 5 _ _ inv.res
        have g6 : wr.frozen? ⟨N, 6, none⟩ = false := frozen_of_row wr N 6 _ _ inv.res
        have g7 : wr.frozen? ⟨N, 7, none⟩ = false := frozen_of_row wr N 7 _ _ inv.res
        have g8 : wr.frozen? ⟨N, 8, none⟩ = false := frozen_of_row wr N 8 _ _ inv.res
        have g9 : wr.frozen? ⟨N, 9, none⟩ = false := frozen_of_row wr N 9 _ _ inv.res
        obtain ⟨q0, q1, q2, q3, q4, q5, q6, q7, q8, q9⟩ := inv.ov.cs
        have SB : ((((((((((wr.setCell ⟨N, 0, none⟩ (.int .i64 o.kind)).setCell ⟨N, 1, none⟩ (.string o.row)).setCell ⟨N, 2, none⟩ (.string o.fam)).setCell ⟨N, 3, none⟩ (.string o.qual)).setCell ⟨N, 4, none⟩ (.int .u64 o.time)).setCell ⟨N, 5, none⟩ (.string o.to)).setCell ⟨N, 6, none⟩ (.slice o.va.ao o.va.n o.va.cap)).setCell ⟨N, 7, none⟩ (.slice o.wa.ao o.wa.n o.wa.cap)).setCell ⟨N, 8, none⟩ (.bool o.has)).setCell ⟨N, 9, none⟩ (.slice ao l.length cap)).heap.size = wr.heap.size ∧ ∀ j, j ≠ N → ((((((((((wr.setCell ⟨N, 0, none⟩ (.int .i64 o.kind)).setCell ⟨N, 1, none⟩ (.string o.row)).setCell ⟨N, 2, none⟩ (.string o.fam)).setCell ⟨N, 3, none⟩ (.string o.qual)).setCell ⟨N, 4, none⟩ (.int .u64 o.time)).setCell ⟨N, 5, none⟩ (.string o.to)).setCell ⟨N, 6, none⟩ (.slice o.va.ao o.va.n o.va.cap)).setCell ⟨N, 7, none⟩ (.slice o.wa.ao o.wa.n o.wa.cap)).setCell ⟨N, 8, none⟩ (.bool o.has)).setCell ⟨N, 9, none⟩ (.slice ao l.length cap)).heap[j]? = wr.heap[j]? := (SameBut.trans (SameBut.trans (SameBut.trans (SameBut.trans (SameBut.trans (SameBut.trans (SameBut.trans (SameBut.trans (SameBut.trans (SameBut.trans ⟨rfl, fun _ _ => rfl⟩ (same_set _ _ _ _)) (same_set _ _ _ _)) (same_set _ _ _ _)) (same_set _ _ _ _)) (same_set _ _ _ _)) (same_set _ _ _ _)) (same_set _ _ _ _)) (same_set _ _ _ _)) (same_set _ _ _ _)) (same_set _ _ _ _))
        have kp : ∀ x, (x < L ∨ N + 1 < x) → x ≠ N := fun x hx => by omega
        have okV : o.ok ((((((((((wr.setCell ⟨N, 0, none⟩ (.int .i64 o.kind)).setCell ⟨N, 1, none⟩ (.string o.row)).setCell ⟨N, 2, none⟩ (.string o.fam)).setCell ⟨N, 3, none⟩ (.string o.qual)).setCell ⟨N, 4, none⟩ (.int .u64 o.time)).setCell ⟨N, 5, none⟩ (.string o.to)).setCell ⟨N, 6, none⟩ (.slice o.va.ao o.va.n o.va.cap)).setCell ⟨N, 7, none⟩ (.slice o.wa.ao o.wa.n o.wa.cap)).setCell ⟨N, 8, none⟩ (.bool o.has)).setCell ⟨N, 9, none⟩ (.slice ao l.length cap)) := inv.ok.kept fun x hx => SB.2 x (kp x (inv.far x (.inl hx)).1)
        have oksV : ∀ y ∈ l, y.ok ((((((((((wr.setCell ⟨N, 0, none⟩ (.int .i64 o.kind)).setCell ⟨N, 1, none⟩ (.string o.row)).setCell ⟨N, 2, none⟩ (.string o.fam)).setCell ⟨N, 3, none⟩ (.string o.qual)).setCell ⟨N, 4, none⟩ (.int .u64 o.time)).setCell ⟨N, 5, none⟩ (.string o.to)).setCell ⟨N, 6, none⟩ (.slice o.va.ao o.va.n o.va.cap)).setCell ⟨N, 7, none⟩ (.slice o.wa.ao o.wa.n o.wa.cap)).setCell ⟨N, 8, none⟩ (.bool o.has)).setCell ⟨N, 9, none⟩ (.slice ao l.length cap)) := fun y hy => (inv.oks y hy).kept fun x hx => SB.2 x (kp x (inv.far x (.inr ⟨y, hy, hx⟩)).1)
        have ownV : ((((((((((wr.setCell ⟨N, 0, none⟩ (.int .i64 o.kind)).setCell ⟨N, 1, none⟩ (.string o.row)).setCell ⟨N, 2, none⟩ (.string o.fam)).setCell ⟨N, 3, none⟩ (.string o.qual)).setCell ⟨N, 4, none⟩ (.int .u64 o.time)).setCell ⟨N, 5, none⟩ (.string o.to)).setCell ⟨N, 6, none⟩ (.slice o.va.ao o.va.n o.va.cap)).setCell ⟨N, 7, none⟩ (.slice o.wa.ao o.wa.n o.wa.cap)).setCell ⟨N, 8, none⟩ (.bool o.has)).setCell ⟨N, 9, none⟩ (.slice ao l.length cap)).ownsRow (N + 1 + 1) 28 10 (.slice ao l.length cap) l.length (cellsO l) := own_kept inv.own fun g hg => SB.2 g (by have := inv.ownlt hg; omega)
        have rdV : Hid (R ((((((((((wr.setCell ⟨N, 0, none⟩ (.int .i64 o.kind)).setCell ⟨N, 1, none⟩ (.string o.row)).setCell ⟨N, 2, none⟩ (.string o.fam)).setCell ⟨N, 3, none⟩ (.string o.qual)).setCell ⟨N, 4, none⟩ (.int .u64 o.time)).setCell ⟨N, 5, none⟩ (.string o.to)).setCell ⟨N, 6, none⟩ (.slice o.va.ao o.va.n o.va.cap)).setCell ⟨N, 7, none⟩ (.slice o.wa.ao o.wa.n o.wa.cap)).setCell ⟨N, 8, none⟩ (.bool o.has)).setCell ⟨N, 9, none⟩ (.slice ao l.length cap)) p L (stopT (sR 0) l.length r7.2.1 r7.2.2).2.1 (stopT (sR 0) l.length r7.2.1 r7.2.2).2.2) := by
          have r := inv.rd
          have r := r.own (q := N) (i := 0) (v := .int .i64 o.kind) (by omega) (by omega)
          have r := r.own (q := N) (i := 1) (v := .string o.row) (by omega) (by omega)
          have r := r.own (q := N) (i := 2) (v := .string o.fam) (by omega) (by omega)
          have r := r.own (q := N) (i := 3) (v := .string o.qual) (by omega) (by omega)
          have r := r.own (q := N) (i := 4) (v := .int .u64 o.time) (by omega) (by omega)
          have r := r.own (q := N) (i := 5) (v := .string o.to) (by omega) (by omega)
          have r := r.own (q := N) (i := 6) (v := .slice o.va.ao o.va.n o.va.cap) (by omega) (by omega)
          have r := r.own (q := N) (i := 7) (v := .slice o.wa.ao o.wa.n o.wa.cap) (by omega) (by omega)
          have r := r.own (q := N) (i := 8) (v := .bool o.has) (by omega) (by omega)
          have r := r.own (q := N) (i := 9) (v := .slice ao l.length cap) (by omega) (by omega)
          exact r
        have grV : Hid (w.grownBy ((((((((((wr.setCell ⟨N, 0, none⟩ (.int .i64 o.kind)).setCell ⟨N, 1, none⟩ (.string o.row)).setCell ⟨N, 2, none⟩ (.string o.fam)).setCell ⟨N, 3, none⟩ (.string o.qual)).setCell ⟨N, 4, none⟩ (.int .u64 o.time)).setCell ⟨N, 5, none⟩ (.string o.to)).setCell ⟨N, 6, none⟩ (.slice o.va.ao o.va.n o.va.cap)).setCell ⟨N, 7, none⟩ (.slice o.wa.ao o.wa.n o.wa.cap)).setCell ⟨N, 8, none⟩ (.bool o.has)).setCell ⟨N, 9, none⟩ (.slice ao l.length cap)) (some p)) := by
          have r := inv.gr
          have r := grown_own (q := N) (i := 0) (v := .int .i64 o.kind) r hpos.2.2.2.1
          have r := grown_own (q := N) (i := 1) (v := .string o.row) r hpos.2.2.2.1
          have r := grown_own (q := N) (i := 2) (v := .string o.fam) r hpos.2.2.2.1
          have r := grown_own (q := N) (i := 3) (v := .string o.qual) r hpos.2.2.2.1
          have r := grown_own (q := N) (i := 4) (v := .int .u64 o.time) r hpos.2.2.2.1
          have r := grown_own (q := N) (i := 5) (v := .string o.to) r hpos.2.2.2.1
          have r := grown_own (q := N) (i := 6) (v := .slice o.va.ao o.va.n o.va.cap) r hpos.2.2.2.1
          have r := grown_own (q := N) (i := 7) (v := .slice o.wa.ao o.wa.n o.wa.cap) r hpos.2.2.2.1
          have r := grown_own (q := N) (i := 8) (v := .bool o.has) r hpos.2.2.2.1
          have r := grown_own (q := N) (i := 9) (v := .slice ao l.length cap) r hpos.2.2.2.1
          exact r
        have HI : Hid (TakeG L w p L N (N + 1) r7.1 o (stopT (sR 0) l.length r7.2.1 r7.2.2).1 (stopT (sR 0) l.length r7.2.1 r7.2.2).2.1 (stopT (sR 0) l.length r7.2.1 r7.2.2).2.2 wr (.slice ao l.length cap) l) := inv
        obtain ⟨ao2, cap2, ee, OLV⟩ := OWL.own ownV oksV
        have okP : Hid (OA.ok ⟨o.kind, o.row, o.fam, o.qual, o.time, o.to, o.va, o.wa, o.has, ao, l.length, cap⟩ ((((((((((wr.setCell ⟨N, 0, none⟩ (.int .i64 o.kind)).setCell ⟨N, 1, none⟩ (.string o.row)).setCell ⟨N, 2, none⟩ (.string o.fam)).setCell ⟨N, 3, none⟩ (.string o.qual)).setCell ⟨N, 4, none⟩ (.int .u64 o.time)).setCell ⟨N, 5, none⟩ (.string o.to)).setCell ⟨N, 6, none⟩ (.slice o.va.ao o.va.n o.va.cap)).setCell ⟨N, 7, none⟩ (.slice o.wa.ao o.wa.n o.wa.cap)).setCell ⟨N, 8, none⟩ (.bool o.has)).setCell ⟨N, 9, none⟩ (.slice ao l.length cap))) := ⟨okV.kind, okV.row, okV.fam, okV.qual, okV.time, okV.to, okV.va, okV.wa, OL.le, OL.mx, OL.nil⟩
        have OLW : Hid (OWL ((((((((((wr.setCell ⟨N, 0, none⟩ (.int .i64 o.kind)).setCell ⟨N, 1, none⟩ (.string o.row)).setCell ⟨N, 2, none⟩ (.string o.fam)).setCell ⟨N, 3, none⟩ (.string o.qual)).setCell ⟨N, 4, none⟩ (.int .u64 o.time)).setCell ⟨N, 5, none⟩ (.string o.to)).setCell ⟨N, 6, none⟩ (.slice o.va.ao o.va.n o.va.cap)).setCell ⟨N, 7, none⟩ (.slice o.wa.ao o.wa.n o.wa.cap)).setCell ⟨N, 8, none⟩ (.bool o.has)).setCell ⟨N, 9, none⟩ (.slice ao l.length cap)) 0 ao l.length cap l) := by
          show OWL ((((((((((wr.setCell ⟨N, 0, none⟩ (.int .i64 o.kind)).setCell ⟨N, 1, none⟩ (.string o.row)).setCell ⟨N, 2, none⟩ (.string o.fam)).setCell ⟨N, 3, none⟩ (.string o.qual)).setCell ⟨N, 4, none⟩ (.int .u64 o.time)).setCell ⟨N, 5, none⟩ (.string o.to)).setCell ⟨N, 6, none⟩ (.slice o.va.ao o.va.n o.va.cap)).setCell ⟨N, 7, none⟩ (.slice o.wa.ao o.wa.n o.wa.cap)).setCell ⟨N, 8, none⟩ (.bool o.has)).setCell ⟨N, 9, none⟩ (.slice ao l.length cap)) 0 ao l.length cap l
          simp only [Value.slice.injEq] at ee
          obtain ⟨rfl, _, rfl⟩ := ee
          exact OLV
        clear inv okV oksV ownV OLV ee SB OL
        go_wp2
        refine bodyPost_ret (v := .agg #[.int .i64 o.kind, .string o.row, .string o.fam, .string o.qual, .int .u64 o.time, .string o.to, .slice o.va.ao o.va.n o.va.cap, .slice o.wa.ao o.wa.n o.wa.cap, .bool o.has, .slice ao l.length cap]) (by simp [results, Try.results39, go_sem, n0, n1, n2, n3, n4, n5, n6, n7, n8, n9]) rfl ?_
        refine ⟨⟨o.kind, o.row, o.fam, o.qual, o.time, o.to, o.va, o.wa, o.has, ao, l.length, cap⟩, l, rfl, okP.out, OLW.out, ?_, ?_, ?_, ?_⟩
        · intro x hx
          have h0 := HI.out.pos
          rcases hx with hx | hx | hx
          · have := (HI.out.far x (.inl hx)).1
            omega
          · obtain ⟨a, ha, hn, rfl⟩ := hx
            have ha : ao = some a := ha
            have := HI.out.ownlt (g := a.block) (by rw [ha]; rfl)
            exact .inr (by omega)
          · have := (HI.out.far x (.inr hx)).1
            omega
        · rw [HH.out]
          show o.s = _
          rw [HO.out]
          rfl
        · rw [HH.out]
          show l.map sn0 = (stopT (sR 0) r7.1 r7.2.1 r7.2.2).1
          rw [HEQ.out]
          exact HI.out.thr
        · rw [HH.out]
          show Left w p L (stopT (sR 0) r7.1 r7.2.1 r7.2.2).2 _
          rw [HEQ.out]
          exact ⟨rdV.out, grV.out⟩
    · have i6 : (r7.1 : Int) ≤ (l.length : Int) := by omega
      have HEQ : Hid (stopT (sR 0) r7.1 r7.2.1 r7.2.2 = (stopT (sR 0) l.length r7.2.1 r7.2.2)) := by
        show stopT (sR 0) r7.1 r7.2.1 r7.2.2 = (stopT (sR 0) l.length r7.2.1 r7.2.2)
        rw [show l.length = r7.1 by omega]
      clear rec
      have n0 : wr.cell? ⟨N, 0, none⟩ = some (.int .i64 0) := cell_of_row wr N 0 _ _ _ inv.res
      have n1 : wr.cell? ⟨N, 1, none⟩ = some (.string ⟨#[]⟩) := cell_of_row wr N 1 _ _ _ inv.res
      have n2 : wr.cell? ⟨N, 2, none⟩ = some (.string ⟨#[]⟩) := cell_of_row wr N 2 _ _ _ inv.res
      have n3 : wr.cell? ⟨N, 3, none⟩ = some (.string ⟨#[]⟩) := cell_of_row wr N 3 _ _ _ inv.res
      have n4 : wr.cell? ⟨N, 4, none⟩ = some (.int .u64 0) := cell_of_row wr N 4 _ _ _ inv.res
      have n5 : wr.cell? ⟨N, 5, none⟩ = some (.string ⟨#[]⟩) := cell_of_row wr N 5 _ _ _ inv.res
      have n6 : wr.cell? ⟨N, 6, none⟩ = some (.slice none 0 0) := cell_of_row wr N 6 _ _ _ inv.res
      have n7 : wr.cell? ⟨N, 7, none⟩ = some (.slice none 0 0) := cell_of_row wr N 7 _ _ _ inv.res
      have n8 : wr.cell? ⟨N, 8, none⟩ = some (.bool false) := cell_of_row wr N 8 _ _ _ inv.res
      have n9 : wr.cell? ⟨N, 9, none⟩ = some (.slice none 0 0) := cell_of_row wr N 9 _ _ _ inv.res
      have g0 : wr.frozen? ⟨N, 0, none⟩ = false := frozen_of_row wr N 0 _ _ inv.res
      have g1 : wr.frozen? ⟨N, 1, none⟩ = false := frozen_of_row wr N 1 _ _ inv.res
      have g2 : wr.frozen? ⟨N, 2, none⟩ = false := frozen_of_row wr N 2 _ _ inv.res
      have g3 : wr.frozen? ⟨N, 3, none⟩ = false := frozen_of_row wr N 3 _ _ inv.res
      have g4 : wr.frozen? ⟨N, 4, none⟩ = false := frozen_of_row wr N 4 _ _ inv.res
      have g5 : wr.frozen? ⟨N, 5, none⟩ = false := frozen_of_row wr N 5 _ _ inv.res
      have g6 : wr.frozen? ⟨N, 6, none⟩ = false := frozen_of_row wr N 6 _ _ inv.res
      have g7 : wr.frozen? ⟨N, 7, none⟩ = false := frozen_of_row wr N 7 _ _ inv.res
      have g8 : wr.frozen? ⟨N, 8, none⟩ = false := frozen_of_row wr N 8 _ _ inv.res
      have g9 : wr.frozen? ⟨N, 9, none⟩ = false := frozen_of_row wr N 9 _ _ inv.res
      obtain ⟨q0, q1, q2, q3, q4, q5, q6, q7, q8, q9⟩ := inv.ov.cs
      have SB : ((((((((((wr.setCell ⟨N, 0, none⟩ (.int .i64 o.kind)).setCell ⟨N, 1, none⟩ (.string o.row)).setCell ⟨N, 2, none⟩ (.string o.fam)).setCell ⟨N, 3, none⟩ (.string o.qual)).setCell ⟨N, 4, none⟩ (.int .u64 o.time)).setCell ⟨N, 5, none⟩ (.string o.to)).setCell ⟨N, 6, none⟩ (.slice o.va.ao o.va.n o.va.cap)).setCell ⟨N, 7, none⟩ (.slice o.wa.ao o.wa.n o.wa.cap)).setCell ⟨N, 8, none⟩ (.bool o.has)).setCell ⟨N, 9, none⟩ (.slice ao l.length cap)).heap.size = wr.heap.size ∧ ∀ j, j ≠ N → ((((((((((wr.setCell ⟨N, 0, none⟩ (.int .i64 o.kind)).setCell ⟨N, 1, none⟩ (.string o.row)).setCell ⟨N, 2, none⟩ (.string o.fam)).setCell ⟨N, 3, none⟩ (.string o.qual)).setCell ⟨N, 4, none⟩ (.int .u64 o.time)).setCell ⟨N, 5, none⟩ (.string o.to)).setCell ⟨N, 6, none⟩ (.slice o.va.ao o.va.n o.va.cap)).setCell ⟨N, 7, none⟩ (.slice o.wa.ao o.wa.n o.wa.cap)).setCell ⟨N, 8, none⟩ (.bool o.has)).setCell ⟨N, 9, none⟩ (.slice ao l.length cap)).heap[j]? = wr.heap[j]? := (SameBut.trans (SameBut.trans (SameBut.trans (SameBut.trans (SameBut.trans (SameBut.trans (SameBut.trans (SameBut.trans (SameBut.trans (SameBut.trans ⟨rfl, fun _ _ => rfl⟩ (same_set _ _ _ _)) (same_set _ _ _ _)) (same_set _ _ _ _)) (same_set _ _ _ _)) (same_set _ _ _ _)) (same_set _ _ _ _)) (same_set _ _ _ _)) (same_set _ _ _ _)) (same_set _ _ _ _)) (same_set _ _ _ _))
      have kp : ∀ x, (x < L ∨ N + 1 < x) → x ≠ N := fun x hx => by omega
      have okV : o.ok ((((((((((wr.setCell ⟨N, 0, none⟩ (.int .i64 o.kind)).setCell ⟨N, 1, none⟩ (.string o.row)).setCell ⟨N, 2, none⟩ (.string o.fam)).setCell ⟨N, 3, none⟩ (.string o.qual)).setCell ⟨N, 4, none⟩ (.int .u64 o.time)).setCell ⟨N, 5, none⟩ (.string o.to)).setCell ⟨N, 6, none⟩ (.slice o.va.ao o.va.n o.va.cap)).setCell ⟨N, 7, none⟩ (.slice o.wa.ao o.wa.n o.wa.cap)).setCell ⟨N, 8, none⟩ (.bool o.has)).setCell ⟨N, 9, none⟩ (.slice ao l.length cap)) := inv.ok.kept fun x hx => SB.2 x (kp x (inv.far x (.inl hx)).1)
      have oksV : ∀ y ∈ l, y.ok ((((((((((wr.setCell ⟨N, 0, none⟩ (.int .i64 o.kind)).setCell ⟨N, 1, none⟩ (.string o.row)).setCell ⟨N, 2, none⟩ (.string o.fam)).setCell ⟨N, 3, none⟩ (.string o.qual)).setCell ⟨N, 4, none⟩ (.int .u64 o.time)).setCell ⟨N, 5, none⟩ (.string o.to)).setCell ⟨N, 6, none⟩ (.slice o.va.ao o.va.n o.va.cap)).setCell ⟨N, 7, none⟩ (.slice o.wa.ao o.wa.n o.wa.cap)).setCell ⟨N, 8, none⟩ (.bool o.has)).setCell ⟨N, 9, none⟩ (.slice ao l.length cap)) := fun y hy => (inv.oks y hy).kept fun x hx => SB.2 x (kp x (inv.far x (.inr ⟨y, hy, hx⟩)).1)
      have ownV : ((((((((((wr.setCell ⟨N, 0, none⟩ (.int .i64 o.kind)).setCell ⟨N, 1, none⟩ (.string o.row)).setCell ⟨N, 2, none⟩ (.string o.fam)).setCell ⟨N, 3, none⟩ (.string o.qual)).setCell ⟨N, 4, none⟩ (.int .u64 o.time)).setCell ⟨N, 5, none⟩ (.string o.to)).setCell ⟨N, 6, none⟩ (.slice o.va.ao o.va.n o.va.cap)).setCell ⟨N, 7, none⟩ (.slice o.wa.ao o.wa.n o.wa.cap)).setCell ⟨N, 8, none⟩ (.bool o.has)).setCell ⟨N, 9, none⟩ (.slice ao l.length cap)).ownsRow (N + 1 + 1) 28 10 (.slice ao l.length cap) l.length (cellsO l) := own_kept inv.own fun g hg => SB.2 g (by have := inv.ownlt hg; omega)
      have rdV : Hid (R ((((((((((wr.setCell ⟨N, 0, none⟩ (.int .i64 o.kind)).setCell ⟨N, 1, none⟩ (.string o.row)).setCell ⟨N, 2, none⟩ (.string o.fam)).setCell ⟨N, 3, none⟩ (.string o.qual)).setCell ⟨N, 4, none⟩ (.int .u64 o.time)).setCell ⟨N, 5, none⟩ (.string o.to)).setCell ⟨N, 6, none⟩ (.slice o.va.ao o.va.n o.va.cap)).setCell ⟨N, 7, none⟩ (.slice o.wa.ao o.wa.n o.wa.cap)).setCell ⟨N, 8, none⟩ (.bool o.has)).setCell ⟨N, 9, none⟩ (.slice ao l.length cap)) p L (stopT (sR 0) l.length r7.2.1 r7.2.2).2.1 (stopT (sR 0) l.length r7.2.1 r7.2.2).2.2) := by
        have r := inv.rd
        have r := r.own (q := N) (i := 0) (v := .int .i64 o.kind) (by omega) (by omega)
        have r := r.own (q := N) (i := 1) (v := .string o.row) (by omega) (by omega)
        have r := r.own (q := N) (i := 2) (v := .string o.fam) (by omega) (by omega)
        have r := r.own (q := N) (i := 3) (v := .string o.qual) (by omega) (by omega)
        have r := r.own (q := N) (i := 4) (v := .int .u64 o.time) (by omega) (by omega)
        have r := r.own (q := N) (i := 5) (v := .string o.to) (by omega) (by omega)
        have r := r.own (q := N) (i := 6) (v := .slice o.va.ao o.va.n o.va.cap) (by omega) (by omega)
        have r := r.own (q := N) (i := 7) (v := .slice o.wa.ao o.wa.n o.wa.cap) (by omega) (by omega)
        have r := r.own (q := N) (i := 8) (v := .bool o.has) (by omega) (by omega)
        have r := r.own (q := N) (i := 9) (v := .slice ao l.length cap) (by omega) (by omega)
        exact r
      have grV : Hid (w.grownBy ((((((((((wr.setCell ⟨N, 0, none⟩ (.int .i64 o.kind)).setCell ⟨N, 1, none⟩ (.string o.row)).setCell ⟨N, 2, none⟩ (.string o.fam)).setCell ⟨N, 3, none⟩ (.string o.qual)).setCell ⟨N, 4, none⟩ (.int .u64 o.time)).setCell ⟨N, 5, none⟩ (.string o.to)).setCell ⟨N, 6, none⟩ (.slice o.va.ao o.va.n o.va.cap)).setCell ⟨N, 7, none⟩ (.slice o.wa.ao o.wa.n o.wa.cap)).setCell ⟨N, 8, none⟩ (.bool o.has)).setCell ⟨N, 9, none⟩ (.slice ao l.length cap)) (some p)) := by
        have r := inv.gr
        have r := grown_own (q := N) (i := 0) (v := .int .i64 o.kind) r hpos.2.2.2.1
        have r := grown_own (q := N) (i := 1) (v := .string o.row) r hpos.2.2.2.1
        have r := grown_own (q := N) (i := 2) (v := .string o.fam) r hpos.2.2.2.1
        have r := grown_own (q := N) (i := 3) (v := .string o.qual) r hpos.2.2.2.1
        have r := grown_own (q := N) (i := 4) (v := .int .u64 o.time) r hpos.2.2.2.1
        have r := grown_own (q := N) (i := 5) (v := .string o.to) r hpos.2.2.2.1
        have r := grown_own (q := N) (i := 6) (v := .slice o.va.ao o.va.n o.va.cap) r hpos.2.2.2.1
        have r := grown_own (q := N) (i := 7) (v := .slice o.wa.ao o.wa.n o.wa.cap) r hpos.2.2.2.1
        have r := grown_own (q := N) (i := 8) (v := .bool o.has) r hpos.2.2.2.1
        have r := grown_own (q := N) (i := 9) (v := .slice ao l.length cap) r hpos.2.2.2.1
        exact r
      have HI : Hid (TakeG L w p L N (N + 1) r7.1 o (stopT (sR 0) l.length r7.2.1 r7.2.2).1 (stopT (sR 0) l.length r7.2.1 r7.2.2).2.1 (stopT (sR 0) l.length r7.2.1 r7.2.2).2.2 wr (.slice ao l.length cap) l) := inv
      obtain ⟨ao2, cap2, ee, OLV⟩ := OWL.own ownV oksV
      have okP : Hid (OA.ok ⟨o.kind, o.row, o.fam, o.qual, o.time, o.to, o.va, o.wa, o.has, ao, l.length, cap⟩ ((((((((((wr.setCell ⟨N, 0, none⟩ (.int .i64 o.kind)).setCell ⟨N, 1, none⟩ (.string o.row)).setCell ⟨N, 2, none⟩ (.string o.fam)).setCell ⟨N, 3, none⟩ (.string o.qual)).setCell ⟨N, 4, none⟩ (.int .u64 o.time)).setCell ⟨N, 5, none⟩ (.string o.to)).setCell ⟨N, 6, none⟩ (.slice o.va.ao o.va.n o.va.cap)).setCell ⟨N, 7, none⟩ (.slice o.wa.ao o.wa.n o.wa.cap)).setCell ⟨N, 8, none⟩ (.bool o.has)).setCell ⟨N, 9, none⟩ (.slice ao l.length cap))) := ⟨okV.kind, okV.row, okV.fam, okV.qual, okV.time, okV.to, okV.va, okV.wa, OL.le, OL.mx, OL.nil⟩
      have OLW : Hid (OWL ((((((((((wr.setCell ⟨N, 0, none⟩ (.int .i64 o.kind)).setCell ⟨N, 1, none⟩ (.string o.row)).setCell ⟨N, 2, none⟩ (.string o.fam)).setCell ⟨N, 3, none⟩ (.string o.qual)).setCell ⟨N, 4, none⟩ (.int .u64 o.time)).setCell ⟨N, 5, none⟩ (.string o.to)).setCell ⟨N, 6, none⟩ (.slice o.va.ao o.va.n o.va.cap)).setCell ⟨N, 7, none⟩ (.slice o.wa.ao o.wa.n o.wa.cap)).setCell ⟨N, 8, none⟩ (.bool o.has)).setCell ⟨N, 9, none⟩ (.slice ao l.length cap)) 0 ao l.length cap l) := by
        show OWL ((((((((((wr.setCell ⟨N, 0, none⟩ (.int .i64 o.kind)).setCell ⟨N, 1, none⟩ (.string o.row)).setCell ⟨N, 2, none⟩ (.string o.fam)).setCell ⟨N, 3, none⟩ (.string o.qual)).setCell ⟨N, 4, none⟩ (.int .u64 o.time)).setCell ⟨N, 5, none⟩ (.string o.to)).setCell ⟨N, 6, none⟩ (.slice o.va.ao o.va.n o.va.cap)).setCell ⟨N, 7, none⟩ (.slice o.wa.ao o.wa.n o.wa.cap)).setCell ⟨N, 8, none⟩ (.bool o.has)).setCell ⟨N, 9, none⟩ (.slice ao l.length cap)) 0 ao l.length cap l
        simp only [Value.slice.injEq] at ee
        obtain ⟨rfl, _, rfl⟩ := ee
        exact OLV
      clear inv okV oksV ownV OLV ee SB OL
      go_wp2
      refine bodyPost_ret (v := .agg #[.int .i64 o.kind, .string o.row, .string o.fam, .string o.qual, .int .u64 o.time, .string o.to, .slice o.va.ao o.va.n o.va.cap, .slice o.wa.ao o.wa.n o.wa.cap, .bool o.has, .slice ao l.length cap]) (by simp [results, Try.results39, go_sem, n0, n1, n2, n3, n4, n5, n6, n7, n8, n9]) rfl ?_
      refine ⟨⟨o.kind, o.row, o.fam, o.qual, o.time, o.to, o.va, o.wa, o.has, ao, l.length, cap⟩, l, rfl, okP.out, OLW.out, ?_, ?_, ?_, ?_⟩
      · intro x hx
        have h0 := HI.out.pos
        rcases hx with hx | hx | hx
        · have := (HI.out.far x (.inl hx)).1
          omega
        · obtain ⟨a, ha, hn, rfl⟩ := hx
          have ha : ao = some a := ha
          have := HI.out.ownlt (g := a.block) (by rw [ha]; rfl)
          exact .inr (by omega)
        · have := (HI.out.far x (.inr hx)).1
          omega
      · rw [HH.out]
        show o.s = _
        rw [HO.out]
        rfl
      · rw [HH.out]
        show l.map sn0 = (stopT (sR 0) r7.1 r7.2.1 r7.2.2).1
        rw [HEQ.out]
        exact HI.out.thr
      · rw [HH.out]
        show Left w p L (stopT (sR 0) r7.1 r7.2.1 r7.2.2).2 _
        rw [HEQ.out]
        exact ⟨rdV.out, grV.out⟩
end Go.Proofs.Ytbfcilfdeemnpaa

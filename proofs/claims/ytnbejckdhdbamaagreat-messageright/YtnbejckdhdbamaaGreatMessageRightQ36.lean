/-
  Texts in one: PRdRF.
-/
import Derived.Test.YtnbejckdhdbamaaGreatMessageRightQFL
import Derived.Test.YtnbejckdhdbamaaGreatMessageRightQ35
namespace Go.Proofs.YtnbejckdhdbamaaGreat
open Go.RowKit
structure RdrPostF (w : World) (t : Sum Int RV) (e : Ending) (w' : World) : Prop where
 bad : ∀ k, t = .inl k → e = .returned (.tuple #[resV 0 none 0 0 false, .int .i64 k])
 good : ∀ q : RV, t = .inr q → ∃ (c : Int) (ao : Option Addr) (n cap : Nat) (l : List CA) (m : Bool), e = .returned (.tuple #[resV c ao n cap m, .int .i64 0]) ∧ CL w' ao n cap l ∧ q = resR c l m ∧ ∀ x, (sblk ao n x ∨ ∃ c ∈ l, c.va.blk x) → w.heap.size ≤ x
 bel : Below w.heap.size w w'
set_option maxRecDepth 100000 in
set_option maxHeartbeats 16000000 in
theorem prdr_far (w : World) (ao : Option Addr) (n cap : Nat) (xs : List Int) (h : Sl w ao n cap xs) (hn : n ≤ 1000000) :
  Calls Tryz.prog 81 #[.slice ao n cap] w (RdrPostF w (rdR xs)) := by
 have HRD : Hid (rdR xs = rdT resTh kindR xs) := rd_thr thr_r kindR xs
 have K0 : RW (w.alloc (.cells #[.int .i64 0, .slice none 0 0, .bool false] 28)) w.heap.size 0 (.slice none 0 0) false := heap_alloc_new w _
 have B0 : Below w.heap.size w (w.alloc (.cells #[.int .i64 0, .slice none 0 0, .bool false] 28)) := (Below.refl _ w).alloc (Nat.le_refl _) _
 have h0 := h.below B0
 clear h
 go_enter Tryz.func81, Tryz.ntmps81
 go_wp2_with fail
 obtain ⟨w0, hw0⟩ : ∃ W, W = w.alloc (.cells #[.int .i64 0, .slice none 0 0, .bool false] 28) := ⟨_, rfl⟩
 obtain ⟨N, hN⟩ : ∃ N, N = w.heap.size := ⟨_, rfl⟩
 rw [← hw0] at K0 B0 h0 ⊢
 rw [← hN] at K0 B0 ⊢
 have HN : Hid (N = w.heap.size) := hN
 clear hw0 hN
 refine (read_any w0 ao n cap xs h0 (by omega)).mono ?_
 rintro e w1 ⟨p, rfl, hp, R1, C1⟩
 have K1 := K0.kept (C1.block N K0.lt)
 have lN := K0.lt
 have B1 := B0.trans (C1.mono (by omega))
 have hNp : N < p := by omega
 clear K0 B0 C1 h0 hp lN
 go_wp2_with fail
 refine (int_any w1 p p xs 0 100 (by decide) R1.byte R1).mono ?_
 rintro e w2 ⟨rfl, R2, G2⟩
 obtain ⟨r1, e1⟩ : ∃ r, r = intS xs 0 100 := ⟨_, rfl⟩
 have ER1 : Hid (r1 = intS xs 0 100) := e1
 rw [← e1] at R2 ⊢
 have K2 := K1.kept (G2.block N K1.lt (by simp; omega))
 have B2 := B1.trans (below_grown G2 (by have := B1.size; have := HN.out; omega) (by omega))
 clear e1 K1 R1 B1 G2
 obtain ⟨M, hM⟩ : ∃ M, M = w2.heap.size := ⟨_, rfl⟩
 obtain ⟨w3, hw3⟩ : ∃ W, W = w2.alloc (.cells #[.int .i64 r1.1, .slice none 0 0, .bool false] 28) := ⟨_, rfl⟩
 have C3 : Below w2.heap.size w2 w3 := by rw [hw3]; exact (Below.refl _ _).alloc (Nat.le_refl _) _
 have X3 : RW w3 M r1.1 (.slice none 0 0) false := by rw [hw3, hM]; exact heap_alloc_new w2 _
 have hpM : p < M := by rw [hM]; exact R2.plt.1
 have R3 := R2.below C3
 have K3 := K2.kept (C3.block N K2.lt)
 have B3 := B2.trans (C3.mono (by have := B2.size; have := HN.out; omega))
 go_wp2_with fail
 rw [← hw3, ← hM]
 clear hw3 hM C3 K2 R2 B2
 refine (int_any w3 p p r1.2.1 r1.2.2 16 (by decide) R3.byte R3).mono ?_
 rintro e w4 ⟨rfl, R4, G4⟩
 obtain ⟨r2, e2⟩ : ∃ r, r = intS r1.2.1 r1.2.2 16 := ⟨_, rfl⟩
 have ER2 : Hid (r2 = intS r1.2.1 r1.2.2 16) := e2
 have Z2 : r2.1 ≤ 16 := by rw [e2]; exact intS_le _ _ 16
 rw [← e2] at R4 ⊢
 have inv4 : ResInv w p p N M r2.1 r1.1 r2.2.1 r2.2.2 w4 (.slice none 0 0) [] := ⟨R4, X3.kept (G4.block M X3.lt (by simp; omega)), K3.kept (G4.block N K3.lt (by simp; omega)), ⟨rfl, .inl ⟨rfl, rfl⟩⟩, fun _ h => by simp at h, fun x h => by obtain ⟨y, hy, _⟩ := h; simp at hy, rfl, B3.trans (below_grown G4 (by have := B3.size; have := HN.out; omega) (by omega)), Nat.zero_le _, ⟨Nat.le_refl _, hpM, hNp⟩⟩
 clear e2 R4 X3 K3 B3 G4 R3
 go_wp2_with fail
 go_loopw [14] (fun i wr => ∃ (v : Value) (l : List CA), i = .int .i64 (l.length : Nat) ∧ ResInv w p p N M r2.1 r1.1 r2.2.1 r2.2.2 wr v l) (fun i _ => r2.1 - (intOf i).toNat)
 case atStart => exact ⟨_, [], rfl, inv4⟩
 case round =>
  clear inv4
  obtain ⟨v, l, rfl, inv⟩ := hrel
  obtain ⟨ao1, cap1, rfl, CL1⟩ := CL.own inv.own inv.oks
  by_cases hlt : l.length < r2.1
  ·have i6 : (l.length : Int) < (r2.1 : Int) := by omega
   clear CL1
   obtain ⟨i0, hi, hz0, hz1, hz2⟩ := info_parts cellInfo
   go_wp2_with fail
   have inv0 := inv.drew
   obtain ⟨T, hT⟩ : ∃ T, T = repT cT l.length r2.2.1 r2.2.2 := ⟨_, rfl⟩
   refine wp_region_noPanic ?_
   refine wp_region_held_drew (S := fun _ => True) (by kernel_rfl) trivial (fun _ => ?_)
   obtain ⟨v0, hv0⟩ : ∃ v, v = wr.drew := ⟨_, rfl⟩
   rw [← hv0] at inv0 ⊢
   have HI : Hid (ResInv w p p N M r2.1 r1.1 r2.2.1 r2.2.2 v0 (.slice ao1 l.length cap1) l) := inv0
   have R0 : R v0 p p T.2.1 T.2.2 := by rw [hT]; exact inv0.rd
   have m0 : RW v0 M r1.1 (.slice ao1 l.length cap1) false := inv0.ov
   have HT : Hid (T = repT cT l.length r2.2.1 r2.2.2) := hT
   clear hv0 inv inv0 hT
   refine hr_take 0 (some 16) (.pointer (some ⟨M, 1, none⟩)) rfl rfl (by kernel_rfl) (by kernel_rfl) (by kernel_rfl) rfl (fun W hW => by go_simp) trivial ?_
   simp only [FL]
   refine hr_take 2 (some 18) (.pointer (some ⟨p, 0, none⟩)) rfl rfl (by kernel_rfl) (by kernel_rfl) (by kernel_rfl) rfl (fun W hW => by go_simp) trivial ?_
   simp only [FL]
   refine hr_take 4 (some 20) (.pointer (some ⟨p, 0, none⟩)) rfl rfl (by kernel_rfl) (by kernel_rfl) (by kernel_rfl) rfl (fun W hW => by go_simp) trivial ?_
   simp only [FL]
   refine hr_take 6 (some 22) (.pointer (some ⟨p, 0, none⟩)) rfl rfl (by kernel_rfl) (by kernel_rfl) (by kernel_rfl) rfl (fun W hW => by go_simp) trivial ?_
   simp only [FL]
   refine hr_two (i := 1) (j := 3) (by kernel_rfl) ?_ ?_
   ·have c1 : v0.cell? ⟨M, 1, none⟩ = some (.slice ao1 l.length cap1) := m0.c1
    refine op_do 1 (some 17) (.slice ao1 l.length cap1) rfl rfl rfl (w' := v0) (by go_simp) trivial ?_
    simp only [FL]
    clear c1
    refine hr_call 3 (some 19) 110 #[.pointer (some ⟨p, 0, none⟩)] rfl rfl (by kernel_rfl) rfl (by go_simp) (fun v w' => v = (keyOf (keyT T.2.1 T.2.2).1).val ∧ Left v0 p p (keyT T.2.1 T.2.2).2 w') ((tkey_any v0 p p T.2.1 T.2.2 R0).mono (fun e w' h => ⟨_, h.1, rfl, h.2⟩)) ?_
    rintro vv U1 ⟨rfl, R1, G1⟩
    refine ⟨trivial, ?_⟩
    have Zk := keyT_ok R0.byte (k := T.2.2)
    obtain ⟨k1, hk1⟩ : ∃ r, r = keyT T.2.1 T.2.2 := ⟨_, rfl⟩
    have HK1 : Hid (k1 = keyT T.2.1 T.2.2) := hk1
    rw [← hk1] at R1 Zk ⊢
    have m1 := m0.kept (G1.block M m0.lt (by simp; omega))
    unfold KA.val keyOf
    simp only [FL]
    clear hk1
    refine hr_call 5 (some 21) 39 #[.pointer (some ⟨p, 0, none⟩), .int .i64 256] rfl rfl (by kernel_rfl) rfl (by go_simp) (fun v w' => ∃ bo bn bc, v = .slice bo bn bc ∧ Sl w' bo bn bc (bytesS k1.2.1 k1.2.2 256).1 ∧ (∀ a, bo = some a → U1.heap.size ≤ a.block) ∧ R w' p p (bytesS k1.2.1 k1.2.2 256).2.1 (bytesS k1.2.1 k1.2.2 256).2.2 ∧ U1.grownBy w' (some p)) ((bytes_any U1 p p k1.2.1 k1.2.2 256 (by decide) R1).mono (fun e w' h => by obtain ⟨bo, bn, bc, h1, h2⟩ := h; exact ⟨_, h1, bo, bn, bc, rfl, h2⟩)) ?_
    rintro vv U2 ⟨bo, bn, bc, rfl, S2, F2, R2, G2⟩
    refine ⟨trivial, ?_⟩
    obtain ⟨k2, hk2⟩ : ∃ r, r = bytesS k1.2.1 k1.2.2 256 := ⟨_, rfl⟩
    have HK2 : Hid (k2 = bytesS k1.2.1 k1.2.2 256) := hk2
    rw [← hk2] at S2 R2
    have m2 := m1.kept (G2.block M m1.lt (by simp; omega))
    simp only [FL]
    clear hk2
    refine hr_call 7 (some 23) 111 #[.pointer (some ⟨p, 0, none⟩)] rfl rfl (by kernel_rfl) rfl (by go_simp) (fun v w' => v = .bool (boolS k2.2.1 k2.2.2).1 ∧ R w' p p (boolS k2.2.1 k2.2.2).2.1 (boolS k2.2.1 k2.2.2).2.2 ∧ U2.grownBy w' (some p)) ((bool_any U2 p p k2.2.1 k2.2.2 R2).mono (fun e w' h => ⟨_, h.1, rfl, h.2⟩)) ?_
    rintro vv U3 ⟨rfl, R3, G3⟩
    refine ⟨trivial, ?_⟩
    obtain ⟨k3, hk3⟩ : ∃ r, r = boolS k2.2.1 k2.2.2 := ⟨_, rfl⟩
    have HK3 : Hid (k3 = boolS k2.2.1 k2.2.2) := hk3
    rw [← hk3] at R3 ⊢
    have m3 := m2.kept (G3.block M m2.lt (by simp; omega))
    simp only [FL]
    clear hk3
    refine hr_take 8 (some 24) (.agg #[.string k1.1.1, .string k1.1.2.1, .string k1.1.2.2.1, .int .u64 k1.1.2.2.2, .slice bo bn bc, .bool k3.1]) rfl rfl (by kernel_rfl) (by kernel_rfl) (by kernel_rfl) rfl (fun W hW => by go_simp) trivial ?_
    simp only [FL]
    obtain ⟨g, hg⟩ : ∃ g, g = U3.heap.size := ⟨_, rfl⟩
    obtain ⟨U4, hU4⟩ : ∃ W, W = U3.alloc (.cells #[.string k1.1.1, .string k1.1.2.1, .string k1.1.2.2.1, .int .u64 k1.1.2.2.2, .slice bo bn bc, .bool k3.1] 98) := ⟨_, rfl⟩
    have N4 : U4.heap[g]? = some (.cells #[.string k1.1.1, .string k1.1.2.1, .string k1.1.2.2.1, .int .u64 k1.1.2.2.2, .slice bo bn bc, .bool k3.1] 98) := by rw [hU4, hg]; exact heap_alloc_new U3 _
    have B4 : Below U3.heap.size U3 U4 := by rw [hU4]; exact (Below.refl _ _).alloc (Nat.le_refl _) _
    refine hr_do 9 (some 25) (.slice (some ⟨g, 0, none⟩) 1 1) rfl rfl (by kernel_rfl) rfl (w' := U4) (by rw [hU4, hg]; go_simp) trivial ?_
    simp only [FL]
    have HU4 : Hid (U4 = U3.alloc (.cells #[.string k1.1.1, .string k1.1.2.1, .string k1.1.2.2.1, .int .u64 k1.1.2.2.2, .slice bo bn bc, .bool k3.1] 98)) := hU4
    clear hU4 hg
    have y5 : v0.grownBy U3 (some p) := grown_trans (grown_trans G1 G2) G3
    have S3 : Sl U3 bo bn bc k2.1 := Sl.kept (b := ⟨bo, bn, bc, k2.1⟩) S2 (fun x hx => by
     obtain ⟨a, ha, hn, rfl⟩ := hx
     exact G3.block _ (S2.lt a ha hn) (by have := F2 a ha; have := m1.lt; simp; omega))
    have y1 : (⟨k1.1.1, k1.1.2.1, k1.1.2.2.1, k1.1.2.2.2, ⟨bo, bn, bc, k2.1⟩, k3.1⟩ : CA).ok U3 := ⟨by show k1.1.1.size ≤ maxLen; unfold maxLen; omega, by show k1.1.2.1.size ≤ maxLen; unfold maxLen; omega, by show k1.1.2.2.1.size ≤ maxLen; unfold maxLen; omega, Zk.2.2.2, S3⟩
    have y2 : ∀ x, (⟨k1.1.1, k1.1.2.1, k1.1.2.2.1, k1.1.2.2.2, ⟨bo, bn, bc, k2.1⟩, k3.1⟩ : CA).va.blk x → v0.heap.size ≤ x := fun x hx => by
     obtain ⟨a, ha, hn, rfl⟩ := hx
     have := F2 a ha
     have := G1.size
     omega
    have y3 : (⟨k1.1.1, k1.1.2.1, k1.1.2.2.1, k1.1.2.2.2, ⟨bo, bn, bc, k2.1⟩, k3.1⟩ : CA).c = (cT T.2.1 T.2.2).1 := by
     rw [cT_key, ← HK1.out, ← HK2.out, ← HK3.out]
     rfl
    have y4 : R U3 p p (cT T.2.1 T.2.2).2.1 (cT T.2.1 T.2.2).2.2 := by
     rw [cT_key, ← HK1.out, ← HK2.out, ← HK3.out]
     exact R3
    rw [HT.out] at y3 y4
    have ownU3 : U3.ownsRow (M + 1) 98 6 (.slice ao1 l.length cap1) l.length (cellsC l) := own_kept HI.out.own fun x hx => y5.block x (HI.out.ownlt hx).2 (by have := HI.out.ownlt hx; simp; omega)
    have ownU4 : U4.ownsRow (M + 1) 98 6 (.slice ao1 l.length cap1) l.length (cellsC l) := own_kept ownU3 fun x hx => B4.block x (by have := HI.out.ownlt hx; have := y5.size; omega)
    refine hr_own 10 (some 26) rfl rfl (by kernel_rfl) rfl (.tmp 17) (.tmp 25) 26 rfl (M + 1) 98 i0 _ 6 88 Tryz.underlying26 hi hz0 hz1 hz2 rfl (by decide) (.slice ao1 l.length cap1) l.length (cellsC l) rfl ownU4 ⟨g, 0, none⟩ 1 1 (⟨k1.1.1, k1.1.2.1, k1.1.2.2.1, k1.1.2.2.2, ⟨bo, bn, bc, k2.1⟩, k3.1⟩ : CA).cells rfl rfl (fun j u hu => by rw [Addr.add_lit, Nat.zero_add]; exact (cell_of_row U4 g j #[.string k1.1.1, .string k1.1.2.1, .string k1.1.2.2.1, .int .u64 k1.1.2.2.2, .slice bo bn bc, .bool k3.1] _ (0, 0) N4).trans (show ((⟨k1.1.1, k1.1.2.1, k1.1.2.2.1, k1.1.2.2.2, ⟨bo, bn, bc, k2.1⟩, k3.1⟩ : CA).cells.toArray)[j]? = some u from by rw [List.getElem?_toArray]; exact hu)) (c_one (⟨k1.1.1, k1.1.2.1, k1.1.2.2.1, k1.1.2.2.2, ⟨bo, bn, bc, k2.1⟩, k3.1⟩ : CA)) (by unfold maxLen; omega) (by omega) (by have := m3.lt; have := B4.size; omega) ?_
    intro v' U5 O5 G5 H5
    refine ⟨trivial, ?_⟩
    simp only [FL]
    rw [HU4.out] at G5 H5
    have ST := HI.out.step (by omega) y1 y2 y3 y4 y5 O5 G5 H5
    have n5 : RW U5 M r1.1 (.slice ao1 l.length cap1) false := m3.kept ((G5.block M (by have := m3.lt; simp; omega) (fun e => by have := HI.out.ownlt e.symm; omega)).trans (heap_alloc_old U3 _ m3.lt))
    have d1 := n5.c1
    have z1 := n5.fz 1
    refine hr_take 11 (some 27) (.pointer (some ⟨M, 1, none⟩)) rfl rfl (by kernel_rfl) (by kernel_rfl) (by kernel_rfl) rfl (fun W hW => by go_simp) trivial ?_
    simp only [FL]
    have mm := CL.own ST.own ST.oks
    rw [List.length_append, List.length_singleton] at mm
    obtain ⟨ao3, cap3, rfl, _⟩ := mm
    refine hr_skip 12 none rfl rfl (by kernel_rfl) rfl (w' := U5.setCell ⟨M, 1, none⟩ (.slice ao3 (l.length + 1) cap3)) (by go_simp) trivial ?_
    simp only [Act.put]
    refine wpAnyH_done (by kernel_rfl) ?_ _
    refine NoPanic.normal ?_
    have HST : Hid _ := ST
    clear ST ownU3 ownU4 O5 G5 H5 d1 z1 n5 HU4 N4 B4 y1 y2 y3 y4 y5 S3 S2 R1 R2 R3 G1 G2 G3 m0 m1 m2 m3
    go_wp2
    go_roundw
    case rel => exact ⟨_, l ++ [_], by rw [List.length_append, List.length_singleton]; go_num, HST.out⟩
    case measure => simp [intOf]; omega
   ·refine op_call 3 (some 19) 110 #[.pointer (some ⟨p, 0, none⟩)] rfl rfl rfl (by go_simp) (fun v w' => v = (keyOf (keyT T.2.1 T.2.2).1).val ∧ Left v0 p p (keyT T.2.1 T.2.2).2 w') ((tkey_any v0 p p T.2.1 T.2.2 R0).mono (fun e w' h => ⟨_, h.1, rfl, h.2⟩)) ?_
    rintro vv U1 ⟨rfl, R1, G1⟩
    refine ⟨trivial, ?_⟩
    have Zk := keyT_ok R0.byte (k := T.2.2)
    obtain ⟨k1, hk1⟩ : ∃ r, r = keyT T.2.1 T.2.2 := ⟨_, rfl⟩
    have HK1 : Hid (k1 = keyT T.2.1 T.2.2) := hk1
    rw [← hk1] at R1 Zk ⊢
    have m1 := m0.kept (G1.block M m0.lt (by simp; omega))
    unfold KA.val keyOf
    simp only [FL]
    clear hk1
    refine hr_two (i := 1) (j := 5) (by kernel_rfl) ?_ ?_
    ·have c1 : U1.cell? ⟨M, 1, none⟩ = some (.slice ao1 l.length cap1) := m1.c1
     refine op_do 1 (some 17) (.slice ao1 l.length cap1) rfl rfl rfl (w' := U1) (by go_simp) trivial ?_
     simp only [FL]
     clear c1
     refine hr_call 5 (some 21) 39 #[.pointer (some ⟨p, 0, none⟩), .int .i64 256] rfl rfl (by kernel_rfl) rfl (by go_simp) (fun v w' => ∃ bo bn bc, v = .slice bo bn bc ∧ Sl w' bo bn bc (bytesS k1.2.1 k1.2.2 256).1 ∧ (∀ a, bo = some a → U1.heap.size ≤ a.block) ∧ R w' p p (bytesS k1.2.1 k1.2.2 256).2.1 (bytesS k1.2.1 k1.2.2 256).2.2 ∧ U1.grownBy w' (some p)) ((bytes_any U1 p p k1.2.1 k1.2.2 256 (by decide) R1).mono (fun e w' h => by obtain ⟨bo, bn, bc, h1, h2⟩ := h; exact ⟨_, h1, bo, bn, bc, rfl, h2⟩)) ?_
     rintro vv U2 ⟨bo, bn, bc, rfl, S2, F2, R2, G2⟩
     refine ⟨trivial, ?_⟩
     obtain ⟨k2, hk2⟩ : ∃ r, r = bytesS k1.2.1 k1.2.2 256 := ⟨_, rfl⟩
     have HK2 : Hid (k2 = bytesS k1.2.1 k1.2.2 256) := hk2
     rw [← hk2] at S2 R2
     have m2 := m1.kept (G2.block M m1.lt (by simp; omega))
     simp only [FL]
     clear hk2
     refine hr_call 7 (some 23) 111 #[.pointer (some ⟨p, 0, none⟩)] rfl rfl (by kernel_rfl) rfl (by go_simp) (fun v w' => v = .bool (boolS k2.2.1 k2.2.2).1 ∧ R w' p p (boolS k2.2.1 k2.2.2).2.1 (boolS k2.2.1 k2.2.2).2.2 ∧ U2.grownBy w' (some p)) ((bool_any U2 p p k2.2.1 k2.2.2 R2).mono (fun e w' h => ⟨_, h.1, rfl, h.2⟩)) ?_
     rintro vv U3 ⟨rfl, R3, G3⟩
     refine ⟨trivial, ?_⟩
     obtain ⟨k3, hk3⟩ : ∃ r, r = boolS k2.2.1 k2.2.2 := ⟨_, rfl⟩
     have HK3 : Hid (k3 = boolS k2.2.1 k2.2.2) := hk3
     rw [← hk3] at R3 ⊢
     have m3 := m2.kept (G3.block M m2.lt (by simp; omega))
     simp only [FL]
     clear hk3
     refine hr_take 8 (some 24) (.agg #[.string k1.1.1, .string k1.1.2.1, .string k1.1.2.2.1, .int .u64 k1.1.2.2.2, .slice bo bn bc, .bool k3.1]) rfl rfl (by kernel_rfl) (by kernel_rfl) (by kernel_rfl) rfl (fun W hW => by go_simp) trivial ?_
     simp only [FL]
     obtain ⟨g, hg⟩ : ∃ g, g = U3.heap.size := ⟨_, rfl⟩
     obtain ⟨U4, hU4⟩ : ∃ W, W = U3.alloc (.cells #[.string k1.1.1, .string k1.1.2.1, .string k1.1.2.2.1, .int .u64 k1.1.2.2.2, .slice bo bn bc, .bool k3.1] 98) := ⟨_, rfl⟩
     have N4 : U4.heap[g]? = some (.cells #[.string k1.1.1, .string k1.1.2.1, .string k1.1.2.2.1, .int .u64 k1.1.2.2.2, .slice bo bn bc, .bool k3.1] 98) := by rw [hU4, hg]; exact heap_alloc_new U3 _
     have B4 : Below U3.heap.size U3 U4 := by rw [hU4]; exact (Below.refl _ _).alloc (Nat.le_refl _) _
     refine hr_do 9 (some 25) (.slice (some ⟨g, 0, none⟩) 1 1) rfl rfl (by kernel_rfl) rfl (w' := U4) (by rw [hU4, hg]; go_simp) trivial ?_
     simp only [FL]
     have HU4 : Hid (U4 = U3.alloc (.cells #[.string k1.1.1, .string k1.1.2.1, .string k1.1.2.2.1, .int .u64 k1.1.2.2.2, .slice bo bn bc, .bool k3.1] 98)) := hU4
     clear hU4 hg
     have y5 : v0.grownBy U3 (some p) := grown_trans (grown_trans G1 G2) G3
     have S3 : Sl U3 bo bn bc k2.1 := Sl.kept (b := ⟨bo, bn, bc, k2.1⟩) S2 (fun x hx => by
      obtain ⟨a, ha, hn, rfl⟩ := hx
      exact G3.block _ (S2.lt a ha hn) (by have := F2 a ha; have := m1.lt; simp; omega))
     have y1 : (⟨k1.1.1, k1.1.2.1, k1.1.2.2.1, k1.1.2.2.2, ⟨bo, bn, bc, k2.1⟩, k3.1⟩ : CA).ok U3 := ⟨by show k1.1.1.size ≤ maxLen; unfold maxLen; omega, by show k1.1.2.1.size ≤ maxLen; unfold maxLen; omega, by show k1.1.2.2.1.size ≤ maxLen; unfold maxLen; omega, Zk.2.2.2, S3⟩
     have y2 : ∀ x, (⟨k1.1.1, k1.1.2.1, k1.1.2.2.1, k1.1.2.2.2, ⟨bo, bn, bc, k2.1⟩, k3.1⟩ : CA).va.blk x → v0.heap.size ≤ x := fun x hx => by
      obtain ⟨a, ha, hn, rfl⟩ := hx
      have := F2 a ha
      have := G1.size
      omega
     have y3 : (⟨k1.1.1, k1.1.2.1, k1.1.2.2.1, k1.1.2.2.2, ⟨bo, bn, bc, k2.1⟩, k3.1⟩ : CA).c = (cT T.2.1 T.2.2).1 := by
      rw [cT_key, ← HK1.out, ← HK2.out, ← HK3.out]
      rfl
     have y4 : R U3 p p (cT T.2.1 T.2.2).2.1 (cT T.2.1 T.2.2).2.2 := by
      rw [cT_key, ← HK1.out, ← HK2.out, ← HK3.out]
      exact R3
     rw [HT.out] at y3 y4
     have ownU3 : U3.ownsRow (M + 1) 98 6 (.slice ao1 l.length cap1) l.length (cellsC l) := own_kept HI.out.own fun x hx => y5.block x (HI.out.ownlt hx).2 (by have := HI.out.ownlt hx; simp; omega)
     have ownU4 : U4.ownsRow (M + 1) 98 6 (.slice ao1 l.length cap1) l.length (cellsC l) := own_kept ownU3 fun x hx => B4.block x (by have := HI.out.ownlt hx; have := y5.size; omega)
     refine hr_own 10 (some 26) rfl rfl (by kernel_rfl) rfl (.tmp 17) (.tmp 25) 26 rfl (M + 1) 98 i0 _ 6 88 Tryz.underlying26 hi hz0 hz1 hz2 rfl (by decide) (.slice ao1 l.length cap1) l.length (cellsC l) rfl ownU4 ⟨g, 0, none⟩ 1 1 (⟨k1.1.1, k1.1.2.1, k1.1.2.2.1, k1.1.2.2.2, ⟨bo, bn, bc, k2.1⟩, k3.1⟩ : CA).cells rfl rfl (fun j u hu => by rw [Addr.add_lit, Nat.zero_add]; exact (cell_of_row U4 g j #[.string k1.1.1, .string k1.1.2.1, .string k1.1.2.2.1, .int .u64 k1.1.2.2.2, .slice bo bn bc, .bool k3.1] _ (0, 0) N4).trans (show ((⟨k1.1.1, k1.1.2.1, k1.1.2.2.1, k1.1.2.2.2, ⟨bo, bn, bc, k2.1⟩, k3.1⟩ : CA).cells.toArray)[j]? = some u from by rw [List.getElem?_toArray]; exact hu)) (c_one (⟨k1.1.1, k1.1.2.1, k1.1.2.2.1, k1.1.2.2.2, ⟨bo, bn, bc, k2.1⟩, k3.1⟩ : CA)) (by unfold maxLen; omega) (by omega) (by have := m3.lt; have := B4.size; omega) ?_
     intro v' U5 O5 G5 H5
     refine ⟨trivial, ?_⟩
     simp only [FL]
     rw [HU4.out] at G5 H5
     have ST := HI.out.step (by omega) y1 y2 y3 y4 y5 O5 G5 H5
     have n5 : RW U5 M r1.1 (.slice ao1 l.length cap1) false := m3.kept ((G5.block M (by have := m3.lt; simp; omega) (fun e => by have := HI.out.ownlt e.symm; omega)).trans (heap_alloc_old U3 _ m3.lt))
     have d1 := n5.c1
     have z1 := n5.fz 1
     refine hr_take 11 (some 27) (.pointer (some ⟨M, 1, none⟩)) rfl rfl (by kernel_rfl) (by kernel_rfl) (by kernel_rfl) rfl (fun W hW => by go_simp) trivial ?_
     simp only [FL]
     have mm := CL.own ST.own ST.oks
     rw [List.length_append, List.length_singleton] at mm
     obtain ⟨ao3, cap3, rfl, _⟩ := mm
     refine hr_skip 12 none rfl rfl (by kernel_rfl) rfl (w' := U5.setCell ⟨M, 1, none⟩ (.slice ao3 (l.length + 1) cap3)) (by go_simp) trivial ?_
     simp only [Act.put]
     refine wpAnyH_done (by kernel_rfl) ?_ _
     refine NoPanic.normal ?_
     have HST : Hid _ := ST
     clear ST ownU3 ownU4 O5 G5 H5 d1 z1 n5 HU4 N4 B4 y1 y2 y3 y4 y5 S3 S2 R1 R2 R3 G1 G2 G3 m0 m1 m2 m3
     go_wp2
     go_roundw
     case rel => exact ⟨_, l ++ [_], by rw [List.length_append, List.length_singleton]; go_num, HST.out⟩
     case measure => simp [intOf]; omega
    ·refine op_call 5 (some 21) 39 #[.pointer (some ⟨p, 0, none⟩), .int .i64 256] rfl rfl rfl (by go_simp) (fun v w' => ∃ bo bn bc, v = .slice bo bn bc ∧ Sl w' bo bn bc (bytesS k1.2.1 k1.2.2 256).1 ∧ (∀ a, bo = some a → U1.heap.size ≤ a.block) ∧ R w' p p (bytesS k1.2.1 k1.2.2 256).2.1 (bytesS k1.2.1 k1.2.2 256).2.2 ∧ U1.grownBy w' (some p)) ((bytes_any U1 p p k1.2.1 k1.2.2 256 (by decide) R1).mono (fun e w' h => by obtain ⟨bo, bn, bc, h1, h2⟩ := h; exact ⟨_, h1, bo, bn, bc, rfl, h2⟩)) ?_
     rintro vv U2 ⟨bo, bn, bc, rfl, S2, F2, R2, G2⟩
     refine ⟨trivial, ?_⟩
     obtain ⟨k2, hk2⟩ : ∃ r, r = bytesS k1.2.1 k1.2.2 256 := ⟨_, rfl⟩
     have HK2 : Hid (k2 = bytesS k1.2.1 k1.2.2 256) := hk2
     rw [← hk2] at S2 R2
     have m2 := m1.kept (G2.block M m1.lt (by simp; omega))
     simp only [FL]
     clear hk2
     refine hr_two (i := 1) (j := 7) (by kernel_rfl) ?_ ?_
     ·have c1 : U2.cell? ⟨M, 1, none⟩ = some (.slice ao1 l.length cap1) := m2.c1
      refine op_do 1 (some 17) (.slice ao1 l.length cap1) rfl rfl rfl (w' := U2) (by go_simp) trivial ?_
      simp only [FL]
      clear c1
      refine hr_call 7 (some 23) 111 #[.pointer (some ⟨p, 0, none⟩)] rfl rfl (by kernel_rfl) rfl (by go_simp) (fun v w' => v = .bool (boolS k2.2.1 k2.2.2).1 ∧ R w' p p (boolS k2.2.1 k2.2.2).2.1 (boolS k2.2.1 k2.2.2).2.2 ∧ U2.grownBy w' (some p)) ((bool_any U2 p p k2.2.1 k2.2.2 R2).mono (fun e w' h => ⟨_, h.1, rfl, h.2⟩)) ?_
      rintro vv U3 ⟨rfl, R3, G3⟩
      refine ⟨trivial, ?_⟩
      obtain ⟨k3, hk3⟩ : ∃ r, r = boolS k2.2.1 k2.2.2 := ⟨_, rfl⟩
      have HK3 : Hid (k3 = boolS k2.2.1 k2.2.2) := hk3
      rw [← hk3] at R3 ⊢
      have m3 := m2.kept (G3.block M m2.lt (by simp; omega))
      simp only [FL]
      clear hk3
      refine hr_take 8 (some 24) (.agg #[.string k1.1.1, .string k1.1.2.1, .string k1.1.2.2.1, .int .u64 k1.1.2.2.2, .slice bo bn bc, .bool k3.1]) rfl rfl (by kernel_rfl) (by kernel_rfl) (by kernel_rfl) rfl (fun W hW => by go_simp) trivial ?_
      simp only [FL]
      obtain ⟨g, hg⟩ : ∃ g, g = U3.heap.size := ⟨_, rfl⟩
      obtain ⟨U4, hU4⟩ : ∃ W, W = U3.alloc (.cells #[.string k1.1.1, .string k1.1.2.1, .string k1.1.2.2.1, .int .u64 k1.1.2.2.2, .slice bo bn bc, .bool k3.1] 98) := ⟨_, rfl⟩
      have N4 : U4.heap[g]? = some (.cells #[.string k1.1.1, .string k1.1.2.1, .string k1.1.2.2.1, .int .u64 k1.1.2.2.2, .slice bo bn bc, .bool k3.1] 98) := by rw [hU4, hg]; exact heap_alloc_new U3 _
      have B4 : Below U3.heap.size U3 U4 := by rw [hU4]; exact (Below.refl _ _).alloc (Nat.le_refl _) _
      refine hr_do 9 (some 25) (.slice (some ⟨g, 0, none⟩) 1 1) rfl rfl (by kernel_rfl) rfl (w' := U4) (by rw [hU4, hg]; go_simp) trivial ?_
      simp only [FL]
      have HU4 : Hid (U4 = U3.alloc (.cells #[.string k1.1.1, .string k1.1.2.1, .string k1.1.2.2.1, .int .u64 k1.1.2.2.2, .slice bo bn bc, .bool k3.1] 98)) := hU4
      clear hU4 hg
      have y5 : v0.grownBy U3 (some p) := grown_trans (grown_trans G1 G2) G3
      have S3 : Sl U3 bo bn bc k2.1 := Sl.kept (b := ⟨bo, bn, bc, k2.1⟩) S2 (fun x hx => by
       obtain ⟨a, ha, hn, rfl⟩ := hx
       exact G3.block _ (S2.lt a ha hn) (by have := F2 a ha; have := m1.lt; simp; omega))
      have y1 : (⟨k1.1.1, k1.1.2.1, k1.1.2.2.1, k1.1.2.2.2, ⟨bo, bn, bc, k2.1⟩, k3.1⟩ : CA).ok U3 := ⟨by show k1.1.1.size ≤ maxLen; unfold maxLen; omega, by show k1.1.2.1.size ≤ maxLen; unfold maxLen; omega, by show k1.1.2.2.1.size ≤ maxLen; unfold maxLen; omega, Zk.2.2.2, S3⟩
      have y2 : ∀ x, (⟨k1.1.1, k1.1.2.1, k1.1.2.2.1, k1.1.2.2.2, ⟨bo, bn, bc, k2.1⟩, k3.1⟩ : CA).va.blk x → v0.heap.size ≤ x := fun x hx => by
       obtain ⟨a, ha, hn, rfl⟩ := hx
       have := F2 a ha
       have := G1.size
       omega
      have y3 : (⟨k1.1.1, k1.1.2.1, k1.1.2.2.1, k1.1.2.2.2, ⟨bo, bn, bc, k2.1⟩, k3.1⟩ : CA).c = (cT T.2.1 T.2.2).1 := by
       rw [cT_key, ← HK1.out, ← HK2.out, ← HK3.out]
       rfl
      have y4 : R U3 p p (cT T.2.1 T.2.2).2.1 (cT T.2.1 T.2.2).2.2 := by
       rw [cT_key, ← HK1.out, ← HK2.out, ← HK3.out]
       exact R3
      rw [HT.out] at y3 y4
      have ownU3 : U3.ownsRow (M + 1) 98 6 (.slice ao1 l.length cap1) l.length (cellsC l) := own_kept HI.out.own fun x hx => y5.block x (HI.out.ownlt hx).2 (by have := HI.out.ownlt hx; simp; omega)
      have ownU4 : U4.ownsRow (M + 1) 98 6 (.slice ao1 l.length cap1) l.length (cellsC l) := own_kept ownU3 fun x hx => B4.block x (by have := HI.out.ownlt hx; have := y5.size; omega)
      refine hr_own 10 (some 26) rfl rfl (by kernel_rfl) rfl (.tmp 17) (.tmp 25) 26 rfl (M + 1) 98 i0 _ 6 88 Tryz.underlying26 hi hz0 hz1 hz2 rfl (by decide) (.slice ao1 l.length cap1) l.length (cellsC l) rfl ownU4 ⟨g, 0, none⟩ 1 1 (⟨k1.1.1, k1.1.2.1, k1.1.2.2.1, k1.1.2.2.2, ⟨bo, bn, bc, k2.1⟩, k3.1⟩ : CA).cells rfl rfl (fun j u hu => by rw [Addr.add_lit, Nat.zero_add]; exact (cell_of_row U4 g j #[.string k1.1.1, .string k1.1.2.1, .string k1.1.2.2.1, .int .u64 k1.1.2.2.2, .slice bo bn bc, .bool k3.1] _ (0, 0) N4).trans (show ((⟨k1.1.1, k1.1.2.1, k1.1.2.2.1, k1.1.2.2.2, ⟨bo, bn, bc, k2.1⟩, k3.1⟩ : CA).cells.toArray)[j]? = some u from by rw [List.getElem?_toArray]; exact hu)) (c_one (⟨k1.1.1, k1.1.2.1, k1.1.2.2.1, k1.1.2.2.2, ⟨bo, bn, bc, k2.1⟩, k3.1⟩ : CA)) (by unfold maxLen; omega) (by omega) (by have := m3.lt; have := B4.size; omega) ?_
      intro v' U5 O5 G5 H5
      refine ⟨trivial, ?_⟩
      simp only [FL]
      rw [HU4.out] at G5 H5
      have ST := HI.out.step (by omega) y1 y2 y3 y4 y5 O5 G5 H5
      have n5 : RW U5 M r1.1 (.slice ao1 l.length cap1) false := m3.kept ((G5.block M (by have := m3.lt; simp; omega) (fun e => by have := HI.out.ownlt e.symm; omega)).trans (heap_alloc_old U3 _ m3.lt))
      have d1 := n5.c1
      have z1 := n5.fz 1
      refine hr_take 11 (some 27) (.pointer (some ⟨M, 1, none⟩)) rfl rfl (by kernel_rfl) (by kernel_rfl) (by kernel_rfl) rfl (fun W hW => by go_simp) trivial ?_
      simp only [FL]
      have mm := CL.own ST.own ST.oks
      rw [List.length_append, List.length_singleton] at mm
      obtain ⟨ao3, cap3, rfl, _⟩ := mm
      refine hr_skip 12 none rfl rfl (by kernel_rfl) rfl (w' := U5.setCell ⟨M, 1, none⟩ (.slice ao3 (l.length + 1) cap3)) (by go_simp) trivial ?_
      simp only [Act.put]
      refine wpAnyH_done (by kernel_rfl) ?_ _
      refine NoPanic.normal ?_
      have HST : Hid _ := ST
      clear ST ownU3 ownU4 O5 G5 H5 d1 z1 n5 HU4 N4 B4 y1 y2 y3 y4 y5 S3 S2 R1 R2 R3 G1 G2 G3 m0 m1 m2 m3
      go_wp2
      go_roundw
      case rel => exact ⟨_, l ++ [_], by rw [List.length_append, List.length_singleton]; go_num, HST.out⟩
      case measure => simp [intOf]; omega
     ·refine op_call 7 (some 23) 111 #[.pointer (some ⟨p, 0, none⟩)] rfl rfl rfl (by go_simp) (fun v w' => v = .bool (boolS k2.2.1 k2.2.2).1 ∧ R w' p p (boolS k2.2.1 k2.2.2).2.1 (boolS k2.2.1 k2.2.2).2.2 ∧ U2.grownBy w' (some p)) ((bool_any U2 p p k2.2.1 k2.2.2 R2).mono (fun e w' h => ⟨_, h.1, rfl, h.2⟩)) ?_
      rintro vv U3 ⟨rfl, R3, G3⟩
      refine ⟨trivial, ?_⟩
      obtain ⟨k3, hk3⟩ : ∃ r, r = boolS k2.2.1 k2.2.2 := ⟨_, rfl⟩
      have HK3 : Hid (k3 = boolS k2.2.1 k2.2.2) := hk3
      rw [← hk3] at R3 ⊢
      have m3 := m2.kept (G3.block M m2.lt (by simp; omega))
      simp only [FL]
      clear hk3
      refine hr_take 8 (some 24) (.agg #[.string k1.1.1, .string k1.1.2.1, .string k1.1.2.2.1, .int .u64 k1.1.2.2.2, .slice bo bn bc, .bool k3.1]) rfl rfl (by kernel_rfl) (by kernel_rfl) (by kernel_rfl) rfl (fun W hW => by go_simp) trivial ?_
      simp only [FL]
      refine hr_two (i := 1) (j := 9) (by kernel_rfl) ?_ ?_
      ·have c1 : U3.cell? ⟨M, 1, none⟩ = some (.slice ao1 l.length cap1) := m3.c1
       refine op_do 1 (some 17) (.slice ao1 l.length cap1) rfl rfl rfl (w' := U3) (by go_simp) trivial ?_
       simp only [FL]
       clear c1
       obtain ⟨g, hg⟩ : ∃ g, g = U3.heap.size := ⟨_, rfl⟩
       obtain ⟨U4, hU4⟩ : ∃ W, W = U3.alloc (.cells #[.string k1.1.1, .string k1.1.2.1, .string k1.1.2.2.1, .int .u64 k1.1.2.2.2, .slice bo bn bc, .bool k3.1] 98) := ⟨_, rfl⟩
       have N4 : U4.heap[g]? = some (.cells #[.string k1.1.1, .string k1.1.2.1, .string k1.1.2.2.1, .int .u64 k1.1.2.2.2, .slice bo bn bc, .bool k3.1] 98) := by rw [hU4, hg]; exact heap_alloc_new U3 _
       have B4 : Below U3.heap.size U3 U4 := by rw [hU4]; exact (Below.refl _ _).alloc (Nat.le_refl _) _
       refine hr_do 9 (some 25) (.slice (some ⟨g, 0, none⟩) 1 1) rfl rfl (by kernel_rfl) rfl (w' := U4) (by rw [hU4, hg]; go_simp) trivial ?_
       simp only [FL]
       have HU4 : Hid (U4 = U3.alloc (.cells #[.string k1.1.1, .string k1.1.2.1, .string k1.1.2.2.1, .int .u64 k1.1.2.2.2, .slice bo bn bc, .bool k3.1] 98)) := hU4
       clear hU4 hg
       have y5 : v0.grownBy U3 (some p) := grown_trans (grown_trans G1 G2) G3
       have S3 : Sl U3 bo bn bc k2.1 := Sl.kept (b := ⟨bo, bn, bc, k2.1⟩) S2 (fun x hx => by
        obtain ⟨a, ha, hn, rfl⟩ := hx
        exact G3.block _ (S2.lt a ha hn) (by have := F2 a ha; have := m1.lt; simp; omega))
       have y1 : (⟨k1.1.1, k1.1.2.1, k1.1.2.2.1, k1.1.2.2.2, ⟨bo, bn, bc, k2.1⟩, k3.1⟩ : CA).ok U3 := ⟨by show k1.1.1.size ≤ maxLen; unfold maxLen; omega, by show k1.1.2.1.size ≤ maxLen; unfold maxLen; omega, by show k1.1.2.2.1.size ≤ maxLen; unfold maxLen; omega, Zk.2.2.2, S3⟩
       have y2 : ∀ x, (⟨k1.1.1, k1.1.2.1, k1.1.2.2.1, k1.1.2.2.2, ⟨bo, bn, bc, k2.1⟩, k3.1⟩ : CA).va.blk x → v0.heap.size ≤ x := fun x hx => by
        obtain ⟨a, ha, hn, rfl⟩ := hx
        have := F2 a ha
        have := G1.size
        omega
       have y3 : (⟨k1.1.1, k1.1.2.1, k1.1.2.2.1, k1.1.2.2.2, ⟨bo, bn, bc, k2.1⟩, k3.1⟩ : CA).c = (cT T.2.1 T.2.2).1 := by
        rw [cT_key, ← HK1.out, ← HK2.out, ← HK3.out]
        rfl
       have y4 : R U3 p p (cT T.2.1 T.2.2).2.1 (cT T.2.1 T.2.2).2.2 := by
        rw [cT_key, ← HK1.out, ← HK2.out, ← HK3.out]
        exact R3
       rw [HT.out] at y3 y4
       have ownU3 : U3.ownsRow (M + 1) 98 6 (.slice ao1 l.length cap1) l.length (cellsC l) := own_kept HI.out.own fun x hx => y5.block x (HI.out.ownlt hx).2 (by have := HI.out.ownlt hx; simp; omega)
       have ownU4 : U4.ownsRow (M + 1) 98 6 (.slice ao1 l.length cap1) l.length (cellsC l) := own_kept ownU3 fun x hx => B4.block x (by have := HI.out.ownlt hx; have := y5.size; omega)
       refine hr_own 10 (some 26) rfl rfl (by kernel_rfl) rfl (.tmp 17) (.tmp 25) 26 rfl (M + 1) 98 i0 _ 6 88 Tryz.underlying26 hi hz0 hz1 hz2 rfl (by decide) (.slice ao1 l.length cap1) l.length (cellsC l) rfl ownU4 ⟨g, 0, none⟩ 1 1 (⟨k1.1.1, k1.1.2.1, k1.1.2.2.1, k1.1.2.2.2, ⟨bo, bn, bc, k2.1⟩, k3.1⟩ : CA).cells rfl rfl (fun j u hu => by rw [Addr.add_lit, Nat.zero_add]; exact (cell_of_row U4 g j #[.string k1.1.1, .string k1.1.2.1, .string k1.1.2.2.1, .int .u64 k1.1.2.2.2, .slice bo bn bc, .bool k3.1] _ (0, 0) N4).trans (show ((⟨k1.1.1, k1.1.2.1, k1.1.2.2.1, k1.1.2.2.2, ⟨bo, bn, bc, k2.1⟩, k3.1⟩ : CA).cells.toArray)[j]? = some u from by rw [List.getElem?_toArray]; exact hu)) (c_one (⟨k1.1.1, k1.1.2.1, k1.1.2.2.1, k1.1.2.2.2, ⟨bo, bn, bc, k2.1⟩, k3.1⟩ : CA)) (by unfold maxLen; omega) (by omega) (by have := m3.lt; have := B4.size; omega) ?_
       intro v' U5 O5 G5 H5
       refine ⟨trivial, ?_⟩
       simp only [FL]
       rw [HU4.out] at G5 H5
       have ST := HI.out.step (by omega) y1 y2 y3 y4 y5 O5 G5 H5
       have n5 : RW U5 M r1.1 (.slice ao1 l.length cap1) false := m3.kept ((G5.block M (by have := m3.lt; simp; omega) (fun e => by have := HI.out.ownlt e.symm; omega)).trans (heap_alloc_old U3 _ m3.lt))
       have d1 := n5.c1
       have z1 := n5.fz 1
       refine hr_take 11 (some 27) (.pointer (some ⟨M, 1, none⟩)) rfl rfl (by kernel_rfl) (by kernel_rfl) (by kernel_rfl) rfl (fun W hW => by go_simp) trivial ?_
       simp only [FL]
       have mm := CL.own ST.own ST.oks
       rw [List.length_append, List.length_singleton] at mm
       obtain ⟨ao3, cap3, rfl, _⟩ := mm
       refine hr_skip 12 none rfl rfl (by kernel_rfl) rfl (w' := U5.setCell ⟨M, 1, none⟩ (.slice ao3 (l.length + 1) cap3)) (by go_simp) trivial ?_
       simp only [Act.put]
       refine wpAnyH_done (by kernel_rfl) ?_ _
       refine NoPanic.normal ?_
       have HST : Hid _ := ST
       clear ST ownU3 ownU4 O5 G5 H5 d1 z1 n5 HU4 N4 B4 y1 y2 y3 y4 y5 S3 S2 R1 R2 R3 G1 G2 G3 m0 m1 m2 m3
       go_wp2
       go_roundw
       case rel => exact ⟨_, l ++ [_], by rw [List.length_append, List.length_singleton]; go_num, HST.out⟩
       case measure => simp [intOf]; omega
      ·obtain ⟨g, hg⟩ : ∃ g, g = U3.heap.size := ⟨_, rfl⟩
       obtain ⟨U4, hU4⟩ : ∃ W, W = U3.alloc (.cells #[.string k1.1.1, .string k1.1.2.1, .string k1.1.2.2.1, .int .u64 k1.1.2.2.2, .slice bo bn bc, .bool k3.1] 98) := ⟨_, rfl⟩
       have N4 : U4.heap[g]? = some (.cells #[.string k1.1.1, .string k1.1.2.1, .string k1.1.2.2.1, .int .u64 k1.1.2.2.2, .slice bo bn bc, .bool k3.1] 98) := by rw [hU4, hg]; exact heap_alloc_new U3 _
       have B4 : Below U3.heap.size U3 U4 := by rw [hU4]; exact (Below.refl _ _).alloc (Nat.le_refl _) _
       refine op_do 9 (some 25) (.slice (some ⟨g, 0, none⟩) 1 1) rfl rfl rfl (w' := U4) (by rw [hU4, hg]; go_simp) trivial ?_
       simp only [FL]
       have HU4 : Hid (U4 = U3.alloc (.cells #[.string k1.1.1, .string k1.1.2.1, .string k1.1.2.2.1, .int .u64 k1.1.2.2.2, .slice bo bn bc, .bool k3.1] 98)) := hU4
       clear hU4 hg
       have c1 : U4.cell? ⟨M, 1, none⟩ = some (.slice ao1 l.length cap1) := (m3.kept (B4.block M m3.lt)).c1
       refine hr_do 1 (some 17) (.slice ao1 l.length cap1) rfl rfl (by kernel_rfl) rfl (w' := U4) (by go_simp) trivial ?_
       simp only [FL]
       clear c1
       have y5 : v0.grownBy U3 (some p) := grown_trans (grown_trans G1 G2) G3
       have S3 : Sl U3 bo bn bc k2.1 := Sl.kept (b := ⟨bo, bn, bc, k2.1⟩) S2 (fun x hx => by
        obtain ⟨a, ha, hn, rfl⟩ := hx
        exact G3.block _ (S2.lt a ha hn) (by have := F2 a ha; have := m1.lt; simp; omega))
       have y1 : (⟨k1.1.1, k1.1.2.1, k1.1.2.2.1, k1.1.2.2.2, ⟨bo, bn, bc, k2.1⟩, k3.1⟩ : CA).ok U3 := ⟨by show k1.1.1.size ≤ maxLen; unfold maxLen; omega, by show k1.1.2.1.size ≤ maxLen; unfold maxLen; omega, by show k1.1.2.2.1.size ≤ maxLen; unfold maxLen; omega, Zk.2.2.2, S3⟩
       have y2 : ∀ x, (⟨k1.1.1, k1.1.2.1, k1.1.2.2.1, k1.1.2.2.2, ⟨bo, bn, bc, k2.1⟩, k3.1⟩ : CA).va.blk x → v0.heap.size ≤ x := fun x hx => by
        obtain ⟨a, ha, hn, rfl⟩ := hx
        have := F2 a ha
        have := G1.size
        omega
       have y3 : (⟨k1.1.1, k1.1.2.1, k1.1.2.2.1, k1.1.2.2.2, ⟨bo, bn, bc, k2.1⟩, k3.1⟩ : CA).c = (cT T.2.1 T.2.2).1 := by
        rw [cT_key, ← HK1.out, ← HK2.out, ← HK3.out]
        rfl
       have y4 : R U3 p p (cT T.2.1 T.2.2).2.1 (cT T.2.1 T.2.2).2.2 := by
        rw [cT_key, ← HK1.out, ← HK2.out, ← HK3.out]
        exact R3
       rw [HT.out] at y3 y4
       have ownU3 : U3.ownsRow (M + 1) 98 6 (.slice ao1 l.length cap1) l.length (cellsC l) := own_kept HI.out.own fun x hx => y5.block x (HI.out.ownlt hx).2 (by have := HI.out.ownlt hx; simp; omega)
       have ownU4 : U4.ownsRow (M + 1) 98 6 (.slice ao1 l.length cap1) l.length (cellsC l) := own_kept ownU3 fun x hx => B4.block x (by have := HI.out.ownlt hx; have := y5.size; omega)
       refine hr_own 10 (some 26) rfl rfl (by kernel_rfl) rfl (.tmp 17) (.tmp 25) 26 rfl (M + 1) 98 i0 _ 6 88 Tryz.underlying26 hi hz0 hz1 hz2 rfl (by decide) (.slice ao1 l.length cap1) l.length (cellsC l) rfl ownU4 ⟨g, 0, none⟩ 1 1 (⟨k1.1.1, k1.1.2.1, k1.1.2.2.1, k1.1.2.2.2, ⟨bo, bn, bc, k2.1⟩, k3.1⟩ : CA).cells rfl rfl (fun j u hu => by rw [Addr.add_lit, Nat.zero_add]; exact (cell_of_row U4 g j #[.string k1.1.1, .string k1.1.2.1, .string k1.1.2.2.1, .int .u64 k1.1.2.2.2, .slice bo bn bc, .bool k3.1] _ (0, 0) N4).trans (show ((⟨k1.1.1, k1.1.2.1, k1.1.2.2.1, k1.1.2.2.2, ⟨bo, bn, bc, k2.1⟩, k3.1⟩ : CA).cells.toArray)[j]? = some u from by rw [List.getElem?_toArray]; exact hu)) (c_one (⟨k1.1.1, k1.1.2.1, k1.1.2.2.1, k1.1.2.2.2, ⟨bo, bn, bc, k2.1⟩, k3.1⟩ : CA)) (by unfold maxLen; omega) (by omega) (by have := m3.lt; have := B4.size; omega) ?_
       intro v' U5 O5 G5 H5
       refine ⟨trivial, ?_⟩
       simp only [FL]
       rw [HU4.out] at G5 H5
       have ST := HI.out.step (by omega) y1 y2 y3 y4 y5 O5 G5 H5
       have n5 : RW U5 M r1.1 (.slice ao1 l.length cap1) false := m3.kept ((G5.block M (by have := m3.lt; simp; omega) (fun e => by have := HI.out.ownlt e.symm; omega)).trans (heap_alloc_old U3 _ m3.lt))
       have d1 := n5.c1
       have z1 := n5.fz 1
       refine hr_take 11 (some 27) (.pointer (some ⟨M, 1, none⟩)) rfl rfl (by kernel_rfl) (by kernel_rfl) (by kernel_rfl) rfl (fun W hW => by go_simp) trivial ?_
       simp only [FL]
       have mm := CL.own ST.own ST.oks
       rw [List.length_append, List.length_singleton] at mm
       obtain ⟨ao3, cap3, rfl, _⟩ := mm
       refine hr_skip 12 none rfl rfl (by kernel_rfl) rfl (w' := U5.setCell ⟨M, 1, none⟩ (.slice ao3 (l.length + 1) cap3)) (by go_simp) trivial ?_
       simp only [Act.put]
       refine wpAnyH_done (by kernel_rfl) ?_ _
       refine NoPanic.normal ?_
       have HST : Hid _ := ST
       clear ST ownU3 ownU4 O5 G5 H5 d1 z1 n5 HU4 N4 B4 y1 y2 y3 y4 y5 S3 S2 R1 R2 R3 G1 G2 G3 m0 m1 m2 m3
       go_wp2
       go_roundw
       case rel => exact ⟨_, l ++ [_], by rw [List.length_append, List.length_singleton]; go_num, HST.out⟩
       case measure => simp [intOf]; omega
  ·have i6 : (r2.1 : Int) ≤ (l.length : Int) := by omega
   have hle : Hid (l.length = r2.1) := by have := inv.le; show l.length = r2.1; omega
   go_wp2_with fail
   obtain ⟨T, hT⟩ : ∃ T, T = repT cT l.length r2.2.1 r2.2.2 := ⟨_, rfl⟩
   have HT : Hid (T = repT cT l.length r2.2.1 r2.2.2) := hT
   refine (bool_any wr p p T.2.1 T.2.2 (by rw [hT]; exact inv.rd)).mono ?_
   rintro e w5 ⟨rfl, R5, G5⟩
   obtain ⟨b, hb⟩ : ∃ b, b = boolS T.2.1 T.2.2 := ⟨_, rfl⟩
   have HB : Hid (b = boolS T.2.1 T.2.2) := hb
   rw [← hb] at R5 ⊢
   have FAR : Hid (∀ x, (sblk ao1 l.length x ∨ ∃ c ∈ l, c.va.blk x) → M < x ∧ x < wr.heap.size) := fun x hx => by
    rcases hx with hx | ⟨c, hc, hx⟩
    ·exact inv.ownlt (sblk_own hx)
    ·exact ⟨(inv.far x ⟨c, hc, hx⟩).1, (inv.oks c hc).blk_lt hx⟩
   have CL5 := CL1.kept (w' := w5) fun x hx => G5.block x (FAR.out x hx).2 (by have := (FAR.out x hx).1; simp; omega)
   have m5 := inv.ov.kept (G5.block M inv.ov.lt (by simp; omega))
   have K5 := inv.res.kept (G5.block N inv.res.lt (by simp; omega))
   have B5 := inv.bel.trans (below_grown G5 (by have := inv.bel.size; have := HN.out; omega) (by omega))
   have HL : Hid (l.map CA.c = T.1) := by show _ = _; rw [hT]; exact inv.thr
   have d2 := m5.c2
   have z2 := m5.fz 2
   obtain ⟨w6, hw6⟩ : ∃ W, W = w5.setCell ⟨M, 2, none⟩ (.bool b.1) := ⟨_, rfl⟩
   have SB6 : w6.heap.size = w5.heap.size ∧ ∀ j, j ≠ M → w6.heap[j]? = w5.heap[j]? := by rw [hw6]; exact same_set _ _ _ _
   have m6 : RW w6 M r1.1 (.slice ao1 l.length cap1) b.1 := by rw [hw6]; exact m5.setM b.1
   have K6 : RW w6 N 0 (.slice none 0 0) false := K5.kept (SB6.2 N (by omega))
   have R6 : R w6 p p b.2.1 b.2.2 := by rw [hw6]; exact R5.own hpM (by omega)
   have B6 : Below N w w6 := by rw [hw6]; exact B5.setCell (by show N ≤ M; omega) _
   have CL6 := CL5.kept (w' := w6) fun x hx => SB6.2 x (by have := (FAR.out x hx).1; omega)
   clear hT hb inv CL1 CL5 G5 R5 K5 B5 m5 SB6
   go_wp2_with fail
   rw [← hw6]
   clear hw6 d2 z2
   have HS : Hid (∀ V, Below w6.heap.size w6 V → V.cell? ⟨M, 0, none⟩ = some (.int .i64 r1.1) ∧ V.cell? ⟨M, 1, none⟩ = some (.slice ao1 l.length cap1) ∧ V.cell? ⟨M, 2, none⟩ = some (.bool b.1)) := fun V hV => have q := m6.kept (hV.block M m6.lt); ⟨q.c0, q.c1, q.c2⟩
   refine zB (by kernel_rfl) HS.out fun v0 E0 H0 => ?_
   refine zT 0 (some 32) (.pointer (some ⟨p, 0, none⟩)) rfl rfl (by kernel_rfl) rfl (fun W ⟨h0, h1, h2⟩ => by go_simp) H0 ?_
   simp only [FL]
   refine zT 2 (some 34) (.agg #[.int .i64 r1.1, .slice ao1 l.length cap1, .bool b.1]) rfl rfl (by kernel_rfl) rfl (fun W ⟨h0, h1, h2⟩ => by go_simp) H0 ?_
   simp only [FL]
   refine hr_call_w 1 (some 33) 43 #[.pointer (some ⟨p, 0, none⟩)] rfl rfl (by kernel_rfl) rfl (by go_simp) (fun v w' => v = .int .i64 (doneS b.2.1 b.2.2) ∧ Below v0.heap.size v0 w') ((((done_any v0 p p b.2.1 b.2.2 (R6.below E0)).mono (fun e w' h => ⟨h.1, by rw [h.2]; exact Below.refl _ _⟩) : Calls Tryz.prog 43 #[.pointer (some ⟨p, 0, none⟩)] v0 fun e w' => e = .returned (.int .i64 (doneS b.2.1 b.2.2)) ∧ Below v0.heap.size v0 w')).mono (by
    rintro e w' ⟨rfl, C⟩
    exact ⟨_, rfl, rfl, C⟩)) ?_
   rintro v v1 ⟨rfl, C0⟩
   have E1 := E0.trans (C0.mono E0.size)
   have H1 := HS.out v1 E1
   refine ⟨H1, ?_⟩
   simp only [FL]
   refine hr_call_w 3 (some 35) 112 #[.agg #[.int .i64 r1.1, .slice ao1 l.length cap1, .bool b.1]] rfl rfl (by kernel_rfl) rfl (by go_simp) (fun v w' => v = .int .i64 (kindR (resR r1.1 l b.1)) ∧ Below v1.heap.size v1 w') ((prr_any v1 r1.1 ao1 l.length cap1 l b.1 (CL6.below E1)).mono (by
    rintro e w' ⟨rfl, C⟩
    exact ⟨_, rfl, rfl, C⟩)) ?_
   rintro v v2 ⟨rfl, C1⟩
   have E2 := E1.trans (C1.mono E1.size)
   have H2 := HS.out v2 E2
   refine ⟨H2, ?_⟩
   simp only [FL]
   obtain ⟨d, hd⟩ : ∃ d, d = doneS b.2.1 b.2.2 := ⟨_, rfl⟩
   obtain ⟨kk, hkk⟩ : ∃ d, d = kindR (resR r1.1 l b.1) := ⟨_, rfl⟩
   rw [← hd, ← hkk]
   have HD : Hid (d = doneS b.2.1 b.2.2) := hd
   have HK : Hid (kk = kindR (resR r1.1 l b.1)) := hkk
   clear hd hkk
   obtain ⟨g, hg⟩ : ∃ g, g = v2.heap.size := ⟨_, rfl⟩
   obtain ⟨v3, hv3⟩ : ∃ V, V = v2.alloc (.cells #[.int .i64 d, .int .i64 kk] 25) := ⟨_, rfl⟩
   have U3 : Below v2.heap.size v2 v3 := by rw [hv3]; exact (Below.refl _ _).alloc (Nat.le_refl _) _
   have G3 : v3.heap[g]? = some (.cells #[.int .i64 d, .int .i64 kk] 25) := by rw [hv3, hg]; exact heap_alloc_new v2 _
   have E3 := E2.trans (U3.mono E2.size)
   have H3 := HS.out v3 E3
   refine hr_do 4 (some 36) (.slice (some ⟨g, 0, none⟩) 2 2) rfl rfl (by kernel_rfl) rfl (w' := v3) (by rw [hv3, hg]; go_simp) H3 ?_
   simp only [FL]
   clear hv3 hg U3
   refine hr_call_w 5 (some 37) 109 #[.slice (some ⟨g, 0, none⟩) 2 2] rfl rfl (by kernel_rfl) rfl (by go_simp) (fun v w' => v = .int .i64 (or2 d kk) ∧ Below v3.heap.size v3 w') ((((por2_any v3 g d kk G3).mono (fun e w' h => ⟨h.1, by rw [h.2]; exact Below.refl _ _⟩) : Calls Tryz.prog 109 #[.slice (some ⟨g, 0, none⟩) 2 2] v3 fun e w' => e = .returned (.int .i64 (or2 d kk)) ∧ Below v3.heap.size v3 w')).mono (by
    rintro e w' ⟨rfl, C⟩
    exact ⟨_, rfl, rfl, C⟩)) ?_
   rintro v v4 ⟨rfl, C3⟩
   have E4 := E3.trans (C3.mono E3.size)
   have H4 := HS.out v4 E4
   refine ⟨H4, ?_⟩
   simp only [FL]
   refine zT 6 (some 6) (.int .i64 (or2 d kk)) rfl rfl (by kernel_rfl) rfl (fun W ⟨h0, h1, h2⟩ => by go_simp) H4 ?_
   simp only [FL]
   refine wpAnyH_done (by kernel_rfl) ?_ _
   refine NoPanic.normal ?_
   have BX : Below N w v4 := B6.trans (E4.mono (by have := B6.size; have := HN.out; omega))
   have KX := K6.kept (E4.block N K6.lt)
   have QX := m6.kept (E4.block M m6.lt)
   have CLX := CL6.below E4
   have HRQ : Hid (rdR xs = if or2 d kk = 0 then .inr (resR r1.1 l b.1) else .inl (or2 d kk)) := by
    show _ = _
    have e3 := HT.out
    rw [hle.out] at e3
    rw [HRD.out, rd_or, resTh_eq ER1.out ER2.out e3 HB.out, ← HL.out]
    simp only
    rw [show (⟨(r1.1 : Int), l.map CA.c, b.1⟩ : RV) = resR r1.1 l b.1 from rfl, ← HK.out, ← HD.out]
   have FR : Hid (∀ x, (sblk ao1 l.length x ∨ ∃ c ∈ l, c.va.blk x) → x ≠ N ∧ N ≤ x) := fun x hx => by have := (FAR.out x hx).1; omega
   clear HS H0 H1 H2 H3 H4 E0 E1 E2 E3 E4 C0 C1 C3 G3 m6 CL6 K6 B6 R6 FAR
   have n0 := KX.c0
   have n1 := KX.c1
   have n2 := KX.c2
   have g0 := KX.fz 0
   have g1 := KX.fz 1
   have g2 := KX.fz 2
   by_cases hk : or2 d kk = 0
   ·have HQ : Hid (rdR xs = .inr (resR r1.1 l b.1)) := by show _ = _; rw [HRQ.out, if_pos hk]
    have q0 := QX.c0
    have q1 := QX.c1
    have q2 := QX.c2
    have BF : Below N w (((v4.setCell ⟨N, 0, none⟩ (.int .i64 r1.1)).setCell ⟨N, 1, none⟩ (.slice ao1 l.length cap1)).setCell ⟨N, 2, none⟩ (.bool b.1)) := (((BX.setCell (Nat.le_refl _) _).setCell (Nat.le_refl _) _).setCell (Nat.le_refl _) _)
    have SB : ((((v4.setCell ⟨N, 0, none⟩ (.int .i64 r1.1)).setCell ⟨N, 1, none⟩ (.slice ao1 l.length cap1)).setCell ⟨N, 2, none⟩ (.bool b.1))).heap.size = v4.heap.size ∧ ∀ j, j ≠ N → ((((v4.setCell ⟨N, 0, none⟩ (.int .i64 r1.1)).setCell ⟨N, 1, none⟩ (.slice ao1 l.length cap1)).setCell ⟨N, 2, none⟩ (.bool b.1))).heap[j]? = v4.heap[j]? := (SameBut.trans (SameBut.trans (SameBut.trans ⟨rfl, fun _ _ => rfl⟩ (same_set _ _ _ _)) (same_set _ _ _ _)) (same_set _ _ _ _))
    have GOOD : Hid (CL (((v4.setCell ⟨N, 0, none⟩ (.int .i64 r1.1)).setCell ⟨N, 1, none⟩ (.slice ao1 l.length cap1)).setCell ⟨N, 2, none⟩ (.bool b.1)) ao1 l.length cap1 l ∧ Below N w (((v4.setCell ⟨N, 0, none⟩ (.int .i64 r1.1)).setCell ⟨N, 1, none⟩ (.slice ao1 l.length cap1)).setCell ⟨N, 2, none⟩ (.bool b.1))) := ⟨CLX.kept fun x hx => SB.2 x ((FR.out x hx).1), BF⟩
    clear SB BF CLX
    rw [hk]
    clear hk HRQ HD HK KX QX
    go_wp2
    refine bodyPost_ret (v := .tuple #[.agg #[.int .i64 r1.1, .slice ao1 l.length cap1, .bool b.1], .int .i64 0]) (by simp [results, Tryz.results81, go_sem, n0, n1, n2]) rfl ?_
    exact ⟨fun k hk => absurd (HQ.out.symm.trans hk) (by simp), fun q hq => by
     have e := Sum.inr.inj (HQ.out.symm.trans hq)
     subst e
     exact ⟨_, _, _, _, l, _, rfl, GOOD.out.1, rfl, fun x hx => by rw [← HN.out]; exact (FR.out x hx).2⟩, by rw [← HN.out]; exact GOOD.out.2⟩
   ·have HQ : Hid (rdR xs = .inl (or2 d kk)) := by show _ = _; rw [HRQ.out, if_neg hk]
    have hkb : (or2 d kk == 0) = false := by simp [hk]
    have hkc : (or2 d kk != 0) = true := by simp [hk]
    have BF : Hid (Below N w (((v4.setCell ⟨N, 0, none⟩ (.int .i64 0)).setCell ⟨N, 1, none⟩ (.slice none 0 0)).setCell ⟨N, 2, none⟩ (.bool false))) := (((BX.setCell (Nat.le_refl _) _).setCell (Nat.le_refl _) _).setCell (Nat.le_refl _) _)
    clear hk HRQ HD HK KX QX CLX
    go_wp2
    refine bodyPost_ret (v := .tuple #[.agg #[.int .i64 0, .slice none 0 0, .bool false], .int .i64 (or2 d kk)]) (by simp [results, Tryz.results81, go_sem, n0, n1, n2]) rfl ?_
    exact ⟨fun k hk => by
     have e := Sum.inl.inj (HQ.out.symm.trans hk)
     subst e
     rfl, fun q hq => absurd (HQ.out.symm.trans hq) (by simp), by rw [← HN.out]; exact BF.out⟩
end Go.Proofs.YtnbejckdhdbamaaGreat

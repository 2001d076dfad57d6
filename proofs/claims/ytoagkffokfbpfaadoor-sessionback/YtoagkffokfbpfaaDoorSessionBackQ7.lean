/-
  Texts in one: PRdRF, SeAsk, SeRead, SeOpen.
-/
import Derived.Test.YtoagkffokfbpfaaDoorSessionBackQFL
import Derived.Test.YtoagkffokfbpfaaDoorSessionBackQ6
import Derived.Test.YtoagkffokfbpfaaDoorSessionBackQ0
namespace Go.Proofs.YtoagkffokfbpfaaDoor
open Go.RowKit
structure RdrPostF (w : World) (t : Sum Int RV) (e : Ending) (w' : World) : Prop where
  bad : ∀ k, t = .inl k → e = .returned (.tuple #[resV 0 none 0 0 false, .int .i64 k])
  good : ∀ q : RV, t = .inr q → ∃ (c : Int) (ao : Option Addr) (n cap : Nat) (l : List CA) (m : Bool), e = .returned (.tuple #[resV c ao n cap m, .int .i64 0]) ∧ CL w' ao n cap l ∧ q = resR c l m ∧ ∀ x, (sblk ao n x ∨ ∃ c ∈ l, c.va.blk x) → w.heap.size ≤ x
  bel : Below w.heap.size w w'
set_option maxRecDepth 100000 in
set_option maxHeartbeats 16000000 in
theorem prdr_far (w : World) (ao : Option Addr) (n cap : Nat) (xs : List Int) (h : Sl w ao n cap xs) (hn : n ≤ 100000) :
    Calls Tryd.prog 58 #[.slice ao n cap] w (RdrPostF w (rdR xs)) := by
  have HRD : Hid (rdR xs = rdT resTh kindR xs) := rd_thr thr_r kindR xs
  have K0 : RW (w.alloc (.cells #[.int .i64 0, .slice none 0 0, .bool false] 37)) w.heap.size 0 (.slice none 0 0) false := heap_alloc_new w _
  have B0 : Below w.heap.size w (w.alloc (.cells #[.int .i64 0, .slice none 0 0, .bool false] 37)) := (Below.refl _ w).alloc (Nat.le_refl _) _
  have h0 := h.below B0
  clear h
  go_enter Tryd.func58, Tryd.ntmps58
  go_wp2_with fail
  obtain ⟨w0, hw0⟩ : ∃ W, W = w.alloc (.cells #[.int .i64 0, .slice none 0 0, .bool false] 37) := ⟨_, rfl⟩
  obtain ⟨N, hN⟩ : ∃ N, N = w.heap.size := ⟨_, rfl⟩
  rw [← hw0] at K0 B0 h0 ⊢
  rw [← hN] at K0 B0 ⊢
  have HN : Hid (N = w.heap.size) := hN
  clear hw0 hN
  refine (read_any w0 ao n cap xs h0 (by omega)).mono ?_
  rintro e w1 ⟨p, rfl, hp, R1, C1⟩
  have K1 := K0.kept (C1.block N K0.lt)
  have lN := K0.lt
  have B1 := B0.trans (C1.mono (by omega))
  have hNp : N < p := by omega
  clear K0 B0 C1 h0 hp lN
  go_wp2_with fail
  refine (int_any w1 p p xs 0 100 (by decide) R1.byte R1).mono ?_
  rintro e w2 ⟨rfl, R2, G2⟩
  obtain ⟨r1, e1⟩ : ∃ r, r = intS xs 0 100 := ⟨_, rfl⟩
  have ER1 : Hid (r1 = intS xs 0 100) := e1
  rw [← e1] at R2 ⊢
  have K2 := K1.kept (G2.block N K1.lt (by simp; omega))
  have B2 := B1.trans (below_grown G2 (by have := B1.size; have := HN.out; omega) (by omega))
  clear e1 K1 R1 B1 G2
  obtain ⟨M, hM⟩ : ∃ M, M = w2.heap.size := ⟨_, rfl⟩
  obtain ⟨w3, hw3⟩ : ∃ W, W = w2.alloc (.cells #[.int .i64 r1.1, .slice none 0 0, .bool false] 37) := ⟨_, rfl⟩
  have C3 : Below w2.heap.size w2 w3 := by rw [hw3]; exact (Below.refl _ _).alloc (Nat.le_refl _) _
  have X3 : RW w3 M r1.1 (.slice none 0 0) false := by rw [hw3, hM]; exact heap_alloc_new w2 _
  have hpM : p < M := by rw [hM]; exact R2.plt.1
  have R3 := R2.below C3
  have K3 := K2.kept (C3.block N K2.lt)
  have B3 := B2.trans (C3.mono (by have := B2.size; have := HN.out; omega))
  go_wp2_with fail
  rw [← hw3, ← hM]
  clear hw3 hM C3 K2 R2 B2
  refine (int_any w3 p p r1.2.1 r1.2.2 16 (by decide) R3.byte R3).mono ?_
  rintro e w4 ⟨rfl, R4, G4⟩
  obtain ⟨r2, e2⟩ : ∃ r, r = intS r1.2.1 r1.2.2 16 := ⟨_, rfl⟩
  have ER2 : Hid (r2 = intS r1.2.1 r1.2.2 16) := e2
  have Z2 : r2.1 ≤ 16 := by rw [e2]; exact intS_le _ _ 16
  rw [← e2] at R4 ⊢
  have inv4 : ResInv w p p N M r2.1 r1.1 r2.2.1 r2.2.2 w4 (.slice none 0 0) [] := ⟨R4, X3.kept (G4.block M X3.lt (by simp; omega)), K3.kept (G4.block N K3.lt (by simp; omega)), ⟨rfl, .inl ⟨rfl, rfl⟩⟩, fun _ h => by simp at h, fun x h => by obtain ⟨y, hy, _⟩ := h; simp at hy, rfl, B3.trans (below_grown G4 (by have := B3.size; have := HN.out; omega) (by omega)), Nat.zero_le _, ⟨Nat.le_refl _, hpM, hNp⟩⟩
  clear e2 R4 X3 K3 B3 G4 R3
  go_wp2_with fail
  go_loopw [14] (fun i wr => ∃ (v : Value) (l : List CA), i = .int .i64 (l.length : Nat) ∧ ResInv w p p N M r2.1 r1.1 r2.2.1 r2.2.2 wr v l) (fun i _ => r2.1 - (intOf i).toNat)
  case atStart => exact ⟨_, [], rfl, inv4⟩
  case round =>
    clear inv4
    obtain ⟨v, l, rfl, inv⟩ := hrel
    obtain ⟨ao1, cap1, rfl, CL1⟩ := CL.own inv.own inv.oks
    by_cases hlt : l.length < r2.1
    · have i6 : (l.length : Int) < (r2.1 : Int) := by omega
      clear CL1
      obtain ⟨i0, hi, hz0, hz1, hz2⟩ := info_parts cellInfo
      go_wp2_with fail
      have inv0 := inv.drew
      obtain ⟨T, hT⟩ : ∃ T, T = repT cT l.length r2.2.1 r2.2.2 := ⟨_, rfl⟩
      refine wp_region_noPanic ?_
      refine wp_region_held_drew (S := fun _ => True) (by kernel_rfl) trivial (fun _ => ?_)
      obtain ⟨v0, hv0⟩ : ∃ v, v = wr.drew := ⟨_, rfl⟩
      rw [← hv0] at inv0 ⊢
      have HI : Hid (ResInv w p p N M r2.1 r1.1 r2.2.1 r2.2.2 v0 (.slice ao1 l.length cap1) l) := inv0
      have R0 : R v0 p p T.2.1 T.2.2 := by rw [hT]; exact inv0.rd
      have m0 : RW v0 M r1.1 (.slice ao1 l.length cap1) false := inv0.ov
      have HT : Hid (T = repT cT l.length r2.2.1 r2.2.2) := hT
      clear hv0 inv inv0 hT
      refine hr_take 0 (some 16) (.pointer (some ⟨M, 1, none⟩)) rfl rfl (by kernel_rfl) (by kernel_rfl) (by kernel_rfl) rfl (fun W hW => by go_simp) trivial ?_
      simp only [FL]
      refine hr_take 2 (some 18) (.pointer (some ⟨p, 0, none⟩)) rfl rfl (by kernel_rfl) (by kernel_rfl) (by kernel_rfl) rfl (fun W hW => by go_simp) trivial ?_
      simp only [FL]
      refine hr_take 4 (some 20) (.pointer (some ⟨p, 0, none⟩)) rfl rfl (by kernel_rfl) (by kernel_rfl) (by kernel_rfl) rfl (fun W hW => by go_simp) trivial ?_
      simp only [FL]
      refine hr_take 6 (some 22) (.pointer (some ⟨p, 0, none⟩)) rfl rfl (by kernel_rfl) (by kernel_rfl) (by kernel_rfl) rfl (fun W hW => by go_simp) trivial ?_
      simp only [FL]
      refine hr_two (i := 1) (j := 3) (by kernel_rfl) ?_ ?_
      · have c1 : v0.cell? ⟨M, 1, none⟩ = some (.slice ao1 l.length cap1) := m0.c1
        refine op_do 1 (some 17) (.slice ao1 l.length cap1) rfl rfl rfl (w' := v0) (by go_simp) trivial ?_
        simp only [FL]
        clear c1
        refine hr_call 3 (some 19) 74 #[.pointer (some ⟨p, 0, none⟩)] rfl rfl (by kernel_rfl) rfl (by go_simp) (fun v w' => v = (keyOf (keyT T.2.1 T.2.2).1).val ∧ Left v0 p p (keyT T.2.1 T.2.2).2 w') ((tkey_any v0 p p T.2.1 T.2.2 R0).mono (fun e w' h => ⟨_, h.1, rfl, h.2⟩)) ?_
        rintro vv U1 ⟨rfl, R1, G1⟩
        refine ⟨trivial, ?_⟩
        have Zk := keyT_ok R0.byte (k := T.2.2)
        obtain ⟨k1, hk1⟩ : ∃ r, r = keyT T.2.1 T.2.2 := ⟨_, rfl⟩
        have HK1 : Hid (k1 = keyT T.2.1 T.2.2) := hk1
        rw [← hk1] at R1 Zk ⊢
        have m1 := m0.kept (G1.block M m0.lt (by simp; omega))
        unfold KA.val keyOf
        simp only [FL]
        clear hk1
        refine hr_call 5 (some 21) 46 #[.pointer (some ⟨p, 0, none⟩), .int .i64 256] rfl rfl (by kernel_rfl) rfl (by go_simp) (fun v w' => ∃ bo bn bc, v = .slice bo bn bc ∧ Sl w' bo bn bc (bytesS k1.2.1 k1.2.2 256).1 ∧ (∀ a, bo = some a → U1.heap.size ≤ a.block) ∧ R w' p p (bytesS k1.2.1 k1.2.2 256).2.1 (bytesS k1.2.1 k1.2.2 256).2.2 ∧ U1.grownBy w' (some p)) ((bytes_any U1 p p k1.2.1 k1.2.2 256 (by decide) R1).mono (fun e w' h => by obtain ⟨bo, bn, bc, h1, h2⟩ := h; exact ⟨_, h1, bo, bn, bc, rfl, h2⟩)) ?_
        rintro vv U2 ⟨bo, bn, bc, rfl, S2, F2, R2, G2⟩
        refine ⟨trivial, ?_⟩
        obtain ⟨k2, hk2⟩ : ∃ r, r = bytesS k1.2.1 k1.2.2 256 := ⟨_, rfl⟩
        have HK2 : Hid (k2 = bytesS k1.2.1 k1.2.2 256) := hk2
        rw [← hk2] at S2 R2
        have m2 := m1.kept (G2.block M m1.lt (by simp; omega))
        simp only [FL]
        clear hk2
        refine hr_call 7 (some 23) 75 #[.pointer (some ⟨p, 0, none⟩)] rfl rfl (by kernel_rfl) rfl (by go_simp) (fun v w' => v = .bool (boolS k2.2.1 k2.2.2).1 ∧ R w' p p (boolS k2.2.1 k2.2.2).2.1 (boolS k2.2.1 k2.2.2).2.2 ∧ U2.grownBy w' (some p)) ((bool_any U2 p p k2.2.1 k2.2.2 R2).mono (fun e w' h => ⟨_, h.1, rfl, h.2⟩)) ?_
        rintro vv U3 ⟨rfl, R3, G3⟩
        refine ⟨trivial, ?_⟩
        obtain ⟨k3, hk3⟩ : ∃ r, r = boolS k2.2.1 k2.2.2 := ⟨_, rfl⟩
        have HK3 : Hid (k3 = boolS k2.2.1 k2.2.2) := hk3
        rw [← hk3] at R3 ⊢
        have m3 := m2.kept (G3.block M m2.lt (by simp; omega))
        simp only [FL]
        clear hk3
        refine hr_take 8 (some 24) (.agg #[.string k1.1.1, .string k1.1.2.1, .string k1.1.2.2.1, .int .u64 k1.1.2.2.2, .slice bo bn bc, .bool k3.1]) rfl rfl (by kernel_rfl) (by kernel_rfl) (by kernel_rfl) rfl (fun W hW => by go_simp) trivial ?_
        simp only [FL]
        obtain ⟨g, hg⟩ : ∃ g, g = U3.heap.size := ⟨_, rfl⟩
        obtain ⟨U4, hU4⟩ : ∃ W, W = U3.alloc (.cells #[.string k1.1.1, .string k1.1.2.1, .string k1.1.2.2.1, .int .u64 k1.1.2.2.2, .slice bo bn bc, .bool k3.1] 76) := ⟨_, rfl⟩
        have N4 : U4.heap[g]? = some (.cells #[.string k1.1.1, .string k1.1.2.1, .string k1.1.2.2.1, .int .u64 k1.1.2.2.2, .slice bo bn bc, .bool k3.1] 76) := by rw [hU4, hg]; exact heap_alloc_new U3 _
        have B4 : Below U3.heap.size U3 U4 := by rw [hU4]; exact (Below.refl _ _).alloc (Nat.le_refl _) _
        refine hr_do 9 (some 25) (.slice (some ⟨g, 0, none⟩) 1 1) rfl rfl (by kernel_rfl) rfl (w' := U4) (by rw [hU4, hg]; go_simp) trivial ?_
        simp only [FL]
        have HU4 : Hid (U4 = U3.alloc (.cells #[.string k1.1.1, .string k1.1.2.1, .string k1.1.2.2.1, .int .u64 k1.1.2.2.2, .slice bo bn bc, .bool k3.1] 76)) := hU4
        clear hU4 hg
        have y5 : v0.grownBy U3 (some p) := grown_trans (grown_trans G1 G2) G3
        have S3 : Sl U3 bo bn bc k2.1 := Sl.kept (b := ⟨bo, bn, bc, k2.1⟩) S2 (fun x hx => by
          obtain ⟨a, ha, hn, rfl⟩ := hx
          exact G3.block _ (S2.lt a ha hn) (by have := F2 a ha; have := m1.lt; simp; omega))
        have y1 : (⟨k1.1.1, k1.1.2.1, k1.1.2.2.1, k1.1.2.2.2, ⟨bo, bn, bc, k2.1⟩, k3.1⟩ : CA).ok U3 := ⟨by show k1.1.1.size ≤ maxLen; unfold maxLen; omega, by show k1.1.2.1.size ≤ maxLen; unfold maxLen; omega, by show k1.1.2.2.1.size ≤ maxLen; unfold maxLen; omega, Zk.2.2.2, S3⟩
        have y2 : ∀ x, (⟨k1.1.1, k1.1.2.1, k1.1.2.2.1, k1.1.2.2.2, ⟨bo, bn, bc, k2.1⟩, k3.1⟩ : CA).va.blk x → v0.heap.size ≤ x := fun x hx => by
          obtain ⟨a, ha, hn, rfl⟩ := hx
          have := F2 a ha
          have := G1.size
          omega
        have y3 : (⟨k1.1.1, k1.1.2.1, k1.1.2.2.1, k1.1.2.2.2, ⟨bo, bn, bc, k2.1⟩, k3.1⟩ : CA).c = (cT T.2.1 T.2.2).1 := by
          rw [cT_key, ← HK1.out, ← HK2.out, ← HK3.out]
          rfl
        have y4 : R U3 p p (cT T.2.1 T.2.2).2.1 (cT T.2.1 T.2.2).2.2 := by
          rw [cT_key, ← HK1.out, ← HK2.out, ← HK3.out]
          exact R3
        rw [HT.out] at y3 y4
        have ownU3 : U3.ownsRow (M + 1) 76 6 (.slice ao1 l.length cap1) l.length (cellsC l) := own_kept HI.out.own fun x hx => y5.block x (HI.out.ownlt hx).2 (by have := HI.out.ownlt hx; simp; omega)
        have ownU4 : U4.ownsRow (M + 1) 76 6 (.slice ao1 l.length cap1) l.length (cellsC l) := own_kept ownU3 fun x hx => B4.block x (by have := HI.out.ownlt hx; have := y5.size; omega)
        refine hr_own 10 (some 26) rfl rfl (by kernel_rfl) rfl (.tmp 17) (.tmp 25) 35 rfl (M + 1) 76 i0 _ 6 88 Tryd.underlying35 hi hz0 hz1 hz2 rfl (by decide) (.slice ao1 l.length cap1) l.length (cellsC l) rfl ownU4 ⟨g, 0, none⟩ 1 1 (⟨k1.1.1, k1.1.2.1, k1.1.2.2.1, k1.1.2.2.2, ⟨bo, bn, bc, k2.1⟩, k3.1⟩ : CA).cells rfl rfl (fun j u hu => by rw [Addr.add_lit, Nat.zero_add]; exact (cell_of_row U4 g j #[.string k1.1.1, .string k1.1.2.1, .string k1.1.2.2.1, .int .u64 k1.1.2.2.2, .slice bo bn bc, .bool k3.1] _ (0, 0) N4).trans (show ((⟨k1.1.1, k1.1.2.1, k1.1.2.2.1, k1.1.2.2.2, ⟨bo, bn, bc, k2.1⟩, k3.1⟩ : CA).cells.toArray)[j]? = some u from by rw [List.getElem?_toArray]; exact hu)) (c_one (⟨k1.1.1, k1.1.2.1, k1.1.2.2.1, k1.1.2.2.2, ⟨bo, bn, bc, k2.1⟩, k3.1⟩ : CA)) (by unfold maxLen; omega) (by omega) (by have := m3.lt; have := B4.size; omega) ?_
        intro v' U5 O5 G5 H5
        refine ⟨trivial, ?_⟩
        simp only [FL]
        rw [HU4.out] at G5 H5
        have ST := HI.out.step (by omega) y1 y2 y3 y4 y5 O5 G5 H5
        have n5 : RW U5 M r1.1 (.slice ao1 l.length cap1) false := m3.kept ((G5.block M (by have := m3.lt; simp; omega) (fun e => by have := HI.out.ownlt e.symm; omega)).trans (heap_alloc_old U3 _ m3.lt))
        have d1 := n5.c1
        have z1 := n5.fz 1
        refine hr_take 11 (some 27) (.pointer (some ⟨M, 1, none⟩)) rfl rfl (by kernel_rfl) (by kernel_rfl) (by kernel_rfl) rfl (fun W hW => by go_simp) trivial ?_
        simp only [FL]
        have mm := CL.own ST.own ST.oks
        rw [List.length_append, List.length_singleton] at mm
        obtain ⟨ao3, cap3, rfl, _⟩ := mm
        refine hr_skip 12 none rfl rfl (by kernel_rfl) rfl (w' := U5.setCell ⟨M, 1, none⟩ (.slice ao3 (l.length + 1) cap3)) (by go_simp) trivial ?_
        simp only [Act.put]
        refine wpAnyH_done (by kernel_rfl) ?_ _
        refine NoPanic.normal ?_
        have HST : Hid _ := ST
        clear ST ownU3 ownU4 O5 G5 H5 d1 z1 n5 HU4 N4 B4 y1 y2 y3 y4 y5 S3 S2 R1 R2 R3 G1 G2 G3 m0 m1 m2 m3
        go_wp2
        go_roundw
        case rel => exact ⟨_, l ++ [_], by rw [List.length_append, List.length_singleton]; go_num, HST.out⟩
        case measure => simp [intOf]; omega
      · refine op_call 3 (some 19) 74 #[.pointer (some ⟨p, 0, none⟩)] rfl rfl rfl (by go_simp) (fun v w' => v = (keyOf (keyT T.2.1 T.2.2).1).val ∧ Left v0 p p (keyT T.2.1 T.2.2).2 w') ((tkey_any v0 p p T.2.1 T.2.2 R0).mono (fun e w' h => ⟨_, h.1, rfl, h.2⟩)) ?_
        rintro vv U1 ⟨rfl, R1, G1⟩
        refine ⟨trivial, ?_⟩
        have Zk := keyT_ok R0.byte (k := T.2.2)
        obtain ⟨k1, hk1⟩ : ∃ r, r = keyT T.2.1 T.2.2 := ⟨_, rfl⟩
        have HK1 : Hid (k1 = keyT T.2.1 T.2.2) := hk1
        rw [← hk1] at R1 Zk ⊢
        have m1 := m0.kept (G1.block M m0.lt (by simp; omega))
        unfold KA.val keyOf
        simp only [FL]
        clear hk1
        refine hr_two (i := 1) (j := 5) (by kernel_rfl) ?_ ?_
        · have c1 : U1.cell? ⟨M, 1, none⟩ = some (.slice ao1 l.length cap1) := m1.c1
          refine op_do 1 (some 17) (.slice ao1 l.length cap1) rfl rfl rfl (w' := U1) (by go_simp) trivial ?_
          simp only [FL]
          clear c1
          refine hr_call 5 (some 21) 46 #[.pointer (some ⟨p, 0, none⟩), .int .i64 256] rfl rfl (by kernel_rfl) rfl (by go_simp) (fun v w' => ∃ bo bn bc, v = .slice bo bn bc ∧ Sl w' bo bn bc (bytesS k1.2.1 k1.2.2 256).1 ∧ (∀ a, bo = some a → U1.heap.size ≤ a.block) ∧ R w' p p (bytesS k1.2.1 k1.2.2 256).2.1 (bytesS k1.2.1 k1.2.2 256).2.2 ∧ U1.grownBy w' (some p)) ((bytes_any U1 p p k1.2.1 k1.2.2 256 (by decide) R1).mono (fun e w' h => by obtain ⟨bo, bn, bc, h1, h2⟩ := h; exact ⟨_, h1, bo, bn, bc, rfl, h2⟩)) ?_
          rintro vv U2 ⟨bo, bn, bc, rfl, S2, F2, R2, G2⟩
          refine ⟨trivial, ?_⟩
          obtain ⟨k2, hk2⟩ : ∃ r, r = bytesS k1.2.1 k1.2.2 256 := ⟨_, rfl⟩
          have HK2 : Hid (k2 = bytesS k1.2.1 k1.2.2 256) := hk2
          rw [← hk2] at S2 R2
          have m2 := m1.kept (G2.block M m1.lt (by simp; omega))
          simp only [FL]
          clear hk2
          refine hr_call 7 (some 23) 75 #[.pointer (some ⟨p, 0, none⟩)] rfl rfl (by kernel_rfl) rfl (by go_simp) (fun v w' => v = .bool (boolS k2.2.1 k2.2.2).1 ∧ R w' p p (boolS k2.2.1 k2.2.2).2.1 (boolS k2.2.1 k2.2.2).2.2 ∧ U2.grownBy w' (some p)) ((bool_any U2 p p k2.2.1 k2.2.2 R2).mono (fun e w' h => ⟨_, h.1, rfl, h.2⟩)) ?_
          rintro vv U3 ⟨rfl, R3, G3⟩
          refine ⟨trivial, ?_⟩
          obtain ⟨k3, hk3⟩ : ∃ r, r = boolS k2.2.1 k2.2.2 := ⟨_, rfl⟩
          have HK3 : Hid (k3 = boolS k2.2.1 k2.2.2) := hk3
          rw [← hk3] at R3 ⊢
          have m3 := m2.kept (G3.block M m2.lt (by simp; omega))
          simp only [FL]
          clear hk3
          refine hr_take 8 (some 24) (.agg #[.string k1.1.1, .string k1.1.2.1, .string k1.1.2.2.1, .int .u64 k1.1.2.2.2, .slice bo bn bc, .bool k3.1]) rfl rfl (by kernel_rfl) (by kernel_rfl) (by kernel_rfl) rfl (fun W hW => by go_simp) trivial ?_
          simp only [FL]
          obtain ⟨g, hg⟩ : ∃ g, g = U3.heap.size := ⟨_, rfl⟩
          obtain ⟨U4, hU4⟩ : ∃ W, W = U3.alloc (.cells #[.string k1.1.1, .string k1.1.2.1, .string k1.1.2.2.1, .int .u64 k1.1.2.2.2, .slice bo bn bc, .bool k3.1] 76) := ⟨_, rfl⟩
          have N4 : U4.heap[g]? = some (.cells #[.string k1.1.1, .string k1.1.2.1, .string k1.1.2.2.1, .int .u64 k1.1.2.2.2, .slice bo bn bc, .bool k3.1] 76) := by rw [hU4, hg]; exact heap_alloc_new U3 _
          have B4 : Below U3.heap.size U3 U4 := by rw [hU4]; exact (Below.refl _ _).alloc (Nat.le_refl _) _
          refine hr_do 9 (some 25) (.slice (some ⟨g, 0, none⟩) 1 1) rfl rfl (by kernel_rfl) rfl (w' := U4) (by rw [hU4, hg]; go_simp) trivial ?_
          simp only [FL]
          have HU4 : Hid (U4 = U3.alloc (.cells #[.string k1.1.1, .string k1.1.2.1, .string k1.1.2.2.1, .int .u64 k1.1.2.2.2, .slice bo bn bc, .bool k3.1] 76)) := hU4
          clear hU4 hg
          have y5 : v0.grownBy U3 (some p) := grown_trans (grown_trans G1 G2) G3
          have S3 : Sl U3 bo bn bc k2.1 := Sl.kept (b := ⟨bo, bn, bc, k2.1⟩) S2 (fun x hx => by
            obtain ⟨a, ha, hn, rfl⟩ := hx
            exact G3.block _ (S2.lt a ha hn) (by have := F2 a ha; have := m1.lt; simp; omega))
          have y1 : (⟨k1.1.1, k1.1.2.1, k1.1.2.2.1, k1.1.2.2.2, ⟨bo, bn, bc, k2.1⟩, k3.1⟩ : CA).ok U3 := ⟨by show k1.1.1.size ≤ maxLen; unfold maxLen; omega, by show k1.1.2.1.size ≤ maxLen; unfold maxLen; omega, by show k1.1.2.2.1.size ≤ maxLen; unfold maxLen; omega, Zk.2.2.2, S3⟩
          have y2 : ∀ x, (⟨k1.1.1, k1.1.2.1, k1.1.2.2.1, k1.1.2.2.2, ⟨bo, bn, bc, k2.1⟩, k3.1⟩ : CA).va.blk x → v0.heap.size ≤ x := fun x hx => by
            obtain ⟨a, ha, hn, rfl⟩ := hx
            have := F2 a ha
            have := G1.size
            omega
          have y3 : (⟨k1.1.1, k1.1.2.1, k1.1.2.2.1, k1.1.2.2.2, ⟨bo, bn, bc, k2.1⟩, k3.1⟩ : CA).c = (cT T.2.1 T.2.2).1 := by
            rw [cT_key, ← HK1.out, ← HK2.out, ← HK3.out]
            rfl
          have y4 : R U3 p p (cT T.2.1 T.2.2).2.1 (cT T.2.1 T.2.2).2.2 := by
            rw [cT_key, ← HK1.out, ← HK2.out, ← HK3.out]
            exact R3
          rw [HT.out] at y3 y4
          have ownU3 : U3.ownsRow (M + 1) 76 6 (.slice ao1 l.length cap1) l.length (cellsC l) := own_kept HI.out.own fun x hx => y5.block x (HI.out.ownlt hx).2 (by have := HI.out.ownlt hx; simp; omega)
          have ownU4 : U4.ownsRow (M + 1) 76 6 (.slice ao1 l.length cap1) l.length (cellsC l) := own_kept ownU3 fun x hx => B4.block x (by have := HI.out.ownlt hx; have := y5.size; omega)
          refine hr_own 10 (some 26) rfl rfl (by kernel_rfl) rfl (.tmp 17) (.tmp 25) 35 rfl (M + 1) 76 i0 _ 6 88 Tryd.underlying35 hi hz0 hz1 hz2 rfl (by decide) (.slice ao1 l.length cap1) l.length (cellsC l) rfl ownU4 ⟨g, 0, none⟩ 1 1 (⟨k1.1.1, k1.1.2.1, k1.1.2.2.1, k1.1.2.2.2, ⟨bo, bn, bc, k2.1⟩, k3.1⟩ : CA).cells rfl rfl (fun j u hu => by rw [Addr.add_lit, Nat.zero_add]; exact (cell_of_row U4 g j #[.string k1.1.1, .string k1.1.2.1, .string k1.1.2.2.1, .int .u64 k1.1.2.2.2, .slice bo bn bc, .bool k3.1] _ (0, 0) N4).trans (show ((⟨k1.1.1, k1.1.2.1, k1.1.2.2.1, k1.1.2.2.2, ⟨bo, bn, bc, k2.1⟩, k3.1⟩ : CA).cells.toArray)[j]? = some u from by rw [List.getElem?_toArray]; exact hu)) (c_one (⟨k1.1.1, k1.1.2.1, k1.1.2.2.1, k1.1.2.2.2, ⟨bo, bn, bc, k2.1⟩, k3.1⟩ : CA)) (by unfold maxLen; omega) (by omega) (by have := m3.lt; have := B4.size; omega) ?_
          intro v' U5 O5 G5 H5
          refine ⟨trivial, ?_⟩
          simp only [FL]
          rw [HU4.out] at G5 H5
          have ST := HI.out.step (by omega) y1 y2 y3 y4 y5 O5 G5 H5
          have n5 : RW U5 M r1.1 (.slice ao1 l.length cap1) false := m3.kept ((G5.block M (by have := m3.lt; simp; omega) (fun e => by have := HI.out.ownlt e.symm; omega)).trans (heap_alloc_old U3 _ m3.lt))
          have d1 := n5.c1
          have z1 := n5.fz 1
          refine hr_take 11 (some 27) (.pointer (some ⟨M, 1, none⟩)) rfl rfl (by kernel_rfl) (by kernel_rfl) (by kernel_rfl) rfl (fun W hW => by go_simp) trivial ?_
          simp only [FL]
          have mm := CL.own ST.own ST.oks
          rw [List.length_append, List.length_singleton] at mm
          obtain ⟨ao3, cap3, rfl, _⟩ := mm
          refine hr_skip 12 none rfl rfl (by kernel_rfl) rfl (w' := U5.setCell ⟨M, 1, none⟩ (.slice ao3 (l.length + 1) cap3)) (by go_simp) trivial ?_
          simp only [Act.put]
          refine wpAnyH_done (by kernel_rfl) ?_ _
          refine NoPanic.normal ?_
          have HST : Hid _ := ST
          clear ST ownU3 ownU4 O5 G5 H5 d1 z1 n5 HU4 N4 B4 y1 y2 y3 y4 y5 S3 S2 R1 R2 R3 G1 G2 G3 m0 m1 m2 m3
          go_wp2
          go_roundw
          case rel => exact ⟨_, l ++ [_], by rw [List.length_append, List.length_singleton]; go_num, HST.out⟩
          case measure => simp [intOf]; omega
        · refine op_call 5 (some 21) 46 #[.pointer (some ⟨p, 0, none⟩), .int .i64 256] rfl rfl rfl (by go_simp) (fun v w' => ∃ bo bn bc, v = .slice bo bn bc ∧ Sl w' bo bn bc (bytesS k1.2.1 k1.2.2 256).1 ∧ (∀ a, bo = some a → U1.heap.size ≤ a.block) ∧ R w' p p (bytesS k1.2.1 k1.2.2 256).2.1 (bytesS k1.2.1 k1.2.2 256).2.2 ∧ U1.grownBy w' (some p)) ((bytes_any U1 p p k1.2.1 k1.2.2 256 (by decide) R1).mono (fun e w' h => by obtain ⟨bo, bn, bc, h1, h2⟩ := h; exact ⟨_, h1, bo, bn, bc, rfl, h2⟩)) ?_
          rintro vv U2 ⟨bo, bn, bc, rfl, S2, F2, R2, G2⟩
          refine ⟨trivial, ?_⟩
          obtain ⟨k2, hk2⟩ : ∃ r, r = bytesS k1.2.1 k1.2.2 256 := ⟨_, rfl⟩
          have HK2 : Hid (k2 = bytesS k1.2.1 k1.2.2 256) := hk2
          rw [← hk2] at S2 R2
          have m2 := m1.kept (G2.block M m1.lt (by simp; omega))
          simp only [FL]
          clear hk2
          refine hr_two (i := 1) (j := 7) (by kernel_rfl) ?_ ?_
          · have c1 : U2.cell? ⟨M, 1, none⟩ = some (.slice ao1 l.length cap1) := m2.c1
            refine op_do 1 (some 17) (.slice ao1 l.length cap1) rfl rfl rfl (w' := U2) (by go_simp) trivial ?_
            simp only [FL]
            clear c1
            refine hr_call 7 (some 23) 75 #[.pointer (some ⟨p, 0, none⟩)] rfl rfl (by kernel_rfl) rfl (by go_simp) (fun v w' => v = .bool (boolS k2.2.1 k2.2.2).1 ∧ R w' p p (boolS k2.2.1 k2.2.2).2.1 (boolS k2.2.1 k2.2.2).2.2 ∧ U2.grownBy w' (some p)) ((bool_any U2 p p k2.2.1 k2.2.2 R2).mono (fun e w' h => ⟨_, h.1, rfl, h.2⟩)) ?_
            rintro vv U3 ⟨rfl, R3, G3⟩
            refine ⟨trivial, ?_⟩
            obtain ⟨k3, hk3⟩ : ∃ r, r = boolS k2.2.1 k2.2.2 := ⟨_, rfl⟩
            have HK3 : Hid (k3 = boolS k2.2.1 k2.2.2) := hk3
            rw [← hk3] at R3 ⊢
            have m3 := m2.kept (G3.block M m2.lt (by simp; omega))
            simp only [FL]
            clear hk3
            refine hr_take 8 (some 24) (.agg #[.string k1.1.1, .string k1.1.2.1, .string k1.1.2.2.1, .int .u64 k1.1.2.2.2, .slice bo bn bc, .bool k3.1]) rfl rfl (by kernel_rfl) (by kernel_rfl) (by kernel_rfl) rfl (fun W hW => by go_simp) trivial ?_
            simp only [FL]
            obtain ⟨g, hg⟩ : ∃ g, g = U3.heap.size := ⟨_, rfl⟩
            obtain ⟨U4, hU4⟩ : ∃ W, W = U3.alloc (.cells #[.string k1.1.1, .string k1.1.2.1, .string k1.1.2.2.1, .int .u64 k1.1.2.2.2, .slice bo bn bc, .bool k3.1] 76) := ⟨_, rfl⟩
            have N4 : U4.heap[g]? = some (.cells #[.string k1.1.1, .string k1.1.2.1, .string k1.1.2.2.1, .int .u64 k1.1.2.2.2, .slice bo bn bc, .bool k3.1] 76) := by rw [hU4, hg]; exact heap_alloc_new U3 _
            have B4 : Below U3.heap.size U3 U4 := by rw [hU4]; exact (Below.refl _ _).alloc (Nat.le_refl _) _
            refine hr_do 9 (some 25) (.slice (some ⟨g, 0, none⟩) 1 1) rfl rfl (by kernel_rfl) rfl (w' := U4) (by rw [hU4, hg]; go_simp) trivial ?_
            simp only [FL]
            have HU4 : Hid (U4 = U3.alloc (.cells #[.string k1.1.1, .string k1.1.2.1, .string k1.1.2.2.1, .int .u64 k1.1.2.2.2, .slice bo bn bc, .bool k3.1] 76)) := hU4
            clear hU4 hg
            have y5 : v0.grownBy U3 (some p) := grown_trans (grown_trans G1 G2) G3
            have S3 : Sl U3 bo bn bc k2.1 := Sl.kept (b := ⟨bo, bn, bc, k2.1⟩) S2 (fun x hx => by
              obtain ⟨a, ha, hn, rfl⟩ := hx
              exact G3.block _ (S2.lt a ha hn) (by have := F2 a ha; have := m1.lt; simp; omega))
            have y1 : (⟨k1.1.1, k1.1.2.1, k1.1.2.2.1, k1.1.2.2.2, ⟨bo, bn, bc, k2.1⟩, k3.1⟩ : CA).ok U3 := ⟨by show k1.1.1.size ≤ maxLen; unfold maxLen; omega, by show k1.1.2.1.size ≤ maxLen; unfold maxLen; omega, by show k1.1.2.2.1.size ≤ maxLen; unfold maxLen; omega, Zk.2.2.2, S3⟩
            have y2 : ∀ x, (⟨k1.1.1, k1.1.2.1, k1.1.2.2.1, k1.1.2.2.2, ⟨bo, bn, bc, k2.1⟩, k3.1⟩ : CA).va.blk x → v0.heap.size ≤ x := fun x hx => by
              obtain ⟨a, ha, hn, rfl⟩ := hx
              have := F2 a ha
              have := G1.size
              omega
            have y3 : (⟨k1.1.1, k1.1.2.1, k1.1.2.2.1, k1.1.2.2.2, ⟨bo, bn, bc, k2.1⟩, k3.1⟩ : CA).c = (cT T.2.1 T.2.2).1 := by
              rw [cT_key, ← HK1.out, ← HK2.out, ← HK3.out]
              rfl
            have y4 : R U3 p p (cT T.2.1 T.2.2).2.1 (cT T.2.1 T.2.2).2.2 := by
              rw [cT_key, ← HK1.out, ← HK2.out, ← HK3.out]
              exact R3
            rw [HT.out] at y3 y4
            have ownU3 : U3.ownsRow (M + 1) 76 6 (.slice ao1 l.length cap1) l.length (cellsC l) := own_kept HI.out.own fun x hx => y5.block x (HI.out.ownlt hx).2 (by have := HI.out.ownlt hx; simp; omega)
            have ownU4 : U4.ownsRow (M + 1) 76 6 (.slice ao1 l.length cap1) l.length (cellsC l) := own_kept ownU3 fun x hx => B4.block x (by have := HI.out.ownlt hx; have := y5.size; omega)
            refine hr_own 10 (some 26) rfl rfl (by kernel_rfl) rfl (.tmp 17) (.tmp 25) 35 rfl (M + 1) 76 i0 _ 6 88 Tryd.underlying35 hi hz0 hz1 hz2 rfl (by decide) (.slice ao1 l.length cap1) l.length (cellsC l) rfl ownU4 ⟨g, 0, none⟩ 1 1 (⟨k1.1.1, k1.1.2.1, k1.1.2.2.1, k1.1.2.2.2, ⟨bo, bn, bc, k2.1⟩, k3.1⟩ : CA).cells rfl rfl (fun j u hu => by rw [Addr.add_lit, Nat.zero_add]; exact (cell_of_row U4 g j #[.string k1.1.1, .string k1.1.2.1, .string k1.1.2.2.1, .int .u64 k1.1.2.2.2, .slice bo bn bc, .bool k3.1] _ (0, 0) N4).trans (show ((⟨k1.1.1, k1.1.2.1, k1.1.2.2.1, k1.1.2.2.2, ⟨bo, bn, bc, k2.1⟩, k3.1⟩ : CA).cells.toArray)[j]? = some u from by rw [List.getElem?_toArray]; exact hu)) (c_one (⟨k1.1.1, k1.1.2.1, k1.1.2.2.1, k1.1.2.2.2, ⟨bo, bn, bc, k2.1⟩, k3.1⟩ : CA)) (by unfold maxLen; omega) (by omega) (by have := m3.lt; have := B4.size; omega) ?_
            intro v' U5 O5 G5 H5
            refine ⟨trivial, ?_⟩
            simp only [FL]
            rw [HU4.out] at G5 H5
            have ST := HI.out.step (by omega) y1 y2 y3 y4 y5 O5 G5 H5
            have n5 : RW U5 M r1.1 (.slice ao1 l.length cap1) false := m3.kept ((G5.block M (by have := m3.lt; simp; omega) (fun e => by have := HI.out.ownlt e.symm; omega)).trans (heap_alloc_old U3 _ m3.lt))
            have d1 := n5.c1
            have z1 := n5.fz 1
            refine hr_take 11 (some 27) (.pointer (some ⟨M, 1, none⟩)) rfl rfl (by kernel_rfl) (by kernel_rfl) (by kernel_rfl) rfl (fun W hW => by go_simp) trivial ?_
            simp only [FL]
            have mm := CL.own ST.own ST.oks
            rw [List.length_append, List.length_singleton] at mm
            obtain ⟨ao3, cap3, rfl, _⟩ := mm
            refine hr_skip 12 none rfl rfl (by kernel_rfl) rfl (w' := U5.setCell ⟨M, 1, none⟩ (.slice ao3 (l.length + 1) cap3)) (by go_simp) trivial ?_
            simp only [Act.put]
            refine wpAnyH_done (by kernel_rfl) ?_ _
            refine NoPanic.normal ?_
            have HST : Hid _ := ST
            clear ST ownU3 ownU4 O5 G5 H5 d1 z1 n5 HU4 N4 B4 y1 y2 y3 y4 y5 S3 S2 R1 R2 R3 G1 G2 G3 m0 m1 m2 m3
            go_wp2
            go_roundw
            case rel => exact ⟨_, l ++ [_], by rw [List.length_append, List.length_singleton]; go_num, HST.out⟩
            case measure => simp [intOf]; omega
          · refine op_call 7 (some 23) 75 #[.pointer (some ⟨p, 0, none⟩)] rfl rfl rfl (by go_simp) (fun v w' => v = .bool (boolS k2.2.1 k2.2.2).1 ∧ R w' p p (boolS k2.2.1 k2.2.2).2.1 (boolS k2.2.1 k2.2.2).2.2 ∧ U2.grownBy w' (some p)) ((bool_any U2 p p k2.2.1 k2.2.2 R2).mono (fun e w' h => ⟨_, h.1, rfl, h.2⟩)) ?_
            rintro vv U3 ⟨rfl, R3, G3⟩
            refine ⟨trivial, ?_⟩
            obtain ⟨k3, hk3⟩ : ∃ r, r = boolS k2.2.1 k2.2.2 := ⟨_, rfl⟩
            have HK3 : Hid (k3 = boolS k2.2.1 k2.2.2) := hk3
            rw [← hk3] at R3 ⊢
            have m3 := m2.kept (G3.block M m2.lt (by simp; omega))
            simp only [FL]
            clear hk3
            refine hr_take 8 (some 24) (.agg #[.string k1.1.1, .string k1.1.2.1, .string k1.1.2.2.1, .int .u64 k1.1.2.2.2, .slice bo bn bc, .bool k3.1]) rfl rfl (by kernel_rfl) (by kernel_rfl) (by kernel_rfl) rfl (fun W hW => by go_simp) trivial ?_
            simp only [FL]
            refine hr_two (i := 1) (j := 9) (by kernel_rfl) ?_ ?_
            · have c1 : U3.cell? ⟨M, 1, none⟩ = some (.slice ao1 l.length cap1) := m3.c1
              refine op_do 1 (some 17) (.slice ao1 l.length cap1) rfl rfl rfl (w' := U3) (by go_simp) trivial ?_
              simp only [FL]
              clear c1
              obtain ⟨g, hg⟩ : ∃ g, g = U3.heap.size := ⟨_, rfl⟩
              obtain ⟨U4, hU4⟩ : ∃ W, W = U3.alloc (.cells #[.string k1.1.1, .string k1.1.2.1, .string k1.1.2.2.1, .int .u64 k1.1.2.2.2, .slice bo bn bc, .bool k3.1] 76) := ⟨_, rfl⟩
              have N4 : U4.heap[g]? = some (.cells #[.string k1.1.1, .string k1.1.2.1, .string k1.1.2.2.1, .int .u64 k1.1.2.2.2, .slice bo bn bc, .bool k3.1] 76) := by rw [hU4, hg]; exact heap_alloc_new U3 _
              have B4 : Below U3.heap.size U3 U4 := by rw [hU4]; exact (Below.refl _ _).alloc (Nat.le_refl _) _
              refine hr_do 9 (some 25) (.slice (some ⟨g, 0, none⟩) 1 1) rfl rfl (by kernel_rfl) rfl (w' := U4) (by rw [hU4, hg]; go_simp) trivial ?_
              simp only [FL]
              have HU4 : Hid (U4 = U3.alloc (.cells #[.string k1.1.1, .string k1.1.2.1, .string k1.1.2.2.1, .int .u64 k1.1.2.2.2, .slice bo bn bc, .bool k3.1] 76)) := hU4
              clear hU4 hg
              have y5 : v0.grownBy U3 (some p) := grown_trans (grown_trans G1 G2) G3
              have S3 : Sl U3 bo bn bc k2.1 := Sl.kept (b := ⟨bo, bn, bc, k2.1⟩) S2 (fun x hx => by
                obtain ⟨a, ha, hn, rfl⟩ := hx
                exact G3.block _ (S2.lt a ha hn) (by have := F2 a ha; have := m1.lt; simp; omega))
              have y1 : (⟨k1.1.1, k1.1.2.1, k1.1.2.2.1, k1.1.2.2.2, ⟨bo, bn, bc, k2.1⟩, k3.1⟩ : CA).ok U3 := ⟨by show k1.1.1.size ≤ maxLen; unfold maxLen; omega, by show k1.1.2.1.size ≤ maxLen; unfold maxLen; omega, by show k1.1.2.2.1.size ≤ maxLen; unfold maxLen; omega, Zk.2.2.2, S3⟩
              have y2 : ∀ x, (⟨k1.1.1, k1.1.2.1, k1.1.2.2.1, k1.1.2.2.2, ⟨bo, bn, bc, k2.1⟩, k3.1⟩ : CA).va.blk x → v0.heap.size ≤ x := fun x hx => by
                obtain ⟨a, ha, hn, rfl⟩ := hx
                have := F2 a ha
                have := G1.size
                omega
              have y3 : (⟨k1.1.1, k1.1.2.1, k1.1.2.2.1, k1.1.2.2.2, ⟨bo, bn, bc, k2.1⟩, k3.1⟩ : CA).c = (cT T.2.1 T.2.2).1 := by
                rw [cT_key, ← HK1.out, ← HK2.out, ← HK3.out]
                rfl
              have y4 : R U3 p p (cT T.2.1 T.2.2).2.1 (cT T.2.1 T.2.2).2.2 := by
                rw [cT_key, ← HK1.out, ← HK2.out, ← HK3.out]
                exact R3
              rw [HT.out] at y3 y4
              have ownU3 : U3.ownsRow (M + 1) 76 6 (.slice ao1 l.length cap1) l.length (cellsC l) := own_kept HI.out.own fun x hx => y5.block x (HI.out.ownlt hx).2 (by have := HI.out.ownlt hx; simp; omega)
              have ownU4 : U4.ownsRow (M + 1) 76 6 (.slice ao1 l.length cap1) l.length (cellsC l) := own_kept ownU3 fun x hx => B4.block x (by have := HI.out.ownlt hx; have := y5.size; omega)
              refine hr_own 10 (some 26) rfl rfl (by kernel_rfl) rfl (.tmp 17) (.tmp 25) 35 rfl (M + 1) 76 i0 _ 6 88 Tryd.underlying35 hi hz0 hz1 hz2 rfl (by decide) (.slice ao1 l.length cap1) l.length (cellsC l) rfl ownU4 ⟨g, 0, none⟩ 1 1 (⟨k1.1.1, k1.1.2.1, k1.1.2.2.1, k1.1.2.2.2, ⟨bo, bn, bc, k2.1⟩, k3.1⟩ : CA).cells rfl rfl (fun j u hu => by rw [Addr.add_lit, Nat.zero_add]; exact (cell_of_row U4 g j #[.string k1.1.1, .string k1.1.2.1, .string k1.1.2.2.1, .int .u64 k1.1.2.2.2, .slice bo bn bc, .bool k3.1] _ (0, 0) N4).trans (show ((⟨k1.1.1, k1.1.2.1, k1.1.2.2.1, k1.1.2.2.2, ⟨bo, bn, bc, k2.1⟩, k3.1⟩ : CA).cells.toArray)[j]? = some u from by rw [List.getElem?_toArray]; exact hu)) (c_one (⟨k1.1.1, k1.1.2.1, k1.1.2.2.1, k1.1.2.2.2, ⟨bo, bn, bc, k2.1⟩, k3.1⟩ : CA)) (by unfold maxLen; omega) (by omega) (by have := m3.lt; have := B4.size; omega) ?_
              intro v' U5 O5 G5 H5
              refine ⟨trivial, ?_⟩
              simp only [FL]
              rw [HU4.out] at G5 H5
              have ST := HI.out.step (by omega) y1 y2 y3 y4 y5 O5 G5 H5
              have n5 : RW U5 M r1.1 (.slice ao1 l.length cap1) false := m3.kept ((G5.block M (by have := m3.lt; simp; omega) (fun e => by have := HI.out.ownlt e.symm; omega)).trans (heap_alloc_old U3 _ m3.lt))
              have d1 := n5.c1
              have z1 := n5.fz 1
              refine hr_take 11 (some 27) (.pointer (some ⟨M, 1, none⟩)) rfl rfl (by kernel_rfl) (by kernel_rfl) (by kernel_rfl) rfl (fun W hW => by go_simp) trivial ?_
              simp only [FL]
              have mm := CL.own ST.own ST.oks
              rw [List.length_append, List.length_singleton] at mm
              obtain ⟨ao3, cap3, rfl, _⟩ := mm
              refine hr_skip 12 none rfl rfl (by kernel_rfl) rfl (w' := U5.setCell ⟨M, 1, none⟩ (.slice ao3 (l.length + 1) cap3)) (by go_simp) trivial ?_
              simp only [Act.put]
              refine wpAnyH_done (by kernel_rfl) ?_ _
              refine NoPanic.normal ?_
              have HST : Hid _ := ST
              clear ST ownU3 ownU4 O5 G5 H5 d1 z1 n5 HU4 N4 B4 y1 y2 y3 y4 y5 S3 S2 R1 R2 R3 G1 G2 G3 m0 m1 m2 m3
              go_wp2
              go_roundw
              case rel => exact ⟨_, l ++ [_], by rw [List.length_append, List.length_singleton]; go_num, HST.out⟩
              case measure => simp [intOf]; omega
            · obtain ⟨g, hg⟩ : ∃ g, g = U3.heap.size := ⟨_, rfl⟩
              obtain ⟨U4, hU4⟩ : ∃ W, W = U3.alloc (.cells #[.string k1.1.1, .string k1.1.2.1, .string k1.1.2.2.1, .int .u64 k1.1.2.2.2, .slice bo bn bc, .bool k3.1] 76) := ⟨_, rfl⟩
              have N4 : U4.heap[g]? = some (.cells #[.string k1.1.1, .string k1.1.2.1, .string k1.1.2.2.1, .int .u64 k1.1.2.2.2, .slice bo bn bc, .bool k3.1] 76) := by rw [hU4, hg]; exact heap_alloc_new U3 _
              have B4 : Below U3.heap.size U3 U4 := by rw [hU4]; exact (Below.refl _ _).alloc (Nat.le_refl _) _
              refine op_do 9 (some 25) (.slice (some ⟨g, 0, none⟩) 1 1) rfl rfl rfl (w' := U4) (by rw [hU4, hg]; go_simp) trivial ?_
              simp only [FL]
              have HU4 : Hid (U4 = U3.alloc (.cells #[.string k1.1.1, .string k1.1.2.1, .string k1.1.2.2.1, .int .u64 k1.1.2.2.2, .slice bo bn bc, .bool k3.1] 76)) := hU4
              clear hU4 hg
              have c1 : U4.cell? ⟨M, 1, none⟩ = some (.slice ao1 l.length cap1) := (m3.kept (B4.block M m3.lt)).c1
              refine hr_do 1 (some 17) (.slice ao1 l.length cap1) rfl rfl (by kernel_rfl) rfl (w' := U4) (by go_simp) trivial ?_
              simp only [FL]
              clear c1
              have y5 : v0.grownBy U3 (some p) := grown_trans (grown_trans G1 G2) G3
              have S3 : Sl U3 bo bn bc k2.1 := Sl.kept (b := ⟨bo, bn, bc, k2.1⟩) S2 (fun x hx => by
                obtain ⟨a, ha, hn, rfl⟩ := hx
                exact G3.block _ (S2.lt a ha hn) (by have := F2 a ha; have := m1.lt; simp; omega))
              have y1 : (⟨k1.1.1, k1.1.2.1, k1.1.2.2.1, k1.1.2.2.2, ⟨bo, bn, bc, k2.1⟩, k3.1⟩ : CA).ok U3 := ⟨by show k1.1.1.size ≤ maxLen; unfold maxLen; omega, by show k1.1.2.1.size ≤ maxLen; unfold maxLen; omega, by show k1.1.2.2.1.size ≤ maxLen; unfold maxLen; omega, Zk.2.2.2, S3⟩
              have y2 : ∀ x, (⟨k1.1.1, k1.1.2.1, k1.1.2.2.1, k1.1.2.2.2, ⟨bo, bn, bc, k2.1⟩, k3.1⟩ : CA).va.blk x → v0.heap.size ≤ x := fun x hx => by
                obtain ⟨a, ha, hn, rfl⟩ := hx
                have := F2 a ha
                have := G1.size
                omega
              have y3 : (⟨k1.1.1, k1.1.2.1, k1.1.2.2.1, k1.1.2.2.2, ⟨bo, bn, bc, k2.1⟩, k3.1⟩ : CA).c = (cT T.2.1 T.2.2).1 := by
                rw [cT_key, ← HK1.out, ← HK2.out, ← HK3.out]
                rfl
              have y4 : R U3 p p (cT T.2.1 T.2.2).2.1 (cT T.2.1 T.2.2).2.2 := by
                rw [cT_key, ← HK1.out, ← HK2.out, ← HK3.out]
                exact R3
              rw [HT.out] at y3 y4
              have ownU3 : U3.ownsRow (M + 1) 76 6 (.slice ao1 l.length cap1) l.length (cellsC l) := own_kept HI.out.own fun x hx => y5.block x (HI.out.ownlt hx).2 (by have := HI.out.ownlt hx; simp; omega)
              have ownU4 : U4.ownsRow (M + 1) 76 6 (.slice ao1 l.length cap1) l.length (cellsC l) := own_kept ownU3 fun x hx => B4.block x (by have := HI.out.ownlt hx; have := y5.size; omega)
              refine hr_own 10 (some 26) rfl rfl (by kernel_rfl) rfl (.tmp 17) (.tmp 25) 35 rfl (M + 1) 76 i0 _ 6 88 Tryd.underlying35 hi hz0 hz1 hz2 rfl (by decide) (.slice ao1 l.length cap1) l.length (cellsC l) rfl ownU4 ⟨g, 0, none⟩ 1 1 (⟨k1.1.1, k1.1.2.1, k1.1.2.2.1, k1.1.2.2.2, ⟨bo, bn, bc, k2.1⟩, k3.1⟩ : CA).cells rfl rfl (fun j u hu => by rw [Addr.add_lit, Nat.zero_add]; exact (cell_of_row U4 g j #[.string k1.1.1, .string k1.1.2.1, .string k1.1.2.2.1, .int .u64 k1.1.2.2.2, .slice bo bn bc, .bool k3.1] _ (0, 0) N4).trans (show ((⟨k1.1.1, k1.1.2.1, k1.1.2.2.1, k1.1.2.2.2, ⟨bo, bn, bc, k2.1⟩, k3.1⟩ : CA).cells.toArray)[j]? = some u from by rw [List.getElem?_toArray]; exact hu)) (c_one (⟨k1.1.1, k1.1.2.1, k1.1.2.2.1, k1.1.2.2.2, ⟨bo, bn, bc, k2.1⟩, k3.1⟩ : CA)) (by unfold maxLen; omega) (by omega) (by have := m3.lt; have := B4.size; omega) ?_
              intro v' U5 O5 G5 H5
              refine ⟨trivial, ?_⟩
              simp only [FL]
              rw [HU4.out] at G5 H5
              have ST := HI.out.step (by omega) y1 y2 y3 y4 y5 O5 G5 H5
              have n5 : RW U5 M r1.1 (.slice ao1 l.length cap1) false := m3.kept ((G5.block M (by have := m3.lt; simp; omega) (fun e => by have := HI.out.ownlt e.symm; omega)).trans (heap_alloc_old U3 _ m3.lt))
              have d1 := n5.c1
              have z1 := n5.fz 1
              refine hr_take 11 (some 27) (.pointer (some ⟨M, 1, none⟩)) rfl rfl (by kernel_rfl) (by kernel_rfl) (by kernel_rfl) rfl (fun W hW => by go_simp) trivial ?_
              simp only [FL]
              have mm := CL.own ST.own ST.oks
              rw [List.length_append, List.length_singleton] at mm
              obtain ⟨ao3, cap3, rfl, _⟩ := mm
              refine hr_skip 12 none rfl rfl (by kernel_rfl) rfl (w' := U5.setCell ⟨M, 1, none⟩ (.slice ao3 (l.length + 1) cap3)) (by go_simp) trivial ?_
              simp only [Act.put]
              refine wpAnyH_done (by kernel_rfl) ?_ _
              refine NoPanic.normal ?_
              have HST : Hid _ := ST
              clear ST ownU3 ownU4 O5 G5 H5 d1 z1 n5 HU4 N4 B4 y1 y2 y3 y4 y5 S3 S2 R1 R2 R3 G1 G2 G3 m0 m1 m2 m3
              go_wp2
              go_roundw
              case rel => exact ⟨_, l ++ [_], by rw [List.length_append, List.length_singleton]; go_num, HST.out⟩
              case measure => simp [intOf]; omega
    · have i6 : (r2.1 : Int) ≤ (l.length : Int) := by omega
      have hle : Hid (l.length = r2.1) := by have := inv.le; show l.length = r2.1; omega
      go_wp2_with fail
      obtain ⟨T, hT⟩ : ∃ T, T = repT cT l.length r2.2.1 r2.2.2 := ⟨_, rfl⟩
      have HT : Hid (T = repT cT l.length r2.2.1 r2.2.2) := hT
      refine (bool_any wr p p T.2.1 T.2.2 (by rw [hT]; exact inv.rd)).mono ?_
      rintro e w5 ⟨rfl, R5, G5⟩
      obtain ⟨b, hb⟩ : ∃ b, b = boolS T.2.1 T.2.2 := ⟨_, rfl⟩
      have HB : Hid (b = boolS T.2.1 T.2.2) := hb
      rw [← hb] at R5 ⊢
      have FAR : Hid (∀ x, (sblk ao1 l.length x ∨ ∃ c ∈ l, c.va.blk x) → M < x ∧ x < wr.heap.size) := fun x hx => by
        rcases hx with hx | ⟨c, hc, hx⟩
        · exact inv.ownlt (sblk_own hx)
        · exact ⟨(inv.far x ⟨c, hc, hx⟩).1, (inv.oks c hc).blk_lt hx⟩
      have CL5 := CL1.kept (w' := w5) fun x hx => G5.block x (FAR.out x hx).2 (by have := (FAR.out x hx).1; simp; omega)
      have m5 := inv.ov.kept (G5.block M inv.ov.lt (by simp; omega))
      have K5 := inv.res.kept (G5.block N inv.res.lt (by simp; omega))
      have B5 := inv.bel.trans (below_grown G5 (by have := inv.bel.size; have := HN.out; omega) (by omega))
      have HL : Hid (l.map CA.c = T.1) := by show _ = _; rw [hT]; exact inv.thr
      have d2 := m5.c2
      have z2 := m5.fz 2
      obtain ⟨w6, hw6⟩ : ∃ W, W = w5.setCell ⟨M, 2, none⟩ (.bool b.1) := ⟨_, rfl⟩
      have SB6 : w6.heap.size = w5.heap.size ∧ ∀ j, j ≠ M → w6.heap[j]? = w5.heap[j]? := by rw [hw6]; exact same_set _ _ _ _
      have m6 : RW w6 M r1.1 (.slice ao1 l.length cap1) b.1 := by rw [hw6]; exact m5.setM b.1
      have K6 : RW w6 N 0 (.slice none 0 0) false := K5.kept (SB6.2 N (by omega))
      have R6 : R w6 p p b.2.1 b.2.2 := by rw [hw6]; exact R5.own hpM (by omega)
      have B6 : Below N w w6 := by rw [hw6]; exact B5.setCell (by show N ≤ M; omega) _
      have CL6 := CL5.kept (w' := w6) fun x hx => SB6.2 x (by have := (FAR.out x hx).1; omega)
      clear hT hb inv CL1 CL5 G5 R5 K5 B5 m5 SB6
      go_wp2_with fail
      rw [← hw6]
      clear hw6 d2 z2
      have HS : Hid (∀ V, Below w6.heap.size w6 V → V.cell? ⟨M, 0, none⟩ = some (.int .i64 r1.1) ∧ V.cell? ⟨M, 1, none⟩ = some (.slice ao1 l.length cap1) ∧ V.cell? ⟨M, 2, none⟩ = some (.bool b.1)) := fun V hV => have q := m6.kept (hV.block M m6.lt); ⟨q.c0, q.c1, q.c2⟩
      have E0 : Below w6.heap.size w6 w6.drew := (Below.refl _ _).drew
      refine wp_region_noPanic ?_
      refine wp_region_held_drew (S := fun V => V.cell? ⟨M, 0, none⟩ = some (.int .i64 r1.1) ∧ V.cell? ⟨M, 1, none⟩ = some (.slice ao1 l.length cap1) ∧ V.cell? ⟨M, 2, none⟩ = some (.bool b.1)) (by kernel_rfl) (HS.out _ E0) (fun H0 => ?_)
      obtain ⟨v0, hv0⟩ : ∃ v, v = w6.drew := ⟨_, rfl⟩
      rw [← hv0] at H0 E0 ⊢
      clear hv0
      refine hr_take_w 0 (some 32) (.pointer (some ⟨p, 0, none⟩)) rfl rfl (by kernel_rfl) (by kernel_rfl) (by kernel_rfl) rfl (fun W hW => by obtain ⟨h0, h1, h2⟩ := hW; go_simp) H0 ?_
      simp only [FL]
      refine hr_take_w 2 (some 34) (.agg #[.int .i64 r1.1, .slice ao1 l.length cap1, .bool b.1]) rfl rfl (by kernel_rfl) (by kernel_rfl) (by kernel_rfl) rfl (fun W hW => by obtain ⟨h0, h1, h2⟩ := hW; go_simp) H0 ?_
      simp only [FL]
      refine hr_call_w 1 (some 33) 50 #[.pointer (some ⟨p, 0, none⟩)] rfl rfl (by kernel_rfl) rfl (by go_simp) (fun v w' => v = .int .i64 (doneS b.2.1 b.2.2) ∧ Below v0.heap.size v0 w') ((((done_any v0 p p b.2.1 b.2.2 (R6.below E0)).mono (fun e w' h => ⟨h.1, by rw [h.2]; exact Below.refl _ _⟩) : Calls Tryd.prog 50 #[.pointer (some ⟨p, 0, none⟩)] v0 fun e w' => e = .returned (.int .i64 (doneS b.2.1 b.2.2)) ∧ Below v0.heap.size v0 w')).mono (by
        rintro e w' ⟨rfl, C⟩
        exact ⟨_, rfl, rfl, C⟩)) ?_
      rintro v v1 ⟨rfl, C0⟩
      have E1 := E0.trans (C0.mono E0.size)
      have H1 := HS.out v1 E1
      refine ⟨H1, ?_⟩
      simp only [FL]
      refine hr_call_w 3 (some 35) 55 #[.agg #[.int .i64 r1.1, .slice ao1 l.length cap1, .bool b.1]] rfl rfl (by kernel_rfl) rfl (by go_simp) (fun v w' => v = .int .i64 (kindR (resR r1.1 l b.1)) ∧ Below v1.heap.size v1 w') ((prr_any v1 r1.1 ao1 l.length cap1 l b.1 (CL6.below E1)).mono (by
        rintro e w' ⟨rfl, C⟩
        exact ⟨_, rfl, rfl, C⟩)) ?_
      rintro v v2 ⟨rfl, C1⟩
      have E2 := E1.trans (C1.mono E1.size)
      have H2 := HS.out v2 E2
      refine ⟨H2, ?_⟩
      simp only [FL]
      obtain ⟨d, hd⟩ : ∃ d, d = doneS b.2.1 b.2.2 := ⟨_, rfl⟩
      obtain ⟨kk, hkk⟩ : ∃ d, d = kindR (resR r1.1 l b.1) := ⟨_, rfl⟩
      rw [← hd, ← hkk]
      have HD : Hid (d = doneS b.2.1 b.2.2) := hd
      have HK : Hid (kk = kindR (resR r1.1 l b.1)) := hkk
      clear hd hkk
      obtain ⟨g, hg⟩ : ∃ g, g = v2.heap.size := ⟨_, rfl⟩
      obtain ⟨v3, hv3⟩ : ∃ V, V = v2.alloc (.cells #[.int .i64 d, .int .i64 kk] 27) := ⟨_, rfl⟩
      have U3 : Below v2.heap.size v2 v3 := by rw [hv3]; exact (Below.refl _ _).alloc (Nat.le_refl _) _
      have G3 : v3.heap[g]? = some (.cells #[.int .i64 d, .int .i64 kk] 27) := by rw [hv3, hg]; exact heap_alloc_new v2 _
      have E3 := E2.trans (U3.mono E2.size)
      have H3 := HS.out v3 E3
      refine hr_do 4 (some 36) (.slice (some ⟨g, 0, none⟩) 2 2) rfl rfl (by kernel_rfl) rfl (w' := v3) (by rw [hv3, hg]; go_simp) H3 ?_
      simp only [FL]
      clear hv3 hg U3
      refine hr_call_w 5 (some 37) 49 #[.slice (some ⟨g, 0, none⟩) 2 2] rfl rfl (by kernel_rfl) rfl (by go_simp) (fun v w' => v = .int .i64 (or2 d kk) ∧ Below v3.heap.size v3 w') ((((por2_any v3 g d kk G3).mono (fun e w' h => ⟨h.1, by rw [h.2]; exact Below.refl _ _⟩) : Calls Tryd.prog 49 #[.slice (some ⟨g, 0, none⟩) 2 2] v3 fun e w' => e = .returned (.int .i64 (or2 d kk)) ∧ Below v3.heap.size v3 w')).mono (by
        rintro e w' ⟨rfl, C⟩
        exact ⟨_, rfl, rfl, C⟩)) ?_
      rintro v v4 ⟨rfl, C3⟩
      have E4 := E3.trans (C3.mono E3.size)
      have H4 := HS.out v4 E4
      refine ⟨H4, ?_⟩
      simp only [FL]
      refine hr_take_w 6 (some 6) (.int .i64 (or2 d kk)) rfl rfl (by kernel_rfl) (by kernel_rfl) (by kernel_rfl) rfl (fun W hW => by obtain ⟨h0, h1, h2⟩ := hW; go_simp) H4 ?_
      simp only [FL]
      refine wpAnyH_done (by kernel_rfl) ?_ _
      refine NoPanic.normal ?_
      have BX : Below N w v4 := B6.trans (E4.mono (by have := B6.size; have := HN.out; omega))
      have KX := K6.kept (E4.block N K6.lt)
      have QX := m6.kept (E4.block M m6.lt)
      have CLX := CL6.below E4
      have HRQ : Hid (rdR xs = if or2 d kk = 0 then .inr (resR r1.1 l b.1) else .inl (or2 d kk)) := by
        show _ = _
        have e3 := HT.out
        rw [hle.out] at e3
        rw [HRD.out, rd_or, resTh_eq ER1.out ER2.out e3 HB.out, ← HL.out]
        simp only
        rw [show (⟨(r1.1 : Int), l.map CA.c, b.1⟩ : RV) = resR r1.1 l b.1 from rfl, ← HK.out, ← HD.out]
      have FR : Hid (∀ x, (sblk ao1 l.length x ∨ ∃ c ∈ l, c.va.blk x) → x ≠ N ∧ N ≤ x) := fun x hx => by have := (FAR.out x hx).1; omega
      clear HS H0 H1 H2 H3 H4 E0 E1 E2 E3 E4 C0 C1 C3 G3 m6 CL6 K6 B6 R6 FAR
      have n0 := KX.c0
      have n1 := KX.c1
      have n2 := KX.c2
      have g0 := KX.fz 0
      have g1 := KX.fz 1
      have g2 := KX.fz 2
      by_cases hk : or2 d kk = 0
      · have HQ : Hid (rdR xs = .inr (resR r1.1 l b.1)) := by show _ = _; rw [HRQ.out, if_pos hk]
        have q0 := QX.c0
        have q1 := QX.c1
        have q2 := QX.c2
        have BF : Below N w (((v4.setCell ⟨N, 0, none⟩ (.int .i64 r1.1)).setCell ⟨N, 1, none⟩ (.slice ao1 l.length cap1)).setCell ⟨N, 2, none⟩ (.bool b.1)) := (((BX.setCell (Nat.le_refl _) _).setCell (Nat.le_refl _) _).setCell (Nat.le_refl _) _)
        have SB : ((((v4.setCell ⟨N, 0, none⟩ (.int .i64 r1.1)).setCell ⟨N, 1, none⟩ (.slice ao1 l.length cap1)).setCell ⟨N, 2, none⟩ (.bool b.1))).heap.size = v4.heap.size ∧ ∀ j, j ≠ N → ((((v4.setCell ⟨N, 0, none⟩ (.int .i64 r1.1)).setCell ⟨N, 1, none⟩ (.slice ao1 l.length cap1)).setCell ⟨N, 2, none⟩ (.bool b.1))).heap[j]? = v4.heap[j]? := (SameBut.trans (SameBut.trans (SameBut.trans ⟨rfl, fun _ _ => rfl⟩ (same_set _ _ _ _)) (same_set _ _ _ _)) (same_set _ _ _ _))
        have GOOD : Hid (CL (((v4.setCell ⟨N, 0, none⟩ (.int .i64 r1.1)).setCell ⟨N, 1, none⟩ (.slice ao1 l.length cap1)).setCell ⟨N, 2, none⟩ (.bool b.1)) ao1 l.length cap1 l ∧ Below N w (((v4.setCell ⟨N, 0, none⟩ (.int .i64 r1.1)).setCell ⟨N, 1, none⟩ (.slice ao1 l.length cap1)).setCell ⟨N, 2, none⟩ (.bool b.1))) := ⟨CLX.kept fun x hx => SB.2 x ((FR.out x hx).1), BF⟩
        clear SB BF CLX
        rw [hk]
        clear hk HRQ HD HK KX QX
        go_wp2
        refine bodyPost_ret (v := .tuple #[.agg #[.int .i64 r1.1, .slice ao1 l.length cap1, .bool b.1], .int .i64 0]) (by simp [results, Tryd.results58, go_sem, n0, n1, n2]) rfl ?_
        exact ⟨fun k hk => absurd (HQ.out.symm.trans hk) (by simp), fun q hq => by
          have e := Sum.inr.inj (HQ.out.symm.trans hq)
          subst e
          exact ⟨_, _, _, _, l, _, rfl, GOOD.out.1, rfl, fun x hx => by rw [← HN.out]; exact (FR.out x hx).2⟩, by rw [← HN.out]; exact GOOD.out.2⟩
      · have HQ : Hid (rdR xs = .inl (or2 d kk)) := by show _ = _; rw [HRQ.out, if_neg hk]
        have hkb : (or2 d kk == 0) = false := by simp [hk]
        have hkc : (or2 d kk != 0) = true := by simp [hk]
        have BF : Hid (Below N w (((v4.setCell ⟨N, 0, none⟩ (.int .i64 0)).setCell ⟨N, 1, none⟩ (.slice none 0 0)).setCell ⟨N, 2, none⟩ (.bool false))) := (((BX.setCell (Nat.le_refl _) _).setCell (Nat.le_refl _) _).setCell (Nat.le_refl _) _)
        clear hk HRQ HD HK KX QX CLX
        go_wp2
        refine bodyPost_ret (v := .tuple #[.agg #[.int .i64 0, .slice none 0 0, .bool false], .int .i64 (or2 d kk)]) (by simp [results, Tryd.results58, go_sem, n0, n1, n2]) rfl ?_
        exact ⟨fun k hk => by
          have e := Sum.inl.inj (HQ.out.symm.trans hk)
          subst e
          rfl, fun q hq => absurd (HQ.out.symm.trans hq) (by simp), by rw [← HN.out]; exact BF.out⟩
open Go.RowKit
def ResIs (w : World) (r : RV) (x : Ending) (w' : World) : Prop := ∃ (q : Int) (ao : Option Addr) (n cap : Nat) (cs : List CA) (m : Bool), x = .returned (resV q ao n cap m) ∧ CL w' ao n cap cs ∧ r = resR q cs m ∧ Below w.heap.size w w' ∧ ∀ z, (sblk ao n z ∨ ∃ c ∈ cs, c.va.blk z) → w.heap.size ≤ z
theorem row3_get {w : World} {N i : Nat} {x y z u : Value} {t : TypeId} (h : w.heap[N]? = some (.cells #[x, y, z] t)) (hc : w.cell? ⟨N, i, none⟩ = some u) : u = x ∨ u = y ∨ u = z := by
  rw [cell_of_row w N i _ _ _ h] at hc
  match i, hc with
  | 0, hc => exact .inl (by simpa using hc.symm)
  | 1, hc => exact .inr (.inl (by simpa using hc.symm))
  | 2, hc => exact .inr (.inr (by simpa using hc.symm))
  | i + 3, hc => simp at hc
theorem CL.offR {w : World} {N : Nat} {e : Int} {a : Option Addr} {x y : Nat} {m : Bool} (K : RW w N e (.slice a x y) m) {ao : Option Addr} {n cap : Nat} {cs : List CA} (L : CL w ao n cap cs) : ∀ z, (sblk ao n z ∨ ∃ c ∈ cs, c.va.blk z) → z ≠ N := by
  rintro z (⟨b, rfl, hn, rfl⟩ | ⟨c, hc, b, hb, hn, rfl⟩) rfl
  · have hl := L.len
    have h0 := L.cell b rfl 0 (by omega) 0 _ rfl
    obtain ⟨bb, off, spot⟩ := b
    have hs : spot = none := by simpa [Addr.add] using World.cell?_spot h0
    subst hs
    rw [Addr.add_lit] at h0
    rcases row3_get K h0 with h | h | h <;> cases h
  · have S := (L.ok c hc).va
    have h0 := S.cell b hb 0 hn
    obtain ⟨bb, off, spot⟩ := b
    have hs : spot = none := by simpa [Addr.add] using World.cell?_spot h0
    subst hs
    rw [Addr.add_lit] at h0
    rcases row3_get K h0 with h | h | h <;> cases h
theorem CL.setR {w : World} {N : Nat} {e e' : Int} {a : Option Addr} {x y : Nat} {m m' : Bool} {u : Value} (K : RW w N e (.slice a x y) m) {ao : Option Addr} {n cap : Nat} {cs : List CA} (L : CL w ao n cap cs) : CL (((w.setCell ⟨N, 0, none⟩ (.int .i64 e')).setCell ⟨N, 1, none⟩ u).setCell ⟨N, 2, none⟩ (.bool m')) ao n cap cs :=
  L.kept fun z hz => (((same_set _ N 2 _).2 z (L.offR K z hz)).trans ((same_set _ N 1 _).2 z (L.offR K z hz))).trans ((same_set _ N 0 _).2 z (L.offR K z hz))
set_option maxRecDepth 100000 in
set_option maxHeartbeats 4000000 in
theorem cresult_any (w : World) (e : EN) (he : e.ok) :
    Calls Tryd.prog 35 #[.agg #[.int .u64 e.cl, .int .u64 e.st, .string e.an]] w (ResIs w e.r) := by
  have hsz : e.an.size ≤ 65536 := by
    have := he.len
    rw [← sb_len, he.sb]
    exact this
  have B0 : Below w.heap.size w ((w.alloc (.cells #[.int .u64 e.cl, .int .u64 e.st, .string e.an] 66)).alloc (.cells #[.int .i64 0, .slice none 0 0, .bool false] 37)) := ((Below.refl _ w).alloc (Nat.le_refl _) _).alloc (by simp) _
  have K0 : RW ((w.alloc (.cells #[.int .u64 e.cl, .int .u64 e.st, .string e.an] 66)).alloc (.cells #[.int .i64 0, .slice none 0 0, .bool false] 37)) (w.heap.size + 1) 0 (.slice none 0 0) false := by
    have := heap_alloc_new (w.alloc (.cells #[.int .u64 e.cl, .int .u64 e.st, .string e.an] 66)) (.cells #[.int .i64 0, .slice none 0 0, .bool false] 37)
    unfold RW
    simpa using this
  have HSB : Hid (sb e.an = putR e.r) := he.sb
  have HRD : Hid (rdR (putR e.r) = .inr e.r) := he.rd
  obtain ⟨a, ha⟩ : ∃ a, a = e.an := ⟨_, rfl⟩
  rw [← ha] at hsz B0 K0 HSB ⊢
  clear ha he
  go_enter Tryd.func35, Tryd.ntmps35
  go_wp2_with (refine wpList_conv_bytes rfl (.tmp 7) rfl a rfl (by omega) ?_; intro g1 c1 w1 hg1 S1 B1; clear hg1)
  have B2 := B0.trans (B1.mono B0.size)
  have K2 : RW w1 (w.heap.size + 1) 0 (.slice none 0 0) false := K0.kept (B1.block _ K0.lt)
  clear B0 B1 K0
  rw [HSB.out] at S1
  have CR := prdr_far w1 _ _ _ _ S1 (by omega)
  refine CR.mono ?_
  rintro x w3 h3
  obtain ⟨q, ao, n, cap, cs, m, rfl, L3, hq, hfr⟩ := h3.good _ HRD.out
  have HFR : Hid (∀ z, (sblk ao n z ∨ ∃ c ∈ cs, c.va.blk z) → w.heap.size ≤ z) := fun z hz => Nat.le_trans B2.size (hfr z hz)
  have C3 := h3.bel
  have B3 := B2.trans (C3.mono B2.size)
  have K3 : RW w3 (w.heap.size + 1) 0 (.slice none 0 0) false := K2.kept (C3.block _ K2.lt)
  have HQ : Hid (e.r = resR q cs m) := hq
  clear CR h3 C3 K2 B2 hq S1 hfr
  have r0 := K3.c0
  have r1 := K3.c1
  have r2 := K3.c2
  have f0 := K3.fz 0
  have f1 := K3.fz 1
  have f2 := K3.fz 2
  have hlt := K3.lt
  have K5 : RW (((w3.setCell ⟨w.heap.size + 1, 0, none⟩ (.int .i64 q)).setCell ⟨w.heap.size + 1, 1, none⟩ (.slice ao n cap)).setCell ⟨w.heap.size + 1, 2, none⟩ (.bool m)) (w.heap.size + 1) q (.slice ao n cap) m := heap_setCell_same _ _ 2 _ _ _ (heap_setCell_same _ _ 1 _ _ _ (heap_setCell_same _ _ 0 _ _ _ K3))
  have L5 : CL (((w3.setCell ⟨w.heap.size + 1, 0, none⟩ (.int .i64 q)).setCell ⟨w.heap.size + 1, 1, none⟩ (.slice ao n cap)).setCell ⟨w.heap.size + 1, 2, none⟩ (.bool m)) ao n cap cs := CL.setR K3 L3
  have C5 : Below (((w3.setCell ⟨w.heap.size + 1, 0, none⟩ (.int .i64 q)).setCell ⟨w.heap.size + 1, 1, none⟩ (.slice ao n cap)).setCell ⟨w.heap.size + 1, 2, none⟩ (.bool m)).heap.size (((w3.setCell ⟨w.heap.size + 1, 0, none⟩ (.int .i64 q)).setCell ⟨w.heap.size + 1, 1, none⟩ (.slice ao n cap)).setCell ⟨w.heap.size + 1, 2, none⟩ (.bool m)) ((((w3.setCell ⟨w.heap.size + 1, 0, none⟩ (.int .i64 q)).setCell ⟨w.heap.size + 1, 1, none⟩ (.slice ao n cap)).setCell ⟨w.heap.size + 1, 2, none⟩ (.bool m)).alloc (.cells #[.int .i64 q, .slice ao n cap, .bool m] 37)) := (Below.refl _ _).alloc (Nat.le_refl _) _
  have L6 := L5.below C5
  have K6 : RW ((((w3.setCell ⟨w.heap.size + 1, 0, none⟩ (.int .i64 q)).setCell ⟨w.heap.size + 1, 1, none⟩ (.slice ao n cap)).setCell ⟨w.heap.size + 1, 2, none⟩ (.bool m)).alloc (.cells #[.int .i64 q, .slice ao n cap, .bool m] 37)) (w.heap.size + 1) q (.slice ao n cap) m := K5.kept (C5.block _ K5.lt)
  have B5 : Below w.heap.size w (((w3.setCell ⟨w.heap.size + 1, 0, none⟩ (.int .i64 q)).setCell ⟨w.heap.size + 1, 1, none⟩ (.slice ao n cap)).setCell ⟨w.heap.size + 1, 2, none⟩ (.bool m)) := ((B3.setCell (p := ⟨w.heap.size + 1, 0, none⟩) (Nat.le_succ _) _).setCell (p := ⟨w.heap.size + 1, 1, none⟩) (Nat.le_succ _) _).setCell (p := ⟨w.heap.size + 1, 2, none⟩) (Nat.le_succ _) _
  have B6 := B5.trans (C5.mono B5.size)
  have n0 := K6.c0
  have n1 := K6.c1
  have n2 := K6.c2
  have HF : Hid (CL ((((w3.setCell ⟨w.heap.size + 1, 0, none⟩ (.int .i64 q)).setCell ⟨w.heap.size + 1, 1, none⟩ (.slice ao n cap)).setCell ⟨w.heap.size + 1, 2, none⟩ (.bool m)).alloc (.cells #[.int .i64 q, .slice ao n cap, .bool m] 37)) ao n cap cs ∧ Below w.heap.size w ((((w3.setCell ⟨w.heap.size + 1, 0, none⟩ (.int .i64 q)).setCell ⟨w.heap.size + 1, 1, none⟩ (.slice ao n cap)).setCell ⟨w.heap.size + 1, 2, none⟩ (.bool m)).alloc (.cells #[.int .i64 q, .slice ao n cap, .bool m] 37))) := ⟨L6, B6⟩
  clear C5 K5 L3 B3 K3 L5 L6 B5 B6 K6
  unfold resV
  go_wp2
  refine bodyPost_ret (v := .agg #[.int .i64 q, .slice ao n cap, .bool m]) (by simp [results, Tryd.results35, go_sem, n0, n1, n2]) rfl ?_
  exact ⟨q, ao, n, cap, cs, m, rfl, HF.out.1, HQ.out, HF.out.2, HFR.out⟩
def askE (l : List EN) (c s : Nat) : RV × Int :=
  match fnd l c with
  | none => (zRV, 15)
  | some i => if s < (l[i]?.map EN.st).getD 0 then (zRV, 16) else if (l[i]?.map EN.st).getD 0 < s then (zRV, 7) else ((l[i]?.map EN.r).getD zRV, 0)
theorem askE_none {l : List EN} {c s : Nat} (h : fnd l c = none) : askE l c s = (zRV, 15) := by unfold askE; rw [h]
theorem askE_stale {l : List EN} {c s i : Nat} (h : fnd l c = some i) (hi : i < l.length) (hs : s < l[i].st) : askE l c s = (zRV, 16) := by
  unfold askE
  rw [h]
  simp only [List.getElem?_eq_getElem hi, Option.map_some, Option.getD_some]
  rw [if_pos hs]
theorem askE_missing {l : List EN} {c s i : Nat} (h : fnd l c = some i) (hi : i < l.length) (hs : l[i].st < s) : askE l c s = (zRV, 7) := by
  unfold askE
  rw [h]
  simp only [List.getElem?_eq_getElem hi, Option.map_some, Option.getD_some]
  rw [if_neg (by omega), if_pos hs]
theorem askE_ok {l : List EN} {c s i : Nat} (h : fnd l c = some i) (hi : i < l.length) (hs : l[i].st = s) : askE l c s = (l[i].r, 0) := by
  unfold askE
  rw [h]
  simp only [List.getElem?_eq_getElem hi, Option.map_some, Option.getD_some]
  rw [if_neg (by omega), if_neg (by omega)]
def AskIs (w : World) (a : RV × Int) (x : Ending) (w' : World) : Prop := ∃ (q : Int) (ao : Option Addr) (n cap : Nat) (cs : List CA) (m : Bool), x = .returned (.tuple #[resV q ao n cap m, .int .i64 a.2]) ∧ CL w' ao n cap cs ∧ a.1 = resR q cs m ∧ Below w.heap.size w w'
theorem RW.set3 {w W : World} {N : Nat} {e : Int} {a : Option Addr} {x y : Nat} {m : Bool} (K : RW W N e (.slice a x y) m) (B : Below N w W) (q : Int) (ao : Option Addr) (n cap : Nat) (cs : List CA) (m' : Bool) (L : CL W ao n cap cs) :
    RW (((W.setCell ⟨N, 0, none⟩ (.int .i64 q)).setCell ⟨N, 1, none⟩ (.slice ao n cap)).setCell ⟨N, 2, none⟩ (.bool m')) N q (.slice ao n cap) m' ∧ CL (((W.setCell ⟨N, 0, none⟩ (.int .i64 q)).setCell ⟨N, 1, none⟩ (.slice ao n cap)).setCell ⟨N, 2, none⟩ (.bool m')) ao n cap cs ∧ Below N w (((W.setCell ⟨N, 0, none⟩ (.int .i64 q)).setCell ⟨N, 1, none⟩ (.slice ao n cap)).setCell ⟨N, 2, none⟩ (.bool m')) :=
  ⟨heap_setCell_same _ _ 2 _ _ _ (heap_setCell_same _ _ 1 _ _ _ (heap_setCell_same _ _ 0 _ _ _ K)), CL.setR K L, ((B.setCell (p := ⟨N, 0, none⟩) (Nat.le_refl _) _).setCell (p := ⟨N, 1, none⟩) (Nat.le_refl _) _).setCell (p := ⟨N, 2, none⟩) (Nat.le_refl _) _⟩
set_option maxRecDepth 100000 in
set_option maxHeartbeats 4000000 in
theorem cAsk_any (w : World) (p g c s : Nat) (l : List EN) (h : TS w p g l) :
    Calls Tryd.prog 14 #[.pointer (some ⟨p, 0, none⟩), .int .u64 c, .int .u64 s] w (AskIs w (askE l c s)) := by
  have B0 : Below w.heap.size w (w.alloc (.cells #[.int .i64 0, .slice none 0 0, .bool false] 37)) := (Below.refl _ w).alloc (Nat.le_refl _) _
  have K0 : RW (w.alloc (.cells #[.int .i64 0, .slice none 0 0, .bool false] 37)) w.heap.size 0 (.slice none 0 0) false := heap_alloc_new w _
  have T1 := h.below B0
  have CF := find_any _ p g c l T1
  go_enter Tryd.func14, Tryd.ntmps14
  go_wp2_with fail
  obtain ⟨w1, hw1⟩ : ∃ W, W = w.alloc (.cells #[.int .i64 0, .slice none 0 0, .bool false] 37) := ⟨_, rfl⟩
  obtain ⟨N, hN⟩ : ∃ N, N = w.heap.size := ⟨_, rfl⟩
  rw [← hw1] at B0 K0 T1 CF ⊢
  rw [← hN] at K0 B0 ⊢
  have HN : Hid (N = w.heap.size) := hN
  clear hw1 hN
  refine CF.mono ?_
  rintro x w2 ⟨r, rfl, hr, C2⟩
  have T2 := T1.below C2
  have K2 : RW w2 N 0 (.slice none 0 0) false := K0.kept (C2.block _ K0.lt)
  have B2 := B0.trans (C2.mono (by have := B0.size; have := HN.out; omega))
  clear CF T1 K0 C2 B0
  obtain ⟨X1, X2, X3⟩ := K2.set3 B2 0 none 0 0 [] false (CL.nothing w2)
  have HX : Hid (∀ k, askE l c s = (zRV, k) → AskIs w (askE l c s) (.returned (.tuple #[.agg #[.int .i64 0, .slice none 0 0, .bool false], .int .i64 k])) (((w2.setCell ⟨N, 0, none⟩ (.int .i64 0)).setCell ⟨N, 1, none⟩ (.slice none 0 0)).setCell ⟨N, 2, none⟩ (.bool false))) := fun k hk => by
    rw [hk]
    exact ⟨0, none, 0, 0, [], false, rfl, X2, rfl, by rw [← HN.out]; exact X3⟩
  have n0 := X1.c0
  have n1 := X1.c1
  have n2 := X1.c2
  clear X1 X2 X3
  have r0 := K2.c0
  have r1 := K2.c1
  have r2 := K2.c2
  have f0 := K2.fz 0
  have f1 := K2.fz 1
  have f2 := K2.fz 2
  rcases hr with ⟨rfl, hf⟩ | ⟨k, rfl, hf⟩
  · have HV : Hid (askE l c s = (zRV, 15)) := askE_none hf
    clear hf
    go_wp2
    refine bodyPost_ret (v := .tuple #[.agg #[.int .i64 0, .slice none 0 0, .bool false], .int .i64 15]) (by simp [results, Tryd.results14, go_sem, n0, n1, n2]) rfl ?_
    exact HX.out 15 HV.out
  obtain ⟨hk, hcl⟩ := fnd_some hf
  have HF : Hid (fnd l c = some k) := hf
  obtain ⟨cp, t0, R2, hcp⟩ := T2.tab
  have q0 := R2.cell k hk 0 _ rfl
  have q1 := R2.cell k hk 1 _ rfl
  have q2 := R2.cell k hk 2 _ rfl
  simp only [Nat.add_zero] at q0
  have ki : (k : Int) < (l.length : Int) := by omega
  have k0 : decide ((k : Int) < 0) = false := by simp
  have n8 : (l.length : Int) ≤ 8 := by have := h.n8; omega
  have hok := h.ok _ (List.getElem_mem hk)
  have hst : l[k].st < 18446744073709551616 := hok.st
  clear hf hcl R2
  by_cases hle : s < l[k].st
  · have i1 : (s : Int) < (l[k].st : Int) := by omega
    have HV : Hid (askE l c s = (zRV, 16)) := askE_stale HF.out hk hle
    clear hle
    go_wp2
    refine bodyPost_ret (v := .tuple #[.agg #[.int .i64 0, .slice none 0 0, .bool false], .int .i64 16]) (by simp [results, Tryd.results14, go_sem, n0, n1, n2]) rfl ?_
    exact HX.out 16 HV.out
  have i1 : (l[k].st : Int) ≤ (s : Int) := by omega
  by_cases hgt : l[k].st < s
  · have i2 : (l[k].st : Int) < (s : Int) := by omega
    have HV : Hid (askE l c s = (zRV, 7)) := askE_missing HF.out hk hgt
    clear hle hgt
    go_wp2
    refine bodyPost_ret (v := .tuple #[.agg #[.int .i64 0, .slice none 0 0, .bool false], .int .i64 7]) (by simp [results, Tryd.results14, go_sem, n0, n1, n2]) rfl ?_
    exact HX.out 7 HV.out
  have i2 : (s : Int) ≤ (l[k].st : Int) := by omega
  have HV : Hid (askE l c s = (l[k].r, 0)) := askE_ok HF.out hk (by omega)
  have CR := cresult_any w2 l[k] hok
  clear hle hgt HX n0 n1 n2 r0 r1 r2 f0 f1 f2 hok
  go_wp2_with fail
  refine CR.mono ?_
  rintro x w3 ⟨q, ao, n, cap, cs, m, rfl, L3, hq, C3, -⟩
  have HQ : Hid (l[k].r = resR q cs m) := hq
  have K3 : RW w3 N 0 (.slice none 0 0) false := K2.kept (C3.block _ K2.lt)
  have B3 := B2.trans (C3.mono (by have := B2.size; have := HN.out; omega))
  clear CR C3 hq K2 B2 q0 q1 q2 t0
  obtain ⟨X1, X2, X3⟩ := K3.set3 B3 q ao n cap cs m L3
  have r0 := K3.c0
  have r1 := K3.c1
  have r2 := K3.c2
  have f0 := K3.fz 0
  have f1 := K3.fz 1
  have f2 := K3.fz 2
  have n0 := X1.c0
  have n1 := X1.c1
  have n2 := X1.c2
  clear X1 K3 L3 B3
  unfold resV
  go_wp2
  refine bodyPost_ret (v := .tuple #[.agg #[.int .i64 q, .slice ao n cap, .bool m], .int .i64 0]) (by simp [results, Tryd.results14, go_sem, n0, n1, n2]) rfl ?_
  rw [HV.out]
  exact ⟨q, ao, n, cap, cs, m, rfl, X2, HQ.out, by rw [← HN.out]; exact X3⟩
open Go.RowKit
theorem jud_zero {st : Nat} {xs : List Int} {r : RV} (h : rdR xs = .inr r) : jud st xs = if st = 0 ∧ xs ≠ [0, 0, 0] then 1 else 0 := by
  unfold jud
  rw [h]
theorem rd_ne {xs : List Int} {k : Int} (h : rdR xs = .inl k) : k ≠ 0 := by
  have h1 : rdT resTh kindR xs = .inl k := (rd_thr thr_r kindR xs).symm.trans h
  rw [rd_or] at h1
  by_cases c : or2 (doneS (resTh xs 0).2.1 (resTh xs 0).2.2) (kindR (resTh xs 0).1) = 0
  · rw [if_pos c] at h1; cases h1
  · rw [if_neg c] at h1
    simp only [Sum.inl.injEq] at h1
    rw [← h1]
    exact c
theorem zero_an {a : ByteArray} (h : sb a = [0, 0, 0]) : a = strOfNums (putR zRV) := by
  refine sb_inj ?_
  rw [h, sb_str (zRV_ok 1 (by decide)).byt, zRV_put]
set_option maxRecDepth 100000 in
set_option maxHeartbeats 4000000 in
theorem ejudge_any (w : World) (cl st : Nat) (a : ByteArray) (ha : a.size ≤ 65536) :
    Calls Tryd.prog 48 #[.agg #[.int .u64 cl, .int .u64 st, .string a]] w fun x w' => x = .returned (.int .i64 (jud st (sb a))) ∧ Below w.heap.size w w' := by
  have B0 : Below w.heap.size w (w.alloc (.cells #[.int .u64 cl, .int .u64 st, .string a] 66)) := (Below.refl _ w).alloc (Nat.le_refl _) _
  have K0 : (w.alloc (.cells #[.int .u64 cl, .int .u64 st, .string a] 66)).heap[w.heap.size]? = some (.cells #[.int .u64 cl, .int .u64 st, .string a] 66) := heap_alloc_new w _
  go_enter Tryd.func48, Tryd.ntmps48
  go_wp2_with (refine wpList_conv_bytes rfl (.tmp 7) rfl a rfl (by omega) ?_; intro g1 c1 w1 hg1 S1 C1; clear hg1)
  have B1 := B0.trans (C1.mono B0.size)
  have K1 := (C1.block _ (Array.getElem?_eq_some_iff.1 K0).1).trans K0
  obtain ⟨N, hN⟩ : ∃ N, N = w.heap.size := ⟨_, rfl⟩
  rw [← hN] at K1 ⊢
  clear hN B0 C1 K0
  have CR := prdr_far w1 _ _ _ _ S1 (by omega)
  refine CR.mono ?_
  rintro x w3 h3
  have C3 := h3.bel
  have B3 := B1.trans (C3.mono B1.size)
  have K3 := (C3.block N (Array.getElem?_eq_some_iff.1 K1).1).trans K1
  clear CR C3 K1 B1 S1
  cases hrd : rdR (sb a) with
  | inl k =>
    have hk := rd_ne hrd
    have e0 : (k == 0) = false := by simp [hk]
    have e1 : (k != 0) = true := by simp [hk]
    have hj : Hid (jud st (sb a) = k) := by show _ = _; unfold jud; rw [hrd]
    have hx := h3.bad k hrd
    subst hx
    have C4 : Below w3.heap.size w3 (w3.alloc (.cells #[.int .i64 0, .slice none 0 0, .bool false] 37)) := (Below.refl _ _).alloc (Nat.le_refl _) _
    have B4 := B3.trans (C4.mono B3.size)
    clear h3 hrd hk C4 K3
    unfold resV
    go_wp2
    go_ret
    exact ⟨by rw [hj.out] <;> rfl, B4⟩
  | inr r =>
    obtain ⟨q, ao, n, cap, cs, m, rfl, -, -, -⟩ := h3.good r hrd
    have hj : Hid (jud st (sb a) = if st = 0 ∧ sb a ≠ [0, 0, 0] then 1 else 0) := jud_zero hrd
    have C4 : Below w3.heap.size w3 (w3.alloc (.cells #[.int .i64 q, .slice ao n cap, .bool m] 37)) := (Below.refl _ _).alloc (Nat.le_refl _) _
    have B4 := B3.trans (C4.mono B3.size)
    have K4 := (C4.block N (Array.getElem?_eq_some_iff.1 K3).1).trans K3
    clear h3 hrd K3 C4 B3
    unfold resV
    go_wp2_with fail
    obtain ⟨w4, hw4⟩ : ∃ W, W = w3.alloc (.cells #[.int .i64 q, .slice ao n cap, .bool m] 37) := ⟨_, rfl⟩
    rw [← hw4] at B4 K4 ⊢
    clear hw4
    have k1 := cell_of_row w4 N 1 _ _ _ K4
    have k2 := cell_of_row w4 N 2 _ _ _ K4
    clear K4
    by_cases hs : st = 0
    · have i0 : ((st : Int) == 0) = true := by simp; omega
      by_cases hz : sb a = [0, 0, 0]
      · have hv : Hid (jud st (sb a) = 0) := by show _ = _; rw [hj.out, if_neg (fun c => c.2 hz)]
        have i1 : (a.toList == (strOfNums (putR zRV)).toList) = true := by rw [zero_an hz]; simp
        clear hj hz hs
        have HS : Hid (∀ V, Below w4.heap.size w4 V → V.cell? ⟨N, 1, none⟩ = some (.int .u64 st) ∧ V.cell? ⟨N, 2, none⟩ = some (.string a)) := fun V hV => ⟨(hV.cell (World.block_lt_of_cell? _ _ k1)).trans k1, (hV.cell (World.block_lt_of_cell? _ _ k2)).trans k2⟩
        have E0 : Below w4.heap.size w4 w4.drew := (Below.refl _ _).drew
        refine wp_region_noPanic ?_
        refine wp_region_held_drew (S := fun V => V.cell? ⟨N, 1, none⟩ = some (.int .u64 st) ∧ V.cell? ⟨N, 2, none⟩ = some (.string a)) (by kernel_rfl) (HS.out _ E0) (fun H0 => ?_)
        obtain ⟨v0, hv0⟩ : ∃ v, v = w4.drew := ⟨_, rfl⟩
        rw [← hv0] at H0 E0 ⊢
        clear hv0
        refine hr_take_w 0 (some 15) (.pointer (some ⟨N, 1, none⟩)) rfl rfl (by kernel_rfl) (by kernel_rfl) (by kernel_rfl) rfl (fun W hW => by obtain ⟨h0, h1⟩ := hW; go_simp) H0 ?_
        simp only [FL]
        refine hr_take_w 1 (some 16) (.int .u64 st) rfl rfl (by kernel_rfl) (by kernel_rfl) (by kernel_rfl) rfl (fun W hW => by obtain ⟨h0, h1⟩ := hW; go_simp) H0 ?_
        simp only [FL]
        refine hr_take_w 2 (some 17) (.bool true) rfl rfl (by kernel_rfl) (by kernel_rfl) (by kernel_rfl) rfl (fun W hW => by obtain ⟨h0, h1⟩ := hW; go_simp) H0 ?_
        simp only [FL]
        refine hr_take_w 3 (some 18) (.bool true) rfl rfl (by kernel_rfl) (by kernel_rfl) (by kernel_rfl) rfl (fun W hW => by obtain ⟨h0, h1⟩ := hW; go_simp) H0 ?_
        simp only [FL]
        refine hr_take_w 4 (some 19) (.pointer (some ⟨N, 2, none⟩)) rfl rfl (by kernel_rfl) (by kernel_rfl) (by kernel_rfl) rfl (fun W hW => by obtain ⟨h0, h1⟩ := hW; go_simp) H0 ?_
        simp only [FL]
        refine hr_take_w 5 (some 20) (.string a) rfl rfl (by kernel_rfl) (by kernel_rfl) (by kernel_rfl) rfl (fun W hW => by obtain ⟨h0, h1⟩ := hW; go_simp) H0 ?_
        simp only [FL]
        refine hr_call_w 6 (some 21) 29 #[] rfl rfl (by kernel_rfl) rfl (by go_simp) (fun v w' => v = .string (strOfNums (putR zRV)) ∧ Below v0.heap.size v0 w') ((noAnswer_any v0).mono (by
          rintro e w' ⟨rfl, C⟩
          exact ⟨_, rfl, rfl, C⟩)) ?_
        rintro v v1 ⟨rfl, C0⟩
        have E1 := E0.trans (C0.mono E0.size)
        have H1 := HS.out v1 E1
        refine ⟨H1, ?_⟩
        simp only [FL]
        refine hr_take_w 7 (some 22) (.bool false) rfl rfl (by kernel_rfl) (by kernel_rfl) (by kernel_rfl) rfl (fun W hW => by obtain ⟨h0, h1⟩ := hW; go_simp) H1 ?_
        simp only [FL]
        refine hr_take_w 8 (some 23) (.bool false) rfl rfl (by kernel_rfl) (by kernel_rfl) (by kernel_rfl) rfl (fun W hW => by obtain ⟨h0, h1⟩ := hW; go_simp) H1 ?_
        simp only [FL]
        refine wpAnyH_done (by kernel_rfl) ?_ _
        refine NoPanic.normal ?_
        have B5 := B4.trans (E1.mono B4.size)
        clear HS H0 H1 E0 E1 C0 k1 k2
        go_wp2
        go_ret
        exact ⟨by rw [hv.out] <;> rfl, B5⟩
      · have hv : Hid (jud st (sb a) = 1) := by show _ = _; rw [hj.out, if_pos ⟨hs, hz⟩]
        have i1 : (a.toList == (strOfNums (putR zRV)).toList) = false := toL_ne fun e => hz (by rw [e, sb_str (zRV_ok 1 (by decide)).byt, zRV_put])
        clear hj hz hs
        have HS : Hid (∀ V, Below w4.heap.size w4 V → V.cell? ⟨N, 1, none⟩ = some (.int .u64 st) ∧ V.cell? ⟨N, 2, none⟩ = some (.string a)) := fun V hV => ⟨(hV.cell (World.block_lt_of_cell? _ _ k1)).trans k1, (hV.cell (World.block_lt_of_cell? _ _ k2)).trans k2⟩
        have E0 : Below w4.heap.size w4 w4.drew := (Below.refl _ _).drew
        refine wp_region_noPanic ?_
        refine wp_region_held_drew (S := fun V => V.cell? ⟨N, 1, none⟩ = some (.int .u64 st) ∧ V.cell? ⟨N, 2, none⟩ = some (.string a)) (by kernel_rfl) (HS.out _ E0) (fun H0 => ?_)
        obtain ⟨v0, hv0⟩ : ∃ v, v = w4.drew := ⟨_, rfl⟩
        rw [← hv0] at H0 E0 ⊢
        clear hv0
        refine hr_take_w 0 (some 15) (.pointer (some ⟨N, 1, none⟩)) rfl rfl (by kernel_rfl) (by kernel_rfl) (by kernel_rfl) rfl (fun W hW => by obtain ⟨h0, h1⟩ := hW; go_simp) H0 ?_
        simp only [FL]
        refine hr_take_w 1 (some 16) (.int .u64 st) rfl rfl (by kernel_rfl) (by kernel_rfl) (by kernel_rfl) rfl (fun W hW => by obtain ⟨h0, h1⟩ := hW; go_simp) H0 ?_
        simp only [FL]
        refine hr_take_w 2 (some 17) (.bool true) rfl rfl (by kernel_rfl) (by kernel_rfl) (by kernel_rfl) rfl (fun W hW => by obtain ⟨h0, h1⟩ := hW; go_simp) H0 ?_
        simp only [FL]
        refine hr_take_w 3 (some 18) (.bool true) rfl rfl (by kernel_rfl) (by kernel_rfl) (by kernel_rfl) rfl (fun W hW => by obtain ⟨h0, h1⟩ := hW; go_simp) H0 ?_
        simp only [FL]
        refine hr_take_w 4 (some 19) (.pointer (some ⟨N, 2, none⟩)) rfl rfl (by kernel_rfl) (by kernel_rfl) (by kernel_rfl) rfl (fun W hW => by obtain ⟨h0, h1⟩ := hW; go_simp) H0 ?_
        simp only [FL]
        refine hr_take_w 5 (some 20) (.string a) rfl rfl (by kernel_rfl) (by kernel_rfl) (by kernel_rfl) rfl (fun W hW => by obtain ⟨h0, h1⟩ := hW; go_simp) H0 ?_
        simp only [FL]
        refine hr_call_w 6 (some 21) 29 #[] rfl rfl (by kernel_rfl) rfl (by go_simp) (fun v w' => v = .string (strOfNums (putR zRV)) ∧ Below v0.heap.size v0 w') ((noAnswer_any v0).mono (by
          rintro e w' ⟨rfl, C⟩
          exact ⟨_, rfl, rfl, C⟩)) ?_
        rintro v v1 ⟨rfl, C0⟩
        have E1 := E0.trans (C0.mono E0.size)
        have H1 := HS.out v1 E1
        refine ⟨H1, ?_⟩
        simp only [FL]
        refine hr_take_w 7 (some 22) (.bool true) rfl rfl (by kernel_rfl) (by kernel_rfl) (by kernel_rfl) rfl (fun W hW => by obtain ⟨h0, h1⟩ := hW; go_simp) H1 ?_
        simp only [FL]
        refine hr_take_w 8 (some 23) (.bool true) rfl rfl (by kernel_rfl) (by kernel_rfl) (by kernel_rfl) rfl (fun W hW => by obtain ⟨h0, h1⟩ := hW; go_simp) H1 ?_
        simp only [FL]
        refine wpAnyH_done (by kernel_rfl) ?_ _
        refine NoPanic.normal ?_
        have B5 := B4.trans (E1.mono B4.size)
        clear HS H0 H1 E0 E1 C0 k1 k2
        go_wp2
        go_ret
        exact ⟨by rw [hv.out] <;> rfl, B5⟩
    · have hv : Hid (jud st (sb a) = 0) := by show _ = _; rw [hj.out, if_neg (fun c => hs c.1)]
      have i1 : ((st : Int) == 0) = false := by simp; omega
      clear hj hs
      have HS : Hid (∀ V, Below w4.heap.size w4 V → V.cell? ⟨N, 1, none⟩ = some (.int .u64 st) ∧ V.cell? ⟨N, 2, none⟩ = some (.string a)) := fun V hV => ⟨(hV.cell (World.block_lt_of_cell? _ _ k1)).trans k1, (hV.cell (World.block_lt_of_cell? _ _ k2)).trans k2⟩
      have E0 : Below w4.heap.size w4 w4.drew := (Below.refl _ _).drew
      refine wp_region_noPanic ?_
      refine wp_region_held_drew (S := fun V => V.cell? ⟨N, 1, none⟩ = some (.int .u64 st) ∧ V.cell? ⟨N, 2, none⟩ = some (.string a)) (by kernel_rfl) (HS.out _ E0) (fun H0 => ?_)
      obtain ⟨v0, hv0⟩ : ∃ v, v = w4.drew := ⟨_, rfl⟩
      rw [← hv0] at H0 E0 ⊢
      clear hv0
      refine hr_take_w 0 (some 15) (.pointer (some ⟨N, 1, none⟩)) rfl rfl (by kernel_rfl) (by kernel_rfl) (by kernel_rfl) rfl (fun W hW => by obtain ⟨h0, h1⟩ := hW; go_simp) H0 ?_
      simp only [FL]
      refine hr_take_w 1 (some 16) (.int .u64 st) rfl rfl (by kernel_rfl) (by kernel_rfl) (by kernel_rfl) rfl (fun W hW => by obtain ⟨h0, h1⟩ := hW; go_simp) H0 ?_
      simp only [FL]
      refine hr_take_w 2 (some 17) (.bool false) rfl rfl (by kernel_rfl) (by kernel_rfl) (by kernel_rfl) rfl (fun W hW => by obtain ⟨h0, h1⟩ := hW; go_simp) H0 ?_
      simp only [FL]
      refine hr_take_w 3 (some 18) (.bool false) rfl rfl (by kernel_rfl) (by kernel_rfl) (by kernel_rfl) rfl (fun W hW => by obtain ⟨h0, h1⟩ := hW; go_simp) H0 ?_
      simp only [FL]
      refine hr_none 4 (some 19) rfl rfl (by kernel_rfl) (by kernel_rfl) (by kernel_rfl) rfl H0 ?_
      simp only [FL]
      refine hr_none 5 (some 20) rfl rfl (by kernel_rfl) (by kernel_rfl) (by kernel_rfl) rfl H0 ?_
      simp only [FL]
      refine hr_none 6 (some 21) rfl rfl (by kernel_rfl) (by kernel_rfl) (by kernel_rfl) rfl H0 ?_
      simp only [FL]
      refine hr_none 7 (some 22) rfl rfl (by kernel_rfl) (by kernel_rfl) (by kernel_rfl) rfl H0 ?_
      simp only [FL]
      refine hr_take_w 8 (some 23) (.bool false) rfl rfl (by kernel_rfl) (by kernel_rfl) (by kernel_rfl) rfl (fun W hW => by obtain ⟨h0, h1⟩ := hW; go_simp) H0 ?_
      simp only [FL]
      refine wpAnyH_done (by kernel_rfl) ?_ _
      refine NoPanic.normal ?_
      have B5 := B4.trans (E0.mono B4.size)
      clear HS H0 E0 k1 k2
      go_wp2
      go_ret
      exact ⟨by rw [hv.out] <;> rfl, B5⟩
theorem wpList_runA {w w' : World} {ops : Array Oper} {rest : List Oper} {o : Oper} {a : Act} {Q : Exit → Act → World → Prop} (hgd : o.guard = none) (s x : Operand) (t : TypeId) (ho : o.op = .call { callee := .builtin .append, args := #[s, x], argTypes := #[t, t] }) {v u v' : Value} (hs : a.eval s = v) (hx : a.eval x = u)
    (hr : (Builtin.append_ #[t, t] o.type #[v, u]).run Tryd.prog w = .ok v' w') (h : wpList Tryd.prog ops Q rest (a.put o.dst v') w') : wpList Tryd.prog ops Q (o :: rest) a w := by
  refine wpList_plain hgd fun _ hK => ?_
  unfold Oper.wp execOp
  simp only [ho, resolve, invoke, builtin, Sem.run_bind, Sem.run_pure, Result.andThen_ok, List.map_toArray, List.map_cons, List.map_nil, hs, hx, hr, Oper.upon]
  exact hK _ _ h
set_option maxRecDepth 100000 in
set_option maxHeartbeats 8000000 in
theorem cRead_any (w : World) (ao : Option Addr) (n cap : Nat) (xs : List Int) (h : Sl w ao n cap xs) (hn : n ≤ 1000000) :
    Calls Tryd.prog 25 #[.slice ao n cap] w fun x w' => ((dR xs ≠ 0 ∧ x = .returned (.tuple #[.pointer none, .int .i64 (dR xs)])) ∨ (dR xs = 0 ∧ ∃ p g l, x = .returned (.tuple #[.pointer (some ⟨p, 0, none⟩), .int .i64 0]) ∧ TS w' p g l ∧ l.map EN.raw = (repR xs).1 ∧ bytT l = xs ∧ w.heap.size ≤ p ∧ w.heap.size ≤ g)) ∧ Below w.heap.size w w' := by
  have hb := h.byte
  have CR := read_any w ao n cap xs h hn
  clear h
  go_enter Tryd.func25, Tryd.ntmps25
  go_wp2_with fail
  refine CR.mono ?_
  rintro x w1 ⟨rp, rfl, hrp, R1, B1⟩
  clear CR
  have C2 : Below w1.heap.size w1 (w1.alloc (.cells #[.slice none 0 0] 63)) := (Below.refl _ _).alloc (Nat.le_refl _) _
  have hrl := R1.plt.1
  have N2 : RdI (w1.alloc (.cells #[.slice none 0 0] 63)) rp w1.heap.size (.slice none 0 0) (.slice none 0 0) [] [] xs 0 := ⟨R1.below C2, heap_alloc_new _ _, World.ownsRow_nil _ _ _ _, World.ownsRow_nil _ _ _ _, (fun x hx => by cases hx), hrl⟩
  have B2 := B1.trans (C2.mono B1.size)
  have hpw : w.heap.size ≤ w1.heap.size := B1.size
  have CI := int_any _ rp rp xs 0 8 (by decide) hb N2.rd
  go_wp2_with fail
  obtain ⟨w2, hw2⟩ : ∃ W, W = w1.alloc (.cells #[.slice none 0 0] 63) := ⟨_, rfl⟩
  obtain ⟨p, hp⟩ : ∃ p, p = w1.heap.size := ⟨_, rfl⟩
  rw [← hw2] at N2 B2 CI ⊢
  rw [← hp] at N2 hpw ⊢
  clear hw2 hp C2 B1 R1 hrl
  refine CI.mono ?_
  rintro x w3 ⟨rfl, R3, G3⟩
  have N3 := N2.rdr G3 R3
  have B3 := B2.grown G3 B2.size (fun _ e => by cases e; exact hrp)
  clear CI R3 G3 N2 B2
  have HC : Hid (intS xs 0 8 = cntR xs) := rfl
  rw [HC.out] at N3 ⊢
  have hc8 : (cntR xs).1 ≤ 8 := intS_le xs 0 8
  have hbc : Byt (cntR xs).2.1 := N3.rd.byte
  have HRP : Hid (repR xs = repT eT (cntR xs).1 (cntR xs).2.1 (cntR xs).2.2) := rfl
  obtain ⟨cnt, hcnt⟩ : ∃ c, c = (cntR xs).1 := ⟨_, rfl⟩
  rw [← hcnt] at hc8 HRP ⊢
  generalize (cntR xs).2.1 = xs1 at *
  generalize (cntR xs).2.2 = k1 at *
  clear HC hcnt
  have hci : (cnt : Int) ≤ 8 := by omega
  go_wp2_with fail
  go_loopw [6, 15] (fun cv i wr => ∃ (k : Nat) (v : Value), k ≤ cnt ∧ i = .int .i64 k ∧ RdI wr rp p v cv (repT eT k xs1 k1).1 ((repT eT k xs1 k1).1.map RE.cl) (repT eT k xs1 k1).2.1 (repT eT k xs1 k1).2.2 ∧ Hid (∀ c ∈ (repT eT k xs1 k1).1, c.cl < 18446744073709551616) ∧ Below w.heap.size w wr) (fun _ i _ => cnt - (intOf i).toNat)
  case atStart => exact ⟨0, _, Nat.zero_le _, rfl, N3, (fun _ h => by cases h), B3⟩
  case round =>
    clear N3 B3
    obtain ⟨k, v, hk, rfl, N, HB, B⟩ := hrel
    obtain ⟨vo, vn, vc, hvs⟩ := N.vslice
    obtain ⟨co, cn, cc, hcv⟩ := N.cslice
    subst hcv
    by_cases hlt : k < cnt
    · have hki : (k : Int) < (cnt : Int) := by omega
      have HSN : Hid (repT eT (k + 1) xs1 k1 = ((repT eT k xs1 k1).1 ++ [(eT (repT eT k xs1 k1).2.1 (repT eT k xs1 k1).2.2).1], (eT (repT eT k xs1 k1).2.1 (repT eT k xs1 k1).2.2).2)) := repT_snoc eT k xs1 k1
      have hlk : (repT eT k xs1 k1).1.length = k := repT_len eT k xs1 k1
      generalize repT eT k xs1 k1 = t at *
      obtain ⟨l, ys, q⟩ := t
      simp only at N HB HSN hlk
      have byt := N.rd.byte
      have HCB : Hid (∀ x, (Value.slice co cn cc).ownBlock = some x → x < wr.heap.size) := fun x hx => (N.cs.lt x hx).2
      have CU := uint_any wr rp rp ys q N.rd
      have hl1 := uintS_lt (k := q) byt
      go_wp2_with fail
      refine CU.mono ?_
      rintro x v1 ⟨rfl, R1, G1⟩
      have N1 := N.rdr G1 R1
      have B1 := B.grown G1 B.size (fun _ e => by cases e; exact hrp)
      have s1 := G1.size
      clear CU G1 R1 N B
      have E1 : Hid (uintS ys q = eC ys q) := rfl
      rw [E1.out] at N1 hl1 ⊢
      have byt1 := N1.rd.byte
      have CU := uint_any v1 rp rp (eC ys q).2.1 (eC ys q).2.2 N1.rd
      have hl2 := uintS_lt (k := (eC ys q).2.2) byt1
      go_wp2_with fail
      refine CU.mono ?_
      rintro x v2 ⟨rfl, R2, G2⟩
      have N2 := N1.rdr G2 R2
      have B2 := B1.grown G2 B1.size (fun _ e => by cases e; exact hrp)
      have s2 := G2.size
      clear CU G2 R2 N1 B1
      have E2 : Hid (uintS (eC ys q).2.1 (eC ys q).2.2 = eS ys q) := rfl
      rw [E2.out] at N2 hl2 ⊢
      have CB := bytes_any v2 rp rp (eS ys q).2.1 (eS ys q).2.2 65536 (by decide) N2.rd
      go_wp2_with fail
      refine CB.mono ?_
      rintro x v3 ⟨bo, bn, bc, rfl, S3, -, R3, G3⟩
      have N3 := N2.rdr G3 R3
      have B3 := B2.grown G3 B2.size (fun _ e => by cases e; exact hrp)
      have s3 := G3.size
      clear CB G3 R3 N2 B2
      have E3 : Hid (bytesS (eS ys q).2.1 (eS ys q).2.2 65536 = eB ys q) := rfl
      rw [E3.out] at N3 S3
      have cv3 := conv_str S3
      have HSB : Hid (sb (strOfNums (eB ys q).1) = (eB ys q).1) := sb_str S3.byte
      have hbl : (eB ys q).1.length ≤ 65536 := bytesS_le (eS ys q).2.1 (eS ys q).2.2 65536
      have hsz : (strOfNums (eB ys q).1).size ≤ 65536 := by rw [← sb_len, HSB.out]; exact hbl
      have HTE : Hid ((eT ys q).1 = ⟨(eC ys q).1, (eS ys q).1, (eB ys q).1⟩ ∧ (eT ys q).2 = failS (eB ys q).2.1 (eB ys q).2.2 (jud (eS ys q).1 (eB ys q).1)) := ⟨rfl, rfl⟩
      obtain ⟨e, he⟩ : ∃ e : RE, e = ⟨(eC ys q).1, (eS ys q).1, (eB ys q).1⟩ := ⟨_, rfl⟩
      have a1 : (eC ys q).1 = e.cl := by rw [he]
      have a2 : (eS ys q).1 = e.st := by rw [he]
      have a3 : (eB ys q).1 = e.a := by rw [he]
      rw [← he] at HTE
      rw [a1] at hl1 ⊢
      rw [a2] at hl2 HTE ⊢
      rw [a3] at S3 cv3 HSB hbl hsz HTE
      generalize (eB ys q).2.1 = zs at *
      generalize (eB ys q).2.2 = kz at *
      clear he a1 a2 a3 E1 E2 E3 byt byt1
      have C4 : Below v3.heap.size v3 (v3.alloc (.cells #[.int .u64 e.cl, .int .u64 e.st, .string (strOfNums e.a)] 66)) := (Below.refl _ _).alloc (Nat.le_refl _) _
      have K4 : (v3.alloc (.cells #[.int .u64 e.cl, .int .u64 e.st, .string (strOfNums e.a)] 66)).heap[v3.heap.size]? = some (.cells #[.int .u64 e.cl, .int .u64 e.st, .string (strOfNums e.a)] 66) := heap_alloc_new _ _
      have N4 := N3.below C4
      have B4 := B3.trans (C4.mono B3.size)
      have CJ := ejudge_any (v3.alloc (.cells #[.int .u64 e.cl, .int .u64 e.st, .string (strOfNums e.a)] 66)) e.cl e.st (strOfNums e.a) hsz
      rw [HSB.out] at CJ
      go_wp2_with fail
      obtain ⟨v4, hv4⟩ : ∃ W, W = v3.alloc (.cells #[.int .u64 e.cl, .int .u64 e.st, .string (strOfNums e.a)] 66) := ⟨_, rfl⟩
      obtain ⟨E, hE⟩ : ∃ E, E = v3.heap.size := ⟨_, rfl⟩
      have hpE : p < E := by rw [hE]; exact N3.plt
      have hwE : wr.heap.size ≤ E := by omega
      rw [← hv4] at K4 N4 B4 CJ ⊢
      rw [← hE] at K4 ⊢
      clear hv4 hE C4 cv3 S3 N3 B3
      refine CJ.mono ?_
      rintro x u1 ⟨rfl, D1⟩
      have M1 := N4.below D1
      have F1 := B4.trans (D1.mono B4.size)
      have L1 := (D1.block E (Array.getElem?_eq_some_iff.1 K4).1).trans K4
      clear CJ D1 N4 B4 K4
      have CF := fail_gen u1 rp rp zs kz (jud e.st e.a) M1.rd
      go_wp2_with fail
      refine CF.mono ?_
      rintro x u2 ⟨rfl, R2, G2⟩
      have M2 := M1.rdr G2 R2
      have F2 := F1.grown G2 F1.size (fun _ e => by cases e; exact hrp)
      have hrpE : rp < E := by have := M1.pos; omega
      have L2 := (G2.block E (Array.getElem?_eq_some_iff.1 L1).1 (by simp; omega)).trans L1
      rw [← HTE.out.2] at M2
      clear CF G2 R2 M1 F1 L1
      have r0 := cell_of_row u2 E 0 _ _ _ L2
      have C5 : Below u2.heap.size u2 (u2.alloc (.cells #[.int .u64 e.cl] 34)) := (Below.refl _ _).alloc (Nat.le_refl _) _
      have K5 : (u2.alloc (.cells #[.int .u64 e.cl] 34)).heap[u2.heap.size]? = some (.cells #[.int .u64 e.cl] 34) := heap_alloc_new _ _
      have M3 := M2.below C5
      obtain ⟨cv', v5, ha5, N5, B5, key5, co2, cn2, cc2, rfl⟩ := M3.num 22 (cp := 1) K5 (by rw [List.length_map]; omega)
      have F3 := F2.trans (C5.mono F2.size)
      have L3 := (C5.block E (Array.getElem?_eq_some_iff.1 L2).1).trans L2
      have K6 : v5.heap[E]? = some (.cells #[.int .u64 e.cl, .int .u64 e.st, .string (strOfNums e.a)] 66) := by
        refine (key5 E (Array.getElem?_eq_some_iff.1 L3).1 (fun ee => ?_)).trans L3
        have := HCB.out E ee
        omega
      have B5 := F3.trans (B5.mono (by omega))
      have K5 := K6
      clear C5 M2 M3 F2 F3 L2 L3 K6 key5 HCB s1 s2 s3
      go_wp2_with (at_builtin; refine wpList_runA rfl _ _ 22 rfl rfl rfl ha5 ?_)
      clear ha5 r0
      have zE0 : Below v5.heap.size v5 v5.drew := (Below.refl _ _).drew
      refine wp_region_noPanic ?_
      refine wp_region_held_drew (S := fun _ => True) (by kernel_rfl) trivial (fun _ => ?_)
      obtain ⟨zv0, hv0⟩ : ∃ v, v = v5.drew := ⟨_, rfl⟩
      rw [← hv0] at zE0 ⊢
      clear hv0
      refine hr_take_w 0 (some 34) (.pointer (some ⟨p, 0, none⟩)) rfl rfl (by kernel_rfl) (by kernel_rfl) (by kernel_rfl) rfl (fun W hW => by go_simp) trivial ?_
      simp only [FL]
      refine hr_take_w 1 (some 35) (.pointer (some ⟨p, 0, none⟩)) rfl rfl (by kernel_rfl) (by kernel_rfl) (by kernel_rfl) rfl (fun W hW => by go_simp) trivial ?_
      simp only [FL]
      refine hr_take_w 2 (some 36) (.pointer (some ⟨p, 0, none⟩)) rfl rfl (by kernel_rfl) (by kernel_rfl) (by kernel_rfl) rfl (fun W hW => by go_simp) trivial ?_
      simp only [FL]
      refine hr_take_w 3 (some 37) (.pointer (some ⟨p, 0, none⟩)) rfl rfl (by kernel_rfl) (by kernel_rfl) (by kernel_rfl) rfl (fun W hW => by go_simp) trivial ?_
      simp only [FL]
      refine wpAnyH_effto 4 (fun zi zv zw => (zi = 4 → zv = v) ∧ (zi = 5 → zv = .agg #[.int .u64 e.cl, .int .u64 e.st, .string (strOfNums e.a)]) ∧ (zi = 6 → ∃ g1, zv = .slice (some ⟨g1, 0, none⟩) 1 1 ∧ zw.heap[g1]? = some (.cells #[.int .u64 e.cl, .int .u64 e.st, .string (strOfNums e.a)] 66))) [(4, 38), (5, 39), (6, 40)] 55 (by kernel_rfl) (by decide) (by decide) rfl ?_ (fun _ _ => trivial) ?_ ?_
      · intro zi v w w' h hb
        refine ⟨fun e => ?_, fun e => ?_, fun e => ?_⟩
        · have h := h.1 e
          exact h
        · have h := h.2.1 e
          exact h
        · have h := h.2.2 e
          obtain ⟨g1, h1, h2⟩ := h
          exact ⟨g1, h1, (hb.block g1 (Array.getElem?_eq_some_iff.1 h2).1).trans h2⟩
      · intro zp zhi o a w ho hs hb hdep
        have zEB := zE0.trans (hb.mono zE0.size)
        simp only [List.mem_cons, List.not_mem_nil, or_false] at zhi
        rcases zhi with rfl | rfl | rfl
        · obtain rfl : _ = o := Option.some.inj (show some _ = some o from ho)
          have t37 : a.tmps[37]? = some (.pointer (some ⟨p, 0, none⟩)) := hs.get 37 (by kernel_rfl) rfl
          have lc := cell_of_row w p 0 _ _ _ (N5.below zEB).tab
          exact .inl ⟨v, w, by go_simp, ⟨fun _ => rfl, fun e => absurd e (by decide), fun e => absurd e (by decide)⟩, Below.refl _ _⟩
        · obtain rfl : _ = o := Option.some.inj (show some _ = some o from ho)
          have t7 : a.tmps[7]? = some (.pointer (some ⟨E, 0, none⟩)) := hs.get 7 (by kernel_rfl) rfl
          have lk := (zEB.block E (Array.getElem?_eq_some_iff.1 K5).1).trans K5
          have lc0 := cell_of_row w E 0 _ _ _ lk
          have lc1 := cell_of_row w E 1 _ _ _ lk
          have lc2 := cell_of_row w E 2 _ _ _ lk
          exact .inl ⟨.agg #[.int .u64 e.cl, .int .u64 e.st, .string (strOfNums e.a)], w, by go_simp, ⟨fun e => absurd e (by decide), fun _ => rfl, fun e => absurd e (by decide)⟩, Below.refl _ _⟩
        · obtain rfl : _ = o := Option.some.inj (show some _ = some o from ho)
          obtain ⟨x39, t39, f39⟩ := (hdep 5 (by kernel_rfl)).at 39 (by kernel_rfl)
          replace f39 := f39.2.1 rfl
          subst f39
          exact .inl ⟨_, _, by go_simp, ⟨fun e => absurd e (by decide), fun e => absurd e (by decide), fun _ => ⟨_, rfl, heap_alloc_new w _⟩⟩, (Below.refl _ _).alloc (Nat.le_refl _) _⟩
      intro zf zv1 hb hh
      have zE1 := zE0.trans (hb.mono zE0.size)
      obtain e4 := (hh (4, 38) (by simp)).1 rfl
      obtain e5 := (hh (5, 39) (by simp)).2.1 rfl
      obtain ⟨g1, e6, G1⟩ := (hh (6, 40) (by simp)).2.2 rfl
      clear hh hb
      simp only [putL, List.foldl_cons, List.foldl_nil, e4, e5, e6]
      clear e4 e5 e6
      simp only [FL]
      have N6 := N5.below zE1
      obtain ⟨v', W1, ha, T1, N7, B7, ao2, n2, c2, rfl⟩ := N6.ent 61 (cp := 1) (e := e) G1 (by omega)
      refine hr_ex 7 (some 41) rfl rfl (by kernel_rfl) rfl (R := fun v w' => (.slice ao2 n2 c2) = v ∧ W1 = w') ⟨_, W1, by simp [execOp, Act.eval, resolve, invoke, builtin, ha], rfl, rfl⟩ ?_
      rintro v w' ⟨rfl, rfl⟩
      refine ⟨trivial, ?_⟩
      simp only [FL]
      refine hr_take_w 8 (some 42) (.pointer (some ⟨p, 0, none⟩)) rfl rfl (by kernel_rfl) (by kernel_rfl) (by kernel_rfl) rfl (fun W hW => by go_simp) trivial ?_
      simp only [FL]
      refine hr_take_w 9 (some 43) (.pointer (some ⟨p, 0, none⟩)) rfl rfl (by kernel_rfl) (by kernel_rfl) (by kernel_rfl) rfl (fun W hW => by go_simp) trivial ?_
      simp only [FL]
      have lc := cell_of_row W1 p 0 _ _ _ T1
      have lf := frozen_of_row W1 p 0 _ _ T1
      refine hr_skip 10 none (w' := W1.setCell ⟨p, 0, none⟩ (.slice ao2 n2 c2)) rfl rfl (by kernel_rfl) rfl (by go_simp) trivial ?_
      simp only [Act.put]
      refine wpAnyH_done (by kernel_rfl) ?_ _
      refine NoPanic.normal ?_
      have hsz := N5.plt
      have B8 := B5.trans ((zE1.mono (by have := B5.size; omega)).trans (B7.mono hpw))
      obtain ⟨W2, hW2⟩ : ∃ W2, W2 = W1.setCell ⟨p, 0, none⟩ (.slice ao2 n2 c2) := ⟨_, rfl⟩
      rw [← hW2] at N7 B8 ⊢
      clear lc lf ha T1 N6 G1 hW2 B7 zE1 N5 B5 K5
      go_wp2
      go_roundw
      case rel =>
        refine ⟨k + 1, .slice ao2 n2 c2, by omega, by go_num, ?_, fun c hc => ?_, B8⟩
        · rw [HSN.out, HTE.out.1]
          simp only [List.map_append, List.map_cons, List.map_nil]
          exact N7
        · rw [HSN.out, HTE.out.1] at hc
          rcases List.mem_append.1 hc with hc | hc
          · exact HB.out c hc
          · rw [List.mem_singleton.1 hc]
            exact hl1
      case measure => simp [intOf]; omega
    · have hge : (cnt : Int) ≤ (k : Int) := by omega
      obtain rfl : k = cnt := by omega
      have HRX : Hid (repT eT k xs1 k1 = repR xs) := HRP.out.symm
      rw [HRX.out] at N HB
      have CD := done_any wr rp rp _ _ N.rd
      obtain ⟨no, nc, hnl, NLs⟩ := N.nl (fun x hx => by
        obtain ⟨y, hy, rfl⟩ := List.mem_map.1 hx
        exact HB.out y hy)
      rw [hnl] at N ⊢
      obtain ⟨nn, hnn⟩ : ∃ nn, nn = ((repR xs).1.map RE.cl).length := ⟨_, rfl⟩
      rw [← hnn] at NLs N ⊢
      clear hnn
      have CJ := judge_any wr no nn nc _ NLs
      have HDR : Hid (dR xs = or2 (doneS (repR xs).2.1 (repR xs).2.2) (jdg ((repR xs).1.map RE.cl))) := rfl
      generalize doneS (repR xs).2.1 (repR xs).2.2 = d0 at *
      generalize hjd : jdg ((repR xs).1.map RE.cl) = d1 at *
      clear hjd
      have C6 : Below wr.heap.size wr (wr.alloc (.cells #[.int .i64 d0, .int .i64 d1] 27)) := (Below.refl _ _).alloc (Nat.le_refl _) _
      have CO := por2_any (wr.alloc (.cells #[.int .i64 d0, .int .i64 d1] 27)) wr.heap.size d0 d1 (heap_alloc_new _ _)
      rw [← HDR.out] at CO
      have N6 := N.below C6
      have B6 := B.trans (C6.mono B.size)
      clear NLs HRX HRP HB hnl N B C6
      go_wp2_with fail
      refine CD.mono ?_
      rintro x w9 ⟨rfl, hw⟩
      obtain rfl := hw.symm
      clear hw CD
      go_wp2_with fail
      refine CJ.mono ?_
      rintro x w9 ⟨rfl, hw⟩
      obtain rfl := hw.symm
      clear hw CJ
      go_wp2_with fail
      refine CO.mono ?_
      rintro x w9 ⟨rfl, hw⟩
      obtain ⟨W9, hW9⟩ : ∃ W, W = wr.alloc (.cells #[.int .i64 d0, .int .i64 d1] 27) := ⟨_, rfl⟩
      rw [← hW9] at N6 B6 hw
      subst hw
      clear CO hW9 HDR
      by_cases hd : dR xs = 0
      · obtain ⟨m, ok, h2, h3, h4, h5, h6⟩ := rd_back hb hd
        obtain ⟨g, T, hg⟩ := N6.done h2 ok h5 h6
        rw [hd]
        have HF : Hid (dR xs = 0 ∧ m.map EN.raw = (repR xs).1 ∧ bytT m = xs) := ⟨hd, h2, h3⟩
        clear hd N6 h2 h3 h4 h5 h6 ok
        go_wp2
        go_ret2
        exact ⟨.inr ⟨HF.out.1, p, g, m, rfl, T, HF.out.2.1, HF.out.2.2, hpw, by omega⟩, B6⟩
      · have e0 : (dR xs == 0) = false := by simp [hd]
        have e1 : (dR xs != 0) = true := by simp [hd]
        have HF : Hid (dR xs ≠ 0) := hd
        clear hd N6
        go_wp2
        go_ret2
        exact ⟨.inl ⟨HF.out, rfl⟩, B6⟩
open Go.RowKit Go.ChangeShapes Go.WideShapes
structure ResTypes (P : Program) where
  key : TypeId
  str : TypeId
  u64 : TypeId
  bys : TypeId
  u8 : TypeId
  bool : TypeId
  cel : TypeId
  cels : TypeId
  knd : TypeId
  res : TypeId
  g0 : Field
  g1 : Field
  g2 : Field
  g3 : Field
  f0 : Field
  f1 : Field
  f2 : Field
  r0 : Field
  r1 : Field
  r2 : Field
  hkey : P.underlying key = some (.struct #[g0, g1, g2, g3])
  hstr : P.underlying str = some .string
  hu64 : P.underlying u64 = some (.int .u64)
  hbys : P.underlying bys = some (.slice u8)
  hu8 : P.underlying u8 = some (.int .u8)
  hbool : P.underlying bool = some .bool
  hcel : P.underlying cel = some (.struct #[f0, f1, f2])
  hcels : P.underlying cels = some (.slice cel)
  hknd : P.underlying knd = some (.int .i64)
  hres : P.underlying res = some (.struct #[r0, r1, r2])
  ckey : P.cellsOf key = 4
  cstr : P.cellsOf str = 1
  cu64 : P.cellsOf u64 = 1
  cbys : P.cellsOf bys = 1
  cu8 : P.cellsOf u8 = 1
  bu8 : P.bytesOf u8 = 1
  cbool : P.cellsOf bool = 1
  ccel : P.cellsOf cel = 6
  ccels : P.cellsOf cels = 1
  cknd : P.cellsOf knd = 1
  cres : P.cellsOf res = 3
  p0 : g0.type = str ∧ g0.offset = 0
  p1 : g1.type = str ∧ g1.offset = 1
  p2 : g2.type = str ∧ g2.offset = 2
  p3 : g3.type = u64 ∧ g3.offset = 3
  o0 : f0.type = key ∧ f0.offset = 0
  o1 : f1.type = bys ∧ f1.offset = 4
  o2 : f2.type = bool ∧ f2.offset = 5
  q0 : r0.type = knd ∧ r0.offset = 0
  q1 : r1.type = cels ∧ r1.offset = 1
  q2 : r2.type = bool ∧ r2.offset = 2
variable {H : Type} {enc : TypeId × Value → H} {P : Program} {w : World} {base : Nat} {spare : Nat → Bool} {held : Bool}
set_option maxHeartbeats 1000000 in
theorem open_cellS (T : ResTypes P) {fuel : Nat} {cs : List Value} {x : DataW H × List MemPlace} (h : DataW.trod enc P w base spare held fuel T.cel cs = some x) : ∃ c : CA, cs = c.cells ∧ c.ok w ∧ (Wt P x.1 T.cel → c.small) := by
  obtain ⟨xs, k, _, hx, hl, hlen, hf⟩ := DataW.trod_struct T.hcel h
  rw [T.ccel] at hl
  obtain ⟨c0, c1, c2, c3, c4, c5, rfl⟩ : ∃ c0 c1 c2 c3 c4 c5, cs = [c0, c1, c2, c3, c4, c5] := by
    match cs, hl with
    | [c0, c1, c2, c3, c4, c5], _ => exact ⟨_, _, _, _, _, _, rfl⟩
  obtain ⟨x0, x1, x2, rfl⟩ : ∃ x0 x1 x2, xs = [x0, x1, x2] := by
    match xs, hlen with
    | [x0, x1, x2], _ => exact ⟨_, _, _, rfl⟩
  have e0 := hf 0 T.f0 rfl
  have e1 := hf 1 T.f1 rfl
  have e2 := hf 2 T.f2 rfl
  rw [T.o0.1, T.o0.2, T.ckey] at e0
  rw [T.o1.1, T.o1.2, T.cbys] at e1
  rw [T.o2.1, T.o2.2, T.cbool] at e2
  simp only [List.drop_succ_cons, List.drop_zero, List.take_succ_cons, List.take_zero, List.getElem?_cons_zero, List.getElem?_cons_succ] at e0 e1 e2
  obtain ⟨ys, k2, _, hx2, _, hlen2, hf2⟩ := DataW.trod_struct T.hkey e0
  obtain ⟨y0, y1, y2, y3, rfl⟩ : ∃ y0 y1 y2 y3, ys = [y0, y1, y2, y3] := by
    match ys, hlen2 with
    | [y0, y1, y2, y3], _ => exact ⟨_, _, _, _, rfl⟩
  have d0 := hf2 0 T.g0 rfl
  have d1 := hf2 1 T.g1 rfl
  have d2 := hf2 2 T.g2 rfl
  have d3 := hf2 3 T.g3 rfl
  rw [T.p0.1, T.p0.2, T.cstr] at d0
  rw [T.p1.1, T.p1.2, T.cstr] at d1
  rw [T.p2.1, T.p2.2, T.cstr] at d2
  rw [T.p3.1, T.p3.2, T.cu64] at d3
  simp only [List.drop_succ_cons, List.drop_zero, List.take_succ_cons, List.take_zero, List.getElem?_cons_zero, List.getElem?_cons_succ] at d0 d1 d2 d3
  obtain ⟨rw_, q1, r1, w1⟩ := DataW.trod_string T.hstr d0
  obtain rfl : c0 = .string rw_ := by simpa using q1
  obtain ⟨fm, q2, r2, w2⟩ := DataW.trod_string T.hstr d1
  obtain rfl : c1 = .string fm := by simpa using q2
  obtain ⟨ql, q3, r3, w3⟩ := DataW.trod_string T.hstr d2
  obtain rfl : c2 = .string ql := by simpa using q3
  obtain ⟨tm, q4, _, w4⟩ := DataW.trod_int T.hu64 d3
  obtain rfl : c3 = .int .u64 tm := by simpa using q4
  obtain ⟨va, q6, s6, sv⟩ := Sl.of_ints T.hbys T.hu8 T.cu8 T.bu8 e1
  obtain ⟨gn, q8, _⟩ := DataW.trod_bool T.hbool e2
  obtain rfl : c5 = .bool gn := by simpa using q8
  have gt : 0 ≤ tm ∧ tm < 18446744073709551616 := by
    simp [Lit.wf, IntKind.min, IntKind.max, IntKind.signed, IntKind.bits] at w4
    omega
  have ez : ((tm.toNat : Nat) : Int) = tm := Int.toNat_of_nonneg gt.1
  subst q6
  refine ⟨⟨rw_, fm, ql, tm.toNat, va, gn⟩, ?_, ⟨w1, w2, w3, by show tm.toNat < _; omega, s6⟩, fun hwt => ?_⟩
  · simp [CA.cells, ez]
  · rw [hx] at hwt
    have hk := hwt.field T.hcel 0 (u := T.key) (by simp [T.o0.1]) rfl
    rw [hx2] at hk
    have g0 := hk.field T.hkey 0 (u := T.str) (by simp [T.p0.1]) rfl
    have g1 := hk.field T.hkey 1 (u := T.str) (by simp [T.p1.1]) rfl
    have g2 := hk.field T.hkey 2 (u := T.str) (by simp [T.p2.1]) rfl
    rw [r1] at g0
    rw [r2] at g1
    rw [r3] at g2
    exact ⟨g0.text, g1.text, g2.text, sv (hwt.field T.hcel 1 (u := T.bys) (by simp [T.o1.1]) rfl)⟩
theorem open_cellsS (T : ResTypes P) {fuel : Nat} {v : Value} {x : DataW H × List MemPlace} (h : DataW.trod enc P w base spare held fuel T.cels [v] = some x) : ∃ ao n cap l, v = .slice ao n cap ∧ CL w ao n cap l ∧ (Wt P x.1 T.cels → ∀ c ∈ l, c.small) := by
  rcases Deep.open_slice T.hcels h with ⟨hcs, _⟩ | ⟨a, l, c, m, n, D, Pl, hcs, _, hl, hm, hmm, hy0, hx⟩
  · exact ⟨none, 0, 0, [], by simpa using hcs, CL.nothing w, fun _ _ h => by simp at h⟩
  · have hlm : l ≤ m := by rw [hmm]; split <;> omega
    obtain ⟨z, hz1, hz2⟩ := gather_list (p := fun i y => ((∀ j v, (CA.cells y)[j]? = some v → w.cell? (a.add (i * 6 + j)) = some v) ∧ CA.ok y w) ∧ (Wt P (D i) T.cel → CA.small y)) l (fun i hi => by
      obtain ⟨cs', h1, h2⟩ := hx i (by omega)
      rw [T.ccel] at h1
      obtain ⟨_, hlen, hcell⟩ := World.cells?_some h1
      obtain ⟨y, e1, w1, sm1⟩ := open_cellS T h2
      refine ⟨y, ⟨fun j v hv => ?_, w1⟩, sm1⟩
      rw [← e1] at hv
      have hj : j < cs'.length := (List.getElem?_eq_some_iff.1 hv).1
      have := hcell j (by omega)
      rw [Deep.add_add, hv] at this
      exact this)
    refine ⟨some a, l, c, z, by simpa using hcs, ⟨hz1, hl, hm, fun h => by simp at h, fun b hb i hi => ?_, fun y hy => ?_⟩, fun hwt y hy => ?_⟩
    · obtain rfl := Option.some.inj hb
      exact (hz2 i hi).1.1
    · obtain ⟨i, hi, rfl⟩ := List.getElem_of_mem hy
      exact (hz2 i hi).1.2
    · obtain ⟨i, hi, rfl⟩ := List.getElem_of_mem hy
      refine (hz2 i hi).2 fun n hn2 => hwt n ?_
      rw [hy0]
      simp only [DataW.weights, T.hcels]
      refine List.mem_cons_of_mem _ (List.mem_append_left _ (weights_mem_all (j := i) ?_ n hn2))
      rw [List.getElem?_map, List.getElem?_range (by omega)]
      rfl
theorem open_resS (T : ResTypes P) {fuel : Nat} {l : List Value} {x : DataW H × List MemPlace} (h : DataW.trod enc P w base spare held fuel T.res l = some x) :
    ∃ (e : Int) (ao : Option Addr) (n cap : Nat) (cs : List CA) (m : Bool), l = [.int .i64 e, .slice ao n cap, .bool m] ∧ CL w ao n cap cs ∧ (Wt P x.1 T.res → ∀ c ∈ cs, c.small) := by
  obtain ⟨xs, k, _, hx, hl, hlen, hfl⟩ := DataW.trod_struct T.hres h
  rw [T.cres] at hl
  obtain ⟨x0, x1, x2, rfl⟩ : ∃ x0 x1 x2, xs = [x0, x1, x2] := by
    match xs, hlen with
    | [x0, x1, x2], _ => exact ⟨_, _, _, rfl⟩
  have e0 := hfl 0 T.r0 rfl
  have e1 := hfl 1 T.r1 rfl
  have e2 := hfl 2 T.r2 rfl
  rw [T.q0.1, T.q0.2, T.cknd] at e0
  rw [T.q1.1, T.q1.2, T.ccels] at e1
  rw [T.q2.1, T.q2.2, T.cbool] at e2
  obtain ⟨a, b, c, rfl⟩ : ∃ a b c, l = [a, b, c] := by
    match l, hl with
    | [a, b, c], _ => exact ⟨_, _, _, rfl⟩
  simp only [List.drop_succ_cons, List.drop_zero, List.take_succ_cons, List.take_zero, List.getElem?_cons_zero, List.getElem?_cons_succ] at e0 e1 e2
  obtain ⟨z0, q0, _, w0⟩ := DataW.trod_int T.hknd e0
  obtain rfl : a = .int .i64 z0 := by simpa using q0
  obtain ⟨ao, n, cap, cl, rfl, hcl, sm⟩ := open_cellsS T e1
  obtain ⟨m, q2, _⟩ := DataW.trod_bool T.hbool e2
  obtain rfl : c = .bool m := by simpa using q2
  refine ⟨z0, ao, n, cap, cl, m, rfl, hcl, fun hwt => ?_⟩
  rw [hx] at hwt
  exact sm (hwt.field T.hres 1 (u := T.cels) (by simp [T.q1.1]) rfl)
structure LA where
  cl : Nat
  st : Nat
  e : Int
  ao : Option Addr
  n : Nat
  cap : Nat
  cs : List CA
  m : Bool
def LA.cells (y : LA) : List Value := [.int .u64 y.cl, .int .u64 y.st, .int .i64 y.e, .slice y.ao y.n y.cap, .bool y.m]
structure LA.ok (y : LA) (w : World) : Prop where
  cl : y.cl < 18446744073709551616
  st : y.st < 18446744073709551616
  cs : CL w y.ao y.n y.cap y.cs
def LA.small (y : LA) : Prop := ∀ c ∈ y.cs, c.small
theorem LA.ok.below {y : LA} {w w' : World} (h : y.ok w) (hb : Below w.heap.size w w') : y.ok w' := ⟨h.cl, h.st, h.cs.below hb⟩
structure LL12 (w : World) (ao : Option Addr) (n cap : Nat) (l : List LA) : Prop where
  len : l.length = n
  le : n ≤ cap
  mx : cap ≤ maxLen
  nil : ao = none → n = 0 ∧ cap = 0
  cell : ∀ a, ao = some a → ∀ i (h : i < l.length), ∀ j v, l[i].cells[j]? = some v → w.cell? (a.add (i * 5 + j)) = some v
  ok : ∀ y ∈ l, y.ok w
theorem LL12.nothing (w : World) : LL12 w none 0 0 [] := ⟨rfl, Nat.le_refl _, Nat.zero_le _, fun _ => ⟨rfl, rfl⟩, fun _ h => by simp at h, fun _ h => by simp at h⟩
theorem LL12.below {w w' : World} {ao : Option Addr} {n cap : Nat} {l : List LA} (h : LL12 w ao n cap l) (hb : Below w.heap.size w w') : LL12 w' ao n cap l :=
  ⟨h.len, h.le, h.mx, h.nil, fun a ha i hi j v hv => (hb.cell (World.block_lt_of_cell? w _ (h.cell a ha i hi j v hv))).trans (h.cell a ha i hi j v hv), fun y hy => (h.ok y hy).below hb⟩
structure LastTypes (P : Program) (T : ResTypes P) where
  last : TypeId
  lasts : TypeId
  f0 : Field
  f1 : Field
  f2 : Field
  hlast : P.underlying last = some (.struct #[f0, f1, f2])
  hlasts : P.underlying lasts = some (.slice last)
  clast : P.cellsOf last = 5
  o0 : f0.type = T.u64 ∧ f0.offset = 0
  o1 : f1.type = T.u64 ∧ f1.offset = 1
  o2 : f2.type = T.res ∧ f2.offset = 2
theorem open_last (T : ResTypes P) (M : LastTypes P T) {fuel : Nat} {l : List Value} {x : DataW H × List MemPlace} (h : DataW.trod enc P w base spare held fuel M.last l = some x) : ∃ y : LA, l = y.cells ∧ y.ok w ∧ (Wt P x.1 M.last → y.small) := by
  obtain ⟨xs, k, _, hx, hl, hlen, hfl⟩ := DataW.trod_struct M.hlast h
  rw [M.clast] at hl
  obtain ⟨x0, x1, x2, rfl⟩ : ∃ x0 x1 x2, xs = [x0, x1, x2] := by
    match xs, hlen with
    | [x0, x1, x2], _ => exact ⟨_, _, _, rfl⟩
  have e0 := hfl 0 M.f0 rfl
  have e1 := hfl 1 M.f1 rfl
  have e2 := hfl 2 M.f2 rfl
  rw [M.o0.1, M.o0.2, T.cu64] at e0
  rw [M.o1.1, M.o1.2, T.cu64] at e1
  rw [M.o2.1, M.o2.2, T.cres] at e2
  obtain ⟨a, b, c, d, e, rfl⟩ : ∃ a b c d e, l = [a, b, c, d, e] := by
    match l, hl with
    | [a, b, c, d, e], _ => exact ⟨_, _, _, _, _, rfl⟩
  simp only [List.drop_succ_cons, List.drop_zero, List.take_succ_cons, List.take_zero, List.getElem?_cons_zero, List.getElem?_cons_succ] at e0 e1 e2
  obtain ⟨z0, q0, _, w0⟩ := DataW.trod_int T.hu64 e0
  obtain ⟨z1, q1, _, w1⟩ := DataW.trod_int T.hu64 e1
  obtain rfl : a = .int .u64 z0 := by simpa using q0
  obtain rfl : b = .int .u64 z1 := by simpa using q1
  obtain ⟨k, ao, n, cap, cl, m, e3, L, sm⟩ := open_resS T e2
  simp only [List.cons.injEq, and_true] at e3
  obtain ⟨rfl, rfl, rfl⟩ := e3
  have g0 : 0 ≤ z0 ∧ z0 < 18446744073709551616 := by
    simp [Lit.wf, IntKind.min, IntKind.max, IntKind.signed, IntKind.bits] at w0
    omega
  have g1 : 0 ≤ z1 ∧ z1 < 18446744073709551616 := by
    simp [Lit.wf, IntKind.min, IntKind.max, IntKind.signed, IntKind.bits] at w1
    omega
  have n0 : ((z0.toNat : Nat) : Int) = z0 := Int.toNat_of_nonneg g0.1
  have n1 : ((z1.toNat : Nat) : Int) = z1 := Int.toNat_of_nonneg g1.1
  refine ⟨⟨z0.toNat, z1.toNat, k, ao, n, cap, cl, m⟩, ?_, ⟨by show z0.toNat < _; omega, by show z1.toNat < _; omega, L⟩, fun hwt => ?_⟩
  · simp [LA.cells, n0, n1]
  · rw [hx] at hwt
    exact sm (hwt.field M.hlast 2 (u := T.res) (by simp [M.o2.1]) rfl)
theorem open_lasts (T : ResTypes P) (M : LastTypes P T) {fuel : Nat} {v : Value} {x : DataW H × List MemPlace} (h : DataW.trod enc P w base spare held fuel M.lasts [v] = some x) : ∃ ao n cap l, v = .slice ao n cap ∧ LL12 w ao n cap l ∧ (Wt P x.1 M.lasts → ∀ y ∈ l, y.small) := by
  rcases Deep.open_slice M.hlasts h with ⟨hcs, _⟩ | ⟨a, l, c, m, n, D, Pl, hcs, _, hl, hm, hmm, hy0, hx⟩
  · exact ⟨none, 0, 0, [], by simpa using hcs, LL12.nothing w, fun _ _ h => by simp at h⟩
  · have hlm : l ≤ m := by rw [hmm]; split <;> omega
    obtain ⟨z, hz1, hz2⟩ := gather_list (p := fun i y => ((∀ j v, (LA.cells y)[j]? = some v → w.cell? (a.add (i * 5 + j)) = some v) ∧ LA.ok y w) ∧ (Wt P (D i) M.last → LA.small y)) l (fun i hi => by
      obtain ⟨cs', h1, h2⟩ := hx i (by omega)
      rw [M.clast] at h1
      obtain ⟨_, hlen, hcell⟩ := World.cells?_some h1
      obtain ⟨y, e1, w1, sm1⟩ := open_last T M h2
      refine ⟨y, ⟨fun j v hv => ?_, w1⟩, sm1⟩
      rw [← e1] at hv
      have hj : j < cs'.length := (List.getElem?_eq_some_iff.1 hv).1
      have := hcell j (by omega)
      rw [Deep.add_add, hv] at this
      exact this)
    refine ⟨some a, l, c, z, by simpa using hcs, ⟨hz1, hl, hm, fun h => by simp at h, fun b hb i hi => ?_, fun y hy => ?_⟩, fun hwt y hy => ?_⟩
    · obtain rfl := Option.some.inj hb
      exact (hz2 i hi).1.1
    · obtain ⟨i, hi, rfl⟩ := List.getElem_of_mem hy
      exact (hz2 i hi).1.2
    · obtain ⟨i, hi, rfl⟩ := List.getElem_of_mem hy
      refine (hz2 i hi).2 fun n hn2 => hwt n ?_
      rw [hy0]
      simp only [DataW.weights, M.hlasts]
      refine List.mem_cons_of_mem _ (List.mem_append_left _ (weights_mem_all (j := i) ?_ n hn2))
      rw [List.getElem?_map, List.getElem?_range (by omega)]
      rfl
end Go.Proofs.YtoagkffokfbpfaaDoor

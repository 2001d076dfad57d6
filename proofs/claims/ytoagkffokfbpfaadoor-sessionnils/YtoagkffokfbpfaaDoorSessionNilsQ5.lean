/-
  Texts in one: PRdR, SeAsk, SeNew, SeAlive.
-/
import Derived.Test.YtoagkffokfbpfaaDoorSessionNilsQFL
import Derived.Test.YtoagkffokfbpfaaDoorSessionNilsQ4
import Derived.Test.YtoagkffokfbpfaaDoorSessionNilsQ1
import Derived.Test.YtoagkffokfbpfaaDoorSessionNilsQ0
import Derived.Test.YtoagkffokfbpfaaDoorSessionNilsQ3
namespace Go.Proofs.YtoagkffokfbpfaaDoor
open Go.RowKit
theorem resTh_eq {xs : List Int} {r1 r2 : Nat × List Int × Int} {c : List CV × List Int × Int} {b : Bool × List Int × Int} (h1 : r1 = intS xs 0 100) (h2 : r2 = intS r1.2.1 r1.2.2 16) (h3 : c = repT cT r2.1 r2.2.1 r2.2.2) (h4 : b = boolS c.2.1 c.2.2) : resTh xs 0 = (⟨(r1.1 : Int), c.1, b.1⟩, b.2) := by
  have e1 : ((100 : Nat) : Int) = 100 := rfl
  have e2 : ((16 : Nat) : Int) = 16 := rfl
  subst h4 h3 h2 h1
  unfold resTh mapT
  simp only [andT, andD, intT', toR, e1, e2]
theorem sblk_own {ao : Option Addr} {n cap x : Nat} (h : sblk ao n x) : (Value.slice ao n cap).ownBlock = some x := by
  obtain ⟨a, rfl, _, rfl⟩ := h
  rfl
structure RdrPost (w : World) (t : Sum Int RV) (e : Ending) (w' : World) : Prop where
  bad : ∀ k, t = .inl k → e = .returned (.tuple #[resV 0 none 0 0 false, .int .i64 k])
  good : ∀ q : RV, t = .inr q → ∃ (c : Int) (ao : Option Addr) (n cap : Nat) (l : List CA) (m : Bool), e = .returned (.tuple #[resV c ao n cap m, .int .i64 0]) ∧ CL w' ao n cap l ∧ q = resR c l m
  bel : Below w.heap.size w w'
set_option maxRecDepth 100000 in
set_option maxHeartbeats 16000000 in
theorem prdr_any (w : World) (ao : Option Addr) (n cap : Nat) (xs : List Int) (h : Sl w ao n cap xs) (hn : n ≤ 100000) :
    Calls Tryd.prog 58 #[.slice ao n cap] w (RdrPost w (rdR xs)) := by
  have HRD : Hid (rdR xs = rdT resTh kindR xs) := rd_thr thr_r kindR xs
  have K0 : RW (w.alloc (.cells #[.int .i64 0, .slice none 0 0, .bool false] 37)) w.heap.size 0 (.slice none 0 0) false := heap_alloc_new w _
  have B0 : Below w.heap.size w (w.alloc (.cells #[.int .i64 0, .slice none 0 0, .bool false] 37)) := (Below.refl _ w).alloc (Nat.le_refl _) _
  have h0 := h.below B0
  clear h
  go_enter Tryd.func58, Tryd.ntmps58
  go_wp2_with fail
  obtain ⟨w0, hw0⟩ : ∃ W, W = w.alloc (.cells #[.int .i64 0, .slice none 0 0, .bool false] 37) := ⟨_, rfl⟩
  obtain ⟨N, hN⟩ : ∃ N, N = w.heap.size := ⟨_, rfl⟩
  rw [← hw0] at K0 B0 h0 ⊢
  rw [← hN] at K0 B0 ⊢
  have HN : Hid (N = w.heap.size) := hN
  clear hw0 hN
  refine (read_any w0 ao n cap xs h0 (by omega)).mono ?_
  rintro e w1 ⟨p, rfl, hp, R1, C1⟩
  have K1 := K0.kept (C1.block N K0.lt)
  have lN := K0.lt
  have B1 := B0.trans (C1.mono (by omega))
  have hNp : N < p := by omega
  clear K0 B0 C1 h0 hp lN
  go_wp2_with fail
  refine (int_any w1 p p xs 0 100 (by decide) R1.byte R1).mono ?_
  rintro e w2 ⟨rfl, R2, G2⟩
  obtain ⟨r1, e1⟩ : ∃ r, r = intS xs 0 100 := ⟨_, rfl⟩
  have ER1 : Hid (r1 = intS xs 0 100) := e1
  rw [← e1] at R2 ⊢
  have K2 := K1.kept (G2.block N K1.lt (by simp; omega))
  have B2 := B1.trans (below_grown G2 (by have := B1.size; have := HN.out; omega) (by omega))
  clear e1 K1 R1 B1 G2
  obtain ⟨M, hM⟩ : ∃ M, M = w2.heap.size := ⟨_, rfl⟩
  obtain ⟨w3, hw3⟩ : ∃ W, W = w2.alloc (.cells #[.int .i64 r1.1, .slice none 0 0, .bool false] 37) := ⟨_, rfl⟩
  have C3 : Below w2.heap.size w2 w3 := by rw [hw3]; exact (Below.refl _ _).alloc (Nat.le_refl _) _
  have X3 : RW w3 M r1.1 (.slice none 0 0) false := by rw [hw3, hM]; exact heap_alloc_new w2 _
  have hpM : p < M := by rw [hM]; exact R2.plt.1
  have R3 := R2.below C3
  have K3 := K2.kept (C3.block N K2.lt)
  have B3 := B2.trans (C3.mono (by have := B2.size; have := HN.out; omega))
  go_wp2_with fail
  rw [← hw3, ← hM]
  clear hw3 hM C3 K2 R2 B2
  refine (int_any w3 p p r1.2.1 r1.2.2 16 (by decide) R3.byte R3).mono ?_
  rintro e w4 ⟨rfl, R4, G4⟩
  obtain ⟨r2, e2⟩ : ∃ r, r = intS r1.2.1 r1.2.2 16 := ⟨_, rfl⟩
  have ER2 : Hid (r2 = intS r1.2.1 r1.2.2 16) := e2
  have Z2 : r2.1 ≤ 16 := by rw [e2]; exact intS_le _ _ 16
  rw [← e2] at R4 ⊢
  have inv4 : ResInv w p p N M r2.1 r1.1 r2.2.1 r2.2.2 w4 (.slice none 0 0) [] := ⟨R4, X3.kept (G4.block M X3.lt (by simp; omega)), K3.kept (G4.block N K3.lt (by simp; omega)), ⟨rfl, .inl ⟨rfl, rfl⟩⟩, fun _ h => by simp at h, fun x h => by obtain ⟨y, hy, _⟩ := h; simp at hy, rfl, B3.trans (below_grown G4 (by have := B3.size; have := HN.out; omega) (by omega)), Nat.zero_le _, ⟨Nat.le_refl _, hpM, hNp⟩⟩
  clear e2 R4 X3 K3 B3 G4 R3
  go_wp2_with fail
  go_loopw [14] (fun i wr => ∃ (v : Value) (l : List CA), i = .int .i64 (l.length : Nat) ∧ ResInv w p p N M r2.1 r1.1 r2.2.1 r2.2.2 wr v l) (fun i _ => r2.1 - (intOf i).toNat)
  case atStart => exact ⟨_, [], rfl, inv4⟩
  case round =>
    clear inv4
    obtain ⟨v, l, rfl, inv⟩ := hrel
    obtain ⟨ao1, cap1, rfl, CL1⟩ := CL.own inv.own inv.oks
    by_cases hlt : l.length < r2.1
    · have i6 : (l.length : Int) < (r2.1 : Int) := by omega
      clear CL1
      obtain ⟨i0, hi, hz0, hz1, hz2⟩ := info_parts cellInfo
      go_wp2_with fail
      have inv0 := inv.drew
      obtain ⟨T, hT⟩ : ∃ T, T = repT cT l.length r2.2.1 r2.2.2 := ⟨_, rfl⟩
      refine wp_region_noPanic ?_
      refine wp_region_held_drew (S := fun _ => True) (by kernel_rfl) trivial (fun _ => ?_)
      obtain ⟨v0, hv0⟩ : ∃ v, v = wr.drew := ⟨_, rfl⟩
      rw [← hv0] at inv0 ⊢
      have HI : Hid (ResInv w p p N M r2.1 r1.1 r2.2.1 r2.2.2 v0 (.slice ao1 l.length cap1) l) := inv0
      have R0 : R v0 p p T.2.1 T.2.2 := by rw [hT]; exact inv0.rd
      have m0 : RW v0 M r1.1 (.slice ao1 l.length cap1) false := inv0.ov
      have HT : Hid (T = repT cT l.length r2.2.1 r2.2.2) := hT
      clear hv0 inv inv0 hT
      refine hr_take 0 (some 16) (.pointer (some ⟨M, 1, none⟩)) rfl rfl (by kernel_rfl) (by kernel_rfl) (by kernel_rfl) rfl (fun W hW => by go_simp) trivial ?_
      simp only [FL]
      refine hr_take 2 (some 18) (.pointer (some ⟨p, 0, none⟩)) rfl rfl (by kernel_rfl) (by kernel_rfl) (by kernel_rfl) rfl (fun W hW => by go_simp) trivial ?_
      simp only [FL]
      refine hr_take 4 (some 20) (.pointer (some ⟨p, 0, none⟩)) rfl rfl (by kernel_rfl) (by kernel_rfl) (by kernel_rfl) rfl (fun W hW => by go_simp) trivial ?_
      simp only [FL]
      refine hr_take 6 (some 22) (.pointer (some ⟨p, 0, none⟩)) rfl rfl (by kernel_rfl) (by kernel_rfl) (by kernel_rfl) rfl (fun W hW => by go_simp) trivial ?_
      simp only [FL]
      refine hr_two (i := 1) (j := 3) (by kernel_rfl) ?_ ?_
      · have c1 : v0.cell? ⟨M, 1, none⟩ = some (.slice ao1 l.length cap1) := m0.c1
        refine op_do 1 (some 17) (.slice ao1 l.length cap1) rfl rfl rfl (w' := v0) (by go_simp) trivial ?_
        simp only [FL]
        clear c1
        refine hr_call 3 (some 19) 74 #[.pointer (some ⟨p, 0, none⟩)] rfl rfl (by kernel_rfl) rfl (by go_simp) (fun v w' => v = (keyOf (keyT T.2.1 T.2.2).1).val ∧ Left v0 p p (keyT T.2.1 T.2.2).2 w') ((tkey_any v0 p p T.2.1 T.2.2 R0).mono (fun e w' h => ⟨_, h.1, rfl, h.2⟩)) ?_
        rintro vv U1 ⟨rfl, R1, G1⟩
        refine ⟨trivial, ?_⟩
        have Zk := keyT_ok R0.byte (k := T.2.2)
        obtain ⟨k1, hk1⟩ : ∃ r, r = keyT T.2.1 T.2.2 := ⟨_, rfl⟩
        have HK1 : Hid (k1 = keyT T.2.1 T.2.2) := hk1
        rw [← hk1] at R1 Zk ⊢
        have m1 := m0.kept (G1.block M m0.lt (by simp; omega))
        unfold KA.val keyOf
        simp only [FL]
        clear hk1
        refine hr_call 5 (some 21) 46 #[.pointer (some ⟨p, 0, none⟩), .int .i64 256] rfl rfl (by kernel_rfl) rfl (by go_simp) (fun v w' => ∃ bo bn bc, v = .slice bo bn bc ∧ Sl w' bo bn bc (bytesS k1.2.1 k1.2.2 256).1 ∧ (∀ a, bo = some a → U1.heap.size ≤ a.block) ∧ R w' p p (bytesS k1.2.1 k1.2.2 256).2.1 (bytesS k1.2.1 k1.2.2 256).2.2 ∧ U1.grownBy w' (some p)) ((bytes_any U1 p p k1.2.1 k1.2.2 256 (by decide) R1).mono (fun e w' h => by obtain ⟨bo, bn, bc, h1, h2⟩ := h; exact ⟨_, h1, bo, bn, bc, rfl, h2⟩)) ?_
        rintro vv U2 ⟨bo, bn, bc, rfl, S2, F2, R2, G2⟩
        refine ⟨trivial, ?_⟩
        obtain ⟨k2, hk2⟩ : ∃ r, r = bytesS k1.2.1 k1.2.2 256 := ⟨_, rfl⟩
        have HK2 : Hid (k2 = bytesS k1.2.1 k1.2.2 256) := hk2
        rw [← hk2] at S2 R2
        have m2 := m1.kept (G2.block M m1.lt (by simp; omega))
        simp only [FL]
        clear hk2
        refine hr_call 7 (some 23) 75 #[.pointer (some ⟨p, 0, none⟩)] rfl rfl (by kernel_rfl) rfl (by go_simp) (fun v w' => v = .bool (boolS k2.2.1 k2.2.2).1 ∧ R w' p p (boolS k2.2.1 k2.2.2).2.1 (boolS k2.2.1 k2.2.2).2.2 ∧ U2.grownBy w' (some p)) ((bool_any U2 p p k2.2.1 k2.2.2 R2).mono (fun e w' h => ⟨_, h.1, rfl, h.2⟩)) ?_
        rintro vv U3 ⟨rfl, R3, G3⟩
        refine ⟨trivial, ?_⟩
        obtain ⟨k3, hk3⟩ : ∃ r, r = boolS k2.2.1 k2.2.2 := ⟨_, rfl⟩
        have HK3 : Hid (k3 = boolS k2.2.1 k2.2.2) := hk3
        rw [← hk3] at R3 ⊢
        have m3 := m2.kept (G3.block M m2.lt (by simp; omega))
        simp only [FL]
        clear hk3
        refine hr_take 8 (some 24) (.agg #[.string k1.1.1, .string k1.1.2.1, .string k1.1.2.2.1, .int .u64 k1.1.2.2.2, .slice bo bn bc, .bool k3.1]) rfl rfl (by kernel_rfl) (by kernel_rfl) (by kernel_rfl) rfl (fun W hW => by go_simp) trivial ?_
        simp only [FL]
        obtain ⟨g, hg⟩ : ∃ g, g = U3.heap.size := ⟨_, rfl⟩
        obtain ⟨U4, hU4⟩ : ∃ W, W = U3.alloc (.cells #[.string k1.1.1, .string k1.1.2.1, .string k1.1.2.2.1, .int .u64 k1.1.2.2.2, .slice bo bn bc, .bool k3.1] 76) := ⟨_, rfl⟩
        have N4 : U4.heap[g]? = some (.cells #[.string k1.1.1, .string k1.1.2.1, .string k1.1.2.2.1, .int .u64 k1.1.2.2.2, .slice bo bn bc, .bool k3.1] 76) := by rw [hU4, hg]; exact heap_alloc_new U3 _
        have B4 : Below U3.heap.size U3 U4 := by rw [hU4]; exact (Below.refl _ _).alloc (Nat.le_refl _) _
        refine hr_do 9 (some 25) (.slice (some ⟨g, 0, none⟩) 1 1) rfl rfl (by kernel_rfl) rfl (w' := U4) (by rw [hU4, hg]; go_simp) trivial ?_
        simp only [FL]
        have HU4 : Hid (U4 = U3.alloc (.cells #[.string k1.1.1, .string k1.1.2.1, .string k1.1.2.2.1, .int .u64 k1.1.2.2.2, .slice bo bn bc, .bool k3.1] 76)) := hU4
        clear hU4 hg
        have y5 : v0.grownBy U3 (some p) := grown_trans (grown_trans G1 G2) G3
        have S3 : Sl U3 bo bn bc k2.1 := Sl.kept (b := ⟨bo, bn, bc, k2.1⟩) S2 (fun x hx => by
          obtain ⟨a, ha, hn, rfl⟩ := hx
          exact G3.block _ (S2.lt a ha hn) (by have := F2 a ha; have := m1.lt; simp; omega))
        have y1 : (⟨k1.1.1, k1.1.2.1, k1.1.2.2.1, k1.1.2.2.2, ⟨bo, bn, bc, k2.1⟩, k3.1⟩ : CA).ok U3 := ⟨by show k1.1.1.size ≤ maxLen; unfold maxLen; omega, by show k1.1.2.1.size ≤ maxLen; unfold maxLen; omega, by show k1.1.2.2.1.size ≤ maxLen; unfold maxLen; omega, Zk.2.2.2, S3⟩
        have y2 : ∀ x, (⟨k1.1.1, k1.1.2.1, k1.1.2.2.1, k1.1.2.2.2, ⟨bo, bn, bc, k2.1⟩, k3.1⟩ : CA).va.blk x → v0.heap.size ≤ x := fun x hx => by
          obtain ⟨a, ha, hn, rfl⟩ := hx
          have := F2 a ha
          have := G1.size
          omega
        have y3 : (⟨k1.1.1, k1.1.2.1, k1.1.2.2.1, k1.1.2.2.2, ⟨bo, bn, bc, k2.1⟩, k3.1⟩ : CA).c = (cT T.2.1 T.2.2).1 := by
          rw [cT_key, ← HK1.out, ← HK2.out, ← HK3.out]
          rfl
        have y4 : R U3 p p (cT T.2.1 T.2.2).2.1 (cT T.2.1 T.2.2).2.2 := by
          rw [cT_key, ← HK1.out, ← HK2.out, ← HK3.out]
          exact R3
        rw [HT.out] at y3 y4
        have ownU3 : U3.ownsRow (M + 1) 76 6 (.slice ao1 l.length cap1) l.length (cellsC l) := own_kept HI.out.own fun x hx => y5.block x (HI.out.ownlt hx).2 (by have := HI.out.ownlt hx; simp; omega)
        have ownU4 : U4.ownsRow (M + 1) 76 6 (.slice ao1 l.length cap1) l.length (cellsC l) := own_kept ownU3 fun x hx => B4.block x (by have := HI.out.ownlt hx; have := y5.size; omega)
        refine hr_own 10 (some 26) rfl rfl (by kernel_rfl) rfl (.tmp 17) (.tmp 25) 35 rfl (M + 1) 76 i0 _ 6 88 Tryd.underlying35 hi hz0 hz1 hz2 rfl (by decide) (.slice ao1 l.length cap1) l.length (cellsC l) rfl ownU4 ⟨g, 0, none⟩ 1 1 (⟨k1.1.1, k1.1.2.1, k1.1.2.2.1, k1.1.2.2.2, ⟨bo, bn, bc, k2.1⟩, k3.1⟩ : CA).cells rfl rfl (fun j u hu => by rw [Addr.add_lit, Nat.zero_add]; exact (cell_of_row U4 g j #[.string k1.1.1, .string k1.1.2.1, .string k1.1.2.2.1, .int .u64 k1.1.2.2.2, .slice bo bn bc, .bool k3.1] _ (0, 0) N4).trans (show ((⟨k1.1.1, k1.1.2.1, k1.1.2.2.1, k1.1.2.2.2, ⟨bo, bn, bc, k2.1⟩, k3.1⟩ : CA).cells.toArray)[j]? = some u from by rw [List.getElem?_toArray]; exact hu)) (c_one (⟨k1.1.1, k1.1.2.1, k1.1.2.2.1, k1.1.2.2.2, ⟨bo, bn, bc, k2.1⟩, k3.1⟩ : CA)) (by unfold maxLen; omega) (by omega) (by have := m3.lt; have := B4.size; omega) ?_
        intro v' U5 O5 G5 H5
        refine ⟨trivial, ?_⟩
        simp only [FL]
        rw [HU4.out] at G5 H5
        have ST := HI.out.step (by omega) y1 y2 y3 y4 y5 O5 G5 H5
        have n5 : RW U5 M r1.1 (.slice ao1 l.length cap1) false := m3.kept ((G5.block M (by have := m3.lt; simp; omega) (fun e => by have := HI.out.ownlt e.symm; omega)).trans (heap_alloc_old U3 _ m3.lt))
        have d1 := n5.c1
        have z1 := n5.fz 1
        refine hr_take 11 (some 27) (.pointer (some ⟨M, 1, none⟩)) rfl rfl (by kernel_rfl) (by kernel_rfl) (by kernel_rfl) rfl (fun W hW => by go_simp) trivial ?_
        simp only [FL]
        have mm := CL.own ST.own ST.oks
        rw [List.length_append, List.length_singleton] at mm
        obtain ⟨ao3, cap3, rfl, _⟩ := mm
        refine hr_skip 12 none rfl rfl (by kernel_rfl) rfl (w' := U5.setCell ⟨M, 1, none⟩ (.slice ao3 (l.length + 1) cap3)) (by go_simp) trivial ?_
        simp only [Act.put]
        refine wpAnyH_done (by kernel_rfl) ?_ _
        refine NoPanic.normal ?_
        have HST : Hid _ := ST
        clear ST ownU3 ownU4 O5 G5 H5 d1 z1 n5 HU4 N4 B4 y1 y2 y3 y4 y5 S3 S2 R1 R2 R3 G1 G2 G3 m0 m1 m2 m3
        go_wp2
        go_roundw
        case rel => exact ⟨_, l ++ [_], by rw [List.length_append, List.length_singleton]; go_num, HST.out⟩
        case measure => simp [intOf]; omega
      · refine op_call 3 (some 19) 74 #[.pointer (some ⟨p, 0, none⟩)] rfl rfl rfl (by go_simp) (fun v w' => v = (keyOf (keyT T.2.1 T.2.2).1).val ∧ Left v0 p p (keyT T.2.1 T.2.2).2 w') ((tkey_any v0 p p T.2.1 T.2.2 R0).mono (fun e w' h => ⟨_, h.1, rfl, h.2⟩)) ?_
        rintro vv U1 ⟨rfl, R1, G1⟩
        refine ⟨trivial, ?_⟩
        have Zk := keyT_ok R0.byte (k := T.2.2)
        obtain ⟨k1, hk1⟩ : ∃ r, r = keyT T.2.1 T.2.2 := ⟨_, rfl⟩
        have HK1 : Hid (k1 = keyT T.2.1 T.2.2) := hk1
        rw [← hk1] at R1 Zk ⊢
        have m1 := m0.kept (G1.block M m0.lt (by simp; omega))
        unfold KA.val keyOf
        simp only [FL]
        clear hk1
        refine hr_two (i := 1) (j := 5) (by kernel_rfl) ?_ ?_
        · have c1 : U1.cell? ⟨M, 1, none⟩ = some (.slice ao1 l.length cap1) := m1.c1
          refine op_do 1 (some 17) (.slice ao1 l.length cap1) rfl rfl rfl (w' := U1) (by go_simp) trivial ?_
          simp only [FL]
          clear c1
          refine hr_call 5 (some 21) 46 #[.pointer (some ⟨p, 0, none⟩), .int .i64 256] rfl rfl (by kernel_rfl) rfl (by go_simp) (fun v w' => ∃ bo bn bc, v = .slice bo bn bc ∧ Sl w' bo bn bc (bytesS k1.2.1 k1.2.2 256).1 ∧ (∀ a, bo = some a → U1.heap.size ≤ a.block) ∧ R w' p p (bytesS k1.2.1 k1.2.2 256).2.1 (bytesS k1.2.1 k1.2.2 256).2.2 ∧ U1.grownBy w' (some p)) ((bytes_any U1 p p k1.2.1 k1.2.2 256 (by decide) R1).mono (fun e w' h => by obtain ⟨bo, bn, bc, h1, h2⟩ := h; exact ⟨_, h1, bo, bn, bc, rfl, h2⟩)) ?_
          rintro vv U2 ⟨bo, bn, bc, rfl, S2, F2, R2, G2⟩
          refine ⟨trivial, ?_⟩
          obtain ⟨k2, hk2⟩ : ∃ r, r = bytesS k1.2.1 k1.2.2 256 := ⟨_, rfl⟩
          have HK2 : Hid (k2 = bytesS k1.2.1 k1.2.2 256) := hk2
          rw [← hk2] at S2 R2
          have m2 := m1.kept (G2.block M m1.lt (by simp; omega))
          simp only [FL]
          clear hk2
          refine hr_call 7 (some 23) 75 #[.pointer (some ⟨p, 0, none⟩)] rfl rfl (by kernel_rfl) rfl (by go_simp) (fun v w' => v = .bool (boolS k2.2.1 k2.2.2).1 ∧ R w' p p (boolS k2.2.1 k2.2.2).2.1 (boolS k2.2.1 k2.2.2).2.2 ∧ U2.grownBy w' (some p)) ((bool_any U2 p p k2.2.1 k2.2.2 R2).mono (fun e w' h => ⟨_, h.1, rfl, h.2⟩)) ?_
          rintro vv U3 ⟨rfl, R3, G3⟩
          refine ⟨trivial, ?_⟩
          obtain ⟨k3, hk3⟩ : ∃ r, r = boolS k2.2.1 k2.2.2 := ⟨_, rfl⟩
          have HK3 : Hid (k3 = boolS k2.2.1 k2.2.2) := hk3
          rw [← hk3] at R3 ⊢
          have m3 := m2.kept (G3.block M m2.lt (by simp; omega))
          simp only [FL]
          clear hk3
          refine hr_take 8 (some 24) (.agg #[.string k1.1.1, .string k1.1.2.1, .string k1.1.2.2.1, .int .u64 k1.1.2.2.2, .slice bo bn bc, .bool k3.1]) rfl rfl (by kernel_rfl) (by kernel_rfl) (by kernel_rfl) rfl (fun W hW => by go_simp) trivial ?_
          simp only [FL]
          obtain ⟨g, hg⟩ : ∃ g, g = U3.heap.size := ⟨_, rfl⟩
          obtain ⟨U4, hU4⟩ : ∃ W, W = U3.alloc (.cells #[.string k1.1.1, .string k1.1.2.1, .string k1.1.2.2.1, .int .u64 k1.1.2.2.2, .slice bo bn bc, .bool k3.1] 76) := ⟨_, rfl⟩
          have N4 : U4.heap[g]? = some (.cells #[.string k1.1.1, .string k1.1.2.1, .string k1.1.2.2.1, .int .u64 k1.1.2.2.2, .slice bo bn bc, .bool k3.1] 76) := by rw [hU4, hg]; exact heap_alloc_new U3 _
          have B4 : Below U3.heap.size U3 U4 := by rw [hU4]; exact (Below.refl _ _).alloc (Nat.le_refl _) _
          refine hr_do 9 (some 25) (.slice (some ⟨g, 0, none⟩) 1 1) rfl rfl (by kernel_rfl) rfl (w' := U4) (by rw [hU4, hg]; go_simp) trivial ?_
          simp only [FL]
          have HU4 : Hid (U4 = U3.alloc (.cells #[.string k1.1.1, .string k1.1.2.1, .string k1.1.2.2.1, .int .u64 k1.1.2.2.2, .slice bo bn bc, .bool k3.1] 76)) := hU4
          clear hU4 hg
          have y5 : v0.grownBy U3 (some p) := grown_trans (grown_trans G1 G2) G3
          have S3 : Sl U3 bo bn bc k2.1 := Sl.kept (b := ⟨bo, bn, bc, k2.1⟩) S2 (fun x hx => by
            obtain ⟨a, ha, hn, rfl⟩ := hx
            exact G3.block _ (S2.lt a ha hn) (by have := F2 a ha; have := m1.lt; simp; omega))
          have y1 : (⟨k1.1.1, k1.1.2.1, k1.1.2.2.1, k1.1.2.2.2, ⟨bo, bn, bc, k2.1⟩, k3.1⟩ : CA).ok U3 := ⟨by show k1.1.1.size ≤ maxLen; unfold maxLen; omega, by show k1.1.2.1.size ≤ maxLen; unfold maxLen; omega, by show k1.1.2.2.1.size ≤ maxLen; unfold maxLen; omega, Zk.2.2.2, S3⟩
          have y2 : ∀ x, (⟨k1.1.1, k1.1.2.1, k1.1.2.2.1, k1.1.2.2.2, ⟨bo, bn, bc, k2.1⟩, k3.1⟩ : CA).va.blk x → v0.heap.size ≤ x := fun x hx => by
            obtain ⟨a, ha, hn, rfl⟩ := hx
            have := F2 a ha
            have := G1.size
            omega
          have y3 : (⟨k1.1.1, k1.1.2.1, k1.1.2.2.1, k1.1.2.2.2, ⟨bo, bn, bc, k2.1⟩, k3.1⟩ : CA).c = (cT T.2.1 T.2.2).1 := by
            rw [cT_key, ← HK1.out, ← HK2.out, ← HK3.out]
            rfl
          have y4 : R U3 p p (cT T.2.1 T.2.2).2.1 (cT T.2.1 T.2.2).2.2 := by
            rw [cT_key, ← HK1.out, ← HK2.out, ← HK3.out]
            exact R3
          rw [HT.out] at y3 y4
          have ownU3 : U3.ownsRow (M + 1) 76 6 (.slice ao1 l.length cap1) l.length (cellsC l) := own_kept HI.out.own fun x hx => y5.block x (HI.out.ownlt hx).2 (by have := HI.out.ownlt hx; simp; omega)
          have ownU4 : U4.ownsRow (M + 1) 76 6 (.slice ao1 l.length cap1) l.length (cellsC l) := own_kept ownU3 fun x hx => B4.block x (by have := HI.out.ownlt hx; have := y5.size; omega)
          refine hr_own 10 (some 26) rfl rfl (by kernel_rfl) rfl (.tmp 17) (.tmp 25) 35 rfl (M + 1) 76 i0 _ 6 88 Tryd.underlying35 hi hz0 hz1 hz2 rfl (by decide) (.slice ao1 l.length cap1) l.length (cellsC l) rfl ownU4 ⟨g, 0, none⟩ 1 1 (⟨k1.1.1, k1.1.2.1, k1.1.2.2.1, k1.1.2.2.2, ⟨bo, bn, bc, k2.1⟩, k3.1⟩ : CA).cells rfl rfl (fun j u hu => by rw [Addr.add_lit, Nat.zero_add]; exact (cell_of_row U4 g j #[.string k1.1.1, .string k1.1.2.1, .string k1.1.2.2.1, .int .u64 k1.1.2.2.2, .slice bo bn bc, .bool k3.1] _ (0, 0) N4).trans (show ((⟨k1.1.1, k1.1.2.1, k1.1.2.2.1, k1.1.2.2.2, ⟨bo, bn, bc, k2.1⟩, k3.1⟩ : CA).cells.toArray)[j]? = some u from by rw [List.getElem?_toArray]; exact hu)) (c_one (⟨k1.1.1, k1.1.2.1, k1.1.2.2.1, k1.1.2.2.2, ⟨bo, bn, bc, k2.1⟩, k3.1⟩ : CA)) (by unfold maxLen; omega) (by omega) (by have := m3.lt; have := B4.size; omega) ?_
          intro v' U5 O5 G5 H5
          refine ⟨trivial, ?_⟩
          simp only [FL]
          rw [HU4.out] at G5 H5
          have ST := HI.out.step (by omega) y1 y2 y3 y4 y5 O5 G5 H5
          have n5 : RW U5 M r1.1 (.slice ao1 l.length cap1) false := m3.kept ((G5.block M (by have := m3.lt; simp; omega) (fun e => by have := HI.out.ownlt e.symm; omega)).trans (heap_alloc_old U3 _ m3.lt))
          have d1 := n5.c1
          have z1 := n5.fz 1
          refine hr_take 11 (some 27) (.pointer (some ⟨M, 1, none⟩)) rfl rfl (by kernel_rfl) (by kernel_rfl) (by kernel_rfl) rfl (fun W hW => by go_simp) trivial ?_
          simp only [FL]
          have mm := CL.own ST.own ST.oks
          rw [List.length_append, List.length_singleton] at mm
          obtain ⟨ao3, cap3, rfl, _⟩ := mm
          refine hr_skip 12 none rfl rfl (by kernel_rfl) rfl (w' := U5.setCell ⟨M, 1, none⟩ (.slice ao3 (l.length + 1) cap3)) (by go_simp) trivial ?_
          simp only [Act.put]
          refine wpAnyH_done (by kernel_rfl) ?_ _
          refine NoPanic.normal ?_
          have HST : Hid _ := ST
          clear ST ownU3 ownU4 O5 G5 H5 d1 z1 n5 HU4 N4 B4 y1 y2 y3 y4 y5 S3 S2 R1 R2 R3 G1 G2 G3 m0 m1 m2 m3
          go_wp2
          go_roundw
          case rel => exact ⟨_, l ++ [_], by rw [List.length_append, List.length_singleton]; go_num, HST.out⟩
          case measure => simp [intOf]; omega
        · refine op_call 5 (some 21) 46 #[.pointer (some ⟨p, 0, none⟩), .int .i64 256] rfl rfl rfl (by go_simp) (fun v w' => ∃ bo bn bc, v = .slice bo bn bc ∧ Sl w' bo bn bc (bytesS k1.2.1 k1.2.2 256).1 ∧ (∀ a, bo = some a → U1.heap.size ≤ a.block) ∧ R w' p p (bytesS k1.2.1 k1.2.2 256).2.1 (bytesS k1.2.1 k1.2.2 256).2.2 ∧ U1.grownBy w' (some p)) ((bytes_any U1 p p k1.2.1 k1.2.2 256 (by decide) R1).mono (fun e w' h => by obtain ⟨bo, bn, bc, h1, h2⟩ := h; exact ⟨_, h1, bo, bn, bc, rfl, h2⟩)) ?_
          rintro vv U2 ⟨bo, bn, bc, rfl, S2, F2, R2, G2⟩
          refine ⟨trivial, ?_⟩
          obtain ⟨k2, hk2⟩ : ∃ r, r = bytesS k1.2.1 k1.2.2 256 := ⟨_, rfl⟩
          have HK2 : Hid (k2 = bytesS k1.2.1 k1.2.2 256) := hk2
          rw [← hk2] at S2 R2
          have m2 := m1.kept (G2.block M m1.lt (by simp; omega))
          simp only [FL]
          clear hk2
          refine hr_two (i := 1) (j := 7) (by kernel_rfl) ?_ ?_
          · have c1 : U2.cell? ⟨M, 1, none⟩ = some (.slice ao1 l.length cap1) := m2.c1
            refine op_do 1 (some 17) (.slice ao1 l.length cap1) rfl rfl rfl (w' := U2) (by go_simp) trivial ?_
            simp only [FL]
            clear c1
            refine hr_call 7 (some 23) 75 #[.pointer (some ⟨p, 0, none⟩)] rfl rfl (by kernel_rfl) rfl (by go_simp) (fun v w' => v = .bool (boolS k2.2.1 k2.2.2).1 ∧ R w' p p (boolS k2.2.1 k2.2.2).2.1 (boolS k2.2.1 k2.2.2).2.2 ∧ U2.grownBy w' (some p)) ((bool_any U2 p p k2.2.1 k2.2.2 R2).mono (fun e w' h => ⟨_, h.1, rfl, h.2⟩)) ?_
            rintro vv U3 ⟨rfl, R3, G3⟩
            refine ⟨trivial, ?_⟩
            obtain ⟨k3, hk3⟩ : ∃ r, r = boolS k2.2.1 k2.2.2 := ⟨_, rfl⟩
            have HK3 : Hid (k3 = boolS k2.2.1 k2.2.2) := hk3
            rw [← hk3] at R3 ⊢
            have m3 := m2.kept (G3.block M m2.lt (by simp; omega))
            simp only [FL]
            clear hk3
            refine hr_take 8 (some 24) (.agg #[.string k1.1.1, .string k1.1.2.1, .string k1.1.2.2.1, .int .u64 k1.1.2.2.2, .slice bo bn bc, .bool k3.1]) rfl rfl (by kernel_rfl) (by kernel_rfl) (by kernel_rfl) rfl (fun W hW => by go_simp) trivial ?_
            simp only [FL]
            obtain ⟨g, hg⟩ : ∃ g, g = U3.heap.size := ⟨_, rfl⟩
            obtain ⟨U4, hU4⟩ : ∃ W, W = U3.alloc (.cells #[.string k1.1.1, .string k1.1.2.1, .string k1.1.2.2.1, .int .u64 k1.1.2.2.2, .slice bo bn bc, .bool k3.1] 76) := ⟨_, rfl⟩
            have N4 : U4.heap[g]? = some (.cells #[.string k1.1.1, .string k1.1.2.1, .string k1.1.2.2.1, .int .u64 k1.1.2.2.2, .slice bo bn bc, .bool k3.1] 76) := by rw [hU4, hg]; exact heap_alloc_new U3 _
            have B4 : Below U3.heap.size U3 U4 := by rw [hU4]; exact (Below.refl _ _).alloc (Nat.le_refl _) _
            refine hr_do 9 (some 25) (.slice (some ⟨g, 0, none⟩) 1 1) rfl rfl (by kernel_rfl) rfl (w' := U4) (by rw [hU4, hg]; go_simp) trivial ?_
            simp only [FL]
            have HU4 : Hid (U4 = U3.alloc (.cells #[.string k1.1.1, .string k1.1.2.1, .string k1.1.2.2.1, .int .u64 k1.1.2.2.2, .slice bo bn bc, .bool k3.1] 76)) := hU4
            clear hU4 hg
            have y5 : v0.grownBy U3 (some p) := grown_trans (grown_trans G1 G2) G3
            have S3 : Sl U3 bo bn bc k2.1 := Sl.kept (b := ⟨bo, bn, bc, k2.1⟩) S2 (fun x hx => by
              obtain ⟨a, ha, hn, rfl⟩ := hx
              exact G3.block _ (S2.lt a ha hn) (by have := F2 a ha; have := m1.lt; simp; omega))
            have y1 : (⟨k1.1.1, k1.1.2.1, k1.1.2.2.1, k1.1.2.2.2, ⟨bo, bn, bc, k2.1⟩, k3.1⟩ : CA).ok U3 := ⟨by show k1.1.1.size ≤ maxLen; unfold maxLen; omega, by show k1.1.2.1.size ≤ maxLen; unfold maxLen; omega, by show k1.1.2.2.1.size ≤ maxLen; unfold maxLen; omega, Zk.2.2.2, S3⟩
            have y2 : ∀ x, (⟨k1.1.1, k1.1.2.1, k1.1.2.2.1, k1.1.2.2.2, ⟨bo, bn, bc, k2.1⟩, k3.1⟩ : CA).va.blk x → v0.heap.size ≤ x := fun x hx => by
              obtain ⟨a, ha, hn, rfl⟩ := hx
              have := F2 a ha
              have := G1.size
              omega
            have y3 : (⟨k1.1.1, k1.1.2.1, k1.1.2.2.1, k1.1.2.2.2, ⟨bo, bn, bc, k2.1⟩, k3.1⟩ : CA).c = (cT T.2.1 T.2.2).1 := by
              rw [cT_key, ← HK1.out, ← HK2.out, ← HK3.out]
              rfl
            have y4 : R U3 p p (cT T.2.1 T.2.2).2.1 (cT T.2.1 T.2.2).2.2 := by
              rw [cT_key, ← HK1.out, ← HK2.out, ← HK3.out]
              exact R3
            rw [HT.out] at y3 y4
            have ownU3 : U3.ownsRow (M + 1) 76 6 (.slice ao1 l.length cap1) l.length (cellsC l) := own_kept HI.out.own fun x hx => y5.block x (HI.out.ownlt hx).2 (by have := HI.out.ownlt hx; simp; omega)
            have ownU4 : U4.ownsRow (M + 1) 76 6 (.slice ao1 l.length cap1) l.length (cellsC l) := own_kept ownU3 fun x hx => B4.block x (by have := HI.out.ownlt hx; have := y5.size; omega)
            refine hr_own 10 (some 26) rfl rfl (by kernel_rfl) rfl (.tmp 17) (.tmp 25) 35 rfl (M + 1) 76 i0 _ 6 88 Tryd.underlying35 hi hz0 hz1 hz2 rfl (by decide) (.slice ao1 l.length cap1) l.length (cellsC l) rfl ownU4 ⟨g, 0, none⟩ 1 1 (⟨k1.1.1, k1.1.2.1, k1.1.2.2.1, k1.1.2.2.2, ⟨bo, bn, bc, k2.1⟩, k3.1⟩ : CA).cells rfl rfl (fun j u hu => by rw [Addr.add_lit, Nat.zero_add]; exact (cell_of_row U4 g j #[.string k1.1.1, .string k1.1.2.1, .string k1.1.2.2.1, .int .u64 k1.1.2.2.2, .slice bo bn bc, .bool k3.1] _ (0, 0) N4).trans (show ((⟨k1.1.1, k1.1.2.1, k1.1.2.2.1, k1.1.2.2.2, ⟨bo, bn, bc, k2.1⟩, k3.1⟩ : CA).cells.toArray)[j]? = some u from by rw [List.getElem?_toArray]; exact hu)) (c_one (⟨k1.1.1, k1.1.2.1, k1.1.2.2.1, k1.1.2.2.2, ⟨bo, bn, bc, k2.1⟩, k3.1⟩ : CA)) (by unfold maxLen; omega) (by omega) (by have := m3.lt; have := B4.size; omega) ?_
            intro v' U5 O5 G5 H5
            refine ⟨trivial, ?_⟩
            simp only [FL]
            rw [HU4.out] at G5 H5
            have ST := HI.out.step (by omega) y1 y2 y3 y4 y5 O5 G5 H5
            have n5 : RW U5 M r1.1 (.slice ao1 l.length cap1) false := m3.kept ((G5.block M (by have := m3.lt; simp; omega) (fun e => by have := HI.out.ownlt e.symm; omega)).trans (heap_alloc_old U3 _ m3.lt))
            have d1 := n5.c1
            have z1 := n5.fz 1
            refine hr_take 11 (some 27) (.pointer (some ⟨M, 1, none⟩)) rfl rfl (by kernel_rfl) (by kernel_rfl) (by kernel_rfl) rfl (fun W hW => by go_simp) trivial ?_
            simp only [FL]
            have mm := CL.own ST.own ST.oks
            rw [List.length_append, List.length_singleton] at mm
            obtain ⟨ao3, cap3, rfl, _⟩ := mm
            refine hr_skip 12 none rfl rfl (by kernel_rfl) rfl (w' := U5.setCell ⟨M, 1, none⟩ (.slice ao3 (l.length + 1) cap3)) (by go_simp) trivial ?_
            simp only [Act.put]
            refine wpAnyH_done (by kernel_rfl) ?_ _
            refine NoPanic.normal ?_
            have HST : Hid _ := ST
            clear ST ownU3 ownU4 O5 G5 H5 d1 z1 n5 HU4 N4 B4 y1 y2 y3 y4 y5 S3 S2 R1 R2 R3 G1 G2 G3 m0 m1 m2 m3
            go_wp2
            go_roundw
            case rel => exact ⟨_, l ++ [_], by rw [List.length_append, List.length_singleton]; go_num, HST.out⟩
            case measure => simp [intOf]; omega
          · refine op_call 7 (some 23) 75 #[.pointer (some ⟨p, 0, none⟩)] rfl rfl rfl (by go_simp) (fun v w' => v = .bool (boolS k2.2.1 k2.2.2).1 ∧ R w' p p (boolS k2.2.1 k2.2.2).2.1 (boolS k2.2.1 k2.2.2).2.2 ∧ U2.grownBy w' (some p)) ((bool_any U2 p p k2.2.1 k2.2.2 R2).mono (fun e w' h => ⟨_, h.1, rfl, h.2⟩)) ?_
            rintro vv U3 ⟨rfl, R3, G3⟩
            refine ⟨trivial, ?_⟩
            obtain ⟨k3, hk3⟩ : ∃ r, r = boolS k2.2.1 k2.2.2 := ⟨_, rfl⟩
            have HK3 : Hid (k3 = boolS k2.2.1 k2.2.2) := hk3
            rw [← hk3] at R3 ⊢
            have m3 := m2.kept (G3.block M m2.lt (by simp; omega))
            simp only [FL]
            clear hk3
            refine hr_take 8 (some 24) (.agg #[.string k1.1.1, .string k1.1.2.1, .string k1.1.2.2.1, .int .u64 k1.1.2.2.2, .slice bo bn bc, .bool k3.1]) rfl rfl (by kernel_rfl) (by kernel_rfl) (by kernel_rfl) rfl (fun W hW => by go_simp) trivial ?_
            simp only [FL]
            refine hr_two (i := 1) (j := 9) (by kernel_rfl) ?_ ?_
            · have c1 : U3.cell? ⟨M, 1, none⟩ = some (.slice ao1 l.length cap1) := m3.c1
              refine op_do 1 (some 17) (.slice ao1 l.length cap1) rfl rfl rfl (w' := U3) (by go_simp) trivial ?_
              simp only [FL]
              clear c1
              obtain ⟨g, hg⟩ : ∃ g, g = U3.heap.size := ⟨_, rfl⟩
              obtain ⟨U4, hU4⟩ : ∃ W, W = U3.alloc (.cells #[.string k1.1.1, .string k1.1.2.1, .string k1.1.2.2.1, .int .u64 k1.1.2.2.2, .slice bo bn bc, .bool k3.1] 76) := ⟨_, rfl⟩
              have N4 : U4.heap[g]? = some (.cells #[.string k1.1.1, .string k1.1.2.1, .string k1.1.2.2.1, .int .u64 k1.1.2.2.2, .slice bo bn bc, .bool k3.1] 76) := by rw [hU4, hg]; exact heap_alloc_new U3 _
              have B4 : Below U3.heap.size U3 U4 := by rw [hU4]; exact (Below.refl _ _).alloc (Nat.le_refl _) _
              refine hr_do 9 (some 25) (.slice (some ⟨g, 0, none⟩) 1 1) rfl rfl (by kernel_rfl) rfl (w' := U4) (by rw [hU4, hg]; go_simp) trivial ?_
              simp only [FL]
              have HU4 : Hid (U4 = U3.alloc (.cells #[.string k1.1.1, .string k1.1.2.1, .string k1.1.2.2.1, .int .u64 k1.1.2.2.2, .slice bo bn bc, .bool k3.1] 76)) := hU4
              clear hU4 hg
              have y5 : v0.grownBy U3 (some p) := grown_trans (grown_trans G1 G2) G3
              have S3 : Sl U3 bo bn bc k2.1 := Sl.kept (b := ⟨bo, bn, bc, k2.1⟩) S2 (fun x hx => by
                obtain ⟨a, ha, hn, rfl⟩ := hx
                exact G3.block _ (S2.lt a ha hn) (by have := F2 a ha; have := m1.lt; simp; omega))
              have y1 : (⟨k1.1.1, k1.1.2.1, k1.1.2.2.1, k1.1.2.2.2, ⟨bo, bn, bc, k2.1⟩, k3.1⟩ : CA).ok U3 := ⟨by show k1.1.1.size ≤ maxLen; unfold maxLen; omega, by show k1.1.2.1.size ≤ maxLen; unfold maxLen; omega, by show k1.1.2.2.1.size ≤ maxLen; unfold maxLen; omega, Zk.2.2.2, S3⟩
              have y2 : ∀ x, (⟨k1.1.1, k1.1.2.1, k1.1.2.2.1, k1.1.2.2.2, ⟨bo, bn, bc, k2.1⟩, k3.1⟩ : CA).va.blk x → v0.heap.size ≤ x := fun x hx => by
                obtain ⟨a, ha, hn, rfl⟩ := hx
                have := F2 a ha
                have := G1.size
                omega
              have y3 : (⟨k1.1.1, k1.1.2.1, k1.1.2.2.1, k1.1.2.2.2, ⟨bo, bn, bc, k2.1⟩, k3.1⟩ : CA).c = (cT T.2.1 T.2.2).1 := by
                rw [cT_key, ← HK1.out, ← HK2.out, ← HK3.out]
                rfl
              have y4 : R U3 p p (cT T.2.1 T.2.2).2.1 (cT T.2.1 T.2.2).2.2 := by
                rw [cT_key, ← HK1.out, ← HK2.out, ← HK3.out]
                exact R3
              rw [HT.out] at y3 y4
              have ownU3 : U3.ownsRow (M + 1) 76 6 (.slice ao1 l.length cap1) l.length (cellsC l) := own_kept HI.out.own fun x hx => y5.block x (HI.out.ownlt hx).2 (by have := HI.out.ownlt hx; simp; omega)
              have ownU4 : U4.ownsRow (M + 1) 76 6 (.slice ao1 l.length cap1) l.length (cellsC l) := own_kept ownU3 fun x hx => B4.block x (by have := HI.out.ownlt hx; have := y5.size; omega)
              refine hr_own 10 (some 26) rfl rfl (by kernel_rfl) rfl (.tmp 17) (.tmp 25) 35 rfl (M + 1) 76 i0 _ 6 88 Tryd.underlying35 hi hz0 hz1 hz2 rfl (by decide) (.slice ao1 l.length cap1) l.length (cellsC l) rfl ownU4 ⟨g, 0, none⟩ 1 1 (⟨k1.1.1, k1.1.2.1, k1.1.2.2.1, k1.1.2.2.2, ⟨bo, bn, bc, k2.1⟩, k3.1⟩ : CA).cells rfl rfl (fun j u hu => by rw [Addr.add_lit, Nat.zero_add]; exact (cell_of_row U4 g j #[.string k1.1.1, .string k1.1.2.1, .string k1.1.2.2.1, .int .u64 k1.1.2.2.2, .slice bo bn bc, .bool k3.1] _ (0, 0) N4).trans (show ((⟨k1.1.1, k1.1.2.1, k1.1.2.2.1, k1.1.2.2.2, ⟨bo, bn, bc, k2.1⟩, k3.1⟩ : CA).cells.toArray)[j]? = some u from by rw [List.getElem?_toArray]; exact hu)) (c_one (⟨k1.1.1, k1.1.2.1, k1.1.2.2.1, k1.1.2.2.2, ⟨bo, bn, bc, k2.1⟩, k3.1⟩ : CA)) (by unfold maxLen; omega) (by omega) (by have := m3.lt; have := B4.size; omega) ?_
              intro v' U5 O5 G5 H5
              refine ⟨trivial, ?_⟩
              simp only [FL]
              rw [HU4.out] at G5 H5
              have ST := HI.out.step (by omega) y1 y2 y3 y4 y5 O5 G5 H5
              have n5 : RW U5 M r1.1 (.slice ao1 l.length cap1) false := m3.kept ((G5.block M (by have := m3.lt; simp; omega) (fun e => by have := HI.out.ownlt e.symm; omega)).trans (heap_alloc_old U3 _ m3.lt))
              have d1 := n5.c1
              have z1 := n5.fz 1
              refine hr_take 11 (some 27) (.pointer (some ⟨M, 1, none⟩)) rfl rfl (by kernel_rfl) (by kernel_rfl) (by kernel_rfl) rfl (fun W hW => by go_simp) trivial ?_
              simp only [FL]
              have mm := CL.own ST.own ST.oks
              rw [List.length_append, List.length_singleton] at mm
              obtain ⟨ao3, cap3, rfl, _⟩ := mm
              refine hr_skip 12 none rfl rfl (by kernel_rfl) rfl (w' := U5.setCell ⟨M, 1, none⟩ (.slice ao3 (l.length + 1) cap3)) (by go_simp) trivial ?_
              simp only [Act.put]
              refine wpAnyH_done (by kernel_rfl) ?_ _
              refine NoPanic.normal ?_
              have HST : Hid _ := ST
              clear ST ownU3 ownU4 O5 G5 H5 d1 z1 n5 HU4 N4 B4 y1 y2 y3 y4 y5 S3 S2 R1 R2 R3 G1 G2 G3 m0 m1 m2 m3
              go_wp2
              go_roundw
              case rel => exact ⟨_, l ++ [_], by rw [List.length_append, List.length_singleton]; go_num, HST.out⟩
              case measure => simp [intOf]; omega
            · obtain ⟨g, hg⟩ : ∃ g, g = U3.heap.size := ⟨_, rfl⟩
              obtain ⟨U4, hU4⟩ : ∃ W, W = U3.alloc (.cells #[.string k1.1.1, .string k1.1.2.1, .string k1.1.2.2.1, .int .u64 k1.1.2.2.2, .slice bo bn bc, .bool k3.1] 76) := ⟨_, rfl⟩
              have N4 : U4.heap[g]? = some (.cells #[.string k1.1.1, .string k1.1.2.1, .string k1.1.2.2.1, .int .u64 k1.1.2.2.2, .slice bo bn bc, .bool k3.1] 76) := by rw [hU4, hg]; exact heap_alloc_new U3 _
              have B4 : Below U3.heap.size U3 U4 := by rw [hU4]; exact (Below.refl _ _).alloc (Nat.le_refl _) _
              refine op_do 9 (some 25) (.slice (some ⟨g, 0, none⟩) 1 1) rfl rfl rfl (w' := U4) (by rw [hU4, hg]; go_simp) trivial ?_
              simp only [FL]
              have HU4 : Hid (U4 = U3.alloc (.cells #[.string k1.1.1, .string k1.1.2.1, .string k1.1.2.2.1, .int .u64 k1.1.2.2.2, .slice bo bn bc, .bool k3.1] 76)) := hU4
              clear hU4 hg
              have c1 : U4.cell? ⟨M, 1, none⟩ = some (.slice ao1 l.length cap1) := (m3.kept (B4.block M m3.lt)).c1
              refine hr_do 1 (some 17) (.slice ao1 l.length cap1) rfl rfl (by kernel_rfl) rfl (w' := U4) (by go_simp) trivial ?_
              simp only [FL]
              clear c1
              have y5 : v0.grownBy U3 (some p) := grown_trans (grown_trans G1 G2) G3
              have S3 : Sl U3 bo bn bc k2.1 := Sl.kept (b := ⟨bo, bn, bc, k2.1⟩) S2 (fun x hx => by
                obtain ⟨a, ha, hn, rfl⟩ := hx
                exact G3.block _ (S2.lt a ha hn) (by have := F2 a ha; have := m1.lt; simp; omega))
              have y1 : (⟨k1.1.1, k1.1.2.1, k1.1.2.2.1, k1.1.2.2.2, ⟨bo, bn, bc, k2.1⟩, k3.1⟩ : CA).ok U3 := ⟨by show k1.1.1.size ≤ maxLen; unfold maxLen; omega, by show k1.1.2.1.size ≤ maxLen; unfold maxLen; omega, by show k1.1.2.2.1.size ≤ maxLen; unfold maxLen; omega, Zk.2.2.2, S3⟩
              have y2 : ∀ x, (⟨k1.1.1, k1.1.2.1, k1.1.2.2.1, k1.1.2.2.2, ⟨bo, bn, bc, k2.1⟩, k3.1⟩ : CA).va.blk x → v0.heap.size ≤ x := fun x hx => by
                obtain ⟨a, ha, hn, rfl⟩ := hx
                have := F2 a ha
                have := G1.size
                omega
              have y3 : (⟨k1.1.1, k1.1.2.1, k1.1.2.2.1, k1.1.2.2.2, ⟨bo, bn, bc, k2.1⟩, k3.1⟩ : CA).c = (cT T.2.1 T.2.2).1 := by
                rw [cT_key, ← HK1.out, ← HK2.out, ← HK3.out]
                rfl
              have y4 : R U3 p p (cT T.2.1 T.2.2).2.1 (cT T.2.1 T.2.2).2.2 := by
                rw [cT_key, ← HK1.out, ← HK2.out, ← HK3.out]
                exact R3
              rw [HT.out] at y3 y4
              have ownU3 : U3.ownsRow (M + 1) 76 6 (.slice ao1 l.length cap1) l.length (cellsC l) := own_kept HI.out.own fun x hx => y5.block x (HI.out.ownlt hx).2 (by have := HI.out.ownlt hx; simp; omega)
              have ownU4 : U4.ownsRow (M + 1) 76 6 (.slice ao1 l.length cap1) l.length (cellsC l) := own_kept ownU3 fun x hx => B4.block x (by have := HI.out.ownlt hx; have := y5.size; omega)
              refine hr_own 10 (some 26) rfl rfl (by kernel_rfl) rfl (.tmp 17) (.tmp 25) 35 rfl (M + 1) 76 i0 _ 6 88 Tryd.underlying35 hi hz0 hz1 hz2 rfl (by decide) (.slice ao1 l.length cap1) l.length (cellsC l) rfl ownU4 ⟨g, 0, none⟩ 1 1 (⟨k1.1.1, k1.1.2.1, k1.1.2.2.1, k1.1.2.2.2, ⟨bo, bn, bc, k2.1⟩, k3.1⟩ : CA).cells rfl rfl (fun j u hu => by rw [Addr.add_lit, Nat.zero_add]; exact (cell_of_row U4 g j #[.string k1.1.1, .string k1.1.2.1, .string k1.1.2.2.1, .int .u64 k1.1.2.2.2, .slice bo bn bc, .bool k3.1] _ (0, 0) N4).trans (show ((⟨k1.1.1, k1.1.2.1, k1.1.2.2.1, k1.1.2.2.2, ⟨bo, bn, bc, k2.1⟩, k3.1⟩ : CA).cells.toArray)[j]? = some u from by rw [List.getElem?_toArray]; exact hu)) (c_one (⟨k1.1.1, k1.1.2.1, k1.1.2.2.1, k1.1.2.2.2, ⟨bo, bn, bc, k2.1⟩, k3.1⟩ : CA)) (by unfold maxLen; omega) (by omega) (by have := m3.lt; have := B4.size; omega) ?_
              intro v' U5 O5 G5 H5
              refine ⟨trivial, ?_⟩
              simp only [FL]
              rw [HU4.out] at G5 H5
              have ST := HI.out.step (by omega) y1 y2 y3 y4 y5 O5 G5 H5
              have n5 : RW U5 M r1.1 (.slice ao1 l.length cap1) false := m3.kept ((G5.block M (by have := m3.lt; simp; omega) (fun e => by have := HI.out.ownlt e.symm; omega)).trans (heap_alloc_old U3 _ m3.lt))
              have d1 := n5.c1
              have z1 := n5.fz 1
              refine hr_take 11 (some 27) (.pointer (some ⟨M, 1, none⟩)) rfl rfl (by kernel_rfl) (by kernel_rfl) (by kernel_rfl) rfl (fun W hW => by go_simp) trivial ?_
              simp only [FL]
              have mm := CL.own ST.own ST.oks
              rw [List.length_append, List.length_singleton] at mm
              obtain ⟨ao3, cap3, rfl, _⟩ := mm
              refine hr_skip 12 none rfl rfl (by kernel_rfl) rfl (w' := U5.setCell ⟨M, 1, none⟩ (.slice ao3 (l.length + 1) cap3)) (by go_simp) trivial ?_
              simp only [Act.put]
              refine wpAnyH_done (by kernel_rfl) ?_ _
              refine NoPanic.normal ?_
              have HST : Hid _ := ST
              clear ST ownU3 ownU4 O5 G5 H5 d1 z1 n5 HU4 N4 B4 y1 y2 y3 y4 y5 S3 S2 R1 R2 R3 G1 G2 G3 m0 m1 m2 m3
              go_wp2
              go_roundw
              case rel => exact ⟨_, l ++ [_], by rw [List.length_append, List.length_singleton]; go_num, HST.out⟩
              case measure => simp [intOf]; omega
    · have i6 : (r2.1 : Int) ≤ (l.length : Int) := by omega
      have hle : Hid (l.length = r2.1) := by have := inv.le; show l.length = r2.1; omega
      go_wp2_with fail
      obtain ⟨T, hT⟩ : ∃ T, T = repT cT l.length r2.2.1 r2.2.2 := ⟨_, rfl⟩
      have HT : Hid (T = repT cT l.length r2.2.1 r2.2.2) := hT
      refine (bool_any wr p p T.2.1 T.2.2 (by rw [hT]; exact inv.rd)).mono ?_
      rintro e w5 ⟨rfl, R5, G5⟩
      obtain ⟨b, hb⟩ : ∃ b, b = boolS T.2.1 T.2.2 := ⟨_, rfl⟩
      have HB : Hid (b = boolS T.2.1 T.2.2) := hb
      rw [← hb] at R5 ⊢
      have FAR : Hid (∀ x, (sblk ao1 l.length x ∨ ∃ c ∈ l, c.va.blk x) → M < x ∧ x < wr.heap.size) := fun x hx => by
        rcases hx with hx | ⟨c, hc, hx⟩
        · exact inv.ownlt (sblk_own hx)
        · exact ⟨(inv.far x ⟨c, hc, hx⟩).1, (inv.oks c hc).blk_lt hx⟩
      have CL5 := CL1.kept (w' := w5) fun x hx => G5.block x (FAR.out x hx).2 (by have := (FAR.out x hx).1; simp; omega)
      have m5 := inv.ov.kept (G5.block M inv.ov.lt (by simp; omega))
      have K5 := inv.res.kept (G5.block N inv.res.lt (by simp; omega))
      have B5 := inv.bel.trans (below_grown G5 (by have := inv.bel.size; have := HN.out; omega) (by omega))
      have HL : Hid (l.map CA.c = T.1) := by show _ = _; rw [hT]; exact inv.thr
      have d2 := m5.c2
      have z2 := m5.fz 2
      obtain ⟨w6, hw6⟩ : ∃ W, W = w5.setCell ⟨M, 2, none⟩ (.bool b.1) := ⟨_, rfl⟩
      have SB6 : w6.heap.size = w5.heap.size ∧ ∀ j, j ≠ M → w6.heap[j]? = w5.heap[j]? := by rw [hw6]; exact same_set _ _ _ _
      have m6 : RW w6 M r1.1 (.slice ao1 l.length cap1) b.1 := by rw [hw6]; exact m5.setM b.1
      have K6 : RW w6 N 0 (.slice none 0 0) false := K5.kept (SB6.2 N (by omega))
      have R6 : R w6 p p b.2.1 b.2.2 := by rw [hw6]; exact R5.own hpM (by omega)
      have B6 : Below N w w6 := by rw [hw6]; exact B5.setCell (by show N ≤ M; omega) _
      have CL6 := CL5.kept (w' := w6) fun x hx => SB6.2 x (by have := (FAR.out x hx).1; omega)
      clear hT hb inv CL1 CL5 G5 R5 K5 B5 m5 SB6
      go_wp2_with fail
      rw [← hw6]
      clear hw6 d2 z2
      have HS : Hid (∀ V, Below w6.heap.size w6 V → V.cell? ⟨M, 0, none⟩ = some (.int .i64 r1.1) ∧ V.cell? ⟨M, 1, none⟩ = some (.slice ao1 l.length cap1) ∧ V.cell? ⟨M, 2, none⟩ = some (.bool b.1)) := fun V hV => have q := m6.kept (hV.block M m6.lt); ⟨q.c0, q.c1, q.c2⟩
      have E0 : Below w6.heap.size w6 w6.drew := (Below.refl _ _).drew
      refine wp_region_noPanic ?_
      refine wp_region_held_drew (S := fun V => V.cell? ⟨M, 0, none⟩ = some (.int .i64 r1.1) ∧ V.cell? ⟨M, 1, none⟩ = some (.slice ao1 l.length cap1) ∧ V.cell? ⟨M, 2, none⟩ = some (.bool b.1)) (by kernel_rfl) (HS.out _ E0) (fun H0 => ?_)
      obtain ⟨v0, hv0⟩ : ∃ v, v = w6.drew := ⟨_, rfl⟩
      rw [← hv0] at H0 E0 ⊢
      clear hv0
      refine hr_take_w 0 (some 32) (.pointer (some ⟨p, 0, none⟩)) rfl rfl (by kernel_rfl) (by kernel_rfl) (by kernel_rfl) rfl (fun W hW => by obtain ⟨h0, h1, h2⟩ := hW; go_simp) H0 ?_
      simp only [FL]
      refine hr_take_w 2 (some 34) (.agg #[.int .i64 r1.1, .slice ao1 l.length cap1, .bool b.1]) rfl rfl (by kernel_rfl) (by kernel_rfl) (by kernel_rfl) rfl (fun W hW => by obtain ⟨h0, h1, h2⟩ := hW; go_simp) H0 ?_
      simp only [FL]
      refine hr_call_w 1 (some 33) 50 #[.pointer (some ⟨p, 0, none⟩)] rfl rfl (by kernel_rfl) rfl (by go_simp) (fun v w' => v = .int .i64 (doneS b.2.1 b.2.2) ∧ Below v0.heap.size v0 w') ((((done_any v0 p p b.2.1 b.2.2 (R6.below E0)).mono (fun e w' h => ⟨h.1, by rw [h.2]; exact Below.refl _ _⟩) : Calls Tryd.prog 50 #[.pointer (some ⟨p, 0, none⟩)] v0 fun e w' => e = .returned (.int .i64 (doneS b.2.1 b.2.2)) ∧ Below v0.heap.size v0 w')).mono (by
        rintro e w' ⟨rfl, C⟩
        exact ⟨_, rfl, rfl, C⟩)) ?_
      rintro v v1 ⟨rfl, C0⟩
      have E1 := E0.trans (C0.mono E0.size)
      have H1 := HS.out v1 E1
      refine ⟨H1, ?_⟩
      simp only [FL]
      refine hr_call_w 3 (some 35) 55 #[.agg #[.int .i64 r1.1, .slice ao1 l.length cap1, .bool b.1]] rfl rfl (by kernel_rfl) rfl (by go_simp) (fun v w' => v = .int .i64 (kindR (resR r1.1 l b.1)) ∧ Below v1.heap.size v1 w') ((prr_any v1 r1.1 ao1 l.length cap1 l b.1 (CL6.below E1)).mono (by
        rintro e w' ⟨rfl, C⟩
        exact ⟨_, rfl, rfl, C⟩)) ?_
      rintro v v2 ⟨rfl, C1⟩
      have E2 := E1.trans (C1.mono E1.size)
      have H2 := HS.out v2 E2
      refine ⟨H2, ?_⟩
      simp only [FL]
      obtain ⟨d, hd⟩ : ∃ d, d = doneS b.2.1 b.2.2 := ⟨_, rfl⟩
      obtain ⟨kk, hkk⟩ : ∃ d, d = kindR (resR r1.1 l b.1) := ⟨_, rfl⟩
      rw [← hd, ← hkk]
      have HD : Hid (d = doneS b.2.1 b.2.2) := hd
      have HK : Hid (kk = kindR (resR r1.1 l b.1)) := hkk
      clear hd hkk
      obtain ⟨g, hg⟩ : ∃ g, g = v2.heap.size := ⟨_, rfl⟩
      obtain ⟨v3, hv3⟩ : ∃ V, V = v2.alloc (.cells #[.int .i64 d, .int .i64 kk] 27) := ⟨_, rfl⟩
      have U3 : Below v2.heap.size v2 v3 := by rw [hv3]; exact (Below.refl _ _).alloc (Nat.le_refl _) _
      have G3 : v3.heap[g]? = some (.cells #[.int .i64 d, .int .i64 kk] 27) := by rw [hv3, hg]; exact heap_alloc_new v2 _
      have E3 := E2.trans (U3.mono E2.size)
      have H3 := HS.out v3 E3
      refine hr_do 4 (some 36) (.slice (some ⟨g, 0, none⟩) 2 2) rfl rfl (by kernel_rfl) rfl (w' := v3) (by rw [hv3, hg]; go_simp) H3 ?_
      simp only [FL]
      clear hv3 hg U3
      refine hr_call_w 5 (some 37) 49 #[.slice (some ⟨g, 0, none⟩) 2 2] rfl rfl (by kernel_rfl) rfl (by go_simp) (fun v w' => v = .int .i64 (or2 d kk) ∧ Below v3.heap.size v3 w') ((((por2_any v3 g d kk G3).mono (fun e w' h => ⟨h.1, by rw [h.2]; exact Below.refl _ _⟩) : Calls Tryd.prog 49 #[.slice (some ⟨g, 0, none⟩) 2 2] v3 fun e w' => e = .returned (.int .i64 (or2 d kk)) ∧ Below v3.heap.size v3 w')).mono (by
        rintro e w' ⟨rfl, C⟩
        exact ⟨_, rfl, rfl, C⟩)) ?_
      rintro v v4 ⟨rfl, C3⟩
      have E4 := E3.trans (C3.mono E3.size)
      have H4 := HS.out v4 E4
      refine ⟨H4, ?_⟩
      simp only [FL]
      refine hr_take_w 6 (some 6) (.int .i64 (or2 d kk)) rfl rfl (by kernel_rfl) (by kernel_rfl) (by kernel_rfl) rfl (fun W hW => by obtain ⟨h0, h1, h2⟩ := hW; go_simp) H4 ?_
      simp only [FL]
      refine wpAnyH_done (by kernel_rfl) ?_ _
      refine NoPanic.normal ?_
      have BX : Below N w v4 := B6.trans (E4.mono (by have := B6.size; have := HN.out; omega))
      have KX := K6.kept (E4.block N K6.lt)
      have QX := m6.kept (E4.block M m6.lt)
      have CLX := CL6.below E4
      have HRQ : Hid (rdR xs = if or2 d kk = 0 then .inr (resR r1.1 l b.1) else .inl (or2 d kk)) := by
        show _ = _
        have e3 := HT.out
        rw [hle.out] at e3
        rw [HRD.out, rd_or, resTh_eq ER1.out ER2.out e3 HB.out, ← HL.out]
        simp only
        rw [show (⟨(r1.1 : Int), l.map CA.c, b.1⟩ : RV) = resR r1.1 l b.1 from rfl, ← HK.out, ← HD.out]
      have FR : Hid (∀ x, (sblk ao1 l.length x ∨ ∃ c ∈ l, c.va.blk x) → x ≠ N) := fun x hx => by have := (FAR.out x hx).1; omega
      clear HS H0 H1 H2 H3 H4 E0 E1 E2 E3 E4 C0 C1 C3 G3 m6 CL6 K6 B6 R6 FAR
      have n0 := KX.c0
      have n1 := KX.c1
      have n2 := KX.c2
      have g0 := KX.fz 0
      have g1 := KX.fz 1
      have g2 := KX.fz 2
      by_cases hk : or2 d kk = 0
      · have HQ : Hid (rdR xs = .inr (resR r1.1 l b.1)) := by show _ = _; rw [HRQ.out, if_pos hk]
        have q0 := QX.c0
        have q1 := QX.c1
        have q2 := QX.c2
        have BF : Below N w (((v4.setCell ⟨N, 0, none⟩ (.int .i64 r1.1)).setCell ⟨N, 1, none⟩ (.slice ao1 l.length cap1)).setCell ⟨N, 2, none⟩ (.bool b.1)) := (((BX.setCell (Nat.le_refl _) _).setCell (Nat.le_refl _) _).setCell (Nat.le_refl _) _)
        have SB : ((((v4.setCell ⟨N, 0, none⟩ (.int .i64 r1.1)).setCell ⟨N, 1, none⟩ (.slice ao1 l.length cap1)).setCell ⟨N, 2, none⟩ (.bool b.1))).heap.size = v4.heap.size ∧ ∀ j, j ≠ N → ((((v4.setCell ⟨N, 0, none⟩ (.int .i64 r1.1)).setCell ⟨N, 1, none⟩ (.slice ao1 l.length cap1)).setCell ⟨N, 2, none⟩ (.bool b.1))).heap[j]? = v4.heap[j]? := (SameBut.trans (SameBut.trans (SameBut.trans ⟨rfl, fun _ _ => rfl⟩ (same_set _ _ _ _)) (same_set _ _ _ _)) (same_set _ _ _ _))
        have GOOD : Hid (CL (((v4.setCell ⟨N, 0, none⟩ (.int .i64 r1.1)).setCell ⟨N, 1, none⟩ (.slice ao1 l.length cap1)).setCell ⟨N, 2, none⟩ (.bool b.1)) ao1 l.length cap1 l ∧ Below N w (((v4.setCell ⟨N, 0, none⟩ (.int .i64 r1.1)).setCell ⟨N, 1, none⟩ (.slice ao1 l.length cap1)).setCell ⟨N, 2, none⟩ (.bool b.1))) := ⟨CLX.kept fun x hx => SB.2 x (FR.out x hx), BF⟩
        clear SB BF CLX
        rw [hk]
        clear hk HRQ HD HK KX QX
        go_wp2
        refine bodyPost_ret (v := .tuple #[.agg #[.int .i64 r1.1, .slice ao1 l.length cap1, .bool b.1], .int .i64 0]) (by simp [results, Tryd.results58, go_sem, n0, n1, n2]) rfl ?_
        exact ⟨fun k hk => absurd (HQ.out.symm.trans hk) (by simp), fun q hq => by
          have e := Sum.inr.inj (HQ.out.symm.trans hq)
          subst e
          exact ⟨_, _, _, _, l, _, rfl, GOOD.out.1, rfl⟩, by rw [← HN.out]; exact GOOD.out.2⟩
      · have HQ : Hid (rdR xs = .inl (or2 d kk)) := by show _ = _; rw [HRQ.out, if_neg hk]
        have hkb : (or2 d kk == 0) = false := by simp [hk]
        have hkc : (or2 d kk != 0) = true := by simp [hk]
        have BF : Hid (Below N w (((v4.setCell ⟨N, 0, none⟩ (.int .i64 0)).setCell ⟨N, 1, none⟩ (.slice none 0 0)).setCell ⟨N, 2, none⟩ (.bool false))) := (((BX.setCell (Nat.le_refl _) _).setCell (Nat.le_refl _) _).setCell (Nat.le_refl _) _)
        clear hk HRQ HD HK KX QX CLX
        go_wp2
        refine bodyPost_ret (v := .tuple #[.agg #[.int .i64 0, .slice none 0 0, .bool false], .int .i64 (or2 d kk)]) (by simp [results, Tryd.results58, go_sem, n0, n1, n2]) rfl ?_
        exact ⟨fun k hk => by
          have e := Sum.inl.inj (HQ.out.symm.trans hk)
          subst e
          rfl, fun q hq => absurd (HQ.out.symm.trans hq) (by simp), by rw [← HN.out]; exact BF.out⟩
open Go.RowKit
def ResIs (w : World) (r : RV) (x : Ending) (w' : World) : Prop := ∃ (q : Int) (ao : Option Addr) (n cap : Nat) (cs : List CA) (m : Bool), x = .returned (resV q ao n cap m) ∧ CL w' ao n cap cs ∧ r = resR q cs m ∧ Below w.heap.size w w'
theorem row3_get {w : World} {N i : Nat} {x y z u : Value} {t : TypeId} (h : w.heap[N]? = some (.cells #[x, y, z] t)) (hc : w.cell? ⟨N, i, none⟩ = some u) : u = x ∨ u = y ∨ u = z := by
  rw [cell_of_row w N i _ _ _ h] at hc
  match i, hc with
  | 0, hc => exact .inl (by simpa using hc.symm)
  | 1, hc => exact .inr (.inl (by simpa using hc.symm))
  | 2, hc => exact .inr (.inr (by simpa using hc.symm))
  | i + 3, hc => simp at hc
theorem CL.offR {w : World} {N : Nat} {e : Int} {a : Option Addr} {x y : Nat} {m : Bool} (K : RW w N e (.slice a x y) m) {ao : Option Addr} {n cap : Nat} {cs : List CA} (L : CL w ao n cap cs) : ∀ z, (sblk ao n z ∨ ∃ c ∈ cs, c.va.blk z) → z ≠ N := by
  rintro z (⟨b, rfl, hn, rfl⟩ | ⟨c, hc, b, hb, hn, rfl⟩) rfl
  · have hl := L.len
    have h0 := L.cell b rfl 0 (by omega) 0 _ rfl
    obtain ⟨bb, off, spot⟩ := b
    have hs : spot = none := by simpa [Addr.add] using World.cell?_spot h0
    subst hs
    rw [Addr.add_lit] at h0
    rcases row3_get K h0 with h | h | h <;> cases h
  · have S := (L.ok c hc).va
    have h0 := S.cell b hb 0 hn
    obtain ⟨bb, off, spot⟩ := b
    have hs : spot = none := by simpa [Addr.add] using World.cell?_spot h0
    subst hs
    rw [Addr.add_lit] at h0
    rcases row3_get K h0 with h | h | h <;> cases h
theorem CL.setR {w : World} {N : Nat} {e e' : Int} {a : Option Addr} {x y : Nat} {m m' : Bool} {u : Value} (K : RW w N e (.slice a x y) m) {ao : Option Addr} {n cap : Nat} {cs : List CA} (L : CL w ao n cap cs) : CL (((w.setCell ⟨N, 0, none⟩ (.int .i64 e')).setCell ⟨N, 1, none⟩ u).setCell ⟨N, 2, none⟩ (.bool m')) ao n cap cs :=
  L.kept fun z hz => (((same_set _ N 2 _).2 z (L.offR K z hz)).trans ((same_set _ N 1 _).2 z (L.offR K z hz))).trans ((same_set _ N 0 _).2 z (L.offR K z hz))
set_option maxRecDepth 100000 in
set_option maxHeartbeats 4000000 in
theorem cresult_any (w : World) (e : EN) (he : e.ok) :
    Calls Tryd.prog 35 #[.agg #[.int .u64 e.cl, .int .u64 e.st, .string e.an]] w (ResIs w e.r) := by
  have hsz : e.an.size ≤ 65536 := by
    have := he.len
    rw [← sb_len, he.sb]
    exact this
  have B0 : Below w.heap.size w ((w.alloc (.cells #[.int .u64 e.cl, .int .u64 e.st, .string e.an] 66)).alloc (.cells #[.int .i64 0, .slice none 0 0, .bool false] 37)) := ((Below.refl _ w).alloc (Nat.le_refl _) _).alloc (by simp) _
  have K0 : RW ((w.alloc (.cells #[.int .u64 e.cl, .int .u64 e.st, .string e.an] 66)).alloc (.cells #[.int .i64 0, .slice none 0 0, .bool false] 37)) (w.heap.size + 1) 0 (.slice none 0 0) false := by
    have := heap_alloc_new (w.alloc (.cells #[.int .u64 e.cl, .int .u64 e.st, .string e.an] 66)) (.cells #[.int .i64 0, .slice none 0 0, .bool false] 37)
    unfold RW
    simpa using this
  have HSB : Hid (sb e.an = putR e.r) := he.sb
  have HRD : Hid (rdR (putR e.r) = .inr e.r) := he.rd
  obtain ⟨a, ha⟩ : ∃ a, a = e.an := ⟨_, rfl⟩
  rw [← ha] at hsz B0 K0 HSB ⊢
  clear ha he
  go_enter Tryd.func35, Tryd.ntmps35
  go_wp2_with (refine wpList_conv_bytes rfl (.tmp 7) rfl a rfl (by omega) ?_; intro g1 c1 w1 hg1 S1 B1; clear hg1)
  have B2 := B0.trans (B1.mono B0.size)
  have K2 : RW w1 (w.heap.size + 1) 0 (.slice none 0 0) false := K0.kept (B1.block _ K0.lt)
  clear B0 B1 K0
  rw [HSB.out] at S1
  have CR := prdr_any w1 _ _ _ _ S1 (by omega)
  refine CR.mono ?_
  rintro x w3 h3
  obtain ⟨q, ao, n, cap, cs, m, rfl, L3, hq⟩ := h3.good _ HRD.out
  have C3 := h3.bel
  have B3 := B2.trans (C3.mono B2.size)
  have K3 : RW w3 (w.heap.size + 1) 0 (.slice none 0 0) false := K2.kept (C3.block _ K2.lt)
  have HQ : Hid (e.r = resR q cs m) := hq
  clear CR h3 C3 K2 B2 hq S1
  have r0 := K3.c0
  have r1 := K3.c1
  have r2 := K3.c2
  have f0 := K3.fz 0
  have f1 := K3.fz 1
  have f2 := K3.fz 2
  have hlt := K3.lt
  have K5 : RW (((w3.setCell ⟨w.heap.size + 1, 0, none⟩ (.int .i64 q)).setCell ⟨w.heap.size + 1, 1, none⟩ (.slice ao n cap)).setCell ⟨w.heap.size + 1, 2, none⟩ (.bool m)) (w.heap.size + 1) q (.slice ao n cap) m := heap_setCell_same _ _ 2 _ _ _ (heap_setCell_same _ _ 1 _ _ _ (heap_setCell_same _ _ 0 _ _ _ K3))
  have L5 : CL (((w3.setCell ⟨w.heap.size + 1, 0, none⟩ (.int .i64 q)).setCell ⟨w.heap.size + 1, 1, none⟩ (.slice ao n cap)).setCell ⟨w.heap.size + 1, 2, none⟩ (.bool m)) ao n cap cs := CL.setR K3 L3
  have C5 : Below (((w3.setCell ⟨w.heap.size + 1, 0, none⟩ (.int .i64 q)).setCell ⟨w.heap.size + 1, 1, none⟩ (.slice ao n cap)).setCell ⟨w.heap.size + 1, 2, none⟩ (.bool m)).heap.size (((w3.setCell ⟨w.heap.size + 1, 0, none⟩ (.int .i64 q)).setCell ⟨w.heap.size + 1, 1, none⟩ (.slice ao n cap)).setCell ⟨w.heap.size + 1, 2, none⟩ (.bool m)) ((((w3.setCell ⟨w.heap.size + 1, 0, none⟩ (.int .i64 q)).setCell ⟨w.heap.size + 1, 1, none⟩ (.slice ao n cap)).setCell ⟨w.heap.size + 1, 2, none⟩ (.bool m)).alloc (.cells #[.int .i64 q, .slice ao n cap, .bool m] 37)) := (Below.refl _ _).alloc (Nat.le_refl _) _
  have L6 := L5.below C5
  have K6 : RW ((((w3.setCell ⟨w.heap.size + 1, 0, none⟩ (.int .i64 q)).setCell ⟨w.heap.size + 1, 1, none⟩ (.slice ao n cap)).setCell ⟨w.heap.size + 1, 2, none⟩ (.bool m)).alloc (.cells #[.int .i64 q, .slice ao n cap, .bool m] 37)) (w.heap.size + 1) q (.slice ao n cap) m := K5.kept (C5.block _ K5.lt)
  have B5 : Below w.heap.size w (((w3.setCell ⟨w.heap.size + 1, 0, none⟩ (.int .i64 q)).setCell ⟨w.heap.size + 1, 1, none⟩ (.slice ao n cap)).setCell ⟨w.heap.size + 1, 2, none⟩ (.bool m)) := ((B3.setCell (p := ⟨w.heap.size + 1, 0, none⟩) (Nat.le_succ _) _).setCell (p := ⟨w.heap.size + 1, 1, none⟩) (Nat.le_succ _) _).setCell (p := ⟨w.heap.size + 1, 2, none⟩) (Nat.le_succ _) _
  have B6 := B5.trans (C5.mono B5.size)
  have n0 := K6.c0
  have n1 := K6.c1
  have n2 := K6.c2
  have HF : Hid (CL ((((w3.setCell ⟨w.heap.size + 1, 0, none⟩ (.int .i64 q)).setCell ⟨w.heap.size + 1, 1, none⟩ (.slice ao n cap)).setCell ⟨w.heap.size + 1, 2, none⟩ (.bool m)).alloc (.cells #[.int .i64 q, .slice ao n cap, .bool m] 37)) ao n cap cs ∧ Below w.heap.size w ((((w3.setCell ⟨w.heap.size + 1, 0, none⟩ (.int .i64 q)).setCell ⟨w.heap.size + 1, 1, none⟩ (.slice ao n cap)).setCell ⟨w.heap.size + 1, 2, none⟩ (.bool m)).alloc (.cells #[.int .i64 q, .slice ao n cap, .bool m] 37))) := ⟨L6, B6⟩
  clear C5 K5 L3 B3 K3 L5 L6 B5 B6 K6
  unfold resV
  go_wp2
  refine bodyPost_ret (v := .agg #[.int .i64 q, .slice ao n cap, .bool m]) (by simp [results, Tryd.results35, go_sem, n0, n1, n2]) rfl ?_
  exact ⟨q, ao, n, cap, cs, m, rfl, HF.out.1, HQ.out, HF.out.2⟩
def askE (l : List EN) (c s : Nat) : RV × Int :=
  match fnd l c with
  | none => (zRV, 15)
  | some i => if s < (l[i]?.map EN.st).getD 0 then (zRV, 16) else if (l[i]?.map EN.st).getD 0 < s then (zRV, 7) else ((l[i]?.map EN.r).getD zRV, 0)
theorem askE_none {l : List EN} {c s : Nat} (h : fnd l c = none) : askE l c s = (zRV, 15) := by unfold askE; rw [h]
theorem askE_stale {l : List EN} {c s i : Nat} (h : fnd l c = some i) (hi : i < l.length) (hs : s < l[i].st) : askE l c s = (zRV, 16) := by
  unfold askE
  rw [h]
  simp only [List.getElem?_eq_getElem hi, Option.map_some, Option.getD_some]
  rw [if_pos hs]
theorem askE_missing {l : List EN} {c s i : Nat} (h : fnd l c = some i) (hi : i < l.length) (hs : l[i].st < s) : askE l c s = (zRV, 7) := by
  unfold askE
  rw [h]
  simp only [List.getElem?_eq_getElem hi, Option.map_some, Option.getD_some]
  rw [if_neg (by omega), if_pos hs]
theorem askE_ok {l : List EN} {c s i : Nat} (h : fnd l c = some i) (hi : i < l.length) (hs : l[i].st = s) : askE l c s = (l[i].r, 0) := by
  unfold askE
  rw [h]
  simp only [List.getElem?_eq_getElem hi, Option.map_some, Option.getD_some]
  rw [if_neg (by omega), if_neg (by omega)]
def AskIs (w : World) (a : RV × Int) (x : Ending) (w' : World) : Prop := ∃ (q : Int) (ao : Option Addr) (n cap : Nat) (cs : List CA) (m : Bool), x = .returned (.tuple #[resV q ao n cap m, .int .i64 a.2]) ∧ CL w' ao n cap cs ∧ a.1 = resR q cs m ∧ Below w.heap.size w w'
theorem RW.set3 {w W : World} {N : Nat} {e : Int} {a : Option Addr} {x y : Nat} {m : Bool} (K : RW W N e (.slice a x y) m) (B : Below N w W) (q : Int) (ao : Option Addr) (n cap : Nat) (cs : List CA) (m' : Bool) (L : CL W ao n cap cs) :
    RW (((W.setCell ⟨N, 0, none⟩ (.int .i64 q)).setCell ⟨N, 1, none⟩ (.slice ao n cap)).setCell ⟨N, 2, none⟩ (.bool m')) N q (.slice ao n cap) m' ∧ CL (((W.setCell ⟨N, 0, none⟩ (.int .i64 q)).setCell ⟨N, 1, none⟩ (.slice ao n cap)).setCell ⟨N, 2, none⟩ (.bool m')) ao n cap cs ∧ Below N w (((W.setCell ⟨N, 0, none⟩ (.int .i64 q)).setCell ⟨N, 1, none⟩ (.slice ao n cap)).setCell ⟨N, 2, none⟩ (.bool m')) :=
  ⟨heap_setCell_same _ _ 2 _ _ _ (heap_setCell_same _ _ 1 _ _ _ (heap_setCell_same _ _ 0 _ _ _ K)), CL.setR K L, ((B.setCell (p := ⟨N, 0, none⟩) (Nat.le_refl _) _).setCell (p := ⟨N, 1, none⟩) (Nat.le_refl _) _).setCell (p := ⟨N, 2, none⟩) (Nat.le_refl _) _⟩
set_option maxRecDepth 100000 in
set_option maxHeartbeats 4000000 in
theorem cAsk_any (w : World) (p g c s : Nat) (l : List EN) (h : TS w p g l) :
    Calls Tryd.prog 14 #[.pointer (some ⟨p, 0, none⟩), .int .u64 c, .int .u64 s] w (AskIs w (askE l c s)) := by
  have B0 : Below w.heap.size w (w.alloc (.cells #[.int .i64 0, .slice none 0 0, .bool false] 37)) := (Below.refl _ w).alloc (Nat.le_refl _) _
  have K0 : RW (w.alloc (.cells #[.int .i64 0, .slice none 0 0, .bool false] 37)) w.heap.size 0 (.slice none 0 0) false := heap_alloc_new w _
  have T1 := h.below B0
  have CF := find_any _ p g c l T1
  go_enter Tryd.func14, Tryd.ntmps14
  go_wp2_with fail
  obtain ⟨w1, hw1⟩ : ∃ W, W = w.alloc (.cells #[.int .i64 0, .slice none 0 0, .bool false] 37) := ⟨_, rfl⟩
  obtain ⟨N, hN⟩ : ∃ N, N = w.heap.size := ⟨_, rfl⟩
  rw [← hw1] at B0 K0 T1 CF ⊢
  rw [← hN] at K0 B0 ⊢
  have HN : Hid (N = w.heap.size) := hN
  clear hw1 hN
  refine CF.mono ?_
  rintro x w2 ⟨r, rfl, hr, C2⟩
  have T2 := T1.below C2
  have K2 : RW w2 N 0 (.slice none 0 0) false := K0.kept (C2.block _ K0.lt)
  have B2 := B0.trans (C2.mono (by have := B0.size; have := HN.out; omega))
  clear CF T1 K0 C2 B0
  obtain ⟨X1, X2, X3⟩ := K2.set3 B2 0 none 0 0 [] false (CL.nothing w2)
  have HX : Hid (∀ k, askE l c s = (zRV, k) → AskIs w (askE l c s) (.returned (.tuple #[.agg #[.int .i64 0, .slice none 0 0, .bool false], .int .i64 k])) (((w2.setCell ⟨N, 0, none⟩ (.int .i64 0)).setCell ⟨N, 1, none⟩ (.slice none 0 0)).setCell ⟨N, 2, none⟩ (.bool false))) := fun k hk => by
    rw [hk]
    exact ⟨0, none, 0, 0, [], false, rfl, X2, rfl, by rw [← HN.out]; exact X3⟩
  have n0 := X1.c0
  have n1 := X1.c1
  have n2 := X1.c2
  clear X1 X2 X3
  have r0 := K2.c0
  have r1 := K2.c1
  have r2 := K2.c2
  have f0 := K2.fz 0
  have f1 := K2.fz 1
  have f2 := K2.fz 2
  rcases hr with ⟨rfl, hf⟩ | ⟨k, rfl, hf⟩
  · have HV : Hid (askE l c s = (zRV, 15)) := askE_none hf
    clear hf
    go_wp2
    refine bodyPost_ret (v := .tuple #[.agg #[.int .i64 0, .slice none 0 0, .bool false], .int .i64 15]) (by simp [results, Tryd.results14, go_sem, n0, n1, n2]) rfl ?_
    exact HX.out 15 HV.out
  obtain ⟨hk, hcl⟩ := fnd_some hf
  have HF : Hid (fnd l c = some k) := hf
  obtain ⟨cp, t0, R2, hcp⟩ := T2.tab
  have q0 := R2.cell k hk 0 _ rfl
  have q1 := R2.cell k hk 1 _ rfl
  have q2 := R2.cell k hk 2 _ rfl
  simp only [Nat.add_zero] at q0
  have ki : (k : Int) < (l.length : Int) := by omega
  have k0 : decide ((k : Int) < 0) = false := by simp
  have n8 : (l.length : Int) ≤ 8 := by have := h.n8; omega
  have hok := h.ok _ (List.getElem_mem hk)
  have hst : l[k].st < 18446744073709551616 := hok.st
  clear hf hcl R2
  by_cases hle : s < l[k].st
  · have i1 : (s : Int) < (l[k].st : Int) := by omega
    have HV : Hid (askE l c s = (zRV, 16)) := askE_stale HF.out hk hle
    clear hle
    go_wp2
    refine bodyPost_ret (v := .tuple #[.agg #[.int .i64 0, .slice none 0 0, .bool false], .int .i64 16]) (by simp [results, Tryd.results14, go_sem, n0, n1, n2]) rfl ?_
    exact HX.out 16 HV.out
  have i1 : (l[k].st : Int) ≤ (s : Int) := by omega
  by_cases hgt : l[k].st < s
  · have i2 : (l[k].st : Int) < (s : Int) := by omega
    have HV : Hid (askE l c s = (zRV, 7)) := askE_missing HF.out hk hgt
    clear hle hgt
    go_wp2
    refine bodyPost_ret (v := .tuple #[.agg #[.int .i64 0, .slice none 0 0, .bool false], .int .i64 7]) (by simp [results, Tryd.results14, go_sem, n0, n1, n2]) rfl ?_
    exact HX.out 7 HV.out
  have i2 : (s : Int) ≤ (l[k].st : Int) := by omega
  have HV : Hid (askE l c s = (l[k].r, 0)) := askE_ok HF.out hk (by omega)
  have CR := cresult_any w2 l[k] hok
  clear hle hgt HX n0 n1 n2 r0 r1 r2 f0 f1 f2 hok
  go_wp2_with fail
  refine CR.mono ?_
  rintro x w3 ⟨q, ao, n, cap, cs, m, rfl, L3, hq, C3⟩
  have HQ : Hid (l[k].r = resR q cs m) := hq
  have K3 : RW w3 N 0 (.slice none 0 0) false := K2.kept (C3.block _ K2.lt)
  have B3 := B2.trans (C3.mono (by have := B2.size; have := HN.out; omega))
  clear CR C3 hq K2 B2 q0 q1 q2 t0
  obtain ⟨X1, X2, X3⟩ := K3.set3 B3 q ao n cap cs m L3
  have r0 := K3.c0
  have r1 := K3.c1
  have r2 := K3.c2
  have f0 := K3.fz 0
  have f1 := K3.fz 1
  have f2 := K3.fz 2
  have n0 := X1.c0
  have n1 := X1.c1
  have n2 := X1.c2
  clear X1 K3 L3 B3
  unfold resV
  go_wp2
  refine bodyPost_ret (v := .tuple #[.agg #[.int .i64 q, .slice ao n cap, .bool m], .int .i64 0]) (by simp [results, Tryd.results14, go_sem, n0, n1, n2]) rfl ?_
  rw [HV.out]
  exact ⟨q, ao, n, cap, cs, m, rfl, X2, HQ.out, by rw [← HN.out]; exact X3⟩
theorem cAsk_nil (w : World) (c s : Nat) : Calls Tryd.prog 14 #[.pointer none, .int .u64 c, .int .u64 s] w (AskIs w (zRV, 17)) := by
  go_enter Tryd.func14, Tryd.ntmps14
  go_wp2
  refine bodyPost_ret (v := .tuple #[.agg #[.int .i64 0, .slice none 0 0, .bool false], .int .i64 17]) (by simp [results, Tryd.results14, go_sem]) rfl ?_
  exact ⟨0, none, 0, 0, [], false, rfl, CL.nothing _, rfl, (Below.refl _ w).alloc (Nat.le_refl _) _⟩
open Go.RowKit
def jdg (ns : List Nat) : Int := if 1 ≤ ns.length ∧ ns.length ≤ 8 ∧ riseF 0 ns = true then 0 else 1
set_option maxHeartbeats 1000000 in
theorem judge_any (w : World) (ao : Option Addr) (n cap : Nat) (ns : List Nat) (h : NL w ao n cap ns) :
    Calls Tryd.prog 28 #[.slice ao n cap] w fun e w' => e = .returned (.int .i64 (jdg ns)) ∧ w' = w := by
  have hl := h.len
  by_cases h0 : n = 0
  · have hv : Hid (jdg ns = 1) := by
      show _ = _
      unfold jdg
      rw [if_neg (by omega)]
    subst h0
    go_enter Tryd.func28, Tryd.ntmps28
    go_wp2
    go_ret
    exact ⟨by rw [hv.out] <;> rfl, rfl⟩
  have e0 : ((n : Int) == 0) = false := by simp; omega
  by_cases h1 : 8 < n
  · have hv : Hid (jdg ns = 1) := by
      show _ = _
      unfold jdg
      rw [if_neg (by omega)]
    have e1 : (8 : Int) < (n : Int) := by omega
    go_enter Tryd.func28, Tryd.ntmps28
    go_wp2
    go_ret
    exact ⟨by rw [hv.out] <;> rfl, rfl⟩
  have e1 : decide ((8 : Int) < (n : Int)) = false := by simp; omega
  have HV : Hid (jdg ns = if riseF 0 ns = true then 0 else 1) := by
    show _ = _
    unfold jdg
    by_cases q : riseF 0 ns = true
    · rw [if_pos ⟨by omega, by omega, q⟩, if_pos q]
    · rw [if_neg (fun z => q z.2.2), if_neg q]
  have hn8 : (n : Int) ≤ 8 := by omega
  go_enter Tryd.func28, Tryd.ntmps28
  go_wp2
  go_loopw [3, 16] (fun v i wr => ∃ (k l : Nat), k ≤ n ∧ v = .int .u64 l ∧ i = .int .i64 k ∧ w = wr ∧ Hid (riseF 0 ns = riseF l (ns.drop k)) ∧ l < 18446744073709551616) (fun _ i _ => n - (intOf i).toNat)
  case atStart => exact ⟨0, 0, Nat.zero_le _, rfl, rfl, rfl, rfl, by omega⟩
  case round =>
    obtain ⟨k, l, hk, rfl, rfl, rfl, HR, hl64⟩ := hrel
    by_cases hlt : k < n
    · have hki : (k : Int) < (n : Int) := by omega
      have hkl : k < ns.length := by omega
      obtain ⟨b, off, rfl, hc⟩ := h.at (by omega)
      have c1 := hc k hlt
      have hx64 := h.rng ns[k] (List.getElem_mem hkl)
      have HD : Hid (ns.drop k = ns[k] :: ns.drop (k + 1)) := List.drop_eq_getElem_cons hkl
      have e5 : ns.getD k 0 = ns[k] := by simp [List.getD, hkl]
      rw [e5] at c1
      obtain ⟨x, hx⟩ : ∃ x, x = ns[k] := ⟨_, rfl⟩
      rw [← hx] at c1 HD hx64
      clear hx e5 hc
      by_cases hle : x ≤ l
      · have hlei : (x : Int) ≤ (l : Int) := by omega
        go_wp2
        go_ret
        refine ⟨?_, rfl⟩
        have : riseF 0 ns = false := by
          rw [HR.out, HD.out]
          simp [riseF]
          omega
        rw [HV.out, this]
        rfl
      · have hlei : decide ((x : Int) ≤ (l : Int)) = false := by simp; omega
        go_wp2
        go_roundw
        case rel =>
          refine ⟨k + 1, x, by omega, rfl, by go_num, trivial, ?_, hx64⟩
          show _ = _
          rw [HR.out, HD.out]
          simp [riseF]
          omega
        case measure => simp [intOf]; omega
    · have hge : decide ((k : Int) < (n : Int)) = false := by simp; omega
      go_wp2
      go_ret
      refine ⟨?_, rfl⟩
      have : riseF 0 ns = true := by
        rw [HR.out, List.drop_of_length_le (by omega)]
        rfl
      rw [HV.out, this]
      rfl
theorem noAnswer_any (w : World) : Calls Tryd.prog 29 #[] w fun e w' => e = .returned (.string (strOfNums (putR zRV))) ∧ Below w.heap.size w w' := by
  have CR := presult_any w 0 none 0 0 [] false (CL.nothing w)
  have er : Hid (rightR (resR 0 [] false) = true) := show rightR (resR 0 [] false) = true by decide
  go_enter Tryd.func29, Tryd.ntmps29
  go_wp2_with fail
  refine CR.mono ?_
  rintro e w' ⟨⟨bo, k, c, rfl, S⟩, C⟩
  rw [if_pos er.out] at S
  have cv := conv_str S
  clear CR S
  go_wp2
  go_ret
  exact ⟨rfl, C⟩
def newT (ns : List Nat) : List EN := ns.map fun c => ⟨c, 0, zRV⟩
set_option maxRecDepth 100000 in
set_option maxHeartbeats 4000000 in
theorem cNew_good (w : World) (ao : Option Addr) (n cap : Nat) (ns : List Nat) (h : NL w ao n cap ns) (hj : jdg ns = 0) :
    Calls Tryd.prog 9 #[.slice ao n cap] w fun e w' => ∃ p g, e = .returned (.tuple #[.pointer (some ⟨p, 0, none⟩), .int .i64 0]) ∧ TS w' p g (newT ns) ∧ w.heap.size ≤ p ∧ w.heap.size ≤ g ∧ Below w.heap.size w w' := by
  have CJ := judge_any w ao n cap ns h
  have hl := h.len
  have hb : 1 ≤ ns.length ∧ ns.length ≤ 8 := by
    unfold jdg at hj
    by_cases q : 1 ≤ ns.length ∧ ns.length ≤ 8 ∧ riseF 0 ns = true
    · exact ⟨q.1, q.2.1⟩
    · rw [if_neg q] at hj
      cases hj
  rw [hj] at CJ
  have B0 : Below w.heap.size w (w.alloc (.cells #[.slice none 0 0] 63)) := (Below.refl _ w).alloc (Nat.le_refl _) _
  have N0 : NewI (w.alloc (.cells #[.slice none 0 0] 63)) w.heap.size (.slice none 0 0) (newT (ns.take 0)) := ⟨heap_alloc_new w _, World.ownsRow_nil _ _ _ _, fun _ h => by simp [newT] at h⟩
  go_enter Tryd.func9, Tryd.ntmps9
  go_wp2_with fail
  refine CJ.mono ?_
  rintro e w' ⟨rfl, hw⟩
  obtain rfl := hw.symm
  clear hw CJ
  go_wp2_with fail
  obtain ⟨w1, hw1⟩ : ∃ W, W = w.alloc (.cells #[.slice none 0 0] 63) := ⟨_, rfl⟩
  obtain ⟨p, hp⟩ : ∃ p, p = w.heap.size := ⟨_, rfl⟩
  rw [← hw1] at B0 N0 ⊢
  rw [← hp] at N0 B0 ⊢
  have hpw : w.heap.size ≤ p := Nat.le_of_eq hp.symm
  have HP : Hid (p = w.heap.size) := hp
  clear hw1 hp
  go_loopw [17] (fun i wr => ∃ (k : Nat) (v : Value), k ≤ n ∧ i = .int .i64 k ∧ NewI wr p v (newT (ns.take k)) ∧ Below p w wr) (fun i _ => n - (intOf i).toNat)
  case atStart => exact ⟨0, _, Nat.zero_le _, rfl, N0, B0⟩
  case round =>
    clear N0 B0
    obtain ⟨k, v, hk, rfl, N, B⟩ := hrel
    by_cases hlt : k < n
    · have hki : (k : Int) < (n : Int) := by omega
      have hkl : k < ns.length := by omega
      obtain ⟨b, off, rfl, hc⟩ := (h.below (B.mono (Nat.le_of_eq HP.out.symm))).at (by omega)
      have c1 := hc k hlt
      have e3 : ns.getD k 0 = ns[k] := by simp [List.getD, hkl]
      rw [e3] at c1
      have hx64 := h.rng ns[k] (List.getElem_mem hkl)
      have HT : Hid (newT (ns.take (k + 1)) = newT (ns.take k) ++ [⟨ns[k], 0, zRV⟩]) := by
        show _ = _
        unfold newT
        rw [List.take_add_one, List.getElem?_eq_getElem hkl, List.map_append]
        rfl
      have hlk : (newT (ns.take k)).length ≤ 8 := by simp [newT]; omega
      obtain ⟨x, hx⟩ : ∃ x, x = ns[k] := ⟨_, rfl⟩
      rw [← hx] at c1 hx64 HT
      clear hx hc e3
      obtain ⟨ao, an, ac, rfl⟩ := N.slice
      obtain ⟨v, hv⟩ : ∃ v, v = Value.slice ao an ac := ⟨_, rfl⟩
      rw [← hv] at N
      go_wp2_with fail
      have E0 : Below wr.heap.size wr wr.drew := (Below.refl _ _).drew
      refine wp_region_noPanic ?_
      refine wp_region_held_drew (S := fun _ => True) (by kernel_rfl) trivial (fun _ => ?_)
      obtain ⟨v0, hv0⟩ : ∃ v, v = wr.drew := ⟨_, rfl⟩
      rw [← hv0] at E0 ⊢
      clear hv0
      refine hr_take_w 0 (some 21) (.pointer (some ⟨p, 0, none⟩)) rfl rfl (by kernel_rfl) (by kernel_rfl) (by kernel_rfl) rfl (fun W hW => by go_simp) trivial ?_
      simp only [FL]
      refine hr_take_w 1 (some 22) (.pointer (some ⟨p, 0, none⟩)) rfl rfl (by kernel_rfl) (by kernel_rfl) (by kernel_rfl) rfl (fun W hW => by go_simp) trivial ?_
      simp only [FL]
      refine hr_take_w 2 (some 23) (.pointer (some ⟨p, 0, none⟩)) rfl rfl (by kernel_rfl) (by kernel_rfl) (by kernel_rfl) rfl (fun W hW => by go_simp) trivial ?_
      simp only [FL]
      refine hr_take_w 3 (some 24) (.pointer (some ⟨p, 0, none⟩)) rfl rfl (by kernel_rfl) (by kernel_rfl) (by kernel_rfl) rfl (fun W hW => by go_simp) trivial ?_
      simp only [FL]
      refine hr_take_w 5 (some 26) (.int .u64 x) rfl rfl (by kernel_rfl) (by kernel_rfl) (by kernel_rfl) rfl (fun W hW => by go_simp) trivial ?_
      simp only [FL]
      refine wpAnyH_effto 4 (fun zi zv zw => (zi = 4 → zv = v) ∧ (zi = 6 → zv = .string (EN.an ⟨x, 0, zRV⟩)) ∧ (zi = 7 → zv = .agg #[.int .u64 x, .int .u64 0, .string (EN.an ⟨x, 0, zRV⟩)]) ∧ (zi = 8 → ∃ g1, zv = .slice (some ⟨g1, 0, none⟩) 1 1 ∧ zw.heap[g1]? = some (.cells #[.int .u64 x, .int .u64 0, .string (EN.an ⟨x, 0, zRV⟩)] 66))) [(4, 25), (6, 27), (7, 28), (8, 29)] 35 (by kernel_rfl) (by decide) (by decide) rfl ?_ (fun _ _ => trivial) ?_ ?_
      · intro zi v w w' h hb
        refine ⟨fun e => ?_, fun e => ?_, fun e => ?_, fun e => ?_⟩
        · have h := h.1 e
          exact h
        · have h := h.2.1 e
          exact h
        · have h := h.2.2.1 e
          exact h
        · have h := h.2.2.2 e
          obtain ⟨g1, h1, h2⟩ := h
          exact ⟨g1, h1, (hb.block g1 (Array.getElem?_eq_some_iff.1 h2).1).trans h2⟩
      · intro zp zhi o a w ho hs hb hdep
        have EB := E0.trans (hb.mono E0.size)
        simp only [List.mem_cons, List.not_mem_nil, or_false] at zhi
        rcases zhi with rfl | rfl | rfl | rfl
        · obtain rfl : _ = o := Option.some.inj (show some _ = some o from ho)
          have t24 : a.tmps[24]? = some (.pointer (some ⟨p, 0, none⟩)) := hs.get 24 (by kernel_rfl) rfl
          have lc := cell_of_row w p 0 _ _ _ (N.below EB).tab
          exact .inl ⟨v, w, by go_simp, ⟨fun _ => rfl, fun e => absurd e (by decide), fun e => absurd e (by decide), fun e => absurd e (by decide)⟩, Below.refl _ _⟩
        · obtain rfl : _ = o := Option.some.inj (show some _ = some o from ho)
          refine .inr ⟨29, #[], by go_simp, (noAnswer_any w).mono ?_⟩
          rintro e w' ⟨rfl, C⟩
          exact ⟨_, rfl, ⟨fun e => absurd e (by decide), fun _ => rfl, fun e => absurd e (by decide), fun e => absurd e (by decide)⟩, C⟩
        · obtain rfl : _ = o := Option.some.inj (show some _ = some o from ho)
          have t26 : a.tmps[26]? = some (.int .u64 x) := hs.get 26 (by kernel_rfl) rfl
          obtain ⟨x27, t27, f27⟩ := (hdep 6 (by kernel_rfl)).at 27 (by kernel_rfl)
          replace f27 := f27.2.1 rfl
          subst f27
          exact .inl ⟨_, w, by go_simp, ⟨fun e => absurd e (by decide), fun e => absurd e (by decide), fun _ => rfl, fun e => absurd e (by decide)⟩, Below.refl _ _⟩
        · obtain rfl : _ = o := Option.some.inj (show some _ = some o from ho)
          obtain ⟨x28, t28, f28⟩ := (hdep 7 (by kernel_rfl)).at 28 (by kernel_rfl)
          replace f28 := f28.2.2.1 rfl
          subst f28
          exact .inl ⟨_, _, by go_simp, ⟨fun e => absurd e (by decide), fun e => absurd e (by decide), fun e => absurd e (by decide), fun _ => ⟨_, rfl, heap_alloc_new w _⟩⟩, (Below.refl _ _).alloc (Nat.le_refl _) _⟩
      intro zf v1 hb hh
      have E1 := E0.trans (hb.mono E0.size)
      obtain e4 := (hh (4, 25) (by simp)).1 rfl
      obtain e6 := (hh (6, 27) (by simp)).2.1 rfl
      obtain e7 := (hh (7, 28) (by simp)).2.2.1 rfl
      obtain ⟨g1, e8, G1⟩ := (hh (8, 29) (by simp)).2.2.2 rfl
      clear hh hb
      simp only [putL, List.foldl_cons, List.foldl_nil, e4, e6, e7, e8]
      clear e4 e6 e7 e8
      simp only [FL]
      have N1 := N.below E1
      obtain ⟨v', W1, ha, T1, N2, B2, -, -, ao2, n2, c2, rfl⟩ := N1.app 61 (cp := 1) (e := ⟨x, 0, zRV⟩) G1 (zRV_ok x hx64) (by omega)
      refine hr_ex 9 (some 30) rfl rfl (by kernel_rfl) rfl (R := fun v w' => (.slice ao2 n2 c2) = v ∧ W1 = w') ⟨_, W1, by simp [execOp, Act.eval, resolve, invoke, builtin, ha], rfl, rfl⟩ ?_
      rintro v w' ⟨rfl, rfl⟩
      refine ⟨trivial, ?_⟩
      simp only [FL]
      refine hr_take_w 10 (some 31) (.pointer (some ⟨p, 0, none⟩)) rfl rfl (by kernel_rfl) (by kernel_rfl) (by kernel_rfl) rfl (fun W hW => by go_simp) trivial ?_
      simp only [FL]
      refine hr_take_w 11 (some 32) (.pointer (some ⟨p, 0, none⟩)) rfl rfl (by kernel_rfl) (by kernel_rfl) (by kernel_rfl) rfl (fun W hW => by go_simp) trivial ?_
      simp only [FL]
      have lc := cell_of_row W1 p 0 _ _ _ T1
      have lf := frozen_of_row W1 p 0 _ _ T1
      refine hr_skip 12 none (w' := W1.setCell ⟨p, 0, none⟩ (.slice ao2 n2 c2)) rfl rfl (by kernel_rfl) rfl (by go_simp) trivial ?_
      simp only [Act.put]
      refine wpAnyH_done (by kernel_rfl) ?_ _
      refine NoPanic.normal ?_
      clear lc lf ha T1 N1 G1
      have B3 := B.trans ((E1.mono (Nat.le_of_lt N.plt)).trans B2)
      obtain ⟨W2, hW2⟩ : ∃ W2, W2 = W1.setCell ⟨p, 0, none⟩ (.slice ao2 n2 c2) := ⟨_, rfl⟩
      rw [← hW2] at N2 B3 ⊢
      clear hW2 B2 E1 N B
      go_wp2
      go_roundw
      case rel =>
        refine ⟨k + 1, .slice ao2 n2 c2, by omega, by go_num, ?_, B3⟩
        rw [HT.out]
        exact N2
      case measure => simp [intOf]; omega
    · have hge : decide ((k : Int) < (n : Int)) = false := by simp; omega
      have N9 : NewI wr p v (newT ns) := by rw [List.take_of_length_le (by omega)] at N; exact N
      obtain ⟨g, T, hg⟩ := N9.done (by simp [newT]; omega) (by simp [newT]; omega)
      clear N N9
      go_wp2
      go_ret2
      exact ⟨p, g, rfl, T, by omega, by omega, by rw [← HP.out]; exact B⟩
open Go.RowKit
theorem belowG {a b c : World} {g : Nat} (h : Below a.heap.size a b) (k : b.grownBy c (some g)) (hg : a.heap.size ≤ g) : Below a.heap.size a c := h.grown k h.size (fun _ e => by cases e; exact hg)
def r7 : RV := ⟨7, [], false⟩
theorem putE_a : putE (newT [1]) 1 5 r7 = ([⟨1, 5, r7⟩], 0) := by rfl
theorem askE_a5 : askE [⟨1, 5, r7⟩] 1 5 = (r7, 0) := by rfl
theorem askE_a4 : askE [⟨1, 5, r7⟩] 1 4 = (zRV, 16) := by rfl
theorem askE_a6 : askE [⟨1, 5, r7⟩] 1 6 = (zRV, 7) := by rfl
set_option maxRecDepth 100000 in
set_option maxHeartbeats 4000000 in
theorem alive12 (w : World) : Calls Tryd.prog 8 #[] w fun e w' => e = .returned (.bool true) ∧ Below w.heap.size w w' := by
  have B0 : Below w.heap.size w (w.alloc (.cells #[.int .u64 1] 34)) := (Below.refl _ w).alloc (Nat.le_refl _) _
  have N0 : NL (w.alloc (.cells #[.int .u64 1] 34)) (some ⟨w.heap.size, 0, none⟩) 1 1 [1] := NL.new w [1] 34 (by decide) (by decide)
  have CN := cNew_good _ _ _ _ _ N0 (by decide)
  go_enter Tryd.func8, Tryd.ntmps8
  go_wp2_with fail
  refine CN.mono ?_
  rintro x w1 ⟨p, g, rfl, T1, hp, hg, C1⟩
  have B1 := B0.trans (C1.mono B0.size)
  have hg1 : w.heap.size ≤ g := Nat.le_trans B0.size hg
  clear CN N0 B0 C1 hp hg
  have CP := cPut_any w1 p g 1 5 _ T1 (by decide) (by decide) 7 none 0 0 [] false (CL.nothing _)
  go_wp2_with fail
  refine CP.mono ?_
  rintro x w2 ⟨rfl, T2, G2⟩
  have e2 : putE (newT [1]) 1 5 (resR 7 [] false) = ([⟨1, 5, r7⟩], 0) := putE_a
  rw [e2] at T2
  rw [e2]
  have B2 := belowG B1 G2 hg1
  clear CP T1 G2 B1 e2 hg1
  simp only at T2
  have C5 := cAsk_any w2 p g 1 5 _ T2
  rw [askE_a5] at C5
  go_wp2_with fail
  refine C5.mono ?_
  rintro x w3 ⟨q, ao, n, cap, cs, m, rfl, -, hq, D3⟩
  have hq7 : q = 7 := by
    have := congrArg RV.e hq
    simpa [r7, resR] using this.symm
  subst hq7
  have T3 := T2.below D3
  have B3 := B2.trans (D3.mono B2.size)
  clear C5 T2 B2 D3 hq
  have A3 : Below w3.heap.size w3 (w3.alloc (.cells #[.int .i64 7, .slice ao n cap, .bool m] 37)) := (Below.refl _ _).alloc (Nat.le_refl _) _
  have K3 : RW (w3.alloc (.cells #[.int .i64 7, .slice ao n cap, .bool m] 37)) w3.heap.size 7 (.slice ao n cap) m := heap_alloc_new _ _
  have C4 := cAsk_any _ p g 1 4 _ (T3.below A3)
  rw [askE_a4] at C4
  have T4 := T3.below A3
  have B4 := B3.trans (A3.mono B3.size)
  unfold resV
  go_wp2_with fail
  obtain ⟨w4, hw4⟩ : ∃ W, W = w3.alloc (.cells #[.int .i64 7, .slice ao n cap, .bool m] 37) := ⟨_, rfl⟩
  obtain ⟨M, hM⟩ : ∃ M, M = w3.heap.size := ⟨_, rfl⟩
  rw [← hw4] at K3 C4 T4 B4 ⊢
  rw [← hM] at K3 ⊢
  clear hw4 hM A3 T3 B3
  refine C4.mono ?_
  rintro x w5 ⟨q5, ao5, n5, cap5, cs5, m5, rfl, -, -, D5⟩
  have T5 := T4.below D5
  have B5 := B4.trans (D5.mono B4.size)
  have K5 : RW w5 M 7 (.slice ao n cap) m := K3.kept (D5.block _ K3.lt)
  clear C4 T4 B4 D5 K3
  have A5 : Below w5.heap.size w5 (w5.alloc (.cells #[.int .i64 q5, .slice ao5 n5 cap5, .bool m5] 37)) := (Below.refl _ _).alloc (Nat.le_refl _) _
  have K6 : RW (w5.alloc (.cells #[.int .i64 q5, .slice ao5 n5 cap5, .bool m5] 37)) M 7 (.slice ao n cap) m := K5.kept (A5.block _ K5.lt)
  have C6 := cAsk_any _ p g 1 6 _ (T5.below A5)
  rw [askE_a6] at C6
  have B6 := B5.trans (A5.mono B5.size)
  unfold resV
  go_wp2_with fail
  obtain ⟨w6, hw6⟩ : ∃ W, W = w5.alloc (.cells #[.int .i64 q5, .slice ao5 n5 cap5, .bool m5] 37) := ⟨_, rfl⟩
  obtain ⟨M2, hM2⟩ : ∃ M, M = w5.heap.size := ⟨_, rfl⟩
  rw [← hw6] at K6 C6 B6 ⊢
  rw [← hM2]
  clear hw6 hM2 A5 T5 B5 K5
  refine C6.mono ?_
  rintro x w7 ⟨q7, ao7, n7, cap7, cs7, m7, rfl, -, -, D7⟩
  have B7 := B6.trans (D7.mono B6.size)
  have K7 : RW w7 M 7 (.slice ao n cap) m := K6.kept (D7.block _ K6.lt)
  clear C6 B6 D7 K6
  have hlt := K7.lt
  have A7 : Below w7.heap.size w7 (w7.alloc (.cells #[.int .i64 q7, .slice ao7 n7 cap7, .bool m7] 37)) := (Below.refl _ _).alloc (Nat.le_refl _) _
  have r0 := K7.c0
  have B8 : Hid (Below w.heap.size w (w7.alloc (.cells #[.int .i64 q7, .slice ao7 n7 cap7, .bool m7] 37))) := B7.trans (A7.mono B7.size)
  clear K7 A7 B7
  unfold resV
  go_wp2
  go_ret
  exact ⟨rfl, B8.out⟩
end Go.Proofs.YtoagkffokfbpfaaDoor

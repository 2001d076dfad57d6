/-
  The reference's Read.
-/
import Derived.Test.YtnicnfjickknjaaGreatDoorTabletItemsZ3
namespace Go.Proofs.YtnicnfjickknjaaGreatDoor
open Go.RowKit

theorem cut_len {b : List Int} {p : List Int × List Int} (h : cutL b = some p) : p.2.length ≤ b.length := by
  have := nm_of_cutL b.length b p.1 p.2 (Nat.le_refl _) h
  rw [this, List.length_append]
  omega
theorem readL_none1 {b : List Int} (h : cutL b = none) : readL b = none := by unfold readL; rw [h]; rfl
theorem readL_none2 {b : List Int} {p : List Int × List Int} (h : cutL b = some p) (h2 : cutL p.2 = none) : readL b = none := by unfold readL; rw [h, Option.bind_some, h2]; rfl
theorem readL_none3 {b : List Int} {p q : List Int × List Int} (h : cutL b = some p) (h2 : cutL p.2 = some q) (h3 : cutL q.2 = none) : readL b = none := by unfold readL; rw [h, Option.bind_some, h2, Option.bind_some, h3]; rfl
theorem readL_some {b : List Int} {p q r : List Int × List Int} (h : cutL b = some p) (h2 : cutL p.2 = some q) (h3 : cutL q.2 = some r) : readL b = if r.2.length = 8 ∧ KV.right ⟨p.1, q.1, r.1, ofBe r.2 0⟩ then some ⟨p.1, q.1, r.1, ofBe r.2 0⟩ else none := by unfold readL; rw [h, Option.bind_some, h2, Option.bind_some, h3, Option.bind_some]
theorem ofBe_append : ∀ (l : List Int) (c : Int) (t : Nat), ofBe (l ++ [c]) t = ofBe l t * 256 + (255 - c).toNat
  | [], c, t => rfl
  | a :: l, c, t => by rw [List.cons_append, ofBe, ofBe, ofBe_append l c]

set_option maxHeartbeats 4000000 in
set_option maxRecDepth 100000 in
theorem rread_any (w : World) (ao : Option Addr) (n cap : Nat) (xs : List Int) (h : Sl w ao n cap xs) (hn : n ≤ 1000000) :
    Calls Tryz.prog 38 #[.slice ao n cap] w fun e w' => ReadPost e (readL xs) ∧ Below w.heap.size w w' := by
  have k1 : KyC (w.alloc (.cells #[.string ⟨#[]⟩, .string ⟨#[]⟩, .string ⟨#[]⟩, .int .u64 0] 24)) w.heap.size zeroK := heap_alloc_new w _
  have B1 : Below w.heap.size w (w.alloc (.cells #[.string ⟨#[]⟩, .string ⟨#[]⟩, .string ⟨#[]⟩, .int .u64 0] 24)) := (Below.refl _ w).alloc (Nat.le_refl _) _
  have S1 := h.below B1
  have hlx := h.len
  obtain ⟨N, hN⟩ : ∃ N, N = w.heap.size := ⟨_, rfl⟩
  go_enter Tryz.func38, Tryz.ntmps38
  go_wp2_with fail
  refine (rcut_any _ ao n cap xs S1 hn).mono ?_
  obtain ⟨w1, hw1⟩ : ∃ W, W = (w.alloc (.cells #[.string ⟨#[]⟩, .string ⟨#[]⟩, .string ⟨#[]⟩, .int .u64 0] 24)) := ⟨_, rfl⟩
  rw [← hw1] at k1 B1 ⊢
  rw [← hN] at k1 B1 ⊢
  have HN : Hid (N = w.heap.size) := hN
  clear hN hw1 S1
  rintro e w2 ⟨P, C⟩
  have B2 := B1.trans (C.mono (by have := B1.size; have := HN.out; omega))
  have k2 := k1.keep C
  clear C B1 k1
  cases h1 : cutL xs with
  | none =>
    have HR : Hid (readL xs = none) := readL_none1 h1
    rw [h1] at P
    obtain rfl : e = .returned (.tuple #[.string ⟨#[]⟩, .slice none 0 0, .bool false]) := P
    clear h1
    go_wp2_with fail
    refine (rcut_any w2 none 0 0 [] (Sl.nothing _) (by omega)).mono ?_
    rintro e w3 ⟨P, C⟩
    have B3 := B2.trans (C.mono (by have := B2.size; have := HN.out; omega))
    have k3 := k2.keep C
    obtain rfl : e = .returned (.tuple #[.string ⟨#[]⟩, .slice none 0 0, .bool false]) := P
    clear C k2 B2
    go_wp2_with fail
    refine (rcut_any w3 none 0 0 [] (Sl.nothing _) (by omega)).mono ?_
    rintro e w4 ⟨P, C⟩
    have B4 := B3.trans (C.mono (by have := B3.size; have := HN.out; omega))
    have k4 := k3.keep C
    obtain rfl : e = .returned (.tuple #[.string ⟨#[]⟩, .slice none 0 0, .bool false]) := P
    clear C k3 B3
    have r0 := k4.c0
    have f0 : w4.frozen? ⟨N, 0, none⟩ = false := frozen_of_row w4 N 0 _ _ k4
    have r1 := k4.c1
    have f1 : w4.frozen? ⟨N, 1, none⟩ = false := frozen_of_row w4 N 1 _ _ k4
    have r2 := k4.c2
    have f2 : w4.frozen? ⟨N, 2, none⟩ = false := frozen_of_row w4 N 2 _ _ k4
    have r3 := k4.c3
    have f3 : w4.frozen? ⟨N, 3, none⟩ = false := frozen_of_row w4 N 3 _ _ k4
    have BX : Below N w ((((w4.setCell ⟨N, 0, none⟩ (.string ⟨#[]⟩)).setCell ⟨N, 1, none⟩ (.string ⟨#[]⟩)).setCell ⟨N, 2, none⟩ (.string ⟨#[]⟩)).setCell ⟨N, 3, none⟩ (.int .u64 0)) := (((B4.setCell (Nat.le_refl _) _).setCell (Nat.le_refl _) _).setCell (Nat.le_refl _) _).setCell (Nat.le_refl _) _
    go_wp2
    exact bodyPost_ret (v := .tuple #[zeroK.val, .int .i64 5]) (by unfold KA.val zeroK; simp [results, Tryz.results38, go_sem, r0, r1, r2, r3]) rfl ⟨by rw [HR.out]; rfl, by rw [← HN.out]; exact BX⟩
  | some p =>
    have lp := cut_len h1
    rw [h1] at P
    obtain ⟨st1, bo1, m1, c1, rfl, hs1, S2⟩ := P
    have l1 := S2.len
    have HS1 : Hid (sb st1 = p.1) := hs1
    clear hs1
    go_wp2_with fail
    refine (rcut_any w2 bo1 m1 c1 p.2 S2 (by omega)).mono ?_
    rintro e w3 ⟨P, C⟩
    have B3 := B2.trans (C.mono (by have := B2.size; have := HN.out; omega))
    have k3 := k2.keep C
    clear k2 B2 C S2
    cases h2 : cutL p.2 with
    | none =>
      have HR : Hid (readL xs = none) := readL_none2 h1 h2
      rw [h2] at P
      obtain rfl : e = .returned (.tuple #[.string ⟨#[]⟩, .slice none 0 0, .bool false]) := P
      clear h1 h2
      go_wp2_with fail
      refine (rcut_any w3 none 0 0 [] (Sl.nothing _) (by omega)).mono ?_
      rintro e w4 ⟨P, C⟩
      have B4 := B3.trans (C.mono (by have := B3.size; have := HN.out; omega))
      have k4 := k3.keep C
      obtain rfl : e = .returned (.tuple #[.string ⟨#[]⟩, .slice none 0 0, .bool false]) := P
      clear C k3 B3
      have r0 := k4.c0
      have f0 : w4.frozen? ⟨N, 0, none⟩ = false := frozen_of_row w4 N 0 _ _ k4
      have r1 := k4.c1
      have f1 : w4.frozen? ⟨N, 1, none⟩ = false := frozen_of_row w4 N 1 _ _ k4
      have r2 := k4.c2
      have f2 : w4.frozen? ⟨N, 2, none⟩ = false := frozen_of_row w4 N 2 _ _ k4
      have r3 := k4.c3
      have f3 : w4.frozen? ⟨N, 3, none⟩ = false := frozen_of_row w4 N 3 _ _ k4
      have BX : Below N w ((((w4.setCell ⟨N, 0, none⟩ (.string ⟨#[]⟩)).setCell ⟨N, 1, none⟩ (.string ⟨#[]⟩)).setCell ⟨N, 2, none⟩ (.string ⟨#[]⟩)).setCell ⟨N, 3, none⟩ (.int .u64 0)) := (((B4.setCell (Nat.le_refl _) _).setCell (Nat.le_refl _) _).setCell (Nat.le_refl _) _).setCell (Nat.le_refl _) _
      go_wp2
      exact bodyPost_ret (v := .tuple #[zeroK.val, .int .i64 5]) (by unfold KA.val zeroK; simp [results, Tryz.results38, go_sem, r0, r1, r2, r3]) rfl ⟨by rw [HR.out]; rfl, by rw [← HN.out]; exact BX⟩
    | some q =>
      have lq := cut_len h2
      rw [h2] at P
      obtain ⟨st2, bo2, m2, c2, rfl, hs2, S3⟩ := P
      have l2 := S3.len
      have HS2 : Hid (sb st2 = q.1) := hs2
      clear hs2
      go_wp2_with fail
      refine (rcut_any w3 bo2 m2 c2 q.2 S3 (by omega)).mono ?_
      rintro e w4 ⟨P, C⟩
      have B4 := B3.trans (C.mono (by have := B3.size; have := HN.out; omega))
      have k4 := k3.keep C
      clear k3 B3 C S3
      cases h3 : cutL q.2 with
      | none =>
        have HR : Hid (readL xs = none) := readL_none3 h1 h2 h3
        rw [h3] at P
        obtain rfl : e = .returned (.tuple #[.string ⟨#[]⟩, .slice none 0 0, .bool false]) := P
        clear h1 h2 h3
        have r0 := k4.c0
        have f0 : w4.frozen? ⟨N, 0, none⟩ = false := frozen_of_row w4 N 0 _ _ k4
        have r1 := k4.c1
        have f1 : w4.frozen? ⟨N, 1, none⟩ = false := frozen_of_row w4 N 1 _ _ k4
        have r2 := k4.c2
        have f2 : w4.frozen? ⟨N, 2, none⟩ = false := frozen_of_row w4 N 2 _ _ k4
        have r3 := k4.c3
        have f3 : w4.frozen? ⟨N, 3, none⟩ = false := frozen_of_row w4 N 3 _ _ k4
        have BX : Below N w ((((w4.setCell ⟨N, 0, none⟩ (.string ⟨#[]⟩)).setCell ⟨N, 1, none⟩ (.string ⟨#[]⟩)).setCell ⟨N, 2, none⟩ (.string ⟨#[]⟩)).setCell ⟨N, 3, none⟩ (.int .u64 0)) := (((B4.setCell (Nat.le_refl _) _).setCell (Nat.le_refl _) _).setCell (Nat.le_refl _) _).setCell (Nat.le_refl _) _
        go_wp2
        exact bodyPost_ret (v := .tuple #[zeroK.val, .int .i64 5]) (by unfold KA.val zeroK; simp [results, Tryz.results38, go_sem, r0, r1, r2, r3]) rfl ⟨by rw [HR.out]; rfl, by rw [← HN.out]; exact BX⟩
      | some r =>
        have hrd := readL_some h1 h2 h3
        rw [h3] at P
        obtain ⟨st3, bo3, m3, c3, rfl, hs3, S4⟩ := P
        have l3 := S4.len
        rw [← HS1.out, ← HS2.out, ← hs3] at hrd
        obtain ⟨p3, ys⟩ := r
        have hrd : readL xs = if ys.length = 8 ∧ KV.right ⟨sb st1, sb st2, sb st3, ofBe ys 0⟩ then some ⟨sb st1, sb st2, sb st3, ofBe ys 0⟩ else none := hrd
        have S4 : Sl w4 bo3 m3 c3 ys := S4
        have l3 : ys.length = m3 := l3
        have HRD : Hid (readL xs = if ys.length = 8 ∧ KV.right ⟨sb st1, sb st2, sb st3, ofBe ys 0⟩ then some ⟨sb st1, sb st2, sb st3, ofBe ys 0⟩ else none) := hrd
        clear h1 h2 h3 hrd hs3 HS1 HS2 l1 l2 lp lq
        by_cases h8 : m3 = 8
        · subst h8
          obtain ⟨b2, off2, rfl, hcell0⟩ := S4.at (by omega)
          have hcell : Hid (∀ i, i < 8 → w4.cell? ⟨b2, off2 + i, none⟩ = some (.int .u8 (ys.getD i 0))) := hcell0
          clear hcell0
          have HY : Hid (Byt ys) := S4.byte
          go_wp2_with fail
          go_loopw [11, 12] (fun lk i wr => wr = w4 ∧ ∃ j : Nat, j ≤ 8 ∧ i = .int .i64 j ∧ lk = .int .u64 (ofBe (ys.take j) 0)) (fun _ i _ => 8 - (intOf i).toNat)
          case atStart => exact ⟨rfl, 0, by omega, rfl, rfl⟩
          case round =>
            obtain ⟨rfl, j, hj, rfl, rfl⟩ := hrel
            by_cases l : j < 8
            · have il : (j : Int) < 8 := by omega
              obtain ⟨x, hx⟩ : ∃ x : Nat, x = (ys.getD j 0).toNat := ⟨_, rfl⟩
              have hxb := HY.out.at j
              have hxe : ys.getD j 0 = (x : Int) := by rw [hx, Int.toNat_of_nonneg]; simpa [List.getD] using hxb.1
              have hx8 : x < 256 := by
                have : ys.getD j 0 ≤ 255 := by simpa [List.getD] using hxb.2
                omega
              have hx5 : (x : Int) ≤ 255 := by omega
              have cj := hcell.out j l
              rw [hxe] at cj
              have hjl : j < ys.length := by omega
              have htk : Hid (ofBe (ys.take (j + 1)) 0 = ofBe (ys.take j) 0 * 256 + (255 - x)) := by
                show _ = _
                rw [List.take_succ_eq_append_getElem hjl, ofBe_append]
                have e2 : ys[j] = (x : Int) := by rw [← hxe]; simp [List.getD, hjl]
                rw [e2]
                omega
              have hlt : ofBe (ys.take j) 0 < 256 ^ j := by
                have := ofBe_lt (ys.take j) (HY.out.take j) 0
                rw [List.length_take, Nat.min_eq_left (by omega)] at this
                omega
              have hlt2 : 256 ^ j ≤ 72057594037927936 := Nat.le_trans (Nat.pow_le_pow_right (by omega) (show j ≤ 7 by omega)) (by decide)
              obtain ⟨L, hL⟩ : ∃ L, L = ofBe (ys.take j) 0 := ⟨_, rfl⟩
              rw [← hL] at htk hlt ⊢
              have L7 : L < 72057594037927936 := by omega
              clear hL hlt hlt2 hx hxb hxe
              go_wp2
              go_roundw
              case rel => exact ⟨trivial, j + 1, by omega, by go_num, by rw [htk.out] <;> go_num⟩
              case measure => simp [intOf]; omega
            · obtain rfl : j = 8 := by omega
              have htk : ys.take 8 = ys := List.take_of_length_le (by omega)
              rw [htk]
              obtain ⟨T, hT⟩ : ∃ T, T = ofBe ys 0 := ⟨_, rfl⟩
              have hT2 : T < 18446744073709551616 := by
                have := ofBe_lt ys HY.out 0
                rw [l3] at this
                rw [hT]
                simpa using this
              rw [← hT]
              have HT : Hid (T = ofBe ys 0) := hT
              clear hT htk hcell
              obtain ⟨k, hk⟩ : ∃ k : KA, k = ⟨st1, st2, st3, T⟩ := ⟨_, rfl⟩
              have k5 : KyC (wr.alloc (.cells #[.string st1, .string st2, .string st3, .int .u64 T] 24)) wr.heap.size k := by rw [hk]; exact heap_alloc_new wr _
              have z5 := k4.alloc (.cells #[.string st1, .string st2, .string st3, .int .u64 T] 24)
              have B5 := B4.alloc (by have := k4.lt; omega) (.cells #[.string st1, .string st2, .string st3, .int .u64 T] 24)
              have HV : Hid (k.val = .agg #[.string st1, .string st2, .string st3, .int .u64 T]) := by rw [hk]; rfl
              have HKV : Hid (k.kv = ⟨sb st1, sb st2, sb st3, ofBe ys 0⟩) := by rw [hk, ← HT.out]; rfl
              have HR : Hid (readL xs = if k.isRight = true then some k.kv else none) := by
                show _ = _
                rw [HRD.out, KA.isRight_kv, HKV.out]
                by_cases hr : KV.right ⟨sb st1, sb st2, sb st3, ofBe ys 0⟩
                · rw [if_pos ⟨l3, hr⟩, decide_eq_true hr]; rfl
                · rw [if_neg (fun h => hr h.2), decide_eq_false hr]; rfl
              have HOK : Hid (k.isRight = true → k.ok) := fun hr => by
                have hsz := of_decide_eq_true hr
                have ht : k.time = T := by rw [hk]
                exact ⟨by unfold maxLen; omega, by unfold maxLen; omega, by unfold maxLen; omega, by omega⟩
              obtain ⟨P, hP⟩ : ∃ P, P = wr.heap.size := ⟨_, rfl⟩
              have hPN : N < P := by rw [hP]; exact k4.lt
              go_wp2_with fail
              rw [← HV.out]
              refine (rright_any _ k).mono ?_
              rintro e w6 ⟨rfl, C⟩
              have k6 := k5.keep C
              have z6 := z5.keep C
              have B6 := B5.trans (C.mono (by have := B5.size; have := HN.out; omega))
              rw [← hP] at k6 ⊢
              clear C k5 z5 B5 k4 B4 hP HRD
              rw [HV.out]
              have r0 := z6.c0
              have f0 : w6.frozen? ⟨N, 0, none⟩ = false := frozen_of_row w6 N 0 _ _ z6
              have r1 := z6.c1
              have f1 : w6.frozen? ⟨N, 1, none⟩ = false := frozen_of_row w6 N 1 _ _ z6
              have r2 := z6.c2
              have f2 : w6.frozen? ⟨N, 2, none⟩ = false := frozen_of_row w6 N 2 _ _ z6
              have r3 := z6.c3
              have f3 : w6.frozen? ⟨N, 3, none⟩ = false := frozen_of_row w6 N 3 _ _ z6
              by_cases hr : k.isRight = true
              · have hk0 : k.kind = 0 := by unfold KA.kind; rw [hr]; rfl
                have HR2 : Hid (readL xs = some k.kv) := by rw [HR.out, if_pos hr]; rfl
                have ok := HOK.out hr
                have p0 : w6.cell? ⟨P, 0, none⟩ = some (.string st1) := by have := k6.c0; rwa [hk] at this
                have p1 : w6.cell? ⟨P, 1, none⟩ = some (.string st2) := by have := k6.c1; rwa [hk] at this
                have p2 : w6.cell? ⟨P, 2, none⟩ = some (.string st3) := by have := k6.c2; rwa [hk] at this
                have p3 : w6.cell? ⟨P, 3, none⟩ = some (.int .u64 T) := by have := k6.c3; rwa [hk] at this
                rw [hk0]
                clear hk0 HR HOK hr hk
                have BX : Below N w ((((w6.setCell ⟨N, 0, none⟩ (.string st1)).setCell ⟨N, 1, none⟩ (.string st2)).setCell ⟨N, 2, none⟩ (.string st3)).setCell ⟨N, 3, none⟩ (.int .u64 T)) := (((B6.setCell (Nat.le_refl _) _).setCell (Nat.le_refl _) _).setCell (Nat.le_refl _) _).setCell (Nat.le_refl _) _
                go_wp2
                exact bodyPost_ret (v := .tuple #[.agg #[.string st1, .string st2, .string st3, .int .u64 T], .int .i64 0]) (by simp [results, Tryz.results38, go_sem, r0, r1, r2, r3]) rfl ⟨by rw [HR2.out]; exact ⟨k, by rw [HV.out], rfl, ok⟩, by rw [← HN.out]; exact BX⟩
              · have hk0 : k.kind = 5 := by unfold KA.kind; rw [if_neg hr]
                have HR2 : Hid (readL xs = none) := by rw [HR.out, if_neg hr]; rfl
                rw [hk0]
                clear hk0 HR HOK hr hk
                have BX : Below N w ((((w6.setCell ⟨N, 0, none⟩ (.string ⟨#[]⟩)).setCell ⟨N, 1, none⟩ (.string ⟨#[]⟩)).setCell ⟨N, 2, none⟩ (.string ⟨#[]⟩)).setCell ⟨N, 3, none⟩ (.int .u64 0)) := (((B6.setCell (Nat.le_refl _) _).setCell (Nat.le_refl _) _).setCell (Nat.le_refl _) _).setCell (Nat.le_refl _) _
                go_wp2
                exact bodyPost_ret (v := .tuple #[zeroK.val, .int .i64 5]) (by unfold KA.val zeroK; simp [results, Tryz.results38, go_sem, r0, r1, r2, r3]) rfl ⟨by rw [HR2.out]; rfl, by rw [← HN.out]; exact BX⟩
        · have HR : Hid (readL xs = none) := by rw [HRD.out, if_neg (fun h => h8 (by rw [← l3]; exact h.1))]; rfl
          have e8 : ((m3 : Int) == 8) = false := by simp; omega
          have e9 : ((m3 : Int) != 8) = true := by simp; omega
          clear HRD
          have r0 := k4.c0
          have f0 : w4.frozen? ⟨N, 0, none⟩ = false := frozen_of_row w4 N 0 _ _ k4
          have r1 := k4.c1
          have f1 : w4.frozen? ⟨N, 1, none⟩ = false := frozen_of_row w4 N 1 _ _ k4
          have r2 := k4.c2
          have f2 : w4.frozen? ⟨N, 2, none⟩ = false := frozen_of_row w4 N 2 _ _ k4
          have r3 := k4.c3
          have f3 : w4.frozen? ⟨N, 3, none⟩ = false := frozen_of_row w4 N 3 _ _ k4
          have BX : Below N w ((((w4.setCell ⟨N, 0, none⟩ (.string ⟨#[]⟩)).setCell ⟨N, 1, none⟩ (.string ⟨#[]⟩)).setCell ⟨N, 2, none⟩ (.string ⟨#[]⟩)).setCell ⟨N, 3, none⟩ (.int .u64 0)) := (((B4.setCell (Nat.le_refl _) _).setCell (Nat.le_refl _) _).setCell (Nat.le_refl _) _).setCell (Nat.le_refl _) _
          go_wp2
          exact bodyPost_ret (v := .tuple #[zeroK.val, .int .i64 5]) (by unfold KA.val zeroK; simp [results, Tryz.results38, go_sem, r0, r1, r2, r3]) rfl ⟨by rw [HR.out]; rfl, by rw [← HN.out]; exact BX⟩
end Go.Proofs.YtnicnfjickknjaaGreatDoor

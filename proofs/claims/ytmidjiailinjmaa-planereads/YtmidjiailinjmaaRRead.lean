/-
  The reference's Read.
-/
import Derived.Test.YtmidjiailinjmaaRIs
namespace Go.Proofs.Ytmidjiailinjmaa
open Go.RowKit

def RrPost (e : Ending) : Option (Nat × Nat) → Prop
  | none => ∃ x y : Int, e = .returned (.tuple #[.agg #[.int .i64 x, .int .i64 y], .bool false])
  | some p => e = .returned (.tuple #[.agg #[.int .i64 ((p.1 : Int) - 1048576), .int .i64 ((p.2 : Int) - 1048576)], .bool true])

theorem rd_bound (row : ByteArray) (j : Nat) (h7 : row.size = 7) (hj : j < 6) : beN (((sb row).drop 1).take j) 0 < 1099511627776 := by
  have hlt := beN_lt (((sb row).drop 1).take j) (((sb_byte row).drop 1).take j) 0
  have hl : (((sb row).drop 1).take j).length = j := by rw [List.length_take, List.length_drop, sb_len]; omega
  rw [hl] at hlt
  have hp : 256 ^ j ≤ 256 ^ 5 := Nat.pow_le_pow_right (by omega) (by omega)
  omega
theorem rd_next (row : ByteArray) (j : Nat) (h : 1 + j < row.size) : beN (((sb row).drop 1).take (j + 1)) 0 = beN (((sb row).drop 1).take j) 0 * 256 + row[1 + j].toNat := by
  rw [rd_take row j h, beN_append]
  rfl

theorem wrap64_small (n : Int) (h0 : 0 ≤ n) (h1 : n < 9223372036854775808) : wrap64 n = n := by
  unfold wrap64
  omega
theorem ref_step (Z N m e : Nat) (he : N / 2 ^ e = Z / 4 ^ m) (hN : N < 18446744073709551616) (hm : m < 22) : wrap64 (((gat (22 - (m + 1)) (Z / 4 ^ (m + 1)) : Nat) : Int) * 2 + wrap64 (bits BinOp.and IntKind.u64 ((N : Int) / 2 ^ e) 1)) = ((gat (22 - m) (Z / 4 ^ m) : Nat) : Int) := by
  rw [bit_at N e hN, he]
  obtain ⟨q, hq⟩ : ∃ q, 22 - m = q + 1 := ⟨21 - m, by omega⟩
  have hz : Z / 4 ^ (m + 1) = Z / 4 ^ m / 4 := by rw [Nat.pow_succ, Nat.div_div_eq_div_mul]
  rw [hq, show 22 - (m + 1) = q by omega, gat, hz]
  have hl := gat_lt q (Z / 4 ^ m / 4)
  have hp : 2 ^ q ≤ 2 ^ 22 := Nat.pow_le_pow_right (by omega) (by omega)
  have hp2 : (2 : Nat) ^ 22 = 4194304 := rfl
  generalize gat q (Z / 4 ^ m / 4) = G at *
  have hb : Z / 4 ^ m % 2 < 2 := Nat.mod_lt _ (by omega)
  generalize Z / 4 ^ m % 2 = b at *
  rw [wrap64_small (b : Int) (by omega) (by omega), wrap64_small _ (by omega) (by omega)]
  omega
theorem ref_bound (Z k : Nat) : gat (22 - k) Z < 4194304 := by
  have hl := gat_lt (22 - k) Z
  have hp : 2 ^ (22 - k) ≤ 2 ^ 22 := Nat.pow_le_pow_right (by omega) (by omega)
  have hp2 : (2 : Nat) ^ 22 = 4194304 := rfl
  omega
theorem ref_px (N m : Nat) : N / 2 ^ (2 * m + 1) = N / 2 / 4 ^ m := by
  rw [Nat.div_div_eq_div_mul, Nat.pow_succ, Nat.pow_mul, Nat.mul_comm]
theorem ref_py (N m : Nat) : N / 2 ^ (2 * m) = N / 4 ^ m := by rw [Nat.pow_mul]

set_option maxHeartbeats 2000000 in
set_option maxRecDepth 100000 in
theorem rread_any (w : World) (row : ByteArray) :
    Calls Try.prog 6 #[.string row] w fun e w' => RrPost e (rdL (sb row)) ∧ Below w.heap.size w w' := by
  have k1 : PC (w.alloc (.cells #[.int .i64 0, .int .i64 0] 28)) w.heap.size 0 0 := heap_alloc_new w _
  have B1 : Below w.heap.size w (w.alloc (.cells #[.int .i64 0, .int .i64 0] 28)) := (Below.refl _ w).alloc (Nat.le_refl _) _
  by_cases h7 : row.size = 7
  · have hz : (row.size : Int) = 7 := by omega
    have h0 : (0 : Int) < row.size := by omega
    by_cases hp : row[0].toNat = 112
    · have hp2 : ((row[0].toNat : Int) != 112) = false := by simp; omega
      go_enter Try.func6, Try.ntmps6
      go_wp2_with fail
      obtain ⟨w1, hw1⟩ : ∃ W, W = w.alloc (.cells #[.int .i64 0, .int .i64 0] 28) := ⟨_, rfl⟩
      rw [← hw1] at k1 B1 ⊢
      have HP : Hid ((sb row).getD 0 0 = 112) := by
        have h0 : 0 < (sb row).length := by rw [sb_len]; omega
        show _ = _
        rw [List.getD_eq_getElem?_getD, List.getElem?_eq_getElem h0, Option.getD_some]
        simp [sb]
        rw [ByteArray.getElem_eq_getElem_data] at hp
        omega
      clear hw1 hp hp2
      obtain ⟨M, hM⟩ : ∃ M, M = w.heap.size := ⟨_, rfl⟩
      rw [← hM] at k1 B1 ⊢
      have HM : Hid (M = w.heap.size) := hM
      clear hM
      go_loopw [4, 5] (fun x i wr => wr = w1 ∧ ∃ k : Nat, 1 ≤ k ∧ k ≤ 7 ∧ i = .int .i64 k ∧ x = .int .u64 (beN (((sb row).drop 1).take (k - 1)) 0 : Nat)) (fun _ i _ => 7 - (intOf i).toNat)
      case atStart => exact ⟨rfl, 1, by omega, by omega, rfl, rfl⟩
      case round =>
        obtain ⟨rfl, k, hk1, hk, rfl, rfl⟩ := hrel
        by_cases l : k < 7
        · have il : (k : Int) < 7 := by omega
          have i1 : (k : Int) < row.size := by omega
          have hkr : k < row.size := by omega
          have hlt := rd_bound row (k - 1) h7 (by omega)
          have hnx : beN (((sb row).drop 1).take k) 0 = beN (((sb row).drop 1).take (k - 1)) 0 * 256 + row[k].toNat := by
            obtain ⟨j, rfl⟩ : ∃ j, k = 1 + j := ⟨k - 1, by omega⟩
            have := rd_next row j hkr
            rw [show 1 + j - 1 = j by omega, ← this, Nat.add_comm 1 j]
          have hb : row[k].toNat < 256 := by have := row[k].toNat_lt; omega
          obtain ⟨G, hG⟩ : ∃ G, G = beN (((sb row).drop 1).take (k - 1)) 0 := ⟨_, rfl⟩
          rw [← hG] at hlt hnx ⊢
          have HX : Hid (beN (((sb row).drop 1).take k) 0 = G * 256 + row[k].toNat) := hnx
          clear hG hnx
          have hg : (G : Int) < 1099511627776 := by omega
          have hb2 : (row[k].toNat : Int) < 256 := by omega
          clear hlt hb
          go_wp2
          go_roundw
          case rel => exact ⟨trivial, k + 1, by omega, by omega, by go_num, by rw [Nat.add_sub_cancel, HX.out]; go_num⟩
          case measure => simp [intOf]; omega
        · obtain rfl : k = 7 := by omega
          rw [show 7 - 1 = 6 from rfl, rd_end row h7]
          obtain ⟨N, hN⟩ : ∃ N, N = beN ((sb row).drop 1) 0 := ⟨_, rfl⟩
          have hlt : N < 281474976710656 := by rw [hN]; exact rd_lt row h7
          have HN : Hid (N = beN ((sb row).drop 1) 0) := hN
          rw [← hN]
          clear hN hk1 hk l
          by_cases hq : N < 17592186044416
          · have hq2 : (N : Int) < 17592186044416 := by omega
            clear hlt hq h0
            have hq3 : ¬ (17592186044416 : Int) ≤ (N : Int) := by omega
            clear hq2
            go_wp2_with fail
            go_loopw [6, 7, 8] (fun x y i wr2 => wr2 = wr ∧ ∃ k : Nat, k ≤ 22 ∧ i = .int .i64 ((k : Int) - 1) ∧ x = .int .i64 (gat (22 - k) (N / 2 / 4 ^ k) : Nat) ∧ y = .int .i64 (gat (22 - k) (N / 4 ^ k) : Nat)) (fun _ _ i _ => (intOf i + 1).toNat)
            case atStart => exact ⟨rfl, 22, by omega, rfl, rfl, rfl⟩
            case round =>
              obtain ⟨rfl, k, hk, rfl, rfl, rfl⟩ := hrel
              rcases Nat.eq_zero_or_pos k with hk0 | hk0
              · subst hk0
                rw [Nat.pow_zero, Nat.div_one, Nat.div_one, show 22 - 0 = 22 from rfl]
                obtain ⟨X, hX⟩ : ∃ X, X = gat 22 (N / 2) := ⟨_, rfl⟩
                obtain ⟨Y, hY⟩ : ∃ Y, Y = gat 22 N := ⟨_, rfl⟩
                have hXl : (X : Int) < 4194304 := by have := ref_bound (N / 2) 0; rw [show 22 - 0 = 22 from rfl] at this; omega
                have hYl : (Y : Int) < 4194304 := by have := ref_bound N 0; rw [show 22 - 0 = 22 from rfl] at this; omega
                rw [← hX, ← hY]
                have HXY : Hid (X = gat 22 (N / 2) ∧ Y = gat 22 N) := ⟨hX, hY⟩
                clear hX hY hk
                go_wp2_with fail
                have HR : Hid (rdL (sb row) = if X ≤ 2097152 ∧ Y ≤ 2097152 then some (X, Y) else none) := by
                  have hx := HXY.out.1
                  have hy := HXY.out.2
                  show _ = _
                  unfold rdL
                  rw [← HN.out, ← hx, ← hy, sb_len, HP.out]
                  simp [h7, show N < 17592186044416 by omega]
                have HI : Hid ((inP ((X : Int) - 1048576) && inP ((Y : Int) - 1048576)) = decide (X ≤ 2097152 ∧ Y ≤ 2097152)) := by
                  have e1 : inP ((X : Int) - 1048576) = decide (X ≤ 2097152) := decide_eq_decide.2 (by omega)
                  have e2 : inP ((Y : Int) - 1048576) = decide (Y ≤ 2097152) := decide_eq_decide.2 (by omega)
                  show _ = _
                  rw [e1, e2, Bool.decide_and]
                obtain ⟨m, hm⟩ : ∃ m, m = (X : Int) - 1048576 := ⟨_, rfl⟩
                obtain ⟨n, hn⟩ : ∃ n, n = (Y : Int) - 1048576 := ⟨_, rfl⟩
                have HMN : Hid ((X : Int) - 1048576 = m ∧ (Y : Int) - 1048576 = n) := ⟨hm.symm, hn.symm⟩
                rw [← hm, ← hn] at HI ⊢
                clear hm hn HXY
                have q2 : PC (wr.alloc (.cells #[.int .i64 m, .int .i64 n] 28)) wr.heap.size m n := heap_alloc_new wr _
                have hlt1 := k1.lt
                have k2 : PC (wr.alloc (.cells #[.int .i64 m, .int .i64 n] 28)) M 0 0 := k1.keep ((Below.refl _ wr).alloc (Nat.le_refl _) _)
                have B2 : Below M w (wr.alloc (.cells #[.int .i64 m, .int .i64 n] 28)) := B1.alloc (by omega) _
                obtain ⟨P, hP⟩ : ∃ P, P = wr.heap.size := ⟨_, rfl⟩
                obtain ⟨w3, hw3⟩ : ∃ W, W = wr.alloc (.cells #[.int .i64 m, .int .i64 n] 28) := ⟨_, rfl⟩
                rw [← hw3] at q2 k2 B2 ⊢
                rw [← hP] at q2 ⊢
                have hMP : M ≠ P := by omega
                clear hw3 hP k1 B1 hlt1
                refine wp_region_noPanic ?_
                refine wp_region_held_drew (S := fun V => PC V P m n) (by kernel_rfl) (show PC w3.drew P m n from q2) (fun H0 => ?_)
                obtain ⟨v0, hv0⟩ : ∃ v, v = w3.drew := ⟨_, rfl⟩
                have k3 : PC v0 M 0 0 := by rw [hv0]; exact k2
                have B3 : Below M w v0 := by rw [hv0]; exact B2.drew
                rw [← hv0] at H0 ⊢
                clear hv0 k2 B2 q2
                refine hr_take 0 (some 63) (.agg #[.int .i64 m, .int .i64 n]) rfl rfl (by kernel_rfl) (by kernel_rfl) (by kernel_rfl) rfl (fun W hW => by have h0 := PC.c0 hW; have h1 := PC.c1 hW; go_simp) H0 ?_
                simp only [Act.put, List.setIfInBounds_toArray, List.set_cons_zero, List.set_cons_succ]
                refine hr_take 1 (some 64) (.agg #[.int .i64 m, .int .i64 n]) rfl rfl (by kernel_rfl) (by kernel_rfl) (by kernel_rfl) rfl (fun W hW => by have h0 := PC.c0 hW; have h1 := PC.c1 hW; go_simp) H0 ?_
                simp only [Act.put, List.setIfInBounds_toArray, List.set_cons_zero, List.set_cons_succ]
                refine hr_call 2 (some 65) 11 #[.agg #[.int .i64 m, .int .i64 n]] rfl rfl (by kernel_rfl) rfl (by go_simp) (fun v w' => v = .bool (inP m && inP n) ∧ Below v0.heap.size v0 w') ((ris_any v0 m n).mono (by
                  rintro e w' ⟨rfl, C⟩
                  exact ⟨_, rfl, rfl, C⟩)) ?_
                rintro v v1 ⟨rfl, C⟩
                have H1 : PC v1 P m n := PC.keep H0 C
                have k4 := k3.keep C
                have B4 := B3.trans (C.mono (by have := k3.lt; omega))
                clear C k3 B3 H0
                refine ⟨H1, ?_⟩
                simp only [Act.put, List.setIfInBounds_toArray, List.set_cons_zero, List.set_cons_succ]
                have r0 := k4.c0
                have r1 := k4.c1
                have f0 := k4.free 0
                have f1 := k4.free 1
                obtain ⟨v2, hv2⟩ : ∃ v, v = (v1.setCell ⟨M, 0, none⟩ (.int .i64 m)).setCell ⟨M, 1, none⟩ (.int .i64 n) := ⟨_, rfl⟩
                have H2 : PC v2 P m n := by rw [hv2]; exact ((heap_setCell_other _ _ _ _ hMP.symm).trans (heap_setCell_other _ _ _ _ hMP.symm)).trans H1
                refine hr_skip 3 none rfl rfl (by kernel_rfl) rfl (w' := v2) (by rw [hv2]; go_simp) H2 ?_
                simp only [Act.put]
                refine hr_do 4 (some 3) (.bool (inP m && inP n)) rfl rfl (by kernel_rfl) rfl (w' := v2) (by go_simp) H2 ?_
                simp only [Act.put, List.setIfInBounds_toArray, List.set_cons_zero, List.set_cons_succ]
                refine wpAnyH_done (by kernel_rfl) ?_ _
                refine NoPanic.normal ?_
                have k5 : PC v2 M m n := by
                  have h1 := heap_setCell_same v1 M 0 _ _ (.int .i64 m) k4
                  have h2 := heap_setCell_same _ M 1 _ _ (.int .i64 n) h1
                  rw [hv2]
                  exact h2
                have B5 : Below M w v2 := by rw [hv2]; exact (B4.setCell (Nat.le_refl _) _).setCell (Nat.le_refl _) _
                clear hv2 r0 r1 f0 f1 k4 B4 H1 H2
                have r0 := k5.c0
                have r1 := k5.c1
                by_cases hc : X ≤ 2097152 ∧ Y ≤ 2097152
                · have hi : (inP m && inP n) = true := by rw [HI.out, decide_eq_true hc]
                  have HR2 : Hid (rdL (sb row) = some (X, Y)) := by rw [HR.out, if_pos hc]; rfl
                  rw [hi]
                  clear hi HI HR
                  go_wp2
                  refine bodyPost_ret (v := .tuple #[.agg #[.int .i64 m, .int .i64 n], .bool true]) (by simp [results, Try.results6, go_sem, r0, r1]) rfl ⟨?_, by rw [← HM.out]; exact B5⟩
                  rw [HR2.out]
                  show _ = _
                  rw [HMN.out.1, HMN.out.2]
                · have hi : (inP m && inP n) = false := by rw [HI.out, decide_eq_false hc]
                  have HR2 : Hid (rdL (sb row) = none) := by rw [HR.out, if_neg hc]; rfl
                  rw [hi]
                  clear hi HI HR
                  go_wp2
                  exact bodyPost_ret (v := .tuple #[.agg #[.int .i64 m, .int .i64 n], .bool false]) (by simp [results, Try.results6, go_sem, r0, r1]) rfl ⟨by rw [HR2.out]; exact ⟨m, n, rfl⟩, by rw [← HM.out]; exact B5⟩
              · obtain ⟨m, rfl⟩ : ∃ m, k = m + 1 := ⟨k - 1, by omega⟩
                rw [show ((m + 1 : Nat) : Int) - 1 = (m : Int) by omega]
                have HX : Hid (wrap64 (((gat (22 - (m + 1)) (N / 2 / 4 ^ (m + 1)) : Nat) : Int) * 2 + wrap64 (bits BinOp.and IntKind.u64 ((N : Int) / 2 ^ (2 * m + 1)) 1)) = ((gat (22 - m) (N / 2 / 4 ^ m) : Nat) : Int)) := ref_step (N / 2) N m (2 * m + 1) (ref_px N m) (by omega) (by omega)
                have HY : Hid (wrap64 (((gat (22 - (m + 1)) (N / 4 ^ (m + 1)) : Nat) : Int) * 2 + wrap64 (bits BinOp.and IntKind.u64 ((N : Int) / 2 ^ (2 * m)) 1)) = ((gat (22 - m) (N / 4 ^ m) : Nat) : Int)) := ref_step N N m (2 * m) (ref_py N m) (by omega) (by omega)
                have hXl := ref_bound (N / 2 / 4 ^ (m + 1)) (m + 1)
                have hYl := ref_bound (N / 4 ^ (m + 1)) (m + 1)
                obtain ⟨X, hX⟩ : ∃ X, X = gat (22 - (m + 1)) (N / 2 / 4 ^ (m + 1)) := ⟨_, rfl⟩
                obtain ⟨Y, hY⟩ : ∃ Y, Y = gat (22 - (m + 1)) (N / 4 ^ (m + 1)) := ⟨_, rfl⟩
                rw [← hX] at hXl HX
                rw [← hY] at hYl HY
                rw [← hX, ← hY]
                have hXl : (X : Int) < 4194304 := by omega
                have hYl : (Y : Int) < 4194304 := by omega
                have hm : (m : Int) < 22 := by omega
                clear hX hY
                go_wp2
                go_roundw
                case rel => exact ⟨trivial, m, by omega, by go_num, by rw [HX.out], by rw [HY.out]⟩
                case measure => simp [intOf]
          · have hq3 : (17592186044416 : Int) ≤ (N : Int) := by omega
            have HR : Hid (rdL (sb row) = none) := if_neg (fun c => hq (by rw [HN.out]; exact c.2.2.1))
            clear hq hlt
            have r0 := k1.c0
            have r1 := k1.c1
            have f0 := k1.free 0
            have f1 := k1.free 1
            have BX : Below M w ((wr.setCell ⟨M, 0, none⟩ (.int .i64 0)).setCell ⟨M, 1, none⟩ (.int .i64 0)) := (B1.setCell (Nat.le_refl _) _).setCell (Nat.le_refl _) _
            go_wp2
            exact bodyPost_ret (v := .tuple #[.agg #[.int .i64 0, .int .i64 0], .bool false]) (by simp [results, Try.results6, go_sem, r0, r1]) rfl ⟨by rw [HR.out]; exact ⟨0, 0, rfl⟩, by rw [← HM.out]; exact BX⟩
    · have HR : Hid (rdL (sb row) = none) := if_neg (fun c => hp (by
        have := c.2.1
        have h0 : 0 < (sb row).length := by rw [sb_len]; omega
        rw [List.getD_eq_getElem?_getD, List.getElem?_eq_getElem h0, Option.getD_some] at this
        simp [sb] at this
        rw [ByteArray.getElem_eq_getElem_data]
        omega))
      have hp2 : ((row[0].toNat : Int) != 112) = true := by simp; omega
      have r0 := k1.c0
      have r1 := k1.c1
      have f0 := k1.free 0
      have f1 := k1.free 1
      go_enter Try.func6, Try.ntmps6
      go_wp2
      exact bodyPost_ret (v := .tuple #[.agg #[.int .i64 0, .int .i64 0], .bool false]) (by simp [results, Try.results6, go_sem, r0, r1]) rfl ⟨by rw [HR.out]; exact ⟨0, 0, rfl⟩, B1⟩
  · have HR : Hid (rdL (sb row) = none) := rdL_none (by rw [sb_len]; exact h7)
    have hz : ((row.size : Int) != 7) = true := by simp; omega
    have r0 := k1.c0
    have r1 := k1.c1
    have f0 := k1.free 0
    have f1 := k1.free 1
    go_enter Try.func6, Try.ntmps6
    go_wp2
    exact bodyPost_ret (v := .tuple #[.agg #[.int .i64 0, .int .i64 0], .bool false]) (by simp [results, Try.results6, go_sem, r0, r1]) rfl ⟨by rw [HR.out]; exact ⟨0, 0, rfl⟩, B1⟩
end Go.Proofs.Ytmidjiailinjmaa

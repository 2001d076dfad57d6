/-
  Texts in one: RBlockW.
-/
import Derived.Test.YtdcebokfnbgkaaaDoorChoosePicksQ3
import Derived.RangeFuncBox
namespace Go.Proofs.YtdcebokfnbgkaaaDoor
open Go.RowKit Go.Shelf
set_option maxRecDepth 100000 in
set_option maxHeartbeats 4000000 in
theorem rblock_any (w : World) (bh ch bk ck bb ob nb cb : Nat) (X B : List Int) (hI : BIn w bh bk bb ob X B) (hnb : 64 ≤ nb) :
    Calls Tryd.prog 65 #[.slice (some ⟨bh, 0, none⟩) 8 ch, .slice (some ⟨bk, 0, none⟩) 64 ck, .slice (some ⟨bb, ob, none⟩) nb cb] w fun e w' =>
      ∃ g, e = .returned (.slice (some ⟨g, 0, none⟩) 8 8) ∧ CW w' g (part (Rr X (W B 64) 64) X 8) ∧ Below w.heap.size w w' := by
  obtain ⟨i0, hi, hz0, hz1, hz2⟩ := info_parts u32info
  have hent : ∀ args w, (callFunc 69 args).run Tryd.prog w = .ok (.enter 69 args) w := enters_of Tryd.func69 (by kernel_rfl) rfl
  have hnbi : (64 : Int) ≤ (nb : Int) := by omega
  go_enter Tryd.func65, Tryd.ntmps65
  go_wp2_with (at_make; refine wpList_make_full _ rfl _ _ 96 rfl w.heap.size 85 i0 (.int .u32 0) 1 Tryd.underlying96 hi hz0 hz1 _ _ _ _ 64 rfl rfl rfl rfl (by rw [hz2]; decide) (by decide) (Nat.le_refl _) ?_; intro w1 own1 g1; have A1 := made_arr own1; have B1 : Below w.heap.size w w1 := (Below.refl _ w).grown g1 (Nat.le_refl _) (by simp); have s1 := A1.lt; clear own1 g1)
  go_loopw [8] (fun i wr => ∃ k : Nat, k ≤ 64 ∧ i = .int .i64 k ∧ Below w.heap.size w wr ∧ Arr wr w.heap.size 85 (wv (fillW B k))) (fun i _ => 64 - (intOf i).toNat)
  case atStart => exact ⟨0, by omega, rfl, B1, A1⟩
  case round =>
    clear A1 B1 s1
    obtain ⟨k, hk, rfl, B2, A2⟩ := hrel
    by_cases hlt : k < 64
    · have hki : (k : Int) < 64 := by omega
      have ck0 := A2.cell k
      rw [wv_get _ _ (by rw [fillW_len _ _ (by omega)]; omega)] at ck0
      have ckf := A2.free k
      by_cases h16 : k < 16
      · have h16i : (k : Int) < 16 := by omega
        have H2 := hI.below B2
        have c0 := H2.b (4 * k) (by omega)
        have c1 := H2.b (4 * k + 1) (by omega)
        have c2 := H2.b (4 * k + 2) (by omega)
        have c3 := H2.b (4 * k + 3) (by omega)
        clear H2
        have t0 : (4 * (k : Int)).toNat = 4 * k := by omega
        have t1 : (4 * (k : Int) + 1).toNat = 4 * k + 1 := by omega
        have t2 : (4 * (k : Int) + 2).toNat = 4 * k + 2 := by omega
        have t3 : (4 * (k : Int) + 3).toNat = 4 * k + 3 := by omega
        have n0 : 4 * (k : Int) < (nb : Int) := by omega
        have n1 : 4 * (k : Int) + 1 < (nb : Int) := by omega
        have n2 : 4 * (k : Int) + 2 < (nb : Int) := by omega
        have n3 : 4 * (k : Int) + 3 < (nb : Int) := by omega
        go_wp2_with fail
        go_region
        all_goals go_wp2
        go_roundw
        case rel =>
          refine ⟨k + 1, by omega, by go_num, (B2.setCell (Nat.le_refl _) _).drew, ?_⟩
          have a7 := (A2.set k (.int .u32 (be B k 4))).drew
          have e := arrW_next B k hlt
          rw [if_pos h16] at e
          rw [wv_set, fillW_arr _ _ hlt, arrW_set, e, ← be_ref B k hI.byte] at a7
          have y : ∀ j, B[j]?.getD 0 % 4294967296 = B.getD j 0 := fun j => by
            have : 0 ≤ B.getD j 0 ∧ B.getD j 0 ≤ 255 := hI.byte.at j
            show B.getD j 0 % 4294967296 = _
            omega
          rw [y, y, y, y]
          exact a7
        case measure => simp [intOf]; omega
      · have h16i : (16 : Int) ≤ (k : Int) := by omega
        have cs : ∀ j, j < k → wr.cell? ⟨w.heap.size, j, none⟩ = some (.int .u32 ((W B k).getD j 0)) := by
          intro j hj
          rw [A2.cell, wv_get _ _ (by rw [fillW_len _ _ (by omega)]; omega), fillW_low _ _ _ hj]
        have c15 := cs (k - 15) (by omega)
        have c2 := cs (k - 2) (by omega)
        have c16 := cs (k - 16) (by omega)
        have c7 := cs (k - 7) (by omega)
        obtain ⟨x15, hx15⟩ : ∃ x, x = (W B k).getD (k - 15) 0 := ⟨_, rfl⟩
        obtain ⟨x2, hx2⟩ : ∃ x, x = (W B k).getD (k - 2) 0 := ⟨_, rfl⟩
        obtain ⟨x16, hx16⟩ : ∃ x, x = (W B k).getD (k - 16) 0 := ⟨_, rfl⟩
        obtain ⟨x7, hx7⟩ : ∃ x, x = (W B k).getD (k - 7) 0 := ⟨_, rfl⟩
        have HX : Hid (nxt (W B k) k = ad (ad (ad x16 (s0 x15)) x7) (s1 x2)) := by rw [hx15, hx2, hx16, hx7]; rfl
        rw [← hx15] at c15
        rw [← hx2] at c2
        rw [← hx16] at c16
        rw [← hx7] at c7
        clear hx15 hx2 hx16 hx7 cs
        have e15 : ((k : Int) - 15).toNat = k - 15 := by omega
        have e2 : ((k : Int) - 2).toNat = k - 2 := by omega
        have e16 : ((k : Int) - 16).toNat = k - 16 := by omega
        have e7 : ((k : Int) - 7).toNat = k - 7 := by omega
        have f15 : 0 ≤ ((k : Int) - 15) := by omega
        have f2 : 0 ≤ ((k : Int) - 2) := by omega
        have f16 : 0 ≤ ((k : Int) - 16) := by omega
        have f7 : 0 ≤ ((k : Int) - 7) := by omega
        have g15 : ((k : Int) - 15) < 64 := by omega
        have g2 : ((k : Int) - 2) < 64 := by omega
        have g16 : ((k : Int) - 16) < 64 := by omega
        have g7 : ((k : Int) - 7) < 64 := by omega
        go_wp2_with fail
        go_quiet (fail)
        go_wp2_with fail
        clear f15 f2 g15 g2 e15 e2 c15 c2
        have v16 : IntKind.i64.wrap ((k : Int) - 16) = (k : Int) - 16 := by rw [IntKind.wrap_i64]; omega
        have v7 : IntKind.i64.wrap ((k : Int) - 7) = (k : Int) - 7 := by rw [IntKind.wrap_i64]; omega
        have o7 : (7 : Int) ≤ (k : Int) := by omega
        go_region_held3 (fun w' => w'.cell? ⟨w.heap.size, k - 16, none⟩ = some (.int .u32 x16) ∧ w'.cell? ⟨w.heap.size, k - 7, none⟩ = some (.int .u32 x7)) (first | go_keep | (refine ⟨?_, ?_⟩ <;> assumption) | exact ⟨c16, c7⟩ | exact keep2 (by omega) (by omega) c16 c7) (first | (go_at_call 69; refine (turn_at _ _ _ (by simp)).mono ?_; rintro e w' ⟨rfl, rfl⟩))
        go_wp2
        go_roundw
        case rel =>
          have a6 : Arr (wr.drewN (nq + 1)) w.heap.size 85 (wv (fillW B k)) := A2
          refine ⟨k + 1, by omega, by go_num, (bel_drewN B2 _).setCell (Nat.le_refl _) _, ?_⟩
          have a7 := a6.set k (.int .u32 (nxt (W B k) k))
          have e := arrW_next B k hlt
          rw [if_neg h16] at e
          rw [wv_set, fillW_arr _ _ hlt, arrW_set, e] at a7
          rw [HX.out] at a7
          exact a7
        case measure => simp [intOf]; omega
    · obtain rfl : k = 64 := by omega
      rw [fillW_all] at A2
      have H2 := hI.below B2
      have hs2 := B2.size
      have hNlt := A2.lt
      go_wp2_with (at_builtin; refine wpList_append_own _ rfl _ _ 96 rfl w.heap.size 85 i0 (.int .u32 0) 1 4 Tryd.underlying96 hi hz0 hz1 hz2 rfl (by decide) _ 0 [] rfl (World.ownsRow_lit wr #[] 0 hs2 (by decide) rfl) ⟨bh, 0, none⟩ 8 ch (wv X) rfl (by rw [wv_length, hI.lenX]) (fun j u hu => by
          have hj : j < X.length := by have := (List.getElem?_eq_some_iff.1 hu).1; rwa [wv_length] at this
          rw [wv_get X j hj] at hu
          rw [add_at, Nat.zero_add, Below.cell ((Below.refl _ wr).alloc (Nat.le_refl _) _) (p := ⟨bh, j, none⟩) (H2.h.lt (by rw [hI.lenX]; decide)), H2.h j hj]
          exact hu) (wv_one X) (by decide) (by decide) (by simp; omega) ?_; intro v3 w3 own3 g3 _; obtain ⟨g, cap, rfl⟩ := ownsRow_succ own3)
      have C3 : CW w3 g X := fun i hi => by
        have := own3.cellAt i (by rw [hI.lenX] at hi; omega)
        rw [this]
        exact wv_get X i hi
      have B3 : Below w.heap.size w w3 := (B2.alloc hs2 _).grown g3 (by simp; omega) (fun k hk => by have := Option.some.inj (show some wr.heap.size = some k from hk); omega)
      have A3 : Arr w3 w.heap.size 85 (wv (W B 64)) := (A2.grown (World.grownBy_alloc wr (.cells #[] 85) none) (by simp)).grown g3 (fun e => by have := Option.some.inj (show some w.heap.size = some wr.heap.size from e); omega)
      have hg3 : w.heap.size ≤ g := (own3.lt g rfl).1
      clear g3 own3 H2 A2 B2 hs2 hNlt hk hlt
      go_wp2_with fail
      go_loopw [11, 12] (fun v t wr => ∃ (k g cap : Nat) (L : List Int), k ≤ 64 ∧ t = .int .i64 k ∧ v = .slice (some ⟨g, 0, none⟩) 8 cap ∧ Hid (Rr X (W B 64) k = L) ∧ CW wr g L ∧ (0 < k → cap = 8 ∧ Arr wr g 85 (wv L)) ∧ Below w.heap.size w wr ∧ Arr wr w.heap.size 85 (wv (W B 64)) ∧ w.heap.size ≤ g) (fun _ t _ => 64 - (intOf t).toNat)
      case atStart => exact ⟨0, g, cap, X, by omega, rfl, rfl, rfl, C3, fun h => by omega, B3, A3, hg3⟩
      case round =>
        clear C3 B3 A3 hg3
        obtain ⟨k, g, cap, L, hk, rfl, rfl, HL, CL, hA, B4, A4, hg4⟩ := hrel
        have H4 := hI.below B4
        by_cases hlt : k < 64
        · have hki : (k : Int) < 64 := by omega
          obtain ⟨a, b, c, d, e, f, gg, l, rfl⟩ : ∃ a b c d e f gg l, L = [a, b, c, d, e, f, gg, l] := by
            rw [← HL.out]
            exact Rr_eight X (W B 64) k hI.lenX
          have c0 : wr.cell? ⟨g, 0, none⟩ = some (.int .u32 a) := CL 0 (by simp)
          have c1 : wr.cell? ⟨g, 1, none⟩ = some (.int .u32 b) := CL 1 (by simp)
          have c2 : wr.cell? ⟨g, 2, none⟩ = some (.int .u32 c) := CL 2 (by simp)
          have c3 : wr.cell? ⟨g, 3, none⟩ = some (.int .u32 d) := CL 3 (by simp)
          have c4 : wr.cell? ⟨g, 4, none⟩ = some (.int .u32 e) := CL 4 (by simp)
          have c5 : wr.cell? ⟨g, 5, none⟩ = some (.int .u32 f) := CL 5 (by simp)
          have c6 : wr.cell? ⟨g, 6, none⟩ = some (.int .u32 gg) := CL 6 (by simp)
          have c7 : wr.cell? ⟨g, 7, none⟩ = some (.int .u32 l) := CL 7 (by simp)
          have ck1 := H4.k k hlt
          have cw := A4.cell k
          rw [wv_get _ _ (by rw [W_len]; exact hlt)] at cw
          obtain ⟨xk, hxk⟩ : ∃ x, x = K0.getD k 0 := ⟨_, rfl⟩
          obtain ⟨xw, hxw⟩ : ∃ x, x = (W B 64).getD k 0 := ⟨_, rfl⟩
          have HN : Hid (Rr X (W B 64) (k + 1) = rnd [a, b, c, d, e, f, gg, l] xk xw) := by
            have : Rr X (W B 64) (k + 1) = rnd (Rr X (W B 64) k) (K0.getD k 0) ((W B 64).getD k 0) := rfl
            rw [HL.out, ← hxk, ← hxw] at this
            exact this
          rw [← hxk] at ck1
          rw [← hxw] at cw
          clear hxk hxw CL H4 hA
          have hs4 := B4.size
          go_wp2_with fail
          go_quiet (fail)
          go_wp2_with fail
          go_region_held3 (fun w' => w'.cell? ⟨g, 5, none⟩ = some (.int .u32 f) ∧ w'.cell? ⟨g, 6, none⟩ = some (.int .u32 gg) ∧ w'.cell? ⟨g, 7, none⟩ = some (.int .u32 l) ∧ w'.cell? ⟨bk, k, none⟩ = some (.int .u32 xk) ∧ w'.cell? ⟨w.heap.size, k, none⟩ = some (.int .u32 xw)) (first | go_keep | (refine ⟨?_, ?_, ?_, ?_, ?_⟩ <;> assumption) | exact ⟨c5, c6, c7, ck1, cw⟩) (first | (go_at_call 69; refine (turn_at _ _ _ (by simp)).mono ?_; rintro e w' ⟨rfl, rfl⟩))
          go_wp2_with fail
          go_region_held3 (fun w' => w'.cell? ⟨g, 1, none⟩ = some (.int .u32 b) ∧ w'.cell? ⟨g, 2, none⟩ = some (.int .u32 c)) (first | go_keep | (refine ⟨?_, ?_⟩ <;> assumption) | exact ⟨c1, c2⟩) (first | (go_at_call 69; refine (turn_at _ _ _ (by simp)).mono ?_; rintro e w' ⟨rfl, rfl⟩))
          go_wp2_with fail
          go_region_held3 (fun w' => w'.cell? ⟨g, 0, none⟩ = some (.int .u32 a) ∧ w'.cell? ⟨g, 1, none⟩ = some (.int .u32 b) ∧ w'.cell? ⟨g, 2, none⟩ = some (.int .u32 c) ∧ w'.cell? ⟨g, 3, none⟩ = some (.int .u32 d) ∧ w'.cell? ⟨g, 4, none⟩ = some (.int .u32 e) ∧ w'.cell? ⟨g, 5, none⟩ = some (.int .u32 f) ∧ w'.cell? ⟨g, 6, none⟩ = some (.int .u32 gg)) (first | go_keep | (refine ⟨?_, ?_, ?_, ?_, ?_, ?_, ?_⟩ <;> assumption) | exact ⟨c0, c1, c2, c3, c4, c5, c6⟩) (fail)
          go_wp2
          go_roundw
          case rel =>
            have e9 : ∀ q, (wr.drewN q).heap = wr.heap := fun q => rfl
            refine ⟨k + 1, wr.heap.size, 8, rnd [a, b, c, d, e, f, gg, l] xk xw, by omega, by go_num, rfl, HN.out, ?_, fun _ => ⟨rfl, ?_⟩, (bel_drewN B4 _).alloc hs4 _, ?_⟩
            · exact Arr.cw (heap_alloc_new (wr.drewN _) _)
            · exact heap_alloc_new (wr.drewN _) _
            · exact ⟨Arr.grown (show Arr (wr.drewN _) _ _ _ from A4) (World.grownBy_alloc (wr.drewN _) _ none) (by simp), hs4⟩
          case measure => simp [intOf]; omega
        · obtain rfl : k = 64 := by omega
          obtain ⟨rfl, A5⟩ := hA (by omega)
          have HL2 : Hid (Rr X (W B 64) 64 = L) := HL
          have lL : L.length = 8 := by
            obtain ⟨a, b, c, d, e, f, gg, l, e8⟩ := Rr_eight X (W B 64) 64 hI.lenX
            rw [← HL.out, e8]
            rfl
          have B5 := B4
          clear CL H4 A4 HL hA B4 hk hlt
          go_wp2_with fail
          go_loopw [17] (fun i wr => ∃ j : Nat, j ≤ 8 ∧ i = .int .i64 j ∧ Below w.heap.size w wr ∧ Arr wr g 85 (wv (part L X j))) (fun i _ => 8 - (intOf i).toNat)
          case atStart => exact ⟨0, by omega, rfl, B5, by rw [part_zero _ _ lL]; exact A5⟩
          case round =>
            clear A5 B5
            obtain ⟨j, hj, rfl, B6, A6⟩ := hrel
            by_cases hjt : j < 8
            · have hji : (j : Int) < 8 := by omega
              have H6 := hI.below B6
              have c1 := A6.cell j
              rw [wv_get _ _ (by rw [part_len]; exact hjt), part_get _ _ _ _ hjt] at c1
              simp only [Nat.lt_irrefl, if_false] at c1
              have cf := A6.free j
              have c2 := H6.h j (by rw [hI.lenX]; exact hjt)
              obtain ⟨x, hx⟩ : ∃ x, x = L.getD j 0 := ⟨_, rfl⟩
              obtain ⟨y, hy⟩ : ∃ y, y = X.getD j 0 := ⟨_, rfl⟩
              have HXY : Hid (part L X (j + 1) = (part L X j).set j (ad x y)) := by rw [hx, hy]; exact (part_succ _ _ _).symm
              rw [← hx] at c1
              rw [← hy] at c2
              clear hx hy H6
              go_wp2_with fail
              go_region
              all_goals go_wp2
              go_roundw
              case rel =>
                refine ⟨j + 1, by omega, by go_num, (B6.setCell hg4 _).drew, ?_⟩
                rw [HXY.out, ← wv_set]
                exact (A6.set j (.int .u32 (ad x y))).drew
              case measure => simp [intOf]; omega
            · obtain rfl : j = 8 := by omega
              go_wp2_with fail
              go_ret
              refine ⟨g, rfl, ?_, B6⟩
              rw [HL2.out]
              exact A6.cw
end Go.Proofs.YtdcebokfnbgkaaaDoor

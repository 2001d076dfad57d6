/-
  Texts in one: Sched.
-/
import Derived.Test.YtlgafjalcpjelaaDoorSessionPlaysQ3
import Derived.BigQuiet
import Derived.RegionTactic
import Derived.BigRegion
namespace Go.Proofs.YtlgafjalcpjelaaDoor
open Go.RowKit
def sh (x b : Int) : Int := bits .or .u32 (IntKind.u32.wrap (x * 256)) b
def be (B : List Int) (t : Nat) : Nat → Int
  | 0 => 0
  | j + 1 => sh (be B t j) (B.getD (4 * t + j) 0)
def xr (x y : Int) : Int := bits .xor .u32 x y
def s0 (x : Int) : Int := xr (xr (rl (-7) x) (rl (-18) x)) (x / 8)
def s1 (x : Int) : Int := xr (xr (rl (-17) x) (rl (-19) x)) (x / 1024)
def nxt (l : List Int) (t : Nat) : Int := ad (ad (ad (l.getD (t - 16) 0) (s0 (l.getD (t - 15) 0))) (l.getD (t - 7) 0)) (s1 (l.getD (t - 2) 0))
def W (B : List Int) : Nat → List Int
  | 0 => []
  | t + 1 => W B t ++ [if t < 16 then be B t 4 else nxt (W B t) t]
theorem W_len (B : List Int) (n : Nat) : (W B n).length = n := by induction n with
  | zero => rfl
  | succ n ih => simp [W, ih]
def arrW (B : List Int) (t : Nat) (x : Int) : List Int := W B t ++ x :: List.replicate (63 - t) 0
theorem arrW_len (B : List Int) (t : Nat) (x : Int) (h : t ≤ 63) : (arrW B t x).length = 64 := by simp [arrW, W_len]; omega
theorem arrW_at (B : List Int) (t : Nat) (x : Int) : (arrW B t x).getD t 0 = x := by simp [arrW, List.getD, W_len]
theorem arrW_set (B : List Int) (t : Nat) (x y : Int) : (arrW B t x).set t y = arrW B t y := by simp [arrW, W_len]
def fillW (B : List Int) (t : Nat) : List Int := W B t ++ List.replicate (64 - t) 0
theorem fillW_len (B : List Int) (t : Nat) (h : t ≤ 64) : (fillW B t).length = 64 := by simp [fillW, W_len]; omega
theorem fillW_arr (B : List Int) (t : Nat) (h : t < 64) : fillW B t = arrW B t 0 := by
  have e : 64 - t = (63 - t) + 1 := by omega
  simp only [arrW, fillW, e, List.replicate_succ]
theorem arrW_next (B : List Int) (t : Nat) (h : t < 64) : arrW B t (if t < 16 then be B t 4 else nxt (W B t) t) = fillW B (t + 1) := by
  have e : 63 - t = 64 - (t + 1) := by omega
  simp only [arrW, fillW, W, e, List.append_assoc, List.singleton_append]
theorem fillW_low (B : List Int) (t j : Nat) (h : j < t) : (fillW B t).getD j 0 = (W B t).getD j 0 := by simp [fillW, List.getD, W_len, List.getElem?_append, h]
theorem fillW_all (B : List Int) : fillW B 64 = W B 64 := by simp [fillW]
theorem g55 (w : World) : (isAgg 119).run Tryd.prog w = .ok true w := by
  simp [isAgg, run_underlying Tryd.underlying119 w]
theorem a55 : (Tryd.prog.info? 119).map (·.size) = some 64 := by kernel_rfl
theorem z55 : (Tryd.prog.info? 119).map (fun i => (i.zero, i.size)) = some (some (.agg (List.replicate 64 (Value.int .u32 0)).toArray), 64) := by kernel_rfl
theorem u49 : Tryd.prog.underlying 102 = some (.array (Tryd.prog.arrayLen 102) (Tryd.prog.elem 102)) := by kernel_rfl
theorem al49 : Tryd.prog.arrayLen 102 = 64 := by kernel_rfl
theorem el49 : Tryd.prog.elem 102 = 5 := by kernel_rfl
theorem size8 (w : World) : (sizeOf 5).run Tryd.prog w = .ok 1 w := by
  obtain ⟨i0, hi, hz0, hz1, hz2⟩ := info_parts u8info
  simp [sizeOf, typeInfo, hi, hz1]
theorem slice49 (kl : IntKind) (p o l h : Nat) (hl : l ≤ h) (hh : h ≤ 64) (h64 : l < 64) (L H : Int) (eL : L = l) (eH : H = h) (w : World) : (Instr.sliceAt 102 (.pointer (some ⟨p, o, none⟩)) (some (.int kl L)) (some (.int kl H)) none).run Tryd.prog w = .ok (.slice (some ⟨p, o + l, none⟩) (h - l) (64 - l)) w := by
  subst eL eH
  rw [run_sliceAt_array_lh w 102 ⟨p, o, none⟩ u49 kl kl l h (by omega) (by omega) (by rw [al49]; omega), el49, al49, size8]
  have e : ¬ 64 = l := by omega
  simp [slicedAt, add_at, e]
theorem slice49l (kl : IntKind) (p o l : Nat) (h64 : l < 64) (L : Int) (eL : L = l) (w : World) : (Instr.sliceAt 102 (.pointer (some ⟨p, o, none⟩)) (some (.int kl L)) none none).run Tryd.prog w = .ok (.slice (some ⟨p, o + l, none⟩) (64 - l) (64 - l)) w := by
  subst eL
  rw [run_sliceAt_array_l w 102 ⟨p, o, none⟩ u49 kl l (by omega) (by rw [al49]; omega), el49, al49, size8]
  have e : ¬ 64 = l := by omega
  simp [slicedAt, add_at, e]
theorem bel_drewN {n : Nat} {a w : World} (h : Below n a w) (q : Nat) : Below n a (w.drewN q) := by
  have e0 : (w.drewN q).heap = w.heap := by simp
  exact ⟨by rw [← h.os]; rfl, by rw [← h.tape]; rfl, by rw [← h.output]; rfl, by rw [e0]; exact h.size, fun k hk => by rw [e0]; exact h.block k hk⟩
set_option maxRecDepth 100000 in
set_option maxHeartbeats 1000000 in
theorem sched_any (w : World) (p : Nat) (A B : List Int) (n : Nat) (hT : Tabs w) (h : HB w p A B n) :
    Calls Tryd.prog 77 #[.pointer (some ⟨p, 0, none⟩)] w fun e w' => e = .returned (.agg (wv (W B 64)).toArray) ∧ Below w.heap.size w w' := by
  have h2 := hT.two
  have hp := h.lt
  go_enter Tryd.func77, Tryd.ntmps77
  go_wp2_with (first
    | (refine wpList_alloc_named rfl 2 rfl 119 rfl w.heap.size rfl _ 64 z55 ?_; intro w1 a1 s1 g1; have B1 : Below w.heap.size w w1 := (Below.refl _ w).grown g1 (Nat.le_refl _) (by simp); clear g1)
    | (refine wpList_alloc_named rfl 3 rfl 119 rfl (w.heap.size + 1) s1 _ 64 z55 ?_; intro w2 a2 s2 g2; have B2 : Below w.heap.size w w2 := B1.grown g2 (by omega) (by simp); have A2 : Arr w2 w.heap.size 119 _ := Arr.grown a1 g2 (by simp); clear g2 B1 a1 s1))
  go_loopw [12] (fun i wr => ∃ k : Nat, k ≤ 16 ∧ i = .int .i64 k ∧ Below w.heap.size w wr ∧ Arr wr w.heap.size 119 (List.replicate 64 (Value.int .u32 0)) ∧ Arr wr (w.heap.size + 1) 119 (wv (fillW B k)) ∧ wr.heap.size = w.heap.size + 1 + 1) (fun i _ => 16 - (intOf i).toNat)
  case atStart => exact ⟨0, by omega, rfl, B2, A2, a2, s2⟩
  case round =>
    obtain ⟨k, hk, rfl, B4, A4, a4, s4⟩ := hrel
    have h4 := h.below B4 hp
    clear a2 A2 B2 s2
    by_cases hlt : k < 16
    · have hi : (k : Int) < 16 := by omega
      have hsl := slice49 .i64 p 8 (4 * k) (4 * (k + 1)) (by omega) (by omega) (by omega) (4 * (k : Int)) (4 * ((k : Int) + 1)) (by omega) (by omega)
      rw [show 4 * (k + 1) - 4 * k = 4 by omega] at hsl
      go_wp2
      go_loopw [25] (fun i wr => ∃ j : Nat, j ≤ 4 ∧ i = .int .i64 j ∧ Below w.heap.size w wr ∧ Arr wr w.heap.size 119 (List.replicate 64 (Value.int .u32 0)) ∧ Arr wr (w.heap.size + 1) 119 (wv (arrW B k (be B k j))) ∧ wr.heap.size = w.heap.size + 1 + 1) (fun i _ => 4 - (intOf i).toNat)
      case atStart => exact ⟨0, by omega, rfl, B4, A4, by rw [fillW_arr _ _ (by omega)] at a4; exact a4, s4⟩
      case round =>
        obtain ⟨j, hj, rfl, B5, A5, a5, s5⟩ := hrel
        have h5 := h.below B5 hp
        clear a4 A4 B4 s4 h4
        by_cases hjt : j < 4
        · have hji : (j : Int) < 4 := by omega
          have c1 := a5.cell k
          rw [wv_get _ k (by rw [arrW_len _ _ _ (by omega)]; omega), arrW_at] at c1
          have c2 := a5.free k
          have c3 := h5.byteAt (4 * k + j) (by omega)
          rw [← Nat.add_assoc] at c3
          go_wp2
          go_roundw
          case rel =>
            refine ⟨j + 1, by omega, by go_num, B5.setCell (by show w.heap.size ≤ w.heap.size + 1; omega) _, A5.other _ _ (by show w.heap.size ≠ w.heap.size + 1; omega), ?_, by simpa using s5⟩
            have hb := h.byte.at (4 * k + j)
            have e : B[4 * k + j]?.getD 0 % 4294967296 = B[4 * k + j]?.getD 0 := by omega
            have := a5.set k (.int .u32 (be B k (j + 1)))
            rw [wv_set, arrW_set] at this
            rw [e]
            exact this
          case measure => simp [intOf]; omega
        · obtain rfl : j = 4 := by omega
          go_wp2
          go_roundw
          case rel =>
            refine ⟨k + 1, by omega, by go_num, B5, A5, ?_, s5⟩
            have e := arrW_next B k (by omega)
            rw [if_pos hlt] at e
            rw [← e]
            exact a5
          case measure => simp [intOf]; omega
    · have hge : (16 : Int) ≤ (k : Int) := by omega
      go_wp2
      go_loopw [7] (fun i wr => ∃ k : Nat, 16 ≤ k ∧ k ≤ 64 ∧ i = .int .i64 k ∧ Below w.heap.size w wr ∧ Arr wr w.heap.size 119 (List.replicate 64 (Value.int .u32 0)) ∧ Arr wr (w.heap.size + 1) 119 (wv (fillW B k)) ∧ wr.heap.size = w.heap.size + 1 + 1) (fun i _ => 64 - (intOf i).toNat)
      case atStart =>
        obtain rfl : k = 16 := by omega
        exact ⟨16, by omega, by omega, rfl, B4, A4, a4, s4⟩
      case round =>
        clear a4 A4 B4 s4 h4 hge hlt hk
        obtain ⟨k, hk16, hk, rfl, B5, A5, a5, s5⟩ := hrel
        by_cases hkt : k < 64
        · have hki : (k : Int) < 64 := by omega
          have cs : ∀ j, j < k → wr.cell? ⟨w.heap.size + 1, j, none⟩ = some (.int .u32 ((W B k).getD j 0)) := by
            intro j hj
            rw [a5.cell, wv_get _ _ (by rw [fillW_len _ _ (by omega)]; omega), fillW_low _ _ _ hj]
          have c15 := cs (k - 15) (by omega)
          have c2 := cs (k - 2) (by omega)
          have c16 := cs (k - 16) (by omega)
          have c7 := cs (k - 7) (by omega)
          have c0 := a5.cell k
          rw [wv_get _ _ (by rw [fillW_len _ _ (by omega)]; omega)] at c0
          have cf := a5.free k
          obtain ⟨x15, hx15⟩ : ∃ x, x = (W B k).getD (k - 15) 0 := ⟨_, rfl⟩
          obtain ⟨x2, hx2⟩ : ∃ x, x = (W B k).getD (k - 2) 0 := ⟨_, rfl⟩
          obtain ⟨x16, hx16⟩ : ∃ x, x = (W B k).getD (k - 16) 0 := ⟨_, rfl⟩
          obtain ⟨x7, hx7⟩ : ∃ x, x = (W B k).getD (k - 7) 0 := ⟨_, rfl⟩
          have HX : Hid (nxt (W B k) k = ad (ad (ad x16 (s0 x15)) x7) (s1 x2)) := by rw [hx15, hx2, hx16, hx7]; rfl
          rw [← hx15] at c15
          rw [← hx2] at c2
          rw [← hx16] at c16
          rw [← hx7] at c7
          clear hx15 hx2 hx16 hx7 cs
          have e15 : ((k : Int) - 15).toNat = k - 15 := by omega
          have e2 : ((k : Int) - 2).toNat = k - 2 := by omega
          have e16 : ((k : Int) - 16).toNat = k - 16 := by omega
          have e7 : ((k : Int) - 7).toNat = k - 7 := by omega
          have f15 : 0 ≤ ((k : Int) - 15) := by omega
          have f2 : 0 ≤ ((k : Int) - 2) := by omega
          have f16 : 0 ≤ ((k : Int) - 16) := by omega
          have f7 : 0 ≤ ((k : Int) - 7) := by omega
          have g15 : ((k : Int) - 15) < 64 := by omega
          have g2 : ((k : Int) - 2) < 64 := by omega
          have g16 : ((k : Int) - 16) < 64 := by omega
          have g7 : ((k : Int) - 7) < 64 := by omega
          go_wp2
          go_quiet (fail)
          go_wp2_with (go_at_call 78; refine (rot_at _ _ _ (by simp)).mono ?_; rintro e w' ⟨rfl, rfl⟩)
          clear f15 f2 g15 g2 e15 e2 c15 c2
          go_region
          all_goals go_wp2
          go_roundw
          case rel =>
            have e0 : ∀ q, (wr.drewN q).heap = wr.heap := fun q => by simp
            have a6 : Arr (wr.drewN (nq + 1)) (w.heap.size + 1) 119 (wv (fillW B k)) := by unfold Arr; rw [e0]; exact a5
            have A6 : Arr (wr.drewN (nq + 1)) w.heap.size 119 (List.replicate 64 (Value.int .u32 0)) := by unfold Arr; rw [e0]; exact A5
            refine ⟨k + 1, by omega, by omega, by go_num, (bel_drewN B5 _).setCell (by show w.heap.size ≤ w.heap.size + 1; omega) _, A6.other _ _ (by show w.heap.size ≠ w.heap.size + 1; omega), ?_, by simpa using s5⟩
            have a7 := a6.set k (.int .u32 (nxt (W B k) k))
            have e := arrW_next B k hkt
            rw [if_neg (by omega)] at e
            rw [wv_set, fillW_arr _ _ hkt, arrW_set, e] at a7
            rw [HX.out] at a7
            have e3 : ad (ad (ad x16 (s0 x15)) x7) (s1 x2) = (x16 + bits BinOp.xor IntKind.u32 (bits BinOp.xor IntKind.u32 (rl (-7) x15) (rl (-18) x15)) (x15 / 8) + x7 + bits BinOp.xor IntKind.u32 (bits BinOp.xor IntKind.u32 (rl (-17) x2) (rl (-19) x2)) (x2 / 1024)) % 4294967296 := by
              simp only [ad, IntKind.wrap_u32', s0, s1, xr]
              omega
            rw [e3] at a7
            exact a7
          case measure => simp [intOf]; omega
        · obtain rfl : k = 64 := by omega
          rw [fillW_all] at a5
          go_wp2_with (first
            | (refine wpList_load_cells rfl 119 (Operand.tmp 3) rfl ⟨w.heap.size + 1, 0, none⟩ rfl (wv (W B 64)) (fun j v hv => by rw [add_at, Nat.zero_add, a5.cell]; exact hv) g55 (a55.trans (by rw [wv_length, W_len])) ?_)
            | (refine wpList_store_named rfl 119 (Operand.tmp 2) _ rfl w.heap.size (wv (W B 64)) rfl rfl 119 _ A5 _ s5 (a55.trans (by rw [wv_length, W_len])) (by rw [wv_length, W_len]; rfl) (wv_one _) ?_; intro w6 a6 s6 g6; have B6 : Below w.heap.size w w6 := B5.grown g6 (by omega) (by intro k hk; cases hk; omega); clear g6))
          refine bodyPost_ret (v := .agg (wv (W B 64)).toArray) ?_ rfl ⟨rfl, B6⟩
          exact results_cells rfl _ w6 ⟨w.heap.size, 0, none⟩ rfl (wv (W B 64)) (fun j v hv => by rw [add_at, Nat.zero_add, Arr.cell a6]; exact hv) (g55 w6) (a55.trans (by rw [wv_length, W_len]))
end Go.Proofs.YtlgafjalcpjelaaDoor

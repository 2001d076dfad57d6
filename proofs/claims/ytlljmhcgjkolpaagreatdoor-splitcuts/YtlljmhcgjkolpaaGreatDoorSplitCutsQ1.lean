/-
  Texts in one: Sched, Mix, Take2, Add.
-/
import Derived.Test.YtlljmhcgjkolpaaGreatDoorSplitCutsQ0
import Derived.BigQuiet
import Derived.RegionTactic
import Derived.BigRegion
import Derived.Laws.CopyOwn
import Derived.Deep.RegionLaw
namespace Go.Proofs.YtlljmhcgjkolpaaGreatDoor
open Go.RowKit
def sh (x b : Int) : Int := bits .or .u32 (IntKind.u32.wrap (x * 256)) b
def be (B : List Int) (t : Nat) : Nat → Int
  | 0 => 0
  | j + 1 => sh (be B t j) (B.getD (4 * t + j) 0)
def xr (x y : Int) : Int := bits .xor .u32 x y
def s0 (x : Int) : Int := xr (xr (rl (-7) x) (rl (-18) x)) (x / 8)
def s1 (x : Int) : Int := xr (xr (rl (-17) x) (rl (-19) x)) (x / 1024)
def nxt (l : List Int) (t : Nat) : Int := ad (ad (ad (l.getD (t - 16) 0) (s0 (l.getD (t - 15) 0))) (l.getD (t - 7) 0)) (s1 (l.getD (t - 2) 0))
def W (B : List Int) : Nat → List Int
  | 0 => []
  | t + 1 => W B t ++ [if t < 16 then be B t 4 else nxt (W B t) t]
theorem W_len (B : List Int) (n : Nat) : (W B n).length = n := by induction n with
  | zero => rfl
  | succ n ih => simp [W, ih]
def arrW (B : List Int) (t : Nat) (x : Int) : List Int := W B t ++ x :: List.replicate (63 - t) 0
theorem arrW_len (B : List Int) (t : Nat) (x : Int) (h : t ≤ 63) : (arrW B t x).length = 64 := by simp [arrW, W_len]; omega
theorem arrW_at (B : List Int) (t : Nat) (x : Int) : (arrW B t x).getD t 0 = x := by simp [arrW, List.getD, W_len]
theorem arrW_set (B : List Int) (t : Nat) (x y : Int) : (arrW B t x).set t y = arrW B t y := by simp [arrW, W_len]
def fillW (B : List Int) (t : Nat) : List Int := W B t ++ List.replicate (64 - t) 0
theorem fillW_len (B : List Int) (t : Nat) (h : t ≤ 64) : (fillW B t).length = 64 := by simp [fillW, W_len]; omega
theorem fillW_arr (B : List Int) (t : Nat) (h : t < 64) : fillW B t = arrW B t 0 := by
  have e : 64 - t = (63 - t) + 1 := by omega
  simp only [arrW, fillW, e, List.replicate_succ]
theorem arrW_next (B : List Int) (t : Nat) (h : t < 64) : arrW B t (if t < 16 then be B t 4 else nxt (W B t) t) = fillW B (t + 1) := by
  have e : 63 - t = 64 - (t + 1) := by omega
  simp only [arrW, fillW, W, e, List.append_assoc, List.singleton_append]
theorem fillW_low (B : List Int) (t j : Nat) (h : j < t) : (fillW B t).getD j 0 = (W B t).getD j 0 := by simp [fillW, List.getD, W_len, List.getElem?_append, h]
theorem fillW_all (B : List Int) : fillW B 64 = W B 64 := by simp [fillW]
theorem g55 (w : World) : (isAgg 194).run Tryz.prog w = .ok true w := by
  simp [isAgg, run_underlying Tryz.underlying194 w]
theorem a55 : (Tryz.prog.info? 194).map (·.size) = some 64 := by kernel_rfl
theorem z55 : (Tryz.prog.info? 194).map (fun i => (i.zero, i.size)) = some (some (.agg (List.replicate 64 (Value.int .u32 0)).toArray), 64) := by kernel_rfl
theorem u49 : Tryz.prog.underlying 164 = some (.array (Tryz.prog.arrayLen 164) (Tryz.prog.elem 164)) := by kernel_rfl
theorem al49 : Tryz.prog.arrayLen 164 = 64 := by kernel_rfl
theorem el49 : Tryz.prog.elem 164 = 5 := by kernel_rfl
theorem size8 (w : World) : (sizeOf 5).run Tryz.prog w = .ok 1 w := by
  obtain ⟨i0, hi, hz0, hz1, hz2⟩ := info_parts u8info
  simp [sizeOf, typeInfo, hi, hz1]
theorem slice49 (kl : IntKind) (p o l h : Nat) (hl : l ≤ h) (hh : h ≤ 64) (h64 : l < 64) (L H : Int) (eL : L = l) (eH : H = h) (w : World) : (Instr.sliceAt 164 (.pointer (some ⟨p, o, none⟩)) (some (.int kl L)) (some (.int kl H)) none).run Tryz.prog w = .ok (.slice (some ⟨p, o + l, none⟩) (h - l) (64 - l)) w := by
  subst eL eH
  rw [run_sliceAt_array_lh w 164 ⟨p, o, none⟩ u49 kl kl l h (by omega) (by omega) (by rw [al49]; omega), el49, al49, size8]
  have e : ¬ 64 = l := by omega
  simp [slicedAt, add_at, e]
theorem slice49l (kl : IntKind) (p o l : Nat) (h64 : l < 64) (L : Int) (eL : L = l) (w : World) : (Instr.sliceAt 164 (.pointer (some ⟨p, o, none⟩)) (some (.int kl L)) none none).run Tryz.prog w = .ok (.slice (some ⟨p, o + l, none⟩) (64 - l) (64 - l)) w := by
  subst eL
  rw [run_sliceAt_array_l w 164 ⟨p, o, none⟩ u49 kl l (by omega) (by rw [al49]; omega), el49, al49, size8]
  have e : ¬ 64 = l := by omega
  simp [slicedAt, add_at, e]
theorem bel_drewN {n : Nat} {a w : World} (h : Below n a w) (q : Nat) : Below n a (w.drewN q) := by
  have e0 : (w.drewN q).heap = w.heap := by simp
  exact ⟨by rw [← h.os]; rfl, by rw [← h.tape]; rfl, by rw [← h.output]; rfl, by rw [e0]; exact h.size, fun k hk => by rw [e0]; exact h.block k hk⟩
set_option maxRecDepth 100000 in
set_option maxHeartbeats 1000000 in
theorem sched_any (w : World) (p : Nat) (A B : List Int) (n : Nat) (hT : Tabs w) (h : HB w p A B n) :
    Calls Tryz.prog 153 #[.pointer (some ⟨p, 0, none⟩)] w fun e w' => e = .returned (.agg (wv (W B 64)).toArray) ∧ Below w.heap.size w w' := by
  have h2 := hT.two
  have hp := h.lt
  go_enter Tryz.func153, Tryz.ntmps153
  go_wp2_with (first
    | (refine wpList_alloc_named rfl 2 rfl 194 rfl w.heap.size rfl _ 64 z55 ?_; intro w1 a1 s1 g1; have B1 : Below w.heap.size w w1 := (Below.refl _ w).grown g1 (Nat.le_refl _) (by simp); clear g1)
    | (refine wpList_alloc_named rfl 3 rfl 194 rfl (w.heap.size + 1) s1 _ 64 z55 ?_; intro w2 a2 s2 g2; have B2 : Below w.heap.size w w2 := B1.grown g2 (by omega) (by simp); have A2 : Arr w2 w.heap.size 194 _ := Arr.grown a1 g2 (by simp); clear g2 B1 a1 s1))
  go_loopw [12] (fun i wr => ∃ k : Nat, k ≤ 16 ∧ i = .int .i64 k ∧ Below w.heap.size w wr ∧ Arr wr w.heap.size 194 (List.replicate 64 (Value.int .u32 0)) ∧ Arr wr (w.heap.size + 1) 194 (wv (fillW B k)) ∧ wr.heap.size = w.heap.size + 1 + 1) (fun i _ => 16 - (intOf i).toNat)
  case atStart => exact ⟨0, by omega, rfl, B2, A2, a2, s2⟩
  case round =>
    obtain ⟨k, hk, rfl, B4, A4, a4, s4⟩ := hrel
    have h4 := h.below B4 hp
    clear a2 A2 B2 s2
    by_cases hlt : k < 16
    · have hi : (k : Int) < 16 := by omega
      have hsl := slice49 .i64 p 8 (4 * k) (4 * (k + 1)) (by omega) (by omega) (by omega) (4 * (k : Int)) (4 * ((k : Int) + 1)) (by omega) (by omega)
      rw [show 4 * (k + 1) - 4 * k = 4 by omega] at hsl
      go_wp2
      go_loopw [25] (fun i wr => ∃ j : Nat, j ≤ 4 ∧ i = .int .i64 j ∧ Below w.heap.size w wr ∧ Arr wr w.heap.size 194 (List.replicate 64 (Value.int .u32 0)) ∧ Arr wr (w.heap.size + 1) 194 (wv (arrW B k (be B k j))) ∧ wr.heap.size = w.heap.size + 1 + 1) (fun i _ => 4 - (intOf i).toNat)
      case atStart => exact ⟨0, by omega, rfl, B4, A4, by rw [fillW_arr _ _ (by omega)] at a4; exact a4, s4⟩
      case round =>
        obtain ⟨j, hj, rfl, B5, A5, a5, s5⟩ := hrel
        have h5 := h.below B5 hp
        clear a4 A4 B4 s4 h4
        by_cases hjt : j < 4
        · have hji : (j : Int) < 4 := by omega
          have c1 := a5.cell k
          rw [wv_get _ k (by rw [arrW_len _ _ _ (by omega)]; omega), arrW_at] at c1
          have c2 := a5.free k
          have c3 := h5.byteAt (4 * k + j) (by omega)
          rw [← Nat.add_assoc] at c3
          go_wp2
          go_roundw
          case rel =>
            refine ⟨j + 1, by omega, by go_num, B5.setCell (by show w.heap.size ≤ w.heap.size + 1; omega) _, A5.other _ _ (by show w.heap.size ≠ w.heap.size + 1; omega), ?_, by simpa using s5⟩
            have hb := h.byte.at (4 * k + j)
            have e : B[4 * k + j]?.getD 0 % 4294967296 = B[4 * k + j]?.getD 0 := by omega
            have := a5.set k (.int .u32 (be B k (j + 1)))
            rw [wv_set, arrW_set] at this
            rw [e]
            exact this
          case measure => simp [intOf]; omega
        · obtain rfl : j = 4 := by omega
          go_wp2
          go_roundw
          case rel =>
            refine ⟨k + 1, by omega, by go_num, B5, A5, ?_, s5⟩
            have e := arrW_next B k (by omega)
            rw [if_pos hlt] at e
            rw [← e]
            exact a5
          case measure => simp [intOf]; omega
    · have hge : (16 : Int) ≤ (k : Int) := by omega
      go_wp2
      go_loopw [7] (fun i wr => ∃ k : Nat, 16 ≤ k ∧ k ≤ 64 ∧ i = .int .i64 k ∧ Below w.heap.size w wr ∧ Arr wr w.heap.size 194 (List.replicate 64 (Value.int .u32 0)) ∧ Arr wr (w.heap.size + 1) 194 (wv (fillW B k)) ∧ wr.heap.size = w.heap.size + 1 + 1) (fun i _ => 64 - (intOf i).toNat)
      case atStart =>
        obtain rfl : k = 16 := by omega
        exact ⟨16, by omega, by omega, rfl, B4, A4, a4, s4⟩
      case round =>
        clear a4 A4 B4 s4 h4 hge hlt hk
        obtain ⟨k, hk16, hk, rfl, B5, A5, a5, s5⟩ := hrel
        by_cases hkt : k < 64
        · have hki : (k : Int) < 64 := by omega
          have cs : ∀ j, j < k → wr.cell? ⟨w.heap.size + 1, j, none⟩ = some (.int .u32 ((W B k).getD j 0)) := by
            intro j hj
            rw [a5.cell, wv_get _ _ (by rw [fillW_len _ _ (by omega)]; omega), fillW_low _ _ _ hj]
          have c15 := cs (k - 15) (by omega)
          have c2 := cs (k - 2) (by omega)
          have c16 := cs (k - 16) (by omega)
          have c7 := cs (k - 7) (by omega)
          have c0 := a5.cell k
          rw [wv_get _ _ (by rw [fillW_len _ _ (by omega)]; omega)] at c0
          have cf := a5.free k
          obtain ⟨x15, hx15⟩ : ∃ x, x = (W B k).getD (k - 15) 0 := ⟨_, rfl⟩
          obtain ⟨x2, hx2⟩ : ∃ x, x = (W B k).getD (k - 2) 0 := ⟨_, rfl⟩
          obtain ⟨x16, hx16⟩ : ∃ x, x = (W B k).getD (k - 16) 0 := ⟨_, rfl⟩
          obtain ⟨x7, hx7⟩ : ∃ x, x = (W B k).getD (k - 7) 0 := ⟨_, rfl⟩
          have HX : Hid (nxt (W B k) k = ad (ad (ad x16 (s0 x15)) x7) (s1 x2)) := by rw [hx15, hx2, hx16, hx7]; rfl
          rw [← hx15] at c15
          rw [← hx2] at c2
          rw [← hx16] at c16
          rw [← hx7] at c7
          clear hx15 hx2 hx16 hx7 cs
          have e15 : ((k : Int) - 15).toNat = k - 15 := by omega
          have e2 : ((k : Int) - 2).toNat = k - 2 := by omega
          have e16 : ((k : Int) - 16).toNat = k - 16 := by omega
          have e7 : ((k : Int) - 7).toNat = k - 7 := by omega
          have f15 : 0 ≤ ((k : Int) - 15) := by omega
          have f2 : 0 ≤ ((k : Int) - 2) := by omega
          have f16 : 0 ≤ ((k : Int) - 16) := by omega
          have f7 : 0 ≤ ((k : Int) - 7) := by omega
          have g15 : ((k : Int) - 15) < 64 := by omega
          have g2 : ((k : Int) - 2) < 64 := by omega
          have g16 : ((k : Int) - 16) < 64 := by omega
          have g7 : ((k : Int) - 7) < 64 := by omega
          go_wp2
          go_quiet (fail)
          go_wp2_with (go_at_call 154; refine (rot_at _ _ _ (by simp)).mono ?_; rintro e w' ⟨rfl, rfl⟩)
          clear f15 f2 g15 g2 e15 e2 c15 c2
          go_region
          all_goals go_wp2
          go_roundw
          case rel =>
            have e0 : ∀ q, (wr.drewN q).heap = wr.heap := fun q => by simp
            have a6 : Arr (wr.drewN (nq + 1)) (w.heap.size + 1) 194 (wv (fillW B k)) := by unfold Arr; rw [e0]; exact a5
            have A6 : Arr (wr.drewN (nq + 1)) w.heap.size 194 (List.replicate 64 (Value.int .u32 0)) := by unfold Arr; rw [e0]; exact A5
            refine ⟨k + 1, by omega, by omega, by go_num, (bel_drewN B5 _).setCell (by show w.heap.size ≤ w.heap.size + 1; omega) _, A6.other _ _ (by show w.heap.size ≠ w.heap.size + 1; omega), ?_, by simpa using s5⟩
            have a7 := a6.set k (.int .u32 (nxt (W B k) k))
            have e := arrW_next B k hkt
            rw [if_neg (by omega)] at e
            rw [wv_set, fillW_arr _ _ hkt, arrW_set, e] at a7
            rw [HX.out] at a7
            have e3 : ad (ad (ad x16 (s0 x15)) x7) (s1 x2) = (x16 + bits BinOp.xor IntKind.u32 (bits BinOp.xor IntKind.u32 (rl (-7) x15) (rl (-18) x15)) (x15 / 8) + x7 + bits BinOp.xor IntKind.u32 (bits BinOp.xor IntKind.u32 (rl (-17) x2) (rl (-19) x2)) (x2 / 1024)) % 4294967296 := by
              simp only [ad, IntKind.wrap_u32', s0, s1, xr]
              omega
            rw [e3] at a7
            exact a7
          case measure => simp [intOf]; omega
        · obtain rfl : k = 64 := by omega
          rw [fillW_all] at a5
          go_wp2_with (first
            | (refine wpList_load_cells rfl 194 (Operand.tmp 3) rfl ⟨w.heap.size + 1, 0, none⟩ rfl (wv (W B 64)) (fun j v hv => by rw [add_at, Nat.zero_add, a5.cell]; exact hv) g55 (a55.trans (by rw [wv_length, W_len])) ?_)
            | (refine wpList_store_named rfl 194 (Operand.tmp 2) _ rfl w.heap.size (wv (W B 64)) rfl rfl 194 _ A5 _ s5 (a55.trans (by rw [wv_length, W_len])) (by rw [wv_length, W_len]; rfl) (wv_one _) ?_; intro w6 a6 s6 g6; have B6 : Below w.heap.size w w6 := B5.grown g6 (by omega) (by intro k hk; cases hk; omega); clear g6))
          refine bodyPost_ret (v := .agg (wv (W B 64)).toArray) ?_ rfl ⟨rfl, B6⟩
          exact results_cells rfl _ w6 ⟨w.heap.size, 0, none⟩ rfl (wv (W B 64)) (fun j v hv => by rw [add_at, Nat.zero_add, Arr.cell a6]; exact hv) (g55 w6) (a55.trans (by rw [wv_length, W_len]))
open Go.RowKit
def an (x y : Int) : Int := bits .and .u32 x y
def nt (x : Int) : Int := bits .xor .u32 4294967295 x
def t1 (e f g l k w : Int) : Int := ad (ad (ad (ad l (xr (xr (rl (-6) e) (rl (-11) e)) (rl (-25) e))) (xr (an e f) (an (nt e) g))) k) w
def t2 (a b c : Int) : Int := ad (xr (xr (rl (-2) a) (rl (-13) a)) (rl (-22) a)) (xr (xr (an a b) (an a c)) (an b c))
def rnd (s : List Int) (k w : Int) : List Int :=
  match s with
  | [a, b, c, d, e, f, g, l] => [ad (t1 e f g l k w) (t2 a b c), a, b, c, ad d (t1 e f g l k w), e, f, g]
  | _ => s
def Rr (X Ws : List Int) : Nat → List Int
  | 0 => X
  | t + 1 => rnd (Rr X Ws t) (K0.getD t 0) (Ws.getD t 0)
def mixA (A B : List Int) : List Int := part A (Rr (part H0 A 8) (W B 64) 64) 8
set_option maxRecDepth 100000 in
set_option maxHeartbeats 2000000 in
theorem mix_any (w : World) (p : Nat) (A B : List Int) (n : Nat) (hT : Tabs w) (h : HB w p A B n) :
    Calls Tryz.prog 128 #[.pointer (some ⟨p, 0, none⟩)] w fun e w' => (∃ v, e = .returned v) ∧ HB w' p (mixA A B) B n ∧ w.grownBy w' (some p) := by
  have h2 := hT.two
  have hp := h.lt
  go_enter Tryz.func128, Tryz.ntmps128
  go_wp2_with (first
    | (go_at_call 153; refine (sched_any w p A B n hT h).mono ?_; rintro e w1 ⟨rfl, B1⟩; have T1 := hT.below B1 h2; have H1 := h.below B1 hp; have S1 := B1.size)
    | (refine wpList_alloc_named rfl 2 rfl 194 rfl w1.heap.size rfl _ 64 z55 ?_; intro w2 a2 s2 g2; have B2 : Below w.heap.size w w2 := B1.grown g2 S1 (by simp); clear g2 B1)
    | (refine wpList_store_named rfl 194 (Operand.tmp 2) _ rfl w1.heap.size (wv (W B 64)) rfl rfl 194 _ a2 _ s2 (a55.trans (by rw [wv_length, W_len])) (by rw [wv_length, W_len]; rfl) (wv_one _) ?_; intro w3 a3 s3 g3; have B3 : Below w.heap.size w w3 := B2.grown g3 (by omega) (by intro k hk; cases hk; omega); have T3 := hT.below B3 h2; have H3 := h.below B3 hp; clear g3 B2 a2 s2 T1 H1)
    | (go_at_call 132; refine (words_any w3 p A B n T3 H3).mono ?_; rintro e w4 ⟨rfl, C4⟩; have B4 : Below w.heap.size w w4 := B3.trans (C4.mono (by omega)); have a4 : Arr w4 w1.heap.size 194 (wv (W B 64)) := Arr.below a3 C4 (by omega); have S4 := C4.size; clear C4 B3 T3 H3 a3)
    | (refine wpList_alloc_named rfl 3 rfl 163 rfl w4.heap.size rfl _ 8 z48 ?_; intro w5 a5 s5 g5; have B5 : Below w.heap.size w w5 := B4.grown g5 (by omega) (by simp); have A5 := a4.grown g5 (by simp); clear g5 B4 a4)
    | (refine wpList_store_named rfl 163 (Operand.tmp 3) _ rfl w4.heap.size (wv (part H0 A 8)) rfl rfl 163 _ a5 _ s5 (a48.trans (by rw [wv_length, part_len])) (by rw [wv_length, part_len]; rfl) (wv_one _) ?_; intro w6 a6 s6 g6; have B6 : Below w.heap.size w w6 := B5.grown g6 (by omega) (by intro k hk; cases hk; omega); have A6 := A5.grown g6 (by intro e; have := Option.some.inj e; omega); clear g6 B5 a5 s5 A5))
  have hc : ∀ j, j < 8 → w6.cell? ⟨w4.heap.size, j, none⟩ = some (.int .u32 ((part H0 A 8).getD j 0)) := by
    intro j hj
    rw [Arr.cell a6, wv_get _ _ (by rw [part_len]; exact hj)]
  have c0 := hc 0 (by omega)
  have c1 := hc 1 (by omega)
  have c2 := hc 2 (by omega)
  have c3 := hc 3 (by omega)
  have c4 := hc 4 (by omega)
  have c5 := hc 5 (by omega)
  have c6 := hc 6 (by omega)
  have c7 := hc 7 (by omega)
  clear hc
  obtain ⟨x0, x1, x2, x3, x4, x5, x6, x7, hX⟩ : ∃ x0 x1 x2 x3 x4 x5 x6 x7, part H0 A 8 = [x0, x1, x2, x3, x4, x5, x6, x7] := ⟨_, _, _, _, _, _, _, _, rfl⟩
  rw [hX] at c0 c1 c2 c3 c4 c5 c6 c7
  simp only [List.getD_cons_zero, List.getD_cons_succ] at c0 c1 c2 c3 c4 c5 c6 c7
  have HX : Hid (part H0 A 8 = [x0, x1, x2, x3, x4, x5, x6, x7]) := hX
  clear hX
  go_wp2
  go_quiet (fail)
  rename Nat => q1
  go_wp2
  go_quiet (fail)
  rename Nat => q2
  go_wp2
  clear c0 c1 c2 c3 c4 c5 c6 c7
  have T6 := hT.below B6 h2
  go_loopw [4, 5, 6, 7, 8, 9, 10, 11, 39] (fun va vb vc vd ve vf vg vh i wr => ∃ (k q : Nat) (a b c d e f g l : Int), k ≤ 64 ∧ i = .int .i64 k ∧ wr = w6.drewN q ∧ Hid (Rr (part H0 A 8) (W B 64) k = [a, b, c, d, e, f, g, l]) ∧ va = .int .u32 a ∧ vb = .int .u32 b ∧ vc = .int .u32 c ∧ vd = .int .u32 d ∧ ve = .int .u32 e ∧ vf = .int .u32 f ∧ vg = .int .u32 g ∧ vh = .int .u32 l) (fun _ _ _ _ _ _ _ _ i _ => 64 - (intOf i).toNat)
  case atStart => exact ⟨0, q1 + q2, x0, x1, x2, x3, x4, x5, x6, x7, by omega, rfl, by simp, HX, rfl, rfl, rfl, rfl, rfl, rfl, rfl, rfl⟩
  case round =>
    obtain ⟨k, q, a, b, c, d, e, f, g, l, hk, rfl, rfl, HR, rfl, rfl, rfl, rfl, rfl, rfl, rfl, rfl⟩ := hrel
    by_cases hlt : k < 64
    · have hki : (k : Int) < 64 := by omega
      have ck := T6.cubes k _ (wv_get K0 k hlt)
      have cw : w6.cell? ⟨w1.heap.size, k, none⟩ = some (.int .u32 ((W B 64).getD k 0)) := by
        rw [Arr.cell A6, wv_get _ _ (by rw [W_len]; exact hlt)]
      obtain ⟨xk, hxk⟩ : ∃ x, x = K0.getD k 0 := ⟨_, rfl⟩
      obtain ⟨xw, hxw⟩ : ∃ x, x = (W B 64).getD k 0 := ⟨_, rfl⟩
      have HN : Hid (Rr (part H0 A 8) (W B 64) (k + 1) = rnd [a, b, c, d, e, f, g, l] xk xw) := by
        have : Rr (part H0 A 8) (W B 64) (k + 1) = rnd (Rr (part H0 A 8) (W B 64) k) (K0.getD k 0) ((W B 64).getD k 0) := rfl
        rw [HR.out, ← hxk, ← hxw] at this
        exact this
      rw [← hxk] at ck
      rw [← hxw] at cw
      clear hxk hxw
      go_wp2_with (go_at_call 154; refine (rot_at _ _ _ (by simp)).mono ?_; rintro e w' ⟨rfl, rfl⟩)
      go_quiet (fail)
      go_wp2_with (go_at_call 154; refine (rot_at _ _ _ (by simp)).mono ?_; rintro e w' ⟨rfl, rfl⟩)
      go_roundw
      case rel =>
        refine ⟨k + 1, _, ad (t1 e f g l xk xw) (t2 a b c), a, b, c, ad d (t1 e f g l xk xw), e, f, g, by omega, by go_num, rfl, HN.out, ?_, rfl, rfl, rfl, ?_, rfl, rfl, rfl⟩
        · have e0 : (if IntKind.u32.signed = true then -1 else IntKind.u32.max) = 4294967295 := by decide
          rw [e0]
          refine congrArg _ ?_
          simp only [ad, IntKind.wrap_u32', t1, t2, xr, an, nt]
          omega
        · have e0 : (if IntKind.u32.signed = true then -1 else IntKind.u32.max) = 4294967295 := by decide
          rw [e0]
          refine congrArg _ ?_
          simp only [ad, IntKind.wrap_u32', t1, xr, an, nt]
          omega
      case measure => simp [intOf]; omega
    · have hge : (64 : Int) ≤ (k : Int) := by omega
      have HR' : Hid (Rr (part H0 A 8) (W B 64) 64 = [a, b, c, d, e, f, g, l]) := by
        obtain rfl : k = 64 := by omega
        exact HR
      clear HR
      go_wp2
      have h7 : HB (w6.drewN q) p (part A [a, b, c, d, e, f, g, l] 0) B n := by
        rw [part_zero _ _ h.lenA]
        exact (h.below B6 hp).drewN q
      have G7 : w.grownBy (w6.drewN q) (some p) := grown_drewN (bel_grown B6 _) q
      clear a6 s6 B6 A6 T6 hk hlt hge HX
      generalize w6.drewN q = w7 at h7 G7
      go_loopw [113] (fun i wr => ∃ j : Nat, j ≤ 8 ∧ i = .int .i64 j ∧ HB wr p (part A [a, b, c, d, e, f, g, l] j) B n ∧ w.grownBy wr (some p)) (fun i _ => 8 - (intOf i).toNat)
      case atStart => exact ⟨0, by omega, rfl, h7, G7⟩
      case round =>
        obtain ⟨j, hj, rfl, h8, G8⟩ := hrel
        clear h7 G7
        by_cases hjt : j < 8
        · have hji : (j : Int) < 8 := by omega
          have hx : ∀ w, (Instr.index 163 (.agg #[.int .u32 a, .int .u32 b, .int .u32 c, .int .u32 d, .int .u32 e, .int .u32 f, .int .u32 g, .int .u32 l]) (.int .i64 j)).run Tryz.prog w = .ok (.int .u32 ([a, b, c, d, e, f, g, l].getD j 0)) w := fun w => index48 [a, b, c, d, e, f, g, l] j rfl hjt w
          have c1 := h8.word j hjt
          rw [part_get _ _ _ _ hjt] at c1
          simp only [Nat.lt_irrefl, if_false] at c1
          have cf := h8.free j
          obtain ⟨x, hx'⟩ : ∃ x, x = [a, b, c, d, e, f, g, l].getD j 0 := ⟨_, rfl⟩
          obtain ⟨y, hy'⟩ : ∃ y, y = A.getD j 0 := ⟨_, rfl⟩
          have HXY : Hid (part A [a, b, c, d, e, f, g, l] (j + 1) = (part A [a, b, c, d, e, f, g, l] j).set j (ad y x)) := by rw [hx', hy']; exact (part_succ _ _ _).symm
          rw [← hx'] at hx
          rw [← hy'] at c1
          clear hx' hy'
          go_wp2
          go_region
          all_goals go_wp2
          go_roundw
          case rel =>
            refine ⟨j + 1, by omega, by go_num, ?_, ?_⟩
            · rw [HXY.out]
              exact (h8.drewN 1).setA j (ad y x) hjt
            · exact grown_set (grown_drewN G8 1) j _
          case measure => simp [intOf]; omega
        · obtain rfl : j = 8 := by omega
          go_wp2
          go_end0
          refine ⟨⟨_, rfl⟩, ?_, G8⟩
          unfold mixA
          rw [HR'.out]
          exact h8
open Go.RowKit
theorem Sl.take {w : World} {ao : Option Addr} {n cap : Nat} {xs : List Int} (h : Sl w ao n cap xs) (k : Nat) (hk : k ≤ n) : Sl w ao k cap (xs.take k) := by
  have h1 := h.le
  have h2 := h.len
  refine ⟨by simp; omega, by omega, h.mx, fun hn => ?_, fun a ha i hi => ?_, h.byte.take k⟩
  · have := h.nil hn
    omega
  · rw [h.cell a ha i (by omega)]
    simp [List.getD, hi]
end Go.Proofs.YtlljmhcgjkolpaaGreatDoor
namespace Go
theorem step_copy_named {P : Program} {ops : Array Oper} {o : Oper} {a : Act} {w : World} {K : Act → World → Prop} {Q : Exit → Act → World → Prop} {E : Prop} (hgd : o.guard = none) (d s : Operand) (dT sT : TypeId)
    (ho : o.op = .call { callee := .builtin .copy, args := #[d, s], argTypes := #[dT, sT] }) (elem : TypeId) (hu : P.underlying dT = some (.slice elem)) (hsz : (P.info? elem).map (·.size) = some 1)
    (g off : Nat) (ad : Addr) (dLen dCap sLen sCap : Nat) (hd : a.eval d = .slice (some ⟨g, off, none⟩) dLen dCap) (hs : a.eval s = .slice (some ad) sLen sCap)
    (cur : List Value) (t : TypeId) (hg : w.heap[g]? = some (.cells cur.toArray t (0, 0))) (cs : List Value) (hn : cs.length = Nat.min sLen dLen)
    (hsrc : ∀ j v, cs[j]? = some v → w.cell? (ad.add j) = some v)
    (hfit : off + cs.length ≤ cur.length) (h1 : ∀ v ∈ cs, v.oneCell' = true)
    (N : Nat) (hN : cs.length = N)
    (h : ∀ w', RowKit.Hid (w'.heap[g]? = some (.cells (splice cur off cs).toArray t (0, 0))) → w.grownBy w' (some g) → K (a.put o.dst (.int .i64 N)) w') :
    if Region.wanted o (yielded ops a.tmps) = true then Oper.wp P o a w K Q else E := by
  have hw : Region.wanted o (yielded ops a.tmps) = true := by simp [Region.wanted, hgd]
  subst hN
  rw [if_pos hw]
  have hrun := run_copy_row (P := P) w dT sT o.type elem g off dLen dCap ad sLen sCap cur.toArray t cs hu hsz hg hn hsrc (by simpa using hfit) h1
  unfold Oper.wp
  simp [execOp, ho, resolve, invoke, builtin, hd, hs, hrun, Result.andThen]
  exact h _ (show _ = _ by simpa [splice] using setRow_heap w g _ _ t _ hg) ⟨rfl, rfl, rfl, by simp, fun k _ hk => setRow_other w g k _ (fun e => hk (by rw [e]))⟩
end Go
namespace Go.Proofs.YtlljmhcgjkolpaaGreatDoor
open Go.RowKit
def blk (bs : List Int) (i : Nat) : List Int := (bs.drop (64 * i)).take 64
def AA (bs : List Int) : Nat → List Int
  | 0 => List.replicate 8 0
  | i + 1 => mixA (AA bs i) (blk bs i)
theorem AA_append (bs cs : List Int) (i : Nat) (h : 64 * i ≤ bs.length) : AA (bs ++ cs) i = AA bs i := by
  induction i with
  | zero => rfl
  | succ i ih =>
    have e : blk (bs ++ cs) i = blk bs i := by
      unfold blk
      rw [List.drop_append_of_le_length (by omega), List.take_append_of_le_length (by simp; omega)]
    simp only [AA]
    rw [ih (by omega), e]
def HS (w : World) (p : Nat) (bs : List Int) : Prop :=
  ∃ B, HB w p (AA bs (bs.length / 64)) B bs.length ∧ B.take (bs.length % 64) = bs.drop (64 * (bs.length / 64))
theorem HS.lt {w : World} {p : Nat} {bs : List Int} (h : HS w p bs) : p < w.heap.size := by obtain ⟨B, h, _⟩ := h; exact h.lt
theorem HS.below {w w' : World} {p m : Nat} {bs : List Int} (h : HS w p bs) (hb : Below m w w') (hp : p < m) : HS w' p bs := by
  obtain ⟨B, h, e⟩ := h
  exact ⟨B, h.below hb hp, e⟩
theorem HB.grown {w w' : World} {p : Nat} {A B : List Int} {n : Nat} {row : Option Nat} (h : HB w p A B n) (hg : w.grownBy w' row) (hne : some p ≠ row) : HB w' p A B n :=
  ⟨(hg.block p h.lt hne).trans h.heap, h.lenA, h.lenB, h.byte, h.size⟩
theorem HS.grown {w w' : World} {p : Nat} {bs : List Int} {row : Option Nat} (h : HS w p bs) (hg : w.grownBy w' row) (hne : some p ≠ row) : HS w' p bs := by
  obtain ⟨B, h, e⟩ := h
  exact ⟨B, h.grown hg hne, e⟩
theorem Tabs.grown {w w' : World} {p : Nat} (h : Tabs w) (hg : w.grownBy w' (some p)) (hp : 2 ≤ p) : Tabs w' :=
  have h2 := h.two
  ⟨fun j v hv => hg.cell (h.first j v hv) (by intro e; have := Option.some.inj e; simp only at this; omega), fun j v hv => hg.cell (h.cubes j v hv) (by intro e; have := Option.some.inj e; simp only at this; omega), by have := hg.size; omega⟩
theorem Sl.grown {w w' : World} {ao : Option Addr} {n cap p : Nat} {xs : List Int} (h : Sl w ao n cap xs) (hg : w.grownBy w' (some p)) (hne : ∀ a, ao = some a → 0 < n → a.block ≠ p) : Sl w' ao n cap xs :=
  ⟨h.len, h.le, h.mx, h.nil, fun a ha i hi => hg.cell (h.cell a ha i hi) (by intro e; have := Option.some.inj e; exact hne a ha (by omega) (by rw [← this]; unfold Addr.add; split <;> rfl)), h.byte⟩
theorem Sl.cut {w : World} {a : Addr} {n cap : Nat} {xs : List Int} (h : Sl w (some a) n cap xs) (u : Nat) (hu : u ≤ n) : Sl w (some (if cap = u then a else a.add u)) (n - u) (cap - u) (xs.drop u) := by
  refine ⟨by simp [h.len], by have := h.le; omega, by have := h.mx; omega, fun e => by simp at e, fun b hb i hi => ?_, h.byte.drop u⟩
  have hle := h.le
  rw [if_neg (by omega)] at hb
  obtain rfl := Option.some.inj hb
  have e : (a.add u).add i = a.add (u + i) := by
    rcases Nat.eq_zero_or_pos u with rfl | h1
    · simp [Addr.add]
    · rcases Nat.eq_zero_or_pos i with rfl | h2
      · simp [Addr.add]
      · have h3 : ¬ u = 0 := by omega
        have h4 : ¬ i = 0 := by omega
        simp [Addr.add, h3, h4, Nat.add_assoc]
  rw [e, h.cell a rfl (u + i) (by omega)]
  simp [List.getD]
theorem u22 : Tryz.prog.underlying 25 = some (.slice (Tryz.prog.elem 25)) := by kernel_rfl
theorem el22 : Tryz.prog.elem 25 = 5 := by kernel_rfl
theorem slice22l (a : Addr) (n cap k : Nat) (hk : k ≤ n) (w : World) : (Instr.slice 25 (.slice (some a) n cap) (some (.int .i64 k)) none none).run Tryz.prog w = .ok (.slice (some (if cap = k then a else a.add k)) (n - k) (cap - k)) w := by
  rw [run_slice_l w 25 (some a) n cap u22 .i64 k (by omega) (by omega), el22, size8]
  simp [sliced]
  split <;> rfl
theorem splice_hv (A B Y : List Int) (n r : Nat) (hA : A.length = 8) (hB : B.length = 64) (hr : r + Y.length ≤ 64) : splice (hv A B n) (8 + r) (bv Y) = hv A (B.take r ++ Y ++ B.drop (r + Y.length)) n := by
  unfold hv splice
  have l1 : (wv A).length = 8 := by simp [wv, hA]
  have e1 : (wv A ++ bv B ++ [Value.int .u64 n]).take (8 + r) = wv A ++ bv (B.take r) := by
    rw [List.append_assoc, ← l1, List.take_length_add_append, List.take_append_of_le_length (by simp [bv]; omega)]
    simp [bv, List.map_take]
  have e2 : (wv A ++ bv B ++ [Value.int .u64 n]).drop (8 + r + (bv Y).length) = bv (B.drop (r + Y.length)) ++ [Value.int .u64 n] := by
    rw [List.append_assoc, ← l1, Nat.add_assoc, List.drop_length_add_append, List.drop_append_of_le_length (by simp [bv]; omega)]
    simp [bv, List.map_drop]
  rw [e1, e2]
  simp [bv]
theorem HB.setN {w : World} {p : Nat} {A B : List Int} {n : Nat} (h : HB w p A B n) (m : Nat) (hm : m < 18446744073709551616) : HB (w.setCell ⟨p, 72, none⟩ (.int .u64 m)) p A B m := by
  refine ⟨?_, h.lenA, h.lenB, h.byte, hm⟩
  have := Arr.set (show Arr w p _ (hv A B n) from h.heap) 72 (.int .u64 m)
  have e : (hv A B n).set 72 (.int .u64 m) = hv A B m := by
    unfold hv
    rw [List.set_append_right _ _ (by simp [wv, bv, h.lenA, h.lenB])]
    simp [wv, bv, h.lenA, h.lenB]
  rw [e] at this
  exact this
theorem HS_less {w : World} {p : Nat} {ys B Y : List Int} (h : HB w p (AA ys (ys.length / 64)) (B.take (ys.length % 64) ++ Y ++ B.drop (ys.length % 64 + Y.length)) (ys.length + Y.length)) (hB : B.take (ys.length % 64) = ys.drop (64 * (ys.length / 64)))
    (hl : ys.length % 64 + Y.length < 64) : HS w p (ys ++ Y) := by
  have e1 : (ys ++ Y).length / 64 = ys.length / 64 := by simp; omega
  have e2 : (ys ++ Y).length % 64 = ys.length % 64 + Y.length := by simp; omega
  refine ⟨B.take (ys.length % 64) ++ Y ++ B.drop (ys.length % 64 + Y.length), ?_, ?_⟩
  · rw [e1, AA_append _ _ _ (by omega)]
    simpa using h
  · rw [e1, e2, hB, List.drop_append_of_le_length (by omega)]
    rw [List.take_append_of_le_length (by simp; omega)]
    rw [List.take_of_length_le (by simp; omega)]
theorem HS_full {w : World} {p : Nat} {ys B Y : List Int} (h : HB w p (mixA (AA ys (ys.length / 64)) (B.take (ys.length % 64) ++ Y ++ B.drop (ys.length % 64 + Y.length))) (B.take (ys.length % 64) ++ Y ++ B.drop (ys.length % 64 + Y.length)) (ys.length + Y.length)) (hB : B.take (ys.length % 64) = ys.drop (64 * (ys.length / 64)))
    (hl : ys.length % 64 + Y.length = 64) (hb : B.length = 64) : HS w p (ys ++ Y) := by
  have e1 : (ys ++ Y).length / 64 = ys.length / 64 + 1 := by simp; omega
  have e2 : (ys ++ Y).length % 64 = 0 := by simp; omega
  have e3 : B.take (ys.length % 64) ++ Y ++ B.drop (ys.length % 64 + Y.length) = blk (ys ++ Y) (ys.length / 64) := by
    rw [hl, List.drop_of_length_le (by omega), List.append_nil, hB]
    unfold blk
    rw [List.drop_append_of_le_length (by omega), List.take_of_length_le (by simp; omega)]
  rw [e3] at h
  refine ⟨blk (ys ++ Y) (ys.length / 64), ?_, ?_⟩
  · rw [e1]
    simp only [AA]
    rw [AA_append _ _ _ (by omega)]
    simpa using h
  · rw [e1, e2, List.take_zero, List.drop_of_length_le (by simp; omega)]
end Go.Proofs.YtlljmhcgjkolpaaGreatDoor

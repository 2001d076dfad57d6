/-
  Texts in one: Mix.
-/
import Derived.Test.YtcgphdipfekccaaGreatDoorMessageOrderQ13
namespace Go.Proofs.YtcgphdipfekccaaGreatDoor
open Go.RowKit
def an (x y : Int) : Int := bits .and .u32 x y
def nt (x : Int) : Int := bits .xor .u32 4294967295 x
def t1 (e f g l k w : Int) : Int := ad (ad (ad (ad l (xr (xr (rl (-6) e) (rl (-11) e)) (rl (-25) e))) (xr (an e f) (an (nt e) g))) k) w
def t2 (a b c : Int) : Int := ad (xr (xr (rl (-2) a) (rl (-13) a)) (rl (-22) a)) (xr (xr (an a b) (an a c)) (an b c))
def rnd (s : List Int) (k w : Int) : List Int :=
  match s with
  | [a, b, c, d, e, f, g, l] => [ad (t1 e f g l k w) (t2 a b c), a, b, c, ad d (t1 e f g l k w), e, f, g]
  | _ => s
def Rr (X Ws : List Int) : Nat → List Int
  | 0 => X
  | t + 1 => rnd (Rr X Ws t) (K0.getD t 0) (Ws.getD t 0)
def mixA (A B : List Int) : List Int := part A (Rr (part H0 A 8) (W B 64) 64) 8
set_option maxRecDepth 100000 in
set_option maxHeartbeats 2000000 in
theorem mix_any (w : World) (p : Nat) (A B : List Int) (n : Nat) (hT : Tabs w) (h : HB w p A B n) :
    Calls Tryz.prog 66 #[.pointer (some ⟨p, 0, none⟩)] w fun e w' => (∃ v, e = .returned v) ∧ HB w' p (mixA A B) B n ∧ w.grownBy w' (some p) := by
  have h2 := hT.two
  have hp := h.lt
  go_enter Tryz.func66, Tryz.ntmps66
  go_wp2_with (first
    | (go_at_call 85; refine (sched_any w p A B n hT h).mono ?_; rintro e w1 ⟨rfl, B1⟩; have T1 := hT.below B1 h2; have H1 := h.below B1 hp; have S1 := B1.size)
    | (refine wpList_alloc_named rfl 2 rfl 130 rfl w1.heap.size rfl _ 64 z55 ?_; intro w2 a2 s2 g2; have B2 : Below w.heap.size w w2 := B1.grown g2 S1 (by simp); clear g2 B1)
    | (refine wpList_store_named rfl 130 (Operand.tmp 2) _ rfl w1.heap.size (wv (W B 64)) rfl rfl 130 _ a2 _ s2 (a55.trans (by rw [wv_length, W_len])) (by rw [wv_length, W_len]; rfl) (wv_one _) ?_; intro w3 a3 s3 g3; have B3 : Below w.heap.size w w3 := B2.grown g3 (by omega) (by intro k hk; cases hk; omega); have T3 := hT.below B3 h2; have H3 := h.below B3 hp; clear g3 B2 a2 s2 T1 H1)
    | (go_at_call 68; refine (words_any w3 p A B n T3 H3).mono ?_; rintro e w4 ⟨rfl, C4⟩; have B4 : Below w.heap.size w w4 := B3.trans (C4.mono (by omega)); have a4 : Arr w4 w1.heap.size 130 (wv (W B 64)) := Arr.below a3 C4 (by omega); have S4 := C4.size; clear C4 B3 T3 H3 a3)
    | (refine wpList_alloc_named rfl 3 rfl 111 rfl w4.heap.size rfl _ 8 z48 ?_; intro w5 a5 s5 g5; have B5 : Below w.heap.size w w5 := B4.grown g5 (by omega) (by simp); have A5 := a4.grown g5 (by simp); clear g5 B4 a4)
    | (refine wpList_store_named rfl 111 (Operand.tmp 3) _ rfl w4.heap.size (wv (part H0 A 8)) rfl rfl 111 _ a5 _ s5 (a48.trans (by rw [wv_length, part_len])) (by rw [wv_length, part_len]; rfl) (wv_one _) ?_; intro w6 a6 s6 g6; have B6 : Below w.heap.size w w6 := B5.grown g6 (by omega) (by intro k hk; cases hk; omega); have A6 := A5.grown g6 (by intro e; have := Option.some.inj e; omega); clear g6 B5 a5 s5 A5))
  have hc : ∀ j, j < 8 → w6.cell? ⟨w4.heap.size, j, none⟩ = some (.int .u32 ((part H0 A 8).getD j 0)) := by
    intro j hj
    rw [Arr.cell a6, wv_get _ _ (by rw [part_len]; exact hj)]
  have c0 := hc 0 (by omega)
  have c1 := hc 1 (by omega)
  have c2 := hc 2 (by omega)
  have c3 := hc 3 (by omega)
  have c4 := hc 4 (by omega)
  have c5 := hc 5 (by omega)
  have c6 := hc 6 (by omega)
  have c7 := hc 7 (by omega)
  clear hc
  obtain ⟨x0, x1, x2, x3, x4, x5, x6, x7, hX⟩ : ∃ x0 x1 x2 x3 x4 x5 x6 x7, part H0 A 8 = [x0, x1, x2, x3, x4, x5, x6, x7] := ⟨_, _, _, _, _, _, _, _, rfl⟩
  rw [hX] at c0 c1 c2 c3 c4 c5 c6 c7
  simp only [List.getD_cons_zero, List.getD_cons_succ] at c0 c1 c2 c3 c4 c5 c6 c7
  have HX : Hid (part H0 A 8 = [x0, x1, x2, x3, x4, x5, x6, x7]) := hX
  clear hX
  go_wp2
  go_quiet (fail)
  rename Nat => q1
  go_wp2
  go_quiet (fail)
  rename Nat => q2
  go_wp2
  clear c0 c1 c2 c3 c4 c5 c6 c7
  have T6 := hT.below B6 h2
  go_loopw [4, 5, 6, 7, 8, 9, 10, 11, 39] (fun va vb vc vd ve vf vg vh i wr => ∃ (k q : Nat) (a b c d e f g l : Int), k ≤ 64 ∧ i = .int .i64 k ∧ wr = w6.drewN q ∧ Hid (Rr (part H0 A 8) (W B 64) k = [a, b, c, d, e, f, g, l]) ∧ va = .int .u32 a ∧ vb = .int .u32 b ∧ vc = .int .u32 c ∧ vd = .int .u32 d ∧ ve = .int .u32 e ∧ vf = .int .u32 f ∧ vg = .int .u32 g ∧ vh = .int .u32 l) (fun _ _ _ _ _ _ _ _ i _ => 64 - (intOf i).toNat)
  case atStart => exact ⟨0, q1 + q2, x0, x1, x2, x3, x4, x5, x6, x7, by omega, rfl, by simp, HX, rfl, rfl, rfl, rfl, rfl, rfl, rfl, rfl⟩
  case round =>
    obtain ⟨k, q, a, b, c, d, e, f, g, l, hk, rfl, rfl, HR, rfl, rfl, rfl, rfl, rfl, rfl, rfl, rfl⟩ := hrel
    by_cases hlt : k < 64
    · have hki : (k : Int) < 64 := by omega
      have ck := T6.cubes k _ (wv_get K0 k hlt)
      have cw : w6.cell? ⟨w1.heap.size, k, none⟩ = some (.int .u32 ((W B 64).getD k 0)) := by
        rw [Arr.cell A6, wv_get _ _ (by rw [W_len]; exact hlt)]
      obtain ⟨xk, hxk⟩ : ∃ x, x = K0.getD k 0 := ⟨_, rfl⟩
      obtain ⟨xw, hxw⟩ : ∃ x, x = (W B 64).getD k 0 := ⟨_, rfl⟩
      have HN : Hid (Rr (part H0 A 8) (W B 64) (k + 1) = rnd [a, b, c, d, e, f, g, l] xk xw) := by
        have : Rr (part H0 A 8) (W B 64) (k + 1) = rnd (Rr (part H0 A 8) (W B 64) k) (K0.getD k 0) ((W B 64).getD k 0) := rfl
        rw [HR.out, ← hxk, ← hxw] at this
        exact this
      rw [← hxk] at ck
      rw [← hxw] at cw
      clear hxk hxw
      go_wp2_with (go_at_call 86; refine (rot_at _ _ _ (by simp)).mono ?_; rintro e w' ⟨rfl, rfl⟩)
      go_quiet (fail)
      go_wp2_with (go_at_call 86; refine (rot_at _ _ _ (by simp)).mono ?_; rintro e w' ⟨rfl, rfl⟩)
      go_roundw
      case rel =>
        refine ⟨k + 1, _, ad (t1 e f g l xk xw) (t2 a b c), a, b, c, ad d (t1 e f g l xk xw), e, f, g, by omega, by go_num, rfl, HN.out, ?_, rfl, rfl, rfl, ?_, rfl, rfl, rfl⟩
        · have e0 : (if IntKind.u32.signed = true then -1 else IntKind.u32.max) = 4294967295 := by decide
          rw [e0]
          refine congrArg _ ?_
          simp only [ad, IntKind.wrap_u32', t1, t2, xr, an, nt]
          omega
        · have e0 : (if IntKind.u32.signed = true then -1 else IntKind.u32.max) = 4294967295 := by decide
          rw [e0]
          refine congrArg _ ?_
          simp only [ad, IntKind.wrap_u32', t1, xr, an, nt]
          omega
      case measure => simp [intOf]; omega
    · have hge : (64 : Int) ≤ (k : Int) := by omega
      have HR' : Hid (Rr (part H0 A 8) (W B 64) 64 = [a, b, c, d, e, f, g, l]) := by
        obtain rfl : k = 64 := by omega
        exact HR
      clear HR
      go_wp2
      have h7 : HB (w6.drewN q) p (part A [a, b, c, d, e, f, g, l] 0) B n := by
        rw [part_zero _ _ h.lenA]
        exact (h.below B6 hp).drewN q
      have G7 : w.grownBy (w6.drewN q) (some p) := grown_drewN (bel_grown B6 _) q
      clear a6 s6 B6 A6 T6 hk hlt hge HX
      generalize w6.drewN q = w7 at h7 G7
      go_loopw [113] (fun i wr => ∃ j : Nat, j ≤ 8 ∧ i = .int .i64 j ∧ HB wr p (part A [a, b, c, d, e, f, g, l] j) B n ∧ w.grownBy wr (some p)) (fun i _ => 8 - (intOf i).toNat)
      case atStart => exact ⟨0, by omega, rfl, h7, G7⟩
      case round =>
        obtain ⟨j, hj, rfl, h8, G8⟩ := hrel
        clear h7 G7
        by_cases hjt : j < 8
        · have hji : (j : Int) < 8 := by omega
          have hx : ∀ w, (Instr.index 111 (.agg #[.int .u32 a, .int .u32 b, .int .u32 c, .int .u32 d, .int .u32 e, .int .u32 f, .int .u32 g, .int .u32 l]) (.int .i64 j)).run Tryz.prog w = .ok (.int .u32 ([a, b, c, d, e, f, g, l].getD j 0)) w := fun w => index48 [a, b, c, d, e, f, g, l] j rfl hjt w
          have c1 := h8.word j hjt
          rw [part_get _ _ _ _ hjt] at c1
          simp only [Nat.lt_irrefl, if_false] at c1
          have cf := h8.free j
          obtain ⟨x, hx'⟩ : ∃ x, x = [a, b, c, d, e, f, g, l].getD j 0 := ⟨_, rfl⟩
          obtain ⟨y, hy'⟩ : ∃ y, y = A.getD j 0 := ⟨_, rfl⟩
          have HXY : Hid (part A [a, b, c, d, e, f, g, l] (j + 1) = (part A [a, b, c, d, e, f, g, l] j).set j (ad y x)) := by rw [hx', hy']; exact (part_succ _ _ _).symm
          rw [← hx'] at hx
          rw [← hy'] at c1
          clear hx' hy'
          go_wp2
          go_region
          all_goals go_wp2
          go_roundw
          case rel =>
            refine ⟨j + 1, by omega, by go_num, ?_, ?_⟩
            · rw [HXY.out]
              exact (h8.drewN 1).setA j (ad y x) hjt
            · exact grown_set (grown_drewN G8 1) j _
          case measure => simp [intOf]; omega
        · obtain rfl : j = 8 := by omega
          go_wp2
          go_end0
          refine ⟨⟨_, rfl⟩, ?_, G8⟩
          unfold mixA
          rw [HR'.out]
          exact h8
end Go.Proofs.YtcgphdipfekccaaGreatDoor

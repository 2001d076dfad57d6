/-
  Texts in one: Mix, Take2, Add, AddW, Pad, SumM, SumOf, Parts, Room, Math.
-/
import Derived.Test.YtdcebokfnbgkaaaDoorChoosePicksQ0
import Derived.Laws.CopyOwn
import Derived.Deep.RegionLaw
import Derived.Deep.Slices
import Derived.KernelRfl
namespace Go.Proofs.YtdcebokfnbgkaaaDoor
open Go.RowKit
def an (x y : Int) : Int := bits .and .u32 x y
def nt (x : Int) : Int := bits .xor .u32 4294967295 x
def t1 (e f g l k w : Int) : Int := ad (ad (ad (ad l (xr (xr (rl (-6) e) (rl (-11) e)) (rl (-25) e))) (xr (an e f) (an (nt e) g))) k) w
def t2 (a b c : Int) : Int := ad (xr (xr (rl (-2) a) (rl (-13) a)) (rl (-22) a)) (xr (xr (an a b) (an a c)) (an b c))
def rnd (s : List Int) (k w : Int) : List Int :=
  match s with
  | [a, b, c, d, e, f, g, l] => [ad (t1 e f g l k w) (t2 a b c), a, b, c, ad d (t1 e f g l k w), e, f, g]
  | _ => s
def Rr (X Ws : List Int) : Nat → List Int
  | 0 => X
  | t + 1 => rnd (Rr X Ws t) (K0.getD t 0) (Ws.getD t 0)
def mixA (A B : List Int) : List Int := part A (Rr (part H0 A 8) (W B 64) 64) 8
set_option maxRecDepth 100000 in
set_option maxHeartbeats 2000000 in
theorem mix_any (w : World) (p : Nat) (A B : List Int) (n : Nat) (hT : Tabs w) (h : HB w p A B n) :
    Calls Tryd.prog 53 #[.pointer (some ⟨p, 0, none⟩)] w fun e w' => (∃ v, e = .returned v) ∧ HB w' p (mixA A B) B n ∧ w.grownBy w' (some p) := by
  have h2 := hT.two
  have hp := h.lt
  go_enter Tryd.func53, Tryd.ntmps53
  go_wp2_with (first
    | (go_at_call 67; refine (sched_any w p A B n hT h).mono ?_; rintro e w1 ⟨rfl, B1⟩; have T1 := hT.below B1 h2; have H1 := h.below B1 hp; have S1 := B1.size)
    | (refine wpList_alloc_named rfl 2 rfl 101 rfl w1.heap.size rfl _ 64 z55 ?_; intro w2 a2 s2 g2; have B2 : Below w.heap.size w w2 := B1.grown g2 S1 (by simp); clear g2 B1)
    | (refine wpList_store_named rfl 101 (Operand.tmp 2) _ rfl w1.heap.size (wv (W B 64)) rfl rfl 101 _ a2 _ s2 (a55.trans (by rw [wv_length, W_len])) (by rw [wv_length, W_len]; rfl) (wv_one _) ?_; intro w3 a3 s3 g3; have B3 : Below w.heap.size w w3 := B2.grown g3 (by omega) (by intro k hk; cases hk; omega); have T3 := hT.below B3 h2; have H3 := h.below B3 hp; clear g3 B2 a2 s2 T1 H1)
    | (go_at_call 55; refine (words_any w3 p A B n T3 H3).mono ?_; rintro e w4 ⟨rfl, C4⟩; have B4 : Below w.heap.size w w4 := B3.trans (C4.mono (by omega)); have a4 : Arr w4 w1.heap.size 101 (wv (W B 64)) := Arr.below a3 C4 (by omega); have S4 := C4.size; clear C4 B3 T3 H3 a3)
    | (refine wpList_alloc_named rfl 3 rfl 86 rfl w4.heap.size rfl _ 8 z48 ?_; intro w5 a5 s5 g5; have B5 : Below w.heap.size w w5 := B4.grown g5 (by omega) (by simp); have A5 := a4.grown g5 (by simp); clear g5 B4 a4)
    | (refine wpList_store_named rfl 86 (Operand.tmp 3) _ rfl w4.heap.size (wv (part H0 A 8)) rfl rfl 86 _ a5 _ s5 (a48.trans (by rw [wv_length, part_len])) (by rw [wv_length, part_len]; rfl) (wv_one _) ?_; intro w6 a6 s6 g6; have B6 : Below w.heap.size w w6 := B5.grown g6 (by omega) (by intro k hk; cases hk; omega); have A6 := A5.grown g6 (by intro e; have := Option.some.inj e; omega); clear g6 B5 a5 s5 A5))
  have hc : ∀ j, j < 8 → w6.cell? ⟨w4.heap.size, j, none⟩ = some (.int .u32 ((part H0 A 8).getD j 0)) := by
    intro j hj
    rw [Arr.cell a6, wv_get _ _ (by rw [part_len]; exact hj)]
  have c0 := hc 0 (by omega)
  have c1 := hc 1 (by omega)
  have c2 := hc 2 (by omega)
  have c3 := hc 3 (by omega)
  have c4 := hc 4 (by omega)
  have c5 := hc 5 (by omega)
  have c6 := hc 6 (by omega)
  have c7 := hc 7 (by omega)
  clear hc
  obtain ⟨x0, x1, x2, x3, x4, x5, x6, x7, hX⟩ : ∃ x0 x1 x2 x3 x4 x5 x6 x7, part H0 A 8 = [x0, x1, x2, x3, x4, x5, x6, x7] := ⟨_, _, _, _, _, _, _, _, rfl⟩
  rw [hX] at c0 c1 c2 c3 c4 c5 c6 c7
  simp only [List.getD_cons_zero, List.getD_cons_succ] at c0 c1 c2 c3 c4 c5 c6 c7
  have HX : Hid (part H0 A 8 = [x0, x1, x2, x3, x4, x5, x6, x7]) := hX
  clear hX
  go_wp2
  go_quiet (fail)
  rename Nat => q1
  go_wp2
  go_quiet (fail)
  rename Nat => q2
  go_wp2
  clear c0 c1 c2 c3 c4 c5 c6 c7
  have T6 := hT.below B6 h2
  go_loopw [4, 5, 6, 7, 8, 9, 10, 11, 39] (fun va vb vc vd ve vf vg vh i wr => ∃ (k q : Nat) (a b c d e f g l : Int), k ≤ 64 ∧ i = .int .i64 k ∧ wr = w6.drewN q ∧ Hid (Rr (part H0 A 8) (W B 64) k = [a, b, c, d, e, f, g, l]) ∧ va = .int .u32 a ∧ vb = .int .u32 b ∧ vc = .int .u32 c ∧ vd = .int .u32 d ∧ ve = .int .u32 e ∧ vf = .int .u32 f ∧ vg = .int .u32 g ∧ vh = .int .u32 l) (fun _ _ _ _ _ _ _ _ i _ => 64 - (intOf i).toNat)
  case atStart => exact ⟨0, q1 + q2, x0, x1, x2, x3, x4, x5, x6, x7, by omega, rfl, by simp, HX, rfl, rfl, rfl, rfl, rfl, rfl, rfl, rfl⟩
  case round =>
    obtain ⟨k, q, a, b, c, d, e, f, g, l, hk, rfl, rfl, HR, rfl, rfl, rfl, rfl, rfl, rfl, rfl, rfl⟩ := hrel
    by_cases hlt : k < 64
    · have hki : (k : Int) < 64 := by omega
      have ck := T6.cubes k _ (wv_get K0 k hlt)
      have cw : w6.cell? ⟨w1.heap.size, k, none⟩ = some (.int .u32 ((W B 64).getD k 0)) := by
        rw [Arr.cell A6, wv_get _ _ (by rw [W_len]; exact hlt)]
      obtain ⟨xk, hxk⟩ : ∃ x, x = K0.getD k 0 := ⟨_, rfl⟩
      obtain ⟨xw, hxw⟩ : ∃ x, x = (W B 64).getD k 0 := ⟨_, rfl⟩
      have HN : Hid (Rr (part H0 A 8) (W B 64) (k + 1) = rnd [a, b, c, d, e, f, g, l] xk xw) := by
        have : Rr (part H0 A 8) (W B 64) (k + 1) = rnd (Rr (part H0 A 8) (W B 64) k) (K0.getD k 0) ((W B 64).getD k 0) := rfl
        rw [HR.out, ← hxk, ← hxw] at this
        exact this
      rw [← hxk] at ck
      rw [← hxw] at cw
      clear hxk hxw
      go_wp2_with (go_at_call 68; refine (rot_at _ _ _ (by simp)).mono ?_; rintro e w' ⟨rfl, rfl⟩)
      go_quiet (fail)
      go_wp2_with (go_at_call 68; refine (rot_at _ _ _ (by simp)).mono ?_; rintro e w' ⟨rfl, rfl⟩)
      go_roundw
      case rel =>
        refine ⟨k + 1, _, ad (t1 e f g l xk xw) (t2 a b c), a, b, c, ad d (t1 e f g l xk xw), e, f, g, by omega, by go_num, rfl, HN.out, ?_, rfl, rfl, rfl, ?_, rfl, rfl, rfl⟩
        · have e0 : (if IntKind.u32.signed = true then -1 else IntKind.u32.max) = 4294967295 := by decide
          rw [e0]
          refine congrArg _ ?_
          simp only [ad, IntKind.wrap_u32', t1, t2, xr, an, nt]
          omega
        · have e0 : (if IntKind.u32.signed = true then -1 else IntKind.u32.max) = 4294967295 := by decide
          rw [e0]
          refine congrArg _ ?_
          simp only [ad, IntKind.wrap_u32', t1, xr, an, nt]
          omega
      case measure => simp [intOf]; omega
    · have hge : (64 : Int) ≤ (k : Int) := by omega
      have HR' : Hid (Rr (part H0 A 8) (W B 64) 64 = [a, b, c, d, e, f, g, l]) := by
        obtain rfl : k = 64 := by omega
        exact HR
      clear HR
      go_wp2
      have h7 : HB (w6.drewN q) p (part A [a, b, c, d, e, f, g, l] 0) B n := by
        rw [part_zero _ _ h.lenA]
        exact (h.below B6 hp).drewN q
      have G7 : w.grownBy (w6.drewN q) (some p) := grown_drewN (bel_grown B6 _) q
      clear a6 s6 B6 A6 T6 hk hlt hge HX
      generalize w6.drewN q = w7 at h7 G7
      go_loopw [113] (fun i wr => ∃ j : Nat, j ≤ 8 ∧ i = .int .i64 j ∧ HB wr p (part A [a, b, c, d, e, f, g, l] j) B n ∧ w.grownBy wr (some p)) (fun i _ => 8 - (intOf i).toNat)
      case atStart => exact ⟨0, by omega, rfl, h7, G7⟩
      case round =>
        obtain ⟨j, hj, rfl, h8, G8⟩ := hrel
        clear h7 G7
        by_cases hjt : j < 8
        · have hji : (j : Int) < 8 := by omega
          have hx : ∀ w, (Instr.index 86 (.agg #[.int .u32 a, .int .u32 b, .int .u32 c, .int .u32 d, .int .u32 e, .int .u32 f, .int .u32 g, .int .u32 l]) (.int .i64 j)).run Tryd.prog w = .ok (.int .u32 ([a, b, c, d, e, f, g, l].getD j 0)) w := fun w => index48 [a, b, c, d, e, f, g, l] j rfl hjt w
          have c1 := h8.word j hjt
          rw [part_get _ _ _ _ hjt] at c1
          simp only [Nat.lt_irrefl, if_false] at c1
          have cf := h8.free j
          obtain ⟨x, hx'⟩ : ∃ x, x = [a, b, c, d, e, f, g, l].getD j 0 := ⟨_, rfl⟩
          obtain ⟨y, hy'⟩ : ∃ y, y = A.getD j 0 := ⟨_, rfl⟩
          have HXY : Hid (part A [a, b, c, d, e, f, g, l] (j + 1) = (part A [a, b, c, d, e, f, g, l] j).set j (ad y x)) := by rw [hx', hy']; exact (part_succ _ _ _).symm
          rw [← hx'] at hx
          rw [← hy'] at c1
          clear hx' hy'
          go_wp2
          go_region
          all_goals go_wp2
          go_roundw
          case rel =>
            refine ⟨j + 1, by omega, by go_num, ?_, ?_⟩
            · rw [HXY.out]
              exact (h8.drewN 1).setA j (ad y x) hjt
            · exact grown_set (grown_drewN G8 1) j _
          case measure => simp [intOf]; omega
        · obtain rfl : j = 8 := by omega
          go_wp2
          go_end0
          refine ⟨⟨_, rfl⟩, ?_, G8⟩
          unfold mixA
          rw [HR'.out]
          exact h8
open Go.RowKit
theorem Sl.take {w : World} {ao : Option Addr} {n cap : Nat} {xs : List Int} (h : Sl w ao n cap xs) (k : Nat) (hk : k ≤ n) : Sl w ao k cap (xs.take k) := by
  have h1 := h.le
  have h2 := h.len
  refine ⟨by simp; omega, by omega, h.mx, fun hn => ?_, fun a ha i hi => ?_, h.byte.take k⟩
  · have := h.nil hn
    omega
  · rw [h.cell a ha i (by omega)]
    simp [List.getD, hi]
end Go.Proofs.YtdcebokfnbgkaaaDoor
namespace Go
theorem step_copy_named {P : Program} {ops : Array Oper} {o : Oper} {a : Act} {w : World} {K : Act → World → Prop} {Q : Exit → Act → World → Prop} {E : Prop} (hgd : o.guard = none) (d s : Operand) (dT sT : TypeId)
    (ho : o.op = .call { callee := .builtin .copy, args := #[d, s], argTypes := #[dT, sT] }) (elem : TypeId) (hu : P.underlying dT = some (.slice elem)) (hsz : (P.info? elem).map (·.size) = some 1)
    (g off : Nat) (ad : Addr) (dLen dCap sLen sCap : Nat) (hd : a.eval d = .slice (some ⟨g, off, none⟩) dLen dCap) (hs : a.eval s = .slice (some ad) sLen sCap)
    (cur : List Value) (t : TypeId) (hg : w.heap[g]? = some (.cells cur.toArray t (0, 0))) (cs : List Value) (hn : cs.length = Nat.min sLen dLen)
    (hsrc : ∀ j v, cs[j]? = some v → w.cell? (ad.add j) = some v)
    (hfit : off + cs.length ≤ cur.length) (h1 : ∀ v ∈ cs, v.oneCell' = true)
    (N : Nat) (hN : cs.length = N)
    (h : ∀ w', RowKit.Hid (w'.heap[g]? = some (.cells (splice cur off cs).toArray t (0, 0))) → w.grownBy w' (some g) → K (a.put o.dst (.int .i64 N)) w') :
    if Region.wanted o (yielded ops a.tmps) = true then Oper.wp P o a w K Q else E := by
  have hw : Region.wanted o (yielded ops a.tmps) = true := by simp [Region.wanted, hgd]
  subst hN
  rw [if_pos hw]
  have hrun := run_copy_row (P := P) w dT sT o.type elem g off dLen dCap ad sLen sCap cur.toArray t cs hu hsz hg hn hsrc (by simpa using hfit) h1
  unfold Oper.wp
  simp [execOp, ho, resolve, invoke, builtin, hd, hs, hrun, Result.andThen]
  exact h _ (show _ = _ by simpa [splice] using setRow_heap w g _ _ t _ hg) ⟨rfl, rfl, rfl, by simp, fun k _ hk => setRow_other w g k _ (fun e => hk (by rw [e]))⟩
end Go
namespace Go.Proofs.YtdcebokfnbgkaaaDoor
open Go.RowKit
def blk (bs : List Int) (i : Nat) : List Int := (bs.drop (64 * i)).take 64
def AA (bs : List Int) : Nat → List Int
  | 0 => List.replicate 8 0
  | i + 1 => mixA (AA bs i) (blk bs i)
theorem AA_append (bs cs : List Int) (i : Nat) (h : 64 * i ≤ bs.length) : AA (bs ++ cs) i = AA bs i := by
  induction i with
  | zero => rfl
  | succ i ih =>
    have e : blk (bs ++ cs) i = blk bs i := by
      unfold blk
      rw [List.drop_append_of_le_length (by omega), List.take_append_of_le_length (by simp; omega)]
    simp only [AA]
    rw [ih (by omega), e]
theorem AA_len (bs : List Int) (i : Nat) : (AA bs i).length = 8 := by
  cases i with
  | zero => simp [AA]
  | succ i => simp [AA, mixA, part_len]
def HS (w : World) (p : Nat) (bs : List Int) : Prop :=
  ∃ B, HB w p (AA bs (bs.length / 64)) B bs.length ∧ B.take (bs.length % 64) = bs.drop (64 * (bs.length / 64))
theorem HS.lt {w : World} {p : Nat} {bs : List Int} (h : HS w p bs) : p < w.heap.size := by obtain ⟨B, h, _⟩ := h; exact h.lt
theorem HS.below {w w' : World} {p m : Nat} {bs : List Int} (h : HS w p bs) (hb : Below m w w') (hp : p < m) : HS w' p bs := by
  obtain ⟨B, h, e⟩ := h
  exact ⟨B, h.below hb hp, e⟩
theorem HB.grown {w w' : World} {p : Nat} {A B : List Int} {n : Nat} {row : Option Nat} (h : HB w p A B n) (hg : w.grownBy w' row) (hne : some p ≠ row) : HB w' p A B n :=
  ⟨(hg.block p h.lt hne).trans h.heap, h.lenA, h.lenB, h.byte, h.size⟩
theorem HS.grown {w w' : World} {p : Nat} {bs : List Int} {row : Option Nat} (h : HS w p bs) (hg : w.grownBy w' row) (hne : some p ≠ row) : HS w' p bs := by
  obtain ⟨B, h, e⟩ := h
  exact ⟨B, h.grown hg hne, e⟩
theorem Tabs.grown {w w' : World} {p : Nat} (h : Tabs w) (hg : w.grownBy w' (some p)) (hp : 2 ≤ p) : Tabs w' :=
  have h2 := h.two
  ⟨fun j v hv => hg.cell (h.first j v hv) (by intro e; have := Option.some.inj e; simp only at this; omega), fun j v hv => hg.cell (h.cubes j v hv) (by intro e; have := Option.some.inj e; simp only at this; omega), by have := hg.size; omega⟩
theorem Sl.grown {w w' : World} {ao : Option Addr} {n cap p : Nat} {xs : List Int} (h : Sl w ao n cap xs) (hg : w.grownBy w' (some p)) (hne : ∀ a, ao = some a → 0 < n → a.block ≠ p) : Sl w' ao n cap xs :=
  ⟨h.len, h.le, h.mx, h.nil, fun a ha i hi => hg.cell (h.cell a ha i hi) (by intro e; have := Option.some.inj e; exact hne a ha (by omega) (by rw [← this]; unfold Addr.add; split <;> rfl)), h.byte⟩
theorem Sl.cut {w : World} {a : Addr} {n cap : Nat} {xs : List Int} (h : Sl w (some a) n cap xs) (u : Nat) (hu : u ≤ n) : Sl w (some (if cap = u then a else a.add u)) (n - u) (cap - u) (xs.drop u) := by
  refine ⟨by simp [h.len], by have := h.le; omega, by have := h.mx; omega, fun e => by simp at e, fun b hb i hi => ?_, h.byte.drop u⟩
  have hle := h.le
  rw [if_neg (by omega)] at hb
  obtain rfl := Option.some.inj hb
  have e : (a.add u).add i = a.add (u + i) := by
    rcases Nat.eq_zero_or_pos u with rfl | h1
    · simp [Addr.add]
    · rcases Nat.eq_zero_or_pos i with rfl | h2
      · simp [Addr.add]
      · have h3 : ¬ u = 0 := by omega
        have h4 : ¬ i = 0 := by omega
        simp [Addr.add, h3, h4, Nat.add_assoc]
  rw [e, h.cell a rfl (u + i) (by omega)]
  simp [List.getD]
theorem u22 : Tryd.prog.underlying 38 = some (.slice (Tryd.prog.elem 38)) := by kernel_rfl
theorem el22 : Tryd.prog.elem 38 = 5 := by kernel_rfl
theorem slice22l (a : Addr) (n cap k : Nat) (hk : k ≤ n) (w : World) : (Instr.slice 38 (.slice (some a) n cap) (some (.int .i64 k)) none none).run Tryd.prog w = .ok (.slice (some (if cap = k then a else a.add k)) (n - k) (cap - k)) w := by
  rw [run_slice_l w 38 (some a) n cap u22 .i64 k (by omega) (by omega), el22, size8]
  simp [sliced]
  split <;> rfl
theorem splice_hv (A B Y : List Int) (n r : Nat) (hA : A.length = 8) (hB : B.length = 64) (hr : r + Y.length ≤ 64) : splice (hv A B n) (8 + r) (bv Y) = hv A (B.take r ++ Y ++ B.drop (r + Y.length)) n := by
  unfold hv splice
  have l1 : (wv A).length = 8 := by simp [wv, hA]
  have e1 : (wv A ++ bv B ++ [Value.int .u64 n]).take (8 + r) = wv A ++ bv (B.take r) := by
    rw [List.append_assoc, ← l1, List.take_length_add_append, List.take_append_of_le_length (by simp [bv]; omega)]
    simp [bv, List.map_take]
  have e2 : (wv A ++ bv B ++ [Value.int .u64 n]).drop (8 + r + (bv Y).length) = bv (B.drop (r + Y.length)) ++ [Value.int .u64 n] := by
    rw [List.append_assoc, ← l1, Nat.add_assoc, List.drop_length_add_append, List.drop_append_of_le_length (by simp [bv]; omega)]
    simp [bv, List.map_drop]
  rw [e1, e2]
  simp [bv]
theorem HB.setN {w : World} {p : Nat} {A B : List Int} {n : Nat} (h : HB w p A B n) (m : Nat) (hm : m < 18446744073709551616) : HB (w.setCell ⟨p, 72, none⟩ (.int .u64 m)) p A B m := by
  refine ⟨?_, h.lenA, h.lenB, h.byte, hm⟩
  have := Arr.set (show Arr w p _ (hv A B n) from h.heap) 72 (.int .u64 m)
  have e : (hv A B n).set 72 (.int .u64 m) = hv A B m := by
    unfold hv
    rw [List.set_append_right _ _ (by simp [wv, bv, h.lenA, h.lenB])]
    simp [wv, bv, h.lenA, h.lenB]
  rw [e] at this
  exact this
theorem HS_less {w : World} {p : Nat} {ys B Y : List Int} (h : HB w p (AA ys (ys.length / 64)) (B.take (ys.length % 64) ++ Y ++ B.drop (ys.length % 64 + Y.length)) (ys.length + Y.length)) (hB : B.take (ys.length % 64) = ys.drop (64 * (ys.length / 64)))
    (hl : ys.length % 64 + Y.length < 64) : HS w p (ys ++ Y) := by
  have e1 : (ys ++ Y).length / 64 = ys.length / 64 := by simp; omega
  have e2 : (ys ++ Y).length % 64 = ys.length % 64 + Y.length := by simp; omega
  refine ⟨B.take (ys.length % 64) ++ Y ++ B.drop (ys.length % 64 + Y.length), ?_, ?_⟩
  · rw [e1, AA_append _ _ _ (by omega)]
    simpa using h
  · rw [e1, e2, hB, List.drop_append_of_le_length (by omega)]
    rw [List.take_append_of_le_length (by simp; omega)]
    rw [List.take_of_length_le (by simp; omega)]
theorem HS_full {w : World} {p : Nat} {ys B Y : List Int} (h : HB w p (mixA (AA ys (ys.length / 64)) (B.take (ys.length % 64) ++ Y ++ B.drop (ys.length % 64 + Y.length))) (B.take (ys.length % 64) ++ Y ++ B.drop (ys.length % 64 + Y.length)) (ys.length + Y.length)) (hB : B.take (ys.length % 64) = ys.drop (64 * (ys.length / 64)))
    (hl : ys.length % 64 + Y.length = 64) (hb : B.length = 64) : HS w p (ys ++ Y) := by
  have e1 : (ys ++ Y).length / 64 = ys.length / 64 + 1 := by simp; omega
  have e2 : (ys ++ Y).length % 64 = 0 := by simp; omega
  have e3 : B.take (ys.length % 64) ++ Y ++ B.drop (ys.length % 64 + Y.length) = blk (ys ++ Y) (ys.length / 64) := by
    rw [hl, List.drop_of_length_le (by omega), List.append_nil, hB]
    unfold blk
    rw [List.drop_append_of_le_length (by omega), List.take_of_length_le (by simp; omega)]
  rw [e3] at h
  refine ⟨blk (ys ++ Y) (ys.length / 64), ?_, ?_⟩
  · rw [e1]
    simp only [AA]
    rw [AA_append _ _ _ (by omega)]
    simpa using h
  · rw [e1, e2, List.take_zero, List.drop_of_length_le (by simp; omega)]
open Go.RowKit
theorem s5 : (Tryd.prog.info? 5).map (·.size) = some 1 := by kernel_rfl
def lenOf : Value → Nat | .slice _ n _ => n | _ => 0
set_option maxRecDepth 100000 in
set_option maxHeartbeats 2000000 in
theorem add_any (w : World) (p : Nat) (bs : List Int) (ao : Option Addr) (n cap : Nat) (xs : List Int) (hT : Tabs w) (h : HS w p bs) (hp2 : 2 ≤ p) (hS : Sl w ao n cap xs) (hne : ∀ a, ao = some a → 0 < n → a.block ≠ p) (hl : bs.length + xs.length < 18446744073709551616) :
    Calls Tryd.prog 39 #[.pointer (some ⟨p, 0, none⟩), .slice ao n cap] w fun e w' => (∃ v, e = .returned v) ∧ HS w' p (bs ++ xs) ∧ w.grownBy w' (some p) := by
  go_enter Tryd.func39, Tryd.ntmps39
  go_wp2
  go_loopw [1] (fun v wr => ∃ (ys zs : List Int) (ao : Option Addr) (n cap : Nat), Hid (bs ++ xs = ys ++ zs) ∧ HS wr p ys ∧ v = .slice ao n cap ∧ Sl wr ao n cap zs ∧ (∀ a, ao = some a → 0 < n → a.block ≠ p) ∧ w.grownBy wr (some p)) (fun v _ => lenOf v)
  case atStart => exact ⟨bs, xs, ao, n, cap, rfl, h, rfl, hS, hne, World.grownBy.refl _ _⟩
  case round =>
    clear h hS hne
    obtain ⟨ys, zs, ao, n, cap, HE, h, rfl, hS, hne, G⟩ := hrel
    have T := hT.grown G hp2
    have hlen : ys.length + zs.length < 18446744073709551616 := by
      have := congrArg List.length HE.out
      simp at this
      omega
    by_cases hn : n = 0
    · have hz : zs = [] := List.eq_nil_of_length_eq_zero (by rw [hS.len]; exact hn)
      subst hn
      go_wp2
      go_end0
      refine ⟨⟨_, rfl⟩, ?_, G⟩
      rw [HE.out, hz, List.append_nil]
      exact h
    · obtain ⟨a, rfl⟩ : ∃ a, ao = some a := by
        cases ao with
        | none => exact absurd (hS.nil rfl).1 hn
        | some a => exact ⟨a, rfl⟩
      obtain ⟨B, hB, eB⟩ := h
      obtain ⟨m, hm⟩ : ∃ m, m = ys.length := ⟨_, rfl⟩
      obtain ⟨k, hk⟩ : ∃ k, k = min n (64 - m % 64) := ⟨_, rfl⟩
      have hk' : k = n ∨ k = 64 - m % 64 := by rw [hk]; omega
      have hkn : k ≤ n := by rw [hk]; omega
      have hk64 : m % 64 + k ≤ 64 := by rw [hk]; omega
      have hk0 : 0 < k := by rw [hk]; omega
      have hle := hS.le
      have hzl := hS.len
      have hY : (zs.take k).length = k := by simp; omega
      have HB0 : Hid (HB wr p (AA ys (m / 64)) B m ∧ B.take (m % 64) = ys.drop (64 * (m / 64)) ∧ k = min n (64 - m % 64)) := ⟨by rw [hm]; exact hB, by rw [hm]; exact eB, hk⟩
      have hpos : (0 : Int) < (n : Int) := by omega
      have c1 := hB.count
      have f1 := hB.free 72
      rw [← hm] at c1 hlen
      have HM : Hid (m = ys.length) := hm
      have hsl := slice49l .u64 p 8 (m % 64) (by omega) ((m : Int).tmod 64) (by rw [Int.tmod_eq_emod_of_nonneg (by omega)]; omega)
      clear hB eB hm hk
      have hs2 := slice22l a n cap k hkn
      go_wp2
      go_region_law (refine step_copy_named rfl (.tmp 18) (.tmp 19) 38 38 rfl 5 Tryd.underlying38 s5 p (8 + m % 64) a (64 - m % 64) (64 - m % 64) n cap (by simp [Act.eval, Act.put]) (by simp [Act.eval, Act.put]) (hv (AA ys (m / 64)) B m) 89 HB0.out.1.heap (bv (zs.take k)) (by rw [bv_length, hY]; exact HB0.out.2.2) ((hS.take k hkn).cells a rfl) (by rw [bv_length, hY]; simp [hv, wv, bv, HB0.out.1.lenA, HB0.out.1.lenB]; omega) (bv_one _) k (by rw [bv_length]; exact hY) ?_; intro w1 a1 g1)
      have g2 : wr.grownBy w1 (some p) := ⟨g1.os, g1.tape, g1.output, g1.size, g1.block⟩
      obtain ⟨Bn, hBn⟩ : ∃ Bn, Bn = B.take (m % 64) ++ zs.take k ++ B.drop (m % 64 + (zs.take k).length) := ⟨_, rfl⟩
      have H1 : HB w1 p (AA ys (m / 64)) Bn m := by
        have hb0 := HB0.out.1
        refine ⟨?_, hb0.lenA, ?_, ?_, hb0.size⟩
        · rw [hBn, ← splice_hv _ _ _ _ _ hb0.lenA hb0.lenB (by rw [hY]; exact hk64)]
          exact a1.out
        · have := hb0.lenB
          rw [hBn]
          simp
          omega
        · rw [hBn]
          exact ((hb0.byte.take _).append (hS.byte.take _)).append (hb0.byte.drop _)
      have S1 : Sl w1 (some a) n cap zs := hS.grown g2 hne
      have G1 : w.grownBy w1 (some p) := gro_trans G g2
      have T1 := T.grown g2 hp2
      have HN : Hid (Bn = B.take (m % 64) ++ zs.take k ++ B.drop (m % 64 + (zs.take k).length)) := hBn
      clear a1 g1 g2 G T hS c1 f1 hBn hsl
      have c2 := H1.count
      have f2 := H1.free 72
      have hmk : (m : Int) + k ≤ 18446744073709551615 := by omega
      have hm0 : (0 : Int) ≤ (m : Int) + k := by omega
      have S2 := S1.cut k hkn
      have hne2 : ∀ b, some (if cap = k then a else a.add k) = some b → 0 < n - k → b.block ≠ p := by
        intro b hb _
        obtain rfl := Option.some.inj hb
        split
        · exact hne a rfl (by omega)
        · have := hne a rfl (by omega)
          intro e
          apply this
          rw [← e]
          unfold Addr.add
          split <;> rfl
      obtain ⟨a2, ha2⟩ : ∃ a2, a2 = if cap = k then a else a.add k := ⟨_, rfl⟩
      rw [← ha2] at S2 hne2 hs2
      clear ha2
      have W1 := (H1.setN (m + k) (by omega))
      have hk64' : m % 64 + k = 64 ∨ m % 64 + k < 64 := by omega
      rcases hk64' with hf | hf
      · have ht : (((m : Int) + k).tmod 64 == 0) = true := by
          rw [Int.tmod_eq_emod_of_nonneg hm0]
          simp
          omega
        go_wp2_with (go_at_call 53; refine (mix_any _ p _ _ _ (T1.grown (grown_set (World.grownBy.refl _ _) 72 _) hp2) W1).mono ?_; rintro e w2 ⟨⟨v, rfl⟩, H2, g2⟩)
        go_roundw
        case rel =>
          have hgs : w1.grownBy w2 (some p) := gro_trans (grown_set (World.grownBy.refl w1 _) 72 _) g2
          refine ⟨ys ++ zs.take k, zs.drop k, some a2, n - k, cap - k, ?_, ?_, rfl, S2.grown hgs hne2, hne2, gro_trans G1 hgs⟩
          · have := HE.out
            show bs ++ xs = _
            rw [this, List.append_assoc, List.take_append_drop]
          · have hm := HM.out
            have hN := HN.out
            have h0 := HB0.out
            subst hm
            rw [hN] at H2
            refine HS_full (B := B) ?_ h0.2.1 (by rw [hY]; exact hf) h0.1.lenB
            rw [hY]
            rw [hY] at H2
            exact H2
        case measure => simp [lenOf]; omega
      · have ht : (((m : Int) + k).tmod 64 == 0) = false := by
          rw [Int.tmod_eq_emod_of_nonneg hm0]
          simp
          omega
        go_wp2
        go_roundw
        case rel =>
          have hgs : w1.grownBy (w1.setCell ⟨p, 72, none⟩ (.int .u64 (m + k))) (some p) := grown_set (World.grownBy.refl w1 _) 72 _
          refine ⟨ys ++ zs.take k, zs.drop k, some a2, n - k, cap - k, ?_, ?_, rfl, S2.grown hgs hne2, hne2, gro_trans G1 hgs⟩
          · have := HE.out
            show bs ++ xs = _
            rw [this, List.append_assoc, List.take_append_drop]
          · have hm := HM.out
            have hN := HN.out
            have h0 := HB0.out
            subst hm
            rw [hN] at W1
            refine HS_less (B := B) ?_ h0.2.1 (by rw [hY]; exact hf)
            rw [hY]
            rw [hY] at W1
            exact W1
        case measure => simp [lenOf]; omega
open Go.RowKit
def pe (n : Nat) : Nat := if 64 - n % 64 ≤ 8 then 128 - n % 64 else 64 - n % 64
def tl (e L i : Nat) : List Int := (List.range 72).map fun q => if e ≤ q + i ∧ q < e then ((L / 2 ^ (8 * (e - 1 - q)) % 256 : Nat) : Int) else if q = 0 then 128 else 0
theorem tl_len (e L i : Nat) : (tl e L i).length = 72 := by simp [tl]
theorem tl_zero (e L : Nat) : tl e L 0 = 128 :: List.replicate 71 0 := by
  have h : tl e L 0 = (List.range 72).map fun q => if q = 0 then 128 else 0 := by
    refine List.map_congr_left fun q _ => ?_
    rw [if_neg (by omega)]
  rw [h]
  decide
theorem tl_succ (e L i : Nat) (hi : i < 8) (he : 8 < e) : (tl e L i).set (e - 1 - i) ((L / 2 ^ (8 * i) % 256 : Nat) : Int) = tl e L (i + 1) := by
  refine List.ext_getElem? fun q => ?_
  by_cases hq : q < 72
  · by_cases hj : e - 1 - i = q
    · have h1 : e ≤ q + (i + 1) ∧ q < e := by omega
      have h2 : e - 1 - q = i := by omega
      simp only [tl, hj, List.getElem?_set_self', List.getElem?_map, List.getElem?_range hq, Option.map_some, if_pos h1, h2]
      rfl
    · have h1 : (e ≤ q + (i + 1) ∧ q < e) ↔ (e ≤ q + i ∧ q < e) := by omega
      simp only [tl, List.getElem?_set_ne hj, List.getElem?_map, List.getElem?_range hq, Option.map_some, h1]
  · simp [tl, hq]
theorem tl_byte (e L i : Nat) : Byt (tl e L i) := by
  intro x hx
  simp only [tl, List.mem_map] at hx
  obtain ⟨q, _, rfl⟩ := hx
  split
  · omega
  · split <;> omega
def padL (n : Nat) : List Int := (tl (pe n) (n * 8 % 18446744073709551616) 8).take (pe n)
theorem pe_le (n : Nat) : 8 < pe n ∧ pe n ≤ 72 := by unfold pe; split <;> omega
theorem bv_set (xs : List Int) (j : Nat) (x : Int) : (bv xs).set j (.int .u8 x) = bv (xs.set j x) := by
  simp [bv, List.map_set]
theorem z58 : (Tryd.prog.info? 104).map (fun i => (i.zero, i.size)) = some (some (.agg (List.replicate 72 (Value.int .u8 0)).toArray), 72) := by kernel_rfl
theorem u58 : Tryd.prog.underlying 104 = some (.array (Tryd.prog.arrayLen 104) (Tryd.prog.elem 104)) := by kernel_rfl
theorem al58 : Tryd.prog.arrayLen 104 = 72 := by kernel_rfl
theorem el58 : Tryd.prog.elem 104 = 5 := by kernel_rfl
theorem slice58h (p h : Nat) (hh : h ≤ 72) (w : World) : (Instr.sliceAt 104 (.pointer (some ⟨p, 0, none⟩)) none (some (.int .u64 h)) none).run Tryd.prog w = .ok (.slice (some ⟨p, 0, none⟩) h 72) w := by
  rw [run_sliceAt_array_h w 104 ⟨p, 0, none⟩ u58 .u64 h (by omega) (by rw [al58]; omega), el58, al58, size8]
  simp [slicedAt, Addr.add]
set_option maxRecDepth 100000 in
set_option maxHeartbeats 2000000 in
theorem pad_any (w : World) (p : Nat) (bs : List Int) (hT : Tabs w) (h : HS w p bs) (hp2 : 2 ≤ p) (hl : bs.length + 72 < 18446744073709551616) :
    Calls Tryd.prog 54 #[.pointer (some ⟨p, 0, none⟩)] w fun e w' => (∃ v, e = .returned v) ∧ HS w' p (bs ++ padL bs.length) ∧ w.grownBy w' (some p) := by
  have h2 := hT.two
  have hp := h.lt
  obtain ⟨B, hB, eB⟩ := h
  have HH : Hid (HS w p bs) := ⟨B, hB, eB⟩
  have c1 := hB.count
  clear hB eB
  obtain ⟨m, hm⟩ : ∃ m, m = bs.length := ⟨_, rfl⟩
  have HM : Hid (m = bs.length) := hm
  rw [← hm] at c1 hl
  clear hm
  have he := pe_le m
  have hcase : (8 < 64 - (m : Int) % 64 ∧ 64 - (m : Int) % 64 = ((pe m : Nat) : Int)) ∨ (64 - (m : Int) % 64 ≤ 8 ∧ 64 - (m : Int) % 64 + 64 = ((pe m : Nat) : Int)) := by
    unfold pe
    split <;> omega
  obtain ⟨e, hee⟩ : ∃ e, e = pe m := ⟨_, rfl⟩
  obtain ⟨L, hL⟩ : ∃ L, L = m * 8 % 18446744073709551616 := ⟨_, rfl⟩
  have HL : Hid (IntKind.u64.wrap ((m : Int) * 8) = (L : Int)) := by
    show _ = _
    rw [IntKind.wrap_u64, hL]
    omega
  have HP : Hid (padL m = (tl e L 8).take e) := by rw [hee, hL]; rfl
  rw [← hee] at he hcase
  clear hee hL
  rcases hcase with ⟨hc, ec⟩ | ⟨hc, ec⟩
  all_goals
    go_enter Tryd.func54, Tryd.ntmps54
    go_wp2_with (refine wpList_alloc_named rfl 2 rfl 104 rfl w.heap.size rfl _ 72 z58 ?_; intro w1 a1 s1 g1; have B1 : Below w.heap.size w w1 := (Below.refl _ w).grown g1 (Nat.le_refl _) (by simp); have A1 : Arr w1 w.heap.size 104 (bv (List.replicate 72 0)) := a1; clear g1 a1; have d1 := A1.cell 0; have d2 := A1.free 0; have d3 := (B1.cell (p := ⟨p, 72, none⟩) hp).trans c1; simp only [bv, List.map_replicate, List.getElem?_replicate, Nat.zero_lt_succ, if_true] at d1)
    clear ec
    have A2 := A1.set 0 (.int .u8 128)
    have e2 : (bv (List.replicate 72 0)).set 0 (.int .u8 128) = bv (tl e L 0) := by rw [tl_zero]; rfl
    rw [e2] at A2
    have B2 : Below w.heap.size w (w1.setCell ⟨w.heap.size, 0, none⟩ (.int .u8 128)) := B1.setCell (Nat.le_refl _) _
    have s2 : (w1.setCell ⟨w.heap.size, 0, none⟩ (.int .u8 128)).heap.size = w.heap.size + 1 := by simpa using s1
    clear e2 d1 d2 d3 A1 B1 s1
    generalize w1.setCell ⟨w.heap.size, 0, none⟩ (.int .u8 128) = w2 at A2 B2 s2
    go_loopw [22] (fun i wr => ∃ k : Nat, k ≤ 8 ∧ i = .int .u64 k ∧ Below w.heap.size w wr ∧ Arr wr w.heap.size 104 (bv (tl e L k)) ∧ wr.heap.size = w.heap.size + 1) (fun i _ => 8 - (intOf i).toNat)
    case atStart => exact ⟨0, by omega, rfl, B2, A2, s2⟩
    case round =>
      obtain ⟨k, hk, rfl, B3, A3, s3⟩ := hrel
      by_cases hlt : k < 8
      · have hki : (k : Int) < 8 := by omega
        have i1 : ((e : Int) - 1 - k).toNat = e - 1 - k := by omega
        have i2 : 0 ≤ ((e : Int) - 1 - k) := by omega
        have i3 : ((e : Int) - 1 - k) < 72 := by omega
        have i4 : 0 ≤ ((e : Int) - 1) := by omega
        have c3 := A3.cell (e - 1 - k)
        rw [bv_get _ _ (by rw [tl_len]; omega)] at c3
        have f3 := A3.free (e - 1 - k)
        go_wp2
        go_roundw
        case rel =>
          rw [HL.out]
          have ev : (L : Int) / 2 ^ (8 * k) % 256 = ((L / 2 ^ (8 * k) % 256 : Nat) : Int) := by simp
          rw [ev]
          refine ⟨k + 1, by omega, by go_num, B3.setCell (Nat.le_refl _) _, ?_, by simpa using s3⟩
          have := A3.set (e - 1 - k) (.int .u8 ((L / 2 ^ (8 * k) % 256 : Nat) : Int))
          rw [bv_set, tl_succ e L k hlt he.1] at this
          exact this
        case measure => simp [intOf]; omega
      · obtain rfl : k = 8 := by omega
        have T3 := hT.below B3 h2
        have h3 := HH.out.below B3 hp
        have S3 : Sl wr (some ⟨w.heap.size, 0, none⟩) e 72 ((tl e L 8).take e) := by
          refine ⟨by simp [tl_len]; omega, he.2, by unfold maxLen; omega, fun h => by simp at h, fun a ha i hi => ?_, (tl_byte e L 8).take e⟩
          obtain rfl := Option.some.inj ha
          rw [add_at, Nat.zero_add, A3.cell, bv_get _ _ (by rw [tl_len]; omega)]
          simp [List.getD, hi]
        have hsl := slice58h w.heap.size e he.2
        go_wp2_with (go_at_call 39; refine (add_any wr p bs _ e 72 _ T3 h3 hp2 S3 (fun a ha _ => by obtain rfl := Option.some.inj ha; show w.heap.size ≠ p; omega) (by have := HM.out; rw [S3.len]; omega)).mono ?_; rintro e5 w5 ⟨⟨v, rfl⟩, h5, g5⟩)
        go_end0
        refine ⟨⟨_, rfl⟩, ?_, gro_trans (bel_grown B3 _) g5⟩
        have hm := HM.out
        rw [← hm, HP.out]
        exact h5
open Go.RowKit
def b4 (x : Int) : List Int := [x / 16777216 % 256, x / 65536 % 256, x / 256 % 256, x % 256]
def wds (bs : List Int) : List Int := part H0 (AA (bs ++ padL bs.length) ((bs ++ padL bs.length).length / 64)) 8
def sumL (bs : List Int) : List Int := (wds bs).flatMap b4
def outL (X : List Int) (i : Nat) : List Int := (X.take i).flatMap b4
theorem b4_byte (x : Int) : Byt (b4 x) := by
  intro y hy
  simp only [b4, List.mem_cons, List.not_mem_nil, or_false] at hy
  omega
theorem outL_succ (X : List Int) (i : Nat) (h : i < X.length) : outL X (i + 1) = outL X i ++ b4 (X.getD i 0) := by
  have e : X.getD i 0 = X[i] := by simp [List.getD, h]
  unfold outL
  rw [List.take_add_one, List.getElem?_eq_getElem h, List.flatMap_append, e]
  simp only [Option.toList_some, List.flatMap_cons, List.flatMap_nil, List.append_nil]
theorem outL_byte (X : List Int) (i : Nat) : Byt (outL X i) := by
  intro x hx
  simp only [outL, List.mem_flatMap] at hx
  obtain ⟨y, _, hy⟩ := hx
  exact b4_byte y x hy
theorem wds_len (bs : List Int) : (wds bs).length = 8 := part_len _ _ _
theorem outL_all (bs : List Int) : outL (wds bs) 8 = sumL bs := by
  unfold outL sumL
  rw [List.take_of_length_le (by rw [wds_len]; omega)]
theorem sumL_byte (bs : List Int) : Byt (sumL bs) := by rw [← outL_all]; exact outL_byte _ _
theorem z51 : (Tryd.prog.info? 89).map (fun i => (i.zero, i.size)) = some (some (.agg (hv (List.replicate 8 0) (List.replicate 64 0) 0).toArray), 73) := by kernel_rfl
theorem a51 : (Tryd.prog.info? 89).map (·.size) = some 73 := by kernel_rfl
theorem g51 (w : World) : (isAgg 89).run Tryd.prog w = .ok true w := by
  simp [isAgg, run_underlying Tryd.underlying89 w]
theorem hv_len (A B : List Int) (n : Nat) (hA : A.length = 8) (hB : B.length = 64) : (hv A B n).length = 73 := by simp [hv, wv, bv, hA, hB]
theorem hv_one (A B : List Int) (n : Nat) : ∀ u ∈ hv A B n, u.oneCell' = true := by
  intro u hu
  simp only [hv, List.mem_append, List.mem_singleton] at hu
  rcases hu with (hu | hu) | rfl
  · exact wv_one A u hu
  · exact bv_one B u hu
  · rfl
set_option maxRecDepth 100000 in
set_option maxHeartbeats 1000000 in
theorem new_any (w : World) : Calls Tryd.prog 38 #[] w fun e w' => e = .returned (.pointer (some ⟨w.heap.size, 0, none⟩)) ∧ HS w' w.heap.size [] ∧ w.grownBy w' none := by
  go_enter Tryd.func38, Tryd.ntmps38
  go_wp2_with (refine wpList_alloc_named rfl 1 rfl 89 rfl w.heap.size rfl _ 73 z51 ?_; intro w1 a1 s1 g1)
  go_ret
  refine ⟨rfl, ⟨List.replicate 64 0, ⟨?_, by simp [AA], by simp, ?_, by simp⟩, rfl⟩, g1⟩
  · exact a1
  · intro x hx
    obtain ⟨_, rfl⟩ := List.mem_replicate.1 hx
    omega
theorem words_hs (w : World) (p : Nat) (bs : List Int) (hT : Tabs w) (h : HS w p bs) :
    Calls Tryd.prog 55 #[.pointer (some ⟨p, 0, none⟩)] w fun e w' => e = .returned (.agg (wv (part H0 (AA bs (bs.length / 64)) 8)).toArray) ∧ Below w.heap.size w w' := by
  obtain ⟨B, hB, _⟩ := h
  exact words_any w p _ B _ hT hB
set_option maxRecDepth 100000 in
set_option maxHeartbeats 2000000 in
theorem hsum_any (w : World) (p : Nat) (bs : List Int) (hT : Tabs w) (h : HS w p bs) (hl : bs.length + 72 < 18446744073709551616) :
    Calls Tryd.prog 41 #[.pointer (some ⟨p, 0, none⟩)] w fun e w' => ∃ v, e = .returned v ∧ w'.ownsRow w.heap.size 5 1 v 32 (bv (sumL bs)) ∧ Below w.heap.size w w' := by
  obtain ⟨i0, hi, hz0, hz1, hz2⟩ := info_parts u8info
  have h2 := hT.two
  have hp := h.lt
  obtain ⟨B, hB, eB⟩ := h
  obtain ⟨A, hA⟩ : ∃ A, A = AA bs (bs.length / 64) := ⟨_, rfl⟩
  rw [← hA] at hB
  have HA : Hid (A = AA bs (bs.length / 64)) := hA
  clear hA
  go_enter Tryd.func41, Tryd.ntmps41
  go_wp2_with (first
    | (refine wpList_load_cells rfl 89 (Operand.tmp 10) rfl ⟨p, 0, none⟩ rfl (hv A B bs.length) (fun j v hv' => by rw [add_at, Nat.zero_add, Arr.cell hB.heap]; exact hv') g51 (a51.trans (by rw [hv_len _ _ _ hB.lenA hB.lenB])) ?_)
    | (refine wpList_alloc_named rfl 3 rfl 89 rfl w.heap.size rfl _ 73 z51 ?_; intro w1 a1 s1 g1; have B1 : Below w.heap.size w w1 := (Below.refl _ w).grown g1 (Nat.le_refl _) (by simp); clear g1)
    | (refine wpList_store_named rfl 89 (Operand.tmp 3) _ rfl w.heap.size (hv A B bs.length) rfl rfl 89 _ a1 _ s1 (a51.trans (by rw [hv_len _ _ _ hB.lenA hB.lenB])) (by rw [hv_len _ _ _ hB.lenA hB.lenB]; rfl) (hv_one _ _ _) ?_; intro w2 a2 s2 g2; have B2 : Below w.heap.size w w2 := B1.grown g2 (by omega) (by intro k hk; cases hk; omega); have T2 := hT.below B2 h2; have H2 : HS w2 w.heap.size bs := ⟨B, by rw [← HA.out]; exact ⟨a2, hB.lenA, hB.lenB, hB.byte, hB.size⟩, eB⟩; clear g2 a2 B1 a1 s1)
    | (go_at_call 54; refine (pad_any w2 w.heap.size bs T2 H2 h2 hl).mono ?_; rintro e w3 ⟨⟨v, rfl⟩, H3, g3⟩; have B3 : Below w.heap.size w w3 := B2.grown g3 (by omega) (by intro k hk; cases hk; omega); have T3 := hT.below B3 h2; have s3 := g3.size; clear g3 B2 H2 T2)
    | (at_make; refine wpList_make_own _ rfl _ _ 38 rfl w.heap.size 5 i0 (.int .u8 0) 1 Tryd.underlying38 hi hz0 hz1 _ _ _ 32 rfl rfl rfl (by rw [hz2]; decide) (by decide) (by omega) ?_; intro w4 own4 g4; have B4 : Below w.heap.size w w4 := B3.grown g4 (by omega) (by simp); have T4 := hT.below B4 h2; have H4 : HS w4 w.heap.size (bs ++ padL bs.length) := H3.grown g4 (by simp); have s4 := g4.size; clear g4 B3 H3 T3))
  refine (words_hs w4 w.heap.size _ T4 H4).mono ?_
  rintro e w5 ⟨rfl, B5⟩
  have C5 : Below w.heap.size w w5 := B4.trans (B5.mono (by omega))
  have own5 : w5.ownsRow w.heap.size 5 1 (.slice (some ⟨w3.heap.size, 0, none⟩) 0 32) 0 (bv (outL (wds bs) 0)) := own4.kept (bel_grown B5 none) (by simp [Value.ownBlock])
  have eW : part H0 (AA (bs ++ padL bs.length) ((bs ++ padL bs.length).length / 64)) 8 = wds bs := rfl
  rw [eW]
  have hWl := wds_len bs
  have hs5 : w.heap.size ≤ w5.heap.size := C5.size
  generalize Value.slice (some ⟨w3.heap.size, 0, none⟩) 0 32 = v0 at own5
  have HWE : Hid (outL (wds bs) 8 = sumL bs) := outL_all bs
  generalize wds bs = X at own5 hWl HWE
  clear eW B5 B4 T4 H4 own4 hB eB HA s2 s3 s4
  go_wp2
  go_loopw [4, 15] (fun v i wr => ∃ k : Nat, k ≤ 8 ∧ i = .int .i64 k ∧ Below w.heap.size w wr ∧ wr.ownsRow w.heap.size 5 1 v (4 * k) (bv (outL X k))) (fun _ i _ => 8 - (intOf i).toNat)
  case atStart => exact ⟨0, by omega, rfl, C5, own5⟩
  case round =>
    obtain ⟨k, hk, rfl, B6, own6⟩ := hrel
    have hs6 := B6.size
    by_cases hlt : k < 8
    · have hki : (k : Int) < 8 := by omega
      have hx := index48 X k hWl hlt
      obtain ⟨x, hx'⟩ : ∃ x, x = X.getD k 0 := ⟨_, rfl⟩
      have HX : Hid (x = X.getD k 0) := hx'
      rw [← hx'] at hx
      clear hx'
      go_wp2_with (at_builtin; refine wpList_app rfl _ _ rfl w.heap.size _ (4 * k) (outL X k) rfl (own6.alloc _) _ 4 4 (b4 x) rfl (Sl.new wr (b4 x) (b4_byte x) (by simp [b4, maxLen])) (by omega) (by simp; omega) ?_; intro v7 w7 own7 C7)
      go_roundw
      case rel =>
        refine ⟨k + 1, by omega, by go_num, (B6.alloc hs6 _).trans C7, ?_⟩
        rw [outL_succ X k (by omega), ← HX.out, Nat.mul_add]
        exact own7
      case measure => simp [intOf]; omega
    · obtain rfl : k = 8 := by omega
      go_wp2
      go_ret
      refine ⟨_, rfl, ?_, B6⟩
      rw [← HWE.out]
      exact own6
open Go.RowKit
structure Part where
  ao : Option Addr
  n : Nat
  cap : Nat
  xs : List Int
def Part.val (q : Part) : Value := .slice q.ao q.n q.cap
theorem own_base {w : World} {base base' : Nat} {e : TypeId} {size : Nat} {v : Value} {n : Nat} {xs : List Value} (h : w.ownsRow base e size v n xs) (hb : base' ≤ base) : w.ownsRow base' e size v n xs := by
  refine ⟨h.1, ?_⟩
  rcases h.2 with h | ⟨g, cap, cur, h1, h2, h3⟩
  · exact .inl h
  · exact .inr ⟨g, cap, cur, h1, Nat.le_trans hb h2, h3⟩
open Go.RowKit
structure PL (w : World) (ao : Option Addr) (n cap : Nat) (ps : List Part) : Prop where
  len : ps.length = n
  le : n ≤ cap
  mx : cap ≤ maxLen
  nil : ao = none → n = 0
  cell : ∀ a, ao = some a → ∀ i (h : i < ps.length), w.cell? (a.add i) = some ps[i].val
  sl : ∀ q ∈ ps, Sl w q.ao q.n q.cap q.xs
theorem PL.nothing (w : World) : PL w none 0 0 [] := ⟨rfl, Nat.le_refl _, Nat.zero_le _, fun _ => rfl, fun _ h => by simp at h, fun _ h => by simp at h⟩
theorem PL.below {w w' : World} {ao : Option Addr} {n cap : Nat} {ps : List Part} (h : PL w ao n cap ps) (hb : Below w.heap.size w w') : PL w' ao n cap ps :=
  ⟨h.len, h.le, h.mx, h.nil, fun a ha i hi => by have hc := h.cell a ha i hi; rw [← hc]; exact hb.cell (World.block_lt_of_cell? w _ hc), fun q hq => (h.sl q hq).below hb⟩
theorem PL.at {w : World} {ao : Option Addr} {n cap : Nat} {ps : List Part} (h : PL w ao n cap ps) (hn : 0 < n) :
    ∃ b off, ao = some ⟨b, off, none⟩ ∧ ∀ i (hi : i < ps.length), w.cell? ⟨b, off + i, none⟩ = some ps[i].val := by
  have hl := h.len
  cases ao with
  | none => have := h.nil rfl; omega
  | some a =>
    obtain ⟨b, off, spot⟩ := a
    have hc := h.cell _ rfl 0 (by omega)
    have hs : spot = none := by simpa [Addr.add] using World.cell?_spot hc
    subst hs
    exact ⟨b, off, rfl, fun i hi => by have := h.cell _ rfl i hi; rw [Addr.add_lit] at this; exact this⟩
open Go.RowKit
set_option maxHeartbeats 400000 in
theorem withRoom_any (w : World) (ao : Option Addr) (n cap r : Nat) (xs : List Int) (h : Sl w ao n cap xs) (hr : n + r ≤ 140737488355328) :
    Calls Tryd.prog 52 #[.slice ao n cap, .int .i64 r] w fun e w' =>
      e = .returned (.slice (some ⟨w.heap.size, 0, none⟩) n (n + r)) ∧ w'.ownsRow w.heap.size 5 1 (.slice (some ⟨w.heap.size, 0, none⟩) n (n + r)) n (bv xs) ∧ Below w.heap.size w w' := by
  obtain ⟨i0, hi, hz0, hz1, hz2⟩ := info_parts u8info
  have hl := h.len
  have hnil := h.nil
  have hcells := h.cells
  go_enter Tryd.func52, Tryd.ntmps52
  go_wp2_with (first | (at_make; refine wpList_make_own _ rfl _ _ 38 rfl w.heap.size 5 i0 (.int .u8 0) 1 Tryd.underlying38 hi hz0 hz1 _ _ _ (n + r) rfl rfl (by omega) (by rw [hz2]; omega) (by unfold maxLen; omega) (Nat.le_refl _) ?_; intro w1 hown1 hgrow1) | (at_builtin; refine wpList_append_fits_any _ rfl _ _ 38 rfl w.heap.size 5 i0 1 Tryd.underlying38 hi hz1 w.heap.size 0 (n + r) [] rfl hown1 ao n cap (bv xs) rfl (by rw [bv_length]; omega) hnil (fun ad had j u hu => hgrow1.cell (hcells ad had j u hu) (by simp)) (bv_one xs) (by omega) ?_; intro w2 hown2 hgrow2; simp only [Nat.zero_add, List.nil_append] at hown2) | fail)
  have hb : Below w.heap.size w w2 := ((Below.refl _ w).grown hgrow1 (Nat.le_refl _) (fun k hk => by simp at hk)).grown hgrow2 hgrow1.size (fun k hk => by simp at hk; omega)
  go_ret
  exact ⟨rfl, hown2, hb⟩
def encF : Nat → Nat → List Int
  | 0, n => [(n : Int)]
  | f + 1, n => if n < 128 then [(n : Int)] else ((n % 128 + 128 : Nat) : Int) :: encF f (n / 128)
def enc (n : Nat) : List Int := encF 10 n
theorem encF_succ (f n : Nat) : encF (f + 1) n = if n < 128 then [(n : Int)] else ((n % 128 + 128 : Nat) : Int) :: encF f (n / 128) := rfl
theorem encF_stable (f : Nat) : ∀ n, n < 128 ^ (f + 1) → encF (f + 1) n = encF f n := by
  induction f with
  | zero => intro n h; simp [encF]; omega
  | succ f ih =>
    intro n h
    rw [encF_succ (f + 1) n, encF_succ f n]
    split
    · rfl
    · rw [ih (n / 128) (by rw [Nat.div_lt_iff_lt_mul (by decide)]; rw [Nat.pow_succ] at h; exact h)]
theorem enc_small {n : Nat} (h : n < 128) : enc n = [(n : Int)] := by simp [enc, encF, h]
theorem enc_big {n : Nat} (h : 128 ≤ n) (h2 : n < 18446744073709551616) : enc n = ((n % 128 + 128 : Nat) : Int) :: enc (n / 128) := by
  have : enc n = ((n % 128 + 128 : Nat) : Int) :: encF 9 (n / 128) := by
    unfold enc
    rw [encF_succ, if_neg (by omega)]
  rw [this]
  unfold enc
  rw [encF_stable 9 (n / 128) (by omega)]
theorem encF_length (f : Nat) : ∀ n, (encF f n).length ≤ f + 1 := by
  induction f with
  | zero => intro n; simp [encF]
  | succ f ih =>
    intro n
    rw [encF_succ]
    split
    · simp
    · have := ih (n / 128)
      simp; omega
theorem enc_length {n : Nat} (h : n < 18446744073709551616) : (enc n).length ≤ 10 := by
  unfold enc
  rw [encF_stable 9 n (by omega)]
  exact encF_length 9 n
theorem enc_pos (n : Nat) : 1 ≤ (enc n).length := by
  unfold enc
  rw [encF_succ]
  split <;> simp
theorem encF_byte (f : Nat) : ∀ n, n < 128 ^ (f + 1) → ∀ x ∈ encF f n, 0 ≤ x ∧ x ≤ 255 := by
  induction f with
  | zero => intro n h x hx; simp [encF] at hx; omega
  | succ f ih =>
    intro n h x hx
    rw [encF_succ] at hx
    split at hx
    · simp at hx; omega
    · simp only [List.mem_cons] at hx
      rcases hx with hx | hx
      · omega
      · exact ih (n / 128) (by rw [Nat.div_lt_iff_lt_mul (by decide)]; rw [Nat.pow_succ] at h; exact h) x hx
theorem enc_byte {n : Nat} (h : n < 18446744073709551616) : ∀ x ∈ enc n, 0 ≤ x ∧ x ≤ 255 := by
  intro x hx
  exact encF_byte 10 n (by omega) x hx
end Go.Proofs.YtdcebokfnbgkaaaDoor

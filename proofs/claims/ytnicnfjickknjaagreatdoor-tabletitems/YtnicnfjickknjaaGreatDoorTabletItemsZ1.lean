/-
  Texts in one: Mix, Take2, Add, AddW, Pad, SumM, SumOf, Parts, TMem, Room, Put, Forms, OfM, Dig, TDefs, TNode, HRegA, HRegC, PCompare, PPlace, TKids, PSmall, OMem.
-/
import Derived.Test.YtnicnfjickknjaaGreatDoorTabletItemsZ0
import Derived.Laws.CopyOwn
import Derived.Deep.RegionLaw
import Derived.Deep.Slices
import Derived.ArgAppend
import Derived.Deep.Upon
import Derived.DataElems
import Derived.RangeFuncBox
import Derived.RangeFuncLeaves
import Derived.Shelf.Abstract
import Derived.OwnWalkIn
import Derived.TacticsInMore
import Derived.LoopNIn
import Derived.LoopIn
import Derived.Maps.AppendAt
import Derived.Deep.RegionHeld3
import Derived.Lib.Bytealg
import Derived.BigQuiet
import Derived.Lib.SliceRun
namespace Go.Proofs.YtnicnfjickknjaaGreatDoor
open Go.RowKit

def an (x y : Int) : Int := bits .and .u32 x y
def nt (x : Int) : Int := bits .xor .u32 4294967295 x
def t1 (e f g l k w : Int) : Int := ad (ad (ad (ad l (xr (xr (rl (-6) e) (rl (-11) e)) (rl (-25) e))) (xr (an e f) (an (nt e) g))) k) w
def t2 (a b c : Int) : Int := ad (xr (xr (rl (-2) a) (rl (-13) a)) (rl (-22) a)) (xr (xr (an a b) (an a c)) (an b c))
/-- One round. -/
def rnd (s : List Int) (k w : Int) : List Int :=
  match s with
  | [a, b, c, d, e, f, g, l] => [ad (t1 e f g l k w) (t2 a b c), a, b, c, ad d (t1 e f g l k w), e, f, g]
  | _ => s
/-- t rounds. -/
def Rr (X Ws : List Int) : Nat → List Int
  | 0 => X
  | t + 1 => rnd (Rr X Ws t) (K0.getD t 0) (Ws.getD t 0)
/-- What the words are to which a block is mixed. -/
def mixA (A B : List Int) : List Int := part A (Rr (part H0 A 8) (W B 64) 64) 8

set_option maxRecDepth 100000 in
set_option maxHeartbeats 2000000 in
theorem mix_any (w : World) (p : Nat) (A B : List Int) (n : Nat) (hT : Tabs w) (h : HB w p A B n) :
    Calls Tryz.prog 97 #[.pointer (some ⟨p, 0, none⟩)] w fun e w' => (∃ v, e = .returned v) ∧ HB w' p (mixA A B) B n ∧ w.grownBy w' (some p) := by
  have h2 := hT.two
  have hp := h.lt
  go_enter Tryz.func97, Tryz.ntmps97
  go_wp2_with (first
    | (go_at_call 116; refine (sched_any w p A B n hT h).mono ?_; rintro e w1 ⟨rfl, B1⟩; have T1 := hT.below B1 h2; have H1 := h.below B1 hp; have S1 := B1.size)
    | (refine wpList_alloc_named rfl 2 rfl 148 rfl w1.heap.size rfl _ 64 z55 ?_; intro w2 a2 s2 g2; have B2 : Below w.heap.size w w2 := B1.grown g2 S1 (by simp); clear g2 B1)
    | (refine wpList_store_named rfl 148 (Operand.tmp 2) _ rfl w1.heap.size (wv (W B 64)) rfl rfl 148 _ a2 _ s2 (a55.trans (by rw [wv_length, W_len])) (by rw [wv_length, W_len]; rfl) (wv_one _) ?_; intro w3 a3 s3 g3; have B3 : Below w.heap.size w w3 := B2.grown g3 (by omega) (by intro k hk; cases hk; omega); have T3 := hT.below B3 h2; have H3 := h.below B3 hp; clear g3 B2 a2 s2 T1 H1)
    | (go_at_call 101; refine (words_any w3 p A B n T3 H3).mono ?_; rintro e w4 ⟨rfl, C4⟩; have B4 : Below w.heap.size w w4 := B3.trans (C4.mono (by omega)); have a4 : Arr w4 w1.heap.size 148 (wv (W B 64)) := Arr.below a3 C4 (by omega); have S4 := C4.size; clear C4 B3 T3 H3 a3)
    | (refine wpList_alloc_named rfl 3 rfl 130 rfl w4.heap.size rfl _ 8 z48 ?_; intro w5 a5 s5 g5; have B5 : Below w.heap.size w w5 := B4.grown g5 (by omega) (by simp); have A5 := a4.grown g5 (by simp); clear g5 B4 a4)
    | (refine wpList_store_named rfl 130 (Operand.tmp 3) _ rfl w4.heap.size (wv (part H0 A 8)) rfl rfl 130 _ a5 _ s5 (a48.trans (by rw [wv_length, part_len])) (by rw [wv_length, part_len]; rfl) (wv_one _) ?_; intro w6 a6 s6 g6; have B6 : Below w.heap.size w w6 := B5.grown g6 (by omega) (by intro k hk; cases hk; omega); have A6 := A5.grown g6 (by intro e; have := Option.some.inj e; omega); clear g6 B5 a5 s5 A5))
  have hc : ∀ j, j < 8 → w6.cell? ⟨w4.heap.size, j, none⟩ = some (.int .u32 ((part H0 A 8).getD j 0)) := by
    intro j hj
    rw [Arr.cell a6, wv_get _ _ (by rw [part_len]; exact hj)]
  have c0 := hc 0 (by omega)
  have c1 := hc 1 (by omega)
  have c2 := hc 2 (by omega)
  have c3 := hc 3 (by omega)
  have c4 := hc 4 (by omega)
  have c5 := hc 5 (by omega)
  have c6 := hc 6 (by omega)
  have c7 := hc 7 (by omega)
  clear hc
  obtain ⟨x0, x1, x2, x3, x4, x5, x6, x7, hX⟩ : ∃ x0 x1 x2 x3 x4 x5 x6 x7, part H0 A 8 = [x0, x1, x2, x3, x4, x5, x6, x7] := ⟨_, _, _, _, _, _, _, _, rfl⟩
  rw [hX] at c0 c1 c2 c3 c4 c5 c6 c7
  simp only [List.getD_cons_zero, List.getD_cons_succ] at c0 c1 c2 c3 c4 c5 c6 c7
  have HX : Hid (part H0 A 8 = [x0, x1, x2, x3, x4, x5, x6, x7]) := hX
  clear hX
  go_wp2
  go_quiet (fail)
  rename Nat => q1
  go_wp2
  go_quiet (fail)
  rename Nat => q2
  go_wp2
  clear c0 c1 c2 c3 c4 c5 c6 c7
  have T6 := hT.below B6 h2
  go_loopw [4, 5, 6, 7, 8, 9, 10, 11, 39] (fun va vb vc vd ve vf vg vh i wr => ∃ (k q : Nat) (a b c d e f g l : Int), k ≤ 64 ∧ i = .int .i64 k ∧ wr = w6.drewN q ∧ Hid (Rr (part H0 A 8) (W B 64) k = [a, b, c, d, e, f, g, l]) ∧ va = .int .u32 a ∧ vb = .int .u32 b ∧ vc = .int .u32 c ∧ vd = .int .u32 d ∧ ve = .int .u32 e ∧ vf = .int .u32 f ∧ vg = .int .u32 g ∧ vh = .int .u32 l) (fun _ _ _ _ _ _ _ _ i _ => 64 - (intOf i).toNat)
  case atStart => exact ⟨0, q1 + q2, x0, x1, x2, x3, x4, x5, x6, x7, by omega, rfl, by simp, HX, rfl, rfl, rfl, rfl, rfl, rfl, rfl, rfl⟩
  case round =>
    obtain ⟨k, q, a, b, c, d, e, f, g, l, hk, rfl, rfl, HR, rfl, rfl, rfl, rfl, rfl, rfl, rfl, rfl⟩ := hrel
    by_cases hlt : k < 64
    · have hki : (k : Int) < 64 := by omega
      have ck := T6.cubes k _ (wv_get K0 k hlt)
      have cw : w6.cell? ⟨w1.heap.size, k, none⟩ = some (.int .u32 ((W B 64).getD k 0)) := by
        rw [Arr.cell A6, wv_get _ _ (by rw [W_len]; exact hlt)]
      obtain ⟨xk, hxk⟩ : ∃ x, x = K0.getD k 0 := ⟨_, rfl⟩
      obtain ⟨xw, hxw⟩ : ∃ x, x = (W B 64).getD k 0 := ⟨_, rfl⟩
      have HN : Hid (Rr (part H0 A 8) (W B 64) (k + 1) = rnd [a, b, c, d, e, f, g, l] xk xw) := by
        have : Rr (part H0 A 8) (W B 64) (k + 1) = rnd (Rr (part H0 A 8) (W B 64) k) (K0.getD k 0) ((W B 64).getD k 0) := rfl
        rw [HR.out, ← hxk, ← hxw] at this
        exact this
      rw [← hxk] at ck
      rw [← hxw] at cw
      clear hxk hxw
      go_wp2_with (go_at_call 117; refine (rot_at _ _ _ (by simp)).mono ?_; rintro e w' ⟨rfl, rfl⟩)
      go_quiet (fail)
      go_wp2_with (go_at_call 117; refine (rot_at _ _ _ (by simp)).mono ?_; rintro e w' ⟨rfl, rfl⟩)
      go_roundw
      case rel =>
        refine ⟨k + 1, _, ad (t1 e f g l xk xw) (t2 a b c), a, b, c, ad d (t1 e f g l xk xw), e, f, g, by omega, by go_num, rfl, HN.out, ?_, rfl, rfl, rfl, ?_, rfl, rfl, rfl⟩
        · have e0 : (if IntKind.u32.signed = true then -1 else IntKind.u32.max) = 4294967295 := by decide
          rw [e0]
          refine congrArg _ ?_
          simp only [ad, IntKind.wrap_u32', t1, t2, xr, an, nt]
          omega
        · have e0 : (if IntKind.u32.signed = true then -1 else IntKind.u32.max) = 4294967295 := by decide
          rw [e0]
          refine congrArg _ ?_
          simp only [ad, IntKind.wrap_u32', t1, xr, an, nt]
          omega
      case measure => simp [intOf]; omega
    · have hge : (64 : Int) ≤ (k : Int) := by omega
      have HR' : Hid (Rr (part H0 A 8) (W B 64) 64 = [a, b, c, d, e, f, g, l]) := by
        obtain rfl : k = 64 := by omega
        exact HR
      clear HR
      go_wp2
      have h7 : HB (w6.drewN q) p (part A [a, b, c, d, e, f, g, l] 0) B n := by
        rw [part_zero _ _ h.lenA]
        exact (h.below B6 hp).drewN q
      have G7 : w.grownBy (w6.drewN q) (some p) := grown_drewN (bel_grown B6 _) q
      clear a6 s6 B6 A6 T6 hk hlt hge HX
      generalize w6.drewN q = w7 at h7 G7
      go_loopw [113] (fun i wr => ∃ j : Nat, j ≤ 8 ∧ i = .int .i64 j ∧ HB wr p (part A [a, b, c, d, e, f, g, l] j) B n ∧ w.grownBy wr (some p)) (fun i _ => 8 - (intOf i).toNat)
      case atStart => exact ⟨0, by omega, rfl, h7, G7⟩
      case round =>
        obtain ⟨j, hj, rfl, h8, G8⟩ := hrel
        clear h7 G7
        by_cases hjt : j < 8
        · have hji : (j : Int) < 8 := by omega
          have hx : ∀ w, (Instr.index 130 (.agg #[.int .u32 a, .int .u32 b, .int .u32 c, .int .u32 d, .int .u32 e, .int .u32 f, .int .u32 g, .int .u32 l]) (.int .i64 j)).run Tryz.prog w = .ok (.int .u32 ([a, b, c, d, e, f, g, l].getD j 0)) w := fun w => index48 [a, b, c, d, e, f, g, l] j rfl hjt w
          have c1 := h8.word j hjt
          rw [part_get _ _ _ _ hjt] at c1
          simp only [Nat.lt_irrefl, if_false] at c1
          have cf := h8.free j
          obtain ⟨x, hx'⟩ : ∃ x, x = [a, b, c, d, e, f, g, l].getD j 0 := ⟨_, rfl⟩
          obtain ⟨y, hy'⟩ : ∃ y, y = A.getD j 0 := ⟨_, rfl⟩
          have HXY : Hid (part A [a, b, c, d, e, f, g, l] (j + 1) = (part A [a, b, c, d, e, f, g, l] j).set j (ad y x)) := by rw [hx', hy']; exact (part_succ _ _ _).symm
          rw [← hx'] at hx
          rw [← hy'] at c1
          clear hx' hy'
          go_wp2
          go_region
          all_goals go_wp2
          go_roundw
          case rel =>
            refine ⟨j + 1, by omega, by go_num, ?_, ?_⟩
            · rw [HXY.out]
              exact (h8.drewN 1).setA j (ad y x) hjt
            · exact grown_set (grown_drewN G8 1) j _
          case measure => simp [intOf]; omega
        · obtain rfl : j = 8 := by omega
          go_wp2
          go_end0
          refine ⟨⟨_, rfl⟩, ?_, G8⟩
          unfold mixA
          rw [HR'.out]
          exact h8
end Go.Proofs.YtnicnfjickknjaaGreatDoor

namespace Go.Proofs.YtnicnfjickknjaaGreatDoor
open Go.RowKit

/-- The first k bytes. -/
theorem Sl.take {w : World} {ao : Option Addr} {n cap : Nat} {xs : List Int} (h : Sl w ao n cap xs) (k : Nat) (hk : k ≤ n) : Sl w ao k cap (xs.take k) := by
  have h1 := h.le
  have h2 := h.len
  refine ⟨by simp; omega, by omega, h.mx, fun hn => ?_, fun a ha i hi => ?_, h.byte.take k⟩
  · have := h.nil hn
    omega
  · rw [h.cell a ha i (by omega)]
    simp [List.getD, hi]

end Go.Proofs.YtnicnfjickknjaaGreatDoor

namespace Go

/-- A copy within a region that draws its order, into a row, the world behind it by a name. -/
theorem step_copy_named {P : Program} {ops : Array Oper} {o : Oper} {a : Act} {w : World} {K : Act → World → Prop} {Q : Exit → Act → World → Prop} {E : Prop} (hgd : o.guard = none) (d s : Operand) (dT sT : TypeId)
    (ho : o.op = .call { callee := .builtin .copy, args := #[d, s], argTypes := #[dT, sT] }) (elem : TypeId) (hu : P.underlying dT = some (.slice elem)) (hsz : (P.info? elem).map (·.size) = some 1)
    (g off : Nat) (ad : Addr) (dLen dCap sLen sCap : Nat) (hd : a.eval d = .slice (some ⟨g, off, none⟩) dLen dCap) (hs : a.eval s = .slice (some ad) sLen sCap)
    (cur : List Value) (t : TypeId) (hg : w.heap[g]? = some (.cells cur.toArray t (0, 0))) (cs : List Value) (hn : cs.length = Nat.min sLen dLen)
    (hsrc : ∀ j v, cs[j]? = some v → w.cell? (ad.add j) = some v)
    (hfit : off + cs.length ≤ cur.length) (h1 : ∀ v ∈ cs, v.oneCell' = true)
    (N : Nat) (hN : cs.length = N)
    (h : ∀ w', RowKit.Hid (w'.heap[g]? = some (.cells (splice cur off cs).toArray t (0, 0))) → w.grownBy w' (some g) → K (a.put o.dst (.int .i64 N)) w') :
    if Region.wanted o (yielded ops a.tmps) = true then Oper.wp P o a w K Q else E := by
  have hw : Region.wanted o (yielded ops a.tmps) = true := by simp [Region.wanted, hgd]
  subst hN
  rw [if_pos hw]
  have hrun := run_copy_row (P := P) w dT sT o.type elem g off dLen dCap ad sLen sCap cur.toArray t cs hu hsz hg hn hsrc (by simpa using hfit) h1
  unfold Oper.wp
  simp [execOp, ho, resolve, invoke, builtin, hd, hs, hrun, Result.andThen]
  exact h _ (show _ = _ by simpa [splice] using setRow_heap w g _ _ t _ hg) ⟨rfl, rfl, rfl, by simp, fun k _ hk => setRow_other w g k _ (fun e => hk (by rw [e]))⟩

end Go

namespace Go.Proofs.YtnicnfjickknjaaGreatDoor
open Go.RowKit

/-- The block i of some bytes. -/
def blk (bs : List Int) (i : Nat) : List Int := (bs.drop (64 * i)).take 64
/-- What the first i blocks have added to the first words. -/
def AA (bs : List Int) : Nat → List Int
  | 0 => List.replicate 8 0
  | i + 1 => mixA (AA bs i) (blk bs i)
theorem AA_append (bs cs : List Int) (i : Nat) (h : 64 * i ≤ bs.length) : AA (bs ++ cs) i = AA bs i := by
  induction i with
  | zero => rfl
  | succ i ih =>
    have e : blk (bs ++ cs) i = blk bs i := by
      unfold blk
      rw [List.drop_append_of_le_length (by omega), List.take_append_of_le_length (by simp; omega)]
    simp only [AA]
    rw [ih (by omega), e]
theorem AA_len (bs : List Int) (i : Nat) : (AA bs i).length = 8 := by
  cases i with
  | zero => simp [AA]
  | succ i => simp [AA, mixA, part_len]

/-- The hash at block p has taken the bytes bs. -/
def HS (w : World) (p : Nat) (bs : List Int) : Prop :=
  ∃ B, HB w p (AA bs (bs.length / 64)) B bs.length ∧ B.take (bs.length % 64) = bs.drop (64 * (bs.length / 64))

theorem HS.lt {w : World} {p : Nat} {bs : List Int} (h : HS w p bs) : p < w.heap.size := by obtain ⟨B, h, _⟩ := h; exact h.lt
theorem HS.below {w w' : World} {p m : Nat} {bs : List Int} (h : HS w p bs) (hb : Below m w w') (hp : p < m) : HS w' p bs := by
  obtain ⟨B, h, e⟩ := h
  exact ⟨B, h.below hb hp, e⟩
theorem HB.grown {w w' : World} {p : Nat} {A B : List Int} {n : Nat} {row : Option Nat} (h : HB w p A B n) (hg : w.grownBy w' row) (hne : some p ≠ row) : HB w' p A B n :=
  ⟨(hg.block p h.lt hne).trans h.heap, h.lenA, h.lenB, h.byte, h.size⟩
theorem HS.grown {w w' : World} {p : Nat} {bs : List Int} {row : Option Nat} (h : HS w p bs) (hg : w.grownBy w' row) (hne : some p ≠ row) : HS w' p bs := by
  obtain ⟨B, h, e⟩ := h
  exact ⟨B, h.grown hg hne, e⟩
theorem Tabs.grown {w w' : World} {p : Nat} (h : Tabs w) (hg : w.grownBy w' (some p)) (hp : 2 ≤ p) : Tabs w' :=
  have h2 := h.two
  ⟨fun j v hv => hg.cell (h.first j v hv) (by intro e; have := Option.some.inj e; simp only at this; omega), fun j v hv => hg.cell (h.cubes j v hv) (by intro e; have := Option.some.inj e; simp only at this; omega), by have := hg.size; omega⟩
theorem Sl.grown {w w' : World} {ao : Option Addr} {n cap p : Nat} {xs : List Int} (h : Sl w ao n cap xs) (hg : w.grownBy w' (some p)) (hne : ∀ a, ao = some a → 0 < n → a.block ≠ p) : Sl w' ao n cap xs :=
  ⟨h.len, h.le, h.mx, h.nil, fun a ha i hi => hg.cell (h.cell a ha i hi) (by intro e; have := Option.some.inj e; exact hne a ha (by omega) (by rw [← this]; unfold Addr.add; split <;> rfl)), h.byte⟩

/-- A slice of bytes from a place on. -/
theorem Sl.cut {w : World} {a : Addr} {n cap : Nat} {xs : List Int} (h : Sl w (some a) n cap xs) (u : Nat) (hu : u ≤ n) : Sl w (some (if cap = u then a else a.add u)) (n - u) (cap - u) (xs.drop u) := by
  refine ⟨by simp [h.len], by have := h.le; omega, by have := h.mx; omega, fun e => by simp at e, fun b hb i hi => ?_, h.byte.drop u⟩
  have hle := h.le
  rw [if_neg (by omega)] at hb
  obtain rfl := Option.some.inj hb
  have e : (a.add u).add i = a.add (u + i) := by
    rcases Nat.eq_zero_or_pos u with rfl | h1
    · simp [Addr.add]
    · rcases Nat.eq_zero_or_pos i with rfl | h2
      · simp [Addr.add]
      · have h3 : ¬ u = 0 := by omega
        have h4 : ¬ i = 0 := by omega
        simp [Addr.add, h3, h4, Nat.add_assoc]
  rw [e, h.cell a rfl (u + i) (by omega)]
  simp [List.getD]
theorem u22 : Tryz.prog.underlying 25 = some (.slice (Tryz.prog.elem 25)) := by kernel_rfl
theorem el22 : Tryz.prog.elem 25 = 5 := by kernel_rfl
theorem slice22l (a : Addr) (n cap k : Nat) (hk : k ≤ n) (w : World) : (Instr.slice 25 (.slice (some a) n cap) (some (.int .i64 k)) none none).run Tryz.prog w = .ok (.slice (some (if cap = k then a else a.add k)) (n - k) (cap - k)) w := by
  rw [run_slice_l w 25 (some a) n cap u22 .i64 k (by omega) (by omega), el22, size8]
  simp [sliced]
  split <;> rfl

/-- The row of a hash behind a copy into its block. -/
theorem splice_hv (A B Y : List Int) (n r : Nat) (hA : A.length = 8) (hB : B.length = 64) (hr : r + Y.length ≤ 64) : splice (hv A B n) (8 + r) (bv Y) = hv A (B.take r ++ Y ++ B.drop (r + Y.length)) n := by
  unfold hv splice
  have l1 : (wv A).length = 8 := by simp [wv, hA]
  have e1 : (wv A ++ bv B ++ [Value.int .u64 n]).take (8 + r) = wv A ++ bv (B.take r) := by
    rw [List.append_assoc, ← l1, List.take_length_add_append, List.take_append_of_le_length (by simp [bv]; omega)]
    simp [bv, List.map_take]
  have e2 : (wv A ++ bv B ++ [Value.int .u64 n]).drop (8 + r + (bv Y).length) = bv (B.drop (r + Y.length)) ++ [Value.int .u64 n] := by
    rw [List.append_assoc, ← l1, Nat.add_assoc, List.drop_length_add_append, List.drop_append_of_le_length (by simp [bv]; omega)]
    simp [bv, List.map_drop]
  rw [e1, e2]
  simp [bv]

theorem HB.setN {w : World} {p : Nat} {A B : List Int} {n : Nat} (h : HB w p A B n) (m : Nat) (hm : m < 18446744073709551616) : HB (w.setCell ⟨p, 72, none⟩ (.int .u64 m)) p A B m := by
  refine ⟨?_, h.lenA, h.lenB, h.byte, hm⟩
  have := Arr.set (show Arr w p _ (hv A B n) from h.heap) 72 (.int .u64 m)
  have e : (hv A B n).set 72 (.int .u64 m) = hv A B m := by
    unfold hv
    rw [List.set_append_right _ _ (by simp [wv, bv, h.lenA, h.lenB])]
    simp [wv, bv, h.lenA, h.lenB]
  rw [e] at this
  exact this

/-- Fewer bytes than fill the block. -/
theorem HS_less {w : World} {p : Nat} {ys B Y : List Int} (h : HB w p (AA ys (ys.length / 64)) (B.take (ys.length % 64) ++ Y ++ B.drop (ys.length % 64 + Y.length)) (ys.length + Y.length)) (hB : B.take (ys.length % 64) = ys.drop (64 * (ys.length / 64)))
    (hl : ys.length % 64 + Y.length < 64) : HS w p (ys ++ Y) := by
  have e1 : (ys ++ Y).length / 64 = ys.length / 64 := by simp; omega
  have e2 : (ys ++ Y).length % 64 = ys.length % 64 + Y.length := by simp; omega
  refine ⟨B.take (ys.length % 64) ++ Y ++ B.drop (ys.length % 64 + Y.length), ?_, ?_⟩
  · rw [e1, AA_append _ _ _ (by omega)]
    simpa using h
  · rw [e1, e2, hB, List.drop_append_of_le_length (by omega)]
    rw [List.take_append_of_le_length (by simp; omega)]
    rw [List.take_of_length_le (by simp; omega)]

/-- Bytes that fill it. -/
theorem HS_full {w : World} {p : Nat} {ys B Y : List Int} (h : HB w p (mixA (AA ys (ys.length / 64)) (B.take (ys.length % 64) ++ Y ++ B.drop (ys.length % 64 + Y.length))) (B.take (ys.length % 64) ++ Y ++ B.drop (ys.length % 64 + Y.length)) (ys.length + Y.length)) (hB : B.take (ys.length % 64) = ys.drop (64 * (ys.length / 64)))
    (hl : ys.length % 64 + Y.length = 64) (hb : B.length = 64) : HS w p (ys ++ Y) := by
  have e1 : (ys ++ Y).length / 64 = ys.length / 64 + 1 := by simp; omega
  have e2 : (ys ++ Y).length % 64 = 0 := by simp; omega
  have e3 : B.take (ys.length % 64) ++ Y ++ B.drop (ys.length % 64 + Y.length) = blk (ys ++ Y) (ys.length / 64) := by
    rw [hl, List.drop_of_length_le (by omega), List.append_nil, hB]
    unfold blk
    rw [List.drop_append_of_le_length (by omega), List.take_of_length_le (by simp; omega)]
  rw [e3] at h
  refine ⟨blk (ys ++ Y) (ys.length / 64), ?_, ?_⟩
  · rw [e1]
    simp only [AA]
    rw [AA_append _ _ _ (by omega)]
    simpa using h
  · rw [e1, e2, List.take_zero, List.drop_of_length_le (by simp; omega)]

end Go.Proofs.YtnicnfjickknjaaGreatDoor

namespace Go.Proofs.YtnicnfjickknjaaGreatDoor
open Go.RowKit

theorem s5 : (Tryz.prog.info? 5).map (·.size) = some 1 := by kernel_rfl

def lenOf : Value → Nat | .slice _ n _ => n | _ => 0

/-- A nil hash takes nothing. -/
theorem add_nil (w : World) (v : Value) : Calls Tryz.prog 74 #[.pointer none, v] w fun e w' => (∃ v, e = .returned v) ∧ w' = w := by
  go_enter Tryz.func74, Tryz.ntmps74
  go_wp2
  refine bodyPost_ret (results_none rfl _ _ _) rfl ?_
  exact ⟨⟨_, rfl⟩, rfl⟩

set_option maxRecDepth 100000 in
set_option maxHeartbeats 2000000 in
theorem add_any (w : World) (p : Nat) (bs : List Int) (ao : Option Addr) (n cap : Nat) (xs : List Int) (hT : Tabs w) (h : HS w p bs) (hp2 : 2 ≤ p) (hS : Sl w ao n cap xs) (hne : ∀ a, ao = some a → 0 < n → a.block ≠ p) (hl : bs.length + xs.length < 18446744073709551616) :
    Calls Tryz.prog 74 #[.pointer (some ⟨p, 0, none⟩), .slice ao n cap] w fun e w' => (∃ v, e = .returned v) ∧ HS w' p (bs ++ xs) ∧ w.grownBy w' (some p) := by
  go_enter Tryz.func74, Tryz.ntmps74
  go_wp2
  go_loopw [1] (fun v wr => ∃ (ys zs : List Int) (ao : Option Addr) (n cap : Nat), Hid (bs ++ xs = ys ++ zs) ∧ HS wr p ys ∧ v = .slice ao n cap ∧ Sl wr ao n cap zs ∧ (∀ a, ao = some a → 0 < n → a.block ≠ p) ∧ w.grownBy wr (some p)) (fun v _ => lenOf v)
  case atStart => exact ⟨bs, xs, ao, n, cap, rfl, h, rfl, hS, hne, World.grownBy.refl _ _⟩
  case round =>
    clear h hS hne
    obtain ⟨ys, zs, ao, n, cap, HE, h, rfl, hS, hne, G⟩ := hrel
    have T := hT.grown G hp2
    have hlen : ys.length + zs.length < 18446744073709551616 := by
      have := congrArg List.length HE.out
      simp at this
      omega
    by_cases hn : n = 0
    · have hz : zs = [] := List.eq_nil_of_length_eq_zero (by rw [hS.len]; exact hn)
      subst hn
      go_wp2
      go_end0
      refine ⟨⟨_, rfl⟩, ?_, G⟩
      rw [HE.out, hz, List.append_nil]
      exact h
    · obtain ⟨a, rfl⟩ : ∃ a, ao = some a := by
        cases ao with
        | none => exact absurd (hS.nil rfl).1 hn
        | some a => exact ⟨a, rfl⟩
      obtain ⟨B, hB, eB⟩ := h
      obtain ⟨m, hm⟩ : ∃ m, m = ys.length := ⟨_, rfl⟩
      obtain ⟨k, hk⟩ : ∃ k, k = min n (64 - m % 64) := ⟨_, rfl⟩
      have hk' : k = n ∨ k = 64 - m % 64 := by rw [hk]; omega
      have hkn : k ≤ n := by rw [hk]; omega
      have hk64 : m % 64 + k ≤ 64 := by rw [hk]; omega
      have hk0 : 0 < k := by rw [hk]; omega
      have hle := hS.le
      have hzl := hS.len
      have hY : (zs.take k).length = k := by simp; omega
      have HB0 : Hid (HB wr p (AA ys (m / 64)) B m ∧ B.take (m % 64) = ys.drop (64 * (m / 64)) ∧ k = min n (64 - m % 64)) := ⟨by rw [hm]; exact hB, by rw [hm]; exact eB, hk⟩
      have hpos : (0 : Int) < (n : Int) := by omega
      have c1 := hB.count
      have f1 := hB.free 72
      rw [← hm] at c1 hlen
      have HM : Hid (m = ys.length) := hm
      have hsl := slice49l .u64 p 8 (m % 64) (by omega) ((m : Int).tmod 64) (by rw [Int.tmod_eq_emod_of_nonneg (by omega)]; omega)
      clear hB eB hm hk
      have hs2 := slice22l a n cap k hkn
      go_wp2
      go_region_law (refine step_copy_named rfl (.tmp 18) (.tmp 19) 25 25 rfl 5 Tryz.underlying25 s5 p (8 + m % 64) a (64 - m % 64) (64 - m % 64) n cap (by simp [Act.eval, Act.put]) (by simp [Act.eval, Act.put]) (hv (AA ys (m / 64)) B m) 133 HB0.out.1.heap (bv (zs.take k)) (by rw [bv_length, hY]; exact HB0.out.2.2) ((hS.take k hkn).cells a rfl) (by rw [bv_length, hY]; simp [hv, wv, bv, HB0.out.1.lenA, HB0.out.1.lenB]; omega) (bv_one _) k (by rw [bv_length]; exact hY) ?_; intro w1 a1 g1)
      have g2 : wr.grownBy w1 (some p) := ⟨g1.os, g1.tape, g1.output, g1.size, g1.block⟩
      obtain ⟨Bn, hBn⟩ : ∃ Bn, Bn = B.take (m % 64) ++ zs.take k ++ B.drop (m % 64 + (zs.take k).length) := ⟨_, rfl⟩
      have H1 : HB w1 p (AA ys (m / 64)) Bn m := by
        have hb0 := HB0.out.1
        refine ⟨?_, hb0.lenA, ?_, ?_, hb0.size⟩
        · rw [hBn, ← splice_hv _ _ _ _ _ hb0.lenA hb0.lenB (by rw [hY]; exact hk64)]
          exact a1.out
        · have := hb0.lenB
          rw [hBn]
          simp
          omega
        · rw [hBn]
          exact ((hb0.byte.take _).append (hS.byte.take _)).append (hb0.byte.drop _)
      have S1 : Sl w1 (some a) n cap zs := hS.grown g2 hne
      have G1 : w.grownBy w1 (some p) := gro_trans G g2
      have T1 := T.grown g2 hp2
      have HN : Hid (Bn = B.take (m % 64) ++ zs.take k ++ B.drop (m % 64 + (zs.take k).length)) := hBn
      clear a1 g1 g2 G T hS c1 f1 hBn hsl
      have c2 := H1.count
      have f2 := H1.free 72
      have hmk : (m : Int) + k ≤ 18446744073709551615 := by omega
      have hm0 : (0 : Int) ≤ (m : Int) + k := by omega
      have S2 := S1.cut k hkn
      have hne2 : ∀ b, some (if cap = k then a else a.add k) = some b → 0 < n - k → b.block ≠ p := by
        intro b hb _
        obtain rfl := Option.some.inj hb
        split
        · exact hne a rfl (by omega)
        · have := hne a rfl (by omega)
          intro e
          apply this
          rw [← e]
          unfold Addr.add
          split <;> rfl
      obtain ⟨a2, ha2⟩ : ∃ a2, a2 = if cap = k then a else a.add k := ⟨_, rfl⟩
      rw [← ha2] at S2 hne2 hs2
      clear ha2
      have W1 := (H1.setN (m + k) (by omega))
      have hk64' : m % 64 + k = 64 ∨ m % 64 + k < 64 := by omega
      rcases hk64' with hf | hf
      · have ht : (((m : Int) + k).tmod 64 == 0) = true := by
          rw [Int.tmod_eq_emod_of_nonneg hm0]
          simp
          omega
        go_wp2_with (go_at_call 97; refine (mix_any _ p _ _ _ (T1.grown (grown_set (World.grownBy.refl _ _) 72 _) hp2) W1).mono ?_; rintro e w2 ⟨⟨v, rfl⟩, H2, g2⟩)
        go_roundw
        case rel =>
          have hgs : w1.grownBy w2 (some p) := gro_trans (grown_set (World.grownBy.refl w1 _) 72 _) g2
          refine ⟨ys ++ zs.take k, zs.drop k, some a2, n - k, cap - k, ?_, ?_, rfl, S2.grown hgs hne2, hne2, gro_trans G1 hgs⟩
          · have := HE.out
            show bs ++ xs = _
            rw [this, List.append_assoc, List.take_append_drop]
          · have hm := HM.out
            have hN := HN.out
            have h0 := HB0.out
            subst hm
            rw [hN] at H2
            refine HS_full (B := B) ?_ h0.2.1 (by rw [hY]; exact hf) h0.1.lenB
            rw [hY]
            rw [hY] at H2
            exact H2
        case measure => simp [lenOf]; omega
      · have ht : (((m : Int) + k).tmod 64 == 0) = false := by
          rw [Int.tmod_eq_emod_of_nonneg hm0]
          simp
          omega
        go_wp2
        go_roundw
        case rel =>
          have hgs : w1.grownBy (w1.setCell ⟨p, 72, none⟩ (.int .u64 (m + k))) (some p) := grown_set (World.grownBy.refl w1 _) 72 _
          refine ⟨ys ++ zs.take k, zs.drop k, some a2, n - k, cap - k, ?_, ?_, rfl, S2.grown hgs hne2, hne2, gro_trans G1 hgs⟩
          · have := HE.out
            show bs ++ xs = _
            rw [this, List.append_assoc, List.take_append_drop]
          · have hm := HM.out
            have hN := HN.out
            have h0 := HB0.out
            subst hm
            rw [hN] at W1
            refine HS_less (B := B) ?_ h0.2.1 (by rw [hY]; exact hf)
            rw [hY]
            rw [hY] at W1
            exact W1
        case measure => simp [lenOf]; omega
end Go.Proofs.YtnicnfjickknjaaGreatDoor

namespace Go.Proofs.YtnicnfjickknjaaGreatDoor
open Go.RowKit

/-- How many bytes end n bytes. -/
def pe (n : Nat) : Nat := if 64 - n % 64 ≤ 8 then 128 - n % 64 else 64 - n % 64
/-- The last array: a mark, noughts, and the lowest i bytes of L ahead of e. -/
def tl (e L i : Nat) : List Int := (List.range 72).map fun q => if e ≤ q + i ∧ q < e then ((L / 2 ^ (8 * (e - 1 - q)) % 256 : Nat) : Int) else if q = 0 then 128 else 0
theorem tl_len (e L i : Nat) : (tl e L i).length = 72 := by simp [tl]
theorem tl_zero (e L : Nat) : tl e L 0 = 128 :: List.replicate 71 0 := by
  have h : tl e L 0 = (List.range 72).map fun q => if q = 0 then 128 else 0 := by
    refine List.map_congr_left fun q _ => ?_
    rw [if_neg (by omega)]
  rw [h]
  decide
theorem tl_succ (e L i : Nat) (hi : i < 8) (he : 8 < e) : (tl e L i).set (e - 1 - i) ((L / 2 ^ (8 * i) % 256 : Nat) : Int) = tl e L (i + 1) := by
  refine List.ext_getElem? fun q => ?_
  by_cases hq : q < 72
  · by_cases hj : e - 1 - i = q
    · have h1 : e ≤ q + (i + 1) ∧ q < e := by omega
      have h2 : e - 1 - q = i := by omega
      simp only [tl, hj, List.getElem?_set_self', List.getElem?_map, List.getElem?_range hq, Option.map_some, if_pos h1, h2]
      rfl
    · have h1 : (e ≤ q + (i + 1) ∧ q < e) ↔ (e ≤ q + i ∧ q < e) := by omega
      simp only [tl, List.getElem?_set_ne hj, List.getElem?_map, List.getElem?_range hq, Option.map_some, h1]
  · simp [tl, hq]
theorem tl_byte (e L i : Nat) : Byt (tl e L i) := by
  intro x hx
  simp only [tl, List.mem_map] at hx
  obtain ⟨q, _, rfl⟩ := hx
  split
  · omega
  · split <;> omega
/-- What ends n bytes. -/
def padL (n : Nat) : List Int := (tl (pe n) (n * 8 % 18446744073709551616) 8).take (pe n)
theorem pe_le (n : Nat) : 8 < pe n ∧ pe n ≤ 72 := by unfold pe; split <;> omega
theorem padL_len (n : Nat) : (padL n).length = pe n := by
  have := pe_le n
  simp [padL, tl_len]
  omega

theorem bv_set (xs : List Int) (j : Nat) (x : Int) : (bv xs).set j (.int .u8 x) = bv (xs.set j x) := by
  simp [bv, List.map_set]
theorem z58 : (Tryz.prog.info? 151).map (fun i => (i.zero, i.size)) = some (some (.agg (List.replicate 72 (Value.int .u8 0)).toArray), 72) := by kernel_rfl
theorem u58 : Tryz.prog.underlying 151 = some (.array (Tryz.prog.arrayLen 151) (Tryz.prog.elem 151)) := by kernel_rfl
theorem al58 : Tryz.prog.arrayLen 151 = 72 := by kernel_rfl
theorem el58 : Tryz.prog.elem 151 = 5 := by kernel_rfl
theorem slice58h (p h : Nat) (hh : h ≤ 72) (w : World) : (Instr.sliceAt 151 (.pointer (some ⟨p, 0, none⟩)) none (some (.int .u64 h)) none).run Tryz.prog w = .ok (.slice (some ⟨p, 0, none⟩) h 72) w := by
  rw [run_sliceAt_array_h w 151 ⟨p, 0, none⟩ u58 .u64 h (by omega) (by rw [al58]; omega), el58, al58, size8]
  simp [slicedAt, Addr.add]

set_option maxRecDepth 100000 in
set_option maxHeartbeats 2000000 in
theorem pad_any (w : World) (p : Nat) (bs : List Int) (hT : Tabs w) (h : HS w p bs) (hp2 : 2 ≤ p) (hl : bs.length + 72 < 18446744073709551616) :
    Calls Tryz.prog 100 #[.pointer (some ⟨p, 0, none⟩)] w fun e w' => (∃ v, e = .returned v) ∧ HS w' p (bs ++ padL bs.length) ∧ w.grownBy w' (some p) := by
  have h2 := hT.two
  have hp := h.lt
  obtain ⟨B, hB, eB⟩ := h
  have HH : Hid (HS w p bs) := ⟨B, hB, eB⟩
  have c1 := hB.count
  clear hB eB
  obtain ⟨m, hm⟩ : ∃ m, m = bs.length := ⟨_, rfl⟩
  have HM : Hid (m = bs.length) := hm
  rw [← hm] at c1 hl
  clear hm
  have he := pe_le m
  have hcase : (8 < 64 - (m : Int) % 64 ∧ 64 - (m : Int) % 64 = ((pe m : Nat) : Int)) ∨ (64 - (m : Int) % 64 ≤ 8 ∧ 64 - (m : Int) % 64 + 64 = ((pe m : Nat) : Int)) := by
    unfold pe
    split <;> omega
  obtain ⟨e, hee⟩ : ∃ e, e = pe m := ⟨_, rfl⟩
  obtain ⟨L, hL⟩ : ∃ L, L = m * 8 % 18446744073709551616 := ⟨_, rfl⟩
  have HL : Hid (IntKind.u64.wrap ((m : Int) * 8) = (L : Int)) := by
    show _ = _
    rw [IntKind.wrap_u64, hL]
    omega
  have HP : Hid (padL m = (tl e L 8).take e) := by rw [hee, hL]; rfl
  rw [← hee] at he hcase
  clear hee hL
  rcases hcase with ⟨hc, ec⟩ | ⟨hc, ec⟩
  all_goals
    go_enter Tryz.func100, Tryz.ntmps100
    go_wp2_with (refine wpList_alloc_named rfl 2 rfl 151 rfl w.heap.size rfl _ 72 z58 ?_; intro w1 a1 s1 g1; have B1 : Below w.heap.size w w1 := (Below.refl _ w).grown g1 (Nat.le_refl _) (by simp); have A1 : Arr w1 w.heap.size 151 (bv (List.replicate 72 0)) := a1; clear g1 a1; have d1 := A1.cell 0; have d2 := A1.free 0; have d3 := (B1.cell (p := ⟨p, 72, none⟩) hp).trans c1; simp only [bv, List.map_replicate, List.getElem?_replicate, Nat.zero_lt_succ, if_true] at d1)
    clear ec
    have A2 := A1.set 0 (.int .u8 128)
    have e2 : (bv (List.replicate 72 0)).set 0 (.int .u8 128) = bv (tl e L 0) := by rw [tl_zero]; rfl
    rw [e2] at A2
    have B2 : Below w.heap.size w (w1.setCell ⟨w.heap.size, 0, none⟩ (.int .u8 128)) := B1.setCell (Nat.le_refl _) _
    have s2 : (w1.setCell ⟨w.heap.size, 0, none⟩ (.int .u8 128)).heap.size = w.heap.size + 1 := by simpa using s1
    clear e2 d1 d2 d3 A1 B1 s1
    generalize w1.setCell ⟨w.heap.size, 0, none⟩ (.int .u8 128) = w2 at A2 B2 s2
    go_loopw [22] (fun i wr => ∃ k : Nat, k ≤ 8 ∧ i = .int .u64 k ∧ Below w.heap.size w wr ∧ Arr wr w.heap.size 151 (bv (tl e L k)) ∧ wr.heap.size = w.heap.size + 1) (fun i _ => 8 - (intOf i).toNat)
    case atStart => exact ⟨0, by omega, rfl, B2, A2, s2⟩
    case round =>
      obtain ⟨k, hk, rfl, B3, A3, s3⟩ := hrel
      by_cases hlt : k < 8
      · have hki : (k : Int) < 8 := by omega
        have i1 : ((e : Int) - 1 - k).toNat = e - 1 - k := by omega
        have i2 : 0 ≤ ((e : Int) - 1 - k) := by omega
        have i3 : ((e : Int) - 1 - k) < 72 := by omega
        have i4 : 0 ≤ ((e : Int) - 1) := by omega
        have c3 := A3.cell (e - 1 - k)
        rw [bv_get _ _ (by rw [tl_len]; omega)] at c3
        have f3 := A3.free (e - 1 - k)
        go_wp2
        go_roundw
        case rel =>
          rw [HL.out]
          have ev : (L : Int) / 2 ^ (8 * k) % 256 = ((L / 2 ^ (8 * k) % 256 : Nat) : Int) := by simp
          rw [ev]
          refine ⟨k + 1, by omega, by go_num, B3.setCell (Nat.le_refl _) _, ?_, by simpa using s3⟩
          have := A3.set (e - 1 - k) (.int .u8 ((L / 2 ^ (8 * k) % 256 : Nat) : Int))
          rw [bv_set, tl_succ e L k hlt he.1] at this
          exact this
        case measure => simp [intOf]; omega
      · obtain rfl : k = 8 := by omega
        have T3 := hT.below B3 h2
        have h3 := HH.out.below B3 hp
        have S3 : Sl wr (some ⟨w.heap.size, 0, none⟩) e 72 ((tl e L 8).take e) := by
          refine ⟨by simp [tl_len]; omega, he.2, by unfold maxLen; omega, fun h => by simp at h, fun a ha i hi => ?_, (tl_byte e L 8).take e⟩
          obtain rfl := Option.some.inj ha
          rw [add_at, Nat.zero_add, A3.cell, bv_get _ _ (by rw [tl_len]; omega)]
          simp [List.getD, hi]
        have hsl := slice58h w.heap.size e he.2
        go_wp2_with (go_at_call 74; refine (add_any wr p bs _ e 72 _ T3 h3 hp2 S3 (fun a ha _ => by obtain rfl := Option.some.inj ha; show w.heap.size ≠ p; omega) (by have := HM.out; rw [S3.len]; omega)).mono ?_; rintro e5 w5 ⟨⟨v, rfl⟩, h5, g5⟩)
        go_end0
        refine ⟨⟨_, rfl⟩, ?_, gro_trans (bel_grown B3 _) g5⟩
        have hm := HM.out
        rw [← hm, HP.out]
        exact h5
end Go.Proofs.YtnicnfjickknjaaGreatDoor

namespace Go.Proofs.YtnicnfjickknjaaGreatDoor
open Go.RowKit

/-- A word's four bytes, the highest first. -/
def b4 (x : Int) : List Int := [x / 16777216 % 256, x / 65536 % 256, x / 256 % 256, x % 256]
/-- The words of all that came. -/
def wds (bs : List Int) : List Int := part H0 (AA (bs ++ padL bs.length) ((bs ++ padL bs.length).length / 64)) 8
/-- The sum of some bytes. -/
def sumL (bs : List Int) : List Int := (wds bs).flatMap b4
def outL (X : List Int) (i : Nat) : List Int := (X.take i).flatMap b4
theorem b4_len (x : Int) : (b4 x).length = 4 := rfl
theorem b4_byte (x : Int) : Byt (b4 x) := by
  intro y hy
  simp only [b4, List.mem_cons, List.not_mem_nil, or_false] at hy
  omega
theorem outL_succ (X : List Int) (i : Nat) (h : i < X.length) : outL X (i + 1) = outL X i ++ b4 (X.getD i 0) := by
  have e : X.getD i 0 = X[i] := by simp [List.getD, h]
  unfold outL
  rw [List.take_add_one, List.getElem?_eq_getElem h, List.flatMap_append, e]
  simp only [Option.toList_some, List.flatMap_cons, List.flatMap_nil, List.append_nil]
theorem outL_len (X : List Int) (i : Nat) (h : i ≤ X.length) : (outL X i).length = 4 * i := by
  induction i with
  | zero => rfl
  | succ i ih => rw [outL_succ X i (by omega), List.length_append, ih (by omega), b4_len]; omega
theorem outL_byte (X : List Int) (i : Nat) : Byt (outL X i) := by
  intro x hx
  simp only [outL, List.mem_flatMap] at hx
  obtain ⟨y, _, hy⟩ := hx
  exact b4_byte y x hy
theorem wds_len (bs : List Int) : (wds bs).length = 8 := part_len _ _ _
theorem outL_all (bs : List Int) : outL (wds bs) 8 = sumL bs := by
  unfold outL sumL
  rw [List.take_of_length_le (by rw [wds_len]; omega)]
theorem sumL_len (bs : List Int) : (sumL bs).length = 32 := by rw [← outL_all, outL_len _ _ (by rw [wds_len]; omega)]
theorem sumL_byte (bs : List Int) : Byt (sumL bs) := by rw [← outL_all]; exact outL_byte _ _

theorem z51 : (Tryz.prog.info? 133).map (fun i => (i.zero, i.size)) = some (some (.agg (hv (List.replicate 8 0) (List.replicate 64 0) 0).toArray), 73) := by kernel_rfl
theorem a51 : (Tryz.prog.info? 133).map (·.size) = some 73 := by kernel_rfl
theorem g51 (w : World) : (isAgg 133).run Tryz.prog w = .ok true w := by
  simp [isAgg, run_underlying Tryz.underlying133 w]
theorem hv_len (A B : List Int) (n : Nat) (hA : A.length = 8) (hB : B.length = 64) : (hv A B n).length = 73 := by simp [hv, wv, bv, hA, hB]
theorem hv_one (A B : List Int) (n : Nat) : ∀ u ∈ hv A B n, u.oneCell' = true := by
  intro u hu
  simp only [hv, List.mem_append, List.mem_singleton] at hu
  rcases hu with (hu | hu) | rfl
  · exact wv_one A u hu
  · exact bv_one B u hu
  · rfl

set_option maxRecDepth 100000 in
set_option maxHeartbeats 1000000 in
/-- New: a hash of nothing, in a new block. -/
theorem new_any (w : World) : Calls Tryz.prog 73 #[] w fun e w' => e = .returned (.pointer (some ⟨w.heap.size, 0, none⟩)) ∧ HS w' w.heap.size [] ∧ w.grownBy w' none := by
  go_enter Tryz.func73, Tryz.ntmps73
  go_wp2_with (refine wpList_alloc_named rfl 1 rfl 133 rfl w.heap.size rfl _ 73 z51 ?_; intro w1 a1 s1 g1)
  go_ret
  refine ⟨rfl, ⟨List.replicate 64 0, ⟨?_, by simp [AA], by simp, ?_, by simp⟩, rfl⟩, g1⟩
  · exact a1
  · intro x hx
    obtain ⟨_, rfl⟩ := List.mem_replicate.1 hx
    omega

/-- A nil hash's sum is nothing. -/
theorem hsum_nil (w : World) : Calls Tryz.prog 77 #[.pointer none] w fun e w' => e = .returned (.slice none 0 0) ∧ w' = w := by
  go_enter Tryz.func77, Tryz.ntmps77
  go_wp2
  go_ret
  exact ⟨rfl, rfl⟩

theorem words_hs (w : World) (p : Nat) (bs : List Int) (hT : Tabs w) (h : HS w p bs) :
    Calls Tryz.prog 101 #[.pointer (some ⟨p, 0, none⟩)] w fun e w' => e = .returned (.agg (wv (part H0 (AA bs (bs.length / 64)) 8)).toArray) ∧ Below w.heap.size w w' := by
  obtain ⟨B, hB, _⟩ := h
  exact words_any w p _ B _ hT hB

set_option maxRecDepth 100000 in
set_option maxHeartbeats 2000000 in
theorem hsum_any (w : World) (p : Nat) (bs : List Int) (hT : Tabs w) (h : HS w p bs) (hl : bs.length + 72 < 18446744073709551616) :
    Calls Tryz.prog 77 #[.pointer (some ⟨p, 0, none⟩)] w fun e w' => ∃ v, e = .returned v ∧ w'.ownsRow w.heap.size 5 1 v 32 (bv (sumL bs)) ∧ Below w.heap.size w w' := by
  obtain ⟨i0, hi, hz0, hz1, hz2⟩ := info_parts u8info
  have h2 := hT.two
  have hp := h.lt
  obtain ⟨B, hB, eB⟩ := h
  obtain ⟨A, hA⟩ : ∃ A, A = AA bs (bs.length / 64) := ⟨_, rfl⟩
  rw [← hA] at hB
  have HA : Hid (A = AA bs (bs.length / 64)) := hA
  clear hA
  go_enter Tryz.func77, Tryz.ntmps77
  go_wp2_with (first
    | (refine wpList_load_cells rfl 133 (Operand.tmp 10) rfl ⟨p, 0, none⟩ rfl (hv A B bs.length) (fun j v hv' => by rw [add_at, Nat.zero_add, Arr.cell hB.heap]; exact hv') g51 (a51.trans (by rw [hv_len _ _ _ hB.lenA hB.lenB])) ?_)
    | (refine wpList_alloc_named rfl 3 rfl 133 rfl w.heap.size rfl _ 73 z51 ?_; intro w1 a1 s1 g1; have B1 : Below w.heap.size w w1 := (Below.refl _ w).grown g1 (Nat.le_refl _) (by simp); clear g1)
    | (refine wpList_store_named rfl 133 (Operand.tmp 3) _ rfl w.heap.size (hv A B bs.length) rfl rfl 133 _ a1 _ s1 (a51.trans (by rw [hv_len _ _ _ hB.lenA hB.lenB])) (by rw [hv_len _ _ _ hB.lenA hB.lenB]; rfl) (hv_one _ _ _) ?_; intro w2 a2 s2 g2; have B2 : Below w.heap.size w w2 := B1.grown g2 (by omega) (by intro k hk; cases hk; omega); have T2 := hT.below B2 h2; have H2 : HS w2 w.heap.size bs := ⟨B, by rw [← HA.out]; exact ⟨a2, hB.lenA, hB.lenB, hB.byte, hB.size⟩, eB⟩; clear g2 a2 B1 a1 s1)
    | (go_at_call 100; refine (pad_any w2 w.heap.size bs T2 H2 h2 hl).mono ?_; rintro e w3 ⟨⟨v, rfl⟩, H3, g3⟩; have B3 : Below w.heap.size w w3 := B2.grown g3 (by omega) (by intro k hk; cases hk; omega); have T3 := hT.below B3 h2; have s3 := g3.size; clear g3 B2 H2 T2)
    | (at_make; refine wpList_make_own _ rfl _ _ 25 rfl w.heap.size 5 i0 (.int .u8 0) 1 Tryz.underlying25 hi hz0 hz1 _ _ _ 32 rfl rfl rfl (by rw [hz2]; decide) (by decide) (by omega) ?_; intro w4 own4 g4; have B4 : Below w.heap.size w w4 := B3.grown g4 (by omega) (by simp); have T4 := hT.below B4 h2; have H4 : HS w4 w.heap.size (bs ++ padL bs.length) := H3.grown g4 (by simp); have s4 := g4.size; clear g4 B3 H3 T3))
  refine (words_hs w4 w.heap.size _ T4 H4).mono ?_
  rintro e w5 ⟨rfl, B5⟩
  have C5 : Below w.heap.size w w5 := B4.trans (B5.mono (by omega))
  have own5 : w5.ownsRow w.heap.size 5 1 (.slice (some ⟨w3.heap.size, 0, none⟩) 0 32) 0 (bv (outL (wds bs) 0)) := own4.kept (bel_grown B5 none) (by simp [Value.ownBlock])
  have eW : part H0 (AA (bs ++ padL bs.length) ((bs ++ padL bs.length).length / 64)) 8 = wds bs := rfl
  rw [eW]
  have hWl := wds_len bs
  have hs5 : w.heap.size ≤ w5.heap.size := C5.size
  generalize Value.slice (some ⟨w3.heap.size, 0, none⟩) 0 32 = v0 at own5
  have HWE : Hid (outL (wds bs) 8 = sumL bs) := outL_all bs
  generalize wds bs = X at own5 hWl HWE
  clear eW B5 B4 T4 H4 own4 hB eB HA s2 s3 s4
  go_wp2
  go_loopw [4, 15] (fun v i wr => ∃ k : Nat, k ≤ 8 ∧ i = .int .i64 k ∧ Below w.heap.size w wr ∧ wr.ownsRow w.heap.size 5 1 v (4 * k) (bv (outL X k))) (fun _ i _ => 8 - (intOf i).toNat)
  case atStart => exact ⟨0, by omega, rfl, C5, own5⟩
  case round =>
    obtain ⟨k, hk, rfl, B6, own6⟩ := hrel
    have hs6 := B6.size
    by_cases hlt : k < 8
    · have hki : (k : Int) < 8 := by omega
      have hx := index48 X k hWl hlt
      obtain ⟨x, hx'⟩ : ∃ x, x = X.getD k 0 := ⟨_, rfl⟩
      have HX : Hid (x = X.getD k 0) := hx'
      rw [← hx'] at hx
      clear hx'
      go_wp2_with (at_builtin; refine wpList_app rfl _ _ rfl w.heap.size _ (4 * k) (outL X k) rfl (own6.alloc _) _ 4 4 (b4 x) rfl (Sl.new wr (b4 x) (b4_byte x) (by simp [b4, maxLen])) (by omega) (by simp; omega) ?_; intro v7 w7 own7 C7)
      go_roundw
      case rel =>
        refine ⟨k + 1, by omega, by go_num, (B6.alloc hs6 _).trans C7, ?_⟩
        rw [outL_succ X k (by omega), ← HX.out, Nat.mul_add]
        exact own7
      case measure => simp [intOf]; omega
    · obtain rfl : k = 8 := by omega
      go_wp2
      go_ret
      refine ⟨_, rfl, ?_, B6⟩
      rw [← HWE.out]
      exact own6
end Go.Proofs.YtnicnfjickknjaaGreatDoor

namespace Go.Proofs.YtnicnfjickknjaaGreatDoor
open Go.RowKit

/-- A part: where it lies, its length and capacity, its bytes. -/
structure Part where
  ao : Option Addr
  n : Nat
  cap : Nat
  xs : List Int
def Part.val (q : Part) : Value := .slice q.ao q.n q.cap
/-- The cells from a on hold these parts. -/
def Pts (w : World) (a : Addr) (ps : List Part) : Prop := ∀ i (h : i < ps.length), w.cell? (a.add i) = some ps[i].val ∧ Sl w ps[i].ao ps[i].n ps[i].cap ps[i].xs
def allB (ps : List Part) : List Int := ps.flatMap Part.xs
theorem allB_take (ps : List Part) (k : Nat) (h : k < ps.length) : allB (ps.take (k + 1)) = allB (ps.take k) ++ ps[k].xs := by
  unfold allB
  rw [List.take_add_one, List.getElem?_eq_getElem h, List.flatMap_append]
  simp only [Option.toList_some, List.flatMap_cons, List.flatMap_nil, List.append_nil]
theorem allB_le (ps : List Part) (k : Nat) : (allB (ps.take k)).length ≤ (allB ps).length := by
  have : ps = ps.take k ++ ps.drop k := (List.take_append_drop k ps).symm
  have e : allB ps = allB (ps.take k) ++ allB (ps.drop k) := by
    unfold allB
    rw [← List.flatMap_append, List.take_append_drop]
  rw [e, List.length_append]
  omega
theorem Pts.below {w w' : World} {a : Addr} {ps : List Part} (h : Pts w a ps) (hb : Below w.heap.size w w') : Pts w' a ps := by
  intro i hi
  obtain ⟨h1, h2⟩ := h i hi
  exact ⟨(hb.cell (World.block_lt_of_cell? w _ h1)).trans h1, h2.below hb⟩

theorem own_base {w : World} {base base' : Nat} {e : TypeId} {size : Nat} {v : Value} {n : Nat} {xs : List Value} (h : w.ownsRow base e size v n xs) (hb : base' ≤ base) : w.ownsRow base' e size v n xs := by
  refine ⟨h.1, ?_⟩
  rcases h.2 with h | ⟨g, cap, cur, h1, h2, h3⟩
  · exact .inl h
  · exact .inr ⟨g, cap, cur, h1, Nat.le_trans hb h2, h3⟩

end Go.Proofs.YtnicnfjickknjaaGreatDoor

namespace Go.Proofs.YtnicnfjickknjaaGreatDoor
open Go.RowKit


/-- The slice at ao, of n slices of bytes, reads as the parts ps. -/
structure PL (w : World) (ao : Option Addr) (n cap : Nat) (ps : List Part) : Prop where
  len : ps.length = n
  le : n ≤ cap
  mx : cap ≤ maxLen
  nil : ao = none → n = 0
  cell : ∀ a, ao = some a → ∀ i (h : i < ps.length), w.cell? (a.add i) = some ps[i].val
  sl : ∀ q ∈ ps, Sl w q.ao q.n q.cap q.xs

theorem PL.nothing (w : World) : PL w none 0 0 [] := ⟨rfl, Nat.le_refl _, Nat.zero_le _, fun _ => rfl, fun _ h => by simp at h, fun _ h => by simp at h⟩

theorem PL.make {w : World} {a : Addr} {n cap : Nat} (hl : n ≤ cap) (hm : cap ≤ maxLen) (h : ∀ i, i < n → ∃ q : Part, w.cell? (a.add i) = some q.val ∧ Sl w q.ao q.n q.cap q.xs) : ∃ ps, PL w (some a) n cap ps := by
  have : Inhabited Part := ⟨⟨none, 0, 0, []⟩⟩
  obtain ⟨z, hz⟩ := Deep.choose_lt h
  refine ⟨(List.range n).map z, by simp, hl, hm, fun h => by simp at h, fun b hb i hi => ?_, fun q hq => ?_⟩
  · obtain rfl := Option.some.inj hb
    have hi' : i < n := by simpa using hi
    simpa using (hz i hi').1
  · obtain ⟨i, hi, rfl⟩ := List.mem_map.1 hq
    exact (hz i (List.mem_range.1 hi)).2

theorem PL.below {w w' : World} {ao : Option Addr} {n cap : Nat} {ps : List Part} (h : PL w ao n cap ps) (hb : Below w.heap.size w w') : PL w' ao n cap ps :=
  ⟨h.len, h.le, h.mx, h.nil, fun a ha i hi => by have hc := h.cell a ha i hi; rw [← hc]; exact hb.cell (World.block_lt_of_cell? w _ hc), fun q hq => (h.sl q hq).below hb⟩

/-- Where an element is read the slice has an address without a spot. -/
theorem PL.at {w : World} {ao : Option Addr} {n cap : Nat} {ps : List Part} (h : PL w ao n cap ps) (hn : 0 < n) :
    ∃ b off, ao = some ⟨b, off, none⟩ ∧ ∀ i (hi : i < ps.length), w.cell? ⟨b, off + i, none⟩ = some ps[i].val := by
  have hl := h.len
  cases ao with
  | none => have := h.nil rfl; omega
  | some a =>
    obtain ⟨b, off, spot⟩ := a
    have hc := h.cell _ rfl 0 (by omega)
    have hs : spot = none := by simpa [Addr.add] using World.cell?_spot hc
    subst hs
    exact ⟨b, off, rfl, fun i hi => by have := h.cell _ rfl i hi; rw [Addr.add_lit] at this; exact this⟩

theorem allB_short (ps : List Part) (k : Nat) (hk : ps.length ≤ k) (h : ∀ q ∈ ps, q.xs.length ≤ 200) : (allB ps).length ≤ 200 * k := by
  induction ps generalizing k with
  | nil => simp [allB]
  | cons q ps ih =>
    cases k with
    | zero => simp at hk
    | succ k =>
      have h1 := ih k (by simpa using hk) (fun q hq => h q (List.mem_cons_of_mem _ hq))
      have h2 := h q (List.mem_cons_self ..)
      have e : allB (q :: ps) = q.xs ++ allB ps := by simp [allB]
      rw [e, List.length_append]
      omega

end Go.Proofs.YtnicnfjickknjaaGreatDoor

namespace Go.Proofs.YtnicnfjickknjaaGreatDoor
open Go.RowKit

/-- The slice at ao, of n values of one cell each, up to cap, holds vs. -/
structure VL (w : World) (ao : Option Addr) (n cap : Nat) (vs : List Value) : Prop where
  len : vs.length = n
  le : n ≤ cap
  mx : cap ≤ maxLen
  nil : ao = none → n = 0 ∧ cap = 0
  cell : ∀ a, ao = some a → ∀ i (h : i < vs.length), w.cell? (a.add i) = some vs[i]

section
variable {w w' : World} {ao : Option Addr} {n cap : Nat} {vs : List Value}
theorem VL.below (h : VL w ao n cap vs) (hb : Below w.heap.size w w') : VL w' ao n cap vs :=
  ⟨h.len, h.le, h.mx, h.nil, fun a ha i hi => by have hc := h.cell a ha i hi; rw [← hc]; exact hb.cell (World.block_lt_of_cell? w _ hc)⟩
theorem VL.at (h : VL w ao n cap vs) (hn : 0 < n) : ∃ b off, ao = some ⟨b, off, none⟩ ∧ ∀ i (hi : i < vs.length), w.cell? ⟨b, off + i, none⟩ = some vs[i] := by
  have hl := h.len
  cases ao with
  | none => have := (h.nil rfl).1; omega
  | some a =>
    obtain ⟨b, off, spot⟩ := a
    have hc := h.cell _ rfl 0 (by omega)
    have hs : spot = none := by simpa [Addr.add] using World.cell?_spot hc
    subst hs
    exact ⟨b, off, rfl, fun i hi => by have := h.cell _ rfl i hi; rw [Addr.add_lit] at this; exact this⟩
theorem VL.cells (h : VL w ao n cap vs) : ∀ a, ao = some a → ∀ j u, vs[j]? = some u → w.cell? (a.add j) = some u := fun a ha j u hu => by
  obtain ⟨hj, rfl⟩ := List.getElem?_eq_some_iff.1 hu
  exact h.cell a ha j hj
theorem VL.nothing (w : World) : VL w none 0 0 [] := ⟨rfl, Nat.le_refl _, Nat.zero_le _, fun _ => ⟨rfl, rfl⟩, fun _ h => by simp at h⟩
/-- The first i, and no room behind them. -/
theorem VL.front (h : VL w ao n cap vs) (i c : Nat) (hi : i ≤ n) (hc : i ≤ c) (hcc : c ≤ cap) : VL w ao i c (vs.take i) := by
  have h1 := h.len
  have h2 := h.mx
  refine ⟨by simp; omega, hc, by omega, fun hn => ?_, fun a ha j hj => ?_⟩
  · have := h.nil hn
    omega
  · simp only [List.length_take] at hj
    rw [h.cell a ha j (by omega), List.getElem_take]
/-- Those from j on. -/
theorem VL.back {a : Addr} (h : VL w (some a) n cap vs) (j : Nat) (hj : j ≤ n) : VL w (some (if cap = j then a else a.add j)) (n - j) (cap - j) (vs.drop j) := by
  have h1 := h.len
  have h2 := h.mx
  have h3 := h.le
  refine ⟨by simp; omega, by omega, by omega, fun hn => by simp at hn, fun b hb i hi => ?_⟩
  have hb' := Option.some.inj hb
  simp only [List.length_drop] at hi
  by_cases hcj : cap = j
  · omega
  · rw [if_neg hcj] at hb'
    have hc := h.cell a rfl (j + i) (by omega)
    rw [← hb', Addr.add_add, hc, List.getElem_drop]
theorem VL.own {base : Nat} {e : TypeId} {v : Value} (h : w.ownsRow base e 1 v n vs) : ∃ ao cap, v = .slice ao n cap ∧ VL w ao n cap vs ∧ ∀ a, ao = some a → base ≤ a.block ∧ a.block < w.heap.size ∧ a.off = 0 ∧ a.spot = none := by
  have hl : vs.length = n := by have := h.1; omega
  rcases h.2 with ⟨rfl, rfl⟩ | ⟨g, cap, cur, rfl, hg, hh, hle, hmx, hcs, htk⟩
  · obtain rfl : vs = [] := List.eq_nil_of_length_eq_zero hl
    exact ⟨none, 0, rfl, VL.nothing w, fun a ha => by simp at ha⟩
  · refine ⟨some ⟨g, 0, none⟩, cap, rfl, ⟨hl, hle, hmx, fun h => by simp at h, fun a ha i hi => ?_⟩, fun a ha => ?_⟩
    · obtain rfl := Option.some.inj ha
      exact h.cells (g := g) rfl i _ (List.getElem?_eq_getElem hi)
    · obtain rfl := Option.some.inj ha
      exact ⟨hg, (Array.getElem?_eq_some_iff.1 hh).1, rfl, rfl⟩
/-- Values laid in a new block. -/
theorem VL.new (w : World) (vs : List Value) (t : TypeId) (hn : vs.length ≤ maxLen) : VL (w.alloc (.cells vs.toArray t)) (some ⟨w.heap.size, 0, none⟩) vs.length vs.length vs := by
  refine ⟨rfl, Nat.le_refl _, hn, fun h => by simp at h, fun a ha i hi => ?_⟩
  obtain rfl := Option.some.inj ha
  rw [Addr.add_lit, Nat.zero_add, cell_of_row _ w.heap.size i vs.toArray t (0, 0) (heap_alloc_new w _)]
  simp
end

/-- What may be appended to without a look at others: a slice without room, or the call's own row. -/
def Apd (w : World) (base : Nat) (e : TypeId) (v : Value) (n : Nat) (vs : List Value) : Prop :=
  (∃ ao, v = .slice ao n n ∧ VL w ao n n vs) ∨ w.ownsRow base e 1 v n vs
theorem Apd.vl {w : World} {base : Nat} {e : TypeId} {v : Value} {n : Nat} {vs : List Value} (h : Apd w base e v n vs) : ∃ ao cap, v = .slice ao n cap ∧ VL w ao n cap vs := by
  rcases h with ⟨ao, rfl, h⟩ | h
  · exact ⟨ao, n, rfl, h⟩
  · obtain ⟨ao, cap, rfl, h, -⟩ := VL.own h
    exact ⟨ao, cap, rfl, h⟩
theorem src_none {P : Program} {w : World} {t e : TypeId} {i : TypeInfo} {bo : Option Addr} {c : Nat} (ht : P.underlying t = some (.slice e)) : Src P i.size t (.slice bo 0 c) 0 [] w := by
  refine ⟨.inl ⟨e, ht⟩, fun w' => rfl, ?_, ?_, by simp, by simp⟩ <;> cases bo <;> simp [Builtin.firstCells] <;> rfl
/-- append. -/
theorem run_apd {P : Program} {w : World} {base : Nat} {t ty e : TypeId} {i : TypeInfo} {z : Value} {bytes : Nat} {v : Value} {n : Nat} {vs : List Value} (ht : P.underlying t = some (.slice e)) (hi : P.info? e = some i) (hz : i.zero = some z)
    (hsize : i.size = 1) (hby : i.bytes = bytes) (hzs : z.cells.size = 1) (h : Apd w base e v n vs) (hbase : base ≤ w.heap.size) {bo : Option Addr} {m c : Nat} {ys : List Value} (hx : VL w bo m c ys) (h1 : ∀ u ∈ ys, u.oneCell' = true)
    (hb : (n + m) * bytes ≤ 140737488355328) (hb1 : 0 < bytes) :
    ∃ v' w', (Builtin.append_ #[t, t] ty #[v, .slice bo m c]).run P w = .ok v' w' ∧ Apd w' base e v' (n + m) (vs ++ ys) ∧ Below base w w' := by
  have hlen := hx.len
  have h63 : n + m ≤ maxLen := by
    have : n + m ≤ (n + m) * bytes := Nat.le_mul_of_pos_right _ hb1
    unfold maxLen
    omega
  by_cases hm : m = 0
  · subst hm
    obtain rfl : ys = [] := List.eq_nil_of_length_eq_zero hlen
    obtain ⟨ao, cap, rfl, hv⟩ := h.vl
    refine ⟨_, w, run_append_nothing w t t ty e i ht hi ao n cap hv.le _ (src_none ht), ?_, Below.refl _ _⟩
    simpa using h
  · obtain ⟨ad, rfl⟩ : ∃ ad, bo = some ad := by
      cases bo with
      | none => have := (hx.nil rfl).1; omega
      | some ad => exact ⟨ad, rfl⟩
    rcases h with ⟨ao, rfl, hv⟩ | hown
    · cases ao with
      | some b =>
        obtain ⟨v', w', hr, h2, h3⟩ := run_append_arg_grows (P := P) w t ty e i z 1 bytes ht hi hz hsize hby hzs (by decide) b n n vs (by have := hv.len; omega) (hv.cells b rfl) ad m c ys (by omega) (hx.cells ad rfl) (by omega) h63 hb
        exact ⟨v', w', hr, .inr (own_base h2 hbase), (Below.refl _ w).grown h3 hbase (by simp)⟩
      | none =>
        obtain ⟨rfl, -⟩ := hv.nil rfl
        obtain rfl : vs = [] := List.eq_nil_of_length_eq_zero hv.len
        obtain ⟨v', w', hr, h2, h3, -⟩ := run_append_own (P := P) w base t ty e i z 1 bytes ht hi hz hsize hby hzs (by decide) (.slice none 0 0) 0 [] (World.ownsRow_nil w _ e 1) ad m c ys (by omega) (hx.cells ad rfl) h1 h63 hb hbase
        exact ⟨v', w', hr, .inr h2, (Below.refl _ w).grown h3 hbase (by simp [Value.ownBlock])⟩
    · obtain ⟨v', w', hr, h2, h3, -⟩ := run_append_own (P := P) w base t ty e i z 1 bytes ht hi hz hsize hby hzs (by decide) v n vs hown ad m c ys (by omega) (hx.cells ad rfl) h1 h63 hb hbase
      exact ⟨v', w', hr, .inr h2, (Below.refl _ w).grown h3 hbase (fun k hk => (hown.lt k hk).1)⟩

/-- Slices of slices of bytes: cells that hold the parts' values, and each part reads as its bytes. -/
structure KL (w : World) (ao : Option Addr) (n cap : Nat) (ps : List Part) : Prop where
  vl : VL w ao n cap (ps.map Part.val)
  sl : ∀ q ∈ ps, Sl w q.ao q.n q.cap q.xs
theorem KL.below {w w' : World} {ao : Option Addr} {n cap : Nat} {ps : List Part} (h : KL w ao n cap ps) (hb : Below w.heap.size w w') : KL w' ao n cap ps :=
  ⟨h.vl.below hb, fun q hq => (h.sl q hq).below hb⟩
theorem KL.len {w : World} {ao : Option Addr} {n cap : Nat} {ps : List Part} (h : KL w ao n cap ps) : ps.length = n := by simpa using h.vl.len
theorem KL.pl {w : World} {ao : Option Addr} {n cap : Nat} {ps : List Part} (h : KL w ao n cap ps) : PL w ao n cap ps :=
  ⟨h.len, h.vl.le, h.vl.mx, fun e => (h.vl.nil e).1, fun a ha i hi => by have := h.vl.cell a ha i (by simpa using hi); simpa using this, h.sl⟩
theorem part_one (ps : List Part) : ∀ u ∈ ps.map Part.val, u.oneCell' = true := fun u hu => by
  obtain ⟨q, -, rfl⟩ := List.mem_map.1 hu
  rfl
end Go.Proofs.YtnicnfjickknjaaGreatDoor

namespace Go.Proofs.YtnicnfjickknjaaGreatDoor
open Go.RowKit

set_option maxHeartbeats 400000 in
theorem withRoom_any (w : World) (ao : Option Addr) (n cap r : Nat) (xs : List Int) (h : Sl w ao n cap xs) (hr : n + r ≤ 140737488355328) :
    Calls Tryz.prog 99 #[.slice ao n cap, .int .i64 r] w fun e w' =>
      e = .returned (.slice (some ⟨w.heap.size, 0, none⟩) n (n + r)) ∧ w'.ownsRow w.heap.size 5 1 (.slice (some ⟨w.heap.size, 0, none⟩) n (n + r)) n (bv xs) ∧ Below w.heap.size w w' := by
  obtain ⟨i0, hi, hz0, hz1, hz2⟩ := info_parts u8info
  have hl := h.len
  have hnil := h.nil
  have hcells := h.cells
  go_enter Tryz.func99, Tryz.ntmps99
  go_wp2_with (first | (at_make; refine wpList_make_own _ rfl _ _ 25 rfl w.heap.size 5 i0 (.int .u8 0) 1 Tryz.underlying25 hi hz0 hz1 _ _ _ (n + r) rfl rfl (by omega) (by rw [hz2]; omega) (by unfold maxLen; omega) (Nat.le_refl _) ?_; intro w1 hown1 hgrow1) | (at_builtin; refine wpList_append_fits_any _ rfl _ _ 25 rfl w.heap.size 5 i0 1 Tryz.underlying25 hi hz1 w.heap.size 0 (n + r) [] rfl hown1 ao n cap (bv xs) rfl (by rw [bv_length]; omega) hnil (fun ad had j u hu => hgrow1.cell (hcells ad had j u hu) (by simp)) (bv_one xs) (by omega) ?_; intro w2 hown2 hgrow2; simp only [Nat.zero_add, List.nil_append] at hown2) | fail)
  have hb : Below w.heap.size w w2 := ((Below.refl _ w).grown hgrow1 (Nat.le_refl _) (fun k hk => by simp at hk)).grown hgrow2 hgrow1.size (fun k hk => by simp at hk; omega)
  go_ret
  exact ⟨rfl, hown2, hb⟩
end Go.Proofs.YtnicnfjickknjaaGreatDoor

namespace Go.Proofs.YtnicnfjickknjaaGreatDoor
open Go.RowKit

theorem own_snoc {w : World} {base : Nat} {v : Value} {k : Nat} {xs ys : List Int} {c : Int} (h : w.ownsRow base 5 1 v (k + ys.length + 1) (bv (xs ++ ys) ++ [.int .u8 c])) :
    w.ownsRow base 5 1 v (k + (ys ++ [c]).length) (bv (xs ++ (ys ++ [c]))) := by
  have e : bv (xs ++ (ys ++ [c])) = bv (xs ++ ys) ++ [.int .u8 c] := by simp [bv]
  have l : k + (ys ++ [c]).length = k + ys.length + 1 := by simp; omega
  rw [e, l]
  exact h

set_option maxHeartbeats 800000 in
set_option maxRecDepth 100000 in
theorem putNumber_any (w : World) (base : Nat) (v : Value) (k n : Nat) (xs : List Int) (hn : n < 18446744073709551616) (hk : k + 20 ≤ 140737488355328) (hbase : base ≤ w.heap.size) (hown : w.ownsRow base 5 1 v k (bv xs)) :
    Calls Tryz.prog 98 #[v, .int .u64 n] w fun e w' =>
      ∃ v', e = .returned v' ∧ w'.ownsRow base 5 1 v' (k + (enc n).length) (bv (xs ++ enc n)) ∧ Below base w w' := by
  obtain ⟨i0, hi, hz0, hz1, hz2⟩ := info_parts u8info
  go_enter Tryz.func98, Tryz.ntmps98
  go_wp2
  refine wp_scope_label 0 (fun a' w' => Below base w w' ∧ ∃ (m : Nat) (v' u5 u6 u7 u8 u9 u10 u11 u12 u13 u14 u15 u16 u17 u18 u19 u20 : Value) (ys : List Int), a' = { tmps := #[v', .int .u64 m, undef, undef, .slice none 0 0, u5, u6, u7, u8, u9, u10, u11, u12, u13, u14, u15, u16, u17, u18, u19, u20], defers := [] } ∧ m < 18446744073709551616 ∧ ys ++ enc m = enc n ∧ ys.length + (enc m).length ≤ 10 ∧ w'.ownsRow base 5 1 v' (k + ys.length) (bv (xs ++ ys))) (fun a' _ => (intOf (a'.tmps.getD 1 undef)).toNat) ?_ ?_
  · exact ⟨Below.refl _ _, n, v, _, _, _, _, _, _, _, _, _, _, _, _, _, _, _, _, [], rfl, hn, rfl, by simpa using enc_length hn, by simpa using hown⟩
  · rintro a' w' ⟨hbel, m, v', u5, u6, u7, u8, u9, u10, u11, u12, u13, u14, u15, u16, u17, u18, u19, u20, ys, rfl, hm, hys, hy9, hown'⟩
    have hp := enc_pos m
    have hsz := hbel.size
    by_cases hlt : m < 128
    · have HY : Hid (ys ++ enc m = enc n) := hys
      clear hys
      go_wp2_with (at_builtin; refine wpList_append_own _ rfl _ _ 25 rfl base 5 i0 (.int .u8 0) 1 1 Tryz.underlying25 hi hz0 hz1 hz2 rfl (by decide) _ _ _ rfl (hown'.alloc _) ⟨w'.heap.size, 0, none⟩ 1 1 [.int .u8 m] rfl rfl (cell_one_new _ _ _) (by simp [Value.oneCell']) (by unfold maxLen; omega) (by omega) (by simp; omega) ?_; intro v2 w2 hown2 hgrow2 hn2)
      have e1 : enc m = [(m : Int)] := enc_small hlt
      have e2 := HY.out
      rw [e1] at e2
      have ho := own_snoc hown2
      rw [e2] at ho
      have hb2 : Below base w w2 := (hbel.alloc (by omega) _).grown hgrow2 (by simp; omega) (fun j hj => (hown'.lt j hj).1)
      clear hown2 hgrow2 hn2
      simp only [Exit.jump]
      go_ret
      exact ⟨v2, rfl, ho, hb2⟩
    · have HY : Hid (ys ++ enc m = enc n) := hys
      clear hys
      have ho := or128 m
      go_wp2_with (at_builtin; refine wpList_append_own _ rfl _ _ 25 rfl base 5 i0 (.int .u8 0) 1 1 Tryz.underlying25 hi hz0 hz1 hz2 rfl (by decide) _ _ _ rfl (hown'.alloc _) ⟨w'.heap.size, 0, none⟩ 1 1 [.int .u8 ((m % 128 + 128 : Nat) : Int)] rfl rfl (cell_one_new _ _ _) (by simp [Value.oneCell']) (by unfold maxLen; omega) (by omega) (by simp; omega) ?_; intro v2 w2 hown2 hgrow2 hn2)
      have e1 := enc_big (n := m) (by omega) hm
      have e2 := HY.out
      rw [e1] at e2
      have hl : (enc m).length = (enc (m / 128)).length + 1 := by rw [e1]; rfl
      have ho2 := own_snoc hown2
      have hb2 : Below base w w2 := (hbel.alloc (by omega) _).grown hgrow2 (by simp; omega) (fun j hj => (hown'.lt j hj).1)
      clear hown2 hgrow2 hn2
      go_step3
      rw [show ((m : Int) / 128) = ((m / 128 : Nat) : Int) from by omega]
      refine ⟨rfl, ⟨hb2, m / 128, v2, _, _, _, _, _, _, _, _, _, _, _, _, _, _, _, _, ys ++ [((m % 128 + 128 : Nat) : Int)], rfl, by omega, by rw [← e2]; simp, by simp; omega, ho2⟩, ?_⟩
      simp [intOf]
      omega
end Go.Proofs.YtnicnfjickknjaaGreatDoor

namespace Go.Proofs.YtnicnfjickknjaaGreatDoor
open Go.RowKit

theorem own_empty (w : World) : (w.alloc (.cells #[] 5)).ownsRow w.heap.size 5 1 (.slice (some ⟨w.heap.size, 0, none⟩) 0 0) 0 (bv []) :=
  World.ownsRow_made w #[] 0 (Nat.le_refl _) (Nat.zero_le _) rfl

set_option maxHeartbeats 400000 in
theorem wUint_any (w : World) (ao : Option Addr) (n cap m : Nat) (xs : List Int) (h : Sl w ao n cap xs) (hr : n + 30 ≤ 140737488355328) (hm : m < 18446744073709551616) :
    Calls Tryz.prog 76 #[.slice ao n cap, .int .u64 m] w fun e w' =>
      ∃ v, e = .returned v ∧ w'.ownsRow w.heap.size 5 1 v (n + (enc m).length) (bv (xs ++ enc m)) ∧ Below w.heap.size w w' := by
  go_enter Tryz.func76, Tryz.ntmps76
  go_wp2_with fail
  refine (withRoom_any w ao n cap 10 xs h (by omega)).mono ?_
  rintro e w1 ⟨rfl, hown1, hb1⟩
  have hs := hb1.size
  go_wp2_with fail
  refine (putNumber_any w1 w.heap.size _ n m xs hm (by omega) hs hown1).mono ?_
  rintro e w2 ⟨v2, rfl, hown2, hb2⟩
  have hb := hb1.trans hb2
  clear hown1 hb1 hb2
  go_wp2_with fail
  go_ret
  exact ⟨v2, rfl, hown2, hb⟩

set_option maxHeartbeats 400000 in
theorem wBytes_any (w : World) (ao bo : Option Addr) (n cap m cap2 : Nat) (xs ys : List Int) (h : Sl w ao n cap xs) (h2 : Sl w bo m cap2 ys) (hr : n + m + 60 ≤ 140737488355328) :
    Calls Tryz.prog 75 #[.slice ao n cap, .slice bo m cap2] w fun e w' =>
      ∃ v, e = .returned v ∧ w'.ownsRow w.heap.size 5 1 v (n + (enc m).length + m) (bv (xs ++ enc m ++ ys)) ∧ Below w.heap.size w w' := by
  obtain ⟨i0, hi, hz0, hz1, hz2⟩ := info_parts u8info
  go_enter Tryz.func75, Tryz.ntmps75
  go_wp2_with fail
  rw [show (10 + (m : Int)) = ((10 + m : Nat) : Int) from by omega]
  refine (withRoom_any w ao n cap (10 + m) xs h (by omega)).mono ?_
  rintro e w1 ⟨rfl, hown1, hb1⟩
  have hs := hb1.size
  go_wp2_with fail
  refine (putNumber_any w1 w.heap.size _ n m xs (by omega) (by omega) hs hown1).mono ?_
  rintro e w2 ⟨v2, rfl, hown2, hb2⟩
  have hs2 := hb2.size
  have hb := hb1.trans hb2
  have hl := enc_length (n := m) (by omega)
  have h3 := h2.below hb
  clear hown1 hb1 hb2
  go_wp2_with (at_builtin; refine wpList_app rfl _ _ rfl w.heap.size _ _ _ rfl hown2 _ _ _ _ rfl h3 (by omega) (by omega) ?_; intro v3 w3 hown3 hb3)
  have hb4 := hb.trans hb3
  clear hb hown2 hb3 h3
  go_ret
  exact ⟨v3, rfl, hown3, hb4⟩
end Go.Proofs.YtnicnfjickknjaaGreatDoor

namespace Go.Proofs.YtnicnfjickknjaaGreatDoor
open Go.RowKit

/-- The forms of some parts, one behind the other. -/
def fmP (xs : List (List Int)) : List Int := xs.flatMap fun x => enc x.length ++ x
/-- What is hashed of a word and parts. -/
def formL (s : List Int) (xs : List (List Int)) : List Int := enc s.length ++ s ++ enc xs.length ++ fmP xs
theorem fmP_snoc (xs : List (List Int)) (x : List Int) : fmP (xs ++ [x]) = fmP xs ++ (enc x.length ++ x) := by simp [fmP]
def pxs (ps : List Part) : List (List Int) := ps.map Part.xs
theorem pxs_take (ps : List Part) (k : Nat) (h : k < ps.length) : pxs (ps.take (k + 1)) = pxs (ps.take k) ++ [ps[k].xs] := by
  unfold pxs
  rw [List.take_add_one, List.getElem?_eq_getElem h, List.map_append]
  rfl
theorem pxs_len (ps : List Part) : (pxs ps).length = ps.length := by simp [pxs]
theorem fmP_le (xs : List (List Int)) (B : Nat) (hB : B < 18446744073709551616) (h : ∀ x ∈ xs, x.length ≤ B) : (fmP xs).length ≤ xs.length * (B + 10) := by
  induction xs with
  | nil => simp [fmP]
  | cons x xs ih =>
    have h1 := ih (fun y hy => h y (List.mem_cons_of_mem _ hy))
    have h2 := h x (List.mem_cons_self ..)
    have h3 := enc_length (n := x.length) (by omega)
    have e : fmP (x :: xs) = enc x.length ++ x ++ fmP xs := by simp [fmP]
    rw [e, List.length_append, List.length_append, List.length_cons, Nat.succ_mul]
    omega
theorem fmP_byte (xs : List (List Int)) (h : ∀ x ∈ xs, Byt x ∧ x.length < 18446744073709551616) : Byt (fmP xs) := by
  intro y hy
  simp only [fmP, List.mem_flatMap] at hy
  obtain ⟨x, hx, hy⟩ := hy
  rcases List.mem_append.1 hy with h1 | h1
  · exact enc_byte (h x hx).2 y h1
  · exact (h x hx).1 y h1

set_option maxRecDepth 100000 in
set_option maxHeartbeats 4000000 in
theorem of_any (w : World) (s : ByteArray) (ao : Option Addr) (n cap : Nat) (ps : List Part) (hP : PL w ao n cap ps) (hT : Tabs w) (hs : s.size ≤ 1000000) (hn : n ≤ 1000000) (hq : ∀ q ∈ ps, q.n ≤ 1000000) :
    Calls Tryz.prog 45 #[.string s, .slice ao n cap] w fun e w' => ∃ v, e = .returned v ∧ w'.ownsRow w.heap.size 5 1 v 32 (bv (sumL (formL (sb s) (pxs ps)))) ∧ Below w.heap.size w w' := by
  have h2 := hT.two
  have hl := hP.len
  have hni : (n : Int) ≤ 1000000 := by omega
  have hsl := sb_len s
  have es := enc_length (n := s.size) (by omega)
  have en := enc_length (n := n) (by omega)
  go_enter Tryz.func45, Tryz.ntmps45
  go_wp2_with (first
    | (go_at_call 73; refine (new_any w).mono ?_; rintro e w1 ⟨rfl, H1, g1⟩; have B1 : Below w.heap.size w w1 := (Below.refl _ w).grown g1 (Nat.le_refl _) (by simp); have p1 := H1.lt; clear g1)
    | (refine wpList_conv_bytes rfl (.tmp 10) rfl s rfl (by omega) ?_; intro g2 c2 w2 hg2 S2 C2; have B2 : Below w.heap.size w w2 := B1.trans (C2.mono (by omega)); have H2 := H1.below C2 p1; have s2 := C2.size; clear C2 H1 hg2)
    | (go_at_call 75; refine (wBytes_any w2 none _ 0 0 s.size c2 [] _ (Sl.nothing w2) S2 (by omega)).mono ?_; rintro e w3 ⟨v3, rfl, own3, C3⟩; simp only [List.nil_append, Nat.zero_add] at own3; obtain ⟨fo, fc, rfl, S3, hS3⟩ := Sl.own own3 (Byt.append (enc_byte (by omega)) (sb_byte s)); have B3 : Below w.heap.size w w3 := B2.trans (C3.mono (by omega)); have H3 := H2.below C3 (by omega); have s3 := C3.size; clear C3 own3 H2 S2 B2)
    | (go_at_call 74; refine (add_any w3 w.heap.size [] fo _ fc _ (hT.below B3 h2) H3 h2 S3 (fun a ha _ => by have := (hS3 a ha).1; omega) (by simp; omega)).mono ?_; rintro e w4 ⟨⟨v4, rfl⟩, H4, g4⟩; have B4 : Below w.heap.size w w4 := B3.grown g4 (by omega) (by intro k hk; cases hk; exact Nat.le_refl _); have s4 := g4.size; clear g4 H3 S3 hS3 B3)
    | (go_at_call 76; refine (wUint_any w4 none 0 0 n [] (Sl.nothing w4) (by omega) (by omega)).mono ?_; rintro e w5 ⟨v5, rfl, own5, C5⟩; simp only [List.nil_append, Nat.zero_add] at own5; obtain ⟨uo, uc, rfl, S5, hS5⟩ := Sl.own own5 (enc_byte (by omega)); have B5 : Below w.heap.size w w5 := B4.trans (C5.mono (by omega)); have H5 := H4.below C5 (by omega); have s5 := C5.size; clear C5 own5 H4 B4))
  refine (add_any w5 w.heap.size _ uo _ uc _ (hT.below B5 h2) H5 h2 S5 (fun a ha _ => by have := (hS5 a ha).1; omega) (by simp; omega)).mono ?_
  rintro e w6 ⟨⟨v6, rfl⟩, H6, g6⟩
  have B6 : Below w.heap.size w w6 := B5.grown g6 (by omega) (by intro k hk; cases hk; exact Nat.le_refl _)
  have s6 := g6.size
  clear g6 H5 S5 hS5 B5
  obtain ⟨F, hF⟩ : ∃ F, F = enc s.size ++ sb s ++ enc n := ⟨_, rfl⟩
  have hFl : F.length ≤ 1000020 := by rw [hF]; simp; omega
  have HF : Hid (formL (sb s) (pxs ps) = F ++ fmP (pxs ps)) := by
    show _ = _
    rw [hF, formL, hsl, pxs_len, hl]
  simp only [List.nil_append] at H6
  rw [← hF] at H6
  clear hF hsl es en
  go_wp2_with fail
  go_loopw [22] (fun i wr => ∃ k : Nat, k ≤ n ∧ i = .int .i64 k ∧ Below w.heap.size w wr ∧ w.heap.size < wr.heap.size ∧ HS wr w.heap.size (F ++ fmP (pxs (ps.take k)))) (fun i _ => n - (intOf i).toNat)
  case atStart => exact ⟨0, by omega, rfl, B6, by omega, by simpa [pxs, fmP] using H6⟩
  case round =>
    clear H6 B6
    obtain ⟨k, hk, rfl, B7, t7, H7⟩ := hrel
    have T7 := hT.below B7 h2
    by_cases hlt : k < n
    · have hki : (k : Int) < (n : Int) := by omega
      have hkl : k < ps.length := by omega
      obtain ⟨ab, aof, rfl, hc⟩ := (hP.below B7).at (by omega)
      have c1 := hc k hkl
      have S1 := (hP.below B7).sl ps[k] (List.getElem_mem hkl)
      have HX : Hid (fmP (pxs (ps.take (k + 1))) = fmP (pxs (ps.take k)) ++ (enc ps[k].n ++ ps[k].xs)) := by
        show _ = _
        rw [pxs_take ps k hkl, fmP_snoc, S1.len]
      have hqn := hq ps[k] (List.getElem_mem hkl)
      have hFM : (fmP (pxs (ps.take k))).length ≤ k * (1000000 + 10) := by
        refine Nat.le_trans (fmP_le _ 1000000 (by omega) (fun x hx => ?_)) ?_
        · obtain ⟨q, hq', rfl⟩ := List.mem_map.1 hx
          rw [(hP.sl q (List.mem_of_mem_take hq')).len]
          exact hq q (List.mem_of_mem_take hq')
        · rw [pxs_len, List.length_take]
          exact Nat.mul_le_mul_right _ (by omega)
      obtain ⟨q, hqe⟩ : ∃ q, q = ps[k] := ⟨_, rfl⟩
      rw [← hqe] at c1 S1 HX hqn
      clear hqe hc
      have hql := S1.len
      have hqb := S1.byte
      have eq := enc_length (n := q.n) (by omega)
      unfold Part.val at c1
      go_wp2_with (first
        | (go_at_call 75; refine (wBytes_any wr none q.ao 0 0 q.n q.cap [] q.xs (Sl.nothing wr) S1 (by omega)).mono ?_; rintro e w8 ⟨v8, rfl, own8, C8⟩; simp only [List.nil_append, Nat.zero_add] at own8; obtain ⟨fo, fc, rfl, S8, hS8⟩ := Sl.own own8 (Byt.append (enc_byte (by omega)) hqb); have B8 : Below w.heap.size w w8 := B7.trans (C8.mono (by omega)); have H8 := H7.below C8 (by omega); have s8 := C8.size; clear C8 own8 H7 S1)
        | (go_at_call 74; refine (add_any w8 w.heap.size _ fo _ fc _ (hT.below B8 h2) H8 h2 S8 (fun a ha _ => by have := (hS8 a ha).1; omega) (by simp; omega)).mono ?_; rintro e w9 ⟨⟨v9, rfl⟩, H9, g9⟩; have B9 : Below w.heap.size w w9 := B8.grown g9 (by omega) (by intro k hk; cases hk; exact Nat.le_refl _); have s9 := g9.size; clear g9 H8 S8 hS8 B8))
      go_roundw
      case rel =>
        refine ⟨k + 1, by omega, by go_num, B9, by omega, ?_⟩
        rw [HX.out, ← List.append_assoc F]
        exact H9
      case measure => simp [intOf]; omega
    · have hge : (n : Int) ≤ (k : Int) := by omega
      have e : ps.take k = ps := List.take_of_length_le (by omega)
      rw [e] at H7
      clear e
      have hFM : (fmP (pxs ps)).length ≤ n * (1000000 + 10) := by
        refine Nat.le_trans (fmP_le _ 1000000 (by omega) (fun x hx => ?_)) ?_
        · obtain ⟨q, hq', rfl⟩ := List.mem_map.1 hx
          rw [(hP.sl q hq').len]
          exact hq q hq'
        · rw [pxs_len]
          exact Nat.mul_le_mul_right _ (by omega)
      go_wp2_with (go_at_call 77; refine (hsum_any wr w.heap.size _ T7 H7 (by simp; omega)).mono ?_; rintro e w3 ⟨v, rfl, own3, B3⟩)
      go_ret
      refine ⟨_, rfl, ?_, B7.trans (B3.mono (by omega))⟩
      rw [HF.out]
      exact own_base own3 (by omega)

end Go.Proofs.YtnicnfjickknjaaGreatDoor

namespace Go.Proofs.YtnicnfjickknjaaGreatDoor
open Go.RowKit Go.Shelf

attribute [local go_sem] Oper.semAt_some

/-- A digit. -/
def dg (x : Int) : Int := if x < 10 then 48 + x else 87 + x
def hexL (xs : List Int) : List Int := xs.flatMap fun x => [dg (x / 16), dg (x % 16)]
theorem hexL_succ (xs : List Int) (k : Nat) (h : k < xs.length) : hexL (xs.take (k + 1)) = hexL (xs.take k) ++ [dg (xs.getD k 0 / 16)] ++ [dg (xs.getD k 0 % 16)] := by
  have e : xs.getD k 0 = xs[k] := by simp [List.getD, h]
  unfold hexL
  rw [List.take_add_one, List.getElem?_eq_getElem h, List.flatMap_append, e]
  simp
theorem hexL_len (xs : List Int) : (hexL xs).length = 2 * xs.length := by
  induction xs with
  | nil => rfl
  | cons x xs ih => simp only [hexL, List.flatMap_cons, List.length_append, List.length_cons, List.length_nil] at *; omega
theorem hexL_take_len (xs : List Int) (k : Nat) (h : k ≤ xs.length) : (hexL (xs.take k)).length = 2 * k := by
  rw [hexL_len, List.length_take]; omega
theorem hexL_pre (xs : List Int) (k : Nat) : hexL (xs.take k) <+: hexL xs := by
  refine ⟨hexL (xs.drop k), ?_⟩
  unfold hexL
  rw [← List.flatMap_append, List.take_append_drop]

theorem digitKey : ∀ n : Nat, (h : n < 16) → ((((⟨#[48, 49, 50, 51, 52, 53, 54, 55, 56, 57, 97, 98, 99, 100, 101, 102]⟩ : ByteArray)[n]'h).toNat : Nat) : Int) = dg n := by decide
theorem digitAt (x : Int) (h : 0 ≤ x ∧ x < 16) (w : World) : (Instr.index 9 (.string ⟨#[48, 49, 50, 51, 52, 53, 54, 55, 56, 57, 97, 98, 99, 100, 101, 102]⟩) (.int .u8 x)).run Tryz.prog w = .ok (.int .u8 (dg x)) w := by
  obtain ⟨n, rfl⟩ := Int.eq_ofNat_of_zero_le h.1
  rw [run_index_string _ _ _ _ _ Tryz.underlying9, dif_pos ⟨h.1, h.2⟩]
  have := digitKey n (by omega)
  rw [← this]
  rfl

set_option maxRecDepth 100000 in
set_option maxHeartbeats 2000000 in
theorem digits1_in (F : Fence) (n : Nat) (h6 : F.fn 146) (hro : F.round = none) (hn : 1 ≤ n) (l Bn n₀ : Nat) (ao : Option Addr) (m cap : Nat) (xs : List Int) (J Jx : List Int → World → Prop)
    (hY : ∀ pre x W, J pre W → pre.length < (hexL xs).length → YieldAt F (n - 1) Tryz.prog l #[.int .u8 x] W fun e W' =>
      (e = .returned (.bool true) ∧ J (pre ++ [x]) W' ∧ Below n₀ W W') ∨ (e = .returned (.bool false) ∧ Jx (pre ++ [x]) W'))
    (W : World) (hBn : W.cell? ⟨Bn, 0, none⟩ = some (.slice ao m cap)) (hL : Sl W ao m cap xs) (hlow : ∀ a, ao = some a → 0 < m → a.block < n₀) (h0 : J [] W) :
    CallsIn F n Tryz.prog 146 #[.func (.yield l) #[] #[], .pointer (some ⟨Bn, 0, none⟩)] W fun e W' => (∃ v, e = .returned v) ∧
      ((∃ ys, ys = hexL xs ∧ J ys W') ∨ (∃ pre, pre <+: hexL xs ∧ Jx pre W')) := by
  have hmx := hL.mx
  have hle := hL.le
  have hln := hL.len
  unfold maxLen at hmx
  refine callsIn_of_wp Tryz.func146 rfl h6 ?_ hro
  simp only [Tryz.ntmps146, List.size_toArray, List.length_cons, List.length_nil, Nat.reduceAdd, Nat.reduceSub, Array.replicate_succ, Array.replicate_zero, List.push_toArray, List.append_toArray, List.nil_append, List.cons_append]
  gi_wp2
  gi_loopw [7] (fun i wr => ∃ k : Nat, k ≤ m ∧ i = .int .i64 k ∧ Below n₀ W wr ∧ J (hexL (xs.take k)) wr) (fun i _ => m - (intOf i).toNat)
  case atStart => exact ⟨0, by omega, rfl, Below.refl _ _, h0⟩
  case round =>
    obtain ⟨k, hk, rfl, hB, hJ⟩ := hrel
    by_cases hlt : k < m
    · have hki : (k : Int) < (m : Int) := by omega
      obtain ⟨a, rfl⟩ : ∃ a, ao = some a := by
        cases ao with
        | none => exact absurd (hL.nil rfl).1 (by omega)
        | some a => exact ⟨a, rfl⟩
      have c0 := hL.cell a rfl k hlt
      have hab : (a.add k).block = a.block := by unfold Addr.add; split <;> rfl
      have c1 : wr.cell? (a.add k) = some (.int .u8 (xs.getD k 0)) := (hB.cell (by rw [hab]; exact hlow a rfl (by omega))).trans c0
      have hb := hL.byte.at k
      have hbe : xs[k]?.getD 0 = xs.getD k 0 := rfl
      rw [hbe] at hb
      have HS : Hid (hexL (xs.take (k + 1)) = hexL (xs.take k) ++ [dg (xs.getD k 0 / 16)] ++ [dg (xs.getD k 0 % 16)]) := hexL_succ xs k (by omega)
      have hpl := hexL_take_len xs k (by omega)
      have hal := hexL_len xs
      have hpre := hexL_pre xs (k + 1)
      rw [HS.out] at hpre
      obtain ⟨x, hx⟩ : ∃ x, x = xs.getD k 0 := ⟨_, rfl⟩
      rw [← hx] at c1 hb HS hpre
      clear hbe c0 hab hx
      have hd1 := digitAt (x / 16) (by omega)
      have hd2 := digitAt (x % 16) (by omega)
      obtain ⟨fn, tmps, assign, body, hy, hR⟩ := hY (hexL (xs.take k)) (dg (x / 16)) wr hJ (by omega)
      gi_wp2
      refine hR.mono ?_
      clear hR hy
      rintro e W3 (⟨rfl, hJ3, hk3⟩ | ⟨rfl, hJx3⟩)
      · obtain ⟨fn2, tmps2, assign2, body2, hy2, hR2⟩ := hY (hexL (xs.take k) ++ [dg (x / 16)]) (dg (x % 16)) W3 hJ3 (by rw [List.length_append, hpl, List.length_singleton]; omega)
        gi_wp2
        refine hR2.mono ?_
        clear hR2 hy2
        rintro e W4 (⟨rfl, hJ4, hk4⟩ | ⟨rfl, hJx4⟩)
        · gi_wp2
          go_roundw
          case rel => exact ⟨k + 1, by omega, by go_num, (hB.trans hk3).trans hk4, by rw [HS.out]; exact hJ4⟩
          case measure => simp [intOf]; omega
        · gi_wp2
          refine bodyPost_ret (results_none rfl _ _ _) rfl ?_
          exact ⟨⟨_, rfl⟩, .inr ⟨_, hpre, hJx4⟩⟩
      · gi_wp2
        refine ⟨fun _ h => (by cases h), ?_⟩
        gi_wp2
        refine bodyPost_ret (results_none rfl _ _ _) rfl ?_
        exact ⟨⟨_, rfl⟩, .inr ⟨_, (List.prefix_append _ _).trans hpre, hJx3⟩⟩
    · have hge : (m : Int) ≤ (k : Int) := by omega
      have e : xs.take k = xs := List.take_of_length_le (by omega)
      rw [e] at hJ
      clear e
      gi_wp2
      go_end0
      exact ⟨⟨_, rfl⟩, .inl ⟨_, rfl, hJ⟩⟩

set_option maxHeartbeats 1000000 in
/-- digits(b): the slice is boxed; the function value captures the box. -/
theorem digits_in (F : Fence) (n : Nat) (h5 : F.fn 141) (hro : F.round = none) (v : Value) (ao : Option Addr) (m cap : Nat) (hv : v = .slice ao m cap) (w : World) :
    CallsIn F n Tryz.prog 141 #[v] w fun e w' => e = .returned (.func (.func 146) #[] #[.pointer (some ⟨w.heap.size, 0, none⟩)]) ∧ w' = w.alloc (.cells #[v] 25) := by
  subst hv
  refine callsIn_of_wp Tryz.func141 rfl h5 ?_ hro
  simp only [Tryz.ntmps141, List.size_toArray, List.length_cons, List.length_nil, Nat.reduceAdd, Nat.reduceSub, Array.replicate_succ, Array.replicate_zero, List.push_toArray, List.append_toArray, List.nil_append, List.cons_append]
  gi_wp2
  go_ret
  exact ⟨rfl, rfl⟩

theorem digits_stops (F : Fence) (n : Nat) (h6 : F.fn 146) (hro : F.round = none) (hn : 1 ≤ n) (Bn n₀ : Nat) (ao : Option Addr) (m cap : Nat) (xs : List Int) (w : World) (hBn : Bn < w.heap.size)
    (hc : w.cell? ⟨Bn, 0, none⟩ = some (.slice ao m cap)) (hL : Sl w ao m cap xs) (hlow : ∀ a, ao = some a → 0 < m → a.block < n₀) :
    SeqStopsK F n Tryz.prog 146 #[.pointer (some ⟨Bn, 0, none⟩)] (fun x : Int => #[Value.int .u8 x]) (Below n₀) (fun ys => ys = hexL xs) (fun pre => pre <+: hexL xs) (hexL xs).length w := fun l J Jx W hW _ _ hY h0 =>
  digits1_in F n h6 hro hn l Bn n₀ ao m cap xs J Jx hY W ((hW.cell (p := ⟨Bn, 0, none⟩) hBn).trans hc) (hL.below hW) hlow h0

end Go.Proofs.YtnicnfjickknjaaGreatDoor

namespace Go.Proofs.YtnicnfjickknjaaGreatDoor
open Go.RowKit

def lvS : ByteArray := ⟨#[108, 101, 118, 101, 108]⟩
/-- A key's level. -/
def lev (k : List Int) : Nat := ((hexL (sumL (formL (sb lvS) [k]))).takeWhile fun c => c == 48).length
theorem takeWhile_le {α : Type} (p : α → Bool) : ∀ l : List α, (l.takeWhile p).length ≤ l.length
  | [] => by simp
  | a :: l => by
    rw [List.takeWhile_cons]
    split
    · have := takeWhile_le p l
      simp only [List.length_cons]
      omega
    · simp
theorem lev_le (k : List Int) : lev k ≤ 64 := by
  refine Nat.le_trans (takeWhile_le _ _) ?_
  rw [hexL_len, sumL_len]
  decide

/-- A node: its block, its level, its three lists. -/
structure Nd where
  b : Nat
  L : Nat
  ko : Option Addr
  kc : Nat
  vo : Option Addr
  vc : Nat
  co : Option Addr
  cc : Nat
  ks : List Part
  vs : List Part
  cs : List Value
def Nd.ptr (d : Nd) : Value := .pointer (some ⟨d.b, 0, none⟩)
structure Nd.ok (w : World) (d : Nd) : Prop where
  c0 : w.cell? ⟨d.b, 0, none⟩ = some (.int .i64 d.L)
  c1 : w.cell? ⟨d.b, 1, none⟩ = some (.slice d.ko d.ks.length d.kc)
  c2 : w.cell? ⟨d.b, 2, none⟩ = some (.slice d.vo d.vs.length d.vc)
  c3 : w.cell? ⟨d.b, 3, none⟩ = some (.slice d.co d.cs.length d.cc)
  kl : KL w d.ko d.ks.length d.kc d.ks
  vl : KL w d.vo d.vs.length d.vc d.vs
  cl : VL w d.co d.cs.length d.cc d.cs
  uf : ∃ (c : Array Value) (t : TypeId), w.heap[d.b]? = some (.cells c t (0, 0))
theorem Nd.ok.lt {w : World} {d : Nd} (h : d.ok w) : d.b < w.heap.size := World.block_lt_of_cell? w _ h.c0
theorem Nd.ok.below {w w' : World} {d : Nd} (h : d.ok w) (hb : Below w.heap.size w w') : d.ok w' :=
  ⟨(hb.cell (p := ⟨d.b, 0, none⟩) h.lt).trans h.c0, (hb.cell (p := ⟨d.b, 1, none⟩) h.lt).trans h.c1, (hb.cell (p := ⟨d.b, 2, none⟩) h.lt).trans h.c2, (hb.cell (p := ⟨d.b, 3, none⟩) h.lt).trans h.c3, h.kl.below hb, h.vl.below hb, h.cl.below hb, by obtain ⟨c, t, e⟩ := h.uf; exact ⟨c, t, (hb.block d.b h.lt).trans e⟩⟩

/-- The value v is a node, or nil, of the items l; no deeper than n. -/
def TN (w : World) : Nat → Value → List It → Prop
  | 0, v, l => l = [] ∧ v = .pointer none
  | n + 1, v, l => (l = [] ∧ v = .pointer none) ∨ ∃ (d : Nd) (segs : List (List It)) (xs : List It), v = d.ptr ∧ d.ok w ∧ Shp lev l d.L segs xs ∧ d.ks.map Part.xs = xs.map It.k ∧ d.vs.map Part.xs = xs.map It.v ∧ d.cs.length = segs.length ∧
      ∀ (i : Nat) (s : List It), segs[i]? = some s → ∃ u, d.cs[i]? = some u ∧ TN w n u s
/-- The value v is a node, or nil, of the items l. -/
def T (w : World) (v : Value) (l : List It) : Prop := TN w l.length v l
theorem TN.re {w : World} : ∀ (n m : Nat) (v : Value) (l : List It), TN w n v l → l.length ≤ m → TN w m v l
  | 0, 0, _, _, h, _ => h
  | 0, m + 1, _, _, h, _ => .inl h
  | n + 1, 0, v, l, h, hm => by
    rcases h with h | ⟨d, segs, xs, rfl, hok, hs, _⟩
    · exact h
    · have h1 := hs.pos
      have h2 := hs.key xs[0] (List.getElem_mem h1)
      have : l = [] := List.eq_nil_of_length_eq_zero (by omega)
      rw [this] at h2
      simp at h2
  | n + 1, m + 1, v, l, h, hm => by
    rcases h with h | ⟨d, segs, xs, rfl, hok, hs, e1, e2, e3, hk⟩
    · exact .inl h
    · refine .inr ⟨d, segs, xs, rfl, hok, hs, e1, e2, e3, fun i s hi => ?_⟩
      obtain ⟨u, hu, ht⟩ := hk i s hi
      have := hs.shorter s (List.mem_of_getElem? hi)
      exact ⟨u, hu, TN.re n m u s ht (by omega)⟩
/-- A node and what it has. -/
structure Nod (w : World) (l : List It) (d : Nd) (segs : List (List It)) (xs : List It) : Prop where
  ok : d.ok w
  shp : Shp lev l d.L segs xs
  ek : d.ks.map Part.xs = xs.map It.k
  ev : d.vs.map Part.xs = xs.map It.v
  ec : d.cs.length = segs.length
  kid : ∀ (i : Nat) (s : List It), segs[i]? = some s → ∃ u, d.cs[i]? = some u ∧ T w u s
theorem T.nil (w : World) : T w (.pointer none) [] := ⟨rfl, rfl⟩
theorem T.of {w : World} {l : List It} {d : Nd} {segs : List (List It)} {xs : List It} (h : Nod w l d segs xs) : T w d.ptr l := by
  have hp : 0 < l.length := by
    have h0 := h.shp.pos
    have h2 := h.shp.key xs[0] (List.getElem_mem h0)
    cases l with
    | nil => simp at h2
    | cons a l => simp
  unfold T
  obtain ⟨m, hm⟩ : ∃ m, l.length = m + 1 := ⟨l.length - 1, by omega⟩
  rw [hm]
  refine .inr ⟨d, segs, xs, rfl, h.ok, h.shp, h.ek, h.ev, h.ec, fun i s hi => ?_⟩
  obtain ⟨u, hu, ht⟩ := h.kid i s hi
  have := h.shp.shorter s (List.mem_of_getElem? hi)
  exact ⟨u, hu, TN.re _ m u s ht (by omega)⟩
theorem T.is {w : World} {v : Value} {l : List It} (h : T w v l) : (l = [] ∧ v = .pointer none) ∨ ∃ d segs xs, v = d.ptr ∧ Nod w l d segs xs := by
  have h' := TN.re _ (l.length + 1) v l h (by omega)
  rcases h' with h' | ⟨d, segs, xs, rfl, hok, hs, e1, e2, e3, hk⟩
  · exact .inl h'
  · refine .inr ⟨d, segs, xs, rfl, hok, hs, e1, e2, e3, fun i s hi => ?_⟩
    obtain ⟨u, hu, ht⟩ := hk i s hi
    exact ⟨u, hu, TN.re _ s.length u s ht (Nat.le_refl _)⟩
theorem T.none {w : World} {l : List It} (h : T w (.pointer Option.none) l) : l = [] := by
  rcases h.is with h | ⟨d, segs, xs, e, _⟩
  · exact h.1
  · simp [Nd.ptr] at e
theorem T.node {w : World} {v : Value} {l : List It} (h : T w v l) (hl : l ≠ []) : ∃ d segs xs, v = d.ptr ∧ Nod w l d segs xs := by
  rcases h.is with h | h
  · exact absurd h.1 hl
  · exact h
theorem T.one {w : World} {v : Value} {l : List It} (h : T w v l) : v.oneCell' = true := by
  rcases h.is with ⟨_, rfl⟩ | ⟨d, segs, xs, rfl, _⟩ <;> rfl
theorem TN.below {w w' : World} (hb : Below w.heap.size w w') : ∀ (n : Nat) (v : Value) (l : List It), TN w n v l → TN w' n v l
  | 0, _, _, h => h
  | n + 1, v, l, h => by
    rcases h with h | ⟨d, segs, xs, rfl, hok, hs, e1, e2, e3, hk⟩
    · exact .inl h
    · refine .inr ⟨d, segs, xs, rfl, hok.below hb, hs, e1, e2, e3, fun i s hi => ?_⟩
      obtain ⟨u, hu, ht⟩ := hk i s hi
      exact ⟨u, hu, TN.below hb n u s ht⟩
theorem T.below {w w' : World} {v : Value} {l : List It} (h : T w v l) (hb : Below w.heap.size w w') : T w' v l := TN.below hb _ v l h
theorem Nod.below {w w' : World} {l : List It} {d : Nd} {segs : List (List It)} {xs : List It} (h : Nod w l d segs xs) (hb : Below w.heap.size w w') : Nod w' l d segs xs :=
  ⟨h.ok.below hb, h.shp, h.ek, h.ev, h.ec, fun i s hi => by obtain ⟨u, hu, ht⟩ := h.kid i s hi; exact ⟨u, hu, ht.below hb⟩⟩
section
variable {w : World} {l : List It} {d : Nd} {segs : List (List It)} {xs : List It}
theorem Nod.nk (h : Nod w l d segs xs) : d.ks.length = xs.length := by simpa using congrArg List.length h.ek
theorem Nod.nv (h : Nod w l d segs xs) : d.vs.length = xs.length := by simpa using congrArg List.length h.ev
theorem Nod.nc (h : Nod w l d segs xs) : d.cs.length = xs.length + 1 := by rw [h.ec, h.shp.len]
theorem Nod.many (h : Nod w l d segs xs) : xs.length ≤ l.length := by
  have h0 : 0 < segs.length := by have := h.shp.len; omega
  have := weave_len segs xs h.shp.len segs[0] (List.getElem_mem h0)
  rw [h.shp.eq]
  omega
theorem Nod.one (h : Nod w l d segs xs) : ∀ u ∈ d.cs, u.oneCell' = true := fun u hu => by
  obtain ⟨i, hi, rfl⟩ := List.mem_iff_getElem.1 hu
  have hs : i < segs.length := by rw [← h.ec]; exact hi
  obtain ⟨u, hu, ht⟩ := h.kid i segs[i] (List.getElem?_eq_getElem hs)
  rw [List.getElem?_eq_getElem hi] at hu
  rw [Option.some.inj hu]
  exact ht.one
theorem Nod.L_le (h : Nod w l d segs xs) : d.L ≤ 64 := by
  have h0 := h.shp.pos
  rw [← h.shp.top xs[0] (List.getElem_mem h0)]
  exact lev_le _
/-- The kid at a place. -/
theorem Nod.kidAt (h : Nod w l d segs xs) (i : Nat) (hi : i ≤ xs.length) : ∃ b off s u, d.co = some ⟨b, off, none⟩ ∧ segs[i]? = some s ∧ d.cs[i]? = some u ∧ w.cell? ⟨b, off + i, none⟩ = some u ∧ T w u s ∧ s.length < l.length := by
  have hc := h.nc
  have hs : i < segs.length := by have := h.shp.len; omega
  obtain ⟨b, off, e, hcl⟩ := h.ok.cl.at (by omega)
  obtain ⟨u, hu, ht⟩ := h.kid i segs[i] (List.getElem?_eq_getElem hs)
  obtain ⟨hlt, hu'⟩ := List.getElem?_eq_some_iff.1 hu
  exact ⟨b, off, segs[i], u, e, List.getElem?_eq_getElem hs, hu, by rw [hcl i hlt, hu'], ht, h.shp.shorter _ (List.getElem_mem hs)⟩
end
/-- A new node. -/
theorem Nod.make {w : World} {g : Nat} {l : List It} {L : Nat} {ko vo co : Option Addr} {kn kc vn vc cn cc : Nat} {t : TypeId} {ks vs : List Part} {cs : List Value} {segs : List (List It)} {xs : List It}
    (hg : w.heap[g]? = some (.cells #[.int .i64 L, .slice ko kn kc, .slice vo vn vc, .slice co cn cc] t))
    (hk : KL w ko kn kc ks) (hv : KL w vo vn vc vs) (hc : VL w co cn cc cs) (hs : Shp lev l L segs xs) (ek : ks.map Part.xs = xs.map It.k) (ev : vs.map Part.xs = xs.map It.v) (ec : cs.length = segs.length)
    (kid : ∀ (i : Nat) (s : List It), segs[i]? = some s → ∃ u, cs[i]? = some u ∧ T w u s) : T w (.pointer (some ⟨g, 0, Option.none⟩)) l := by
  have e1 := hk.len
  have e2 := hv.len
  have e3 := hc.len
  subst e1 e2 e3
  exact T.of (d := ⟨g, L, ko, kc, vo, vc, co, cc, ks, vs, cs⟩) ⟨⟨cell_of_row w g 0 _ _ _ hg, cell_of_row w g 1 _ _ _ hg, cell_of_row w g 2 _ _ _ hg, cell_of_row w g 3 _ _ _ hg, hk, hv, hc, _, _, hg⟩, hs, ek, ev, ec, kid⟩
end Go.Proofs.YtnicnfjickknjaaGreatDoor

namespace Go.Proofs.YtnicnfjickknjaaGreatDoor

theorem weave_mid (P Q : List (List It)) (s : List It) (ys zs : List It) (h : P.length = ys.length) (h2 : Q.length = zs.length) : weave (P ++ s :: Q) (ys ++ zs) = wvA P ys ++ (s ++ weave ([] :: Q) zs) := by
  rw [weave_app _ _ _ _ h]
  congr 1
  cases zs with
  | nil =>
    obtain rfl : Q = [] := List.eq_nil_of_length_eq_zero h2
    simp [weave]
  | cons z zs => simp [weave]
theorem Shp.of {lv : List Int → Nat} {l : List It} {L : Nat} {P Q : List (List It)} {s ys zs : List It} (h : P.length = ys.length) (h2 : Q.length = zs.length) (hp : 0 < ys.length + zs.length) (e : l = wvA P ys ++ (s ++ weave ([] :: Q) zs))
    (ty : ∀ x ∈ ys, lv x.k = L) (tz : ∀ x ∈ zs, lv x.k = L) (lP : ∀ t ∈ P, ∀ x ∈ t, lv x.k < L) (lQ : ∀ t ∈ Q, ∀ x ∈ t, lv x.k < L) (ls : ∀ x ∈ s, lv x.k < L) : Shp lv l L (P ++ s :: Q) (ys ++ zs) := by
  refine ⟨by simp; omega, by simp; omega, by rw [e, weave_mid P Q s ys zs h h2], fun x hx => ?_, fun t ht => ?_⟩
  · rcases List.mem_append.1 hx with hx | hx
    · exact ty x hx
    · exact tz x hx
  · rcases List.mem_append.1 ht with ht | ht
    · exact lP t ht
    · rcases List.mem_cons.1 ht with rfl | ht
      · exact ls
      · exact lQ t ht
/-- Parted at a place: the front, the segment there, the rest. -/
structure Cut (lv : List Int → Nat) (l : List It) (L : Nat) (segs : List (List It)) (xs : List It) (i : Nat) (s A B : List It) : Prop where
  seg : segs[i]? = some s
  le : i ≤ xs.length
  es : segs = segs.take i ++ s :: segs.drop (i + 1)
  eA : A = wvA (segs.take i) (xs.take i)
  eB : B = weave ([] :: segs.drop (i + 1)) (xs.drop i)
  el : l = A ++ (s ++ B)
  l1 : (segs.take i).length = (xs.take i).length
  l2 : (segs.drop (i + 1)).length = (xs.drop i).length
  ty : ∀ x ∈ xs.take i, lv x.k = L
  tz : ∀ x ∈ xs.drop i, lv x.k = L
  lP : ∀ t ∈ segs.take i, ∀ x ∈ t, lv x.k < L
  lQ : ∀ t ∈ segs.drop (i + 1), ∀ x ∈ t, lv x.k < L
  ls : ∀ x ∈ s, lv x.k < L
theorem Shp.cut {lv : List Int → Nat} {l : List It} {L : Nat} {segs : List (List It)} {xs : List It} (h : Shp lv l L segs xs) (i : Nat) (hi : i ≤ xs.length) : ∃ s A B, Cut lv l L segs xs i s A B := by
  obtain ⟨s, h1, h2, h3⟩ := h.at i hi
  have hl := h.len
  exact ⟨s, _, _, h1, hi, h2, rfl, rfl, h3, by simp; omega, by simp; omega, fun x hx => h.top x (List.mem_of_mem_take hx), fun x hx => h.top x (List.mem_of_mem_drop hx), fun t ht => h.low t (List.mem_of_mem_take ht), fun t ht => h.low t (List.mem_of_mem_drop ht), h.low s (List.mem_of_getElem? h1)⟩
section
variable {lv : List Int → Nat} {l : List It} {L : Nat} {segs : List (List It)} {xs : List It} {i : Nat} {s A B : List It}
/-- Another segment in its place. -/
theorem Cut.set (c : Cut lv l L segs xs i s A B) (hp : 0 < xs.length) {s' : List It} (ls : ∀ x ∈ s', lv x.k < L) : Shp lv (A ++ (s' ++ B)) L (segs.take i ++ s' :: segs.drop (i + 1)) xs := by
  have := Shp.of (l := A ++ (s' ++ B)) (s := s') c.l1 c.l2 (by simp; have := c.le; omega) (by rw [c.eA, c.eB]) c.ty c.tz c.lP c.lQ ls
  rwa [List.take_append_drop] at this
/-- The front alone. -/
theorem Cut.front (c : Cut lv l L segs xs i s A B) (hi : 0 < i) {s' : List It} (ls : ∀ x ∈ s', lv x.k < L) : Shp lv (A ++ s') L (segs.take i ++ [s']) (xs.take i) := by
  have := Shp.of (l := A ++ s') (Q := []) (zs := []) (s := s') c.l1 rfl (by simp; have := c.le; omega) (by simp [weave, c.eA]) c.ty (by simp) c.lP (by simp) ls
  simpa using this
/-- The rest alone. -/
theorem Cut.back (c : Cut lv l L segs xs i s A B) (hi : i < xs.length) {s' : List It} (ls : ∀ x ∈ s', lv x.k < L) : Shp lv (s' ++ B) L (s' :: segs.drop (i + 1)) (xs.drop i) := by
  have := Shp.of (l := s' ++ B) (P := []) (ys := []) (s := s') rfl c.l2 (by simp; omega) (by simp [wvA, c.eB]) (by simp) c.tz (by simp) c.lQ ls
  simpa using this
/-- One item more. -/
theorem Cut.more (c : Cut lv l L segs xs i s A B) {x : It} (hx : lv x.k = L) {s1 s2 : List It} (h1 : ∀ x ∈ s1, lv x.k < L) (h2 : ∀ x ∈ s2, lv x.k < L) :
    Shp lv (A ++ (s1 ++ x :: (s2 ++ B))) L (segs.take i ++ s1 :: s2 :: segs.drop (i + 1)) (xs.take i ++ x :: xs.drop i) := by
  refine Shp.of (l := A ++ (s1 ++ x :: (s2 ++ B))) (Q := s2 :: segs.drop (i + 1)) (zs := x :: xs.drop i) (s := s1) c.l1 (by have := c.l2; simp only [List.length_cons]; omega) (by simp only [List.length_cons]; omega) ?_ c.ty ?_ c.lP ?_ h1
  · have e : weave (s2 :: segs.drop (i + 1)) (xs.drop i) = s2 ++ B := by
      have := weave_mid [] (segs.drop (i + 1)) s2 [] (xs.drop i) rfl c.l2
      simp only [List.nil_append, wvA] at this
      rw [this, c.eB]
    rw [c.eA]
    simp only [weave, List.nil_append, e]
  · intro y hy
    rcases List.mem_cons.1 hy with rfl | hy
    · exact hx
    · exact c.tz y hy
  · intro t ht
    rcases List.mem_cons.1 ht with rfl | ht
    · exact h2
    · exact c.lQ t ht
/-- Where the place has an item: the rest begins with it. -/
theorem Cut.next (c : Cut lv l L segs xs i s A B) (hi : i < xs.length) : ∃ t Q, segs.drop (i + 1) = t :: Q ∧ Q = segs.drop (i + 2) ∧ Q.length = (xs.drop (i + 1)).length ∧ (∀ x ∈ t, lv x.k < L) ∧ B = xs[i] :: (t ++ weave ([] :: Q) (xs.drop (i + 1))) := by
  have hl := c.l2
  have e : xs.drop i = xs[i] :: xs.drop (i + 1) := List.drop_eq_getElem_cons hi
  cases hd : segs.drop (i + 1) with
  | nil =>
    rw [hd] at hl
    simp at hl
    omega
  | cons t Q =>
    have hQ : Q = segs.drop (i + 2) := by
      have := congrArg (List.drop 1) hd
      rw [List.drop_drop] at this
      simpa using this.symm
    have hl2 : Q.length = (xs.drop (i + 1)).length := by rw [hd] at hl; simp at hl ⊢; omega
    refine ⟨t, Q, rfl, hQ, hl2, c.lQ t (by rw [hd]; exact List.mem_cons_self ..), ?_⟩
    have h3 := weave_mid [] Q t [] (xs.drop (i + 1)) rfl hl2
    simp only [List.nil_append, wvA] at h3
    rw [c.eB, hd, e]
    simp only [weave, List.nil_append, h3]
/-- Another item in its place. -/
theorem Cut.swap (c : Cut lv l L segs xs i s A B) (hi : i < xs.length) {x : It} (hx : lv x.k = L) : ∃ B', B = xs[i] :: B' ∧ Shp lv (A ++ (s ++ x :: B')) L segs (xs.take i ++ x :: xs.drop (i + 1)) := by
  obtain ⟨t, Q, hd, -, hl, ht, hB⟩ := c.next hi
  refine ⟨_, hB, ?_⟩
  have hQ : ∀ u ∈ Q, ∀ x ∈ u, lv x.k < L := fun u hu => c.lQ u (by rw [hd]; exact List.mem_cons_of_mem _ hu)
  have e : segs = segs.take i ++ s :: (t :: Q) := by rw [← hd]; exact c.es
  have := Shp.of (l := A ++ (s ++ x :: (t ++ weave ([] :: Q) (xs.drop (i + 1))))) (P := segs.take i) (ys := xs.take i) (Q := t :: Q) (zs := x :: xs.drop (i + 1)) (s := s) (L := L) (lv := lv) c.l1 (by simp only [List.length_cons]; omega) (by simp only [List.length_cons]; omega)
    (by
      rw [c.eA]
      have h3 := weave_mid [] Q t [] (xs.drop (i + 1)) rfl hl
      simp only [List.nil_append, wvA] at h3
      simp only [weave, List.nil_append, h3]) c.ty
    (by
      intro y hy
      rcases List.mem_cons.1 hy with rfl | hy
      · exact hx
      · exact c.tz y (by rw [List.drop_eq_getElem_cons hi]; exact List.mem_cons_of_mem _ hy)) c.lP
    (by
      intro u hu
      rcases List.mem_cons.1 hu with rfl | hu
      · exact ht
      · exact hQ u hu) c.ls
  rw [← e] at this
  exact this
/-- Without the item in its place. -/
theorem Cut.less (c : Cut lv l L segs xs i s A B) (hi : i < xs.length) : ∃ t B', segs[i + 1]? = some t ∧ (∀ x ∈ t, lv x.k < L) ∧ B = xs[i] :: (t ++ B') ∧ (xs.length = 1 → A = [] ∧ B' = []) ∧
    (1 < xs.length → ∀ u : List It, u = s ++ t → Shp lv (A ++ (u ++ B')) L (segs.take i ++ u :: segs.drop (i + 2)) (xs.take i ++ xs.drop (i + 1))) := by
  obtain ⟨t, Q, hd, hQe, hl, ht, hB⟩ := c.next hi
  have hQ : ∀ u ∈ Q, ∀ x ∈ u, lv x.k < L := fun u hu => c.lQ u (by rw [hd]; exact List.mem_cons_of_mem _ hu)
  refine ⟨t, _, ?_, ht, hB, fun h1 => ?_, fun h1 u hu => ?_⟩
  · have := congrArg (·[0]?) hd
    simpa using this
  · obtain rfl : i = 0 := by omega
    refine ⟨by rw [c.eA]; simp [wvA], ?_⟩
    have : xs.drop (0 + 1) = [] := List.drop_eq_nil_of_le (by omega)
    rw [this]
    simp [weave]
  · rw [← hQe]
    refine Shp.of c.l1 hl (by simp; omega) (by rw [c.eA]) c.ty (fun y hy => c.tz y (by rw [List.drop_eq_getElem_cons hi]; exact List.mem_cons_of_mem _ hy)) c.lP hQ ?_
    intro y hy
    rw [hu] at hy
    rcases List.mem_append.1 hy with hy | hy
    · exact c.ls y hy
    · exact ht y hy
/-- Parted where a key stands. -/
theorem Cut.key (c : Cut lv l L segs xs i s A B) (hs : Srt l) {key : List Int} (hlo : ∀ j (h : j < xs.length), j < i → cmpL xs[j].k key < 0) (hhi : ∀ j (h : j < xs.length), i ≤ j → ¬ cmpL xs[j].k key < 0) :
    (∀ x ∈ A, cmpL x.k key < 0) ∧ (∀ x ∈ B, ¬ cmpL x.k key < 0) ∧ ((∀ h : i < xs.length, xs[i].k ≠ key) → ∀ x ∈ B, cmpL key x.k < 0) := by
  have hle := c.le
  have hl1 := c.l1
  rw [c.el] at hs
  obtain ⟨hA, hsB, hAB⟩ := hs.app
  obtain ⟨hs', hB, -⟩ := hsB.app
  refine ⟨?_, ?_⟩
  · rcases Nat.eq_zero_or_pos i with rfl | hp
    · rw [c.eA]
      simp [wvA]
    · obtain ⟨j, rfl⟩ : ∃ j, i = j + 1 := ⟨i - 1, by omega⟩
      have hj : j < xs.length := by omega
      have hjs : j < segs.length := by simp at hl1; omega
      have e : A = wvA (segs.take j) (xs.take j) ++ (segs[j] ++ [xs[j]]) := by
        rw [c.eA, List.take_add_one, List.take_add_one, List.getElem?_eq_getElem hj, List.getElem?_eq_getElem hjs, wvA_app _ _ _ _ (by simp; omega)]
        simp [wvA]
      intro x hx
      have hk := hlo j hj (by omega)
      rw [e, ← List.append_assoc] at hA
      obtain ⟨-, -, h3⟩ := hA.app
      rw [e, ← List.append_assoc] at hx
      rcases List.mem_append.1 hx with hx | hx
      · exact cmpL_lt_trans _ _ _ (h3 x hx _ (List.mem_singleton.2 rfl)) hk
      · rw [List.mem_singleton.1 hx]
        exact hk
  · rcases Nat.lt_or_ge i xs.length with hi | hi
    · obtain ⟨t, Q, hd, -, hl, ht, e⟩ := c.next hi
      have hk := hhi i hi (Nat.le_refl _)
      rw [e] at hB ⊢
      obtain ⟨h3, -⟩ := hB.cons
      constructor
      · intro x hx
        rcases List.mem_cons.1 hx with rfl | hx
        · exact hk
        · intro h4
          exact hk (cmpL_lt_trans _ _ _ (h3 x hx) h4)
      · intro hne x hx
        have h5 : cmpL key xs[i].k < 0 := by
          rcases cmpL_total xs[i].k key with h | h | h
          · exact absurd h hk
          · exact absurd h (hne hi)
          · exact h
        rcases List.mem_cons.1 hx with rfl | hx
        · exact h5
        · exact cmpL_lt_trans _ _ _ h5 (h3 x hx)
    · have : xs.drop i = [] := List.drop_eq_nil_of_le hi
      have e : B = [] := by rw [c.eB, this]; rfl
      rw [e]
      simp
end
/-- What stands below and above a key that parts the items. -/
theorem lo_mid {A s B : List It} {key : List Int} (hA : ∀ x ∈ A, cmpL x.k key < 0) (hB : ∀ x ∈ B, ¬ cmpL x.k key < 0) : lo key (A ++ (s ++ B)) = A ++ lo key s := by
  rw [lo_append, lo_append, lo_all hA, lo_none hB, List.append_nil]
theorem hi_mid {A s B : List It} {key : List Int} (hA : ∀ x ∈ A, cmpL x.k key < 0) (hB : ∀ x ∈ B, cmpL key x.k < 0) : hi key (A ++ (s ++ B)) = hi key s ++ B := by
  rw [hi_append, hi_append, hi_all hB, hi_none (fun x hx => cmpL_asym (hA x hx)), List.nil_append]
theorem ins_mid {A s B : List It} {x : It} (hA : ∀ y ∈ A, cmpL y.k x.k < 0) (hB : ∀ y ∈ B, cmpL x.k y.k < 0) : ins (A ++ (s ++ B)) x = A ++ (ins s x ++ B) := by
  unfold ins
  rw [lo_mid hA (fun y hy => cmpL_asym (hB y hy)), hi_mid hA hB]
  simp
theorem del_mid {A s B : List It} {key : List Int} (hA : ∀ y ∈ A, cmpL y.k key < 0) (hB : ∀ y ∈ B, cmpL key y.k < 0) : del (A ++ (s ++ B)) key = A ++ (del s key ++ B) := by
  unfold del
  rw [lo_mid hA (fun y hy => cmpL_asym (hB y hy)), hi_mid hA hB]
  simp
theorem ins_at {l A B : List It} {x y : It} (h : Srt l) (e : l = A ++ y :: B) (hk : y.k = x.k) : ins l x = A ++ x :: B := by
  obtain ⟨h1, h2⟩ := h.split e
  unfold ins
  rw [← hk, h1, h2]
theorem del_at {l A B : List It} {y : It} {key : List Int} (h : Srt l) (e : l = A ++ y :: B) (hk : y.k = key) : del l key = A ++ B := by
  obtain ⟨h1, h2⟩ := h.split e
  unfold del
  rw [← hk, h1, h2]
theorem ins_lev {lv : List Int → Nat} {l : List It} {x : It} {L : Nat} (h : ∀ y ∈ l, lv y.k < L) (hx : lv x.k < L) : ∀ y ∈ ins l x, lv y.k < L := by
  intro y hy
  rcases List.mem_append.1 hy with hy | hy
  · exact h y (mem_lo.1 hy).1
  · rcases List.mem_cons.1 hy with rfl | hy
    · exact hx
    · exact h y (mem_hi.1 hy).1
theorem del_lev {lv : List Int → Nat} {l : List It} {k : List Int} {L : Nat} (h : ∀ y ∈ l, lv y.k < L) : ∀ y ∈ del l k, lv y.k < L := by
  intro y hy
  rcases List.mem_append.1 hy with hy | hy
  · exact h y (mem_lo.1 hy).1
  · exact h y (mem_hi.1 hy).1
theorem Shp.single {lv : List Int → Nat} {s1 s2 : List It} {x : It} {L : Nat} (hx : lv x.k = L) (h1 : ∀ y ∈ s1, lv y.k < L) (h2 : ∀ y ∈ s2, lv y.k < L) : Shp lv (s1 ++ x :: s2) L [s1, s2] [x] := by
  refine ⟨rfl, by simp, by simp [weave], fun y hy => by rw [List.mem_singleton.1 hy]; exact hx, fun t ht => ?_⟩
  rcases List.mem_cons.1 ht with rfl | ht
  · exact h1
  · rw [List.mem_singleton.1 ht]
    exact h2
/-- Two nodes of one level, one behind the other. -/
theorem Shp.join {lv : List Int → Nat} {l1 l2 : List It} {L : Nat} {segs1 segs2 : List (List It)} {xs1 xs2 : List It} (h1 : Shp lv l1 L segs1 xs1) (h2 : Shp lv l2 L segs2 xs2) :
    ∃ s t, segs1[xs1.length]? = some s ∧ segs2[0]? = some t ∧ ∀ u, u = s ++ t → Shp lv (l1 ++ l2) L (segs1.take xs1.length ++ u :: segs2.drop 1) (xs1 ++ xs2) := by
  obtain ⟨s, A, B, c1⟩ := h1.cut xs1.length (Nat.le_refl _)
  obtain ⟨t, A2, B2, c2⟩ := h2.cut 0 (Nat.zero_le _)
  have e1 : B = [] := by rw [c1.eB, List.drop_length]; rfl
  have e2 : A2 = [] := by rw [c2.eA]; rfl
  refine ⟨s, t, c1.seg, c2.seg, fun u hu => ?_⟩
  have hp := h1.pos
  refine Shp.of (by have := c1.l1; rw [List.take_length] at this; exact this) (by have := c2.l2; simpa using this) (by omega) ?_ h1.top h2.top c1.lP c2.lQ ?_
  · rw [c1.el, c2.el, e1, e2, hu, c1.eA, List.take_length, c2.eB]
    simp
  · intro y hy
    rw [hu] at hy
    rcases List.mem_append.1 hy with hy | hy
    · exact c1.ls y hy
    · exact c2.ls y hy
theorem Shp.rise {lv : List Int → Nat} {l : List It} {L : Nat} {segs : List (List It)} {xs : List It} (h : Shp lv l L segs xs) (hs : Srt l) : Srt xs := by
  rw [h.unique.2.2]
  exact List.Pairwise.filter _ hs
end Go.Proofs.YtnicnfjickknjaaGreatDoor

namespace Go
section
variable {P : Program} {ops : Array Oper} {S : World → Prop} {Q : Exit → Act → World → Prop} {fuel : Nat} {listed : Array Bool} {a : Act} {w : World}
/-- Take number i first. -/
theorem hr_take (i : Nat) (d : Option Tmp) (v : Value) {oi : Oper} (hi : ops[i]? = some oi) (hd : oi.dst = d) (hs : Region.noSelect ops = true) (hf : Region.free .any ops listed i = true) (hr : (Region.ready .any ops listed).contains i = true)
    (hg : oi.guard = none) (hrun : ∀ W, S W → (execOp a.eval oi).run P W = .ok (.value v) W) (hS : S w) (h : wpAnyH P .any ops (NoPanic Q) S fuel (listed.setIfInBounds i true) (a.put d v) w) : wpAnyH P .any ops (NoPanic Q) S (fuel + 1) listed a w :=
  wpAnyH_take hi hs hf hr (fun _ _ _ h => h) (.inl ⟨by simp [Region.wanted, hg], hrun⟩) hS (by rw [hd]; exact h)
theorem hr_take_w (i : Nat) (d : Option Tmp) (v : Value) {oi : Oper} (hi : ops[i]? = some oi) (hd : oi.dst = d) (hs : Region.noSelect ops = true) (hf : Region.free .any ops listed i = true) (hr : (Region.ready .any ops listed).contains i = true)
    (hw : Region.wanted oi (yielded ops a.tmps) = true) (hrun : ∀ W, S W → (execOp a.eval oi).run P W = .ok (.value v) W) (hS : S w) (h : wpAnyH P .any ops (NoPanic Q) S fuel (listed.setIfInBounds i true) (a.put d v) w) : wpAnyH P .any ops (NoPanic Q) S (fuel + 1) listed a w :=
  wpAnyH_take hi hs hf hr (fun _ _ _ h => h) (.inl ⟨hw, hrun⟩) hS (by rw [hd]; exact h)
/-- Number i's guard says no. -/
theorem hr_none (i : Nat) (d : Option Tmp) {oi : Oper} (hi : ops[i]? = some oi) (hd : oi.dst = d) (hs : Region.noSelect ops = true) (hf : Region.free .any ops listed i = true) (hr : (Region.ready .any ops listed).contains i = true)
    (hw : Region.wanted oi (yielded ops a.tmps) = false) (hS : S w) (h : wpAnyH P .any ops (NoPanic Q) S fuel (listed.setIfInBounds i true) (a.put d undef) w) : wpAnyH P .any ops (NoPanic Q) S (fuel + 1) listed a w :=
  wpAnyH_take hi hs hf hr (fun _ _ _ h => h) (.inr ⟨hw, rfl⟩) hS (by rw [hd]; exact h)
/-- Carry number i out: no other may come up. -/
theorem hr_do (i : Nat) (d : Option Tmp) (v : Value) {oi : Oper} {w' : World} (hi : ops[i]? = some oi) (hd : oi.dst = d) (hr : Region.ready .any ops listed = [i]) (hg : oi.guard = none) (hrun : (execOp a.eval oi).run P w = .ok (.value v) w') (hS : S w')
    (h : wpAnyH P .any ops (NoPanic Q) S fuel (listed.setIfInBounds i true) (a.put d v) w') : wpAnyH P .any ops (NoPanic Q) S (fuel + 1) listed a w := by
  refine wpAnyH_all hr (by simp) fun j hj => ?_
  obtain rfl := List.mem_singleton.1 hj
  have hw : Region.wanted oi (yielded ops a.tmps) = true := by simp [Region.wanted, hg]
  unfold wpOp
  simp only [hi, hw, if_true, Oper.wp, hrun, Oper.upon, hd]
  exact .inl ⟨hS, h⟩
theorem hr_skip (i : Nat) (d : Option Tmp) {oi : Oper} {w' : World} (hi : ops[i]? = some oi) (hd : oi.dst = d) (hr : Region.ready .any ops listed = [i]) (hg : oi.guard = none) (hrun : (execOp a.eval oi).run P w = .ok .skip w') (hS : S w')
    (h : wpAnyH P .any ops (NoPanic Q) S fuel (listed.setIfInBounds i true) (a.put d undef) w') : wpAnyH P .any ops (NoPanic Q) S (fuel + 1) listed a w := by
  refine wpAnyH_all hr (by simp) fun j hj => ?_
  obtain rfl := List.mem_singleton.1 hj
  have hw : Region.wanted oi (yielded ops a.tmps) = true := by simp [Region.wanted, hg]
  unfold wpOp
  simp only [hi, hw, if_true, Oper.wp, hrun, Oper.upon, hd]
  exact .inl ⟨hS, h⟩
theorem hr_skip_ex (i : Nat) (d : Option Tmp) {oi : Oper} {R : World → Prop} (hi : ops[i]? = some oi) (hd : oi.dst = d) (hr : Region.ready .any ops listed = [i]) (hg : oi.guard = none) (hrun : ∃ w', (execOp a.eval oi).run P w = .ok .skip w' ∧ R w')
    (h : ∀ w', R w' → S w' ∧ wpAnyH P .any ops (NoPanic Q) S fuel (listed.setIfInBounds i true) (a.put d undef) w') : wpAnyH P .any ops (NoPanic Q) S (fuel + 1) listed a w := by
  obtain ⟨w', h1, h2⟩ := hrun
  exact hr_skip i d hi hd hr hg h1 (h w' h2).1 (h w' h2).2
/-- .. a call. -/
theorem hr_call (i : Nat) (d : Option Tmp) {oi : Oper} (f : FuncId) (args : Array Value) (hi : ops[i]? = some oi) (hd : oi.dst = d) (hr : Region.ready .any ops listed = [i]) (hg : oi.guard = none) (hrun : (execOp a.eval oi).run P w = .ok (.enter f args) w)
    (R : Value → World → Prop) (hc : Calls P f args w fun e w' => ∃ v, e = .returned v ∧ R v w')
    (h : ∀ v w', R v w' → S w' ∧ wpAnyH P .any ops (NoPanic Q) S fuel (listed.setIfInBounds i true) (a.put d v) w') : wpAnyH P .any ops (NoPanic Q) S (fuel + 1) listed a w := by
  refine wpAnyH_all hr (by simp) fun j hj => ?_
  obtain rfl := List.mem_singleton.1 hj
  have hw : Region.wanted oi (yielded ops a.tmps) = true := by simp [Region.wanted, hg]
  unfold wpOp
  simp only [hi, hw, if_true, Oper.wp, hrun, Oper.upon, hd]
  refine .inl (hc.mono ?_)
  rintro e w' ⟨v, rfl, hR⟩
  exact h v w' hR
theorem hr_call_w (i : Nat) (d : Option Tmp) {oi : Oper} (f : FuncId) (args : Array Value) (hi : ops[i]? = some oi) (hd : oi.dst = d) (hr : Region.ready .any ops listed = [i]) (hw : Region.wanted oi (yielded ops a.tmps) = true) (hrun : (execOp a.eval oi).run P w = .ok (.enter f args) w)
    (R : Value → World → Prop) (hc : Calls P f args w fun e w' => ∃ v, e = .returned v ∧ R v w')
    (h : ∀ v w', R v w' → S w' ∧ wpAnyH P .any ops (NoPanic Q) S fuel (listed.setIfInBounds i true) (a.put d v) w') : wpAnyH P .any ops (NoPanic Q) S (fuel + 1) listed a w := by
  refine wpAnyH_all hr (by simp) fun j hj => ?_
  obtain rfl := List.mem_singleton.1 hj
  unfold wpOp
  simp only [hi, hw, if_true, Oper.wp, hrun, Oper.upon, hd]
  refine .inl (hc.mono ?_)
  rintro e w' ⟨v, rfl, hR⟩
  exact h v w' hR
end
end Go

namespace Go
section
variable {P : Program} {ops : Array Oper} {S : World → Prop} {Q : Exit → Act → World → Prop} {fuel : Nat} {listed : Array Bool} {a : Act} {w : World}
/-- Carry number i out, whatever it yields. -/
theorem hr_ex (i : Nat) (d : Option Tmp) {oi : Oper} {R : Value → World → Prop} (hi : ops[i]? = some oi) (hd : oi.dst = d) (hr : Region.ready .any ops listed = [i]) (hw : Region.wanted oi (yielded ops a.tmps) = true)
    (hrun : ∃ v w', (execOp a.eval oi).run P w = .ok (.value v) w' ∧ R v w')
    (h : ∀ v w', R v w' → S w' ∧ wpAnyH P .any ops (NoPanic Q) S fuel (listed.setIfInBounds i true) (a.put d v) w') : wpAnyH P .any ops (NoPanic Q) S (fuel + 1) listed a w := by
  refine wpAnyH_all hr (by simp) fun j hj => ?_
  obtain rfl := List.mem_singleton.1 hj
  obtain ⟨v, w', hrun, hR⟩ := hrun
  unfold wpOp
  simp only [hi, hw, if_true, Oper.wp, hrun, Oper.upon, hd]
  exact .inl (h v w' hR)
/-- The same where several may come up. -/
theorem op_ex (i : Nat) (d : Option Tmp) {oi : Oper} {R : Value → World → Prop} (hi : ops[i]? = some oi) (hd : oi.dst = d) (hw : Region.wanted oi (yielded ops a.tmps) = true)
    (hrun : ∃ v w', (execOp a.eval oi).run P w = .ok (.value v) w' ∧ R v w')
    (h : ∀ v w', R v w' → S w' ∧ wpAnyH P .any ops (NoPanic Q) S fuel (listed.setIfInBounds i true) (a.put d v) w') : wpOp P ops (NoPanic Q) i (fun a' w' => S w' ∧ wpAnyH P .any ops (NoPanic Q) S fuel (listed.setIfInBounds i true) a' w') a w := by
  obtain ⟨v, w', hrun, hR⟩ := hrun
  unfold wpOp
  simp only [hi, hw, if_true, Oper.wp, hrun, Oper.upon, hd]
  exact .inl (h v w' hR)
theorem op_calls (i : Nat) (d : Option Tmp) {oi : Oper} (f : FuncId) (args : Array Value) (hi : ops[i]? = some oi) (hd : oi.dst = d) (hw : Region.wanted oi (yielded ops a.tmps) = true) (hrun : (execOp a.eval oi).run P w = .ok (.enter f args) w)
    (R : Value → World → Prop) (hc : Calls P f args w fun e w' => ∃ v, e = .returned v ∧ R v w')
    (h : ∀ v w', R v w' → S w' ∧ wpAnyH P .any ops (NoPanic Q) S fuel (listed.setIfInBounds i true) (a.put d v) w') : wpOp P ops (NoPanic Q) i (fun a' w' => S w' ∧ wpAnyH P .any ops (NoPanic Q) S fuel (listed.setIfInBounds i true) a' w') a w := by
  unfold wpOp
  simp only [hi, hw, if_true, Oper.wp, hrun, Oper.upon, hd]
  refine .inl (hc.mono ?_)
  rintro e w' ⟨v, rfl, hR⟩
  exact h v w' hR
theorem hr_any {rs : List Nat} (hr : Region.ready .any ops listed = rs) (hne : rs ≠ []) (h : ∀ i ∈ rs, wpOp P ops (NoPanic Q) i (fun a' w' => S w' ∧ wpAnyH P .any ops (NoPanic Q) S fuel (listed.setIfInBounds i true) a' w') a w) : wpAnyH P .any ops (NoPanic Q) S (fuel + 1) listed a w :=
  wpAnyH_all hr hne h
end
end Go
namespace Go.Proofs.YtnicnfjickknjaaGreatDoor
open Go.RowKit
theorem Addr.add_nought (a : Addr) : a.add 0 = a := by
  obtain ⟨b, o, s⟩ := a
  cases s <;> simp [Addr.add]
/-- l[:i:c] -/
theorem run_front {P : Program} {W : World} {t e : TypeId} {ao : Option Addr} {n cap i c : Nat} (ht : P.underlying t = some (.slice e)) (h1 : i ≤ c) (h2 : c ≤ cap) (hs : ∀ w, (sizeOf e).run P w = .ok 1 w) :
    (Instr.sliceAt t (.slice ao n cap) none (some (.int .i64 (i : Nat))) (some (.int .i64 (c : Nat)))).run P W = .ok (.slice ao i c) W := by
  have he : P.elem t = e := by simp [Program.elem, ht]
  rw [run_sliceAt_slice W t _ _ _ _ (by rw [he]; exact ht), run_slice_hm W t ao n cap (by rw [he]; exact ht) .i64 .i64 i c (by omega) (by omega) (by omega), he, hs]
  simp only [Result.andThen_ok, sliced, Int.toNat_natCast, Nat.zero_mul, Nat.sub_zero]
  cases ao with
  | none => simp
  | some a => simp [Addr.add_nought]
/-- l[:i] -/
theorem run_upto {P : Program} {W : World} {t e : TypeId} {ao : Option Addr} {n cap i : Nat} (ht : P.underlying t = some (.slice e)) (h1 : i ≤ cap) (hs : ∀ w, (sizeOf e).run P w = .ok 1 w) :
    (Instr.sliceAt t (.slice ao n cap) none (some (.int .i64 (i : Nat))) none).run P W = .ok (.slice ao i cap) W := by
  have he : P.elem t = e := by simp [Program.elem, ht]
  rw [run_sliceAt_slice W t _ _ _ _ (by rw [he]; exact ht), run_slice_h W t ao n cap (by rw [he]; exact ht) .i64 i (by omega) (by omega), he, hs]
  simp only [Result.andThen_ok, sliced, Int.toNat_natCast, Nat.zero_mul, Nat.sub_zero]
  cases ao with
  | none => simp
  | some a => simp [Addr.add_nought]
/-- Where l[j:] lies. -/
def bk (ao : Option Addr) (cap j : Nat) : Option Addr := if cap = j then ao else ao.map (·.add j)
/-- l[j:] -/
theorem run_back {P : Program} {W : World} {t e : TypeId} {ao : Option Addr} {n cap j : Nat} (ht : P.underlying t = some (.slice e)) (h1 : j ≤ n) (hs : ∀ w, (sizeOf e).run P w = .ok 1 w) :
    (Instr.sliceAt t (.slice ao n cap) (some (.int .i64 (j : Nat))) none none).run P W = .ok (.slice (bk ao cap j) (n - j) (cap - j)) W := by
  have he : P.elem t = e := by simp [Program.elem, ht]
  rw [run_sliceAt_slice W t _ _ _ _ (by rw [he]; exact ht), run_slice_l W t ao n cap (by rw [he]; exact ht) .i64 j (by omega) (by omega), he, hs]
  simp only [Result.andThen_ok, sliced, Int.toNat_natCast, Nat.mul_one, bk]
theorem VL.from {w : World} {ao : Option Addr} {n cap : Nat} {vs : List Value} (h : VL w ao n cap vs) (j : Nat) (hj : j ≤ n) : VL w (bk ao cap j) (n - j) (cap - j) (vs.drop j) := by
  cases ao with
  | some a => 
    have := h.back j hj
    unfold bk
    by_cases hc : cap = j
    · rw [if_pos hc] at this ⊢
      exact this
    · rw [if_neg hc] at this ⊢
      exact this
  | none =>
    obtain ⟨rfl, rfl⟩ := h.nil rfl
    obtain rfl : j = 0 := by omega
    obtain rfl : vs = [] := List.eq_nil_of_length_eq_zero h.len
    exact VL.nothing w
theorem size1 (e : TypeId) (h : (Tryz.prog.info? e).map (·.size) = some 1) (w : World) : (sizeOf e).run Tryz.prog w = .ok 1 w := by
  cases hi : Tryz.prog.info? e with
  | none => rw [hi] at h; simp at h
  | some i =>
    rw [hi] at h
    simp only [Option.map_some, Option.some.injEq] at h
    simp [sizeOf, typeInfo, hi, h]
end Go.Proofs.YtnicnfjickknjaaGreatDoor

namespace Go.Proofs.YtnicnfjickknjaaGreatDoor
open Go.RowKit

theorem sb_push (s : ByteArray) (b : UInt8) : sb (s.push b) = sb s ++ [(b.toNat : Int)] := by
  simp [sb, ByteArray.push]
theorem load_bytes {w : World} : ∀ (n : Nat) (a : Addr) (xs : List Int) (acc : ByteArray), xs.length = n → Byt xs → (∀ i, i < n → w.cell? (a.add i) = some (.int .u8 (xs.getD i 0))) →
    ∃ s, (Extern.Bytes.loadBytes a n acc).run Tryz.prog w = .ok s w ∧ sb s = sb acc ++ xs
  | 0, a, xs, acc, hl, _, _ => by
    obtain rfl : xs = [] := List.eq_nil_of_length_eq_zero hl
    exact ⟨acc, rfl, by simp⟩
  | n + 1, a, [], acc, hl, _, _ => by simp at hl
  | n + 1, a, x :: xs, acc, hl, hb, hc => by
    have h0 := hc 0 (by omega)
    rw [Addr.add_nought] at h0
    have hx := hb x (List.mem_cons_self ..)
    obtain ⟨s, h1, h2⟩ := load_bytes n (a.add 1) xs (acc.push x.toNat.toUInt8) (by simpa using hl) (fun y hy => hb y (List.mem_cons_of_mem _ hy)) (fun i hi => by
      have := hc (i + 1) (by omega)
      rw [Addr.add_add, Nat.add_comm 1 i, this]
      simp)
    refine ⟨s, ?_, ?_⟩
    · have h0' : w.cell? a = some (.int .u8 x) := by simpa using h0
      unfold Extern.Bytes.loadBytes
      simp only [Sem.run_bind, run_load, h0', Result.andThen_ok]
      exact h1
    · rw [h2, sb_push, List.append_assoc]
      congr 1
      simp
      omega
theorem cmp_sb (a b : List UInt8) : Lib.compareBytes a b = cmpL (a.map fun c => (c.toNat : Int)) (b.map fun c => (c.toNat : Int)) := by
  induction a generalizing b with
  | nil => cases b <;> rfl
  | cons x a ih =>
    cases b with
    | nil => rfl
    | cons y b =>
      have hxy : x < y ↔ (x.toNat : Int) < y.toNat := by rw [UInt8.lt_iff_toNat_lt]; omega
      have hyx : y < x ↔ (y.toNat : Int) < x.toNat := by rw [UInt8.lt_iff_toNat_lt]; omega
      simp only [Lib.compareBytes, List.map_cons, cmpL, ih]
      by_cases h1 : x < y
      · have := hxy.1 h1
        rw [if_pos h1, if_neg (by omega), if_pos (by omega)]
      · rw [if_neg h1]
        by_cases h2 : y < x
        · have := hyx.1 h2
          rw [if_pos h2, if_neg (by omega), if_neg (by omega)]
        · have h3 : ¬ (x.toNat : Int) < y.toNat := fun h => h1 (hxy.2 h)
          have h4 : ¬ (y.toNat : Int) < x.toNat := fun h => h2 (hyx.2 h)
          rw [if_neg h2, if_pos (by omega)]
theorem bytes_of {w : World} {ao : Option Addr} {n cap : Nat} {xs : List Int} (h : Sl w ao n cap xs) : ∃ s, (Extern.Bytes.bytesOf (.slice ao n cap)).run Tryz.prog w = .ok s w ∧ sb s = xs := by
  cases ao with
  | none =>
    obtain ⟨rfl, rfl⟩ := h.nil rfl
    obtain rfl : xs = [] := List.eq_nil_of_length_eq_zero h.len
    exact ⟨_, rfl, rfl⟩
  | some a =>
    obtain ⟨s, h1, h2⟩ := load_bytes n a xs .empty h.len h.byte (h.cell a rfl)
    exact ⟨s, h1, by rw [h2]; rfl⟩
theorem bcmp_any (w : World) (ao bo : Option Addr) (n cap m cap2 : Nat) (xs ys : List Int) (h : Sl w ao n cap xs) (h2 : Sl w bo m cap2 ys) :
    Calls Tryz.prog 95 #[.slice ao n cap, .slice bo m cap2] w fun e w' => e = .returned (.int .i64 (cmpL xs ys)) ∧ w' = w := by
  have hcall : (callFunc 115 #[.slice ao n cap, .slice bo m cap2]).run Tryz.prog w = .ok (.value (.int .i64 (cmpL xs ys))) w := by
    rw [run_callFunc_extern Tryz.func115 (by kernel_rfl) (by kernel_rfl) (by kernel_rfl) (e := Extern.BytealgCompare.compare) (by kernel_rfl)]
    obtain ⟨s, h3, h4⟩ := bytes_of h
    obtain ⟨t, h5, h6⟩ := bytes_of h2
    have e : (Extern.BytealgCompare.compare #[.slice ao n cap, .slice bo m cap2]).run Tryz.prog w = .ok (.int .i64 (cmpL xs ys)) w := by
      change Sem.run Tryz.prog (do pure (goInt (Extern.BytealgCompare.cmp (← Extern.Bytes.bytesOf (.slice ao n cap)) (← Extern.Bytes.bytesOf (.slice bo m cap2))))) w = _
      simp only [Sem.run_bind, h3, h5, Sem.run_pure, Result.andThen]
      rw [Lib.cmp_eq, cmp_sb, ← h4, ← h6]
      rfl
    rw [e]
    rfl
  go_enter Tryz.func95, Tryz.ntmps95
  go_wp2
  go_ret
  exact ⟨rfl, rfl⟩
end Go.Proofs.YtnicnfjickknjaaGreatDoor

namespace Go.Proofs.YtnicnfjickknjaaGreatDoor
open Go.RowKit

/-- Where a key stands among some that rise: how many are below it; is it one of them? -/
structure At (ks : List Part) (key : List Int) (i : Nat) (b : Bool) : Prop where
  le : i ≤ ks.length
  lo : ∀ j (h : j < ks.length), j < i → cmpL ks[j].xs key < 0
  hi : ∀ j (h : j < ks.length), i ≤ j → ¬ cmpL ks[j].xs key < 0
  eq : b = true ↔ ∃ h : i < ks.length, ks[i].xs = key

/-- What a search answers. -/
def Found (w : World) (ks : List Part) (key : List Int) (e : Ending) (w' : World) : Prop := ∃ (i : Nat) (b : Bool), e = .returned (.tuple #[.int .i64 (i : Nat), .bool b]) ∧ At ks key i b ∧ Below w.heap.size w w'

set_option maxHeartbeats 1000000 in
set_option maxRecDepth 100000 in
theorem bsf_any (w : World) (ko xo : Option Addr) (n kc m xc : Nat) (ks : List Part) (key : List Int) (h : KL w ko n kc ks) (hx : Sl w xo m xc key) (hs : ks.Pairwise fun a b => cmpL a.xs b.xs < 0) (hn : n ≤ 1000000) :
    Calls Tryz.prog 103 #[.slice ko n kc, .slice xo m xc, .func (.func 95) #[] #[]] w (Found w ks key) := by
  have hl := h.len
  have hni : (n : Int) ≤ 1000000 := by omega
  go_enter Tryz.func103, Tryz.ntmps103
  go_wp2
  go_loopw [9, 10] (fun a b wr => ∃ i j : Nat, i ≤ j ∧ j ≤ n ∧ a = .int .i64 i ∧ b = .int .i64 j ∧ wr = w ∧ (∀ t (h : t < ks.length), t < i → cmpL ks[t].xs key < 0) ∧ (∀ t (h : t < ks.length), j ≤ t → ¬ cmpL ks[t].xs key < 0)) (fun a b _ => (intOf b).toNat - (intOf a).toNat)
  case atStart => exact ⟨0, n, Nat.zero_le _, Nat.le_refl _, rfl, rfl, rfl, fun t _ ht => by omega, fun t h1 h2 => by omega⟩
  case round =>
    obtain ⟨i, j, hij, hj, rfl, rfl, rfl, h1, h2⟩ := hrel
    by_cases hlt : i < j
    · have hlt' : (i : Int) < (j : Int) := by omega
      obtain ⟨b, off, rfl, hc⟩ := h.vl.at (by omega)
      have c1 := hc ((i + j) / 2) (by simp; omega)
      have S1 := h.sl (ks[(i + j) / 2]'(by omega)) (List.getElem_mem _)
      obtain ⟨q, hq⟩ : ∃ q, q = ks[(i + j) / 2]'(by omega) := ⟨_, rfl⟩
      have H1 : Hid (∀ t (h : t < ks.length), t < i → cmpL ks[t].xs key < 0) := h1
      have H2 : Hid (∀ t (h : t < ks.length), j ≤ t → ¬ cmpL ks[t].xs key < 0) := h2
      simp only [List.getElem_map] at c1
      rw [← hq] at S1 c1
      have HQ : Hid (q = ks[(i + j) / 2]'(by omega)) := hq
      clear hq hc h1 h2
      unfold Part.val at c1
      go_wp2_with (go_at_call 95; refine (bcmp_any wr q.ao xo q.n q.cap m xc q.xs key S1 hx).mono ?_; rintro e w2 ⟨rfl, hw⟩; obtain rfl := hw.symm; obtain ⟨c, hcq⟩ : ∃ c, c = cmpL q.xs key := ⟨_, rfl⟩; rw [← hcq]; have HC : Hid (c = cmpL q.xs key) := hcq; clear hcq)
      · have hneg : c < 0 := by assumption
        go_roundw
        case rel =>
          refine ⟨(i + j) / 2 + 1, j, by omega, hj, by go_num, rfl, trivial, fun t ht hti => ?_, fun t ht htj => by have := H2.out t ht htj; omega⟩
          have hq := HQ.out
          have hc := HC.out
          by_cases hth : t = (i + j) / 2
          · subst hth
            rw [← hq, ← hc]
            exact hneg
          · have h3 := List.pairwise_iff_getElem.1 hs t ((i + j) / 2) ht (by omega) (by omega)
            rw [← hq] at h3
            exact cmpL_lt_trans _ _ _ h3 (by rw [← hc]; exact hneg)
        case measure => simp [intOf]; omega
      · have hpos : ¬ c < 0 := by omega
        go_roundw
        case rel =>
          refine ⟨i, (i + j) / 2, by omega, by omega, rfl, by go_num, trivial, H1.out, fun t ht hti => ?_⟩
          have hq := HQ.out
          have hc := HC.out
          by_cases hth : t = (i + j) / 2
          · subst hth
            rw [← hq, ← hc]
            exact hpos
          · intro h4
            have h3 := List.pairwise_iff_getElem.1 hs ((i + j) / 2) t (by omega) ht (by omega)
            rw [← hq] at h3
            have := cmpL_lt_trans _ _ _ h3 h4
            rw [← hc] at this
            exact hpos this
        case measure => simp [intOf]; omega
    · obtain rfl : i = j := by omega
      have H1 : Hid (∀ t (h : t < ks.length), t < i → cmpL ks[t].xs key < 0) := h1
      have H2 : Hid (∀ t (h : t < ks.length), i ≤ t → ¬ cmpL ks[t].xs key < 0) := h2
      clear h1 h2
      by_cases hin : i < n
      · have hin' : (i : Int) < (n : Int) := by omega
        obtain ⟨b, off, rfl, hc⟩ := h.vl.at (by omega)
        have c1 := hc i (by simp; omega)
        have hil : i < ks.length := by omega
        have S1 := h.sl ks[i] (List.getElem_mem hil)
        obtain ⟨q, hq⟩ : ∃ q, q = ks[i] := ⟨_, rfl⟩
        simp only [List.getElem_map] at c1
        rw [← hq] at S1 c1
        have HQ : Hid (q = ks[i]) := hq
        clear hq hc
        unfold Part.val at c1
        go_wp2_with (go_at_call 95; refine (bcmp_any wr q.ao xo q.n q.cap m xc q.xs key S1 hx).mono ?_; rintro e w2 ⟨rfl, hw⟩; obtain rfl := hw.symm; obtain ⟨c, hcq⟩ : ∃ c, c = cmpL q.xs key := ⟨_, rfl⟩; rw [← hcq]; have HC : Hid (c = cmpL q.xs key) := hcq; clear hcq)
        go_ret2
        refine ⟨i, _, rfl, ⟨by omega, H1.out, fun j h k => by have := H2.out j h k; omega, ?_⟩, Below.refl _ _⟩
        have hq := HQ.out
        have hc := HC.out
        constructor
        · intro hb
          have : c = 0 := by simpa using hb
          exact ⟨hil, by rw [← hq]; exact cmpL_eq _ _ (by rw [← hc]; exact this)⟩
        · rintro ⟨_, he⟩
          rw [← hq] at he
          have : c = 0 := by rw [hc, he]; exact cmpL_self _
          simpa using this
      · have hin' : ¬ (i : Int) < (n : Int) := by omega
        go_wp2
        go_ret2
        refine ⟨i, false, rfl, ⟨by omega, H1.out, fun j h k => by have := H2.out j h k; omega, ?_⟩, Below.refl _ _⟩
        constructor
        · intro hb
          simp at hb
        · rintro ⟨hb, _⟩
          omega

/-- tree.place, of a node whose keys rise. -/
theorem place_any (w : World) (d : Nd) (h : d.ok w) (xo : Option Addr) (m xc : Nat) (key : List Int) (hx : Sl w xo m xc key) (hs : d.ks.Pairwise fun a b => cmpL a.xs b.xs < 0) (hn : d.ks.length ≤ 1000000) :
    Calls Tryz.prog 79 #[d.ptr, .slice xo m xc] w (Found w d.ks key) := by
  have c1 := h.c1
  have hk := h.kl
  unfold Nd.ptr
  go_enter Tryz.func79, Tryz.ntmps79
  go_wp2_with fail
  refine (bsf_any w d.ko xo d.ks.length d.kc m xc d.ks key hk hx hs hn).mono ?_
  rintro e w' ⟨i, b, rfl, hat, hb⟩
  go_wp2
  go_ret2
  exact ⟨i, b, rfl, hat, hb⟩
end Go.Proofs.YtnicnfjickknjaaGreatDoor

namespace Go.Proofs.YtnicnfjickknjaaGreatDoor
open Go.RowKit

/-- The values cs are the trees of segs, one by one. -/
structure Kids (w : World) (cs : List Value) (segs : List (List It)) : Prop where
  len : cs.length = segs.length
  kid : ∀ (i : Nat) (s : List It), segs[i]? = some s → ∃ u, cs[i]? = some u ∧ T w u s
section
variable {w w' : World} {cs ds : List Value} {segs regs : List (List It)}
theorem Kids.below (h : Kids w cs segs) (hb : Below w.heap.size w w') : Kids w' cs segs := ⟨h.len, fun i s hi => by obtain ⟨u, hu, ht⟩ := h.kid i s hi; exact ⟨u, hu, ht.below hb⟩⟩
theorem Kids.nil (w : World) : Kids w [] [] := ⟨rfl, fun i s h => by simp at h⟩
theorem Kids.app (h : Kids w cs segs) (k : Kids w ds regs) : Kids w (cs ++ ds) (segs ++ regs) := by
  have hl := h.len
  refine ⟨by rw [List.length_append, List.length_append, h.len, k.len], fun i s hi => ?_⟩
  by_cases hlt : i < segs.length
  · rw [List.getElem?_append_left hlt] at hi
    rw [List.getElem?_append_left (by omega)]
    exact h.kid i s hi
  · rw [List.getElem?_append_right (by omega)] at hi
    rw [List.getElem?_append_right (by omega), hl]
    exact k.kid _ s hi
theorem Kids.one {u : Value} {s : List It} (h : T w u s) : Kids w [u] [s] := ⟨rfl, fun i t hi => by
  cases i with
  | zero => simp at hi; subst hi; exact ⟨u, rfl, h⟩
  | succ i => simp at hi⟩
theorem Kids.cons {u : Value} {s : List It} (h : T w u s) (k : Kids w cs segs) : Kids w (u :: cs) (s :: segs) := (Kids.one h).app k
theorem Kids.take (h : Kids w cs segs) (n : Nat) : Kids w (cs.take n) (segs.take n) := by
  refine ⟨by simp [h.len], fun i s hi => ?_⟩
  rw [List.getElem?_take] at hi ⊢
  split at hi
  · rename_i hlt
    rw [if_pos hlt]
    exact h.kid i s hi
  · simp at hi
theorem Kids.drop (h : Kids w cs segs) (n : Nat) : Kids w (cs.drop n) (segs.drop n) := by
  refine ⟨by simp [h.len], fun i s hi => ?_⟩
  rw [List.getElem?_drop] at hi ⊢
  exact h.kid _ s hi
theorem Kids.oneCell (h : Kids w cs segs) : ∀ u ∈ cs, u.oneCell' = true := fun u hu => by
  obtain ⟨i, hi, rfl⟩ := List.mem_iff_getElem.1 hu
  have hs : i < segs.length := by rw [← h.len]; exact hi
  obtain ⟨u, hu, ht⟩ := h.kid i segs[i] (List.getElem?_eq_getElem hs)
  rw [List.getElem?_eq_getElem hi] at hu
  rw [Option.some.inj hu]
  exact ht.one
end
theorem Nod.kids {w : World} {l : List It} {d : Nd} {segs : List (List It)} {xs : List It} (h : Nod w l d segs xs) : Kids w d.cs segs := ⟨h.ec, h.kid⟩

/-- A list of keys or values out of what 'changed' answers. -/
theorem KL.of {w : World} {ao : Option Addr} {n cap : Nat} {vs : List Value} {ps : List Part} (h : VL w ao n cap vs) (e : vs = ps.map Part.val) (hs : ∀ q ∈ ps, Sl w q.ao q.n q.cap q.xs) : KL w ao n cap ps := ⟨by rw [← e]; exact h, hs⟩
theorem KL.front {w : World} {ao : Option Addr} {n cap : Nat} {ps : List Part} (h : KL w ao n cap ps) (i c : Nat) (hi : i ≤ n) (hc : i ≤ c) (hcc : c ≤ cap) : KL w ao i c (ps.take i) :=
  ⟨by rw [List.map_take]; exact h.vl.front i c hi hc hcc, fun q hq => h.sl q (List.mem_of_mem_take hq)⟩
theorem KL.from {w : World} {ao : Option Addr} {n cap : Nat} {ps : List Part} (h : KL w ao n cap ps) (j : Nat) (hj : j ≤ n) : KL w (bk ao cap j) (n - j) (cap - j) (ps.drop j) :=
  ⟨by rw [List.map_drop]; exact h.vl.from j hj, fun q hq => h.sl q (List.mem_of_mem_drop hq)⟩

theorem T.ptr {w : World} {v : Value} {l : List It} (h : T w v l) : ∃ po, v = .pointer po := by
  rcases h.is with ⟨_, rfl⟩ | ⟨d, segs, xs, rfl, _⟩
  · exact ⟨_, rfl⟩
  · exact ⟨_, rfl⟩
theorem wrap_nat {k : Nat} (h : k ≤ 1000000000) : IntKind.i64.wrap (k : Int) = k := by
  simp [IntKind.wrap, IntKind.bits, IntKind.signed]
  omega

/-- A tree of the items l is answered, in new memory. -/
def RetT (w : World) (l : List It) (e : Ending) (w' : World) : Prop := ∃ v, e = .returned v ∧ T w' v l ∧ Below w.heap.size w w'

/-- A new node, its lists told by what they hold. -/
theorem T.make {w : World} {g : Nat} {l : List It} {L : Nat} {ko vo co : Option Addr} {kn kc vn vc cn cc : Nat} {t : TypeId} {ks vs : List Part} {cs : List Value} {segs : List (List It)} {xs : List It}
    (hg : w.heap[g]? = some (.cells #[.int .i64 L, .slice ko kn kc, .slice vo vn vc, .slice co cn cc] t))
    (hk : KL w ko kn kc ks) (hv : KL w vo vn vc vs) (hc : VL w co cn cc cs) (hs : Shp lev l L segs xs) (ek : ks.map Part.xs = xs.map It.k) (ev : vs.map Part.xs = xs.map It.v) (kid : Kids w cs segs) : T w (.pointer (some ⟨g, 0, Option.none⟩)) l :=
  Nod.make hg hk hv hc hs ek ev kid.len kid.kid
section
variable {w : World} {l : List It} {d : Nd} {segs : List (List It)} {xs : List It}
/-- The keys of a node rise. -/
theorem Nod.rise (h : Nod w l d segs xs) (hs : Srt l) : d.ks.Pairwise fun a b => cmpL a.xs b.xs < 0 := by
  have h1 : (xs.map It.k).Pairwise fun a b => cmpL a b < 0 := List.pairwise_map.2 (h.shp.rise hs)
  rw [← h.ek] at h1
  exact List.pairwise_map.1 h1
theorem Nod.keyAt (h : Nod w l d segs xs) (i : Nat) (hk : i < d.ks.length) (hx : i < xs.length) : d.ks[i].xs = xs[i].k := by
  have := congrArg (·[i]?) h.ek
  simpa [hk, hx] using this
theorem Nod.valAt (h : Nod w l d segs xs) (i : Nat) (hk : i < d.vs.length) (hx : i < xs.length) : d.vs[i].xs = xs[i].v := by
  have := congrArg (·[i]?) h.ev
  simpa [hk, hx] using this
/-- What a search in a node's keys tells of its items. -/
theorem Nod.found (h : Nod w l d segs xs) (hs : Srt l) {key : List Int} {i : Nat} {b : Bool} (ha : At d.ks key i b) : ∃ s A B, Cut lev l d.L segs xs i s A B ∧ (∀ x ∈ A, cmpL x.k key < 0) ∧ (∀ x ∈ B, ¬ cmpL x.k key < 0) ∧
    (b = false → ∀ x ∈ B, cmpL key x.k < 0) ∧ (b = true → ∃ hi : i < xs.length, xs[i].k = key) := by
  have hn := h.nk
  obtain ⟨s, A, B, c⟩ := h.shp.cut i (by have := ha.le; omega)
  obtain ⟨h1, h2, h3⟩ := c.key hs (key := key) (fun j hj hji => by rw [← h.keyAt j (by omega) hj]; exact ha.lo j (by omega) hji) (fun j hj hij => by rw [← h.keyAt j (by omega) hj]; exact ha.hi j (by omega) hij)
  refine ⟨s, A, B, c, h1, h2, fun hb => h3 fun hi he => ?_, fun hb => ?_⟩
  · have : b = true := ha.eq.2 ⟨by omega, by rw [h.keyAt i (by omega) hi]; exact he⟩
    rw [hb] at this
    simp at this
  · obtain ⟨hi, he⟩ := ha.eq.1 hb
    exact ⟨by omega, by rw [← h.keyAt i hi (by omega)]; exact he⟩
end
end Go.Proofs.YtnicnfjickknjaaGreatDoor

namespace Go.Proofs.YtnicnfjickknjaaGreatDoor
open Go.RowKit

theorem own_nothing (w : World) : (w.alloc (.cells #[] 5)).ownsRow w.heap.size 5 1 (.slice (some ⟨w.heap.size, 0, none⟩) 0 0) 0 (bv []) :=
  World.ownsRow_made w #[] 0 (Nat.le_refl _) (Nat.zero_le _) rfl
/-- Bytes in new memory are answered. -/
def RetB (w : World) (n : Nat) (xs : List Int) (e : Ending) (w' : World) : Prop := ∃ ro rc, e = .returned (.slice ro n rc) ∧ Sl w' ro n rc xs ∧ Below w.heap.size w w'

set_option maxHeartbeats 400000 in
set_option maxRecDepth 100000 in
theorem own_any (w : World) (ao : Option Addr) (n cap : Nat) (xs : List Int) (h : Sl w ao n cap xs) (hn : n ≤ 1000000) :
    Calls Tryz.prog 96 #[.slice ao n cap] w (RetB w n xs) := by
  have B0 : Below w.heap.size w (w.alloc (.cells #[] 5)) := (Below.refl _ w).alloc (Nat.le_refl _) _
  have h0 := h.below B0
  have o0 := own_nothing w
  have hb := h.byte
  go_enter Tryz.func96, Tryz.ntmps96
  go_wp2_with (at_builtin; refine wpList_app rfl _ _ rfl w.heap.size _ _ _ rfl o0 _ _ _ _ rfl h0 (by omega) (by simp) ?_; intro v1 w1 own1 B1)
  simp only [Nat.zero_add, List.nil_append] at own1
  obtain ⟨ro, rc, rfl, S, -⟩ := Sl.own own1 hb
  go_wp2
  go_ret
  exact ⟨ro, rc, rfl, S, B0.trans B1⟩

/-- The value v is a tree (a handle) of the items l. -/
def TT (w : World) (v : Value) (l : List It) : Prop := (v = .pointer none ∧ l = []) ∨ ∃ b u, v = .pointer (some ⟨b, 0, none⟩) ∧ w.cell? ⟨b, 0, none⟩ = some u ∧ T w u l ∧ l ≠ []
theorem TT.nil (w : World) : TT w (.pointer none) [] := .inl ⟨rfl, rfl⟩
theorem TT.below {w w' : World} {v : Value} {l : List It} (h : TT w v l) (hb : Below w.heap.size w w') : TT w' v l := by
  rcases h with h | ⟨b, u, rfl, hc, ht, hl⟩
  · exact .inl h
  · exact .inr ⟨b, u, rfl, (hb.cell (World.block_lt_of_cell? _ _ hc)).trans hc, ht.below hb, hl⟩
theorem TT.ptr {w : World} {v : Value} {l : List It} (h : TT w v l) : ∃ po, v = .pointer po := by
  rcases h with ⟨rfl, _⟩ | ⟨b, u, rfl, _⟩
  · exact ⟨_, rfl⟩
  · exact ⟨_, rfl⟩
/-- A tree is answered, in new memory. -/
def RetTT (w : World) (l : List It) (e : Ending) (w' : World) : Prop := ∃ v, e = .returned v ∧ TT w' v l ∧ Below w.heap.size w w'

set_option maxHeartbeats 400000 in
set_option maxRecDepth 100000 in
theorem treeOf_any (w : World) (v : Value) (l : List It) (h : T w v l) : Calls Tryz.prog 123 #[v] w (RetTT w l) := by
  rcases h.is with ⟨rfl, rfl⟩ | ⟨d, segs, xs, rfl, hN⟩
  · go_enter Tryz.func123, Tryz.ntmps123
    go_wp2
    go_ret
    exact ⟨_, rfl, TT.nil _, Below.refl _ _⟩
  · have hne : l ≠ [] := by
      intro e
      subst e
      have h0 := hN.shp.pos
      have := hN.shp.key xs[0] (List.getElem_mem h0)
      simp at this
    unfold Nd.ptr at h ⊢
    go_enter Tryz.func123, Tryz.ntmps123
    go_wp2
    go_ret
    have B : Below w.heap.size w (w.alloc (.cells #[.pointer (some ⟨d.b, 0, none⟩)] 121)) := (Below.refl _ w).alloc (Nat.le_refl _) _
    exact ⟨_, rfl, .inr ⟨_, _, rfl, cell_one_new _ _ _ 0 _ (by simp), h.below B, hne⟩, B⟩

set_option maxHeartbeats 400000 in
set_option maxRecDepth 100000 in
theorem shared_any (w : World) (v : Value) (l : List It) (h : TT w v l) : Calls Tryz.prog 50 #[v] w fun e w' => ∃ po, e = .returned (.pointer po) ∧ T w (.pointer po) l ∧ w' = w := by
  rcases h with ⟨rfl, rfl⟩ | ⟨b, u, rfl, hc, ht, hl⟩
  · go_enter Tryz.func50, Tryz.ntmps50
    go_wp2
    go_ret
    exact ⟨_, rfl, T.nil _, rfl⟩
  · obtain ⟨po, rfl⟩ := ht.ptr
    go_enter Tryz.func50, Tryz.ntmps50
    go_wp2
    go_ret
    exact ⟨_, rfl, ht, rfl⟩
end Go.Proofs.YtnicnfjickknjaaGreatDoor

namespace Go.Proofs.YtnicnfjickknjaaGreatDoor
open Go.RowKit

/-- A slice of bytes: where it lies, its length and capacity, its bytes. -/
structure Bs where
  ao : Option Addr
  n : Nat
  cap : Nat
  xs : List Int
def Bs.val (b : Bs) : Value := .slice b.ao b.n b.cap
def Bs.ok (b : Bs) (w : World) : Prop := Sl w b.ao b.n b.cap b.xs
/-- An operation as it comes: its ten cells. -/
structure OA where
  kind : Int
  row : ByteArray
  fam : ByteArray
  qual : ByteArray
  time : Nat
  to : ByteArray
  va : Bs
  wa : Bs
  has : Bool
  so : Option Addr
  sn : Nat
  sc : Nat
def OA.cells (o : OA) : List Value := [.int .i64 o.kind, .string o.row, .string o.fam, .string o.qual, .int .u64 o.time, .string o.to, .slice o.va.ao o.va.n o.va.cap, .slice o.wa.ao o.wa.n o.wa.cap, .bool o.has, .slice o.so o.sn o.sc]
def OA.val (o : OA) : Value := .agg #[.int .i64 o.kind, .string o.row, .string o.fam, .string o.qual, .int .u64 o.time, .string o.to, .slice o.va.ao o.va.n o.va.cap, .slice o.wa.ao o.wa.n o.wa.cap, .bool o.has, .slice o.so o.sn o.sc]
def OA.s (o : OA) : SO := ⟨o.kind, o.row, o.fam, o.qual, o.time, o.to, o.va.xs, o.wa.xs, o.has⟩
structure OA.ok (o : OA) (w : World) : Prop where
  kind : -9223372036854775808 ≤ o.kind ∧ o.kind ≤ 9223372036854775807
  row : o.row.size ≤ maxLen
  fam : o.fam.size ≤ maxLen
  qual : o.qual.size ≤ maxLen
  time : o.time < 18446744073709551616
  to : o.to.size ≤ maxLen
  va : Sl w o.va.ao o.va.n o.va.cap o.va.xs
  wa : Sl w o.wa.ao o.wa.n o.wa.cap o.wa.xs
  le : o.sn ≤ o.sc
  mx : o.sc ≤ maxLen
  nil : o.so = none → o.sn = 0 ∧ o.sc = 0
theorem OA.ok.below {o : OA} {w w' : World} (h : o.ok w) (hb : Below w.heap.size w w') : o.ok w' :=
  ⟨h.kind, h.row, h.fam, h.qual, h.time, h.to, h.va.below hb, h.wa.below hb, h.le, h.mx, h.nil⟩
theorem OA.ok.wf {o : OA} {w : World} (h : o.ok w) : o.s.wf := ⟨h.time, h.va.byte, h.wa.byte⟩
/-- An operation with its parts, d deep. -/
def OD : Nat → Type
  | 0 => OA
  | d + 1 => OA × List (OD d)
def topD : (d : Nat) → OD d → OA
  | 0, x => x
  | _ + 1, x => x.1
/-- It lies so in w. -/
def OW (w : World) : (d : Nat) → OD d → Prop
  | 0, x => OA.ok x w
  | d + 1, x => x.1.ok w ∧ x.2.length = x.1.sn ∧ (∀ a, x.1.so = some a → ∀ i (h : i < x.2.length), ∀ j v, (topD d x.2[i]).cells[j]? = some v → w.cell? (a.add (i * 10 + j)) = some v) ∧ ∀ y ∈ x.2, OW w d y
theorem OW.top {w : World} : ∀ {d : Nat} {x : OD d}, OW w d x → (topD d x).ok w
  | 0, _, h => h
  | _ + 1, _, h => h.1
theorem OW.below {w w' : World} (hb : Below w.heap.size w w') : ∀ {d : Nat} {x : OD d}, OW w d x → OW w' d x
  | 0, _, h => OA.ok.below h hb
  | _ + 1, _, h => ⟨h.1.below hb, h.2.1, fun a ha i hi j v hv => (hb.cell (World.block_lt_of_cell? w _ (h.2.2.1 a ha i hi j v hv))).trans (h.2.2.1 a ha i hi j v hv), fun y hy => OW.below hb (h.2.2.2 y hy)⟩
/-- Its texts are no longer than what a process can have. -/
structure OA.small (o : OA) : Prop where
  row : o.row.size ≤ 140737488351232
  fam : o.fam.size ≤ 140737488351232
  qual : o.qual.size ≤ 140737488351232
  to : o.to.size ≤ 140737488351232
def OSm : (d : Nat) → OD d → Prop
  | 0, x => OA.small x
  | d + 1, x => x.1.small ∧ ∀ y ∈ x.2, OSm d y
theorem OSm.top : ∀ {d : Nat} {x : OD d}, OSm d x → (topD d x).small
  | 0, _, h => h
  | _ + 1, _, h => h.1
/-- Small, and not deep. -/
def fitsL (o : OA) : Bool := decide (o.row.size + o.fam.size + o.qual.size + o.to.size ≤ 500 ∧ o.va.n ≤ 600 ∧ o.wa.n ≤ 600 ∧ o.sn ≤ 12)
def lightD : (d : Nat) → OD d → Bool
  | 0, _ => false
  | d + 1, x => fitsL x.1 && x.2.all (lightD d)
/-- Alike in all. -/
def sameL {α : Type} (f : α → α → Bool) : List α → List α → Bool
  | [], [] => true
  | a :: l, b :: m => f a b && sameL f l m
  | _, _ => false
def sameD : (d : Nat) → OD d → OD d → Bool
  | 0, x, y => sameS (OA.s x) (OA.s y)
  | d + 1, x, y => sameS x.1.s y.1.s && sameL (sameD d) x.2 y.2
theorem sameL_self {α : Type} (f : α → α → Bool) : ∀ l : List α, (∀ a ∈ l, f a a = true) → sameL f l l = true
  | [], _ => rfl
  | a :: l, h => by
    rw [sameL, h a (List.mem_cons_self ..), sameL_self f l (fun b hb => h b (List.mem_cons_of_mem _ hb))]
    rfl
theorem sameS_self (a : SO) : sameS a a = true := (sameS_iff a a).2 rfl
theorem sameD_self : ∀ (d : Nat) (x : OD d), sameD d x x = true
  | 0, x => sameS_self _
  | d + 1, x => by
    rw [sameD, sameS_self, sameL_self _ _ (fun y _ => sameD_self d y)]
    rfl
/-- A part, as it is looked at: itself, and how many parts it has. -/
def snD (d : Nat) (x : OD d) : SN := ((topD d x).s, (topD d x).sn)
def rightD : (d : Nat) → OD d → Bool
  | 0, x => leaf (OA.s x) (OA.sn x)
  | d + 1, x => rightO x.1.s (x.2.map (snD d))
end Go.Proofs.YtnicnfjickknjaaGreatDoor

/-
  Texts in one: RTabs, RPad, App2, RSum, ROf, ChRNull.
-/
import Derived.Test.YtdcebokfnbgkaaaDoorChoosePicksQ3
import Derived.Test.YtdcebokfnbgkaaaDoorChoosePicksQ1
import Derived.Test.YtdcebokfnbgkaaaDoorChoosePicksQ0
import Derived.Test.YtdcebokfnbgkaaaDoorChoosePicksQ4
import Derived.Deep.AppendLies
import Derived.Deep.RegionHeld3
import Derived.Test.YtdcebokfnbgkaaaDoorChoosePicksQ2
namespace Go.Proofs.YtdcebokfnbgkaaaDoor
open Go.RowKit
set_option maxRecDepth 100000 in
set_option maxHeartbeats 1000000 in
theorem rfirst_any (w : World) : Calls Tryd.prog 63 #[] w fun e w' => e = .returned (.slice (some ⟨w.heap.size, 0, none⟩) 8 8) ∧ w' = w.alloc (.cells (wv H0).toArray 85) := by
  go_enter Tryd.func63, Tryd.ntmps63
  go_wp2
  go_ret
  exact ⟨rfl, rfl⟩
set_option maxRecDepth 100000 in
set_option maxHeartbeats 1000000 in
theorem rcubes_any (w : World) : Calls Tryd.prog 64 #[] w fun e w' => e = .returned (.slice (some ⟨w.heap.size, 0, none⟩) 64 64) ∧ w' = w.alloc (.cells (wv K0).toArray 85) := by
  go_enter Tryd.func64, Tryd.ntmps64
  go_wp2
  go_ret
  exact ⟨rfl, rfl⟩
theorem tab_cw (w : World) (xs : List Int) (t : TypeId) : CW (w.alloc (.cells (wv xs).toArray t)) w.heap.size xs := Arr.cw (heap_alloc_new w _)
open Go.RowKit
def be8 (L : Nat) : List Int := (List.range 8).map fun i => ((L / 2 ^ (8 * (7 - i)) % 256 : Nat) : Int)
theorem padL_ref (n : Nat) : padL n = 128 :: (List.replicate (pe n - 9) 0 ++ be8 (n * 8 % 18446744073709551616)) := by
  have he := pe_le n
  obtain ⟨e, hee⟩ : ∃ e, e = pe n := ⟨_, rfl⟩
  obtain ⟨L, hL⟩ : ∃ L, L = n * 8 % 18446744073709551616 := ⟨_, rfl⟩
  unfold padL
  rw [← hee, ← hL]
  rw [← hee] at he
  refine List.ext_getElem? fun q => ?_
  by_cases hq : q < e
  · have h72 : q < 72 := by omega
    rw [List.getElem?_take_of_lt hq]
    simp only [tl, List.getElem?_map, List.getElem?_range h72, Option.map_some]
    by_cases h8 : e ≤ q + 8
    · rw [if_pos ⟨h8, hq⟩]
      obtain ⟨p, rfl⟩ : ∃ p, q = p + 1 := ⟨q - 1, by omega⟩
      have i8 : p - (e - 9) < 8 := by omega
      rw [List.getElem?_cons_succ, List.getElem?_append_right (by simp; omega)]
      simp only [List.length_replicate, be8, List.getElem?_map, List.getElem?_range i8, Option.map_some]
      have e7 : 7 - (p - (e - 9)) = e - 1 - (p + 1) := by omega
      rw [e7]
    · rw [if_neg (by omega)]
      cases q with
      | zero => rfl
      | succ p =>
        rw [if_neg (by omega), List.getElem?_cons_succ, List.getElem?_append_left (by simp; omega), List.getElem?_replicate, if_pos (by omega)]
  · rw [List.getElem?_take_eq_none (by omega), List.getElem?_eq_none (by simp [be8]; omega)]
def XS (bs : List Int) (i : Nat) : List Int := part H0 (AA bs i) 8
theorem XS_zero (bs : List Int) : XS bs 0 = H0 := by
  unfold XS AA
  decide
theorem XS_succ (bs : List Int) (i : Nat) : part (Rr (XS bs i) (W (blk bs i) 64) 64) (XS bs i) 8 = XS bs (i + 1) := by
  refine List.ext_getElem? fun j => ?_
  by_cases hj : j < 8
  · have lA := AA_len bs i
    simp only [XS, AA, mixA, part, List.getElem?_map, List.getElem?_range hj, Option.map_some, hj, if_true]
    refine congrArg some ?_
    have g1 : ∀ (F : Nat → Int), ((List.range 8).map F).getD j 0 = F j := fun F => by simp [List.getD, hj]
    rw [g1, g1]
    simp only [hj, if_true]
    obtain ⟨x, hx⟩ : ∃ x, x = H0.getD j 0 := ⟨_, rfl⟩
    obtain ⟨y, hy⟩ : ∃ y, y = (AA bs i).getD j 0 := ⟨_, rfl⟩
    rw [← hx, ← hy]
    generalize (Rr _ _ 64).getD j 0 = z
    simp only [ad, IntKind.wrap_u32']
    omega
  · simp [XS, part, hj]
theorem wds_XS (bs : List Int) : wds bs = XS (bs ++ padL bs.length) ((bs ++ padL bs.length).length / 64) := rfl
open Go.RowKit
theorem wpList_app2 {w : World} {ops : Array Oper} {rest : List Oper} {o : Oper} {a : Act} {Q : Exit → Act → World → Prop} (hgd : o.guard = none) (s x : Operand)
    (ho : o.op = .call { callee := .builtin .append, args := #[s, x], argTypes := #[38, 38] })
    (base : Nat) (g0 n c0 : Nat) (xs : List Int) (hs : a.eval s = .slice (some ⟨g0, 0, none⟩) n c0) (hown : w.ownsRow base 5 1 (.slice (some ⟨g0, 0, none⟩) n c0) n (bv xs))
    (bo : Option Addr) (m c : Nat) (ys : List Int) (hx : a.eval x = .slice bo m c) (hsl : Sl w bo m c ys) (hb : n + m ≤ 140737488355328) (hbase : base ≤ w.heap.size)
    (h : ∀ g cap w', w'.ownsRow base 5 1 (.slice (some ⟨g, 0, none⟩) (n + m) cap) (n + m) (bv (xs ++ ys)) → Below base w w' → wpList Tryd.prog ops Q rest (a.put o.dst (.slice (some ⟨g, 0, none⟩) (n + m) cap)) w') : wpList Tryd.prog ops Q (o :: rest) a w := by
  obtain ⟨i0, hi, hz0, hz1, hz2⟩ := info_parts u8info
  cases bo with
  | some ad =>
    refine wpList_append_own w hgd s x 38 ho base 5 i0 (.int .u8 0) 1 1 Tryd.underlying38 hi hz0 hz1 hz2 rfl (by decide) _ n (bv xs) hs hown ad m c (bv ys) hx (by rw [bv_length, hsl.len, Nat.mul_one]) (hsl.cells ad rfl) (bv_one ys) (by unfold maxLen; omega) (by omega) hbase ?_
    intro v' w' h1 h2 h3
    rw [← bv_append] at h1
    have hb2 := (Below.refl _ w).grown h2 hbase (fun k hk => (hown.lt k hk).1)
    rcases h1.2 with ⟨e, _⟩ | ⟨g, cap, cur, e, _⟩
    · exact absurd (h3.1 e).1 (by simp)
    · subst e
      exact h g cap w' h1 hb2
  | none =>
    obtain ⟨rfl, rfl⟩ := hsl.nil rfl
    obtain rfl : ys = [] := List.eq_nil_of_length_eq_zero hsl.len
    refine wpList_append_own_none hgd s x 38 ho base 5 i0 1 Tryd.underlying38 hi _ n (bv xs) hs hown hx ?_
    exact h g0 c0 w (by simpa using hown) (Below.refl _ _)
open Go.RowKit
theorem step_appS {w : World} {ops : Array Oper} {o : Oper} {a : Act} {K : Act → World → Prop} {Q : Exit → Act → World → Prop} {E : Prop} (hgd : o.guard = none) (s x : Operand)
    (ho : o.op = .call { callee := .builtin .append, args := #[s, x], argTypes := #[38, 38] })
    (base : Nat) (v : Value) (n : Nat) (xs : List Int) (hs : a.eval s = v) (hown : w.ownsRow base 5 1 v n (bv xs))
    (ad : Addr) (m c : Nat) (ys : List Int) (hx : a.eval x = .slice (some ad) m c) (hsl : Sl w (some ad) m c ys) (hm : 0 < m) (hb : n + m ≤ 140737488355328) (hbase : base ≤ w.heap.size)
    (h : ∀ v' w', w'.ownsRow base 5 1 v' (n + m) (bv (xs ++ ys)) → Below base w w' → w.grownBy w' v.ownBlock → K (a.put o.dst v') w') :
    if Region.wanted o (yielded ops a.tmps) = true then Oper.wp Tryd.prog o a w K Q else E := by
  obtain ⟨i0, hi, hz0, hz1, hz2⟩ := info_parts u8info
  refine step_append_lies w hgd s x 38 ho base 5 i0 (.int .u8 0) 1 1 Tryd.underlying38 hi hz0 hz1 hz2 rfl (by decide) v n (bv xs) hs hown ad m c (bv ys) hx (by rw [bv_length, hsl.len, Nat.mul_one]) (hsl.cells ad rfl) (bv_one ys) hm (by unfold maxLen; omega) (by omega) hbase _ rfl ?_
  intro g cap w' h1 h2 _ _
  rw [← bv_append] at h1
  exact h _ w' h1 ((Below.refl _ w).grown h2 hbase (fun k hk => (hown.lt k hk).1)) h2
theorem Sl.drewd {w : World} {ao : Option Addr} {n cap : Nat} {xs : List Int} (h : Sl w ao n cap xs) : Sl w.drew ao n cap xs := ⟨h.len, h.le, h.mx, h.nil, h.cell, h.byte⟩
theorem be8_len (L : Nat) : (be8 L).length = 8 := rfl
theorem be8_take (L q : Nat) (h : q < 8) : (be8 L).take (8 - (q + 1)) ++ [((L / 2 ^ (8 * q) % 256 : Nat) : Int)] = (be8 L).take (8 - q) := by
  have e : 8 - q = 8 - (q + 1) + 1 := by omega
  rw [e, List.take_add_one, be8, List.getElem?_map, List.getElem?_range (by omega)]
  simp only [Option.map_some, Option.toList_some]
  have e2 : 7 - (8 - (q + 1)) = q := by omega
  rw [e2]
theorem mask64 (x : Int) (h0 : 0 ≤ x) (h1 : x < 18446744073709551616) : bits .and .u64 x 255 = x % 256 :=
  bits_mask .u64 64 (by decide) (fun n _ _ => by rw [IntKind.wrap_u64]; omega) 8 (by decide) x h0 h1
theorem mask32 (x : Int) (h0 : 0 ≤ x) (h1 : x < 4294967296) : bits .and .u32 x 255 = x % 256 :=
  bits_mask .u32 32 (by decide) (fun n _ _ => by rw [IntKind.wrap_u32']; omega) 8 (by decide) x h0 h1
theorem byte_of (n q : Nat) (hn : n ≤ 100000) : bits .and .u64 ((n : Int) * 8 / 2 ^ (8 * q)) 255 % 256 = ((n * 8 / 2 ^ (8 * q) % 256 : Nat) : Int) := by
  have e : (n : Int) * 8 / 2 ^ (8 * q) = ((n * 8 / 2 ^ (8 * q) : Nat) : Int) := by simp
  have hle : n * 8 / 2 ^ (8 * q) ≤ n * 8 := Nat.div_le_self _ _
  rw [e]
  generalize n * 8 / 2 ^ (8 * q) = y at hle
  rw [mask64 _ (by omega) (by omega)]
  omega
theorem XS_rng (al : List Int) (i j : Nat) : 0 ≤ (XS al i).getD j 0 ∧ (XS al i).getD j 0 < 4294967296 := by
  by_cases hj : j < 8
  · have g1 : ∀ (F : Nat → Int), ((List.range 8).map F).getD j 0 = F j := fun F => by simp [List.getD, hj]
    unfold XS part
    rw [g1]
    simp only [hj, if_true, ad, IntKind.wrap_u32']
    omega
  · simp [XS, part, List.getD, hj]
structure R3 (w wr : World) (al : List Int) (i gh ch bb ob nb cb : Nat) : Prop where
  bel : Below w.heap.size w wr
  st : CW wr gh (XS al i)
  k : CW wr (w.heap.size + 1) K0
  s : Sl wr (some ⟨bb, ob, none⟩) nb cb (al.drop (64 * i))
  nb : 64 * i + nb = al.length
  gh : gh < wr.heap.size
theorem XS_len (al : List Int) (i : Nat) : (XS al i).length = 8 := part_len _ _ _
theorem R3.bin {w wr : World} {al : List Int} {i gh ch bb ob nb cb : Nat} (h : R3 w wr al i gh ch bb ob nb cb) (h64 : 64 ≤ nb) : BIn wr gh (w.heap.size + 1) bb ob (XS al i) (blk al i) := by
  refine ⟨h.st, h.k, fun j hj => ?_, XS_len _ _, ?_, (h.s.byte.take 64)⟩
  · have := h.s.cell _ rfl j (by omega)
    rw [add_at] at this
    rw [this]
    simp [blk, List.getD, hj]
  · have := h.nb
    simp [blk]
    omega
set_option maxRecDepth 100000 in
set_option maxHeartbeats 4000000 in
theorem rsum_any (w : World) (ao : Option Addr) (n cap : Nat) (bs : List Int) (hS : Sl w ao n cap bs) (hn : n ≤ 100000) :
    Calls Tryd.prog 45 #[.slice ao n cap] w fun e w' => ∃ v, e = .returned v ∧ w'.ownsRow w.heap.size 5 1 v 32 (bv (sumL bs)) ∧ Below w.heap.size w w' := by
  obtain ⟨i0, hi, hz0, hz1, hz2⟩ := info_parts u8info
  have hln := hS.len
  have hni : (n : Int) ≤ 100000 := by omega
  have hpe := pe_le n
  have hbB := hS.byte
  go_enter Tryd.func45, Tryd.ntmps45
  go_wp2_with (first
    | (go_at_call 63; refine (rfirst_any w).mono ?_; rintro e w1 ⟨rfl, hw1⟩; have F1 : CW w1 w.heap.size H0 := by rw [hw1]; exact tab_cw w H0 _
       have B1 : Below w.heap.size w w1 := by rw [hw1]; exact (Below.refl _ w).alloc (Nat.le_refl _) _
       have s1 : w1.heap.size = w.heap.size + 1 := by rw [hw1]; simp
       clear hw1)
    | (go_at_call 64; refine (rcubes_any w1).mono ?_; rintro e w2 ⟨rfl, hw2⟩; rw [s1]; have D2 : Below w1.heap.size w1 w2 := by rw [hw2]; exact (Below.refl _ w1).alloc (Nat.le_refl _) _
       have K2 : CW w2 (w.heap.size + 1) K0 := by rw [hw2, ← s1]; exact tab_cw w1 K0 _
       have B2 : Below w.heap.size w w2 := B1.trans (D2.mono (by omega))
       have F2 := F1.below D2 (by omega)
       have s2 : w2.heap.size = w.heap.size + 2 := by rw [hw2]; simp [s1]
       clear hw2 F1 B1 D2 s1)
    | (at_builtin; refine wpList_app2 rfl (.tmp 12) (.tmp 13) rfl (w.heap.size + 2) (w.heap.size + 2) 0 0 [] rfl (by have h9 := World.ownsRow_lit (base := w.heap.size + 2) (e := 5) (size := 1) w2 #[] 0 (by omega) (by decide) rfl; rw [s2] at h9; exact h9) ao n cap bs rfl ((hS.below B2).below ((Below.refl _ w2).alloc (Nat.le_refl _) _)) (by omega) (by simp; omega) ?_; intro g3 c3 w3 own3 C3; have D3 : Below (w.heap.size + 2) w2 w3 := ((Below.refl _ w2).alloc (by omega) _).trans C3; simp only [Nat.zero_add, List.nil_append] at own3 ⊢; clear C3)
    | (at_builtin; refine wpList_app2 rfl (.tmp 14) (.tmp 15) rfl (w.heap.size + 2) g3 n c3 bs rfl (own3.alloc _) _ 1 1 [128] rfl (Sl.new w3 [128] (by intro x hx; rw [List.mem_singleton.1 hx]; omega) (by decide)) (by omega) (by have := D3.size; simp; omega) ?_; intro g4 c4 w4 own4 C4; have D4 : Below (w.heap.size + 2) w2 w4 := (D3.alloc (by have := D3.size; omega) _).trans C4; clear C4 own3 D3))
  have t4 := D4.size
  have B4 : Below w.heap.size w w4 := B2.trans (D4.mono (by omega))
  have F4 := F2.below D4 (by omega)
  have K4 := K2.below D4 (by omega)
  have hz : 9 ≤ pe n ∧ (n + 1 + (pe n - 9)) % 64 = 56 := by unfold pe; split <;> omega
  have hlow : ∀ k, k < pe n - 9 → (n + 1 + k) % 64 ≠ 56 := by unfold pe; split <;> (intro k hk; omega)
  clear B2 F2 K2 D4
  go_wp2_with fail
  go_loopw [5] (fun v wr => ∃ (k g c : Nat), k ≤ pe n - 9 ∧ v = .slice (some ⟨g, 0, none⟩) (n + 1 + k) c ∧ wr.ownsRow (w.heap.size + 2) 5 1 (.slice (some ⟨g, 0, none⟩) (n + 1 + k) c) (n + 1 + k) (bv (bs ++ 128 :: List.replicate k 0)) ∧ Below w.heap.size w wr ∧ CW wr w.heap.size H0 ∧ CW wr (w.heap.size + 1) K0 ∧ w.heap.size + 2 ≤ wr.heap.size) (fun v _ => 72 + n - lenOf v)
  case atStart => exact ⟨0, g4, c4, by omega, rfl, own4, B4, F4, K4, by omega⟩
  case round =>
    clear own4 B4 F4 K4 t4
    obtain ⟨k, g, c, hk, rfl, own5, B5, F5, K5, t5⟩ := hrel
    by_cases hlt : k < pe n - 9
    · have hne : (((n + 1 + k : Nat) : Int).tmod 64 != 56) = true := by
        rw [Int.tmod_eq_emod_of_nonneg (by omega)]
        have := hlow k hlt
        simp
        omega
      go_wp2_with (at_builtin; refine wpList_app2 rfl (.tmp 21) (.tmp 22) rfl (w.heap.size + 2) g (n + 1 + k) c _ rfl (own5.alloc _) _ 1 1 [0] rfl (Sl.new wr [0] (by intro x hx; rw [List.mem_singleton.1 hx]; omega) (by decide)) (by omega) (by simp; omega) ?_; intro g6 c6 w6 own6 C6; have D6 : Below (w.heap.size + 2) wr w6 := ((Below.refl _ wr).alloc t5 _).trans C6; clear C6)
      go_roundw
      case rel =>
        refine ⟨k + 1, g6, c6, by omega, rfl, ?_, B5.trans (D6.mono (by omega)), F5.below D6 (by omega), K5.below D6 (by omega), by have := D6.size; omega⟩
        have e : bs ++ 128 :: List.replicate k 0 ++ [0] = bs ++ 128 :: List.replicate (k + 1) 0 := by
          rw [List.replicate_succ']
          simp
        rw [e] at own6
        exact own6
      case measure => simp [lenOf]; omega
    · obtain rfl : k = pe n - 9 := by omega
      obtain ⟨z, hz'⟩ : ∃ z, z = pe n - 9 := ⟨_, rfl⟩
      have HZ : Hid (z = pe n - 9) := hz'
      rw [← hz'] at own5 hz ⊢
      have hne : (((n : Int) + 1 + (z : Int)) % 64 != 56) = false := by
        have := hz.2
        simp
        omega
      have hzl : z ≤ 63 := by omega
      have HQ : Hid ((n + 1 + z) % 64 = 56) := hz.2
      clear hz' hlow hk hlt hz
      go_wp2_with fail
      clear hne
      go_loopw [5, 7] (fun v i wr => ∃ (q g c : Nat), q ≤ 8 ∧ v = .slice (some ⟨g, 0, none⟩) (n + 1 + z + (8 - q)) c ∧ i = .int .i64 ((q : Int) - 1) ∧ wr.ownsRow (w.heap.size + 2) 5 1 (.slice (some ⟨g, 0, none⟩) (n + 1 + z + (8 - q)) c) (n + 1 + z + (8 - q)) (bv (bs ++ 128 :: (List.replicate z 0 ++ (be8 (n * 8)).take (8 - q)))) ∧ Below w.heap.size w wr ∧ CW wr w.heap.size H0 ∧ CW wr (w.heap.size + 1) K0 ∧ w.heap.size + 2 ≤ wr.heap.size) (fun _ i _ => (intOf i + 1).toNat)
      case atStart => exact ⟨8, g, c, by omega, rfl, rfl, by simpa using own5, B5, F5, K5, t5⟩
      case round =>
        clear own5 B5 F5 K5 t5
        obtain ⟨q, g, c, hq, rfl, rfl, own6, B6, F6, K6, t6⟩ := hrel
        cases q with
        | succ q =>
          have eq1 : (((q + 1 : Nat) : Int) - 1) = (q : Int) := by omega
          rw [eq1]
          clear eq1
          have hq7 : (q : Int) ≤ 7 := by omega
          obtain ⟨m, hm⟩ : ∃ m, m = n + 1 + z + (8 - (q + 1)) := ⟨_, rfl⟩
          rw [← hm] at own6 ⊢
          have HM : Hid (m + 1 = n + 1 + z + (8 - q)) := (by omega : m + 1 = n + 1 + z + (8 - q))
          have hmb : m ≤ 100100 := by omega
          obtain ⟨y, hy⟩ : ∃ y : Int, y = ((n * 8 / 2 ^ (8 * q) % 256 : Nat) : Int) := ⟨_, rfl⟩
          have hy1 : 0 ≤ y ∧ y ≤ 255 := by
            rw [hy]
            generalize n * 8 / 2 ^ (8 * q) = x
            omega
          have HV : Hid (bits .and .u64 ((n : Int) * 8 / 2 ^ (8 * q)) 255 % 256 = y) := by rw [hy]; exact byte_of n q hn
          have HY : Hid (y = ((n * 8 / 2 ^ (8 * q) % 256 : Nat) : Int)) := hy
          clear hm hy
          go_wp2_with (at_builtin; rw [HV.out]; refine wpList_app2 rfl (.tmp 32) (.tmp 40) rfl (w.heap.size + 2) g m c _ rfl (own6.alloc _) _ 1 1 [y] rfl (Sl.new wr [y] (by intro x hx; rw [List.mem_singleton.1 hx]; exact hy1) (by simp [maxLen])) (by omega) (by simp; omega) ?_; intro g6 c6 w6 own7 C6; have D6 : Below (w.heap.size + 2) wr w6 := ((Below.refl _ wr).alloc t6 _).trans C6; clear C6)
          go_roundw
          case rel =>
            rw [HM.out] at own7
            refine ⟨q, g6, c6, by omega, by rw [HM.out], by go_num, ?_, B6.trans (D6.mono (by omega)), F6.below D6 (by omega), K6.below D6 (by omega), by have := D6.size; omega⟩
            have e : bs ++ 128 :: (List.replicate z 0 ++ (be8 (n * 8)).take (8 - (q + 1))) ++ [y] = bs ++ 128 :: (List.replicate z 0 ++ (be8 (n * 8)).take (8 - q)) := by
              rw [← be8_take (n * 8) q (by omega), HY.out]
              simp
            rw [e] at own7
            exact own7
          case measure => simp [intOf]
        | zero =>
          have eq0 : (((0 : Nat) : Int) - 1) = -1 := rfl
          rw [eq0]
          clear eq0
          obtain ⟨al, hal⟩ : ∃ al, al = bs ++ padL bs.length := ⟨_, rfl⟩
          have e1 : bs ++ 128 :: (List.replicate z 0 ++ (be8 (n * 8)).take (8 - 0)) = al := by
            rw [hal, padL_ref, hln, ← HZ.out]
            have : n * 8 % 18446744073709551616 = n * 8 := by omega
            rw [this]
            rfl
          rw [e1] at own6
          have hlen : n + 1 + z + (8 - 0) = al.length := by
            rw [← e1]
            simp [be8_len, hln]
            omega
          have h64 : al.length % 64 = 0 := by rw [← hlen]; have := HQ.out; omega
          rw [hlen] at own6 ⊢
          have hbA : Byt al := by
            rw [← e1]
            refine hbB.append ?_
            intro x hx
            simp only [List.mem_cons, List.mem_append] at hx
            rcases hx with rfl | hx | hx
            · omega
            · have := (List.mem_replicate.1 hx).2; omega
            · have := List.mem_of_mem_take hx
              simp only [be8, List.mem_map] at this
              obtain ⟨j, _, rfl⟩ := this
              omega
          have hal2 : al.length ≤ 100200 := by omega
          have HW : Hid (wds bs = XS al (al.length / 64)) := by rw [hal]; exact wds_XS bs
          have hsl := Sl.own own6 hbA
          obtain ⟨ao', cap', hve, S6, _⟩ := hsl
          simp only [Value.slice.injEq] at hve
          obtain ⟨rfl, -, rfl⟩ := hve
          have R6 : R3 w wr al 0 w.heap.size 8 g 0 al.length c := ⟨B6, by rw [XS_zero]; exact F6, K6, by simpa using S6, by omega, by omega⟩
          clear hal e1 hlen own6 B6 F6 K6 S6 hbA HQ HZ
          go_wp2_with fail
          go_loopw [3, 5] (fun h v wr => ∃ (i gh ch bb ob nb cb : Nat), h = .slice (some ⟨gh, 0, none⟩) 8 ch ∧ v = .slice (some ⟨bb, ob, none⟩) nb cb ∧ R3 w wr al i gh ch bb ob nb cb) (fun _ v _ => lenOf v)
          case atStart => exact ⟨0, w.heap.size, 8, g, 0, al.length, c, rfl, rfl, R6⟩
          case round =>
            clear R6
            obtain ⟨i, gh, ch, bb, ob, nb, cb, rfl, rfl, R7⟩ := hrel
            have hnb := R7.nb
            by_cases h0 : 0 < nb
            · have h64n : 64 ≤ nb := by omega
              have h0i : (0 : Int) < (nb : Int) := by omega
              have hs2 : ∀ w', (Instr.slice 38 (.slice (some ⟨bb, ob, none⟩) nb cb) (some (.int .i64 64)) none none).run Tryd.prog w' = .ok (.slice (some (if cb = 64 then (⟨bb, ob, none⟩ : Addr) else (⟨bb, ob, none⟩ : Addr).add 64)) (nb - 64) (cb - 64)) w' := slice22l ⟨bb, ob, none⟩ nb cb 64 h64n
              obtain ⟨ob2, e2⟩ : ∃ ob2, (if cb = 64 then (⟨bb, ob, none⟩ : Addr) else (⟨bb, ob, none⟩ : Addr).add 64) = ⟨bb, ob2, none⟩ := by
                split
                · exact ⟨_, rfl⟩
                · exact ⟨_, add_at _ _ _⟩
              rw [e2] at hs2
              have HE2 : Hid ((if cb = 64 then (⟨bb, ob, none⟩ : Addr) else (⟨bb, ob, none⟩ : Addr).add 64) = ⟨bb, ob2, none⟩) := e2
              clear e2
              go_wp2_with (go_at_call 65; refine (rblock_any wr gh ch (w.heap.size + 1) 64 bb ob nb cb _ _ (R7.bin h64n) h64n).mono ?_; rintro e w8 ⟨g8, rfl, C8, B8⟩)
              go_roundw
              case rel =>
                rw [XS_succ] at C8
                have S8 := (R7.s.below B8).cut 64 h64n
                rw [HE2.out, List.drop_drop] at S8
                have hsz := R7.bel.size
                have hkk := R7.k.lt (by decide)
                refine ⟨i + 1, g8, 8, bb, ob2, nb - 64, cb - 64, rfl, rfl, R7.bel.trans (B8.mono hsz), C8, R7.k.below B8 hkk, ?_, by omega, C8.lt (by rw [XS_len]; decide)⟩
                have e : 64 * i + 64 = 64 * (i + 1) := by omega
                rw [e] at S8
                exact S8
              case measure => simp [lenOf]; omega
            · have hi2 : i = al.length / 64 := by omega
              have F8 := R7.st
              have B8 := R7.bel
              have hgh := R7.gh
              have hsz := B8.size
              have HO : Hid (outL (wds bs) 8 = sumL bs) := outL_all bs
              rw [← hi2] at HW
              have hXr := XS_rng al i
              have hXl := XS_len al i
              rw [HW.out] at HO
              generalize XS al i = X at F8 HO hXr hXl
              clear hi2 R7 HW
              obtain rfl : nb = 0 := by omega
              clear hnb h0 h64 hal2
              obtain ⟨b0, hb0⟩ : ∃ b0, b0 = wr.heap.size := ⟨_, rfl⟩
              obtain ⟨w0, hw0⟩ : ∃ w0, w0 = wr := ⟨_, rfl⟩
              rw [← hw0] at F8 B8 hgh hsz hb0
              have D8 : Below b0 w0 wr := by rw [hw0]; exact Below.refl _ _
              clear hw0
              go_wp2_with fail
              go_loopw [8, 9] (fun v i wz => ∃ k : Nat, k ≤ 8 ∧ i = .int .i64 k ∧ Below b0 w0 wz ∧ wz.ownsRow b0 5 1 v (4 * k) (bv (outL X k))) (fun _ i _ => 8 - (intOf i).toNat)
              case atStart => exact ⟨0, by omega, rfl, D8, World.ownsRow_nil _ _ _ _⟩
              case round =>
                clear D8
                obtain ⟨k, hk, rfl, D9, own9⟩ := hrel
                by_cases hlt : k < 8
                · have hki : (k : Int) < 8 := by omega
                  have c9 := (F8.below D9 (by omega)) k (by omega)
                  have c0 := F8 k (by omega)
                  obtain ⟨x, hx⟩ : ∃ x, x = X.getD k 0 := ⟨_, rfl⟩
                  have hxr := hXr k
                  rw [← hx] at c9 c0 hxr
                  have HX : Hid (x = X.getD k 0) := hx
                  clear hx
                  have hs9 := D9.size
                  have HC0 : Hid (w0.cell? ⟨gh, k, none⟩ = some (.int .u32 x)) := c0
                  clear c0
                  go_wp2_with fail
                  have HV0 : Hid (IntKind.u8.wrap (x / 16777216) = x / 16777216 % 256) := IntKind.wrap_u8 _
                  have HV1 : Hid (IntKind.u8.wrap (bits .and .u32 (x / 65536) 255) = x / 65536 % 256) := by
                    show _ = _
                    rw [mask32 _ (by omega) (by omega), IntKind.wrap_u8]
                    omega
                  have HV2 : Hid (IntKind.u8.wrap (bits .and .u32 (x / 256) 255) = x / 256 % 256) := by
                    show _ = _
                    rw [mask32 _ (by omega) (by omega), IntKind.wrap_u8]
                    omega
                  have HV3 : Hid (IntKind.u8.wrap (bits .and .u32 x 255) = x % 256) := by
                    show _ = _
                    rw [mask32 _ (by omega) (by omega), IntKind.wrap_u8]
                    omega
                  go_region_held3 (fun w' => w'.cell? ⟨gh, k, none⟩ = some (.int .u32 x)) (first | go_keep | assumption | exact (D7.cell (p := ⟨gh, k, none⟩) (by show gh < b0; omega)).trans HC0.out) ((rw [HV0.out, HV1.out, HV2.out, HV3.out]; refine step_appS (by rfl) (.tmp 55) (.tmp 82) (by rfl) b0 _ (4 * k) (outL X k) (by rfl) (by exact World.ownsRow.alloc own9 _) _ 4 4 (b4 x) (by rfl) (by exact (Sl.new wr (b4 x) (b4_byte x) (by simp [b4, maxLen])).drewd) (by decide) (by omega) (by simp; omega) ?_; intro v7 w7 own7 C7 _; have D7 : Below b0 w0 w7 := (D9.alloc (by omega) _).drew.trans C7; clear C7))
                  go_wp2
                  go_roundw
                  case rel =>
                    refine ⟨k + 1, by omega, by go_num, D7, ?_⟩
                    rw [outL_succ X k (by omega), ← HX.out, Nat.mul_add]
                    exact own7
                  case measure => simp [intOf]; omega
                · obtain rfl : k = 8 := by omega
                  go_wp2
                  go_ret
                  refine ⟨_, rfl, ?_, B8.trans (D9.mono (by omega))⟩
                  rw [← HO.out]
                  exact own_base own9 (by omega)
open Go.RowKit
set_option maxRecDepth 100000 in
set_option maxHeartbeats 1000000 in
theorem rof_any (w : World) (s : ByteArray) (ao : Option Addr) (n cap : Nat) (ps : List Part) (hP : PL w ao n cap ps) (hs : s.size ≤ 1000000) (hn : n ≤ 1000000) (hq : ∀ q ∈ ps, q.n ≤ 1000000) (hL : (formL (sb s) (pxs ps)).length ≤ 100000) :
    Calls Tryd.prog 33 #[.string s, .slice ao n cap] w fun e w' => ∃ v, e = .returned v ∧ w'.ownsRow w.heap.size 5 1 v 32 (bv (sumL (formL (sb s) (pxs ps)))) ∧ Below w.heap.size w w' := by
  have hl := hP.len
  have fb := formL_byte s ps hs (by omega) (fun q hq' => ⟨(hP.sl q hq').byte, by rw [(hP.sl q hq').len]; exact hq q hq'⟩)
  go_enter Tryd.func33, Tryd.ntmps33
  go_wp2_with (go_at_call 46; refine (rform_any w s ao n cap ps hP hs hn hq).mono ?_; rintro e w1 ⟨v1, rfl, own1, B1⟩; obtain ⟨fo, fc, rfl, S1, -⟩ := Sl.own own1 fb; have s1 := B1.size; clear own1)
  refine (rsum_any w1 fo _ fc _ S1 hL).mono ?_
  rintro e w2 ⟨v2, rfl, own2, C2⟩
  have B2 : Below w.heap.size w w2 := B1.trans (C2.mono s1)
  go_wp2
  go_ret
  exact ⟨_, rfl, own_base own2 s1, B2⟩
open Go.RowKit
theorem rbatch0 (w : World) : Calls Tryd.prog 25 #[.slice none 0 0] w fun e w' => ∃ v, e = .returned v ∧ w'.ownsRow w.heap.size 5 1 v 32 (bv nullX) ∧ Below w.heap.size w w' := by
  have C := rof_any w ⟨#[98, 97, 116, 99, 104]⟩ none 0 0 [] (PL.nothing w) (by decide) (by omega) (fun _ h => absurd h List.not_mem_nil) (by decide)
  go_enter Tryd.func25, Tryd.ntmps25
  go_wp2_with fail
  go_loopw [3, 4] (fun v' i wr => v' = .slice none 0 0 ∧ i = .int .i64 0 ∧ w = wr) (fun _ i _ => 0)
  case atStart => exact ⟨rfl, rfl, rfl⟩
  case round =>
    obtain ⟨rfl, rfl, rfl⟩ := hrel
    go_wp2_with (go_at_call 33; refine C.mono ?_; rintro e w' ⟨v, rfl, O, B⟩)
    go_ret
    exact ⟨v, rfl, O, B⟩
theorem rnull_any (w : World) : Calls Tryd.prog 15 #[] w fun e w' => ∃ ro rc, e = .returned (.slice ro 32 rc) ∧ Sl w' ro 32 rc nullX ∧ Below w.heap.size w w' ∧ ∀ z, sblk ro 32 z → w.heap.size ≤ z := by
  have C := rbatch0 w
  go_enter Tryd.func15, Tryd.ntmps15
  go_wp2_with (go_at_call 25; refine C.mono ?_; rintro e w' ⟨v, rfl, O, B⟩)
  obtain ⟨ro, rc, rfl, S, hbb⟩ := Sl.own O (sumL_byte _)
  go_ret
  exact ⟨ro, rc, rfl, S, B, fun z ⟨a, ha, _, e⟩ => e ▸ (hbb a ha).1⟩
end Go.Proofs.YtdcebokfnbgkaaaDoor

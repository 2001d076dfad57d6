/-
  masked, Mac.
-/
import Derived.Test.YtkncfjokkojfpaaDoorSumOf
namespace Go.Proofs.YtkncfjokkojfpaaDoor
open Go.RowKit

/-- A new row of bytes, as it lies. -/
theorem made_arr8 {w : World} {base g n : Nat} {t : TypeId} (h : w.ownsRow base t 1 (.slice (some ⟨g, 0, none⟩) n n) n (madeCells (Value.int .u8 0).cells (n * 1)).toList) : Arr w g t (bv (List.replicate n 0)) := by
  rcases h.2 with ⟨h0, _⟩ | ⟨g', cap, cur, hv, hg, hh, hle, hmx, hcs, htk⟩
  · simp at h0
  · simp only [Value.slice.injEq, Option.some.injEq, Addr.mk.injEq, and_true, true_and] at hv
    obtain ⟨rfl, rfl⟩ := hv
    have e : cur.toList = bv (List.replicate n 0) := by
      rw [List.take_of_length_le (by simp [hcs])] at htk
      rw [htk]
      refine List.ext_getElem? fun i => ?_
      by_cases hi : i < n
      · simp [madeCells, bv, hi, Value.cells, Nat.mod_one]
      · simp [madeCells, bv, hi, Value.cells]
    unfold Arr
    rw [← e]
    exact hh

def x8 (x y : Int) : Int := bits .xor .u8 x y
/-- A key's block, the first i bytes masked. -/
def mk (key : List Int) (m : Int) (i : Nat) : List Int := (List.range 64).map fun j => if j < i then x8 (key.getD j 0) m else key.getD j 0
def maskL (key : List Int) (m : Int) : List Int := mk key m 64
theorem mk_len (key : List Int) (m : Int) (i : Nat) : (mk key m i).length = 64 := by simp [mk]
theorem mk_get (key : List Int) (m : Int) (i j : Nat) (hj : j < 64) : (mk key m i).getD j 0 = if j < i then x8 (key.getD j 0) m else key.getD j 0 := by simp [mk, List.getD, hj]
theorem mk_succ (key : List Int) (m : Int) (i : Nat) : (mk key m i).set i (x8 (key.getD i 0) m) = mk key m (i + 1) := by
  refine List.ext_getElem? fun j => ?_
  by_cases hj : j < 64
  · by_cases hij : i = j
    · subst hij
      simp [mk, hj]
    · have h1 : (j < i + 1) = (j < i) := by simp; omega
      simp [mk, hj, hij, h1]
  · simp [mk, hj]
theorem mk_zero (key : List Int) (m : Int) (h : key.length ≤ 64) : splice (bv (List.replicate 64 0)) 0 (bv key) = bv (mk key m 0) := by
  have e : key ++ List.replicate (64 - key.length) 0 = mk key m 0 := by
    refine List.ext_getElem? fun j => ?_
    by_cases hj : j < 64
    · by_cases hk : j < key.length
      · simp [mk, hj, hk, List.getD, List.getElem?_append]
      · have h2 : j - key.length < 64 - key.length := by omega
        simp [mk, hj, hk, List.getD, List.getElem?_append, h2]
    · have hk : ¬ j < key.length := by omega
      have h2 : ¬ j - key.length < 64 - key.length := by omega
      simp [mk, hj, List.getElem?_append, hk, h2]
  rw [← e]
  simp only [splice, bv, List.take_zero, List.nil_append, Nat.zero_add, List.map_append, List.length_map, List.drop_replicate, List.map_replicate]
theorem x8_byte (x y : Int) : 0 ≤ x8 x y ∧ x8 x y ≤ 255 := by
  unfold x8
  have : bits .xor .u8 x y = IntKind.u8.wrap ((BitVec.ofInt 8 x ^^^ BitVec.ofInt 8 y).toNat : Int) := rfl
  rw [this, IntKind.wrap_u8']
  omega
theorem maskL_byte (key : List Int) (m : Int) : Byt (maskL key m) := by
  intro x hx
  simp only [maskL, mk, List.mem_map, List.mem_range] at hx
  obtain ⟨j, hj, rfl⟩ := hx
  rw [if_pos hj]
  exact x8_byte _ _

set_option maxRecDepth 100000 in
set_option maxHeartbeats 2000000 in
theorem masked_any (w : World) (ao : Option Addr) (n cap : Nat) (key : List Int) (m : Int) (hS : Sl w ao n cap key) (hn : n ≤ 64) :
    Calls Tryd.prog 55 #[.slice ao n cap, .int .u8 m] w fun e w' => e = .returned (.slice (some ⟨w.heap.size, 0, none⟩) 64 64) ∧ Sl w' (some ⟨w.heap.size, 0, none⟩) 64 64 (maskL key m) ∧ Below w.heap.size w w' := by
  obtain ⟨i0, hi, hz0, hz1, hz2⟩ := info_parts u8info
  have hln := hS.len
  go_enter Tryd.func55, Tryd.ntmps55
  go_wp2_with (first
    | (at_make; refine wpList_make_full _ rfl _ _ 22 rfl w.heap.size 5 i0 (.int .u8 0) 1 Tryd.underlying22 hi hz0 hz1 _ _ _ _ 64 rfl rfl rfl rfl (by rw [hz2]; decide) (by decide) (Nat.le_refl _) ?_; intro w1 own1 g1; have A1 := made_arr8 own1; have B1 : Below w.heap.size w w1 := (Below.refl _ w).grown g1 (Nat.le_refl _) (by simp); have S1 := hS.below B1; clear own1 g1)
    | (refine wpList_copy_splice rfl (.tmp 8) (.tmp 9) 22 22 rfl 5 Tryd.underlying22 s5 (some ⟨w.heap.size, 0, none⟩) ao 64 64 n cap rfl rfl w.heap.size 0 (bv (List.replicate 64 0)) 5 A1 (bv key) (by rw [bv_length, hln]; show n = min n 64; omega) (fun h0 => ⟨rfl, by
          rw [bv_length, hln] at h0
          cases ao with
          | none => exact absurd (S1.nil rfl).1 (by omega)
          | some a => exact ⟨a, rfl, S1.cells a rfl⟩⟩) (by rw [bv_length, hln]; simp [bv]; omega) (bv_one key) w.heap.size w B1 (Nat.le_refl _) ?_; intro w2 a2 B2; have A2 : Arr w2 w.heap.size 5 (bv (mk key m 0)) := by rw [← mk_zero key m (by omega)]; exact a2.out
       clear a2 A1 B1 S1))
  go_loopw [13] (fun i wr => ∃ k : Nat, k ≤ 64 ∧ i = .int .i64 k ∧ Below w.heap.size w wr ∧ Arr wr w.heap.size 5 (bv (mk key m k))) (fun i _ => 64 - (intOf i).toNat)
  case atStart => exact ⟨0, by omega, rfl, B2, A2⟩
  case round =>
    clear A2 B2
    obtain ⟨k, hk, rfl, B3, A3⟩ := hrel
    by_cases hlt : k < 64
    · have hki : (k : Int) < 64 := by omega
      have c1 := A3.cell k
      rw [bv_get _ k (by rw [mk_len]; exact hlt), mk_get _ _ _ _ hlt] at c1
      simp only [Nat.lt_irrefl, if_false] at c1
      have cf := A3.free k
      obtain ⟨x, hx⟩ : ∃ x, x = key.getD k 0 := ⟨_, rfl⟩
      have HX : Hid (mk key m (k + 1) = (mk key m k).set k (x8 x m)) := by rw [hx]; exact (mk_succ key m k).symm
      rw [← hx] at c1
      clear hx
      go_wp2
      go_roundw
      case rel =>
        refine ⟨k + 1, by omega, by go_num, B3.setCell (Nat.le_refl _) _, ?_⟩
        have := A3.set k (.int .u8 (x8 x m))
        rw [bv_set, ← HX.out] at this
        exact this
      case measure => simp [intOf]; omega
    · obtain rfl : k = 64 := by omega
      go_wp2
      go_ret
      refine ⟨rfl, ⟨by rw [maskL, mk_len], Nat.le_refl _, by decide, fun h => by simp at h, fun a ha i hi => ?_, maskL_byte key m⟩, B3⟩
      obtain rfl := Option.some.inj ha
      rw [add_at, Nat.zero_add, A3.cell, bv_get _ _ (by rw [mk_len]; exact hi)]
      rfl

/-- A key that is above 64 bytes is its sum. -/
def keyL (key : List Int) : List Int := if 64 < key.length then sumL key else key
theorem keyL_len (key : List Int) : (keyL key).length ≤ 64 := by
  unfold keyL
  split
  · rw [sumL_len]; decide
  · omega
def macL (key b : List Int) : List Int := sumL (maskL (keyL key) 92 ++ sumL (maskL (keyL key) 54 ++ b))

/-- sumOf of two parts that are laid for it. -/
theorem sumOf_two (w : World) (ao : Option Addr) (n cap : Nat) (xs : List Int) (bo : Option Addr) (m c : Nat) (ys : List Int) (hT : Tabs w) (hS : Sl w ao n cap xs) (hB : Sl w bo m c ys) (hl : n + m + 72 < 18446744073709551616) :
    Calls Tryd.prog 37 #[.slice (some ⟨w.heap.size, 0, none⟩) 2 2] (w.alloc (.cells #[.slice ao n cap, .slice bo m c] 22)) fun e w' => ∃ v, e = .returned v ∧ w'.ownsRow w.heap.size 5 1 v 32 (bv (sumL (xs ++ ys))) ∧ Below w.heap.size w w' := by
  have h2 := hT.two
  have B1 : Below w.heap.size w (w.alloc (.cells #[.slice ao n cap, .slice bo m c] 22)) := (Below.refl _ w).alloc (Nat.le_refl _) _
  have hq : Pts (w.alloc (.cells #[.slice ao n cap, .slice bo m c] 22)) ⟨w.heap.size, 0, none⟩ [⟨ao, n, cap, xs⟩, ⟨bo, m, c, ys⟩] := Pts.new w [⟨ao, n, cap, xs⟩, ⟨bo, m, c, ys⟩] 22 (by
    intro q hq
    simp only [List.mem_cons, List.not_mem_nil, or_false] at hq
    rcases hq with rfl | rfl
    · exact hS
    · exact hB)
  have ea : allB [⟨ao, n, cap, xs⟩, ⟨bo, m, c, ys⟩] = xs ++ ys := by simp [allB]
  have l1 := hS.len
  have l2 := hB.len
  refine (sumOf_any _ w.heap.size 0 2 2 [⟨ao, n, cap, xs⟩, ⟨bo, m, c, ys⟩] (hT.below B1 h2) hq rfl (by decide) (by rw [ea, List.length_append]; omega)).mono ?_
  rintro e w3 ⟨v, rfl, own3, B3⟩
  rw [ea] at own3
  exact ⟨v, rfl, own_base own3 B1.size, B1.trans (B3.mono B1.size)⟩

set_option maxRecDepth 100000 in
set_option maxHeartbeats 2000000 in
theorem mac_short (w : World) (ao : Option Addr) (n cap : Nat) (kk : List Int) (bo : Option Addr) (m c : Nat) (bs : List Int) (hT : Tabs w) (hS : Sl w ao n cap kk) (hB : Sl w bo m c bs) (hn : n ≤ 64) :
    Calls Tryd.prog 46 #[.slice ao n cap, .slice bo m c] w fun e w' => ∃ v, e = .returned v ∧ w'.ownsRow w.heap.size 5 1 v 32 (bv (sumL (maskL kk 92 ++ sumL (maskL kk 54 ++ bs)))) ∧ Below w.heap.size w w' := by
  have h2 := hT.two
  have hni : (n : Int) ≤ 64 := by omega
  have hmx := hB.mx
  have hle := hB.le
  have hbl := hB.len
  unfold maxLen at hmx
  go_enter Tryd.func46, Tryd.ntmps46
  go_wp2_with (go_at_call 55; refine (masked_any w ao n cap kk 54 hS hn).mono ?_; rintro e w1 ⟨rfl, S1, B1⟩)
  have s1 := B1.size
  refine (sumOf_two w1 _ 64 64 _ bo m c bs (hT.below B1 h2) S1 (hB.below B1) (by omega)).mono ?_
  rintro e w2 ⟨v2, rfl, own2, C2⟩
  have B2 : Below w.heap.size w w2 := B1.trans (C2.mono s1)
  have s2 := B2.size
  obtain ⟨io, icap, rfl, S2, -⟩ := Sl.own own2 (sumL_byte _)
  clear own2 C2 S1 B1
  go_wp2_with (go_at_call 55; refine (masked_any w2 ao n cap kk 92 (hS.below B2) hn).mono ?_; rintro e w3 ⟨rfl, S3, C3⟩)
  have B3 : Below w.heap.size w w3 := B2.trans (C3.mono s2)
  have s3 := B3.size
  refine (sumOf_two w3 _ 64 64 _ io 32 icap _ (hT.below B3 h2) S3 (S2.below C3) (by omega)).mono ?_
  rintro e w4 ⟨v4, rfl, own4, C4⟩
  have B4 : Below w.heap.size w w4 := B3.trans (C4.mono s3)
  clear C3 C4 S2 S3
  go_wp2
  go_ret
  exact ⟨_, rfl, own_base own4 s3, B4⟩

set_option maxRecDepth 100000 in
set_option maxHeartbeats 2000000 in
theorem mac_long (w : World) (ao : Option Addr) (n cap : Nat) (key : List Int) (bo : Option Addr) (m c : Nat) (bs : List Int) (hT : Tabs w) (hS : Sl w ao n cap key) (hB : Sl w bo m c bs) (hn : 64 < n) :
    Calls Tryd.prog 46 #[.slice ao n cap, .slice bo m c] w fun e w' => ∃ v, e = .returned v ∧ w'.ownsRow w.heap.size 5 1 v 32 (bv (sumL (maskL (sumL key) 92 ++ sumL (maskL (sumL key) 54 ++ bs)))) ∧ Below w.heap.size w w' := by
  have h2 := hT.two
  have hni : (64 : Int) < (n : Int) := by omega
  have hmx := hB.mx
  have hle := hB.le
  have hbl := hB.len
  unfold maxLen at hmx
  go_enter Tryd.func46, Tryd.ntmps46
  go_wp2_with (go_at_call 24; refine (sum_any w ao n cap key hT hS).mono ?_; rintro e w0 ⟨v0, rfl, own0, B0⟩; obtain ⟨ko, kcap, rfl, S0, -⟩ := Sl.own own0 (sumL_byte _))
  have s0 := B0.size
  clear own0
  refine (masked_any w0 ko 32 kcap _ 54 S0 (by decide)).mono ?_
  rintro e w1 ⟨rfl, S1, C1⟩
  have B1 : Below w.heap.size w w1 := B0.trans (C1.mono s0)
  have s1 := B1.size
  have K1 := S0.below C1
  clear C1
  go_wp2_with fail
  refine (sumOf_two w1 _ 64 64 _ bo m c bs (hT.below B1 h2) S1 (hB.below B1) (by omega)).mono ?_
  rintro e w2 ⟨v2, rfl, own2, C2⟩
  have B2 : Below w.heap.size w w2 := B1.trans (C2.mono s1)
  have s2 := B2.size
  have K2 := K1.below (C2.mono (Nat.le_refl _))
  obtain ⟨io, icap, rfl, S2, -⟩ := Sl.own own2 (sumL_byte _)
  clear own2 C2 S1 B1 K1
  go_wp2_with (go_at_call 55; refine (masked_any w2 ko 32 kcap _ 92 K2 (by decide)).mono ?_; rintro e w3 ⟨rfl, S3, C3⟩)
  have B3 : Below w.heap.size w w3 := B2.trans (C3.mono s2)
  have s3 := B3.size
  refine (sumOf_two w3 _ 64 64 _ io 32 icap _ (hT.below B3 h2) S3 (S2.below C3) (by omega)).mono ?_
  rintro e w4 ⟨v4, rfl, own4, C4⟩
  have B4 : Below w.heap.size w w4 := B3.trans (C4.mono s3)
  clear C3 C4 S2 S3
  go_wp2
  go_ret
  exact ⟨_, rfl, own_base own4 s3, B4⟩

/-- Mac of whatever key and bytes. -/
theorem mac_any (w : World) (ao : Option Addr) (n cap : Nat) (key : List Int) (bo : Option Addr) (m c : Nat) (bs : List Int) (hT : Tabs w) (hS : Sl w ao n cap key) (hB : Sl w bo m c bs) :
    Calls Tryd.prog 46 #[.slice ao n cap, .slice bo m c] w fun e w' => ∃ v, e = .returned v ∧ w'.ownsRow w.heap.size 5 1 v 32 (bv (macL key bs)) ∧ Below w.heap.size w w' := by
  unfold macL keyL
  by_cases h : 64 < key.length
  · rw [if_pos h]
    exact mac_long w ao n cap key bo m c bs hT hS hB (by rw [← hS.len]; exact h)
  · rw [if_neg h]
    exact mac_short w ao n cap key bo m c bs hT hS hB (by rw [← hS.len]; omega)
theorem macL_byte (key b : List Int) : Byt (macL key b) := sumL_byte _

end Go.Proofs.YtkncfjokkojfpaaDoor

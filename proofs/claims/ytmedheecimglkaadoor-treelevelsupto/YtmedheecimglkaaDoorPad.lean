/-
  (*Hash).pad: what ends the bytes.
-/
import Derived.Test.YtmedheecimglkaaDoorAddW
namespace Go.Proofs.YtmedheecimglkaaDoor
open Go.RowKit

/-- How many bytes end n bytes. -/
def pe (n : Nat) : Nat := if 64 - n % 64 ≤ 8 then 128 - n % 64 else 64 - n % 64
/-- The last array: a mark, noughts, and the lowest i bytes of L ahead of e. -/
def tl (e L i : Nat) : List Int := (List.range 72).map fun q => if e ≤ q + i ∧ q < e then ((L / 2 ^ (8 * (e - 1 - q)) % 256 : Nat) : Int) else if q = 0 then 128 else 0
theorem tl_len (e L i : Nat) : (tl e L i).length = 72 := by simp [tl]
theorem tl_zero (e L : Nat) : tl e L 0 = 128 :: List.replicate 71 0 := by
  have h : tl e L 0 = (List.range 72).map fun q => if q = 0 then 128 else 0 := by
    refine List.map_congr_left fun q _ => ?_
    rw [if_neg (by omega)]
  rw [h]
  decide
theorem tl_succ (e L i : Nat) (hi : i < 8) (he : 8 < e) : (tl e L i).set (e - 1 - i) ((L / 2 ^ (8 * i) % 256 : Nat) : Int) = tl e L (i + 1) := by
  refine List.ext_getElem? fun q => ?_
  by_cases hq : q < 72
  · by_cases hj : e - 1 - i = q
    · have h1 : e ≤ q + (i + 1) ∧ q < e := by omega
      have h2 : e - 1 - q = i := by omega
      simp only [tl, hj, List.getElem?_set_self', List.getElem?_map, List.getElem?_range hq, Option.map_some, if_pos h1, h2]
      rfl
    · have h1 : (e ≤ q + (i + 1) ∧ q < e) ↔ (e ≤ q + i ∧ q < e) := by omega
      simp only [tl, List.getElem?_set_ne hj, List.getElem?_map, List.getElem?_range hq, Option.map_some, h1]
  · simp [tl, hq]
theorem tl_byte (e L i : Nat) : Byt (tl e L i) := by
  intro x hx
  simp only [tl, List.mem_map] at hx
  obtain ⟨q, _, rfl⟩ := hx
  split
  · omega
  · split <;> omega
/-- What ends n bytes. -/
def padL (n : Nat) : List Int := (tl (pe n) (n * 8 % 18446744073709551616) 8).take (pe n)
theorem pe_le (n : Nat) : 8 < pe n ∧ pe n ≤ 72 := by unfold pe; split <;> omega
theorem padL_len (n : Nat) : (padL n).length = pe n := by
  have := pe_le n
  simp [padL, tl_len]
  omega

theorem bv_set (xs : List Int) (j : Nat) (x : Int) : (bv xs).set j (.int .u8 x) = bv (xs.set j x) := by
  simp [bv, List.map_set]
theorem z58 : (Tryd.prog.info? 156).map (fun i => (i.zero, i.size)) = some (some (.agg (List.replicate 72 (Value.int .u8 0)).toArray), 72) := by kernel_rfl
theorem u58 : Tryd.prog.underlying 156 = some (.array (Tryd.prog.arrayLen 156) (Tryd.prog.elem 156)) := by kernel_rfl
theorem al58 : Tryd.prog.arrayLen 156 = 72 := by kernel_rfl
theorem el58 : Tryd.prog.elem 156 = 5 := by kernel_rfl
theorem slice58h (p h : Nat) (hh : h ≤ 72) (w : World) : (Instr.sliceAt 156 (.pointer (some ⟨p, 0, none⟩)) none (some (.int .u64 h)) none).run Tryd.prog w = .ok (.slice (some ⟨p, 0, none⟩) h 72) w := by
  rw [run_sliceAt_array_h w 156 ⟨p, 0, none⟩ u58 .u64 h (by omega) (by rw [al58]; omega), el58, al58, size8]
  simp [slicedAt, Addr.add]

set_option maxRecDepth 100000 in
set_option maxHeartbeats 2000000 in
theorem pad_any (w : World) (p : Nat) (bs : List Int) (hT : Tabs w) (h : HS w p bs) (hp2 : 3 ≤ p) (hl : bs.length + 72 < 18446744073709551616) :
    Calls Tryd.prog 99 #[.pointer (some ⟨p, 0, none⟩)] w fun e w' => (∃ v, e = .returned v) ∧ HS w' p (bs ++ padL bs.length) ∧ w.grownBy w' (some p) := by
  have h2 := hT.two
  have hp := h.lt
  obtain ⟨B, hB, eB⟩ := h
  have HH : Hid (HS w p bs) := ⟨B, hB, eB⟩
  have c1 := hB.count
  clear hB eB
  obtain ⟨m, hm⟩ : ∃ m, m = bs.length := ⟨_, rfl⟩
  have HM : Hid (m = bs.length) := hm
  rw [← hm] at c1 hl
  clear hm
  have he := pe_le m
  have hcase : (8 < 64 - (m : Int) % 64 ∧ 64 - (m : Int) % 64 = ((pe m : Nat) : Int)) ∨ (64 - (m : Int) % 64 ≤ 8 ∧ 64 - (m : Int) % 64 + 64 = ((pe m : Nat) : Int)) := by
    unfold pe
    split <;> omega
  obtain ⟨e, hee⟩ : ∃ e, e = pe m := ⟨_, rfl⟩
  obtain ⟨L, hL⟩ : ∃ L, L = m * 8 % 18446744073709551616 := ⟨_, rfl⟩
  have HL : Hid (IntKind.u64.wrap ((m : Int) * 8) = (L : Int)) := by
    show _ = _
    rw [IntKind.wrap_u64, hL]
    omega
  have HP : Hid (padL m = (tl e L 8).take e) := by rw [hee, hL]; rfl
  rw [← hee] at he hcase
  clear hee hL
  rcases hcase with ⟨hc, ec⟩ | ⟨hc, ec⟩
  all_goals
    go_enter Tryd.func99, Tryd.ntmps99
    go_wp2_with (refine wpList_alloc_named rfl 2 rfl 156 rfl w.heap.size rfl _ 72 z58 ?_; intro w1 a1 s1 g1; have B1 : Below w.heap.size w w1 := (Below.refl _ w).grown g1 (Nat.le_refl _) (by simp); have A1 : Arr w1 w.heap.size 156 (bv (List.replicate 72 0)) := a1; clear g1 a1; have d1 := A1.cell 0; have d2 := A1.free 0; have d3 := (B1.cell (p := ⟨p, 72, none⟩) hp).trans c1; simp only [bv, List.map_replicate, List.getElem?_replicate, Nat.zero_lt_succ, if_true] at d1)
    clear ec
    have A2 := A1.set 0 (.int .u8 128)
    have e2 : (bv (List.replicate 72 0)).set 0 (.int .u8 128) = bv (tl e L 0) := by rw [tl_zero]; rfl
    rw [e2] at A2
    have B2 : Below w.heap.size w (w1.setCell ⟨w.heap.size, 0, none⟩ (.int .u8 128)) := B1.setCell (Nat.le_refl _) _
    have s2 : (w1.setCell ⟨w.heap.size, 0, none⟩ (.int .u8 128)).heap.size = w.heap.size + 1 := by simpa using s1
    clear e2 d1 d2 d3 A1 B1 s1
    generalize w1.setCell ⟨w.heap.size, 0, none⟩ (.int .u8 128) = w2 at A2 B2 s2
    go_loopw [22] (fun i wr => ∃ k : Nat, k ≤ 8 ∧ i = .int .u64 k ∧ Below w.heap.size w wr ∧ Arr wr w.heap.size 156 (bv (tl e L k)) ∧ wr.heap.size = w.heap.size + 1) (fun i _ => 8 - (intOf i).toNat)
    case atStart => exact ⟨0, by omega, rfl, B2, A2, s2⟩
    case round =>
      obtain ⟨k, hk, rfl, B3, A3, s3⟩ := hrel
      by_cases hlt : k < 8
      · have hki : (k : Int) < 8 := by omega
        have i1 : ((e : Int) - 1 - k).toNat = e - 1 - k := by omega
        have i2 : 0 ≤ ((e : Int) - 1 - k) := by omega
        have i3 : ((e : Int) - 1 - k) < 72 := by omega
        have i4 : 0 ≤ ((e : Int) - 1) := by omega
        have c3 := A3.cell (e - 1 - k)
        rw [bv_get _ _ (by rw [tl_len]; omega)] at c3
        have f3 := A3.free (e - 1 - k)
        go_wp2
        go_roundw
        case rel =>
          rw [HL.out]
          have ev : (L : Int) / 2 ^ (8 * k) % 256 = ((L / 2 ^ (8 * k) % 256 : Nat) : Int) := by simp
          rw [ev]
          refine ⟨k + 1, by omega, by go_num, B3.setCell (Nat.le_refl _) _, ?_, by simpa using s3⟩
          have := A3.set (e - 1 - k) (.int .u8 ((L / 2 ^ (8 * k) % 256 : Nat) : Int))
          rw [bv_set, tl_succ e L k hlt he.1] at this
          exact this
        case measure => simp [intOf]; omega
      · obtain rfl : k = 8 := by omega
        have T3 := hT.below B3 h2
        have h3 := HH.out.below B3 hp
        have S3 : Sl wr (some ⟨w.heap.size, 0, none⟩) e 72 ((tl e L 8).take e) := by
          refine ⟨by simp [tl_len]; omega, he.2, by unfold maxLen; omega, fun h => by simp at h, fun a ha i hi => ?_, (tl_byte e L 8).take e⟩
          obtain rfl := Option.some.inj ha
          rw [add_at, Nat.zero_add, A3.cell, bv_get _ _ (by rw [tl_len]; omega)]
          simp [List.getD, hi]
        have hsl := slice58h w.heap.size e he.2
        go_wp2_with (go_at_call 81; refine (add_any wr p bs _ e 72 _ T3 h3 hp2 S3 (fun a ha _ => by obtain rfl := Option.some.inj ha; show w.heap.size ≠ p; omega) (by have := HM.out; rw [S3.len]; omega)).mono ?_; rintro e5 w5 ⟨⟨v, rfl⟩, h5, g5⟩)
        go_end0
        refine ⟨⟨_, rfl⟩, ?_, gro_trans (bel_grown B3 _) g5⟩
        have hm := HM.out
        rw [← hm, HP.out]
        exact h5
end Go.Proofs.YtmedheecimglkaaDoor

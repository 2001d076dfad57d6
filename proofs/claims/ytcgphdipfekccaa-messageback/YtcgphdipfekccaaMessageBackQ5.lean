/-
  Texts in one: Put, Forms, FormsB, PPut, PKey, PutL, PVal.
-/
import Derived.Test.YtcgphdipfekccaaMessageBackQFL
import Derived.Test.YtcgphdipfekccaaMessageBackQ0
import Derived.Test.YtcgphdipfekccaaMessageBackQ4
import Derived.Test.YtcgphdipfekccaaMessageBackQ1
namespace Go.Proofs.Ytcgphdipfekccaa
open Go.RowKit
theorem own_snoc {w : World} {base : Nat} {v : Value} {k : Nat} {xs ys : List Int} {c : Int} (h : w.ownsRow base 5 1 v (k + ys.length + 1) (bv (xs ++ ys) ++ [.int .u8 c])) :
    w.ownsRow base 5 1 v (k + (ys ++ [c]).length) (bv (xs ++ (ys ++ [c]))) := by
  have e : bv (xs ++ (ys ++ [c])) = bv (xs ++ ys) ++ [.int .u8 c] := by simp [bv]
  have l : k + (ys ++ [c]).length = k + ys.length + 1 := by simp; omega
  rw [e, l]
  exact h
set_option maxHeartbeats 800000 in
set_option maxRecDepth 100000 in
theorem putNumber_any (w : World) (base : Nat) (v : Value) (k n : Nat) (xs : List Int) (hn : n < 18446744073709551616) (hk : k + 20 ≤ 140737488355328) (hbase : base ≤ w.heap.size) (hown : w.ownsRow base 5 1 v k (bv xs)) :
    Calls Try.prog 57 #[v, .int .u64 n] w fun e w' =>
      ∃ v', e = .returned v' ∧ w'.ownsRow base 5 1 v' (k + (enc n).length) (bv (xs ++ enc n)) ∧ Below base w w' := by
  obtain ⟨i0, hi, hz0, hz1, hz2⟩ := info_parts u8info
  go_enter Try.func57, Try.ntmps57
  go_wp2
  refine wp_scope_label 0 (fun a' w' => Below base w w' ∧ ∃ (m : Nat) (v' u5 u6 u7 u8 u9 u10 u11 u12 u13 u14 u15 u16 u17 u18 u19 u20 : Value) (ys : List Int), a' = { tmps := #[v', .int .u64 m, undef, undef, .slice none 0 0, u5, u6, u7, u8, u9, u10, u11, u12, u13, u14, u15, u16, u17, u18, u19, u20], defers := [] } ∧ m < 18446744073709551616 ∧ ys ++ enc m = enc n ∧ ys.length + (enc m).length ≤ 10 ∧ w'.ownsRow base 5 1 v' (k + ys.length) (bv (xs ++ ys))) (fun a' _ => (intOf (a'.tmps.getD 1 undef)).toNat) ?_ ?_
  · exact ⟨Below.refl _ _, n, v, _, _, _, _, _, _, _, _, _, _, _, _, _, _, _, _, [], rfl, hn, rfl, by simpa using enc_length hn, by simpa using hown⟩
  · rintro a' w' ⟨hbel, m, v', u5, u6, u7, u8, u9, u10, u11, u12, u13, u14, u15, u16, u17, u18, u19, u20, ys, rfl, hm, hys, hy9, hown'⟩
    have hp := enc_pos m
    have hsz := hbel.size
    by_cases hlt : m < 128
    · have HY : Hid (ys ++ enc m = enc n) := hys
      clear hys
      go_wp2_with (at_builtin; refine wpList_append_own _ rfl _ _ 23 rfl base 5 i0 (.int .u8 0) 1 1 Try.underlying23 hi hz0 hz1 hz2 rfl (by decide) _ _ _ rfl (hown'.alloc _) ⟨w'.heap.size, 0, none⟩ 1 1 [.int .u8 m] rfl rfl (cell_one_new _ _ _) (by simp [Value.oneCell']) (by unfold maxLen; omega) (by omega) (by simp; omega) ?_; intro v2 w2 hown2 hgrow2 hn2)
      have e1 : enc m = [(m : Int)] := enc_small hlt
      have e2 := HY.out
      rw [e1] at e2
      have ho := own_snoc hown2
      rw [e2] at ho
      have hb2 : Below base w w2 := (hbel.alloc (by omega) _).grown hgrow2 (by simp; omega) (fun j hj => (hown'.lt j hj).1)
      clear hown2 hgrow2 hn2
      simp only [Exit.jump]
      go_ret
      exact ⟨v2, rfl, ho, hb2⟩
    · have HY : Hid (ys ++ enc m = enc n) := hys
      clear hys
      have ho := or128 m
      go_wp2_with (at_builtin; refine wpList_append_own _ rfl _ _ 23 rfl base 5 i0 (.int .u8 0) 1 1 Try.underlying23 hi hz0 hz1 hz2 rfl (by decide) _ _ _ rfl (hown'.alloc _) ⟨w'.heap.size, 0, none⟩ 1 1 [.int .u8 ((m % 128 + 128 : Nat) : Int)] rfl rfl (cell_one_new _ _ _) (by simp [Value.oneCell']) (by unfold maxLen; omega) (by omega) (by simp; omega) ?_; intro v2 w2 hown2 hgrow2 hn2)
      have e1 := enc_big (n := m) (by omega) hm
      have e2 := HY.out
      rw [e1] at e2
      have hl : (enc m).length = (enc (m / 128)).length + 1 := by rw [e1]; rfl
      have ho2 := own_snoc hown2
      have hb2 : Below base w w2 := (hbel.alloc (by omega) _).grown hgrow2 (by simp; omega) (fun j hj => (hown'.lt j hj).1)
      clear hown2 hgrow2 hn2
      go_step3
      rw [show ((m : Int) / 128) = ((m / 128 : Nat) : Int) from by omega]
      refine ⟨rfl, ⟨hb2, m / 128, v2, _, _, _, _, _, _, _, _, _, _, _, _, _, _, _, _, ys ++ [((m % 128 + 128 : Nat) : Int)], rfl, by omega, by rw [← e2]; simp, by simp; omega, ho2⟩, ?_⟩
      simp [intOf]
      omega
open Go.RowKit
theorem own_empty (w : World) : (w.alloc (.cells #[] 5)).ownsRow w.heap.size 5 1 (.slice (some ⟨w.heap.size, 0, none⟩) 0 0) 0 (bv []) :=
  World.ownsRow_made w #[] 0 (Nat.le_refl _) (Nat.zero_le _) rfl
set_option maxHeartbeats 400000 in
theorem wUint_any (w : World) (ao : Option Addr) (n cap m : Nat) (xs : List Int) (h : Sl w ao n cap xs) (hr : n + 30 ≤ 140737488355328) (hm : m < 18446744073709551616) :
    Calls Try.prog 35 #[.slice ao n cap, .int .u64 m] w fun e w' =>
      ∃ v, e = .returned v ∧ w'.ownsRow w.heap.size 5 1 v (n + (enc m).length) (bv (xs ++ enc m)) ∧ Below w.heap.size w w' := by
  go_enter Try.func35, Try.ntmps35
  go_wp2_with fail
  refine (withRoom_any w ao n cap 10 xs h (by omega)).mono ?_
  rintro e w1 ⟨rfl, hown1, hb1⟩
  have hs := hb1.size
  go_wp2_with fail
  refine (putNumber_any w1 w.heap.size _ n m xs hm (by omega) hs hown1).mono ?_
  rintro e w2 ⟨v2, rfl, hown2, hb2⟩
  have hb := hb1.trans hb2
  clear hown1 hb1 hb2
  go_wp2_with fail
  go_ret
  exact ⟨v2, rfl, hown2, hb⟩
set_option maxHeartbeats 400000 in
theorem wBytes_any (w : World) (ao bo : Option Addr) (n cap m cap2 : Nat) (xs ys : List Int) (h : Sl w ao n cap xs) (h2 : Sl w bo m cap2 ys) (hr : n + m + 60 ≤ 140737488355328) :
    Calls Try.prog 36 #[.slice ao n cap, .slice bo m cap2] w fun e w' =>
      ∃ v, e = .returned v ∧ w'.ownsRow w.heap.size 5 1 v (n + (enc m).length + m) (bv (xs ++ enc m ++ ys)) ∧ Below w.heap.size w w' := by
  obtain ⟨i0, hi, hz0, hz1, hz2⟩ := info_parts u8info
  go_enter Try.func36, Try.ntmps36
  go_wp2_with fail
  rw [show (10 + (m : Int)) = ((10 + m : Nat) : Int) from by omega]
  refine (withRoom_any w ao n cap (10 + m) xs h (by omega)).mono ?_
  rintro e w1 ⟨rfl, hown1, hb1⟩
  have hs := hb1.size
  go_wp2_with fail
  refine (putNumber_any w1 w.heap.size _ n m xs (by omega) (by omega) hs hown1).mono ?_
  rintro e w2 ⟨v2, rfl, hown2, hb2⟩
  have hs2 := hb2.size
  have hb := hb1.trans hb2
  have hl := enc_length (n := m) (by omega)
  have h3 := h2.below hb
  clear hown1 hb1 hb2
  go_wp2_with (at_builtin; refine wpList_app rfl _ _ rfl w.heap.size _ _ _ rfl hown2 _ _ _ _ rfl h3 (by omega) (by omega) ?_; intro v3 w3 hown3 hb3)
  have hb4 := hb.trans hb3
  clear hb hown2 hb3 h3
  go_ret
  exact ⟨v3, rfl, hown3, hb4⟩
open Go.RowKit
set_option maxHeartbeats 400000 in
theorem wBool_any (w : World) (ao : Option Addr) (n cap : Nat) (b : Bool) (xs : List Int) (h : Sl w ao n cap xs) (hr : n + 30 ≤ 140737488355328) :
    Calls Try.prog 61 #[.slice ao n cap, .bool b] w fun e w' =>
      ∃ v, e = .returned v ∧ w'.ownsRow w.heap.size 5 1 v (n + 1) (bv (xs ++ enb b)) ∧ Below w.heap.size w w' := by
  cases b
  all_goals
    go_enter Try.func61, Try.ntmps61
    go_wp2_with fail
    refine (withRoom_any w ao n cap 1 xs h (by omega)).mono ?_
    rintro e w1 ⟨rfl, hown1, hb1⟩
    have hs := hb1.size
    go_wp2_with (at_builtin; refine wpList_app rfl _ _ rfl w.heap.size _ _ _ rfl (hown1.alloc _) _ _ _ _ rfl (Sl.one w1 _ (by decide)) (by omega) (by simp; omega) ?_; intro v3 w3 hown3 hb3)
    have hb4 := (hb1.alloc hs _).trans hb3
    clear hb1 hown1 hb3
    go_ret
    exact ⟨v3, rfl, hown3, hb4⟩
open Go.RowKit
theorem sl_of_own {w w' : World} {v : Value} {n : Nat} {xs : List Int} (h : w'.ownsRow w.heap.size 5 1 v n (bv xs)) (hb : Byt xs) : ∃ ao m cap, v = .slice ao m cap ∧ Sl w' ao m cap xs := by
  obtain ⟨ao, cap, e, s, _⟩ := Sl.own h hb
  exact ⟨ao, n, cap, e, s⟩
theorem fUint (w : World) (ao : Option Addr) (n cap m : Nat) (xs : List Int) (h : Sl w ao n cap xs) (hr : n ≤ 1000000) (hm : m < 18446744073709551616) :
    Calls Try.prog 35 #[.slice ao n cap, .int .u64 m] w fun e w' => ∃ bo k c, e = .returned (.slice bo k c) ∧ Sl w' bo k c (xs ++ enc m) ∧ Below w.heap.size w w' := by
  refine (wUint_any w ao n cap m xs h (by omega) hm).mono ?_
  rintro e w' ⟨v, rfl, O, B⟩
  obtain ⟨bo, k, c, rfl, s⟩ := sl_of_own O (h.byte.append (enc_byte hm))
  exact ⟨bo, k, c, rfl, s, B⟩
theorem fBytes (w : World) (ao bo : Option Addr) (n cap m cap2 : Nat) (xs ys : List Int) (h : Sl w ao n cap xs) (h2 : Sl w bo m cap2 ys) (hr : n ≤ 1000000) (hr2 : m ≤ 1000000) :
    Calls Try.prog 36 #[.slice ao n cap, .slice bo m cap2] w fun e w' => ∃ bo k c, e = .returned (.slice bo k c) ∧ Sl w' bo k c (xs ++ byts ys) ∧ Below w.heap.size w w' := by
  refine (wBytes_any w ao bo n cap m cap2 xs ys h h2 (by omega)).mono ?_
  rintro e w' ⟨v, rfl, O, B⟩
  have e1 : xs ++ enc m ++ ys = xs ++ byts ys := by unfold byts; rw [h2.len, List.append_assoc]
  rw [e1] at O
  obtain ⟨bo, k, c, rfl, s⟩ := sl_of_own O (h.byte.append (by unfold byts; rw [h2.len]; exact Byt.append (enc_byte (n := m) (by omega)) h2.byte))
  exact ⟨bo, k, c, rfl, s, B⟩
theorem fBool (w : World) (ao : Option Addr) (n cap : Nat) (b : Bool) (xs : List Int) (h : Sl w ao n cap xs) (hr : n ≤ 1000000) :
    Calls Try.prog 61 #[.slice ao n cap, .bool b] w fun e w' => ∃ bo k c, e = .returned (.slice bo k c) ∧ Sl w' bo k c (xs ++ enb b) ∧ Below w.heap.size w w' := by
  refine (wBool_any w ao n cap b xs h (by omega)).mono ?_
  rintro e w' ⟨v, rfl, O, B⟩
  obtain ⟨bo, k, c, rfl, s⟩ := sl_of_own O (h.byte.append (enb_byte b))
  exact ⟨bo, k, c, rfl, s, B⟩
theorem txt_len {s : ByteArray} (h : s.size ≤ 32) : (txt s).length ≤ 42 := by
  have := enc_length (n := s.size) (by omega)
  unfold txt
  rw [List.length_append, sb_len]
  omega
theorem txt_byts (s : ByteArray) : byts (sb s) = txt s := by unfold byts txt; rw [sb_len]
set_option maxRecDepth 100000 in
set_option maxHeartbeats 1000000 in
theorem ptexts_any (w : World) (ao : Option Addr) (n cap : Nat) (xs : List Int) (h : Sl w ao n cap xs) (hr : n ≤ 900000) (g : Nat) (ss : List ByteArray) (hs : ∀ i (hi : i < ss.length), w.cell? ⟨g, i, none⟩ = some (.string ss[i])) (hl : ss.length ≤ 3) (h32 : ∀ s ∈ ss, s.size ≤ 32) :
    Calls Try.prog 60 #[.slice ao n cap, .slice (some ⟨g, 0, none⟩) ss.length ss.length] w fun e w' => ∃ bo k c, e = .returned (.slice bo k c) ∧ Sl w' bo k c (xs ++ (ss.map txt).flatten) ∧ Below w.heap.size w w' := by
  have hxl := h.len
  go_enter Try.func60, Try.ntmps60
  go_wp2
  go_loopw [0, 6, 9] (fun b _ i wr => ∃ (k : Nat) (bo : Option Addr) (m c : Nat), k ≤ ss.length ∧ i = .int .i64 k ∧ b = .slice bo m c ∧ Sl wr bo m c (xs ++ ((ss.take k).map txt).flatten) ∧ m ≤ n + 42 * k ∧ Below w.heap.size w wr) (fun _ _ i _ => ss.length - (intOf i).toNat)
  case atStart => exact ⟨0, ao, n, cap, Nat.zero_le _, rfl, rfl, by simpa using h, by omega, Below.refl _ _⟩
  case round =>
    obtain ⟨k, bo, m, c, hk, rfl, rfl, S, hm, B⟩ := hrel
    by_cases hlt : k < ss.length
    · have i1 : (k : Int) < (ss.length : Int) := by omega
      have q1 : wr.cell? ⟨g, k, none⟩ = some (.string ss[k]) := (B.cell (World.block_lt_of_cell? w _ (hs k hlt))).trans (hs k hlt)
      have z1 := h32 _ (List.getElem_mem hlt)
      have HT : Hid (((ss.take (k + 1)).map txt).flatten = ((ss.take k).map txt).flatten ++ txt ss[k]) := by
        show _ = _
        rw [List.take_succ_eq_append_getElem hlt, List.map_append, List.flatten_append]
        simp
      obtain ⟨s, hs1⟩ : ∃ s, s = ss[k] := ⟨_, rfl⟩
      obtain ⟨p, hp⟩ : ∃ p, p = ((ss.take k).map txt).flatten := ⟨_, rfl⟩
      rw [← hs1] at q1 z1 HT
      rw [← hp] at S HT
      clear hs1 hp hs h32
      have hm1 : m ≤ 1000000 := by omega
      have hm2 : s.size ≤ 1000000 := by omega
      go_wp2_with (refine wpList_conv_bytes rfl (.tmp 14) rfl s rfl (by omega) ?_; intro g1 c1 w1 hg1 S1 B1; have D1 : Below w.heap.size w w1 := B.trans (B1.mono B.size); have T1 := S.below B1; have hl1 := S.len; clear B1 S hg1)
      refine (fBytes w1 bo (some ⟨g1, 0, none⟩) m c s.size c1 (xs ++ p) (sb s) T1 S1 hm1 hm2).mono ?_
      rintro e w2 ⟨bo2, m2, c2, rfl, S2, B2⟩
      have D2 := D1.trans (B2.mono D1.size)
      have l2 := S2.len
      rw [txt_byts] at S2 l2
      clear B2 T1 S1
      go_wp2
      have hl2 := txt_len z1
      go_roundw
      case rel => exact ⟨k + 1, bo2, m2, c2, by omega, by go_num, rfl, by rw [HT.out, ← List.append_assoc]; exact S2, by simp only [List.length_append] at l2 hl1; omega, D2⟩
      case measure => simp [intOf]; omega
    · have i1 : (ss.length : Int) ≤ (k : Int) := by omega
      rw [List.take_of_length_le (by omega)] at S
      go_wp2
      go_ret
      exact ⟨bo, m, c, rfl, S, B⟩
open Go.RowKit
def putK (k : KA) : List Int := txt k.row ++ (txt k.fam ++ (txt k.qual ++ enc k.time))
structure KA.fits (k : KA) : Prop where
  row : k.row.size ≤ 32
  fam : k.fam.size ≤ 32
  qual : k.qual.size ≤ 32
  time : k.time < 18446744073709551616
set_option maxRecDepth 100000 in
set_option maxHeartbeats 4000000 in
theorem pkey_any (w : World) (ao : Option Addr) (n cap : Nat) (xs : List Int) (h : Sl w ao n cap xs) (hr : n ≤ 900000) (k : KA) (hk : k.fits) :
    Calls Try.prog 59 #[.slice ao n cap, k.val] w fun e w' => ∃ bo m c, e = .returned (.slice bo m c) ∧ Sl w' bo m c (xs ++ putK k) ∧ Below w.heap.size w w' := by
  have hxl := h.len
  have B : Below w.heap.size w (w.alloc (.cells #[.string k.row, .string k.fam, .string k.qual, .int .u64 k.time] 54)) := (Below.refl _ w).alloc (Nat.le_refl _) _
  have K := KyC.new w k
  have h1 := h.below B
  unfold KA.val
  go_enter Try.func59, Try.ntmps59
  go_wp2_with fail
  obtain ⟨w1, hw1⟩ : ∃ W, W = w.alloc (.cells #[.string k.row, .string k.fam, .string k.qual, .int .u64 k.time] 54) := ⟨_, rfl⟩
  obtain ⟨N, hN⟩ : ∃ N, N = w.heap.size := ⟨_, rfl⟩
  rw [← hw1] at B K h1 ⊢
  rw [← hN] at B K ⊢
  have HN : Hid (N = w.heap.size) := hN
  clear h hw1 hN
  have HS : Hid (∀ V, Below w1.heap.size w1 V → V.cell? ⟨N, 0, none⟩ = some (.string k.row) ∧ V.cell? ⟨N, 1, none⟩ = some (.string k.fam) ∧ V.cell? ⟨N, 2, none⟩ = some (.string k.qual) ∧ V.cell? ⟨N, 3, none⟩ = some (.int .u64 k.time)) := fun V hV => have q := K.keep hV; ⟨q.c0, q.c1, q.c2, q.c3⟩
  have E0 : Below w1.heap.size w1 w1.drew := (Below.refl _ _).drew
  refine wp_region_noPanic ?_
  refine wp_region_held_drew (S := fun V => V.cell? ⟨N, 0, none⟩ = some (.string k.row) ∧ V.cell? ⟨N, 1, none⟩ = some (.string k.fam) ∧ V.cell? ⟨N, 2, none⟩ = some (.string k.qual) ∧ V.cell? ⟨N, 3, none⟩ = some (.int .u64 k.time)) (by kernel_rfl) (HS.out _ E0) (fun H0 => ?_)
  obtain ⟨v0, hv0⟩ : ∃ v, v = w1.drew := ⟨_, rfl⟩
  rw [← hv0] at H0 E0 ⊢
  clear hv0
  refine hr_take_w 0 (some 5) (.slice ao n cap) rfl rfl (by kernel_rfl) (by kernel_rfl) (by kernel_rfl) rfl (fun W hW => by obtain ⟨h0, h1, h2, h3⟩ := hW; go_simp) H0 ?_
  simp only [FL]
  refine hr_take_w 1 (some 6) (.pointer (some ⟨N, 0, none⟩)) rfl rfl (by kernel_rfl) (by kernel_rfl) (by kernel_rfl) rfl (fun W hW => by obtain ⟨h0, h1, h2, h3⟩ := hW; go_simp) H0 ?_
  simp only [FL]
  refine hr_take_w 2 (some 7) (.string k.row) rfl rfl (by kernel_rfl) (by kernel_rfl) (by kernel_rfl) rfl (fun W hW => by obtain ⟨h0, h1, h2, h3⟩ := hW; go_simp) H0 ?_
  simp only [FL]
  refine hr_take_w 3 (some 8) (.pointer (some ⟨N, 1, none⟩)) rfl rfl (by kernel_rfl) (by kernel_rfl) (by kernel_rfl) rfl (fun W hW => by obtain ⟨h0, h1, h2, h3⟩ := hW; go_simp) H0 ?_
  simp only [FL]
  refine hr_take_w 4 (some 9) (.string k.fam) rfl rfl (by kernel_rfl) (by kernel_rfl) (by kernel_rfl) rfl (fun W hW => by obtain ⟨h0, h1, h2, h3⟩ := hW; go_simp) H0 ?_
  simp only [FL]
  refine hr_take_w 5 (some 10) (.pointer (some ⟨N, 2, none⟩)) rfl rfl (by kernel_rfl) (by kernel_rfl) (by kernel_rfl) rfl (fun W hW => by obtain ⟨h0, h1, h2, h3⟩ := hW; go_simp) H0 ?_
  simp only [FL]
  refine hr_take_w 6 (some 11) (.string k.qual) rfl rfl (by kernel_rfl) (by kernel_rfl) (by kernel_rfl) rfl (fun W hW => by obtain ⟨h0, h1, h2, h3⟩ := hW; go_simp) H0 ?_
  simp only [FL]
  refine hr_take_w 9 (some 14) (.pointer (some ⟨N, 3, none⟩)) rfl rfl (by kernel_rfl) (by kernel_rfl) (by kernel_rfl) rfl (fun W hW => by obtain ⟨h0, h1, h2, h3⟩ := hW; go_simp) H0 ?_
  simp only [FL]
  refine hr_take_w 10 (some 15) (.int .u64 k.time) rfl rfl (by kernel_rfl) (by kernel_rfl) (by kernel_rfl) rfl (fun W hW => by obtain ⟨h0, h1, h2, h3⟩ := hW; go_simp) H0 ?_
  simp only [FL]
  obtain ⟨g, hg⟩ : ∃ g, g = v0.heap.size := ⟨_, rfl⟩
  obtain ⟨u0, hu0⟩ : ∃ V, V = v0.alloc (.cells #[.string k.row, .string k.fam, .string k.qual] 9) := ⟨_, rfl⟩
  have U0 : Below v0.heap.size v0 u0 := by rw [hu0]; exact (Below.refl _ _).alloc (Nat.le_refl _) _
  have hc : ∀ i (hi : i < [k.row, k.fam, k.qual].length), u0.cell? ⟨g, i, none⟩ = some (.string [k.row, k.fam, k.qual][i]) := fun i hi => by
    rw [hu0, hg, cell_of_row _ v0.heap.size i #[.string k.row, .string k.fam, .string k.qual] 9 (0, 0) (heap_alloc_new v0 _)]
    have hi : i < 3 := hi
    obtain rfl | rfl | rfl : i = 0 ∨ i = 1 ∨ i = 2 := by omega
    all_goals rfl
  have E1 := E0.trans (U0.mono E0.size)
  have H1 := HS.out u0 E1
  refine hr_do 7 (some 12) (.slice (some ⟨g, 0, none⟩) 3 3) rfl rfl (by kernel_rfl) rfl (w' := u0) (by rw [hu0, hg]; go_simp) H1 ?_
  simp only [FL]
  clear hu0 hg U0
  have s1 := h1.below E1
  obtain ⟨v1, hv1⟩ : ∃ V, V = u0 := ⟨_, rfl⟩
  rw [← hv1] at hc E1 H1 s1 ⊢
  clear hv1
  have h32 : ∀ s ∈ [k.row, k.fam, k.qual], s.size ≤ 32 := by
    intro s hs
    simp only [List.mem_cons, List.not_mem_nil, or_false] at hs
    rcases hs with rfl | rfl | rfl
    · exact hk.row
    · exact hk.fam
    · exact hk.qual
  have l0 := txt_len hk.row
  have l1 := txt_len hk.fam
  have l2 := txt_len hk.qual
  refine hr_call_w 8 (some 13) 60 #[.slice ao n cap, .slice (some ⟨g, 0, none⟩) 3 3] rfl rfl (by kernel_rfl) rfl (by go_simp) (fun v w' => ∃ bo m c, v = .slice bo m c ∧ Sl w' bo m c (xs ++ ([k.row, k.fam, k.qual].map txt).flatten) ∧ Below v1.heap.size v1 w') ((ptexts_any v1 ao n cap xs s1 hr g [k.row, k.fam, k.qual] hc (Nat.le_refl 3) h32).mono (by
    rintro e w' ⟨bo, m, c, rfl, F, C⟩
    exact ⟨_, rfl, bo, m, c, rfl, F, C⟩)) ?_
  rintro v v2 ⟨bo, m, c, rfl, F1, C1⟩
  have E2 := E1.trans (C1.mono E1.size)
  have H2 := HS.out v2 E2
  refine ⟨H2, ?_⟩
  simp only [FL]
  have lm := F1.len
  simp only [List.map_cons, List.map_nil, List.flatten_cons, List.flatten_nil, List.length_append, List.append_nil] at lm
  refine hr_call_w 11 (some 16) 35 #[.slice bo m c, .int .u64 k.time] rfl rfl (by kernel_rfl) rfl (by go_simp) (fun v w' => ∃ bo2 m2 c2, v = .slice bo2 m2 c2 ∧ Sl w' bo2 m2 c2 (xs ++ ([k.row, k.fam, k.qual].map txt).flatten ++ enc k.time) ∧ Below v2.heap.size v2 w') ((fUint v2 bo m c k.time _ F1 (by omega) hk.time).mono (by
    rintro e w' ⟨bo2, m2, c2, rfl, F, C⟩
    exact ⟨_, rfl, bo2, m2, c2, rfl, F, C⟩)) ?_
  rintro v v3 ⟨bo2, m2, c2, rfl, F2, C2⟩
  have E3 := E2.trans (C2.mono E2.size)
  have H3 := HS.out v3 E3
  refine ⟨H3, ?_⟩
  simp only [FL]
  refine hr_take_w 12 (some 4) (.slice bo2 m2 c2) rfl rfl (by kernel_rfl) (by kernel_rfl) (by kernel_rfl) rfl (fun W hW => by obtain ⟨h0, h1, h2, h3⟩ := hW; go_simp) H3 ?_
  simp only [FL]
  refine wpAnyH_done (by kernel_rfl) ?_ _
  refine NoPanic.normal ?_
  have D := B.trans (E3.mono (by have := B.size; have := HN.out; omega))
  have fin : xs ++ ([k.row, k.fam, k.qual].map txt).flatten ++ enc k.time = xs ++ putK k := by
    unfold putK
    simp
  rw [fin] at F2
  go_wp2
  go_ret
  exact ⟨bo2, m2, c2, rfl, F2, by rw [← HN.out]; exact D⟩
open Go.RowKit
theorem fUintI (w : World) (ao : Option Addr) (n cap : Nat) (m : Int) (xs : List Int) (h : Sl w ao n cap xs) (hr : n ≤ 1000000) (h0 : 0 ≤ m) (hm : m < 18446744073709551616) :
    Calls Try.prog 35 #[.slice ao n cap, .int .u64 m] w fun e w' => ∃ bo k c, e = .returned (.slice bo k c) ∧ Sl w' bo k c (xs ++ enc m.toNat) ∧ Below w.heap.size w w' := by
  obtain ⟨k, rfl⟩ : ∃ k : Nat, m = k := ⟨m.toNat, (Int.toNat_of_nonneg h0).symm⟩
  exact fUint w ao n cap k xs h hr (by omega)
theorem byts_len {l : List Int} (h : l.length ≤ 256) : (byts l).length ≤ 266 := by
  have := enc_length (n := l.length) (by omega)
  unfold byts
  rw [List.length_append]
  omega
theorem putK_len {k : KA} (h : k.fits) : (putK k).length ≤ 136 := by
  have := txt_len h.row
  have := txt_len h.fam
  have := txt_len h.qual
  have := enc_length h.time
  unfold putK
  simp only [List.length_append]
  omega
theorem enb_len (b : Bool) : (enb b).length = 1 := by cases b <;> rfl
def PutPost (w : World) (ys : List Int) (e : Ending) (w' : World) : Prop := ∃ bo m c, e = .returned (.slice bo m c) ∧ Sl w' bo m c ys ∧ Below w.heap.size w w'
open Go.RowKit
theorem pwant_any (w : World) (ao : Option Addr) (n cap : Nat) (b : Bool) :
    Calls Try.prog 85 #[.slice ao n cap, .bool b] w fun e w' => e = .returned (.bool (decide (n ≤ 256 ∧ (b = true ∨ n = 0)))) ∧ w' = w := by
  by_cases l : n ≤ 256
  · have hv : decide (n ≤ 256) = true := decide_eq_true l
    cases b with
    | true =>
      rw [decide_eq_true ⟨l, .inl rfl⟩]
      go_enter Try.func85, Try.ntmps85
      go_wp2_with (go_at_call 79; refine (pvalue_any _ ao n cap).mono ?_; rintro e w' ⟨rfl, rfl⟩; rw [hv])
      go_ret
      exact ⟨rfl, rfl⟩
    | false =>
      by_cases z : n = 0
      · subst z
        rw [decide_eq_true ⟨by omega, .inr rfl⟩]
        go_enter Try.func85, Try.ntmps85
        go_wp2_with (go_at_call 79; refine (pvalue_any _ ao 0 cap).mono ?_; rintro e w' ⟨rfl, rfl⟩; rw [hv])
        go_ret
        exact ⟨rfl, rfl⟩
      · have i : ((n : Int) == 0) = false := by simp; omega
        rw [decide_eq_false (by simp; omega)]
        go_enter Try.func85, Try.ntmps85
        go_wp2_with (go_at_call 79; refine (pvalue_any _ ao n cap).mono ?_; rintro e w' ⟨rfl, rfl⟩; rw [hv])
        go_ret
        exact ⟨rfl, rfl⟩
  · have hv : decide (n ≤ 256) = false := decide_eq_false l
    rw [decide_eq_false (fun h => l h.1)]
    go_enter Try.func85, Try.ntmps85
    go_wp2_with (go_at_call 79; refine (pvalue_any _ ao n cap).mono ?_; rintro e w' ⟨rfl, rfl⟩; rw [hv])
    go_ret
    exact ⟨rfl, rfl⟩
theorem pequal_any (w : World) (ao bo : Option Addr) (n cap m cap2 : Nat) (xs ys : List Int) (h : Sl w ao n cap xs) (h2 : Sl w bo m cap2 ys) :
    Calls Try.prog 91 #[.slice ao n cap, .slice bo m cap2] w fun e w' => e = .returned (.bool (decide (xs = ys))) ∧ w' = w := by
  have c1 := conv_str h
  have c2 := conv_str h2
  by_cases e : xs = ys
  · subst e
    rw [decide_eq_true rfl]
    go_enter Try.func91, Try.ntmps91
    go_wp2
    go_ret
    exact ⟨rfl, rfl⟩
  · have i : ((strOfNums xs).toList == (strOfNums ys).toList) = false := toL_ne fun q => e (by rw [← sb_str h.byte, q, sb_str h2.byte])
    rw [decide_eq_false e]
    go_enter Try.func91, Try.ntmps91
    go_wp2
    go_ret
    exact ⟨rfl, rfl⟩
end Go.Proofs.Ytcgphdipfekccaa

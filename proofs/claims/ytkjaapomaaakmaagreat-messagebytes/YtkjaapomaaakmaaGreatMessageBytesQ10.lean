/-
  Texts in one: Room, Put, Forms, FormsB, PPut, CKeys, PKey, PutL, PParts, PRight.
-/
import Derived.Test.YtkjaapomaaakmaaGreatMessageBytesQFL
import Derived.Test.YtkjaapomaaakmaaGreatMessageBytesQ0
import Derived.Test.YtkjaapomaaakmaaGreatMessageBytesQ7
import Derived.Test.YtkjaapomaaakmaaGreatMessageBytesQ8
namespace Go.Proofs.YtkjaapomaaakmaaGreat
open Go.RowKit
set_option maxHeartbeats 400000 in
theorem withRoom_any (w : World) (ao : Option Addr) (n cap r : Nat) (xs : List Int) (h : Sl w ao n cap xs) (hr : n + r ≤ 140737488355328) :
  Calls Tryz.prog 89 #[.slice ao n cap, .int .i64 r] w fun e w' =>
   e = .returned (.slice (some ⟨w.heap.size, 0, none⟩) n (n + r)) ∧ w'.ownsRow w.heap.size 5 1 (.slice (some ⟨w.heap.size, 0, none⟩) n (n + r)) n (bv xs) ∧ Below w.heap.size w w' := by
 obtain ⟨i0, hi, hz0, hz1, hz2⟩ := info_parts u8info
 have hl := h.len
 have hnil := h.nil
 have hcells := h.cells
 go_enter Tryz.func89, Tryz.ntmps89
 go_wp2_with (first | (at_make; refine wpList_make_own _ rfl _ _ 23 rfl w.heap.size 5 i0 (.int .u8 0) 1 Tryz.underlying23 hi hz0 hz1 _ _ _ (n + r) rfl rfl (by omega) (by rw [hz2]; omega) (by unfold maxLen; omega) (Nat.le_refl _) ?_; intro w1 hown1 hgrow1) | (at_builtin; refine wpList_append_fits_any _ rfl _ _ 23 rfl w.heap.size 5 i0 1 Tryz.underlying23 hi hz1 w.heap.size 0 (n + r) [] rfl hown1 ao n cap (bv xs) rfl (by rw [bv_length]; omega) hnil (fun ad had j u hu => hgrow1.cell (hcells ad had j u hu) (by simp)) (bv_one xs) (by omega) ?_; intro w2 hown2 hgrow2; simp only [Nat.zero_add, List.nil_append] at hown2) | fail)
 have hb : Below w.heap.size w w2 := ((Below.refl _ w).grown hgrow1 (Nat.le_refl _) (fun k hk => by simp at hk)).grown hgrow2 hgrow1.size (fun k hk => by simp at hk; omega)
 go_ret
 exact ⟨rfl, hown2, hb⟩
open Go.RowKit
theorem own_snoc {w : World} {base : Nat} {v : Value} {k : Nat} {xs ys : List Int} {c : Int} (h : w.ownsRow base 5 1 v (k + ys.length + 1) (bv (xs ++ ys) ++ [.int .u8 c])) :
  w.ownsRow base 5 1 v (k + (ys ++ [c]).length) (bv (xs ++ (ys ++ [c]))) := by
 have e : bv (xs ++ (ys ++ [c])) = bv (xs ++ ys) ++ [.int .u8 c] := by simp [bv]
 have l : k + (ys ++ [c]).length = k + ys.length + 1 := by simp; omega
 rw [e, l]
 exact h
set_option maxHeartbeats 800000 in
set_option maxRecDepth 100000 in
theorem putNumber_any (w : World) (base : Nat) (v : Value) (k n : Nat) (xs : List Int) (hn : n < 18446744073709551616) (hk : k + 20 ≤ 140737488355328) (hbase : base ≤ w.heap.size) (hown : w.ownsRow base 5 1 v k (bv xs)) :
  Calls Tryz.prog 113 #[v, .int .u64 n] w fun e w' =>
   ∃ v', e = .returned v' ∧ w'.ownsRow base 5 1 v' (k + (enc n).length) (bv (xs ++ enc n)) ∧ Below base w w' := by
 obtain ⟨i0, hi, hz0, hz1, hz2⟩ := info_parts u8info
 go_enter Tryz.func113, Tryz.ntmps113
 go_wp2
 refine wp_scope_label 0 (fun a' w' => Below base w w' ∧ ∃ (m : Nat) (v' u5 u6 u7 u8 u9 u10 u11 u12 u13 u14 u15 u16 u17 u18 u19 u20 : Value) (ys : List Int), a' = { tmps := #[v', .int .u64 m, undef, undef, .slice none 0 0, u5, u6, u7, u8, u9, u10, u11, u12, u13, u14, u15, u16, u17, u18, u19, u20], defers := [] } ∧ m < 18446744073709551616 ∧ ys ++ enc m = enc n ∧ ys.length + (enc m).length ≤ 10 ∧ w'.ownsRow base 5 1 v' (k + ys.length) (bv (xs ++ ys))) (fun a' _ => (intOf (a'.tmps.getD 1 undef)).toNat) ?_ ?_
 ·exact ⟨Below.refl _ _, n, v, _, _, _, _, _, _, _, _, _, _, _, _, _, _, _, _, [], rfl, hn, rfl, by simpa using enc_length hn, by simpa using hown⟩
 ·rintro a' w' ⟨hbel, m, v', u5, u6, u7, u8, u9, u10, u11, u12, u13, u14, u15, u16, u17, u18, u19, u20, ys, rfl, hm, hys, hy9, hown'⟩
  have hp := enc_pos m
  have hsz := hbel.size
  by_cases hlt : m < 128
  ·have HY : Hid (ys ++ enc m = enc n) := hys
   clear hys
   go_wp2_with (at_builtin; refine wpList_append_own _ rfl _ _ 23 rfl base 5 i0 (.int .u8 0) 1 1 Tryz.underlying23 hi hz0 hz1 hz2 rfl (by decide) _ _ _ rfl (hown'.alloc _) ⟨w'.heap.size, 0, none⟩ 1 1 [.int .u8 m] rfl rfl (cell_one_new _ _ _) (by simp [Value.oneCell']) (by unfold maxLen; omega) (by omega) (by simp; omega) ?_; intro v2 w2 hown2 hgrow2 hn2)
   have e1 : enc m = [(m : Int)] := enc_small hlt
   have e2 := HY.out
   rw [e1] at e2
   have ho := own_snoc hown2
   rw [e2] at ho
   have hb2 : Below base w w2 := (hbel.alloc (by omega) _).grown hgrow2 (by simp; omega) (fun j hj => (hown'.lt j hj).1)
   clear hown2 hgrow2 hn2
   simp only [Exit.jump]
   go_ret
   exact ⟨v2, rfl, ho, hb2⟩
  ·have HY : Hid (ys ++ enc m = enc n) := hys
   clear hys
   have ho := or128 m
   go_wp2_with (at_builtin; refine wpList_append_own _ rfl _ _ 23 rfl base 5 i0 (.int .u8 0) 1 1 Tryz.underlying23 hi hz0 hz1 hz2 rfl (by decide) _ _ _ rfl (hown'.alloc _) ⟨w'.heap.size, 0, none⟩ 1 1 [.int .u8 ((m % 128 + 128 : Nat) : Int)] rfl rfl (cell_one_new _ _ _) (by simp [Value.oneCell']) (by unfold maxLen; omega) (by omega) (by simp; omega) ?_; intro v2 w2 hown2 hgrow2 hn2)
   have e1 := enc_big (n := m) (by omega) hm
   have e2 := HY.out
   rw [e1] at e2
   have hl : (enc m).length = (enc (m / 128)).length + 1 := by rw [e1]; rfl
   have ho2 := own_snoc hown2
   have hb2 : Below base w w2 := (hbel.alloc (by omega) _).grown hgrow2 (by simp; omega) (fun j hj => (hown'.lt j hj).1)
   clear hown2 hgrow2 hn2
   go_step3
   rw [show ((m : Int) / 128) = ((m / 128 : Nat) : Int) from by omega]
   refine ⟨rfl, ⟨hb2, m / 128, v2, _, _, _, _, _, _, _, _, _, _, _, _, _, _, _, _, ys ++ [((m % 128 + 128 : Nat) : Int)], rfl, by omega, by rw [← e2]; simp, by simp; omega, ho2⟩, ?_⟩
   simp [intOf]
   omega
open Go.RowKit
theorem own_empty (w : World) : (w.alloc (.cells #[] 5)).ownsRow w.heap.size 5 1 (.slice (some ⟨w.heap.size, 0, none⟩) 0 0) 0 (bv []) :=
 World.ownsRow_made w #[] 0 (Nat.le_refl _) (Nat.zero_le _) rfl
set_option maxHeartbeats 400000 in
theorem wUint_any (w : World) (ao : Option Addr) (n cap m : Nat) (xs : List Int) (h : Sl w ao n cap xs) (hr : n + 30 ≤ 140737488355328) (hm : m < 18446744073709551616) :
  Calls Tryz.prog 77 #[.slice ao n cap, .int .u64 m] w fun e w' =>
   ∃ v, e = .returned v ∧ w'.ownsRow w.heap.size 5 1 v (n + (enc m).length) (bv (xs ++ enc m)) ∧ Below w.heap.size w w' := by
 go_enter Tryz.func77, Tryz.ntmps77
 go_wp2_with fail
 refine (withRoom_any w ao n cap 10 xs h (by omega)).mono ?_
 rintro e w1 ⟨rfl, hown1, hb1⟩
 have hs := hb1.size
 go_wp2_with fail
 refine (putNumber_any w1 w.heap.size _ n m xs hm (by omega) hs hown1).mono ?_
 rintro e w2 ⟨v2, rfl, hown2, hb2⟩
 have hb := hb1.trans hb2
 clear hown1 hb1 hb2
 go_wp2_with fail
 go_ret
 exact ⟨v2, rfl, hown2, hb⟩
set_option maxHeartbeats 400000 in
theorem wBytes_any (w : World) (ao bo : Option Addr) (n cap m cap2 : Nat) (xs ys : List Int) (h : Sl w ao n cap xs) (h2 : Sl w bo m cap2 ys) (hr : n + m + 60 ≤ 140737488355328) :
  Calls Tryz.prog 78 #[.slice ao n cap, .slice bo m cap2] w fun e w' =>
   ∃ v, e = .returned v ∧ w'.ownsRow w.heap.size 5 1 v (n + (enc m).length + m) (bv (xs ++ enc m ++ ys)) ∧ Below w.heap.size w w' := by
 obtain ⟨i0, hi, hz0, hz1, hz2⟩ := info_parts u8info
 go_enter Tryz.func78, Tryz.ntmps78
 go_wp2_with fail
 rw [show (10 + (m : Int)) = ((10 + m : Nat) : Int) from by omega]
 refine (withRoom_any w ao n cap (10 + m) xs h (by omega)).mono ?_
 rintro e w1 ⟨rfl, hown1, hb1⟩
 have hs := hb1.size
 go_wp2_with fail
 refine (putNumber_any w1 w.heap.size _ n m xs (by omega) (by omega) hs hown1).mono ?_
 rintro e w2 ⟨v2, rfl, hown2, hb2⟩
 have hs2 := hb2.size
 have hb := hb1.trans hb2
 have hl := enc_length (n := m) (by omega)
 have h3 := h2.below hb
 clear hown1 hb1 hb2
 go_wp2_with (at_builtin; refine wpList_app rfl _ _ rfl w.heap.size _ _ _ rfl hown2 _ _ _ _ rfl h3 (by omega) (by omega) ?_; intro v3 w3 hown3 hb3)
 have hb4 := hb.trans hb3
 clear hb hown2 hb3 h3
 go_ret
 exact ⟨v3, rfl, hown3, hb4⟩
open Go.RowKit
set_option maxHeartbeats 400000 in
theorem wBool_any (w : World) (ao : Option Addr) (n cap : Nat) (b : Bool) (xs : List Int) (h : Sl w ao n cap xs) (hr : n + 30 ≤ 140737488355328) :
  Calls Tryz.prog 117 #[.slice ao n cap, .bool b] w fun e w' =>
   ∃ v, e = .returned v ∧ w'.ownsRow w.heap.size 5 1 v (n + 1) (bv (xs ++ enb b)) ∧ Below w.heap.size w w' := by
 cases b
 all_goals
  go_enter Tryz.func117, Tryz.ntmps117
  go_wp2_with fail
  refine (withRoom_any w ao n cap 1 xs h (by omega)).mono ?_
  rintro e w1 ⟨rfl, hown1, hb1⟩
  have hs := hb1.size
  go_wp2_with (at_builtin; refine wpList_app rfl _ _ rfl w.heap.size _ _ _ rfl (hown1.alloc _) _ _ _ _ rfl (Sl.one w1 _ (by decide)) (by omega) (by simp; omega) ?_; intro v3 w3 hown3 hb3)
  have hb4 := (hb1.alloc hs _).trans hb3
  clear hb1 hown1 hb3
  go_ret
  exact ⟨v3, rfl, hown3, hb4⟩
open Go.RowKit
theorem sl_of_own {w w' : World} {v : Value} {n : Nat} {xs : List Int} (h : w'.ownsRow w.heap.size 5 1 v n (bv xs)) (hb : Byt xs) : ∃ ao m cap, v = .slice ao m cap ∧ Sl w' ao m cap xs := by
 obtain ⟨ao, cap, e, s, _⟩ := Sl.own h hb
 exact ⟨ao, n, cap, e, s⟩
theorem fUint (w : World) (ao : Option Addr) (n cap m : Nat) (xs : List Int) (h : Sl w ao n cap xs) (hr : n ≤ 1000000) (hm : m < 18446744073709551616) :
  Calls Tryz.prog 77 #[.slice ao n cap, .int .u64 m] w fun e w' => ∃ bo k c, e = .returned (.slice bo k c) ∧ Sl w' bo k c (xs ++ enc m) ∧ Below w.heap.size w w' := by
 refine (wUint_any w ao n cap m xs h (by omega) hm).mono ?_
 rintro e w' ⟨v, rfl, O, B⟩
 obtain ⟨bo, k, c, rfl, s⟩ := sl_of_own O (h.byte.append (enc_byte hm))
 exact ⟨bo, k, c, rfl, s, B⟩
theorem fBytes (w : World) (ao bo : Option Addr) (n cap m cap2 : Nat) (xs ys : List Int) (h : Sl w ao n cap xs) (h2 : Sl w bo m cap2 ys) (hr : n ≤ 1000000) (hr2 : m ≤ 1000000) :
  Calls Tryz.prog 78 #[.slice ao n cap, .slice bo m cap2] w fun e w' => ∃ bo k c, e = .returned (.slice bo k c) ∧ Sl w' bo k c (xs ++ byts ys) ∧ Below w.heap.size w w' := by
 refine (wBytes_any w ao bo n cap m cap2 xs ys h h2 (by omega)).mono ?_
 rintro e w' ⟨v, rfl, O, B⟩
 have e1 : xs ++ enc m ++ ys = xs ++ byts ys := by unfold byts; rw [h2.len, List.append_assoc]
 rw [e1] at O
 obtain ⟨bo, k, c, rfl, s⟩ := sl_of_own O (h.byte.append (by unfold byts; rw [h2.len]; exact Byt.append (enc_byte (n := m) (by omega)) h2.byte))
 exact ⟨bo, k, c, rfl, s, B⟩
theorem fBool (w : World) (ao : Option Addr) (n cap : Nat) (b : Bool) (xs : List Int) (h : Sl w ao n cap xs) (hr : n ≤ 1000000) :
  Calls Tryz.prog 117 #[.slice ao n cap, .bool b] w fun e w' => ∃ bo k c, e = .returned (.slice bo k c) ∧ Sl w' bo k c (xs ++ enb b) ∧ Below w.heap.size w w' := by
 refine (wBool_any w ao n cap b xs h (by omega)).mono ?_
 rintro e w' ⟨v, rfl, O, B⟩
 obtain ⟨bo, k, c, rfl, s⟩ := sl_of_own O (h.byte.append (enb_byte b))
 exact ⟨bo, k, c, rfl, s, B⟩
theorem txt_len {s : ByteArray} (h : s.size ≤ 32) : (txt s).length ≤ 42 := by
 have := enc_length (n := s.size) (by omega)
 unfold txt
 rw [List.length_append, sb_len]
 omega
theorem txt_byts (s : ByteArray) : byts (sb s) = txt s := by unfold byts txt; rw [sb_len]
set_option maxRecDepth 100000 in
set_option maxHeartbeats 1000000 in
theorem ptexts_any (w : World) (ao : Option Addr) (n cap : Nat) (xs : List Int) (h : Sl w ao n cap xs) (hr : n ≤ 900000) (g : Nat) (ss : List ByteArray) (hs : ∀ i (hi : i < ss.length), w.cell? ⟨g, i, none⟩ = some (.string ss[i])) (hl : ss.length ≤ 3) (h32 : ∀ s ∈ ss, s.size ≤ 32) :
  Calls Tryz.prog 116 #[.slice ao n cap, .slice (some ⟨g, 0, none⟩) ss.length ss.length] w fun e w' => ∃ bo k c, e = .returned (.slice bo k c) ∧ Sl w' bo k c (xs ++ (ss.map txt).flatten) ∧ Below w.heap.size w w' := by
 have hxl := h.len
 go_enter Tryz.func116, Tryz.ntmps116
 go_wp2
 go_loopw [0, 6, 9] (fun b _ i wr => ∃ (k : Nat) (bo : Option Addr) (m c : Nat), k ≤ ss.length ∧ i = .int .i64 k ∧ b = .slice bo m c ∧ Sl wr bo m c (xs ++ ((ss.take k).map txt).flatten) ∧ m ≤ n + 42 * k ∧ Below w.heap.size w wr) (fun _ _ i _ => ss.length - (intOf i).toNat)
 case atStart => exact ⟨0, ao, n, cap, Nat.zero_le _, rfl, rfl, by simpa using h, by omega, Below.refl _ _⟩
 case round =>
  obtain ⟨k, bo, m, c, hk, rfl, rfl, S, hm, B⟩ := hrel
  by_cases hlt : k < ss.length
  ·have i1 : (k : Int) < (ss.length : Int) := by omega
   have q1 : wr.cell? ⟨g, k, none⟩ = some (.string ss[k]) := (B.cell (World.block_lt_of_cell? w _ (hs k hlt))).trans (hs k hlt)
   have z1 := h32 _ (List.getElem_mem hlt)
   have HT : Hid (((ss.take (k + 1)).map txt).flatten = ((ss.take k).map txt).flatten ++ txt ss[k]) := by
    show _ = _
    rw [List.take_succ_eq_append_getElem hlt, List.map_append, List.flatten_append]
    simp
   obtain ⟨s, hs1⟩ : ∃ s, s = ss[k] := ⟨_, rfl⟩
   obtain ⟨p, hp⟩ : ∃ p, p = ((ss.take k).map txt).flatten := ⟨_, rfl⟩
   rw [← hs1] at q1 z1 HT
   rw [← hp] at S HT
   clear hs1 hp hs h32
   have hm1 : m ≤ 1000000 := by omega
   have hm2 : s.size ≤ 1000000 := by omega
   go_wp2_with (refine wpList_conv_bytes rfl (.tmp 14) rfl s rfl (by omega) ?_; intro g1 c1 w1 hg1 S1 B1; have D1 : Below w.heap.size w w1 := B.trans (B1.mono B.size); have T1 := S.below B1; have hl1 := S.len; clear B1 S hg1)
   refine (fBytes w1 bo (some ⟨g1, 0, none⟩) m c s.size c1 (xs ++ p) (sb s) T1 S1 hm1 hm2).mono ?_
   rintro e w2 ⟨bo2, m2, c2, rfl, S2, B2⟩
   have D2 := D1.trans (B2.mono D1.size)
   have l2 := S2.len
   rw [txt_byts] at S2 l2
   clear B2 T1 S1
   go_wp2
   have hl2 := txt_len z1
   go_roundw
   case rel => exact ⟨k + 1, bo2, m2, c2, by omega, by go_num, rfl, by rw [HT.out, ← List.append_assoc]; exact S2, by simp only [List.length_append] at l2 hl1; omega, D2⟩
   case measure => simp [intOf]; omega
  ·have i1 : (ss.length : Int) ≤ (k : Int) := by omega
   rw [List.take_of_length_le (by omega)] at S
   go_wp2
   go_ret
   exact ⟨bo, m, c, rfl, S, B⟩
open Go.RowKit
def KyC (V : World) (p : Nat) (k : KA) : Prop := V.heap[p]? = some (.cells #[.string k.row, .string k.fam, .string k.qual, .int .u64 k.time] 59)
theorem KyC.lt {V : World} {p : Nat} {k : KA} (h : KyC V p k) : p < V.heap.size := (Array.getElem?_eq_some_iff.1 h).1
theorem KyC.below {V V' : World} {p n : Nat} {k : KA} (h : KyC V p k) (hb : Below n V V') (hp : p < n) : KyC V' p k := (hb.block p hp).trans h
theorem KyC.keep {V V' : World} {p : Nat} {k : KA} (h : KyC V p k) (hb : Below V.heap.size V V') : KyC V' p k := h.below hb h.lt
theorem KyC.new (w : World) (k : KA) : KyC (w.alloc (.cells #[.string k.row, .string k.fam, .string k.qual, .int .u64 k.time] 59)) w.heap.size k := heap_alloc_new w _
theorem KyC.c0 {V : World} {p : Nat} {k : KA} (h : KyC V p k) : V.cell? ⟨p, 0, none⟩ = some (.string k.row) := cell_of_row V p 0 _ _ _ h
theorem KyC.c1 {V : World} {p : Nat} {k : KA} (h : KyC V p k) : V.cell? ⟨p, 1, none⟩ = some (.string k.fam) := cell_of_row V p 1 _ _ _ h
theorem KyC.c2 {V : World} {p : Nat} {k : KA} (h : KyC V p k) : V.cell? ⟨p, 2, none⟩ = some (.string k.qual) := cell_of_row V p 2 _ _ _ h
theorem KyC.c3 {V : World} {p : Nat} {k : KA} (h : KyC V p k) : V.cell? ⟨p, 3, none⟩ = some (.int .u64 k.time) := cell_of_row V p 3 _ _ _ h
open Go.RowKit
def putK (k : KA) : List Int := txt k.row ++ (txt k.fam ++ (txt k.qual ++ enc k.time))
structure KA.fits (k : KA) : Prop where
 row : k.row.size ≤ 32
 fam : k.fam.size ≤ 32
 qual : k.qual.size ≤ 32
 time : k.time < 18446744073709551616
set_option maxRecDepth 100000 in
set_option maxHeartbeats 4000000 in
theorem pkey_any (w : World) (ao : Option Addr) (n cap : Nat) (xs : List Int) (h : Sl w ao n cap xs) (hr : n ≤ 900000) (k : KA) (hk : k.fits) :
  Calls Tryz.prog 115 #[.slice ao n cap, k.val] w fun e w' => ∃ bo m c, e = .returned (.slice bo m c) ∧ Sl w' bo m c (xs ++ putK k) ∧ Below w.heap.size w w' := by
 have hxl := h.len
 have B : Below w.heap.size w (w.alloc (.cells #[.string k.row, .string k.fam, .string k.qual, .int .u64 k.time] 59)) := (Below.refl _ w).alloc (Nat.le_refl _) _
 have K := KyC.new w k
 have h1 := h.below B
 unfold KA.val
 go_enter Tryz.func115, Tryz.ntmps115
 go_wp2_with fail
 obtain ⟨w1, hw1⟩ : ∃ W, W = w.alloc (.cells #[.string k.row, .string k.fam, .string k.qual, .int .u64 k.time] 59) := ⟨_, rfl⟩
 obtain ⟨N, hN⟩ : ∃ N, N = w.heap.size := ⟨_, rfl⟩
 rw [← hw1] at B K h1 ⊢
 rw [← hN] at B K ⊢
 have HN : Hid (N = w.heap.size) := hN
 clear h hw1 hN
 have HS : Hid (∀ V, Below w1.heap.size w1 V → V.cell? ⟨N, 0, none⟩ = some (.string k.row) ∧ V.cell? ⟨N, 1, none⟩ = some (.string k.fam) ∧ V.cell? ⟨N, 2, none⟩ = some (.string k.qual) ∧ V.cell? ⟨N, 3, none⟩ = some (.int .u64 k.time)) := fun V hV => have q := K.keep hV; ⟨q.c0, q.c1, q.c2, q.c3⟩
 refine zB (by kernel_rfl) HS.out fun v0 E0 H0 => ?_
 refine zT 0 (some 5) (.slice ao n cap) rfl rfl (by kernel_rfl) rfl (fun W ⟨h0, h1, h2, h3⟩ => by go_simp) H0 ?_
 simp only [FL]
 refine zT 1 (some 6) (.pointer (some ⟨N, 0, none⟩)) rfl rfl (by kernel_rfl) rfl (fun W ⟨h0, h1, h2, h3⟩ => by go_simp) H0 ?_
 simp only [FL]
 refine zT 2 (some 7) (.string k.row) rfl rfl (by kernel_rfl) rfl (fun W ⟨h0, h1, h2, h3⟩ => by go_simp) H0 ?_
 simp only [FL]
 refine zT 3 (some 8) (.pointer (some ⟨N, 1, none⟩)) rfl rfl (by kernel_rfl) rfl (fun W ⟨h0, h1, h2, h3⟩ => by go_simp) H0 ?_
 simp only [FL]
 refine zT 4 (some 9) (.string k.fam) rfl rfl (by kernel_rfl) rfl (fun W ⟨h0, h1, h2, h3⟩ => by go_simp) H0 ?_
 simp only [FL]
 refine zT 5 (some 10) (.pointer (some ⟨N, 2, none⟩)) rfl rfl (by kernel_rfl) rfl (fun W ⟨h0, h1, h2, h3⟩ => by go_simp) H0 ?_
 simp only [FL]
 refine zT 6 (some 11) (.string k.qual) rfl rfl (by kernel_rfl) rfl (fun W ⟨h0, h1, h2, h3⟩ => by go_simp) H0 ?_
 simp only [FL]
 refine zT 9 (some 14) (.pointer (some ⟨N, 3, none⟩)) rfl rfl (by kernel_rfl) rfl (fun W ⟨h0, h1, h2, h3⟩ => by go_simp) H0 ?_
 simp only [FL]
 refine zT 10 (some 15) (.int .u64 k.time) rfl rfl (by kernel_rfl) rfl (fun W ⟨h0, h1, h2, h3⟩ => by go_simp) H0 ?_
 simp only [FL]
 obtain ⟨g, hg⟩ : ∃ g, g = v0.heap.size := ⟨_, rfl⟩
 obtain ⟨u0, hu0⟩ : ∃ V, V = v0.alloc (.cells #[.string k.row, .string k.fam, .string k.qual] 9) := ⟨_, rfl⟩
 have U0 : Below v0.heap.size v0 u0 := by rw [hu0]; exact (Below.refl _ _).alloc (Nat.le_refl _) _
 have hc : ∀ i (hi : i < [k.row, k.fam, k.qual].length), u0.cell? ⟨g, i, none⟩ = some (.string [k.row, k.fam, k.qual][i]) := fun i hi => by
  rw [hu0, hg, cell_of_row _ v0.heap.size i #[.string k.row, .string k.fam, .string k.qual] 9 (0, 0) (heap_alloc_new v0 _)]
  have hi : i < 3 := hi
  obtain rfl | rfl | rfl : i = 0 ∨ i = 1 ∨ i = 2 := by omega
  all_goals rfl
 have E1 := E0.trans (U0.mono E0.size)
 have H1 := HS.out u0 E1
 refine hr_do 7 (some 12) (.slice (some ⟨g, 0, none⟩) 3 3) rfl rfl (by kernel_rfl) rfl (w' := u0) (by rw [hu0, hg]; go_simp) H1 ?_
 simp only [FL]
 clear hu0 hg U0
 have s1 := h1.below E1
 obtain ⟨v1, hv1⟩ : ∃ V, V = u0 := ⟨_, rfl⟩
 rw [← hv1] at hc E1 H1 s1 ⊢
 clear hv1
 have h32 : ∀ s ∈ [k.row, k.fam, k.qual], s.size ≤ 32 := by
  intro s hs
  simp only [List.mem_cons, List.not_mem_nil, or_false] at hs
  rcases hs with rfl | rfl | rfl
  ·exact hk.row
  ·exact hk.fam
  ·exact hk.qual
 have l0 := txt_len hk.row
 have l1 := txt_len hk.fam
 have l2 := txt_len hk.qual
 refine hr_call_w 8 (some 13) 116 #[.slice ao n cap, .slice (some ⟨g, 0, none⟩) 3 3] rfl rfl (by kernel_rfl) rfl (by go_simp) (fun v w' => ∃ bo m c, v = .slice bo m c ∧ Sl w' bo m c (xs ++ ([k.row, k.fam, k.qual].map txt).flatten) ∧ Below v1.heap.size v1 w') ((ptexts_any v1 ao n cap xs s1 hr g [k.row, k.fam, k.qual] hc (Nat.le_refl 3) h32).mono (by
  rintro e w' ⟨bo, m, c, rfl, F, C⟩
  exact ⟨_, rfl, bo, m, c, rfl, F, C⟩)) ?_
 rintro v v2 ⟨bo, m, c, rfl, F1, C1⟩
 have E2 := E1.trans (C1.mono E1.size)
 have H2 := HS.out v2 E2
 refine ⟨H2, ?_⟩
 simp only [FL]
 have lm := F1.len
 simp only [List.map_cons, List.map_nil, List.flatten_cons, List.flatten_nil, List.length_append, List.append_nil] at lm
 refine hr_call_w 11 (some 16) 77 #[.slice bo m c, .int .u64 k.time] rfl rfl (by kernel_rfl) rfl (by go_simp) (fun v w' => ∃ bo2 m2 c2, v = .slice bo2 m2 c2 ∧ Sl w' bo2 m2 c2 (xs ++ ([k.row, k.fam, k.qual].map txt).flatten ++ enc k.time) ∧ Below v2.heap.size v2 w') ((fUint v2 bo m c k.time _ F1 (by omega) hk.time).mono (by
  rintro e w' ⟨bo2, m2, c2, rfl, F, C⟩
  exact ⟨_, rfl, bo2, m2, c2, rfl, F, C⟩)) ?_
 rintro v v3 ⟨bo2, m2, c2, rfl, F2, C2⟩
 have E3 := E2.trans (C2.mono E2.size)
 have H3 := HS.out v3 E3
 refine ⟨H3, ?_⟩
 simp only [FL]
 refine zT 12 (some 4) (.slice bo2 m2 c2) rfl rfl (by kernel_rfl) rfl (fun W ⟨h0, h1, h2, h3⟩ => by go_simp) H3 ?_
 simp only [FL]
 refine wpAnyH_done (by kernel_rfl) ?_ _
 refine NoPanic.normal ?_
 have D := B.trans (E3.mono (by have := B.size; have := HN.out; omega))
 have fin : xs ++ ([k.row, k.fam, k.qual].map txt).flatten ++ enc k.time = xs ++ putK k := by
  unfold putK
  simp
 rw [fin] at F2
 go_wp2
 go_ret
 exact ⟨bo2, m2, c2, rfl, F2, by rw [← HN.out]; exact D⟩
open Go.RowKit
theorem fUintI (w : World) (ao : Option Addr) (n cap : Nat) (m : Int) (xs : List Int) (h : Sl w ao n cap xs) (hr : n ≤ 1000000) (h0 : 0 ≤ m) (hm : m < 18446744073709551616) :
  Calls Tryz.prog 77 #[.slice ao n cap, .int .u64 m] w fun e w' => ∃ bo k c, e = .returned (.slice bo k c) ∧ Sl w' bo k c (xs ++ enc m.toNat) ∧ Below w.heap.size w w' := by
 obtain ⟨k, rfl⟩ : ∃ k : Nat, m = k := ⟨m.toNat, (Int.toNat_of_nonneg h0).symm⟩
 exact fUint w ao n cap k xs h hr (by omega)
theorem byts_len {l : List Int} (h : l.length ≤ 256) : (byts l).length ≤ 266 := by
 have := enc_length (n := l.length) (by omega)
 unfold byts
 rw [List.length_append]
 omega
theorem putK_len {k : KA} (h : k.fits) : (putK k).length ≤ 136 := by
 have := txt_len h.row
 have := txt_len h.fam
 have := txt_len h.qual
 have := enc_length h.time
 unfold putK
 simp only [List.length_append]
 omega
theorem enb_len (b : Bool) : (enb b).length = 1 := by cases b <;> rfl
def PutPost (w : World) (ys : List Int) (e : Ending) (w' : World) : Prop := ∃ bo m c, e = .returned (.slice bo m c) ∧ Sl w' bo m c ys ∧ Below w.heap.size w w'
open Go.RowKit
def partB (o : OA) : Bool := decide (1 ≤ o.kind ∧ o.kind ≤ 4) && leaf o.s o.sn
set_option maxRecDepth 100000 in
set_option maxHeartbeats 4000000 in
theorem ppart_any (w : World) (o : OA) (h : o.ok w) :
  Calls Tryz.prog 136 #[o.val] w fun e w' => e = .returned (.bool (partB o)) ∧ Below w.heap.size w w' := by
 have B : Below w.heap.size w (w.alloc (Obj.cells o.cells.toArray 62)) := (Below.refl _ w).alloc (Nat.le_refl _) _
 have h1 := h.below B
 clear h
 unfold OA.cells at B
 by_cases c : 1 ≤ o.kind ∧ o.kind ≤ 4
 ·have h6 : o.kind ≠ 6 := by omega
  have hv : Hid (partB o = leaf o.s o.sn) := by
   show _ = _
   unfold partB
   rw [decide_eq_true c, Bool.true_and]
  have c : o.kind = 1 ∨ o.kind = 2 ∨ o.kind = 3 ∨ o.kind = 4 := by omega
  rcases c with c | c | c | c
  ·have t1 : (o.kind == 1) = true := by simp [c]
   clear c
   unfold OA.val
   go_enter Tryz.func136, Tryz.ntmps136
   go_wp2_with (go_at_call 126; refine (pleaf_any _ o h1 h6).mono ?_; rintro e w' ⟨rfl, C⟩; have D := B.trans (C.mono B.size))
   go_ret
   exact ⟨by rw [hv.out] <;> rfl, D⟩
  ·have t1 : (o.kind == 1) = false := by simp [c]
   have t2 : (o.kind == 2) = true := by simp [c]
   clear c
   unfold OA.val
   go_enter Tryz.func136, Tryz.ntmps136
   go_wp2_with (go_at_call 126; refine (pleaf_any _ o h1 h6).mono ?_; rintro e w' ⟨rfl, C⟩; have D := B.trans (C.mono B.size))
   go_ret
   exact ⟨by rw [hv.out] <;> rfl, D⟩
  ·have t1 : (o.kind == 1) = false := by simp [c]
   have t2 : (o.kind == 2) = false := by simp [c]
   have t3 : (o.kind == 3) = true := by simp [c]
   clear c
   unfold OA.val
   go_enter Tryz.func136, Tryz.ntmps136
   go_wp2_with (go_at_call 126; refine (pleaf_any _ o h1 h6).mono ?_; rintro e w' ⟨rfl, C⟩; have D := B.trans (C.mono B.size))
   go_ret
   exact ⟨by rw [hv.out] <;> rfl, D⟩
  ·have t1 : (o.kind == 1) = false := by simp [c]
   have t2 : (o.kind == 2) = false := by simp [c]
   have t3 : (o.kind == 3) = false := by simp [c]
   have t4 : (o.kind == 4) = true := by simp [c]
   clear c
   unfold OA.val
   go_enter Tryz.func136, Tryz.ntmps136
   go_wp2_with (go_at_call 126; refine (pleaf_any _ o h1 h6).mono ?_; rintro e w' ⟨rfl, C⟩; have D := B.trans (C.mono B.size))
   go_ret
   exact ⟨by rw [hv.out] <;> rfl, D⟩
 ·have t1 : (o.kind == 1) = false := by simp; omega
  have t2 : (o.kind == 2) = false := by simp; omega
  have t3 : (o.kind == 3) = false := by simp; omega
  have t4 : (o.kind == 4) = false := by simp; omega
  have hv : Hid (partB o = false) := by
   show _ = _
   unfold partB
   rw [decide_eq_false c, Bool.false_and]
  clear c h1
  unfold OA.val
  go_enter Tryz.func136, Tryz.ntmps136
  go_wp2
  go_ret
  exact ⟨by rw [hv.out] <;> rfl, B⟩
def badP (row : ByteArray) (o : OA) : Bool := !(decide (o.row = row) && partB o)
set_option maxRecDepth 100000 in
set_option maxHeartbeats 4000000 in
theorem pbad_any (w : World) (o : OA) (h : o.ok w) (g : Nat) (row : ByteArray) (hg : w.cell? ⟨g, 0, none⟩ = some (.string row)) :
  Calls Tryz.prog 135 #[o.val, .pointer (some ⟨g, 0, none⟩)] w fun e w' => e = .returned (.bool (badP row o)) ∧ Below w.heap.size w w' := by
 have B : Below w.heap.size w (w.alloc (Obj.cells o.cells.toArray 62)) := (Below.refl _ w).alloc (Nat.le_refl _) _
 have h1 := h.below B
 have g1 : (w.alloc (Obj.cells o.cells.toArray 62)).cell? ⟨g, 0, none⟩ = some (.string row) := (B.cell (World.block_lt_of_cell? w _ hg)).trans hg
 clear h hg
 unfold OA.cells at B g1
 by_cases c : o.row = row
 ·have i : (o.row.toList == row.toList) = true := by rw [c]; exact beq_self_eq_true _
  have hv : Hid (badP row o = !(partB o)) := by
   show _ = _
   unfold badP
   rw [decide_eq_true c, Bool.true_and]
  clear c
  unfold OA.val
  go_enter Tryz.func135, Tryz.ntmps135
  go_wp2_with (go_at_call 136; refine (ppart_any _ o h1).mono ?_; rintro e w' ⟨rfl, C⟩; have D := B.trans (C.mono B.size))
  go_ret
  exact ⟨by rw [hv.out] <;> rfl, D⟩
 ·have i : (o.row.toList == row.toList) = false := toL_ne c
  have hv : Hid (badP row o = true) := by
   show _ = _
   unfold badP
   rw [decide_eq_false c, Bool.false_and]
   rfl
  clear c h1
  unfold OA.val
  go_enter Tryz.func135, Tryz.ntmps135
  go_wp2
  go_ret
  exact ⟨by rw [hv.out] <;> rfl, B⟩
set_option maxRecDepth 100000 in
set_option maxHeartbeats 4000000 in
theorem pindex_any (w : World) (ao : Option Addr) (n cap : Nat) (l : List OA) (h : OWL w 0 ao n cap l) (g : Nat) (row : ByteArray) (hg : w.cell? ⟨g, 0, none⟩ = some (.string row)) :
  Calls Tryz.prog 137 #[.slice ao n cap, .func (.func 135) #[] #[.pointer (some ⟨g, 0, none⟩)]] w fun e w' =>
   (∃ i : Int, e = .returned (.int .i64 i) ∧ decide (0 ≤ i) = l.any (badP row)) ∧ Below w.heap.size w w' := by
 have hl : l.length = n := h.len
 have hm := h.mx
 have hle := h.le
 simp only [maxLen] at hm
 go_enter Tryz.func137, Tryz.ntmps137
 go_wp2
 go_loopw [5, 8] (fun _ i wr => ∃ k : Nat, k ≤ n ∧ i = .int .i64 k ∧ Below w.heap.size w wr ∧ (l.take k).any (badP row) = false) (fun _ i _ => n - (intOf i).toNat)
 case atStart => exact ⟨0, Nat.zero_le _, rfl, Below.refl _ _, rfl⟩
 case round =>
  obtain ⟨k, hk, rfl, B, hall⟩ := hrel
  have HA : Hid ((l.take k).any (badP row) = false) := hall
  clear hall
  by_cases hlt : k < n
  ·obtain ⟨b, off, rfl, hc⟩ := h.at (by omega)
   have hkl : k < l.length := by omega
   have X := (hc k hkl).below B
   have hok : (l[k]).ok wr := (h.ok _ (List.getElem_mem hkl)).below B
   have g1 : wr.cell? ⟨g, 0, none⟩ = some (.string row) := (B.cell (World.block_lt_of_cell? w _ hg)).trans hg
   have i1 : (k : Int) < (n : Int) := by omega
   have HT : Hid ((l.take (k + 1)).any (badP row) = badP row l[k]) := by
    show _ = _
    rw [List.take_succ_eq_append_getElem hkl, List.any_append, HA.out]
    simp
   have HL : Hid (badP row l[k] = true → l.any (badP row) = true) := fun hb => List.any_eq_true.2 ⟨_, List.getElem_mem hkl, hb⟩
   obtain ⟨o, ho⟩ : ∃ o : OA, o = l[k] := ⟨_, rfl⟩
   have X : OX wr b (off + k * 10) o := by rw [ho]; exact X
   rw [← ho] at hok HT HL
   clear ho hc h HA
   obtain ⟨q0, q1, q2, q3, q4, q5, q6, q7, q8, q9⟩ := X
   cases hb : badP row o with
   | true =>
    go_wp2_with (go_at_call 135; refine (pbad_any _ o hok g row g1).mono ?_; rintro e w2 ⟨rfl, C⟩; have D := B.trans (C.mono B.size); rw [hb])
    go_ret
    exact ⟨⟨k, rfl, by rw [HL.out hb]; exact decide_eq_true (by omega)⟩, D⟩
   | false =>
    go_wp2_with (go_at_call 135; refine (pbad_any _ o hok g row g1).mono ?_; rintro e w2 ⟨rfl, C⟩; have D := B.trans (C.mono B.size); rw [hb])
    go_roundw
    case rel => exact ⟨k + 1, by omega, by go_num, D, by rw [HT.out, hb]⟩
    case measure => simp [intOf]; omega
  ·have i1 : (n : Int) ≤ (k : Int) := by omega
   have HL : Hid (l.any (badP row) = false) := by
    show _ = _
    rw [← HA.out, List.take_of_length_le (by omega)]
   go_wp2
   go_ret
   exact ⟨⟨-1, rfl, by rw [HL.out]; rfl⟩, B⟩
theorem pcontains_any (w : World) (ao : Option Addr) (n cap : Nat) (l : List OA) (h : OWL w 0 ao n cap l) (g : Nat) (row : ByteArray) (hg : w.cell? ⟨g, 0, none⟩ = some (.string row)) :
  Calls Tryz.prog 134 #[.slice ao n cap, .func (.func 135) #[] #[.pointer (some ⟨g, 0, none⟩)]] w fun e w' =>
   e = .returned (.bool (l.any (badP row))) ∧ Below w.heap.size w w' := by
 go_enter Tryz.func134, Tryz.ntmps134
 go_wp2_with fail
 refine (pindex_any _ ao n cap l h g row hg).mono ?_
 rintro e w' ⟨⟨i, rfl, hi⟩, C⟩
 have HI : Hid (decide (0 ≤ i) = l.any (badP row)) := hi
 clear hi
 go_wp2
 go_ret
 exact ⟨by rw [← HI.out] <;> rfl, C⟩
def partsB (row : ByteArray) (l : List OA) : Bool := decide (1 ≤ l.length ∧ l.length ≤ 8) && l.all fun o => decide (o.row = row) && partB o
theorem any_bad (row : ByteArray) (l : List OA) : (!(l.any (badP row))) = l.all fun o => decide (o.row = row) && partB o := by
 rw [List.not_any_eq_all_not]
 congr 1
 funext o
 unfold badP
 simp
set_option maxRecDepth 100000 in
set_option maxHeartbeats 4000000 in
theorem pparts_any (w : World) (ao : Option Addr) (n cap : Nat) (l : List OA) (h : OWL w 0 ao n cap l) (row : ByteArray) :
  Calls Tryz.prog 132 #[.slice ao n cap, .string row] w fun e w' => e = .returned (.bool (partsB row l)) ∧ Below w.heap.size w w' := by
 have hl : l.length = n := h.len
 have B : Below w.heap.size w (w.alloc (Obj.cells #[.string row] 9)) := (Below.refl _ w).alloc (Nat.le_refl _) _
 have h1 := h.below B
 have g1 : (w.alloc (Obj.cells #[.string row] 9)).cell? ⟨w.heap.size, 0, none⟩ = some (.string row) := cell_one_new _ _ _ 0 _ (by simp)
 by_cases c0 : n < 1
 ·have i0 : (n : Int) < 1 := by omega
  have hv : Hid (partsB row l = false) := by
   show _ = _
   unfold partsB
   rw [decide_eq_false (by omega), Bool.false_and]
  clear h h1 hl
  go_enter Tryz.func132, Tryz.ntmps132
  go_wp2
  go_ret
  exact ⟨by rw [hv.out] <;> rfl, B⟩
 have i0 : decide ((n : Int) < 1) = false := by simp; omega
 by_cases c1 : 8 < n
 ·have i1 : decide ((8 : Int) < (n : Int)) = true := by simp; omega
  have hv : Hid (partsB row l = false) := by
   show _ = _
   unfold partsB
   rw [decide_eq_false (by omega), Bool.false_and]
  clear h h1 hl
  go_enter Tryz.func132, Tryz.ntmps132
  go_wp2
  go_ret
  exact ⟨by rw [hv.out] <;> rfl, B⟩
 have i1 : decide ((8 : Int) < (n : Int)) = false := by simp; omega
 have hv : Hid (partsB row l = !(l.any (badP row))) := by
  show _ = _
  unfold partsB
  rw [decide_eq_true (by omega), Bool.true_and, any_bad]
 clear h hl c0 c1
 go_enter Tryz.func132, Tryz.ntmps132
 go_wp2_with (go_at_call 134; refine (pcontains_any _ ao n cap l h1 w.heap.size row g1).mono ?_; rintro e w' ⟨rfl, C⟩; have D := B.trans (C.mono B.size))
 go_ret
 exact ⟨by rw [hv.out] <;> rfl, D⟩
open Go.RowKit
def sn0 (o : OA) : SN := (o.s, o.sn)
theorem OWL.flat {w : World} {d : Nat} {ao : Option Addr} {n cap : Nat} {l : List (OD d)} (h : OWL w d ao n cap l) : OWL w 0 ao n cap (l.map (topD d)) := by
 refine ⟨by rw [← h.len]; exact List.length_map _, h.le, h.mx, h.nil, fun a ha i hi j v hv => ?_, fun y hy => ?_⟩
 ·have hi' : i < l.length := Nat.lt_of_lt_of_eq hi (List.length_map _)
  refine h.cell a ha i hi' j v ?_
  have e : (l.map (topD d))[i] = topD d l[i] := List.getElem_map _
  rw [← e]
  exact hv
 ·obtain ⟨x, hx, rfl⟩ := List.mem_map.1 hy
  exact (h.ok x hx).top
theorem map_flat (d : Nat) (l : List (OD d)) : (l.map (topD d)).map sn0 = l.map (snD d) := by
 rw [List.map_map]
 rfl
theorem right6 {o : OA} {l : List OA} (hk : o.kind = 6) (hn : l.length = o.sn) (hr : o.row.size ≠ 0) : rightO o.s (l.map sn0) = (partsB o.row l && isAlone o.noS) := by
 have e : (l.map sn0).all (partR o.s) = l.all fun x => decide (x.row = o.row) && partB x := by
  rw [List.all_map]
  congr 1
  funext x
  show partR o.s (sn0 x) = _
  unfold partR sn0 partB
  show (decide (1 ≤ x.kind ∧ x.kind ≤ 4) && leaf x.s x.sn && decide (x.row = o.row)) = (decide (x.row = o.row) && (decide (1 ≤ x.kind ∧ x.kind ≤ 4) && leaf x.s x.sn))
  rw [Bool.and_comm]
 unfold rightO partsB
 rw [e, List.length_map, hn, leaf6 hk hr, show o.s.kind = o.kind from rfl, hk]
 simp only [ne_eq, not_true_eq_false, decide_false, Bool.false_or]
 cases isAlone o.noS <;> simp
theorem right_not6 {o : OA} {l : List SN} (hk : o.kind ≠ 6) : rightO o.s l = leaf o.s l.length := by
 unfold rightO
 rw [show o.s.kind = o.kind from rfl, decide_eq_true hk, Bool.true_or, Bool.and_true]
theorem right_noRow {o : OA} {l : List SN} (hk : o.kind = 6) (hr : o.row.size = 0) : rightO o.s l = false := by
 unfold rightO
 rw [leaf_noRow (.inr hk) hr, Bool.false_and]
set_option maxRecDepth 100000 in
set_option maxHeartbeats 4000000 in
theorem pisright_6 (w : World) (o : OA) (l : List OA) (h : o.ok w) (hs : OWL w 0 o.so o.sn o.sc l) (hk : o.kind = 6) :
  Calls Tryz.prog 126 #[o.val] w fun e w' => e = .returned (.bool (rightO o.s (l.map sn0))) ∧ Below w.heap.size w w' := by
 have hl : l.length = o.sn := hs.len
 have t5 : (o.kind == 5) = false := by simp [hk]
 have t1 : (o.kind == 1) = false := by simp [hk]
 have t2 : (o.kind == 2) = false := by simp [hk]
 have t3 : (o.kind == 3) = false := by simp [hk]
 have t7 : (o.kind == 7) = false := by simp [hk]
 have t4 : (o.kind == 4) = false := by simp [hk]
 have t6 : (o.kind == 6) = true := by simp [hk]
 have B : Below w.heap.size w (w.alloc (Obj.cells o.cells.toArray 62)) := (Below.refl _ w).alloc (Nat.le_refl _) _
 have K : OC (w.alloc (Obj.cells o.cells.toArray 62)) w.heap.size o := OC.new w o
 have hs1 := hs.below B
 unfold OA.cells at B K
 by_cases hp : partsB o.row l = false
 ·have hv : Hid (rightO o.s (l.map sn0) = false) := by
   show _ = _
   by_cases hr : o.row.size = 0
   ·exact right_noRow hk hr
   ·rw [right6 hk hl hr, hp, Bool.false_and]
  clear h hs hk K hl
  unfold OA.val
  go_enter Tryz.func126, Tryz.ntmps126
  go_wp2_with (go_at_call 132; refine (pparts_any _ _ _ _ l hs1 o.row).mono ?_; rintro e w2 ⟨rfl, C⟩; have D := B.trans (C.mono B.size); rw [hp])
  go_ret
  exact ⟨by rw [hv.out] <;> rfl, D⟩
 have hp : partsB o.row l = true := by simpa using hp
 by_cases hr : o.row.size = 0
 ·have e0 : o.row.toList.isEmpty = true := by
   rw [toE]
   exact decide_eq_true hr
  have hv : Hid (rightO o.s (l.map sn0) = false) := right_noRow hk hr
  clear h hs hk hl hr
  unfold OA.val
  go_enter Tryz.func126, Tryz.ntmps126
  go_wp2_with (go_at_call 132; refine (pparts_any _ _ _ _ l hs1 o.row).mono ?_; rintro e w2 ⟨rfl, C⟩; have D : Below w.heap.size w w2 := B.trans (C.mono B.size); have K2 : OC w2 w.heap.size o := K.keep C; rw [hp]; obtain ⟨q0, q1, q2, q3, q4, q5, q6, q7, q8, q9⟩ := K2.cs; have f9 := K2.fz 9; have lt := K2.lt; clear K2 C K; have D3 : Below w.heap.size w (w2.setCell ⟨w.heap.size, 9, none⟩ (.slice none 0 0)) := D.setCell (Nat.le_refl _) _; clear D)
  go_ret
  exact ⟨by rw [hv.out] <;> rfl, D3⟩
 have e0 : o.row.toList.isEmpty = false := by
  rw [toE]
  exact decide_eq_false hr
 have hv : Hid (rightO o.s (l.map sn0) = isAlone o.noS) := by
  show _ = _
  rw [right6 hk hl hr, hp, Bool.true_and]
 clear hs hk hl hr
 unfold OA.val
 go_enter Tryz.func126, Tryz.ntmps126
 go_wp2_with (first
  | (go_at_call 132; refine (pparts_any _ _ _ _ l hs1 o.row).mono ?_; rintro e w2 ⟨rfl, C⟩; have D : Below w.heap.size w w2 := B.trans (C.mono B.size); have K2 : OC w2 w.heap.size o := K.keep C; rw [hp]; obtain ⟨q0, q1, q2, q3, q4, q5, q6, q7, q8, q9⟩ := K2.cs; have f9 := K2.fz 9; have lt := K2.lt; clear K2 C K; have D3 : Below w.heap.size w (w2.setCell ⟨w.heap.size, 9, none⟩ (.slice none 0 0)) := D.setCell (Nat.le_refl _) _; have h3 := (h.below D3).noS; clear D h)
  | (go_at_call 131; refine (palone_any _ o.noS h3).mono ?_; rintro e w4 ⟨rfl, C4⟩; have D4 := D3.trans (C4.mono D3.size); clear C4))
 go_ret
 exact ⟨by rw [hv.out] <;> rfl, D4⟩
theorem pisright_any (w : World) (o : OA) (l : List OA) (h : o.ok w) (hs : OWL w 0 o.so o.sn o.sc l) :
  Calls Tryz.prog 126 #[o.val] w fun e w' => e = .returned (.bool (rightO o.s (l.map sn0))) ∧ Below w.heap.size w w' := by
 by_cases hk : o.kind = 6
 ·exact pisright_6 w o l h hs hk
 ·rw [right_not6 hk, List.length_map, show l.length = o.sn from hs.len]
  exact pleaf_any w o h hk
def kindO (b : Bool) : Int := if b then 0 else 6
set_option maxRecDepth 100000 in
set_option maxHeartbeats 4000000 in
theorem pRight_any (w : World) (o : OA) (l : List OA) (h : o.ok w) (hs : OWL w 0 o.so o.sn o.sc l) :
  Calls Tryz.prog 114 #[o.val] w fun e w' => e = .returned (.int .i64 (kindO (rightO o.s (l.map sn0)))) ∧ Below w.heap.size w w' := by
 have B : Below w.heap.size w (w.alloc (Obj.cells o.cells.toArray 62)) := (Below.refl _ w).alloc (Nat.le_refl _) _
 have h1 := h.below B
 have hs1 := hs.below B
 clear h hs
 unfold OA.cells at B
 cases hb : rightO o.s (l.map sn0) with
 | true =>
  unfold OA.val
  go_enter Tryz.func114, Tryz.ntmps114
  go_wp2_with (go_at_call 126; refine (pisright_any _ o l h1 hs1).mono ?_; rintro e w2 ⟨rfl, C⟩; have D := B.trans (C.mono B.size); rw [hb])
  go_ret
  exact ⟨rfl, D⟩
 | false =>
  unfold OA.val
  go_enter Tryz.func114, Tryz.ntmps114
  go_wp2_with (go_at_call 126; refine (pisright_any _ o l h1 hs1).mono ?_; rintro e w2 ⟨rfl, C⟩; have D := B.trans (C.mono B.size); rw [hb])
  go_ret
  exact ⟨rfl, D⟩
end Go.Proofs.YtkjaapomaaakmaaGreat

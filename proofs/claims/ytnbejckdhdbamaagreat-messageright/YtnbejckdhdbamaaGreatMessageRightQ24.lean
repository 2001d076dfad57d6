/-
  Texts in one: RRightA, RefForms, RefFormsB, RPut, PReqF.
-/
import Derived.Test.YtnbejckdhdbamaaGreatMessageRightQFL
import Derived.Test.YtnbejckdhdbamaaGreatMessageRightQ23
import Derived.Test.YtnbejckdhdbamaaGreatMessageRightQ3
import Derived.Test.YtnbejckdhdbamaaGreatMessageRightQ4
import Derived.Test.YtnbejckdhdbamaaGreatMessageRightQ9
namespace Go.Proofs.YtnbejckdhdbamaaGreat
open Go.RowKit
theorem rright_leaf : ∀ (d : Nat) (w : World) (o : OA) (l : List (OD d)), OW w (d + 1) (o, l) → lightD (d + 1) (o, l) = true → 1 ≤ o.kind → o.kind ≤ 4 →
  Calls Tryz.prog 64 #[o.val] w fun e w' => e = .returned (.int .i64 (kindO (leaf o.s o.sn))) ∧ Below w.heap.size w w'
 | 0, w, o, l, h, hl, h1, h4 => by
  have := rright_step 0 w o l h hl (fun V y hy => by
   have := List.all_eq_true.1 (Bool.and_eq_true_iff.1 hl).2 y hy
   simp [lightD] at this)
  rw [right_not6 (by omega), List.length_map, show l.length = o.sn from h.2.1] at this
  exact this
 | d + 1, w, o, l, h, hl, h1, h4 => by
  have := rright_step (d + 1) w o l h hl (fun V y hy wy a1 a2 => rright_leaf d V y.1 y.2 wy (List.all_eq_true.1 (Bool.and_eq_true_iff.1 hl).2 y hy) a1 a2)
  rw [right_not6 (by omega), List.length_map, show l.length = o.sn from h.2.1] at this
  exact this
theorem rright6 : ∀ (d : Nat) (w : World) (o : OA) (l : List (OD d)), OW w (d + 1) (o, l) → lightD (d + 1) (o, l) = true →
  Calls Tryz.prog 64 #[o.val] w fun e w' => e = .returned (.int .i64 (kindO (rightO o.s (l.map (snD d))))) ∧ Below w.heap.size w w'
 | 0, w, o, l, h, hl => rright_step 0 w o l h hl (fun V y hy => by
   have := List.all_eq_true.1 (Bool.and_eq_true_iff.1 hl).2 y hy
   simp [lightD] at this)
 | d + 1, w, o, l, h, hl => rright_step (d + 1) w o l h hl (fun V y hy wy a1 a2 => rright_leaf d V y.1 y.2 wy (List.all_eq_true.1 (Bool.and_eq_true_iff.1 hl).2 y hy) a1 a2)
open Go.RowKit
set_option maxHeartbeats 800000 in
set_option maxRecDepth 100000 in
theorem rUint_any (w : World) (ao : Option Addr) (k cap n : Nat) (xs : List Int) (h : Sl w ao k cap xs) (hr : k + 30 ≤ 140737488355328) (hn : n < 18446744073709551616) :
  Calls Tryz.prog 66 #[.slice ao k cap, .int .u64 n] w fun e w' =>
   ∃ v, e = .returned v ∧ w'.ownsRow w.heap.size 5 1 v (k + (enc n).length) (bv (xs ++ enc n)) ∧ Below w.heap.size w w' := by
 have hA := h.below ((Below.refl w.heap.size w).alloc (Nat.le_refl _) (.cells #[] 5))
 have hO := own_empty w
 go_enter Tryz.func66, Tryz.ntmps66
 go_wp2_with (at_builtin; refine wpList_app rfl _ _ rfl w.heap.size _ _ _ rfl hO _ _ _ _ rfl hA (by omega) (by simp) ?_; intro v1 w1 hown1 hb1)
 have hb : Below w.heap.size w w1 := ((Below.refl w.heap.size w).alloc (Nat.le_refl _) _).trans hb1
 have hlen := enc_length hn
 simp only [Nat.zero_add, List.nil_append] at hown1
 clear hb1 hO hA
 go_loopw [0, 1] (fun b m wr => ∃ (j : Nat) (ys : List Int), m = .int .u64 j ∧ j < 18446744073709551616 ∧ ys ++ enc j = enc n ∧ wr.ownsRow w.heap.size 5 1 b (k + ys.length) (bv (xs ++ ys)) ∧ Below w.heap.size w wr) (fun _ m _ => (intOf m).toNat)
 case atStart => exact ⟨n, [], rfl, hn, rfl, by simpa using hown1, hb⟩
 case round =>
  obtain ⟨m, ys, rfl, hm, hys, hown', hbel⟩ := hrel
  have hp := enc_pos m
  have hy9 : ys.length + (enc m).length ≤ 10 := by have := congrArg List.length hys; simp at this; omega
  have hsz := hbel.size
  have HY : Hid (ys ++ enc m = enc n) := hys
  clear hys
  by_cases hlt : m < 128
  ·go_wp2_with (at_builtin; refine wpList_app rfl _ _ rfl w.heap.size _ _ _ rfl (hown'.alloc _) _ _ _ _ rfl (Sl.one wr _ (by omega)) (by omega) (by simp; omega) ?_; intro v2 w2 hown2 hb2)
   have e2 := HY.out
   rw [enc_small hlt] at e2
   have ho : w2.ownsRow w.heap.size 5 1 v2 (k + (enc n).length) (bv (xs ++ enc n)) := by
    rw [← e2, ← List.append_assoc]
    simpa [Nat.add_assoc] using hown2
   have hb3 := (hbel.alloc hsz _).trans hb2
   clear hown2 hb2
   go_ret
   exact ⟨v2, rfl, ho, hb3⟩
  ·go_wp2_with (at_builtin; refine wpList_app rfl _ _ rfl w.heap.size _ _ _ rfl (hown'.alloc _) _ _ _ _ rfl (Sl.one wr _ (by omega)) (by omega) (by simp; omega) ?_; intro v2 w2 hown2 hb2)
   have e2 := HY.out
   rw [enc_big (n := m) (by omega) hm] at e2
   have ho : w2.ownsRow w.heap.size 5 1 v2 (k + (ys ++ [((m % 128 + 128 : Nat) : Int)]).length) (bv (xs ++ (ys ++ [((m % 128 + 128 : Nat) : Int)]))) := by
    rw [← List.append_assoc]
    simpa [Nat.add_assoc] using hown2
   have hb3 := (hbel.alloc hsz _).trans hb2
   clear hown2 hb2
   go_wp2
   go_roundw
   case rel => exact ⟨m / 128, ys ++ [((m % 128 + 128 : Nat) : Int)], by go_num, by omega, by rw [← e2]; simp, ho, hb3⟩
   case measure => simp [intOf]; omega
set_option maxHeartbeats 400000 in
theorem rBytes_any (w : World) (ao bo : Option Addr) (n cap m cap2 : Nat) (xs ys : List Int) (h : Sl w ao n cap xs) (h2 : Sl w bo m cap2 ys) (hr : n + m + 60 ≤ 140737488355328) :
  Calls Tryz.prog 104 #[.slice ao n cap, .slice bo m cap2] w fun e w' =>
   ∃ v, e = .returned v ∧ w'.ownsRow w.heap.size 5 1 v (n + (enc m).length + m) (bv (xs ++ enc m ++ ys)) ∧ Below w.heap.size w w' := by
 go_enter Tryz.func104, Tryz.ntmps104
 go_wp2_with fail
 refine (rUint_any w ao n cap m xs h (by omega) (by omega)).mono ?_
 rintro e w1 ⟨v1, rfl, hown1, hb1⟩
 have hs := hb1.size
 have hl := enc_length (n := m) (by omega)
 have h3 := h2.below hb1
 go_wp2_with (at_builtin; refine wpList_app rfl _ _ rfl w.heap.size _ _ _ rfl hown1 _ _ _ _ rfl h3 (by omega) (by omega) ?_; intro v3 w3 hown3 hb3)
 have hb4 := hb1.trans hb3
 clear hb1 hown1 hb3 h3
 go_ret
 exact ⟨v3, rfl, hown3, hb4⟩
open Go.RowKit
set_option maxHeartbeats 400000 in
theorem rBool_any (w : World) (ao : Option Addr) (n cap : Nat) (b : Bool) (xs : List Int) (h : Sl w ao n cap xs) (hr : n + 30 ≤ 140737488355328) :
  Calls Tryz.prog 103 #[.slice ao n cap, .bool b] w fun e w' =>
   ∃ v, e = .returned v ∧ w'.ownsRow w.heap.size 5 1 v (n + 1) (bv (xs ++ enb b)) ∧ Below w.heap.size w w' := by
 have hA := h.below ((Below.refl w.heap.size w).alloc (Nat.le_refl _) (.cells #[] 5))
 have hO := own_empty w
 cases b
 ·go_enter Tryz.func103, Tryz.ntmps103
  go_wp2_with (first | (at_builtin; refine wpList_app rfl (.tmp 11) (.tmp 12) rfl w.heap.size _ _ _ rfl hO _ _ _ _ rfl hA (by omega) (by simp) ?_; intro v1 w1 hown1 hb1; simp only [Nat.zero_add, List.nil_append] at hown1; have hb2 := ((Below.refl w.heap.size w).alloc (Nat.le_refl _) _).trans hb1; have hs2 := hb2.size; clear hb1) | (at_builtin; refine wpList_app rfl (.tmp 13) (.tmp 14) rfl w.heap.size _ _ _ rfl (hown1.alloc _) _ _ _ _ rfl (Sl.one w1 _ (by decide)) (by omega) (by simp; omega) ?_; intro v3 w3 hown3 hb3))
  have hb4 := (hb2.alloc hs2 _).trans hb3
  clear hb2 hown1 hb3
  go_ret
  exact ⟨v3, rfl, hown3, hb4⟩
 ·go_enter Tryz.func103, Tryz.ntmps103
  go_wp2_with (first | (at_builtin; refine wpList_app rfl (.tmp 6) (.tmp 7) rfl w.heap.size _ _ _ rfl hO _ _ _ _ rfl hA (by omega) (by simp) ?_; intro v1 w1 hown1 hb1; simp only [Nat.zero_add, List.nil_append] at hown1; have hb2 := ((Below.refl w.heap.size w).alloc (Nat.le_refl _) _).trans hb1; have hs2 := hb2.size; clear hb1) | (at_builtin; refine wpList_app rfl (.tmp 8) (.tmp 9) rfl w.heap.size _ _ _ rfl (hown1.alloc _) _ _ _ _ rfl (Sl.one w1 _ (by decide)) (by omega) (by simp; omega) ?_; intro v3 w3 hown3 hb3))
  have hb4 := (hb2.alloc hs2 _).trans hb3
  clear hb2 hown1 hb3
  go_ret
  exact ⟨v3, rfl, hown3, hb4⟩
open Go.RowKit
theorem gUint (w : World) (ao : Option Addr) (n cap m : Nat) (xs : List Int) (h : Sl w ao n cap xs) (hr : n ≤ 1000000) (hm : m < 18446744073709551616) :
  Calls Tryz.prog 66 #[.slice ao n cap, .int .u64 m] w fun e w' => ∃ bo k c, e = .returned (.slice bo k c) ∧ Sl w' bo k c (xs ++ enc m) ∧ Below w.heap.size w w' := by
 refine (rUint_any w ao n cap m xs h (by omega) hm).mono ?_
 rintro e w' ⟨v, rfl, O, B⟩
 obtain ⟨bo, k, c, rfl, s⟩ := sl_of_own O (h.byte.append (enc_byte hm))
 exact ⟨bo, k, c, rfl, s, B⟩
theorem gUintI (w : World) (ao : Option Addr) (n cap : Nat) (m : Int) (xs : List Int) (h : Sl w ao n cap xs) (hr : n ≤ 1000000) (h0 : 0 ≤ m) (hm : m < 18446744073709551616) :
  Calls Tryz.prog 66 #[.slice ao n cap, .int .u64 m] w fun e w' => ∃ bo k c, e = .returned (.slice bo k c) ∧ Sl w' bo k c (xs ++ enc m.toNat) ∧ Below w.heap.size w w' := by
 obtain ⟨k, rfl⟩ : ∃ k : Nat, m = k := ⟨m.toNat, (Int.toNat_of_nonneg h0).symm⟩
 exact gUint w ao n cap k xs h hr (by omega)
theorem gBytes (w : World) (ao bo : Option Addr) (n cap m cap2 : Nat) (xs ys : List Int) (h : Sl w ao n cap xs) (h2 : Sl w bo m cap2 ys) (hr : n ≤ 1000000) (hr2 : m ≤ 1000000) :
  Calls Tryz.prog 104 #[.slice ao n cap, .slice bo m cap2] w fun e w' => ∃ bo k c, e = .returned (.slice bo k c) ∧ Sl w' bo k c (xs ++ byts ys) ∧ Below w.heap.size w w' := by
 refine (rBytes_any w ao bo n cap m cap2 xs ys h h2 (by omega)).mono ?_
 rintro e w' ⟨v, rfl, O, B⟩
 have e1 : xs ++ enc m ++ ys = xs ++ byts ys := by unfold byts; rw [h2.len, List.append_assoc]
 rw [e1] at O
 obtain ⟨bo, k, c, rfl, s⟩ := sl_of_own O (h.byte.append (by unfold byts; rw [h2.len]; exact Byt.append (enc_byte (n := m) (by omega)) h2.byte))
 exact ⟨bo, k, c, rfl, s, B⟩
theorem gBool (w : World) (ao : Option Addr) (n cap : Nat) (b : Bool) (xs : List Int) (h : Sl w ao n cap xs) (hr : n ≤ 1000000) :
  Calls Tryz.prog 103 #[.slice ao n cap, .bool b] w fun e w' => ∃ bo k c, e = .returned (.slice bo k c) ∧ Sl w' bo k c (xs ++ enb b) ∧ Below w.heap.size w w' := by
 refine (rBool_any w ao n cap b xs h (by omega)).mono ?_
 rintro e w' ⟨v, rfl, O, B⟩
 obtain ⟨bo, k, c, rfl, s⟩ := sl_of_own O (h.byte.append (enb_byte b))
 exact ⟨bo, k, c, rfl, s, B⟩
set_option maxRecDepth 100000 in
set_option maxHeartbeats 1000000 in
theorem rtext_any (w : World) (ao : Option Addr) (n cap : Nat) (xs : List Int) (h : Sl w ao n cap xs) (hr : n ≤ 1000000) (s : ByteArray) (hs : s.size ≤ 32) :
  Calls Tryz.prog 101 #[.slice ao n cap, .string s] w fun e w' => ∃ bo k c, e = .returned (.slice bo k c) ∧ Sl w' bo k c (xs ++ txt s) ∧ Below w.heap.size w w' := by
 go_enter Tryz.func101, Tryz.ntmps101
 go_wp2_with (refine wpList_conv_bytes rfl (.tmp 6) rfl s rfl (by omega) ?_; intro g1 c1 w1 hg1 S1 B1; have T1 := h.below B1; clear h hg1)
 refine (gBytes w1 ao _ n cap _ _ _ _ T1 S1 hr (by omega)).mono ?_
 rintro e w2 ⟨bo, k, c, rfl, S2, B2⟩
 rw [txt_byts] at S2
 have D := B1.trans (B2.mono B1.size)
 go_wp2
 go_ret
 exact ⟨bo, k, c, rfl, S2, D⟩
set_option maxRecDepth 100000 in
set_option maxHeartbeats 4000000 in
theorem rkey_any (w : World) (ao : Option Addr) (n cap : Nat) (xs : List Int) (h : Sl w ao n cap xs) (hr : n ≤ 900000) (k : KA) (hk : k.fits) :
  Calls Tryz.prog 102 #[.slice ao n cap, k.val] w fun e w' => ∃ bo m c, e = .returned (.slice bo m c) ∧ Sl w' bo m c (xs ++ putK k) ∧ Below w.heap.size w w' := by
 have hxl := h.len
 have B : Below w.heap.size w (w.alloc (.cells #[.string k.row, .string k.fam, .string k.qual, .int .u64 k.time] 55)) := (Below.refl _ w).alloc (Nat.le_refl _) _
 have K := KyC.new w k
 have h1 := h.below B
 unfold KA.val
 go_enter Tryz.func102, Tryz.ntmps102
 go_wp2_with fail
 obtain ⟨w1, hw1⟩ : ∃ W, W = w.alloc (.cells #[.string k.row, .string k.fam, .string k.qual, .int .u64 k.time] 55) := ⟨_, rfl⟩
 obtain ⟨N, hN⟩ : ∃ N, N = w.heap.size := ⟨_, rfl⟩
 rw [← hw1] at B K h1 ⊢
 rw [← hN] at B K ⊢
 have HN : Hid (N = w.heap.size) := hN
 clear h hw1 hN
 have g0 := txt_len hk.row
 have g1 := txt_len hk.fam
 have g2 := txt_len hk.qual
 have HS : Hid (∀ V, Below w1.heap.size w1 V → V.cell? ⟨N, 0, none⟩ = some (.string k.row) ∧ V.cell? ⟨N, 1, none⟩ = some (.string k.fam) ∧ V.cell? ⟨N, 2, none⟩ = some (.string k.qual) ∧ V.cell? ⟨N, 3, none⟩ = some (.int .u64 k.time)) := fun V hV => have q := K.keep hV; ⟨q.c0, q.c1, q.c2, q.c3⟩
 refine zB (by kernel_rfl) HS.out fun v0 E0 H0 => ?_
 refine zT 0 (some 5) (.slice ao n cap) rfl rfl (by kernel_rfl) rfl (fun W ⟨h0, h1, h2, h3⟩ => by go_simp) H0 ?_
 simp only [FL]
 refine zT 1 (some 6) (.pointer (some ⟨N, 0, none⟩)) rfl rfl (by kernel_rfl) rfl (fun W ⟨h0, h1, h2, h3⟩ => by go_simp) H0 ?_
 simp only [FL]
 refine zT 2 (some 7) (.string k.row) rfl rfl (by kernel_rfl) rfl (fun W ⟨h0, h1, h2, h3⟩ => by go_simp) H0 ?_
 simp only [FL]
 refine zT 4 (some 9) (.pointer (some ⟨N, 1, none⟩)) rfl rfl (by kernel_rfl) rfl (fun W ⟨h0, h1, h2, h3⟩ => by go_simp) H0 ?_
 simp only [FL]
 refine zT 5 (some 10) (.string k.fam) rfl rfl (by kernel_rfl) rfl (fun W ⟨h0, h1, h2, h3⟩ => by go_simp) H0 ?_
 simp only [FL]
 refine zT 7 (some 12) (.pointer (some ⟨N, 2, none⟩)) rfl rfl (by kernel_rfl) rfl (fun W ⟨h0, h1, h2, h3⟩ => by go_simp) H0 ?_
 simp only [FL]
 refine zT 8 (some 13) (.string k.qual) rfl rfl (by kernel_rfl) rfl (fun W ⟨h0, h1, h2, h3⟩ => by go_simp) H0 ?_
 simp only [FL]
 refine zT 10 (some 15) (.pointer (some ⟨N, 3, none⟩)) rfl rfl (by kernel_rfl) rfl (fun W ⟨h0, h1, h2, h3⟩ => by go_simp) H0 ?_
 simp only [FL]
 refine zT 11 (some 16) (.int .u64 k.time) rfl rfl (by kernel_rfl) rfl (fun W ⟨h0, h1, h2, h3⟩ => by go_simp) H0 ?_
 simp only [FL]
 refine hr_call_w 3 (some 8) 101 #[.slice ao n cap, .string k.row] rfl rfl (by kernel_rfl) rfl (by go_simp) (fun v w' => ∃ b1 m1 c1, v = .slice b1 m1 c1 ∧ Sl w' b1 m1 c1 (xs ++ txt k.row) ∧ Below v0.heap.size v0 w') ((rtext_any v0 ao n cap xs (h1.below E0) (by omega) k.row hk.row).mono (by
  rintro e w' ⟨b1, m1, c1, rfl, F, C⟩
  exact ⟨_, rfl, b1, m1, c1, rfl, F, C⟩)) ?_
 rintro v v1 ⟨b1, m1, c1, rfl, F0, C0⟩
 have E1 := E0.trans (C0.mono E0.size)
 have H1 := HS.out v1 E1
 refine ⟨H1, ?_⟩
 simp only [FL]
 have l1 := F0.len
 simp only [List.length_append] at l1
 refine hr_call_w 6 (some 11) 101 #[.slice b1 m1 c1, .string k.fam] rfl rfl (by kernel_rfl) rfl (by go_simp) (fun v w' => ∃ b2 m2 c2, v = .slice b2 m2 c2 ∧ Sl w' b2 m2 c2 (xs ++ txt k.row ++ txt k.fam) ∧ Below v1.heap.size v1 w') ((rtext_any v1 b1 m1 c1 _ F0 (by omega) k.fam hk.fam).mono (by
  rintro e w' ⟨b2, m2, c2, rfl, F, C⟩
  exact ⟨_, rfl, b2, m2, c2, rfl, F, C⟩)) ?_
 rintro v v2 ⟨b2, m2, c2, rfl, F1, C1⟩
 have E2 := E1.trans (C1.mono E1.size)
 have H2 := HS.out v2 E2
 refine ⟨H2, ?_⟩
 simp only [FL]
 have l2 := F1.len
 simp only [List.length_append] at l2
 refine hr_call_w 9 (some 14) 101 #[.slice b2 m2 c2, .string k.qual] rfl rfl (by kernel_rfl) rfl (by go_simp) (fun v w' => ∃ b3 m3 c3, v = .slice b3 m3 c3 ∧ Sl w' b3 m3 c3 (xs ++ txt k.row ++ txt k.fam ++ txt k.qual) ∧ Below v2.heap.size v2 w') ((rtext_any v2 b2 m2 c2 _ F1 (by omega) k.qual hk.qual).mono (by
  rintro e w' ⟨b3, m3, c3, rfl, F, C⟩
  exact ⟨_, rfl, b3, m3, c3, rfl, F, C⟩)) ?_
 rintro v v3 ⟨b3, m3, c3, rfl, F2, C2⟩
 have E3 := E2.trans (C2.mono E2.size)
 have H3 := HS.out v3 E3
 refine ⟨H3, ?_⟩
 simp only [FL]
 have l3 := F2.len
 simp only [List.length_append] at l3
 refine hr_call_w 12 (some 17) 66 #[.slice b3 m3 c3, .int .u64 k.time] rfl rfl (by kernel_rfl) rfl (by go_simp) (fun v w' => ∃ b4 m4 c4, v = .slice b4 m4 c4 ∧ Sl w' b4 m4 c4 (xs ++ txt k.row ++ txt k.fam ++ txt k.qual ++ enc k.time) ∧ Below v3.heap.size v3 w') ((gUint v3 b3 m3 c3 k.time _ F2 (by omega) hk.time).mono (by
  rintro e w' ⟨b4, m4, c4, rfl, F, C⟩
  exact ⟨_, rfl, b4, m4, c4, rfl, F, C⟩)) ?_
 rintro v v4 ⟨b4, m4, c4, rfl, F3, C3⟩
 have E4 := E3.trans (C3.mono E3.size)
 have H4 := HS.out v4 E4
 refine ⟨H4, ?_⟩
 simp only [FL]
 refine zT 13 (some 4) (.slice b4 m4 c4) rfl rfl (by kernel_rfl) rfl (fun W ⟨h0, h1, h2, h3⟩ => by go_simp) H4 ?_
 simp only [FL]
 refine wpAnyH_done (by kernel_rfl) ?_ _
 refine NoPanic.normal ?_
 have D := B.trans (E4.mono (by have := B.size; have := HN.out; omega))
 have fin : xs ++ txt k.row ++ txt k.fam ++ txt k.qual ++ enc k.time = xs ++ putK k := by
  unfold putK
  simp only [List.append_assoc]
 rw [fin] at F3
 go_wp2
 go_ret
 exact ⟨b4, m4, c4, rfl, F3, by rw [← HN.out]; exact D⟩
open Go.RowKit
def PutPostF (w : World) (ys : List Int) (e : Ending) (w' : World) : Prop := ∃ bo m c, e = .returned (.slice bo m c) ∧ Sl w' bo m c ys ∧ Below w.heap.size w w' ∧ ∀ a, bo = some a → w.heap.size ≤ a.block
def ReqPostF (w : World) (k : Int) (ys : List Int) (e : Ending) (w' : World) : Prop :=
 (∃ bo m c, e = .returned (.tuple #[.slice bo m c, .int .i64 k]) ∧ Sl w' bo m c (if k = 0 then ys else []) ∧ ∀ a, bo = some a → w.heap.size ≤ a.block) ∧ Below w.heap.size w w'
end Go.Proofs.YtnbejckdhdbamaaGreat

/-
  Texts in one: Put, Forms, Conv, OfM, ChNull, HRegX, GNew, GSet, ExSt, ChPickOf, QuMath, ChNum, ChAre, AppL, ChPick, ChHas, ChRNum, RefForms.
-/
import Derived.Test.YtdcebokfnbgkaaaDoorChoosePicksQFL
import Derived.Test.YtdcebokfnbgkaaaDoorChoosePicksQ0
import Derived.Test.YtdcebokfnbgkaaaDoorChoosePicksQ1
import Derived.Lib.ConvBytes
import Derived.DataElems
import Derived.ArgAppend
import Derived.Deep.Upon
import Derived.Deep.MidRow
namespace Go.Proofs.YtdcebokfnbgkaaaDoor
open Go.RowKit
theorem own_snoc {w : World} {base : Nat} {v : Value} {k : Nat} {xs ys : List Int} {c : Int} (h : w.ownsRow base 5 1 v (k + ys.length + 1) (bv (xs ++ ys) ++ [.int .u8 c])) :
    w.ownsRow base 5 1 v (k + (ys ++ [c]).length) (bv (xs ++ (ys ++ [c]))) := by
  have e : bv (xs ++ (ys ++ [c])) = bv (xs ++ ys) ++ [.int .u8 c] := by simp [bv]
  have l : k + (ys ++ [c]).length = k + ys.length + 1 := by simp; omega
  rw [e, l]
  exact h
set_option maxHeartbeats 800000 in
set_option maxRecDepth 100000 in
theorem putNumber_any (w : World) (base : Nat) (v : Value) (k n : Nat) (xs : List Int) (hn : n < 18446744073709551616) (hk : k + 20 ≤ 140737488355328) (hbase : base ≤ w.heap.size) (hown : w.ownsRow base 5 1 v k (bv xs)) :
    Calls Tryd.prog 51 #[v, .int .u64 n] w fun e w' =>
      ∃ v', e = .returned v' ∧ w'.ownsRow base 5 1 v' (k + (enc n).length) (bv (xs ++ enc n)) ∧ Below base w w' := by
  obtain ⟨i0, hi, hz0, hz1, hz2⟩ := info_parts u8info
  go_enter Tryd.func51, Tryd.ntmps51
  go_wp2
  refine wp_scope_label 0 (fun a' w' => Below base w w' ∧ ∃ (m : Nat) (v' u5 u6 u7 u8 u9 u10 u11 u12 u13 u14 u15 u16 u17 u18 u19 u20 : Value) (ys : List Int), a' = { tmps := #[v', .int .u64 m, undef, undef, .slice none 0 0, u5, u6, u7, u8, u9, u10, u11, u12, u13, u14, u15, u16, u17, u18, u19, u20], defers := [] } ∧ m < 18446744073709551616 ∧ ys ++ enc m = enc n ∧ ys.length + (enc m).length ≤ 10 ∧ w'.ownsRow base 5 1 v' (k + ys.length) (bv (xs ++ ys))) (fun a' _ => (intOf (a'.tmps.getD 1 undef)).toNat) ?_ ?_
  · exact ⟨Below.refl _ _, n, v, _, _, _, _, _, _, _, _, _, _, _, _, _, _, _, _, [], rfl, hn, rfl, by simpa using enc_length hn, by simpa using hown⟩
  · rintro a' w' ⟨hbel, m, v', u5, u6, u7, u8, u9, u10, u11, u12, u13, u14, u15, u16, u17, u18, u19, u20, ys, rfl, hm, hys, hy9, hown'⟩
    have hp := enc_pos m
    have hsz := hbel.size
    by_cases hlt : m < 128
    · have HY : Hid (ys ++ enc m = enc n) := hys
      clear hys
      go_wp2_with (at_builtin; refine wpList_append_own _ rfl _ _ 38 rfl base 5 i0 (.int .u8 0) 1 1 Tryd.underlying38 hi hz0 hz1 hz2 rfl (by decide) _ _ _ rfl (hown'.alloc _) ⟨w'.heap.size, 0, none⟩ 1 1 [.int .u8 m] rfl rfl (cell_one_new _ _ _) (by simp [Value.oneCell']) (by unfold maxLen; omega) (by omega) (by simp; omega) ?_; intro v2 w2 hown2 hgrow2 hn2)
      have e1 : enc m = [(m : Int)] := enc_small hlt
      have e2 := HY.out
      rw [e1] at e2
      have ho := own_snoc hown2
      rw [e2] at ho
      have hb2 : Below base w w2 := (hbel.alloc (by omega) _).grown hgrow2 (by simp; omega) (fun j hj => (hown'.lt j hj).1)
      clear hown2 hgrow2 hn2
      simp only [Exit.jump]
      go_ret
      exact ⟨v2, rfl, ho, hb2⟩
    · have HY : Hid (ys ++ enc m = enc n) := hys
      clear hys
      have ho := or128 m
      go_wp2_with (at_builtin; refine wpList_append_own _ rfl _ _ 38 rfl base 5 i0 (.int .u8 0) 1 1 Tryd.underlying38 hi hz0 hz1 hz2 rfl (by decide) _ _ _ rfl (hown'.alloc _) ⟨w'.heap.size, 0, none⟩ 1 1 [.int .u8 ((m % 128 + 128 : Nat) : Int)] rfl rfl (cell_one_new _ _ _) (by simp [Value.oneCell']) (by unfold maxLen; omega) (by omega) (by simp; omega) ?_; intro v2 w2 hown2 hgrow2 hn2)
      have e1 := enc_big (n := m) (by omega) hm
      have e2 := HY.out
      rw [e1] at e2
      have hl : (enc m).length = (enc (m / 128)).length + 1 := by rw [e1]; rfl
      have ho2 := own_snoc hown2
      have hb2 : Below base w w2 := (hbel.alloc (by omega) _).grown hgrow2 (by simp; omega) (fun j hj => (hown'.lt j hj).1)
      clear hown2 hgrow2 hn2
      go_step3
      rw [show ((m : Int) / 128) = ((m / 128 : Nat) : Int) from by omega]
      refine ⟨rfl, ⟨hb2, m / 128, v2, _, _, _, _, _, _, _, _, _, _, _, _, _, _, _, _, ys ++ [((m % 128 + 128 : Nat) : Int)], rfl, by omega, by rw [← e2]; simp, by simp; omega, ho2⟩, ?_⟩
      simp [intOf]
      omega
open Go.RowKit
theorem own_empty (w : World) : (w.alloc (.cells #[] 5)).ownsRow w.heap.size 5 1 (.slice (some ⟨w.heap.size, 0, none⟩) 0 0) 0 (bv []) :=
  World.ownsRow_made w #[] 0 (Nat.le_refl _) (Nat.zero_le _) rfl
set_option maxHeartbeats 400000 in
theorem wUint_any (w : World) (ao : Option Addr) (n cap m : Nat) (xs : List Int) (h : Sl w ao n cap xs) (hr : n + 30 ≤ 140737488355328) (hm : m < 18446744073709551616) :
    Calls Tryd.prog 37 #[.slice ao n cap, .int .u64 m] w fun e w' =>
      ∃ v, e = .returned v ∧ w'.ownsRow w.heap.size 5 1 v (n + (enc m).length) (bv (xs ++ enc m)) ∧ Below w.heap.size w w' := by
  go_enter Tryd.func37, Tryd.ntmps37
  go_wp2_with fail
  refine (withRoom_any w ao n cap 10 xs h (by omega)).mono ?_
  rintro e w1 ⟨rfl, hown1, hb1⟩
  have hs := hb1.size
  go_wp2_with fail
  refine (putNumber_any w1 w.heap.size _ n m xs hm (by omega) hs hown1).mono ?_
  rintro e w2 ⟨v2, rfl, hown2, hb2⟩
  have hb := hb1.trans hb2
  clear hown1 hb1 hb2
  go_wp2_with fail
  go_ret
  exact ⟨v2, rfl, hown2, hb⟩
set_option maxHeartbeats 400000 in
theorem wBytes_any (w : World) (ao bo : Option Addr) (n cap m cap2 : Nat) (xs ys : List Int) (h : Sl w ao n cap xs) (h2 : Sl w bo m cap2 ys) (hr : n + m + 60 ≤ 140737488355328) :
    Calls Tryd.prog 40 #[.slice ao n cap, .slice bo m cap2] w fun e w' =>
      ∃ v, e = .returned v ∧ w'.ownsRow w.heap.size 5 1 v (n + (enc m).length + m) (bv (xs ++ enc m ++ ys)) ∧ Below w.heap.size w w' := by
  obtain ⟨i0, hi, hz0, hz1, hz2⟩ := info_parts u8info
  go_enter Tryd.func40, Tryd.ntmps40
  go_wp2_with fail
  rw [show (10 + (m : Int)) = ((10 + m : Nat) : Int) from by omega]
  refine (withRoom_any w ao n cap (10 + m) xs h (by omega)).mono ?_
  rintro e w1 ⟨rfl, hown1, hb1⟩
  have hs := hb1.size
  go_wp2_with fail
  refine (putNumber_any w1 w.heap.size _ n m xs (by omega) (by omega) hs hown1).mono ?_
  rintro e w2 ⟨v2, rfl, hown2, hb2⟩
  have hs2 := hb2.size
  have hb := hb1.trans hb2
  have hl := enc_length (n := m) (by omega)
  have h3 := h2.below hb
  clear hown1 hb1 hb2
  go_wp2_with (at_builtin; refine wpList_app rfl _ _ rfl w.heap.size _ _ _ rfl hown2 _ _ _ _ rfl h3 (by omega) (by omega) ?_; intro v3 w3 hown3 hb3)
  have hb4 := hb.trans hb3
  clear hb hown2 hb3 h3
  go_ret
  exact ⟨v3, rfl, hown3, hb4⟩
open Go.RowKit
def sb (s : ByteArray) : List Int := s.data.toList.map fun c => (c.toNat : Int)
theorem sb_len (s : ByteArray) : (sb s).length = s.size := by simp [sb]
theorem sb_byte (s : ByteArray) : Byt (sb s) := by
  intro x hx
  simp only [sb, List.mem_map] at hx
  obtain ⟨c, _, rfl⟩ := hx
  have := c.toNat_lt
  omega
theorem bytesWorld_sl (w : World) (s : ByteArray) (hs : s.size ≤ 140737488355328) : Sl (Lib.bytesWorld w 5 s) (some ⟨w.heap.size, 0, none⟩) s.size (grownCap w s.size 0 5) (sb s) := by
  refine ⟨sb_len s, grownCap_ge w _ _ _, grownCap_le_maxLen w _ _ _ (by simp only [maxLen]; omega), fun h => by simp at h, fun a ha i hi => ?_, sb_byte s⟩
  obtain rfl := Option.some.inj ha
  rw [Addr.add_lit, Nat.zero_add, Lib.bytesWorld_cell w _ s i hi]
  simp [sb, List.getD, hi]
theorem bytesWorld_below (w : World) (s : ByteArray) : Below w.heap.size w (Lib.bytesWorld w 5 s) :=
  ⟨rfl, rfl, rfl, by rw [Lib.bytesWorld_size]; omega, fun k hk => Lib.bytesWorld_at_old w _ s k hk⟩
theorem wpList_conv_bytes {w : World} {ops : Array Oper} {rest : List Oper} {o : Oper} {a : Act} {Q : Exit → Act → World → Prop} (hgd : o.guard = none) (x : Operand) (ho : o.op = .convert 9 38 x)
    (s : ByteArray) (hx : a.eval x = .string s) (hs : s.size ≤ 140737488355328)
    (h : ∀ g c w', g = w.heap.size → Sl w' (some ⟨g, 0, none⟩) s.size c (sb s) → Below w.heap.size w w' → wpList Tryd.prog ops Q rest (a.put o.dst (.slice (some ⟨g, 0, none⟩) s.size c)) w') : wpList Tryd.prog ops Q (o :: rest) a w := by
  refine wpList_plain hgd fun K hK => ?_
  have hr := Lib.run_convert_string_bytes (P := Tryd.prog) w 9 38 5 s Tryd.underlying9 Tryd.underlying38 Tryd.underlying5
  unfold Oper.wp execOp
  simp only [ho, hx, hr, Sem.run_bind, Sem.run_pure, Result.andThen_ok]
  exact hK _ _ (h _ _ _ rfl (bytesWorld_sl w s hs) (bytesWorld_below w s))
open Go.RowKit
def fmP (xs : List (List Int)) : List Int := xs.flatMap fun x => enc x.length ++ x
def formL (s : List Int) (xs : List (List Int)) : List Int := enc s.length ++ s ++ enc xs.length ++ fmP xs
theorem fmP_snoc (xs : List (List Int)) (x : List Int) : fmP (xs ++ [x]) = fmP xs ++ (enc x.length ++ x) := by simp [fmP]
def pxs (ps : List Part) : List (List Int) := ps.map Part.xs
theorem pxs_take (ps : List Part) (k : Nat) (h : k < ps.length) : pxs (ps.take (k + 1)) = pxs (ps.take k) ++ [ps[k].xs] := by
  unfold pxs
  rw [List.take_add_one, List.getElem?_eq_getElem h, List.map_append]
  rfl
theorem pxs_len (ps : List Part) : (pxs ps).length = ps.length := by simp [pxs]
theorem fmP_le (xs : List (List Int)) (B : Nat) (hB : B < 18446744073709551616) (h : ∀ x ∈ xs, x.length ≤ B) : (fmP xs).length ≤ xs.length * (B + 10) := by
  induction xs with
  | nil => simp [fmP]
  | cons x xs ih =>
    have h1 := ih (fun y hy => h y (List.mem_cons_of_mem _ hy))
    have h2 := h x (List.mem_cons_self ..)
    have h3 := enc_length (n := x.length) (by omega)
    have e : fmP (x :: xs) = enc x.length ++ x ++ fmP xs := by simp [fmP]
    rw [e, List.length_append, List.length_append, List.length_cons, Nat.succ_mul]
    omega
theorem fmP_byte (xs : List (List Int)) (h : ∀ x ∈ xs, Byt x ∧ x.length < 18446744073709551616) : Byt (fmP xs) := by
  intro y hy
  simp only [fmP, List.mem_flatMap] at hy
  obtain ⟨x, hx, hy⟩ := hy
  rcases List.mem_append.1 hy with h1 | h1
  · exact enc_byte (h x hx).2 y h1
  · exact (h x hx).1 y h1
set_option maxRecDepth 100000 in
set_option maxHeartbeats 4000000 in
theorem of_any (w : World) (s : ByteArray) (ao : Option Addr) (n cap : Nat) (ps : List Part) (hP : PL w ao n cap ps) (hT : Tabs w) (hs : s.size ≤ 1000000) (hn : n ≤ 1000000) (hq : ∀ q ∈ ps, q.n ≤ 1000000) :
    Calls Tryd.prog 31 #[.string s, .slice ao n cap] w fun e w' => ∃ v, e = .returned v ∧ w'.ownsRow w.heap.size 5 1 v 32 (bv (sumL (formL (sb s) (pxs ps)))) ∧ Below w.heap.size w w' := by
  have h2 := hT.two
  have hl := hP.len
  have hni : (n : Int) ≤ 1000000 := by omega
  have hsl := sb_len s
  have es := enc_length (n := s.size) (by omega)
  have en := enc_length (n := n) (by omega)
  go_enter Tryd.func31, Tryd.ntmps31
  go_wp2_with (first
    | (go_at_call 38; refine (new_any w).mono ?_; rintro e w1 ⟨rfl, H1, g1⟩; have B1 : Below w.heap.size w w1 := (Below.refl _ w).grown g1 (Nat.le_refl _) (by simp); have p1 := H1.lt; clear g1)
    | (refine wpList_conv_bytes rfl (.tmp 10) rfl s rfl (by omega) ?_; intro g2 c2 w2 hg2 S2 C2; have B2 : Below w.heap.size w w2 := B1.trans (C2.mono (by omega)); have H2 := H1.below C2 p1; have s2 := C2.size; clear C2 H1 hg2)
    | (go_at_call 40; refine (wBytes_any w2 none _ 0 0 s.size c2 [] _ (Sl.nothing w2) S2 (by omega)).mono ?_; rintro e w3 ⟨v3, rfl, own3, C3⟩; simp only [List.nil_append, Nat.zero_add] at own3; obtain ⟨fo, fc, rfl, S3, hS3⟩ := Sl.own own3 (Byt.append (enc_byte (by omega)) (sb_byte s)); have B3 : Below w.heap.size w w3 := B2.trans (C3.mono (by omega)); have H3 := H2.below C3 (by omega); have s3 := C3.size; clear C3 own3 H2 S2 B2)
    | (go_at_call 39; refine (add_any w3 w.heap.size [] fo _ fc _ (hT.below B3 h2) H3 h2 S3 (fun a ha _ => by have := (hS3 a ha).1; omega) (by simp; omega)).mono ?_; rintro e w4 ⟨⟨v4, rfl⟩, H4, g4⟩; have B4 : Below w.heap.size w w4 := B3.grown g4 (by omega) (by intro k hk; cases hk; exact Nat.le_refl _); have s4 := g4.size; clear g4 H3 S3 hS3 B3)
    | (go_at_call 37; refine (wUint_any w4 none 0 0 n [] (Sl.nothing w4) (by omega) (by omega)).mono ?_; rintro e w5 ⟨v5, rfl, own5, C5⟩; simp only [List.nil_append, Nat.zero_add] at own5; obtain ⟨uo, uc, rfl, S5, hS5⟩ := Sl.own own5 (enc_byte (by omega)); have B5 : Below w.heap.size w w5 := B4.trans (C5.mono (by omega)); have H5 := H4.below C5 (by omega); have s5 := C5.size; clear C5 own5 H4 B4))
  refine (add_any w5 w.heap.size _ uo _ uc _ (hT.below B5 h2) H5 h2 S5 (fun a ha _ => by have := (hS5 a ha).1; omega) (by simp; omega)).mono ?_
  rintro e w6 ⟨⟨v6, rfl⟩, H6, g6⟩
  have B6 : Below w.heap.size w w6 := B5.grown g6 (by omega) (by intro k hk; cases hk; exact Nat.le_refl _)
  have s6 := g6.size
  clear g6 H5 S5 hS5 B5
  obtain ⟨F, hF⟩ : ∃ F, F = enc s.size ++ sb s ++ enc n := ⟨_, rfl⟩
  have hFl : F.length ≤ 1000020 := by rw [hF]; simp; omega
  have HF : Hid (formL (sb s) (pxs ps) = F ++ fmP (pxs ps)) := by
    show _ = _
    rw [hF, formL, hsl, pxs_len, hl]
  simp only [List.nil_append] at H6
  rw [← hF] at H6
  clear hF hsl es en
  go_wp2_with fail
  go_loopw [22] (fun i wr => ∃ k : Nat, k ≤ n ∧ i = .int .i64 k ∧ Below w.heap.size w wr ∧ w.heap.size < wr.heap.size ∧ HS wr w.heap.size (F ++ fmP (pxs (ps.take k)))) (fun i _ => n - (intOf i).toNat)
  case atStart => exact ⟨0, by omega, rfl, B6, by omega, by simpa [pxs, fmP] using H6⟩
  case round =>
    clear H6 B6
    obtain ⟨k, hk, rfl, B7, t7, H7⟩ := hrel
    have T7 := hT.below B7 h2
    by_cases hlt : k < n
    · have hki : (k : Int) < (n : Int) := by omega
      have hkl : k < ps.length := by omega
      obtain ⟨ab, aof, rfl, hc⟩ := (hP.below B7).at (by omega)
      have c1 := hc k hkl
      have S1 := (hP.below B7).sl ps[k] (List.getElem_mem hkl)
      have HX : Hid (fmP (pxs (ps.take (k + 1))) = fmP (pxs (ps.take k)) ++ (enc ps[k].n ++ ps[k].xs)) := by
        show _ = _
        rw [pxs_take ps k hkl, fmP_snoc, S1.len]
      have hqn := hq ps[k] (List.getElem_mem hkl)
      have hFM : (fmP (pxs (ps.take k))).length ≤ k * (1000000 + 10) := by
        refine Nat.le_trans (fmP_le _ 1000000 (by omega) (fun x hx => ?_)) ?_
        · obtain ⟨q, hq', rfl⟩ := List.mem_map.1 hx
          rw [(hP.sl q (List.mem_of_mem_take hq')).len]
          exact hq q (List.mem_of_mem_take hq')
        · rw [pxs_len, List.length_take]
          exact Nat.mul_le_mul_right _ (by omega)
      obtain ⟨q, hqe⟩ : ∃ q, q = ps[k] := ⟨_, rfl⟩
      rw [← hqe] at c1 S1 HX hqn
      clear hqe hc
      have hql := S1.len
      have hqb := S1.byte
      have eq := enc_length (n := q.n) (by omega)
      unfold Part.val at c1
      go_wp2_with (first
        | (go_at_call 40; refine (wBytes_any wr none q.ao 0 0 q.n q.cap [] q.xs (Sl.nothing wr) S1 (by omega)).mono ?_; rintro e w8 ⟨v8, rfl, own8, C8⟩; simp only [List.nil_append, Nat.zero_add] at own8; obtain ⟨fo, fc, rfl, S8, hS8⟩ := Sl.own own8 (Byt.append (enc_byte (by omega)) hqb); have B8 : Below w.heap.size w w8 := B7.trans (C8.mono (by omega)); have H8 := H7.below C8 (by omega); have s8 := C8.size; clear C8 own8 H7 S1)
        | (go_at_call 39; refine (add_any w8 w.heap.size _ fo _ fc _ (hT.below B8 h2) H8 h2 S8 (fun a ha _ => by have := (hS8 a ha).1; omega) (by simp; omega)).mono ?_; rintro e w9 ⟨⟨v9, rfl⟩, H9, g9⟩; have B9 : Below w.heap.size w w9 := B8.grown g9 (by omega) (by intro k hk; cases hk; exact Nat.le_refl _); have s9 := g9.size; clear g9 H8 S8 hS8 B8))
      go_roundw
      case rel =>
        refine ⟨k + 1, by omega, by go_num, B9, by omega, ?_⟩
        rw [HX.out, ← List.append_assoc F]
        exact H9
      case measure => simp [intOf]; omega
    · have hge : (n : Int) ≤ (k : Int) := by omega
      have e : ps.take k = ps := List.take_of_length_le (by omega)
      rw [e] at H7
      clear e
      have hFM : (fmP (pxs ps)).length ≤ n * (1000000 + 10) := by
        refine Nat.le_trans (fmP_le _ 1000000 (by omega) (fun x hx => ?_)) ?_
        · obtain ⟨q, hq', rfl⟩ := List.mem_map.1 hx
          rw [(hP.sl q hq').len]
          exact hq q hq'
        · rw [pxs_len]
          exact Nat.mul_le_mul_right _ (by omega)
      go_wp2_with (go_at_call 41; refine (hsum_any wr w.heap.size _ T7 H7 (by simp; omega)).mono ?_; rintro e w3 ⟨v, rfl, own3, B3⟩)
      go_ret
      refine ⟨_, rfl, ?_, B7.trans (B3.mono (by omega))⟩
      rw [HF.out]
      exact own_base own3 (by omega)
open Go.RowKit
def nullX : List Int := sumL (formL (sb ⟨#[98, 97, 116, 99, 104]⟩) [])
theorem batch0 (w : World) (hT : Tabs w) : Calls Tryd.prog 24 #[.slice none 0 0] w fun e w' => ∃ v, e = .returned v ∧ w'.ownsRow w.heap.size 5 1 v 32 (bv nullX) ∧ Below w.heap.size w w' := by
  have C := of_any w ⟨#[98, 97, 116, 99, 104]⟩ none 0 0 [] (PL.nothing w) hT (by decide) (by omega) (fun _ h => absurd h List.not_mem_nil)
  go_enter Tryd.func24, Tryd.ntmps24
  go_wp2_with fail
  go_loopw [3, 10] (fun v' i wr => v' = .slice none 0 0 ∧ i = .int .i64 0 ∧ w = wr) (fun _ i _ => 0)
  case atStart => exact ⟨rfl, rfl, rfl⟩
  case round =>
    obtain ⟨rfl, rfl, rfl⟩ := hrel
    go_wp2_with (go_at_call 31; refine C.mono ?_; rintro e w' ⟨v, rfl, O, B⟩)
    go_ret
    exact ⟨v, rfl, O, B⟩
theorem null_any (w : World) (hT : Tabs w) : Calls Tryd.prog 14 #[] w fun e w' => ∃ ro rc, e = .returned (.slice ro 32 rc) ∧ Sl w' ro 32 rc nullX ∧ Below w.heap.size w w' ∧ ∀ z, sblk ro 32 z → w.heap.size ≤ z := by
  have C := batch0 w hT
  go_enter Tryd.func14, Tryd.ntmps14
  go_wp2_with (go_at_call 24; refine C.mono ?_; rintro e w' ⟨v, rfl, O, B⟩)
  obtain ⟨ro, rc, rfl, S, hbb⟩ := Sl.own O (sumL_byte _)
  go_ret
  exact ⟨ro, rc, rfl, S, B, fun z ⟨a, ha, _, e⟩ => e ▸ (hbb a ha).1⟩
end Go.Proofs.YtdcebokfnbgkaaaDoor
namespace Go
section
variable {P : Program} {ops : Array Oper} {S : World → Prop} {Q : Exit → Act → World → Prop} {fuel : Nat} {listed : Array Bool} {a : Act} {w : World}
theorem hr_ex (i : Nat) (d : Option Tmp) {oi : Oper} {R : Value → World → Prop} (hi : ops[i]? = some oi) (hd : oi.dst = d) (hr : Region.ready .any ops listed = [i]) (hw : Region.wanted oi (yielded ops a.tmps) = true)
    (hrun : ∃ v w', (execOp a.eval oi).run P w = .ok (.value v) w' ∧ R v w')
    (h : ∀ v w', R v w' → S w' ∧ wpAnyH P .any ops (NoPanic Q) S fuel (listed.setIfInBounds i true) (a.put d v) w') : wpAnyH P .any ops (NoPanic Q) S (fuel + 1) listed a w := by
  refine wpAnyH_all hr (by simp) fun j hj => ?_
  obtain rfl := List.mem_singleton.1 hj
  obtain ⟨v, w', hrun, hR⟩ := hrun
  unfold wpOp
  simp only [hi, hw, if_true, Oper.wp, hrun, Oper.upon, hd]
  exact .inl (h v w' hR)
end
end Go
namespace Go.Proofs.YtdcebokfnbgkaaaDoor
open Go.RowKit
def flatE {α : Type} (E : El α) (l : List α) : List Value := (l.map E.c).flatten
variable {α : Type} {E : El α} {w0 w W W' : World} {base : Nat} {v : Value} {l qs : List α} {t s : TypeId} {bytes : Nat} {z : Value}
theorem grow_bel {n : Nat} {e : TypeId} {size : Nat} {xs : List Value} (h : W.ownsRow base e size v n xs) (hb : Below W.heap.size W W') : W'.ownsRow base e size v n xs :=
  own_kept h fun g hg => hb.block g (h.lt g hg).2
structure GNew (E : El α) (t : TypeId) (w0 W : World) (base : Nat) (v : Value) (l : List α) : Prop where
  row : W.ownsRow base t E.sz v l.length (flatE E l)
  ok : ∀ c ∈ l, E.ok c w0
theorem GNew.nil (E : El α) (t : TypeId) (w0 W : World) (base : Nat) : GNew E t w0 W base (.slice none 0 0) [] := ⟨World.ownsRow_nil _ _ _ _, fun _ h => absurd h List.not_mem_nil⟩
theorem GNew.below (h : GNew E t w0 W base v l) (hb : Below W.heap.size W W') : GNew E t w0 W' base v l := ⟨grow_bel h.row hb, h.ok⟩
theorem GNew.slice (h : GNew E t w0 W base v l) : ∃ ao n cap, v = .slice ao n cap := by
  rcases h.row.2 with ⟨rfl, e⟩ | ⟨g, cap, cur, rfl, _⟩
  · exact ⟨none, 0, 0, rfl⟩
  · exact ⟨_, _, cap, rfl⟩
theorem GNew.gl (F : E.Fine) (h : GNew E t w0 W base v l) (hb : Below w0.heap.size w0 W) : ∃ ao cap, v = .slice ao l.length cap ∧ GL E W ao l.length cap l ∧ ∀ z, sblk ao l.length z → base ≤ z := by
  have hok : ∀ c ∈ l, E.ok c W := fun c hc => F.kept c w0 W (h.ok c hc) fun z hz => hb.block z (F.lt c w0 z (h.ok c hc) hz)
  rcases h.row.2 with ⟨rfl, e⟩ | ⟨g, cap, cur, rfl, a1, a2, a3, a4, a5, a6⟩
  · rw [e]
    have : l = [] := List.eq_nil_of_length_eq_zero e
    subst this
    exact ⟨none, 0, rfl, GL.nothing E W, fun z hz => by obtain ⟨a, ha, _⟩ := hz; cases ha⟩
  · refine ⟨some ⟨g, 0, none⟩, cap, rfl, ⟨rfl, a3, a4, fun h => by simp at h, fun a ha i hi j u hu => ?_, hok⟩, fun z hz => by obtain ⟨a, ha, _, rfl⟩ := hz; cases ha; exact a1⟩
    obtain rfl := Option.some.inj ha
    have hj : j < E.sz := by have := (List.getElem?_eq_some_iff.1 hu).1; rw [F.len] at this; exact this
    refine h.row.cells (g := g) rfl (i * E.sz + j) u ?_
    unfold flatE
    rw [flat_get E.c E.sz F.len l i j hi hj]
    exact hu
theorem run_appG1 (F : E.Fine) (hty : GTy E.sz bytes z t s) (ty : TypeId) (h : GNew E t w0 w base v l) (hb : base ≤ w.heap.size) {ad : Addr} {cp : Nat} {y : α} (hG : ∀ j u, (E.c y)[j]? = some u → w.cell? (ad.add j) = some u) (hok : E.ok y w0) (hn : (l.length + 1) * bytes ≤ 140737488355328) (hm : l.length + 1 ≤ maxLen) :
    ∃ v' w', (Builtin.append_ #[s, s] ty #[v, .slice (some ad) 1 cp]).run Tryd.prog w = .ok v' w' ∧ GNew E t w0 w' base v' (l ++ [y]) ∧ Below base w w' := by
  obtain ⟨i0, hi, hz0, hz1, hz2⟩ := info_parts hty.info
  obtain ⟨v', w', h1, h2, h3, -⟩ := run_append_own (P := Tryd.prog) w base s ty t i0 _ E.sz bytes hty.und hi hz0 hz1 hz2 hty.zs F.pos v l.length (flatE E l) h.row ad 1 cp (E.c y) (by rw [F.len, Nat.one_mul]) hG (F.one y) hm hn hb
  refine ⟨v', w', h1, ⟨?_, fun d hd => ?_⟩, (Below.refl _ w).grown h3 hb (fun k hk => (h.row.lt k hk).1)⟩
  · have e : flatE E (l ++ [y]) = flatE E l ++ E.c y := by simp [flatE]
    rw [e, List.length_append]
    exact h2
  · rcases List.mem_append.1 hd with hd | hd
    · exact h.ok d hd
    · rw [List.mem_singleton.1 hd]; exact hok
end Go.Proofs.YtdcebokfnbgkaaaDoor
namespace Go.Proofs.YtdcebokfnbgkaaaDoor
open Go.RowKit
variable {α : Type} {E : El α} {w0 w W : World} {base : Nat} {v : Value} {l : List α} {t : TypeId}
theorem cells_grown (w : World) (p o : Nat) (vs : List Value) : w.grownBy (w.setCells p o vs) (some p) := by
  induction vs generalizing w o with
  | nil => exact ⟨rfl, rfl, rfl, Nat.le_refl _, fun _ _ _ => rfl⟩
  | cons v vs ih =>
    have h1 : w.grownBy (w.setCell ⟨p, o, none⟩ v) (some p) := grown_set (bel_grown (Below.refl _ w) _) o v
    exact gro_trans h1 (ih _ _)
end Go.Proofs.YtdcebokfnbgkaaaDoor
namespace Go.Proofs.YtdcebokfnbgkaaaDoor
open Go.RowKit
theorem exec_store {P : Program} {w w' : World} {o : Oper} {a : Act} {t : TypeId} {x y : Operand} {p v : Value} (ho : o.op = .store t x y) (hx : a.eval x = p) (hy : a.eval y = v) (h : (Instr.storeAt t p v).run P w = .ok () w') : (execOp a.eval o).run P w = .ok .skip w' := by
  unfold execOp
  simp only [ho, hx, hy, Sem.run_bind, h, Result.andThen_ok, Sem.run_pure]
def putAt : List Value → Nat → List Value → List Value
  | zs, _, [] => zs
  | zs, o, v :: vs => putAt (zs.set o v) (o + 1) vs
theorem Arr.setAll {g : Nat} {t : TypeId} : ∀ (vs zs : List Value) (o : Nat) (w : World), Arr w g t zs → Arr (w.setCells g o vs) g t (putAt zs o vs)
  | [], _, _, _, h => h
  | v :: vs, zs, o, w, h => Arr.setAll vs (zs.set o v) (o + 1) (w.setCell ⟨g, o, none⟩ v) (h.set o v)
theorem store_row {w : World} {g : Nat} {t : TypeId} {zs cs : List Value} (A : Arr w g t zs) (sz : (Tryd.prog.info? t).map (·.size) = some cs.length) (hl : zs.length = cs.length) (one : ∀ u ∈ cs, u.oneCell' = true) :
    (Instr.storeAt t (.pointer (some ⟨g, 0, none⟩)) (.agg cs.toArray)).run Tryd.prog w = .ok () (w.setCells g 0 cs) ∧ w.grownBy (w.setCells g 0 cs) (some g) := by
  refine ⟨run_storeAt_mid w g 0 t cs.toArray (fun j hj => ⟨?_, A.free _⟩) (by simpa using sz) (all_oneCell_toArray one), cells_grown w g 0 cs⟩
  have hj : j < zs.length := by rw [hl]; simpa using hj
  rw [Nat.zero_add, A.cell, List.getElem?_eq_getElem hj]
  rfl
open Go.RowKit
theorem grown_cell16 {w w' : World} {p b o : Nat} (G : w.grownBy w' (some p)) (hb : b < w.heap.size) (hne : b ≠ p) : w'.cell? ⟨b, o, none⟩ = w.cell? ⟨b, o, none⟩ :=
  World.cell?_of_block (G.block b hb fun e => hne (Option.some.inj e))
def PickOfPost (w : World) (q vw : Nat) (xs : List Int) (e : Ending) (w' : World) : Prop := ∃ ro n rc, e = .returned (.agg #[.int .u64 (q : Nat), .int .u64 (vw : Nat), .slice ro n rc]) ∧ Sl w' ro n rc xs ∧ Below w.heap.size w w' ∧ ∀ z, sblk ro n z → w.heap.size ≤ z
set_option maxRecDepth 100000 in
set_option maxHeartbeats 4000000 in
theorem pickOf_some (w : World) (M kk : Nat) (F : Value → Option Value) (q : Nat) (p : PA) (hM : MF w 25 M kk F) (hq : q < 18446744073709551616) (hF : F (.int .u64 (q : Nat)) = some p.val) (hb : Sl w p.b.ao p.b.n p.b.cap p.b.xs) (hbn : p.b.n ≤ 1000000) :
    Calls Tryd.prog 21 #[.map (some M), .int .u64 (q : Nat)] w (PickOfPost w q p.vw p.b.xs) := by
  have B0 : Below w.heap.size w (w.alloc (.cells #[.int .u64 0, .int .u64 0, .slice none 0 0] 46)) := (Below.refl _ _).alloc (Nat.le_refl _) _
  have HL := (hM.below B0 hM.lt).look kU16 Tryd.underlying52 (zPre _) (keyU16 q hq)
  rw [hF] at HL
  simp only [Option.getD_some, Option.isSome_some, PA.val] at HL
  obtain ⟨W1, hW1⟩ : ∃ W, W = ((w.alloc (.cells #[.int .u64 0, .int .u64 0, .slice none 0 0] 46)).alloc (.cells #[.int .u64 (p.sq : Nat), .int .u64 (p.vw : Nat), .slice p.b.ao p.b.n p.b.cap] 46)) := ⟨_, rfl⟩
  have hs1 : (w.alloc (.cells #[.int .u64 0, .int .u64 0, .slice none 0 0] 46)).heap.size = w.heap.size + 1 := by simp
  have b1 : Below w.heap.size w W1 := by rw [hW1]; exact ((Below.refl _ w).alloc (Nat.le_refl _) _).alloc (by simp) _
  have AX : Arr W1 w.heap.size 46 [.int .u64 0, .int .u64 0, .slice none 0 0] := by
    rw [hW1]
    exact Arr.below (heap_alloc_new w _) ((Below.refl _ _).alloc (Nat.le_refl _) _) (by simp)
  have AY : Arr W1 (w.heap.size + 1) 46 [.int .u64 (p.sq : Nat), .int .u64 (p.vw : Nat), .slice p.b.ao p.b.n p.b.cap] := by
    rw [hW1]
    have := heap_alloc_new (w.alloc (.cells #[.int .u64 0, .int .u64 0, .slice none 0 0] 46)) (.cells #[.int .u64 (p.sq : Nat), .int .u64 (p.vw : Nat), .slice p.b.ao p.b.n p.b.cap] 46)
    rw [hs1] at this
    exact this
  have HB1 : Hid (Below w.heap.size w W1) := b1
  have HSL : Hid (Sl W1 p.b.ao p.b.n p.b.cap p.b.xs) := hb.below b1
  have HAX : Hid (Arr W1 w.heap.size 46 [.int .u64 0, .int .u64 0, .slice none 0 0]) := AX
  have HAY : Hid (Arr W1 (w.heap.size + 1) 46 [.int .u64 (p.sq : Nat), .int .u64 (p.vw : Nat), .slice p.b.ao p.b.n p.b.cap]) := AY
  have HLT : Hid (w.heap.size + 1 < W1.heap.size) := AY.lt
  clear hM hF hb AX AY b1 B0
  go_enter Tryd.func21, Tryd.ntmps21
  go_wp2_with fail
  rw [← hW1]
  clear hW1 HL hs1
  have HS : Hid (∀ V, Below W1.heap.size W1 V → V.cell? ⟨w.heap.size + 1, 1, none⟩ = some (.int .u64 (p.vw : Nat)) ∧ V.cell? ⟨w.heap.size + 1, 2, none⟩ = some (.slice p.b.ao p.b.n p.b.cap)) := fun V hV => by have K := HAY.out.below hV HLT.out; exact ⟨K.cell 1, K.cell 2⟩
  have E0 : Below W1.heap.size W1 W1.drew := (Below.refl _ _).drew
  refine wp_region_noPanic ?_
  refine wp_region_held_drew (S := fun V => V.cell? ⟨w.heap.size + 1, 1, none⟩ = some (.int .u64 (p.vw : Nat)) ∧ V.cell? ⟨w.heap.size + 1, 2, none⟩ = some (.slice p.b.ao p.b.n p.b.cap)) (by kernel_rfl) (HS.out _ E0) (fun H0 => ?_)
  obtain ⟨v0, hv0⟩ : ∃ v, v = W1.drew := ⟨_, rfl⟩
  rw [← hv0] at H0 E0 ⊢
  clear hv0
  refine hr_take_w 0 (some 18) (.int .u64 (q : Nat)) rfl rfl (by kernel_rfl) (by kernel_rfl) (by kernel_rfl) rfl (fun W hW => by obtain ⟨h0, h1⟩ := hW; go_simp) H0 ?_
  simp only [FL]
  refine hr_take_w 1 (some 19) (.pointer (some ⟨w.heap.size + 1, 1, none⟩)) rfl rfl (by kernel_rfl) (by kernel_rfl) (by kernel_rfl) rfl (fun W hW => by obtain ⟨h0, h1⟩ := hW; go_simp) H0 ?_
  simp only [FL]
  refine hr_take_w 2 (some 20) (.int .u64 (p.vw : Nat)) rfl rfl (by kernel_rfl) (by kernel_rfl) (by kernel_rfl) rfl (fun W hW => by obtain ⟨h0, h1⟩ := hW; go_simp) H0 ?_
  simp only [FL]
  refine hr_take_w 3 (some 21) (.pointer (some ⟨w.heap.size + 1, 2, none⟩)) rfl rfl (by kernel_rfl) (by kernel_rfl) (by kernel_rfl) rfl (fun W hW => by obtain ⟨h0, h1⟩ := hW; go_simp) H0 ?_
  simp only [FL]
  refine hr_take_w 4 (some 22) (.slice p.b.ao p.b.n p.b.cap) rfl rfl (by kernel_rfl) (by kernel_rfl) (by kernel_rfl) rfl (fun W hW => by obtain ⟨h0, h1⟩ := hW; go_simp) H0 ?_
  simp only [FL]
  refine hr_call_w 5 (some 23) 29 #[.slice p.b.ao p.b.n p.b.cap] rfl rfl (by kernel_rfl) (by kernel_rfl) (by go_simp) (fun v w' => ∃ ro rc, v = .slice ro p.b.n rc ∧ Sl w' ro p.b.n rc p.b.xs ∧ Below v0.heap.size v0 w' ∧ ∀ z, sblk ro p.b.n z → v0.heap.size ≤ z) ((bclone16 v0 _ _ _ _ (HSL.out.below E0) hbn).mono (by rintro e w' ⟨ro, rc, rfl, h1, h2, h3⟩; exact ⟨_, rfl, ro, rc, rfl, h1, h2, h3⟩)) ?_
  rintro v v1 ⟨ro, rc, rfl, S1, C1, G1⟩
  have E1 := E0.trans (C1.mono E0.size)
  have H1 := HS.out v1 E1
  refine ⟨H1, ?_⟩
  simp only [FL]
  refine hr_take_w 6 (some 24) (.agg #[.int .u64 (q : Nat), .int .u64 (p.vw : Nat), .slice ro p.b.n rc]) rfl rfl (by kernel_rfl) (by kernel_rfl) (by kernel_rfl) rfl (fun W hW => by obtain ⟨h0, h1⟩ := hW; go_simp) H1 ?_
  simp only [FL]
  have AX := HAX.out.below E1 (Nat.lt_of_succ_lt HLT.out)
  obtain ⟨st, GR⟩ := store_row AX (cs := [.int .u64 (q : Nat), .int .u64 (p.vw : Nat), .slice ro p.b.n rc]) (by kernel_rfl) rfl (fun u hu => by simp only [List.mem_cons, List.not_mem_nil, or_false] at hu; rcases hu with rfl | rfl | rfl <;> rfl)
  have AZ : Arr (v1.setCells w.heap.size 0 [.int .u64 (q : Nat), .int .u64 (p.vw : Nat), .slice ro p.b.n rc]) w.heap.size 46 [.int .u64 (q : Nat), .int .u64 (p.vw : Nat), .slice ro p.b.n rc] := AX.setAll [.int .u64 (q : Nat), .int .u64 (p.vw : Nat), .slice ro p.b.n rc] _ 0 _
  have hlt : w.heap.size + 1 < v1.heap.size := Nat.lt_of_lt_of_le HLT.out E1.size
  refine hr_skip 7 none (w' := v1.setCells w.heap.size 0 [.int .u64 (q : Nat), .int .u64 (p.vw : Nat), .slice ro p.b.n rc]) rfl rfl (by kernel_rfl) rfl (exec_store rfl rfl rfl st) ⟨(grown_cell16 GR hlt (by omega)).trans H1.1, (grown_cell16 GR hlt (by omega)).trans H1.2⟩ ?_
  simp only [Act.put]
  refine wpAnyH_done (by kernel_rfl) ?_ _
  refine NoPanic.normal ?_
  go_wp2
  refine bodyPost_ret (v := .agg #[.int .u64 (q : Nat), .int .u64 (p.vw : Nat), .slice ro p.b.n rc]) (results_cell_row rfl _ _ w.heap.size 46 _ _ _ rfl AZ (by rfl) (by rfl) (by rfl)) rfl ?_
  have bb := HB1.out.trans (E1.mono HB1.out.size)
  have s0 : W1.heap.size ≤ v0.heap.size := E0.size
  have t1 := HLT.out
  have gg : Below w.heap.size w (v1.setCells w.heap.size 0 [.int .u64 (q : Nat), .int .u64 (p.vw : Nat), .slice ro p.b.n rc]) := bb.grown GR bb.size (fun j hj => by cases hj; omega)
  exact ⟨ro, p.b.n, rc, rfl, Sl.kept (b := ⟨ro, p.b.n, rc, p.b.xs⟩) S1 (fun z hz => GR.block z (Sl.blk_lt (b := ⟨ro, p.b.n, rc, p.b.xs⟩) S1 hz) (fun e => by have := G1 z hz; have := Option.some.inj e; omega)), gg, fun z hz => by have := G1 z hz; omega⟩
set_option maxRecDepth 100000 in
set_option maxHeartbeats 4000000 in
theorem pickOf_none (w : World) (M kk : Nat) (F : Value → Option Value) (q : Nat) (hM : MF w 25 M kk F) (hq : q < 18446744073709551616) (hF : F (.int .u64 (q : Nat)) = none) (hT : Tabs w) :
    Calls Tryd.prog 21 #[.map (some M), .int .u64 (q : Nat)] w (PickOfPost w q 0 nullX) := by
  have B0 : Below w.heap.size w (w.alloc (.cells #[.int .u64 0, .int .u64 0, .slice none 0 0] 46)) := (Below.refl _ _).alloc (Nat.le_refl _) _
  have HL := (hM.below B0 hM.lt).look kU16 Tryd.underlying52 (zPre _) (keyU16 q hq)
  rw [hF] at HL
  simp only [Option.getD_none, Option.isSome_none] at HL
  obtain ⟨W1, hW1⟩ : ∃ W, W = ((w.alloc (.cells #[.int .u64 0, .int .u64 0, .slice none 0 0] 46)).alloc (.cells #[.int .u64 0, .int .u64 0, .slice none 0 0] 46)) := ⟨_, rfl⟩
  have b1 : Below w.heap.size w W1 := by rw [hW1]; exact ((Below.refl _ w).alloc (Nat.le_refl _) _).alloc (by simp) _
  have AX : Arr W1 w.heap.size 46 [.int .u64 0, .int .u64 0, .slice none 0 0] := by
    rw [hW1]
    exact Arr.below (heap_alloc_new w _) ((Below.refl _ _).alloc (Nat.le_refl _) _) (by simp)
  have CN := null_any W1 (hT.below b1 hT.two)
  have HB1 : Hid (Below w.heap.size w W1) := b1
  have HAX : Hid (Arr W1 w.heap.size 46 [.int .u64 0, .int .u64 0, .slice none 0 0]) := AX
  have HLT : Hid (w.heap.size < W1.heap.size) := AX.lt
  clear hM hF AX b1 B0
  go_enter Tryd.func21, Tryd.ntmps21
  go_wp2_with fail
  rw [← hW1]
  clear hW1 HL
  go_wp2_with (go_at_call 14; refine CN.mono ?_; rintro e w2 ⟨ro, rc, rfl, S, C, far⟩; have AX := HAX.out.below C HLT.out; have q0 : w2.cell? ⟨w.heap.size, 0, none⟩ = some (.int .u64 0) := AX.cell 0; have q1 : w2.cell? ⟨w.heap.size, 1, none⟩ = some (.int .u64 0) := AX.cell 1; have q2 : w2.cell? ⟨w.heap.size, 2, none⟩ = some (.slice none 0 0) := AX.cell 2; have f0 : w2.frozen? ⟨w.heap.size, 0, none⟩ = false := AX.free 0; have f1 : w2.frozen? ⟨w.heap.size, 1, none⟩ = false := AX.free 1; have f2 : w2.frozen? ⟨w.heap.size, 2, none⟩ = false := AX.free 2)
  obtain ⟨-, GR⟩ := store_row AX (cs := [.int .u64 (q : Nat), .int .u64 0, .slice ro 32 rc]) (by kernel_rfl) rfl (fun u hu => by simp only [List.mem_cons, List.not_mem_nil, or_false] at hu; rcases hu with rfl | rfl | rfl <;> rfl)
  have AZ : Arr (w2.setCells w.heap.size 0 [.int .u64 (q : Nat), .int .u64 0, .slice ro 32 rc]) w.heap.size 46 [.int .u64 (q : Nat), .int .u64 0, .slice ro 32 rc] := AX.setAll [.int .u64 (q : Nat), .int .u64 0, .slice ro 32 rc] _ 0 _
  refine bodyPost_ret (v := .agg #[.int .u64 (q : Nat), .int .u64 0, .slice ro 32 rc]) (results_cell_row rfl _ _ w.heap.size 46 _ _ _ rfl AZ (by rfl) (by rfl) (by rfl)) rfl ?_
  have bb := HB1.out.trans (C.mono HB1.out.size)
  have t1 := HLT.out
  have gg : Below w.heap.size w (w2.setCells w.heap.size 0 [.int .u64 (q : Nat), .int .u64 0, .slice ro 32 rc]) := bb.grown GR bb.size (fun j hj => by cases hj; omega)
  exact ⟨ro, 32, rc, rfl, Sl.kept (b := ⟨ro, 32, rc, nullX⟩) S (fun z hz => GR.block z (Sl.blk_lt (b := ⟨ro, 32, rc, nullX⟩) S hz) (fun e => by have := far z hz; have := Option.some.inj e; omega)), gg, fun z hz => by have := far z hz; omega⟩
def okF (f : Int) : Bool := decide (1 ≤ f ∧ f ≤ 4)
def nF (f : Int) (t : Int) : Int := if okF f = true then t * f + 1 else 0
open Go.RowKit
theorem okF_t {f : Int} (h1 : 1 ≤ f) (h4 : f ≤ 4) : okF f = true := decide_eq_true ⟨h1, h4⟩
theorem okF_f {f : Int} (h : ¬ (1 ≤ f ∧ f ≤ 4)) : okF f = false := decide_eq_false h
theorem canBe_any (f : Int) (w : World) : Calls Tryd.prog 34 #[.int .i64 f] w fun e w' => e = .returned (.bool (okF f)) ∧ w' = w := by
  by_cases h1 : 1 ≤ f
  · by_cases h4 : f ≤ 4
    · rw [okF_t h1 h4]
      go_enter Tryd.func34, Tryd.ntmps34
      go_wp2
      go_ret
      exact ⟨rfl, rfl⟩
    · rw [okF_f (by omega)]
      go_enter Tryd.func34, Tryd.ntmps34
      go_wp2
      go_ret
      exact ⟨rfl, rfl⟩
  · rw [okF_f (by omega)]
    go_enter Tryd.func34, Tryd.ntmps34
    go_wp2
    go_ret
    exact ⟨rfl, rfl⟩
theorem nF_f {f : Int} (t : Int) (h : okF f = false) : nF f t = 0 := by unfold nF; rw [if_neg (by rw [h]; simp)]
theorem nF_t {f : Int} (t : Int) (h : okF f = true) : nF f t = t * f + 1 := by unfold nF; rw [if_pos h]
theorem okF_iff {f : Int} : okF f = true ↔ 1 ≤ f ∧ f ≤ 4 := decide_eq_true_iff
theorem ofF_any (f t : Int) (ht : t = 1 ∨ t = 2 ∨ t = 3) (w : World) : Calls Tryd.prog 27 #[.int .i64 f, .int .i64 t] w fun e w' => e = .returned (.int .i64 (nF f t)) ∧ w' = w := by
  have CB := canBe_any f w
  cases hk : okF f with
  | false =>
    rw [nF_f t hk]
    rw [hk] at CB
    clear hk ht
    go_enter Tryd.func27, Tryd.ntmps27
    go_wp2_with (go_at_call 34; refine CB.mono ?_; rintro e w' ⟨rfl, rfl⟩)
    go_ret
    exact ⟨rfl, rfl⟩
  | true =>
    rw [nF_t t hk]
    rw [hk] at CB
    obtain ⟨h1, h4⟩ := okF_iff.1 hk
    clear hk
    rcases ht with rfl | rfl | rfl
    all_goals
      go_enter Tryd.func27, Tryd.ntmps27
      go_wp2_with (go_at_call 34; refine CB.mono ?_; rintro e w' ⟨rfl, rfl⟩)
      go_ret
      exact ⟨by first | rfl | simp, rfl⟩
theorem n_any (f : Int) (w : World) : Calls Tryd.prog 26 #[.int .i64 f] w fun e w' => e = .returned (.int .i64 (nF f 3)) ∧ w' = w := by
  have C := ofF_any f 3 (by omega) w
  go_enter Tryd.func26, Tryd.ntmps26
  go_wp2_with (go_at_call 27; refine C.mono ?_; rintro e w' ⟨rfl, rfl⟩)
  go_ret
  exact ⟨rfl, rfl⟩
theorem most_any (f : Int) (w : World) : Calls Tryd.prog 18 #[.int .i64 f] w fun e w' => e = .returned (.int .i64 (nF f 2)) ∧ w' = w := by
  have C := ofF_any f 2 (by omega) w
  go_enter Tryd.func18, Tryd.ntmps18
  go_wp2_with (go_at_call 27; refine C.mono ?_; rintro e w' ⟨rfl, rfl⟩)
  go_ret
  exact ⟨rfl, rfl⟩
theorem chCan_any (f : Int) (w : World) : Calls Tryd.prog 17 #[.int .i64 f] w fun e w' => e = .returned (.bool (okF f)) ∧ w' = w := by
  have C := n_any f w
  cases hk : okF f with
  | false =>
    rw [nF_f 3 hk] at C
    clear hk
    go_enter Tryd.func17, Tryd.ntmps17
    go_wp2_with (go_at_call 26; refine C.mono ?_; rintro e w' ⟨rfl, rfl⟩)
    go_ret
    exact ⟨rfl, rfl⟩
  | true =>
    rw [nF_t 3 hk] at C
    obtain ⟨h1, h4⟩ := okF_iff.1 hk
    have i1 : ¬ (3 * f + 1 = 0) := by omega
    clear hk
    go_enter Tryd.func17, Tryd.ntmps17
    go_wp2_with (go_at_call 26; refine C.mono ?_; rintro e w' ⟨rfl, rfl⟩)
    go_ret
    exact ⟨by simp [i1], rfl⟩
def isRep (f : Int) (k : Nat) : Bool := decide (1 ≤ k ∧ (k : Int) ≤ nF f 3)
theorem isRep_any (f : Int) (k : Nat) (hk : k < 18446744073709551616) (ho : okF f = true) (w : World) : Calls Tryd.prog 28 #[.int .i64 f, .int .u64 (k : Nat)] w fun e w' => e = .returned (.bool (isRep f k)) ∧ w' = w := by
  have C := n_any f w
  have e3 := nF_t 3 ho
  obtain ⟨h1, h4⟩ := okF_iff.1 ho
  obtain ⟨m, hm⟩ : ∃ m : Nat, nF f 3 = m := ⟨(nF f 3).toNat, by omega⟩
  have hm13 : m ≤ 13 := by omega
  unfold isRep
  rw [hm] at C ⊢
  have mw : IntKind.u64.wrap (m : Int) = (m : Int) := by rw [IntKind.wrap_u64]; omega
  clear e3 hm h1 h4 ho
  by_cases k1 : 1 ≤ k
  · have i1 : (1 : Int) ≤ (k : Int) := by omega
    by_cases k2 : k ≤ m
    · have i2 : (k : Int) ≤ (m : Int) := by omega
      go_enter Tryd.func28, Tryd.ntmps28
      go_wp2_with (go_at_call 26; refine C.mono ?_; rintro e w' ⟨rfl, rfl⟩)
      go_ret
      exact ⟨by rw [decide_eq_true (by omega)] <;> rfl, rfl⟩
    · have i2 : ¬ (k : Int) ≤ (m : Int) := by omega
      go_enter Tryd.func28, Tryd.ntmps28
      go_wp2_with (go_at_call 26; refine C.mono ?_; rintro e w' ⟨rfl, rfl⟩)
      go_ret
      exact ⟨by rw [decide_eq_false (by omega)] <;> rfl, rfl⟩
  · have i1 : ¬ (1 : Int) ≤ (k : Int) := by omega
    go_enter Tryd.func28, Tryd.ntmps28
    go_wp2_with (go_at_call 26; refine C.mono ?_; rintro e w' ⟨rfl, rfl⟩)
    go_ret
    exact ⟨rfl, rfl⟩
open Go.RowKit
def riseC (f : Int) : Nat → List (Nat × Nat × List PA) → Bool
  | _, [] => true
  | last, c :: cs => decide (last < c.1) && (isRep f c.1 && riseC f c.1 cs)
set_option maxRecDepth 100000 in
set_option maxHeartbeats 4000000 in
theorem are_any (w : World) (f : Int) (ho : okF f = true) (ao : Option Addr) (n cap : Nat) (l : List CA) (h : GL elC w ao n cap l) (hn : n ≤ 1000) :
    Calls Tryd.prog 19 #[.int .i64 f, .slice ao n cap] w fun e w' => e = .returned (.bool (riseC f 0 (l.map CA.cv))) ∧ Below w.heap.size w w' := by
  have hl := h.len
  obtain ⟨R, hR⟩ : ∃ R, R = riseC f 0 (l.map CA.cv) := ⟨_, rfl⟩
  rw [← hR]
  have HR : Hid (R = riseC f 0 (l.map CA.cv)) := hR
  clear hR
  go_enter Tryd.func19, Tryd.ntmps19
  go_wp2_with fail
  go_loopw [5, 10] (fun last i wr => ∃ k la : Nat, k ≤ n ∧ i = .int .i64 (k : Nat) ∧ last = .int .u64 (la : Nat) ∧ la < 18446744073709551616 ∧ Hid (R = riseC f la ((l.drop k).map CA.cv)) ∧ Below w.heap.size w wr) (fun _ i _ => n - (intOf i).toNat)
  case atStart => exact ⟨0, 0, Nat.zero_le _, rfl, rfl, by omega, HR, Below.refl _ _⟩
  case round =>
    clear HR
    obtain ⟨k, la, hk, rfl, rfl, hla, HR, B⟩ := hrel
    by_cases hlt : k < n
    · have hki : (k : Int) < (n : Int) := by omega
      obtain ⟨b, off, rfl, hX⟩ := h.atC (by omega)
      have hkx : k < l.length := by omega
      have HX := (hX k hkx).below B
      have hok := h.ok _ (List.getElem_mem hkx)
      have hd : l.drop k = l[k] :: l.drop (k + 1) := List.drop_eq_getElem_cons hkx
      obtain ⟨c, hc⟩ : ∃ c, c = l[k] := ⟨_, rfl⟩
      rw [← hc] at HX hok hd
      have HR2 : Hid (R = (decide (la < c.fr) && (isRep f c.fr && riseC f c.fr ((l.drop (k + 1)).map CA.cv)))) := by
        show _ = _
        rw [HR.out, hd]
        rfl
      obtain ⟨q0, q1, q2, q3⟩ := HX
      have hcf := hok.fr
      obtain ⟨W1, hW1⟩ : ∃ W, W = wr.alloc (.cells #[.int .u64 (c.fr : Nat), .int .u64 (c.low : Nat), .slice c.z.ao c.z.n c.z.cap, .slice c.s.ao c.s.n c.s.cap] 49) := ⟨_, rfl⟩
      have HB : Hid (Below w.heap.size w (wr.alloc (.cells #[.int .u64 (c.fr : Nat), .int .u64 (c.low : Nat), .slice c.z.ao c.z.n c.z.cap, .slice c.s.ao c.s.n c.s.cap] 49))) := B.alloc B.size _
      have CR := isRep_any f c.fr hcf ho (wr.alloc (.cells #[.int .u64 (c.fr : Nat), .int .u64 (c.low : Nat), .slice c.z.ao c.z.n c.z.cap, .slice c.s.ao c.s.n c.s.cap] 49))
      clear hX hc hok hd HR hW1
      by_cases h1 : la < c.fr
      · have i1 : ¬ (c.fr : Int) ≤ (la : Int) := by omega
        cases hr : isRep f c.fr with
        | true =>
          have HR3 : Hid (R = riseC f c.fr ((l.drop (k + 1)).map CA.cv)) := by
            show _ = _
            rw [HR2.out, hr, decide_eq_true h1]
            rfl
          rw [hr] at CR
          clear hr HR2 B
          go_wp2_with (go_at_call 28; refine CR.mono ?_; rintro e w5 ⟨rfl, rfl⟩)
          all_goals (try go_big_round)
          all_goals refine ⟨?_, ?_⟩
          all_goals first
            | exact ⟨k + 1, c.fr, by omega, by go_num, rfl, hcf, HR3, HB.out⟩
            | (simp [intOf]; omega)
        | false =>
          have HR3 : Hid (R = false) := by
            show _ = _
            rw [HR2.out, hr, Bool.false_and, Bool.and_false]
          rw [hr] at CR
          clear hr HR2 B
          go_wp2_with (go_at_call 28; refine CR.mono ?_; rintro e w5 ⟨rfl, rfl⟩)
          go_ret
          exact ⟨by rw [HR3.out] <;> rfl, HB.out⟩
      · have i1 : (c.fr : Int) ≤ (la : Int) := by omega
        have HR3 : Hid (R = false) := by
          show _ = _
          rw [HR2.out, decide_eq_false h1, Bool.false_and]
        clear HR2 B CR
        go_wp2
        go_ret
        exact ⟨by rw [HR3.out] <;> rfl, HB.out⟩
    · have hki : ¬ (k : Int) < (n : Int) := by omega
      have HR3 : Hid (R = true) := by
        show _ = _
        rw [HR.out, List.drop_of_length_le (by omega)]
        rfl
      go_wp2
      go_ret
      exact ⟨by rw [HR3.out] <;> rfl, B⟩
open Go.RowKit
theorem wpList_append_run {P : Program} {w w' : World} {v v' u : Value} {sl : TypeId} {ops : Array Oper} {rest : List Oper} {o : Oper} {a : Act} {Q : Exit → Act → World → Prop} (hgd : o.guard = none) (s x : Operand)
    (ho : o.op = .call { callee := .builtin .append, args := #[s, x], argTypes := #[sl, sl] }) (hs : a.eval s = v) (hx : a.eval x = u) (hr : (Builtin.append_ #[sl, sl] o.type #[v, u]).run P w = .ok v' w')
    (K : wpList P ops Q rest (a.put o.dst v') w') : wpList P ops Q (o :: rest) a w := by
  refine wpList_plain hgd fun K' hK => ?_
  unfold Oper.wp execOp
  simp only [ho, resolve, invoke, builtin, Sem.run_bind, Sem.run_pure, Result.andThen_ok, List.map_toArray, List.map_cons, List.map_nil, hs, hx, hr]
  exact hK _ _ K
theorem wpList_appG {α : Type} {E : El α} (F : E.Fine) {bytes : Nat} {zv : Value} {t sl : TypeId} (hty : GTy E.sz bytes zv t sl) {w : World} {ops : Array Oper} {rest : List Oper} {o : Oper} {a : Act} {Q : Exit → Act → World → Prop} (hgd : o.guard = none) (s x : Operand)
    (ho : o.op = .call { callee := .builtin .append, args := #[s, x], argTypes := #[sl, sl] }) {base : Nat} {v : Value} {ys : List α} (h : GI E t w base v ys) (hs : a.eval s = v) {ad : Addr} {cp : Nat} (hx : a.eval x = .slice (some ad) 1 cp) {y : α}
    (hG : ∀ j u, (E.c y)[j]? = some u → w.cell? (ad.add j) = some u) (he : E.ok y w) (hf : ∀ x, E.blk y x → v.ownBlock ≠ some x) (hn : (ys.length + 1) * bytes ≤ 140737488355328) (hm : ys.length + 1 ≤ maxLen) (hbase : base ≤ w.heap.size)
    (K : ∀ v' w', GI E t w' base v' (ys ++ [y]) → Below base w w' → wpList Tryd.prog ops Q rest (a.put o.dst v') w') : wpList Tryd.prog ops Q (o :: rest) a w := by
  obtain ⟨v', w', hr, h2, h3, _, _⟩ := h.app F hty o.type hG he hf hn hm hbase
  exact wpList_append_run hgd s x ho hs hx hr (K v' w' h2 h3)
open Go.RowKit
theorem pickOf_any (w : World) (M kk : Nat) (F : Value → Option Value) (low q : Nat) (ps : List PA) (hM : MF w 25 M kk F) (hq : q < 18446744073709551616) (hF : FOK low ps F) (hw : low < q ∧ q ≤ low + 8) (hp : ∀ p ∈ ps, p.ok w ∧ p.b.n ≤ 1000000) (hT : Tabs w) :
    Calls Tryd.prog 21 #[.map (some M), .int .u64 (q : Nat)] w (PickOfPost w q (pickV nullX ps q).2.1 (pickV nullX ps q).2.2) := by
  have h1 := hF q hq
  unfold bestW at h1
  rw [if_pos hw] at h1
  unfold pickV
  cases hb : bestP ps q with
  | none =>
    rw [hb] at h1
    exact pickOf_none w M kk F q hM hq h1 hT
  | some p =>
    rw [hb] at h1
    obtain ⟨h2, h3⟩ := hp p (bestP_some ps q p hb).1
    exact pickOf_some w M kk F q p hM hq h1 h2.b h3
def badC (f : Int) (cs : List (Nat × Nat × List PA)) : Bool := !(okF f && (decide (nF f 2 ≤ cs.length) && riseC f 0 cs))
def PickPost (w : World) (f : Int) (l : List CA) (e : Ending) (w' : World) : Prop := Below w.heap.size w w' ∧
  ((badC f (l.map CA.cv) = true ∧ e = .returned (.tuple #[.int .u64 0, .slice none 0 0, .int .i64 1])) ∨
   (badC f (l.map CA.cv) = false ∧ ∃ ao n cap ys, e = .returned (.tuple #[.int .u64 (lowC (l.map CA.cv) : Nat), .slice ao n cap, .int .i64 0]) ∧ GL elP w' ao n cap ys ∧ ys.map PA.pv = picksV nullX (lowC (l.map CA.cv)) (allP (l.map CA.cv))))
def PR (w : World) (low top : Nat) (ps : List PA) (picks sq : Value) (wr : World) : Prop := ∃ (x : Nat) (ys : List PA), low + x ≤ top ∧ sq = .int .u64 ((low + x : Nat) : Int) ∧ GI elP 46 wr w.heap.size picks ys ∧ ys.map PA.pv = (List.range x).map (fun i => pickV nullX ps (low + i + 1)) ∧ Below w.heap.size w wr
theorem PR.mk {w wr : World} {low top : Nat} {ps : List PA} {picks sq : Value} (x : Nat) (ys : List PA) (h1 : low + x ≤ top) (h2 : sq = .int .u64 ((low + x : Nat) : Int)) (h3 : GI elP 46 wr w.heap.size picks ys) (h4 : ys.map PA.pv = (List.range x).map (fun i => pickV nullX ps (low + i + 1))) (h5 : Below w.heap.size w wr) : PR w low top ps picks sq wr := ⟨x, ys, h1, h2, h3, h4, h5⟩
def LR (w : World) (l : List CA) (low i : Value) (wr : World) : Prop := ∃ k : Nat, k ≤ l.length ∧ i = .int .i64 (k : Nat) ∧ low = .int .u64 (lowC ((l.take k).map CA.cv) : Nat) ∧ Below w.heap.size w wr
theorem LR.next {w wr : World} {l : List CA} {low i : Value} (k : Nat) (hk : k < l.length) (hi : i = .int .i64 ((k + 1 : Nat) : Int)) (h : low = .int .u64 (max (lowC ((l.take k).map CA.cv) : Int) (l[k].low : Int))) (hb : Below w.heap.size w wr) : LR w l low i wr := by
  refine ⟨k + 1, hk, hi, ?_, hb⟩
  have e : lowC ((l.take (k + 1)).map CA.cv) = max (lowC ((l.take k).map CA.cv)) l[k].low := by
    rw [List.take_succ_eq_append_getElem hk, List.map_append, List.map_singleton, lowC_snoc]
    rfl
  rw [h, e]
  congr 1
  omega
theorem cv_len (l : List CA) : (l.map CA.cv).length = l.length := List.length_map _
theorem badC_t {f : Int} {cs : List (Nat × Nat × List PA)} (h : okF f = false ∨ ¬ nF f 2 ≤ cs.length ∨ riseC f 0 cs = false) : badC f cs = true := by
  unfold badC
  rcases h with h | h | h
  · rw [h]; rfl
  · rw [decide_eq_false h]; simp
  · rw [h]; simp
theorem badC_f {f : Int} {cs : List (Nat × Nat × List PA)} (h1 : okF f = true) (h2 : nF f 2 ≤ cs.length) (h3 : riseC f 0 cs = true) : badC f cs = false := by
  unfold badC
  rw [h1, decide_eq_true h2, h3]
  rfl
theorem psK_all (l : List CA) : psK l l.length = allP (l.map CA.cv) := by unfold psK; rw [List.take_length]
theorem mem_allP {l : List CA} {p : PA} : p ∈ allP (l.map CA.cv) ↔ ∃ c ∈ l, p ∈ c.s.l := by
  unfold allP
  simp only [List.mem_flatMap, List.mem_map]
  constructor
  · rintro ⟨_, ⟨c, hc, rfl⟩, hp⟩
    exact ⟨c, hc, hp⟩
  · rintro ⟨c, hc, hp⟩
    exact ⟨_, ⟨c, hc, rfl⟩, hp⟩
set_option maxRecDepth 100000 in
set_option maxHeartbeats 8000000 in
theorem pick_any (w : World) (f : Int) (ao : Option Addr) (n cap : Nat) (l : List CA) (h : GL elC w ao n cap l) (hn : n ≤ 1000) (hs : ∀ c ∈ l, c.s.l.length ≤ 1000) (hz : ∀ c ∈ l, ∀ p ∈ c.s.l, p.b.n ≤ 1000000) (hT : Tabs w) :
    Calls Tryd.prog 8 #[.int .i64 f, .slice ao n cap] w (PickPost w f l) := by
  have hl := h.len
  have CB := chCan_any f w
  cases ho : okF f with
  | false =>
    have HB : Hid (badC f (l.map CA.cv) = true) := badC_t (.inl ho)
    rw [ho] at CB
    clear ho
    go_enter Tryd.func8, Tryd.ntmps8
    go_wp2_with (go_at_call 17; refine CB.mono ?_; rintro e w9 ⟨rfl, hw9⟩; replace hw9 := hw9.symm; subst hw9)
    go_ret3
    exact ⟨Below.refl _ _, .inl ⟨HB.out, rfl⟩⟩
  | true =>
    have CM := most_any f w
    rw [ho] at CB
    have e2 := nF_t 2 ho
    obtain ⟨f1, f4⟩ := okF_iff.1 ho
    have HO : Hid (okF f = true) := ho
    obtain ⟨m, hm⟩ : ∃ m, m = nF f 2 := ⟨_, rfl⟩
    rw [← hm] at CM
    have HM : Hid (m = nF f 2) := hm
    by_cases hnm : m ≤ (n : Int)
    · have i1 : ¬ (n : Int) < m := by omega
      have CA_ := are_any w f ho ao n cap l h hn
      cases hr : riseC f 0 (l.map CA.cv) with
      | false =>
        have HB : Hid (badC f (l.map CA.cv) = true) := badC_t (.inr (.inr hr))
        rw [hr] at CA_
        clear ho e2 hm hr
        go_enter Tryd.func8, Tryd.ntmps8
        go_wp2_with (first
          | (go_at_call 17; refine CB.mono ?_; rintro e w9 ⟨rfl, hw9⟩; replace hw9 := hw9.symm; subst hw9)
          | (go_at_call 18; refine CM.mono ?_; rintro e w9 ⟨rfl, hw9⟩; replace hw9 := hw9.symm; subst hw9)
          | (go_at_call 19; refine CA_.mono ?_; rintro e w1 ⟨rfl, E1⟩))
        go_ret3
        exact ⟨E1, .inl ⟨HB.out, rfl⟩⟩
      | true =>
        have HB : Hid (badC f (l.map CA.cv) = false) := badC_f ho (by rw [cv_len, hl, ← hm]; exact hnm) hr
        rw [hr] at CA_
        clear ho e2 hm hr
        go_enter Tryd.func8, Tryd.ntmps8
        go_wp2_with (first
          | (go_at_call 17; refine CB.mono ?_; rintro e w9 ⟨rfl, hw9⟩; replace hw9 := hw9.symm; subst hw9)
          | (go_at_call 18; refine CM.mono ?_; rintro e w9 ⟨rfl, hw9⟩; replace hw9 := hw9.symm; subst hw9)
          | (go_at_call 19; refine CA_.mono ?_; rintro e w1 ⟨rfl, E1⟩))
        have L0 : LR w l (.int .u64 0) (.int .i64 0) w1 := ⟨0, Nat.zero_le _, rfl, rfl, E1⟩
        clear CB CM CA_ E1
        go_loopw [4, 30] (fun low i wr => LR w l low i wr) (fun _ i _ => n - (intOf i).toNat)
        case atStart => exact L0
        case round =>
          clear L0
          obtain ⟨k, hk, rfl, rfl, B⟩ := hrel
          by_cases hlt : k < n
          · have hki : (k : Int) < (n : Int) := by omega
            obtain ⟨b, off, rfl, hX⟩ := h.atC (by omega)
            have hkx : k < l.length := by omega
            have HX := (hX k hkx).below B
            obtain ⟨c, hc⟩ : ∃ c, c = l[k] := ⟨_, rfl⟩
            rw [← hc] at HX
            have HC : Hid (c = l[k]) := hc
            obtain ⟨q0, q1, q2, q3⟩ := HX
            have HBW : Hid (Below w.heap.size w (wr.alloc (.cells #[.int .u64 (c.fr : Nat), .int .u64 (c.low : Nat), .slice c.z.ao c.z.n c.z.cap, .slice c.s.ao c.s.n c.s.cap] 49))) := B.alloc B.size _
            clear hX hc
            go_wp2
            all_goals (try go_big_round)
            all_goals refine ⟨?_, ?_⟩
            all_goals first
              | exact LR.next k hkx (by go_num) (by rw [← HC.out, List.map_take]) HBW.out
              | (simp [intOf]; omega)
          · have hki : ¬ (k : Int) < (n : Int) := by omega
            have et : l.take k = l := List.take_of_length_le (by omega)
            rw [et]
            obtain ⟨low, hlow⟩ : ∃ low, low = lowC (l.map CA.cv) := ⟨_, rfl⟩
            have HL : Hid (low = lowC (l.map CA.cv)) := hlow
            rw [← hlow]
            have hlt64 : low < 18446744073709551616 := by
              rw [hlow]
              refine lowC_lt _ fun c hc => ?_
              obtain ⟨x, hx, rfl⟩ := List.mem_map.1 hc
              exact (h.ok x hx).low
            have CBe := best_any wr low hlt64 ao n cap l (h.below elC_fine B) hn hs
            clear et hlow
            go_wp2_with fail
            refine CBe.mono ?_
            rintro e w3 ⟨F, kk, rfl, M, FK, E3⟩
            have B3 := B.trans (E3.mono B.size)
            have hMl := M.lt
            rw [psK_all] at FK ⊢
            obtain ⟨ps, hps⟩ : ∃ ps, ps = allP (l.map CA.cv) := ⟨_, rfl⟩
            rw [← hps] at FK ⊢
            have hpo : ∀ p ∈ ps, p.ok w ∧ p.b.n ≤ 1000000 := fun p hp => by
              rw [hps] at hp
              obtain ⟨c, hc, hp⟩ := mem_allP.1 hp
              exact ⟨(h.ok c hc).s.ok p hp, hz c hc p hp⟩
            have HPO : Hid (∀ V, Below w.heap.size w V → ∀ p ∈ ps, p.ok V ∧ p.b.n ≤ 1000000) := fun V hV p hp => ⟨elP_fine.below (hpo p hp).1 hV, (hpo p hp).2⟩
            have t1 := topP_le low ps
            have t2 := topP_lt hlt64 ps fun p hp => (hpo p hp).1.sq
            have HPS : Hid (ps = allP (l.map CA.cv)) := hps
            obtain ⟨top, ht⟩ : ∃ t, t = topP low ps := ⟨_, rfl⟩
            rw [← ht] at t1 t2 ⊢
            have HTP : Hid (top = topP low ps) := ht
            have HFK : Hid (FOK low ps F) := FK
            have P0 : PR w3 low top ps (.slice none 0 0) (.int .u64 (low : Nat)) w3 := PR.mk 0 [] (by omega) rfl (GI.nil _ _ _ _) rfl (Below.refl _ _)
            obtain ⟨Mb, hMb⟩ : ∃ b, b = wr.heap.size := ⟨_, rfl⟩
            rw [← hMb] at M hMl ⊢
            clear hpo hps ht FK CBe hMb
            go_wp2_with fail
            go_loopw [5, 11] (fun picks sq wq => PR w3 low top ps picks sq wq) (fun _ sq _ => top - (intOf sq).toNat)
            case atStart => exact P0
            case round =>
              clear P0
              obtain ⟨x, ys, hx, rfl, GR, hys, E⟩ := hrel
              by_cases hxt : low + x < top
              · have i2 : ((low + x : Nat) : Int) < (top : Int) := by omega
                have mw : IntKind.u64.wrap (((low + x : Nat) : Int) + 1) = ((low + x + 1 : Nat) : Int) := by rw [IntKind.wrap_u64]; omega
                have Er := B3.trans (E.mono B3.size)
                have CP := pickOf_any wr Mb kk F low (low + x + 1) ps (M.below E hMl) (by omega) HFK.out (by omega) (HPO.out wr Er) (hT.below Er hT.two)
                obtain ⟨pk, hpk⟩ : ∃ v, v = pickV nullX ps (low + x + 1) := ⟨_, rfl⟩
                have hp1 : pk.1 = low + x + 1 := by
                  rw [hpk]
                  unfold pickV
                  split <;> rfl
                have HPK : Hid (pk = pickV nullX ps (low + x + 1)) := hpk
                rw [← hpk] at CP
                obtain ⟨pq, pw, px⟩ := pk
                have HQ : Hid (pq = low + x + 1) := hp1
                have hyl : ys.length = x := by
                  have := congrArg List.length hys
                  simpa using this
                have HYS : Hid (ys.map PA.pv = (List.range x).map (fun i => pickV nullX ps (low + i + 1))) := hys
                have hpw : pw < 18446744073709551616 := by
                  have e := hpk
                  unfold pickV at e
                  split at e
                  · rename_i p hp
                    have e3 := congrArg (fun t => t.2.1) e
                    have e4 : pw = p.vw := e3
                    have e5 := ((HPO.out wr Er) p (bestP_some ps _ p hp).1).1.vw
                    omega
                  · have e3 := congrArg (fun t => t.2.1) e
                    have e4 : pw = 0 := e3
                    omega
                clear hpk hp1 hys
                go_wp2_with fail
                refine CP.mono ?_
                rintro e w4 ⟨ro, m4, rc, rfl, S4, E4, far4⟩
                have GR5 := (GR.below elP_fine E4).below elP_fine ((Below.refl _ _).alloc (Nat.le_refl _) (.cells #[.int .u64 ((low + x + 1 : Nat) : Int), .int .u64 (pw : Nat), .slice ro m4 rc] 46))
                have B5 : Below w4.heap.size w4 (w4.alloc (.cells #[.int .u64 ((low + x + 1 : Nat) : Int), .int .u64 (pw : Nat), .slice ro m4 rc] 46)) := (Below.refl _ _).alloc (Nat.le_refl _) _
                have E5 := E.trans ((E4.trans (B5.mono E4.size)).mono E.size)
                have hb5 := E5.size
                have A5 : Arr (w4.alloc (.cells #[.int .u64 ((low + x + 1 : Nat) : Int), .int .u64 (pw : Nat), .slice ro m4 rc] 46)) w4.heap.size 46 [.int .u64 ((low + x + 1 : Nat) : Int), .int .u64 (pw : Nat), .slice ro m4 rc] := heap_alloc_new w4 _
                have HG : Hid (∀ j u, (elP.c (⟨low + x + 1, pw, ⟨ro, m4, rc, px⟩⟩ : PA))[j]? = some u → (w4.alloc (.cells #[.int .u64 ((low + x + 1 : Nat) : Int), .int .u64 (pw : Nat), .slice ro m4 rc] 46)).cell? ((⟨w4.heap.size, 0, none⟩ : Addr).add j) = some u) := fun j u hu => by rw [add_at, Nat.zero_add, A5.cell]; exact hu
                have yok5 : elP.ok (⟨low + x + 1, pw, ⟨ro, m4, rc, px⟩⟩ : PA) (w4.alloc (.cells #[.int .u64 ((low + x + 1 : Nat) : Int), .int .u64 (pw : Nat), .slice ro m4 rc] 46)) := ⟨by show low + x + 1 < _; omega, hpw, S4.below B5⟩
                have HF : Hid (∀ z, elP.blk (⟨low + x + 1, pw, ⟨ro, m4, rc, px⟩⟩ : PA) z → Value.ownBlock _ ≠ some z) := fun z hz e => by
                  have h1 := far4 z hz
                  have h2 := (GR.own.lt z e).2
                  omega
                clear GR E4 B5 A5 S4 far4 CP E
                go_wp2_with (refine wpList_appG elP_fine tyP rfl (.tmp 51) (.tmp 55) rfl GR5 rfl rfl HG.out yok5 HF.out (by omega) (by unfold maxLen; omega) hb5 ?_; intro v6 w6 GR6 B6)
                have RL : ∀ sq : Value, sq = .int .u64 ((low + (x + 1) : Nat) : Int) → PR w3 low top ps v6 sq w6 := fun sq hq => PR.mk (x + 1) _ (by omega) hq GR6 (by
                  rw [List.map_append, HYS.out, List.range_succ, List.map_append, List.map_singleton, List.map_singleton, ← HPK.out, ← HQ.out]
                  rfl) (E5.trans B6)
                all_goals (try go_big_round)
                all_goals refine ⟨?_, ?_⟩
                all_goals first
                  | exact RL _ (by go_num)
                  | (simp [intOf]; omega)
              · have i2 : ¬ ((low + x : Nat) : Int) < (top : Int) := by omega
                have hxt : x = top - low := by omega
                obtain ⟨ro, rc, rfl, GF, -⟩ := GR.gl elP_fine
                have HYS : Hid (ys.map PA.pv = picksV nullX low ps) := by
                  show _ = _
                  rw [hys, hxt, HTP.out]
                  rfl
                clear hys GR hxt
                go_wp2
                go_ret3
                refine ⟨B3.trans (E.mono B3.size), .inr ⟨HB.out, ro, ys.length, rc, ys, ?_, GF, ?_⟩⟩
                · rw [← HL.out] <;> rfl
                · rw [← HL.out, ← HPS.out]
                  exact HYS.out
    · have i1 : (n : Int) < m := by omega
      have HB : Hid (badC f (l.map CA.cv) = true) := badC_t (.inr (.inl (by rw [cv_len, hl, ← hm]; exact hnm)))
      clear ho e2 hm
      go_enter Tryd.func8, Tryd.ntmps8
      go_wp2_with (first
        | (go_at_call 17; refine CB.mono ?_; rintro e w9 ⟨rfl, hw9⟩; replace hw9 := hw9.symm; subst hw9)
        | (go_at_call 18; refine CM.mono ?_; rintro e w9 ⟨rfl, hw9⟩; replace hw9 := hw9.symm; subst hw9))
      go_ret3
      exact ⟨Below.refl _ _, .inl ⟨HB.out, rfl⟩⟩
open Go.RowKit
def hasQ (ps : List PA) (q : Nat) : Bool := ps.any fun p => decide (p.sq = q)
def isQ (ps : List PA) (y : PA) : Bool := ps.any fun p => decide (p.sq = y.sq) && (decide (p.vw = y.vw) && decide (p.b.xs = y.b.xs))
def W3 (w : World) (ps l : List PA) (y : PA) (is some i : Value) (wr : World) : Prop := ∃ x : Nat, x ≤ l.length ∧ i = .int .i64 (x : Nat) ∧ is = .bool (isQ (ps ++ l.take x) y) ∧ some = .bool (hasQ (ps ++ l.take x) y.sq) ∧ Below w.heap.size w wr
def W2 (w : World) (l : List CA) (y : PA) (is some i : Value) (wr : World) : Prop := ∃ j : Nat, j ≤ l.length ∧ i = .int .i64 (j : Nat) ∧ is = .bool (isQ (psK l j) y) ∧ some = .bool (hasQ (psK l j) y.sq) ∧ Below w.heap.size w wr
def W1 (w : World) (n : Nat) (i : Value) (wr : World) : Prop := ∃ j : Nat, j ≤ n ∧ i = .int .i64 (j : Nat) ∧ Below w.heap.size w wr
theorem W1.mk {w wr : World} {n : Nat} {i : Value} (j : Nat) (h1 : j ≤ n) (h2 : i = .int .i64 (j : Nat)) (h3 : Below w.heap.size w wr) : W1 w n i wr := ⟨j, h1, h2, h3⟩
theorem own_bounds {ys l : List CA} (h : ys.map CA.cv = l.map CA.cv) (hl : LtC l) (hn : ∀ d ∈ l, d.s.l.length = d.s.n) : (∀ c ∈ ys, c.s.l.length ≤ 1000) ∧ ∀ c ∈ ys, ∀ p ∈ c.s.l, p.b.n ≤ 1000000 := by
  have key : ∀ c ∈ ys, ∃ d ∈ l, c.s.l = d.s.l := fun c hc => by
    have h1 : c.cv ∈ l.map CA.cv := by rw [← h]; exact List.mem_map.2 ⟨c, hc, rfl⟩
    obtain ⟨d, hd, e⟩ := List.mem_map.1 h1
    exact ⟨d, hd, (congrArg (fun t => t.2.2) e).symm⟩
  refine ⟨fun c hc => ?_, fun c hc p hp => ?_⟩ <;> obtain ⟨d, hd, e⟩ := key c hc
  · rw [e, hn d hd]
    have := (hl.2 d hd).1
    omega
  · rw [e] at hp
    have := (hl.2 d hd).2.2 p hp
    omega
open Go.RowKit
theorem rn_any (f : Int) (w : World) : Calls Tryd.prog 22 #[.int .i64 f] w fun e w' => e = .returned (.int .i64 (nF f 3)) ∧ w' = w := by
  by_cases h1 : 1 ≤ f
  · by_cases h4 : f ≤ 4
    · rw [nF_t 3 (okF_t h1 h4)]
      go_enter Tryd.func22, Tryd.ntmps22
      go_wp2
      go_ret
      exact ⟨by first | rfl | simp, rfl⟩
    · rw [nF_f 3 (okF_f (by omega))]
      have h5 : 4 < f := by omega
      go_enter Tryd.func22, Tryd.ntmps22
      go_wp2
      go_ret
      exact ⟨rfl, rfl⟩
  · rw [nF_f 3 (okF_f (by omega))]
    have h5 : f < 1 := by omega
    go_enter Tryd.func22, Tryd.ntmps22
    go_wp2
    go_ret
    exact ⟨rfl, rfl⟩
theorem rmost_any (f : Int) (w : World) : Calls Tryd.prog 23 #[.int .i64 f] w fun e w' => e = .returned (.int .i64 (nF f 2)) ∧ w' = w := by
  by_cases h1 : 1 ≤ f
  · by_cases h4 : f ≤ 4
    · rw [nF_t 2 (okF_t h1 h4)]
      go_enter Tryd.func23, Tryd.ntmps23
      go_wp2
      go_ret
      exact ⟨by first | rfl | simp, rfl⟩
    · rw [nF_f 2 (okF_f (by omega))]
      have h5 : 4 < f := by omega
      go_enter Tryd.func23, Tryd.ntmps23
      go_wp2
      go_ret
      exact ⟨rfl, rfl⟩
  · rw [nF_f 2 (okF_f (by omega))]
    have h5 : f < 1 := by omega
    go_enter Tryd.func23, Tryd.ntmps23
    go_wp2
    go_ret
    exact ⟨rfl, rfl⟩
open Go.RowKit
set_option maxHeartbeats 800000 in
set_option maxRecDepth 100000 in
theorem rUint_any (w : World) (ao : Option Addr) (k cap n : Nat) (xs : List Int) (h : Sl w ao k cap xs) (hr : k + 30 ≤ 140737488355328) (hn : n < 18446744073709551616) :
    Calls Tryd.prog 44 #[.slice ao k cap, .int .u64 n] w fun e w' =>
      ∃ v, e = .returned v ∧ w'.ownsRow w.heap.size 5 1 v (k + (enc n).length) (bv (xs ++ enc n)) ∧ Below w.heap.size w w' := by
  have hA := h.below ((Below.refl w.heap.size w).alloc (Nat.le_refl _) (.cells #[] 5))
  have hO := own_empty w
  go_enter Tryd.func44, Tryd.ntmps44
  go_wp2_with (at_builtin; refine wpList_app rfl _ _ rfl w.heap.size _ _ _ rfl hO _ _ _ _ rfl hA (by omega) (by simp) ?_; intro v1 w1 hown1 hb1)
  have hb : Below w.heap.size w w1 := ((Below.refl w.heap.size w).alloc (Nat.le_refl _) _).trans hb1
  have hlen := enc_length hn
  simp only [Nat.zero_add, List.nil_append] at hown1
  clear hb1 hO hA
  go_loopw [0, 1] (fun b m wr => ∃ (j : Nat) (ys : List Int), m = .int .u64 j ∧ j < 18446744073709551616 ∧ ys ++ enc j = enc n ∧ wr.ownsRow w.heap.size 5 1 b (k + ys.length) (bv (xs ++ ys)) ∧ Below w.heap.size w wr) (fun _ m _ => (intOf m).toNat)
  case atStart => exact ⟨n, [], rfl, hn, rfl, by simpa using hown1, hb⟩
  case round =>
    obtain ⟨m, ys, rfl, hm, hys, hown', hbel⟩ := hrel
    have hp := enc_pos m
    have hy9 : ys.length + (enc m).length ≤ 10 := by have := congrArg List.length hys; simp at this; omega
    have hsz := hbel.size
    have HY : Hid (ys ++ enc m = enc n) := hys
    clear hys
    by_cases hlt : m < 128
    · go_wp2_with (at_builtin; refine wpList_app rfl _ _ rfl w.heap.size _ _ _ rfl (hown'.alloc _) _ _ _ _ rfl (Sl.one wr _ (by omega)) (by omega) (by simp; omega) ?_; intro v2 w2 hown2 hb2)
      have e2 := HY.out
      rw [enc_small hlt] at e2
      have ho : w2.ownsRow w.heap.size 5 1 v2 (k + (enc n).length) (bv (xs ++ enc n)) := by
        rw [← e2, ← List.append_assoc]
        simpa [Nat.add_assoc] using hown2
      have hb3 := (hbel.alloc hsz _).trans hb2
      clear hown2 hb2
      go_ret
      exact ⟨v2, rfl, ho, hb3⟩
    · go_wp2_with (at_builtin; refine wpList_app rfl _ _ rfl w.heap.size _ _ _ rfl (hown'.alloc _) _ _ _ _ rfl (Sl.one wr _ (by omega)) (by omega) (by simp; omega) ?_; intro v2 w2 hown2 hb2)
      have e2 := HY.out
      rw [enc_big (n := m) (by omega) hm] at e2
      have ho : w2.ownsRow w.heap.size 5 1 v2 (k + (ys ++ [((m % 128 + 128 : Nat) : Int)]).length) (bv (xs ++ (ys ++ [((m % 128 + 128 : Nat) : Int)]))) := by
        rw [← List.append_assoc]
        simpa [Nat.add_assoc] using hown2
      have hb3 := (hbel.alloc hsz _).trans hb2
      clear hown2 hb2
      go_wp2
      go_roundw
      case rel => exact ⟨m / 128, ys ++ [((m % 128 + 128 : Nat) : Int)], by go_num, by omega, by rw [← e2]; simp, ho, hb3⟩
      case measure => simp [intOf]; omega
set_option maxHeartbeats 400000 in
theorem rBytes_any (w : World) (ao bo : Option Addr) (n cap m cap2 : Nat) (xs ys : List Int) (h : Sl w ao n cap xs) (h2 : Sl w bo m cap2 ys) (hr : n + m + 60 ≤ 140737488355328) :
    Calls Tryd.prog 62 #[.slice ao n cap, .slice bo m cap2] w fun e w' =>
      ∃ v, e = .returned v ∧ w'.ownsRow w.heap.size 5 1 v (n + (enc m).length + m) (bv (xs ++ enc m ++ ys)) ∧ Below w.heap.size w w' := by
  go_enter Tryd.func62, Tryd.ntmps62
  go_wp2_with fail
  refine (rUint_any w ao n cap m xs h (by omega) (by omega)).mono ?_
  rintro e w1 ⟨v1, rfl, hown1, hb1⟩
  have hs := hb1.size
  have hl := enc_length (n := m) (by omega)
  have h3 := h2.below hb1
  go_wp2_with (at_builtin; refine wpList_app rfl _ _ rfl w.heap.size _ _ _ rfl hown1 _ _ _ _ rfl h3 (by omega) (by omega) ?_; intro v3 w3 hown3 hb3)
  have hb4 := hb1.trans hb3
  clear hb1 hown1 hb3 h3
  go_ret
  exact ⟨v3, rfl, hown3, hb4⟩
end Go.Proofs.YtdcebokfnbgkaaaDoor

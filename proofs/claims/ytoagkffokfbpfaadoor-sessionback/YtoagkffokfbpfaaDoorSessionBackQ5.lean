/-
  Texts in one: SumM, SumOf, Parts, OfM, SeBytes, HRegC, HRegE, HRegG, SeNew, SeFind.
-/
import Derived.Test.YtoagkffokfbpfaaDoorSessionBackQFL
import Derived.Test.YtoagkffokfbpfaaDoorSessionBackQ4
import Derived.Deep.Slices
import Derived.Test.YtoagkffokfbpfaaDoorSessionBackQ1
import Derived.Test.YtoagkffokfbpfaaDoorSessionBackQ0
import Derived.Test.YtoagkffokfbpfaaDoorSessionBackQ3
import Derived.ArgAppend
import Derived.Deep.Upon
import Derived.DataElems
namespace Go.Proofs.YtoagkffokfbpfaaDoor
open Go.RowKit
def b4 (x : Int) : List Int := [x / 16777216 % 256, x / 65536 % 256, x / 256 % 256, x % 256]
def wds (bs : List Int) : List Int := part H0 (AA (bs ++ padL bs.length) ((bs ++ padL bs.length).length / 64)) 8
def sumL (bs : List Int) : List Int := (wds bs).flatMap b4
def outL (X : List Int) (i : Nat) : List Int := (X.take i).flatMap b4
theorem b4_byte (x : Int) : Byt (b4 x) := by
  intro y hy
  simp only [b4, List.mem_cons, List.not_mem_nil, or_false] at hy
  omega
theorem outL_succ (X : List Int) (i : Nat) (h : i < X.length) : outL X (i + 1) = outL X i ++ b4 (X.getD i 0) := by
  have e : X.getD i 0 = X[i] := by simp [List.getD, h]
  unfold outL
  rw [List.take_add_one, List.getElem?_eq_getElem h, List.flatMap_append, e]
  simp only [Option.toList_some, List.flatMap_cons, List.flatMap_nil, List.append_nil]
theorem outL_byte (X : List Int) (i : Nat) : Byt (outL X i) := by
  intro x hx
  simp only [outL, List.mem_flatMap] at hx
  obtain ⟨y, _, hy⟩ := hx
  exact b4_byte y x hy
theorem wds_len (bs : List Int) : (wds bs).length = 8 := part_len _ _ _
theorem outL_all (bs : List Int) : outL (wds bs) 8 = sumL bs := by
  unfold outL sumL
  rw [List.take_of_length_le (by rw [wds_len]; omega)]
theorem sumL_byte (bs : List Int) : Byt (sumL bs) := by rw [← outL_all]; exact outL_byte _ _
theorem z51 : (Tryd.prog.info? 117).map (fun i => (i.zero, i.size)) = some (some (.agg (hv (List.replicate 8 0) (List.replicate 64 0) 0).toArray), 73) := by kernel_rfl
theorem a51 : (Tryd.prog.info? 117).map (·.size) = some 73 := by kernel_rfl
theorem g51 (w : World) : (isAgg 117).run Tryd.prog w = .ok true w := by
  simp [isAgg, run_underlying Tryd.underlying117 w]
theorem hv_len (A B : List Int) (n : Nat) (hA : A.length = 8) (hB : B.length = 64) : (hv A B n).length = 73 := by simp [hv, wv, bv, hA, hB]
theorem hv_one (A B : List Int) (n : Nat) : ∀ u ∈ hv A B n, u.oneCell' = true := by
  intro u hu
  simp only [hv, List.mem_append, List.mem_singleton] at hu
  rcases hu with (hu | hu) | rfl
  · exact wv_one A u hu
  · exact bv_one B u hu
  · rfl
set_option maxRecDepth 100000 in
set_option maxHeartbeats 1000000 in
theorem new_any (w : World) : Calls Tryd.prog 63 #[] w fun e w' => e = .returned (.pointer (some ⟨w.heap.size, 0, none⟩)) ∧ HS w' w.heap.size [] ∧ w.grownBy w' none := by
  go_enter Tryd.func63, Tryd.ntmps63
  go_wp2_with (refine wpList_alloc_named rfl 1 rfl 117 rfl w.heap.size rfl _ 73 z51 ?_; intro w1 a1 s1 g1)
  go_ret
  refine ⟨rfl, ⟨List.replicate 64 0, ⟨?_, by simp [AA], by simp, ?_, by simp⟩, rfl⟩, g1⟩
  · exact a1
  · intro x hx
    obtain ⟨_, rfl⟩ := List.mem_replicate.1 hx
    omega
theorem words_hs (w : World) (p : Nat) (bs : List Int) (hT : Tabs w) (h : HS w p bs) :
    Calls Tryd.prog 79 #[.pointer (some ⟨p, 0, none⟩)] w fun e w' => e = .returned (.agg (wv (part H0 (AA bs (bs.length / 64)) 8)).toArray) ∧ Below w.heap.size w w' := by
  obtain ⟨B, hB, _⟩ := h
  exact words_any w p _ B _ hT hB
set_option maxRecDepth 100000 in
set_option maxHeartbeats 2000000 in
theorem hsum_any (w : World) (p : Nat) (bs : List Int) (hT : Tabs w) (h : HS w p bs) (hl : bs.length + 72 < 18446744073709551616) :
    Calls Tryd.prog 65 #[.pointer (some ⟨p, 0, none⟩)] w fun e w' => ∃ v, e = .returned v ∧ w'.ownsRow w.heap.size 5 1 v 32 (bv (sumL bs)) ∧ Below w.heap.size w w' := by
  obtain ⟨i0, hi, hz0, hz1, hz2⟩ := info_parts u8info
  have h2 := hT.two
  have hp := h.lt
  obtain ⟨B, hB, eB⟩ := h
  obtain ⟨A, hA⟩ : ∃ A, A = AA bs (bs.length / 64) := ⟨_, rfl⟩
  rw [← hA] at hB
  have HA : Hid (A = AA bs (bs.length / 64)) := hA
  clear hA
  go_enter Tryd.func65, Tryd.ntmps65
  go_wp2_with (first
    | (refine wpList_load_cells rfl 117 (Operand.tmp 10) rfl ⟨p, 0, none⟩ rfl (hv A B bs.length) (fun j v hv' => by rw [add_at, Nat.zero_add, Arr.cell hB.heap]; exact hv') g51 (a51.trans (by rw [hv_len _ _ _ hB.lenA hB.lenB])) ?_)
    | (refine wpList_alloc_named rfl 3 rfl 117 rfl w.heap.size rfl _ 73 z51 ?_; intro w1 a1 s1 g1; have B1 : Below w.heap.size w w1 := (Below.refl _ w).grown g1 (Nat.le_refl _) (by simp); clear g1)
    | (refine wpList_store_named rfl 117 (Operand.tmp 3) _ rfl w.heap.size (hv A B bs.length) rfl rfl 117 _ a1 _ s1 (a51.trans (by rw [hv_len _ _ _ hB.lenA hB.lenB])) (by rw [hv_len _ _ _ hB.lenA hB.lenB]; rfl) (hv_one _ _ _) ?_; intro w2 a2 s2 g2; have B2 : Below w.heap.size w w2 := B1.grown g2 (by omega) (by intro k hk; cases hk; omega); have T2 := hT.below B2 h2; have H2 : HS w2 w.heap.size bs := ⟨B, by rw [← HA.out]; exact ⟨a2, hB.lenA, hB.lenB, hB.byte, hB.size⟩, eB⟩; clear g2 a2 B1 a1 s1)
    | (go_at_call 78; refine (pad_any w2 w.heap.size bs T2 H2 h2 hl).mono ?_; rintro e w3 ⟨⟨v, rfl⟩, H3, g3⟩; have B3 : Below w.heap.size w w3 := B2.grown g3 (by omega) (by intro k hk; cases hk; omega); have T3 := hT.below B3 h2; have s3 := g3.size; clear g3 B2 H2 T2)
    | (at_make; refine wpList_make_own _ rfl _ _ 50 rfl w.heap.size 5 i0 (.int .u8 0) 1 Tryd.underlying50 hi hz0 hz1 _ _ _ 32 rfl rfl rfl (by rw [hz2]; decide) (by decide) (by omega) ?_; intro w4 own4 g4; have B4 : Below w.heap.size w w4 := B3.grown g4 (by omega) (by simp); have T4 := hT.below B4 h2; have H4 : HS w4 w.heap.size (bs ++ padL bs.length) := H3.grown g4 (by simp); have s4 := g4.size; clear g4 B3 H3 T3))
  refine (words_hs w4 w.heap.size _ T4 H4).mono ?_
  rintro e w5 ⟨rfl, B5⟩
  have C5 : Below w.heap.size w w5 := B4.trans (B5.mono (by omega))
  have own5 : w5.ownsRow w.heap.size 5 1 (.slice (some ⟨w3.heap.size, 0, none⟩) 0 32) 0 (bv (outL (wds bs) 0)) := own4.kept (bel_grown B5 none) (by simp [Value.ownBlock])
  have eW : part H0 (AA (bs ++ padL bs.length) ((bs ++ padL bs.length).length / 64)) 8 = wds bs := rfl
  rw [eW]
  have hWl := wds_len bs
  have hs5 : w.heap.size ≤ w5.heap.size := C5.size
  generalize Value.slice (some ⟨w3.heap.size, 0, none⟩) 0 32 = v0 at own5
  have HWE : Hid (outL (wds bs) 8 = sumL bs) := outL_all bs
  generalize wds bs = X at own5 hWl HWE
  clear eW B5 B4 T4 H4 own4 hB eB HA s2 s3 s4
  go_wp2
  go_loopw [4, 15] (fun v i wr => ∃ k : Nat, k ≤ 8 ∧ i = .int .i64 k ∧ Below w.heap.size w wr ∧ wr.ownsRow w.heap.size 5 1 v (4 * k) (bv (outL X k))) (fun _ i _ => 8 - (intOf i).toNat)
  case atStart => exact ⟨0, by omega, rfl, C5, own5⟩
  case round =>
    obtain ⟨k, hk, rfl, B6, own6⟩ := hrel
    have hs6 := B6.size
    by_cases hlt : k < 8
    · have hki : (k : Int) < 8 := by omega
      have hx := index48 X k hWl hlt
      obtain ⟨x, hx'⟩ : ∃ x, x = X.getD k 0 := ⟨_, rfl⟩
      have HX : Hid (x = X.getD k 0) := hx'
      rw [← hx'] at hx
      clear hx'
      go_wp2_with (at_builtin; refine wpList_app rfl _ _ rfl w.heap.size _ (4 * k) (outL X k) rfl (own6.alloc _) _ 4 4 (b4 x) rfl (Sl.new wr (b4 x) (b4_byte x) (by simp [b4, maxLen])) (by omega) (by simp; omega) ?_; intro v7 w7 own7 C7)
      go_roundw
      case rel =>
        refine ⟨k + 1, by omega, by go_num, (B6.alloc hs6 _).trans C7, ?_⟩
        rw [outL_succ X k (by omega), ← HX.out, Nat.mul_add]
        exact own7
      case measure => simp [intOf]; omega
    · obtain rfl : k = 8 := by omega
      go_wp2
      go_ret
      refine ⟨_, rfl, ?_, B6⟩
      rw [← HWE.out]
      exact own6
open Go.RowKit
structure Part where
  ao : Option Addr
  n : Nat
  cap : Nat
  xs : List Int
def Part.val (q : Part) : Value := .slice q.ao q.n q.cap
theorem own_base {w : World} {base base' : Nat} {e : TypeId} {size : Nat} {v : Value} {n : Nat} {xs : List Value} (h : w.ownsRow base e size v n xs) (hb : base' ≤ base) : w.ownsRow base' e size v n xs := by
  refine ⟨h.1, ?_⟩
  rcases h.2 with h | ⟨g, cap, cur, h1, h2, h3⟩
  · exact .inl h
  · exact .inr ⟨g, cap, cur, h1, Nat.le_trans hb h2, h3⟩
open Go.RowKit
structure PL (w : World) (ao : Option Addr) (n cap : Nat) (ps : List Part) : Prop where
  len : ps.length = n
  le : n ≤ cap
  mx : cap ≤ maxLen
  nil : ao = none → n = 0
  cell : ∀ a, ao = some a → ∀ i (h : i < ps.length), w.cell? (a.add i) = some ps[i].val
  sl : ∀ q ∈ ps, Sl w q.ao q.n q.cap q.xs
theorem PL.below {w w' : World} {ao : Option Addr} {n cap : Nat} {ps : List Part} (h : PL w ao n cap ps) (hb : Below w.heap.size w w') : PL w' ao n cap ps :=
  ⟨h.len, h.le, h.mx, h.nil, fun a ha i hi => by have hc := h.cell a ha i hi; rw [← hc]; exact hb.cell (World.block_lt_of_cell? w _ hc), fun q hq => (h.sl q hq).below hb⟩
theorem PL.at {w : World} {ao : Option Addr} {n cap : Nat} {ps : List Part} (h : PL w ao n cap ps) (hn : 0 < n) :
    ∃ b off, ao = some ⟨b, off, none⟩ ∧ ∀ i (hi : i < ps.length), w.cell? ⟨b, off + i, none⟩ = some ps[i].val := by
  have hl := h.len
  cases ao with
  | none => have := h.nil rfl; omega
  | some a =>
    obtain ⟨b, off, spot⟩ := a
    have hc := h.cell _ rfl 0 (by omega)
    have hs : spot = none := by simpa [Addr.add] using World.cell?_spot hc
    subst hs
    exact ⟨b, off, rfl, fun i hi => by have := h.cell _ rfl i hi; rw [Addr.add_lit] at this; exact this⟩
open Go.RowKit
def fmP (xs : List (List Int)) : List Int := xs.flatMap fun x => enc x.length ++ x
def formL (s : List Int) (xs : List (List Int)) : List Int := enc s.length ++ s ++ enc xs.length ++ fmP xs
theorem fmP_snoc (xs : List (List Int)) (x : List Int) : fmP (xs ++ [x]) = fmP xs ++ (enc x.length ++ x) := by simp [fmP]
def pxs (ps : List Part) : List (List Int) := ps.map Part.xs
theorem pxs_take (ps : List Part) (k : Nat) (h : k < ps.length) : pxs (ps.take (k + 1)) = pxs (ps.take k) ++ [ps[k].xs] := by
  unfold pxs
  rw [List.take_add_one, List.getElem?_eq_getElem h, List.map_append]
  rfl
theorem pxs_len (ps : List Part) : (pxs ps).length = ps.length := by simp [pxs]
theorem fmP_le (xs : List (List Int)) (B : Nat) (hB : B < 18446744073709551616) (h : ∀ x ∈ xs, x.length ≤ B) : (fmP xs).length ≤ xs.length * (B + 10) := by
  induction xs with
  | nil => simp [fmP]
  | cons x xs ih =>
    have h1 := ih (fun y hy => h y (List.mem_cons_of_mem _ hy))
    have h2 := h x (List.mem_cons_self ..)
    have h3 := enc_length (n := x.length) (by omega)
    have e : fmP (x :: xs) = enc x.length ++ x ++ fmP xs := by simp [fmP]
    rw [e, List.length_append, List.length_append, List.length_cons, Nat.succ_mul]
    omega
set_option maxRecDepth 100000 in
set_option maxHeartbeats 4000000 in
theorem of_any (w : World) (s : ByteArray) (ao : Option Addr) (n cap : Nat) (ps : List Part) (hP : PL w ao n cap ps) (hT : Tabs w) (hs : s.size ≤ 1000000) (hn : n ≤ 1000000) (hq : ∀ q ∈ ps, q.n ≤ 1000000) :
    Calls Tryd.prog 41 #[.string s, .slice ao n cap] w fun e w' => ∃ v, e = .returned v ∧ w'.ownsRow w.heap.size 5 1 v 32 (bv (sumL (formL (sb s) (pxs ps)))) ∧ Below w.heap.size w w' := by
  have h2 := hT.two
  have hl := hP.len
  have hni : (n : Int) ≤ 1000000 := by omega
  have hsl := sb_len s
  have es := enc_length (n := s.size) (by omega)
  have en := enc_length (n := n) (by omega)
  go_enter Tryd.func41, Tryd.ntmps41
  go_wp2_with (first
    | (go_at_call 63; refine (new_any w).mono ?_; rintro e w1 ⟨rfl, H1, g1⟩; have B1 : Below w.heap.size w w1 := (Below.refl _ w).grown g1 (Nat.le_refl _) (by simp); have p1 := H1.lt; clear g1)
    | (refine wpList_conv_bytes rfl (.tmp 10) rfl s rfl (by omega) ?_; intro g2 c2 w2 hg2 S2 C2; have B2 : Below w.heap.size w w2 := B1.trans (C2.mono (by omega)); have H2 := H1.below C2 p1; have s2 := C2.size; clear C2 H1 hg2)
    | (go_at_call 37; refine (wBytes_any w2 none _ 0 0 s.size c2 [] _ (Sl.nothing w2) S2 (by omega)).mono ?_; rintro e w3 ⟨v3, rfl, own3, C3⟩; simp only [List.nil_append, Nat.zero_add] at own3; obtain ⟨fo, fc, rfl, S3, hS3⟩ := Sl.own own3 (Byt.append (enc_byte (by omega)) (sb_byte s)); have B3 : Below w.heap.size w w3 := B2.trans (C3.mono (by omega)); have H3 := H2.below C3 (by omega); have s3 := C3.size; clear C3 own3 H2 S2 B2)
    | (go_at_call 64; refine (add_any w3 w.heap.size [] fo _ fc _ (hT.below B3 h2) H3 h2 S3 (fun a ha _ => by have := (hS3 a ha).1; omega) (by simp; omega)).mono ?_; rintro e w4 ⟨⟨v4, rfl⟩, H4, g4⟩; have B4 : Below w.heap.size w w4 := B3.grown g4 (by omega) (by intro k hk; cases hk; exact Nat.le_refl _); have s4 := g4.size; clear g4 H3 S3 hS3 B3)
    | (go_at_call 36; refine (wUint_any w4 none 0 0 n [] (Sl.nothing w4) (by omega) (by omega)).mono ?_; rintro e w5 ⟨v5, rfl, own5, C5⟩; simp only [List.nil_append, Nat.zero_add] at own5; obtain ⟨uo, uc, rfl, S5, hS5⟩ := Sl.own own5 (enc_byte (by omega)); have B5 : Below w.heap.size w w5 := B4.trans (C5.mono (by omega)); have H5 := H4.below C5 (by omega); have s5 := C5.size; clear C5 own5 H4 B4))
  refine (add_any w5 w.heap.size _ uo _ uc _ (hT.below B5 h2) H5 h2 S5 (fun a ha _ => by have := (hS5 a ha).1; omega) (by simp; omega)).mono ?_
  rintro e w6 ⟨⟨v6, rfl⟩, H6, g6⟩
  have B6 : Below w.heap.size w w6 := B5.grown g6 (by omega) (by intro k hk; cases hk; exact Nat.le_refl _)
  have s6 := g6.size
  clear g6 H5 S5 hS5 B5
  obtain ⟨F, hF⟩ : ∃ F, F = enc s.size ++ sb s ++ enc n := ⟨_, rfl⟩
  have hFl : F.length ≤ 1000020 := by rw [hF]; simp; omega
  have HF : Hid (formL (sb s) (pxs ps) = F ++ fmP (pxs ps)) := by
    show _ = _
    rw [hF, formL, hsl, pxs_len, hl]
  simp only [List.nil_append] at H6
  rw [← hF] at H6
  clear hF hsl es en
  go_wp2_with fail
  go_loopw [22] (fun i wr => ∃ k : Nat, k ≤ n ∧ i = .int .i64 k ∧ Below w.heap.size w wr ∧ w.heap.size < wr.heap.size ∧ HS wr w.heap.size (F ++ fmP (pxs (ps.take k)))) (fun i _ => n - (intOf i).toNat)
  case atStart => exact ⟨0, by omega, rfl, B6, by omega, by simpa [pxs, fmP] using H6⟩
  case round =>
    clear H6 B6
    obtain ⟨k, hk, rfl, B7, t7, H7⟩ := hrel
    have T7 := hT.below B7 h2
    by_cases hlt : k < n
    · have hki : (k : Int) < (n : Int) := by omega
      have hkl : k < ps.length := by omega
      obtain ⟨ab, aof, rfl, hc⟩ := (hP.below B7).at (by omega)
      have c1 := hc k hkl
      have S1 := (hP.below B7).sl ps[k] (List.getElem_mem hkl)
      have HX : Hid (fmP (pxs (ps.take (k + 1))) = fmP (pxs (ps.take k)) ++ (enc ps[k].n ++ ps[k].xs)) := by
        show _ = _
        rw [pxs_take ps k hkl, fmP_snoc, S1.len]
      have hqn := hq ps[k] (List.getElem_mem hkl)
      have hFM : (fmP (pxs (ps.take k))).length ≤ k * (1000000 + 10) := by
        refine Nat.le_trans (fmP_le _ 1000000 (by omega) (fun x hx => ?_)) ?_
        · obtain ⟨q, hq', rfl⟩ := List.mem_map.1 hx
          rw [(hP.sl q (List.mem_of_mem_take hq')).len]
          exact hq q (List.mem_of_mem_take hq')
        · rw [pxs_len, List.length_take]
          exact Nat.mul_le_mul_right _ (by omega)
      obtain ⟨q, hqe⟩ : ∃ q, q = ps[k] := ⟨_, rfl⟩
      rw [← hqe] at c1 S1 HX hqn
      clear hqe hc
      have hql := S1.len
      have hqb := S1.byte
      have eq := enc_length (n := q.n) (by omega)
      unfold Part.val at c1
      go_wp2_with (first
        | (go_at_call 37; refine (wBytes_any wr none q.ao 0 0 q.n q.cap [] q.xs (Sl.nothing wr) S1 (by omega)).mono ?_; rintro e w8 ⟨v8, rfl, own8, C8⟩; simp only [List.nil_append, Nat.zero_add] at own8; obtain ⟨fo, fc, rfl, S8, hS8⟩ := Sl.own own8 (Byt.append (enc_byte (by omega)) hqb); have B8 : Below w.heap.size w w8 := B7.trans (C8.mono (by omega)); have H8 := H7.below C8 (by omega); have s8 := C8.size; clear C8 own8 H7 S1)
        | (go_at_call 64; refine (add_any w8 w.heap.size _ fo _ fc _ (hT.below B8 h2) H8 h2 S8 (fun a ha _ => by have := (hS8 a ha).1; omega) (by simp; omega)).mono ?_; rintro e w9 ⟨⟨v9, rfl⟩, H9, g9⟩; have B9 : Below w.heap.size w w9 := B8.grown g9 (by omega) (by intro k hk; cases hk; exact Nat.le_refl _); have s9 := g9.size; clear g9 H8 S8 hS8 B8))
      go_roundw
      case rel =>
        refine ⟨k + 1, by omega, by go_num, B9, by omega, ?_⟩
        rw [HX.out, ← List.append_assoc F]
        exact H9
      case measure => simp [intOf]; omega
    · have hge : (n : Int) ≤ (k : Int) := by omega
      have e : ps.take k = ps := List.take_of_length_le (by omega)
      rw [e] at H7
      clear e
      have hFM : (fmP (pxs ps)).length ≤ n * (1000000 + 10) := by
        refine Nat.le_trans (fmP_le _ 1000000 (by omega) (fun x hx => ?_)) ?_
        · obtain ⟨q, hq', rfl⟩ := List.mem_map.1 hx
          rw [(hP.sl q hq').len]
          exact hq q hq'
        · rw [pxs_len]
          exact Nat.mul_le_mul_right _ (by omega)
      go_wp2_with (go_at_call 65; refine (hsum_any wr w.heap.size _ T7 H7 (by simp; omega)).mono ?_; rintro e w3 ⟨v, rfl, own3, B3⟩)
      go_ret
      refine ⟨_, rfl, ?_, B7.trans (B3.mono (by omega))⟩
      rw [HF.out]
      exact own_base own3 (by omega)
open Go.RowKit
def bytE (e : EN) : List Int := enc e.cl ++ (enc e.st ++ byts (putR e.r))
def bytT (l : List EN) : List Int := enc l.length ++ (l.map bytE).flatten
theorem bytE_len {e : EN} (h : e.ok) : (bytE e).length ≤ 65600 := by
  have h1 := enc_length h.cl
  have h2 := enc_length h.st
  have h4 := h.len
  have h3 := enc_length (n := (putR e.r).length) (by omega)
  unfold bytE byts
  simp only [List.length_append]
  omega
theorem bytL_len : ∀ {l : List EN}, (∀ e ∈ l, e.ok) → ((l.map bytE).flatten).length ≤ 65600 * l.length
  | [], _ => by simp
  | e :: l, h => by
    have h1 := bytE_len (h e (List.mem_cons_self ..))
    have h2 := bytL_len (l := l) (fun x hx => h x (List.mem_cons_of_mem _ hx))
    simp only [List.map_cons, List.flatten_cons, List.length_append, List.length_cons]
    omega
set_option maxRecDepth 100000 in
set_option maxHeartbeats 4000000 in
theorem cBytes_any (w : World) (p g : Nat) (l : List EN) (h : TS w p g l) :
    Calls Tryd.prog 21 #[.pointer (some ⟨p, 0, none⟩)] w (PutPost w (bytT l)) := by
  have n8 := h.n8
  have n8i : (l.length : Int) ≤ 8 := by omega
  obtain ⟨cp, t0, R0, hcp⟩ := h.tab
  have CU := fUint w none 0 0 l.length [] (Sl.nothing w) (by omega) (by omega)
  go_enter Tryd.func21, Tryd.ntmps21
  go_wp2_with fail
  refine CU.mono ?_
  rintro x w1 ⟨bo, bn, bc, rfl, S1, B1⟩
  have t1 : w1.cell? ⟨p, 0, none⟩ = some (.slice (some ⟨g, 0, none⟩) l.length cp) := (B1.cell (World.block_lt_of_cell? _ _ t0)).trans t0
  have el := enc_length (n := l.length) (by omega)
  clear CU
  go_wp2_with fail
  go_loopw [3, 20] (fun b i wr => ∃ (k : Nat) (bo : Option Addr) (m c : Nat), k ≤ l.length ∧ i = .int .i64 k ∧ b = .slice bo m c ∧ Sl wr bo m c (enc l.length ++ ((l.take k).map bytE).flatten) ∧ Below w.heap.size w wr) (fun _ i _ => l.length - (intOf i).toNat)
  case atStart => exact ⟨0, bo, bn, bc, Nat.zero_le _, rfl, rfl, by simpa using S1, B1⟩
  case round =>
    clear S1 B1 t1
    obtain ⟨k, bo, m, c, hk, rfl, rfl, S, B⟩ := hrel
    have hm := S.len
    have hl := bytL_len (l := l.take k) (fun e he => h.ok e (List.mem_of_mem_take he))
    rw [List.length_append] at hm
    rw [List.length_take] at hl
    by_cases hlt : k < l.length
    · have hki : (k : Int) < (l.length : Int) := by omega
      have R := R0.keep (B.block g R0.lt)
      have q0 := R.cell k hlt 0 _ rfl
      have q1 := R.cell k hlt 1 _ rfl
      have q2 := R.cell k hlt 2 _ rfl
      simp only [Nat.add_zero] at q0
      have hok := h.ok _ (List.getElem_mem hlt)
      have HT : Hid (((l.take (k + 1)).map bytE).flatten = ((l.take k).map bytE).flatten ++ bytE l[k]) := by
        show _ = _
        rw [List.take_succ_eq_append_getElem hlt, List.map_append, List.flatten_append]
        simp
      obtain ⟨e, he⟩ : ∃ e, e = l[k] := ⟨_, rfl⟩
      rw [← he] at q0 q1 q2 hok HT
      clear he R
      have hm2 : m ≤ 800000 := by omega
      have B2 : Below wr.heap.size wr (wr.alloc (.cells #[.int .u64 e.cl, .int .u64 e.st, .string e.an] 66)) := (Below.refl _ _).alloc (Nat.le_refl _) _
      have K2 : (wr.alloc (.cells #[.int .u64 e.cl, .int .u64 e.st, .string e.an] 66)).heap[wr.heap.size]? = some (.cells #[.int .u64 e.cl, .int .u64 e.st, .string e.an] 66) := heap_alloc_new _ _
      have S2 := S.below B2
      have D2 := B.trans (B2.mono B.size)
      go_wp2_with fail
      obtain ⟨w2, hw2⟩ : ∃ W, W = wr.alloc (.cells #[.int .u64 e.cl, .int .u64 e.st, .string e.an] 66) := ⟨_, rfl⟩
      obtain ⟨E, hE⟩ : ∃ E, E = wr.heap.size := ⟨_, rfl⟩
      rw [← hw2] at K2 S2 D2 ⊢
      rw [← hE] at K2 ⊢
      clear hw2 hE B2 S B q0 q1 q2
      have hE2 : E < w2.heap.size := (Array.getElem?_eq_some_iff.1 K2).1
      have l1 := enc_length hok.cl
      have l2 := enc_length hok.st
      have CU := fUint w2 bo m c e.cl _ S2 (by omega) hok.cl
      refine CU.mono ?_
      rintro x w3 ⟨bo3, m3, c3, rfl, S3, C3⟩
      have K3 := (C3.block E hE2).trans K2
      have D3 := D2.trans (C3.mono D2.size)
      have hm3 := S3.len
      simp only [List.length_append] at hm3
      clear CU C3 S2 D2 K2
      have k1 := cell_of_row w3 E 1 _ _ _ K3
      have CU := fUint w3 bo3 m3 c3 e.st _ S3 (by omega) hok.st
      go_wp2_with fail
      refine CU.mono ?_
      rintro x w4 ⟨bo4, m4, c4, rfl, S4, C4⟩
      have K4 := (C4.block E (Array.getElem?_eq_some_iff.1 K3).1).trans K3
      have D4 := D3.trans (C4.mono D3.size)
      have hm4 := S4.len
      simp only [List.length_append] at hm4
      clear CU C4 S3 D3 K3 k1
      have k2 := cell_of_row w4 E 2 _ _ _ K4
      have hsz : e.an.size ≤ 65536 := by
        have := hok.len
        rw [← sb_len, hok.sb]
        exact this
      obtain ⟨a, ha⟩ : ∃ a, a = e.an := ⟨_, rfl⟩
      have HSB : Hid (sb a = putR e.r) := by rw [ha]; exact hok.sb
      rw [← ha] at k2 hsz
      clear ha
      go_wp2_with (refine wpList_conv_bytes rfl (.tmp 34) rfl a rfl (by omega) ?_; intro g5 c5 w5 hg5 S5 C5; clear hg5)
      have T5 := S4.below C5
      have D5 := D4.trans (C5.mono D4.size)
      clear C5 S4 D4 k2
      rw [HSB.out] at S5
      have CB := fBytes w5 bo4 _ m4 c4 _ c5 _ _ T5 S5 (by omega) (by omega)
      refine CB.mono ?_
      rintro x w6 ⟨bo6, m6, c6, rfl, S6, C6⟩
      have D6 := D5.trans (C6.mono D5.size)
      clear CB C6 S5 D5 T5
      go_wp2
      go_roundw
      case rel =>
        refine ⟨k + 1, bo6, m6, c6, by omega, by go_num, rfl, ?_, D6⟩
        rw [HT.out]
        unfold bytE
        simp only [List.append_assoc] at S6 ⊢
        exact S6
      case measure => simp [intOf]; omega
    · have hge : (l.length : Int) ≤ (k : Int) := by omega
      have HT : Hid ((l.take k).map bytE = l.map bytE) := by show _ = _; rw [List.take_of_length_le (by omega)]
      rw [HT.out] at S
      go_wp2
      go_ret
      exact ⟨bo, m, c, rfl, S, B⟩
def sumT (l : List EN) : List Int := sumL (formL (sb ⟨#[115, 101, 115, 115, 105, 111, 110]⟩) [bytT l])
theorem PL.one1 (w : World) (q : Part) (h : Sl w q.ao q.n q.cap q.xs) : PL (w.alloc (.cells #[q.val] 50)) (some ⟨w.heap.size, 0, none⟩) 1 1 [q] := by
  have B : Below w.heap.size w (w.alloc (.cells #[q.val] 50)) := (Below.refl _ w).alloc (Nat.le_refl _) _
  refine ⟨rfl, Nat.le_refl _, by decide, fun h => by simp at h, fun a ha i hi => ?_, fun x hx => ?_⟩
  · obtain rfl := Option.some.inj ha
    obtain rfl : i = 0 := by simpa using hi
    exact cell_one_new _ _ _ 0 _ (by simp)
  · rw [List.mem_singleton.1 hx]
    exact h.below B
theorem cSum_any (w : World) (p g : Nat) (l : List EN) (h : TS w p g l) (hT : Tabs w) :
    Calls Tryd.prog 23 #[.pointer (some ⟨p, 0, none⟩)] w (PutPost w (sumT l)) := by
  have t2 := hT.two
  have n8 := h.n8
  have CB := cBytes_any w p g l h
  have hbl : (bytT l).length ≤ 700000 := by
    have h1 := bytL_len h.ok
    have h2 := enc_length (n := l.length) (by omega)
    unfold bytT
    rw [List.length_append]
    omega
  go_enter Tryd.func23, Tryd.ntmps23
  go_wp2_with fail
  refine CB.mono ?_
  rintro x w1 ⟨bo, m, c, rfl, S1, B1⟩
  have T1 := hT.below B1 t2
  have hm := S1.len
  have B2 : Below w1.heap.size w1 (w1.alloc (.cells #[.slice bo m c] 50)) := (Below.refl _ w1).alloc (Nat.le_refl _) _
  have P2 := PL.one1 w1 ⟨bo, m, c, bytT l⟩ S1
  have D2 := B1.trans (B2.mono B1.size)
  have T2 := T1.below B2 (Nat.le_trans t2 B1.size)
  have CO := of_any _ ⟨#[115, 101, 115, 115, 105, 111, 110]⟩ _ _ _ _ P2 T2 (by decide) (by omega) (fun q hq => by rw [List.mem_singleton.1 hq]; show m ≤ _; omega)
  clear CB B1 S1 T1
  go_wp2_with fail
  refine CO.mono ?_
  rintro x w3 ⟨v, rfl, O, C3⟩
  obtain ⟨ro, rc, rfl, S, -⟩ := Sl.own O (sumL_byte _)
  have D3 := D2.trans (C3.mono D2.size)
  clear CO P2 T2 B2 D2 C3 O
  go_wp2
  go_ret
  exact ⟨ro, 32, rc, rfl, S, D3⟩
end Go.Proofs.YtoagkffokfbpfaaDoor
namespace Go
section
variable {P : Program} {ops : Array Oper} {S : World → Prop} {Q : Exit → Act → World → Prop} {fuel : Nat} {listed : Array Bool} {a : Act} {w : World}
theorem hr_ex (i : Nat) (d : Option Tmp) {oi : Oper} {R : Value → World → Prop} (hi : ops[i]? = some oi) (hd : oi.dst = d) (hr : Region.ready .any ops listed = [i]) (hw : Region.wanted oi (yielded ops a.tmps) = true)
    (hrun : ∃ v w', (execOp a.eval oi).run P w = .ok (.value v) w' ∧ R v w')
    (h : ∀ v w', R v w' → S w' ∧ wpAnyH P .any ops (NoPanic Q) S fuel (listed.setIfInBounds i true) (a.put d v) w') : wpAnyH P .any ops (NoPanic Q) S (fuel + 1) listed a w := by
  refine wpAnyH_all hr (by simp) fun j hj => ?_
  obtain rfl := List.mem_singleton.1 hj
  obtain ⟨v, w', hrun, hR⟩ := hrun
  unfold wpOp
  simp only [hi, hw, if_true, Oper.wp, hrun, Oper.upon, hd]
  exact .inl (h v w' hR)
end
end Go
namespace Go.Proofs.YtoagkffokfbpfaaDoor
open Go.RowKit
end Go.Proofs.YtoagkffokfbpfaaDoor
namespace Go
open Go.RowKit
def EffRun (P : Program) (o : Oper) (a : Act) (w : World) (R : Value → World → Prop) : Prop :=
  (∃ v w', (execOp a.eval o).run P w = .ok (.value v) w' ∧ R v w') ∨
  (∃ f args, (execOp a.eval o).run P w = .ok (.enter f args) w ∧ Calls P f args w fun e w' => ∃ v, e = .returned v ∧ R v w')
end Go
namespace Go
open Go.RowKit
def setL (L : Array Bool) (is : List Nat) : Array Bool := is.foldl (fun L i => L.setIfInBounds i true) L
theorem setL_size (is : List Nat) : ∀ L : Array Bool, (setL L is).size = L.size := by
  induction is with
  | nil => intro L; rfl
  | cons i is ih => intro L; exact (ih _).trans (by simp)
theorem setL_get (is : List Nat) : ∀ (L : Array Bool) (j : Nat), j < L.size → (setL L is).getD j true = (L.getD j true || is.contains j) := by
  induction is with
  | nil => intro L j _; simp [setL]
  | cons i is ih =>
    intro L j hj
    have h := ih (L.setIfInBounds i true) j (by simpa using hj)
    show (setL (L.setIfInBounds i true) is).getD j true = _
    rw [h]
    by_cases hij : i = j
    · subst hij
      have : (L.setIfInBounds i true).getD i true = true := by simp [hj]
      rw [this]
      simp
    · rw [getD_set_ne true hij]
      have : (i :: is).contains j = is.contains j := by
        rw [List.contains_cons, show (j == i) = false by simpa using fun e => hij e.symm, Bool.false_or]
      rw [this]
theorem arr_ext {A B : Array Bool} (hs : A.size = B.size) (h : ∀ j, j < A.size → A.getD j true = B.getD j true) : A = B := by
  refine Array.ext hs fun j h1 h2 => ?_
  have := h j h1
  simpa [h1, h2] using this
def depOk (ops : Array Oper) (L : Array Bool) (i : Nat) : Bool := ((ops[i]?).map (·.after.all fun e => !Region.binds .any e || L.getD e.on false)).getD false
theorem depOk_of {ops : Array Oper} {L : Array Bool} {i : Nat} {o : Oper} (ho : ops[i]? = some o) (h : ∀ e ∈ o.after, Region.binds .any e = true → L.getD e.on false = true) : depOk ops L i = true := by
  simp only [depOk, ho, Option.map_some, Option.getD_some]
  refine Array.all_eq_true_iff_forall_mem.2 fun e he => ?_
  by_cases hb : Region.binds .any e = true
  · rw [h e he hb, Bool.or_true]
  · simp [hb]
theorem getD_set_on {L : Array Bool} {i j : Nat} (h : L.getD j false = true) : (L.setIfInBounds i true).getD j false = true := by
  by_cases hij : i = j
  · subst hij
    by_cases hlt : i < L.size
    · simp [hlt]
    · simp [hlt] at h
  · simp only [Array.getD_eq_getD_getElem?] at h ⊢
    rw [Array.getElem?_setIfInBounds_ne hij]
    exact h
theorem depOk_set {ops : Array Oper} {L : Array Bool} {i j : Nat} (h : depOk ops L i = true) : depOk ops (L.setIfInBounds j true) i = true := by
  cases ho : ops[i]? with
  | none => simp [depOk, ho] at h
  | some o =>
    refine depOk_of ho fun e he hb => ?_
    simp only [depOk, ho, Option.map_some, Option.getD_some] at h
    have := Array.all_eq_true_iff_forall_mem.1 h e he
    rw [hb, Bool.not_true, Bool.false_or] at this
    exact getD_set_on this
def effChk (ops : Array Oper) (all : List Nat) : List Nat → Array Bool → Bool → Bool
  | [], L, sk => !sk || !(all.all fun i => !L.getD i true || depOk ops L i) || (!(Region.ready .any ops L).isEmpty && (Region.ready .any ops L).all fun j => all.contains j)
  | i :: is, L, sk => effChk ops all is (L.setIfInBounds i true) sk && effChk ops all is L true
theorem effChk_spec {ops : Array Oper} {all : List Nat} (c : Nat → Bool) : ∀ (is : List Nat) (L : Array Bool) (sk : Bool), effChk ops all is L sk = true → (sk = true ∨ ∃ i ∈ is, c i = false) → (∀ i ∈ all, (setL L (is.filter c)).getD i true = true → depOk ops (setL L (is.filter c)) i = true) →
    Region.ready .any ops (setL L (is.filter c)) ≠ [] ∧ ∀ j ∈ Region.ready .any ops (setL L (is.filter c)), j ∈ all
  | [], L, sk, h, hs, hcl => by
    rcases hs with rfl | ⟨i, hi, _⟩
    · have hcl' : (all.all fun i => !L.getD i true || depOk ops L i) = true := List.all_eq_true.2 fun i hi => by
        by_cases hL : L.getD i true = true
        · have := hcl i hi hL
          have h2 : depOk ops L i = true := this
          rw [h2, Bool.or_true]
        · have h2 : L.getD i true = false := by simpa using hL
          rw [h2]
          rfl
      simp only [effChk, hcl', Bool.not_true, Bool.false_or, Bool.and_eq_true] at h
      refine ⟨fun e => ?_, fun j hj => ?_⟩
      · have : Region.ready .any ops L = [] := e
        rw [this] at h
        simp at h
      · have := List.all_eq_true.1 h.2 j hj
        simpa using this
    · simp at hi
  | i :: is, L, sk, h, hs, hcl => by
    simp only [effChk, Bool.and_eq_true] at h
    by_cases hc : c i = true
    · rw [List.filter_cons, if_pos hc] at hcl ⊢
      refine effChk_spec c is (L.setIfInBounds i true) sk h.1 ?_ hcl
      rcases hs with hs | ⟨j, hj, hf⟩
      · exact .inl hs
      · rcases List.mem_cons.1 hj with rfl | hj
        · rw [hc] at hf; simp at hf
        · exact .inr ⟨j, hj, hf⟩
    · rw [List.filter_cons, if_neg hc] at hcl ⊢
      exact effChk_spec c is L true h.2 (.inl rfl) hcl
def unC (c : Nat → Bool) : List Nat → Nat
  | [] => 0
  | i :: is => unC c is + (if c i then 0 else 1)
theorem unC_same {c d : Nat → Bool} : ∀ (is : List Nat), (∀ i ∈ is, c i = d i) → unC c is = unC d is
  | [], _ => rfl
  | i :: is, h => by rw [unC, unC, unC_same is (fun j hj => h j (List.mem_cons_of_mem _ hj)), h i (List.mem_cons_self ..)]
theorem unC_set {c : Nat → Bool} {i : Nat} (hc : c i = false) : ∀ (is : List Nat), is.Nodup → i ∈ is → unC c is = unC (fun j => c j || j == i) is + 1
  | [], _, h => by simp at h
  | j :: is, hn, h => by
    have hn' := List.nodup_cons.1 hn
    rw [unC, unC]
    by_cases hji : j = i
    · subst hji
      have := unC_same (c := c) (d := fun k => c k || k == j) is (fun k hk => by
        have hne : k ≠ j := fun e => hn'.1 (e ▸ hk)
        have : (k == j) = false := by simpa using hne
        simp [this])
      rw [← this, hc]
      simp
    · have hi : i ∈ is := by
        rcases List.mem_cons.1 h with h | h
        · exact absurd h.symm hji
        · exact h
      have ih := unC_set hc is hn'.2 hi
      have : (j == i) = false := by simpa using hji
      rw [ih]
      simp only [this, Bool.or_false]
      omega
theorem unC_zero {c : Nat → Bool} : ∀ (is : List Nat), unC c is = 0 → ∀ i ∈ is, c i = true
  | [], _, i, h => by simp at h
  | j :: is, h0, i, h => by
    rw [unC] at h0
    rcases List.mem_cons.1 h with rfl | h
    · by_cases hc : c i = true
      · exact hc
      · rw [if_neg hc] at h0; omega
    · exact unC_zero is (by omega) i h
theorem unC_none : ∀ (is : List Nat), unC (fun _ => false) is = is.length
  | [] => rfl
  | i :: is => by rw [unC, unC_none is]; simp
def putL (a : Act) (f : Nat → Value) (ids : List (Nat × Nat)) : Act := ids.foldl (fun a p => a.put (some p.2) (f p.1)) a
theorem putL_size (f : Nat → Value) (ids : List (Nat × Nat)) : ∀ a : Act, (putL a f ids).tmps.size = a.tmps.size := by
  induction ids with
  | nil => intro a; rfl
  | cons p ids ih => intro a; exact (ih _).trans (by simp [Act.put])
theorem putL_defers (f : Nat → Value) (ids : List (Nat × Nat)) : ∀ a : Act, (putL a f ids).defers = a.defers := by
  induction ids with
  | nil => intro a; rfl
  | cons p ids ih => intro a; exact (ih _).trans rfl
theorem putL_other (f : Nat → Value) (k : Nat) (ids : List (Nat × Nat)) : ∀ a : Act, (∀ p ∈ ids, p.2 ≠ k) → (putL a f ids).tmps[k]? = a.tmps[k]? := by
  induction ids with
  | nil => intro a _; rfl
  | cons p ids ih =>
    intro a h
    have h1 := ih (a.put (some p.2) (f p.1)) (fun q hq => h q (List.mem_cons_of_mem _ hq))
    refine h1.trans ?_
    have hne := h p (List.mem_cons_self ..)
    simp [Act.put, Array.getElem?_setIfInBounds_ne hne]
theorem putL_at (f : Nat → Value) : ∀ (ids : List (Nat × Nat)) (a : Act), (ids.map (·.2)).Nodup → ∀ p ∈ ids, p.2 < a.tmps.size → (putL a f ids).tmps[p.2]? = some (f p.1)
  | [], a, _, p, h, _ => by simp at h
  | q :: ids, a, hn, p, h, hlt => by
    have hn' := List.nodup_cons.1 hn
    rcases List.mem_cons.1 h with rfl | h
    · have h1 := putL_other f p.2 ids (a.put (some p.2) (f p.1)) (fun q hq e => hn'.1 (List.mem_map.2 ⟨q, hq, e⟩))
      refine h1.trans ?_
      simp [Act.put, hlt]
    · exact putL_at f ids (a.put (some q.2) (f q.1)) hn'.2 p h (by simpa [Act.put] using hlt)
def effTo (ops : Array Oper) (L0 : Array Bool) (ids : List (Nat × Nat)) (n : Nat) : Bool :=
  ids.all (fun p => decide (p.2 < n) && !L0.getD p.1 true && (match ops[p.1]? with | some o => o.dst == some p.2 && o.guard.isNone | none => false)) &&
  effChk ops (ids.map (·.1)) (ids.map (·.1)) L0 false && decide (L0.size = ops.size)
def EffGot (ids : List (Nat × Nat)) (F : Nat → Value → World → Prop) (a : Act) (w : World) (j : Nat) : Prop := ∀ p ∈ ids, p.1 = j → ∃ v, a.tmps[p.2]? = some v ∧ F j v w
structure EffKeep (ids : List (Nat × Nat)) (a0 a : Act) : Prop where
  defers : a.defers = a0.defers
  size : a.tmps.size = a0.tmps.size
  same : ∀ k, (∀ p ∈ ids, p.2 ≠ k) → a.tmps[k]? = a0.tmps[k]?
theorem EffKeep.get {ids : List (Nat × Nat)} {a0 a : Act} (h : EffKeep ids a0 a) (k : Nat) {v : Value} (hk : ids.all (fun p => p.2 != k) = true) (h0 : a0.tmps[k]? = some v) : a.tmps[k]? = some v := by
  rw [h.same k (fun p hp => by simpa using List.all_eq_true.1 hk p hp)]
  exact h0
theorem EffGot.at {ids : List (Nat × Nat)} {F : Nat → Value → World → Prop} {a : Act} {w : World} {j : Nat} (h : EffGot ids F a w j) (d : Nat) (hd : ids.contains (j, d) = true) : ∃ v, a.tmps[d]? = some v ∧ F j v w :=
  h (j, d) (by simpa using hd) rfl
theorem wpAnyH_effto {P : Program} {ops : Array Oper} {S : World → Prop} {Q : Exit → Act → World → Prop} {a0 : Act} {W0 : World} {L0 : Array Bool} (m : Nat) (F : Nat → Value → World → Prop) (ids : List (Nat × Nat)) (n : Nat)
    (hok : effTo ops L0 ids n = true) (hn1 : (ids.map (·.1)).Nodup) (hn2 : (ids.map (·.2)).Nodup) (hn : n = a0.tmps.size)
    (mono : ∀ i v w w', F i v w → Below w.heap.size w w' → F i v w')
    (hS : ∀ w, Below W0.heap.size W0 w → S w)
    (step : ∀ p ∈ ids, ∀ o a w, ops[p.1]? = some o → EffKeep ids a0 a → Below W0.heap.size W0 w → (∀ j, o.after.any (fun e => Region.binds .any e && e.on == j) = true → EffGot ids F a w j) → EffRun P o a w (fun v w' => F p.1 v w' ∧ Below w.heap.size w w'))
    (fin : ∀ (f : Nat → Value) w, Below W0.heap.size W0 w → (∀ p ∈ ids, F p.1 (f p.1) w) → wpAnyH P .any ops (NoPanic Q) S m (setL L0 (ids.map (·.1))) (putL a0 f ids) w) :
    wpAnyH P .any ops (NoPanic Q) S (ids.length + m) L0 a0 W0 := by
  simp only [effTo, Bool.and_eq_true, decide_eq_true_eq] at hok
  obtain ⟨⟨hok1, hok2⟩, hLs⟩ := hok
  have hat : ∀ p ∈ ids, p.2 < a0.tmps.size ∧ L0.getD p.1 true = false ∧ ∃ o, ops[p.1]? = some o ∧ o.dst = some p.2 ∧ o.guard = none := fun p hp => by
    have h := List.all_eq_true.1 hok1 p hp
    simp only [Bool.and_eq_true, decide_eq_true_eq, Bool.not_eq_true'] at h
    obtain ⟨⟨h1, h2⟩, h3⟩ := h
    refine ⟨hn ▸ h1, h2, ?_⟩
    cases ho : ops[p.1]? with
    | none => rw [ho] at h3; simp at h3
    | some o =>
      rw [ho] at h3
      simp only [Bool.and_eq_true, beq_iff_eq] at h3
      exact ⟨o, rfl, h3.1, Option.isNone_iff_eq_none.1 h3.2⟩
  have main : ∀ (k : Nat) (c : Nat → Bool) (a : Act) (w : World), unC c (ids.map (·.1)) = k → EffKeep ids a0 a → Below W0.heap.size W0 w → (∀ p ∈ ids, c p.1 = true → ∃ v, a.tmps[p.2]? = some v ∧ F p.1 v w) →
      (∀ i ∈ ids.map (·.1), (setL L0 ((ids.map (·.1)).filter c)).getD i true = true → depOk ops (setL L0 ((ids.map (·.1)).filter c)) i = true) →
      wpAnyH P .any ops (NoPanic Q) S (k + m) (setL L0 ((ids.map (·.1)).filter c)) a w := by
    intro k
    induction k with
    | zero =>
      intro c a w hu hs hb hh _
      have hz := unC_zero _ hu
      have hall : ∀ p ∈ ids, ∃ v, a.tmps[p.2]? = some v ∧ F p.1 v w := fun p hp => hh p hp (hz p.1 (List.mem_map_of_mem hp))
      have hLeq : setL L0 ((ids.map (·.1)).filter c) = setL L0 (ids.map (·.1)) := by rw [List.filter_eq_self.2 hz]
      obtain ⟨f, hf⟩ : ∃ f : Nat → Value, ∀ p ∈ ids, a.tmps[p.2]? = some (f p.1) ∧ F p.1 (f p.1) w := by
        have hch : ∀ j, ∃ v, ∀ p ∈ ids, p.1 = j → a.tmps[p.2]? = some v ∧ F p.1 v w := fun j => by
          by_cases hj : ∃ p ∈ ids, p.1 = j
          · obtain ⟨p, hp, rfl⟩ := hj
            obtain ⟨v, h1, h2⟩ := hall p hp
            refine ⟨v, fun q hq e => ?_⟩
            obtain ⟨-, -, o, ho, hd, -⟩ := hat p hp
            obtain ⟨-, -, o', ho', hd', -⟩ := hat q hq
            rw [e, ho] at ho'
            obtain rfl := Option.some.inj ho'
            have : p.2 = q.2 := Option.some.inj (hd.symm.trans hd')
            rw [← this, e]
            exact ⟨h1, h2⟩
          · exact ⟨undef, fun q hq e => absurd ⟨q, hq, e⟩ hj⟩
        exact ⟨fun j => Classical.choose (hch j), fun p hp => Classical.choose_spec (hch p.1) p hp rfl⟩
      have ha : a = putL a0 f ids := by
        have ht : a.tmps = (putL a0 f ids).tmps := by
          refine Array.ext (by rw [putL_size]; exact hs.size) fun j h1 h2 => ?_
          have : a.tmps[j]? = (putL a0 f ids).tmps[j]? := by
            by_cases hj : ∃ p ∈ ids, p.2 = j
            · obtain ⟨p, hp, rfl⟩ := hj
              rw [(hf p hp).1, putL_at f ids a0 hn2 p hp (hat p hp).1]
            · have hj' : ∀ p ∈ ids, p.2 ≠ j := fun p hp e => hj ⟨p, hp, e⟩
              rw [hs.same j hj', putL_other f j ids a0 hj']
          simpa [h1, h2] using this
        have hd : a.defers = (putL a0 f ids).defers := by rw [putL_defers]; exact hs.defers
        cases a
        cases hp : putL a0 f ids
        rw [hp] at ht hd
        simp only at ht hd
        rw [ht, hd]
      rw [hLeq, ha, Nat.zero_add]
      exact fin f w hb (fun p hp => (hf p hp).2)
    | succ k ih =>
      intro c a w hu hs hb hh hcl
      have hex : ∃ i ∈ ids.map (·.1), c i = false := by
        by_cases h : ∃ i ∈ ids.map (·.1), c i = false
        · exact h
        · exfalso
          have hz : ∀ i ∈ ids.map (·.1), c i = true := fun i hi => by
            by_cases hc : c i = true
            · exact hc
            · exact absurd ⟨i, hi, by simpa using hc⟩ h
          have : unC c (ids.map (·.1)) = unC (fun _ => true) (ids.map (·.1)) := unC_same _ (fun i hi => hz i hi)
          have h0 : ∀ l : List Nat, unC (fun _ => true) l = 0 := fun l => by
            induction l with
            | nil => rfl
            | cons x l ih => rw [unC, ih]; rfl
          rw [hu, h0] at this
          omega
      obtain ⟨hne, hsub⟩ := effChk_spec (ops := ops) (all := ids.map (·.1)) c (ids.map (·.1)) L0 false hok2 (.inr hex) hcl
      have hsz : (setL L0 ((ids.map (·.1)).filter c)).size = ops.size := by rw [setL_size]; exact hLs
      rw [show k + 1 + m = (k + m) + 1 by omega]
      refine ⟨fun h => absurd h hne, fun i hi => ?_⟩
      obtain ⟨p, hp, rfl⟩ := List.mem_map.1 (hsub i hi)
      obtain ⟨h1, o, ho, hdep⟩ := mem_ready.1 hi
      obtain ⟨hdl, hL0, o', ho', hdo, hg⟩ := hat p hp
      rw [ho] at ho'
      obtain rfl := Option.some.inj ho'
      have hlt := (Array.getElem?_eq_some_iff.1 ho).1
      have hci : c p.1 = false := by
        by_cases hc : c p.1 = true
        · exfalso
          rw [setL_get _ _ _ (by omega)] at h1
          have : ((ids.map (·.1)).filter c).contains p.1 = true := by
            simpa using ⟨⟨p.2, hp⟩, hc⟩
          rw [this] at h1
          simp at h1
        · simpa using hc
      have hw : Region.wanted o (yielded ops a.tmps) = true := by simp [Region.wanted, hg]
      have hrun := step p hp o a w ho hs hb (fun j hj q hq hqj => by
        obtain ⟨e, hem, hbj⟩ := Array.any_eq_true'.1 hj
        simp only [Bool.and_eq_true, beq_iff_eq] at hbj
        obtain ⟨hbi, rfl⟩ := hbj
        have h2 := hdep e hem hbi
        obtain ⟨-, hq0, oq, hoq, -⟩ := hat q hq
        have hqlt := (Array.getElem?_eq_some_iff.1 hoq).1
        have h4 : (setL L0 ((ids.map (·.1)).filter c)).getD q.1 true = true := by
          rw [hqj]
          have : e.on < (setL L0 ((ids.map (·.1)).filter c)).size := by rw [hsz, ← hqj]; exact hqlt
          simpa [this] using h2
        rw [setL_get _ _ _ (by omega), hq0, Bool.false_or] at h4
        have h5 : c q.1 = true := by
          have h6 : q.1 ∈ (ids.map (·.1)).filter c := by simpa using h4
          exact (List.mem_filter.1 h6).2
        have := hh q hq h5
        rw [hqj] at this
        exact this)
      have next : ∀ v w', F p.1 v w' ∧ Below w.heap.size w w' → S w' ∧ wpAnyH P .any ops (NoPanic Q) S (k + m) ((setL L0 ((ids.map (·.1)).filter c)).setIfInBounds p.1 true) (a.put (some p.2) v) w' := by
        rintro v w' ⟨hF, hb'⟩
        have hbw := hb.trans (hb'.mono hb.size)
        have htm : (a.put (some p.2) v).tmps = a.tmps.setIfInBounds p.2 v := rfl
        refine ⟨hS w' hbw, ?_⟩
        have hLq : (setL L0 ((ids.map (·.1)).filter c)).setIfInBounds p.1 true = setL L0 ((ids.map (·.1)).filter fun j => c j || j == p.1) := by
          refine arr_ext (by simp [setL_size]) fun j hj => ?_
          have hj' : j < L0.size := by simpa [setL_size] using hj
          rw [setL_get _ _ _ hj']
          by_cases hji : p.1 = j
          · subst hji
            have h7 : ((setL L0 ((ids.map (·.1)).filter c)).setIfInBounds p.1 true).getD p.1 true = true := by
              have : p.1 < (setL L0 ((ids.map (·.1)).filter c)).size := by rw [setL_size]; exact hj'
              simp [this]
            have h8 : ((ids.map (·.1)).filter fun j => c j || j == p.1).contains p.1 = true := by
              rw [List.contains_iff_mem]
              exact List.mem_filter.2 ⟨List.mem_map_of_mem hp, by simp⟩
            rw [h7, h8]
            simp
          · rw [getD_set_ne true hji, setL_get _ _ _ hj']
            congr 1
            have hbe : (j == p.1) = false := by simpa using fun e => hji e.symm
            rw [Bool.eq_iff_iff, List.contains_iff_mem, List.contains_iff_mem, List.mem_filter, List.mem_filter, hbe, Bool.or_false]
        rw [hLq]
        refine ih _ _ _ ?_ ⟨hs.defers, by rw [htm, Array.size_setIfInBounds]; exact hs.size, fun q hq => ?_⟩ hbw (fun q hq hcq => ?_) ?_
        · have := unC_set hci (ids.map (·.1)) hn1 (List.mem_map_of_mem hp)
          omega
        · rw [htm, Array.getElem?_setIfInBounds_ne (hq p hp)]
          exact hs.same q hq
        · by_cases hqp : q.1 = p.1
          · have h9 : q.2 = p.2 := by
              obtain ⟨-, -, oq, hoq, hdq, -⟩ := hat q hq
              rw [hqp, ho] at hoq
              obtain rfl := Option.some.inj hoq
              exact Option.some.inj (hdq.symm.trans hdo)
            rw [hqp, h9]
            refine ⟨v, ?_, hF⟩
            rw [htm, Array.getElem?_setIfInBounds_self_of_lt (by rw [hs.size]; exact hdl)]
          · have hbe : (q.1 == p.1) = false := by simpa using hqp
            have hcq' : c q.1 = true := by simpa [hbe] using hcq
            obtain ⟨v', h1', h2'⟩ := hh q hq hcq'
            refine ⟨v', ?_, mono _ _ _ _ h2' hb'⟩
            have hne : p.2 ≠ q.2 := fun e => hqp (by
              have hinj : ∀ (l : List (Nat × Nat)), (l.map (·.2)).Nodup → ∀ x ∈ l, ∀ y ∈ l, x.2 = y.2 → x = y := by
                intro l
                induction l with
                | nil => intro _ x hx; simp at hx
                | cons z l ihl =>
                  intro hnd x hx y hy exy
                  have hnd' := List.nodup_cons.1 hnd
                  rcases List.mem_cons.1 hx with rfl | hxl
                  · rcases List.mem_cons.1 hy with rfl | hyl
                    · rfl
                    · exact absurd (List.mem_map.2 ⟨y, hyl, exy.symm⟩) hnd'.1
                  · rcases List.mem_cons.1 hy with rfl | hyl
                    · exact absurd (List.mem_map.2 ⟨x, hxl, exy⟩) hnd'.1
                    · exact ihl hnd'.2 x hxl y hyl exy
              rw [hinj ids hn2 q hq p hp e.symm])
            rw [htm, Array.getElem?_setIfInBounds_ne hne]
            exact h1'
        · rw [← hLq]
          intro i hi hiL
          by_cases hip : p.1 = i
          · subst hip
            exact depOk_set (depOk_of ho hdep)
          · rw [getD_set_ne true hip] at hiL
            exact depOk_set (hcl i hi hiL)
      rcases hrun with ⟨v, w', hr, hR⟩ | ⟨f, args, hr, hc⟩
      · unfold wpOp
        simp only [ho, hw, if_true, Oper.wp, hr, Oper.upon, hdo]
        exact .inl (next v w' hR)
      · unfold wpOp
        simp only [ho, hw, if_true, Oper.wp, hr, Oper.upon, hdo]
        refine .inl (hc.mono ?_)
        rintro e w' ⟨v, rfl, hR⟩
        exact next v w' hR
  have h := main (ids.length) (fun _ => false) a0 W0 (by rw [unC_none]; simp) ⟨rfl, rfl, fun _ _ => rfl⟩ (Below.refl _ _) (fun p hp h => by simp at h) (fun i hi hL => by
    exfalso
    obtain ⟨p, hp, rfl⟩ := List.mem_map.1 hi
    rw [List.filter_eq_nil_iff.2 (by simp)] at hL
    have := (hat p hp).2.1
    have h2 : L0.getD p.1 true = true := hL
    rw [this] at h2
    simp at h2)
  have he : setL L0 ((ids.map (·.1)).filter fun _ => false) = L0 := by
    rw [List.filter_eq_nil_iff.2 (by simp)]
    rfl
  rw [he] at h
  exact h
end Go
namespace Go.Proofs.YtoagkffokfbpfaaDoor
open Go.RowKit
def jdg (ns : List Nat) : Int := if 1 ≤ ns.length ∧ ns.length ≤ 8 ∧ riseF 0 ns = true then 0 else 1
set_option maxHeartbeats 1000000 in
theorem judge_any (w : World) (ao : Option Addr) (n cap : Nat) (ns : List Nat) (h : NL w ao n cap ns) :
    Calls Tryd.prog 28 #[.slice ao n cap] w fun e w' => e = .returned (.int .i64 (jdg ns)) ∧ w' = w := by
  have hl := h.len
  by_cases h0 : n = 0
  · have hv : Hid (jdg ns = 1) := by
      show _ = _
      unfold jdg
      rw [if_neg (by omega)]
    subst h0
    go_enter Tryd.func28, Tryd.ntmps28
    go_wp2
    go_ret
    exact ⟨by rw [hv.out] <;> rfl, rfl⟩
  have e0 : ((n : Int) == 0) = false := by simp; omega
  by_cases h1 : 8 < n
  · have hv : Hid (jdg ns = 1) := by
      show _ = _
      unfold jdg
      rw [if_neg (by omega)]
    have e1 : (8 : Int) < (n : Int) := by omega
    go_enter Tryd.func28, Tryd.ntmps28
    go_wp2
    go_ret
    exact ⟨by rw [hv.out] <;> rfl, rfl⟩
  have e1 : decide ((8 : Int) < (n : Int)) = false := by simp; omega
  have HV : Hid (jdg ns = if riseF 0 ns = true then 0 else 1) := by
    show _ = _
    unfold jdg
    by_cases q : riseF 0 ns = true
    · rw [if_pos ⟨by omega, by omega, q⟩, if_pos q]
    · rw [if_neg (fun z => q z.2.2), if_neg q]
  have hn8 : (n : Int) ≤ 8 := by omega
  go_enter Tryd.func28, Tryd.ntmps28
  go_wp2
  go_loopw [3, 16] (fun v i wr => ∃ (k l : Nat), k ≤ n ∧ v = .int .u64 l ∧ i = .int .i64 k ∧ w = wr ∧ Hid (riseF 0 ns = riseF l (ns.drop k)) ∧ l < 18446744073709551616) (fun _ i _ => n - (intOf i).toNat)
  case atStart => exact ⟨0, 0, Nat.zero_le _, rfl, rfl, rfl, rfl, by omega⟩
  case round =>
    obtain ⟨k, l, hk, rfl, rfl, rfl, HR, hl64⟩ := hrel
    by_cases hlt : k < n
    · have hki : (k : Int) < (n : Int) := by omega
      have hkl : k < ns.length := by omega
      obtain ⟨b, off, rfl, hc⟩ := h.at (by omega)
      have c1 := hc k hlt
      have hx64 := h.rng ns[k] (List.getElem_mem hkl)
      have HD : Hid (ns.drop k = ns[k] :: ns.drop (k + 1)) := List.drop_eq_getElem_cons hkl
      have e5 : ns.getD k 0 = ns[k] := by simp [List.getD, hkl]
      rw [e5] at c1
      obtain ⟨x, hx⟩ : ∃ x, x = ns[k] := ⟨_, rfl⟩
      rw [← hx] at c1 HD hx64
      clear hx e5 hc
      by_cases hle : x ≤ l
      · have hlei : (x : Int) ≤ (l : Int) := by omega
        go_wp2
        go_ret
        refine ⟨?_, rfl⟩
        have : riseF 0 ns = false := by
          rw [HR.out, HD.out]
          simp [riseF]
          omega
        rw [HV.out, this]
        rfl
      · have hlei : decide ((x : Int) ≤ (l : Int)) = false := by simp; omega
        go_wp2
        go_roundw
        case rel =>
          refine ⟨k + 1, x, by omega, rfl, by go_num, trivial, ?_, hx64⟩
          show _ = _
          rw [HR.out, HD.out]
          simp [riseF]
          omega
        case measure => simp [intOf]; omega
    · have hge : decide ((k : Int) < (n : Int)) = false := by simp; omega
      go_wp2
      go_ret
      refine ⟨?_, rfl⟩
      have : riseF 0 ns = true := by
        rw [HR.out, List.drop_of_length_le (by omega)]
        rfl
      rw [HV.out, this]
      rfl
theorem noAnswer_any (w : World) : Calls Tryd.prog 29 #[] w fun e w' => e = .returned (.string (strOfNums (putR zRV))) ∧ Below w.heap.size w w' := by
  have CR := presult_any w 0 none 0 0 [] false (CL.nothing w)
  have er : Hid (rightR (resR 0 [] false) = true) := show rightR (resR 0 [] false) = true by decide
  go_enter Tryd.func29, Tryd.ntmps29
  go_wp2_with fail
  refine CR.mono ?_
  rintro e w' ⟨⟨bo, k, c, rfl, S⟩, C⟩
  rw [if_pos er.out] at S
  have cv := conv_str S
  clear CR S
  go_wp2
  go_ret
  exact ⟨rfl, C⟩
theorem cNew_bad (w : World) (ao : Option Addr) (n cap : Nat) (ns : List Nat) (h : NL w ao n cap ns) (hj : jdg ns = 1) :
    Calls Tryd.prog 9 #[.slice ao n cap] w fun e w' => e = .returned (.tuple #[.pointer none, .int .i64 1]) ∧ w' = w := by
  have CJ := judge_any w ao n cap ns h
  rw [hj] at CJ
  go_enter Tryd.func9, Tryd.ntmps9
  go_wp2_with fail
  refine CJ.mono ?_
  rintro e w' ⟨rfl, hw⟩
  obtain rfl := hw.symm
  clear hw CJ
  go_wp2
  go_ret2
  exact ⟨rfl, rfl⟩
def newT (ns : List Nat) : List EN := ns.map fun c => ⟨c, 0, zRV⟩
set_option maxRecDepth 100000 in
set_option maxHeartbeats 4000000 in
theorem cNew_good (w : World) (ao : Option Addr) (n cap : Nat) (ns : List Nat) (h : NL w ao n cap ns) (hj : jdg ns = 0) :
    Calls Tryd.prog 9 #[.slice ao n cap] w fun e w' => ∃ p g, e = .returned (.tuple #[.pointer (some ⟨p, 0, none⟩), .int .i64 0]) ∧ TS w' p g (newT ns) ∧ w.heap.size ≤ p ∧ w.heap.size ≤ g ∧ Below w.heap.size w w' := by
  have CJ := judge_any w ao n cap ns h
  have hl := h.len
  have hb : 1 ≤ ns.length ∧ ns.length ≤ 8 := by
    unfold jdg at hj
    by_cases q : 1 ≤ ns.length ∧ ns.length ≤ 8 ∧ riseF 0 ns = true
    · exact ⟨q.1, q.2.1⟩
    · rw [if_neg q] at hj
      cases hj
  rw [hj] at CJ
  have B0 : Below w.heap.size w (w.alloc (.cells #[.slice none 0 0] 63)) := (Below.refl _ w).alloc (Nat.le_refl _) _
  have N0 : NewI (w.alloc (.cells #[.slice none 0 0] 63)) w.heap.size (.slice none 0 0) (newT (ns.take 0)) := ⟨heap_alloc_new w _, World.ownsRow_nil _ _ _ _, fun _ h => by simp [newT] at h⟩
  go_enter Tryd.func9, Tryd.ntmps9
  go_wp2_with fail
  refine CJ.mono ?_
  rintro e w' ⟨rfl, hw⟩
  obtain rfl := hw.symm
  clear hw CJ
  go_wp2_with fail
  obtain ⟨w1, hw1⟩ : ∃ W, W = w.alloc (.cells #[.slice none 0 0] 63) := ⟨_, rfl⟩
  obtain ⟨p, hp⟩ : ∃ p, p = w.heap.size := ⟨_, rfl⟩
  rw [← hw1] at B0 N0 ⊢
  rw [← hp] at N0 B0 ⊢
  have hpw : w.heap.size ≤ p := Nat.le_of_eq hp.symm
  have HP : Hid (p = w.heap.size) := hp
  clear hw1 hp
  go_loopw [17] (fun i wr => ∃ (k : Nat) (v : Value), k ≤ n ∧ i = .int .i64 k ∧ NewI wr p v (newT (ns.take k)) ∧ Below p w wr) (fun i _ => n - (intOf i).toNat)
  case atStart => exact ⟨0, _, Nat.zero_le _, rfl, N0, B0⟩
  case round =>
    clear N0 B0
    obtain ⟨k, v, hk, rfl, N, B⟩ := hrel
    by_cases hlt : k < n
    · have hki : (k : Int) < (n : Int) := by omega
      have hkl : k < ns.length := by omega
      obtain ⟨b, off, rfl, hc⟩ := (h.below (B.mono (Nat.le_of_eq HP.out.symm))).at (by omega)
      have c1 := hc k hlt
      have e3 : ns.getD k 0 = ns[k] := by simp [List.getD, hkl]
      rw [e3] at c1
      have hx64 := h.rng ns[k] (List.getElem_mem hkl)
      have HT : Hid (newT (ns.take (k + 1)) = newT (ns.take k) ++ [⟨ns[k], 0, zRV⟩]) := by
        show _ = _
        unfold newT
        rw [List.take_add_one, List.getElem?_eq_getElem hkl, List.map_append]
        rfl
      have hlk : (newT (ns.take k)).length ≤ 8 := by simp [newT]; omega
      obtain ⟨x, hx⟩ : ∃ x, x = ns[k] := ⟨_, rfl⟩
      rw [← hx] at c1 hx64 HT
      clear hx hc e3
      obtain ⟨ao, an, ac, rfl⟩ := N.slice
      obtain ⟨v, hv⟩ : ∃ v, v = Value.slice ao an ac := ⟨_, rfl⟩
      rw [← hv] at N
      go_wp2_with fail
      have E0 : Below wr.heap.size wr wr.drew := (Below.refl _ _).drew
      refine wp_region_noPanic ?_
      refine wp_region_held_drew (S := fun _ => True) (by kernel_rfl) trivial (fun _ => ?_)
      obtain ⟨v0, hv0⟩ : ∃ v, v = wr.drew := ⟨_, rfl⟩
      rw [← hv0] at E0 ⊢
      clear hv0
      refine hr_take_w 0 (some 21) (.pointer (some ⟨p, 0, none⟩)) rfl rfl (by kernel_rfl) (by kernel_rfl) (by kernel_rfl) rfl (fun W hW => by go_simp) trivial ?_
      simp only [FL]
      refine hr_take_w 1 (some 22) (.pointer (some ⟨p, 0, none⟩)) rfl rfl (by kernel_rfl) (by kernel_rfl) (by kernel_rfl) rfl (fun W hW => by go_simp) trivial ?_
      simp only [FL]
      refine hr_take_w 2 (some 23) (.pointer (some ⟨p, 0, none⟩)) rfl rfl (by kernel_rfl) (by kernel_rfl) (by kernel_rfl) rfl (fun W hW => by go_simp) trivial ?_
      simp only [FL]
      refine hr_take_w 3 (some 24) (.pointer (some ⟨p, 0, none⟩)) rfl rfl (by kernel_rfl) (by kernel_rfl) (by kernel_rfl) rfl (fun W hW => by go_simp) trivial ?_
      simp only [FL]
      refine hr_take_w 5 (some 26) (.int .u64 x) rfl rfl (by kernel_rfl) (by kernel_rfl) (by kernel_rfl) rfl (fun W hW => by go_simp) trivial ?_
      simp only [FL]
      refine wpAnyH_effto 4 (fun zi zv zw => (zi = 4 → zv = v) ∧ (zi = 6 → zv = .string (EN.an ⟨x, 0, zRV⟩)) ∧ (zi = 7 → zv = .agg #[.int .u64 x, .int .u64 0, .string (EN.an ⟨x, 0, zRV⟩)]) ∧ (zi = 8 → ∃ g1, zv = .slice (some ⟨g1, 0, none⟩) 1 1 ∧ zw.heap[g1]? = some (.cells #[.int .u64 x, .int .u64 0, .string (EN.an ⟨x, 0, zRV⟩)] 66))) [(4, 25), (6, 27), (7, 28), (8, 29)] 35 (by kernel_rfl) (by decide) (by decide) rfl ?_ (fun _ _ => trivial) ?_ ?_
      · intro zi v w w' h hb
        refine ⟨fun e => ?_, fun e => ?_, fun e => ?_, fun e => ?_⟩
        · have h := h.1 e
          exact h
        · have h := h.2.1 e
          exact h
        · have h := h.2.2.1 e
          exact h
        · have h := h.2.2.2 e
          obtain ⟨g1, h1, h2⟩ := h
          exact ⟨g1, h1, (hb.block g1 (Array.getElem?_eq_some_iff.1 h2).1).trans h2⟩
      · intro zp zhi o a w ho hs hb hdep
        have EB := E0.trans (hb.mono E0.size)
        simp only [List.mem_cons, List.not_mem_nil, or_false] at zhi
        rcases zhi with rfl | rfl | rfl | rfl
        · obtain rfl : _ = o := Option.some.inj (show some _ = some o from ho)
          have t24 : a.tmps[24]? = some (.pointer (some ⟨p, 0, none⟩)) := hs.get 24 (by kernel_rfl) rfl
          have lc := cell_of_row w p 0 _ _ _ (N.below EB).tab
          exact .inl ⟨v, w, by go_simp, ⟨fun _ => rfl, fun e => absurd e (by decide), fun e => absurd e (by decide), fun e => absurd e (by decide)⟩, Below.refl _ _⟩
        · obtain rfl : _ = o := Option.some.inj (show some _ = some o from ho)
          refine .inr ⟨29, #[], by go_simp, (noAnswer_any w).mono ?_⟩
          rintro e w' ⟨rfl, C⟩
          exact ⟨_, rfl, ⟨fun e => absurd e (by decide), fun _ => rfl, fun e => absurd e (by decide), fun e => absurd e (by decide)⟩, C⟩
        · obtain rfl : _ = o := Option.some.inj (show some _ = some o from ho)
          have t26 : a.tmps[26]? = some (.int .u64 x) := hs.get 26 (by kernel_rfl) rfl
          obtain ⟨x27, t27, f27⟩ := (hdep 6 (by kernel_rfl)).at 27 (by kernel_rfl)
          replace f27 := f27.2.1 rfl
          subst f27
          exact .inl ⟨_, w, by go_simp, ⟨fun e => absurd e (by decide), fun e => absurd e (by decide), fun _ => rfl, fun e => absurd e (by decide)⟩, Below.refl _ _⟩
        · obtain rfl : _ = o := Option.some.inj (show some _ = some o from ho)
          obtain ⟨x28, t28, f28⟩ := (hdep 7 (by kernel_rfl)).at 28 (by kernel_rfl)
          replace f28 := f28.2.2.1 rfl
          subst f28
          exact .inl ⟨_, _, by go_simp, ⟨fun e => absurd e (by decide), fun e => absurd e (by decide), fun e => absurd e (by decide), fun _ => ⟨_, rfl, heap_alloc_new w _⟩⟩, (Below.refl _ _).alloc (Nat.le_refl _) _⟩
      intro zf v1 hb hh
      have E1 := E0.trans (hb.mono E0.size)
      obtain e4 := (hh (4, 25) (by simp)).1 rfl
      obtain e6 := (hh (6, 27) (by simp)).2.1 rfl
      obtain e7 := (hh (7, 28) (by simp)).2.2.1 rfl
      obtain ⟨g1, e8, G1⟩ := (hh (8, 29) (by simp)).2.2.2 rfl
      clear hh hb
      simp only [putL, List.foldl_cons, List.foldl_nil, e4, e6, e7, e8]
      clear e4 e6 e7 e8
      simp only [FL]
      have N1 := N.below E1
      obtain ⟨v', W1, ha, T1, N2, B2, -, -, ao2, n2, c2, rfl⟩ := N1.app 61 (cp := 1) (e := ⟨x, 0, zRV⟩) G1 (zRV_ok x hx64) (by omega)
      refine hr_ex 9 (some 30) rfl rfl (by kernel_rfl) rfl (R := fun v w' => (.slice ao2 n2 c2) = v ∧ W1 = w') ⟨_, W1, by simp [execOp, Act.eval, resolve, invoke, builtin, ha], rfl, rfl⟩ ?_
      rintro v w' ⟨rfl, rfl⟩
      refine ⟨trivial, ?_⟩
      simp only [FL]
      refine hr_take_w 10 (some 31) (.pointer (some ⟨p, 0, none⟩)) rfl rfl (by kernel_rfl) (by kernel_rfl) (by kernel_rfl) rfl (fun W hW => by go_simp) trivial ?_
      simp only [FL]
      refine hr_take_w 11 (some 32) (.pointer (some ⟨p, 0, none⟩)) rfl rfl (by kernel_rfl) (by kernel_rfl) (by kernel_rfl) rfl (fun W hW => by go_simp) trivial ?_
      simp only [FL]
      have lc := cell_of_row W1 p 0 _ _ _ T1
      have lf := frozen_of_row W1 p 0 _ _ T1
      refine hr_skip 12 none (w' := W1.setCell ⟨p, 0, none⟩ (.slice ao2 n2 c2)) rfl rfl (by kernel_rfl) rfl (by go_simp) trivial ?_
      simp only [Act.put]
      refine wpAnyH_done (by kernel_rfl) ?_ _
      refine NoPanic.normal ?_
      clear lc lf ha T1 N1 G1
      have B3 := B.trans ((E1.mono (Nat.le_of_lt N.plt)).trans B2)
      obtain ⟨W2, hW2⟩ : ∃ W2, W2 = W1.setCell ⟨p, 0, none⟩ (.slice ao2 n2 c2) := ⟨_, rfl⟩
      rw [← hW2] at N2 B3 ⊢
      clear hW2 B2 E1 N B
      go_wp2
      go_roundw
      case rel =>
        refine ⟨k + 1, .slice ao2 n2 c2, by omega, by go_num, ?_, B3⟩
        rw [HT.out]
        exact N2
      case measure => simp [intOf]; omega
    · have hge : decide ((k : Int) < (n : Int)) = false := by simp; omega
      have N9 : NewI wr p v (newT ns) := by rw [List.take_of_length_le (by omega)] at N; exact N
      obtain ⟨g, T, hg⟩ := N9.done (by simp [newT]; omega) (by simp [newT]; omega)
      clear N N9
      go_wp2
      go_ret2
      exact ⟨p, g, rfl, T, by omega, by omega, by rw [← HP.out]; exact B⟩
open Go.RowKit
def fnd (l : List EN) (c : Nat) : Option Nat := l.findIdx? fun e => decide (e.cl = c)
theorem fnd_some {l : List EN} {c k : Nat} (h : fnd l c = some k) : ∃ hk : k < l.length, (l[k]).cl = c := by
  unfold fnd at h
  obtain ⟨hk, h1, _⟩ := List.findIdx?_eq_some_iff_getElem.1 h
  exact ⟨hk, by simpa using h1⟩
def FxPost (l : List EN) (c : Nat) (r : Int) : Prop := (r = -1 ∧ fnd l c = none) ∨ ∃ k : Nat, r = k ∧ fnd l c = some k
theorem find1_tells (W : World) (cb : Nat) (c : Nat) (e : EN) (h : W.cell? ⟨cb, 0, none⟩ = some (.int .u64 c)) :
    Calls Tryd.prog 54 #[.agg #[.int .u64 e.cl, .int .u64 e.st, .string e.an], .pointer (some ⟨cb, 0, none⟩)] W fun x W' => x = .returned (.bool (decide (e.cl = c))) ∧ Below W.heap.size W W' := by
  have hlt : cb < W.heap.size := World.block_lt_of_cell? _ _ h
  have h1 : (W.alloc (.cells #[.int .u64 e.cl, .int .u64 e.st, .string e.an] 66)).cell? ⟨cb, 0, none⟩ = some (.int .u64 c) := (((Below.refl _ W).alloc (Nat.le_refl _) _).cell (p := ⟨cb, 0, none⟩) hlt).trans h
  by_cases q : e.cl = c
  · have i1 : ((e.cl : Int) == (c : Int)) = true := by simp; omega
    have hv : Hid (decide (e.cl = c) = true) := decide_eq_true q
    clear q
    go_enter Tryd.func54, Tryd.ntmps54
    go_wp2
    go_ret
    exact ⟨by rw [hv.out] <;> rfl, (Below.refl _ _).alloc (Nat.le_refl _) _⟩
  · have i1 : ((e.cl : Int) == (c : Int)) = false := by simp; omega
    have hv : Hid (decide (e.cl = c) = false) := decide_eq_false q
    clear q
    go_enter Tryd.func54, Tryd.ntmps54
    go_wp2
    go_ret
    exact ⟨by rw [hv.out] <;> rfl, (Below.refl _ _).alloc (Nat.le_refl _) _⟩
theorem fnd_take {l : List EN} {c k : Nat} (hk : k < l.length) (h : (l.take k).any (fun e => decide (e.cl = c)) = false) (hc : l[k].cl = c) : fnd l c = some k := by
  unfold fnd
  refine List.findIdx?_eq_some_iff_getElem.2 ⟨hk, by simpa using hc, fun j hj => ?_⟩
  have := List.any_eq_false.1 h l[j] (List.mem_iff_getElem.2 ⟨j, by rw [List.length_take]; omega, by rw [List.getElem_take]⟩)
  simpa using this
theorem fnd_none {l : List EN} {c : Nat} (h : l.any (fun e => decide (e.cl = c)) = false) : fnd l c = none := by
  unfold fnd
  refine List.findIdx?_eq_none_iff.2 fun x hx => ?_
  have := List.any_eq_false.1 h x hx
  simpa using this
set_option maxHeartbeats 2000000 in
set_option maxRecDepth 100000 in
theorem eindex_any (w : World) (g cap cb c : Nat) (l : List EN) (h : ER w g cap l) (hn : l.length ≤ 8) (hcb : w.cell? ⟨cb, 0, none⟩ = some (.int .u64 c)) :
    Calls Tryd.prog 53 #[.slice (some ⟨g, 0, none⟩) l.length cap, .func (.func 54) #[] #[.pointer (some ⟨cb, 0, none⟩)]] w fun e w' => ∃ r, e = .returned (.int .i64 r) ∧ FxPost l c r ∧ Below w.heap.size w w' := by
  have hni : (l.length : Int) ≤ 8 := by omega
  have hcl : cb < w.heap.size := World.block_lt_of_cell? _ _ hcb
  go_enter Tryd.func53, Tryd.ntmps53
  go_wp2
  go_loopw [8] (fun i wr => ∃ k : Nat, k ≤ l.length ∧ i = .int .i64 k ∧ Hid ((l.take k).any (fun e => decide (e.cl = c)) = false) ∧ Below w.heap.size w wr) (fun i _ => l.length - (intOf i).toNat)
  case atStart => exact ⟨0, Nat.zero_le _, rfl, rfl, Below.refl _ _⟩
  case round =>
    obtain ⟨k, hk, rfl, HA, B0⟩ := hrel
    by_cases hlt : k < l.length
    · have hki : (k : Int) < (l.length : Int) := by omega
      have R := h.keep (B0.block g h.lt)
      have q0 := R.cell k hlt 0 _ rfl
      have q1 := R.cell k hlt 1 _ rfl
      have q2 := R.cell k hlt 2 _ rfl
      have CH := find1_tells wr cb c l[k] ((B0.cell (p := ⟨cb, 0, none⟩) hcl).trans hcb)
      have HTK : Hid ((l.take (k + 1)).any (fun e => decide (e.cl = c)) = decide (l[k].cl = c)) := by
        show _ = _
        rw [List.take_succ_eq_append_getElem hlt, List.any_append, HA.out]
        simp
      have HFK : Hid (l[k].cl = c → fnd l c = some k) := fun e => fnd_take hlt HA.out e
      obtain ⟨e, hce⟩ : ∃ e, e = l[k] := ⟨_, rfl⟩
      rw [← hce] at q0 q1 q2 CH HTK HFK
      clear hce R
      simp only [Nat.add_zero] at q0
      go_wp2_with fail
      refine CH.mono ?_
      rintro x w2 ⟨rfl, C2⟩
      have B2 := B0.trans (C2.mono B0.size)
      clear CH q0 q1 q2
      by_cases hp : e.cl = c
      · rw [decide_eq_true hp]
        have HA2 : Hid (fnd l c = some k) := HFK.out hp
        clear hp HFK HTK
        go_wp2
        go_ret
        exact ⟨(k : Int), rfl, .inr ⟨k, rfl, HA2.out⟩, B2⟩
      · rw [decide_eq_false hp]
        have HA2 : Hid ((l.take (k + 1)).any (fun e => decide (e.cl = c)) = false) := by show _ = _; rw [HTK.out, decide_eq_false hp]
        clear hp HFK HTK
        go_wp2
        go_roundw
        case rel => exact ⟨k + 1, by omega, by go_num, HA2, B2⟩
        case measure => simp [intOf]; omega
    · have hge : ¬ (k : Int) < (l.length : Int) := by omega
      have HA2 : Hid (fnd l c = none) := by
        show _ = _
        refine fnd_none ?_
        rw [← HA.out, List.take_of_length_le (by omega)]
      go_wp2
      go_ret
      exact ⟨-1, rfl, .inl ⟨rfl, HA2.out⟩, B0⟩
theorem find_any (w : World) (p g c : Nat) (l : List EN) (h : TS w p g l) :
    Calls Tryd.prog 33 #[.pointer (some ⟨p, 0, none⟩), .int .u64 c] w fun e w' => ∃ r, e = .returned (.int .i64 r) ∧ FxPost l c r ∧ Below w.heap.size w w' := by
  have B : Below w.heap.size w (w.alloc (.cells #[.int .u64 c] 34)) := (Below.refl _ w).alloc (Nat.le_refl _) _
  have h1 := h.below B
  obtain ⟨cap, t0, R, _⟩ := h1.tab
  have hcb : (w.alloc (.cells #[.int .u64 c] 34)).cell? ⟨w.heap.size, 0, none⟩ = some (.int .u64 c) := cell_one_new _ _ _ 0 _ (by simp)
  have CI := eindex_any _ g cap w.heap.size c l R h.n8 hcb
  clear R h h1
  go_enter Tryd.func33, Tryd.ntmps33
  go_wp2_with fail
  refine CI.mono ?_
  rintro e w2 ⟨r, rfl, hr, C2⟩
  have B2 := B.trans (C2.mono B.size)
  clear CI t0 hcb
  go_wp2
  go_ret
  exact ⟨r, rfl, hr, B2⟩
end Go.Proofs.YtoagkffokfbpfaaDoor

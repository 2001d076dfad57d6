/-
  Texts in one: SeLight, OfM, SeBytes, Same, Take, AppR, State, Meth, RUint, RMore, RBytes, RBytesB, POr2, RLink, Thr, PText, RdOr, KeyT, Read, HRegB, BsBlk, PRdRM, PRdR.
-/
import Derived.Test.YtoagkffokfbpfaaDoorSessionOrderQFL
import Derived.Test.YtoagkffokfbpfaaDoorSessionOrderQ5
import Derived.Test.YtoagkffokfbpfaaDoorSessionOrderQ6
import Derived.Test.YtoagkffokfbpfaaDoorSessionOrderQ1
import Derived.Test.YtoagkffokfbpfaaDoorSessionOrderQ0
import Derived.Test.YtoagkffokfbpfaaDoorSessionOrderQ3
import Derived.Deep.QuietTactic
import Derived.BigQuiet
import Derived.Test.YtoagkffokfbpfaaDoorSessionOrderQ4
namespace Go.Proofs.YtoagkffokfbpfaaDoor
open Go.RowKit
structure LX (V : World) (b p : Nat) (y : LA) : Prop where
  c0 : V.cell? ⟨b, p, none⟩ = some (.int .u64 y.cl)
  c1 : V.cell? ⟨b, p + 1, none⟩ = some (.int .u64 y.st)
  c2 : V.cell? ⟨b, p + 2, none⟩ = some (.int .i64 y.e)
  c3 : V.cell? ⟨b, p + 3, none⟩ = some (.slice y.ao y.n y.cap)
  c4 : V.cell? ⟨b, p + 4, none⟩ = some (.bool y.m)
theorem LX.below {V V' : World} {b p : Nat} {y : LA} (h : LX V b p y) (hb : Below V.heap.size V V') : LX V' b p y :=
  have k : ∀ a v, V.cell? a = some v → V'.cell? a = some v := fun _ _ hc => (hb.cell (World.block_lt_of_cell? V _ hc)).trans hc
  ⟨k _ _ h.c0, k _ _ h.c1, k _ _ h.c2, k _ _ h.c3, k _ _ h.c4⟩
theorem LL12.at {w : World} {ao : Option Addr} {n cap : Nat} {l : List LA} (h : LL12 w ao n cap l) (hn : 0 < n) :
    ∃ b off, ao = some ⟨b, off, none⟩ ∧ ∀ i (hi : i < l.length), LX w b (off + i * 5) l[i] := by
  have hl := h.len
  cases ao with
  | none => have := (h.nil rfl).1; omega
  | some a =>
    obtain ⟨b, off, spot⟩ := a
    have hc := h.cell _ rfl 0 (by omega) 0 _ rfl
    have hs : spot = none := by simpa [Addr.add] using World.cell?_spot hc
    subst hs
    refine ⟨b, off, rfl, fun i hi => ?_⟩
    have k : ∀ j v, l[i].cells[j]? = some v → w.cell? ⟨b, off + i * 5 + j, none⟩ = some v := fun j v hv => by
      have := h.cell _ rfl i hi j v hv
      rw [Addr.add_lit] at this
      rw [Nat.add_assoc]
      exact this
    exact ⟨k 0 _ rfl, k 1 _ rfl, k 2 _ rfl, k 3 _ rfl, k 4 _ rfl⟩
def lightL (l : List LA) : Bool := decide (l.length ≤ 40) && l.all fun y => cellsB y.cs 70
set_option maxRecDepth 100000 in
set_option maxHeartbeats 2000000 in
theorem llight_any (w : World) (ao : Option Addr) (n cap : Nat) (l : List LA) (h : LL12 w ao n cap l) (hsm : ∀ y ∈ l, y.small) :
    Calls Tryd.prog 7 #[.slice ao n cap] w fun e w' => e = .returned (.bool (lightL l)) ∧ Below w.heap.size w w' := by
  have hl := h.len
  have hmx := h.mx
  have hle := h.le
  have hnx : (n : Int) ≤ 9223372036854775807 := by unfold maxLen at hmx; omega
  by_cases hm : 40 < n
  · have i1 : (40 : Int) < (n : Int) := by omega
    have hv : Hid (lightL l = false) := by
      show _ = _
      unfold lightL
      rw [decide_eq_false (by omega), Bool.false_and]
    go_enter Tryd.func7, Tryd.ntmps7
    go_wp2
    go_ret
    exact ⟨by rw [hv.out] <;> rfl, Below.refl _ _⟩
  have i1 : (n : Int) ≤ 40 := by omega
  have HV : Hid (lightL l = l.all fun y => cellsB y.cs 70) := by
    show _ = _
    unfold lightL
    rw [decide_eq_true (by omega), Bool.true_and]
  have HS : Hid (∀ y ∈ l, y.small) := hsm
  clear hsm hm
  go_enter Tryd.func7, Tryd.ntmps7
  go_wp2
  go_loopw [3] (fun i wr => ∃ k : Nat, k ≤ n ∧ i = .int .i64 k ∧ Hid ((l.take k).all (fun y => cellsB y.cs 70) = true) ∧ Below w.heap.size w wr) (fun i _ => n - (intOf i).toNat)
  case atStart => exact ⟨0, Nat.zero_le _, rfl, rfl, Below.refl _ _⟩
  case round =>
    obtain ⟨k, hk, rfl, HA, B⟩ := hrel
    by_cases hlt : k < n
    · have hki : (k : Int) < (n : Int) := by omega
      have hkl : k < l.length := by omega
      obtain ⟨b, off, rfl, hc⟩ := h.at (by omega)
      have c3 := ((hc k hkl).below B).c3
      have CC := lcells_any wr _ _ _ _ 70 ((h.ok _ (List.getElem_mem hkl)).cs.below B) (HS.out _ (List.getElem_mem hkl))
      have HT : Hid ((l.take (k + 1)).all (fun y => cellsB y.cs 70) = cellsB l[k].cs 70) := by
        show _ = _
        exact all_take_succ (fun y : LA => cellsB y.cs 70) hkl HA.out
      have HB : Hid (cellsB l[k].cs 70 = false → lightL l = false) := fun q => by
        rw [HV.out, List.all_eq_false]
        exact ⟨_, List.getElem_mem hkl, by rw [q]; simp⟩
      obtain ⟨y, hy⟩ : ∃ y, y = l[k] := ⟨_, rfl⟩
      rw [← hy] at c3 CC HT HB
      clear hy hc
      go_wp2_with fail
      refine CC.mono ?_
      rintro x w2 ⟨rfl, C2⟩
      have B2 := B.trans (C2.mono B.size)
      clear CC C2 B c3
      cases hcb : cellsB y.cs 70 with
      | false =>
        have HV2 : Hid (lightL l = false) := HB.out hcb
        clear hcb HT HB
        go_wp2
        go_ret
        exact ⟨by rw [HV2.out] <;> rfl, B2⟩
      | true =>
        have HA2 : Hid ((l.take (k + 1)).all (fun y => cellsB y.cs 70) = true) := by show _ = _; rw [HT.out, hcb]
        clear hcb HT HB
        go_wp2
        go_roundw
        case rel => exact ⟨k + 1, by omega, by go_num, HA2, B2⟩
        case measure => simp [intOf]; omega
    · have hge : (n : Int) ≤ (k : Int) := by omega
      have HV2 : Hid (lightL l = true) := by
        show _ = _
        rw [HV.out, ← HA.out, List.take_of_length_le (by omega)]
      go_wp2
      go_ret
      exact ⟨by rw [HV2.out] <;> rfl, B⟩
open Go.RowKit
def fmP (xs : List (List Int)) : List Int := xs.flatMap fun x => enc x.length ++ x
def formL (s : List Int) (xs : List (List Int)) : List Int := enc s.length ++ s ++ enc xs.length ++ fmP xs
theorem fmP_snoc (xs : List (List Int)) (x : List Int) : fmP (xs ++ [x]) = fmP xs ++ (enc x.length ++ x) := by simp [fmP]
def pxs (ps : List Part) : List (List Int) := ps.map Part.xs
theorem pxs_take (ps : List Part) (k : Nat) (h : k < ps.length) : pxs (ps.take (k + 1)) = pxs (ps.take k) ++ [ps[k].xs] := by
  unfold pxs
  rw [List.take_add_one, List.getElem?_eq_getElem h, List.map_append]
  rfl
theorem pxs_len (ps : List Part) : (pxs ps).length = ps.length := by simp [pxs]
theorem fmP_le (xs : List (List Int)) (B : Nat) (hB : B < 18446744073709551616) (h : ∀ x ∈ xs, x.length ≤ B) : (fmP xs).length ≤ xs.length * (B + 10) := by
  induction xs with
  | nil => simp [fmP]
  | cons x xs ih =>
    have h1 := ih (fun y hy => h y (List.mem_cons_of_mem _ hy))
    have h2 := h x (List.mem_cons_self ..)
    have h3 := enc_length (n := x.length) (by omega)
    have e : fmP (x :: xs) = enc x.length ++ x ++ fmP xs := by simp [fmP]
    rw [e, List.length_append, List.length_append, List.length_cons, Nat.succ_mul]
    omega
set_option maxRecDepth 100000 in
set_option maxHeartbeats 4000000 in
theorem of_any (w : World) (s : ByteArray) (ao : Option Addr) (n cap : Nat) (ps : List Part) (hP : PL w ao n cap ps) (hT : Tabs w) (hs : s.size ≤ 1000000) (hn : n ≤ 1000000) (hq : ∀ q ∈ ps, q.n ≤ 1000000) :
    Calls Tryd.prog 41 #[.string s, .slice ao n cap] w fun e w' => ∃ v, e = .returned v ∧ w'.ownsRow w.heap.size 5 1 v 32 (bv (sumL (formL (sb s) (pxs ps)))) ∧ Below w.heap.size w w' := by
  have h2 := hT.two
  have hl := hP.len
  have hni : (n : Int) ≤ 1000000 := by omega
  have hsl := sb_len s
  have es := enc_length (n := s.size) (by omega)
  have en := enc_length (n := n) (by omega)
  go_enter Tryd.func41, Tryd.ntmps41
  go_wp2_with (first
    | (go_at_call 63; refine (new_any w).mono ?_; rintro e w1 ⟨rfl, H1, g1⟩; have B1 : Below w.heap.size w w1 := (Below.refl _ w).grown g1 (Nat.le_refl _) (by simp); have p1 := H1.lt; clear g1)
    | (refine wpList_conv_bytes rfl (.tmp 10) rfl s rfl (by omega) ?_; intro g2 c2 w2 hg2 S2 C2; have B2 : Below w.heap.size w w2 := B1.trans (C2.mono (by omega)); have H2 := H1.below C2 p1; have s2 := C2.size; clear C2 H1 hg2)
    | (go_at_call 37; refine (wBytes_any w2 none _ 0 0 s.size c2 [] _ (Sl.nothing w2) S2 (by omega)).mono ?_; rintro e w3 ⟨v3, rfl, own3, C3⟩; simp only [List.nil_append, Nat.zero_add] at own3; obtain ⟨fo, fc, rfl, S3, hS3⟩ := Sl.own own3 (Byt.append (enc_byte (by omega)) (sb_byte s)); have B3 : Below w.heap.size w w3 := B2.trans (C3.mono (by omega)); have H3 := H2.below C3 (by omega); have s3 := C3.size; clear C3 own3 H2 S2 B2)
    | (go_at_call 64; refine (add_any w3 w.heap.size [] fo _ fc _ (hT.below B3 h2) H3 h2 S3 (fun a ha _ => by have := (hS3 a ha).1; omega) (by simp; omega)).mono ?_; rintro e w4 ⟨⟨v4, rfl⟩, H4, g4⟩; have B4 : Below w.heap.size w w4 := B3.grown g4 (by omega) (by intro k hk; cases hk; exact Nat.le_refl _); have s4 := g4.size; clear g4 H3 S3 hS3 B3)
    | (go_at_call 36; refine (wUint_any w4 none 0 0 n [] (Sl.nothing w4) (by omega) (by omega)).mono ?_; rintro e w5 ⟨v5, rfl, own5, C5⟩; simp only [List.nil_append, Nat.zero_add] at own5; obtain ⟨uo, uc, rfl, S5, hS5⟩ := Sl.own own5 (enc_byte (by omega)); have B5 : Below w.heap.size w w5 := B4.trans (C5.mono (by omega)); have H5 := H4.below C5 (by omega); have s5 := C5.size; clear C5 own5 H4 B4))
  refine (add_any w5 w.heap.size _ uo _ uc _ (hT.below B5 h2) H5 h2 S5 (fun a ha _ => by have := (hS5 a ha).1; omega) (by simp; omega)).mono ?_
  rintro e w6 ⟨⟨v6, rfl⟩, H6, g6⟩
  have B6 : Below w.heap.size w w6 := B5.grown g6 (by omega) (by intro k hk; cases hk; exact Nat.le_refl _)
  have s6 := g6.size
  clear g6 H5 S5 hS5 B5
  obtain ⟨F, hF⟩ : ∃ F, F = enc s.size ++ sb s ++ enc n := ⟨_, rfl⟩
  have hFl : F.length ≤ 1000020 := by rw [hF]; simp; omega
  have HF : Hid (formL (sb s) (pxs ps) = F ++ fmP (pxs ps)) := by
    show _ = _
    rw [hF, formL, hsl, pxs_len, hl]
  simp only [List.nil_append] at H6
  rw [← hF] at H6
  clear hF hsl es en
  go_wp2_with fail
  go_loopw [22] (fun i wr => ∃ k : Nat, k ≤ n ∧ i = .int .i64 k ∧ Below w.heap.size w wr ∧ w.heap.size < wr.heap.size ∧ HS wr w.heap.size (F ++ fmP (pxs (ps.take k)))) (fun i _ => n - (intOf i).toNat)
  case atStart => exact ⟨0, by omega, rfl, B6, by omega, by simpa [pxs, fmP] using H6⟩
  case round =>
    clear H6 B6
    obtain ⟨k, hk, rfl, B7, t7, H7⟩ := hrel
    have T7 := hT.below B7 h2
    by_cases hlt : k < n
    · have hki : (k : Int) < (n : Int) := by omega
      have hkl : k < ps.length := by omega
      obtain ⟨ab, aof, rfl, hc⟩ := (hP.below B7).at (by omega)
      have c1 := hc k hkl
      have S1 := (hP.below B7).sl ps[k] (List.getElem_mem hkl)
      have HX : Hid (fmP (pxs (ps.take (k + 1))) = fmP (pxs (ps.take k)) ++ (enc ps[k].n ++ ps[k].xs)) := by
        show _ = _
        rw [pxs_take ps k hkl, fmP_snoc, S1.len]
      have hqn := hq ps[k] (List.getElem_mem hkl)
      have hFM : (fmP (pxs (ps.take k))).length ≤ k * (1000000 + 10) := by
        refine Nat.le_trans (fmP_le _ 1000000 (by omega) (fun x hx => ?_)) ?_
        · obtain ⟨q, hq', rfl⟩ := List.mem_map.1 hx
          rw [(hP.sl q (List.mem_of_mem_take hq')).len]
          exact hq q (List.mem_of_mem_take hq')
        · rw [pxs_len, List.length_take]
          exact Nat.mul_le_mul_right _ (by omega)
      obtain ⟨q, hqe⟩ : ∃ q, q = ps[k] := ⟨_, rfl⟩
      rw [← hqe] at c1 S1 HX hqn
      clear hqe hc
      have hql := S1.len
      have hqb := S1.byte
      have eq := enc_length (n := q.n) (by omega)
      unfold Part.val at c1
      go_wp2_with (first
        | (go_at_call 37; refine (wBytes_any wr none q.ao 0 0 q.n q.cap [] q.xs (Sl.nothing wr) S1 (by omega)).mono ?_; rintro e w8 ⟨v8, rfl, own8, C8⟩; simp only [List.nil_append, Nat.zero_add] at own8; obtain ⟨fo, fc, rfl, S8, hS8⟩ := Sl.own own8 (Byt.append (enc_byte (by omega)) hqb); have B8 : Below w.heap.size w w8 := B7.trans (C8.mono (by omega)); have H8 := H7.below C8 (by omega); have s8 := C8.size; clear C8 own8 H7 S1)
        | (go_at_call 64; refine (add_any w8 w.heap.size _ fo _ fc _ (hT.below B8 h2) H8 h2 S8 (fun a ha _ => by have := (hS8 a ha).1; omega) (by simp; omega)).mono ?_; rintro e w9 ⟨⟨v9, rfl⟩, H9, g9⟩; have B9 : Below w.heap.size w w9 := B8.grown g9 (by omega) (by intro k hk; cases hk; exact Nat.le_refl _); have s9 := g9.size; clear g9 H8 S8 hS8 B8))
      go_roundw
      case rel =>
        refine ⟨k + 1, by omega, by go_num, B9, by omega, ?_⟩
        rw [HX.out, ← List.append_assoc F]
        exact H9
      case measure => simp [intOf]; omega
    · have hge : (n : Int) ≤ (k : Int) := by omega
      have e : ps.take k = ps := List.take_of_length_le (by omega)
      rw [e] at H7
      clear e
      have hFM : (fmP (pxs ps)).length ≤ n * (1000000 + 10) := by
        refine Nat.le_trans (fmP_le _ 1000000 (by omega) (fun x hx => ?_)) ?_
        · obtain ⟨q, hq', rfl⟩ := List.mem_map.1 hx
          rw [(hP.sl q hq').len]
          exact hq q hq'
        · rw [pxs_len]
          exact Nat.mul_le_mul_right _ (by omega)
      go_wp2_with (go_at_call 65; refine (hsum_any wr w.heap.size _ T7 H7 (by simp; omega)).mono ?_; rintro e w3 ⟨v, rfl, own3, B3⟩)
      go_ret
      refine ⟨_, rfl, ?_, B7.trans (B3.mono (by omega))⟩
      rw [HF.out]
      exact own_base own3 (by omega)
open Go.RowKit
def bytE (e : EN) : List Int := enc e.cl ++ (enc e.st ++ byts (putR e.r))
def bytT (l : List EN) : List Int := enc l.length ++ (l.map bytE).flatten
theorem bytE_len {e : EN} (h : e.ok) : (bytE e).length ≤ 65600 := by
  have h1 := enc_length h.cl
  have h2 := enc_length h.st
  have h4 := h.len
  have h3 := enc_length (n := (putR e.r).length) (by omega)
  unfold bytE byts
  simp only [List.length_append]
  omega
theorem bytL_len : ∀ {l : List EN}, (∀ e ∈ l, e.ok) → ((l.map bytE).flatten).length ≤ 65600 * l.length
  | [], _ => by simp
  | e :: l, h => by
    have h1 := bytE_len (h e (List.mem_cons_self ..))
    have h2 := bytL_len (l := l) (fun x hx => h x (List.mem_cons_of_mem _ hx))
    simp only [List.map_cons, List.flatten_cons, List.length_append, List.length_cons]
    omega
set_option maxRecDepth 100000 in
set_option maxHeartbeats 4000000 in
theorem cBytes_any (w : World) (p g : Nat) (l : List EN) (h : TS w p g l) :
    Calls Tryd.prog 21 #[.pointer (some ⟨p, 0, none⟩)] w (PutPost w (bytT l)) := by
  have n8 := h.n8
  have n8i : (l.length : Int) ≤ 8 := by omega
  obtain ⟨cp, t0, R0, hcp⟩ := h.tab
  have CU := fUint w none 0 0 l.length [] (Sl.nothing w) (by omega) (by omega)
  go_enter Tryd.func21, Tryd.ntmps21
  go_wp2_with fail
  refine CU.mono ?_
  rintro x w1 ⟨bo, bn, bc, rfl, S1, B1⟩
  have t1 : w1.cell? ⟨p, 0, none⟩ = some (.slice (some ⟨g, 0, none⟩) l.length cp) := (B1.cell (World.block_lt_of_cell? _ _ t0)).trans t0
  have el := enc_length (n := l.length) (by omega)
  clear CU
  go_wp2_with fail
  go_loopw [3, 20] (fun b i wr => ∃ (k : Nat) (bo : Option Addr) (m c : Nat), k ≤ l.length ∧ i = .int .i64 k ∧ b = .slice bo m c ∧ Sl wr bo m c (enc l.length ++ ((l.take k).map bytE).flatten) ∧ Below w.heap.size w wr) (fun _ i _ => l.length - (intOf i).toNat)
  case atStart => exact ⟨0, bo, bn, bc, Nat.zero_le _, rfl, rfl, by simpa using S1, B1⟩
  case round =>
    clear S1 B1 t1
    obtain ⟨k, bo, m, c, hk, rfl, rfl, S, B⟩ := hrel
    have hm := S.len
    have hl := bytL_len (l := l.take k) (fun e he => h.ok e (List.mem_of_mem_take he))
    rw [List.length_append] at hm
    rw [List.length_take] at hl
    by_cases hlt : k < l.length
    · have hki : (k : Int) < (l.length : Int) := by omega
      have R := R0.keep (B.block g R0.lt)
      have q0 := R.cell k hlt 0 _ rfl
      have q1 := R.cell k hlt 1 _ rfl
      have q2 := R.cell k hlt 2 _ rfl
      simp only [Nat.add_zero] at q0
      have hok := h.ok _ (List.getElem_mem hlt)
      have HT : Hid (((l.take (k + 1)).map bytE).flatten = ((l.take k).map bytE).flatten ++ bytE l[k]) := by
        show _ = _
        rw [List.take_succ_eq_append_getElem hlt, List.map_append, List.flatten_append]
        simp
      obtain ⟨e, he⟩ : ∃ e, e = l[k] := ⟨_, rfl⟩
      rw [← he] at q0 q1 q2 hok HT
      clear he R
      have hm2 : m ≤ 800000 := by omega
      have B2 : Below wr.heap.size wr (wr.alloc (.cells #[.int .u64 e.cl, .int .u64 e.st, .string e.an] 66)) := (Below.refl _ _).alloc (Nat.le_refl _) _
      have K2 : (wr.alloc (.cells #[.int .u64 e.cl, .int .u64 e.st, .string e.an] 66)).heap[wr.heap.size]? = some (.cells #[.int .u64 e.cl, .int .u64 e.st, .string e.an] 66) := heap_alloc_new _ _
      have S2 := S.below B2
      have D2 := B.trans (B2.mono B.size)
      go_wp2_with fail
      obtain ⟨w2, hw2⟩ : ∃ W, W = wr.alloc (.cells #[.int .u64 e.cl, .int .u64 e.st, .string e.an] 66) := ⟨_, rfl⟩
      obtain ⟨E, hE⟩ : ∃ E, E = wr.heap.size := ⟨_, rfl⟩
      rw [← hw2] at K2 S2 D2 ⊢
      rw [← hE] at K2 ⊢
      clear hw2 hE B2 S B q0 q1 q2
      have hE2 : E < w2.heap.size := (Array.getElem?_eq_some_iff.1 K2).1
      have l1 := enc_length hok.cl
      have l2 := enc_length hok.st
      have CU := fUint w2 bo m c e.cl _ S2 (by omega) hok.cl
      refine CU.mono ?_
      rintro x w3 ⟨bo3, m3, c3, rfl, S3, C3⟩
      have K3 := (C3.block E hE2).trans K2
      have D3 := D2.trans (C3.mono D2.size)
      have hm3 := S3.len
      simp only [List.length_append] at hm3
      clear CU C3 S2 D2 K2
      have k1 := cell_of_row w3 E 1 _ _ _ K3
      have CU := fUint w3 bo3 m3 c3 e.st _ S3 (by omega) hok.st
      go_wp2_with fail
      refine CU.mono ?_
      rintro x w4 ⟨bo4, m4, c4, rfl, S4, C4⟩
      have K4 := (C4.block E (Array.getElem?_eq_some_iff.1 K3).1).trans K3
      have D4 := D3.trans (C4.mono D3.size)
      have hm4 := S4.len
      simp only [List.length_append] at hm4
      clear CU C4 S3 D3 K3 k1
      have k2 := cell_of_row w4 E 2 _ _ _ K4
      have hsz : e.an.size ≤ 65536 := by
        have := hok.len
        rw [← sb_len, hok.sb]
        exact this
      obtain ⟨a, ha⟩ : ∃ a, a = e.an := ⟨_, rfl⟩
      have HSB : Hid (sb a = putR e.r) := by rw [ha]; exact hok.sb
      rw [← ha] at k2 hsz
      clear ha
      go_wp2_with (refine wpList_conv_bytes rfl (.tmp 34) rfl a rfl (by omega) ?_; intro g5 c5 w5 hg5 S5 C5; clear hg5)
      have T5 := S4.below C5
      have D5 := D4.trans (C5.mono D4.size)
      clear C5 S4 D4 k2
      rw [HSB.out] at S5
      have CB := fBytes w5 bo4 _ m4 c4 _ c5 _ _ T5 S5 (by omega) (by omega)
      refine CB.mono ?_
      rintro x w6 ⟨bo6, m6, c6, rfl, S6, C6⟩
      have D6 := D5.trans (C6.mono D5.size)
      clear CB C6 S5 D5 T5
      go_wp2
      go_roundw
      case rel =>
        refine ⟨k + 1, bo6, m6, c6, by omega, by go_num, rfl, ?_, D6⟩
        rw [HT.out]
        unfold bytE
        simp only [List.append_assoc] at S6 ⊢
        exact S6
      case measure => simp [intOf]; omega
    · have hge : (l.length : Int) ≤ (k : Int) := by omega
      have HT : Hid ((l.take k).map bytE = l.map bytE) := by show _ = _; rw [List.take_of_length_le (by omega)]
      rw [HT.out] at S
      go_wp2
      go_ret
      exact ⟨bo, m, c, rfl, S, B⟩
def sumT (l : List EN) : List Int := sumL (formL (sb ⟨#[115, 101, 115, 115, 105, 111, 110]⟩) [bytT l])
theorem PL.one1 (w : World) (q : Part) (h : Sl w q.ao q.n q.cap q.xs) : PL (w.alloc (.cells #[q.val] 50)) (some ⟨w.heap.size, 0, none⟩) 1 1 [q] := by
  have B : Below w.heap.size w (w.alloc (.cells #[q.val] 50)) := (Below.refl _ w).alloc (Nat.le_refl _) _
  refine ⟨rfl, Nat.le_refl _, by decide, fun h => by simp at h, fun a ha i hi => ?_, fun x hx => ?_⟩
  · obtain rfl := Option.some.inj ha
    obtain rfl : i = 0 := by simpa using hi
    exact cell_one_new _ _ _ 0 _ (by simp)
  · rw [List.mem_singleton.1 hx]
    exact h.below B
theorem cSum_any (w : World) (p g : Nat) (l : List EN) (h : TS w p g l) (hT : Tabs w) :
    Calls Tryd.prog 23 #[.pointer (some ⟨p, 0, none⟩)] w (PutPost w (sumT l)) := by
  have t2 := hT.two
  have n8 := h.n8
  have CB := cBytes_any w p g l h
  have hbl : (bytT l).length ≤ 700000 := by
    have h1 := bytL_len h.ok
    have h2 := enc_length (n := l.length) (by omega)
    unfold bytT
    rw [List.length_append]
    omega
  go_enter Tryd.func23, Tryd.ntmps23
  go_wp2_with fail
  refine CB.mono ?_
  rintro x w1 ⟨bo, m, c, rfl, S1, B1⟩
  have T1 := hT.below B1 t2
  have hm := S1.len
  have B2 : Below w1.heap.size w1 (w1.alloc (.cells #[.slice bo m c] 50)) := (Below.refl _ w1).alloc (Nat.le_refl _) _
  have P2 := PL.one1 w1 ⟨bo, m, c, bytT l⟩ S1
  have D2 := B1.trans (B2.mono B1.size)
  have T2 := T1.below B2 (Nat.le_trans t2 B1.size)
  have CO := of_any _ ⟨#[115, 101, 115, 115, 105, 111, 110]⟩ _ _ _ _ P2 T2 (by decide) (by omega) (fun q hq => by rw [List.mem_singleton.1 hq]; show m ≤ _; omega)
  clear CB B1 S1 T1
  go_wp2_with fail
  refine CO.mono ?_
  rintro x w3 ⟨v, rfl, O, C3⟩
  obtain ⟨ro, rc, rfl, S, -⟩ := Sl.own O (sumL_byte _)
  have D3 := D2.trans (C3.mono D2.size)
  clear CO P2 T2 B2 D2 C3 O
  go_wp2
  go_ret
  exact ⟨ro, 32, rc, rfl, S, D3⟩
open Go.RowKit
theorem lists_of (n : Nat) (xs ys : List Int) (h1 : xs.length = n) (h2 : ys.length = n) (h : ∀ j, j < n → xs.getD j 0 = ys.getD j 0) : xs = ys := by
  apply List.ext_getElem (by omega)
  intro j hj hj2
  have := h j (by omega)
  simpa [List.getD, hj, hj2] using this
theorem Sl.at {w : World} {ao : Option Addr} {n cap : Nat} {xs : List Int} (h : Sl w ao n cap xs) (hn : 0 < n) :
    ∃ b off, ao = some ⟨b, off, none⟩ ∧ ∀ i, i < n → w.cell? ⟨b, off + i, none⟩ = some (.int .u8 (xs.getD i 0)) := by
  cases ao with
  | none => have := (h.nil rfl).1; omega
  | some a =>
    obtain ⟨b, off, spot⟩ := a
    have hc := h.cell _ rfl 0 hn
    have hs : spot = none := by simpa [Addr.add] using World.cell?_spot hc
    subst hs
    exact ⟨b, off, rfl, fun i hi => by have := h.cell _ rfl i hi; rw [Addr.add_lit] at this; exact this⟩
set_option maxHeartbeats 800000 in
theorem same_any (w : World) (ao bo : Option Addr) (n cap m cap2 : Nat) (xs ys : List Int) (h : Sl w ao n cap xs) (h2 : Sl w bo m cap2 ys) :
    Calls Tryd.prog 20 #[.slice ao n cap, .slice bo m cap2] w fun e w' =>
      e = .returned (.bool (decide (xs = ys))) ∧ ∃ q, w' = w.drewN q := by
  have hl := h.len
  have hl2 := h2.len
  have hle := h.le
  have hmx := h.mx
  unfold maxLen at hmx
  by_cases hnm : n = m
  · subst hnm
    have hne : ((n : Int) != (n : Int)) = false := by simp
    go_enter Tryd.func20, Tryd.ntmps20
    go_wp2
    go_loopw [5] (fun i wr => ∃ k q : Nat, k ≤ n ∧ i = .int .i64 k ∧ wr = w.drewN q ∧ ∀ j, j < k → xs.getD j 0 = ys.getD j 0) (fun i _ => n - (intOf i).toNat)
    case atStart => exact ⟨0, 0, Nat.zero_le _, rfl, rfl, fun j hj => by omega⟩
    case round =>
      obtain ⟨k, q, hk, rfl, rfl, heq⟩ := hrel
      by_cases hlt : k < n
      · obtain ⟨b, off, rfl, hc⟩ := h.at (by omega)
        obtain ⟨b2, off2, rfl, hc2⟩ := h2.at (by omega)
        have c1 := hc k hlt
        have c2 := hc2 k hlt
        have hlt1 : (k : Int) < (n : Int) := by omega
        clear hc hc2
        have k1 : k < xs.length := by omega
        have k2 : k < ys.length := by omega
        by_cases he : xs[k] = ys[k]
        · have hb : (xs[k] != ys[k]) = false := by simp [he]
          have hE : Hid (xs[k] = ys[k]) := he
          clear he
          go_wp2
          go_quiet (fail)
          go_wp2
          go_roundw
          case rel =>
            refine ⟨k + 1, _, by omega, by go_num, rfl, fun j hj => ?_⟩
            by_cases hjk : j < k
            · exact heq j hjk
            · obtain rfl : j = k := by omega
              simpa [List.getD, k1, k2] using hE.out
          case measure => simp [intOf]; omega
        · have hb : (xs[k] != ys[k]) = true := by simp [he]
          have hE : Hid (¬ xs[k] = ys[k]) := he
          clear he
          go_wp2
          go_quiet (fail)
          go_wp2
          go_ret
          have hd : decide (xs = ys) = false := decide_eq_false (fun hx => by subst hx; exact hE.out rfl)
          rw [hd, World.drewN_drewN]
          exact ⟨rfl, _, rfl⟩
      · obtain rfl : k = n := by omega
        go_wp2
        go_ret
        have hd : decide (xs = ys) = true := decide_eq_true (lists_of k xs ys hl hl2 heq)
        rw [hd]
        exact ⟨rfl, _, rfl⟩
  · have hne : ((n : Int) != (m : Int)) = true := by simp; omega
    go_enter Tryd.func20, Tryd.ntmps20
    go_wp2
    go_ret
    have hd : decide (xs = ys) = false := decide_eq_false (fun hx => by subst hx; omega)
    rw [hd]
    exact ⟨rfl, 0, rfl⟩
open Go.RowKit
theorem pow128 (i : Nat) : (128 : Nat) ^ i = 2 ^ (7 * i) := by rw [Nat.pow_mul]
theorem orShl (acc i : Nat) (c : Int) (hacc : acc < 128 ^ i) (hc : 0 ≤ c) (hi : i ≤ 9) (h9 : i = 9 → c ≤ 1) :
    bits BinOp.or IntKind.u64 (acc : Int) (IntKind.u64.wrap (c % 128 * 2 ^ (7 * i))) = ((acc + (c % 128).toNat * 128 ^ i : Nat) : Int) ∧ acc + (c % 128).toNat * 128 ^ i < 18446744073709551616 := by
  obtain ⟨x, hx⟩ : ∃ x : Nat, c % 128 = x := ⟨(c % 128).toNat, by omega⟩
  rw [hx]
  have hx1 : x < 128 := by omega
  have hx9 : i = 9 → x ≤ 1 := fun h => by have := h9 h; omega
  rw [pow128] at hacc ⊢
  have hpow : (2 : Nat) ^ (7 * i) ≤ 2 ^ 63 := Nat.pow_le_pow_right (by decide) (by omega)
  have hb : x * 2 ^ (7 * i) ≤ 18446744073709551615 - 2 ^ (7 * i) + 1 := by
    by_cases h : i = 9
    · subst h
      have := hx9 rfl
      have : x = 0 ∨ x = 1 := by omega
      rcases this with rfl | rfl <;> decide
    · have h56 : (2 : Nat) ^ (7 * i) ≤ 2 ^ 56 := Nat.pow_le_pow_right (by decide) (by omega)
      have : x * 2 ^ (7 * i) ≤ 127 * 2 ^ 56 := Nat.mul_le_mul (by omega) h56
      have : (2 : Nat) ^ 56 = 72057594037927936 := by decide
      omega
  have hp63 : (2 : Nat) ^ 63 = 9223372036854775808 := by decide
  have e1 : ((x : Nat) : Int) * 2 ^ (7 * i) = ((x * 2 ^ (7 * i) : Nat) : Int) := by
    rw [Int.natCast_mul, Int.natCast_pow]
    rfl
  rw [e1, IntKind.wrap_u64]
  rw [Int.toNat_natCast]
  generalize hA : 2 ^ (7 * i) = A at *
  have e2 : ((x * A : Nat) : Int) % 18446744073709551616 = ((x * A : Nat) : Int) := by omega
  rw [e2, bits_or_u64_nat acc (x * A) (by omega) (by omega)]
  have e3 : acc ||| x * A = acc + x * A := by
    subst hA
    rw [Nat.or_comm, Nat.mul_comm, ← Nat.two_pow_add_eq_or_of_lt hacc x, Nat.add_comm]
  rw [e3]
  exact ⟨rfl, by omega⟩
theorem tk_cons (i acc : Nat) (c : Int) (r : List Int) : tk i acc (c :: r) = if i = 9 ∧ 1 < c then (0, 0, 3) else if c = 0 ∧ 0 < i then (0, 0, 3) else if 128 ≤ c then tk (i + 1) (acc + (c % 128).toNat * 128 ^ i) r else (acc + (c % 128).toNat * 128 ^ i, i + 1, 0) := rfl
set_option maxHeartbeats 800000 in
set_option maxRecDepth 100000 in
theorem takeNumber_any (w : World) (ao : Option Addr) (n cap : Nat) (xs : List Int) (h : Sl w ao n cap xs) :
    Calls Tryd.prog 70 #[.slice ao n cap] w fun e w' =>
      e = .returned (.tuple #[.int .u64 ((tk 0 0 xs).1 : Nat), .int .i64 ((tk 0 0 xs).2.1 : Nat), .int .i64 ((tk 0 0 xs).2.2 : Nat)]) ∧ w' = w := by
  have hl := h.len
  have hle := h.le
  have hmx := h.mx
  unfold maxLen at hmx
  go_enter Tryd.func70, Tryd.ntmps70
  go_wp2
  refine wp_scope_label 0 (fun a' w' => w' = w ∧ ∃ (i acc : Nat) (u5 u6 u7 u8 u9 u10 u11 u12 u13 u14 u15 u16 u17 u18 u19 u20 u21 u22 u23 u24 u25 u26 u27 u28 u29 u30 u31 u32 u33 u34 u35 u36 u37 u38 u39 : Value), a' = { tmps := #[.slice ao n cap, undef, .int .u64 acc, .int .i64 i, .int .i64 0, u5, u6, u7, u8, u9, u10, u11, u12, u13, u14, u15, u16, u17, u18, u19, u20, u21, u22, u23, u24, u25, u26, u27, u28, u29, u30, u31, u32, u33, u34, u35, u36, u37, u38, u39], defers := [] } ∧ i ≤ n ∧ i ≤ 9 ∧ acc < 128 ^ i ∧ tk i acc (xs.drop i) = tk 0 0 xs) (fun a' _ => n - (intOf (a'.tmps.getD 3 undef)).toNat) ?_ ?_
  · exact ⟨rfl, 0, 0, _, _, _, _, _, _, _, _, _, _, _, _, _, _, _, _, _, _, _, _, _, _, _, _, _, _, _, _, _, _, _, _, _, _, _, rfl, by omega, by omega, by decide, rfl⟩
  · rintro a' w' ⟨rfl, i, acc, u5, u6, u7, u8, u9, u10, u11, u12, u13, u14, u15, u16, u17, u18, u19, u20, u21, u22, u23, u24, u25, u26, u27, u28, u29, u30, u31, u32, u33, u34, u35, u36, u37, u38, u39, rfl, hin, hi9, hacc, htk⟩
    have HT : Hid (tk i acc (xs.drop i) = tk 0 0 xs) := htk
    clear htk
    by_cases hend : i = n
    · have hb : ((i : Int) == (n : Int)) = true := by simp [hend]
      have ht : tk 0 0 xs = (0, 0, 2) := by
        rw [← HT.out, List.drop_eq_nil_of_le (by omega)]
        rfl
      have HT2 : Hid (tk 0 0 xs = (0, 0, 2)) := ht
      clear ht
      go_wp2
      try simp only [Exit.jump]
      go_ret3
      rw [HT2.out]
      exact ⟨rfl, rfl⟩
    · have hb : ((i : Int) == (n : Int)) = false := by simp; omega
      obtain ⟨b, off, rfl, hc⟩ := h.at (by omega)
      have c1 := hc i (by omega)
      have k1 : i < xs.length := by omega
      have hby := h.byte _ (List.getElem_mem k1)
      have hlt1 : (i : Int) < (n : Int) := by omega
      have hg : xs.getD i 0 = xs[i] := by simp [List.getD, k1]
      rw [hg] at c1
      have hd : xs.drop i = xs[i] :: xs.drop (i + 1) := List.drop_eq_getElem_cons k1
      have HD : Hid (xs.drop i = xs[i] :: xs.drop (i + 1)) := hd
      clear hc hd hg
      generalize xs[i] = c at c1 hby HD
      have ht := HT.out
      rw [HD.out, tk_cons] at ht
      by_cases hA : i = 9 ∧ 1 < c
      · rw [if_pos hA] at ht
        obtain ⟨h9, h1⟩ := hA
        subst h9
        have HT2 : Hid ((0, 0, 3) = tk 0 0 xs) := ht
        clear ht
        go_wp2
        try simp only [Exit.jump]
        go_ret3
        rw [← HT2.out]
        exact ⟨rfl, rfl⟩
      · rw [if_neg hA] at ht
        by_cases hB : c = 0 ∧ 0 < i
        · rw [if_pos hB] at ht
          have HT2 : Hid ((0, 0, 3) = tk 0 0 xs) := ht
          obtain ⟨h0, hip⟩ := hB
          subst h0
          clear ht hA
          by_cases h9 : i = 9
          · subst h9
            go_wp2
            try simp only [Exit.jump]
            go_ret3
            rw [← HT2.out]
            exact ⟨rfl, rfl⟩
          · have hb9 : ((i : Int) == 9) = false := by simp; omega
            go_wp2
            try simp only [Exit.jump]
            go_ret3
            rw [← HT2.out]
            exact ⟨rfl, rfl⟩
        · rw [if_neg hB] at ht
          obtain ⟨ho, hsum⟩ := orShl acc i c hacc (by omega) hi9 (by omega)
          have hpw : acc + (c % 128).toNat * 128 ^ i < 128 ^ (i + 1) := by
            have h1 : (c % 128).toNat * 128 ^ i ≤ 127 * 128 ^ i := Nat.mul_le_mul (by omega) (Nat.le_refl _)
            rw [Nat.pow_succ]
            omega
          generalize acc + (c % 128).toNat * 128 ^ i = s at ho hsum ht hpw
          by_cases hC : 128 ≤ c
          · have h9 : ((i : Int) == 9) = false := by simp; omega
            have h0 : (c == 0) = false := by simp; omega
            rw [if_pos hC] at ht
            have HT2 : Hid (_ = tk 0 0 xs) := ht
            have hi8 : i ≤ 8 := by omega
            clear hA hB ht
            go_wp2
            go_step3
            rw [show ((i : Int) + 1) = ((i + 1 : Nat) : Int) from by omega]
            refine ⟨rfl, ⟨rfl, i + 1, s, _, _, _, _, _, _, _, _, _, _, _, _, _, _, _, _, _, _, _, _, _, _, _, _, _, _, _, _, _, _, _, _, _, _, _, rfl, by omega, by omega, hpw, HT2.out⟩, ?_⟩
            simp [intOf]
            omega
          · rw [if_neg hC] at ht
            have HT2 : Hid (_ = tk 0 0 xs) := ht
            clear ht
            by_cases h9 : i = 9
            · have hb9 : ((i : Int) == 9) = true := by simp; omega
              have hc1 : c ≤ 1 := by omega
              have h0 : (c == 0) = false := by simp; omega
              have h9l : 9 ≤ i := by omega
              clear hA hB h9
              go_wp2
              try simp only [Exit.jump]
              go_ret3
              rw [← HT2.out]
              exact ⟨rfl, rfl⟩
            · have hb9 : ((i : Int) == 9) = false := by simp; omega
              clear hA
              by_cases h0 : c = 0
              · have hb0 : (c == 0) = true := by simp; omega
                have hc0 : c ≤ 0 := by omega
                have hi0 : i ≤ 0 := by omega
                clear hB h0
                go_wp2
                try simp only [Exit.jump]
                go_ret3
                rw [← HT2.out]
                exact ⟨rfl, rfl⟩
              · have h0 : (c == 0) = false := by simp; omega
                clear hB
                go_wp2
                try simp only [Exit.jump]
                go_ret3
                rw [← HT2.out]
                exact ⟨rfl, rfl⟩
open Go.RowKit
theorem grown_trans {a b c : World} {r : Option Nat} (h : a.grownBy b r) (k : b.grownBy c r) : a.grownBy c r :=
  ⟨k.os.trans h.os, k.tape.trans h.tape, k.output.trans h.output, Nat.le_trans h.size k.size, fun i hi hne => (k.block i (Nat.lt_of_lt_of_le hi h.size) hne).trans (h.block i hi hne)⟩
theorem grown_below {a b : World} {r : Option Nat} (h : Below a.heap.size a b) : a.grownBy b r := ⟨h.os, h.tape, h.output, h.size, fun i hi _ => h.block i hi⟩
theorem below_grown {a b : World} {B p : Nat} (h : a.grownBy b (some p)) (hB : B ≤ a.heap.size) (hp : B ≤ p) : Below B a b :=
  ⟨h.os, h.tape, h.output, h.size, fun i hi => h.block i (by omega) (by simp; omega)⟩
open Go.RowKit
structure Rd (w : World) (p L : Nat) (ao : Option Addr) (n cap : Nat) (xs : List Int) (k : Int) : Prop where
  c0 : w.cell? ⟨p, 0, none⟩ = some (.slice ao n cap)
  c1 : w.cell? ⟨p, 1, none⟩ = some (.int .i64 k)
  f0 : w.frozen? ⟨p, 0, none⟩ = false
  f1 : w.frozen? ⟨p, 1, none⟩ = false
  sl : Sl w ao n cap xs
  low : ∀ a, ao = some a → 0 < n → a.block < L
  le : L ≤ p
  sm : n ≤ 1000000
def R (w : World) (p L : Nat) (xs : List Int) (k : Int) : Prop := ∃ ao n cap, Rd w p L ao n cap xs k
theorem Rd.plt {w : World} {p L : Nat} {ao : Option Addr} {n cap : Nat} {xs : List Int} {k : Int} (h : Rd w p L ao n cap xs k) : p < w.heap.size := World.block_lt_of_cell? w _ h.c0
theorem Rd.below {w w' : World} {p L : Nat} {ao : Option Addr} {n cap : Nat} {xs : List Int} {k : Int} (h : Rd w p L ao n cap xs k) (hb : Below w.heap.size w w') : Rd w' p L ao n cap xs k :=
  ⟨(hb.cell (p := ⟨p, 0, none⟩) h.plt).trans h.c0, (hb.cell (p := ⟨p, 1, none⟩) h.plt).trans h.c1, (hb.frozen (p := ⟨p, 0, none⟩) h.plt).trans h.f0, (hb.frozen (p := ⟨p, 1, none⟩) h.plt).trans h.f1, h.sl.below hb, h.low, h.le, h.sm⟩
theorem R.below {w w' : World} {p L : Nat} {xs : List Int} {k : Int} (h : R w p L xs k) (hb : Below w.heap.size w w') : R w' p L xs k := by
  obtain ⟨ao, n, cap, h⟩ := h
  exact ⟨ao, n, cap, h.below hb⟩
theorem Sl.keep {w w' : World} {L q : Nat} {ao : Option Addr} {n cap : Nat} {xs : List Int} (h : Sl w ao n cap xs) (low : ∀ a, ao = some a → 0 < n → a.block < L) (hL : L ≤ q) (hg : w.grownBy w' (some q)) : Sl w' ao n cap xs := by
  refine ⟨h.len, h.le, h.mx, h.nil, fun a ha i hi => hg.cell (h.cell a ha i hi) ?_, h.byte⟩
  have := low a ha (by omega)
  have e : (a.add i).block = a.block := by unfold Addr.add; split <;> rfl
  rw [e]
  simp
  omega
theorem R.keep {w w' : World} {p L q : Nat} {xs : List Int} {k : Int} (h : R w p L xs k) (hne : p ≠ q) (hL : L ≤ q) (hg : w.grownBy w' (some q)) : R w' p L xs k := by
  obtain ⟨ao, n, cap, h⟩ := h
  have hb : w'.heap[p]? = w.heap[p]? := hg.block p h.plt (by simp; omega)
  exact ⟨ao, n, cap, hg.cell h.c0 (by simp; omega), hg.cell h.c1 (by simp; omega), (World.frozen?_of_block (a := ⟨p, 0, none⟩) hb).trans h.f0, (World.frozen?_of_block (a := ⟨p, 1, none⟩) hb).trans h.f1, h.sl.keep h.low hL hg, h.low, h.le, h.sm⟩
theorem Sl.drop {w : World} {ao : Option Addr} {n cap : Nat} {xs : List Int} (h : Sl w ao n cap xs) (u : Nat) (hu : u ≤ n) : Sl w (ao.map (fun x => x.add u)) (n - u) (cap - u) (xs.drop u) := by
  have h1 := h.le
  have h2 := h.mx
  refine ⟨by rw [List.length_drop, h.len], by omega, by omega, fun hn => ?_, fun a ha i hi => ?_, h.byte.drop u⟩
  · have := h.nil (by simpa using hn)
    omega
  · obtain ⟨b, off, rfl, hc⟩ := h.at (by omega)
    simp only [Option.map_some, Option.some.injEq] at ha
    subst ha
    rw [Addr.add_lit, Addr.add_lit, Nat.add_assoc, hc (u + i) (by omega)]
    simp [List.getD]
theorem Sl.dropAll {w : World} {ao : Option Addr} {n : Nat} {xs : List Int} {u : Nat} (h : Sl w ao n u xs) (hu : u ≤ n) : Sl w ao (n - u) 0 (xs.drop u) := by
  have h1 := h.le
  refine ⟨by rw [List.length_drop, h.len], by omega, Nat.zero_le _, fun hn => ⟨?_, rfl⟩, fun a ha i hi => by omega, h.byte.drop u⟩
  omega
theorem low_drop {ao : Option Addr} {n L u m : Nat} (h : ∀ a, ao = some a → 0 < n → a.block < L) (hm : m ≤ n) : ∀ a, ao.map (fun x => x.add u) = some a → 0 < m → a.block < L := by
  intro a ha hp
  cases ao with
  | none => simp at ha
  | some x =>
    simp only [Option.map_some, Option.some.injEq] at ha
    subst ha
    have e : (x.add u).block = x.block := by unfold Addr.add; split <;> rfl
    rw [e]
    exact h x rfl (by omega)
theorem grown_setCell (w : World) (p o : Nat) (v : Value) : w.grownBy (w.setCell ⟨p, o, none⟩ v) (some p) :=
  ⟨rfl, rfl, rfl, by simp, fun k _ hne => Below.heap_setCell _ _ _ _ (by simpa using hne)⟩
theorem Rd.rest {w : World} {p L : Nat} {ao : Option Addr} {n cap : Nat} {xs : List Int} {k : Int} (h : Rd w p L ao n cap xs k) {bo : Option Addr} {m c : Nat} {ys : List Int} (hs : Sl w bo m c ys) (hlow : ∀ a, bo = some a → 0 < m → a.block < L) (hm : m ≤ n) :
    Rd (w.setCell ⟨p, 0, none⟩ (.slice bo m c)) p L bo m c ys k :=
  ⟨World.cell?_setCell_same _ _ _ h.c0, (World.cell?_setCell_other _ _ _ _ (by simp)).trans h.c1, by simpa using h.f0, by simpa using h.f1, hs.keep hlow h.le (grown_setCell _ _ _ _), hlow, h.le, Nat.le_trans hm h.sm⟩
theorem Rd.wrong {w : World} {p L : Nat} {ao : Option Addr} {n cap : Nat} {xs : List Int} {k : Int} (h : Rd w p L ao n cap xs k) (q : Int) :
    Rd (w.setCell ⟨p, 1, none⟩ (.int .i64 q)) p L ao n cap xs q :=
  ⟨(World.cell?_setCell_other _ _ _ _ (by simp)).trans h.c0, World.cell?_setCell_same _ _ _ h.c1, by simpa using h.f0, by simpa using h.f1, h.sl.keep h.low h.le (grown_setCell _ _ _ _), h.low, h.le, h.sm⟩
open Go.RowKit
theorem failed_any (w : World) (p : Nat) (k : Int) (h : w.cell? ⟨p, 1, none⟩ = some (.int .i64 k)) : Calls Tryd.prog 69 #[.pointer (some ⟨p, 0, none⟩)] w fun e w' => e = .returned (.bool (k != 0)) ∧ w' = w := by
  go_enter Tryd.func69, Tryd.ntmps69
  go_wp2
  go_ret
  exact ⟨rfl, rfl⟩
theorem fail_any (w : World) (p L : Nat) (xs : List Int) (q : Int) (h : R w p L xs 0) (hq : q ≠ 0) : Calls Tryd.prog 47 #[.pointer (some ⟨p, 0, none⟩), .int .i64 q] w fun e w' => e = .returned (.tuple #[]) ∧ R w' p L [] q ∧ w.grownBy w' (some p) := by
  obtain ⟨ao, n, cap, hr⟩ := h
  have h0 := hr.c0
  have h1 := hr.c1
  have f0 := hr.f0
  have f1 := hr.f1
  have hb : (q == 0) = false := by simp [hq]
  have hfin : R ((w.setCell ⟨p, 1, none⟩ (.int .i64 q)).setCell ⟨p, 0, none⟩ (.slice none 0 0)) p L [] q :=
    ⟨none, 0, 0, (hr.wrong q).rest (Sl.nothing _) (fun a ha => by simp at ha) (Nat.zero_le _)⟩
  have hgr := grown_trans (grown_setCell w p 1 (.int .i64 q)) (grown_setCell (w.setCell ⟨p, 1, none⟩ (.int .i64 q)) p 0 (.slice none 0 0))
  clear hr hq
  go_enter Tryd.func47, Tryd.ntmps47
  go_wp2_with (go_at_call 69; refine (failed_any _ p 0 h1).mono ?_; rintro e w' ⟨rfl, rfl⟩)
  go_end0
  exact ⟨rfl, hfin, hgr⟩
theorem done_any (w : World) (p L : Nat) (xs : List Int) (k : Int) (h : R w p L xs k) : Calls Tryd.prog 50 #[.pointer (some ⟨p, 0, none⟩)] w fun e w' => e = .returned (.int .i64 (doneS xs k)) ∧ w' = w := by
  obtain ⟨ao, n, cap, hr⟩ := h
  have h0 := hr.c0
  have h1 := hr.c1
  have hl := hr.sl.len
  clear hr
  by_cases hk : k = 0
  · subst hk
    cases xs with
    | nil =>
      have hn : n = 0 := by simpa using hl.symm
      subst hn
      clear hl
      go_enter Tryd.func50, Tryd.ntmps50
      go_wp2
      go_ret
      exact ⟨rfl, rfl⟩
    | cons c r =>
      have hn : 0 < n := by rw [← hl]; simp
      clear hl
      go_enter Tryd.func50, Tryd.ntmps50
      go_wp2
      go_ret
      exact ⟨rfl, rfl⟩
  · have hb : (k == 0) = false := by simp [hk]
    have hd : doneS xs k = k := by simp [doneS, hk]
    rw [hd]
    clear hk hd
    go_enter Tryd.func50, Tryd.ntmps50
    go_wp2
    go_ret
    exact ⟨rfl, rfl⟩
open Go.RowKit
theorem uint_any (w : World) (p L : Nat) (xs : List Int) (k : Int) (h : R w p L xs k) : Calls Tryd.prog 45 #[.pointer (some ⟨p, 0, none⟩)] w fun e w' =>
    e = .returned (.int .u64 ((uintS xs k).1 : Nat)) ∧ R w' p L (uintS xs k).2.1 (uintS xs k).2.2 ∧ w.grownBy w' (some p) := by
  have hR := h
  obtain ⟨ao, n, cap, hr⟩ := h
  have h0 := hr.c0
  have h1 := hr.c1
  have f0 := hr.f0
  by_cases hk : k = 0
  · subst hk
    have ht := takeNumber_any w ao n cap xs hr.sl
    have hu := tk_used xs 0 0
    unfold uintS
    rw [if_pos rfl]
    have HT : Hid (Calls _ _ _ _ _) := ht
    clear ht
    generalize tk 0 0 xs = T at *
    obtain ⟨m, u, q⟩ := T
    simp only at hu HT ⊢
    by_cases hq : q = 0
    · subst hq
      have hu := hu rfl
      rw [if_pos rfl]
      have hl := hr.sl.len
      have hle := hr.sl.le
      have hmx := hr.sl.mx
      unfold maxLen at hmx
      go_enter Tryd.func45, Tryd.ntmps45
      go_wp2_with (first | (go_at_call 69; refine (failed_any _ p 0 h1).mono ?_; rintro e w' ⟨rfl, rfl⟩) | (go_at_call 70; refine HT.out.mono ?_; rintro e w' ⟨rfl, rfl⟩))
      · have hfin : R (w'.setCell ⟨p, 0, none⟩ (.slice ao (n - u) 0)) p L (xs.drop u) 0 := by
          have hcu : cap = u := by assumption
          subst hcu
          exact ⟨_, _, _, hr.rest (hr.sl.dropAll (by omega)) (fun a ha hp => by omega) (by omega)⟩
        go_ret
        exact ⟨rfl, hfin, grown_setCell _ _ _ _⟩
      · have hfin : R (w'.setCell ⟨p, 0, none⟩ (.slice (ao.map (fun x => x.add u)) (n - u) (cap - u))) p L (xs.drop u) 0 :=
          ⟨_, _, _, hr.rest (hr.sl.drop u (by omega)) (low_drop hr.low (by omega)) (by omega)⟩
        go_ret
        exact ⟨rfl, hfin, grown_setCell _ _ _ _⟩
    · rw [if_neg hq]
      have hqb : ((q : Int) != 0) = true := by simp; omega
      have hf := fail_any w p L xs q hR (by omega)
      have HF : Hid (Calls _ _ _ _ _) := hf
      clear hf hu hR hr
      go_enter Tryd.func45, Tryd.ntmps45
      go_wp2_with (first | (go_at_call 69; refine (failed_any _ p 0 h1).mono ?_; rintro e w' ⟨rfl, rfl⟩) | (go_at_call 70; refine HT.out.mono ?_; rintro e w' ⟨rfl, rfl⟩) | (go_at_call 47; refine HF.out.mono ?_; rintro e w2 ⟨rfl, hr2, hg2⟩))
      go_ret
      exact ⟨rfl, hr2, hg2⟩
  · have hb : (k != 0) = true := by simp [hk]
    have hs : uintS xs k = (0, xs, k) := by simp [uintS, hk]
    rw [hs]
    clear hr hk hs
    go_enter Tryd.func45, Tryd.ntmps45
    go_wp2_with (go_at_call 69; refine (failed_any _ p k h1).mono ?_; rintro e w' ⟨rfl, rfl⟩)
    go_ret
    exact ⟨rfl, hR, World.grownBy.refl _ _⟩
open Go.RowKit
theorem R.kind {w : World} {p L : Nat} {xs : List Int} {k : Int} (h : R w p L xs k) : w.cell? ⟨p, 1, none⟩ = some (.int .i64 k) := by
  obtain ⟨ao, n, cap, hr⟩ := h
  exact hr.c1
set_option maxHeartbeats 400000 in
theorem int_any (w : World) (p L : Nat) (xs : List Int) (k most : Int) (hmost : most ≤ 9223372036854775807) (hb : Byt xs) (h : R w p L xs k) : Calls Tryd.prog 44 #[.pointer (some ⟨p, 0, none⟩), .int .i64 most] w fun e w' =>
    e = .returned (.int .i64 ((intS xs k most).1 : Nat)) ∧ R w' p L (intS xs k most).2.1 (intS xs k most).2.2 ∧ w.grownBy w' (some p) := by
  have hU := uint_any w p L xs k h
  have hlt := uintS_lt (k := k) hb
  unfold intS
  generalize uintS xs k = T at *
  obtain ⟨m, rs, q⟩ := T
  simp only at hU hlt ⊢
  have HU : Hid (Calls _ _ _ _ _) := hU
  clear hU h hb
  by_cases hq : q = 0
  · subst hq
    rw [if_pos rfl]
    by_cases hbad : most < 0 ∨ most < (m : Int)
    · rw [if_pos hbad]
      by_cases hneg : most < 0
      · clear hbad
        go_enter Tryd.func44, Tryd.ntmps44
        go_wp2_with fail
        refine HU.out.mono ?_
        rintro e w1 ⟨rfl, hR1, hg1⟩
        clear HU
        have hc1 := hR1.kind
        go_wp2_with (first | (go_at_call 69; refine (failed_any _ p 0 hc1).mono ?_; rintro e w' ⟨rfl, rfl⟩) | (go_at_call 47; refine (fail_any _ p L rs 4 hR1 (by decide)).mono ?_; rintro e w2 ⟨rfl, hr2, hg2⟩))
        have hg := grown_trans hg1 hg2
        go_ret
        exact ⟨rfl, hr2, hg⟩
      · have hlt2 : most < (m : Int) := by omega
        clear hbad
        go_enter Tryd.func44, Tryd.ntmps44
        go_wp2_with fail
        refine HU.out.mono ?_
        rintro e w1 ⟨rfl, hR1, hg1⟩
        clear HU
        have hc1 := hR1.kind
        go_wp2_with (first | (go_at_call 69; refine (failed_any _ p 0 hc1).mono ?_; rintro e w' ⟨rfl, rfl⟩) | (go_at_call 47; refine (fail_any _ p L rs 4 hR1 (by decide)).mono ?_; rintro e w2 ⟨rfl, hr2, hg2⟩))
        have hg := grown_trans hg1 hg2
        go_ret
        exact ⟨rfl, hr2, hg⟩
    · rw [if_neg hbad]
      have h1 : 0 ≤ most := by omega
      have h2 : (m : Int) ≤ most := by omega
      clear hbad
      go_enter Tryd.func44, Tryd.ntmps44
      go_wp2_with fail
      refine HU.out.mono ?_
      rintro e w1 ⟨rfl, hR1, hg1⟩
      clear HU
      have hc1 := hR1.kind
      go_wp2_with (go_at_call 69; refine (failed_any _ p 0 hc1).mono ?_; rintro e w' ⟨rfl, rfl⟩)
      go_ret
      exact ⟨rfl, hR1, hg1⟩
  · rw [if_neg hq]
    have hqb : (q != 0) = true := by simp [hq]
    clear hq
    go_enter Tryd.func44, Tryd.ntmps44
    go_wp2_with fail
    refine HU.out.mono ?_
    rintro e w1 ⟨rfl, hR1, hg1⟩
    clear HU
    have hc1 := hR1.kind
    go_wp2_with (go_at_call 69; refine (failed_any _ p q hc1).mono ?_; rintro e w' ⟨rfl, rfl⟩)
    go_ret
    exact ⟨rfl, hR1, hg1⟩
open Go.RowKit
theorem R.byte {w : World} {p L : Nat} {xs : List Int} {k : Int} (h : R w p L xs k) : Byt xs := by
  obtain ⟨ao, n, cap, hr⟩ := h
  exact hr.sl.byte
theorem Sl.keepNe {w w' : World} {q : Nat} {ao : Option Addr} {n cap : Nat} {xs : List Int} (h : Sl w ao n cap xs) (hne : ∀ a, ao = some a → 0 < n → a.block ≠ q) (hg : w.grownBy w' (some q)) : Sl w' ao n cap xs := by
  refine ⟨h.len, h.le, h.mx, h.nil, fun a ha i hi => hg.cell (h.cell a ha i hi) ?_, h.byte⟩
  have := hne a ha (by omega)
  have e : (a.add i).block = a.block := by unfold Addr.add; split <;> rfl
  rw [e]
  simp
  exact this
theorem Sl.ofOwn {w : World} {base : Nat} {ao : Option Addr} {n cap : Nat} {xs : List Int} (h : w.ownsRow base 5 1 (.slice ao n cap) n (bv xs)) (hb : Byt xs) : Sl w ao n cap xs := by
  obtain ⟨bo, c, he, hs, _⟩ := Sl.own h hb
  simp only [Value.slice.injEq] at he
  obtain ⟨rfl, _, rfl⟩ := he
  exact hs
theorem bytes_end {w w' w2 : World} {p L m n cap : Nat} {ao bo : Option Addr} {c : Nat} {rs : List Int} {k : Int} (hg1 : w.grownBy w' (some p)) (hr : Rd w' p L ao n cap rs k) (hb2 : Below w'.heap.size w' w2)
    (hown : w2.ownsRow w'.heap.size 5 1 (.slice (some ⟨w'.heap.size, 0, none⟩) m (m + 0)) m (bv (rs.take m))) (hs : Sl w2 bo (n - m) c (rs.drop m)) (hlow : ∀ a, bo = some a → 0 < n - m → a.block < L) :
    Sl (w2.setCell ⟨p, 0, none⟩ (.slice bo (n - m) c)) (some ⟨w'.heap.size, 0, none⟩) m m (rs.take m) ∧ (∀ a, some (⟨w'.heap.size, 0, none⟩ : Addr) = some a → w.heap.size ≤ a.block) ∧
      R (w2.setCell ⟨p, 0, none⟩ (.slice bo (n - m) c)) p L (rs.drop m) k ∧ w.grownBy (w2.setCell ⟨p, 0, none⟩ (.slice bo (n - m) c)) (some p) := by
  have hp := hr.plt
  refine ⟨(Sl.ofOwn hown (hr.sl.byte.take m)).keepNe ?_ (grown_setCell _ _ _ _), ?_, ⟨_, _, _, (hr.below hb2).rest hs hlow (by omega)⟩, grown_trans hg1 (grown_trans (grown_below hb2) (grown_setCell _ _ _ _))⟩
  · intro a ha _
    obtain rfl := Option.some.inj ha
    show w'.heap.size ≠ p
    omega
  · intro a ha
    obtain rfl := Option.some.inj ha
    exact hg1.size
set_option maxHeartbeats 800000 in
theorem bytes_any (w : World) (p L : Nat) (xs : List Int) (k most : Int) (hmost : most ≤ 9223372036854775807) (h : R w p L xs k) : Calls Tryd.prog 46 #[.pointer (some ⟨p, 0, none⟩), .int .i64 most] w fun e w' =>
    ∃ ao n cap, e = .returned (.slice ao n cap) ∧ Sl w' ao n cap (bytesS xs k most).1 ∧ (∀ a, ao = some a → w.heap.size ≤ a.block) ∧ R w' p L (bytesS xs k most).2.1 (bytesS xs k most).2.2 ∧ w.grownBy w' (some p) := by
  have hU := int_any w p L xs k most hmost h.byte h
  unfold bytesS
  generalize intS xs k most = T at *
  obtain ⟨m, rs, q⟩ := T
  simp only at hU ⊢
  have HU : Hid (Calls _ _ _ _ _) := hU
  clear hU h
  by_cases hq : q = 0
  · subst hq
    rw [if_pos rfl]
    by_cases hbad : rs.length < m
    · rw [if_pos hbad]
      go_enter Tryd.func46, Tryd.ntmps46
      go_wp2_with fail
      refine HU.out.mono ?_
      rintro e w1 ⟨rfl, hR1, hg1⟩
      clear HU
      have hR1' := hR1
      obtain ⟨ao, n, cap, hr⟩ := hR1'
      have hc0 := hr.c0
      have hc1 := hr.c1
      have hl := hr.sl.len
      have hlt : (n : Int) < (m : Int) := by omega
      clear hr hl hbad
      go_wp2_with (first | (go_at_call 69; refine (failed_any _ p 0 hc1).mono ?_; rintro e w' ⟨rfl, rfl⟩) | (go_at_call 47; refine (fail_any _ p L rs 2 hR1 (by decide)).mono ?_; rintro e w2 ⟨rfl, hr2, hg2⟩))
      have hg := grown_trans hg1 hg2
      go_ret
      exact ⟨none, 0, 0, rfl, Sl.nothing _, fun a ha => by simp at ha, hr2, hg⟩
    · rw [if_neg hbad]
      go_enter Tryd.func46, Tryd.ntmps46
      go_wp2_with fail
      refine HU.out.mono ?_
      rintro e w1 ⟨rfl, hR1, hg1⟩
      clear HU
      obtain ⟨ao, n, cap, hr⟩ := hR1
      have hc0 := hr.c0
      have hc1 := hr.c1
      have hl := hr.sl.len
      have hle := hr.sl.le
      have hmx := hr.sl.mx
      unfold maxLen at hmx
      have hsm := hr.sm
      have hmn : m ≤ n := by omega
      have hsl := hr.sl.take m hmn
      clear hbad
      go_wp2_with (first | (go_at_call 69; refine (failed_any _ p 0 hc1).mono ?_; rintro e w' ⟨rfl, rfl⟩) | fail)
      refine (withRoom_any _ _ _ _ 0 _ hsl (by omega)).mono ?_
      rintro e w2 ⟨rfl, hown2, hb2⟩
      have hr2 := hr.below hb2
      have hd0 := hr2.c0
      have hf0 := hr2.f0
      by_cases hcm : cap = m
      · subst hcm
        have hfin := bytes_end hg1 hr hb2 hown2 (hr2.sl.dropAll hmn) (fun a ha hp => by omega)
        rw [show n - cap = 0 from by omega] at hfin
        go_wp2_with fail
        go_ret
        exact ⟨_, _, _, rfl, hfin⟩
      · have hfin := bytes_end hg1 hr hb2 hown2 (hr2.sl.drop m hmn) (low_drop hr.low (by omega))
        go_wp2_with fail
        go_ret
        exact ⟨_, _, _, rfl, hfin⟩
  · rw [if_neg hq]
    have hqb : (q != 0) = true := by simp [hq]
    clear hq
    go_enter Tryd.func46, Tryd.ntmps46
    go_wp2_with fail
    refine HU.out.mono ?_
    rintro e w1 ⟨rfl, hR1, hg1⟩
    clear HU
    have hc1 := hR1.kind
    go_wp2_with (go_at_call 69; refine (failed_any _ p q hc1).mono ?_; rintro e w' ⟨rfl, rfl⟩)
    go_ret
    exact ⟨none, 0, 0, rfl, Sl.nothing _, fun a ha => by simp at ha, hR1, hg1⟩
open Go.RowKit
set_option maxHeartbeats 800000 in
theorem bool_any (w : World) (p L : Nat) (xs : List Int) (k : Int) (h : R w p L xs k) : Calls Tryd.prog 75 #[.pointer (some ⟨p, 0, none⟩)] w fun e w' =>
    e = .returned (.bool (boolS xs k).1) ∧ R w' p L (boolS xs k).2.1 (boolS xs k).2.2 ∧ w.grownBy w' (some p) := by
  have hR := h
  obtain ⟨ao, n, cap, hr⟩ := h
  have hc0 := hr.c0
  have hc1 := hr.c1
  have hf0 := hr.f0
  have hl := hr.sl.len
  by_cases hk : k = 0
  · subst hk
    cases xs with
    | nil =>
      obtain rfl : n = 0 := by simpa using hl.symm
      rw [show boolS [] 0 = (false, [], 2) from rfl]
      clear hr hl
      go_enter Tryd.func75, Tryd.ntmps75
      go_wp2_with (first | (go_at_call 69; refine (failed_any _ p 0 hc1).mono ?_; rintro e w' ⟨rfl, rfl⟩) | (go_at_call 47; refine (fail_any _ p L [] 2 hR (by decide)).mono ?_; rintro e w2 ⟨rfl, hr2, hg2⟩))
      go_ret
      exact ⟨rfl, hr2, hg2⟩
    | cons c r =>
      have hn : 0 < n := by rw [← hl]; simp
      have hnb : ((n : Int) == 0) = false := by simp; omega
      have hn1 : (0 : Int) < (n : Int) := by omega
      have hn2 : (1 : Int) ≤ (n : Int) := by omega
      have hby := hr.sl.byte c (by simp)
      obtain ⟨b, off, rfl, hcell⟩ := hr.sl.at hn
      have c0 := hcell 0 hn
      rw [Nat.add_zero, show (c :: r).getD 0 0 = c from rfl] at c0
      have hle := hr.sl.le
      have hmx := hr.sl.mx
      unfold maxLen at hmx
      clear hcell
      by_cases hbig : 1 < c
      · rw [show boolS (c :: r) 0 = (false, [], 3) from by simp [boolS, hbig]]
        clear hr
        go_enter Tryd.func75, Tryd.ntmps75
        go_wp2_with (first | (go_at_call 69; refine (failed_any _ p 0 hc1).mono ?_; rintro e w' ⟨rfl, rfl⟩) | (go_at_call 47; refine (fail_any _ p L (c :: r) 3 hR (by decide)).mono ?_; rintro e w2 ⟨rfl, hr2, hg2⟩))
        go_ret
        exact ⟨rfl, hr2, hg2⟩
      · have hc1' : c ≤ 1 := by omega
        rw [show boolS (c :: r) 0 = (c == 1, r, 0) from by simp [boolS, hbig]]
        have hsd := hr.sl.drop 1 hn
        rw [show (c :: r).drop 1 = r from rfl] at hsd
        have hsa : cap = 1 → Sl w (some ⟨b, off, none⟩) (n - 1) 0 r := by
          intro hc
          subst hc
          exact hr.sl.dropAll hn
        clear hbig
        go_enter Tryd.func75, Tryd.ntmps75
        go_wp2_with (first | (go_at_call 69; refine (failed_any _ p 0 hc1).mono ?_; rintro e w' ⟨rfl, rfl⟩) | fail)
        · have hcap : cap = 1 := by assumption
          have hfin : R (w'.setCell ⟨p, 0, none⟩ (.slice (some ⟨b, off, none⟩) (n - 1) 0)) p L r 0 := ⟨_, _, _, hr.rest (hsa hcap) (fun a ha hp => by omega) (by omega)⟩
          go_ret
          exact ⟨rfl, hfin, grown_setCell _ _ _ _⟩
        · have hfin := hr.rest hsd (low_drop hr.low (by omega)) (by omega)
          rw [show Option.map (fun x => x.add 1) (some (⟨b, off, none⟩ : Addr)) = some ⟨b, off + 1, none⟩ from by rw [Option.map_some, Addr.add_lit]] at hfin
          go_ret
          exact ⟨rfl, ⟨_, _, _, hfin⟩, grown_setCell _ _ _ _⟩
  · have hb : (k != 0) = true := by simp [hk]
    have hs : boolS xs k = (false, xs, k) := by simp [boolS, hk]
    rw [hs]
    clear hr hk hs
    go_enter Tryd.func75, Tryd.ntmps75
    go_wp2_with (go_at_call 69; refine (failed_any _ p k hc1).mono ?_; rintro e w' ⟨rfl, rfl⟩)
    go_ret
    exact ⟨rfl, hR, World.grownBy.refl _ _⟩
open Go.RowKit
def or2 (a b : Int) : Int := if a = 0 then b else a
set_option maxRecDepth 100000 in
set_option maxHeartbeats 2000000 in
theorem por2_any (w : World) (g : Nat) (c0 c1 : Int) (hg : w.heap[g]? = some (.cells #[.int .i64 c0, .int .i64 c1] 27)) :
    Calls Tryd.prog 49 #[.slice (some ⟨g, 0, none⟩) 2 2] w fun e w' => e = .returned (.int .i64 (or2 c0 c1)) ∧ w' = w := by
  have q0 : w.cell? ⟨g, 0, none⟩ = some (.int .i64 c0) := cell_of_row w g 0 _ _ _ hg
  have q1 : w.cell? ⟨g, 1, none⟩ = some (.int .i64 c1) := cell_of_row w g 1 _ _ _ hg
  clear hg
  go_enter Tryd.func49, Tryd.ntmps49
  go_wp2_with fail
  go_loopw [5, 8] (fun _ i wr => wr = w ∧ ∃ j : Nat, i = .int .i64 j ∧ j ≤ 2 ∧ (0 < j → c0 = 0) ∧ (1 < j → c1 = 0)) (fun _ i _ => 2 - (intOf i).toNat)
  case atStart => exact ⟨rfl, 0, rfl, by omega, by omega, by omega⟩
  case round =>
    obtain ⟨rfl, j, rfl, hj, h1, h2⟩ := hrel
    obtain rfl | rfl | rfl : j = 0 ∨ j = 1 ∨ j = 2 := by omega
    · by_cases z : c0 = 0
      · subst z
        clear h1 h2
        go_wp2
        go_roundw
        case rel => exact ⟨trivial, 1, rfl, by omega, fun _ => trivial, by omega⟩
        case measure => simp [intOf]
      · have zb : (c0 != 0) = true := by simp [z]
        have zc : (c0 == 0) = false := by simp [z]
        have hv : Hid (or2 c0 c1 = c0) := if_neg z
        clear h1 h2 z
        go_wp2
        go_ret
        exact ⟨by rw [hv.out] <;> rfl, rfl⟩
    · obtain rfl := h1 (by omega)
      by_cases z : c1 = 0
      · subst z
        clear h1 h2
        go_wp2
        go_roundw
        case rel => exact ⟨trivial, 2, rfl, by omega, fun _ => trivial, fun _ => trivial⟩
        case measure => simp [intOf]
      · have zb : (c1 != 0) = true := by simp [z]
        have zc : (c1 == 0) = false := by simp [z]
        have hv : Hid (or2 0 c1 = c1) := if_pos rfl
        clear h1 h2 z
        go_wp2
        go_ret
        exact ⟨by rw [hv.out] <;> rfl, rfl⟩
    · obtain rfl := h1 (by omega)
      obtain rfl := h2 (by omega)
      clear h1 h2
      go_wp2
      go_ret
      exact ⟨rfl, rfl⟩
theorem uintS_bad {xs : List Int} {k : Int} (h : pUint xs = .inl k) : uintS xs 0 = (0, [], k) ∧ k ≠ 0 := by
  unfold pUint at h
  unfold uintS
  by_cases c : (tk 0 0 xs).2.2 = 0
  · rw [if_pos c] at h; simp at h
  · rw [if_neg c] at h
    rw [if_pos rfl, if_neg c, Sum.inl.inj h]
    refine ⟨rfl, ?_⟩
    rw [← Sum.inl.inj h]
    omega
theorem uintS_ok {xs r : List Int} {n : Nat} (h : pUint xs = .inr (n, r)) : uintS xs 0 = (n, r, 0) := by
  unfold pUint at h
  unfold uintS
  by_cases c : (tk 0 0 xs).2.2 = 0
  · rw [if_pos c] at h
    have := Sum.inr.inj h
    rw [if_pos rfl, if_pos c, (Prod.mk.inj this).1, (Prod.mk.inj this).2]
  · rw [if_neg c] at h; simp at h
theorem intS_bad {xs : List Int} {k : Int} {most : Nat} (h : pInt most xs = .inl k) : intS xs 0 most = (0, [], k) ∧ k ≠ 0 := by
  unfold pInt then_ at h
  unfold intS
  match e : pUint xs, h with
  | .inl q, h =>
    obtain ⟨e1, e2⟩ := uintS_bad e
    obtain rfl := Sum.inl.inj h
    rw [e1]
    simp [e2]
  | .inr (n, r), h =>
    have e1 := uintS_ok e
    simp only at h
    by_cases c : most < n
    · rw [if_pos c] at h
      obtain rfl := Sum.inl.inj h
      rw [e1]
      simp only [if_true]
      rw [if_pos (by omega)]
      simp
    · rw [if_neg c] at h; simp at h
theorem intS_ok {xs r : List Int} {n most : Nat} (h : pInt most xs = .inr (n, r)) : intS xs 0 most = (n, r, 0) ∧ n ≤ most := by
  unfold pInt then_ at h
  unfold intS
  match e : pUint xs, h with
  | .inl q, h => simp at h
  | .inr (m, s), h =>
    have e1 := uintS_ok e
    simp only at h
    by_cases c : most < m
    · rw [if_pos c] at h; simp at h
    · rw [if_neg c] at h
      have := Prod.mk.inj (Sum.inr.inj h)
      obtain ⟨rfl, rfl⟩ := this
      rw [e1]
      simp only [if_true]
      rw [if_neg (by omega)]
      exact ⟨rfl, by omega⟩
theorem bytesS_bad {xs : List Int} {k : Int} {most : Nat} (h : pBytes most xs = .inl k) : bytesS xs 0 most = ([], [], k) ∧ k ≠ 0 := by
  unfold pBytes then_ at h
  unfold bytesS
  match e : pInt most xs, h with
  | .inl q, h =>
    obtain ⟨e1, e2⟩ := intS_bad e
    obtain rfl := Sum.inl.inj h
    rw [e1]
    simp [e2]
  | .inr (n, r), h =>
    have e1 := (intS_ok e).1
    simp only at h
    by_cases c : r.length < n
    · rw [if_pos c] at h
      obtain rfl := Sum.inl.inj h
      rw [e1]
      simp only [if_true]
      rw [if_pos c]
      simp
    · rw [if_neg c] at h; simp at h
theorem bytesS_ok {xs r l : List Int} {most : Nat} (h : pBytes most xs = .inr (l, r)) : bytesS xs 0 most = (l, r, 0) ∧ l.length ≤ most := by
  unfold pBytes then_ at h
  unfold bytesS
  match e : pInt most xs, h with
  | .inl q, h => simp at h
  | .inr (m, s), h =>
    obtain ⟨e1, e2⟩ := intS_ok e
    simp only at h
    by_cases c : s.length < m
    · rw [if_pos c] at h; simp at h
    · rw [if_neg c] at h
      have := Prod.mk.inj (Sum.inr.inj h)
      obtain ⟨rfl, rfl⟩ := this
      rw [e1]
      simp only [if_true]
      rw [if_neg c]
      refine ⟨rfl, ?_⟩
      rw [List.length_take]
      omega
theorem boolS_bad {xs : List Int} {k : Int} (h : pBool xs = .inl k) : boolS xs 0 = (false, [], k) ∧ k ≠ 0 := by
  cases xs with
  | nil =>
    obtain rfl := Sum.inl.inj h
    exact ⟨rfl, by decide⟩
  | cons c r =>
    simp only [pBool] at h
    by_cases d : 1 < c
    · rw [if_pos d] at h
      obtain rfl := Sum.inl.inj h
      refine ⟨?_, by decide⟩
      simp [boolS, d]
    · rw [if_neg d] at h; simp at h
theorem boolS_ok {xs r : List Int} {b : Bool} (h : pBool xs = .inr (b, r)) : boolS xs 0 = (b, r, 0) := by
  cases xs with
  | nil => simp [pBool] at h
  | cons c s =>
    simp only [pBool] at h
    by_cases d : 1 < c
    · rw [if_pos d] at h; simp at h
    · rw [if_neg d] at h
      have := Prod.mk.inj (Sum.inr.inj h)
      obtain ⟨rfl, rfl⟩ := this
      simp [boolS, d]
theorem uintS_stuck {xs : List Int} {k : Int} (h : k ≠ 0) : uintS xs k = (0, xs, k) := by
  unfold uintS; rw [if_neg h]
theorem intS_stuck {xs : List Int} {k : Int} (h : k ≠ 0) (most : Int) : intS xs k most = (0, xs, k) := by
  unfold intS; rw [uintS_stuck h]; simp [h]
theorem bytesS_stuck {xs : List Int} {k : Int} (h : k ≠ 0) (most : Int) : bytesS xs k most = ([], xs, k) := by
  unfold bytesS; rw [intS_stuck h]; simp [h]
theorem boolS_stuck {xs : List Int} {k : Int} (h : k ≠ 0) : boolS xs k = (false, xs, k) := by
  unfold boolS; rw [if_neg h]
abbrev Th (α : Type) := List Int → Int → α × List Int × Int
structure Thr {α : Type} (P : List Int → Rs α) (f : Th α) : Prop where
  ok : ∀ xs v r, P xs = .inr (v, r) → f xs 0 = (v, r, 0)
  bad : ∀ xs q, P xs = .inl q → (f xs 0).2.2 = q ∧ q ≠ 0
  stuck : ∀ xs k, k ≠ 0 → (f xs k).2.2 = k
def andT {α β : Type} (f : Th α) (g : Th β) : Th (α × β) := fun xs k => (((f xs k).1, (g (f xs k).2.1 (f xs k).2.2).1), (g (f xs k).2.1 (f xs k).2.2).2)
theorem Thr.andThen {α β : Type} {P : List Int → Rs α} {Q : List Int → Rs β} {f : Th α} {g : Th β} (h : Thr P f) (k : Thr Q g) : Thr (andThen P fun _ => Q) (andT f g) := by
  refine ⟨?_, ?_, ?_⟩
  · rintro xs ⟨a, b⟩ r hx
    obtain ⟨a', r', e1, hx⟩ := then_good hx
    obtain ⟨b', r'', e2, hx⟩ := then_good hx
    simp only [Sum.inr.injEq, Prod.mk.injEq] at hx
    obtain ⟨⟨rfl, rfl⟩, rfl⟩ := hx
    unfold andT
    rw [h.ok _ _ _ e1]
    simp only
    rw [k.ok _ _ _ e2]
  · intro xs q hx
    unfold Go.Proofs.YtoagkffokfbpfaaDoor.andThen then_ at hx
    unfold andT
    match e : P xs, hx with
    | .inl q', hx =>
      obtain rfl := Sum.inl.inj hx
      obtain ⟨e1, e2⟩ := h.bad _ _ e
      refine ⟨?_, e2⟩
      rw [← e1] at e2 ⊢
      exact k.stuck _ _ e2
    | .inr (v, r), hx =>
      rw [h.ok _ _ _ e]
      simp only at hx ⊢
      match e' : Q r, hx with
      | .inl q', hx =>
        obtain rfl := Sum.inl.inj hx
        exact k.bad _ _ e'
      | .inr (v', r'), hx => simp at hx
  · intro xs q hq
    have e1 := h.stuck xs q hq
    have e2 : (f xs q).2.2 ≠ 0 := by rw [e1]; exact hq
    exact (k.stuck _ _ e2).trans e1
def mapT {α β : Type} (t : α → β) (f : Th α) : Th β := fun xs k => (t (f xs k).1, (f xs k).2)
theorem Thr.map {α β : Type} {P : List Int → Rs α} {f : Th α} (h : Thr P f) (t : α → β) : Thr (fun xs => dress t (P xs)) (mapT t f) := by
  refine ⟨?_, ?_, ?_⟩
  · intro xs b r hx
    obtain ⟨a, e, rfl⟩ := dress_good hx
    unfold mapT
    rw [h.ok _ _ _ e]
  · intro xs q hx
    unfold mapT
    match e : P xs, hx with
    | .inl q', hx =>
      obtain rfl := Sum.inl.inj hx
      exact h.bad _ _ e
    | .inr (v, r), hx =>
      simp [dress] at hx
  · intro xs q hq
    exact h.stuck xs q hq
def intT' (most : Nat) : Th Nat := fun xs k => intS xs k most
def byT (most : Nat) : Th (List Int) := fun xs k => bytesS xs k most
def txT (most : Nat) : Th ByteArray := mapT strOfNums (byT most)
theorem thr_uint : Thr pUint uintS := ⟨fun _ _ _ h => uintS_ok h, fun _ _ h => by rw [(uintS_bad h).1]; exact ⟨rfl, (uintS_bad h).2⟩, fun _ _ h => by rw [uintS_stuck h]⟩
theorem thr_int (most : Nat) : Thr (pInt most) (intT' most) := ⟨fun _ _ _ h => (intS_ok h).1, fun _ _ h => by show (intS _ 0 most).2.2 = _ ∧ _; rw [(intS_bad h).1]; exact ⟨rfl, (intS_bad h).2⟩, fun _ _ h => by show (intS _ _ _).2.2 = _; rw [intS_stuck h]⟩
theorem thr_bytes (most : Nat) : Thr (pBytes most) (byT most) := ⟨fun _ _ _ h => (bytesS_ok h).1, fun _ _ h => by show (bytesS _ 0 most).2.2 = _ ∧ _; rw [(bytesS_bad h).1]; exact ⟨rfl, (bytesS_bad h).2⟩, fun _ _ h => by show (bytesS _ _ _).2.2 = _; rw [bytesS_stuck h]⟩
theorem thr_bool : Thr pBool boolS := ⟨fun _ _ _ h => boolS_ok h, fun _ _ h => by rw [(boolS_bad h).1]; exact ⟨rfl, (boolS_bad h).2⟩, fun _ _ h => by rw [boolS_stuck h]⟩
theorem thr_text (most : Nat) : Thr (pText most) (txT most) := (thr_bytes most).map strOfNums
def keyT : Th (ByteArray × ByteArray × ByteArray × Nat) := andT (txT 32) (andT (txT 32) (andT (txT 32) uintS))
def rawT (most : Nat) : Th Raw := andT (intT' 100) (andT (txT 32) (andT (txT 32) (andT (txT 32) (andT uintS (andT (txT 32) (andT (byT 256) (andT (byT 256) (andT boolS (intT' most)))))))))
def sT (most : Nat) : Th SN := mapT toS (rawT most)
def andD {α β : Type} (f : Th α) (g : α → Th β) : Th (α × β) := fun xs k => (((f xs k).1, (g (f xs k).1 (f xs k).2.1 (f xs k).2.2).1), (g (f xs k).1 (f xs k).2.1 (f xs k).2.2).2)
theorem Thr.dep {α β : Type} {P : List Int → Rs α} {Q : α → List Int → Rs β} {f : Th α} {g : α → Th β} (h : Thr P f) (k : ∀ a, Thr (Q a) (g a)) : Thr (Go.Proofs.YtoagkffokfbpfaaDoor.andThen P Q) (andD f g) := by
  refine ⟨?_, ?_, ?_⟩
  · rintro xs ⟨a, b⟩ r hx
    obtain ⟨a', r', e1, hx⟩ := then_good hx
    obtain ⟨b', r'', e2, hx⟩ := then_good hx
    simp only [Sum.inr.injEq, Prod.mk.injEq] at hx
    obtain ⟨⟨rfl, rfl⟩, rfl⟩ := hx
    unfold andD
    rw [h.ok _ _ _ e1]
    simp only
    rw [(k _).ok _ _ _ e2]
  · intro xs q hx
    unfold Go.Proofs.YtoagkffokfbpfaaDoor.andThen then_ at hx
    unfold andD
    match e : P xs, hx with
    | .inl q', hx =>
      obtain rfl := Sum.inl.inj hx
      obtain ⟨e1, e2⟩ := h.bad _ _ e
      refine ⟨?_, e2⟩
      rw [← e1] at e2 ⊢
      exact (k _).stuck _ _ e2
    | .inr (v, r), hx =>
      rw [h.ok _ _ _ e]
      simp only at hx ⊢
      match e' : Q v r, hx with
      | .inl q', hx =>
        obtain rfl := Sum.inl.inj hx
        exact (k _).bad _ _ e'
      | .inr (v', r'), hx => simp at hx
  · intro xs q hq
    have e1 := h.stuck xs q hq
    have e2 : (f xs q).2.2 ≠ 0 := by rw [e1]; exact hq
    exact ((k _).stuck _ _ e2).trans e1
def repT {α : Type} (f : Th α) : Nat → Th (List α)
  | 0 => fun xs k => ([], xs, k)
  | n + 1 => fun xs k => ((f xs k).1 :: (repT f n (f xs k).2.1 (f xs k).2.2).1, (repT f n (f xs k).2.1 (f xs k).2.2).2)
theorem Thr.rep {α : Type} {P : List Int → Rs α} {f : Th α} (h : Thr P f) : ∀ n, Thr (pRep P n) (repT f n)
  | 0 => ⟨fun xs v r e => by simp only [pRep, Sum.inr.injEq, Prod.mk.injEq] at e; rw [← e.1, ← e.2]; rfl, fun xs q e => by simp [pRep] at e, fun _ _ _ => rfl⟩
  | n + 1 => by
    have ih := h.rep n
    refine ⟨?_, ?_, ?_⟩
    · rintro xs l r hx
      obtain ⟨a, r', e1, hx⟩ := then_good hx
      obtain ⟨l', r'', e2, hx⟩ := then_good hx
      simp only [Sum.inr.injEq, Prod.mk.injEq] at hx
      obtain ⟨rfl, rfl⟩ := hx
      unfold repT
      rw [h.ok _ _ _ e1]
      simp only
      rw [ih.ok _ _ _ e2]
    · intro xs q hx
      unfold pRep then_ at hx
      unfold repT
      match e : P xs, hx with
      | .inl q', hx =>
        obtain rfl := Sum.inl.inj hx
        obtain ⟨e1, e2⟩ := h.bad _ _ e
        refine ⟨?_, e2⟩
        rw [← e1] at e2 ⊢
        exact ih.stuck _ _ e2
      | .inr (v, r), hx =>
        rw [h.ok _ _ _ e]
        simp only at hx ⊢
        match e' : pRep P n r, hx with
        | .inl q', hx =>
          obtain rfl := Sum.inl.inj hx
          exact ih.bad _ _ e'
        | .inr (v', r'), hx => simp at hx
    · intro xs q hq
      have e1 := h.stuck xs q hq
      have e2 : (f xs q).2.2 ≠ 0 := by rw [e1]; exact hq
      exact (ih.stuck _ _ e2).trans e1
theorem repT_snoc {α : Type} (f : Th α) : ∀ (n : Nat) (xs : List Int) (k : Int), repT f (n + 1) xs k = ((repT f n xs k).1 ++ [(f (repT f n xs k).2.1 (repT f n xs k).2.2).1], (f (repT f n xs k).2.1 (repT f n xs k).2.2).2)
  | 0, xs, k => rfl
  | n + 1, xs, k => by
    have := repT_snoc f n (f xs k).2.1 (f xs k).2.2
    show ((f xs k).1 :: (repT f (n + 1) (f xs k).2.1 (f xs k).2.2).1, (repT f (n + 1) (f xs k).2.1 (f xs k).2.2).2) = _
    rw [this]
    rfl
def rdT {α : Type} (f : Th α) (kind : α → Int) (xs : List Int) : Sum Int α :=
  if doneS (f xs 0).2.1 (f xs 0).2.2 = 0 then (if kind (f xs 0).1 = 0 then .inr (f xs 0).1 else .inl (kind (f xs 0).1)) else .inl (doneS (f xs 0).2.1 (f xs 0).2.2)
theorem rd_thr {α : Type} {P : List Int → Rs α} {f : Th α} (h : Thr P f) (kind : α → Int) (xs : List Int) : rdAll P kind xs = rdT f kind xs := by
  unfold rdAll rdT
  match e : P xs with
  | .inl q =>
    obtain ⟨e1, e2⟩ := h.bad _ _ e
    rw [e1]
    unfold doneS
    rw [if_neg e2, if_neg e2]
  | .inr (v, r) =>
    rw [h.ok _ _ _ e]
    simp only
    unfold doneS
    by_cases c : r = []
    · rw [if_pos c, if_pos rfl, if_pos c, if_pos rfl]
    · rw [if_neg c, if_pos rfl, if_neg c]
      simp
theorem intS_le (xs : List Int) (k : Int) (most : Nat) : (intS xs k most).1 ≤ most := by
  unfold intS
  split
  · split
    · simp
    · rename_i h
      simp only [not_or] at h
      omega
  · simp
theorem bytesS_le (xs : List Int) (k : Int) (most : Nat) : (bytesS xs k most).1.length ≤ most := by
  unfold bytesS
  have := intS_le xs k most
  split
  · split
    · simp
    · simp only [List.length_take]
      omega
  · simp
theorem bytesS_byt {xs : List Int} (h : Byt xs) (k : Int) (most : Nat) : Byt (bytesS xs k most).1 ∧ Byt (bytesS xs k most).2.1 := by
  have hu : Byt (uintS xs k).2.1 := by
    unfold uintS
    split
    · split
      · exact h.drop _
      · intro x hx; simp at hx
    · exact h
  have hi : Byt (intS xs k most).2.1 := by
    unfold intS
    split
    · split
      · intro x hx; simp at hx
      · exact hu
    · exact hu
  unfold bytesS
  split
  · split
    · exact ⟨fun x hx => by simp at hx, fun x hx => by simp at hx⟩
    · exact ⟨hi.take _, hi.drop _⟩
  · exact ⟨fun x hx => by simp at hx, hi⟩
theorem str_size {l : List Int} (h : Byt l) : (strOfNums l).size = l.length := by rw [← sb_len, sb_str h]
open Go.RowKit
def Left (w : World) (p L : Nat) (t : List Int × Int) (w' : World) : Prop := R w' p L t.1 t.2 ∧ w.grownBy w' (some p)
set_option maxRecDepth 100000 in
set_option maxHeartbeats 1000000 in
theorem ttext_any (w : World) (p L : Nat) (xs : List Int) (k : Int) (h : R w p L xs k) :
    Calls Tryd.prog 84 #[.pointer (some ⟨p, 0, none⟩)] w fun e w' => e = .returned (.string (txT 32 xs k).1) ∧ Left w p L (txT 32 xs k).2 w' := by
  go_enter Tryd.func84, Tryd.ntmps84
  go_wp2_with fail
  refine (bytes_any w p L xs k 32 (by decide) h).mono ?_
  rintro e w1 ⟨ao, n, cap, rfl, S1, _, R1, G1⟩
  have c1 := conv_str S1
  obtain ⟨y, hy⟩ : ∃ y, y = strOfNums (bytesS xs k 32).1 := ⟨_, rfl⟩
  have HY : Hid (y = strOfNums (bytesS xs k 32).1) := hy
  rw [← hy] at c1
  have HR : Hid (R w1 p L (bytesS xs k 32).2.1 (bytesS xs k 32).2.2) := R1
  clear hy S1 R1 h
  go_wp2
  go_ret
  exact ⟨by show Ending.returned (Value.string y) = _; rw [HY.out]; exact rfl, HR.out, G1⟩
theorem grown_own {w W : World} {p q i : Nat} {v : Value} (h : w.grownBy W (some p)) (hq : w.heap.size ≤ q) : w.grownBy (W.setCell ⟨q, i, none⟩ v) (some p) :=
  ⟨h.os, h.tape, h.output, by rw [World.size_setCell]; exact h.size, fun j hj hne => (Below.heap_setCell W ⟨q, i, none⟩ v j (by show j ≠ q; omega)).trans (h.block j hj hne)⟩
theorem R.own {W : World} {p L q i : Nat} {v : Value} {xs : List Int} {k : Int} (h : R W p L xs k) (hp : p < q) (hL : L ≤ q) : R (W.setCell ⟨q, i, none⟩ v) p L xs k := h.keep (by omega) hL (grown_setCell W q i v)
theorem R.plt {W : World} {p L : Nat} {xs : List Int} {k : Int} (h : R W p L xs k) : p < W.heap.size ∧ L ≤ p := by
  obtain ⟨ao, n, cap, h⟩ := h
  exact ⟨h.plt, h.le⟩
def zeroKA : KA := ⟨⟨#[]⟩, ⟨#[]⟩, ⟨#[]⟩, 0⟩
def keyOf (q : ByteArray × ByteArray × ByteArray × Nat) : KA := ⟨q.1, q.2.1, q.2.2.1, q.2.2.2⟩
theorem KyC.grown {V V' : World} {q p : Nat} {k : KA} (h : KyC V q k) (hg : V.grownBy V' (some p)) (hne : q ≠ p) : KyC V' q k := (hg.block q h.lt (by simp; omega)).trans h
set_option maxRecDepth 100000 in
set_option maxHeartbeats 4000000 in
theorem tkey_any (w : World) (p L : Nat) (xs : List Int) (k : Int) (h : R w p L xs k) :
    Calls Tryd.prog 74 #[.pointer (some ⟨p, 0, none⟩)] w fun e w' => e = .returned (keyOf (keyT xs k).1).val ∧ Left w p L (keyT xs k).2 w' := by
  have hpl := h.plt
  have K0 : KyC (w.alloc (.cells #[.string ⟨#[]⟩, .string ⟨#[]⟩, .string ⟨#[]⟩, .int .u64 0] 74)) w.heap.size zeroKA := heap_alloc_new w _
  have B0 : Below w.heap.size w (w.alloc (.cells #[.string ⟨#[]⟩, .string ⟨#[]⟩, .string ⟨#[]⟩, .int .u64 0] 74)) := (Below.refl _ w).alloc (Nat.le_refl _) _
  have R0 := h.below B0
  have G0 : w.grownBy _ (some p) := grown_below B0
  clear h
  go_enter Tryd.func74, Tryd.ntmps74
  go_wp2_with fail
  obtain ⟨w0, hw0⟩ : ∃ W, W = w.alloc (.cells #[.string ⟨#[]⟩, .string ⟨#[]⟩, .string ⟨#[]⟩, .int .u64 0] 74) := ⟨_, rfl⟩
  obtain ⟨N, hN⟩ : ∃ N, N = w.heap.size := ⟨_, rfl⟩
  rw [← hw0] at K0 R0 G0 ⊢
  rw [← hN] at K0 ⊢
  have HN : Hid (N = w.heap.size) := hN
  have hne : N ≠ p := by omega
  have hpN : p < N ∧ L ≤ N := by omega
  clear hw0 hN B0
  refine (ttext_any w0 p L xs k R0).mono ?_
  rintro e w1 ⟨rfl, R1, G1⟩
  obtain ⟨r1, e1⟩ : ∃ r, r = txT 32 xs k := ⟨_, rfl⟩
  have E1 : Hid (r1 = txT 32 xs k) := e1
  rw [← e1] at R1 ⊢
  clear e1
  have K1 := K0.grown G1 hne
  have G1 := grown_trans G0 G1
  clear K0 R0 G0
  go_wp2_with fail
  refine (ttext_any w1 p L r1.2.1 r1.2.2 R1).mono ?_
  rintro e w2 ⟨rfl, R2, G2⟩
  obtain ⟨r2, e2⟩ : ∃ r, r = txT 32 r1.2.1 r1.2.2 := ⟨_, rfl⟩
  have E2 : Hid (r2 = txT 32 r1.2.1 r1.2.2) := e2
  rw [← e2] at R2 ⊢
  clear e2
  have K2 := K1.grown G2 hne
  have G2 := grown_trans G1 G2
  clear K1 R1 G1
  go_wp2_with fail
  refine (ttext_any w2 p L r2.2.1 r2.2.2 R2).mono ?_
  rintro e w3 ⟨rfl, R3, G3⟩
  obtain ⟨r3, e3⟩ : ∃ r, r = txT 32 r2.2.1 r2.2.2 := ⟨_, rfl⟩
  have E3 : Hid (r3 = txT 32 r2.2.1 r2.2.2) := e3
  rw [← e3] at R3 ⊢
  clear e3
  have K3 := K2.grown G3 hne
  have G3 := grown_trans G2 G3
  clear K2 R2 G2
  go_wp2_with fail
  refine (uint_any w3 p L r3.2.1 r3.2.2 R3).mono ?_
  rintro e w4 ⟨rfl, R4, G4⟩
  obtain ⟨r4, e4⟩ : ∃ r, r = uintS r3.2.1 r3.2.2 := ⟨_, rfl⟩
  have E4 : Hid (r4 = uintS r3.2.1 r3.2.2) := e4
  rw [← e4] at R4 ⊢
  clear e4
  have K4 := K3.grown G4 hne
  have G4 := grown_trans G3 G4
  clear K3 R3 G3
  have q0 := K4.c0
  have q1 := K4.c1
  have q2 := K4.c2
  have q3 := K4.c3
  have f0 : w4.frozen? ⟨N, 0, none⟩ = false := frozen_of_row w4 N 0 _ _ K4
  have f1 : w4.frozen? ⟨N, 1, none⟩ = false := frozen_of_row w4 N 1 _ _ K4
  have f2 : w4.frozen? ⟨N, 2, none⟩ = false := frozen_of_row w4 N 2 _ _ K4
  have f3 : w4.frozen? ⟨N, 3, none⟩ = false := frozen_of_row w4 N 3 _ _ K4
  have lt := K4.lt
  have hwN : w.heap.size ≤ N := by rw [HN.out]; exact Nat.le_refl _
  have RF : R ((((w4.setCell ⟨N, 0, none⟩ (.string r1.1)).setCell ⟨N, 1, none⟩ (.string r2.1)).setCell ⟨N, 2, none⟩ (.string r3.1)).setCell ⟨N, 3, none⟩ (.int .u64 r4.1)) p L r4.2.1 r4.2.2 := (((R4.own hpN.1 hpN.2).own hpN.1 hpN.2).own hpN.1 hpN.2).own hpN.1 hpN.2
  have GF : w.grownBy ((((w4.setCell ⟨N, 0, none⟩ (.string r1.1)).setCell ⟨N, 1, none⟩ (.string r2.1)).setCell ⟨N, 2, none⟩ (.string r3.1)).setCell ⟨N, 3, none⟩ (.int .u64 r4.1)) (some p) := grown_own (grown_own (grown_own (grown_own G4 hwN) hwN) hwN) hwN
  have HK : Hid (keyT xs k = ((r1.1, r2.1, r3.1, r4.1), r4.2)) := by
    show _ = _
    unfold keyT andT
    rw [← E1.out, ← E2.out, ← E3.out, ← E4.out]
  clear hne hpN G4 R4 K4
  go_wp2
  refine bodyPost_ret (v := .agg #[.string r1.1, .string r2.1, .string r3.1, .int .u64 r4.1]) (by simp [results, Tryd.results74, go_sem, q0, q1, q2, q3]) rfl ⟨?_, ?_⟩
  · rw [HK.out]
    rfl
  · rw [HK.out]
    exact ⟨RF, GF⟩
open Go.RowKit
theorem rd_or {α : Type} (f : Th α) (kind : α → Int) (xs : List Int) : rdT f kind xs = if or2 (doneS (f xs 0).2.1 (f xs 0).2.2) (kind (f xs 0).1) = 0 then .inr (f xs 0).1 else .inl (or2 (doneS (f xs 0).2.1 (f xs 0).2.2) (kind (f xs 0).1)) := by
  unfold rdT or2
  by_cases c : doneS (f xs 0).2.1 (f xs 0).2.2 = 0
  · simp only [c, if_true]
  · simp only [c, if_false]
open Go.RowKit
theorem txT_ok {xs : List Int} (h : Byt xs) {k : Int} : (txT 32 xs k).1.size ≤ 32 := by
  show (strOfNums (bytesS xs k ((32 : Nat) : Int)).1).size ≤ 32
  rw [str_size (bytesS_byt h k 32).1]
  exact bytesS_le xs k 32
theorem txT_byt {xs : List Int} (h : Byt xs) {k : Int} : Byt (txT 32 xs k).2.1 := (bytesS_byt h k 32).2
theorem keyT_ok {xs : List Int} (h : Byt xs) {k : Int} : (keyT xs k).1.1.size ≤ 32 ∧ (keyT xs k).1.2.1.size ≤ 32 ∧ (keyT xs k).1.2.2.1.size ≤ 32 ∧ (keyT xs k).1.2.2.2 < 18446744073709551616 :=
  ⟨txT_ok h, txT_ok (txT_byt h), txT_ok (txT_byt (txT_byt h)), uintS_lt (txT_byt (txT_byt (txT_byt h)))⟩
open Go.RowKit
set_option maxHeartbeats 400000 in
theorem clone_any (w : World) (ao : Option Addr) (n cap : Nat) (xs : List Int) (h : Sl w ao n cap xs) (hr : n ≤ 140737488355328) :
    Calls Tryd.prog 68 #[.slice ao n cap] w fun e w' => ∃ v, e = .returned v ∧ w'.ownsRow w.heap.size 5 1 v n (bv xs) ∧ Below w.heap.size w w' := by
  have hA := h.below ((Below.refl w.heap.size w).alloc (Nat.le_refl _) (.cells #[] 5))
  have hO := own_empty w
  have hq : ∀ W, (binOp .eql 50 (.slice ao n cap) (.slice none 0 0)).run Tryd.prog W = .ok (.bool ao.isNone) W := fun W => Lib.run_eql_slice_nil W _ _ ao n cap 0 0 Tryd.underlying50
  cases ao with
  | none =>
    obtain ⟨rfl, rfl⟩ := h.nil rfl
    obtain rfl : xs = [] := List.eq_nil_of_length_eq_zero h.len
    go_enter Tryd.func68, Tryd.ntmps68
    go_wp2
    go_ret
    exact ⟨_, rfl, World.ownsRow_nil _ _ _ _, Below.refl _ _⟩
  | some a =>
    go_enter Tryd.func68, Tryd.ntmps68
    go_wp2_with (at_builtin; refine wpList_app rfl _ _ rfl w.heap.size _ _ _ rfl hO _ _ _ _ rfl hA (by omega) (by simp) ?_; intro v1 w1 hown1 hb1)
    simp only [Nat.zero_add, List.nil_append] at hown1
    have hb2 := ((Below.refl w.heap.size w).alloc (Nat.le_refl _) _).trans hb1
    clear hb1 hO hA hq
    go_ret
    exact ⟨v1, rfl, hown1, hb2⟩
theorem new_reader (w : World) (t : TypeId) (bo : Option Addr) (n c : Nat) (xs : List Int) (hsl : Sl w bo n c xs) (hlt : ∀ a, bo = some a → 0 < n → a.block < w.heap.size) (hn : n ≤ 1000000) :
    R (w.alloc (.cells #[.slice bo n c, .int .i64 0] t)) w.heap.size w.heap.size xs 0 := by
  refine ⟨bo, n, c, ?_, ?_, ?_, ?_, hsl.below ((Below.refl _ w).alloc (Nat.le_refl _) _), hlt, Nat.le_refl _, hn⟩
  · go_simp
  · go_simp
  · go_simp
  · go_simp
set_option maxHeartbeats 400000 in
theorem read_any (w : World) (ao : Option Addr) (n cap : Nat) (xs : List Int) (h : Sl w ao n cap xs) (hr : n ≤ 1000000) :
    Calls Tryd.prog 43 #[.slice ao n cap] w fun e w' => ∃ p, e = .returned (.pointer (some ⟨p, 0, none⟩)) ∧ w.heap.size ≤ p ∧ R w' p p xs 0 ∧ Below w.heap.size w w' := by
  go_enter Tryd.func43, Tryd.ntmps43
  go_wp2_with fail
  refine (clone_any w ao n cap xs h (by omega)).mono ?_
  rintro e w1 ⟨v1, rfl, hown1, hb1⟩
  obtain ⟨bo, c2, rfl, hsl, hbo⟩ := Sl.own hown1 h.byte
  have hs := hb1.size
  have hfin := new_reader w1 104 bo n c2 xs hsl (fun a ha _ => (hbo a ha).2.1) hr
  have hb2 := hb1.alloc hs (.cells #[.slice bo n c2, .int .i64 0] 104)
  clear hown1 hsl hbo hb1
  go_wp2
  go_ret
  exact ⟨w1.heap.size, rfl, hs, hfin, hb2⟩
end Go.Proofs.YtoagkffokfbpfaaDoor
namespace Go
section
variable {P : Program} {ops : Array Oper} {S : World → Prop} {Q : Exit → Act → World → Prop} {fuel : Nat} {listed : Array Bool} {a : Act} {w : World}
theorem op_do (i : Nat) (d : Option Tmp) (v : Value) {oi : Oper} {w' : World} (hi : ops[i]? = some oi) (hd : oi.dst = d) (hg : oi.guard = none) (hrun : (execOp a.eval oi).run P w = .ok (.value v) w') (hS : S w')
    (h : wpAnyH P .any ops (NoPanic Q) S fuel (listed.setIfInBounds i true) (a.put d v) w') : wpOp P ops (NoPanic Q) i (fun a' w' => S w' ∧ wpAnyH P .any ops (NoPanic Q) S fuel (listed.setIfInBounds i true) a' w') a w := by
  have hw : Region.wanted oi (yielded ops a.tmps) = true := by simp [Region.wanted, hg]
  unfold wpOp
  simp only [hi, hw, if_true, Oper.wp, hrun, Oper.upon, hd]
  exact .inl ⟨hS, h⟩
theorem op_call (i : Nat) (d : Option Tmp) {oi : Oper} (f : FuncId) (args : Array Value) (hi : ops[i]? = some oi) (hd : oi.dst = d) (hg : oi.guard = none) (hrun : (execOp a.eval oi).run P w = .ok (.enter f args) w)
    (R : Value → World → Prop) (hc : Calls P f args w fun e w' => ∃ v, e = .returned v ∧ R v w')
    (h : ∀ v w', R v w' → S w' ∧ wpAnyH P .any ops (NoPanic Q) S fuel (listed.setIfInBounds i true) (a.put d v) w') : wpOp P ops (NoPanic Q) i (fun a' w' => S w' ∧ wpAnyH P .any ops (NoPanic Q) S fuel (listed.setIfInBounds i true) a' w') a w := by
  have hw : Region.wanted oi (yielded ops a.tmps) = true := by simp [Region.wanted, hg]
  unfold wpOp
  simp only [hi, hw, if_true, Oper.wp, hrun, Oper.upon, hd]
  refine .inl (hc.mono ?_)
  rintro e w' ⟨v, rfl, hR⟩
  exact h v w' hR
theorem hr_two {i j : Nat} (hr : Region.ready .any ops listed = [i, j]) (h1 : wpOp P ops (NoPanic Q) i (fun a' w' => S w' ∧ wpAnyH P .any ops (NoPanic Q) S fuel (listed.setIfInBounds i true) a' w') a w)
    (h2 : wpOp P ops (NoPanic Q) j (fun a' w' => S w' ∧ wpAnyH P .any ops (NoPanic Q) S fuel (listed.setIfInBounds j true) a' w') a w) : wpAnyH P .any ops (NoPanic Q) S (fuel + 1) listed a w := by
  refine wpAnyH_all hr (by simp) fun k hk => ?_
  simp only [List.mem_cons, List.not_mem_nil, or_false] at hk
  rcases hk with rfl | rfl
  · exact h1
  · exact h2
theorem hr_own (i : Nat) (d : Option Tmp) {oi : Oper} (hi : ops[i]? = some oi) (hd : oi.dst = d) (hr : Region.ready .any ops listed = [i]) (hg : oi.guard = none) (s x : Operand) (t : TypeId)
    (ho : oi.op = .call { callee := .builtin .append, args := #[s, x], argTypes := #[t, t] })
    (base : Nat) (e : TypeId) (inf : TypeInfo) (z : Value) (size bytes : Nat) (ht : P.underlying t = some (.slice e)) (hinf : P.info? e = some inf) (hz : inf.zero = some z)
    (hsize : inf.size = size) (hby : inf.bytes = bytes) (hzs : z.cells.size = size) (hsz : 0 < size)
    (v : Value) (n : Nat) (xs : List Value) (hs : a.eval s = v) (hown : w.ownsRow base e size v n xs)
    (ad : Addr) (m c : Nat) (news : List Value) (hx : a.eval x = .slice (some ad) m c) (hl : news.length = m * size) (hnews : ∀ j u, news[j]? = some u → w.cell? (ad.add j) = some u) (h1 : ∀ u ∈ news, u.oneCell' = true)
    (h63 : n + m ≤ maxLen) (hbytes : (n + m) * bytes ≤ 140737488355328) (hbase : base ≤ w.heap.size)
    (h : ∀ v' w', w'.ownsRow base e size v' (n + m) (xs ++ news) → w.grownBy w' v.ownBlock → (∀ g, v'.ownBlock = some g → v.ownBlock = some g ∨ w.heap.size ≤ g) → S w' ∧ wpAnyH P .any ops (NoPanic Q) S fuel (listed.setIfInBounds i true) (a.put d v') w') : wpAnyH P .any ops (NoPanic Q) S (fuel + 1) listed a w := by
  refine wpAnyH_all hr (by simp) fun j hj => ?_
  obtain rfl := List.mem_singleton.1 hj
  have hw : Region.wanted oi (yielded ops a.tmps) = true := by simp [Region.wanted, hg]
  obtain ⟨v', w', hrun, h2, h3, h4⟩ := Go.Proofs.YtoagkffokfbpfaaDoor.run_append_own2 (P := P) w base t oi.type e inf z size bytes ht hinf hz hsize hby hzs hsz v n xs hown ad m c news hl hnews h1 h63 hbytes hbase
  unfold wpOp
  simp only [hi, hw, if_true]
  refine .inl ?_
  unfold Oper.wp execOp
  simp only [ho, resolve, invoke, builtin, Sem.run_bind, Sem.run_pure, Result.andThen_ok, List.map_toArray, List.map_cons, List.map_nil, hs, hx, hrun, Oper.upon, hd]
  exact h v' w' h2 h3 h4
end
end Go
namespace Go.Proofs.YtoagkffokfbpfaaDoor
open Go.RowKit
def Bs.blk (b : Bs) (x : Nat) : Prop := ∃ a, b.ao = some a ∧ 0 < b.n ∧ a.block = x
theorem Sl.blk_lt {w : World} {b : Bs} (h : Sl w b.ao b.n b.cap b.xs) {x : Nat} (hx : b.blk x) : x < w.heap.size := by
  obtain ⟨a, ha, hn, rfl⟩ := hx
  exact h.lt a ha hn
theorem Sl.kept {w w' : World} {b : Bs} (h : Sl w b.ao b.n b.cap b.xs) (hk : ∀ x, b.blk x → w'.heap[x]? = w.heap[x]?) : Sl w' b.ao b.n b.cap b.xs := by
  refine ⟨h.len, h.le, h.mx, h.nil, fun a ha i hi => ?_, h.byte⟩
  have hb : (a.add i).block = a.block := by unfold Addr.add; split <;> rfl
  rw [← h.cell a ha i hi]
  exact World.cell?_of_block (by rw [hb]; exact hk _ ⟨a, ha, by omega, rfl⟩)
open Go.RowKit
def cT : Th CV := mapT toC (andT (txT 32) (andT (txT 32) (andT (txT 32) (andT uintS (andT (byT 256) boolS)))))
theorem thr_c : Thr pC cT := ((thr_text 32).andThen ((thr_text 32).andThen ((thr_text 32).andThen (thr_uint.andThen ((thr_bytes 256).andThen thr_bool))))).map toC
def resTh : Th RV := mapT toR (andT (intT' 100) (andD (intT' 16) fun n => andT (repT cT n) boolS))
theorem thr_r : Thr pR resTh := ((thr_int 100).andThen ((thr_int 16).dep fun n => (thr_c.rep n).andThen thr_bool)).map toR
theorem cT_key (xs : List Int) (k : Int) : cT xs k = (⟨(keyT xs k).1.1, (keyT xs k).1.2.1, (keyT xs k).1.2.2.1, (keyT xs k).1.2.2.2, (bytesS (keyT xs k).2.1 (keyT xs k).2.2 256).1, (boolS (bytesS (keyT xs k).2.1 (keyT xs k).2.2 256).2.1 (bytesS (keyT xs k).2.1 (keyT xs k).2.2 256).2.2).1⟩, (boolS (bytesS (keyT xs k).2.1 (keyT xs k).2.2 256).2.1 (bytesS (keyT xs k).2.1 (keyT xs k).2.2 256).2.2).2) := by
  have e : ((256 : Nat) : Int) = 256 := rfl
  unfold cT mapT
  simp only [andT, keyT, byT, toC, e]
theorem CA.ok.blk_lt {c : CA} {w : World} (h : c.ok w) {x : Nat} (hx : c.va.blk x) : x < w.heap.size := h.va.blk_lt hx
theorem CA.ok.kept {c : CA} {w w' : World} (h : c.ok w) (hk : ∀ x, c.va.blk x → w'.heap[x]? = w.heap[x]?) : c.ok w' := ⟨h.row, h.fam, h.qual, h.time, h.va.kept hk⟩
def sblk (ao : Option Addr) (n x : Nat) : Prop := ∃ a, ao = some a ∧ 0 < n ∧ a.block = x
theorem CL.kept {w w' : World} {ao : Option Addr} {n cap : Nat} {l : List CA} (h : CL w ao n cap l) (hk : ∀ x, (sblk ao n x ∨ ∃ c ∈ l, c.va.blk x) → w'.heap[x]? = w.heap[x]?) : CL w' ao n cap l := by
  refine ⟨h.len, h.le, h.mx, h.nil, fun a ha i hi j v hv => ?_, fun y hy => (h.ok y hy).kept fun x hx => hk x (.inr ⟨y, hy, hx⟩)⟩
  have hb : (a.add (i * 6 + j)).block = a.block := by unfold Addr.add; split <;> rfl
  rw [← h.cell a ha i hi j v hv]
  exact World.cell?_of_block (by rw [hb]; exact hk _ (.inl ⟨a, ha, by have := h.len; omega, rfl⟩))
def RW (V : World) (p : Nat) (e : Int) (v : Value) (m : Bool) : Prop := V.heap[p]? = some (.cells #[.int .i64 e, v, .bool m] 37)
theorem RW.lt {V : World} {p : Nat} {e : Int} {v : Value} {m : Bool} (h : RW V p e v m) : p < V.heap.size := (Array.getElem?_eq_some_iff.1 h).1
theorem RW.kept {V V' : World} {p : Nat} {e : Int} {v : Value} {m : Bool} (h : RW V p e v m) (hk : V'.heap[p]? = V.heap[p]?) : RW V' p e v m := hk.trans h
theorem RW.c0 {V : World} {p : Nat} {e : Int} {v : Value} {m : Bool} (h : RW V p e v m) : V.cell? ⟨p, 0, none⟩ = some (.int .i64 e) := cell_of_row V p 0 _ _ _ h
theorem RW.c1 {V : World} {p : Nat} {e : Int} {v : Value} {m : Bool} (h : RW V p e v m) : V.cell? ⟨p, 1, none⟩ = some v := cell_of_row V p 1 _ _ _ h
theorem RW.c2 {V : World} {p : Nat} {e : Int} {v : Value} {m : Bool} (h : RW V p e v m) : V.cell? ⟨p, 2, none⟩ = some (.bool m) := cell_of_row V p 2 _ _ _ h
theorem RW.fz {V : World} {p : Nat} {e : Int} {v : Value} {m : Bool} (h : RW V p e v m) (i : Nat) : V.frozen? ⟨p, i, none⟩ = false := frozen_of_row V p i _ _ h
theorem RW.setL {V : World} {p : Nat} {e : Int} {v : Value} {m : Bool} (h : RW V p e v m) (u : Value) : RW (V.setCell ⟨p, 1, none⟩ u) p e u m := heap_setCell_same V p 1 _ _ _ h
theorem RW.setM {V : World} {p : Nat} {e : Int} {v : Value} {m : Bool} (h : RW V p e v m) (b : Bool) : RW (V.setCell ⟨p, 2, none⟩ (.bool b)) p e v b := heap_setCell_same V p 2 _ _ _ h
structure ResInv (w : World) (p L N M parts : Nat) (e : Int) (hx : List Int) (hk : Int) (V : World) (v : Value) (l : List CA) : Prop where
  rd : R V p L (repT cT l.length hx hk).2.1 (repT cT l.length hx hk).2.2
  ov : RW V M e v false
  res : RW V N 0 (.slice none 0 0) false
  own : V.ownsRow (M + 1) 76 6 v l.length (cellsC l)
  oks : ∀ y ∈ l, y.ok V
  far : ∀ x, (∃ y ∈ l, y.va.blk x) → M < x ∧ v.ownBlock ≠ some x
  thr : l.map CA.c = (repT cT l.length hx hk).1
  bel : Below N w V
  le : l.length ≤ parts
  pos : L ≤ p ∧ p < M ∧ N < p
theorem ResInv.drew {w : World} {p L N M parts : Nat} {e : Int} {hx : List Int} {hk : Int} {V : World} {v : Value} {l : List CA} (h : ResInv w p L N M parts e hx hk V v l) : ResInv w p L N M parts e hx hk V.drew v l :=
  ⟨h.rd.below (Below.refl _ _).drew, h.ov, h.res, h.own.drew, fun y hy => (h.oks y hy).below (Below.refl _ _).drew, h.far, h.thr, h.bel.drew, h.le, h.pos⟩
theorem ResInv.ownlt {w : World} {p L N M parts : Nat} {e : Int} {hx : List Int} {hk : Int} {V : World} {v : Value} {l : List CA} (h : ResInv w p L N M parts e hx hk V v l) {g : Nat} (hg : v.ownBlock = some g) : M < g ∧ g < V.heap.size := by
  have := h.own.lt g hg
  omega
theorem ResInv.step {w : World} {p L N M parts : Nat} {e : Int} {hx : List Int} {hk : Int} {V : World} {v : Value} {l : List CA} (h : ResInv w p L N M parts e hx hk V v l) (hlt : l.length < parts)
    {y : CA} {V1 V3 : World} {v' : Value} {ob : Obj} (y1 : y.ok V1) (y2 : ∀ x, y.va.blk x → V.heap.size ≤ x) (y3 : y.c = (cT (repT cT l.length hx hk).2.1 (repT cT l.length hx hk).2.2).1)
    (y4 : R V1 p L (cT (repT cT l.length hx hk).2.1 (repT cT l.length hx hk).2.2).2.1 (cT (repT cT l.length hx hk).2.1 (repT cT l.length hx hk).2.2).2.2) (y5 : V.grownBy V1 (some p))
    (a1 : V3.ownsRow (M + 1) 76 6 v' (l.length + 1) (cellsC l ++ y.cells)) (a2 : (V1.alloc ob).grownBy V3 v.ownBlock) (a3 : ∀ g, v'.ownBlock = some g → v.ownBlock = some g ∨ (V1.alloc ob).heap.size ≤ g) :
    ResInv w p L N M parts e hx hk (V3.setCell ⟨M, 1, none⟩ v') v' (l ++ [y]) := by
  have hp := h.pos
  have sz1 := y5.size
  have sz2 : (V1.alloc ob).heap.size = V1.heap.size + 1 := by simp
  have sz3 := a2.size
  have key : ∀ x, x < V1.heap.size → v.ownBlock ≠ some x → V3.heap[x]? = V1.heap[x]? := fun x hx1 hx2 => (a2.block x (by omega) (fun e => hx2 e.symm)).trans (heap_alloc_old V1 ob hx1)
  have own1 : ∀ x, x ≤ M → v.ownBlock ≠ some x := fun x hx1 hx2 => by have := (h.ownlt hx2).1; omega
  have hM : M < V.heap.size := h.ov.lt
  have RB : ∀ x, x < V.heap.size → x ≠ p → V1.heap[x]? = V.heap[x]? := fun x hx1 hx2 => y5.block x hx1 (by simp; exact hx2)
  have ov3 : RW V3 M e v false := (h.ov.kept (RB M hM (by omega))).kept (key M (by omega) (own1 M (Nat.le_refl _)))
  have hset : ∀ x, x ≠ M → (V3.setCell ⟨M, 1, none⟩ v').heap[x]? = V3.heap[x]? := (same_set V3 M 1 v').2
  have fin : ∀ x, x < V.heap.size → x ≠ p → x ≠ M → v.ownBlock ≠ some x → (V3.setCell ⟨M, 1, none⟩ v').heap[x]? = V.heap[x]? := fun x b1 b2 b3 b4 => ((hset x b3).trans (key x (by omega) b4)).trans (RB x b1 b2)
  refine ⟨?_, ov3.setL v', ?_, ?_, ?_, ?_, ?_, ?_, ?_, hp⟩
  · rw [List.length_append, List.length_singleton, repT_snoc]
    obtain ⟨ao, n, cap, r⟩ := y4
    have r3 : R V3 p L (cT (repT cT l.length hx hk).2.1 (repT cT l.length hx hk).2.2).2.1 (cT (repT cT l.length hx hk).2.1 (repT cT l.length hx hk).2.2).2.2 := by
      have rp : p < V1.heap.size := r.plt
      have hbk := key p rp (own1 p (by omega))
      refine ⟨ao, n, cap, (World.cell?_of_block (a := ⟨p, 0, none⟩) hbk).trans r.c0, (World.cell?_of_block (a := ⟨p, 1, none⟩) hbk).trans r.c1, (World.frozen?_of_block (a := ⟨p, 0, none⟩) hbk).trans r.f0, (World.frozen?_of_block (a := ⟨p, 1, none⟩) hbk).trans r.f1, ?_, r.low, r.le, r.sm⟩
      exact Sl.kept (b := ⟨ao, n, cap, _⟩) r.sl (fun x hx1 => by
        obtain ⟨a, ha, hn, rfl⟩ := hx1
        have hl1 := r.low a ha hn
        exact key _ (by omega) (own1 _ (by omega)))
    exact r3.own (by omega) (by omega)
  · exact h.res.kept (fin N h.res.lt (by omega) (by omega) (own1 N (by omega)))
  · rw [List.length_append, List.length_singleton]
    have e : cellsC (l ++ [y]) = cellsC l ++ y.cells := by unfold cellsC; simp
    rw [e]
    refine own_kept a1 fun g hg => hset g ?_
    have := (a1.lt g hg).1
    omega
  · intro q hq
    rcases List.mem_append.1 hq with hq | hq
    · exact (h.oks q hq).kept fun x hx1 => fin x ((h.oks q hq).blk_lt hx1) (by have := (h.far x ⟨q, hq, hx1⟩).1; omega) (by have := (h.far x ⟨q, hq, hx1⟩).1; omega) (h.far x ⟨q, hq, hx1⟩).2
    · rw [List.mem_singleton.1 hq]
      refine y1.kept fun x hx1 => ?_
      have c1 := y2 x hx1
      have c2 := y1.blk_lt hx1
      have c3 : v.ownBlock ≠ some x := fun e => by have := h.ownlt e; omega
      exact (hset x (by omega)).trans (key x c2 c3)
  · intro x hx1
    have old : ∀ x, x < V1.heap.size → v.ownBlock ≠ some x → v'.ownBlock ≠ some x := fun x b1 b2 b3 => by
      rcases a3 x b3 with c | c
      · exact b2 c
      · omega
    obtain ⟨q, hq, hx1⟩ := hx1
    rcases List.mem_append.1 hq with hq | hq
    · have := h.far x ⟨q, hq, hx1⟩
      exact ⟨this.1, old x (by have := (h.oks q hq).blk_lt hx1; omega) this.2⟩
    · rw [List.mem_singleton.1 hq] at hx1
      have c1 := y2 x hx1
      have c2 := y1.blk_lt hx1
      refine ⟨by omega, old x c2 fun e => ?_⟩
      have := h.ownlt e
      omega
  · rw [List.length_append, List.length_singleton, repT_snoc, List.map_append, h.thr, ← y3]
    rfl
  · have hb := h.bel.size
    refine Below.setCell (h.bel.trans ⟨?_, ?_, ?_, ?_, ?_⟩) (by show N ≤ M; omega) _
    · rw [a2.os]; exact y5.os
    · rw [a2.tape]; exact y5.tape
    · rw [a2.output]; exact y5.output
    · omega
    · intro x b1
      have b2 := h.res.lt
      exact (key x (by omega) (own1 x (by omega))).trans (RB x (by omega) (by omega))
  · rw [List.length_append, List.length_singleton]
    omega
open Go.RowKit
theorem resTh_eq {xs : List Int} {r1 r2 : Nat × List Int × Int} {c : List CV × List Int × Int} {b : Bool × List Int × Int} (h1 : r1 = intS xs 0 100) (h2 : r2 = intS r1.2.1 r1.2.2 16) (h3 : c = repT cT r2.1 r2.2.1 r2.2.2) (h4 : b = boolS c.2.1 c.2.2) : resTh xs 0 = (⟨(r1.1 : Int), c.1, b.1⟩, b.2) := by
  have e1 : ((100 : Nat) : Int) = 100 := rfl
  have e2 : ((16 : Nat) : Int) = 16 := rfl
  subst h4 h3 h2 h1
  unfold resTh mapT
  simp only [andT, andD, intT', toR, e1, e2]
theorem sblk_own {ao : Option Addr} {n cap x : Nat} (h : sblk ao n x) : (Value.slice ao n cap).ownBlock = some x := by
  obtain ⟨a, rfl, _, rfl⟩ := h
  rfl
structure RdrPost (w : World) (t : Sum Int RV) (e : Ending) (w' : World) : Prop where
  bad : ∀ k, t = .inl k → e = .returned (.tuple #[resV 0 none 0 0 false, .int .i64 k])
  good : ∀ q : RV, t = .inr q → ∃ (c : Int) (ao : Option Addr) (n cap : Nat) (l : List CA) (m : Bool), e = .returned (.tuple #[resV c ao n cap m, .int .i64 0]) ∧ CL w' ao n cap l ∧ q = resR c l m
  bel : Below w.heap.size w w'
set_option maxRecDepth 100000 in
set_option maxHeartbeats 16000000 in
theorem prdr_any (w : World) (ao : Option Addr) (n cap : Nat) (xs : List Int) (h : Sl w ao n cap xs) (hn : n ≤ 100000) :
    Calls Tryd.prog 58 #[.slice ao n cap] w (RdrPost w (rdR xs)) := by
  have HRD : Hid (rdR xs = rdT resTh kindR xs) := rd_thr thr_r kindR xs
  have K0 : RW (w.alloc (.cells #[.int .i64 0, .slice none 0 0, .bool false] 37)) w.heap.size 0 (.slice none 0 0) false := heap_alloc_new w _
  have B0 : Below w.heap.size w (w.alloc (.cells #[.int .i64 0, .slice none 0 0, .bool false] 37)) := (Below.refl _ w).alloc (Nat.le_refl _) _
  have h0 := h.below B0
  clear h
  go_enter Tryd.func58, Tryd.ntmps58
  go_wp2_with fail
  obtain ⟨w0, hw0⟩ : ∃ W, W = w.alloc (.cells #[.int .i64 0, .slice none 0 0, .bool false] 37) := ⟨_, rfl⟩
  obtain ⟨N, hN⟩ : ∃ N, N = w.heap.size := ⟨_, rfl⟩
  rw [← hw0] at K0 B0 h0 ⊢
  rw [← hN] at K0 B0 ⊢
  have HN : Hid (N = w.heap.size) := hN
  clear hw0 hN
  refine (read_any w0 ao n cap xs h0 (by omega)).mono ?_
  rintro e w1 ⟨p, rfl, hp, R1, C1⟩
  have K1 := K0.kept (C1.block N K0.lt)
  have lN := K0.lt
  have B1 := B0.trans (C1.mono (by omega))
  have hNp : N < p := by omega
  clear K0 B0 C1 h0 hp lN
  go_wp2_with fail
  refine (int_any w1 p p xs 0 100 (by decide) R1.byte R1).mono ?_
  rintro e w2 ⟨rfl, R2, G2⟩
  obtain ⟨r1, e1⟩ : ∃ r, r = intS xs 0 100 := ⟨_, rfl⟩
  have ER1 : Hid (r1 = intS xs 0 100) := e1
  rw [← e1] at R2 ⊢
  have K2 := K1.kept (G2.block N K1.lt (by simp; omega))
  have B2 := B1.trans (below_grown G2 (by have := B1.size; have := HN.out; omega) (by omega))
  clear e1 K1 R1 B1 G2
  obtain ⟨M, hM⟩ : ∃ M, M = w2.heap.size := ⟨_, rfl⟩
  obtain ⟨w3, hw3⟩ : ∃ W, W = w2.alloc (.cells #[.int .i64 r1.1, .slice none 0 0, .bool false] 37) := ⟨_, rfl⟩
  have C3 : Below w2.heap.size w2 w3 := by rw [hw3]; exact (Below.refl _ _).alloc (Nat.le_refl _) _
  have X3 : RW w3 M r1.1 (.slice none 0 0) false := by rw [hw3, hM]; exact heap_alloc_new w2 _
  have hpM : p < M := by rw [hM]; exact R2.plt.1
  have R3 := R2.below C3
  have K3 := K2.kept (C3.block N K2.lt)
  have B3 := B2.trans (C3.mono (by have := B2.size; have := HN.out; omega))
  go_wp2_with fail
  rw [← hw3, ← hM]
  clear hw3 hM C3 K2 R2 B2
  refine (int_any w3 p p r1.2.1 r1.2.2 16 (by decide) R3.byte R3).mono ?_
  rintro e w4 ⟨rfl, R4, G4⟩
  obtain ⟨r2, e2⟩ : ∃ r, r = intS r1.2.1 r1.2.2 16 := ⟨_, rfl⟩
  have ER2 : Hid (r2 = intS r1.2.1 r1.2.2 16) := e2
  have Z2 : r2.1 ≤ 16 := by rw [e2]; exact intS_le _ _ 16
  rw [← e2] at R4 ⊢
  have inv4 : ResInv w p p N M r2.1 r1.1 r2.2.1 r2.2.2 w4 (.slice none 0 0) [] := ⟨R4, X3.kept (G4.block M X3.lt (by simp; omega)), K3.kept (G4.block N K3.lt (by simp; omega)), ⟨rfl, .inl ⟨rfl, rfl⟩⟩, fun _ h => by simp at h, fun x h => by obtain ⟨y, hy, _⟩ := h; simp at hy, rfl, B3.trans (below_grown G4 (by have := B3.size; have := HN.out; omega) (by omega)), Nat.zero_le _, ⟨Nat.le_refl _, hpM, hNp⟩⟩
  clear e2 R4 X3 K3 B3 G4 R3
  go_wp2_with fail
  go_loopw [14] (fun i wr => ∃ (v : Value) (l : List CA), i = .int .i64 (l.length : Nat) ∧ ResInv w p p N M r2.1 r1.1 r2.2.1 r2.2.2 wr v l) (fun i _ => r2.1 - (intOf i).toNat)
  case atStart => exact ⟨_, [], rfl, inv4⟩
  case round =>
    clear inv4
    obtain ⟨v, l, rfl, inv⟩ := hrel
    obtain ⟨ao1, cap1, rfl, CL1⟩ := CL.own inv.own inv.oks
    by_cases hlt : l.length < r2.1
    · have i6 : (l.length : Int) < (r2.1 : Int) := by omega
      clear CL1
      obtain ⟨i0, hi, hz0, hz1, hz2⟩ := info_parts cellInfo
      go_wp2_with fail
      have inv0 := inv.drew
      obtain ⟨T, hT⟩ : ∃ T, T = repT cT l.length r2.2.1 r2.2.2 := ⟨_, rfl⟩
      refine wp_region_noPanic ?_
      refine wp_region_held_drew (S := fun _ => True) (by kernel_rfl) trivial (fun _ => ?_)
      obtain ⟨v0, hv0⟩ : ∃ v, v = wr.drew := ⟨_, rfl⟩
      rw [← hv0] at inv0 ⊢
      have HI : Hid (ResInv w p p N M r2.1 r1.1 r2.2.1 r2.2.2 v0 (.slice ao1 l.length cap1) l) := inv0
      have R0 : R v0 p p T.2.1 T.2.2 := by rw [hT]; exact inv0.rd
      have m0 : RW v0 M r1.1 (.slice ao1 l.length cap1) false := inv0.ov
      have HT : Hid (T = repT cT l.length r2.2.1 r2.2.2) := hT
      clear hv0 inv inv0 hT
      refine hr_take 0 (some 16) (.pointer (some ⟨M, 1, none⟩)) rfl rfl (by kernel_rfl) (by kernel_rfl) (by kernel_rfl) rfl (fun W hW => by go_simp) trivial ?_
      simp only [FL]
      refine hr_take 2 (some 18) (.pointer (some ⟨p, 0, none⟩)) rfl rfl (by kernel_rfl) (by kernel_rfl) (by kernel_rfl) rfl (fun W hW => by go_simp) trivial ?_
      simp only [FL]
      refine hr_take 4 (some 20) (.pointer (some ⟨p, 0, none⟩)) rfl rfl (by kernel_rfl) (by kernel_rfl) (by kernel_rfl) rfl (fun W hW => by go_simp) trivial ?_
      simp only [FL]
      refine hr_take 6 (some 22) (.pointer (some ⟨p, 0, none⟩)) rfl rfl (by kernel_rfl) (by kernel_rfl) (by kernel_rfl) rfl (fun W hW => by go_simp) trivial ?_
      simp only [FL]
      refine hr_two (i := 1) (j := 3) (by kernel_rfl) ?_ ?_
      · have c1 : v0.cell? ⟨M, 1, none⟩ = some (.slice ao1 l.length cap1) := m0.c1
        refine op_do 1 (some 17) (.slice ao1 l.length cap1) rfl rfl rfl (w' := v0) (by go_simp) trivial ?_
        simp only [FL]
        clear c1
        refine hr_call 3 (some 19) 74 #[.pointer (some ⟨p, 0, none⟩)] rfl rfl (by kernel_rfl) rfl (by go_simp) (fun v w' => v = (keyOf (keyT T.2.1 T.2.2).1).val ∧ Left v0 p p (keyT T.2.1 T.2.2).2 w') ((tkey_any v0 p p T.2.1 T.2.2 R0).mono (fun e w' h => ⟨_, h.1, rfl, h.2⟩)) ?_
        rintro vv U1 ⟨rfl, R1, G1⟩
        refine ⟨trivial, ?_⟩
        have Zk := keyT_ok R0.byte (k := T.2.2)
        obtain ⟨k1, hk1⟩ : ∃ r, r = keyT T.2.1 T.2.2 := ⟨_, rfl⟩
        have HK1 : Hid (k1 = keyT T.2.1 T.2.2) := hk1
        rw [← hk1] at R1 Zk ⊢
        have m1 := m0.kept (G1.block M m0.lt (by simp; omega))
        unfold KA.val keyOf
        simp only [FL]
        clear hk1
        refine hr_call 5 (some 21) 46 #[.pointer (some ⟨p, 0, none⟩), .int .i64 256] rfl rfl (by kernel_rfl) rfl (by go_simp) (fun v w' => ∃ bo bn bc, v = .slice bo bn bc ∧ Sl w' bo bn bc (bytesS k1.2.1 k1.2.2 256).1 ∧ (∀ a, bo = some a → U1.heap.size ≤ a.block) ∧ R w' p p (bytesS k1.2.1 k1.2.2 256).2.1 (bytesS k1.2.1 k1.2.2 256).2.2 ∧ U1.grownBy w' (some p)) ((bytes_any U1 p p k1.2.1 k1.2.2 256 (by decide) R1).mono (fun e w' h => by obtain ⟨bo, bn, bc, h1, h2⟩ := h; exact ⟨_, h1, bo, bn, bc, rfl, h2⟩)) ?_
        rintro vv U2 ⟨bo, bn, bc, rfl, S2, F2, R2, G2⟩
        refine ⟨trivial, ?_⟩
        obtain ⟨k2, hk2⟩ : ∃ r, r = bytesS k1.2.1 k1.2.2 256 := ⟨_, rfl⟩
        have HK2 : Hid (k2 = bytesS k1.2.1 k1.2.2 256) := hk2
        rw [← hk2] at S2 R2
        have m2 := m1.kept (G2.block M m1.lt (by simp; omega))
        simp only [FL]
        clear hk2
        refine hr_call 7 (some 23) 75 #[.pointer (some ⟨p, 0, none⟩)] rfl rfl (by kernel_rfl) rfl (by go_simp) (fun v w' => v = .bool (boolS k2.2.1 k2.2.2).1 ∧ R w' p p (boolS k2.2.1 k2.2.2).2.1 (boolS k2.2.1 k2.2.2).2.2 ∧ U2.grownBy w' (some p)) ((bool_any U2 p p k2.2.1 k2.2.2 R2).mono (fun e w' h => ⟨_, h.1, rfl, h.2⟩)) ?_
        rintro vv U3 ⟨rfl, R3, G3⟩
        refine ⟨trivial, ?_⟩
        obtain ⟨k3, hk3⟩ : ∃ r, r = boolS k2.2.1 k2.2.2 := ⟨_, rfl⟩
        have HK3 : Hid (k3 = boolS k2.2.1 k2.2.2) := hk3
        rw [← hk3] at R3 ⊢
        have m3 := m2.kept (G3.block M m2.lt (by simp; omega))
        simp only [FL]
        clear hk3
        refine hr_take 8 (some 24) (.agg #[.string k1.1.1, .string k1.1.2.1, .string k1.1.2.2.1, .int .u64 k1.1.2.2.2, .slice bo bn bc, .bool k3.1]) rfl rfl (by kernel_rfl) (by kernel_rfl) (by kernel_rfl) rfl (fun W hW => by go_simp) trivial ?_
        simp only [FL]
        obtain ⟨g, hg⟩ : ∃ g, g = U3.heap.size := ⟨_, rfl⟩
        obtain ⟨U4, hU4⟩ : ∃ W, W = U3.alloc (.cells #[.string k1.1.1, .string k1.1.2.1, .string k1.1.2.2.1, .int .u64 k1.1.2.2.2, .slice bo bn bc, .bool k3.1] 76) := ⟨_, rfl⟩
        have N4 : U4.heap[g]? = some (.cells #[.string k1.1.1, .string k1.1.2.1, .string k1.1.2.2.1, .int .u64 k1.1.2.2.2, .slice bo bn bc, .bool k3.1] 76) := by rw [hU4, hg]; exact heap_alloc_new U3 _
        have B4 : Below U3.heap.size U3 U4 := by rw [hU4]; exact (Below.refl _ _).alloc (Nat.le_refl _) _
        refine hr_do 9 (some 25) (.slice (some ⟨g, 0, none⟩) 1 1) rfl rfl (by kernel_rfl) rfl (w' := U4) (by rw [hU4, hg]; go_simp) trivial ?_
        simp only [FL]
        have HU4 : Hid (U4 = U3.alloc (.cells #[.string k1.1.1, .string k1.1.2.1, .string k1.1.2.2.1, .int .u64 k1.1.2.2.2, .slice bo bn bc, .bool k3.1] 76)) := hU4
        clear hU4 hg
        have y5 : v0.grownBy U3 (some p) := grown_trans (grown_trans G1 G2) G3
        have S3 : Sl U3 bo bn bc k2.1 := Sl.kept (b := ⟨bo, bn, bc, k2.1⟩) S2 (fun x hx => by
          obtain ⟨a, ha, hn, rfl⟩ := hx
          exact G3.block _ (S2.lt a ha hn) (by have := F2 a ha; have := m1.lt; simp; omega))
        have y1 : (⟨k1.1.1, k1.1.2.1, k1.1.2.2.1, k1.1.2.2.2, ⟨bo, bn, bc, k2.1⟩, k3.1⟩ : CA).ok U3 := ⟨by show k1.1.1.size ≤ maxLen; unfold maxLen; omega, by show k1.1.2.1.size ≤ maxLen; unfold maxLen; omega, by show k1.1.2.2.1.size ≤ maxLen; unfold maxLen; omega, Zk.2.2.2, S3⟩
        have y2 : ∀ x, (⟨k1.1.1, k1.1.2.1, k1.1.2.2.1, k1.1.2.2.2, ⟨bo, bn, bc, k2.1⟩, k3.1⟩ : CA).va.blk x → v0.heap.size ≤ x := fun x hx => by
          obtain ⟨a, ha, hn, rfl⟩ := hx
          have := F2 a ha
          have := G1.size
          omega
        have y3 : (⟨k1.1.1, k1.1.2.1, k1.1.2.2.1, k1.1.2.2.2, ⟨bo, bn, bc, k2.1⟩, k3.1⟩ : CA).c = (cT T.2.1 T.2.2).1 := by
          rw [cT_key, ← HK1.out, ← HK2.out, ← HK3.out]
          rfl
        have y4 : R U3 p p (cT T.2.1 T.2.2).2.1 (cT T.2.1 T.2.2).2.2 := by
          rw [cT_key, ← HK1.out, ← HK2.out, ← HK3.out]
          exact R3
        rw [HT.out] at y3 y4
        have ownU3 : U3.ownsRow (M + 1) 76 6 (.slice ao1 l.length cap1) l.length (cellsC l) := own_kept HI.out.own fun x hx => y5.block x (HI.out.ownlt hx).2 (by have := HI.out.ownlt hx; simp; omega)
        have ownU4 : U4.ownsRow (M + 1) 76 6 (.slice ao1 l.length cap1) l.length (cellsC l) := own_kept ownU3 fun x hx => B4.block x (by have := HI.out.ownlt hx; have := y5.size; omega)
        refine hr_own 10 (some 26) rfl rfl (by kernel_rfl) rfl (.tmp 17) (.tmp 25) 35 rfl (M + 1) 76 i0 _ 6 88 Tryd.underlying35 hi hz0 hz1 hz2 rfl (by decide) (.slice ao1 l.length cap1) l.length (cellsC l) rfl ownU4 ⟨g, 0, none⟩ 1 1 (⟨k1.1.1, k1.1.2.1, k1.1.2.2.1, k1.1.2.2.2, ⟨bo, bn, bc, k2.1⟩, k3.1⟩ : CA).cells rfl rfl (fun j u hu => by rw [Addr.add_lit, Nat.zero_add]; exact (cell_of_row U4 g j #[.string k1.1.1, .string k1.1.2.1, .string k1.1.2.2.1, .int .u64 k1.1.2.2.2, .slice bo bn bc, .bool k3.1] _ (0, 0) N4).trans (show ((⟨k1.1.1, k1.1.2.1, k1.1.2.2.1, k1.1.2.2.2, ⟨bo, bn, bc, k2.1⟩, k3.1⟩ : CA).cells.toArray)[j]? = some u from by rw [List.getElem?_toArray]; exact hu)) (c_one (⟨k1.1.1, k1.1.2.1, k1.1.2.2.1, k1.1.2.2.2, ⟨bo, bn, bc, k2.1⟩, k3.1⟩ : CA)) (by unfold maxLen; omega) (by omega) (by have := m3.lt; have := B4.size; omega) ?_
        intro v' U5 O5 G5 H5
        refine ⟨trivial, ?_⟩
        simp only [FL]
        rw [HU4.out] at G5 H5
        have ST := HI.out.step (by omega) y1 y2 y3 y4 y5 O5 G5 H5
        have n5 : RW U5 M r1.1 (.slice ao1 l.length cap1) false := m3.kept ((G5.block M (by have := m3.lt; simp; omega) (fun e => by have := HI.out.ownlt e.symm; omega)).trans (heap_alloc_old U3 _ m3.lt))
        have d1 := n5.c1
        have z1 := n5.fz 1
        refine hr_take 11 (some 27) (.pointer (some ⟨M, 1, none⟩)) rfl rfl (by kernel_rfl) (by kernel_rfl) (by kernel_rfl) rfl (fun W hW => by go_simp) trivial ?_
        simp only [FL]
        have mm := CL.own ST.own ST.oks
        rw [List.length_append, List.length_singleton] at mm
        obtain ⟨ao3, cap3, rfl, _⟩ := mm
        refine hr_skip 12 none rfl rfl (by kernel_rfl) rfl (w' := U5.setCell ⟨M, 1, none⟩ (.slice ao3 (l.length + 1) cap3)) (by go_simp) trivial ?_
        simp only [Act.put]
        refine wpAnyH_done (by kernel_rfl) ?_ _
        refine NoPanic.normal ?_
        have HST : Hid _ := ST
        clear ST ownU3 ownU4 O5 G5 H5 d1 z1 n5 HU4 N4 B4 y1 y2 y3 y4 y5 S3 S2 R1 R2 R3 G1 G2 G3 m0 m1 m2 m3
        go_wp2
        go_roundw
        case rel => exact ⟨_, l ++ [_], by rw [List.length_append, List.length_singleton]; go_num, HST.out⟩
        case measure => simp [intOf]; omega
      · refine op_call 3 (some 19) 74 #[.pointer (some ⟨p, 0, none⟩)] rfl rfl rfl (by go_simp) (fun v w' => v = (keyOf (keyT T.2.1 T.2.2).1).val ∧ Left v0 p p (keyT T.2.1 T.2.2).2 w') ((tkey_any v0 p p T.2.1 T.2.2 R0).mono (fun e w' h => ⟨_, h.1, rfl, h.2⟩)) ?_
        rintro vv U1 ⟨rfl, R1, G1⟩
        refine ⟨trivial, ?_⟩
        have Zk := keyT_ok R0.byte (k := T.2.2)
        obtain ⟨k1, hk1⟩ : ∃ r, r = keyT T.2.1 T.2.2 := ⟨_, rfl⟩
        have HK1 : Hid (k1 = keyT T.2.1 T.2.2) := hk1
        rw [← hk1] at R1 Zk ⊢
        have m1 := m0.kept (G1.block M m0.lt (by simp; omega))
        unfold KA.val keyOf
        simp only [FL]
        clear hk1
        refine hr_two (i := 1) (j := 5) (by kernel_rfl) ?_ ?_
        · have c1 : U1.cell? ⟨M, 1, none⟩ = some (.slice ao1 l.length cap1) := m1.c1
          refine op_do 1 (some 17) (.slice ao1 l.length cap1) rfl rfl rfl (w' := U1) (by go_simp) trivial ?_
          simp only [FL]
          clear c1
          refine hr_call 5 (some 21) 46 #[.pointer (some ⟨p, 0, none⟩), .int .i64 256] rfl rfl (by kernel_rfl) rfl (by go_simp) (fun v w' => ∃ bo bn bc, v = .slice bo bn bc ∧ Sl w' bo bn bc (bytesS k1.2.1 k1.2.2 256).1 ∧ (∀ a, bo = some a → U1.heap.size ≤ a.block) ∧ R w' p p (bytesS k1.2.1 k1.2.2 256).2.1 (bytesS k1.2.1 k1.2.2 256).2.2 ∧ U1.grownBy w' (some p)) ((bytes_any U1 p p k1.2.1 k1.2.2 256 (by decide) R1).mono (fun e w' h => by obtain ⟨bo, bn, bc, h1, h2⟩ := h; exact ⟨_, h1, bo, bn, bc, rfl, h2⟩)) ?_
          rintro vv U2 ⟨bo, bn, bc, rfl, S2, F2, R2, G2⟩
          refine ⟨trivial, ?_⟩
          obtain ⟨k2, hk2⟩ : ∃ r, r = bytesS k1.2.1 k1.2.2 256 := ⟨_, rfl⟩
          have HK2 : Hid (k2 = bytesS k1.2.1 k1.2.2 256) := hk2
          rw [← hk2] at S2 R2
          have m2 := m1.kept (G2.block M m1.lt (by simp; omega))
          simp only [FL]
          clear hk2
          refine hr_call 7 (some 23) 75 #[.pointer (some ⟨p, 0, none⟩)] rfl rfl (by kernel_rfl) rfl (by go_simp) (fun v w' => v = .bool (boolS k2.2.1 k2.2.2).1 ∧ R w' p p (boolS k2.2.1 k2.2.2).2.1 (boolS k2.2.1 k2.2.2).2.2 ∧ U2.grownBy w' (some p)) ((bool_any U2 p p k2.2.1 k2.2.2 R2).mono (fun e w' h => ⟨_, h.1, rfl, h.2⟩)) ?_
          rintro vv U3 ⟨rfl, R3, G3⟩
          refine ⟨trivial, ?_⟩
          obtain ⟨k3, hk3⟩ : ∃ r, r = boolS k2.2.1 k2.2.2 := ⟨_, rfl⟩
          have HK3 : Hid (k3 = boolS k2.2.1 k2.2.2) := hk3
          rw [← hk3] at R3 ⊢
          have m3 := m2.kept (G3.block M m2.lt (by simp; omega))
          simp only [FL]
          clear hk3
          refine hr_take 8 (some 24) (.agg #[.string k1.1.1, .string k1.1.2.1, .string k1.1.2.2.1, .int .u64 k1.1.2.2.2, .slice bo bn bc, .bool k3.1]) rfl rfl (by kernel_rfl) (by kernel_rfl) (by kernel_rfl) rfl (fun W hW => by go_simp) trivial ?_
          simp only [FL]
          obtain ⟨g, hg⟩ : ∃ g, g = U3.heap.size := ⟨_, rfl⟩
          obtain ⟨U4, hU4⟩ : ∃ W, W = U3.alloc (.cells #[.string k1.1.1, .string k1.1.2.1, .string k1.1.2.2.1, .int .u64 k1.1.2.2.2, .slice bo bn bc, .bool k3.1] 76) := ⟨_, rfl⟩
          have N4 : U4.heap[g]? = some (.cells #[.string k1.1.1, .string k1.1.2.1, .string k1.1.2.2.1, .int .u64 k1.1.2.2.2, .slice bo bn bc, .bool k3.1] 76) := by rw [hU4, hg]; exact heap_alloc_new U3 _
          have B4 : Below U3.heap.size U3 U4 := by rw [hU4]; exact (Below.refl _ _).alloc (Nat.le_refl _) _
          refine hr_do 9 (some 25) (.slice (some ⟨g, 0, none⟩) 1 1) rfl rfl (by kernel_rfl) rfl (w' := U4) (by rw [hU4, hg]; go_simp) trivial ?_
          simp only [FL]
          have HU4 : Hid (U4 = U3.alloc (.cells #[.string k1.1.1, .string k1.1.2.1, .string k1.1.2.2.1, .int .u64 k1.1.2.2.2, .slice bo bn bc, .bool k3.1] 76)) := hU4
          clear hU4 hg
          have y5 : v0.grownBy U3 (some p) := grown_trans (grown_trans G1 G2) G3
          have S3 : Sl U3 bo bn bc k2.1 := Sl.kept (b := ⟨bo, bn, bc, k2.1⟩) S2 (fun x hx => by
            obtain ⟨a, ha, hn, rfl⟩ := hx
            exact G3.block _ (S2.lt a ha hn) (by have := F2 a ha; have := m1.lt; simp; omega))
          have y1 : (⟨k1.1.1, k1.1.2.1, k1.1.2.2.1, k1.1.2.2.2, ⟨bo, bn, bc, k2.1⟩, k3.1⟩ : CA).ok U3 := ⟨by show k1.1.1.size ≤ maxLen; unfold maxLen; omega, by show k1.1.2.1.size ≤ maxLen; unfold maxLen; omega, by show k1.1.2.2.1.size ≤ maxLen; unfold maxLen; omega, Zk.2.2.2, S3⟩
          have y2 : ∀ x, (⟨k1.1.1, k1.1.2.1, k1.1.2.2.1, k1.1.2.2.2, ⟨bo, bn, bc, k2.1⟩, k3.1⟩ : CA).va.blk x → v0.heap.size ≤ x := fun x hx => by
            obtain ⟨a, ha, hn, rfl⟩ := hx
            have := F2 a ha
            have := G1.size
            omega
          have y3 : (⟨k1.1.1, k1.1.2.1, k1.1.2.2.1, k1.1.2.2.2, ⟨bo, bn, bc, k2.1⟩, k3.1⟩ : CA).c = (cT T.2.1 T.2.2).1 := by
            rw [cT_key, ← HK1.out, ← HK2.out, ← HK3.out]
            rfl
          have y4 : R U3 p p (cT T.2.1 T.2.2).2.1 (cT T.2.1 T.2.2).2.2 := by
            rw [cT_key, ← HK1.out, ← HK2.out, ← HK3.out]
            exact R3
          rw [HT.out] at y3 y4
          have ownU3 : U3.ownsRow (M + 1) 76 6 (.slice ao1 l.length cap1) l.length (cellsC l) := own_kept HI.out.own fun x hx => y5.block x (HI.out.ownlt hx).2 (by have := HI.out.ownlt hx; simp; omega)
          have ownU4 : U4.ownsRow (M + 1) 76 6 (.slice ao1 l.length cap1) l.length (cellsC l) := own_kept ownU3 fun x hx => B4.block x (by have := HI.out.ownlt hx; have := y5.size; omega)
          refine hr_own 10 (some 26) rfl rfl (by kernel_rfl) rfl (.tmp 17) (.tmp 25) 35 rfl (M + 1) 76 i0 _ 6 88 Tryd.underlying35 hi hz0 hz1 hz2 rfl (by decide) (.slice ao1 l.length cap1) l.length (cellsC l) rfl ownU4 ⟨g, 0, none⟩ 1 1 (⟨k1.1.1, k1.1.2.1, k1.1.2.2.1, k1.1.2.2.2, ⟨bo, bn, bc, k2.1⟩, k3.1⟩ : CA).cells rfl rfl (fun j u hu => by rw [Addr.add_lit, Nat.zero_add]; exact (cell_of_row U4 g j #[.string k1.1.1, .string k1.1.2.1, .string k1.1.2.2.1, .int .u64 k1.1.2.2.2, .slice bo bn bc, .bool k3.1] _ (0, 0) N4).trans (show ((⟨k1.1.1, k1.1.2.1, k1.1.2.2.1, k1.1.2.2.2, ⟨bo, bn, bc, k2.1⟩, k3.1⟩ : CA).cells.toArray)[j]? = some u from by rw [List.getElem?_toArray]; exact hu)) (c_one (⟨k1.1.1, k1.1.2.1, k1.1.2.2.1, k1.1.2.2.2, ⟨bo, bn, bc, k2.1⟩, k3.1⟩ : CA)) (by unfold maxLen; omega) (by omega) (by have := m3.lt; have := B4.size; omega) ?_
          intro v' U5 O5 G5 H5
          refine ⟨trivial, ?_⟩
          simp only [FL]
          rw [HU4.out] at G5 H5
          have ST := HI.out.step (by omega) y1 y2 y3 y4 y5 O5 G5 H5
          have n5 : RW U5 M r1.1 (.slice ao1 l.length cap1) false := m3.kept ((G5.block M (by have := m3.lt; simp; omega) (fun e => by have := HI.out.ownlt e.symm; omega)).trans (heap_alloc_old U3 _ m3.lt))
          have d1 := n5.c1
          have z1 := n5.fz 1
          refine hr_take 11 (some 27) (.pointer (some ⟨M, 1, none⟩)) rfl rfl (by kernel_rfl) (by kernel_rfl) (by kernel_rfl) rfl (fun W hW => by go_simp) trivial ?_
          simp only [FL]
          have mm := CL.own ST.own ST.oks
          rw [List.length_append, List.length_singleton] at mm
          obtain ⟨ao3, cap3, rfl, _⟩ := mm
          refine hr_skip 12 none rfl rfl (by kernel_rfl) rfl (w' := U5.setCell ⟨M, 1, none⟩ (.slice ao3 (l.length + 1) cap3)) (by go_simp) trivial ?_
          simp only [Act.put]
          refine wpAnyH_done (by kernel_rfl) ?_ _
          refine NoPanic.normal ?_
          have HST : Hid _ := ST
          clear ST ownU3 ownU4 O5 G5 H5 d1 z1 n5 HU4 N4 B4 y1 y2 y3 y4 y5 S3 S2 R1 R2 R3 G1 G2 G3 m0 m1 m2 m3
          go_wp2
          go_roundw
          case rel => exact ⟨_, l ++ [_], by rw [List.length_append, List.length_singleton]; go_num, HST.out⟩
          case measure => simp [intOf]; omega
        · refine op_call 5 (some 21) 46 #[.pointer (some ⟨p, 0, none⟩), .int .i64 256] rfl rfl rfl (by go_simp) (fun v w' => ∃ bo bn bc, v = .slice bo bn bc ∧ Sl w' bo bn bc (bytesS k1.2.1 k1.2.2 256).1 ∧ (∀ a, bo = some a → U1.heap.size ≤ a.block) ∧ R w' p p (bytesS k1.2.1 k1.2.2 256).2.1 (bytesS k1.2.1 k1.2.2 256).2.2 ∧ U1.grownBy w' (some p)) ((bytes_any U1 p p k1.2.1 k1.2.2 256 (by decide) R1).mono (fun e w' h => by obtain ⟨bo, bn, bc, h1, h2⟩ := h; exact ⟨_, h1, bo, bn, bc, rfl, h2⟩)) ?_
          rintro vv U2 ⟨bo, bn, bc, rfl, S2, F2, R2, G2⟩
          refine ⟨trivial, ?_⟩
          obtain ⟨k2, hk2⟩ : ∃ r, r = bytesS k1.2.1 k1.2.2 256 := ⟨_, rfl⟩
          have HK2 : Hid (k2 = bytesS k1.2.1 k1.2.2 256) := hk2
          rw [← hk2] at S2 R2
          have m2 := m1.kept (G2.block M m1.lt (by simp; omega))
          simp only [FL]
          clear hk2
          refine hr_two (i := 1) (j := 7) (by kernel_rfl) ?_ ?_
          · have c1 : U2.cell? ⟨M, 1, none⟩ = some (.slice ao1 l.length cap1) := m2.c1
            refine op_do 1 (some 17) (.slice ao1 l.length cap1) rfl rfl rfl (w' := U2) (by go_simp) trivial ?_
            simp only [FL]
            clear c1
            refine hr_call 7 (some 23) 75 #[.pointer (some ⟨p, 0, none⟩)] rfl rfl (by kernel_rfl) rfl (by go_simp) (fun v w' => v = .bool (boolS k2.2.1 k2.2.2).1 ∧ R w' p p (boolS k2.2.1 k2.2.2).2.1 (boolS k2.2.1 k2.2.2).2.2 ∧ U2.grownBy w' (some p)) ((bool_any U2 p p k2.2.1 k2.2.2 R2).mono (fun e w' h => ⟨_, h.1, rfl, h.2⟩)) ?_
            rintro vv U3 ⟨rfl, R3, G3⟩
            refine ⟨trivial, ?_⟩
            obtain ⟨k3, hk3⟩ : ∃ r, r = boolS k2.2.1 k2.2.2 := ⟨_, rfl⟩
            have HK3 : Hid (k3 = boolS k2.2.1 k2.2.2) := hk3
            rw [← hk3] at R3 ⊢
            have m3 := m2.kept (G3.block M m2.lt (by simp; omega))
            simp only [FL]
            clear hk3
            refine hr_take 8 (some 24) (.agg #[.string k1.1.1, .string k1.1.2.1, .string k1.1.2.2.1, .int .u64 k1.1.2.2.2, .slice bo bn bc, .bool k3.1]) rfl rfl (by kernel_rfl) (by kernel_rfl) (by kernel_rfl) rfl (fun W hW => by go_simp) trivial ?_
            simp only [FL]
            obtain ⟨g, hg⟩ : ∃ g, g = U3.heap.size := ⟨_, rfl⟩
            obtain ⟨U4, hU4⟩ : ∃ W, W = U3.alloc (.cells #[.string k1.1.1, .string k1.1.2.1, .string k1.1.2.2.1, .int .u64 k1.1.2.2.2, .slice bo bn bc, .bool k3.1] 76) := ⟨_, rfl⟩
            have N4 : U4.heap[g]? = some (.cells #[.string k1.1.1, .string k1.1.2.1, .string k1.1.2.2.1, .int .u64 k1.1.2.2.2, .slice bo bn bc, .bool k3.1] 76) := by rw [hU4, hg]; exact heap_alloc_new U3 _
            have B4 : Below U3.heap.size U3 U4 := by rw [hU4]; exact (Below.refl _ _).alloc (Nat.le_refl _) _
            refine hr_do 9 (some 25) (.slice (some ⟨g, 0, none⟩) 1 1) rfl rfl (by kernel_rfl) rfl (w' := U4) (by rw [hU4, hg]; go_simp) trivial ?_
            simp only [FL]
            have HU4 : Hid (U4 = U3.alloc (.cells #[.string k1.1.1, .string k1.1.2.1, .string k1.1.2.2.1, .int .u64 k1.1.2.2.2, .slice bo bn bc, .bool k3.1] 76)) := hU4
            clear hU4 hg
            have y5 : v0.grownBy U3 (some p) := grown_trans (grown_trans G1 G2) G3
            have S3 : Sl U3 bo bn bc k2.1 := Sl.kept (b := ⟨bo, bn, bc, k2.1⟩) S2 (fun x hx => by
              obtain ⟨a, ha, hn, rfl⟩ := hx
              exact G3.block _ (S2.lt a ha hn) (by have := F2 a ha; have := m1.lt; simp; omega))
            have y1 : (⟨k1.1.1, k1.1.2.1, k1.1.2.2.1, k1.1.2.2.2, ⟨bo, bn, bc, k2.1⟩, k3.1⟩ : CA).ok U3 := ⟨by show k1.1.1.size ≤ maxLen; unfold maxLen; omega, by show k1.1.2.1.size ≤ maxLen; unfold maxLen; omega, by show k1.1.2.2.1.size ≤ maxLen; unfold maxLen; omega, Zk.2.2.2, S3⟩
            have y2 : ∀ x, (⟨k1.1.1, k1.1.2.1, k1.1.2.2.1, k1.1.2.2.2, ⟨bo, bn, bc, k2.1⟩, k3.1⟩ : CA).va.blk x → v0.heap.size ≤ x := fun x hx => by
              obtain ⟨a, ha, hn, rfl⟩ := hx
              have := F2 a ha
              have := G1.size
              omega
            have y3 : (⟨k1.1.1, k1.1.2.1, k1.1.2.2.1, k1.1.2.2.2, ⟨bo, bn, bc, k2.1⟩, k3.1⟩ : CA).c = (cT T.2.1 T.2.2).1 := by
              rw [cT_key, ← HK1.out, ← HK2.out, ← HK3.out]
              rfl
            have y4 : R U3 p p (cT T.2.1 T.2.2).2.1 (cT T.2.1 T.2.2).2.2 := by
              rw [cT_key, ← HK1.out, ← HK2.out, ← HK3.out]
              exact R3
            rw [HT.out] at y3 y4
            have ownU3 : U3.ownsRow (M + 1) 76 6 (.slice ao1 l.length cap1) l.length (cellsC l) := own_kept HI.out.own fun x hx => y5.block x (HI.out.ownlt hx).2 (by have := HI.out.ownlt hx; simp; omega)
            have ownU4 : U4.ownsRow (M + 1) 76 6 (.slice ao1 l.length cap1) l.length (cellsC l) := own_kept ownU3 fun x hx => B4.block x (by have := HI.out.ownlt hx; have := y5.size; omega)
            refine hr_own 10 (some 26) rfl rfl (by kernel_rfl) rfl (.tmp 17) (.tmp 25) 35 rfl (M + 1) 76 i0 _ 6 88 Tryd.underlying35 hi hz0 hz1 hz2 rfl (by decide) (.slice ao1 l.length cap1) l.length (cellsC l) rfl ownU4 ⟨g, 0, none⟩ 1 1 (⟨k1.1.1, k1.1.2.1, k1.1.2.2.1, k1.1.2.2.2, ⟨bo, bn, bc, k2.1⟩, k3.1⟩ : CA).cells rfl rfl (fun j u hu => by rw [Addr.add_lit, Nat.zero_add]; exact (cell_of_row U4 g j #[.string k1.1.1, .string k1.1.2.1, .string k1.1.2.2.1, .int .u64 k1.1.2.2.2, .slice bo bn bc, .bool k3.1] _ (0, 0) N4).trans (show ((⟨k1.1.1, k1.1.2.1, k1.1.2.2.1, k1.1.2.2.2, ⟨bo, bn, bc, k2.1⟩, k3.1⟩ : CA).cells.toArray)[j]? = some u from by rw [List.getElem?_toArray]; exact hu)) (c_one (⟨k1.1.1, k1.1.2.1, k1.1.2.2.1, k1.1.2.2.2, ⟨bo, bn, bc, k2.1⟩, k3.1⟩ : CA)) (by unfold maxLen; omega) (by omega) (by have := m3.lt; have := B4.size; omega) ?_
            intro v' U5 O5 G5 H5
            refine ⟨trivial, ?_⟩
            simp only [FL]
            rw [HU4.out] at G5 H5
            have ST := HI.out.step (by omega) y1 y2 y3 y4 y5 O5 G5 H5
            have n5 : RW U5 M r1.1 (.slice ao1 l.length cap1) false := m3.kept ((G5.block M (by have := m3.lt; simp; omega) (fun e => by have := HI.out.ownlt e.symm; omega)).trans (heap_alloc_old U3 _ m3.lt))
            have d1 := n5.c1
            have z1 := n5.fz 1
            refine hr_take 11 (some 27) (.pointer (some ⟨M, 1, none⟩)) rfl rfl (by kernel_rfl) (by kernel_rfl) (by kernel_rfl) rfl (fun W hW => by go_simp) trivial ?_
            simp only [FL]
            have mm := CL.own ST.own ST.oks
            rw [List.length_append, List.length_singleton] at mm
            obtain ⟨ao3, cap3, rfl, _⟩ := mm
            refine hr_skip 12 none rfl rfl (by kernel_rfl) rfl (w' := U5.setCell ⟨M, 1, none⟩ (.slice ao3 (l.length + 1) cap3)) (by go_simp) trivial ?_
            simp only [Act.put]
            refine wpAnyH_done (by kernel_rfl) ?_ _
            refine NoPanic.normal ?_
            have HST : Hid _ := ST
            clear ST ownU3 ownU4 O5 G5 H5 d1 z1 n5 HU4 N4 B4 y1 y2 y3 y4 y5 S3 S2 R1 R2 R3 G1 G2 G3 m0 m1 m2 m3
            go_wp2
            go_roundw
            case rel => exact ⟨_, l ++ [_], by rw [List.length_append, List.length_singleton]; go_num, HST.out⟩
            case measure => simp [intOf]; omega
          · refine op_call 7 (some 23) 75 #[.pointer (some ⟨p, 0, none⟩)] rfl rfl rfl (by go_simp) (fun v w' => v = .bool (boolS k2.2.1 k2.2.2).1 ∧ R w' p p (boolS k2.2.1 k2.2.2).2.1 (boolS k2.2.1 k2.2.2).2.2 ∧ U2.grownBy w' (some p)) ((bool_any U2 p p k2.2.1 k2.2.2 R2).mono (fun e w' h => ⟨_, h.1, rfl, h.2⟩)) ?_
            rintro vv U3 ⟨rfl, R3, G3⟩
            refine ⟨trivial, ?_⟩
            obtain ⟨k3, hk3⟩ : ∃ r, r = boolS k2.2.1 k2.2.2 := ⟨_, rfl⟩
            have HK3 : Hid (k3 = boolS k2.2.1 k2.2.2) := hk3
            rw [← hk3] at R3 ⊢
            have m3 := m2.kept (G3.block M m2.lt (by simp; omega))
            simp only [FL]
            clear hk3
            refine hr_take 8 (some 24) (.agg #[.string k1.1.1, .string k1.1.2.1, .string k1.1.2.2.1, .int .u64 k1.1.2.2.2, .slice bo bn bc, .bool k3.1]) rfl rfl (by kernel_rfl) (by kernel_rfl) (by kernel_rfl) rfl (fun W hW => by go_simp) trivial ?_
            simp only [FL]
            refine hr_two (i := 1) (j := 9) (by kernel_rfl) ?_ ?_
            · have c1 : U3.cell? ⟨M, 1, none⟩ = some (.slice ao1 l.length cap1) := m3.c1
              refine op_do 1 (some 17) (.slice ao1 l.length cap1) rfl rfl rfl (w' := U3) (by go_simp) trivial ?_
              simp only [FL]
              clear c1
              obtain ⟨g, hg⟩ : ∃ g, g = U3.heap.size := ⟨_, rfl⟩
              obtain ⟨U4, hU4⟩ : ∃ W, W = U3.alloc (.cells #[.string k1.1.1, .string k1.1.2.1, .string k1.1.2.2.1, .int .u64 k1.1.2.2.2, .slice bo bn bc, .bool k3.1] 76) := ⟨_, rfl⟩
              have N4 : U4.heap[g]? = some (.cells #[.string k1.1.1, .string k1.1.2.1, .string k1.1.2.2.1, .int .u64 k1.1.2.2.2, .slice bo bn bc, .bool k3.1] 76) := by rw [hU4, hg]; exact heap_alloc_new U3 _
              have B4 : Below U3.heap.size U3 U4 := by rw [hU4]; exact (Below.refl _ _).alloc (Nat.le_refl _) _
              refine hr_do 9 (some 25) (.slice (some ⟨g, 0, none⟩) 1 1) rfl rfl (by kernel_rfl) rfl (w' := U4) (by rw [hU4, hg]; go_simp) trivial ?_
              simp only [FL]
              have HU4 : Hid (U4 = U3.alloc (.cells #[.string k1.1.1, .string k1.1.2.1, .string k1.1.2.2.1, .int .u64 k1.1.2.2.2, .slice bo bn bc, .bool k3.1] 76)) := hU4
              clear hU4 hg
              have y5 : v0.grownBy U3 (some p) := grown_trans (grown_trans G1 G2) G3
              have S3 : Sl U3 bo bn bc k2.1 := Sl.kept (b := ⟨bo, bn, bc, k2.1⟩) S2 (fun x hx => by
                obtain ⟨a, ha, hn, rfl⟩ := hx
                exact G3.block _ (S2.lt a ha hn) (by have := F2 a ha; have := m1.lt; simp; omega))
              have y1 : (⟨k1.1.1, k1.1.2.1, k1.1.2.2.1, k1.1.2.2.2, ⟨bo, bn, bc, k2.1⟩, k3.1⟩ : CA).ok U3 := ⟨by show k1.1.1.size ≤ maxLen; unfold maxLen; omega, by show k1.1.2.1.size ≤ maxLen; unfold maxLen; omega, by show k1.1.2.2.1.size ≤ maxLen; unfold maxLen; omega, Zk.2.2.2, S3⟩
              have y2 : ∀ x, (⟨k1.1.1, k1.1.2.1, k1.1.2.2.1, k1.1.2.2.2, ⟨bo, bn, bc, k2.1⟩, k3.1⟩ : CA).va.blk x → v0.heap.size ≤ x := fun x hx => by
                obtain ⟨a, ha, hn, rfl⟩ := hx
                have := F2 a ha
                have := G1.size
                omega
              have y3 : (⟨k1.1.1, k1.1.2.1, k1.1.2.2.1, k1.1.2.2.2, ⟨bo, bn, bc, k2.1⟩, k3.1⟩ : CA).c = (cT T.2.1 T.2.2).1 := by
                rw [cT_key, ← HK1.out, ← HK2.out, ← HK3.out]
                rfl
              have y4 : R U3 p p (cT T.2.1 T.2.2).2.1 (cT T.2.1 T.2.2).2.2 := by
                rw [cT_key, ← HK1.out, ← HK2.out, ← HK3.out]
                exact R3
              rw [HT.out] at y3 y4
              have ownU3 : U3.ownsRow (M + 1) 76 6 (.slice ao1 l.length cap1) l.length (cellsC l) := own_kept HI.out.own fun x hx => y5.block x (HI.out.ownlt hx).2 (by have := HI.out.ownlt hx; simp; omega)
              have ownU4 : U4.ownsRow (M + 1) 76 6 (.slice ao1 l.length cap1) l.length (cellsC l) := own_kept ownU3 fun x hx => B4.block x (by have := HI.out.ownlt hx; have := y5.size; omega)
              refine hr_own 10 (some 26) rfl rfl (by kernel_rfl) rfl (.tmp 17) (.tmp 25) 35 rfl (M + 1) 76 i0 _ 6 88 Tryd.underlying35 hi hz0 hz1 hz2 rfl (by decide) (.slice ao1 l.length cap1) l.length (cellsC l) rfl ownU4 ⟨g, 0, none⟩ 1 1 (⟨k1.1.1, k1.1.2.1, k1.1.2.2.1, k1.1.2.2.2, ⟨bo, bn, bc, k2.1⟩, k3.1⟩ : CA).cells rfl rfl (fun j u hu => by rw [Addr.add_lit, Nat.zero_add]; exact (cell_of_row U4 g j #[.string k1.1.1, .string k1.1.2.1, .string k1.1.2.2.1, .int .u64 k1.1.2.2.2, .slice bo bn bc, .bool k3.1] _ (0, 0) N4).trans (show ((⟨k1.1.1, k1.1.2.1, k1.1.2.2.1, k1.1.2.2.2, ⟨bo, bn, bc, k2.1⟩, k3.1⟩ : CA).cells.toArray)[j]? = some u from by rw [List.getElem?_toArray]; exact hu)) (c_one (⟨k1.1.1, k1.1.2.1, k1.1.2.2.1, k1.1.2.2.2, ⟨bo, bn, bc, k2.1⟩, k3.1⟩ : CA)) (by unfold maxLen; omega) (by omega) (by have := m3.lt; have := B4.size; omega) ?_
              intro v' U5 O5 G5 H5
              refine ⟨trivial, ?_⟩
              simp only [FL]
              rw [HU4.out] at G5 H5
              have ST := HI.out.step (by omega) y1 y2 y3 y4 y5 O5 G5 H5
              have n5 : RW U5 M r1.1 (.slice ao1 l.length cap1) false := m3.kept ((G5.block M (by have := m3.lt; simp; omega) (fun e => by have := HI.out.ownlt e.symm; omega)).trans (heap_alloc_old U3 _ m3.lt))
              have d1 := n5.c1
              have z1 := n5.fz 1
              refine hr_take 11 (some 27) (.pointer (some ⟨M, 1, none⟩)) rfl rfl (by kernel_rfl) (by kernel_rfl) (by kernel_rfl) rfl (fun W hW => by go_simp) trivial ?_
              simp only [FL]
              have mm := CL.own ST.own ST.oks
              rw [List.length_append, List.length_singleton] at mm
              obtain ⟨ao3, cap3, rfl, _⟩ := mm
              refine hr_skip 12 none rfl rfl (by kernel_rfl) rfl (w' := U5.setCell ⟨M, 1, none⟩ (.slice ao3 (l.length + 1) cap3)) (by go_simp) trivial ?_
              simp only [Act.put]
              refine wpAnyH_done (by kernel_rfl) ?_ _
              refine NoPanic.normal ?_
              have HST : Hid _ := ST
              clear ST ownU3 ownU4 O5 G5 H5 d1 z1 n5 HU4 N4 B4 y1 y2 y3 y4 y5 S3 S2 R1 R2 R3 G1 G2 G3 m0 m1 m2 m3
              go_wp2
              go_roundw
              case rel => exact ⟨_, l ++ [_], by rw [List.length_append, List.length_singleton]; go_num, HST.out⟩
              case measure => simp [intOf]; omega
            · obtain ⟨g, hg⟩ : ∃ g, g = U3.heap.size := ⟨_, rfl⟩
              obtain ⟨U4, hU4⟩ : ∃ W, W = U3.alloc (.cells #[.string k1.1.1, .string k1.1.2.1, .string k1.1.2.2.1, .int .u64 k1.1.2.2.2, .slice bo bn bc, .bool k3.1] 76) := ⟨_, rfl⟩
              have N4 : U4.heap[g]? = some (.cells #[.string k1.1.1, .string k1.1.2.1, .string k1.1.2.2.1, .int .u64 k1.1.2.2.2, .slice bo bn bc, .bool k3.1] 76) := by rw [hU4, hg]; exact heap_alloc_new U3 _
              have B4 : Below U3.heap.size U3 U4 := by rw [hU4]; exact (Below.refl _ _).alloc (Nat.le_refl _) _
              refine op_do 9 (some 25) (.slice (some ⟨g, 0, none⟩) 1 1) rfl rfl rfl (w' := U4) (by rw [hU4, hg]; go_simp) trivial ?_
              simp only [FL]
              have HU4 : Hid (U4 = U3.alloc (.cells #[.string k1.1.1, .string k1.1.2.1, .string k1.1.2.2.1, .int .u64 k1.1.2.2.2, .slice bo bn bc, .bool k3.1] 76)) := hU4
              clear hU4 hg
              have c1 : U4.cell? ⟨M, 1, none⟩ = some (.slice ao1 l.length cap1) := (m3.kept (B4.block M m3.lt)).c1
              refine hr_do 1 (some 17) (.slice ao1 l.length cap1) rfl rfl (by kernel_rfl) rfl (w' := U4) (by go_simp) trivial ?_
              simp only [FL]
              clear c1
              have y5 : v0.grownBy U3 (some p) := grown_trans (grown_trans G1 G2) G3
              have S3 : Sl U3 bo bn bc k2.1 := Sl.kept (b := ⟨bo, bn, bc, k2.1⟩) S2 (fun x hx => by
                obtain ⟨a, ha, hn, rfl⟩ := hx
                exact G3.block _ (S2.lt a ha hn) (by have := F2 a ha; have := m1.lt; simp; omega))
              have y1 : (⟨k1.1.1, k1.1.2.1, k1.1.2.2.1, k1.1.2.2.2, ⟨bo, bn, bc, k2.1⟩, k3.1⟩ : CA).ok U3 := ⟨by show k1.1.1.size ≤ maxLen; unfold maxLen; omega, by show k1.1.2.1.size ≤ maxLen; unfold maxLen; omega, by show k1.1.2.2.1.size ≤ maxLen; unfold maxLen; omega, Zk.2.2.2, S3⟩
              have y2 : ∀ x, (⟨k1.1.1, k1.1.2.1, k1.1.2.2.1, k1.1.2.2.2, ⟨bo, bn, bc, k2.1⟩, k3.1⟩ : CA).va.blk x → v0.heap.size ≤ x := fun x hx => by
                obtain ⟨a, ha, hn, rfl⟩ := hx
                have := F2 a ha
                have := G1.size
                omega
              have y3 : (⟨k1.1.1, k1.1.2.1, k1.1.2.2.1, k1.1.2.2.2, ⟨bo, bn, bc, k2.1⟩, k3.1⟩ : CA).c = (cT T.2.1 T.2.2).1 := by
                rw [cT_key, ← HK1.out, ← HK2.out, ← HK3.out]
                rfl
              have y4 : R U3 p p (cT T.2.1 T.2.2).2.1 (cT T.2.1 T.2.2).2.2 := by
                rw [cT_key, ← HK1.out, ← HK2.out, ← HK3.out]
                exact R3
              rw [HT.out] at y3 y4
              have ownU3 : U3.ownsRow (M + 1) 76 6 (.slice ao1 l.length cap1) l.length (cellsC l) := own_kept HI.out.own fun x hx => y5.block x (HI.out.ownlt hx).2 (by have := HI.out.ownlt hx; simp; omega)
              have ownU4 : U4.ownsRow (M + 1) 76 6 (.slice ao1 l.length cap1) l.length (cellsC l) := own_kept ownU3 fun x hx => B4.block x (by have := HI.out.ownlt hx; have := y5.size; omega)
              refine hr_own 10 (some 26) rfl rfl (by kernel_rfl) rfl (.tmp 17) (.tmp 25) 35 rfl (M + 1) 76 i0 _ 6 88 Tryd.underlying35 hi hz0 hz1 hz2 rfl (by decide) (.slice ao1 l.length cap1) l.length (cellsC l) rfl ownU4 ⟨g, 0, none⟩ 1 1 (⟨k1.1.1, k1.1.2.1, k1.1.2.2.1, k1.1.2.2.2, ⟨bo, bn, bc, k2.1⟩, k3.1⟩ : CA).cells rfl rfl (fun j u hu => by rw [Addr.add_lit, Nat.zero_add]; exact (cell_of_row U4 g j #[.string k1.1.1, .string k1.1.2.1, .string k1.1.2.2.1, .int .u64 k1.1.2.2.2, .slice bo bn bc, .bool k3.1] _ (0, 0) N4).trans (show ((⟨k1.1.1, k1.1.2.1, k1.1.2.2.1, k1.1.2.2.2, ⟨bo, bn, bc, k2.1⟩, k3.1⟩ : CA).cells.toArray)[j]? = some u from by rw [List.getElem?_toArray]; exact hu)) (c_one (⟨k1.1.1, k1.1.2.1, k1.1.2.2.1, k1.1.2.2.2, ⟨bo, bn, bc, k2.1⟩, k3.1⟩ : CA)) (by unfold maxLen; omega) (by omega) (by have := m3.lt; have := B4.size; omega) ?_
              intro v' U5 O5 G5 H5
              refine ⟨trivial, ?_⟩
              simp only [FL]
              rw [HU4.out] at G5 H5
              have ST := HI.out.step (by omega) y1 y2 y3 y4 y5 O5 G5 H5
              have n5 : RW U5 M r1.1 (.slice ao1 l.length cap1) false := m3.kept ((G5.block M (by have := m3.lt; simp; omega) (fun e => by have := HI.out.ownlt e.symm; omega)).trans (heap_alloc_old U3 _ m3.lt))
              have d1 := n5.c1
              have z1 := n5.fz 1
              refine hr_take 11 (some 27) (.pointer (some ⟨M, 1, none⟩)) rfl rfl (by kernel_rfl) (by kernel_rfl) (by kernel_rfl) rfl (fun W hW => by go_simp) trivial ?_
              simp only [FL]
              have mm := CL.own ST.own ST.oks
              rw [List.length_append, List.length_singleton] at mm
              obtain ⟨ao3, cap3, rfl, _⟩ := mm
              refine hr_skip 12 none rfl rfl (by kernel_rfl) rfl (w' := U5.setCell ⟨M, 1, none⟩ (.slice ao3 (l.length + 1) cap3)) (by go_simp) trivial ?_
              simp only [Act.put]
              refine wpAnyH_done (by kernel_rfl) ?_ _
              refine NoPanic.normal ?_
              have HST : Hid _ := ST
              clear ST ownU3 ownU4 O5 G5 H5 d1 z1 n5 HU4 N4 B4 y1 y2 y3 y4 y5 S3 S2 R1 R2 R3 G1 G2 G3 m0 m1 m2 m3
              go_wp2
              go_roundw
              case rel => exact ⟨_, l ++ [_], by rw [List.length_append, List.length_singleton]; go_num, HST.out⟩
              case measure => simp [intOf]; omega
    · have i6 : (r2.1 : Int) ≤ (l.length : Int) := by omega
      have hle : Hid (l.length = r2.1) := by have := inv.le; show l.length = r2.1; omega
      go_wp2_with fail
      obtain ⟨T, hT⟩ : ∃ T, T = repT cT l.length r2.2.1 r2.2.2 := ⟨_, rfl⟩
      have HT : Hid (T = repT cT l.length r2.2.1 r2.2.2) := hT
      refine (bool_any wr p p T.2.1 T.2.2 (by rw [hT]; exact inv.rd)).mono ?_
      rintro e w5 ⟨rfl, R5, G5⟩
      obtain ⟨b, hb⟩ : ∃ b, b = boolS T.2.1 T.2.2 := ⟨_, rfl⟩
      have HB : Hid (b = boolS T.2.1 T.2.2) := hb
      rw [← hb] at R5 ⊢
      have FAR : Hid (∀ x, (sblk ao1 l.length x ∨ ∃ c ∈ l, c.va.blk x) → M < x ∧ x < wr.heap.size) := fun x hx => by
        rcases hx with hx | ⟨c, hc, hx⟩
        · exact inv.ownlt (sblk_own hx)
        · exact ⟨(inv.far x ⟨c, hc, hx⟩).1, (inv.oks c hc).blk_lt hx⟩
      have CL5 := CL1.kept (w' := w5) fun x hx => G5.block x (FAR.out x hx).2 (by have := (FAR.out x hx).1; simp; omega)
      have m5 := inv.ov.kept (G5.block M inv.ov.lt (by simp; omega))
      have K5 := inv.res.kept (G5.block N inv.res.lt (by simp; omega))
      have B5 := inv.bel.trans (below_grown G5 (by have := inv.bel.size; have := HN.out; omega) (by omega))
      have HL : Hid (l.map CA.c = T.1) := by show _ = _; rw [hT]; exact inv.thr
      have d2 := m5.c2
      have z2 := m5.fz 2
      obtain ⟨w6, hw6⟩ : ∃ W, W = w5.setCell ⟨M, 2, none⟩ (.bool b.1) := ⟨_, rfl⟩
      have SB6 : w6.heap.size = w5.heap.size ∧ ∀ j, j ≠ M → w6.heap[j]? = w5.heap[j]? := by rw [hw6]; exact same_set _ _ _ _
      have m6 : RW w6 M r1.1 (.slice ao1 l.length cap1) b.1 := by rw [hw6]; exact m5.setM b.1
      have K6 : RW w6 N 0 (.slice none 0 0) false := K5.kept (SB6.2 N (by omega))
      have R6 : R w6 p p b.2.1 b.2.2 := by rw [hw6]; exact R5.own hpM (by omega)
      have B6 : Below N w w6 := by rw [hw6]; exact B5.setCell (by show N ≤ M; omega) _
      have CL6 := CL5.kept (w' := w6) fun x hx => SB6.2 x (by have := (FAR.out x hx).1; omega)
      clear hT hb inv CL1 CL5 G5 R5 K5 B5 m5 SB6
      go_wp2_with fail
      rw [← hw6]
      clear hw6 d2 z2
      have HS : Hid (∀ V, Below w6.heap.size w6 V → V.cell? ⟨M, 0, none⟩ = some (.int .i64 r1.1) ∧ V.cell? ⟨M, 1, none⟩ = some (.slice ao1 l.length cap1) ∧ V.cell? ⟨M, 2, none⟩ = some (.bool b.1)) := fun V hV => have q := m6.kept (hV.block M m6.lt); ⟨q.c0, q.c1, q.c2⟩
      have E0 : Below w6.heap.size w6 w6.drew := (Below.refl _ _).drew
      refine wp_region_noPanic ?_
      refine wp_region_held_drew (S := fun V => V.cell? ⟨M, 0, none⟩ = some (.int .i64 r1.1) ∧ V.cell? ⟨M, 1, none⟩ = some (.slice ao1 l.length cap1) ∧ V.cell? ⟨M, 2, none⟩ = some (.bool b.1)) (by kernel_rfl) (HS.out _ E0) (fun H0 => ?_)
      obtain ⟨v0, hv0⟩ : ∃ v, v = w6.drew := ⟨_, rfl⟩
      rw [← hv0] at H0 E0 ⊢
      clear hv0
      refine hr_take_w 0 (some 32) (.pointer (some ⟨p, 0, none⟩)) rfl rfl (by kernel_rfl) (by kernel_rfl) (by kernel_rfl) rfl (fun W hW => by obtain ⟨h0, h1, h2⟩ := hW; go_simp) H0 ?_
      simp only [FL]
      refine hr_take_w 2 (some 34) (.agg #[.int .i64 r1.1, .slice ao1 l.length cap1, .bool b.1]) rfl rfl (by kernel_rfl) (by kernel_rfl) (by kernel_rfl) rfl (fun W hW => by obtain ⟨h0, h1, h2⟩ := hW; go_simp) H0 ?_
      simp only [FL]
      refine hr_call_w 1 (some 33) 50 #[.pointer (some ⟨p, 0, none⟩)] rfl rfl (by kernel_rfl) rfl (by go_simp) (fun v w' => v = .int .i64 (doneS b.2.1 b.2.2) ∧ Below v0.heap.size v0 w') ((((done_any v0 p p b.2.1 b.2.2 (R6.below E0)).mono (fun e w' h => ⟨h.1, by rw [h.2]; exact Below.refl _ _⟩) : Calls Tryd.prog 50 #[.pointer (some ⟨p, 0, none⟩)] v0 fun e w' => e = .returned (.int .i64 (doneS b.2.1 b.2.2)) ∧ Below v0.heap.size v0 w')).mono (by
        rintro e w' ⟨rfl, C⟩
        exact ⟨_, rfl, rfl, C⟩)) ?_
      rintro v v1 ⟨rfl, C0⟩
      have E1 := E0.trans (C0.mono E0.size)
      have H1 := HS.out v1 E1
      refine ⟨H1, ?_⟩
      simp only [FL]
      refine hr_call_w 3 (some 35) 55 #[.agg #[.int .i64 r1.1, .slice ao1 l.length cap1, .bool b.1]] rfl rfl (by kernel_rfl) rfl (by go_simp) (fun v w' => v = .int .i64 (kindR (resR r1.1 l b.1)) ∧ Below v1.heap.size v1 w') ((prr_any v1 r1.1 ao1 l.length cap1 l b.1 (CL6.below E1)).mono (by
        rintro e w' ⟨rfl, C⟩
        exact ⟨_, rfl, rfl, C⟩)) ?_
      rintro v v2 ⟨rfl, C1⟩
      have E2 := E1.trans (C1.mono E1.size)
      have H2 := HS.out v2 E2
      refine ⟨H2, ?_⟩
      simp only [FL]
      obtain ⟨d, hd⟩ : ∃ d, d = doneS b.2.1 b.2.2 := ⟨_, rfl⟩
      obtain ⟨kk, hkk⟩ : ∃ d, d = kindR (resR r1.1 l b.1) := ⟨_, rfl⟩
      rw [← hd, ← hkk]
      have HD : Hid (d = doneS b.2.1 b.2.2) := hd
      have HK : Hid (kk = kindR (resR r1.1 l b.1)) := hkk
      clear hd hkk
      obtain ⟨g, hg⟩ : ∃ g, g = v2.heap.size := ⟨_, rfl⟩
      obtain ⟨v3, hv3⟩ : ∃ V, V = v2.alloc (.cells #[.int .i64 d, .int .i64 kk] 27) := ⟨_, rfl⟩
      have U3 : Below v2.heap.size v2 v3 := by rw [hv3]; exact (Below.refl _ _).alloc (Nat.le_refl _) _
      have G3 : v3.heap[g]? = some (.cells #[.int .i64 d, .int .i64 kk] 27) := by rw [hv3, hg]; exact heap_alloc_new v2 _
      have E3 := E2.trans (U3.mono E2.size)
      have H3 := HS.out v3 E3
      refine hr_do 4 (some 36) (.slice (some ⟨g, 0, none⟩) 2 2) rfl rfl (by kernel_rfl) rfl (w' := v3) (by rw [hv3, hg]; go_simp) H3 ?_
      simp only [FL]
      clear hv3 hg U3
      refine hr_call_w 5 (some 37) 49 #[.slice (some ⟨g, 0, none⟩) 2 2] rfl rfl (by kernel_rfl) rfl (by go_simp) (fun v w' => v = .int .i64 (or2 d kk) ∧ Below v3.heap.size v3 w') ((((por2_any v3 g d kk G3).mono (fun e w' h => ⟨h.1, by rw [h.2]; exact Below.refl _ _⟩) : Calls Tryd.prog 49 #[.slice (some ⟨g, 0, none⟩) 2 2] v3 fun e w' => e = .returned (.int .i64 (or2 d kk)) ∧ Below v3.heap.size v3 w')).mono (by
        rintro e w' ⟨rfl, C⟩
        exact ⟨_, rfl, rfl, C⟩)) ?_
      rintro v v4 ⟨rfl, C3⟩
      have E4 := E3.trans (C3.mono E3.size)
      have H4 := HS.out v4 E4
      refine ⟨H4, ?_⟩
      simp only [FL]
      refine hr_take_w 6 (some 6) (.int .i64 (or2 d kk)) rfl rfl (by kernel_rfl) (by kernel_rfl) (by kernel_rfl) rfl (fun W hW => by obtain ⟨h0, h1, h2⟩ := hW; go_simp) H4 ?_
      simp only [FL]
      refine wpAnyH_done (by kernel_rfl) ?_ _
      refine NoPanic.normal ?_
      have BX : Below N w v4 := B6.trans (E4.mono (by have := B6.size; have := HN.out; omega))
      have KX := K6.kept (E4.block N K6.lt)
      have QX := m6.kept (E4.block M m6.lt)
      have CLX := CL6.below E4
      have HRQ : Hid (rdR xs = if or2 d kk = 0 then .inr (resR r1.1 l b.1) else .inl (or2 d kk)) := by
        show _ = _
        have e3 := HT.out
        rw [hle.out] at e3
        rw [HRD.out, rd_or, resTh_eq ER1.out ER2.out e3 HB.out, ← HL.out]
        simp only
        rw [show (⟨(r1.1 : Int), l.map CA.c, b.1⟩ : RV) = resR r1.1 l b.1 from rfl, ← HK.out, ← HD.out]
      have FR : Hid (∀ x, (sblk ao1 l.length x ∨ ∃ c ∈ l, c.va.blk x) → x ≠ N) := fun x hx => by have := (FAR.out x hx).1; omega
      clear HS H0 H1 H2 H3 H4 E0 E1 E2 E3 E4 C0 C1 C3 G3 m6 CL6 K6 B6 R6 FAR
      have n0 := KX.c0
      have n1 := KX.c1
      have n2 := KX.c2
      have g0 := KX.fz 0
      have g1 := KX.fz 1
      have g2 := KX.fz 2
      by_cases hk : or2 d kk = 0
      · have HQ : Hid (rdR xs = .inr (resR r1.1 l b.1)) := by show _ = _; rw [HRQ.out, if_pos hk]
        have q0 := QX.c0
        have q1 := QX.c1
        have q2 := QX.c2
        have BF : Below N w (((v4.setCell ⟨N, 0, none⟩ (.int .i64 r1.1)).setCell ⟨N, 1, none⟩ (.slice ao1 l.length cap1)).setCell ⟨N, 2, none⟩ (.bool b.1)) := (((BX.setCell (Nat.le_refl _) _).setCell (Nat.le_refl _) _).setCell (Nat.le_refl _) _)
        have SB : ((((v4.setCell ⟨N, 0, none⟩ (.int .i64 r1.1)).setCell ⟨N, 1, none⟩ (.slice ao1 l.length cap1)).setCell ⟨N, 2, none⟩ (.bool b.1))).heap.size = v4.heap.size ∧ ∀ j, j ≠ N → ((((v4.setCell ⟨N, 0, none⟩ (.int .i64 r1.1)).setCell ⟨N, 1, none⟩ (.slice ao1 l.length cap1)).setCell ⟨N, 2, none⟩ (.bool b.1))).heap[j]? = v4.heap[j]? := (SameBut.trans (SameBut.trans (SameBut.trans ⟨rfl, fun _ _ => rfl⟩ (same_set _ _ _ _)) (same_set _ _ _ _)) (same_set _ _ _ _))
        have GOOD : Hid (CL (((v4.setCell ⟨N, 0, none⟩ (.int .i64 r1.1)).setCell ⟨N, 1, none⟩ (.slice ao1 l.length cap1)).setCell ⟨N, 2, none⟩ (.bool b.1)) ao1 l.length cap1 l ∧ Below N w (((v4.setCell ⟨N, 0, none⟩ (.int .i64 r1.1)).setCell ⟨N, 1, none⟩ (.slice ao1 l.length cap1)).setCell ⟨N, 2, none⟩ (.bool b.1))) := ⟨CLX.kept fun x hx => SB.2 x (FR.out x hx), BF⟩
        clear SB BF CLX
        rw [hk]
        clear hk HRQ HD HK KX QX
        go_wp2
        refine bodyPost_ret (v := .tuple #[.agg #[.int .i64 r1.1, .slice ao1 l.length cap1, .bool b.1], .int .i64 0]) (by simp [results, Tryd.results58, go_sem, n0, n1, n2]) rfl ?_
        exact ⟨fun k hk => absurd (HQ.out.symm.trans hk) (by simp), fun q hq => by
          have e := Sum.inr.inj (HQ.out.symm.trans hq)
          subst e
          exact ⟨_, _, _, _, l, _, rfl, GOOD.out.1, rfl⟩, by rw [← HN.out]; exact GOOD.out.2⟩
      · have HQ : Hid (rdR xs = .inl (or2 d kk)) := by show _ = _; rw [HRQ.out, if_neg hk]
        have hkb : (or2 d kk == 0) = false := by simp [hk]
        have hkc : (or2 d kk != 0) = true := by simp [hk]
        have BF : Hid (Below N w (((v4.setCell ⟨N, 0, none⟩ (.int .i64 0)).setCell ⟨N, 1, none⟩ (.slice none 0 0)).setCell ⟨N, 2, none⟩ (.bool false))) := (((BX.setCell (Nat.le_refl _) _).setCell (Nat.le_refl _) _).setCell (Nat.le_refl _) _)
        clear hk HRQ HD HK KX QX CLX
        go_wp2
        refine bodyPost_ret (v := .tuple #[.agg #[.int .i64 0, .slice none 0 0, .bool false], .int .i64 (or2 d kk)]) (by simp [results, Tryd.results58, go_sem, n0, n1, n2]) rfl ?_
        exact ⟨fun k hk => by
          have e := Sum.inl.inj (HQ.out.symm.trans hk)
          subst e
          rfl, fun q hq => absurd (HQ.out.symm.trans hq) (by simp), by rw [← HN.out]; exact BF.out⟩
end Go.Proofs.YtoagkffokfbpfaaDoor

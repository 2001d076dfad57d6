/-
  Texts in one: RHex, RForm, ROf, RLevel7.
-/
import Derived.Test.YtkmkmekhodcioaaGreatDoorChunkLaysZ18
import Derived.Test.YtkmkmekhodcioaaGreatDoorChunkLaysZ6
import Derived.BigQuiet
import Derived.Deep.RegionHeld3
import Derived.Test.YtkmkmekhodcioaaGreatDoorChunkLaysZ1
import Derived.Test.YtkmkmekhodcioaaGreatDoorChunkLaysZ24
import Derived.Test.YtkmkmekhodcioaaGreatDoorChunkLaysZ29
namespace Go.Proofs.YtkmkmekhodcioaaGreatDoor
open Go.RowKit

theorem str_append (xs ys : List Int) : strOfNums xs ++ strOfNums ys = strOfNums (xs ++ ys) := by
  apply ByteArray.ext
  simp [strOfNums]

theorem below_chain {n : Nat} {w a b c : World} (h : Below n w a) (k : Below b.heap.size b c) (e1 : b.heap = a.heap) (e2 : b.os = a.os) (e3 : b.tape = a.tape) (e4 : b.output = a.output) (hn : n ≤ a.heap.size) : Below n w c :=
  ⟨(k.os.trans e2).trans h.os, (k.tape.trans e3).trans h.tape, (k.output.trans e4).trans h.output, Nat.le_trans h.size (by have := k.size; rw [e1] at this; exact this), fun i hi => (k.block i (by rw [e1]; omega)).trans (by rw [e1]; exact h.block i hi)⟩

/-- A slice that reads as some bytes, as a string. -/
theorem conv_sl {w : World} {b o n cap : Nat} {xs : List Int} (h : Sl w (some ⟨b, o, none⟩) n cap xs) : (convert 23 9 (.slice (some ⟨b, o, none⟩) n cap)).run Tryz.prog w = .ok (.string (strOfNums xs)) w := by
  refine run_convert_bytes_arg w 23 5 Tryz.underlying23 Tryz.underlying5 b o n cap xs h.len (fun i hi => ?_) 9 Tryz.underlying9
  have := h.cell _ rfl i hi
  rwa [add_at] at this

set_option maxRecDepth 100000 in
set_option maxHeartbeats 1000000 in
theorem rdigit_any (c : Int) (hc : 0 ≤ c ∧ c < 16) (w : World) :
    Calls Tryz.prog 79 #[.int .u8 c] w fun e w' => e = .returned (.string (strOfNums [dg c])) ∧ Below w.heap.size w w' := by
  have c0 := hc.1
  have c1 := hc.2
  by_cases h10 : c < 10
  · have e : dg c = 48 + c := by simp [dg, h10]
    have hcv := conv_sl (Sl.one w (48 + c) (by omega))
    rw [e]
    clear e
    go_enter Tryz.func79, Tryz.ntmps79
    go_wp2
    go_ret
    exact ⟨rfl, (Below.refl _ w).alloc (Nat.le_refl _) _⟩
  · have e : dg c = 97 + c - 10 := by simp only [dg, h10, if_false]; omega
    have hcv := conv_sl (Sl.one w (97 + c - 10) (by omega))
    have h10' : (10 : Int) ≤ c := by omega
    rw [e]
    clear e h10
    go_enter Tryz.func79, Tryz.ntmps79
    go_wp2
    go_ret
    exact ⟨rfl, (Below.refl _ w).alloc (Nat.le_refl _) _⟩

set_option maxRecDepth 100000 in
set_option maxHeartbeats 2000000 in
theorem rhex_any (w : World) (ao : Option Addr) (m cap : Nat) (xs : List Int) (hL : Sl w ao m cap xs) (hm : m ≤ 70368744177664) :
    Calls Tryz.prog 56 #[.slice ao m cap] w fun e w' => e = .returned (.string (strOfNums (hexL xs))) ∧ Below w.heap.size w w' := by
  have hln := hL.len
  have hmi : (m : Int) ≤ 70368744177664 := by omega
  go_enter Tryz.func56, Tryz.ntmps56
  go_wp2
  go_loopw [3, 4] (fun s i wr => ∃ k : Nat, k ≤ m ∧ i = .int .i64 k ∧ s = .string (strOfNums (hexL (xs.take k))) ∧ Below w.heap.size w wr) (fun _ i _ => m - (intOf i).toNat)
  case atStart => exact ⟨0, by omega, rfl, rfl, Below.refl _ _⟩
  case round =>
    obtain ⟨k, hk, rfl, rfl, hB⟩ := hrel
    by_cases hlt : k < m
    · have hki : (k : Int) < (m : Int) := by omega
      obtain ⟨b, off, rfl, hcl⟩ := hL.at (by omega)
      have c0 := hcl k hlt
      have hbl : b < w.heap.size := World.block_lt_of_cell? w _ c0
      have hb := hL.byte.at k
      have HS : Hid (hexL (xs.take (k + 1)) = hexL (xs.take k) ++ [dg (xs.getD k 0 / 16)] ++ [dg (xs.getD k 0 % 16)]) := hexL_succ xs k (by omega)
      have hbe : xs[k]?.getD 0 = xs.getD k 0 := rfl
      rw [hbe] at hb
      obtain ⟨x, hx⟩ : ∃ x, x = xs.getD k 0 := ⟨_, rfl⟩
      rw [← hx] at c0 hb HS
      clear hbe hx hcl
      have b0 := hb.1
      have b1 := hb.2
      have cw : wr.cell? ⟨b, off + k, none⟩ = some (.int .u8 x) := (hB.cell (p := ⟨b, off + k, none⟩) hbl).trans c0
      have q1 : IntKind.u8.wrap (x.tdiv 16) = x / 16 := by
        rw [IntKind.wrap_u8', Int.tdiv_eq_ediv_of_nonneg b0]
        omega
      have q2 : x.tmod 16 = x % 16 := Int.tmod_eq_emod_of_nonneg b0
      have q3 : IntKind.u8.wrap (x % 16) = x % 16 := by
        rw [IntKind.wrap_u8']
        omega
      obtain ⟨S0, hS0⟩ : ∃ S, S = strOfNums (hexL (xs.take k)) := ⟨_, rfl⟩
      have z0 : S0.size ≤ 140737488355328 := by rw [hS0, strOfNums_size, hexL_take_len _ _ (by omega)]; omega
      have a1 : ∀ w, (Op.stringOp .add S0 (strOfNums [dg (x / 16)])).run Tryz.prog w = .ok (.string (S0 ++ strOfNums [dg (x / 16)])) w := fun w => run_string_add_sum w _ _ (by rw [strOfNums_size, List.length_singleton]; omega)
      have a2 : ∀ w, (Op.stringOp .add (S0 ++ strOfNums [dg (x / 16)]) (strOfNums [dg (x % 16)])).run Tryz.prog w = .ok (.string (S0 ++ strOfNums [dg (x / 16)] ++ strOfNums [dg (x % 16)])) w := fun w => run_string_add_sum w _ _ (by rw [ByteArray.size_append, strOfNums_size, strOfNums_size, List.length_singleton, List.length_singleton]; omega)
      rw [← hS0]
      have HS0 : Hid (S0 = _) := hS0
      clear hS0
      go_wp2_with fail
      go_region_held3 (fun w' => w'.cell? ⟨b, off + k, none⟩ = some (.int .u8 x))
        (first | go_keep | assumption)
        (first | (go_at_call 79; (try rw [q1]); (try rw [q2]); refine (rdigit_any _ (by omega) _).mono ?_; rintro e w2 ⟨rfl, C2⟩; first | (have hB2 := below_chain hB C2 rfl rfl rfl rfl hB.size; clear hB C2; have c2 := (hB2.cell (p := ⟨b, off + k, none⟩) hbl).trans c0) | (have hB3 := below_chain hB2 C2 rfl rfl rfl rfl hB2.size; clear hB2 C2; have c3 := (hB3.cell (p := ⟨b, off + k, none⟩) hbl).trans c0)))
      go_wp2
      go_roundw
      case rel =>
        refine ⟨k + 1, by omega, by go_num, ?_, hB3⟩
        rw [HS.out, HS0.out, str_append, str_append]
      case measure => simp [intOf]; omega
    · have hge : (m : Int) ≤ (k : Int) := by omega
      have e : xs.take k = xs := List.take_of_length_le (by omega)
      rw [e]
      clear e
      go_wp2
      go_ret
      exact ⟨rfl, hB⟩

end Go.Proofs.YtkmkmekhodcioaaGreatDoor

namespace Go.Proofs.YtkmkmekhodcioaaGreatDoor
open Go.RowKit

theorem formL_byte (s : ByteArray) (ps : List Part) (hs : s.size ≤ 1000000) (hn : ps.length ≤ 1000000) (h : ∀ q ∈ ps, Byt q.xs ∧ q.xs.length ≤ 1000000) : Byt (formL (sb s) (pxs ps)) := by
  unfold formL
  rw [sb_len, pxs_len]
  refine ((Byt.append (enc_byte (by omega)) (sb_byte s)).append (enc_byte (by omega))).append (fmP_byte _ fun x hx => ?_)
  obtain ⟨q, hq, rfl⟩ := List.mem_map.1 hx
  exact ⟨(h q hq).1, by have := (h q hq).2; omega⟩

set_option maxRecDepth 100000 in
set_option maxHeartbeats 4000000 in
theorem rform_any (w : World) (s : ByteArray) (ao : Option Addr) (n cap : Nat) (ps : List Part) (hP : PL w ao n cap ps) (hs : s.size ≤ 1000000) (hn : n ≤ 1000000) (hq : ∀ q ∈ ps, q.n ≤ 1000000) :
    Calls Tryz.prog 80 #[.string s, .slice ao n cap] w fun e w' => ∃ v, e = .returned v ∧ w'.ownsRow w.heap.size 5 1 v (formL (sb s) (pxs ps)).length (bv (formL (sb s) (pxs ps))) ∧ Below w.heap.size w w' := by
  have hl := hP.len
  have hni : (n : Int) ≤ 1000000 := by omega
  have hsl := sb_len s
  have es := enc_length (n := s.size) (by omega)
  have en := enc_length (n := n) (by omega)
  have hby : Byt (formL (sb s) (pxs ps)) := formL_byte s ps hs (by omega) (fun q hq' => ⟨(hP.sl q hq').byte, by rw [(hP.sl q hq').len]; exact hq q hq'⟩)
  go_enter Tryz.func80, Tryz.ntmps80
  go_wp2_with (first
    | (refine wpList_conv_bytes rfl (.tmp 7) rfl s rfl (by omega) ?_; intro g2 c2 w2 hg2 S2 B2; have s2 := B2.size; clear hg2)
    | (go_at_call 54; refine (rBytes_any w2 none _ 0 0 s.size c2 [] _ (Sl.nothing w2) S2 (by omega)).mono ?_; rintro e w3 ⟨v3, rfl, own3, C3⟩; simp only [List.nil_append, Nat.zero_add] at own3; obtain ⟨fo, fc, rfl, S3, -⟩ := Sl.own own3 (Byt.append (enc_byte (by omega)) (sb_byte s)); have B3 : Below w.heap.size w w3 := B2.trans (C3.mono (by omega)); have s3 := C3.size; clear C3 own3 S2 B2)
    | (go_at_call 53; refine (rUint_any w3 fo _ fc n _ S3 (by omega) (by omega)).mono ?_; rintro e w4 ⟨v4, rfl, own4, C4⟩; have B4 : Below w.heap.size w w4 := B3.trans (C4.mono (by omega)); have s4 := C4.size; clear C4 S3 B3))
  obtain ⟨F, hF⟩ : ∃ F, F = enc s.size ++ sb s ++ enc n := ⟨_, rfl⟩
  have hFl : F.length = (enc s.size).length + s.size + (enc n).length := by rw [hF]; simp [hsl]; omega
  have hFb : Byt F := by rw [hF]; exact (Byt.append (enc_byte (by omega)) (sb_byte s)).append (enc_byte (by omega))
  have HF : Hid (formL (sb s) (pxs ps) = F ++ fmP (pxs ps)) := by
    show _ = _
    rw [hF, formL, hsl, pxs_len, hl]
  rw [← hF, ← hFl] at own4
  have own4' := own_base own4 (base' := w.heap.size) (by omega)
  clear hF hsl own4
  go_wp2_with fail
  go_loopw [5, 6] (fun v i wr => ∃ k : Nat, k ≤ n ∧ i = .int .i64 k ∧ Below w.heap.size w wr ∧ wr.ownsRow w.heap.size 5 1 v (F ++ fmP (pxs (ps.take k))).length (bv (F ++ fmP (pxs (ps.take k))))) (fun _ i _ => n - (intOf i).toNat)
  case atStart => exact ⟨0, by omega, rfl, B4, by simpa [pxs, fmP] using own4'⟩
  case round =>
    clear own4' B4
    obtain ⟨k, hk, rfl, B7, own7⟩ := hrel
    have t7 := B7.size
    by_cases hlt : k < n
    · have hki : (k : Int) < (n : Int) := by omega
      have hkl : k < ps.length := by omega
      obtain ⟨ab, aof, rfl, hc⟩ := (hP.below B7).at (by omega)
      have c1 := hc k hkl
      have S1 := (hP.below B7).sl ps[k] (List.getElem_mem hkl)
      have HX : Hid (fmP (pxs (ps.take (k + 1))) = fmP (pxs (ps.take k)) ++ (enc ps[k].n ++ ps[k].xs)) := by
        show _ = _
        rw [pxs_take ps k hkl, fmP_snoc, S1.len]
      have hqn := hq ps[k] (List.getElem_mem hkl)
      have hFM : (fmP (pxs (ps.take k))).length ≤ k * (1000000 + 10) := by
        refine Nat.le_trans (fmP_le _ 1000000 (by omega) (fun x hx => ?_)) ?_
        · obtain ⟨q, hq', rfl⟩ := List.mem_map.1 hx
          rw [(hP.sl q (List.mem_of_mem_take hq')).len]
          exact hq q (List.mem_of_mem_take hq')
        · rw [pxs_len, List.length_take]
          exact Nat.mul_le_mul_right _ (by omega)
      have hFb7 : Byt (F ++ fmP (pxs (ps.take k))) := hFb.append (fmP_byte _ fun x hx => by
        obtain ⟨q, hq', rfl⟩ := List.mem_map.1 hx
        have := hP.sl q (List.mem_of_mem_take hq')
        exact ⟨this.byte, by have := this.len; have := hq q (List.mem_of_mem_take hq'); omega⟩)
      obtain ⟨q, hqe⟩ : ∃ q, q = ps[k] := ⟨_, rfl⟩
      rw [← hqe] at c1 S1 HX hqn
      clear hqe hc
      have hql := S1.len
      have eq := enc_length (n := q.n) (by omega)
      have hGl : (F ++ fmP (pxs (ps.take k))).length ≤ 2000000 * 1000010 := by simp; omega
      obtain ⟨G, hG⟩ : ∃ G, G = F ++ fmP (pxs (ps.take k)) := ⟨_, rfl⟩
      rw [← hG] at own7 hFb7 hGl
      have HG : Hid (G = F ++ fmP (pxs (ps.take k))) := hG
      clear hG
      unfold Part.val at c1
      obtain ⟨fo, fc, rfl, S7, -⟩ := Sl.own own7 hFb7
      go_wp2_with (go_at_call 54; refine (rBytes_any wr fo q.ao G.length fc q.n q.cap G q.xs S7 S1 (by omega)).mono ?_; rintro e w8 ⟨v8, rfl, own8, C8⟩; have B8 : Below w.heap.size w w8 := B7.trans (C8.mono (by omega)); clear C8 own7 S7 S1)
      go_roundw
      case rel =>
        refine ⟨k + 1, by omega, by go_num, B8, ?_⟩
        rw [HX.out, ← List.append_assoc F, ← HG.out]
        have el : (G ++ (enc q.n ++ q.xs)).length = G.length + (enc q.n).length + q.n := by simp [hql]; omega
        rw [el, ← List.append_assoc]
        exact own_base own8 t7
      case measure => simp [intOf]; omega
    · have hge : (n : Int) ≤ (k : Int) := by omega
      have e : ps.take k = ps := List.take_of_length_le (by omega)
      rw [e] at own7
      clear e
      go_wp2_with fail
      go_ret
      refine ⟨_, rfl, ?_, B7⟩
      rw [HF.out]
      exact own7

end Go.Proofs.YtkmkmekhodcioaaGreatDoor

namespace Go.Proofs.YtkmkmekhodcioaaGreatDoor
open Go.RowKit

set_option maxRecDepth 100000 in
set_option maxHeartbeats 1000000 in
theorem rof_any (w : World) (s : ByteArray) (ao : Option Addr) (n cap : Nat) (ps : List Part) (hP : PL w ao n cap ps) (hs : s.size ≤ 1000000) (hn : n ≤ 1000000) (hq : ∀ q ∈ ps, q.n ≤ 1000000) (hL : (formL (sb s) (pxs ps)).length ≤ 100000) :
    Calls Tryz.prog 57 #[.string s, .slice ao n cap] w fun e w' => ∃ v, e = .returned v ∧ w'.ownsRow w.heap.size 5 1 v 32 (bv (sumL (formL (sb s) (pxs ps)))) ∧ Below w.heap.size w w' := by
  have hl := hP.len
  have fb := formL_byte s ps hs (by omega) (fun q hq' => ⟨(hP.sl q hq').byte, by rw [(hP.sl q hq').len]; exact hq q hq'⟩)
  go_enter Tryz.func57, Tryz.ntmps57
  go_wp2_with (go_at_call 80; refine (rform_any w s ao n cap ps hP hs hn hq).mono ?_; rintro e w1 ⟨v1, rfl, own1, B1⟩; obtain ⟨fo, fc, rfl, S1, -⟩ := Sl.own own1 fb; have s1 := B1.size; clear own1)
  refine (rsum_any w1 fo _ fc _ S1 hL).mono ?_
  rintro e w2 ⟨v2, rfl, own2, C2⟩
  have B2 : Below w.heap.size w w2 := B1.trans (C2.mono s1)
  go_wp2
  go_ret
  exact ⟨_, rfl, own_base own2 s1, B2⟩

theorem formL_len (s : ByteArray) (ps : List Part) (B : Nat) (hs : s.size < 18446744073709551616) (hn : ps.length < 18446744073709551616) (hB : B < 18446744073709551616) (h : ∀ q ∈ ps, q.xs.length ≤ B) : (formL (sb s) (pxs ps)).length ≤ 20 + s.size + ps.length * (B + 10) := by
  have h1 := fmP_le (pxs ps) B hB (fun x hx => by obtain ⟨q, hq, rfl⟩ := List.mem_map.1 hx; exact h q hq)
  have h2 := enc_length (n := s.size) hs
  have h3 := enc_length (n := ps.length) hn
  rw [pxs_len] at h1
  unfold formL
  rw [sb_len, pxs_len]
  simp only [List.length_append, sb_len]
  omega

end Go.Proofs.YtkmkmekhodcioaaGreatDoor

namespace Go.Proofs.YtkmkmekhodcioaaGreatDoor
open Go.RowKit

theorem tw_at {α : Type} (p : α → Bool) : ∀ (l : List α) (j : Nat) (h : j < l.length), j < (l.takeWhile p).length → p l[j] = true
  | [], j, h, _ => by simp at h
  | a :: l, j, h, hj => by
    rw [List.takeWhile_cons] at hj
    split at hj
    · rename_i ha
      cases j with
      | zero => simpa using ha
      | succ j => simpa using tw_at p l j (by simpa using h) (by simpa using hj)
    · simp at hj
theorem tw_end {α : Type} (p : α → Bool) : ∀ (l : List α) (h : (l.takeWhile p).length < l.length), p (l[(l.takeWhile p).length]'h) = false
  | [], h => by simp at h
  | a :: l, h => by
    by_cases ha : p a = true
    · have e : (a :: l).takeWhile p = a :: l.takeWhile p := by rw [List.takeWhile_cons, if_pos ha]
      have h2 : (l.takeWhile p).length < l.length := by rw [e] at h; simpa using h
      have ih := tw_end p l h2
      simp only [e, List.length_cons, List.getElem_cons_succ]
      exact ih
    · have e : (a :: l).takeWhile p = [] := by rw [List.takeWhile_cons, if_neg ha]
      simp only [e, List.length_nil, List.getElem_cons_zero]
      simpa using ha

set_option maxHeartbeats 1000000 in
set_option maxRecDepth 100000 in
theorem rlevel_any (w : World) (ao : Option Addr) (n cap : Nat) (xs : List Int) (h : Sl w ao n cap xs) (hn : n ≤ 50000) :
    Calls Tryz.prog 23 #[.slice ao n cap] w fun e w' => e = .returned (.int .i64 (lev xs)) ∧ Below w.heap.size w w' := by
  have B0 : Below w.heap.size w (w.alloc (.cells #[.slice ao n cap] 23)) := (Below.refl _ w).alloc (Nat.le_refl _) _
  have P0 := pl_one w ao n cap xs h 23
  obtain ⟨D, hD⟩ : ∃ D, D = sumL (formL (sb lvS) [xs]) := ⟨_, rfl⟩
  have hDl : D.length = 32 := by rw [hD]; exact sumL_len _
  have hDb : Byt D := by rw [hD]; exact sumL_byte _
  have hfl : (formL (sb lvS) (pxs [⟨ao, n, cap, xs⟩])).length ≤ 100000 := by
    have := formL_len lvS [⟨ao, n, cap, xs⟩] 50000 (by decide) (by simp) (by decide) (by intro q hq; rw [List.mem_singleton.1 hq]; show xs.length ≤ 50000; rw [h.len]; exact hn)
    have e : lvS.size = 5 := rfl
    simp only [List.length_cons, List.length_nil, e] at this
    omega
  have CO := rof_any _ lvS (some ⟨w.heap.size, 0, none⟩) 1 1 [⟨ao, n, cap, xs⟩] P0 (by decide) (by decide) (by intro q hq; rw [List.mem_singleton.1 hq]; show n ≤ 1000000; omega) hfl
  rw [show formL (sb lvS) (pxs [⟨ao, n, cap, xs⟩]) = formL (sb lvS) [xs] from rfl, ← hD] at CO
  have HL : Hid (lev xs = ((hexL D).takeWhile fun c => c == 48).length) := by show _ = _; rw [hD]; rfl
  have hlv := lev_le xs
  obtain ⟨m, hm⟩ : ∃ m, m = lev xs := ⟨_, rfl⟩
  rw [← hm] at HL hlv ⊢
  clear hD hfl hm
  go_enter Tryz.func23, Tryz.ntmps23
  go_wp2_with fail
  refine CO.mono ?_
  rintro e w1 ⟨v1, rfl, own1, C1⟩
  obtain ⟨fo, fc, rfl, S1, -⟩ := Sl.own own1 hDb
  have B1 : Below w.heap.size w w1 := B0.trans (C1.mono B0.size)
  clear own1 C1 CO P0 B0
  go_wp2_with fail
  refine (rhex_any w1 fo 32 fc D S1 (by decide)).mono ?_
  rintro e w2 ⟨rfl, C2⟩
  have B2 : Below w.heap.size w w2 := B1.trans (C2.mono B1.size)
  obtain ⟨H, hH⟩ : ∃ H, H = strOfNums (hexL D) := ⟨_, rfl⟩
  have hs : H.size = 64 := by rw [hH, strOfNums_size, hexL_len, hDl]
  have hsb : Hid (sb H = hexL D) := by show _ = _; rw [hH]; exact sb_str (hexL_byte hDb)
  rw [← hH]
  clear hH C2 S1 B1
  have HS : Hid (H.size = 64) := hs
  have hs1 : H.size ≤ 64 := Nat.le_of_eq hs
  clear hs
  have hAt : ∀ k (hk : k < H.size), (H[k].toNat : Int) = (hexL D)[k]'(by rw [← hsb.out, sb_len]; exact hk) := by
    intro k hk
    have h1 := sb_at H k hk
    have hk2 : k < (sb H).length := by rw [sb_len]; exact hk
    rw [List.drop_eq_getElem_cons hk2] at h1
    have h2 := (List.cons.inj h1).1
    rw [← h2]
    simp only [hsb.out]
  have HA : Hid (∀ k (hk : k < H.size), (H[k].toNat : Int) = (hexL D)[k]'(by rw [← hsb.out, sb_len]; exact hk)) := hAt
  clear hAt
  go_wp2_with fail
  go_loopw [4] (fun a wr => ∃ k : Nat, a = .int .i64 k ∧ k ≤ m ∧ wr = w2) (fun a _ => m - (intOf a).toNat)
  case atStart => exact ⟨0, rfl, Nat.zero_le _, rfl⟩
  case round =>
    obtain ⟨k, rfl, hk, rfl⟩ := hrel
    by_cases hkm : k < m
    · have hk64 : k < H.size := by have := HS.out; omega
      have hki : (k : Int) < (H.size : Int) := by omega
      have hb : ((H[k].toNat : Int) == 48) = true := by
        rw [HA.out k hk64]
        exact tw_at (fun c : Int => c == 48) (hexL D) k (by rw [← hsb.out, sb_len]; exact hk64) (by rw [← HL.out]; exact hkm)
      go_wp2
      go_roundw
      case rel => exact ⟨k + 1, by go_num, by omega, trivial⟩
      case measure => simp [intOf]; omega
    · obtain rfl : k = m := by omega
      by_cases hk64 : k < H.size
      · have hki : (k : Int) < (H.size : Int) := by omega
        have hb : ((H[k].toNat : Int) == 48) = false := by
          rw [HA.out k hk64]
          have := tw_end (fun c : Int => c == 48) (hexL D) (by rw [← HL.out, ← hsb.out, sb_len]; exact hk64)
          simp only [← HL.out] at this
          exact this
        go_wp2
        go_ret
        exact ⟨rfl, B2⟩
      · have hki : ¬ (k : Int) < (H.size : Int) := by omega
        go_wp2
        go_ret
        exact ⟨rfl, B2⟩
end Go.Proofs.YtkmkmekhodcioaaGreatDoor

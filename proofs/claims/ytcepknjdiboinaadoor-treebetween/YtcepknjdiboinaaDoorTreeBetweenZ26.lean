/-
  Texts in one: ROf, CConv, PLevel, PTree, PItemM, SortP, PSort.
-/
import Derived.Test.YtcepknjdiboinaaDoorTreeBetweenZ21
import Derived.Test.YtcepknjdiboinaaDoorTreeBetweenZ25
import Derived.Test.YtcepknjdiboinaaDoorTreeBetweenZ4
import Derived.Laws.BytesArg
import Derived.Laws.IdiomStrings
import Derived.Test.YtcepknjdiboinaaDoorTreeBetweenZ20
import Derived.Test.YtcepknjdiboinaaDoorTreeBetweenZ3
import Derived.Test.YtcepknjdiboinaaDoorTreeBetweenZ15
import Derived.Test.YtcepknjdiboinaaDoorTreeBetweenZ17
import Derived.Test.YtcepknjdiboinaaDoorTreeBetweenZ18
import Derived.Test.YtcepknjdiboinaaDoorTreeBetweenZ7
import Derived.Shelf.SlGeneric
import Derived.Shelf.SlSortCmp.WholeK
import Derived.Ground.SlsfProg
import Derived.Test.YtcepknjdiboinaaDoorProg
namespace Go.Proofs.YtcepknjdiboinaaDoor
open Go.RowKit

set_option maxRecDepth 100000 in
set_option maxHeartbeats 1000000 in
theorem rof_any (w : World) (s : ByteArray) (ao : Option Addr) (n cap : Nat) (ps : List Part) (hP : PL w ao n cap ps) (hs : s.size ≤ 1000000) (hn : n ≤ 1000000) (hq : ∀ q ∈ ps, q.n ≤ 1000000) (hL : (formL (sb s) (pxs ps)).length ≤ 100000) :
    Calls Tryd.prog 68 #[.string s, .slice ao n cap] w fun e w' => ∃ v, e = .returned v ∧ w'.ownsRow w.heap.size 5 1 v 32 (bv (sumL (formL (sb s) (pxs ps)))) ∧ Below w.heap.size w w' := by
  have hl := hP.len
  have fb := formL_byte s ps hs (by omega) (fun q hq' => ⟨(hP.sl q hq').byte, by rw [(hP.sl q hq').len]; exact hq q hq'⟩)
  go_enter Tryd.func68, Tryd.ntmps68
  go_wp2_with (go_at_call 88; refine (rform_any w s ao n cap ps hP hs hn hq).mono ?_; rintro e w1 ⟨v1, rfl, own1, B1⟩; obtain ⟨fo, fc, rfl, S1, -⟩ := Sl.own own1 fb; have s1 := B1.size; clear own1)
  refine (rsum_any w1 fo _ fc _ S1 hL).mono ?_
  rintro e w2 ⟨v2, rfl, own2, C2⟩
  have B2 : Below w.heap.size w w2 := B1.trans (C2.mono s1)
  go_wp2
  go_ret
  exact ⟨_, rfl, own_base own2 s1, B2⟩

theorem formL_len (s : ByteArray) (ps : List Part) (B : Nat) (hs : s.size < 18446744073709551616) (hn : ps.length < 18446744073709551616) (hB : B < 18446744073709551616) (h : ∀ q ∈ ps, q.xs.length ≤ B) : (formL (sb s) (pxs ps)).length ≤ 20 + s.size + ps.length * (B + 10) := by
  have h1 := fmP_le (pxs ps) B hB (fun x hx => by obtain ⟨q, hq, rfl⟩ := List.mem_map.1 hx; exact h q hq)
  have h2 := enc_length (n := s.size) hs
  have h3 := enc_length (n := ps.length) hn
  rw [pxs_len] at h1
  unfold formL
  rw [sb_len, pxs_len]
  simp only [List.length_append, sb_len]
  omega

end Go.Proofs.YtcepknjdiboinaaDoor

namespace Go.Proofs.YtcepknjdiboinaaDoor
open Go.RowKit

theorem sb_str {xs : List Int} (h : Byt xs) : sb (strOfNums xs) = xs := by
  unfold sb
  rw [strOfNums_data, List.map_map]
  refine (List.map_congr_left fun x hx => ?_).trans (List.map_id xs)
  have := h x hx
  simp only [Function.comp_apply, id_eq, UInt8.toNat_ofNat']
  omega
theorem conv_str {w : World} {ao : Option Addr} {n cap : Nat} {xs : List Int} (h : Sl w ao n cap xs) : (convert 23 9 (.slice ao n cap)).run Tryd.prog w = .ok (.string (strOfNums xs)) w := by
  cases ao with
  | none =>
    obtain ⟨rfl, rfl⟩ := h.nil rfl
    obtain rfl : xs = [] := List.eq_nil_of_length_eq_zero h.len
    exact run_convert_bytes_nil w _ _ Tryd.underlying23 Tryd.underlying5 _ _ _ Tryd.underlying9
  | some a =>
    have hl := h.len
    have hc := run_convert_bytes_back (P := Tryd.prog) w 23 9 5 a cap (xs.map fun n => UInt8.ofNat n.toNat) Tryd.underlying23 Tryd.underlying5 Tryd.underlying9 (fun j hj => by
      have hj' : j < xs.length := by simpa using hj
      have hb := h.byte xs[j] (List.getElem_mem hj')
      rw [h.cells a rfl j _ (bv_get xs j hj')]
      simp only [List.getElem_map, UInt8.toNat_ofNat', List.getD, List.getElem?_eq_getElem hj', Option.getD_some, Option.some.injEq, Value.int.injEq, true_and]
      omega)
    rw [List.length_map, hl] at hc
    exact hc
end Go.Proofs.YtcepknjdiboinaaDoor

namespace Go.Proofs.YtcepknjdiboinaaDoor
open Go.RowKit

theorem dg_byte {x : Int} (h : 0 ≤ x ∧ x < 16) : 0 ≤ dg x ∧ dg x ≤ 255 := by
  unfold dg
  split <;> omega
theorem hexL_byte {xs : List Int} (h : Byt xs) : Byt (hexL xs) := by
  intro y hy
  simp only [hexL, List.mem_flatMap, List.mem_cons, List.not_mem_nil, or_false] at hy
  obtain ⟨x, hx, hy⟩ := hy
  have := h x hx
  rcases hy with rfl | rfl
  · exact dg_byte (by omega)
  · exact dg_byte (by omega)
theorem take_drop_while {α : Type} (p : α → Bool) : ∀ l : List α, (l.takeWhile p).length + (l.dropWhile p).length = l.length
  | [] => rfl
  | a :: l => by
    have := take_drop_while p l
    rw [List.takeWhile_cons, List.dropWhile_cons]
    split <;> simp only [List.length_cons, List.length_nil] <;> omega
theorem pl_one (w : World) (ao : Option Addr) (n cap : Nat) (xs : List Int) (h : Sl w ao n cap xs) (t : TypeId) : PL (w.alloc (.cells #[.slice ao n cap] t)) (some ⟨w.heap.size, 0, none⟩) 1 1 [⟨ao, n, cap, xs⟩] := by
  have B : Below w.heap.size w (w.alloc (.cells #[.slice ao n cap] t)) := (Below.refl _ w).alloc (Nat.le_refl _) _
  refine (KL.mk ?_ ?_).pl
  · exact VL.new w [.slice ao n cap] t (by simp [maxLen])
  · intro q hq
    rw [List.mem_singleton.1 hq]
    exact h.below B

theorem wrap_lev (k : List Int) : IntKind.i64.wrap (lev k : Int) = lev k := by
  have := lev_le k
  simp [IntKind.wrap, IntKind.bits, IntKind.signed]
  omega

set_option maxHeartbeats 1000000 in
set_option maxRecDepth 100000 in
theorem level_any (w : World) (ao : Option Addr) (n cap : Nat) (xs : List Int) (hT : Tabs w) (h : Sl w ao n cap xs) (hn : n ≤ 1000000) :
    Calls Tryd.prog 35 #[.slice ao n cap] w fun e w' => e = .returned (.int .i64 (lev xs)) ∧ Below w.heap.size w w' := by
  have h2 := hT.two
  have B0 : Below w.heap.size w (w.alloc (.cells #[.slice ao n cap] 23)) := (Below.refl _ w).alloc (Nat.le_refl _) _
  have P0 := pl_one w ao n cap xs h 23
  obtain ⟨D, hD⟩ : ∃ D, D = sumL (formL (sb lvS) [xs]) := ⟨_, rfl⟩
  have hDl : D.length = 32 := by rw [hD]; exact sumL_len _
  have hDb : Byt D := by rw [hD]; exact sumL_byte _
  have CO := of_any _ lvS (some ⟨w.heap.size, 0, none⟩) 1 1 [⟨ao, n, cap, xs⟩] P0 (hT.below B0 h2) (by decide) (by decide) (by intro q hq; rw [List.mem_singleton.1 hq]; exact hn)
  rw [show formL (sb lvS) (pxs [⟨ao, n, cap, xs⟩]) = formL (sb lvS) [xs] from rfl, ← hD] at CO
  have HL : Hid (lev xs = ((hexL D).takeWhile fun c => c == 48).length) := by show _ = _; rw [hD]; rfl
  clear hD
  go_enter Tryd.func35, Tryd.ntmps35
  go_wp2_with fail
  refine CO.mono ?_
  rintro e w1 ⟨v1, rfl, own1, C1⟩
  obtain ⟨fo, fc, rfl, S1, -⟩ := Sl.own own1 hDb
  have B1 : Below w.heap.size w w1 := B0.trans (C1.mono B0.size)
  clear own1 C1 CO P0 B0
  go_wp2_with fail
  refine (hex_any w1 fo 32 fc D S1 (by decide)).mono ?_
  rintro e w2 ⟨rfl, C2⟩
  have B2 : Below w.heap.size w w2 := B1.trans (C2.mono B1.size)
  obtain ⟨H, hH⟩ : ∃ H, H = strOfNums (hexL D) := ⟨_, rfl⟩
  have hs : H.size = 64 := by rw [hH, strOfNums_size, hexL_len, hDl]
  have hsb : Hid (sb H = hexL D) := by show _ = _; rw [hH]; exact sb_str (hexL_byte hDb)
  rw [← hH]
  clear hH C2 S1 B1
  have CT := trim_any w2 H (by omega) (by omega)
  have HS : Hid (H.size = 64) := hs
  clear hs
  go_wp2_with fail
  refine CT.mono ?_
  rintro e w3 ⟨t, rfl, ht, rfl⟩
  have htl := take_drop_while (fun c : Int => c == 48) (hexL D)
  rw [hsb.out] at ht
  rw [← ht, sb_len, ← hsb.out, sb_len, hsb.out, HS.out, ← HL.out] at htl
  have HZ : Hid ((H.size : Int) - t.size = lev xs) := by
    show _ = _
    rw [HS.out]
    omega
  have hw : IntKind.i64.wrap ((H.size : Int) - t.size) = (H.size : Int) - t.size := by
    rw [HZ.out]
    exact wrap_lev xs
  clear htl ht CT
  go_wp2
  go_ret
  refine ⟨?_, B2⟩
  show Ending.returned (.int .i64 ((H.size : Int) - t.size)) = _
  rw [HZ.out]

theorem tw_at {α : Type} (p : α → Bool) : ∀ (l : List α) (j : Nat) (h : j < l.length), j < (l.takeWhile p).length → p l[j] = true
  | [], j, h, _ => by simp at h
  | a :: l, j, h, hj => by
    rw [List.takeWhile_cons] at hj
    split at hj
    · rename_i ha
      cases j with
      | zero => simpa using ha
      | succ j => simpa using tw_at p l j (by simpa using h) (by simpa using hj)
    · simp at hj
theorem tw_end {α : Type} (p : α → Bool) : ∀ (l : List α) (h : (l.takeWhile p).length < l.length), p (l[(l.takeWhile p).length]'h) = false
  | [], h => by simp at h
  | a :: l, h => by
    by_cases ha : p a = true
    · have e : (a :: l).takeWhile p = a :: l.takeWhile p := by rw [List.takeWhile_cons, if_pos ha]
      have h2 : (l.takeWhile p).length < l.length := by rw [e] at h; simpa using h
      have ih := tw_end p l h2
      simp only [e, List.length_cons, List.getElem_cons_succ]
      exact ih
    · have e : (a :: l).takeWhile p = [] := by rw [List.takeWhile_cons, if_neg ha]
      simp only [e, List.length_nil, List.getElem_cons_zero]
      simpa using ha

set_option maxHeartbeats 1000000 in
set_option maxRecDepth 100000 in
theorem rlevel_any (w : World) (ao : Option Addr) (n cap : Nat) (xs : List Int) (h : Sl w ao n cap xs) (hn : n ≤ 50000) :
    Calls Tryd.prog 45 #[.slice ao n cap] w fun e w' => e = .returned (.int .i64 (lev xs)) ∧ Below w.heap.size w w' := by
  have B0 : Below w.heap.size w (w.alloc (.cells #[.slice ao n cap] 23)) := (Below.refl _ w).alloc (Nat.le_refl _) _
  have P0 := pl_one w ao n cap xs h 23
  obtain ⟨D, hD⟩ : ∃ D, D = sumL (formL (sb lvS) [xs]) := ⟨_, rfl⟩
  have hDl : D.length = 32 := by rw [hD]; exact sumL_len _
  have hDb : Byt D := by rw [hD]; exact sumL_byte _
  have hfl : (formL (sb lvS) (pxs [⟨ao, n, cap, xs⟩])).length ≤ 100000 := by
    have := formL_len lvS [⟨ao, n, cap, xs⟩] 50000 (by decide) (by simp) (by decide) (by intro q hq; rw [List.mem_singleton.1 hq]; show xs.length ≤ 50000; rw [h.len]; exact hn)
    have e : lvS.size = 5 := rfl
    simp only [List.length_cons, List.length_nil, e] at this
    omega
  have CO := rof_any _ lvS (some ⟨w.heap.size, 0, none⟩) 1 1 [⟨ao, n, cap, xs⟩] P0 (by decide) (by decide) (by intro q hq; rw [List.mem_singleton.1 hq]; show n ≤ 1000000; omega) hfl
  rw [show formL (sb lvS) (pxs [⟨ao, n, cap, xs⟩]) = formL (sb lvS) [xs] from rfl, ← hD] at CO
  have HL : Hid (lev xs = ((hexL D).takeWhile fun c => c == 48).length) := by show _ = _; rw [hD]; rfl
  have hlv := lev_le xs
  obtain ⟨m, hm⟩ : ∃ m, m = lev xs := ⟨_, rfl⟩
  rw [← hm] at HL hlv ⊢
  clear hD hfl hm
  go_enter Tryd.func45, Tryd.ntmps45
  go_wp2_with fail
  refine CO.mono ?_
  rintro e w1 ⟨v1, rfl, own1, C1⟩
  obtain ⟨fo, fc, rfl, S1, -⟩ := Sl.own own1 hDb
  have B1 : Below w.heap.size w w1 := B0.trans (C1.mono B0.size)
  clear own1 C1 CO P0 B0
  go_wp2_with fail
  refine (rhex_any w1 fo 32 fc D S1 (by decide)).mono ?_
  rintro e w2 ⟨rfl, C2⟩
  have B2 : Below w.heap.size w w2 := B1.trans (C2.mono B1.size)
  obtain ⟨H, hH⟩ : ∃ H, H = strOfNums (hexL D) := ⟨_, rfl⟩
  have hs : H.size = 64 := by rw [hH, strOfNums_size, hexL_len, hDl]
  have hsb : Hid (sb H = hexL D) := by show _ = _; rw [hH]; exact sb_str (hexL_byte hDb)
  rw [← hH]
  clear hH C2 S1 B1
  have HS : Hid (H.size = 64) := hs
  have hs1 : H.size ≤ 64 := Nat.le_of_eq hs
  clear hs
  have hAt : ∀ k (hk : k < H.size), (H[k].toNat : Int) = (hexL D)[k]'(by rw [← hsb.out, sb_len]; exact hk) := by
    intro k hk
    have h1 := sb_at H k hk
    have hk2 : k < (sb H).length := by rw [sb_len]; exact hk
    rw [List.drop_eq_getElem_cons hk2] at h1
    have h2 := (List.cons.inj h1).1
    rw [← h2]
    simp only [hsb.out]
  have HA : Hid (∀ k (hk : k < H.size), (H[k].toNat : Int) = (hexL D)[k]'(by rw [← hsb.out, sb_len]; exact hk)) := hAt
  clear hAt
  go_wp2_with fail
  go_loopw [4] (fun a wr => ∃ k : Nat, a = .int .i64 k ∧ k ≤ m ∧ wr = w2) (fun a _ => m - (intOf a).toNat)
  case atStart => exact ⟨0, rfl, Nat.zero_le _, rfl⟩
  case round =>
    obtain ⟨k, rfl, hk, rfl⟩ := hrel
    by_cases hkm : k < m
    · have hk64 : k < H.size := by have := HS.out; omega
      have hki : (k : Int) < (H.size : Int) := by omega
      have hb : ((H[k].toNat : Int) == 48) = true := by
        rw [HA.out k hk64]
        exact tw_at (fun c : Int => c == 48) (hexL D) k (by rw [← hsb.out, sb_len]; exact hk64) (by rw [← HL.out]; exact hkm)
      go_wp2
      go_roundw
      case rel => exact ⟨k + 1, by go_num, by omega, trivial⟩
      case measure => simp [intOf]; omega
    · obtain rfl : k = m := by omega
      by_cases hk64 : k < H.size
      · have hki : (k : Int) < (H.size : Int) := by omega
        have hb : ((H[k].toNat : Int) == 48) = false := by
          rw [HA.out k hk64]
          have := tw_end (fun c : Int => c == 48) (hexL D) (by rw [← HL.out, ← hsb.out, sb_len]; exact hk64)
          simp only [← HL.out] at this
          exact this
        go_wp2
        go_ret
        exact ⟨rfl, B2⟩
      · have hki : ¬ (k : Int) < (H.size : Int) := by omega
        go_wp2
        go_ret
        exact ⟨rfl, B2⟩
end Go.Proofs.YtcepknjdiboinaaDoor

namespace Go.Proofs.YtcepknjdiboinaaDoor
open Go.RowKit

/-- What Put answers. -/
def PutPost (w : World) (l : List It) (x : It) (kd : Int) (e : Ending) (w' : World) : Prop := ∃ u, e = .returned (.tuple #[.pointer u, .int .i64 kd]) ∧ (kd = 0 → TT w' (.pointer u) (ins l x)) ∧ (kd ≠ 0 → u = none) ∧ Below w.heap.size w w'

set_option maxHeartbeats 4000000 in
set_option maxRecDepth 100000 in
theorem tput_any (w : World) (v : Value) (l : List It) (x : It) (ko vo : Option Addr) (kn kc vn vc : Nat) (hT : Tabs w) (h : TT w v l) (hs : Srt l) (hk : Sl w ko kn kc x.k) (hv : Sl w vo vn vc x.v) (hkn : kn ≤ 1000000) (hvn : vn ≤ 1000000) (hn : l.length ≤ 50000) (kd : Int)
    (hkd : Hid (jL [⟨⟨ko, kn, kc, x.k⟩, ⟨vo, vn, vc, x.v⟩⟩] 0 = kd)) :
    Calls Tryd.prog 9 #[v, .slice ko kn kc, .slice vo vn vc] w (PutPost w l x kd) := by
  have h2 := hT.two
  obtain ⟨W0, hW0⟩ : ∃ W, W = w.alloc (.cells #[.slice ko kn kc, .slice vo vn vc] 43) := ⟨_, rfl⟩
  have B0 : Below w.heap.size w W0 := by rw [hW0]; exact (Below.refl _ w).alloc (Nat.le_refl _) _
  have I0 : IL W0 (some ⟨w.heap.size, 0, none⟩) 1 1 [⟨⟨ko, kn, kc, x.k⟩, ⟨vo, vn, vc, x.v⟩⟩] := by rw [hW0]; exact IL.one w ⟨⟨ko, kn, kc, x.k⟩, ⟨vo, vn, vc, x.v⟩⟩ ⟨hk, hv⟩ _
  have CJ := judge_any W0 _ 1 1 _ I0 (by omega) (by intro q hq; rw [List.mem_singleton.1 hq]; exact ⟨hkn, hvn⟩)
  rw [hkd.out] at CJ
  obtain ⟨po, rfl⟩ := h.ptr
  go_enter Tryd.func9, Tryd.ntmps9
  go_wp2_with fail
  rw [← hW0]
  clear hW0
  refine CJ.mono ?_
  rintro e w1 ⟨rfl, C1⟩
  have B1 : Below w.heap.size w w1 := B0.trans (C1.mono B0.size)
  clear CJ I0 C1 B0
  by_cases hz : kd = 0
  · have hzb : (kd != 0) = false := by simp [hz]
    have HZ : Hid (kd = 0) := hz
    clear hz
    have CS := shared_at w w1 (.pointer po) l h B1
    go_wp2_with fail
    refine CS.mono ?_
    rintro e w2 ⟨q, rfl, hq, hw2⟩
    obtain rfl := hw2.symm
    clear CS
    have CL := level_any w1 ko kn kc x.k (hT.below B1 h2) (hk.below B1) hkn
    go_wp2_with fail
    refine CL.mono ?_
    rintro e w3 ⟨rfl, C3⟩
    have B3 : Below w.heap.size w w3 := B1.trans (C3.mono B1.size)
    clear CL C3 B1
    have CO := own_any w3 ko kn kc x.k (hk.below B3) hkn
    go_wp2_with fail
    refine CO.mono ?_
    rintro e w4 ⟨xo, xc, rfl, S4, C4⟩
    have B4 : Below w.heap.size w w4 := B3.trans (C4.mono B3.size)
    clear CO C4 B3
    have CO := own_any w4 vo vn vc x.v (hv.below B4) hvn
    go_wp2_with fail
    refine CO.mono ?_
    rintro e w5 ⟨yo, yc, rfl, S5, C5⟩
    have B5 : Below w.heap.size w w5 := B4.trans (C5.mono B4.size)
    have S4 := S4.below C5
    clear CO C5 B4
    have CW := with_any w5 (.pointer q) l x xo yo kn xc vn yc S4 S5 (hq.below B5) hs (by omega)
    go_wp2_with fail
    refine CW.mono ?_
    rintro e w6 ⟨u, rfl, T6, C6⟩
    have B6 : Below w.heap.size w w6 := B5.trans (C6.mono B5.size)
    clear CW C6 B5 S4 S5
    obtain ⟨u6, rfl⟩ := T6.ptr
    have CT := treeOf_any w6 _ _ T6
    go_wp2_with fail
    refine CT.mono ?_
    rintro e w7 ⟨u, rfl, T7, C7⟩
    have B7 : Below w.heap.size w w7 := B6.trans (C7.mono B6.size)
    obtain ⟨u7, rfl⟩ := T7.ptr
    clear CT C7 B6 T6
    go_wp2
    go_ret2
    refine ⟨u7, ?_, fun _ => T7, fun hne => absurd HZ.out hne, B7⟩
    rw [HZ.out]
    rfl
  · have hzb : (kd != 0) = true := by simp [hz]
    have HZ : Hid (¬ kd = 0) := hz
    clear hz
    go_wp2
    go_ret2
    exact ⟨none, rfl, fun hz => absurd hz HZ.out, fun _ => rfl, B1⟩

/-- What Get answers. -/
def GetPost (w : World) (l : List It) (key : List Int) (e : Ending) (w' : World) : Prop := ∃ (qo : Option Addr) (qn qc : Nat) (b : Bool), e = .returned (.tuple #[.slice qo qn qc, .bool b]) ∧
  (b = true → ∃ x ∈ l, x.k = key ∧ Sl w' qo qn qc x.v) ∧ (b = false → ¬ has key l ∧ qn = 0 ∧ Sl w' qo qn qc []) ∧ Below w.heap.size w w'

set_option maxHeartbeats 4000000 in
set_option maxRecDepth 100000 in
theorem tget_any (w : World) (v : Value) (l : List It) (key : List Int) (ko : Option Addr) (kn kc : Nat) (h : TT w v l) (hs : Srt l) (hk : Sl w ko kn kc key) (hn : l.length ≤ 50000) (hv : ∀ x ∈ l, x.v.length ≤ 1000000) :
    Calls Tryd.prog 15 #[v, .slice ko kn kc] w (GetPost w l key) := by
  have CS := shared_at w w v l h (Below.refl _ _)
  obtain ⟨po, rfl⟩ := h.ptr
  go_enter Tryd.func15, Tryd.ntmps15
  go_wp2_with fail
  refine CS.mono ?_
  rintro e w2 ⟨q, rfl, hq, hw2⟩
  obtain rfl := hw2.symm
  have CF := find_any w (.pointer q) l key ko kn kc hq hs hk (by omega)
  clear CS
  go_wp2_with fail
  refine CF.mono ?_
  rintro e w3 ⟨qo, qn, qc, b, rfl, h1, h2, B3⟩
  clear CF
  cases b with
  | true =>
    obtain ⟨x, hx, hxk, S⟩ := h1 rfl
    have hl := hv x hx
    rw [S.len] at hl
    have CC := clone_any w3 qo qn qc x.v S hl
    clear h1 h2
    go_wp2_with fail
    refine CC.mono ?_
    rintro e w4 ⟨ro, rc, rfl, S4, C4⟩
    go_wp2
    go_ret2
    exact ⟨ro, qn, rc, true, rfl, fun _ => ⟨x, hx, hxk, S4⟩, by simp, B3.trans (C4.mono B3.size)⟩
  | false =>
    obtain ⟨hno, rfl, rfl, rfl⟩ := h2 rfl
    have CC := clone_any w3 none 0 0 [] (Sl.nothing w3) (by omega)
    clear h1 h2
    go_wp2_with fail
    refine CC.mono ?_
    rintro e w4 ⟨ro, rc, rfl, S4, C4⟩
    go_wp2
    go_ret2
    exact ⟨ro, 0, rc, false, rfl, by simp, fun _ => ⟨hno, rfl, S4⟩, B3.trans (C4.mono B3.size)⟩
end Go.Proofs.YtcepknjdiboinaaDoor

namespace Go.Proofs.YtcepknjdiboinaaDoor
open Go.RowKit

/-- All blocks of bytes are as they were. -/
def KpB (w w' : World) : Prop := ∀ (b : Nat) (cur : Array Value), w.heap[b]? = some (Obj.cells cur 5) → w'.heap[b]? = some (Obj.cells cur 5)
theorem KpB.refl (w : World) : KpB w w := fun _ _ h => h
theorem KpB.trans {a b c : World} (h : KpB a b) (k : KpB b c) : KpB a c := fun p cur e => k p cur (h p cur e)
theorem KpB.below {w w' : World} (h : Below w.heap.size w w') : KpB w w' := fun b _ e => (h.block b (Array.getElem?_eq_some_iff.1 e).1).trans e
theorem KpB.row {w w' : World} {base : Nat} {e : TypeId} {size : Nat} {v : Value} {n : Nat} {xs : List Value} (hr : w.ownsRow base e size v n xs) (he : e ≠ 5) (hg : w.grownBy w' v.ownBlock) : KpB w w' := fun b cur h => by
  refine (hg.block b (Array.getElem?_eq_some_iff.1 h).1 fun ev => ?_).trans h
  rcases hr.2 with ⟨rfl, _⟩ | ⟨g, cap, cur', rfl, _, hgb, _⟩
  · simp [Value.ownBlock] at ev
  · obtain rfl : b = g := by simpa [Value.ownBlock] using ev
    rw [hgb] at h
    simp only [Option.some.injEq, Obj.cells.injEq] at h
    exact he h.2.1
theorem KpB.set {w : World} {p : Nat} {t : TypeId} {cs : List Value} (ha : Arr w p t cs) (ht : t ≠ 5) (j : Nat) (v : Value) : KpB w (w.setCell ⟨p, j, none⟩ v) := fun b cur h => by
  refine (heap_setCell_other w ⟨p, j, none⟩ b v fun e => ?_).trans h
  have e' : b = p := e
  subst e'
  have := (show w.heap[b]? = _ from ha).symm.trans h
  simp only [Option.some.injEq, Obj.cells.injEq] at this
  exact ht this.2.1
/-- Bytes in a block of bytes. -/
def SlT (w : World) (q : Part) : Prop := Sl w q.ao q.n q.cap q.xs ∧ ∀ a, q.ao = some a → ∃ cur : Array Value, w.heap[a.block]? = some (Obj.cells cur 5)
theorem SlT.kp {w w' : World} {q : Part} (h : SlT w q) (k : KpB w w') : SlT w' q := by
  refine ⟨⟨h.1.len, h.1.le, h.1.mx, h.1.nil, fun a ha i hi => ?_, h.1.byte⟩, fun a ha => ?_⟩
  · obtain ⟨cur, hc⟩ := h.2 a ha
    have hb : (a.add i).block = a.block := by unfold Addr.add; split <;> rfl
    rw [← h.1.cell a ha i hi]
    exact World.cell?_of_block (by rw [hb, k _ _ hc, hc])
  · obtain ⟨cur, hc⟩ := h.2 a ha
    exact ⟨cur, k _ _ hc⟩
theorem SlT.own {w : World} {base : Nat} {v : Value} {n : Nat} {xs : List Int} (h : w.ownsRow base 5 1 v n (bv xs)) (hb : Byt xs) : ∃ ao cap, v = .slice ao n cap ∧ SlT w ⟨ao, n, cap, xs⟩ := by
  obtain ⟨ao, cap, rfl, S, -⟩ := Sl.own h hb
  refine ⟨ao, cap, rfl, S, fun a ha => ?_⟩
  rcases h.2 with ⟨e, -⟩ | ⟨g, cap', cur, e, -, hh, -⟩
  · have ha' : ao = some a := ha
    simp only [Value.slice.injEq] at e
    rw [e.1] at ha'
    simp at ha'
  · have ha' : ao = some a := ha
    simp only [Value.slice.injEq] at e
    rw [e.1] at ha'
    obtain rfl := Option.some.inj ha'
    exact ⟨cur, hh⟩

set_option maxHeartbeats 400000 in
set_option maxRecDepth 100000 in
theorem ownT_any (w : World) (ao : Option Addr) (n cap : Nat) (xs : List Int) (h : Sl w ao n cap xs) (hn : n ≤ 1000000) :
    Calls Tryd.prog 36 #[.slice ao n cap] w fun e w' => ∃ ro rc, e = .returned (.slice ro n rc) ∧ SlT w' ⟨ro, n, rc, xs⟩ ∧ Below w.heap.size w w' := by
  have B0 : Below w.heap.size w (w.alloc (.cells #[] 5)) := (Below.refl _ w).alloc (Nat.le_refl _) _
  have h0 := h.below B0
  have o0 := own_nothing w
  have hb := h.byte
  go_enter Tryd.func36, Tryd.ntmps36
  go_wp2_with (at_builtin; refine wpList_app rfl _ _ rfl w.heap.size _ _ _ rfl o0 _ _ _ _ rfl h0 (by omega) (by simp) ?_; intro v1 w1 own1 B1)
  simp only [Nat.zero_add, List.nil_append] at own1
  obtain ⟨ro, rc, rfl, S⟩ := SlT.own own1 hb
  go_wp2
  go_ret
  exact ⟨ro, rc, rfl, S, B0.trans B1⟩

/-- The cells of some items. -/
def flatI (ps : List IP) : List Value := ps.flatMap fun q => [q.k.val, q.v.val]
theorem flatI_length (ps : List IP) : (flatI ps).length = ps.length * 2 := by
  induction ps with
  | nil => rfl
  | cons q ps ih =>
    have e : flatI (q :: ps) = q.k.val :: q.v.val :: flatI ps := rfl
    rw [e, List.length_cons, List.length_cons, ih, List.length_cons]
    omega
theorem flatI_get : ∀ (ps : List IP) (i : Nat) (hi : i < ps.length), (flatI ps)[i * 2]? = some ps[i].k.val ∧ (flatI ps)[i * 2 + 1]? = some ps[i].v.val
  | q :: ps, 0, _ => ⟨rfl, rfl⟩
  | q :: ps, i + 1, hi => by
    have e : flatI (q :: ps) = q.k.val :: q.v.val :: flatI ps := rfl
    have := flatI_get ps i (by simpa using hi)
    rw [e, show (i + 1) * 2 = i * 2 + 1 + 1 by omega]
    simpa using this
theorem flatI_one (ps : List IP) : ∀ u ∈ flatI ps, u.oneCell' = true := fun u hu => by
  obtain ⟨q, -, hq⟩ := List.mem_flatMap.1 hu
  simp only [List.mem_cons, List.not_mem_nil, or_false] at hq
  rcases hq with rfl | rfl <;> rfl
/-- The block p holds a list of the items l, made by the call. -/
structure LI (W : World) (p base : Nat) (l : List It) (v : Value) (ps : List IP) : Prop where
  arr : Arr W p 26 [v]
  row : W.ownsRow base 43 2 v ps.length (flatI ps)
  its : ps.map IP.it = l
  sl : ∀ q ∈ ps, SlT W q.k ∧ SlT W q.v
theorem LI.below {w w' : World} {p base : Nat} {l : List It} {v : Value} {ps : List IP} (h : LI w p base l v ps) (hb : Below w.heap.size w w') : LI w' p base l v ps :=
  ⟨arr_below h.arr hb, own_below h.row hb, h.its, fun q hq => ⟨(h.sl q hq).1.kp (KpB.below hb), (h.sl q hq).2.kp (KpB.below hb)⟩⟩
theorem LI.len {w : World} {p base : Nat} {l : List It} {v : Value} {ps : List IP} (h : LI w p base l v ps) : ps.length = l.length := by rw [← h.its, List.length_map]
theorem LI.slice {w : World} {p base : Nat} {l : List It} {v : Value} {ps : List IP} (h : LI w p base l v ps) : ∃ ao cap, v = .slice ao ps.length cap ∧ IL w ao ps.length cap ps := by
  have sl : ∀ q ∈ ps, q.ok w := fun q hq => ⟨(h.sl q hq).1.1, (h.sl q hq).2.1⟩
  rcases h.row.2 with ⟨rfl, e⟩ | ⟨g, cap, cur, rfl, hg, hh, hle, hmx, hcs, htk⟩
  · obtain rfl : ps = [] := List.eq_nil_of_length_eq_zero e
    exact ⟨none, 0, rfl, IL.nothing w⟩
  · refine ⟨some ⟨g, 0, none⟩, cap, rfl, rfl, hle, hmx, fun h => by simp at h, fun a ha i hi => ?_, sl⟩
    obtain rfl := Option.some.inj ha
    obtain ⟨e1, e2⟩ := flatI_get ps i hi
    exact ⟨h.row.cells (g := g) rfl _ _ e1, h.row.cells (g := g) rfl _ _ e2⟩
/-- append of an item, and the store of what it yields. -/
theorem LI.put {w w1 : World} {p base : Nat} {l : List It} {v v' : Value} {ps : List IP} {q : IP} (h : LI w p base l v ps) (hb : base ≤ w.heap.size) (hp : base ≤ p) (hk : SlT w q.k) (hv : SlT w q.v)
    (hr' : w1.ownsRow base 43 2 v' (ps.length + 1) (flatI ps ++ [q.k.val, q.v.val])) (hg : w.grownBy w1 v.ownBlock) :
    LI (w1.setCell ⟨p, 0, none⟩ v') p base (l ++ [q.it]) v' (ps ++ [q]) ∧ Below base w (w1.setCell ⟨p, 0, none⟩ v') ∧ ∀ b t cs, Arr w b t cs → t ≠ 43 → b ≠ p → Arr (w1.setCell ⟨p, 0, none⟩ v') b t cs := by
  obtain ⟨a1, a2, a3, a4⟩ := arr_put h.arr (by decide) h.row hb hp hr' hg 0
  have kp : KpB w (w1.setCell ⟨p, 0, none⟩ v') := (KpB.row h.row (by decide) hg).trans (KpB.set a1 (by decide) 0 v')
  have e : flatI (ps ++ [q]) = flatI ps ++ [q.k.val, q.v.val] := by simp [flatI]
  refine ⟨⟨a2, by rw [e, List.length_append]; exact a3, by rw [List.map_append, h.its]; rfl, fun r hr => ?_⟩, a4, fun b t cs hb ht hne => ?_⟩
  · rcases List.mem_append.1 hr with hr | hr
    · exact ⟨(h.sl r hr).1.kp kp, (h.sl r hr).2.kp kp⟩
    · rw [List.mem_singleton.1 hr]
      exact ⟨hk.kp kp, hv.kp kp⟩
  · exact (hb.grown hg (fun e => arr_not_row hb ht h.row e.symm)).other _ v' hne
theorem itemInfo : (Tryd.prog.info? 43).map (fun i => (i.zero, i.size, i.bytes)) = some (some (.agg #[.slice none 0 0, .slice none 0 0]), 2, 48) := by kernel_rfl
/-- append of one item to a list of the call's own. -/
theorem LI.app {w : World} {p base : Nat} {l : List It} {v : Value} {ps : List IP} {q : IP} (h : LI w p base l v ps) (hb : base ≤ w.heap.size) (hn : l.length ≤ 100000) {g : Nat} {c : Nat} (ty : TypeId)
    (hx : w.heap[g]? = some (.cells #[q.k.val, q.v.val] 43)) :
    ∃ v' w1, (Builtin.append_ #[26, 26] ty #[v, .slice (some ⟨g, 0, none⟩) 1 c]).run Tryd.prog w = .ok v' w1 ∧ w1.ownsRow base 43 2 v' (ps.length + 1) (flatI ps ++ [q.k.val, q.v.val]) ∧ w.grownBy w1 v.ownBlock := by
  have hl := h.len
  have hI := itemInfo
  cases hi : Tryd.prog.info? 43 with
  | none => rw [hi] at hI; simp at hI
  | some i =>
    rw [hi] at hI
    simp only [Option.map_some, Option.some.injEq, Prod.mk.injEq] at hI
    obtain ⟨e1, e2, e3⟩ := hI
    obtain ⟨v', w1, h1, h2, h3, -⟩ := run_append_own (P := Tryd.prog) w base 26 ty 43 i _ 2 48 Tryd.underlying26 hi e1 e2 e3 rfl (by decide) v ps.length (flatI ps) h.row ⟨g, 0, none⟩ 1 c [q.k.val, q.v.val] rfl
      (fun j u hu => by
        rw [Addr.add_lit, Nat.zero_add, cell_of_row w g j _ _ _ hx]
        simpa using hu) (fun u hu => by
        simp only [List.mem_cons, List.not_mem_nil, or_false] at hu
        rcases hu with rfl | rfl <;> rfl) (by unfold maxLen; omega) (by omega) hb
    exact ⟨v', w1, h1, h2, h3⟩
end Go.Proofs.YtcepknjdiboinaaDoor

namespace Go.Proofs
open Go.Shelf
def Tryd.sortLeaf_ren : Go.Shelf.Ren := ⟨fun | 6 => 49 | 15 => 74 | 14 => 73 | 28 => 99 | 29 => 100 | 20 => 91 | 21 => 92 | 22 => 93 | 23 => 94 | 24 => 95 | 25 => 96 | 26 => 97 | 27 => 98 | 46 => 112 | 47 => 113 | 48 => 114 | 49 => 115 | 50 => 116 | 57 => 123 | n => n, fun | 22 => 86 | 24 => 71 | 25 => 88 | 3 => 3 | 39 => 93 | 0 => 0 | 53 => 95 | 55 => 92 | 4 => 4 | 46 => 134 | 45 => 133 | 50 => 61 | 5 => 5 | 9 => 9 | 66 => 152 | 70 => 156 | 76 => 163 | 77 => 164 | n => n, fun | n => n⟩
theorem Tryd.sortLeaf : Go.Proofs.SlLaysF0.n6 Tryd.prog Tryd.sortLeaf_ren := {
  mixed := by kernel_rfl
  f6 := ⟨Tryd.f49.name, by decide, Tryd.func49.trans (congrArg some (by kernel_rfl))⟩
  f14 := ⟨Tryd.f73.name, by decide, Tryd.func73.trans (congrArg some (by kernel_rfl))⟩
  f15 := Tryd.func74.trans (congrArg some (by kernel_rfl))
  f20 := ⟨Tryd.f91.name, by decide, Tryd.func91.trans (congrArg some (by kernel_rfl))⟩
  f21 := ⟨Tryd.f92.name, by decide, Tryd.func92.trans (congrArg some (by kernel_rfl))⟩
  f22 := ⟨Tryd.f93.name, by decide, Tryd.func93.trans (congrArg some (by kernel_rfl))⟩
  f23 := ⟨Tryd.f94.name, by decide, Tryd.func94.trans (congrArg some (by kernel_rfl))⟩
  f24 := ⟨Tryd.f95.name, by decide, Tryd.func95.trans (congrArg some (by kernel_rfl))⟩
  f25 := ⟨Tryd.f96.name, by decide, Tryd.func96.trans (congrArg some (by kernel_rfl))⟩
  f26 := ⟨Tryd.f97.name, by decide, Tryd.func97.trans (congrArg some (by kernel_rfl))⟩
  f27 := ⟨Tryd.f98.name, by decide, Tryd.func98.trans (congrArg some (by kernel_rfl))⟩
  f28 := Tryd.func99.trans (congrArg some (by kernel_rfl))
  f29 := Tryd.func100.trans (congrArg some (by kernel_rfl))
  f46 := ⟨Tryd.f112.name, by decide, Tryd.func112.trans (congrArg some (by kernel_rfl))⟩
  f47 := Tryd.func113.trans (congrArg some (by kernel_rfl))
  f48 := Tryd.func114.trans (congrArg some (by kernel_rfl))
  f49 := ⟨Tryd.f115.name, by decide, Tryd.func115.trans (congrArg some (by kernel_rfl))⟩
  f50 := ⟨Tryd.f116.name, by decide, Tryd.func116.trans (congrArg some (by kernel_rfl))⟩
  f57 := ⟨Tryd.f123.name, by decide, Tryd.func123.trans (congrArg some (by kernel_rfl))⟩
  t0 := Tryd.underlying0
  a0 := Tryd.isAgg0
  z0 := Tryd.sizeOf0
  v0 := Tryd.zeroValue0
  t3 := Tryd.underlying3
  a3 := Tryd.isAgg3
  z3 := Tryd.sizeOf3
  v3 := Tryd.zeroValue3
  t4 := Tryd.underlying4
  a4 := Tryd.isAgg4
  z4 := Tryd.sizeOf4
  v4 := Tryd.zeroValue4
  t5 := Tryd.underlying5
  a5 := Tryd.isAgg5
  z5 := Tryd.sizeOf5
  v5 := Tryd.zeroValue5
  t9 := Tryd.underlying9
  a9 := Tryd.isAgg9
  z9 := Tryd.sizeOf9
  v9 := Tryd.zeroValue9
  t22 := Tryd.underlying86
  a22 := Tryd.isAgg86
  z22 := Tryd.sizeOf86
  v22 := Tryd.zeroValue86
  t25 := Tryd.underlying88
  a25 := Tryd.isAgg88
  z25 := Tryd.sizeOf88
  v25 := Tryd.zeroValue88
  t39 := Tryd.underlying93
  a39 := Tryd.isAgg93
  z39 := Tryd.sizeOf93
  v39 := Tryd.zeroValue93
  t45 := Tryd.underlying133
  a45 := Tryd.isAgg133
  z45 := Tryd.sizeOf133
  v45 := Tryd.zeroValue133
  t46 := Tryd.underlying134
  a46 := Tryd.isAgg134
  z46 := Tryd.sizeOf134
  v46 := Tryd.zeroValue134
  t50 := Tryd.underlying61
  a50 := Tryd.isAgg61
  z50 := Tryd.sizeOf61
  v50 := Tryd.zeroValue61
  t53 := Tryd.underlying95
  a53 := Tryd.isAgg95
  z53 := Tryd.sizeOf95
  v53 := Tryd.zeroValue95
  t55 := Tryd.underlying92
  a55 := Tryd.isAgg92
  z55 := Tryd.sizeOf92
  v55 := Tryd.zeroValue92
  t66 := Tryd.underlying152
  a66 := Tryd.isAgg152
  z66 := Tryd.sizeOf152
  v66 := Tryd.zeroValue152
  t70 := Tryd.underlying156
  a70 := Tryd.isAgg156
  z70 := Tryd.sizeOf156
  v70 := Tryd.zeroValue156
  t76 := Tryd.underlying163
  a76 := Tryd.isAgg163
  z76 := Tryd.sizeOf163
  v76 := Tryd.zeroValue163
  t77 := Tryd.underlying164
  a77 := Tryd.isAgg164
  z77 := Tryd.sizeOf164
  v77 := Tryd.zeroValue164 }
end Go.Proofs

namespace Go.Proofs.YtcepknjdiboinaaDoor
open Go.RowKit

/-- The cells of some leaves. -/
def encL (q : LP) : List Value := [.int .i64 q.L, q.k.val, q.v.val]
def flatL (ls : List LP) : List Value := ls.flatMap encL
theorem flatL_cons (q : LP) (ls : List LP) : flatL (q :: ls) = .int .i64 q.L :: q.k.val :: q.v.val :: flatL ls := rfl
theorem flatL_app (a b : List LP) : flatL (a ++ b) = flatL a ++ flatL b := by simp [flatL]
theorem flatL_length (ls : List LP) : (flatL ls).length = ls.length * 3 := by
  induction ls with
  | nil => rfl
  | cons q ls ih =>
    rw [flatL_cons, List.length_cons, List.length_cons, List.length_cons, ih, List.length_cons]
    omega
theorem flatL_get : ∀ (ls : List LP) (i : Nat) (hi : i < ls.length) (j : Nat), j < 3 → (flatL ls)[i * 3 + j]? = (encL ls[i])[j]?
  | q :: ls, 0, _, j, hj => by
    match j, hj with
    | 0, _ => rfl
    | 1, _ => rfl
    | 2, _ => rfl
  | q :: ls, i + 1, hi, j, hj => by
    have := flatL_get ls i (by simpa using hi) j hj
    rw [flatL_cons, show (i + 1) * 3 + j = (i * 3 + j) + 1 + 1 + 1 by omega]
    simpa using this
theorem flatL_one (ls : List LP) : ∀ u ∈ flatL ls, u.oneCell' = true := fun u hu => by
  obtain ⟨q, -, hq⟩ := List.mem_flatMap.1 hu
  simp only [encL, List.mem_cons, List.not_mem_nil, or_false] at hq
  rcases hq with rfl | rfl | rfl <;> rfl
/-- A leaf whose bytes stand in w. -/
structure LW (w : World) where
  q : LP
  hk : SlT w q.k
  hv : SlT w q.v
def LW.enc {w : World} (x : LW w) : List Value := encL x.q
def LW.cf {w : World} (x y : LW w) : Int := cmpL x.q.k.xs y.q.k.xs
theorem slT_none (w : World) : SlT w ⟨none, 0, 0, []⟩ := ⟨Sl.nothing w, fun a h => by simp at h⟩
theorem swoL (w : World) : Sort.SWO (ltOf (LW.cf (w := w))) := by
  refine ⟨fun x => decide_eq_false (cmpL_irr x.q.k.xs), fun x y z h1 h2 => decide_eq_true (cmpL_lt_trans _ _ _ (of_decide_eq_true h1) (of_decide_eq_true h2)), fun x y z h1 h2 => ?_⟩
  · replace h1 := of_decide_eq_false h1
    replace h2 := of_decide_eq_false h2
    refine decide_eq_false fun h => ?_
    unfold LW.cf at h h1 h2
    rcases cmpL_total x.q.k.xs y.q.k.xs with h3 | h3 | h3
    · exact h1 h3
    · rw [h3] at h
      exact h2 h
    · exact h2 (cmpL_lt_trans _ _ _ h3 h)
/-- Blocks behind the sort: all but the row's. -/
theorem sortW_block {α : Type} [Inhabited α] (enc : α → List Value) (k : Nat) (w : World) (blk off m : Nat) (dk : Array α) (os : Array Obj) (b : Nat) (hb : b < w.heap.size) (hne : b ≠ blk) : (sortWorldK enc k w blk off m dk os).heap[b]? = w.heap[b]? := by
  unfold sortWorldK
  rw [Sort.heap_grow_old _ _ (by rw [Sort.size_putRowK]; exact hb)]
  simp only [Sort.putRowK, Sort.putRow, Sort.mapBlock, Array.getElem?_modify]
  rw [if_neg (fun e => hne e.symm)]
  rfl
theorem sortW_size {α : Type} [Inhabited α] (enc : α → List Value) (k : Nat) (w : World) (blk off m : Nat) (dk : Array α) (os : Array Obj) : w.heap.size ≤ (sortWorldK enc k w blk off m dk os).heap.size := by
  unfold sortWorldK
  rw [Sort.size_grow, Sort.size_putRowK]
  exact Nat.le_add_right _ _
theorem sortW_kp {α : Type} [Inhabited α] (enc : α → List Value) (k : Nat) (w : World) (blk off m : Nat) (dk : Array α) (os : Array Obj) {t : TypeId} {cur : Array Value} {z : Nat × Nat} (hg : w.heap[blk]? = some (.cells cur t z)) (ht : t ≠ 5) : KpB w (sortWorldK enc k w blk off m dk os) := fun b c hbc => by
  have hne : b ≠ blk := fun e => by
    subst e
    rw [hg] at hbc
    simp only [Option.some.injEq, Obj.cells.injEq] at hbc
    exact ht hbc.2.1
  rw [sortW_block enc k w blk off m dk os b (Array.getElem?_eq_some_iff.1 hbc).1 hne]
  exact hbc
theorem sortW_below {α : Type} [Inhabited α] (enc : α → List Value) (k : Nat) (w : World) (blk off m : Nat) (dk : Array α) (os : Array Obj) (base : Nat) (hb : base ≤ blk) (hblk : blk < w.heap.size) : Below base w (sortWorldK enc k w blk off m dk os) :=
  ⟨rfl, rfl, rfl, sortW_size enc k w blk off m dk os, fun b h => sortW_block enc k w blk off m dk os b (by omega) (by omega)⟩

set_option maxHeartbeats 1000000 in
set_option maxRecDepth 100000 in
/-- The comparison. -/
theorem cmpLeaf (W : World) (x y : LP) (hx : Sl W x.k.ao x.k.n x.k.cap x.k.xs) (hy : Sl W y.k.ao y.k.n y.k.cap y.k.xs) :
    Calls Tryd.prog 50 #[.agg (encL x).toArray, .agg (encL y).toArray] W fun e w' => e = .returned (.int .i64 (cmpL x.k.xs y.k.xs)) ∧ ∃ q os', w' = Sort.grow (W.drewN q) os' := by
  obtain ⟨W1, hW1⟩ : ∃ V, V = W.alloc (.cells #[.int .i64 x.L, .slice x.k.ao x.k.n x.k.cap, .slice x.v.ao x.v.n x.v.cap] 71) := ⟨_, rfl⟩
  obtain ⟨W2, hW2⟩ : ∃ V, V = W1.alloc (.cells #[.int .i64 y.L, .slice y.k.ao y.k.n y.k.cap, .slice y.v.ao y.v.n y.v.cap] 71) := ⟨_, rfl⟩
  have B1 : Below W.heap.size W W1 := by rw [hW1]; exact (Below.refl _ _).alloc (Nat.le_refl _) _
  have C2 : Below W1.heap.size W1 W2 := by rw [hW2]; exact (Below.refl _ _).alloc (Nat.le_refl _) _
  have B2 := B1.trans (C2.mono B1.size)
  have CB := bcmp_any W2 x.k.ao y.k.ao x.k.n x.k.cap y.k.n y.k.cap x.k.xs y.k.xs (hx.below B2) (hy.below B2)
  have hg : W2 = Sort.grow (W.drewN 0) #[.cells #[.int .i64 x.L, .slice x.k.ao x.k.n x.k.cap, .slice x.v.ao x.v.n x.v.cap] 71, .cells #[.int .i64 y.L, .slice y.k.ao y.k.n y.k.cap, .slice y.v.ao y.v.n y.v.cap] 71] := by
    rw [hW2, hW1, Sort.alloc_eq_grow, Sort.alloc_eq_grow, Sort.grow_grow]
    rfl
  have HG : Hid (W2 = Sort.grow (W.drewN 0) #[.cells #[.int .i64 x.L, .slice x.k.ao x.k.n x.k.cap, .slice x.v.ao x.v.n x.v.cap] 71, .cells #[.int .i64 y.L, .slice y.k.ao y.k.n y.k.cap, .slice y.v.ao y.v.n y.v.cap] 71]) := hg
  clear hg
  unfold encL Part.val
  go_enter Tryd.func50, Tryd.ntmps50
  go_wp2_with fail
  rw [← hW1, ← hW2]
  clear hW1 hW2
  refine CB.mono ?_
  rintro e w' ⟨rfl, hw⟩
  obtain rfl := hw.symm
  go_wp2
  go_ret
  exact ⟨rfl, 0, _, HG.out⟩

/-- No key stands ahead of a lesser one. -/
def RiseL (ls : List LP) : Prop := ls.Pairwise fun a b => ¬ cmpL b.k.xs a.k.xs < 0
/-- What the sort leaves. -/
def SortPost (w : World) (base g n cap : Nat) (ls : List LP) (e : Ending) (w' : World) : Prop := e = .returned (.tuple #[]) ∧
  ∃ ls', ls'.Perm ls ∧ RiseL ls' ∧ LL w' (some ⟨g, 0, none⟩) n cap ls' ∧ KpB w w' ∧ Below base w w'

set_option maxHeartbeats 1000000 in
/-- slices.SortFunc of leaves. -/
theorem sortL_any (w : World) (base g n cap : Nat) (ls : List LP) (own : w.ownsRow base 71 3 (.slice (some ⟨g, 0, none⟩) n cap) n (flatL ls)) (hsl : ∀ q ∈ ls, SlT w q.k ∧ SlT w q.v) (hn : n ≤ 1000000) :
    Calls Tryd.prog 49 #[.slice (some ⟨g, 0, none⟩) n cap, .func (.func 50) #[] #[]] w (SortPost w base g n cap ls) := by
  haveI : Inhabited (LW w) := ⟨⟨⟨0, ⟨none, 0, 0, []⟩, ⟨none, 0, 0, []⟩⟩, slT_none w, slT_none w⟩⟩
  have hlen : ls.length = n := by
    have h1 := own.1
    rw [flatL_length] at h1
    omega
  obtain ⟨cur, hgb, hbg, hle, hmx, hcs, htk⟩ : ∃ cur, w.heap[g]? = some (.cells cur 71 (0, 0)) ∧ base ≤ g ∧ n ≤ cap ∧ cap ≤ maxLen ∧ cur.size = cap * 3 ∧ cur.toList.take (n * 3) = flatL ls := by
    rcases own.2 with ⟨e, -⟩ | ⟨g', cap', cur, e, h1, h2, h3, h4, h5, h6⟩
    · simp at e
    · simp only [Value.slice.injEq, Option.some.injEq, Addr.mk.injEq, true_and, and_true] at e
      obtain ⟨rfl, rfl⟩ := e
      exact ⟨cur, h2, h1, h3, h4, h5, h6⟩
  have hglt : g < w.heap.size := (Array.getElem?_eq_some_iff.1 hgb).1
  obtain ⟨xs, hxs⟩ : ∃ xs : List (LW w), xs.map LW.q = ls := by
    have : ∀ (l : List LP), (∀ q ∈ l, SlT w q.k ∧ SlT w q.v) → ∃ xs : List (LW w), xs.map LW.q = l := by
      intro l
      induction l with
      | nil => exact fun _ => ⟨[], rfl⟩
      | cons q l ih =>
        intro h
        obtain ⟨xs, h1⟩ := ih fun y hy => h y (List.mem_cons_of_mem _ hy)
        have h2 := h q (List.mem_cons_self ..)
        exact ⟨⟨q, h2.1, h2.2⟩ :: xs, by rw [List.map_cons, h1]⟩
    exact this ls hsl
  have hxl : xs.length = n := by rw [← hlen, ← hxs, List.length_map]
  have hcell : ∀ i (hi : i < ls.length) j, j < 3 → ∀ u, (encL ls[i])[j]? = some u → w.cell? ⟨g, 0 + (i * 3 + j), none⟩ = some u := fun i hi j hj u hu => by
    have h1 := flatL_get ls i hi j hj
    rw [hu] at h1
    have h2 := own.cells (g := g) rfl (i * 3 + j) u h1
    rw [Addr.add_lit] at h2
    exact h2
  have hH : Sort.HoldsK LW.enc 3 w g 0 xs.toArray := fun t ht => by
    have ht' : t < xs.length * 3 := by simpa using ht
    have hi : t / 3 < xs.length := by omega
    have hi2 : t / 3 < ls.length := by omega
    refine ⟨?_, frozen_of_row w g (0 + t) _ _ hgb⟩
    rw [Sort.get_flatK _ _ _ _ (by simpa using ht')]
    have hx : xs.toArray[t / 3]! = xs[t / 3] := by simp [hi]
    have hq : xs[t / 3].q = ls[t / 3] := by
      have := congrArg (·[t / 3]?) hxs
      simpa [hi, hi2] using this
    rw [hx]
    have hj : t % 3 < 3 := Nat.mod_lt _ (by decide)
    have hl3 : (encL ls[t / 3]).length = 3 := rfl
    have := hcell (t / 3) hi2 (t % 3) hj (encL ls[t / 3])[t % 3] (List.getElem?_eq_getElem (by rw [hl3]; exact hj))
    rw [show t / 3 * 3 + t % 3 = t by omega] at this
    rw [this]
    unfold LW.enc
    rw [hq, getElem!_pos _ _ (by rw [hl3]; exact hj)]
    rfl
  have hcmp : CmpLays Tryd.prog 50 #[] LW.enc 3 (LW.cf (w := w)) g 0 xs.toArray.size w := fun m os dk _ x y => by
    have kp := sortW_kp (LW.enc (w := w)) 3 w g 0 m dk os hgb (by decide)
    exact cmpLeaf _ x.q y.q (x.hk.kp kp).1 (y.hk.kp kp).1
  have eg : ∀ args w, (callFunc 50 args).run Tryd.prog w = .ok (.enter 50 args) w := enters_of Tryd.func50 (by kernel_rfl) rfl
  have hsize3 : ∀ w, (Go.sizeOf 71).run Tryd.prog w = .ok 3 w := size3
  have hagg : ∀ w, (isAgg 71).run Tryd.prog w = .ok true w := fun w => by
    simp [isAgg, run_underlying Tryd.underlying71]
  have hcon := AnyQ.slices_SortFunc (P := Tryd.prog) Tryd.sortLeaf 3 hagg hsize3 (LW.enc (w := w)) (fun _ => rfl) (fun x v hv => by
    simp only [LW.enc, encL, List.mem_cons, List.not_mem_nil, or_false] at hv
    rcases hv with rfl | rfl | rfl <;> rfl) (LW.cf (w := w)) (swoL w) 50 #[] g 0 cap xs.toArray w eg hcmp hH hglt (by simp; omega)
  have hsz : xs.toArray.size = n := by simpa using hxl
  rw [hsz] at hcon
  refine Calls.mono (show Calls Tryd.prog 49 _ _ _ from hcon) ?_
  rintro e w' ⟨rfl, d', m, os, hp, hs, rfl⟩
  have hd : d'.size = n := hp.1.trans hsz
  refine ⟨rfl, d'.toList.map LW.q, ?_, ?_, ?_, sortW_kp _ 3 w g 0 m d' os hgb (by decide), sortW_below _ 3 w g 0 m d' os base hbg hglt⟩
  · have h1 := hp.2.2
    rw [Array.extract_eq_self_of_le (by omega), Array.extract_eq_self_of_le (by omega)] at h1
    have h2 := h1.map LW.q
    rw [hxs] at h2
    exact h2
  · refine List.pairwise_map.2 (List.pairwise_iff_getElem.2 fun i j hi hj hij => ?_)
    have hi' : i < d'.size := by simpa using hi
    have hj' : j < d'.size := by simpa using hj
    have h1 := hs i j (Nat.zero_le _) hij (by omega)
    rw [getElem!_pos d' i hi', getElem!_pos d' j hj'] at h1
    have h2 := of_decide_eq_false h1
    unfold LW.cf at h2
    simpa using h2
  · have hH' := holdsK_sortWorldK (LW.enc (w := w)) 3 w g 0 m xs.toArray d' os hglt hH (by omega)
    refine ⟨by simpa using hd, hle, hmx, fun h => by simp at h, fun a ha i hi => ?_⟩
    obtain rfl := Option.some.inj ha
    have hi' : i < d'.size := by simpa using hi
    have hc := HoldsK.cells hH' (fun _ => rfl) hi'
    rw [getElem!_pos d' i hi'] at hc
    have e : (d'.toList.map LW.q)[i] = d'[i].q := by simp
    rw [e]
    have h0 := hc 0 _ rfl
    have h1 := hc 1 _ rfl
    have h2 := hc 2 _ rfl
    simp only [Addr.add_lit, Nat.zero_add, Nat.add_zero] at h0 h1 h2 ⊢
    exact ⟨h0, h1, h2⟩
end Go.Proofs.YtcepknjdiboinaaDoor

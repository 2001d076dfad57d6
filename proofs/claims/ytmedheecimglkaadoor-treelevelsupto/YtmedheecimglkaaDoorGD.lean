/-
  Small texts in one.
-/
import Derived.Test.YtmedheecimglkaaDoorGC
import Derived.Test.YtmedheecimglkaaDoorGA
import Derived.Test.YtmedheecimglkaaDoorHex
import Derived.Test.YtmedheecimglkaaDoorRHex
import Derived.Test.YtmedheecimglkaaDoorROf
import Derived.Test.YtmedheecimglkaaDoorCConv
import Derived.Test.YtmedheecimglkaaDoorPWith
import Derived.Test.YtmedheecimglkaaDoorPWithout
import Derived.Test.YtmedheecimglkaaDoorParts
import Derived.Test.YtmedheecimglkaaDoorForms
import Derived.Test.YtmedheecimglkaaDoorOfM
import Derived.Lib.SlBytesConst
import Derived.Test.YtmedheecimglkaaDoorRSum
import Derived.Test.YtmedheecimglkaaDoorSame
import Derived.Lib.SmallJoins
import Derived.Test.YtmedheecimglkaaDoorRefForms
import Derived.Test.YtmedheecimglkaaDoorRows
namespace Go.Proofs.YtmedheecimglkaaDoor
open Go.RowKit

theorem dg_byte {x : Int} (h : 0 ≤ x ∧ x < 16) : 0 ≤ dg x ∧ dg x ≤ 255 := by
  unfold dg
  split <;> omega
theorem hexL_byte {xs : List Int} (h : Byt xs) : Byt (hexL xs) := by
  intro y hy
  simp only [hexL, List.mem_flatMap, List.mem_cons, List.not_mem_nil, or_false] at hy
  obtain ⟨x, hx, hy⟩ := hy
  have := h x hx
  rcases hy with rfl | rfl
  · exact dg_byte (by omega)
  · exact dg_byte (by omega)
theorem take_drop_while {α : Type} (p : α → Bool) : ∀ l : List α, (l.takeWhile p).length + (l.dropWhile p).length = l.length
  | [] => rfl
  | a :: l => by
    have := take_drop_while p l
    rw [List.takeWhile_cons, List.dropWhile_cons]
    split <;> simp only [List.length_cons, List.length_nil] <;> omega
theorem pl_one (w : World) (ao : Option Addr) (n cap : Nat) (xs : List Int) (h : Sl w ao n cap xs) (t : TypeId) : PL (w.alloc (.cells #[.slice ao n cap] t)) (some ⟨w.heap.size, 0, none⟩) 1 1 [⟨ao, n, cap, xs⟩] := by
  have B : Below w.heap.size w (w.alloc (.cells #[.slice ao n cap] t)) := (Below.refl _ w).alloc (Nat.le_refl _) _
  refine (KL.mk ?_ ?_).pl
  · exact VL.new w [.slice ao n cap] t (by simp [maxLen])
  · intro q hq
    rw [List.mem_singleton.1 hq]
    exact h.below B

theorem wrap_lev (k : List Int) : IntKind.i64.wrap (lev k : Int) = lev k := by
  have := lev_le k
  simp [IntKind.wrap, IntKind.bits, IntKind.signed]
  omega

set_option maxHeartbeats 1000000 in
set_option maxRecDepth 100000 in
theorem level_any (w : World) (ao : Option Addr) (n cap : Nat) (xs : List Int) (hT : Tabs w) (h : Sl w ao n cap xs) (hn : n ≤ 1000000) :
    Calls Tryd.prog 28 #[.slice ao n cap] w fun e w' => e = .returned (.int .i64 (lev xs)) ∧ Below w.heap.size w w' := by
  have h2 := hT.two
  have B0 : Below w.heap.size w (w.alloc (.cells #[.slice ao n cap] 23)) := (Below.refl _ w).alloc (Nat.le_refl _) _
  have P0 := pl_one w ao n cap xs h 23
  obtain ⟨D, hD⟩ : ∃ D, D = sumL (formL (sb lvS) [xs]) := ⟨_, rfl⟩
  have hDl : D.length = 32 := by rw [hD]; exact sumL_len _
  have hDb : Byt D := by rw [hD]; exact sumL_byte _
  have CO := of_any _ lvS (some ⟨w.heap.size, 0, none⟩) 1 1 [⟨ao, n, cap, xs⟩] P0 (hT.below B0 h2) (by decide) (by decide) (by intro q hq; rw [List.mem_singleton.1 hq]; exact hn)
  rw [show formL (sb lvS) (pxs [⟨ao, n, cap, xs⟩]) = formL (sb lvS) [xs] from rfl, ← hD] at CO
  have HL : Hid (lev xs = ((hexL D).takeWhile fun c => c == 48).length) := by show _ = _; rw [hD]; rfl
  clear hD
  go_enter Tryd.func28, Tryd.ntmps28
  go_wp2_with fail
  refine CO.mono ?_
  rintro e w1 ⟨v1, rfl, own1, C1⟩
  obtain ⟨fo, fc, rfl, S1, -⟩ := Sl.own own1 hDb
  have B1 : Below w.heap.size w w1 := B0.trans (C1.mono B0.size)
  clear own1 C1 CO P0 B0
  go_wp2_with fail
  refine (hex_any w1 fo 32 fc D S1 (by decide)).mono ?_
  rintro e w2 ⟨rfl, C2⟩
  have B2 : Below w.heap.size w w2 := B1.trans (C2.mono B1.size)
  obtain ⟨H, hH⟩ : ∃ H, H = strOfNums (hexL D) := ⟨_, rfl⟩
  have hs : H.size = 64 := by rw [hH, strOfNums_size, hexL_len, hDl]
  have hsb : Hid (sb H = hexL D) := by show _ = _; rw [hH]; exact sb_str (hexL_byte hDb)
  rw [← hH]
  clear hH C2 S1 B1
  have CT := trim_any w2 H (by omega) (by omega)
  have HS : Hid (H.size = 64) := hs
  clear hs
  go_wp2_with fail
  refine CT.mono ?_
  rintro e w3 ⟨t, rfl, ht, rfl⟩
  have htl := take_drop_while (fun c : Int => c == 48) (hexL D)
  rw [hsb.out] at ht
  rw [← ht, sb_len, ← hsb.out, sb_len, hsb.out, HS.out, ← HL.out] at htl
  have HZ : Hid ((H.size : Int) - t.size = lev xs) := by
    show _ = _
    rw [HS.out]
    omega
  have hw : IntKind.i64.wrap ((H.size : Int) - t.size) = (H.size : Int) - t.size := by
    rw [HZ.out]
    exact wrap_lev xs
  clear htl ht CT
  go_wp2
  go_ret
  refine ⟨?_, B2⟩
  show Ending.returned (.int .i64 ((H.size : Int) - t.size)) = _
  rw [HZ.out]

theorem tw_at {α : Type} (p : α → Bool) : ∀ (l : List α) (j : Nat) (h : j < l.length), j < (l.takeWhile p).length → p l[j] = true
  | [], j, h, _ => by simp at h
  | a :: l, j, h, hj => by
    rw [List.takeWhile_cons] at hj
    split at hj
    · rename_i ha
      cases j with
      | zero => simpa using ha
      | succ j => simpa using tw_at p l j (by simpa using h) (by simpa using hj)
    · simp at hj
theorem tw_end {α : Type} (p : α → Bool) : ∀ (l : List α) (h : (l.takeWhile p).length < l.length), p (l[(l.takeWhile p).length]'h) = false
  | [], h => by simp at h
  | a :: l, h => by
    by_cases ha : p a = true
    · have e : (a :: l).takeWhile p = a :: l.takeWhile p := by rw [List.takeWhile_cons, if_pos ha]
      have h2 : (l.takeWhile p).length < l.length := by rw [e] at h; simpa using h
      have ih := tw_end p l h2
      simp only [e, List.length_cons, List.getElem_cons_succ]
      exact ih
    · have e : (a :: l).takeWhile p = [] := by rw [List.takeWhile_cons, if_neg ha]
      simp only [e, List.length_nil, List.getElem_cons_zero]
      simpa using ha

set_option maxHeartbeats 1000000 in
set_option maxRecDepth 100000 in
theorem rlevel_any (w : World) (ao : Option Addr) (n cap : Nat) (xs : List Int) (h : Sl w ao n cap xs) (hn : n ≤ 50000) :
    Calls Tryd.prog 29 #[.slice ao n cap] w fun e w' => e = .returned (.int .i64 (lev xs)) ∧ Below w.heap.size w w' := by
  have B0 : Below w.heap.size w (w.alloc (.cells #[.slice ao n cap] 23)) := (Below.refl _ w).alloc (Nat.le_refl _) _
  have P0 := pl_one w ao n cap xs h 23
  obtain ⟨D, hD⟩ : ∃ D, D = sumL (formL (sb lvS) [xs]) := ⟨_, rfl⟩
  have hDl : D.length = 32 := by rw [hD]; exact sumL_len _
  have hDb : Byt D := by rw [hD]; exact sumL_byte _
  have hfl : (formL (sb lvS) (pxs [⟨ao, n, cap, xs⟩])).length ≤ 100000 := by
    have := formL_len lvS [⟨ao, n, cap, xs⟩] 50000 (by decide) (by simp) (by decide) (by intro q hq; rw [List.mem_singleton.1 hq]; show xs.length ≤ 50000; rw [h.len]; exact hn)
    have e : lvS.size = 5 := rfl
    simp only [List.length_cons, List.length_nil, e] at this
    omega
  have CO := rof_any _ lvS (some ⟨w.heap.size, 0, none⟩) 1 1 [⟨ao, n, cap, xs⟩] P0 (by decide) (by decide) (by intro q hq; rw [List.mem_singleton.1 hq]; show n ≤ 1000000; omega) hfl
  rw [show formL (sb lvS) (pxs [⟨ao, n, cap, xs⟩]) = formL (sb lvS) [xs] from rfl, ← hD] at CO
  have HL : Hid (lev xs = ((hexL D).takeWhile fun c => c == 48).length) := by show _ = _; rw [hD]; rfl
  have hlv := lev_le xs
  obtain ⟨m, hm⟩ : ∃ m, m = lev xs := ⟨_, rfl⟩
  rw [← hm] at HL hlv ⊢
  clear hD hfl hm
  go_enter Tryd.func29, Tryd.ntmps29
  go_wp2_with fail
  refine CO.mono ?_
  rintro e w1 ⟨v1, rfl, own1, C1⟩
  obtain ⟨fo, fc, rfl, S1, -⟩ := Sl.own own1 hDb
  have B1 : Below w.heap.size w w1 := B0.trans (C1.mono B0.size)
  clear own1 C1 CO P0 B0
  go_wp2_with fail
  refine (rhex_any w1 fo 32 fc D S1 (by decide)).mono ?_
  rintro e w2 ⟨rfl, C2⟩
  have B2 : Below w.heap.size w w2 := B1.trans (C2.mono B1.size)
  obtain ⟨H, hH⟩ : ∃ H, H = strOfNums (hexL D) := ⟨_, rfl⟩
  have hs : H.size = 64 := by rw [hH, strOfNums_size, hexL_len, hDl]
  have hsb : Hid (sb H = hexL D) := by show _ = _; rw [hH]; exact sb_str (hexL_byte hDb)
  rw [← hH]
  clear hH C2 S1 B1
  have HS : Hid (H.size = 64) := hs
  have hs1 : H.size ≤ 64 := Nat.le_of_eq hs
  clear hs
  have hAt : ∀ k (hk : k < H.size), (H[k].toNat : Int) = (hexL D)[k]'(by rw [← hsb.out, sb_len]; exact hk) := by
    intro k hk
    have h1 := sb_at H k hk
    have hk2 : k < (sb H).length := by rw [sb_len]; exact hk
    rw [List.drop_eq_getElem_cons hk2] at h1
    have h2 := (List.cons.inj h1).1
    rw [← h2]
    simp only [hsb.out]
  have HA : Hid (∀ k (hk : k < H.size), (H[k].toNat : Int) = (hexL D)[k]'(by rw [← hsb.out, sb_len]; exact hk)) := hAt
  clear hAt
  go_wp2_with fail
  go_loopw [4] (fun a wr => ∃ k : Nat, a = .int .i64 k ∧ k ≤ m ∧ wr = w2) (fun a _ => m - (intOf a).toNat)
  case atStart => exact ⟨0, rfl, Nat.zero_le _, rfl⟩
  case round =>
    obtain ⟨k, rfl, hk, rfl⟩ := hrel
    by_cases hkm : k < m
    · have hk64 : k < H.size := by have := HS.out; omega
      have hki : (k : Int) < (H.size : Int) := by omega
      have hb : ((H[k].toNat : Int) == 48) = true := by
        rw [HA.out k hk64]
        exact tw_at (fun c : Int => c == 48) (hexL D) k (by rw [← hsb.out, sb_len]; exact hk64) (by rw [← HL.out]; exact hkm)
      go_wp2
      go_roundw
      case rel => exact ⟨k + 1, by go_num, by omega, trivial⟩
      case measure => simp [intOf]; omega
    · obtain rfl : k = m := by omega
      by_cases hk64 : k < H.size
      · have hki : (k : Int) < (H.size : Int) := by omega
        have hb : ((H[k].toNat : Int) == 48) = false := by
          rw [HA.out k hk64]
          have := tw_end (fun c : Int => c == 48) (hexL D) (by rw [← HL.out, ← hsb.out, sb_len]; exact hk64)
          simp only [← HL.out] at this
          exact this
        go_wp2
        go_ret
        exact ⟨rfl, B2⟩
      · have hki : ¬ (k : Int) < (H.size : Int) := by omega
        go_wp2
        go_ret
        exact ⟨rfl, B2⟩
end Go.Proofs.YtmedheecimglkaaDoor

namespace Go.Proofs.YtmedheecimglkaaDoor
open Go.RowKit

/-- What Put answers. -/
def PutPost (w : World) (l : List It) (x : It) (kd : Int) (e : Ending) (w' : World) : Prop := ∃ u, e = .returned (.tuple #[.pointer u, .int .i64 kd]) ∧ (kd = 0 → TT w' (.pointer u) (ins l x)) ∧ (kd ≠ 0 → u = none) ∧ Below w.heap.size w w'

set_option maxHeartbeats 4000000 in
set_option maxRecDepth 100000 in
theorem tput_any (w : World) (v : Value) (l : List It) (x : It) (ko vo : Option Addr) (kn kc vn vc : Nat) (hT : Tabs w) (h : TT w v l) (hs : Srt l) (hk : Sl w ko kn kc x.k) (hv : Sl w vo vn vc x.v) (hkn : kn ≤ 1000000) (hvn : vn ≤ 1000000) (hn : l.length ≤ 50000) (kd : Int)
    (hkd : Hid (jL [⟨⟨ko, kn, kc, x.k⟩, ⟨vo, vn, vc, x.v⟩⟩] 0 = kd)) :
    Calls Tryd.prog 10 #[v, .slice ko kn kc, .slice vo vn vc] w (PutPost w l x kd) := by
  have h2 := hT.two
  obtain ⟨W0, hW0⟩ : ∃ W, W = w.alloc (.cells #[.slice ko kn kc, .slice vo vn vc] 43) := ⟨_, rfl⟩
  have B0 : Below w.heap.size w W0 := by rw [hW0]; exact (Below.refl _ w).alloc (Nat.le_refl _) _
  have I0 : IL W0 (some ⟨w.heap.size, 0, none⟩) 1 1 [⟨⟨ko, kn, kc, x.k⟩, ⟨vo, vn, vc, x.v⟩⟩] := by rw [hW0]; exact IL.one w ⟨⟨ko, kn, kc, x.k⟩, ⟨vo, vn, vc, x.v⟩⟩ ⟨hk, hv⟩ _
  have CJ := judge_any W0 _ 1 1 _ I0 (by omega) (by intro q hq; rw [List.mem_singleton.1 hq]; exact ⟨hkn, hvn⟩)
  rw [hkd.out] at CJ
  obtain ⟨po, rfl⟩ := h.ptr
  go_enter Tryd.func10, Tryd.ntmps10
  go_wp2_with fail
  rw [← hW0]
  clear hW0
  refine CJ.mono ?_
  rintro e w1 ⟨rfl, C1⟩
  have B1 : Below w.heap.size w w1 := B0.trans (C1.mono B0.size)
  clear CJ I0 C1 B0
  by_cases hz : kd = 0
  · have hzb : (kd != 0) = false := by simp [hz]
    have HZ : Hid (kd = 0) := hz
    clear hz
    have CS := shared_at w w1 (.pointer po) l h B1
    go_wp2_with fail
    refine CS.mono ?_
    rintro e w2 ⟨q, rfl, hq, hw2⟩
    obtain rfl := hw2.symm
    clear CS
    have CL := level_any w1 ko kn kc x.k (hT.below B1 h2) (hk.below B1) hkn
    go_wp2_with fail
    refine CL.mono ?_
    rintro e w3 ⟨rfl, C3⟩
    have B3 : Below w.heap.size w w3 := B1.trans (C3.mono B1.size)
    clear CL C3 B1
    have CO := own_any w3 ko kn kc x.k (hk.below B3) hkn
    go_wp2_with fail
    refine CO.mono ?_
    rintro e w4 ⟨xo, xc, rfl, S4, C4⟩
    have B4 : Below w.heap.size w w4 := B3.trans (C4.mono B3.size)
    clear CO C4 B3
    have CO := own_any w4 vo vn vc x.v (hv.below B4) hvn
    go_wp2_with fail
    refine CO.mono ?_
    rintro e w5 ⟨yo, yc, rfl, S5, C5⟩
    have B5 : Below w.heap.size w w5 := B4.trans (C5.mono B4.size)
    have S4 := S4.below C5
    clear CO C5 B4
    have CW := with_any w5 (.pointer q) l x xo yo kn xc vn yc S4 S5 (hq.below B5) hs (by omega)
    go_wp2_with fail
    refine CW.mono ?_
    rintro e w6 ⟨u, rfl, T6, C6⟩
    have B6 : Below w.heap.size w w6 := B5.trans (C6.mono B5.size)
    clear CW C6 B5 S4 S5
    obtain ⟨u6, rfl⟩ := T6.ptr
    have CT := treeOf_any w6 _ _ T6
    go_wp2_with fail
    refine CT.mono ?_
    rintro e w7 ⟨u, rfl, T7, C7⟩
    have B7 : Below w.heap.size w w7 := B6.trans (C7.mono B6.size)
    obtain ⟨u7, rfl⟩ := T7.ptr
    clear CT C7 B6 T6
    go_wp2
    go_ret2
    refine ⟨u7, ?_, fun _ => T7, fun hne => absurd HZ.out hne, B7⟩
    rw [HZ.out]
    rfl
  · have hzb : (kd != 0) = true := by simp [hz]
    have HZ : Hid (¬ kd = 0) := hz
    clear hz
    go_wp2
    go_ret2
    exact ⟨none, rfl, fun hz => absurd hz HZ.out, fun _ => rfl, B1⟩

/-- What Get answers. -/
def GetPost (w : World) (l : List It) (key : List Int) (e : Ending) (w' : World) : Prop := ∃ (qo : Option Addr) (qn qc : Nat) (b : Bool), e = .returned (.tuple #[.slice qo qn qc, .bool b]) ∧
  (b = true → ∃ x ∈ l, x.k = key ∧ Sl w' qo qn qc x.v) ∧ (b = false → ¬ has key l ∧ qn = 0 ∧ Sl w' qo qn qc []) ∧ Below w.heap.size w w'

set_option maxHeartbeats 4000000 in
set_option maxRecDepth 100000 in
theorem tget_any (w : World) (v : Value) (l : List It) (key : List Int) (ko : Option Addr) (kn kc : Nat) (h : TT w v l) (hs : Srt l) (hk : Sl w ko kn kc key) (hn : l.length ≤ 50000) (hv : ∀ x ∈ l, x.v.length ≤ 1000000) :
    Calls Tryd.prog 16 #[v, .slice ko kn kc] w (GetPost w l key) := by
  have CS := shared_at w w v l h (Below.refl _ _)
  obtain ⟨po, rfl⟩ := h.ptr
  go_enter Tryd.func16, Tryd.ntmps16
  go_wp2_with fail
  refine CS.mono ?_
  rintro e w2 ⟨q, rfl, hq, hw2⟩
  obtain rfl := hw2.symm
  have CF := find_any w (.pointer q) l key ko kn kc hq hs hk (by omega)
  clear CS
  go_wp2_with fail
  refine CF.mono ?_
  rintro e w3 ⟨qo, qn, qc, b, rfl, h1, h2, B3⟩
  clear CF
  cases b with
  | true =>
    obtain ⟨x, hx, hxk, S⟩ := h1 rfl
    have hl := hv x hx
    rw [S.len] at hl
    have CC := clone_any w3 qo qn qc x.v S hl
    clear h1 h2
    go_wp2_with fail
    refine CC.mono ?_
    rintro e w4 ⟨ro, rc, rfl, S4, C4⟩
    go_wp2
    go_ret2
    exact ⟨ro, qn, rc, true, rfl, fun _ => ⟨x, hx, hxk, S4⟩, by simp, B3.trans (C4.mono B3.size)⟩
  | false =>
    obtain ⟨hno, rfl, rfl, rfl⟩ := h2 rfl
    have CC := clone_any w3 none 0 0 [] (Sl.nothing w3) (by omega)
    clear h1 h2
    go_wp2_with fail
    refine CC.mono ?_
    rintro e w4 ⟨ro, rc, rfl, S4, C4⟩
    go_wp2
    go_ret2
    exact ⟨ro, 0, rc, false, rfl, by simp, fun _ => ⟨hno, rfl, S4⟩, B3.trans (C4.mono B3.size)⟩
end Go.Proofs.YtmedheecimglkaaDoor

namespace Go.Proofs.YtmedheecimglkaaDoor
open Go.RowKit

/-- A part out of a list, or nothing. -/
theorem at_any (w : World) (ao : Option Addr) (n cap i : Nat) (ps : List Part) (h : PL w ao n cap ps) (hn : n ≤ 1000000) (hi : i ≤ 1000000) :
    Calls Tryd.prog 59 #[.slice ao n cap, .int .i64 i] w fun e w' => ∃ qo qn qc, e = .returned (.slice qo qn qc) ∧ Sl w qo qn qc ((ps.map Part.xs).getD i []) ∧ (qn = 0 ∨ ∃ q ∈ ps, qn = q.n) ∧ w' = w := by
  have hl := h.len
  by_cases hlt : i < n
  · have hlt' : (i : Int) < (n : Int) := by omega
    obtain ⟨b, off, rfl, hc⟩ := h.at (by omega)
    have hil : i < ps.length := by omega
    have c1 := hc i hil
    have S1 := h.sl ps[i] (List.getElem_mem hil)
    have hm := List.getElem_mem hil
    have HG : Hid ((ps.map Part.xs).getD i [] = ps[i].xs) := by show _ = _; simp [List.getD, hil]
    obtain ⟨q, hq⟩ : ∃ q, q = ps[i] := ⟨_, rfl⟩
    rw [← hq] at c1 S1 HG hm
    clear hq hc
    unfold Part.val at c1
    go_enter Tryd.func59, Tryd.ntmps59
    go_wp2
    go_ret
    exact ⟨q.ao, q.n, q.cap, rfl, by first | exact S1 | (rw [HG.out]; exact S1), .inr ⟨q, hm, rfl⟩, rfl⟩
  · have hlt' : ¬ (i : Int) < (n : Int) := by omega
    have HG : Hid ((ps.map Part.xs).getD i [] = []) := by show _ = _; rw [List.getD, List.getElem?_eq_none (by simp; omega)]; rfl
    go_enter Tryd.func59, Tryd.ntmps59
    go_wp2
    go_ret
    exact ⟨none, 0, 0, rfl, by first | exact Sl.nothing w | (rw [HG.out]; exact Sl.nothing w), .inl rfl, rfl⟩

set_option maxHeartbeats 1000000 in
set_option maxRecDepth 100000 in
theorem put_any (w : World) (p base : Nat) (v : Value) (k : Nat) (xs : List Int) (ha : Arr w p 23 [v]) (own : w.ownsRow base 5 1 v k (bv xs)) (hp : base ≤ p) (hb : base ≤ w.heap.size) (ao : Option Addr) (n cap : Nat) (ys : List Int) (h : Sl w ao n cap ys) (hk : k + n + 100 ≤ 140737488355328) (hxb : Byt xs) :
    Calls Tryd.prog 58 #[.slice ao n cap, .pointer (some ⟨p, 0, none⟩)] w fun e w' => (∃ u, e = .returned u) ∧ ∃ v', Arr w' p 23 [v'] ∧ w'.ownsRow base 5 1 v' (k + ((enc n).length + n)) (bv (xs ++ (enc n ++ ys))) ∧ Below base w w' := by
  obtain ⟨i0, hi, hz0, hz1, hz2⟩ := info_parts u8info
  have hl := h.len
  have hen := enc_length (n := n) (by omega)
  have hep := enc_pos n
  have heb : Byt (enc n) := enc_byte (by omega)
  have hbyt : Byt (xs ++ (enc n ++ ys)) := hxb.append (heb.append h.byte)
  obtain ⟨vo, vc, rfl, -, -⟩ := Sl.own own hxb
  go_enter Tryd.func58, Tryd.ntmps58
  go_wp2_with fail
  have HS : Hid (∀ V, Below w.heap.size w V → True) := fun _ _ => trivial
  have E0 : Below w.heap.size w w.drew := (Below.refl _ _).drew
  refine wp_region_noPanic ?_
  refine wp_region_held_drew (S := fun V => True) (by kernel_rfl) (HS.out _ E0) (fun H0 => ?_)
  obtain ⟨v0, hv0⟩ : ∃ v, v = w.drew := ⟨_, rfl⟩
  rw [← hv0] at E0 ⊢
  clear hv0
  refine hr_take_w 1 (some 4) (.slice ao n cap) rfl rfl (by kernel_rfl) (by kernel_rfl) (by kernel_rfl) rfl (fun W hW => by go_simp) H0 ?_
  simp only [Act.put, List.setIfInBounds_toArray, List.set_cons_zero, List.set_cons_succ]
  have hv0 := ha.cell 0
  have ha0 := arr_below ha E0
  have own0 := own_below own E0
  have h0 := h.below E0
  have c0 := ha0.cell 0
  have s0 := E0.size
  refine hr_any (rs := [0, 2]) (by kernel_rfl) (by simp) (fun i hi' => ?_)
  simp only [List.mem_cons, List.not_mem_nil, or_false] at hi'
  rcases hi' with rfl | rfl
  · refine op_ex 0 (some 3) rfl rfl rfl (R := fun u w' => u = .slice vo k vc ∧ v0 = w') ⟨_, _, by go_simp, rfl, rfl⟩ ?_
    rintro u w' ⟨rfl, rfl⟩
    refine ⟨trivial, ?_⟩
    simp only [Act.put, List.setIfInBounds_toArray, List.set_cons_zero, List.set_cons_succ]
    refine hr_call_w 2 (some 5) 56 #[.slice none 0 0, .slice ao n cap] rfl rfl (by kernel_rfl) rfl (by go_simp) (fun u w' => w'.ownsRow v0.heap.size 5 1 u (0 + (enc n).length + n) (bv ([] ++ enc n ++ ys)) ∧ Below v0.heap.size v0 w') ((wBytes_any v0 none ao 0 0 n cap [] ys (Sl.nothing v0) h0 (by omega)).mono (by
      rintro e w' ⟨u, rfl, o, C⟩
      exact ⟨_, rfl, o, C⟩)) ?_
    rintro u w1 ⟨o1, C1⟩
    simp only [Nat.zero_add, List.nil_append] at o1
    obtain ⟨fo', fc, rfl, S1, hS1⟩ := Sl.own o1 (heb.append h.byte)
    obtain ⟨fo, rfl⟩ : ∃ fo, fo' = some fo := by
      cases fo' with
      | none => have := (S1.nil rfl).1; omega
      | some a => exact ⟨a, rfl⟩
    have s1 := C1.size
    have own1 := own_below own0 C1
    have ha1 := arr_below ha0 C1
    refine ⟨trivial, ?_⟩
    simp only [Act.put, List.setIfInBounds_toArray, List.set_cons_zero, List.set_cons_succ]
    obtain ⟨v', w2, hrun, own2, g2, -⟩ := run_append_own (P := Tryd.prog) w1 base 23 23 5 i0 (.int .u8 0) 1 1 Tryd.underlying23 hi hz0 hz1 hz2 rfl (by decide) (.slice vo k vc) k (bv xs) own1 fo ((enc n).length + n) fc (bv (enc n ++ ys)) (by rw [bv_length, Nat.mul_one]; exact S1.len) (S1.cells fo rfl) (bv_one _) (by unfold maxLen; omega) (by omega) (by omega)
    obtain ⟨a1, a2, own3, B3⟩ := arr_put ha1 (by decide) own1 (by omega) hp own2 g2 0
    have e1 : bv xs ++ bv (enc n ++ ys) = bv (xs ++ (enc n ++ ys)) := (bv_append _ _).symm
    rw [e1] at own2 own3
    obtain ⟨ro, rc, rfl, -, -⟩ := Sl.own own2 hbyt
    have fz := a1.free 0
    have fc0 := a1.cell 0
    refine hr_ex 3 (some 6) rfl rfl (by kernel_rfl) rfl (R := fun u w' => u = .slice ro (k + ((enc n).length + n)) rc ∧ w2 = w') ⟨_, _, by simp [execOp, Act.eval, resolve, invoke, builtin, hrun], rfl, rfl⟩ ?_
    rintro u w' ⟨rfl, rfl⟩
    refine ⟨trivial, ?_⟩
    simp only [Act.put, List.setIfInBounds_toArray, List.set_cons_zero, List.set_cons_succ]
    refine hr_skip 4 none (w' := w2.setCell ⟨p, 0, none⟩ (.slice ro (k + ((enc n).length + n)) rc)) rfl rfl (by kernel_rfl) rfl (by go_simp) trivial ?_
    simp only [Act.put]
    refine wpAnyH_done (by kernel_rfl) ?_ _
    refine NoPanic.normal ?_
    go_wp2
    go_end0
    exact ⟨⟨_, rfl⟩, _, a2, own3, (E0.mono hb).trans ((C1.mono (by omega)).trans B3)⟩
  · refine op_calls 2 (some 5) 56 #[.slice none 0 0, .slice ao n cap] rfl rfl rfl (by go_simp) (fun u w' => w'.ownsRow v0.heap.size 5 1 u (0 + (enc n).length + n) (bv ([] ++ enc n ++ ys)) ∧ Below v0.heap.size v0 w') ((wBytes_any v0 none ao 0 0 n cap [] ys (Sl.nothing v0) h0 (by omega)).mono (by
      rintro e w' ⟨u, rfl, o, C⟩
      exact ⟨_, rfl, o, C⟩)) ?_
    rintro u w1 ⟨o1, C1⟩
    simp only [Nat.zero_add, List.nil_append] at o1
    obtain ⟨fo', fc, rfl, S1, hS1⟩ := Sl.own o1 (heb.append h.byte)
    obtain ⟨fo, rfl⟩ : ∃ fo, fo' = some fo := by
      cases fo' with
      | none => have := (S1.nil rfl).1; omega
      | some a => exact ⟨a, rfl⟩
    have s1 := C1.size
    have own1 := own_below own0 C1
    have ha1 := arr_below ha0 C1
    have c1 := ha1.cell 0
    refine ⟨trivial, ?_⟩
    simp only [Act.put, List.setIfInBounds_toArray, List.set_cons_zero, List.set_cons_succ]
    refine hr_ex 0 (some 3) rfl rfl (by kernel_rfl) rfl (R := fun u w' => u = .slice vo k vc ∧ w1 = w') ⟨_, _, by go_simp, rfl, rfl⟩ ?_
    rintro u w' ⟨rfl, rfl⟩
    refine ⟨trivial, ?_⟩
    simp only [Act.put, List.setIfInBounds_toArray, List.set_cons_zero, List.set_cons_succ]
    obtain ⟨v', w2, hrun, own2, g2, -⟩ := run_append_own (P := Tryd.prog) w1 base 23 23 5 i0 (.int .u8 0) 1 1 Tryd.underlying23 hi hz0 hz1 hz2 rfl (by decide) (.slice vo k vc) k (bv xs) own1 fo ((enc n).length + n) fc (bv (enc n ++ ys)) (by rw [bv_length, Nat.mul_one]; exact S1.len) (S1.cells fo rfl) (bv_one _) (by unfold maxLen; omega) (by omega) (by omega)
    obtain ⟨a1, a2, own3, B3⟩ := arr_put ha1 (by decide) own1 (by omega) hp own2 g2 0
    have e1 : bv xs ++ bv (enc n ++ ys) = bv (xs ++ (enc n ++ ys)) := (bv_append _ _).symm
    rw [e1] at own2 own3
    obtain ⟨ro, rc, rfl, -, -⟩ := Sl.own own2 hbyt
    have fz := a1.free 0
    have fc0 := a1.cell 0
    refine hr_ex 3 (some 6) rfl rfl (by kernel_rfl) rfl (R := fun u w' => u = .slice ro (k + ((enc n).length + n)) rc ∧ w2 = w') ⟨_, _, by simp [execOp, Act.eval, resolve, invoke, builtin, hrun], rfl, rfl⟩ ?_
    rintro u w' ⟨rfl, rfl⟩
    refine ⟨trivial, ?_⟩
    simp only [Act.put, List.setIfInBounds_toArray, List.set_cons_zero, List.set_cons_succ]
    refine hr_skip 4 none (w' := w2.setCell ⟨p, 0, none⟩ (.slice ro (k + ((enc n).length + n)) rc)) rfl rfl (by kernel_rfl) rfl (by go_simp) trivial ?_
    simp only [Act.put]
    refine wpAnyH_done (by kernel_rfl) ?_ _
    refine NoPanic.normal ?_
    go_wp2
    go_end0
    exact ⟨⟨_, rfl⟩, _, a2, own3, (E0.mono hb).trans ((C1.mono (by omega)).trans B3)⟩
end Go.Proofs.YtmedheecimglkaaDoor

namespace Go.Proofs.YtmedheecimglkaaDoor
open Go.RowKit

/-- Bytes, as bytes' form. -/
def bf (x : List Int) : List Int := enc x.length ++ x
/-- The form of a node's first n keys. -/
def formTo (keys sums kids : List (List Int)) (n : Nat) : List Int := (List.range n).flatMap fun i => bf (keys.getD i []) ++ (bf (sums.getD i []) ++ bf (kids.getD (i + 1) []))
def nodeL : List Int := [110, 111, 100, 101]
/-- A node's form. -/
def formH (L : Nat) (n : Nat) (kids : List (List Int)) : List Int := bf nodeL ++ enc L ++ enc n ++ bf (kids.getD 0 [])
def formN (L : Nat) (keys sums kids : List (List Int)) : List Int := formH L keys.length kids ++ formTo keys sums kids keys.length
theorem formTo_succ (keys sums kids : List (List Int)) (n : Nat) : formTo keys sums kids (n + 1) = formTo keys sums kids n ++ (bf (keys.getD n []) ++ (bf (sums.getD n []) ++ bf (kids.getD (n + 1) []))) := by
  unfold formTo
  rw [List.range_succ, List.flatMap_append]
  simp
theorem formTo_le (keys sums kids : List (List Int)) : ∀ (n m : Nat), n ≤ m → (formTo keys sums kids n).length ≤ (formTo keys sums kids m).length
  | n, 0, h => by
    obtain rfl : n = 0 := by omega
    exact Nat.le_refl _
  | n, m + 1, h => by
    rcases Nat.eq_or_lt_of_le h with rfl | h
    · exact Nat.le_refl _
    · have := formTo_le keys sums kids n m (by omega)
      rw [formTo_succ, List.length_append]
      omega
theorem bf_byte {x : List Int} (h : Byt x) (hl : x.length < 18446744073709551616) : Byt (bf x) := Byt.append (enc_byte hl) h
theorem getD_byte {l : List (List Int)} (h : ∀ x ∈ l, Byt x) (i : Nat) : Byt (l.getD i []) := by
  by_cases hi : i < l.length
  · simp only [List.getD, List.getElem?_eq_getElem hi, Option.getD_some]
    exact h _ (List.getElem_mem hi)
  · simp only [List.getD, List.getElem?_eq_none (Nat.le_of_not_lt hi), Option.getD_none]
    intro y hy
    simp at hy
theorem PL.byte {w : World} {ao : Option Addr} {n cap : Nat} {ps : List Part} (h : PL w ao n cap ps) (i : Nat) : Byt ((pxs ps).getD i []) := getD_byte (fun x hx => by obtain ⟨q, hq, rfl⟩ := List.mem_map.1 hx; exact (h.sl q hq).byte) i

/-- Bytes that are written out, marked. -/
theorem Sl.const (w : World) (xs : List Int) (fr : Nat × Nat) (h : Byt xs) (hn : xs.length ≤ maxLen) : Sl (w.alloc (.cells (bv xs).toArray 5 fr)) (some ⟨w.heap.size, 0, none⟩) xs.length xs.length xs := by
  refine ⟨rfl, Nat.le_refl _, hn, fun h => by simp at h, fun a ha i hi => ?_, h⟩
  obtain rfl := Option.some.inj ha
  rw [Addr.add_lit, Nat.zero_add, cell_of_row _ w.heap.size i (bv xs).toArray 5 fr (heap_alloc_new w _)]
  simpa using bv_get xs i hi
theorem nodeL_byte : Byt nodeL := by
  intro x hx
  simp [nodeL] at hx
  omega

theorem Sl.ofOwn {w : World} {base : Nat} {ao : Option Addr} {n cap : Nat} {xs : List Int} (h : w.ownsRow base 5 1 (.slice ao n cap) n (bv xs)) (hb : Byt xs) : Sl w ao n cap xs := by
  obtain ⟨ao', cap', e, S, -⟩ := Sl.own h hb
  injection e with h1 h2 h3
  subst h1 h3
  exact S
/-- A box's new value. -/
theorem box_set {w : World} {p base b0 : Nat} {t e : TypeId} {v v' : Value} {size m : Nat} {ys : List Value} (h : Arr w p t [v]) (hte : t ≠ e) (hr : w.ownsRow base e size v' m ys) (hp : b0 ≤ p) :
    Arr (w.setCell ⟨p, 0, none⟩ v') p t [v'] ∧ (w.setCell ⟨p, 0, none⟩ v').ownsRow base e size v' m ys ∧ Below b0 w (w.setCell ⟨p, 0, none⟩ v') :=
  ⟨h.set 0 v', hr.kept (row := some p) (grown_set (a := w) (b := w) ⟨rfl, rfl, rfl, Nat.le_refl _, fun _ _ _ => rfl⟩ 0 v') (.inr (arr_not_row h hte hr)), (Below.refl _ _).setCell hp v'⟩

set_option maxHeartbeats 4000000 in
set_option maxRecDepth 100000 in
theorem form_any (w : World) (L : Nat) (ko so co : Option Addr) (kn kc sn sc cn cc : Nat) (ks ss cs : List Part) (hK : PL w ko kn kc ks) (hS : PL w so sn sc ss) (hC : PL w co cn cc cs) (hL : L ≤ 9223372036854775807) (hkn : kn ≤ 1000000) (hsn : sn ≤ 1000000) (hcn : cn ≤ 1000000)
    (hF : (formN L (pxs ks) (pxs ss) (pxs cs)).length ≤ 1000000000) :
    Calls Tryd.prog 30 #[.int .i64 L, .slice ko kn kc, .slice so sn sc, .slice co cn cc] w fun e w' => ∃ v, e = .returned v ∧ w'.ownsRow w.heap.size 5 1 v (formN L (pxs ks) (pxs ss) (pxs cs)).length (bv (formN L (pxs ks) (pxs ss) (pxs cs))) ∧ Below w.heap.size w w' := by
  have hkl := hK.len
  have B0 : Below w.heap.size w (w.alloc (.cells (bv nodeL).toArray 5 (4, 5))) := (Below.refl _ w).alloc (Nat.le_refl _) _
  have S0 := Sl.const w nodeL (4, 5) nodeL_byte (by simp [nodeL, maxLen])
  have kc0 := Lib.run_convert_bytes_const (P := Tryd.prog) w 23 5 #[.int .u8 110, .int .u8 111, .int .u8 100, .int .u8 101] 4 4 Tryd.underlying23 Tryd.underlying5
  have hLi : (L : Int) ≤ 9223372036854775807 := by omega
  have hLw : IntKind.u64.wrap (L : Int) = L := by simp [IntKind.wrap, IntKind.bits, IntKind.signed]; omega
  have hkw : IntKind.u64.wrap (kn : Int) = kn := by simp [IntKind.wrap, IntKind.bits, IntKind.signed]; omega
  go_enter Tryd.func30, Tryd.ntmps30
  go_wp2_with fail
  refine (wBytes_any _ none _ 0 0 4 4 [] nodeL (Sl.nothing _) S0 (by omega)).mono ?_
  rintro e w1 ⟨v1, rfl, o1, C1⟩
  clear kc0 S0
  simp only [Nat.zero_add, List.nil_append] at o1
  have hb1 : Byt (enc 4 ++ nodeL) := Byt.append (enc_byte (by omega)) nodeL_byte
  obtain ⟨f1, c1, rfl, -, -⟩ := Sl.own o1 hb1
  have B1 : Below w.heap.size w w1 := B0.trans (C1.mono B0.size)
  have o1 := own_base o1 B0.size
  have s1 := B1.size
  clear B0 C1
  obtain ⟨W1, hW1⟩ : ∃ W, W = w1.alloc (.cells #[.slice f1 ((enc 4).length + 4) c1] 23) := ⟨_, rfl⟩
  have a1 : Arr W1 w1.heap.size 23 [.slice f1 ((enc 4).length + 4) c1] := by rw [hW1]; exact heap_alloc_new w1 _
  have D1 : Below w1.heap.size w1 W1 := by rw [hW1]; exact (Below.refl _ w1).alloc (Nat.le_refl _) _
  have o2 := own_below o1 D1
  have S1 := Sl.ofOwn o2 hb1
  have E1 := B1.trans (D1.mono s1)
  have e4 := enc_length (n := 4) (by omega)
  go_wp2_with fail
  rw [← hW1]
  obtain ⟨p, hp⟩ : ∃ p, p = w1.heap.size := ⟨_, rfl⟩
  rw [← hp] at a1 ⊢
  have hpw : w.heap.size ≤ p := by omega
  have hpl : p < W1.heap.size := a1.lt
  clear hW1 o1 B1 D1 hp s1
  refine (wUint_any W1 f1 ((enc 4).length + 4) c1 L (enc 4 ++ nodeL) S1 (by omega) (by omega)).mono ?_
  rintro e w2 ⟨v2, rfl, o3, C2⟩
  have eL := enc_length (n := L) (by omega)
  have hb2 : Byt ((enc 4 ++ nodeL) ++ enc L) := Byt.append hb1 (enc_byte (by omega))
  obtain ⟨f2, c2, rfl, -, -⟩ := Sl.own o3 hb2
  have a2 := arr_below a1 C2
  have s2 := C2.size
  obtain ⟨a3, o4, D3⟩ := box_set (b0 := w.heap.size) a2 (by decide) o3 hpw
  have E2 := (E1.trans (C2.mono E1.size)).trans D3
  have z1 := a2.cell 0
  have z2 := a2.free 0
  have z3 := a3.cell 0
  have S2 := Sl.ofOwn o4 hb2
  clear o2 S1 o3 C2 a1 E1 D3 a2
  go_wp2_with fail
  obtain ⟨W2, hW2⟩ : ∃ W, W = w2.setCell ⟨p, 0, none⟩ (.slice f2 ((enc 4).length + 4 + (enc L).length) c2) := ⟨_, rfl⟩
  rw [← hW2] at a3 o4 E2 z3 S2 ⊢
  have hpl2 : p < W2.heap.size := a3.lt
  clear hW2 z1 z2
  refine (wUint_any W2 f2 ((enc 4).length + 4 + (enc L).length) c2 kn (enc 4 ++ nodeL ++ enc L) S2 (by omega) (by omega)).mono ?_
  rintro e w3 ⟨v3, rfl, o5, C3⟩
  have eK := enc_length (n := kn) (by omega)
  have hb3 : Byt ((enc 4 ++ nodeL ++ enc L) ++ enc kn) := Byt.append hb2 (enc_byte (by omega))
  obtain ⟨f3, c3, rfl, -, -⟩ := Sl.own o5 hb3
  have a4 := arr_below a3 C3
  have s3 := C3.size
  obtain ⟨a5, o6, D4⟩ := box_set (b0 := w.heap.size) a4 (by decide) o5 hpw
  have E3 := (E2.trans (C3.mono E2.size)).trans D4
  have z1 := a4.cell 0
  have z2 := a4.free 0
  have o6 := own_base o6 (Nat.le_trans E2.size (Nat.le_refl _))
  clear o4 S2 o5 C3 a3 E2 D4 a4 z3
  obtain ⟨W3, hW3⟩ : ∃ W, W = w3.setCell ⟨p, 0, none⟩ (.slice f3 ((enc 4).length + 4 + (enc L).length + (enc kn).length) c3) := ⟨_, rfl⟩
  rw [← hW3] at a5 o6 E3
  have CA := at_any W3 co cn cc 0 cs (hC.below E3) hcn (by omega)
  go_wp2_with fail
  rw [← hW3]
  clear hW3 z1 z2
  refine CA.mono ?_
  rintro e w' ⟨qo, qn, qc, rfl, Q1, hq1, hw'⟩
  obtain rfl := hw'.symm
  clear CA
  obtain ⟨KX, hKX⟩ : ∃ X, X = pxs ks := ⟨_, rfl⟩
  obtain ⟨SX, hSX⟩ : ∃ X, X = pxs ss := ⟨_, rfl⟩
  obtain ⟨CX, hCX⟩ : ∃ X, X = pxs cs := ⟨_, rfl⟩
  have hKl : KX.length = kn := by rw [hKX, pxs_len, hkl]
  have HF : Hid (formN L (pxs ks) (pxs ss) (pxs cs) = formH L kn CX ++ formTo KX SX CX kn) := by
    show _ = _
    rw [← hKX, ← hSX, ← hCX, formN, hKl]
  have hF2 := hF
  rw [HF.out, List.length_append] at hF2
  have hq0 : qn = (CX.getD 0 []).length := by rw [← Q1.len, hCX]; rfl
  have hFH : (formH L kn CX).length = (enc 4).length + 4 + (enc L).length + (enc kn).length + ((enc qn).length + qn) := by
    rw [hq0]
    simp only [formH, bf, nodeL, List.length_append, List.length_cons, List.length_nil]
  have HE : Hid (enc 4 ++ nodeL ++ enc L ++ enc kn ++ (enc qn ++ (cs.map Part.xs).getD 0 []) = formH L kn CX) := by
    show _ = _
    rw [hq0, hCX]
    simp only [formH, bf]
    rfl
  have CB := put_any W3 p w.heap.size _ _ (enc 4 ++ nodeL ++ enc L ++ enc kn) a5 o6 hpw E3.size qo qn qc _ Q1 (by omega) hb3
  clear hF hq0 a5 o6
  go_wp2_with fail
  refine CB.mono ?_
  rintro e w4 ⟨⟨u4, rfl⟩, v4, a6, o7, C4⟩
  rw [HE.out, ← hFH] at o7
  have E4 := E3.trans C4
  clear CB HE Q1 hFH
  have hFb : Byt (formH L kn CX) := by
    unfold formH
    exact Byt.append (Byt.append (Byt.append (bf_byte nodeL_byte (by decide)) (enc_byte (by omega))) (enc_byte (by omega))) (bf_byte (by rw [hCX]; exact hC.byte 0) (by
      have : (bf (CX.getD 0 [])).length ≤ (formH L kn CX).length := by simp [formH]; omega
      simp only [bf, List.length_append] at this
      omega))
  have hkb : ∀ i, Byt (KX.getD i []) := by rw [hKX]; exact hK.byte
  have hsb : ∀ i, Byt (SX.getD i []) := by rw [hSX]; exact hS.byte
  have hcb : ∀ i, Byt (CX.getD i []) := by rw [hCX]; exact hC.byte
  have HKB : Hid (∀ i, Byt (KX.getD i [])) := hkb
  have HSB : Hid (∀ i, Byt (SX.getD i [])) := hsb
  have HCB : Hid (∀ i, Byt (CX.getD i [])) := hcb
  have HKX : Hid (KX = pxs ks) := hKX
  have HSX : Hid (SX = pxs ss) := hSX
  have HCX : Hid (CX = pxs cs) := hCX
  clear hkb hsb hcb hKX hSX hCX
  go_wp2_with fail
  go_loopw [32] (fun i wr => ∃ (k : Nat) (v : Value), k ≤ kn ∧ i = .int .i64 k ∧ Below w.heap.size w wr ∧ Arr wr p 23 [v] ∧ wr.ownsRow w.heap.size 5 1 v ((formH L kn CX).length + (formTo KX SX CX k).length) (bv (formH L kn CX ++ formTo KX SX CX k)) ∧ Byt (formH L kn CX ++ formTo KX SX CX k)) (fun i _ => kn - (intOf i).toNat)
  case atStart => exact ⟨0, v4, Nat.zero_le _, rfl, E4, a6, by simpa [formTo] using o7, by simpa [formTo] using hFb⟩
  case round =>
    clear a6 o7 E4 hFb
    obtain ⟨k, v, hk, rfl, E5, a7, o8, hby⟩ := hrel
    have s5 := E5.size
    have hpl5 : p < wr.heap.size := a7.lt
    by_cases hlt : k < kn
    · have hki : (k : Int) < (kn : Int) := by omega
      have hkl2 : k < ks.length := by omega
      obtain ⟨ab, aof, rfl, hcc⟩ := (hK.below E5).at (by omega)
      have c1 := hcc k hkl2
      have S5 := (hK.below E5).sl ks[k] (List.getElem_mem hkl2)
      have hfs := formTo_succ KX SX CX k
      have hfl := formTo_le KX SX CX (k + 1) kn (by omega)
      rw [hfs] at hfl
      simp only [List.length_append, bf] at hfl
      have HG : Hid (KX.getD k [] = ks[k].xs) := by show _ = _; rw [HKX.out]; simp [pxs, List.getD, hkl2]
      have HFS : Hid (formTo KX SX CX (k + 1) = formTo KX SX CX k ++ (bf (KX.getD k []) ++ (bf (SX.getD k []) ++ bf (CX.getD (k + 1) [])))) := hfs
      have b1 : Byt (bf (KX.getD k [])) := bf_byte (HKB.out k) (by omega)
      have b2 : Byt (bf (SX.getD k [])) := bf_byte (HSB.out k) (by omega)
      have b3 : Byt (bf (CX.getD (k + 1) [])) := bf_byte (HCB.out (k + 1)) (by omega)
      obtain ⟨q, hq⟩ : ∃ q, q = ks[k] := ⟨_, rfl⟩
      rw [← hq] at c1 S5 HG
      have hqn : q.n ≤ 1000000000 := by rw [← S5.len, ← HG.out]; omega
      unfold Part.val at c1
      clear hfs hcc hq
      have CB := put_any wr p w.heap.size _ _ _ a7 o8 hpw s5 q.ao q.n q.cap q.xs S5 (by omega) hby
      go_wp2_with fail
      refine CB.mono ?_
      rintro e w6 ⟨⟨u6, rfl⟩, v6, a8, o9, C6⟩
      have E6 := E5.trans C6
      have HQ : Hid (enc q.n ++ q.xs = bf (KX.getD k [])) := by show _ = _; rw [bf, HG.out, S5.len]
      have hq6 : (enc q.n).length + q.n = (bf (KX.getD k [])).length := by rw [← HQ.out, List.length_append, S5.len]
      rw [HQ.out, hq6] at o9
      have hby6 := hby.append b1
      clear CB a7 o8 hby C6 S5 hq6
      have CA := at_any w6 so sn sc k ss (hS.below E6) hsn (by omega)
      go_wp2_with fail
      refine CA.mono ?_
      rintro e w' ⟨ro, rn, rc, rfl, R1, hr1, hw'⟩
      obtain rfl := hw'.symm
      have hrx : Hid ((ss.map Part.xs).getD k [] = SX.getD k []) := by show _ = _; rw [HSX.out]; rfl
      rw [hrx.out] at R1
      have hrn : rn = (SX.getD k []).length := R1.len.symm
      have hrn2 : rn ≤ 1000000000 := by omega
      have CB := put_any w6 p w.heap.size _ _ _ a8 o9 hpw E6.size ro rn rc _ R1 (by simp only [bf, List.length_append]; omega) hby6
      clear CA hr1
      have HR : Hid (enc rn ++ SX.getD k [] = bf (SX.getD k [])) := by show _ = _; rw [bf, hrn]
      have hr6 : (enc rn).length + rn = (bf (SX.getD k [])).length := by rw [← HR.out, List.length_append, ← hrn]
      have HRN : Hid ((enc rn).length + rn = (bf (SX.getD k [])).length) := hr6
      clear hrn hr6
      go_wp2_with fail
      refine CB.mono ?_
      rintro e w7 ⟨⟨u7, rfl⟩, v7, a9, o10, C7⟩
      have E7 := E6.trans C7
      rw [HR.out, HRN.out] at o10
      have hby7 := hby6.append b2
      clear CB a8 o9 hby6 C7 R1
      have CA := at_any w7 co cn cc (k + 1) cs (hC.below E7) hcn (by omega)
      have hkw1 : IntKind.i64.wrap ((k : Int) + 1) = ((k + 1 : Nat) : Int) := by
        simp [IntKind.wrap, IntKind.bits, IntKind.signed]
        omega
      go_wp2_with fail
      refine CA.mono ?_
      rintro e w' ⟨ro2, rn2, rc2, rfl, R2, hr2, hw'⟩
      obtain rfl := hw'.symm
      have hrx2 : Hid ((cs.map Part.xs).getD (k + 1) [] = CX.getD (k + 1) []) := by show _ = _; rw [HCX.out]; rfl
      rw [hrx2.out] at R2
      have hrn3 : rn2 = (CX.getD (k + 1) []).length := R2.len.symm
      have hrn4 : rn2 ≤ 1000000000 := by omega
      have CB := put_any w7 p w.heap.size _ _ _ a9 o10 hpw E7.size ro2 rn2 rc2 _ R2 (by simp only [bf, List.length_append]; omega) hby7
      clear CA hr2
      have HR2 : Hid (enc rn2 ++ CX.getD (k + 1) [] = bf (CX.getD (k + 1) [])) := by show _ = _; rw [bf, hrn3]
      have hr7 : (enc rn2).length + rn2 = (bf (CX.getD (k + 1) [])).length := by rw [← HR2.out, List.length_append, ← hrn3]
      have HRN2 : Hid ((enc rn2).length + rn2 = (bf (CX.getD (k + 1) [])).length) := hr7
      clear hrn3 hr7
      go_wp2_with fail
      refine CB.mono ?_
      rintro e w8 ⟨⟨u8, rfl⟩, v8, a10, o11, C8⟩
      have E8 := E7.trans C8
      rw [HR2.out, HRN2.out] at o11
      have hby8 := hby7.append b3
      clear CB a9 o10 hby7 C8 R2 hkw1
      go_wp2_with fail
      go_roundw
      case rel =>
        refine ⟨k + 1, v8, by omega, by go_num, E8, a10, ?_, ?_⟩
        · rw [HFS.out]
          simp only [List.length_append, List.append_assoc, Nat.add_assoc] at o11 ⊢
          exact o11
        · rw [HFS.out]
          simp only [List.append_assoc] at hby8 ⊢
          exact hby8
      case measure => simp [intOf]; omega
    · have hge : (kn : Int) ≤ (k : Int) := by omega
      obtain rfl : k = kn := by omega
      have z1 := a7.cell 0
      obtain ⟨f9, c9, rfl, -, -⟩ := Sl.own o8 hby
      go_wp2
      go_ret
      refine ⟨_, rfl, ?_, E5⟩
      rw [HF.out, List.length_append]
      exact o8
end Go.Proofs.YtmedheecimglkaaDoor

namespace Go.Proofs.YtmedheecimglkaaDoor
open Go.RowKit

def emptyL : List Int := [101, 109, 112, 116, 121]
theorem emptyL_byte : Byt emptyL := by
  intro x hx
  simp [emptyL] at hx
  omega
set_option maxHeartbeats 1000000 in
set_option maxRecDepth 100000 in
/-- hashOf of nil, whatever the map. -/
theorem hashNil_any (w : World) (m : Value) (hT : Tabs w) :
    Calls Tryd.prog 78 #[.pointer none, m] w fun e w' => ∃ v, e = .returned v ∧ w'.ownsRow w.heap.size 5 1 v 32 (bv (sumL emptyL)) ∧ Below w.heap.size w w' := by
  have h2 := hT.two
  have B0 : Below w.heap.size w (w.alloc (.cells (bv emptyL).toArray 5 (5, 6))) := (Below.refl _ w).alloc (Nat.le_refl _) _
  have S0 := Sl.const w emptyL (5, 6) emptyL_byte (by simp [emptyL, maxLen])
  have kc0 := Lib.run_convert_bytes_const (P := Tryd.prog) w 23 5 #[.int .u8 101, .int .u8 109, .int .u8 112, .int .u8 116, .int .u8 121] 5 5 Tryd.underlying23 Tryd.underlying5
  have CS := sum_any _ _ 5 5 emptyL (hT.below B0 h2) S0
  go_enter Tryd.func78, Tryd.ntmps78
  go_wp2_with fail
  refine CS.mono ?_
  rintro e w1 ⟨v, rfl, o, C⟩
  go_wp2
  go_ret
  exact ⟨_, rfl, own_base o B0.size, B0.trans (C.mono B0.size)⟩

set_option maxHeartbeats 1000000 in
set_option maxRecDepth 100000 in
theorem rootNil_any (w : World) (hT : Tabs w) :
    Calls Tryd.prog 26 #[.pointer none] w fun e w' => ∃ v, e = .returned v ∧ w'.ownsRow w.heap.size 5 1 v 32 (bv (sumL emptyL)) ∧ Below w.heap.size w w' := by
  have h2 := hT.two
  have CS := shared_at w w (.pointer none) [] (TT.nil w) (Below.refl _ _)
  have CH : Calls Tryd.prog 50 #[.pointer none] w fun e w' => ∃ v, e = .returned v ∧ w'.ownsRow w.heap.size 5 1 v 32 (bv (sumL emptyL)) ∧ Below w.heap.size w w' := by
    have hmm := @run_makeMap Tryd.prog
    have B1 : Below w.heap.size w (w.alloc (.map #[] 0)) := (Below.refl _ w).alloc (Nat.le_refl _) _
    have CN := hashNil_any (w.alloc (.map #[] 0)) (.map (some w.heap.size)) (hT.below B1 h2)
    go_enter Tryd.func50, Tryd.ntmps50
    go_wp2_with fail
    refine CN.mono ?_
    rintro e w2 ⟨v, rfl, o, C⟩
    go_wp2
    go_ret
    exact ⟨_, rfl, own_base o B1.size, B1.trans (C.mono B1.size)⟩
  go_enter Tryd.func26, Tryd.ntmps26
  go_wp2_with fail
  refine CS.mono ?_
  rintro e w1 ⟨q, rfl, hq, hw⟩
  obtain rfl := hw.symm
  obtain rfl : q = none := by
    rcases hq.is with ⟨-, h⟩ | ⟨d, segs, xs, -, h⟩
    · simpa using h
    · have h1 := h.shp.pos
      have h2 := h.many
      rw [List.length_nil] at h2
      omega
  clear CS
  go_wp2_with fail
  refine CH.mono ?_
  rintro e w2 ⟨v, rfl, o, C⟩
  go_wp2
  go_ret
  exact ⟨_, rfl, o, C⟩
end Go.Proofs.YtmedheecimglkaaDoor

namespace Go.Proofs.YtmedheecimglkaaDoor
open Go.RowKit

theorem one_byte (c : Int) (h : 0 ≤ c ∧ c ≤ 255) : Byt [c] := by
  intro x hx
  rw [List.mem_singleton.1 hx]
  exact h
def aIt : It := ⟨[97], [49]⟩
theorem ins_nil (x : It) : ins [] x = [x] := rfl

set_option maxHeartbeats 4000000 in
set_option maxRecDepth 100000 in
theorem alive7 (w : World) (hT : Tabs w) : Calls Tryd.prog 9 #[] w fun e w' => e = .returned (.bool true) ∧ Below w.heap.size w w' := by
  have h2 := hT.two
  have kc := fun (w : World) (C : Array Value) (n c g : Nat) (hg : g = w.heap.size) => Joins.run_convert_bytes_const_at (P := Tryd.prog) w 23 5 C n c g hg Tryd.underlying23 Tryd.underlying5
  obtain ⟨W1, hW1⟩ : ∃ W, W = w.alloc (.cells #[.int .u8 97] 5 (1, 2)) := ⟨_, rfl⟩
  obtain ⟨W2, hW2⟩ : ∃ W, W = W1.alloc (.cells #[.int .u8 49] 5 (1, 2)) := ⟨_, rfl⟩
  have B1 : Below w.heap.size w W1 := by rw [hW1]; exact (Below.refl _ w).alloc (Nat.le_refl _) _
  have C2 : Below W1.heap.size W1 W2 := by rw [hW2]; exact (Below.refl _ W1).alloc (Nat.le_refl _) _
  have z1 : W1.heap.size = w.heap.size + 1 := by rw [hW1]; simp
  have S1 : Sl W1 (some ⟨w.heap.size, 0, none⟩) 1 1 [97] := by rw [hW1]; exact Sl.const w [97] (1, 2) (one_byte _ (by omega)) (by simp [maxLen])
  have S2 : Sl W2 (some ⟨W1.heap.size, 0, none⟩) 1 1 [49] := by rw [hW2]; exact Sl.const W1 [49] (1, 2) (one_byte _ (by omega)) (by simp [maxLen])
  have S1' := S1.below C2
  have B2 := B1.trans (C2.mono B1.size)
  rw [z1] at S2
  have k1 := kc w #[.int .u8 97] 1 1 w.heap.size rfl
  have k2 := kc W1 #[.int .u8 49] 1 1 (w.heap.size + 1) z1.symm
  have CP := tput_any W2 (.pointer none) [] aIt (some ⟨w.heap.size, 0, none⟩) (some ⟨w.heap.size + 1, 0, none⟩) 1 1 1 1 (hT.below B2 h2) (TT.nil _) List.Pairwise.nil S1' S2 (by omega) (by omega) (by simp) 0 rfl
  go_enter Tryd.func9, Tryd.ntmps9
  go_wp2_with fail
  rw [← hW1, ← hW2]
  clear hW1 hW2 k1 k2 S1 S2 S1' C2 z1 B1
  refine CP.mono ?_
  rintro e w3 ⟨u, rfl, hTT, -, C3⟩
  have hTT := hTT rfl
  rw [ins_nil] at hTT
  have B3 := B2.trans (C3.mono B2.size)
  obtain ⟨b, rfl⟩ : ∃ b, u = some ⟨b, 0, none⟩ := by
    rcases hTT with ⟨-, h⟩ | ⟨b, u', h, -⟩
    · simp at h
    · exact ⟨b, by simpa using h⟩
  clear CP C3 B2
  obtain ⟨W4, hW4⟩ : ∃ W, W = w3.alloc (.cells #[.int .u8 97] 5 (1, 2)) := ⟨_, rfl⟩
  have C4 : Below w3.heap.size w3 W4 := by rw [hW4]; exact (Below.refl _ w3).alloc (Nat.le_refl _) _
  have S4 : Sl W4 (some ⟨w3.heap.size, 0, none⟩) 1 1 [97] := by rw [hW4]; exact Sl.const w3 [97] (1, 2) (one_byte _ (by omega)) (by simp [maxLen])
  have k4 := kc w3 #[.int .u8 97] 1 1 w3.heap.size rfl
  have T4 := hTT.below C4
  have B4 := B3.trans (C4.mono B3.size)
  have CG := tget_any W4 (.pointer (some ⟨b, 0, none⟩)) [aIt] [97] (some ⟨w3.heap.size, 0, none⟩) 1 1 T4 (Srt.one _) S4 (by simp) (by intro x hx; rw [List.mem_singleton.1 hx]; simp [aIt])
  go_wp2_with fail
  rw [← hW4]
  clear hW4 k4 S4 C4 B3 hTT
  refine CG.mono ?_
  rintro e w5 ⟨qo, qn, qc, bb, rfl, hyes, hno, C5⟩
  cases bb with
  | false => exact absurd ⟨aIt, List.mem_singleton.2 rfl, rfl⟩ (hno rfl).1
  | true =>
  obtain ⟨x, hx, -, S5⟩ := hyes rfl
  rw [List.mem_singleton.1 hx] at S5
  have S5 : Sl w5 qo qn qc [49] := S5
  have B5 := B4.trans (C5.mono B4.size)
  have T5 := T4.below C5
  clear CG hyes hno hx C5 B4 T4
  have CR := rootNil_any w5 (hT.below B5 h2)
  go_wp2_with fail
  refine CR.mono ?_
  rintro e w6 ⟨v6, rfl, o6, C6⟩
  obtain ⟨ro, rc, rfl, S6, -⟩ := Sl.own o6 (sumL_byte _)
  have B6 := B5.trans (C6.mono B5.size)
  have S5 := S5.below C6
  have T6 := T5.below C6
  clear CR o6 C6 B5 T5
  obtain ⟨W7, hW7⟩ : ∃ W, W = w6.alloc (.cells #[.int .u8 101, .int .u8 109, .int .u8 112, .int .u8 116, .int .u8 121] 5 (5, 6)) := ⟨_, rfl⟩
  have C7 : Below w6.heap.size w6 W7 := by rw [hW7]; exact (Below.refl _ w6).alloc (Nat.le_refl _) _
  have S7 : Sl W7 (some ⟨w6.heap.size, 0, none⟩) 5 5 emptyL := by rw [hW7]; exact Sl.const w6 emptyL (5, 6) emptyL_byte (by simp [emptyL, maxLen])
  have k7 := kc w6 #[.int .u8 101, .int .u8 109, .int .u8 112, .int .u8 116, .int .u8 121] 5 5 w6.heap.size rfl
  have B7 := B6.trans (C7.mono B6.size)
  have S6 := S6.below C7
  have S5 := S5.below C7
  have T7 := T6.below C7
  have CM := rsum_any W7 (some ⟨w6.heap.size, 0, none⟩) 5 5 emptyL S7 (by omega)
  go_wp2_with fail
  rw [← hW7]
  clear hW7 k7 C7 B6 T6
  refine CM.mono ?_
  rintro e w8 ⟨v8, rfl, o8, C8⟩
  obtain ⟨so, sc, rfl, S8, -⟩ := Sl.own o8 (sumL_byte _)
  have B8 := B7.trans (C8.mono B7.size)
  have S6 := S6.below C8
  have S5 := S5.below C8
  have T8 := T7.below C8
  clear CM o8 C8 B7 T7
  have CE := same_any w8 ro so 32 rc 32 sc _ _ S6 S8
  rw [decide_eq_true rfl] at CE
  go_wp2_with fail
  refine CE.mono ?_
  rintro e w9 ⟨rfl, q9, rfl⟩
  have E9 := below_drewN w8 q9 w8.heap.size
  have B9 := B8.trans (E9.mono B8.size)
  have S5 := S5.below E9
  have T9 := T8.below E9
  have cv := conv_str S5
  have hst : strOfNums [49] = ⟨#[49]⟩ := rfl
  rw [hst] at cv
  clear CE E9 B8 T8 S6 S8 hst
  obtain ⟨w9, hw9⟩ : ∃ W, W = w8.drewN q9 := ⟨_, rfl⟩
  rw [← hw9] at B9 S5 T9 cv ⊢
  clear hw9
  have CL := len_any w9 _ _ T9 (Srt.one _) (by simp)
  go_wp2_with fail
  refine CL.mono ?_
  rintro e w10 ⟨rfl, C10⟩
  have B10 := B9.trans (C10.mono B9.size)
  clear CL C10 B9 cv
  have CL := len_any w10 (.pointer none) [] (TT.nil _) List.Pairwise.nil (by simp)
  go_wp2_with fail
  refine CL.mono ?_
  rintro e w11 ⟨rfl, C11⟩
  have B11 := B10.trans (C11.mono B10.size)
  go_wp2
  go_ret
  exact ⟨rfl, B11⟩
end Go.Proofs.YtmedheecimglkaaDoor

namespace Go.Proofs.YtmedheecimglkaaDoor
open Go.RowKit

theorem rat_any (w : World) (ao : Option Addr) (n cap i : Nat) (ps : List Part) (h : PL w ao n cap ps) (hn : n ≤ 1000000) (hi : i ≤ 1000000) :
    Calls Tryd.prog 62 #[.slice ao n cap, .int .i64 i] w fun e w' => ∃ qo qn qc, e = .returned (.slice qo qn qc) ∧ Sl w qo qn qc ((pxs ps).getD i []) ∧ w' = w := by
  have hl := h.len
  by_cases hlt : i < n
  · have hlt' : (i : Int) < (n : Int) := by omega
    obtain ⟨b, off, rfl, hc⟩ := h.at (by omega)
    have hil : i < ps.length := by omega
    have c1 := hc i hil
    have S1 := h.sl ps[i] (List.getElem_mem hil)
    have HG : Hid ((pxs ps).getD i [] = ps[i].xs) := by show _ = _; simp [pxs, List.getD, hil]
    obtain ⟨q, hq⟩ : ∃ q, q = ps[i] := ⟨_, rfl⟩
    rw [← hq] at c1 S1 HG
    clear hq hc
    unfold Part.val at c1
    go_enter Tryd.func62, Tryd.ntmps62
    go_wp2
    go_ret
    exact ⟨q.ao, q.n, q.cap, rfl, by first | exact S1 | (show Sl w q.ao q.n q.cap ((pxs ps).getD i []); rw [HG.out]; exact S1), rfl⟩
  · have hlt' : ¬ (i : Int) < (n : Int) := by omega
    have HG : Hid ((pxs ps).getD i [] = []) := by show _ = _; rw [List.getD, List.getElem?_eq_none (by simp [pxs]; omega)]; rfl
    go_enter Tryd.func62, Tryd.ntmps62
    go_wp2
    go_ret
    exact ⟨none, 0, 0, rfl, by first | exact Sl.nothing w | (show Sl w none 0 0 ((pxs ps).getD i []); rw [HG.out]; exact Sl.nothing w), rfl⟩

set_option maxHeartbeats 4000000 in
set_option maxRecDepth 100000 in
theorem rform7_any (w : World) (L : Nat) (ko so co : Option Addr) (kn kc sn sc cn cc : Nat) (ks ss cs : List Part) (hK : PL w ko kn kc ks) (hS : PL w so sn sc ss) (hC : PL w co cn cc cs) (hL : L ≤ 9223372036854775807) (hkn : kn ≤ 1000000) (hsn : sn ≤ 1000000) (hcn : cn ≤ 1000000)
    (hF : (formN L (pxs ks) (pxs ss) (pxs cs)).length ≤ 1000000000) :
    Calls Tryd.prog 31 #[.int .i64 L, .slice ko kn kc, .slice so sn sc, .slice co cn cc] w fun e w' => ∃ ro rc, e = .returned (.slice ro (formN L (pxs ks) (pxs ss) (pxs cs)).length rc) ∧ Sl w' ro (formN L (pxs ks) (pxs ss) (pxs cs)).length rc (formN L (pxs ks) (pxs ss) (pxs cs)) ∧ Below w.heap.size w w' := by
  have hkl := hK.len
  have B0 : Below w.heap.size w (w.alloc (.cells (bv nodeL).toArray 5 (4, 5))) := (Below.refl _ w).alloc (Nat.le_refl _) _
  have S0 := Sl.const w nodeL (4, 5) nodeL_byte (by simp [nodeL, maxLen])
  have kc0 := Lib.run_convert_bytes_const (P := Tryd.prog) w 23 5 #[.int .u8 110, .int .u8 111, .int .u8 100, .int .u8 101] 4 4 Tryd.underlying23 Tryd.underlying5
  have hLi : (L : Int) ≤ 9223372036854775807 := by omega
  have hLw : IntKind.u64.wrap (L : Int) = L := by simp [IntKind.wrap, IntKind.bits, IntKind.signed]; omega
  have hkw : IntKind.u64.wrap (kn : Int) = kn := by simp [IntKind.wrap, IntKind.bits, IntKind.signed]; omega
  obtain ⟨KX, hKX⟩ : ∃ X, X = pxs ks := ⟨_, rfl⟩
  obtain ⟨SX, hSX⟩ : ∃ X, X = pxs ss := ⟨_, rfl⟩
  obtain ⟨CX, hCX⟩ : ∃ X, X = pxs cs := ⟨_, rfl⟩
  have hKl : KX.length = kn := by rw [hKX, pxs_len, hkl]
  rw [← hKX, ← hSX, ← hCX] at hF ⊢
  have HF : Hid (formN L KX SX CX = formH L kn CX ++ formTo KX SX CX kn) := by show _ = _; rw [formN, hKl]
  have hF2 := hF
  rw [HF.out, List.length_append] at hF2
  have HKX : Hid (KX = pxs ks) := hKX
  have HSX : Hid (SX = pxs ss) := hSX
  have HCX : Hid (CX = pxs cs) := hCX
  obtain ⟨FN, hFN⟩ : ∃ F, F = formN L KX SX CX := ⟨_, rfl⟩
  rw [← hFN] at HF ⊢
  clear hKX hSX hCX hF hFN
  have e4 := enc_length (n := 4) (by omega)
  have eL := enc_length (n := L) (by omega)
  have eK := enc_length (n := kn) (by omega)
  go_enter Tryd.func31, Tryd.ntmps31
  go_wp2_with fail
  refine (rBytes_any _ none _ 0 0 4 4 [] nodeL (Sl.nothing _) S0 (by omega)).mono ?_
  rintro e w1 ⟨v1, rfl, o1, C1⟩
  clear kc0 S0
  simp only [Nat.zero_add, List.nil_append] at o1
  have hb1 : Byt (enc 4 ++ nodeL) := Byt.append (enc_byte (by omega)) nodeL_byte
  obtain ⟨f1, c1, rfl, S1, -⟩ := Sl.own o1 hb1
  have B1 : Below w.heap.size w w1 := B0.trans (C1.mono B0.size)
  clear B0 C1 o1
  go_wp2_with fail
  refine (rUint_any w1 f1 ((enc 4).length + 4) c1 L (enc 4 ++ nodeL) S1 (by omega) (by omega)).mono ?_
  rintro e w2 ⟨v2, rfl, o2, C2⟩
  have hb2 : Byt ((enc 4 ++ nodeL) ++ enc L) := Byt.append hb1 (enc_byte (by omega))
  obtain ⟨f2, c2, rfl, S2, -⟩ := Sl.own o2 hb2
  have B2 : Below w.heap.size w w2 := B1.trans (C2.mono B1.size)
  clear B1 C2 o2 S1
  go_wp2_with fail
  refine (rUint_any w2 f2 ((enc 4).length + 4 + (enc L).length) c2 kn (enc 4 ++ nodeL ++ enc L) S2 (by omega) (by omega)).mono ?_
  rintro e w3 ⟨v3, rfl, o3, C3⟩
  have hb3 : Byt ((enc 4 ++ nodeL ++ enc L) ++ enc kn) := Byt.append hb2 (enc_byte (by omega))
  obtain ⟨f3, c3, rfl, S3, -⟩ := Sl.own o3 hb3
  have B3 : Below w.heap.size w w3 := B2.trans (C3.mono B2.size)
  clear B2 C3 o3 S2
  have CA := rat_any w3 co cn cc 0 cs (hC.below B3) hcn (by omega)
  rw [← HCX.out] at CA
  go_wp2_with fail
  refine CA.mono ?_
  rintro e w' ⟨qo, qn, qc, rfl, Q1, hw'⟩
  obtain rfl := hw'.symm
  clear CA
  have hq0 : qn = (CX.getD 0 []).length := Q1.len.symm
  have hFH : (formH L kn CX).length = (enc 4).length + 4 + (enc L).length + (enc kn).length + (enc qn).length + qn := by
    rw [hq0]
    simp only [formH, bf, List.length_append, show nodeL.length = 4 from rfl]
    omega
  have HE : Hid (enc 4 ++ nodeL ++ enc L ++ enc kn ++ enc qn ++ CX.getD 0 [] = formH L kn CX) := by
    show _ = _
    rw [hq0]
    simp only [formH, bf, List.append_assoc]
    rfl
  have hq9 : qn ≤ 1000000000 := by omega
  have hq1 : Byt (CX.getD 0 []) := Q1.byte
  have CB := rBytes_any w3 f3 qo ((enc 4).length + 4 + (enc L).length + (enc kn).length) c3 qn qc _ (CX.getD 0 []) S3 Q1 (by omega)
  clear hq0
  go_wp2_with fail
  refine CB.mono ?_
  rintro e w4 ⟨v4, rfl, o4, C4⟩
  rw [HE.out, ← hFH] at o4
  have hFb : Byt (formH L kn CX) := by
    rw [← HE.out]
    exact Byt.append (Byt.append hb3 (enc_byte (by omega))) hq1
  obtain ⟨f4, c4, rfl, S4, -⟩ := Sl.own o4 hFb
  have B4 : Below w.heap.size w w4 := B3.trans (C4.mono B3.size)
  clear B3 C4 o4 S3 Q1 CB HE hFH hFb
  go_wp2_with fail
  go_loopw [9, 10] (fun b i wr => ∃ (k : Nat) (fo : Option Addr) (fc : Nat), k ≤ kn ∧ i = .int .i64 k ∧ b = .slice fo ((formH L kn CX).length + (formTo KX SX CX k).length) fc ∧ Below w.heap.size w wr ∧ Sl wr fo ((formH L kn CX).length + (formTo KX SX CX k).length) fc (formH L kn CX ++ formTo KX SX CX k)) (fun _ i _ => kn - (intOf i).toNat)
  case atStart => exact ⟨0, f4, c4, Nat.zero_le _, rfl, rfl, B4, by simpa [formTo] using S4⟩
  case round =>
    clear S4 B4
    obtain ⟨k, fo, fc, hk, rfl, rfl, B5, S5⟩ := hrel
    by_cases hlt : k < kn
    · have hki : (k : Int) < (kn : Int) := by omega
      have hkl2 : k < ks.length := by omega
      obtain ⟨ab, aof, rfl, hcc⟩ := (hK.below B5).at (by omega)
      have c1 := hcc k hkl2
      have K5 := (hK.below B5).sl ks[k] (List.getElem_mem hkl2)
      have hfs := formTo_succ KX SX CX k
      have hfl := formTo_le KX SX CX (k + 1) kn (by omega)
      rw [hfs] at hfl
      simp only [List.length_append, bf] at hfl
      have HG : Hid (KX.getD k [] = ks[k].xs) := by show _ = _; rw [HKX.out]; simp [pxs, List.getD, hkl2]
      have HFS : Hid (formTo KX SX CX (k + 1) = formTo KX SX CX k ++ (bf (KX.getD k []) ++ (bf (SX.getD k []) ++ bf (CX.getD (k + 1) [])))) := hfs
      obtain ⟨q, hq⟩ : ∃ q, q = ks[k] := ⟨_, rfl⟩
      rw [← hq] at c1 K5 HG
      have hqn : q.n = (KX.getD k []).length := by rw [HG.out, K5.len]
      have hqn2 : q.n ≤ 1000000000 := by omega
      have hqb := K5.byte
      have HQN : Hid (q.n = (KX.getD k []).length) := hqn
      unfold Part.val at c1
      clear hfs hcc hq hqn
      have CB := rBytes_any wr fo q.ao _ fc q.n q.cap _ q.xs S5 K5 (by omega)
      go_wp2_with fail
      refine CB.mono ?_
      rintro e w6 ⟨v6, rfl, o6, C6⟩
      have b6 : Byt (formH L kn CX ++ formTo KX SX CX k ++ enc q.n ++ q.xs) := Byt.append (Byt.append S5.byte (enc_byte (by omega))) hqb
      obtain ⟨f6, c6, rfl, S6, -⟩ := Sl.own o6 b6
      have B6 : Below w.heap.size w w6 := B5.trans (C6.mono B5.size)
      have l6 := enc_length (n := q.n) (by omega)
      clear CB o6 C6 B5 S5 K5 c1
      have CA := rat_any w6 so sn sc k ss (hS.below B6) hsn (by omega)
      rw [← HSX.out] at CA
      go_wp2_with fail
      refine CA.mono ?_
      rintro e w' ⟨ro, rn, rc, rfl, R1, hw'⟩
      obtain rfl := hw'.symm
      have hrn : rn = (SX.getD k []).length := R1.len.symm
      have hrn2 : rn ≤ 1000000000 := by omega
      have HRN : Hid (rn = (SX.getD k []).length) := hrn
      have hrb := R1.byte
      clear hrn CA
      have CB := rBytes_any w6 f6 ro _ c6 rn rc _ _ S6 R1 (by omega)
      go_wp2_with fail
      refine CB.mono ?_
      rintro e w7 ⟨v7, rfl, o7, C7⟩
      have b7 : Byt (formH L kn CX ++ formTo KX SX CX k ++ enc q.n ++ q.xs ++ enc rn ++ SX.getD k []) := Byt.append (Byt.append b6 (enc_byte (by omega))) hrb
      obtain ⟨f7, c7, rfl, S7, -⟩ := Sl.own o7 b7
      have B7 : Below w.heap.size w w7 := B6.trans (C7.mono B6.size)
      have l7 := enc_length (n := rn) (by omega)
      clear CB o7 C7 B6 S6 R1
      have CA := rat_any w7 co cn cc (k + 1) cs (hC.below B7) hcn (by omega)
      rw [← HCX.out] at CA
      have hkw1 : IntKind.i64.wrap ((k : Int) + 1) = ((k + 1 : Nat) : Int) := by
        simp [IntKind.wrap, IntKind.bits, IntKind.signed]
        omega
      go_wp2_with fail
      refine CA.mono ?_
      rintro e w' ⟨ro2, rn2, rc2, rfl, R2, hw'⟩
      obtain rfl := hw'.symm
      have hrn3 : rn2 = (CX.getD (k + 1) []).length := R2.len.symm
      have hrn4 : rn2 ≤ 1000000000 := by omega
      have HRN2 : Hid (rn2 = (CX.getD (k + 1) []).length) := hrn3
      have hrb2 := R2.byte
      clear hrn3 CA
      have CB := rBytes_any w7 f7 ro2 _ c7 rn2 rc2 _ _ S7 R2 (by omega)
      go_wp2_with fail
      refine CB.mono ?_
      rintro e w8 ⟨v8, rfl, o8, C8⟩
      have b8 : Byt (formH L kn CX ++ formTo KX SX CX k ++ enc q.n ++ q.xs ++ enc rn ++ SX.getD k [] ++ enc rn2 ++ CX.getD (k + 1) []) := Byt.append (Byt.append b7 (enc_byte (by omega))) hrb2
      obtain ⟨f8, c8, rfl, S8, -⟩ := Sl.own o8 b8
      have B8 : Below w.heap.size w w8 := B7.trans (C8.mono B7.size)
      clear CB o8 C8 B7 S7 R2 hkw1
      have HX : Hid (formH L kn CX ++ formTo KX SX CX k ++ enc q.n ++ q.xs ++ enc rn ++ SX.getD k [] ++ enc rn2 ++ CX.getD (k + 1) [] = formH L kn CX ++ formTo KX SX CX (k + 1)) := by
        show _ = _
        rw [HFS.out, HQN.out, HRN.out, HRN2.out, ← HG.out]
        simp only [bf, List.append_assoc]
      have HY : Hid ((formH L kn CX).length + (formTo KX SX CX k).length + (enc q.n).length + q.n + (enc rn).length + rn + (enc rn2).length + rn2 = (formH L kn CX).length + (formTo KX SX CX (k + 1)).length) := by
        show _ = _
        rw [HFS.out]
        simp only [bf, List.length_append, ← HQN.out, ← HRN.out, ← HRN2.out]
        omega
      go_wp2_with fail
      go_roundw
      case rel =>
        refine ⟨k + 1, f8, c8, by omega, by go_num, by rw [HY.out], B8, ?_⟩
        rw [HX.out, HY.out] at S8
        exact S8
      case measure => simp [intOf]; omega
    · have hge : (kn : Int) ≤ (k : Int) := by omega
      obtain rfl : k = kn := by omega
      have HY : Hid ((formH L k CX).length + (formTo KX SX CX k).length = FN.length) := by show _ = _; rw [HF.out, List.length_append]
      rw [← HF.out, HY.out] at S5
      go_wp2
      go_ret
      refine ⟨fo, fc, ?_, S5, B5⟩
      show Ending.returned (.slice fo ((formH L k CX).length + (formTo KX SX CX k).length) fc) = _
      rw [HY.out]
end Go.Proofs.YtmedheecimglkaaDoor

namespace Go.Proofs.YtmedheecimglkaaDoor
open Go.RowKit

theorem getD_len {l : List (List Int)} {B : Nat} (h : ∀ x ∈ l, x.length ≤ B) (i : Nat) : (l.getD i []).length ≤ B := by
  by_cases hi : i < l.length
  · simp only [List.getD, List.getElem?_eq_getElem hi, Option.getD_some]
    exact h _ (List.getElem_mem hi)
  · simp [List.getD, List.getElem?_eq_none (Nat.le_of_not_lt hi)]
theorem bf_len {x : List Int} {B : Nat} (h : x.length ≤ B) (hB : B < 18446744073709551616) : (bf x).length ≤ B + 10 := by
  have := enc_length (n := x.length) (by omega)
  simp only [bf, List.length_append]
  omega
theorem formTo_len {keys sums kids : List (List Int)} {B : Nat} (hB : B < 18446744073709551616) (h1 : ∀ x ∈ keys, x.length ≤ B) (h2 : ∀ x ∈ sums, x.length ≤ B) (h3 : ∀ x ∈ kids, x.length ≤ B) : ∀ n, (formTo keys sums kids n).length ≤ n * (3 * (B + 10))
  | 0 => by simp [formTo]
  | n + 1 => by
    have ih := formTo_len hB h1 h2 h3 n
    have e1 := bf_len (getD_len h1 n) hB
    have e2 := bf_len (getD_len h2 n) hB
    have e3 := bf_len (getD_len h3 (n + 1)) hB
    rw [formTo_succ, Nat.succ_mul]
    simp only [List.length_append]
    omega
theorem formN_len {keys sums kids : List (List Int)} {B L : Nat} (hB : B < 18446744073709551616) (hL : L < 18446744073709551616) (hk : keys.length < 18446744073709551616) (h1 : ∀ x ∈ keys, x.length ≤ B) (h2 : ∀ x ∈ sums, x.length ≤ B) (h3 : ∀ x ∈ kids, x.length ≤ B) :
    (formN L keys sums kids).length ≤ 60 + B + keys.length * (3 * (B + 10)) := by
  have e1 := formTo_len hB h1 h2 h3 keys.length
  have e2 := bf_len (getD_len h3 0) hB
  have e3 := enc_length (n := L) hL
  have e4 := enc_length (n := keys.length) hk
  have e5 : (bf nodeL).length ≤ 14 := bf_len (B := 4) (by decide) (by decide)
  simp only [formN, formH, List.length_append]
  omega
theorem formTo_byte {keys sums kids : List (List Int)} {B : Nat} (hB : B < 18446744073709551616) (h1 : ∀ x ∈ keys, x.length ≤ B ∧ Byt x) (h2 : ∀ x ∈ sums, x.length ≤ B ∧ Byt x) (h3 : ∀ x ∈ kids, x.length ≤ B ∧ Byt x) : ∀ n, Byt (formTo keys sums kids n)
  | 0 => by intro x hx; simp [formTo] at hx
  | n + 1 => by
    have key : ∀ (l : List (List Int)), (∀ x ∈ l, x.length ≤ B ∧ Byt x) → ∀ i, Byt (bf (l.getD i [])) := fun l hl i => bf_byte (getD_byte (fun x hx => (hl x hx).2) i) (by have := getD_len (fun x hx => (hl x hx).1) i; omega)
    rw [formTo_succ]
    exact (formTo_byte hB h1 h2 h3 n).append ((key _ h1 n).append ((key _ h2 n).append (key _ h3 (n + 1))))
theorem formN_byte {keys sums kids : List (List Int)} {B L : Nat} (hB : B < 18446744073709551616) (hL : L < 18446744073709551616) (hk : keys.length < 18446744073709551616) (h1 : ∀ x ∈ keys, x.length ≤ B ∧ Byt x) (h2 : ∀ x ∈ sums, x.length ≤ B ∧ Byt x) (h3 : ∀ x ∈ kids, x.length ≤ B ∧ Byt x) : Byt (formN L keys sums kids) := by
  have k0 : Byt (bf (kids.getD 0 [])) := bf_byte (getD_byte (fun x hx => (h3 x hx).2) 0) (by have := getD_len (fun x hx => (h3 x hx).1) 0; omega)
  unfold formN formH
  exact Byt.append (Byt.append (Byt.append (Byt.append (bf_byte nodeL_byte (by decide)) (enc_byte hL)) (enc_byte hk)) k0) (formTo_byte hB h1 h2 h3 _)
theorem pxs_byte {w : World} {ao : Option Addr} {n cap B : Nat} {ps : List Part} (h : PL w ao n cap ps) (hb : ∀ q ∈ ps, q.n ≤ B) : ∀ x ∈ pxs ps, x.length ≤ B ∧ Byt x := fun x hx => by
  obtain ⟨q, hq, rfl⟩ := List.mem_map.1 hx
  exact ⟨by rw [(h.sl q hq).len]; exact hb q hq, (h.sl q hq).byte⟩
theorem pxs_le {w : World} {ao : Option Addr} {n cap B : Nat} {ps : List Part} (h : PL w ao n cap ps) (hb : ∀ q ∈ ps, q.n ≤ B) : ∀ x ∈ pxs ps, x.length ≤ B := fun x hx => by
  obtain ⟨q, hq, rfl⟩ := List.mem_map.1 hx
  rw [(h.sl q hq).len]
  exact hb q hq

set_option maxHeartbeats 4000000 in
set_option maxRecDepth 100000 in
theorem treeLevels_any (w : World) (ao ko so co : Option Addr) (an ac kn kc sn sc cn cc : Nat) (level : Int) (xs : List Int) (ks ss cs : List Part) (hT : Tabs w) (hA : Sl w ao an ac xs) (hK : PL w ko kn kc ks) (hS : PL w so sn sc ss) (hC : PL w co cn cc cs)
    (hl1 : -9223372036854775808 ≤ level) (hl2 : level ≤ 9223372036854775807) (hk : ∀ q ∈ ks, q.n ≤ 1048576) (hs : ∀ q ∈ ss, q.n ≤ 1048576) (hc : ∀ q ∈ cs, q.n ≤ 1048576) (han : an ≤ 1048576) (hkn : kn ≤ 1048576) (hsn : sn ≤ 1048576) (hcn : cn ≤ 1048576) :
    Calls Tryd.prog 4 #[.slice ao an ac, .int .i64 level, .slice ko kn kc, .slice so sn sc, .slice co cn cc] w fun e w' => e = .returned (.bool true) ∧ Below w.heap.size w w' := by
  have h2 := hT.two
  have hkl := hK.len
  have AL : ∀ W, Below w.heap.size w W → Calls Tryd.prog 9 #[] W fun e w' => e = .returned (.bool true) ∧ Below W.heap.size W w' := fun W hW => alive7 W (hT.below hW h2)
  by_cases g1 : 1000 < an
  · have g1' : (1000 : Int) < (an : Int) := by omega
    go_enter Tryd.func4, Tryd.ntmps4
    go_wp2_with (go_at_call 9; refine (AL w (Below.refl _ _)).mono ?_; rintro e wz ⟨rfl, Cz⟩)
    go_ret
    exact ⟨rfl, Cz⟩
  have g1' : ¬ (1000 : Int) < (an : Int) := by omega
  by_cases g2 : level < 0
  · go_enter Tryd.func4, Tryd.ntmps4
    go_wp2_with (go_at_call 9; refine (AL w (Below.refl _ _)).mono ?_; rintro e wz ⟨rfl, Cz⟩)
    go_ret
    exact ⟨rfl, Cz⟩
  by_cases g3 : 20 < kn
  · have g3' : (20 : Int) < (kn : Int) := by omega
    go_enter Tryd.func4, Tryd.ntmps4
    go_wp2_with (go_at_call 9; refine (AL w (Below.refl _ _)).mono ?_; rintro e wz ⟨rfl, Cz⟩)
    go_ret
    exact ⟨rfl, Cz⟩
  have g3' : ¬ (20 : Int) < (kn : Int) := by omega
  by_cases g4 : 30 < sn
  · have g4' : (30 : Int) < (sn : Int) := by omega
    go_enter Tryd.func4, Tryd.ntmps4
    go_wp2_with (go_at_call 9; refine (AL w (Below.refl _ _)).mono ?_; rintro e wz ⟨rfl, Cz⟩)
    go_ret
    exact ⟨rfl, Cz⟩
  have g4' : ¬ (30 : Int) < (sn : Int) := by omega
  by_cases g5 : 30 < cn
  · have g5' : (30 : Int) < (cn : Int) := by omega
    go_enter Tryd.func4, Tryd.ntmps4
    go_wp2_with (go_at_call 9; refine (AL w (Below.refl _ _)).mono ?_; rintro e wz ⟨rfl, Cz⟩)
    go_ret
    exact ⟨rfl, Cz⟩
  have g5' : ¬ (30 : Int) < (cn : Int) := by omega
  obtain ⟨L, rfl⟩ : ∃ L : Nat, level = L := ⟨level.toNat, by omega⟩
  have hF : (formN L (pxs ks) (pxs ss) (pxs cs)).length ≤ 1000000000 := by
    have := formN_len (B := 1048576) (L := L) (by decide) (by omega) (by rw [pxs_len]; omega) (pxs_le hK hk) (pxs_le hS hs) (pxs_le hC hc)
    rw [pxs_len, hkl] at this
    have h3 : kn * (3 * (1048576 + 10)) ≤ 20 * (3 * (1048576 + 10)) := Nat.mul_le_mul_right _ (by omega)
    omega
  have hFb : Byt (formN L (pxs ks) (pxs ss) (pxs cs)) := formN_byte (B := 1048576) (by decide) (by omega) (by rw [pxs_len]; omega) (pxs_byte hK hk) (pxs_byte hS hs) (pxs_byte hC hc)
  go_enter Tryd.func4, Tryd.ntmps4
  go_wp2_with fail
  go_loopw [11] (fun i wr => ∃ k : Nat, k ≤ kn ∧ i = .int .i64 k ∧ wr = w) (fun i _ => kn - (intOf i).toNat)
  case atStart => exact ⟨0, Nat.zero_le _, rfl, rfl⟩
  case round =>
    obtain ⟨k, hkk, rfl, rfl⟩ := hrel
    by_cases hlt : k < kn
    · have hki : (k : Int) < (kn : Int) := by omega
      have hkl2 : k < ks.length := by omega
      obtain ⟨ab, aof, rfl, hcc⟩ := hK.at (by omega)
      have c1 := hcc k hkl2
      have hq := hk ks[k] (List.getElem_mem hkl2)
      obtain ⟨q, hqe⟩ : ∃ q, q = ks[k] := ⟨_, rfl⟩
      rw [← hqe] at c1 hq
      unfold Part.val at c1
      clear hcc hqe
      by_cases g6 : 200 < q.n
      · have g6' : (200 : Int) < (q.n : Int) := by omega
        go_wp2_with (go_at_call 9; refine (AL wr (Below.refl _ _)).mono ?_; rintro e wz ⟨rfl, Cz⟩)
        go_ret
        exact ⟨rfl, Cz⟩
      · have g6' : ¬ (200 : Int) < (q.n : Int) := by omega
        go_wp2
        go_roundw
        case rel => exact ⟨k + 1, by omega, by go_num, trivial⟩
        case measure => simp [intOf]; omega
    · have hge : ¬ (k : Int) < (kn : Int) := by omega
      have C1 := level_any wr ao an ac xs hT hA (by omega)
      go_wp2_with fail
      refine C1.mono ?_
      rintro e w1 ⟨rfl, B1⟩
      clear C1
      have C2 := rlevel_any w1 ao an ac xs (hA.below B1) (by omega)
      go_wp2_with fail
      refine C2.mono ?_
      rintro e w2 ⟨rfl, D2⟩
      have B2 := B1.trans (D2.mono B1.size)
      clear C2 D2 B1
      have C3 := form_any w2 L ko so co kn kc sn sc cn cc ks ss cs (hK.below B2) (hS.below B2) (hC.below B2) (by omega) (by omega) (by omega) (by omega) hF
      go_wp2_with fail
      refine C3.mono ?_
      rintro e w3 ⟨v3, rfl, o3, D3⟩
      obtain ⟨fo, fc, rfl, S3, -⟩ := Sl.own o3 hFb
      have B3 := B2.trans (D3.mono B2.size)
      clear C3 D3 B2 o3
      have C4 := rform7_any w3 L ko so co kn kc sn sc cn cc ks ss cs (hK.below B3) (hS.below B3) (hC.below B3) (by omega) (by omega) (by omega) (by omega) hF
      go_wp2_with fail
      refine C4.mono ?_
      rintro e w4 ⟨ro, rc, rfl, S4, D4⟩
      have B4 := B3.trans (D4.mono B3.size)
      have S3 := S3.below D4
      clear C4 D4 B3
      have C5 := same_any w4 fo ro _ fc _ rc _ _ S3 S4
      rw [decide_eq_true rfl] at C5
      go_wp2_with fail
      refine C5.mono ?_
      rintro e w5 ⟨rfl, q5, rfl⟩
      have B5 := B4.trans ((below_drewN w4 q5 w4.heap.size).mono B4.size)
      clear C5 S3 S4 B4
      go_wp2_with (go_at_call 9; refine (AL _ B5).mono ?_; rintro e wz ⟨rfl, Cz⟩)
      go_ret
      exact ⟨rfl, B5.trans (Cz.mono B5.size)⟩
end Go.Proofs.YtmedheecimglkaaDoor

namespace Go.Proofs.YtmedheecimglkaaDoor
open Go.RowKit

theorem bulk_pos {H : Type} : ∀ d : DataW H, 0 < Rows.uptoBulk d
  | .lit (.string _) => by simp only [Rows.uptoBulk]; omega
  | .lit (.bool _) | .lit (.int _ _) | .lit (.float _ _) | .lit .nil => by simp only [Rows.uptoBulk]; omega
  | .nil | .held _ => by simp only [Rows.uptoBulk]; omega
  | .ptr _ | .slice _ _ | .agg _ | .iface _ _ | .map _ => by simp only [Rows.uptoBulk]; omega

theorem bulk_mem {H : Type} {d : DataW H} : ∀ {l : List (DataW H)}, d ∈ l → Rows.uptoBulk d ≤ Rows.uptoBulkAll l
  | x :: r, h => by
    rw [Rows.uptoBulkAll]
    rcases List.mem_cons.1 h with rfl | h
    · omega
    · have := bulk_mem h
      omega

theorem bulk_long {H : Type} : ∀ l : List (DataW H), l.length ≤ Rows.uptoBulkAll l
  | [] => by simp
  | x :: r => by
    have h1 := bulk_long r
    have h2 := bulk_pos x
    rw [Rows.uptoBulkAll, List.length_cons]
    omega

theorem bulk_row {H : Type} {es sp : List (DataW H)} {n : Nat} (h : es.length = n) : n ≤ Rows.uptoBulk (DataW.slice es sp) := by
  have := bulk_long es
  rw [Rows.uptoBulk]
  omega
theorem bulk_elem {H : Type} {es sp : List (DataW H)} {d : DataW H} (h : d ∈ es) : Rows.uptoBulk d ≤ Rows.uptoBulk (DataW.slice es sp) := by
  have := bulk_mem h
  rw [Rows.uptoBulk]
  omega
theorem bulk_small {H : Type} {l : List (DataW H)} (h : Rows.uptoSmall H l = true) {d : DataW H} (hd : d ∈ l) : Rows.uptoBulk d ≤ 1048576 :=
  Nat.le_trans (bulk_mem hd) (of_decide_eq_true h)

theorem PL.makeP {w : World} {a : Addr} {n cap : Nat} {Q : Part → Prop} (hl : n ≤ cap) (hm : cap ≤ maxLen) (h : ∀ i, i < n → ∃ q : Part, w.cell? (a.add i) = some q.val ∧ Sl w q.ao q.n q.cap q.xs ∧ Q q) : ∃ ps, PL w (some a) n cap ps ∧ ∀ q ∈ ps, Q q := by
  have : Inhabited Part := ⟨⟨none, 0, 0, []⟩⟩
  obtain ⟨z, hz⟩ := Deep.choose_lt h
  refine ⟨(List.range n).map z, ⟨by simp, hl, hm, fun h => by simp at h, fun b hb i hi => ?_, fun q hq => ?_⟩, fun q hq => ?_⟩
  · obtain rfl := Option.some.inj hb
    have hi' : i < n := by simpa using hi
    simpa using (hz i hi').1
  · obtain ⟨i, hi, rfl⟩ := List.mem_map.1 hq
    exact (hz i (List.mem_range.1 hi)).2.1
  · obtain ⟨i, hi, rfl⟩ := List.mem_map.1 hq
    exact (hz i (List.mem_range.1 hi)).2.2

end Go.Proofs.YtmedheecimglkaaDoor

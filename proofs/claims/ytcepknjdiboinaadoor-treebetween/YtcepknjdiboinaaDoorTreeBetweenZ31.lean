/-
  Texts in one: PItems, RSmall7, CText, CBelow, RItems7, RMem7, RDel7, RPut7.
-/
import Derived.Test.YtcepknjdiboinaaDoorTreeBetweenZ30
import Derived.Test.YtcepknjdiboinaaDoorTreeBetweenZ7
import Derived.Test.YtcepknjdiboinaaDoorTreeBetweenZ20
import Derived.Test.YtcepknjdiboinaaDoorTreeBetweenZ4
import Derived.Test.YtcepknjdiboinaaDoorTreeBetweenZ26
namespace Go.Proofs.YtcepknjdiboinaaDoor
open Go.RowKit

/-- The items from a key on, below another one. -/
def btw (a b : List Int) (l : List It) : List It := (ge a l).filter fun x => decide (cmpL x.k b < 0)
theorem Srt.ofGe {l : List It} (h : Srt l) (k : List Int) : Srt (ge k l) := List.Pairwise.filter _ h
theorem low_all {F : List It} {b : List Int} (h : ∀ x ∈ F, cmpL x.k b < 0) : (F.filter fun x => decide (cmpL x.k b < 0)) = F := List.filter_eq_self.2 fun x hx => decide_eq_true (h x hx)
theorem low_stop {F pre post : List It} {x : It} {b : List Int} (hs : Srt F) (e : pre ++ x :: post = F) (h : ∀ z ∈ pre, cmpL z.k b < 0) (hx : ¬ cmpL x.k b < 0) : (F.filter fun x => decide (cmpL x.k b < 0)) = pre := by
  subst e
  have h2 : ∀ z ∈ x :: post, ¬ cmpL z.k b < 0 := fun z hz => by
    rcases List.mem_cons.1 hz with rfl | hz
    · exact hx
    · intro hlt
      exact hx (cmpL_lt_trans _ _ _ (hs.app.2.1.cons.1 z hz) hlt)
  rw [List.filter_append, low_all h, List.filter_eq_nil_iff.2 fun z hz => by simpa using h2 z hz, List.append_nil]
theorem low_go {F pre post : List It} {x : It} {b : List Int} (e : pre ++ x :: post = F) (h : ∀ z ∈ pre, cmpL z.k b < 0) (hx : cmpL x.k b < 0) : ∃ r, (F.filter fun x => decide (cmpL x.k b < 0)) = pre ++ x :: r := by
  subst e
  refine ⟨post.filter fun x => decide (cmpL x.k b < 0), ?_⟩
  rw [List.filter_append, low_all h, List.filter_cons, if_pos (by simpa using hx)]

theorem belowDrewN {B : Nat} {a w : World} (h : Below B a w) (q : Nat) : Below B a (w.drewN q) := ⟨h.os, h.tape, h.output, h.size, h.block⟩
/-- What Items answers. -/
def ItemsPost (w : World) (l : List It) (a b : List Int) (m : Int) (e : Ending) (w' : World) : Prop := ∃ ao n cap ps t, e = .returned (.tuple #[.slice ao n cap, .bool t]) ∧ IL w' ao n cap ps ∧ ps.map IP.it = (btw a b l).take m.toNat ∧ t = decide (m.toNat < (btw a b l).length) ∧ Below w.heap.size w w'

set_option maxHeartbeats 4000000 in
set_option maxRecDepth 100000 in
theorem titems_any (w : World) (v : Value) (l : List It) (lo hi : List Int) (xo ho : Option Addr) (xn xc hn hc : Nat) (m : Int) (h : TT w v l) (hs : Srt l) (hx : Sl w xo xn xc lo) (hh : Sl w ho hn hc hi) (hl : l.length ≤ 50000) (hsz : ∀ x ∈ l, x.k.length ≤ 1000000 ∧ x.v.length ≤ 1000000) :
    Calls Tryd.prog 18 #[v, .slice xo xn xc, .slice ho hn hc, .int .i64 m] w (ItemsPost w l lo hi m) := by
  obtain ⟨Wa, hWa⟩ : ∃ W, W = w.alloc (.cells #[.slice ho hn hc] 23) := ⟨_, rfl⟩
  obtain ⟨Wb, hWb⟩ : ∃ W, W = Wa.alloc (.cells #[.int .i64 m] 3) := ⟨_, rfl⟩
  obtain ⟨Wc, hWc⟩ : ∃ W, W = Wb.alloc (.cells #[.slice none 0 0] 26) := ⟨_, rfl⟩
  obtain ⟨Wd, hWd⟩ : ∃ W, W = Wc.alloc (.cells #[.bool false] 4) := ⟨_, rfl⟩
  have Ba : Below w.heap.size w Wa := by rw [hWa]; exact (Below.refl _ w).alloc (Nat.le_refl _) _
  have Bb : Below Wa.heap.size Wa Wb := by rw [hWb]; exact (Below.refl _ Wa).alloc (Nat.le_refl _) _
  have Bc : Below Wb.heap.size Wb Wc := by rw [hWc]; exact (Below.refl _ Wb).alloc (Nat.le_refl _) _
  have Bd : Below Wc.heap.size Wc Wd := by rw [hWd]; exact (Below.refl _ Wc).alloc (Nat.le_refl _) _
  have sa : Wa.heap.size = w.heap.size + 1 := by rw [hWa]; exact Array.size_push ..
  have sb : Wb.heap.size = w.heap.size + 2 := by rw [hWb]; exact (Array.size_push ..).trans (by rw [sa])
  have sc : Wc.heap.size = w.heap.size + 3 := by rw [hWc]; exact (Array.size_push ..).trans (by rw [sb])
  have A1 : Arr Wa w.heap.size 23 [.slice ho hn hc] := by rw [hWa]; exact heap_alloc_new w _
  have A2 : Arr Wb (w.heap.size + 1) 3 [.int .i64 m] := by rw [hWb, ← sa]; exact heap_alloc_new Wa _
  have A3 : Arr Wc (w.heap.size + 2) 26 [.slice none 0 0] := by rw [hWc, ← sb]; exact heap_alloc_new Wb _
  have A4 : Arr Wd (w.heap.size + 3) 4 [.bool false] := by rw [hWd, ← sc]; exact heap_alloc_new Wc _
  have A3 := arr_below A3 Bd
  have A2 := arr_below (arr_below A2 Bc) Bd
  have A1 := arr_below (arr_below (arr_below A1 Bb) Bc) Bd
  have B0 : Below w.heap.size w Wd := ((Ba.trans (Bb.mono Ba.size)).trans (Bc.mono (by omega))).trans (Bd.mono (by omega))
  have L0 : LI Wd (w.heap.size + 2) w.heap.size [] (.slice none 0 0) [] := ⟨A3, World.ownsRow_nil Wd _ _ 2, rfl, fun _ h => by simp at h⟩
  have CS := shared_at w Wd v l h B0
  obtain ⟨po, rfl⟩ := h.ptr
  clear Ba Bb Bc Bd sa sb sc A3
  go_enter Tryd.func18, Tryd.ntmps18
  go_wp2_with fail
  rw [← hWa, ← hWb, ← hWc, ← hWd]
  clear hWa hWb hWc hWd
  refine CS.mono ?_
  rintro e w1 ⟨q, rfl, hT, hw1⟩
  obtain rfl := hw1.symm
  clear CS
  have CW := walk_fuel w 43 #[.pointer (some ⟨w.heap.size, 0, none⟩), .pointer (some ⟨w.heap.size + 2, 0, none⟩), .pointer (some ⟨w.heap.size + 1, 0, none⟩), .pointer (some ⟨w.heap.size + 3, 0, none⟩)] (enters_of Tryd.func43 (by kernel_rfl) rfl)
    (ItI w w.heap.size (.slice ho hn hc) m hi) (ItS w w.heap.size m hi (ge lo l)) (fun x => x.k.length ≤ 1000000 ∧ x.v.length ≤ 1000000) (ge lo l)
    (fun _ _ h => h.1) (fun _ h => h.1) (fun pre W W' h hb => h.below hb) lo xo xn xc hx
    (fun pre W k y x hI hok hF _ hk hy sk sy => itm_any w w.heap.size ho hn hc m hi (ge lo l) pre W k y x rfl hh hI hF hk hy sk sy (by rw [← sk.len, hk]; exact hok.1) (by rw [← sy.len, hy]; exact hok.2) (by
      obtain ⟨post, e⟩ := hF
      have := congrArg List.length e
      have h2 := List.length_filter_le (fun x : It => decide (¬ cmpL x.k lo < 0)) l
      have h3 : (ge lo l).length ≤ l.length := h2
      simp only [List.length_append, List.length_cons] at this
      omega))
    l.length l (.pointer q) [] [] Wd (Nat.le_refl _) (by simp) hT hs hsz (by omega) ⟨B0, A1, A2, A4, ⟨_, _, L0⟩, fun _ h => by simp at h, Nat.zero_le _, Nat.zero_le _⟩
  rw [List.nil_append] at CW
  clear hT A1 A2 A4 L0
  go_wp2_with fail
  refine CW.mono ?_
  clear CW
  rintro e w2 (⟨rfl, hb, -, -, a4, ⟨u, ps, L⟩, hlow, hlen, -⟩ | ⟨rfl, hb, t, pre, x, post, e, a4, ⟨u, ps, L⟩, hlow, hlen, hd⟩)
  · obtain ⟨ao, cap, rfl, hI⟩ := L.slice
    have c3 : w2.cell? ⟨w.heap.size + 1 + 1, 0, none⟩ = some (.slice ao ps.length cap) := L.arr.cell 0
    have c4 : w2.cell? ⟨w.heap.size + 1 + 1 + 1, 0, none⟩ = some (.bool false) := a4.cell 0
    have E := low_all hlow
    have HE : Hid (btw lo hi l = ge lo l) := E
    clear E
    go_wp2_with fail
    go_quiet (fail)
    go_wp2
    go_ret2
    refine ⟨ao, ps.length, cap, ps, false, rfl, hI.below (belowDrewN (Below.refl _ w2) _), ?_, ?_, belowDrewN hb _⟩
    · rw [L.its, HE.out, List.take_of_length_le hlen]
    · rw [HE.out]
      exact (decide_eq_false (by omega)).symm
  · obtain ⟨ao, cap, rfl, hI⟩ := L.slice
    have c3 : w2.cell? ⟨w.heap.size + 1 + 1, 0, none⟩ = some (.slice ao ps.length cap) := L.arr.cell 0
    have c4 : w2.cell? ⟨w.heap.size + 1 + 1 + 1, 0, none⟩ = some (.bool t) := a4.cell 0
    have HE : Hid ((btw lo hi l).take m.toNat = pre ∧ t = decide (m.toNat < (btw lo hi l).length)) := by
      rcases hd with ⟨rfl, hx⟩ | ⟨rfl, hx, hm⟩
      · have E : btw lo hi l = pre := low_stop (hs.ofGe lo) e hlow hx
        exact ⟨by rw [E, List.take_of_length_le hlen], by rw [E]; exact (decide_eq_false (by omega)).symm⟩
      · obtain ⟨r, E⟩ := low_go e hlow hx
        have E : btw lo hi l = pre ++ x :: r := E
        have hml : m.toNat = pre.length := by omega
        exact ⟨by rw [E, hml, List.take_left'  rfl], by rw [E, hml]; exact (decide_eq_true (by simp)).symm⟩
    clear hd e hlow
    go_wp2_with fail
    go_quiet (fail)
    go_wp2
    go_ret2
    exact ⟨ao, ps.length, cap, ps, t, rfl, hI.below (belowDrewN (Below.refl _ w2) _), by rw [L.its]; exact HE.out.1.symm, HE.out.2, belowDrewN hb _⟩
end Go.Proofs.YtcepknjdiboinaaDoor

namespace Go.Proofs.YtcepknjdiboinaaDoor
open Go.RowKit

/-- Few and short. -/
def ligQ (q : IP) : Bool := decide (q.k.n ≤ 300) && decide (q.v.n ≤ 1100)
def ligB (its : List IP) (m : Int) : Bool := decide ((its.length : Int) ≤ m) && its.all ligQ

set_option maxHeartbeats 1000000 in
set_option maxRecDepth 100000 in
theorem light7_any (w : World) (ao : Option Addr) (n cap : Nat) (its : List IP) (m : Int) (h : IL w ao n cap its) :
    Calls Tryd.prog 27 #[.slice ao n cap, .int .i64 m] w fun e w' => e = .returned (.bool (ligB its m)) ∧ w' = w := by
  have hl1 := Nat.le_of_eq h.len
  have hl2 := Nat.le_of_eq h.len.symm
  have hmx := h.mx
  have hle := h.le
  have hnx : (n : Int) ≤ 9223372036854775807 := by unfold maxLen at hmx; omega
  by_cases hm : (n : Int) > m
  · have HR : Hid (ligB its m = false) := by show _ = _; simp only [ligB, Bool.and_eq_false_imp]; intro e; have := of_decide_eq_true e; omega
    go_enter Tryd.func27, Tryd.ntmps27
    go_wp2
    go_ret
    rw [HR.out]
    exact ⟨rfl, rfl⟩
  go_enter Tryd.func27, Tryd.ntmps27
  go_wp2
  go_loopw [5] (fun i wr => ∃ k : Nat, k ≤ n ∧ i = .int .i64 k ∧ (∀ q ∈ its.take k, ligQ q = true) ∧ w = wr) (fun i _ => n - (intOf i).toNat)
  case atStart => exact ⟨0, Nat.zero_le _, rfl, by simp, rfl⟩
  case round =>
    obtain ⟨k, hk, rfl, hj, rfl⟩ := hrel
    have HJ : Hid (∀ q ∈ its.take k, ligQ q = true) := hj
    clear hj
    by_cases hlt : k < n
    · have hki : (k : Int) < (n : Int) := by omega
      have hkl : k < its.length := by omega
      obtain ⟨b, off, rfl, hc⟩ := h.at (by omega)
      obtain ⟨c1, c2⟩ := hc k hkl
      have HM : Hid (its[k] ∈ its) := List.getElem_mem hkl
      have HT : Hid (its.take (k + 1) = its.take k ++ [its[k]]) := List.take_succ_eq_append_getElem hkl
      obtain ⟨q, hqe⟩ : ∃ q, q = its[k] := ⟨_, rfl⟩
      rw [← hqe] at c1 c2 HM HT
      unfold Part.val at c1 c2
      clear hc hqe
      have bad : ligQ q = false → ligB its m = false := fun e => by
        simp only [ligB, Bool.and_eq_false_imp]
        intro _
        rw [List.all_eq_false]
        exact ⟨q, HM.out, by simp [e]⟩
      have BAD : Hid (ligQ q = false → ligB its m = false) := bad
      clear bad
      by_cases h1 : 300 < q.k.n
      · have h1' : (q.k.n : Int) > 300 := by omega
        have HR : Hid (ligB its m = false) := BAD.out (by simp [ligQ]; omega)
        go_wp2
        go_ret
        rw [HR.out]
        exact ⟨rfl, rfl⟩
      have h1' : ¬ (q.k.n : Int) > 300 := by omega
      by_cases h2 : 1100 < q.v.n
      · have h2' : (q.v.n : Int) > 1100 := by omega
        have HR : Hid (ligB its m = false) := BAD.out (by simp [ligQ]; omega)
        go_wp2
        go_ret
        rw [HR.out]
        exact ⟨rfl, rfl⟩
      have h2' : ¬ (q.v.n : Int) > 1100 := by omega
      go_wp2
      go_roundw
      case rel =>
        refine ⟨k + 1, by omega, by go_num, fun r hr => ?_, by first | rfl | trivial⟩
        rw [HT.out] at hr
        rcases List.mem_append.1 hr with hr | hr
        · exact HJ.out r hr
        · rw [List.mem_singleton.1 hr]
          simp [ligQ]
          omega
      case measure => simp [intOf]; omega
    · have hge : ¬ (k : Int) < (n : Int) := by omega
      have HR : Hid (ligB its m = true) := by
        show _ = _
        simp only [ligB, Bool.and_eq_true]
        refine ⟨decide_eq_true (by omega), List.all_eq_true.2 fun q hq => HJ.out q ?_⟩
        rw [List.take_of_length_le (by omega)]
        exact hq
      go_wp2
      go_ret
      rw [HR.out]
      exact ⟨rfl, rfl⟩

/-- What stands against an item. -/
def askK (n m : Nat) : Int := if badK n then 5 else if 1024 < m then 4 else 0
set_option maxHeartbeats 1000000 in
theorem asked7_any (w : World) (ao bo : Option Addr) (n cap m c : Nat) : Calls Tryd.prog 10 #[.slice ao n cap, .slice bo m c] w fun e w' => e = .returned (.int .i64 (askK n m)) ∧ w' = w := by
  by_cases h1 : n < 1
  · have h1' : (n : Int) < 1 := by omega
    have HR : Hid (askK n m = 5) := by show _ = _; rw [askK, if_pos (by simp [badK]; omega)]
    go_enter Tryd.func10, Tryd.ntmps10
    go_wp2
    go_ret
    rw [HR.out]
    exact ⟨rfl, rfl⟩
  have h1' : ¬ (n : Int) < 1 := by omega
  by_cases h2 : 256 < n
  · have h2' : (n : Int) > 256 := by omega
    have HR : Hid (askK n m = 5) := by show _ = _; rw [askK, if_pos (by simp [badK]; omega)]
    go_enter Tryd.func10, Tryd.ntmps10
    go_wp2
    go_ret
    rw [HR.out]
    exact ⟨rfl, rfl⟩
  have h2' : ¬ (n : Int) > 256 := by omega
  have HB : Hid (badK n = false) := by show _ = _; simp [badK]; omega
  by_cases h3 : 1024 < m
  · have h3' : (m : Int) > 1024 := by omega
    have HR : Hid (askK n m = 4) := by show _ = _; rw [askK, HB.out, if_neg (by decide), if_pos h3]
    clear h3
    go_enter Tryd.func10, Tryd.ntmps10
    go_wp2
    go_ret
    rw [HR.out]
    exact ⟨rfl, rfl⟩
  · have h3' : ¬ (m : Int) > 1024 := by omega
    have HR : Hid (askK n m = 0) := by show _ = _; rw [askK, HB.out, if_neg (by decide), if_neg h3]
    clear h3
    go_enter Tryd.func10, Tryd.ntmps10
    go_wp2
    go_ret
    rw [HR.out]
    exact ⟨rfl, rfl⟩

/-- Where a key is, or -1. -/
def FindPost (its : List IP) (key : List Int) (r : Int) : Prop := (r = -1 ∧ ∀ q ∈ its, q.k.xs ≠ key) ∨ ∃ (k : Nat) (h : k < its.length), r = k ∧ its[k].k.xs = key ∧ ∀ q ∈ its.take k, q.k.xs ≠ key

set_option maxHeartbeats 1000000 in
set_option maxRecDepth 100000 in
theorem rfind7_any (w : World) (ao : Option Addr) (n cap : Nat) (its : List IP) (ko : Option Addr) (kn kc : Nat) (key : List Int) (h : IL w ao n cap its) (hk : Sl w ko kn kc key) :
    Calls Tryd.prog 14 #[.slice ao n cap, .slice ko kn kc] w fun e w' => ∃ r, e = .returned (.int .i64 r) ∧ FindPost its key r ∧ Below w.heap.size w w' := by
  have hl1 := Nat.le_of_eq h.len
  have hl2 := Nat.le_of_eq h.len.symm
  have hmx := h.mx
  have hle := h.le
  have hnx : (n : Int) ≤ 9223372036854775807 := by unfold maxLen at hmx; omega
  go_enter Tryd.func14, Tryd.ntmps14
  go_wp2
  go_loopw [5] (fun i wr => ∃ k : Nat, k ≤ n ∧ i = .int .i64 k ∧ (∀ q ∈ its.take k, q.k.xs ≠ key) ∧ Below w.heap.size w wr) (fun i _ => n - (intOf i).toNat)
  case atStart => exact ⟨0, Nat.zero_le _, rfl, by simp, Below.refl _ _⟩
  case round =>
    obtain ⟨k, hkn, rfl, hj, hB⟩ := hrel
    have HJ : Hid (∀ q ∈ its.take k, q.k.xs ≠ key) := hj
    clear hj
    by_cases hlt : k < n
    · have hki : (k : Int) < (n : Int) := by omega
      have hkl : k < its.length := by omega
      obtain ⟨b, off, rfl, hc⟩ := (h.below hB).at (by omega)
      obtain ⟨c1, c2⟩ := hc k hkl
      have S1 := ((h.below hB).sl its[k] (List.getElem_mem hkl)).1
      have CS := same_any wr its[k].k.ao ko its[k].k.n its[k].k.cap kn kc its[k].k.xs key S1 (hk.below hB)
      have HT : Hid (its.take (k + 1) = its.take k ++ [its[k]]) := List.take_succ_eq_append_getElem hkl
      unfold Part.val at c1 c2
      clear hc
      by_cases hq : its[k].k.xs = key
      · have hd : decide (its[k].k.xs = key) = true := decide_eq_true hq
        rw [hd] at CS
        have HQ : Hid (its[k].k.xs = key) := hq
        clear hd hq S1
        go_wp2_with fail
        refine CS.mono ?_
        rintro e w2 ⟨rfl, q, rfl⟩
        clear CS
        go_wp2
        go_ret
        exact ⟨_, rfl, .inr ⟨k, hkl, rfl, HQ.out, HJ.out⟩, hB.trans (below_drewN _ _ _)⟩
      · have hd : decide (its[k].k.xs = key) = false := decide_eq_false hq
        rw [hd] at CS
        have HQ : Hid (¬ its[k].k.xs = key) := hq
        clear hd hq S1
        go_wp2_with fail
        refine CS.mono ?_
        rintro e w2 ⟨rfl, q, rfl⟩
        clear CS
        go_wp2
        go_roundw
        case rel =>
          refine ⟨k + 1, by omega, by go_num, fun r hr => ?_, hB.trans (below_drewN _ _ _)⟩
          rw [HT.out] at hr
          rcases List.mem_append.1 hr with hr | hr
          · exact HJ.out r hr
          · rw [List.mem_singleton.1 hr]
            exact HQ.out
        case measure => simp [intOf]; omega
    · have hge : ¬ (k : Int) < (n : Int) := by omega
      go_wp2
      go_ret
      refine ⟨_, rfl, .inl ⟨rfl, fun q hq => HJ.out q ?_⟩, hB⟩
      rw [List.take_of_length_le (by omega)]
      exact hq
end Go.Proofs.YtcepknjdiboinaaDoor

namespace Go.Proofs.YtcepknjdiboinaaDoor
open Go.RowKit

set_option maxRecDepth 100000 in
set_option maxHeartbeats 2000000 in
theorem text_any (w : World) (s t : ByteArray) (hs : s.size ≤ maxLen) (ht : t.size ≤ maxLen) :
    Calls Tryd.prog 64 #[.string s, .string t] w fun e w' => e = .returned (.int .i64 (cmpL (sb s) (sb t))) ∧ Below w.heap.size w w' := by
  simp only [maxLen] at hs ht
  go_enter Tryd.func64, Tryd.ntmps64
  go_wp2_with fail
  go_loopw [5] (fun i wr => ∃ k : Nat, k ≤ s.size ∧ k ≤ t.size ∧ i = .int .i64 k ∧ Below w.heap.size w wr ∧ cmpL (sb s) (sb t) = cmpL ((sb s).drop k) ((sb t).drop k)) (fun i _ => s.size - (intOf i).toNat)
  case atStart => exact ⟨0, by omega, by omega, rfl, Below.refl _ _, rfl⟩
  case round =>
    obtain ⟨k, h1, h2, rfl, B, hc⟩ := hrel
    by_cases l1 : k < s.size
    · have i1 : (k : Int) < (s.size : Int) := by omega
      by_cases l2 : k < t.size
      · have i2 : (k : Int) < (t.size : Int) := by omega
        rw [sb_at s k l1, sb_at t k l2] at hc
        obtain ⟨x, hx⟩ : ∃ x : Nat, x = s[k].toNat := ⟨_, rfl⟩
        obtain ⟨y, hy⟩ : ∃ y : Nat, y = t[k].toNat := ⟨_, rfl⟩
        rw [← hx, ← hy] at hc
        have r1 : ∀ W : World, (Instr.index 9 (.string s) (.int .i64 k)).run Tryd.prog W = .ok (.int .u8 x) W := fun W => by
          rw [run_index_string W _ s _ _ Tryd.underlying9, dif_pos ⟨by omega, i1⟩, hx]
          rfl
        have r2 : ∀ W : World, (Instr.index 9 (.string t) (.int .i64 k)).run Tryd.prog W = .ok (.int .u8 y) W := fun W => by
          rw [run_index_string W _ t _ _ Tryd.underlying9, dif_pos ⟨by omega, i2⟩, hy]
          rfl
        clear hx hy
        by_cases e : x = y
        · subst e
          have hc' : Hid (cmpL (sb s) (sb t) = cmpL ((sb s).drop (k + 1)) ((sb t).drop (k + 1))) := by
            show _ = _
            rw [hc]
            rw [cmpL_cons, if_pos rfl]
          clear hc
          go_wp2_with fail
          go_quiet (fail)
          rename Nat => q
          go_wp2
          go_roundw
          case rel => exact ⟨k + 1, by omega, by omega, by go_num, belN B q, hc'.out⟩
          case measure => simp [intOf]; omega
        · have ne : ((x : Int) == (y : Int)) = false := by simp; omega
          have nn : ((x : Int) != (y : Int)) = true := by simp; omega
          by_cases l : x < y
          · have li : (x : Int) < (y : Int) := by omega
            have hc' : Hid (cmpL (sb s) (sb t) = -1) := by
              show _ = _
              rw [hc, cmpL_cons, if_neg (by omega), if_pos li]
            clear hc
            go_wp2_with fail
            go_quiet (fail)
            rename Nat => q
            go_wp2_with fail
            go_quiet (fail)
            rename Nat => q2
            go_wp2
            go_ret
            exact ⟨by rw [hc'.out] <;> rfl, belN (belN B q) q2⟩
          · have li : ¬ (x : Int) < (y : Int) := by omega
            have hc' : Hid (cmpL (sb s) (sb t) = 1) := by
              show _ = _
              rw [hc, cmpL_cons, if_neg (by omega), if_neg li]
            clear hc
            go_wp2_with fail
            go_quiet (fail)
            rename Nat => q
            go_wp2_with fail
            go_quiet (fail)
            rename Nat => q2
            go_wp2
            go_ret
            exact ⟨by rw [hc'.out] <;> rfl, belN (belN B q) q2⟩
      · have i2 : (t.size : Int) ≤ (k : Int) := by omega
        rw [sb_at s k l1, sb_end t k (by omega)] at hc
        have hc' : Hid (cmpL (sb s) (sb t) = 1) := hc
        clear hc
        have f1 : ((s.size : Int) == (t.size : Int)) = false := by simp; omega
        have f2 : ¬ (s.size : Int) < (t.size : Int) := by omega
        go_wp2
        go_ret
        exact ⟨by rw [hc'.out] <;> rfl, B⟩
    · have i1 : (s.size : Int) ≤ (k : Int) := by omega
      rw [sb_end s k (by omega)] at hc
      by_cases l2 : k < t.size
      · rw [sb_at t k l2] at hc
        have hc' : Hid (cmpL (sb s) (sb t) = -1) := hc
        clear hc
        have f1 : ((s.size : Int) == (t.size : Int)) = false := by simp; omega
        have f2 : (s.size : Int) < (t.size : Int) := by omega
        go_wp2
        go_ret
        exact ⟨by rw [hc'.out] <;> rfl, B⟩
      · rw [sb_end t k (by omega)] at hc
        have hc' : Hid (cmpL (sb s) (sb t) = 0) := hc
        clear hc
        have f1 : ((s.size : Int) == (t.size : Int)) = true := by simp; omega
        go_wp2
        go_ret
        exact ⟨by rw [hc'.out] <;> rfl, B⟩
end Go.Proofs.YtcepknjdiboinaaDoor

namespace Go.Proofs.YtcepknjdiboinaaDoor
open Go.RowKit

set_option maxHeartbeats 1000000 in
set_option maxRecDepth 100000 in
theorem rbelow_any (w : World) (ao bo : Option Addr) (n cap m cap2 : Nat) (xs ys : List Int) (h : Sl w ao n cap xs) (h2 : Sl w bo m cap2 ys) :
    Calls Tryd.prog 37 #[.slice ao n cap, .slice bo m cap2] w fun e w' => e = .returned (.bool (decide (cmpL xs ys < 0))) ∧ Below w.heap.size w w' := by
  have c1 := conv_str h
  have c2 := conv_str h2
  have hn := h.len
  have hm := h2.len
  have m1 := h.mx
  have m2 := h2.mx
  have l1 := h.le
  have l2 := h2.le
  go_enter Tryd.func37, Tryd.ntmps37
  go_wp2_with fail
  refine (text_any w (strOfNums xs) (strOfNums ys) (by rw [strOfNums_size]; omega) (by rw [strOfNums_size]; omega)).mono ?_
  rintro e w1 ⟨rfl, B⟩
  rw [sb_str h.byte, sb_str h2.byte]
  go_wp2
  go_ret
  exact ⟨rfl, B⟩
end Go.Proofs.YtcepknjdiboinaaDoor

namespace Go.Proofs.YtcepknjdiboinaaDoor
open Go.RowKit

/-- A row of items of the call's own, as a slice. -/
theorem own_items {W : World} {base : Nat} {v : Value} {ps : List IP} (h : W.ownsRow base 43 2 v ps.length (flatI ps)) (sl : ∀ q ∈ ps, q.ok W) : ∃ ao cap, v = .slice ao ps.length cap ∧ IL W ao ps.length cap ps := by
  rcases h.2 with ⟨rfl, e⟩ | ⟨g, cap, cur, rfl, hg, hh, hle, hmx, hcs, htk⟩
  · obtain rfl : ps = [] := List.eq_nil_of_length_eq_zero e
    exact ⟨none, 0, rfl, IL.nothing W⟩
  · refine ⟨some ⟨g, 0, none⟩, cap, rfl, rfl, hle, hmx, fun h => by simp at h, fun a ha i hi => ?_, sl⟩
    obtain rfl := Option.some.inj ha
    obtain ⟨e1, e2⟩ := flatI_get ps i hi
    exact ⟨h.cells (g := g) rfl _ _ e1, h.cells (g := g) rfl _ _ e2⟩
theorem flatI_snoc (ps : List IP) (q : IP) : flatI (ps ++ [q]) = flatI ps ++ [q.k.val, q.v.val] := by simp [flatI]
/-- append of one item to a row of the call's own. -/
theorem wpList_appI {w : World} {ops : Array Oper} {rest : List Oper} {o : Oper} {a : Act} {Q : Exit → Act → World → Prop} (hgd : o.guard = none) (s x : Operand)
    (ho : o.op = .call { callee := .builtin .append, args := #[s, x], argTypes := #[26, 26] })
    (base : Nat) (v : Value) (ps : List IP) (hs : a.eval s = v) (hown : w.ownsRow base 43 2 v ps.length (flatI ps))
    (g c : Nat) (q : IP) (hx : a.eval x = .slice (some ⟨g, 0, none⟩) 1 c) (hc : w.heap[g]? = some (.cells #[q.k.val, q.v.val] 43)) (hn : ps.length ≤ 1000000) (hbase : base ≤ w.heap.size)
    (h : ∀ v' w', w'.ownsRow base 43 2 v' (ps ++ [q]).length (flatI (ps ++ [q])) → Below base w w' → wpList Tryd.prog ops Q rest (a.put o.dst v') w') : wpList Tryd.prog ops Q (o :: rest) a w := by
  obtain ⟨i0, hi, hz0, hz1, hz2⟩ := info_parts itemInfo
  refine wpList_append_own w hgd s x 26 ho base 43 i0 _ 2 48 Tryd.underlying26 hi hz0 hz1 hz2 rfl (by decide) v ps.length (flatI ps) hs hown ⟨g, 0, none⟩ 1 c [q.k.val, q.v.val] hx rfl
    (fun j u hu => by
      rw [Addr.add_lit, Nat.zero_add, cell_of_row w g j _ _ _ hc]
      simpa using hu) (fun u hu => by
      simp only [List.mem_cons, List.not_mem_nil, or_false] at hu
      rcases hu with rfl | rfl <;> rfl) (by unfold maxLen; omega) (by omega) hbase ?_
  intro v' w' h1 h2 _
  rw [← flatI_snoc] at h1
  exact h v' w' (by rw [List.length_append]; exact h1) ((Below.refl _ w).grown h2 hbase (fun k hk => (hown.lt k hk).1))

theorem btw_snoc (a b : List Int) (l : List It) (x : It) : btw a b (l ++ [x]) = btw a b l ++ (if ¬ cmpL x.k a < 0 ∧ cmpL x.k b < 0 then [x] else []) := by
  unfold btw ge
  rw [List.filter_append, List.filter_append]
  congr 1
  by_cases h1 : cmpL x.k a < 0
  · rw [if_neg (by simp [h1])]
    simp [h1]
  · by_cases h2 : cmpL x.k b < 0
    · rw [if_pos ⟨h1, h2⟩]
      have e1 : decide (¬ cmpL x.k a < 0) = true := decide_eq_true h1
      have e2 : decide (cmpL x.k b < 0) = true := decide_eq_true h2
      simp only [List.filter_cons, e1, e2, if_true, List.filter_nil]
    · rw [if_neg (by simp [h2])]
      have e1 : decide (¬ cmpL x.k a < 0) = true := decide_eq_true h1
      have e2 : decide (cmpL x.k b < 0) = false := decide_eq_false h2
      simp only [List.filter_cons, e1, e2, if_true, List.filter_nil]
      rfl
theorem btw_app (a b : List Int) (l r : List It) : btw a b (l ++ r) = btw a b l ++ btw a b r := by simp [btw, ge]

set_option maxHeartbeats 4000000 in
set_option maxRecDepth 100000 in
theorem ritems7_any (w : World) (ao xo ho : Option Addr) (n cap xn xc hn hc : Nat) (its : List IP) (lo hi : List Int) (m : Int) (h : IL w ao n cap its) (hx : Sl w xo xn xc lo) (hh : Sl w ho hn hc hi) (hnn : n ≤ 100000) :
    Calls Tryd.prog 19 #[.slice ao n cap, .slice xo xn xc, .slice ho hn hc, .int .i64 m] w (ItemsPost w (its.map IP.it) lo hi m) := by
  have hl1 := Nat.le_of_eq h.len
  have hl2 := Nat.le_of_eq h.len.symm
  have hnx : (n : Int) ≤ 100000 := by omega
  go_enter Tryd.func19, Tryd.ntmps19
  go_wp2
  go_loopw [10, 11] (fun o i wr => ∃ (k : Nat) (ps : List IP), k ≤ n ∧ i = .int .i64 k ∧ wr.ownsRow w.heap.size 43 2 o ps.length (flatI ps) ∧ (∀ q ∈ ps, q.ok w) ∧ ps.map IP.it = btw lo hi ((its.take k).map IP.it) ∧ ps.length ≤ m.toNat ∧ ps.length ≤ k ∧ Below w.heap.size w wr) (fun _ i _ => n - (intOf i).toNat)
  case atStart => exact ⟨0, [], Nat.zero_le _, rfl, World.ownsRow_nil w _ _ 2, by simp, by simp [btw, ge], Nat.zero_le _, Nat.zero_le _, Below.refl _ _⟩
  case round =>
    obtain ⟨k, ps, hk, rfl, own, hsl, hj, hpm, hpk, hB⟩ := hrel
    have HJ : Hid (ps.map IP.it = btw lo hi ((its.take k).map IP.it)) := hj
    clear hj
    obtain ⟨ro, rc, ho', IR⟩ := own_items own (fun q hq => (hsl q hq).below hB)
    subst ho'
    by_cases hlt : k < n
    · have hki : (k : Int) < (n : Int) := by omega
      have hkl : k < its.length := by omega
      obtain ⟨b, off, rfl, hc0⟩ := (h.below hB).at (by omega)
      obtain ⟨c1, c2⟩ := hc0 k hkl
      have S1 := h.sl its[k] (List.getElem_mem hkl)
      have HT : Hid ((its.take (k + 1)).map IP.it = (its.take k).map IP.it ++ [its[k].it]) := by show _ = _; rw [List.take_succ_eq_append_getElem hkl, List.map_append]; rfl
      have HD : Hid (its.map IP.it = (its.take (k + 1)).map IP.it ++ (its.drop (k + 1)).map IP.it) := by show _ = _; rw [← List.map_append, List.take_append_drop]
      obtain ⟨q, hq⟩ : ∃ q, q = its[k] := ⟨_, rfl⟩
      rw [← hq] at c1 c2 S1 HT
      unfold Part.val at c1 c2
      clear hc0 hq
      have CL : ∀ W, Below wr.heap.size wr W → Calls Tryd.prog 37 #[.slice q.k.ao q.k.n q.k.cap, .slice xo xn xc] W fun e w' => e = .returned (.bool (decide (cmpL q.k.xs lo < 0))) ∧ Below W.heap.size W w' := fun W hW => rbelow_any W _ _ _ _ _ _ _ _ ((S1.1.below hB).below hW) ((hx.below hB).below hW)
      have CH : ∀ W, Below wr.heap.size wr W → Calls Tryd.prog 37 #[.slice q.k.ao q.k.n q.k.cap, .slice ho hn hc] W fun e w' => e = .returned (.bool (decide (cmpL q.k.xs hi < 0))) ∧ Below W.heap.size W w' := fun W hW => rbelow_any W _ _ _ _ _ _ _ _ ((S1.1.below hB).below hW) ((hh.below hB).below hW)
      by_cases g1 : cmpL q.k.xs lo < 0
      · have e1 : decide (cmpL q.k.xs lo < 0) = true := decide_eq_true g1
        rw [e1] at CL
        have HN : Hid (ps.map IP.it = btw lo hi ((its.take (k + 1)).map IP.it)) := by
          show _ = _
          rw [HT.out, btw_snoc, if_neg (fun e => e.1 g1), List.append_nil]
          exact HJ.out
        clear e1 g1 CH
        go_wp2_with fail
        refine (CL wr (Below.refl _ _)).mono ?_
        rintro e w2 ⟨rfl, C2⟩
        clear CL
        go_wp2
        go_roundw
        case rel => exact ⟨k + 1, ps, by omega, by go_num, own_below own C2, hsl, HN.out, hpm, by omega, hB.trans (C2.mono hB.size)⟩
        case measure => simp [intOf]; omega
      have e1 : decide (cmpL q.k.xs lo < 0) = false := decide_eq_false g1
      rw [e1] at CL
      by_cases g2 : cmpL q.k.xs hi < 0
      · have e2 : decide (cmpL q.k.xs hi < 0) = true := decide_eq_true g2
        rw [e2] at CH
        have HN : Hid (btw lo hi ((its.take (k + 1)).map IP.it) = ps.map IP.it ++ [q.it]) := by
          show _ = _
          rw [HT.out, btw_snoc, if_pos ⟨g1, g2⟩, HJ.out]
        clear e1 e2 g1 g2
        go_wp2_with fail
        refine (CL wr (Below.refl _ _)).mono ?_
        rintro e w2 ⟨rfl, C2⟩
        have c1 := (C2.cell (World.block_lt_of_cell? _ _ c1)).trans c1
        have c2 := (C2.cell (World.block_lt_of_cell? _ _ c2)).trans c2
        clear CL
        go_wp2_with fail
        refine (CH w2 C2).mono ?_
        rintro e w3 ⟨rfl, C3⟩
        have c1 := (C3.cell (World.block_lt_of_cell? _ _ c1)).trans c1
        have c2 := (C3.cell (World.block_lt_of_cell? _ _ c2)).trans c2
        have C := C2.trans (C3.mono C2.size)
        have own := own_below own C
        have hB := hB.trans (C.mono hB.size)
        have IR := IR.below C
        clear CH C2 C3 C
        by_cases g3 : m ≤ (ps.length : Int)
        · have g3' : (ps.length : Int) ≥ m := g3
          have HE : Hid (ps.map IP.it = (btw lo hi (its.map IP.it)).take m.toNat ∧ true = decide (m.toNat < (btw lo hi (its.map IP.it)).length)) := by
            have hml : m.toNat = ps.length := by omega
            have E : btw lo hi (its.map IP.it) = ps.map IP.it ++ (q.it :: btw lo hi ((its.drop (k + 1)).map IP.it)) := by rw [HD.out, btw_app, HN.out, List.append_assoc]; rfl
            exact ⟨by rw [E, hml, List.take_left' (by simp)], by rw [E, hml]; exact (decide_eq_true (by simp)).symm⟩
          go_wp2
          go_ret2
          exact ⟨ro, ps.length, rc, ps, true, rfl, IR, HE.out.1, HE.out.2, hB⟩
        have g3' : ¬ (ps.length : Int) ≥ m := g3
        have hbs := hB.size
        have ownN := own_below own ((Below.refl _ w3).alloc (Nat.le_refl _) (.cells #[.slice q.k.ao q.k.n q.k.cap, .slice q.v.ao q.v.n q.v.cap] 43))
        have hnew := heap_alloc_new w3 (.cells #[.slice q.k.ao q.k.n q.k.cap, .slice q.v.ao q.v.n q.v.cap] 43)
        have BN : Below w3.heap.size w3 (w3.alloc (.cells #[.slice q.k.ao q.k.n q.k.cap, .slice q.v.ao q.v.n q.v.cap] 43)) := (Below.refl _ w3).alloc (Nat.le_refl _) _
        have bsz := BN.size
        go_wp2_with (at_builtin; refine wpList_appI rfl _ _ rfl w.heap.size _ ps rfl ownN _ _ q rfl hnew (by omega) (by omega) ?_; intro v1 w1 own1 B1)
        go_wp2
        go_roundw
        case rel =>
          refine ⟨k + 1, ps ++ [q], by omega, by go_num, own1, fun r hr => ?_, ?_, by simp; omega, by simp; omega, hB.trans ((BN.mono hbs).trans B1)⟩
          · rcases List.mem_append.1 hr with hr | hr
            · exact hsl r hr
            · rw [List.mem_singleton.1 hr]
              exact S1
          · rw [HN.out, List.map_append]
            rfl
        case measure => simp [intOf]; omega
      · have e2 : decide (cmpL q.k.xs hi < 0) = false := decide_eq_false g2
        rw [e2] at CH
        have HN : Hid (ps.map IP.it = btw lo hi ((its.take (k + 1)).map IP.it)) := by
          show _ = _
          rw [HT.out, btw_snoc, if_neg (fun e => g2 e.2), List.append_nil]
          exact HJ.out
        clear e1 e2 g1 g2
        go_wp2_with fail
        refine (CL wr (Below.refl _ _)).mono ?_
        rintro e w2 ⟨rfl, C2⟩
        have c1 := (C2.cell (World.block_lt_of_cell? _ _ c1)).trans c1
        have c2 := (C2.cell (World.block_lt_of_cell? _ _ c2)).trans c2
        clear CL
        go_wp2_with fail
        refine (CH w2 C2).mono ?_
        rintro e w3 ⟨rfl, C3⟩
        have C := C2.trans (C3.mono C2.size)
        clear CH C2 C3
        go_wp2
        go_roundw
        case rel => exact ⟨k + 1, ps, by omega, by go_num, own_below own C, hsl, HN.out, hpm, by omega, hB.trans (C.mono hB.size)⟩
        case measure => simp [intOf]; omega
    · have hge : ¬ (k : Int) < (n : Int) := by omega
      have HE : Hid (ps.map IP.it = (btw lo hi (its.map IP.it)).take m.toNat ∧ false = decide (m.toNat < (btw lo hi (its.map IP.it)).length)) := by
        have E : btw lo hi (its.map IP.it) = ps.map IP.it := by rw [HJ.out, List.take_of_length_le (by omega)]
        exact ⟨by rw [E, List.take_of_length_le (by simpa using hpm)], by rw [E]; exact (decide_eq_false (by simp; omega)).symm⟩
      go_wp2
      go_ret2
      exact ⟨ro, ps.length, rc, ps, false, rfl, IR, HE.out.1, HE.out.2, hB⟩
end Go.Proofs.YtcepknjdiboinaaDoor

namespace Go.Proofs.YtcepknjdiboinaaDoor
open Go.RowKit

theorem size2 (w : World) : (sizeOf 43).run Tryd.prog w = .ok 2 w := by
  have hI := itemInfo
  cases hi : Tryd.prog.info? 43 with
  | none => rw [hi] at hI; simp at hI
  | some i =>
    rw [hi] at hI
    simp only [Option.map_some, Option.some.injEq, Prod.mk.injEq] at hI
    simp [sizeOf, typeInfo, hi, hI.2.1]
/-- l[:i] -/
theorem run_upto2 {W : World} {ao : Option Addr} {n cap i : Nat} (h1 : i ≤ cap) :
    (Instr.sliceAt 26 (.slice ao n cap) none (some (.int .i64 (i : Nat))) none).run Tryd.prog W = .ok (.slice ao i cap) W := by
  have ht := Tryd.underlying26
  have he : Tryd.prog.elem 26 = 43 := by simp [Program.elem, ht]
  rw [run_sliceAt_slice W 26 _ _ _ _ (by rw [he]; exact ht), run_slice_h W 26 ao n cap (by rw [he]; exact ht) .i64 i (by omega) (by omega), he, size2]
  simp only [Result.andThen_ok, sliced, Int.toNat_natCast, Nat.zero_mul, Nat.sub_zero]
  cases ao with
  | none => simp
  | some a => simp [Addr.add_nought]
/-- Where l[j:] lies. -/
def bk2 (ao : Option Addr) (cap j : Nat) : Option Addr := if cap = j then ao else ao.map (·.add (j * 2))
/-- l[j:] -/
theorem run_back2 {W : World} {ao : Option Addr} {n cap j : Nat} (h1 : j ≤ n) :
    (Instr.sliceAt 26 (.slice ao n cap) (some (.int .i64 (j : Nat))) none none).run Tryd.prog W = .ok (.slice (bk2 ao cap j) (n - j) (cap - j)) W := by
  have ht := Tryd.underlying26
  have he : Tryd.prog.elem 26 = 43 := by simp [Program.elem, ht]
  rw [run_sliceAt_slice W 26 _ _ _ _ (by rw [he]; exact ht), run_slice_l W 26 ao n cap (by rw [he]; exact ht) .i64 j (by omega) (by omega), he, size2]
  simp only [Result.andThen_ok, sliced, Int.toNat_natCast, bk2]
theorem IL.front {w : World} {ao : Option Addr} {n cap : Nat} {its : List IP} (h : IL w ao n cap its) (i : Nat) (hi : i ≤ n) : IL w ao i cap (its.take i) := by
  have h1 := h.len
  have h2 := h.le
  refine ⟨by simp; omega, by omega, h.mx, fun hn => ?_, fun a ha j hj => ?_, fun q hq => h.sl q (List.mem_of_mem_take hq)⟩
  · have := h.nil hn
    omega
  · simp only [List.length_take] at hj
    have := h.cell a ha j (by omega)
    simpa using this
theorem IL.from {w : World} {ao : Option Addr} {n cap : Nat} {its : List IP} (h : IL w ao n cap its) (j : Nat) (hj : j ≤ n) : IL w (bk2 ao cap j) (n - j) (cap - j) (its.drop j) := by
  have h1 := h.len
  have h2 := h.mx
  have h3 := h.le
  refine ⟨by simp; omega, by omega, by omega, fun hn => ?_, fun b hb i hi => ?_, fun q hq => h.sl q (List.mem_of_mem_drop hq)⟩
  · unfold bk2 at hn
    by_cases hc : cap = j
    · omega
    · rw [if_neg hc] at hn
      have := h.nil (by simpa using hn)
      omega
  · simp only [List.length_drop] at hi
    have hc : cap ≠ j := by omega
    unfold bk2 at hb
    rw [if_neg hc] at hb
    cases ao with
    | none => simp at hb
    | some a =>
      have hb' : a.add (j * 2) = b := by simpa using hb
      have := h.cell a rfl (j + i) (by omega)
      rw [← hb', Addr.add_add, Addr.add_add, List.getElem_drop, ← Nat.add_mul, ← Nat.add_assoc, ← Nat.add_mul]
      exact this
theorem flatI_app (ps qs : List IP) : flatI (ps ++ qs) = flatI ps ++ flatI qs := by simp [flatI]
/-- append of items. -/
theorem run_appI {w : World} {base : Nat} {v : Value} {ps qs : List IP} (ty : TypeId) (h : w.ownsRow base 43 2 v ps.length (flatI ps)) (hb : base ≤ w.heap.size) {bo : Option Addr} {m c : Nat} (hx : IL w bo m c qs) (hn : ps.length + m ≤ 1000000) :
    ∃ v' w', (Builtin.append_ #[26, 26] ty #[v, .slice bo m c]).run Tryd.prog w = .ok v' w' ∧ w'.ownsRow base 43 2 v' (ps ++ qs).length (flatI (ps ++ qs)) ∧ Below base w w' := by
  obtain ⟨i0, hi, hz0, hz1, hz2⟩ := info_parts itemInfo
  have hlen := hx.len
  by_cases hm : m = 0
  · subst hm
    obtain rfl : qs = [] := List.eq_nil_of_length_eq_zero hlen
    have hv : ∃ ao cap, v = .slice ao ps.length cap ∧ ps.length ≤ cap := by
      rcases h.2 with ⟨rfl, e⟩ | ⟨g, cap, cur, rfl, hg, hh, hle, _⟩
      · rw [e]
        exact ⟨none, 0, rfl, Nat.le_refl _⟩
      · exact ⟨_, cap, rfl, hle⟩
    obtain ⟨ao, cap, rfl, hle⟩ := hv
    refine ⟨_, w, run_append_nothing w 26 26 ty 43 i0 Tryd.underlying26 hi ao ps.length cap hle _ (src_none Tryd.underlying26), ?_, Below.refl _ _⟩
    simpa using h
  · obtain ⟨ad, rfl⟩ : ∃ ad, bo = some ad := by
      cases bo with
      | none => have := (hx.nil rfl).1; omega
      | some ad => exact ⟨ad, rfl⟩
    obtain ⟨v', w', h1, h2, h3, -⟩ := run_append_own (P := Tryd.prog) w base 26 ty 43 i0 _ 2 48 Tryd.underlying26 hi hz0 hz1 hz2 rfl (by decide) v ps.length (flatI ps) h ad m c (flatI qs) (by rw [flatI_length, hlen])
      (fun j u hu => by
        have hj := (List.getElem?_eq_some_iff.1 hu).1
        rw [flatI_length] at hj
        have hq : j / 2 < qs.length := by omega
        obtain ⟨e1, e2⟩ := flatI_get qs (j / 2) hq
        obtain ⟨d1, d2⟩ := hx.cell ad rfl (j / 2) hq
        rcases Nat.mod_two_eq_zero_or_one j with hp | hp
        · have ej : j / 2 * 2 = j := by omega
          rw [ej] at e1 d1
          rw [d1, ← hu, e1]
        · have ej : j / 2 * 2 + 1 = j := by omega
          rw [ej] at e2 d2
          rw [d2, ← hu, e2]) (flatI_one qs) (by unfold maxLen; omega) (by omega) hb
    refine ⟨v', w', h1, ?_, (Below.refl _ w).grown h3 hb (fun k hk => (h.lt k hk).1)⟩
    rw [flatI_app, List.length_append, hlen]
    exact h2
theorem own_none (w : World) : (w.alloc (.cells #[] 43)).ownsRow w.heap.size 43 2 (.slice (some ⟨w.heap.size, 0, none⟩) 0 0) ([] : List IP).length (flatI []) :=
  World.ownsRow_made w #[] 0 (Nat.le_refl _) (Nat.zero_le _) rfl
end Go.Proofs.YtcepknjdiboinaaDoor

namespace Go.Proofs.YtcepknjdiboinaaDoor
open Go.RowKit

theorem own_slice {W : World} {base n : Nat} {e : TypeId} {size : Nat} {v : Value} {xs : List Value} (h : W.ownsRow base e size v n xs) : ∃ ao cap, v = .slice ao n cap := by
  rcases h.2 with ⟨rfl, rfl⟩ | ⟨g, cap, cur, rfl, _⟩
  · exact ⟨none, 0, rfl⟩
  · exact ⟨_, cap, rfl⟩
/-- What it answers. -/
def RDelPost (w : World) (its : List IP) (key : List Int) (e : Ending) (w' : World) : Prop := ∃ ro rn rc ps t, e = .returned (.tuple #[.slice ro rn rc, .bool t]) ∧ IL w' ro rn rc ps ∧
  (t = false → ps = its ∧ ∀ q ∈ its, q.k.xs ≠ key) ∧ (t = true → ∃ (k : Nat) (h : k < its.length), its[k].k.xs = key ∧ ps = its.take k ++ its.drop (k + 1)) ∧ Below w.heap.size w w'

set_option maxHeartbeats 4000000 in
set_option maxRecDepth 100000 in
theorem rdel7_any (w : World) (ao : Option Addr) (n cap : Nat) (its : List IP) (ko : Option Addr) (kn kc : Nat) (key : List Int) (h : IL w ao n cap its) (hk : Sl w ko kn kc key) (hn : n ≤ 100000) :
    Calls Tryd.prog 13 #[.slice ao n cap, .slice ko kn kc] w (RDelPost w its key) := by
  have hl1 := Nat.le_of_eq h.len
  have hl2 := Nat.le_of_eq h.len.symm
  have hle := h.le
  have CF := rfind7_any w ao n cap its ko kn kc key h hk
  go_enter Tryd.func13, Tryd.ntmps13
  go_wp2_with fail
  refine CF.mono ?_
  rintro e w1 ⟨r, rfl, hf, B1⟩
  clear CF
  rcases hf with ⟨rfl, hno⟩ | ⟨k, hkl, rfl, hke, -⟩
  · go_wp2
    go_ret2
    exact ⟨ao, n, cap, its, false, rfl, h.below B1, fun _ => ⟨rfl, hno⟩, by simp, B1⟩
  · have HK : Hid (its[k].k.xs = key) := hke
    clear hke
    have hk0 : ¬ (k : Int) < 0 := by omega
    have hk1 : (k : Int) ≤ 100000 := by omega
    have hw : IntKind.i64.wrap ((k : Int) + 1) = (k : Int) + 1 := by have := wrap_nat (k := k + 1) (by omega); simpa using this
    have F1 : ∀ W, _ := fun W => run_upto2 (W := W) (ao := ao) (n := n) (cap := cap) (i := k) (by omega)
    have F2 : ∀ W, _ := fun W => run_back2 (W := W) (ao := ao) (n := n) (cap := cap) (j := k + 1) (by omega)
    simp only [Int.natCast_add, Int.natCast_one] at F2
    go_wp2
    have HS : Hid (∀ V, Below w1.heap.size w1 V → True) := fun _ _ => trivial
    have E0 : Below w1.heap.size w1 w1.drew := (Below.refl _ _).drew
    refine wp_region_noPanic ?_
    refine wp_region_held_drew (S := fun V => True) (by kernel_rfl) (HS.out _ E0) (fun H0 => ?_)
    obtain ⟨v0, hv0⟩ : ∃ v, v = w1.drew := ⟨_, rfl⟩
    rw [← hv0] at E0 ⊢
    clear hv0
    refine hr_take_w 1 (some 14) (.slice ao n cap) rfl rfl (by kernel_rfl) (by kernel_rfl) (by kernel_rfl) rfl (fun W hW => by go_simp) H0 ?_
    simp only [Act.put, List.setIfInBounds_toArray, List.set_cons_zero, List.set_cons_succ]
    refine hr_take_w 2 (some 15) (.int .i64 k) rfl rfl (by kernel_rfl) (by kernel_rfl) (by kernel_rfl) rfl (fun W hW => by go_simp) H0 ?_
    simp only [Act.put, List.setIfInBounds_toArray, List.set_cons_zero, List.set_cons_succ]
    refine hr_take_w 3 (some 16) (.slice ao k cap) rfl rfl (by kernel_rfl) (by kernel_rfl) (by kernel_rfl) rfl (fun W hW => by simp [execOp, Act.eval, F1]) H0 ?_
    simp only [Act.put, List.setIfInBounds_toArray, List.set_cons_zero, List.set_cons_succ]
    refine hr_take_w 5 (some 18) (.slice ao n cap) rfl rfl (by kernel_rfl) (by kernel_rfl) (by kernel_rfl) rfl (fun W hW => by go_simp) H0 ?_
    simp only [Act.put, List.setIfInBounds_toArray, List.set_cons_zero, List.set_cons_succ]
    refine hr_take_w 6 (some 19) (.int .i64 k) rfl rfl (by kernel_rfl) (by kernel_rfl) (by kernel_rfl) rfl (fun W hW => by go_simp) H0 ?_
    simp only [Act.put, List.setIfInBounds_toArray, List.set_cons_zero, List.set_cons_succ]
    refine hr_take_w 7 (some 20) (.int .i64 ((k : Int) + 1)) rfl rfl (by kernel_rfl) (by kernel_rfl) (by kernel_rfl) rfl (fun W hW => by go_simp) H0 ?_
    simp only [Act.put, List.setIfInBounds_toArray, List.set_cons_zero, List.set_cons_succ]
    refine hr_take_w 8 (some 21) (.slice (bk2 ao cap (k + 1)) (n - (k + 1)) (cap - (k + 1))) rfl rfl (by kernel_rfl) (by kernel_rfl) (by kernel_rfl) rfl (fun W hW => by simp [execOp, Act.eval, F2]) H0 ?_
    simp only [Act.put, List.setIfInBounds_toArray, List.set_cons_zero, List.set_cons_succ]
    refine hr_ex 0 (some 13) rfl rfl (by kernel_rfl) rfl (R := fun v w' => ∃ g, v = .slice (some ⟨g, 0, none⟩) 0 0 ∧ w'.ownsRow w1.heap.size 43 2 (.slice (some ⟨g, 0, none⟩) 0 0) ([] : List IP).length (flatI []) ∧ Below v0.heap.size v0 w') (⟨_, _, by go_simp, _, rfl, own_base (own_none v0) E0.size, (Below.refl _ _).alloc (Nat.le_refl _) _⟩) ?_
    rintro v v1 ⟨g0, rfl, O0, C0⟩
    have E1 := E0.trans (C0.mono E0.size)
    have H1 := HS.out v1 E1
    refine ⟨H1, ?_⟩
    simp only [Act.put, List.setIfInBounds_toArray, List.set_cons_zero, List.set_cons_succ]
    refine hr_ex 4 (some 17) rfl rfl (by kernel_rfl) rfl (R := fun v w' => ∃ r1 n1 c1, v = .slice r1 n1 c1 ∧ w'.ownsRow w1.heap.size 43 2 (.slice r1 n1 c1) (([] : List IP) ++ its.take k).length (flatI (([] : List IP) ++ its.take k)) ∧ Below w1.heap.size v1 w') (by obtain ⟨v', w', hr, h3, h4⟩ := run_appI (w := v1) 26 O0 E1.size ((h.below (B1.trans (E1.mono B1.size))).front k (by omega)) (by simp; omega); obtain ⟨r1, c1, rfl⟩ := own_slice h3; exact ⟨_, w', by simp [execOp, Act.eval, resolve, invoke, builtin, hr], _, _, _, rfl, h3, h4⟩) ?_
    rintro v v2 ⟨r1, n1, c1, rfl, O1, C1⟩
    have E2 := E1.trans C1
    have H2 := HS.out v2 E2
    refine ⟨H2, ?_⟩
    simp only [Act.put, List.setIfInBounds_toArray, List.set_cons_zero, List.set_cons_succ]
    refine hr_ex 9 (some 22) rfl rfl (by kernel_rfl) rfl (R := fun v w' => ∃ r2 n2 c2, v = .slice r2 n2 c2 ∧ w'.ownsRow w1.heap.size 43 2 (.slice r2 n2 c2) (([] : List IP) ++ its.take k ++ its.drop (k + 1)).length (flatI (([] : List IP) ++ its.take k ++ its.drop (k + 1))) ∧ Below w1.heap.size v2 w') (by obtain ⟨v', w', hr, h3, h4⟩ := run_appI (w := v2) 26 O1 E2.size ((h.below (B1.trans (E2.mono B1.size))).from (k + 1) (by omega)) (by simp; omega); obtain ⟨r2, c2, rfl⟩ := own_slice h3; exact ⟨_, w', by simp [execOp, Act.eval, resolve, invoke, builtin, hr], _, _, _, rfl, h3, h4⟩) ?_
    rintro v v3 ⟨r2, n2, c2, rfl, O2, C2⟩
    have E3 := E2.trans C2
    have H3 := HS.out v3 E3
    refine ⟨H3, ?_⟩
    simp only [Act.put, List.setIfInBounds_toArray, List.set_cons_zero, List.set_cons_succ]
    refine hr_take_w 10 (some 4) (.slice r2 n2 c2) rfl rfl (by kernel_rfl) (by kernel_rfl) (by kernel_rfl) rfl (fun W hW => by go_simp) H3 ?_
    simp only [Act.put, List.setIfInBounds_toArray, List.set_cons_zero, List.set_cons_succ]
    refine hr_take_w 11 (some 5) (.bool true) rfl rfl (by kernel_rfl) (by kernel_rfl) (by kernel_rfl) rfl (fun W hW => by go_simp) H3 ?_
    simp only [Act.put, List.setIfInBounds_toArray, List.set_cons_zero, List.set_cons_succ]
    refine wpAnyH_done (by kernel_rfl) ?_ _
    refine NoPanic.normal ?_
    obtain ⟨r3, c3, e3, I3⟩ := own_items O2 (fun q hq => (h.sl q (by
      simp only [List.nil_append, List.mem_append] at hq
      rcases hq with hq | hq
      · exact List.mem_of_mem_take hq
      · exact List.mem_of_mem_drop hq)).below (B1.trans (E3.mono B1.size)))
    simp only [Value.slice.injEq] at e3
    obtain ⟨rfl, rfl, rfl⟩ := e3
    go_wp2
    go_ret2
    exact ⟨_, _, _, (([] : List IP) ++ its.take k ++ its.drop (k + 1)), true, rfl, I3, by simp, fun _ => ⟨k, hkl, HK.out, by simp⟩, B1.trans (E3.mono B1.size)⟩
end Go.Proofs.YtcepknjdiboinaaDoor

namespace Go.Proofs.YtcepknjdiboinaaDoor
open Go.RowKit

/-- append of items to a row of the call's own. -/
theorem wpList_appIs {w : World} {ops : Array Oper} {rest : List Oper} {o : Oper} {a : Act} {Q : Exit → Act → World → Prop} (hgd : o.guard = none) (s x : Operand)
    (ho : o.op = .call { callee := .builtin .append, args := #[s, x], argTypes := #[26, 26] })
    (base : Nat) (v : Value) (ps : List IP) (hs : a.eval s = v) (hown : w.ownsRow base 43 2 v ps.length (flatI ps))
    (bo : Option Addr) (m c : Nat) (qs : List IP) (hx : a.eval x = .slice bo m c) (hil : IL w bo m c qs) (hn : ps.length + m ≤ 1000000) (hbase : base ≤ w.heap.size)
    (h : ∀ v' w', w'.ownsRow base 43 2 v' (ps ++ qs).length (flatI (ps ++ qs)) → Below base w w' → wpList Tryd.prog ops Q rest (a.put o.dst v') w') : wpList Tryd.prog ops Q (o :: rest) a w := by
  obtain ⟨v', w', hr, h1, h2⟩ := run_appI (w := w) o.type hown hbase hil hn
  refine wpList_plain hgd fun _ hK => ?_
  unfold Oper.wp execOp
  simp only [ho, resolve, invoke, builtin, Sem.run_bind, Sem.run_pure, Result.andThen_ok, List.map_toArray, List.map_cons, List.map_nil, hs, hx, hr, Oper.upon]
  exact hK _ _ (h v' w' h1 h2)

theorem put_parts {l : List It} {k : Nat} {key : List Int} (h1 : ∀ x ∈ l.take k, cmpL x.k key < 0) (h2 : ∀ x ∈ l.drop k, ¬ cmpL x.k key < 0) : lo key l = l.take k ∧ hi key l = (l.drop k).filter fun x => decide (cmpL key x.k < 0) := by
  have e : l = l.take k ++ l.drop k := (List.take_append_drop k l).symm
  constructor
  · unfold lo
    conv => lhs; rw [e]
    rw [List.filter_append, List.filter_eq_self.2 fun x hx => decide_eq_true (h1 x hx), List.filter_eq_nil_iff.2 fun x hx => by simpa using h2 x hx, List.append_nil]
  · unfold hi
    conv => lhs; rw [e]
    rw [List.filter_append, List.filter_eq_nil_iff.2 fun x hx => by simpa using cmpL_asym (h1 x hx), List.nil_append]
theorem put_drop {l : List It} (hs : Srt l) {k : Nat} {key : List Int} (hk : ∀ x r, l.drop k = x :: r → ¬ cmpL x.k key < 0) : ∀ x ∈ l.drop k, ¬ cmpL x.k key < 0 := by
  intro x hx
  cases hd : l.drop k with
  | nil => rw [hd] at hx; simp at hx
  | cons y r =>
    rw [hd] at hx
    have hy := hk y r hd
    have hsd : Srt (y :: r) := by rw [← hd]; exact List.Pairwise.sublist (List.drop_sublist k l) hs
    rcases List.mem_cons.1 hx with rfl | hx
    · exact hy
    · intro hlt
      exact hy (cmpL_lt_trans _ _ _ (hsd.cons.1 x hx) hlt)
/-- With the key's own item there. -/
theorem put_same {l : List It} (hs : Srt l) {k : Nat} {x y : It} {r : List It} (h1 : ∀ z ∈ l.take k, cmpL z.k x.k < 0) (hd : l.drop k = y :: r) (hy : y.k = x.k) : l.take k ++ x :: r = ins l x := by
  have hsd : Srt (y :: r) := by rw [← hd]; exact List.Pairwise.sublist (List.drop_sublist k l) hs
  obtain ⟨e1, e2⟩ := put_parts h1 (put_drop hs fun z q hz => by rw [hd] at hz; obtain ⟨rfl, -⟩ := List.cons.inj hz; rw [hy]; exact cmpL_irr _)
  unfold ins
  rw [e1, e2, hd, List.filter_cons, if_neg (by rw [hy]; simpa using cmpL_irr x.k), List.filter_eq_self.2 fun z hz => decide_eq_true (by rw [← hy]; exact hsd.cons.1 z hz)]
/-- Without. -/
theorem put_new {l : List It} (hs : Srt l) {k : Nat} {x : It} (h1 : ∀ z ∈ l.take k, cmpL z.k x.k < 0) (hd : ∀ y r, l.drop k = y :: r → ¬ cmpL y.k x.k < 0 ∧ y.k ≠ x.k) : l.take k ++ x :: l.drop k = ins l x := by
  have h2 := put_drop hs fun z q hz => (hd z q hz).1
  obtain ⟨e1, e2⟩ := put_parts h1 h2
  unfold ins
  rw [e1, e2, List.filter_eq_self.2 fun z hz => decide_eq_true ?_]
  cases he : l.drop k with
  | nil => rw [he] at hz; simp at hz
  | cons y r =>
    have hsd : Srt (y :: r) := by rw [← he]; exact List.Pairwise.sublist (List.drop_sublist k l) hs
    obtain ⟨g1, g2⟩ := hd y r he
    have gy : cmpL x.k y.k < 0 := by
      rcases cmpL_total x.k y.k with h | h | h
      · exact h
      · exact absurd h.symm g2
      · exact absurd h g1
    rw [he] at hz
    rcases List.mem_cons.1 hz with rfl | hz
    · exact gy
    · exact cmpL_lt_trans _ _ _ gy (hsd.cons.1 z hz)
end Go.Proofs.YtcepknjdiboinaaDoor

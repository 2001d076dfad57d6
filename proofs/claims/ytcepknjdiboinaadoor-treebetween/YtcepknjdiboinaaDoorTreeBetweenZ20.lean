/-
  Texts in one: PSmall, PLen, PTrim, Hex, Same, RHex.
-/
import Derived.Test.YtcepknjdiboinaaDoorTreeBetweenZ6
import Derived.Lib.SliceRun
import Derived.Test.YtcepknjdiboinaaDoorTreeBetweenZ19
import Derived.Test.YtcepknjdiboinaaDoorTreeBetweenZ4
import Derived.Lib.Strings
import Derived.Test.YtcepknjdiboinaaDoorTreeBetweenZ3
import Derived.Laws.BytesArg
import Derived.Test.YtcepknjdiboinaaDoorTreeBetweenZ0
import Derived.Deep.QuietTactic
import Derived.BigQuiet
import Derived.Deep.RegionHeld3
namespace Go.Proofs.YtcepknjdiboinaaDoor
open Go.RowKit

theorem own_nothing (w : World) : (w.alloc (.cells #[] 5)).ownsRow w.heap.size 5 1 (.slice (some ⟨w.heap.size, 0, none⟩) 0 0) 0 (bv []) :=
  World.ownsRow_made w #[] 0 (Nat.le_refl _) (Nat.zero_le _) rfl
/-- Bytes in new memory are answered. -/
def RetB (w : World) (n : Nat) (xs : List Int) (e : Ending) (w' : World) : Prop := ∃ ro rc, e = .returned (.slice ro n rc) ∧ Sl w' ro n rc xs ∧ Below w.heap.size w w'

set_option maxHeartbeats 400000 in
set_option maxRecDepth 100000 in
theorem own_any (w : World) (ao : Option Addr) (n cap : Nat) (xs : List Int) (h : Sl w ao n cap xs) (hn : n ≤ 1000000) :
    Calls Tryd.prog 36 #[.slice ao n cap] w (RetB w n xs) := by
  have B0 : Below w.heap.size w (w.alloc (.cells #[] 5)) := (Below.refl _ w).alloc (Nat.le_refl _) _
  have h0 := h.below B0
  have o0 := own_nothing w
  have hb := h.byte
  go_enter Tryd.func36, Tryd.ntmps36
  go_wp2_with (at_builtin; refine wpList_app rfl _ _ rfl w.heap.size _ _ _ rfl o0 _ _ _ _ rfl h0 (by omega) (by simp) ?_; intro v1 w1 own1 B1)
  simp only [Nat.zero_add, List.nil_append] at own1
  obtain ⟨ro, rc, rfl, S, -⟩ := Sl.own own1 hb
  go_wp2
  go_ret
  exact ⟨ro, rc, rfl, S, B0.trans B1⟩

set_option maxHeartbeats 400000 in
set_option maxRecDepth 100000 in
theorem clone_any (w : World) (ao : Option Addr) (n cap : Nat) (xs : List Int) (h : Sl w ao n cap xs) (hn : n ≤ 1000000) :
    Calls Tryd.prog 40 #[.slice ao n cap] w (RetB w n xs) := by
  cases ao with
  | none =>
    obtain ⟨rfl, rfl⟩ := h.nil rfl
    obtain rfl : xs = [] := List.eq_nil_of_length_eq_zero h.len
    have hq : ∀ W, _ := fun W => Lib.run_eql_slice_nil (P := Tryd.prog) W 23 5 none 0 0 0 0 Tryd.underlying23
    go_enter Tryd.func40, Tryd.ntmps40
    go_wp2
    go_ret
    exact ⟨none, 0, rfl, Sl.nothing w, Below.refl _ _⟩
  | some a =>
    have B0 : Below w.heap.size w (w.alloc (.cells #[] 5)) := (Below.refl _ w).alloc (Nat.le_refl _) _
    have h0 := h.below B0
    have o0 := own_nothing w
    have hb := h.byte
    have hq : ∀ W, _ := fun W => Lib.run_eql_slice_nil (P := Tryd.prog) W 23 5 (some a) n cap 0 0 Tryd.underlying23
    go_enter Tryd.func40, Tryd.ntmps40
    go_wp2_with (at_builtin; refine wpList_app rfl _ _ rfl w.heap.size _ _ _ rfl o0 _ _ _ _ rfl h0 (by omega) (by simp) ?_; intro v1 w1 own1 B1)
    simp only [Nat.zero_add, List.nil_append] at own1
    obtain ⟨ro, rc, rfl, S, -⟩ := Sl.own own1 hb
    go_wp2
    go_ret
    exact ⟨ro, rc, rfl, S, B0.trans B1⟩

/-- The value v is a tree (a handle) of the items l. -/
def TT (w : World) (v : Value) (l : List It) : Prop := (v = .pointer none ∧ l = []) ∨ ∃ b u, v = .pointer (some ⟨b, 0, none⟩) ∧ w.cell? ⟨b, 0, none⟩ = some u ∧ T w u l ∧ l ≠ []
theorem TT.nil (w : World) : TT w (.pointer none) [] := .inl ⟨rfl, rfl⟩
theorem TT.below {w w' : World} {v : Value} {l : List It} (h : TT w v l) (hb : Below w.heap.size w w') : TT w' v l := by
  rcases h with h | ⟨b, u, rfl, hc, ht, hl⟩
  · exact .inl h
  · exact .inr ⟨b, u, rfl, (hb.cell (World.block_lt_of_cell? _ _ hc)).trans hc, ht.below hb, hl⟩
theorem TT.ptr {w : World} {v : Value} {l : List It} (h : TT w v l) : ∃ po, v = .pointer po := by
  rcases h with ⟨rfl, _⟩ | ⟨b, u, rfl, _⟩
  · exact ⟨_, rfl⟩
  · exact ⟨_, rfl⟩
/-- A tree is answered, in new memory. -/
def RetTT (w : World) (l : List It) (e : Ending) (w' : World) : Prop := ∃ v, e = .returned v ∧ TT w' v l ∧ Below w.heap.size w w'

set_option maxHeartbeats 400000 in
set_option maxRecDepth 100000 in
theorem treeOf_any (w : World) (v : Value) (l : List It) (h : T w v l) : Calls Tryd.prog 32 #[v] w (RetTT w l) := by
  rcases h.is with ⟨rfl, rfl⟩ | ⟨d, segs, xs, rfl, hN⟩
  · go_enter Tryd.func32, Tryd.ntmps32
    go_wp2
    go_ret
    exact ⟨_, rfl, TT.nil _, Below.refl _ _⟩
  · have hne : l ≠ [] := by
      intro e
      subst e
      have h0 := hN.shp.pos
      have := hN.shp.key xs[0] (List.getElem_mem h0)
      simp at this
    unfold Nd.ptr at h ⊢
    go_enter Tryd.func32, Tryd.ntmps32
    go_wp2
    go_ret
    have B : Below w.heap.size w (w.alloc (.cells #[.pointer (some ⟨d.b, 0, none⟩)] 97)) := (Below.refl _ w).alloc (Nat.le_refl _) _
    exact ⟨_, rfl, .inr ⟨_, _, rfl, cell_one_new _ _ _ 0 _ (by simp), h.below B, hne⟩, B⟩

set_option maxHeartbeats 400000 in
set_option maxRecDepth 100000 in
theorem shared_any (w : World) (v : Value) (l : List It) (h : TT w v l) : Calls Tryd.prog 34 #[v] w fun e w' => ∃ po, e = .returned (.pointer po) ∧ T w (.pointer po) l ∧ w' = w := by
  rcases h with ⟨rfl, rfl⟩ | ⟨b, u, rfl, hc, ht, hl⟩
  · go_enter Tryd.func34, Tryd.ntmps34
    go_wp2
    go_ret
    exact ⟨_, rfl, T.nil _, rfl⟩
  · obtain ⟨po, rfl⟩ := ht.ptr
    go_enter Tryd.func34, Tryd.ntmps34
    go_wp2
    go_ret
    exact ⟨_, rfl, ht, rfl⟩
end Go.Proofs.YtcepknjdiboinaaDoor

namespace Go.Proofs.YtcepknjdiboinaaDoor
open Go.RowKit

theorem ge_nil (l : List It) : ge [] l = l := List.filter_eq_self.2 fun x _ => decide_eq_true (by have := cmpL_nil x.k; omega)
set_option maxHeartbeats 400000 in
set_option maxRecDepth 100000 in
theorem shared_at (w W : World) (v : Value) (l : List It) (h : TT w v l) (hb : Below w.heap.size w W) : Calls Tryd.prog 34 #[v] W fun e w' => ∃ po, e = .returned (.pointer po) ∧ T w (.pointer po) l ∧ w' = W := by
  rcases h with ⟨rfl, rfl⟩ | ⟨b, u, rfl, hc, ht, hl⟩
  · go_enter Tryd.func34, Tryd.ntmps34
    go_wp2
    go_ret
    exact ⟨_, rfl, T.nil _, rfl⟩
  · obtain ⟨po, rfl⟩ := ht.ptr
    have hc2 := (hb.cell (World.block_lt_of_cell? _ _ hc)).trans hc
    go_enter Tryd.func34, Tryd.ntmps34
    go_wp2
    go_ret
    exact ⟨_, rfl, ht, rfl⟩
/-- The count. -/
def CntI (w : World) (p : Nat) (pre : List It) (W : World) : Prop := Below w.heap.size w W ∧ Arr W p 3 [.int .i64 pre.length] ∧ pre.length ≤ 100000 ∧ w.heap.size ≤ p

set_option maxHeartbeats 1000000 in
set_option maxRecDepth 100000 in
theorem cnt_any (w : World) (p : Nat) (pre : List It) (W : World) (k y : Value) (x : It) (h : CntI w p pre W) (hl : pre.length + 1 ≤ 100000) :
    Calls Tryd.prog 42 (#[k, y] ++ #[.pointer (some ⟨p, 0, none⟩)]) W (WPost (CntI w p (pre ++ [x])) fun _ => False) := by
  obtain ⟨hb, ha, -, hp⟩ := h
  have c0 := ha.cell 0
  have f0 := ha.free 0
  have hli : (pre.length : Int) + 1 ≤ 100000 := by omega
  have hs := ha.set 0 (.int .i64 ((pre.length : Int) + 1))
  have hB := hb.setCell (p := ⟨p, 0, none⟩) hp (.int .i64 ((pre.length : Int) + 1))
  go_enter Tryd.func42, Tryd.ntmps42
  go_wp2
  go_ret
  refine .inl ⟨rfl, hB, ?_, by simpa using hl, hp⟩
  rw [List.length_append, List.length_singleton, Int.natCast_add]
  exact hs

set_option maxHeartbeats 1000000 in
set_option maxRecDepth 100000 in
theorem len_any (w : World) (v : Value) (l : List It) (h : TT w v l) (hs : Srt l) (hn : l.length ≤ 50000) :
    Calls Tryd.prog 17 #[v] w fun e w' => e = .returned (.int .i64 l.length) ∧ Below w.heap.size w w' := by
  obtain ⟨W0, hW0⟩ : ∃ W, W = w.alloc (.cells #[.int .i64 0] 3) := ⟨_, rfl⟩
  have B0 : Below w.heap.size w W0 := by rw [hW0]; exact (Below.refl _ w).alloc (Nat.le_refl _) _
  have A0 : Arr W0 w.heap.size 3 [.int .i64 0] := by rw [hW0]; exact heap_alloc_new w _
  have CS := shared_at w W0 v l h B0
  obtain ⟨po, rfl⟩ := h.ptr
  go_enter Tryd.func17, Tryd.ntmps17
  go_wp2_with fail
  rw [← hW0]
  clear hW0
  refine CS.mono ?_
  rintro e w1 ⟨q, rfl, hT, hw1⟩
  obtain rfl := hw1.symm
  have CW := walk_fuel w 42 #[.pointer (some ⟨w.heap.size, 0, none⟩)] (enters_of Tryd.func42 (by kernel_rfl) rfl) (CntI w w.heap.size) (fun _ => False) (fun _ => True) l
    (fun _ _ h => h.1) (fun _ h => h.elim) (fun pre W W' h hb => ⟨h.1.trans (hb.mono h.1.size), arr_below h.2.1 hb, h.2.2⟩) [] none 0 0 (Sl.nothing w)
    (fun pre W k y x hI _ hF _ _ _ _ _ => cnt_any w w.heap.size pre W k.val y.val x hI (by
      obtain ⟨post, e⟩ := hF
      have := congrArg List.length e
      simp only [List.length_append, List.length_cons] at this
      omega))
    l.length l (.pointer q) [] [] W0 (Nat.le_refl _) (by rw [ge_nil]; simp) hT hs (fun _ _ => trivial) (by omega) ⟨B0, A0, by simp, Nat.le_refl _⟩
  rw [List.nil_append, ge_nil] at CW
  clear CS hT
  go_wp2_with fail
  refine CW.mono ?_
  rintro e w2 (⟨rfl, hb, ha, -, -⟩ | ⟨-, hf⟩)
  · have c0 := ha.cell 0
    go_wp2
    go_ret
    exact ⟨rfl, hb⟩
  · exact hf.elim
end Go.Proofs.YtcepknjdiboinaaDoor

namespace Go.Proofs.YtcepknjdiboinaaDoor
open Go.RowKit

theorem sb_drop (t : ByteArray) : sb (t.extract 1 t.size) = (sb t).drop 1 := by
  unfold sb
  rw [ByteArray.data_extract, Array.toList_extract]
  simp
  refine List.take_of_length_le ?_
  rw [List.length_tail, List.length_map, Array.length_toList]
  exact Nat.le_refl _

set_option maxHeartbeats 1000000 in
set_option maxRecDepth 100000 in
theorem trimB_any (w : World) (s : ByteArray) (hs : s.size ≤ 1000000) :
    Calls Tryd.prog 83 #[.string s, .int .u8 48] w fun e w' => ∃ t, e = .returned (.string t) ∧ sb t = (sb s).dropWhile (fun c => c == 48) ∧ w' = w := by
  go_enter Tryd.func83, Tryd.ntmps83
  go_wp2
  go_loopw [0] (fun a wr => ∃ t : ByteArray, a = .string t ∧ t.size ≤ s.size ∧ wr = w ∧ (sb t).dropWhile (fun c => c == 48) = (sb s).dropWhile (fun c => c == 48)) (fun a _ => match a with | .string t => t.size | _ => 0)
  case atStart => exact ⟨s, rfl, Nat.le_refl _, rfl, rfl⟩
  case round =>
    obtain ⟨t, rfl, hle, rfl, hd⟩ := hrel
    have HD : Hid ((sb t).dropWhile (fun c => c == 48) = (sb s).dropWhile (fun c => c == 48)) := hd
    clear hd
    by_cases h0 : 0 < t.size
    · have h0' : (0 : Int) < (t.size : Int) := by omega
      have hat := sb_at t 0 h0
      rw [List.drop_zero, Nat.zero_add] at hat
      by_cases h1 : (t[0].toNat : Int) = 48
      · have hb : ((t[0].toNat : Int) == 48) = true := by simpa using h1
        have HE : Hid (sb t = (t[0].toNat : Int) :: (sb t).drop 1) := hat
        have H1 : Hid ((t[0].toNat : Int) = 48) := h1
        clear hat h1
        go_wp2
        refine ⟨⟨_, rfl, ?_, trivial, ?_⟩, ?_⟩
        · simp only [ByteArray.size_extract]
          omega
        · rw [sb_drop, ← HD.out]
          conv => rhs; rw [HE.out, H1.out]
          simp
        · simp only [ByteArray.size_extract]
          omega
      · have hb : ((t[0].toNat : Int) == 48) = false := by simpa using h1
        have HE : Hid ((sb t).dropWhile (fun c => c == 48) = sb t) := by
          show _ = _
          rw [hat, List.dropWhile_cons, hb]
          rfl
        clear hat h1
        go_wp2
        go_ret
        exact ⟨t, rfl, by rw [← HD.out, HE.out], rfl⟩
    · have h0' : ¬ (0 : Int) < (t.size : Int) := by omega
      have HE : Hid ((sb t).dropWhile (fun c => c == 48) = sb t) := by
        show _ = _
        have : sb t = [] := List.eq_nil_of_length_eq_zero (by rw [sb_len]; omega)
        rw [this]
        rfl
      go_wp2
      go_ret
      exact ⟨t, rfl, by rw [← HD.out, HE.out], rfl⟩

set_option maxHeartbeats 1000000 in
set_option maxRecDepth 100000 in
theorem trim_any (w : World) (s : ByteArray) (h0 : 0 < s.size) (hs : s.size ≤ 1000000) :
    Calls Tryd.prog 63 #[.string s, .string ⟨#[48]⟩] w fun e w' => ∃ t, e = .returned (.string t) ∧ sb t = (sb s).dropWhile (fun c => c == 48) ∧ w' = w := by
  have CT := trimB_any w s hs
  have he : s.toList.isEmpty = false := by
    rw [List.isEmpty_eq_false_iff]
    intro e
    have := congrArg List.length e
    rw [Lib.toList_data, Array.length_toList] at this
    have h2 : s.size = s.data.size := rfl
    simp at this
    rw [h2, this] at h0
    simp at h0
  have hz : (((⟨#[48]⟩ : ByteArray)[0]'(by decide)).toNat : Int) = 48 := rfl
  go_enter Tryd.func63, Tryd.ntmps63
  go_wp2_with fail
  refine CT.mono ?_
  rintro e w' ⟨t, rfl, ht, rfl⟩
  have HT : Hid (sb t = (sb s).dropWhile (fun c => c == 48)) := ht
  clear ht
  go_wp2
  go_ret
  exact ⟨t, rfl, HT.out, rfl⟩
end Go.Proofs.YtcepknjdiboinaaDoor

namespace Go.Proofs.YtcepknjdiboinaaDoor
open Go.RowKit Go.Shelf

attribute [local go_sem] Oper.semAt_some

/-- A slice of the call's own, as a string. -/
theorem conv_own {w : World} {base : Nat} {v : Value} {k : Nat} {xs : List Int} (h : w.ownsRow base 5 1 v k (bv xs)) : (convert 23 9 v).run Tryd.prog w = .ok (.string (strOfNums xs)) w := by
  have hl : xs.length = k := by have := h.1; rw [bv_length] at this; omega
  rcases h.2 with ⟨rfl, rfl⟩ | ⟨g, cap, cur, rfl, hg, hh, hle, hmx, hcs, htk⟩
  · obtain rfl : xs = [] := List.eq_nil_of_length_eq_zero hl
    exact run_convert_bytes_nil w 23 5 Tryd.underlying23 Tryd.underlying5 0 0 9 Tryd.underlying9
  · refine run_convert_bytes_arg w 23 5 Tryd.underlying23 Tryd.underlying5 g 0 k cap xs hl (fun i hi => ?_) 9 Tryd.underlying9
    have := h.cells (g := g) rfl i _ (bv_get xs i (by omega))
    simpa [add_at] using this

set_option maxRecDepth 100000 in
set_option maxHeartbeats 2000000 in
theorem hex_in (F : Fence) (n : Nat) (h3 : F.fn 61) (h4 : F.fn 77) (h5 : F.fn 101) (hro : F.round = none) (hn : 3 ≤ n) (ao : Option Addr) (m cap : Nat) (xs : List Int) (w : World) (hL : Sl w ao m cap xs) (hm : m ≤ 70368744177664) :
    CallsIn F n Tryd.prog 61 #[.slice ao m cap] w fun e w' => e = .returned (.string (strOfNums (hexL xs))) ∧ Below w.heap.size w w' := by
  have h1 : 1 ≤ n := by omega
  obtain ⟨i0, hi, hz0, hz1, hz2⟩ := info_parts u8info
  have hln := hL.len
  have hlow := hL.lt
  have hxl := hexL_len xs
  refine callsIn_of_wp_marks Tryd.func61 rfl h3 ?_ hro
  simp only [Tryd.ntmps61, List.size_toArray, List.length_cons, List.length_nil, Nat.reduceAdd, Nat.reduceSub, Array.replicate_succ, Array.replicate_zero, List.push_toArray, List.append_toArray, List.nil_append, List.cons_append]
  gi_wp2_with (first
    | (gi_at_make; refine wpListIn_make_own _ rfl _ _ 23 rfl w.heap.size 5 i0 (.int .u8 0) 1 Tryd.underlying23 hi hz0 hz1 _ _ _ (2 * m) rfl rfl (by omega) (by rw [hz2]; omega) (by unfold maxLen; omega) (Nat.le_refl _) ?_; intro w1 own1 g1; have B1 : Below w.heap.size w w1 := (Below.refl _ w).grown g1 (Nat.le_refl _) (by simp); have s1 := g1.size; clear g1)
    | (gi_at_call 77; refine (digits_in F (n - 1) h4 hro _ ao m cap rfl _).mono ?_; rintro e w' ⟨rfl, rfl⟩))
  have bO := Boxed.new w1 23 (.slice (some ⟨w.heap.size, 0, none⟩) 0 (2 * m))
  have bN := Boxed.new (w1.alloc (.cells #[.slice (some ⟨w.heap.size, 0, none⟩) 0 (2 * m)] 23)) 23 (.slice ao m cap)
  rw [World.size_alloc] at bN
  have hB0 : Below w.heap.size w ((w1.alloc (.cells #[.slice (some ⟨w.heap.size, 0, none⟩) 0 (2 * m)] 23)).alloc (.cells #[.slice ao m cap] 23)) := (B1.alloc s1 _).alloc (by simp; omega) _
  refine wpIn_rangeFunc_ownG hro h1 (gf := 101) (lb := #[.pointer (some ⟨w1.heap.size + 1, 0, none⟩)]) rfl h5 (enters_of Tryd.func101 (by kernel_rfl) rfl)
    (digits_stops F (n - 1) h5 hro (by omega) (w1.heap.size + 1) w.heap.size ao m cap xs _ (by simp) bN.cell (hL.below hB0) hlow) belowK_t (belowK_b (by simp; omega)) (Below.refl _ _) (fun _ => rfl)
    (fun pre W => (∃ v, Boxed W w1.heap.size 23 v ∧ W.ownsRow w.heap.size 5 1 v pre.length (bv pre) ∧ True) ∧ Below w.heap.size w W)
    (fun _ _ _ => False)
    (OwnFrom.and (Own.from (holdsRow_own w.heap.size w1.heap.size 23 5 1 (fun pre => List.length pre) (fun pre => bv pre) (fun _ _ => True)) _) (ownFrom_below (Nat.le_refl _) (by simp; omega)))
    (fun _ _ _ _ _ hs _ _ => hs)
    ⟨⟨_, bO.alloc _, (own1.alloc _).alloc _, trivial⟩, hB0⟩
    (fun x => { tmps := #[.slice ao m cap, undef, .string ⟨#[]⟩, .pointer (some ⟨w1.heap.size, 0, none⟩), .int .u8 x, .slice ao m cap, .int .i64 m, .int .i64 (2 * m), .slice (some ⟨w.heap.size, 0, none⟩) 0 (2 * m), .slice ao m cap, .func (.func 101) #[] #[.pointer (some ⟨w1.heap.size + 1, 0, none⟩)], .int .u8 x, undef, undef, undef, undef, undef, undef], defers := [] }) ?assign ?body ?done ?stop
  case assign =>
    intro l x W K hK
    gi_wp2
    exact hK
  case body =>
    rintro l pre x W ⟨⟨v, hv, hrow, _⟩, hB⟩ hlt
    have hc := hv.cell
    gi_wp2_with (gi_at_builtin; refine wpListIn_append_own _ rfl _ _ 23 rfl w.heap.size 5 i0 (.int .u8 0) 1 1 Tryd.underlying23 hi hz0 hz1 hz2 rfl (by decide) _ _ _ rfl (hrow.alloc _) ⟨W.heap.size, 0, none⟩ 1 1 [.int .u8 x] rfl rfl (cell_one_new _ _ _) (by simp [Value.oneCell']) (by unfold maxLen; omega) (by omega) (by have := hB.size; simp; omega) ?_; intro v' w2 hown' hgrow _; obtain ⟨g', cap', rfl⟩ := ownsRow_succ hown'; obtain ⟨hv1, hv2, hr2, hk2, hb2⟩ := hv.appended (by decide) hrow hB.size s1 hown' hgrow; have hc1 := hv1.cell; have hf1 := hv1.frozen)
    exact ⟨hk2.from _, hb2, ⟨_, hv2, by rw [bv_append, List.length_append]; exact hr2, trivial⟩, hB.trans hb2⟩
  case done =>
    rintro D ys W hD rfl ⟨⟨v, hv, hrow, _⟩, hB⟩ hK
    have hc := hv.cell
    have hcv := conv_own hrow
    gi_wp2
    refine ⟨by simp, .inl ⟨_, _, rfl, run_takeDeferred hK, ?_⟩⟩
    exact ⟨_, results_tmp rfl _ _ _, rfl, hB.trans (belowK_b (w := w) (Nat.le_refl _) W D _ _ (by simp at hD; omega) hK rfl rfl)⟩
  case stop =>
    rintro D c pre W _ _ h _
    exact h.elim

/-- Hex of whatever bytes. -/
theorem hex_any (w : World) (ao : Option Addr) (m cap : Nat) (xs : List Int) (hL : Sl w ao m cap xs) (hm : m ≤ 70368744177664) :
    Calls Tryd.prog 61 #[.slice ao m cap] w fun e w' => e = .returned (.string (strOfNums (hexL xs))) ∧ Below w.heap.size w w' :=
  (callsIn_wide (n := 3)).1 (hex_in Fence.wide 3 trivial trivial trivial rfl (Nat.le_refl _) ao m cap xs w hL hm)

end Go.Proofs.YtcepknjdiboinaaDoor

namespace Go.Proofs.YtcepknjdiboinaaDoor
open Go.RowKit

theorem below_drewN (w : World) (q B : Nat) : Below B w (w.drewN q) := ⟨rfl, rfl, rfl, Nat.le_refl _, fun _ _ => rfl⟩

theorem lists_of (n : Nat) (xs ys : List Int) (h1 : xs.length = n) (h2 : ys.length = n) (h : ∀ j, j < n → xs.getD j 0 = ys.getD j 0) : xs = ys := by
  apply List.ext_getElem (by omega)
  intro j hj hj2
  have := h j (by omega)
  simpa [List.getD, hj, hj2] using this

/-- Where an element is read the slice has an address without a spot. -/
theorem Sl.at {w : World} {ao : Option Addr} {n cap : Nat} {xs : List Int} (h : Sl w ao n cap xs) (hn : 0 < n) :
    ∃ b off, ao = some ⟨b, off, none⟩ ∧ ∀ i, i < n → w.cell? ⟨b, off + i, none⟩ = some (.int .u8 (xs.getD i 0)) := by
  cases ao with
  | none => have := (h.nil rfl).1; omega
  | some a =>
    obtain ⟨b, off, spot⟩ := a
    have hc := h.cell _ rfl 0 hn
    have hs : spot = none := by simpa [Addr.add] using World.cell?_spot hc
    subst hs
    exact ⟨b, off, rfl, fun i hi => by have := h.cell _ rfl i hi; rw [Addr.add_lit] at this; exact this⟩

set_option maxHeartbeats 800000 in
theorem same_any (w : World) (ao bo : Option Addr) (n cap m cap2 : Nat) (xs ys : List Int) (h : Sl w ao n cap xs) (h2 : Sl w bo m cap2 ys) :
    Calls Tryd.prog 16 #[.slice ao n cap, .slice bo m cap2] w fun e w' =>
      e = .returned (.bool (decide (xs = ys))) ∧ ∃ q, w' = w.drewN q := by
  have hl := h.len
  have hl2 := h2.len
  have hle := h.le
  have hmx := h.mx
  unfold maxLen at hmx
  by_cases hnm : n = m
  · subst hnm
    have hne : ((n : Int) != (n : Int)) = false := by simp
    go_enter Tryd.func16, Tryd.ntmps16
    go_wp2
    go_loopw [5] (fun i wr => ∃ k q : Nat, k ≤ n ∧ i = .int .i64 k ∧ wr = w.drewN q ∧ ∀ j, j < k → xs.getD j 0 = ys.getD j 0) (fun i _ => n - (intOf i).toNat)
    case atStart => exact ⟨0, 0, Nat.zero_le _, rfl, rfl, fun j hj => by omega⟩
    case round =>
      obtain ⟨k, q, hk, rfl, rfl, heq⟩ := hrel
      by_cases hlt : k < n
      · obtain ⟨b, off, rfl, hc⟩ := h.at (by omega)
        obtain ⟨b2, off2, rfl, hc2⟩ := h2.at (by omega)
        have c1 := hc k hlt
        have c2 := hc2 k hlt
        have hlt1 : (k : Int) < (n : Int) := by omega
        clear hc hc2
        have k1 : k < xs.length := by omega
        have k2 : k < ys.length := by omega
        by_cases he : xs[k] = ys[k]
        · have hb : (xs[k] != ys[k]) = false := by simp [he]
          have hE : Hid (xs[k] = ys[k]) := he
          clear he
          go_wp2
          go_quiet (fail)
          go_wp2
          go_roundw
          case rel =>
            refine ⟨k + 1, _, by omega, by go_num, rfl, fun j hj => ?_⟩
            by_cases hjk : j < k
            · exact heq j hjk
            · obtain rfl : j = k := by omega
              simpa [List.getD, k1, k2] using hE.out
          case measure => simp [intOf]; omega
        · have hb : (xs[k] != ys[k]) = true := by simp [he]
          have hE : Hid (¬ xs[k] = ys[k]) := he
          clear he
          go_wp2
          go_quiet (fail)
          go_wp2
          go_ret
          have hd : decide (xs = ys) = false := decide_eq_false (fun hx => by subst hx; exact hE.out rfl)
          rw [hd, World.drewN_drewN]
          exact ⟨rfl, _, rfl⟩
      · obtain rfl : k = n := by omega
        go_wp2
        go_ret
        have hd : decide (xs = ys) = true := decide_eq_true (lists_of k xs ys hl hl2 heq)
        rw [hd]
        exact ⟨rfl, _, rfl⟩
  · have hne : ((n : Int) != (m : Int)) = true := by simp; omega
    go_enter Tryd.func16, Tryd.ntmps16
    go_wp2
    go_ret
    have hd : decide (xs = ys) = false := decide_eq_false (fun hx => by subst hx; omega)
    rw [hd]
    exact ⟨rfl, 0, rfl⟩
end Go.Proofs.YtcepknjdiboinaaDoor

namespace Go.Proofs.YtcepknjdiboinaaDoor
open Go.RowKit

theorem str_append (xs ys : List Int) : strOfNums xs ++ strOfNums ys = strOfNums (xs ++ ys) := by
  apply ByteArray.ext
  simp [strOfNums]

theorem below_chain {n : Nat} {w a b c : World} (h : Below n w a) (k : Below b.heap.size b c) (e1 : b.heap = a.heap) (e2 : b.os = a.os) (e3 : b.tape = a.tape) (e4 : b.output = a.output) (hn : n ≤ a.heap.size) : Below n w c :=
  ⟨(k.os.trans e2).trans h.os, (k.tape.trans e3).trans h.tape, (k.output.trans e4).trans h.output, Nat.le_trans h.size (by have := k.size; rw [e1] at this; exact this), fun i hi => (k.block i (by rw [e1]; omega)).trans (by rw [e1]; exact h.block i hi)⟩

/-- A slice that reads as some bytes, as a string. -/
theorem conv_sl {w : World} {b o n cap : Nat} {xs : List Int} (h : Sl w (some ⟨b, o, none⟩) n cap xs) : (convert 23 9 (.slice (some ⟨b, o, none⟩) n cap)).run Tryd.prog w = .ok (.string (strOfNums xs)) w := by
  refine run_convert_bytes_arg w 23 5 Tryd.underlying23 Tryd.underlying5 b o n cap xs h.len (fun i hi => ?_) 9 Tryd.underlying9
  have := h.cell _ rfl i hi
  rwa [add_at] at this

set_option maxRecDepth 100000 in
set_option maxHeartbeats 1000000 in
theorem rdigit_any (c : Int) (hc : 0 ≤ c ∧ c < 16) (w : World) :
    Calls Tryd.prog 87 #[.int .u8 c] w fun e w' => e = .returned (.string (strOfNums [dg c])) ∧ Below w.heap.size w w' := by
  have c0 := hc.1
  have c1 := hc.2
  by_cases h10 : c < 10
  · have e : dg c = 48 + c := by simp [dg, h10]
    have hcv := conv_sl (Sl.one w (48 + c) (by omega))
    rw [e]
    clear e
    go_enter Tryd.func87, Tryd.ntmps87
    go_wp2
    go_ret
    exact ⟨rfl, (Below.refl _ w).alloc (Nat.le_refl _) _⟩
  · have e : dg c = 97 + c - 10 := by simp only [dg, h10, if_false]; omega
    have hcv := conv_sl (Sl.one w (97 + c - 10) (by omega))
    have h10' : (10 : Int) ≤ c := by omega
    rw [e]
    clear e h10
    go_enter Tryd.func87, Tryd.ntmps87
    go_wp2
    go_ret
    exact ⟨rfl, (Below.refl _ w).alloc (Nat.le_refl _) _⟩

set_option maxRecDepth 100000 in
set_option maxHeartbeats 2000000 in
theorem rhex_any (w : World) (ao : Option Addr) (m cap : Nat) (xs : List Int) (hL : Sl w ao m cap xs) (hm : m ≤ 70368744177664) :
    Calls Tryd.prog 67 #[.slice ao m cap] w fun e w' => e = .returned (.string (strOfNums (hexL xs))) ∧ Below w.heap.size w w' := by
  have hln := hL.len
  have hmi : (m : Int) ≤ 70368744177664 := by omega
  go_enter Tryd.func67, Tryd.ntmps67
  go_wp2
  go_loopw [3, 4] (fun s i wr => ∃ k : Nat, k ≤ m ∧ i = .int .i64 k ∧ s = .string (strOfNums (hexL (xs.take k))) ∧ Below w.heap.size w wr) (fun _ i _ => m - (intOf i).toNat)
  case atStart => exact ⟨0, by omega, rfl, rfl, Below.refl _ _⟩
  case round =>
    obtain ⟨k, hk, rfl, rfl, hB⟩ := hrel
    by_cases hlt : k < m
    · have hki : (k : Int) < (m : Int) := by omega
      obtain ⟨b, off, rfl, hcl⟩ := hL.at (by omega)
      have c0 := hcl k hlt
      have hbl : b < w.heap.size := World.block_lt_of_cell? w _ c0
      have hb := hL.byte.at k
      have HS : Hid (hexL (xs.take (k + 1)) = hexL (xs.take k) ++ [dg (xs.getD k 0 / 16)] ++ [dg (xs.getD k 0 % 16)]) := hexL_succ xs k (by omega)
      have hbe : xs[k]?.getD 0 = xs.getD k 0 := rfl
      rw [hbe] at hb
      obtain ⟨x, hx⟩ : ∃ x, x = xs.getD k 0 := ⟨_, rfl⟩
      rw [← hx] at c0 hb HS
      clear hbe hx hcl
      have b0 := hb.1
      have b1 := hb.2
      have cw : wr.cell? ⟨b, off + k, none⟩ = some (.int .u8 x) := (hB.cell (p := ⟨b, off + k, none⟩) hbl).trans c0
      have q1 : IntKind.u8.wrap (x.tdiv 16) = x / 16 := by
        rw [IntKind.wrap_u8', Int.tdiv_eq_ediv_of_nonneg b0]
        omega
      have q2 : x.tmod 16 = x % 16 := Int.tmod_eq_emod_of_nonneg b0
      have q3 : IntKind.u8.wrap (x % 16) = x % 16 := by
        rw [IntKind.wrap_u8']
        omega
      obtain ⟨S0, hS0⟩ : ∃ S, S = strOfNums (hexL (xs.take k)) := ⟨_, rfl⟩
      have z0 : S0.size ≤ 140737488355328 := by rw [hS0, strOfNums_size, hexL_take_len _ _ (by omega)]; omega
      have a1 : ∀ w, (Op.stringOp .add S0 (strOfNums [dg (x / 16)])).run Tryd.prog w = .ok (.string (S0 ++ strOfNums [dg (x / 16)])) w := fun w => run_string_add_sum w _ _ (by rw [strOfNums_size, List.length_singleton]; omega)
      have a2 : ∀ w, (Op.stringOp .add (S0 ++ strOfNums [dg (x / 16)]) (strOfNums [dg (x % 16)])).run Tryd.prog w = .ok (.string (S0 ++ strOfNums [dg (x / 16)] ++ strOfNums [dg (x % 16)])) w := fun w => run_string_add_sum w _ _ (by rw [ByteArray.size_append, strOfNums_size, strOfNums_size, List.length_singleton, List.length_singleton]; omega)
      rw [← hS0]
      have HS0 : Hid (S0 = _) := hS0
      clear hS0
      go_wp2_with fail
      go_region_held3 (fun w' => w'.cell? ⟨b, off + k, none⟩ = some (.int .u8 x))
        (first | go_keep | assumption)
        (first | (go_at_call 87; (try rw [q1]); (try rw [q2]); refine (rdigit_any _ (by omega) _).mono ?_; rintro e w2 ⟨rfl, C2⟩; first | (have hB2 := below_chain hB C2 rfl rfl rfl rfl hB.size; clear hB C2; have c2 := (hB2.cell (p := ⟨b, off + k, none⟩) hbl).trans c0) | (have hB3 := below_chain hB2 C2 rfl rfl rfl rfl hB2.size; clear hB2 C2; have c3 := (hB3.cell (p := ⟨b, off + k, none⟩) hbl).trans c0)))
      go_wp2
      go_roundw
      case rel =>
        refine ⟨k + 1, by omega, by go_num, ?_, hB3⟩
        rw [HS.out, HS0.out, str_append, str_append]
      case measure => simp [intOf]; omega
    · have hge : (m : Int) ≤ (k : Int) := by omega
      have e : xs.take k = xs := List.take_of_length_le (by omega)
      rw [e]
      clear e
      go_wp2
      go_ret
      exact ⟨rfl, hB⟩

end Go.Proofs.YtcepknjdiboinaaDoor

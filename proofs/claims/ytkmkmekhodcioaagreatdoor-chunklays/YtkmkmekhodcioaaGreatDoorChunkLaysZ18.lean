/-
  Texts in one: PEqual, PTrim, Hex, PLevel.
-/
import Derived.Test.YtkmkmekhodcioaaGreatDoorChunkLaysZ10
import Derived.Test.YtkmkmekhodcioaaGreatDoorChunkLaysZ2
import Derived.Lib.Strings
import Derived.Laws.BytesArg
namespace Go.Proofs.YtkmkmekhodcioaaGreatDoor
open Go.RowKit

theorem str_eq {xs ys : List Int} (hx : Byt xs) (hy : Byt ys) : strOfNums xs = strOfNums ys ↔ xs = ys := by
  constructor
  · intro h
    have := congrArg sb h
    rwa [sb_str hx, sb_str hy] at this
  · exact fun h => by rw [h]

set_option maxHeartbeats 400000 in
set_option maxRecDepth 100000 in
theorem bequal_any (w : World) (ao bo : Option Addr) (n cap m cap2 : Nat) (xs ys : List Int) (h : Sl w ao n cap xs) (h2 : Sl w bo m cap2 ys) (b : Bool) (hb : b = true ↔ xs = ys) :
    Calls Tryz.prog 24 #[.slice ao n cap, .slice bo m cap2] w fun e w' => e = .returned (.bool b) ∧ w' = w := by
  have c1 := conv_str h
  have c2 := conv_str h2
  have hq : ((strOfNums xs).toList == (strOfNums ys).toList) = b := by
    rw [Bool.eq_iff_iff, hb, ← str_eq h.byte h2.byte, beq_iff_eq, ByteArray.toList_eq, ByteArray.toList_eq]
    exact ⟨fun e => ByteArray.ext (Array.toList_inj.1 e), fun e => by rw [e]⟩
  obtain ⟨s, hs⟩ : ∃ s, s = strOfNums xs := ⟨_, rfl⟩
  obtain ⟨t, ht⟩ : ∃ t, t = strOfNums ys := ⟨_, rfl⟩
  rw [← hs] at c1 hq
  rw [← ht] at c2 hq
  clear hs ht hb h h2
  go_enter Tryz.func24, Tryz.ntmps24
  go_wp2
  go_ret
  exact ⟨rfl, rfl⟩
theorem bequal_b (w : World) (ao bo : Option Addr) (n cap m cap2 : Nat) (xs ys : List Int) (h : Sl w ao n cap xs) (h2 : Sl w bo m cap2 ys) (b : Bool) (hb : b = true ↔ xs = ys) :
    Calls Tryz.prog 24 #[.slice ao n cap, .slice bo m cap2] w fun e w' => e = .returned (.bool b) ∧ Below w.heap.size w w' :=
  (bequal_any w ao bo n cap m cap2 xs ys h h2 b hb).mono fun _ _ ⟨he, hw⟩ => ⟨he, by rw [hw]; exact Below.refl _ _⟩
end Go.Proofs.YtkmkmekhodcioaaGreatDoor

namespace Go.Proofs.YtkmkmekhodcioaaGreatDoor
open Go.RowKit

theorem sb_drop (t : ByteArray) : sb (t.extract 1 t.size) = (sb t).drop 1 := by
  unfold sb
  rw [ByteArray.data_extract, Array.toList_extract]
  simp
  refine List.take_of_length_le ?_
  rw [List.length_tail, List.length_map, Array.length_toList]
  exact Nat.le_refl _

set_option maxHeartbeats 1000000 in
set_option maxRecDepth 100000 in
theorem trimB_any (w : World) (s : ByteArray) (hs : s.size ≤ 1000000) :
    Calls Tryz.prog 88 #[.string s, .int .u8 48] w fun e w' => ∃ t, e = .returned (.string t) ∧ sb t = (sb s).dropWhile (fun c => c == 48) ∧ w' = w := by
  go_enter Tryz.func88, Tryz.ntmps88
  go_wp2
  go_loopw [0] (fun a wr => ∃ t : ByteArray, a = .string t ∧ t.size ≤ s.size ∧ wr = w ∧ (sb t).dropWhile (fun c => c == 48) = (sb s).dropWhile (fun c => c == 48)) (fun a _ => match a with | .string t => t.size | _ => 0)
  case atStart => exact ⟨s, rfl, Nat.le_refl _, rfl, rfl⟩
  case round =>
    obtain ⟨t, rfl, hle, rfl, hd⟩ := hrel
    have HD : Hid ((sb t).dropWhile (fun c => c == 48) = (sb s).dropWhile (fun c => c == 48)) := hd
    clear hd
    by_cases h0 : 0 < t.size
    · have h0' : (0 : Int) < (t.size : Int) := by omega
      have hat := sb_at t 0 h0
      rw [List.drop_zero, Nat.zero_add] at hat
      by_cases h1 : (t[0].toNat : Int) = 48
      · have hb : ((t[0].toNat : Int) == 48) = true := by simpa using h1
        have HE : Hid (sb t = (t[0].toNat : Int) :: (sb t).drop 1) := hat
        have H1 : Hid ((t[0].toNat : Int) = 48) := h1
        clear hat h1
        go_wp2
        refine ⟨⟨_, rfl, ?_, trivial, ?_⟩, ?_⟩
        · simp only [ByteArray.size_extract]
          omega
        · rw [sb_drop, ← HD.out]
          conv => rhs; rw [HE.out, H1.out]
          simp
        · simp only [ByteArray.size_extract]
          omega
      · have hb : ((t[0].toNat : Int) == 48) = false := by simpa using h1
        have HE : Hid ((sb t).dropWhile (fun c => c == 48) = sb t) := by
          show _ = _
          rw [hat, List.dropWhile_cons, hb]
          rfl
        clear hat h1
        go_wp2
        go_ret
        exact ⟨t, rfl, by rw [← HD.out, HE.out], rfl⟩
    · have h0' : ¬ (0 : Int) < (t.size : Int) := by omega
      have HE : Hid ((sb t).dropWhile (fun c => c == 48) = sb t) := by
        show _ = _
        have : sb t = [] := List.eq_nil_of_length_eq_zero (by rw [sb_len]; omega)
        rw [this]
        rfl
      go_wp2
      go_ret
      exact ⟨t, rfl, by rw [← HD.out, HE.out], rfl⟩

set_option maxHeartbeats 1000000 in
set_option maxRecDepth 100000 in
theorem trim_any (w : World) (s : ByteArray) (h0 : 0 < s.size) (hs : s.size ≤ 1000000) :
    Calls Tryz.prog 62 #[.string s, .string ⟨#[48]⟩] w fun e w' => ∃ t, e = .returned (.string t) ∧ sb t = (sb s).dropWhile (fun c => c == 48) ∧ w' = w := by
  have CT := trimB_any w s hs
  have he : s.toList.isEmpty = false := by
    rw [List.isEmpty_eq_false_iff]
    intro e
    have := congrArg List.length e
    rw [Lib.toList_data, Array.length_toList] at this
    have h2 : s.size = s.data.size := rfl
    simp at this
    rw [h2, this] at h0
    simp at h0
  have hz : (((⟨#[48]⟩ : ByteArray)[0]'(by decide)).toNat : Int) = 48 := rfl
  go_enter Tryz.func62, Tryz.ntmps62
  go_wp2_with fail
  refine CT.mono ?_
  rintro e w' ⟨t, rfl, ht, rfl⟩
  have HT : Hid (sb t = (sb s).dropWhile (fun c => c == 48)) := ht
  clear ht
  go_wp2
  go_ret
  exact ⟨t, rfl, HT.out, rfl⟩
end Go.Proofs.YtkmkmekhodcioaaGreatDoor

namespace Go.Proofs.YtkmkmekhodcioaaGreatDoor
open Go.RowKit Go.Shelf

attribute [local go_sem] Oper.semAt_some

/-- A slice of the call's own, as a string. -/
theorem conv_own {w : World} {base : Nat} {v : Value} {k : Nat} {xs : List Int} (h : w.ownsRow base 5 1 v k (bv xs)) : (convert 23 9 v).run Tryz.prog w = .ok (.string (strOfNums xs)) w := by
  have hl : xs.length = k := by have := h.1; rw [bv_length] at this; omega
  rcases h.2 with ⟨rfl, rfl⟩ | ⟨g, cap, cur, rfl, hg, hh, hle, hmx, hcs, htk⟩
  · obtain rfl : xs = [] := List.eq_nil_of_length_eq_zero hl
    exact run_convert_bytes_nil w 23 5 Tryz.underlying23 Tryz.underlying5 0 0 9 Tryz.underlying9
  · refine run_convert_bytes_arg w 23 5 Tryz.underlying23 Tryz.underlying5 g 0 k cap xs hl (fun i hi => ?_) 9 Tryz.underlying9
    have := h.cells (g := g) rfl i _ (bv_get xs i (by omega))
    simpa [add_at] using this

set_option maxRecDepth 100000 in
set_option maxHeartbeats 2000000 in
theorem hex_in (F : Fence) (n : Nat) (h3 : F.fn 60) (h4 : F.fn 84) (h5 : F.fn 109) (hro : F.round = none) (hn : 3 ≤ n) (ao : Option Addr) (m cap : Nat) (xs : List Int) (w : World) (hL : Sl w ao m cap xs) (hm : m ≤ 70368744177664) :
    CallsIn F n Tryz.prog 60 #[.slice ao m cap] w fun e w' => e = .returned (.string (strOfNums (hexL xs))) ∧ Below w.heap.size w w' := by
  have h1 : 1 ≤ n := by omega
  obtain ⟨i0, hi, hz0, hz1, hz2⟩ := info_parts u8info
  have hln := hL.len
  have hlow := hL.lt
  have hxl := hexL_len xs
  refine callsIn_of_wp_marks Tryz.func60 rfl h3 ?_ hro
  simp only [Tryz.ntmps60, List.size_toArray, List.length_cons, List.length_nil, Nat.reduceAdd, Nat.reduceSub, Array.replicate_succ, Array.replicate_zero, List.push_toArray, List.append_toArray, List.nil_append, List.cons_append]
  gi_wp2_with (first
    | (gi_at_make; refine wpListIn_make_own _ rfl _ _ 23 rfl w.heap.size 5 i0 (.int .u8 0) 1 Tryz.underlying23 hi hz0 hz1 _ _ _ (2 * m) rfl rfl (by omega) (by rw [hz2]; omega) (by unfold maxLen; omega) (Nat.le_refl _) ?_; intro w1 own1 g1; have B1 : Below w.heap.size w w1 := (Below.refl _ w).grown g1 (Nat.le_refl _) (by simp); have s1 := g1.size; clear g1)
    | (gi_at_call 84; refine (digits_in F (n - 1) h4 hro _ ao m cap rfl _).mono ?_; rintro e w' ⟨rfl, rfl⟩))
  have bO := Boxed.new w1 23 (.slice (some ⟨w.heap.size, 0, none⟩) 0 (2 * m))
  have bN := Boxed.new (w1.alloc (.cells #[.slice (some ⟨w.heap.size, 0, none⟩) 0 (2 * m)] 23)) 23 (.slice ao m cap)
  rw [World.size_alloc] at bN
  have hB0 : Below w.heap.size w ((w1.alloc (.cells #[.slice (some ⟨w.heap.size, 0, none⟩) 0 (2 * m)] 23)).alloc (.cells #[.slice ao m cap] 23)) := (B1.alloc s1 _).alloc (by simp; omega) _
  refine wpIn_rangeFunc_ownG hro h1 (gf := 109) (lb := #[.pointer (some ⟨w1.heap.size + 1, 0, none⟩)]) rfl h5 (enters_of Tryz.func109 (by kernel_rfl) rfl)
    (digits_stops F (n - 1) h5 hro (by omega) (w1.heap.size + 1) w.heap.size ao m cap xs _ (by simp) bN.cell (hL.below hB0) hlow) belowK_t (belowK_b (by simp; omega)) (Below.refl _ _) (fun _ => rfl)
    (fun pre W => (∃ v, Boxed W w1.heap.size 23 v ∧ W.ownsRow w.heap.size 5 1 v pre.length (bv pre) ∧ True) ∧ Below w.heap.size w W)
    (fun _ _ _ => False)
    (OwnFrom.and (Own.from (holdsRow_own w.heap.size w1.heap.size 23 5 1 (fun pre => List.length pre) (fun pre => bv pre) (fun _ _ => True)) _) (ownFrom_below (Nat.le_refl _) (by simp; omega)))
    (fun _ _ _ _ _ hs _ _ => hs)
    ⟨⟨_, bO.alloc _, (own1.alloc _).alloc _, trivial⟩, hB0⟩
    (fun x => { tmps := #[.slice ao m cap, undef, .string ⟨#[]⟩, .pointer (some ⟨w1.heap.size, 0, none⟩), .int .u8 x, .slice ao m cap, .int .i64 m, .int .i64 (2 * m), .slice (some ⟨w.heap.size, 0, none⟩) 0 (2 * m), .slice ao m cap, .func (.func 109) #[] #[.pointer (some ⟨w1.heap.size + 1, 0, none⟩)], .int .u8 x, undef, undef, undef, undef, undef, undef], defers := [] }) ?assign ?body ?done ?stop
  case assign =>
    intro l x W K hK
    gi_wp2
    exact hK
  case body =>
    rintro l pre x W ⟨⟨v, hv, hrow, _⟩, hB⟩ hlt
    have hc := hv.cell
    gi_wp2_with (gi_at_builtin; refine wpListIn_append_own _ rfl _ _ 23 rfl w.heap.size 5 i0 (.int .u8 0) 1 1 Tryz.underlying23 hi hz0 hz1 hz2 rfl (by decide) _ _ _ rfl (hrow.alloc _) ⟨W.heap.size, 0, none⟩ 1 1 [.int .u8 x] rfl rfl (cell_one_new _ _ _) (by simp [Value.oneCell']) (by unfold maxLen; omega) (by omega) (by have := hB.size; simp; omega) ?_; intro v' w2 hown' hgrow _; obtain ⟨g', cap', rfl⟩ := ownsRow_succ hown'; obtain ⟨hv1, hv2, hr2, hk2, hb2⟩ := hv.appended (by decide) hrow hB.size s1 hown' hgrow; have hc1 := hv1.cell; have hf1 := hv1.frozen)
    exact ⟨hk2.from _, hb2, ⟨_, hv2, by rw [bv_append, List.length_append]; exact hr2, trivial⟩, hB.trans hb2⟩
  case done =>
    rintro D ys W hD rfl ⟨⟨v, hv, hrow, _⟩, hB⟩ hK
    have hc := hv.cell
    have hcv := conv_own hrow
    gi_wp2
    refine ⟨by simp, .inl ⟨_, _, rfl, run_takeDeferred hK, ?_⟩⟩
    exact ⟨_, results_tmp rfl _ _ _, rfl, hB.trans (belowK_b (w := w) (Nat.le_refl _) W D _ _ (by simp at hD; omega) hK rfl rfl)⟩
  case stop =>
    rintro D c pre W _ _ h _
    exact h.elim

/-- Hex of whatever bytes. -/
theorem hex_any (w : World) (ao : Option Addr) (m cap : Nat) (xs : List Int) (hL : Sl w ao m cap xs) (hm : m ≤ 70368744177664) :
    Calls Tryz.prog 60 #[.slice ao m cap] w fun e w' => e = .returned (.string (strOfNums (hexL xs))) ∧ Below w.heap.size w w' :=
  (callsIn_wide (n := 3)).1 (hex_in Fence.wide 3 trivial trivial trivial rfl (Nat.le_refl _) ao m cap xs w hL hm)

end Go.Proofs.YtkmkmekhodcioaaGreatDoor

namespace Go.Proofs.YtkmkmekhodcioaaGreatDoor
open Go.RowKit

theorem dg_byte {x : Int} (h : 0 ≤ x ∧ x < 16) : 0 ≤ dg x ∧ dg x ≤ 255 := by
  unfold dg
  split <;> omega
theorem hexL_byte {xs : List Int} (h : Byt xs) : Byt (hexL xs) := by
  intro y hy
  simp only [hexL, List.mem_flatMap, List.mem_cons, List.not_mem_nil, or_false] at hy
  obtain ⟨x, hx, hy⟩ := hy
  have := h x hx
  rcases hy with rfl | rfl
  · exact dg_byte (by omega)
  · exact dg_byte (by omega)
theorem take_drop_while {α : Type} (p : α → Bool) : ∀ l : List α, (l.takeWhile p).length + (l.dropWhile p).length = l.length
  | [] => rfl
  | a :: l => by
    have := take_drop_while p l
    rw [List.takeWhile_cons, List.dropWhile_cons]
    split <;> simp only [List.length_cons, List.length_nil] <;> omega
theorem pl_one (w : World) (ao : Option Addr) (n cap : Nat) (xs : List Int) (h : Sl w ao n cap xs) (t : TypeId) : PL (w.alloc (.cells #[.slice ao n cap] t)) (some ⟨w.heap.size, 0, none⟩) 1 1 [⟨ao, n, cap, xs⟩] := by
  have B : Below w.heap.size w (w.alloc (.cells #[.slice ao n cap] t)) := (Below.refl _ w).alloc (Nat.le_refl _) _
  refine (KL.mk ?_ ?_).pl
  · exact VL.new w [.slice ao n cap] t (by simp [maxLen])
  · intro q hq
    rw [List.mem_singleton.1 hq]
    exact h.below B

theorem wrap_lev (k : List Int) : IntKind.i64.wrap (lev k : Int) = lev k := by
  have := lev_le k
  simp [IntKind.wrap, IntKind.bits, IntKind.signed]
  omega

set_option maxHeartbeats 1000000 in
set_option maxRecDepth 100000 in
theorem level_any (w : World) (ao : Option Addr) (n cap : Nat) (xs : List Int) (hT : Tabs w) (h : Sl w ao n cap xs) (hn : n ≤ 1000000) :
    Calls Tryz.prog 30 #[.slice ao n cap] w fun e w' => e = .returned (.int .i64 (lev xs)) ∧ Below w.heap.size w w' := by
  have h2 := hT.two
  have B0 : Below w.heap.size w (w.alloc (.cells #[.slice ao n cap] 23)) := (Below.refl _ w).alloc (Nat.le_refl _) _
  have P0 := pl_one w ao n cap xs h 23
  obtain ⟨D, hD⟩ : ∃ D, D = sumL (formL (sb lvS) [xs]) := ⟨_, rfl⟩
  have hDl : D.length = 32 := by rw [hD]; exact sumL_len _
  have hDb : Byt D := by rw [hD]; exact sumL_byte _
  have CO := of_any _ lvS (some ⟨w.heap.size, 0, none⟩) 1 1 [⟨ao, n, cap, xs⟩] P0 (hT.below B0 h2) (by decide) (by decide) (by intro q hq; rw [List.mem_singleton.1 hq]; exact hn)
  rw [show formL (sb lvS) (pxs [⟨ao, n, cap, xs⟩]) = formL (sb lvS) [xs] from rfl, ← hD] at CO
  have HL : Hid (lev xs = ((hexL D).takeWhile fun c => c == 48).length) := by show _ = _; rw [hD]; rfl
  clear hD
  go_enter Tryz.func30, Tryz.ntmps30
  go_wp2_with fail
  refine CO.mono ?_
  rintro e w1 ⟨v1, rfl, own1, C1⟩
  obtain ⟨fo, fc, rfl, S1, -⟩ := Sl.own own1 hDb
  have B1 : Below w.heap.size w w1 := B0.trans (C1.mono B0.size)
  clear own1 C1 CO P0 B0
  go_wp2_with fail
  refine (hex_any w1 fo 32 fc D S1 (by decide)).mono ?_
  rintro e w2 ⟨rfl, C2⟩
  have B2 : Below w.heap.size w w2 := B1.trans (C2.mono B1.size)
  obtain ⟨H, hH⟩ : ∃ H, H = strOfNums (hexL D) := ⟨_, rfl⟩
  have hs : H.size = 64 := by rw [hH, strOfNums_size, hexL_len, hDl]
  have hsb : Hid (sb H = hexL D) := by show _ = _; rw [hH]; exact sb_str (hexL_byte hDb)
  rw [← hH]
  clear hH C2 S1 B1
  have CT := trim_any w2 H (by omega) (by omega)
  have HS : Hid (H.size = 64) := hs
  clear hs
  go_wp2_with fail
  refine CT.mono ?_
  rintro e w3 ⟨t, rfl, ht, rfl⟩
  have htl := take_drop_while (fun c : Int => c == 48) (hexL D)
  rw [hsb.out] at ht
  rw [← ht, sb_len, ← hsb.out, sb_len, hsb.out, HS.out, ← HL.out] at htl
  have HZ : Hid ((H.size : Int) - t.size = lev xs) := by
    show _ = _
    rw [HS.out]
    omega
  have hw : IntKind.i64.wrap ((H.size : Int) - t.size) = (H.size : Int) - t.size := by
    rw [HZ.out]
    exact wrap_lev xs
  clear htl ht CT
  go_wp2
  go_ret
  refine ⟨?_, B2⟩
  show Ending.returned (.int .i64 ((H.size : Int) - t.size)) = _
  rw [HZ.out]

end Go.Proofs.YtkmkmekhodcioaaGreatDoor

/-
  Texts in one: CConv, PEqual, PTrim, Hex, PLevel, PMake, CkLay, CkBackM, SlConst, CkAlive, RefForms, RCutM.
-/
import Derived.Test.YtiabdcejibeciaaGreatDoorChunkCutsZ3
import Derived.Laws.BytesArg
import Derived.Laws.IdiomStrings
import Derived.Lib.Strings
import Derived.Test.YtiabdcejibeciaaGreatDoorChunkCutsZ13
import Derived.Test.YtiabdcejibeciaaGreatDoorChunkCutsZ14
import Derived.Test.YtiabdcejibeciaaGreatDoorChunkCutsZ5
import Derived.Laws.MakeOwn
import Derived.Test.YtiabdcejibeciaaGreatDoorChunkCutsZ12
import Derived.Test.YtiabdcejibeciaaGreatDoorChunkCutsZ0
import Derived.Lib.SlBytesConst
import Derived.Test.YtiabdcejibeciaaGreatDoorChunkCutsZ11
import Derived.Lib.SmallJoins
namespace Go.Proofs.YtiabdcejibeciaaGreatDoor
open Go.RowKit

theorem sb_str {xs : List Int} (h : Byt xs) : sb (strOfNums xs) = xs := by
  unfold sb
  rw [strOfNums_data, List.map_map]
  refine (List.map_congr_left fun x hx => ?_).trans (List.map_id xs)
  have := h x hx
  simp only [Function.comp_apply, id_eq, UInt8.toNat_ofNat']
  omega
theorem conv_str {w : World} {ao : Option Addr} {n cap : Nat} {xs : List Int} (h : Sl w ao n cap xs) : (convert 30 9 (.slice ao n cap)).run Tryz.prog w = .ok (.string (strOfNums xs)) w := by
  cases ao with
  | none =>
    obtain ⟨rfl, rfl⟩ := h.nil rfl
    obtain rfl : xs = [] := List.eq_nil_of_length_eq_zero h.len
    exact run_convert_bytes_nil w _ _ Tryz.underlying30 Tryz.underlying5 _ _ _ Tryz.underlying9
  | some a =>
    have hl := h.len
    have hc := run_convert_bytes_back (P := Tryz.prog) w 30 9 5 a cap (xs.map fun n => UInt8.ofNat n.toNat) Tryz.underlying30 Tryz.underlying5 Tryz.underlying9 (fun j hj => by
      have hj' : j < xs.length := by simpa using hj
      have hb := h.byte xs[j] (List.getElem_mem hj')
      rw [h.cells a rfl j _ (bv_get xs j hj')]
      simp only [List.getElem_map, UInt8.toNat_ofNat', List.getD, List.getElem?_eq_getElem hj', Option.getD_some, Option.some.injEq, Value.int.injEq, true_and]
      omega)
    rw [List.length_map, hl] at hc
    exact hc
end Go.Proofs.YtiabdcejibeciaaGreatDoor

namespace Go.Proofs.YtiabdcejibeciaaGreatDoor
open Go.RowKit

theorem str_eq {xs ys : List Int} (hx : Byt xs) (hy : Byt ys) : strOfNums xs = strOfNums ys ↔ xs = ys := by
  constructor
  · intro h
    have := congrArg sb h
    rwa [sb_str hx, sb_str hy] at this
  · exact fun h => by rw [h]

set_option maxHeartbeats 400000 in
set_option maxRecDepth 100000 in
theorem bequal_any (w : World) (ao bo : Option Addr) (n cap m cap2 : Nat) (xs ys : List Int) (h : Sl w ao n cap xs) (h2 : Sl w bo m cap2 ys) (b : Bool) (hb : b = true ↔ xs = ys) :
    Calls Tryz.prog 23 #[.slice ao n cap, .slice bo m cap2] w fun e w' => e = .returned (.bool b) ∧ w' = w := by
  have c1 := conv_str h
  have c2 := conv_str h2
  have hq : ((strOfNums xs).toList == (strOfNums ys).toList) = b := by
    rw [Bool.eq_iff_iff, hb, ← str_eq h.byte h2.byte, beq_iff_eq, ByteArray.toList_eq, ByteArray.toList_eq]
    exact ⟨fun e => ByteArray.ext (Array.toList_inj.1 e), fun e => by rw [e]⟩
  obtain ⟨s, hs⟩ : ∃ s, s = strOfNums xs := ⟨_, rfl⟩
  obtain ⟨t, ht⟩ : ∃ t, t = strOfNums ys := ⟨_, rfl⟩
  rw [← hs] at c1 hq
  rw [← ht] at c2 hq
  clear hs ht hb h h2
  go_enter Tryz.func23, Tryz.ntmps23
  go_wp2
  go_ret
  exact ⟨rfl, rfl⟩
theorem bequal_b (w : World) (ao bo : Option Addr) (n cap m cap2 : Nat) (xs ys : List Int) (h : Sl w ao n cap xs) (h2 : Sl w bo m cap2 ys) (b : Bool) (hb : b = true ↔ xs = ys) :
    Calls Tryz.prog 23 #[.slice ao n cap, .slice bo m cap2] w fun e w' => e = .returned (.bool b) ∧ Below w.heap.size w w' :=
  (bequal_any w ao bo n cap m cap2 xs ys h h2 b hb).mono fun _ _ ⟨he, hw⟩ => ⟨he, by rw [hw]; exact Below.refl _ _⟩
end Go.Proofs.YtiabdcejibeciaaGreatDoor

namespace Go.Proofs.YtiabdcejibeciaaGreatDoor
open Go.RowKit

theorem sb_drop (t : ByteArray) : sb (t.extract 1 t.size) = (sb t).drop 1 := by
  unfold sb
  rw [ByteArray.data_extract, Array.toList_extract]
  simp
  refine List.take_of_length_le ?_
  rw [List.length_tail, List.length_map, Array.length_toList]
  exact Nat.le_refl _

set_option maxHeartbeats 1000000 in
set_option maxRecDepth 100000 in
theorem trimB_any (w : World) (s : ByteArray) (hs : s.size ≤ 1000000) :
    Calls Tryz.prog 71 #[.string s, .int .u8 48] w fun e w' => ∃ t, e = .returned (.string t) ∧ sb t = (sb s).dropWhile (fun c => c == 48) ∧ w' = w := by
  go_enter Tryz.func71, Tryz.ntmps71
  go_wp2
  go_loopw [0] (fun a wr => ∃ t : ByteArray, a = .string t ∧ t.size ≤ s.size ∧ wr = w ∧ (sb t).dropWhile (fun c => c == 48) = (sb s).dropWhile (fun c => c == 48)) (fun a _ => match a with | .string t => t.size | _ => 0)
  case atStart => exact ⟨s, rfl, Nat.le_refl _, rfl, rfl⟩
  case round =>
    obtain ⟨t, rfl, hle, rfl, hd⟩ := hrel
    have HD : Hid ((sb t).dropWhile (fun c => c == 48) = (sb s).dropWhile (fun c => c == 48)) := hd
    clear hd
    by_cases h0 : 0 < t.size
    · have h0' : (0 : Int) < (t.size : Int) := by omega
      have hat := sb_at t 0 h0
      rw [List.drop_zero, Nat.zero_add] at hat
      by_cases h1 : (t[0].toNat : Int) = 48
      · have hb : ((t[0].toNat : Int) == 48) = true := by simpa using h1
        have HE : Hid (sb t = (t[0].toNat : Int) :: (sb t).drop 1) := hat
        have H1 : Hid ((t[0].toNat : Int) = 48) := h1
        clear hat h1
        go_wp2
        refine ⟨⟨_, rfl, ?_, trivial, ?_⟩, ?_⟩
        · simp only [ByteArray.size_extract]
          omega
        · rw [sb_drop, ← HD.out]
          conv => rhs; rw [HE.out, H1.out]
          simp
        · simp only [ByteArray.size_extract]
          omega
      · have hb : ((t[0].toNat : Int) == 48) = false := by simpa using h1
        have HE : Hid ((sb t).dropWhile (fun c => c == 48) = sb t) := by
          show _ = _
          rw [hat, List.dropWhile_cons, hb]
          rfl
        clear hat h1
        go_wp2
        go_ret
        exact ⟨t, rfl, by rw [← HD.out, HE.out], rfl⟩
    · have h0' : ¬ (0 : Int) < (t.size : Int) := by omega
      have HE : Hid ((sb t).dropWhile (fun c => c == 48) = sb t) := by
        show _ = _
        have : sb t = [] := List.eq_nil_of_length_eq_zero (by rw [sb_len]; omega)
        rw [this]
        rfl
      go_wp2
      go_ret
      exact ⟨t, rfl, by rw [← HD.out, HE.out], rfl⟩

set_option maxHeartbeats 1000000 in
set_option maxRecDepth 100000 in
theorem trim_any (w : World) (s : ByteArray) (h0 : 0 < s.size) (hs : s.size ≤ 1000000) :
    Calls Tryz.prog 49 #[.string s, .string ⟨#[48]⟩] w fun e w' => ∃ t, e = .returned (.string t) ∧ sb t = (sb s).dropWhile (fun c => c == 48) ∧ w' = w := by
  have CT := trimB_any w s hs
  have he : s.toList.isEmpty = false := by
    rw [List.isEmpty_eq_false_iff]
    intro e
    have := congrArg List.length e
    rw [Lib.toList_data, Array.length_toList] at this
    have h2 : s.size = s.data.size := rfl
    simp at this
    rw [h2, this] at h0
    simp at h0
  have hz : (((⟨#[48]⟩ : ByteArray)[0]'(by decide)).toNat : Int) = 48 := rfl
  go_enter Tryz.func49, Tryz.ntmps49
  go_wp2_with fail
  refine CT.mono ?_
  rintro e w' ⟨t, rfl, ht, rfl⟩
  have HT : Hid (sb t = (sb s).dropWhile (fun c => c == 48)) := ht
  clear ht
  go_wp2
  go_ret
  exact ⟨t, rfl, HT.out, rfl⟩
end Go.Proofs.YtiabdcejibeciaaGreatDoor

namespace Go.Proofs.YtiabdcejibeciaaGreatDoor
open Go.RowKit Go.Shelf

attribute [local go_sem] Oper.semAt_some

/-- A slice of the call's own, as a string. -/
theorem conv_own {w : World} {base : Nat} {v : Value} {k : Nat} {xs : List Int} (h : w.ownsRow base 5 1 v k (bv xs)) : (convert 30 9 v).run Tryz.prog w = .ok (.string (strOfNums xs)) w := by
  have hl : xs.length = k := by have := h.1; rw [bv_length] at this; omega
  rcases h.2 with ⟨rfl, rfl⟩ | ⟨g, cap, cur, rfl, hg, hh, hle, hmx, hcs, htk⟩
  · obtain rfl : xs = [] := List.eq_nil_of_length_eq_zero hl
    exact run_convert_bytes_nil w 30 5 Tryz.underlying30 Tryz.underlying5 0 0 9 Tryz.underlying9
  · refine run_convert_bytes_arg w 30 5 Tryz.underlying30 Tryz.underlying5 g 0 k cap xs hl (fun i hi => ?_) 9 Tryz.underlying9
    have := h.cells (g := g) rfl i _ (bv_get xs i (by omega))
    simpa [add_at] using this

set_option maxRecDepth 100000 in
set_option maxHeartbeats 2000000 in
theorem hex_in (F : Fence) (n : Nat) (h3 : F.fn 47) (h4 : F.fn 67) (h5 : F.fn 91) (hro : F.round = none) (hn : 3 ≤ n) (ao : Option Addr) (m cap : Nat) (xs : List Int) (w : World) (hL : Sl w ao m cap xs) (hm : m ≤ 70368744177664) :
    CallsIn F n Tryz.prog 47 #[.slice ao m cap] w fun e w' => e = .returned (.string (strOfNums (hexL xs))) ∧ Below w.heap.size w w' := by
  have h1 : 1 ≤ n := by omega
  obtain ⟨i0, hi, hz0, hz1, hz2⟩ := info_parts u8info
  have hln := hL.len
  have hlow := hL.lt
  have hxl := hexL_len xs
  refine callsIn_of_wp_marks Tryz.func47 rfl h3 ?_ hro
  simp only [Tryz.ntmps47, List.size_toArray, List.length_cons, List.length_nil, Nat.reduceAdd, Nat.reduceSub, Array.replicate_succ, Array.replicate_zero, List.push_toArray, List.append_toArray, List.nil_append, List.cons_append]
  gi_wp2_with (first
    | (gi_at_make; refine wpListIn_make_own _ rfl _ _ 30 rfl w.heap.size 5 i0 (.int .u8 0) 1 Tryz.underlying30 hi hz0 hz1 _ _ _ (2 * m) rfl rfl (by omega) (by rw [hz2]; omega) (by unfold maxLen; omega) (Nat.le_refl _) ?_; intro w1 own1 g1; have B1 : Below w.heap.size w w1 := (Below.refl _ w).grown g1 (Nat.le_refl _) (by simp); have s1 := g1.size; clear g1)
    | (gi_at_call 67; refine (digits_in F (n - 1) h4 hro _ ao m cap rfl _).mono ?_; rintro e w' ⟨rfl, rfl⟩))
  have bO := Boxed.new w1 30 (.slice (some ⟨w.heap.size, 0, none⟩) 0 (2 * m))
  have bN := Boxed.new (w1.alloc (.cells #[.slice (some ⟨w.heap.size, 0, none⟩) 0 (2 * m)] 30)) 30 (.slice ao m cap)
  rw [World.size_alloc] at bN
  have hB0 : Below w.heap.size w ((w1.alloc (.cells #[.slice (some ⟨w.heap.size, 0, none⟩) 0 (2 * m)] 30)).alloc (.cells #[.slice ao m cap] 30)) := (B1.alloc s1 _).alloc (by simp; omega) _
  refine wpIn_rangeFunc_ownG hro h1 (gf := 91) (lb := #[.pointer (some ⟨w1.heap.size + 1, 0, none⟩)]) rfl h5 (enters_of Tryz.func91 (by kernel_rfl) rfl)
    (digits_stops F (n - 1) h5 hro (by omega) (w1.heap.size + 1) w.heap.size ao m cap xs _ (by simp) bN.cell (hL.below hB0) hlow) belowK_t (belowK_b (by simp; omega)) (Below.refl _ _) (fun _ => rfl)
    (fun pre W => (∃ v, Boxed W w1.heap.size 30 v ∧ W.ownsRow w.heap.size 5 1 v pre.length (bv pre) ∧ True) ∧ Below w.heap.size w W)
    (fun _ _ _ => False)
    (OwnFrom.and (Own.from (holdsRow_own w.heap.size w1.heap.size 30 5 1 (fun pre => List.length pre) (fun pre => bv pre) (fun _ _ => True)) _) (ownFrom_below (Nat.le_refl _) (by simp; omega)))
    (fun _ _ _ _ _ hs _ _ => hs)
    ⟨⟨_, bO.alloc _, (own1.alloc _).alloc _, trivial⟩, hB0⟩
    (fun x => { tmps := #[.slice ao m cap, undef, .string ⟨#[]⟩, .pointer (some ⟨w1.heap.size, 0, none⟩), .int .u8 x, .slice ao m cap, .int .i64 m, .int .i64 (2 * m), .slice (some ⟨w.heap.size, 0, none⟩) 0 (2 * m), .slice ao m cap, .func (.func 91) #[] #[.pointer (some ⟨w1.heap.size + 1, 0, none⟩)], .int .u8 x, undef, undef, undef, undef, undef, undef], defers := [] }) ?assign ?body ?done ?stop
  case assign =>
    intro l x W K hK
    gi_wp2
    exact hK
  case body =>
    rintro l pre x W ⟨⟨v, hv, hrow, _⟩, hB⟩ hlt
    have hc := hv.cell
    gi_wp2_with (gi_at_builtin; refine wpListIn_append_own _ rfl _ _ 30 rfl w.heap.size 5 i0 (.int .u8 0) 1 1 Tryz.underlying30 hi hz0 hz1 hz2 rfl (by decide) _ _ _ rfl (hrow.alloc _) ⟨W.heap.size, 0, none⟩ 1 1 [.int .u8 x] rfl rfl (cell_one_new _ _ _) (by simp [Value.oneCell']) (by unfold maxLen; omega) (by omega) (by have := hB.size; simp; omega) ?_; intro v' w2 hown' hgrow _; obtain ⟨g', cap', rfl⟩ := ownsRow_succ hown'; obtain ⟨hv1, hv2, hr2, hk2, hb2⟩ := hv.appended (by decide) hrow hB.size s1 hown' hgrow; have hc1 := hv1.cell; have hf1 := hv1.frozen)
    exact ⟨hk2.from _, hb2, ⟨_, hv2, by rw [bv_append, List.length_append]; exact hr2, trivial⟩, hB.trans hb2⟩
  case done =>
    rintro D ys W hD rfl ⟨⟨v, hv, hrow, _⟩, hB⟩ hK
    have hc := hv.cell
    have hcv := conv_own hrow
    gi_wp2
    refine ⟨by simp, .inl ⟨_, _, rfl, run_takeDeferred hK, ?_⟩⟩
    exact ⟨_, results_tmp rfl _ _ _, rfl, hB.trans (belowK_b (w := w) (Nat.le_refl _) W D _ _ (by simp at hD; omega) hK rfl rfl)⟩
  case stop =>
    rintro D c pre W _ _ h _
    exact h.elim

/-- Hex of whatever bytes. -/
theorem hex_any (w : World) (ao : Option Addr) (m cap : Nat) (xs : List Int) (hL : Sl w ao m cap xs) (hm : m ≤ 70368744177664) :
    Calls Tryz.prog 47 #[.slice ao m cap] w fun e w' => e = .returned (.string (strOfNums (hexL xs))) ∧ Below w.heap.size w w' :=
  (callsIn_wide (n := 3)).1 (hex_in Fence.wide 3 trivial trivial trivial rfl (Nat.le_refl _) ao m cap xs w hL hm)

end Go.Proofs.YtiabdcejibeciaaGreatDoor

namespace Go.Proofs.YtiabdcejibeciaaGreatDoor
open Go.RowKit

theorem dg_byte {x : Int} (h : 0 ≤ x ∧ x < 16) : 0 ≤ dg x ∧ dg x ≤ 255 := by
  unfold dg
  split <;> omega
theorem hexL_byte {xs : List Int} (h : Byt xs) : Byt (hexL xs) := by
  intro y hy
  simp only [hexL, List.mem_flatMap, List.mem_cons, List.not_mem_nil, or_false] at hy
  obtain ⟨x, hx, hy⟩ := hy
  have := h x hx
  rcases hy with rfl | rfl
  · exact dg_byte (by omega)
  · exact dg_byte (by omega)
theorem take_drop_while {α : Type} (p : α → Bool) : ∀ l : List α, (l.takeWhile p).length + (l.dropWhile p).length = l.length
  | [] => rfl
  | a :: l => by
    have := take_drop_while p l
    rw [List.takeWhile_cons, List.dropWhile_cons]
    split <;> simp only [List.length_cons, List.length_nil] <;> omega
theorem pl_one (w : World) (ao : Option Addr) (n cap : Nat) (xs : List Int) (h : Sl w ao n cap xs) (t : TypeId) : PL (w.alloc (.cells #[.slice ao n cap] t)) (some ⟨w.heap.size, 0, none⟩) 1 1 [⟨ao, n, cap, xs⟩] := by
  have B : Below w.heap.size w (w.alloc (.cells #[.slice ao n cap] t)) := (Below.refl _ w).alloc (Nat.le_refl _) _
  refine (KL.mk ?_ ?_).pl
  · exact VL.new w [.slice ao n cap] t (by simp [maxLen])
  · intro q hq
    rw [List.mem_singleton.1 hq]
    exact h.below B

theorem wrap_lev (k : List Int) : IntKind.i64.wrap (lev k : Int) = lev k := by
  have := lev_le k
  simp [IntKind.wrap, IntKind.bits, IntKind.signed]
  omega

set_option maxHeartbeats 1000000 in
set_option maxRecDepth 100000 in
theorem level_any (w : World) (ao : Option Addr) (n cap : Nat) (xs : List Int) (hT : Tabs w) (h : Sl w ao n cap xs) (hn : n ≤ 1000000) :
    Calls Tryz.prog 18 #[.slice ao n cap] w fun e w' => e = .returned (.int .i64 (lev xs)) ∧ Below w.heap.size w w' := by
  have h2 := hT.two
  have B0 : Below w.heap.size w (w.alloc (.cells #[.slice ao n cap] 30)) := (Below.refl _ w).alloc (Nat.le_refl _) _
  have P0 := pl_one w ao n cap xs h 30
  obtain ⟨D, hD⟩ : ∃ D, D = sumL (formL (sb lvS) [xs]) := ⟨_, rfl⟩
  have hDl : D.length = 32 := by rw [hD]; exact sumL_len _
  have hDb : Byt D := by rw [hD]; exact sumL_byte _
  have CO := of_any _ lvS (some ⟨w.heap.size, 0, none⟩) 1 1 [⟨ao, n, cap, xs⟩] P0 (hT.below B0 h2) (by decide) (by decide) (by intro q hq; rw [List.mem_singleton.1 hq]; exact hn)
  rw [show formL (sb lvS) (pxs [⟨ao, n, cap, xs⟩]) = formL (sb lvS) [xs] from rfl, ← hD] at CO
  have HL : Hid (lev xs = ((hexL D).takeWhile fun c => c == 48).length) := by show _ = _; rw [hD]; rfl
  clear hD
  go_enter Tryz.func18, Tryz.ntmps18
  go_wp2_with fail
  refine CO.mono ?_
  rintro e w1 ⟨v1, rfl, own1, C1⟩
  obtain ⟨fo, fc, rfl, S1, -⟩ := Sl.own own1 hDb
  have B1 : Below w.heap.size w w1 := B0.trans (C1.mono B0.size)
  clear own1 C1 CO P0 B0
  go_wp2_with fail
  refine (hex_any w1 fo 32 fc D S1 (by decide)).mono ?_
  rintro e w2 ⟨rfl, C2⟩
  have B2 : Below w.heap.size w w2 := B1.trans (C2.mono B1.size)
  obtain ⟨H, hH⟩ : ∃ H, H = strOfNums (hexL D) := ⟨_, rfl⟩
  have hs : H.size = 64 := by rw [hH, strOfNums_size, hexL_len, hDl]
  have hsb : Hid (sb H = hexL D) := by show _ = _; rw [hH]; exact sb_str (hexL_byte hDb)
  rw [← hH]
  clear hH C2 S1 B1
  have CT := trim_any w2 H (by omega) (by omega)
  have HS : Hid (H.size = 64) := hs
  clear hs
  go_wp2_with fail
  refine CT.mono ?_
  rintro e w3 ⟨t, rfl, ht, rfl⟩
  have htl := take_drop_while (fun c : Int => c == 48) (hexL D)
  rw [hsb.out] at ht
  rw [← ht, sb_len, ← hsb.out, sb_len, hsb.out, HS.out, ← HL.out] at htl
  have HZ : Hid ((H.size : Int) - t.size = lev xs) := by
    show _ = _
    rw [HS.out]
    omega
  have hw : IntKind.i64.wrap ((H.size : Int) - t.size) = (H.size : Int) - t.size := by
    rw [HZ.out]
    exact wrap_lev xs
  clear htl ht CT
  go_wp2
  go_ret
  refine ⟨?_, B2⟩
  show Ending.returned (.int .i64 ((H.size : Int) - t.size)) = _
  rw [HZ.out]

end Go.Proofs.YtiabdcejibeciaaGreatDoor

namespace Go.Proofs.YtiabdcejibeciaaGreatDoor
open Go.RowKit

theorem own_some {w : World} {base : Nat} {v : Value} {ls : List LP} {q : LP} (h : w.ownsRow base 49 3 v (ls ++ [q]).length (flatL (ls ++ [q]))) : ∃ g c, v = .slice (some ⟨g, 0, none⟩) (ls ++ [q]).length c := by
  rcases h.2 with ⟨_, e⟩ | ⟨g, cap, cur, rfl, _⟩
  · simp at e
  · exact ⟨g, cap, rfl⟩
/-- append of a leaf. -/
theorem appL {w : World} {base : Nat} {v : Value} {ls : List LP} {q : LP} {g c : Nat} (own : w.ownsRow base 49 3 v ls.length (flatL ls)) (hb : base ≤ w.heap.size) (hn : ls.length ≤ 1000000) (ty : TypeId)
    (G : w.heap[g]? = some (.cells #[.int .i64 q.L, q.k.val, q.v.val] 49)) :
    ∃ v' w1, (Builtin.append_ #[45, 45] ty #[v, .slice (some ⟨g, 0, none⟩) 1 c]).run Tryz.prog w = .ok v' w1 ∧ w1.ownsRow base 49 3 v' (ls ++ [q]).length (flatL (ls ++ [q])) ∧ w.grownBy w1 v.ownBlock := by
  obtain ⟨i0, hi, hz0, hz1, hz2⟩ := info_parts leafInfo
  obtain ⟨v', w1, h1, h2, h3, -⟩ := run_append_own (P := Tryz.prog) w base 45 ty 49 i0 _ 3 56 Tryz.underlying45 hi hz0 hz1 hz2 rfl (by decide) v ls.length (flatL ls) own ⟨g, 0, none⟩ 1 c (encL q) rfl
    (fun j u hu => by
      rw [Addr.add_lit, Nat.zero_add, cell_of_row w g j _ _ _ G]
      match j, hu with
      | 0, hu => exact hu
      | 1, hu => exact hu
      | 2, hu => exact hu
      | j + 3, hu => simp [encL] at hu) (fun u hu => flatL_one [q] u (by simpa [flatL] using hu)) (by simp only [maxLen]; omega) (by omega) hb
  refine ⟨v', w1, h1, ?_, h3⟩
  rw [flatL_app, List.length_append]
  exact h2
/-- What Make answers. -/
def MakePost (w : World) (its : List IP) (e : Ending) (w' : World) : Prop := ∃ (u : Option Addr) (kd : Int), e = .returned (.tuple #[.pointer u, .int .i64 kd]) ∧ Below w.heap.size w w' ∧
  ((kd = 0 ∧ jL its 0 = 0 ∧ ∃ l, l.Perm (its.map IP.it) ∧ Srt l ∧ TT w' (.pointer u) l) ∨ (kd ≠ 0 ∧ u = none ∧ (jL its 0 = 0 → ¬ ((its.map IP.it).map It.k).Nodup)))
/-- Sorted, and none beside one of its key. -/
theorem srt_of : ∀ (ls : List LP), RiseL ls → (∀ i (h : i + 1 < ls.length), ls[i].k.xs ≠ ls[i + 1].k.xs) → Srt (ls.map LP.it)
  | [], _, _ => List.Pairwise.nil
  | [q], _, _ => Srt.one _
  | q :: p :: ls, h, hd => by
    obtain ⟨h1, h2⟩ := List.pairwise_cons.1 h
    have ih := srt_of (p :: ls) h2 (fun i hi => hd (i + 1) (by simpa using hi))
    have h3 : cmpL q.k.xs p.k.xs < 0 := by
      rcases cmpL_total q.k.xs p.k.xs with h3 | h3 | h3
      · exact h3
      · exact absurd h3 (hd 0 (by simp))
      · exact absurd h3 (h1 p (List.mem_cons_self ..))
    refine List.pairwise_cons.2 ⟨fun y hy => ?_, ih⟩
    rcases List.mem_cons.1 hy with rfl | hy
    · exact h3
    · exact cmpL_lt_trans _ _ _ h3 ((Srt.cons ih).1 y hy)

set_option maxHeartbeats 4000000 in
set_option maxRecDepth 100000 in
theorem tmake_any (w : World) (ao : Option Addr) (n cap : Nat) (its : List IP) (hT : Tabs w) (h : IL w ao n cap its) (hn : n ≤ 50000) (hb : ∀ q ∈ its, q.k.n ≤ 1000000 ∧ q.v.n ≤ 1000000) : Calls Tryz.prog 7 #[.slice ao n cap] w (MakePost w its) := by
  have h2 := hT.two
  have hl1 := Nat.le_of_eq h.len
  have hl2 := Nat.le_of_eq h.len.symm
  have hni : (n : Int) ≤ 50000 := by omega
  have CJ := judge_any w ao n cap its h (by omega) hb
  have HB : Hid (∀ q ∈ its, q.k.n ≤ 1000000 ∧ q.v.n ≤ 1000000) := hb
  clear hb
  obtain ⟨kd, hkd⟩ : ∃ kd, kd = jL its 0 := ⟨_, rfl⟩
  rw [← hkd] at CJ
  have HKD : Hid (kd = jL its 0) := hkd
  clear hkd
  go_enter Tryz.func7, Tryz.ntmps7
  go_wp2_with fail
  refine CJ.mono ?_
  rintro e w1 ⟨rfl, B1⟩
  clear CJ
  by_cases hz : kd = 0
  · subst hz
    obtain ⟨i0, hi, hz0, hz1, hz2⟩ := info_parts leafInfo
    obtain ⟨w2, hmk, own0, hg2⟩ := run_make_own (P := Tryz.prog) w1 w.heap.size 45 49 i0 _ 3 Tryz.underlying45 hi hz0 hz1 .i64 .i64 n (by rw [hz2]; omega) (by simp only [maxLen]; omega) B1.size
    have B2 : Below w.heap.size w w2 := B1.trans ((Below.refl _ _).grown hg2 B1.size (by simp))
    clear hi hz0 hz1 hz2 hg2
    go_wp2
    clear hmk
    go_loopw [5, 20] (fun f i wr => ∃ (kk g lc : Nat) (ls : List LP), kk ≤ n ∧ i = .int .i64 kk ∧ f = .slice (some ⟨g, 0, none⟩) kk lc ∧ wr.ownsRow w.heap.size 49 3 (.slice (some ⟨g, 0, none⟩) kk lc) ls.length (flatL ls) ∧ ls.length = kk ∧ ls.map LP.it = (its.take kk).map IP.it ∧ (∀ q ∈ ls, q.L = lev q.k.xs ∧ SlT wr q.k ∧ SlT wr q.v) ∧ Below w.heap.size w wr) (fun _ i _ => n - (intOf i).toNat)
    case atStart => exact ⟨0, w1.heap.size, n, [], Nat.zero_le _, rfl, rfl, own0, rfl, rfl, fun _ h => by simp at h, B2⟩
    case round =>
      clear own0 B2 B1
      obtain ⟨kk, g, lc, ls, hkk, rfl, rfl, OWN0, hll, hls, hok, B0⟩ := hrel
      have HLL : Hid (ls.length = kk) := hll
      have hll1 := Nat.le_of_eq hll
      have HLS : Hid (ls.map LP.it = (its.take kk).map IP.it) := hls
      have HOK0 : Hid (∀ q ∈ ls, q.L = lev q.k.xs ∧ SlT wr q.k ∧ SlT wr q.v) := hok
      clear hll hls hok
      by_cases hlt : kk < n
      · have hki : (kk : Int) < (n : Int) := by omega
        obtain ⟨b, off, rfl, hc⟩ := (h.below B0).at (by omega)
        obtain ⟨c1, c2⟩ := hc kk (by omega)
        obtain ⟨q, hq⟩ : ∃ q, q = its[kk] := ⟨_, rfl⟩
        rw [← hq] at c1 c2
        obtain ⟨sk, sv⟩ := h.sl q (by rw [hq]; exact List.getElem_mem _)
        obtain ⟨hkn, hvn⟩ := HB.out q (by rw [hq]; exact List.getElem_mem _)
        have HQ : Hid (its.take (kk + 1) = its.take kk ++ [q]) := by
          show _ = _
          rw [hq, List.take_succ_eq_append_getElem (by omega)]
        unfold Part.val at c1 c2
        clear hc hq
        go_wp2
        clear c1 c2
        have AI : Arr (wr.alloc (.cells #[.slice q.k.ao q.k.n q.k.cap, .slice q.v.ao q.v.n q.v.cap] 32)) wr.heap.size 32 [.slice q.k.ao q.k.n q.k.cap, .slice q.v.ao q.v.n q.v.cap] := heap_alloc_new wr _
        have BA : Below wr.heap.size wr (wr.alloc (.cells #[.slice q.k.ao q.k.n q.k.cap, .slice q.v.ao q.v.n q.v.cap] 32)) := (Below.refl _ _).alloc (Nat.le_refl _) _
        obtain ⟨W, hW⟩ : ∃ W, W = wr.alloc (.cells #[.slice q.k.ao q.k.n q.k.cap, .slice q.v.ao q.v.n q.v.cap] 32) := ⟨_, rfl⟩
        rw [← hW] at AI BA ⊢
        clear hW
        have OWN := own_below OWN0 BA
        have B := B0.trans (BA.mono B0.size)
        have HOK : Hid (∀ q ∈ ls, q.L = lev q.k.xs ∧ SlT W q.k ∧ SlT W q.v) := fun y hy => ⟨(HOK0.out y hy).1, (HOK0.out y hy).2.1.kp (KpB.below BA), (HOK0.out y hy).2.2.kp (KpB.below BA)⟩
        clear OWN0 B0 HOK0 BA
        have HS : Hid (∀ V, Below W.heap.size W V → V.cell? ⟨wr.heap.size, 0, none⟩ = some (.slice q.k.ao q.k.n q.k.cap) ∧ V.cell? ⟨wr.heap.size, 1, none⟩ = some (.slice q.v.ao q.v.n q.v.cap)) := fun V hV => ⟨(arr_below AI hV).cell 0, (arr_below AI hV).cell 1⟩
        have E0 : Below W.heap.size W W.drew := (Below.refl _ _).drew
        refine wp_region_noPanic ?_
        refine wp_region_held_drew (S := fun V => V.cell? ⟨wr.heap.size, 0, none⟩ = some (.slice q.k.ao q.k.n q.k.cap) ∧ V.cell? ⟨wr.heap.size, 1, none⟩ = some (.slice q.v.ao q.v.n q.v.cap)) (by kernel_rfl) (HS.out _ E0) (fun H0 => ?_)
        obtain ⟨v0, hv0⟩ : ∃ v, v = W.drew := ⟨_, rfl⟩
        rw [← hv0] at H0 E0 ⊢
        clear hv0
        refine hr_take_w 0 (some 24) (.slice (some ⟨g, 0, none⟩) kk lc) rfl rfl (by kernel_rfl) (by kernel_rfl) (by kernel_rfl) rfl (fun W hW => by obtain ⟨h0, h1⟩ := hW; go_simp) H0 ?_
        simp only [Act.put, List.setIfInBounds_toArray, List.set_cons_zero, List.set_cons_succ]
        refine hr_take_w 1 (some 25) (.pointer (some ⟨wr.heap.size, 0, none⟩)) rfl rfl (by kernel_rfl) (by kernel_rfl) (by kernel_rfl) rfl (fun W hW => by obtain ⟨h0, h1⟩ := hW; go_simp) H0 ?_
        simp only [Act.put, List.setIfInBounds_toArray, List.set_cons_zero, List.set_cons_succ]
        refine hr_take_w 2 (some 26) (.slice q.k.ao q.k.n q.k.cap) rfl rfl (by kernel_rfl) (by kernel_rfl) (by kernel_rfl) rfl (fun W hW => by obtain ⟨h0, h1⟩ := hW; go_simp) H0 ?_
        simp only [Act.put, List.setIfInBounds_toArray, List.set_cons_zero, List.set_cons_succ]
        refine hr_take_w 4 (some 28) (.pointer (some ⟨wr.heap.size, 0, none⟩)) rfl rfl (by kernel_rfl) (by kernel_rfl) (by kernel_rfl) rfl (fun W hW => by obtain ⟨h0, h1⟩ := hW; go_simp) H0 ?_
        simp only [Act.put, List.setIfInBounds_toArray, List.set_cons_zero, List.set_cons_succ]
        refine hr_take_w 5 (some 29) (.slice q.k.ao q.k.n q.k.cap) rfl rfl (by kernel_rfl) (by kernel_rfl) (by kernel_rfl) rfl (fun W hW => by obtain ⟨h0, h1⟩ := hW; go_simp) H0 ?_
        simp only [Act.put, List.setIfInBounds_toArray, List.set_cons_zero, List.set_cons_succ]
        refine hr_take_w 7 (some 31) (.pointer (some ⟨wr.heap.size, 1, none⟩)) rfl rfl (by kernel_rfl) (by kernel_rfl) (by kernel_rfl) rfl (fun W hW => by obtain ⟨h0, h1⟩ := hW; go_simp) H0 ?_
        simp only [Act.put, List.setIfInBounds_toArray, List.set_cons_zero, List.set_cons_succ]
        refine hr_take_w 8 (some 32) (.slice q.v.ao q.v.n q.v.cap) rfl rfl (by kernel_rfl) (by kernel_rfl) (by kernel_rfl) rfl (fun W hW => by obtain ⟨h0, h1⟩ := hW; go_simp) H0 ?_
        simp only [Act.put, List.setIfInBounds_toArray, List.set_cons_zero, List.set_cons_succ]
        refine wpAnyH_effto 2 (fun zi zv zw => (zi = 3 → zv = .int .i64 (lev q.k.xs : Nat)) ∧ (zi = 6 → ∃ ro rc, zv = .slice ro q.k.n rc ∧ SlT zw ⟨ro, q.k.n, rc, q.k.xs⟩) ∧ (zi = 9 → ∃ ro rc, zv = .slice ro q.v.n rc ∧ SlT zw ⟨ro, q.v.n, rc, q.v.xs⟩) ∧ (zi = 10 → ∃ ko kc vo vc, zv = .agg #[.int .i64 (lev q.k.xs : Nat), .slice ko q.k.n kc, .slice vo q.v.n vc] ∧ SlT zw ⟨ko, q.k.n, kc, q.k.xs⟩ ∧ SlT zw ⟨vo, q.v.n, vc, q.v.xs⟩) ∧ (zi = 11 → ∃ ko kc vo vc g1, zv = .slice (some ⟨g1, 0, none⟩) 1 1 ∧ zw.heap[g1]? = some (.cells #[.int .i64 (lev q.k.xs : Nat), .slice ko q.k.n kc, .slice vo q.v.n vc] 49) ∧ SlT zw ⟨ko, q.k.n, kc, q.k.xs⟩ ∧ SlT zw ⟨vo, q.v.n, vc, q.v.xs⟩)) [(3, 27), (6, 30), (9, 33), (10, 34), (11, 35)] 64 (by kernel_rfl) (by decide) (by decide) rfl ?_ (fun w hw => HS.out w (E0.trans (hw.mono E0.size))) ?_ ?_
        · intro zi v w w' h hb
          refine ⟨fun e => ?_, fun e => ?_, fun e => ?_, fun e => ?_, fun e => ?_⟩
          · have h := h.1 e
            exact h
          · have h := h.2.1 e
            obtain ⟨ro, rc, h1, h2⟩ := h
            exact ⟨ro, rc, h1, h2.kp (KpB.below hb)⟩
          · have h := h.2.2.1 e
            obtain ⟨ro, rc, h1, h2⟩ := h
            exact ⟨ro, rc, h1, h2.kp (KpB.below hb)⟩
          · have h := h.2.2.2.1 e
            obtain ⟨ko, kc, vo, vc, h1, h2, h3⟩ := h
            exact ⟨ko, kc, vo, vc, h1, h2.kp (KpB.below hb), h3.kp (KpB.below hb)⟩
          · have h := h.2.2.2.2 e
            obtain ⟨ko, kc, vo, vc, g1, h1, h2, h3, h4⟩ := h
            exact ⟨ko, kc, vo, vc, g1, h1, (hb.block g1 (Array.getElem?_eq_some_iff.1 h2).1).trans h2, h3.kp (KpB.below hb), h4.kp (KpB.below hb)⟩
        · intro zp zhi o a w ho hs hb hdep
          have EB := E0.trans (hb.mono E0.size)
          simp only [List.mem_cons, List.not_mem_nil, or_false] at zhi
          rcases zhi with rfl | rfl | rfl | rfl | rfl
          · obtain rfl : _ = o := Option.some.inj (show some _ = some o from ho)
            have t26 : a.tmps[26]? = some (.slice q.k.ao q.k.n q.k.cap) := hs.get 26 (by kernel_rfl) rfl
            have BB := B.trans (EB.mono B.size)
            have CL := level_any w q.k.ao q.k.n q.k.cap q.k.xs (hT.below BB h2) (sk.below BB) hkn
            refine .inr ⟨18, #[.slice q.k.ao q.k.n q.k.cap], by go_simp, CL.mono ?_⟩
            rintro e w' ⟨rfl, C⟩
            exact ⟨_, rfl, ⟨fun _ => rfl, fun e => absurd e (by decide), fun e => absurd e (by decide), fun e => absurd e (by decide), fun e => absurd e (by decide)⟩, C⟩
          · obtain rfl : _ = o := Option.some.inj (show some _ = some o from ho)
            have t29 : a.tmps[29]? = some (.slice q.k.ao q.k.n q.k.cap) := hs.get 29 (by kernel_rfl) rfl
            have CO := ownT_any w q.k.ao q.k.n q.k.cap q.k.xs (sk.below (B.trans (EB.mono B.size))) hkn
            refine .inr ⟨19, #[.slice q.k.ao q.k.n q.k.cap], by go_simp, CO.mono ?_⟩
            rintro e w' ⟨ro, rc, rfl, S, C⟩
            exact ⟨_, rfl, ⟨fun e => absurd e (by decide), fun _ => ⟨ro, rc, rfl, S⟩, fun e => absurd e (by decide), fun e => absurd e (by decide), fun e => absurd e (by decide)⟩, C⟩
          · obtain rfl : _ = o := Option.some.inj (show some _ = some o from ho)
            have t32 : a.tmps[32]? = some (.slice q.v.ao q.v.n q.v.cap) := hs.get 32 (by kernel_rfl) rfl
            have CO := ownT_any w q.v.ao q.v.n q.v.cap q.v.xs (sv.below (B.trans (EB.mono B.size))) hvn
            refine .inr ⟨19, #[.slice q.v.ao q.v.n q.v.cap], by go_simp, CO.mono ?_⟩
            rintro e w' ⟨ro, rc, rfl, S, C⟩
            exact ⟨_, rfl, ⟨fun e => absurd e (by decide), fun e => absurd e (by decide), fun _ => ⟨ro, rc, rfl, S⟩, fun e => absurd e (by decide), fun e => absurd e (by decide)⟩, C⟩
          · obtain rfl : _ = o := Option.some.inj (show some _ = some o from ho)
            obtain ⟨x27, t27, f27⟩ := (hdep 3 (by kernel_rfl)).at 27 (by kernel_rfl)
            replace f27 := f27.1 rfl
            obtain ⟨x30, t30, f30⟩ := (hdep 6 (by kernel_rfl)).at 30 (by kernel_rfl)
            replace f30 := f30.2.1 rfl
            obtain ⟨x33, t33, f33⟩ := (hdep 9 (by kernel_rfl)).at 33 (by kernel_rfl)
            replace f33 := f33.2.2.1 rfl
            subst f27
            obtain ⟨ko, kc, rfl, SK⟩ := f30
            obtain ⟨vo, vc, rfl, SV⟩ := f33
            exact .inl ⟨.agg #[.int .i64 (lev q.k.xs : Nat), .slice ko q.k.n kc, .slice vo q.v.n vc], w, by go_simp, ⟨fun e => absurd e (by decide), fun e => absurd e (by decide), fun e => absurd e (by decide), fun _ => ⟨ko, kc, vo, vc, rfl, SK, SV⟩, fun e => absurd e (by decide)⟩, Below.refl _ _⟩
          · obtain rfl : _ = o := Option.some.inj (show some _ = some o from ho)
            obtain ⟨x34, t34, f34⟩ := (hdep 10 (by kernel_rfl)).at 34 (by kernel_rfl)
            replace f34 := f34.2.2.2.1 rfl
            obtain ⟨ko, kc, vo, vc, rfl, SK, SV⟩ := f34
            have CA : Below w.heap.size w (w.alloc (.cells #[.int .i64 (lev q.k.xs : Nat), .slice ko q.k.n kc, .slice vo q.v.n vc] 49)) := (Below.refl _ _).alloc (Nat.le_refl _) _
            exact .inl ⟨_, _, by go_simp, ⟨fun e => absurd e (by decide), fun e => absurd e (by decide), fun e => absurd e (by decide), fun e => absurd e (by decide), fun _ => ⟨ko, kc, vo, vc, _, rfl, heap_alloc_new w _, SK.kp (KpB.below CA), SV.kp (KpB.below CA)⟩⟩, CA⟩
        intro zf v1 hb hh
        have E1 := E0.trans (hb.mono E0.size)
        obtain ⟨ko, kc, vo, vc, g1, e11, G1, SK, SV⟩ := (hh (11, 35) (by simp)).2.2.2.2 rfl
        clear hh hb
        simp only [putL, List.foldl_cons, List.foldl_nil, e11]
        clear e11
        simp only [Act.put, List.setIfInBounds_toArray, List.set_cons_zero, List.set_cons_succ]
        have own1 := own_below OWN E1
        have AI1 := arr_below AI E1
        obtain ⟨v2, W1, ha, own2, hg2⟩ := appL (q := ⟨lev q.k.xs, ⟨ko, q.k.n, kc, q.k.xs⟩, ⟨vo, q.v.n, vc, q.v.xs⟩⟩) (c := 1) own1 (Nat.le_trans B.size E1.size) (by omega) 45 G1
        have KP2 := KpB.row own1 (by decide) hg2
        have AI2 : Arr W1 wr.heap.size 32 [.slice q.k.ao q.k.n q.k.cap, .slice q.v.ao q.v.n q.v.cap] := AI1.grown hg2 (fun e => arr_not_row AI1 (by decide) own1 e.symm)
        have H2 : W1.cell? ⟨wr.heap.size, 0, none⟩ = some (.slice q.k.ao q.k.n q.k.cap) ∧ W1.cell? ⟨wr.heap.size, 1, none⟩ = some (.slice q.v.ao q.v.n q.v.cap) := ⟨AI2.cell 0, AI2.cell 1⟩
        obtain ⟨g2, lc2, rfl⟩ := own_some own2
        have B2 : Below w.heap.size w W1 := B.trans ((E1.mono B.size).trans ((Below.refl _ _).grown hg2 (Nat.le_trans B.size E1.size) (fun x hx => (own1.lt x hx).1)))
        refine hr_ex 12 (some 36) rfl rfl (by kernel_rfl) rfl (R := fun v w' => .slice (some ⟨g2, 0, none⟩) (ls ++ [LP.mk (lev q.k.xs) ⟨ko, q.k.n, kc, q.k.xs⟩ ⟨vo, q.v.n, vc, q.v.xs⟩]).length lc2 = v ∧ W1 = w') ⟨_, W1, by simp [execOp, Act.eval, resolve, invoke, builtin, ha], rfl, rfl⟩ ?_
        rintro v w' ⟨rfl, rfl⟩
        refine ⟨H2, ?_⟩
        simp only [Act.put, List.setIfInBounds_toArray, List.set_cons_zero, List.set_cons_succ]
        refine hr_take_w 13 (some 5) (.slice (some ⟨g2, 0, none⟩) (ls ++ [LP.mk (lev q.k.xs) ⟨ko, q.k.n, kc, q.k.xs⟩ ⟨vo, q.v.n, vc, q.v.xs⟩]).length lc2) rfl rfl (by kernel_rfl) (by kernel_rfl) (by kernel_rfl) rfl (fun W hW => by obtain ⟨h0, h1⟩ := hW; go_simp) H2 ?_
        simp only [Act.put, List.setIfInBounds_toArray, List.set_cons_zero, List.set_cons_succ]
        refine wpAnyH_done (by kernel_rfl) ?_ _
        refine NoPanic.normal ?_
        have KP := (KpB.below E1).trans KP2
        clear H2 AI AI1 AI2 own1 OWN hg2 ha G1 E1 HS H0 E0
        go_wp2
        go_roundw
        case rel =>
          refine ⟨kk + 1, g2, lc2, ls ++ [LP.mk (lev q.k.xs) ⟨ko, q.k.n, kc, q.k.xs⟩ ⟨vo, q.v.n, vc, q.v.xs⟩], by omega, by go_num, ?_, ?_, ?_, ?_, fun y hy => ?_, B2⟩
          · rw [List.length_append, HLL.out]
            rfl
          · rw [List.length_append, HLL.out] at own2 ⊢
            exact own2
          · rw [List.length_append, HLL.out]
            rfl
          · rw [List.map_append, HLS.out, HQ.out, List.map_append]
            rfl
          · rcases List.mem_append.1 hy with hy | hy
            · exact ⟨(HOK.out y hy).1, (HOK.out y hy).2.1.kp KP, (HOK.out y hy).2.2.kp KP⟩
            · rw [List.mem_singleton.1 hy]
              exact ⟨rfl, SK.kp KP2, SV.kp KP2⟩
        case measure => simp [intOf]; omega
      · have hge : ¬ (kk : Int) < (n : Int) := by omega
        have hkn : n = kk := by omega
        subst hkn
        have hPerm0 : ls.map LP.it = its.map IP.it := by rw [HLS.out, List.take_of_length_le (by omega)]
        have HP0 : Hid (ls.map LP.it = its.map IP.it) := hPerm0
        clear hPerm0
        have CSo := sortL_any wr w.heap.size g n lc ls (by rw [HLL.out] at OWN0; exact OWN0) (fun q hq => (HOK0.out q hq).2) (by omega)
        go_wp2_with fail
        refine CSo.mono ?_
        rintro e w3 ⟨rfl, ls2, hp, hsrt, LL3, KP3, C3⟩
        have B3 := B0.trans C3
        have HOK : Hid (∀ q ∈ ls2, q.ok w3) := fun q hq => by
          have h1 := HOK0.out q (hp.mem_iff.1 hq)
          exact ⟨(h1.2.1.kp KP3).1, (h1.2.2.kp KP3).1, h1.1⟩
        have HPm : Hid ((ls2.map LP.it).Perm (its.map IP.it)) := by
          show List.Perm _ _
          rw [← HP0.out]
          exact hp.map LP.it
        have HSR : Hid (RiseL ls2) := hsrt
        have hl3 := Nat.le_of_eq LL3.len
        have hl4 := Nat.le_of_eq LL3.len.symm
        clear CSo hp hsrt KP3 C3 OWN0 HLL HLS HOK0 HP0 B0
        go_wp2
        go_loopw [42] (fun i wr => ∃ ii : Nat, ii ≤ n ∧ i = .int .i64 ii ∧ (∀ j (h : j + 1 < ls2.length), j + 1 < ii → ls2[j].k.xs ≠ ls2[j + 1].k.xs) ∧ Below w3.heap.size w3 wr) (fun i _ => n - (intOf i).toNat)
        case atStart => exact ⟨0, Nat.zero_le _, rfl, fun j _ h => by omega, Below.refl _ _⟩
        case round =>
          obtain ⟨ii, hii, rfl, hdist, C4⟩ := hrel
          have HD : Hid (∀ j (h : j + 1 < ls2.length), j + 1 < ii → ls2[j].k.xs ≠ ls2[j + 1].k.xs) := hdist
          clear hdist
          by_cases hlt2 : ii < n
          · have hki : (ii : Int) < (n : Int) := by omega
            obtain ⟨c1, c2, c3⟩ := LL3.cells3 C4 ii (by omega)
            obtain ⟨q, hq⟩ : ∃ q, q = ls2[ii] := ⟨_, rfl⟩
            rw [← hq] at c1 c2 c3
            have HQ : Hid (q = ls2[ii]) := hq
            obtain ⟨sk, sv, -⟩ := HOK.out q (by rw [hq]; exact List.getElem_mem _)
            clear hq
            unfold Part.val at c2 c3
            rw [Nat.zero_add] at c1 c2 c3
            go_wp2
            clear c1 c2 c3
            have LFn := Lf.new wr q.L (.slice q.k.ao q.k.n q.k.cap) (.slice q.v.ao q.v.n q.v.cap) 49
            have BA : Below wr.heap.size wr (wr.alloc (.cells #[.int .i64 q.L, .slice q.k.ao q.k.n q.k.cap, .slice q.v.ao q.v.n q.v.cap] 49)) := (Below.refl _ _).alloc (Nat.le_refl _) _
            obtain ⟨W, hW⟩ : ∃ W, W = wr.alloc (.cells #[.int .i64 q.L, .slice q.k.ao q.k.n q.k.cap, .slice q.v.ao q.v.n q.v.cap] 49) := ⟨_, rfl⟩
            rw [← hW] at LFn BA ⊢
            clear hW
            have C5 := C4.trans (BA.mono C4.size)
            by_cases hi0 : ii = 0
            · subst hi0
              have HS : Hid (∀ V, Below W.heap.size W V → True) := fun _ _ => trivial
              have E0 : Below W.heap.size W W.drew := (Below.refl _ _).drew
              refine wp_region_noPanic ?_
              refine wp_region_held_drew (S := fun V => True) (by kernel_rfl) trivial (fun _ => ?_)
              obtain ⟨v0, hv0⟩ : ∃ v, v = W.drew := ⟨_, rfl⟩
              rw [← hv0] at E0 ⊢
              clear hv0
              refine hr_take_w 0 (some 47) (.int .i64 ((0 : Nat) : Int)) rfl rfl (by kernel_rfl) (by kernel_rfl) (by kernel_rfl) rfl (fun W hW => by go_simp) trivial ?_
              simp only [Act.put, List.setIfInBounds_toArray, List.set_cons_zero, List.set_cons_succ]
              refine hr_take_w 1 (some 48) (.bool false) rfl rfl (by kernel_rfl) (by kernel_rfl) (by kernel_rfl) rfl (fun W hW => by go_simp) trivial ?_
              simp only [Act.put, List.setIfInBounds_toArray, List.set_cons_zero, List.set_cons_succ]
              refine hr_take_w 2 (some 49) (.bool false) rfl rfl (by kernel_rfl) (by kernel_rfl) (by kernel_rfl) rfl (fun W hW => by go_simp) trivial ?_
              simp only [Act.put, List.setIfInBounds_toArray, List.set_cons_zero, List.set_cons_succ]
              refine hr_none 3 (some 50) rfl rfl (by kernel_rfl) (by kernel_rfl) (by kernel_rfl) rfl trivial ?_
              simp only [Act.put, List.setIfInBounds_toArray, List.set_cons_zero, List.set_cons_succ]
              refine hr_none 4 (some 51) rfl rfl (by kernel_rfl) (by kernel_rfl) (by kernel_rfl) rfl trivial ?_
              simp only [Act.put, List.setIfInBounds_toArray, List.set_cons_zero, List.set_cons_succ]
              refine hr_none 5 (some 52) rfl rfl (by kernel_rfl) (by kernel_rfl) (by kernel_rfl) rfl trivial ?_
              simp only [Act.put, List.setIfInBounds_toArray, List.set_cons_zero, List.set_cons_succ]
              refine hr_none 6 (some 53) rfl rfl (by kernel_rfl) (by kernel_rfl) (by kernel_rfl) rfl trivial ?_
              simp only [Act.put, List.setIfInBounds_toArray, List.set_cons_zero, List.set_cons_succ]
              refine hr_none 7 (some 54) rfl rfl (by kernel_rfl) (by kernel_rfl) (by kernel_rfl) rfl trivial ?_
              simp only [Act.put, List.setIfInBounds_toArray, List.set_cons_zero, List.set_cons_succ]
              refine hr_none 8 (some 55) rfl rfl (by kernel_rfl) (by kernel_rfl) (by kernel_rfl) rfl trivial ?_
              simp only [Act.put, List.setIfInBounds_toArray, List.set_cons_zero, List.set_cons_succ]
              refine hr_none 9 (some 56) rfl rfl (by kernel_rfl) (by kernel_rfl) (by kernel_rfl) rfl trivial ?_
              simp only [Act.put, List.setIfInBounds_toArray, List.set_cons_zero, List.set_cons_succ]
              refine hr_none 10 (some 57) rfl rfl (by kernel_rfl) (by kernel_rfl) (by kernel_rfl) rfl trivial ?_
              simp only [Act.put, List.setIfInBounds_toArray, List.set_cons_zero, List.set_cons_succ]
              refine hr_none 11 (some 58) rfl rfl (by kernel_rfl) (by kernel_rfl) (by kernel_rfl) rfl trivial ?_
              simp only [Act.put, List.setIfInBounds_toArray, List.set_cons_zero, List.set_cons_succ]
              refine hr_take_w 12 (some 59) (.bool false) rfl rfl (by kernel_rfl) (by kernel_rfl) (by kernel_rfl) rfl (fun W hW => by go_simp) trivial ?_
              simp only [Act.put, List.setIfInBounds_toArray, List.set_cons_zero, List.set_cons_succ]
              refine wpAnyH_done (by kernel_rfl) ?_ _
              refine NoPanic.normal ?_
              go_wp2
              go_roundw
              case rel => exact ⟨1, by omega, by go_num, fun j hj h1 => by omega, C5.trans (E0.mono C5.size)⟩
              case measure => simp [intOf]; omega
            · have hipos : decide (0 < ii) = true := by simp; omega
              obtain ⟨cp0, cp1, cp2⟩ := LL3.cells3 C5 (ii - 1) (by omega)
              obtain ⟨p, hp⟩ : ∃ p, p = ls2[ii - 1] := ⟨_, rfl⟩
              rw [← hp] at cp1
              have HPq : Hid (p = ls2[ii - 1]) := hp
              obtain ⟨sp, -, -⟩ := HOK.out p (by rw [hp]; exact List.getElem_mem _)
              clear hp cp0 cp2
              unfold Part.val at cp1
              rw [Nat.zero_add] at cp1
              have cp := cp1
              clear cp1
              have cq := LFn.c1
              obtain ⟨bb, hbb⟩ : ∃ b : Bool, b = true ↔ p.k.xs = q.k.xs := ⟨decide (p.k.xs = q.k.xs), by simp⟩
              have HBB : Hid (bb = true ↔ p.k.xs = q.k.xs) := hbb
              clear hbb
              have hi1 : ii - 1 < n := by omega
              have hwr : IntKind.i64.wrap ((ii : Int) - 1) = ((ii - 1 : Nat) : Int) := by
                simp [IntKind.wrap, IntKind.bits, IntKind.signed]
                omega
              have hi2 : ((ii - 1 : Nat) : Int) < (n : Int) := by omega
              have HE : Hid (ls2[ii - 1 + 1]'(by omega) = q) := by
                show _ = _
                rw [HQ.out]
                congr 1
                omega
              have HS : Hid (∀ V, Below W.heap.size W V → V.cell? ⟨g, (ii - 1) * 3 + 1, none⟩ = some (.slice p.k.ao p.k.n p.k.cap) ∧ V.cell? ⟨wr.heap.size, 1, none⟩ = some (.slice q.k.ao q.k.n q.k.cap)) := fun V hV => ⟨(hV.cell (World.block_lt_of_cell? _ _ cp)).trans cp, (hV.cell (World.block_lt_of_cell? _ _ cq)).trans cq⟩
              have E0 : Below W.heap.size W W.drew := (Below.refl _ _).drew
              refine wp_region_noPanic ?_
              refine wp_region_held_drew (S := fun V => V.cell? ⟨g, (ii - 1) * 3 + 1, none⟩ = some (.slice p.k.ao p.k.n p.k.cap) ∧ V.cell? ⟨wr.heap.size, 1, none⟩ = some (.slice q.k.ao q.k.n q.k.cap)) (by kernel_rfl) (HS.out _ E0) (fun H0 => ?_)
              obtain ⟨v0, hv0⟩ : ∃ v, v = W.drew := ⟨_, rfl⟩
              rw [← hv0] at H0 E0 ⊢
              clear hv0
              refine hr_take_w 0 (some 47) (.int .i64 (ii : Nat)) rfl rfl (by kernel_rfl) (by kernel_rfl) (by kernel_rfl) rfl (fun W hW => by obtain ⟨h0, h1⟩ := hW; go_simp) H0 ?_
              simp only [Act.put, List.setIfInBounds_toArray, List.set_cons_zero, List.set_cons_succ]
              refine hr_take_w 1 (some 48) (.bool true) rfl rfl (by kernel_rfl) (by kernel_rfl) (by kernel_rfl) rfl (fun W hW => by obtain ⟨h0, h1⟩ := hW; go_simp) H0 ?_
              simp only [Act.put, List.setIfInBounds_toArray, List.set_cons_zero, List.set_cons_succ]
              refine hr_take_w 2 (some 49) (.bool true) rfl rfl (by kernel_rfl) (by kernel_rfl) (by kernel_rfl) rfl (fun W hW => by obtain ⟨h0, h1⟩ := hW; go_simp) H0 ?_
              simp only [Act.put, List.setIfInBounds_toArray, List.set_cons_zero, List.set_cons_succ]
              refine hr_take_w 3 (some 50) (.slice (some ⟨g, 0, none⟩) n lc) rfl rfl (by kernel_rfl) (by kernel_rfl) (by kernel_rfl) rfl (fun W hW => by obtain ⟨h0, h1⟩ := hW; go_simp) H0 ?_
              simp only [Act.put, List.setIfInBounds_toArray, List.set_cons_zero, List.set_cons_succ]
              refine hr_take_w 4 (some 51) (.int .i64 (ii : Nat)) rfl rfl (by kernel_rfl) (by kernel_rfl) (by kernel_rfl) rfl (fun W hW => by obtain ⟨h0, h1⟩ := hW; go_simp) H0 ?_
              simp only [Act.put, List.setIfInBounds_toArray, List.set_cons_zero, List.set_cons_succ]
              refine hr_take_w 5 (some 52) (.int .i64 ((ii - 1 : Nat) : Int)) rfl rfl (by kernel_rfl) (by kernel_rfl) (by kernel_rfl) rfl (fun W hW => by obtain ⟨h0, h1⟩ := hW; go_simp) H0 ?_
              simp only [Act.put, List.setIfInBounds_toArray, List.set_cons_zero, List.set_cons_succ]
              refine hr_take_w 6 (some 53) (.pointer (some ⟨g, (ii - 1) * 3, none⟩)) rfl rfl (by kernel_rfl) (by kernel_rfl) (by kernel_rfl) rfl (fun W hW => by obtain ⟨h0, h1⟩ := hW; go_simp) H0 ?_
              simp only [Act.put, List.setIfInBounds_toArray, List.set_cons_zero, List.set_cons_succ]
              refine hr_take_w 7 (some 54) (.pointer (some ⟨g, (ii - 1) * 3 + 1, none⟩)) rfl rfl (by kernel_rfl) (by kernel_rfl) (by kernel_rfl) rfl (fun W hW => by obtain ⟨h0, h1⟩ := hW; go_simp) H0 ?_
              simp only [Act.put, List.setIfInBounds_toArray, List.set_cons_zero, List.set_cons_succ]
              refine hr_take_w 8 (some 55) (.slice p.k.ao p.k.n p.k.cap) rfl rfl (by kernel_rfl) (by kernel_rfl) (by kernel_rfl) rfl (fun W hW => by obtain ⟨h0, h1⟩ := hW; go_simp) H0 ?_
              simp only [Act.put, List.setIfInBounds_toArray, List.set_cons_zero, List.set_cons_succ]
              refine hr_take_w 9 (some 56) (.pointer (some ⟨wr.heap.size, 1, none⟩)) rfl rfl (by kernel_rfl) (by kernel_rfl) (by kernel_rfl) rfl (fun W hW => by obtain ⟨h0, h1⟩ := hW; go_simp) H0 ?_
              simp only [Act.put, List.setIfInBounds_toArray, List.set_cons_zero, List.set_cons_succ]
              refine hr_take_w 10 (some 57) (.slice q.k.ao q.k.n q.k.cap) rfl rfl (by kernel_rfl) (by kernel_rfl) (by kernel_rfl) rfl (fun W hW => by obtain ⟨h0, h1⟩ := hW; go_simp) H0 ?_
              simp only [Act.put, List.setIfInBounds_toArray, List.set_cons_zero, List.set_cons_succ]
              refine hr_call_w 11 (some 58) 23 #[.slice p.k.ao p.k.n p.k.cap, .slice q.k.ao q.k.n q.k.cap] rfl rfl (by kernel_rfl) rfl (by go_simp) (fun v w' => v = .bool bb ∧ Below v0.heap.size v0 w') ((bequal_b v0 p.k.ao q.k.ao p.k.n p.k.cap q.k.n q.k.cap p.k.xs q.k.xs (sp.below (C5.trans (E0.mono C5.size))) (sk.below (C5.trans (E0.mono C5.size))) bb HBB.out).mono (by
                rintro e w' ⟨rfl, C⟩
                exact ⟨_, rfl, rfl, C⟩)) ?_
              rintro v v1 ⟨rfl, C0⟩
              have E1 := E0.trans (C0.mono E0.size)
              have H1 := HS.out v1 E1
              refine ⟨H1, ?_⟩
              simp only [Act.put, List.setIfInBounds_toArray, List.set_cons_zero, List.set_cons_succ]
              refine hr_take_w 12 (some 59) (.bool bb) rfl rfl (by kernel_rfl) (by kernel_rfl) (by kernel_rfl) rfl (fun W hW => by obtain ⟨h0, h1⟩ := hW; go_simp) H1 ?_
              simp only [Act.put, List.setIfInBounds_toArray, List.set_cons_zero, List.set_cons_succ]
              refine wpAnyH_done (by kernel_rfl) ?_ _
              refine NoPanic.normal ?_
              clear cp cq HS H0 H1
              have C6 := C5.trans (E1.mono C5.size)
              cases bb with
              | true =>
                go_wp2
                go_ret2
                refine ⟨none, 1, rfl, B3.trans (C6.mono B3.size), .inr ⟨by decide, rfl, fun _ hnd => ?_⟩⟩
                have hnd2 : ((ls2.map LP.it).map It.k).Nodup := (HPm.out.map It.k).nodup_iff.2 hnd
                have he : p.k.xs = q.k.xs := HBB.out.1 (by simp)
                rw [List.map_map] at hnd2
                have hnd3 := List.pairwise_iff_getElem.1 hnd2 (ii - 1) ii (by simp; omega) (by simp; omega) (by omega)
                simp only [List.getElem_map, Function.comp_apply] at hnd3
                rw [← HPq.out, ← HQ.out] at hnd3
                exact hnd3 he
              | false =>
                go_wp2
                go_roundw
                case rel =>
                  refine ⟨ii + 1, by omega, by go_num, fun j hj h1 => ?_, C6⟩
                  by_cases hji : j + 1 < ii
                  · exact HD.out j hj hji
                  · have hj2 : j = ii - 1 := by omega
                    subst hj2
                    rw [HE.out, ← HPq.out]
                    intro he
                    have := HBB.out.2 he
                    simp at this
                case measure => simp [intOf]; omega
          · have hge2 : ¬ (ii : Int) < (n : Int) := by omega
            have hik : n = ii := by omega
            subst hik
            have hok4 : ∀ q ∈ ls2, q.ok wr := fun q hq => ⟨(HOK.out q hq).1.below C4, (HOK.out q hq).2.1.below C4, (HOK.out q hq).2.2⟩
            have CSh := shape_fuel wr n wr (some ⟨g, 0, none⟩) n lc ls2 (LL3.below C4) hok4 (Below.refl _ _) hn (Nat.le_refl _)
            have B4 := B3.trans (C4.mono B3.size)
            have HS4 : Hid (Srt (ls2.map LP.it)) := srt_of ls2 HSR.out (fun j hj => HD.out j hj (by omega))
            clear hok4 HSR HD LL3 HOK
            go_wp2_with fail
            refine CSh.mono ?_
            rintro e w5 ⟨v5, rfl, O5, C5⟩
            have T5 := O5.now
            have B5 := B4.trans (C5.mono B4.size)
            clear CSh O5 C5
            have CT := treeOf_any w5 _ _ T5
            go_wp2_with fail
            refine CT.mono ?_
            rintro e w6 ⟨u, rfl, T6, C6⟩
            have B6 := B5.trans (C6.mono B5.size)
            obtain ⟨u6, rfl⟩ := T6.ptr
            clear CT C6 T5
            go_wp2
            go_ret2
            exact ⟨u6, 0, rfl, B6, .inl ⟨rfl, HKD.out.symm, _, HPm.out, HS4.out, T6⟩⟩
  · have hzb : (kd != 0) = true := by simp [hz]
    have HZ : Hid (¬ kd = 0) := hz
    clear hz
    go_wp2
    go_ret2
    exact ⟨none, kd, rfl, B1, .inr ⟨HZ.out, rfl, fun e => absurd (HKD.out.trans e) HZ.out⟩⟩
end Go.Proofs.YtiabdcejibeciaaGreatDoor

namespace Go.Proofs.YtiabdcejibeciaaGreatDoor
open Go.RowKit

/-- What Lay answers. -/
structure LayPost (w : World) (t : Sum Int (List It)) (e : Ending) (w' : World) : Prop where
  bad : ∀ k, t = .inl k → e = .returned (.tuple #[.pointer none, .int .i64 k]) ∧ k ≠ 0
  good : ∀ l, t = .inr l → ∃ v, e = .returned (.tuple #[v, .int .i64 0]) ∧ TT w' v l ∧ Srt l ∧ (∀ x ∈ l, okI x ∧ x.k ≠ [])
  bel : Below w.heap.size w w'
theorem rdCk_good {b : List Int} {l : List It} (hb : Byt b) (h : rdCk b = .inr l) : okCk l ∧ l ≠ [] ∧ Srt l ∧ ∀ x ∈ l, x.k ≠ [] := by
  obtain ⟨-, h1, h2⟩ := rdCk_back hb h
  obtain ⟨h3, h4, h5⟩ := kindCk_ok h2
  exact ⟨h1, h3, h4, h5⟩
theorem layR_app : ∀ (bs : List (List Int)) (b : List Int) (ls : List (List It)), layR bs = .inr ls → layR (bs ++ [b]) = match rdCk b with
    | .inl k => .inl k
    | .inr l => .inr (ls ++ [l])
  | [], b, ls, h => by
    obtain rfl := Sum.inr.inj h
    simp only [List.nil_append, layR]
    cases rdCk b <;> rfl
  | a :: bs, b, ls, h => by
    simp only [List.cons_append, layR] at h ⊢
    cases ha : rdCk a with
    | inl k => rw [ha] at h; simp at h
    | inr l =>
      rw [ha] at h
      cases hr : layR bs with
      | inl k => rw [hr] at h; simp at h
      | inr ls' =>
        rw [hr] at h
        obtain rfl := Sum.inr.inj h
        rw [layR_app bs b ls' hr]
        cases rdCk b <;> rfl
theorem layR_bad : ∀ (bs : List (List Int)) (b : List Int) (cs : List (List Int)) (ls : List (List It)) (k : Int), layR bs = .inr ls → rdCk b = .inl k → layR (bs ++ b :: cs) = .inl k
  | [], b, cs, ls, k, _, hk => by
    simp only [List.nil_append, layR, hk]
  | a :: bs, b, cs, ls, k, h, hk => by
    simp only [List.cons_append, layR] at h ⊢
    cases ha : rdCk a with
    | inl k => rw [ha] at h; simp at h
    | inr l =>
      rw [ha] at h
      cases hr : layR bs with
      | inl k => rw [hr] at h; simp at h
      | inr ls' => rw [layR_bad bs b cs ls' k hr hk]
theorem jn_snoc : ∀ (ls : List (List It)) (a l : List It), jn a (ls ++ [l]) = (jn a ls && joins (a ++ ls.flatten) l)
  | [], a, l => by simp [jn]
  | x :: ls, a, l => by
    rw [List.cons_append, jn, jn, jn_snoc ls (a ++ x) l, List.flatten_cons, List.append_assoc, Bool.and_assoc]
theorem layR_all : ∀ (bs : List (List Int)) (ls : List (List It)), (∀ b ∈ bs, Byt b) → layR bs = .inr ls → ls.length = bs.length ∧ ∀ l ∈ ls, okCk l ∧ l ≠ [] ∧ Srt l ∧ ∀ x ∈ l, x.k ≠ []
  | [], ls, _, h => by
    obtain rfl := Sum.inr.inj h
    simp
  | b :: bs, ls, hb, h => by
    simp only [layR] at h
    cases ha : rdCk b with
    | inl k => rw [ha] at h; simp at h
    | inr l =>
      rw [ha] at h
      cases hr : layR bs with
      | inl k => rw [hr] at h; simp at h
      | inr ls' =>
        rw [hr] at h
        obtain rfl := Sum.inr.inj h
        obtain ⟨h1, h2⟩ := layR_all bs ls' (fun x hx => hb x (List.mem_cons_of_mem _ hx)) hr
        refine ⟨by simp [h1], fun x hx => ?_⟩
        rcases List.mem_cons.1 hx with rfl | hx
        · exact rdCk_good (hb b (List.mem_cons_self ..)) ha
        · exact h2 x hx
theorem flat_short : ∀ (ls : List (List It)), (∀ l ∈ ls, l.length ≤ 64) → ls.flatten.length ≤ ls.length * 64
  | [], _ => by simp
  | l :: ls, h => by
    have := flat_short ls (fun x hx => h x (List.mem_cons_of_mem _ hx))
    have := h l (List.mem_cons_self ..)
    rw [List.flatten_cons, List.length_append, List.length_cons]
    omega
theorem jL_ok : ∀ (its : List IP) (acc : Int), (∀ q ∈ its, 1 ≤ q.k.n ∧ q.k.n ≤ 256 ∧ q.v.n ≤ 1024) → jL its acc = acc
  | [], _, _ => rfl
  | q :: its, acc, h => by
    have hq := h q (List.mem_cons_self ..)
    have e : badK q.k.n = false := by simp [badK]; omega
    rw [jL, e, if_neg (by simp), if_neg (show ¬ 1024 < q.v.n by omega), jL_ok its acc (fun x hx => h x (List.mem_cons_of_mem _ hx))]
theorem Srt.nodup {l : List It} (h : Srt l) : (l.map It.k).Nodup := by
  rw [List.nodup_iff_pairwise_ne, List.pairwise_map]
  exact h.imp fun e => cmpL_lt_ne e

theorem IL.notBool {w : World} {a : Addr} {n cap : Nat} {its : List IP} (h : IL w (some a) n cap its) (hn : 0 < n) {R : Nat} {r : Bool} {t : TypeId} (hR : w.heap[R]? = some (.cells #[.bool r] t)) : a.block ≠ R := by
  rintro rfl
  obtain ⟨h1, -⟩ := h.cell a rfl 0 (by rw [h.len]; exact hn)
  obtain ⟨b, off, spot⟩ := a
  have hs : spot = none := by simpa [Addr.add] using World.cell?_spot h1
  subst hs
  simp only at hR
  rw [Addr.add_lit, cell_of_row w b (off + 0 * 2) _ _ _ hR] at h1
  cases off with
  | zero => simp [Part.val] at h1
  | succ o => simp at h1

set_option maxHeartbeats 8000000 in
set_option maxRecDepth 100000 in
theorem lay_any (w : World) (ao : Option Addr) (n cap : Nat) (ps : List Part) (hT : Tabs w) (h : KL w ao n cap ps) (hn : n ≤ 700) (hb : ∀ q ∈ ps, q.n ≤ 1000000) :
    Calls Tryz.prog 15 #[.slice ao n cap] w (LayPost w (layC (ps.map Part.xs))) := by
  have h2 := hT.two
  have hl1 := Nat.le_of_eq h.len
  have hl2 := Nat.le_of_eq h.len.symm
  have HB : Hid (∀ q ∈ ps, q.n ≤ 1000000) := hb
  have HBY : Hid (∀ b ∈ ps.map Part.xs, Byt b) := fun b hb => by
    obtain ⟨q, hq, rfl⟩ := List.mem_map.1 hb
    exact (h.sl q hq).byte
  obtain ⟨Wa, hWa⟩ : ∃ W, W = w.alloc (.cells #[.slice none 0 0] 22) := ⟨_, rfl⟩
  obtain ⟨Wb, hWb⟩ : ∃ W, W = Wa.alloc (.cells #[.bool true] 4) := ⟨_, rfl⟩
  have Ba : Below w.heap.size w Wa := by rw [hWa]; exact (Below.refl _ _).alloc (Nat.le_refl _) _
  have Bb : Below Wa.heap.size Wa Wb := by rw [hWb]; exact (Below.refl _ _).alloc (Nat.le_refl _) _
  have sa : Wa.heap.size = w.heap.size + 1 := by rw [hWa]; simp
  have sb : Wb.heap.size = w.heap.size + 2 := by rw [hWb]; simp [sa]
  have AA : Wa.heap[w.heap.size]? = some (.cells #[.slice none 0 0] 22) := by rw [hWa]; exact heap_alloc_new w _
  have AB : Wb.heap[w.heap.size + 1]? = some (.cells #[.bool true] 4) := by rw [hWb, ← sa]; exact heap_alloc_new Wa _
  have inv0 : LyI w w.heap.size (w.heap.size + 1) (w.heap.size + 2) Wb (.slice none 0 0) [] true := ⟨(Bb.block _ (by omega)).trans AA, AB, ⟨rfl, .inl ⟨rfl, rfl⟩⟩, fun _ h => by simp at h, fun _ h => by simp at h, Ba.trans (Bb.mono (by omega)), by omega⟩
  clear hb Ba Bb AA AB
  go_enter Tryz.func15, Tryz.ntmps15
  go_wp2_with fail
  rw [← hWa, ← hWb]
  obtain ⟨A, hA⟩ : ∃ A, A = w.heap.size := ⟨_, rfl⟩
  obtain ⟨R, hR⟩ : ∃ R, R = w.heap.size + 1 := ⟨_, rfl⟩
  rw [← hR, ← hA]
  rw [← hR, ← hA] at inv0
  have HAR : Hid (A = w.heap.size ∧ R = w.heap.size + 1) := ⟨hA, hR⟩
  obtain ⟨M, hM⟩ : ∃ M, M = A + 2 := ⟨_, rfl⟩
  rw [← hM] at inv0
  have HM : Hid (M = A + 2) := hM
  clear hA hR hWa hWb sa sb hM
  go_loopw [14] (fun i wr => ∃ (k : Nat) (v : Value) (its : List IP) (ls : List (List It)) (r : Bool), k ≤ n ∧ i = .int .i64 k ∧ Hid (layR ((ps.map Part.xs).take k) = .inr ls) ∧ LyI w A R M wr v its r ∧ Hid (its.map IP.it = ls.flatten ∧ r = jn [] ls)) (fun i _ => n - (intOf i).toNat)
  case atStart => exact ⟨0, _, [], [], true, Nat.zero_le _, rfl, rfl, inv0, rfl, rfl⟩
  case round =>
    clear inv0
    obtain ⟨k, v, its, ls, r, hkn, rfl, HL, inv, HJ⟩ := hrel
    have hB := inv.bel
    have hpos := inv.pos
    have HTL : Hid (its.length ≤ k * 64) := by
      show _ ≤ _
      obtain ⟨h3, h4⟩ := layR_all _ _ (fun b hb => HBY.out b (List.mem_of_mem_take hb)) HL.out
      have h5 := flat_short ls (fun l hl => (h4 l hl).1.len)
      have h6 := congrArg List.length HJ.out.1
      rw [List.length_map] at h6
      rw [List.length_take] at h3
      have : ls.length * 64 ≤ k * 64 := Nat.mul_le_mul_right _ (by omega)
      omega
    by_cases hlt : k < n
    · have hki : (k : Int) < (n : Int) := by omega
      have hkl : k < ps.length := by omega
      obtain ⟨b, off, rfl, hc⟩ := (h.below hB).vl.at (by omega)
      have c1 := hc k (by simpa using hkl)
      rw [List.getElem_map] at c1
      have S := (h.below hB).sl ps[k] (List.getElem_mem hkl)
      have hq := HB.out ps[k] (List.getElem_mem hkl)
      have HT : Hid ((ps.map Part.xs).take (k + 1) = (ps.map Part.xs).take k ++ [ps[k].xs] ∧ ps.map Part.xs = (ps.map Part.xs).take k ++ ps[k].xs :: (ps.map Part.xs).drop (k + 1)) := by
        have e : (ps.map Part.xs)[k]'(by simpa using hkl) = ps[k].xs := List.getElem_map ..
        refine ⟨by rw [List.take_succ_eq_append_getElem (by simpa using hkl), e], ?_⟩
        rw [← e, ← List.drop_eq_getElem_cons, List.take_append_drop]
      obtain ⟨q, hqe⟩ : ∃ q, q = ps[k] := ⟨_, rfl⟩
      rw [← hqe] at c1 S hq HT
      unfold Part.val at c1
      have CR := ckread_any wr q.ao q.n q.cap q.xs S (by omega)
      have HBQ : Hid (Byt q.xs) := S.byte
      clear hc hqe S
      cases hrd : rdCk q.xs with
      | inl z =>
        rw [hrd] at CR
        have HR : Hid (layC (ps.map Part.xs) = .inl z) := by
          show _ = _
          unfold layC
          rw [HT.out.2, layR_bad _ _ _ _ _ HL.out hrd]
        clear hrd
        go_wp2_with fail
        refine CR.mono ?_
        rintro e w1 P1
        obtain ⟨rfl, hz⟩ := P1.bad z rfl
        have B1 := hB.trans (P1.bel.mono hB.size)
        have hzb : (z != 0) = true := by simp [hz]
        have HZ : Hid (z ≠ 0) := hz
        clear P1 CR hz
        go_wp2
        go_ret2
        refine ⟨fun y hy => ?_, fun l hl => ?_, B1⟩
        · rw [HR.out] at hy
          obtain rfl := Sum.inl.inj hy
          exact ⟨rfl, HZ.out⟩
        · rw [HR.out] at hl
          cases hl
      | inr l =>
        rw [hrd] at CR
        have HRD : Hid (rdCk q.xs = .inr l) := hrd
        clear hrd
        go_wp2_with fail
        refine CR.mono ?_
        rintro e w1 P1
        obtain ⟨io, im, ic, js, rfl, IL1, hjs, hnew⟩ := P1.good l rfl
        have C1 := P1.bel
        obtain ⟨g1, g2, g3, g4⟩ := rdCk_good HBQ.out HRD.out
        have inv1 := inv.below C1
        have hil := IL1.len
        have hjl : js.length = l.length := by rw [← hjs, List.length_map]
        have him : 0 < im := by
          have := List.length_pos_iff.2 g2
          omega
        have him2 : im ≤ 64 := by have := g1.len; omega
        have hfar : ∀ y ∈ js, ∀ x, y.blk x → x ≠ A ∧ x ≠ R ∧ v.ownBlock ≠ some x := fun y hy x hx => by
          have h3 := hnew y hy x hx
          refine ⟨by omega, by omega, fun e => ?_⟩
          have := (inv.own.lt x e).2
          omega
        have hrow : ∀ a, io = some a → a.block ≠ R := fun a ha => by
          subst ha
          exact IL1.notBool him inv1.br
        have CG := gather_any w w1 A R M v its js r io im ic inv1 IL1 him (by have := HTL.out; omega) hfar hrow
        have HN : Hid (layR ((ps.map Part.xs).take (k + 1)) = .inr (ls ++ [l]) ∧ (its ++ js).map IP.it = (ls ++ [l]).flatten ∧ (r && joins (its.map IP.it) (js.map IP.it)) = jn [] (ls ++ [l])) := by
          refine ⟨?_, ?_, ?_⟩
          · rw [HT.out.1, layR_app _ _ _ HL.out, HRD.out]
          · rw [List.map_append, HJ.out.1, hjs, List.flatten_append, List.flatten_singleton]
          · rw [jn_snoc, List.nil_append, HJ.out.1, HJ.out.2, hjs]
        clear P1 CR IL1 inv1 inv hfar hrow hnew hjs hjl hil g1 g2 g3 g4 C1
        go_wp2_with fail
        refine CG.mono ?_
        rintro e w2 ⟨rfl, v2, K2⟩
        have HK2 : Hid (LyI w A R M w2 v2 (its ++ js) (r && joins (its.map IP.it) (js.map IP.it))) := K2
        clear CG K2
        go_wp2
        go_roundw
        case rel => exact ⟨k + 1, v2, its ++ js, ls ++ [l], _, by omega, by go_num, HN.out.1, HK2.out, HN.out.2.1, HN.out.2.2⟩
        case measure => simp [intOf]; omega
    · have hge : ¬ (k : Int) < (n : Int) := by omega
      have HLL : Hid (layR (ps.map Part.xs) = .inr ls) := by
        show _ = _
        have := HL.out
        rw [List.take_of_length_le (by rw [List.length_map]; omega)] at this
        exact this
      have HC : Hid (layC (ps.map Part.xs) = if r then .inr (its.map IP.it) else .inl 3) := by
        show _ = _
        unfold layC
        rw [HLL.out, HJ.out.1, HJ.out.2]
      have cr : wr.cell? ⟨R, 0, none⟩ = some (.bool r) := cell_of_row _ _ 0 _ _ _ inv.br
      cases r with
      | false =>
        clear inv HJ
        go_wp2
        go_ret2
        refine ⟨fun y hy => ?_, fun l hl => ?_, hB⟩
        · rw [HC.out] at hy
          obtain rfl := Sum.inl.inj hy
          exact ⟨rfl, by decide⟩
        · rw [HC.out] at hl
          cases hl
      | true =>
        obtain ⟨io, ic, rfl, IL1⟩ := inv.row
        have ca : wr.cell? ⟨A, 0, none⟩ = some (.slice io its.length ic) := cell_of_row _ _ 0 _ _ _ inv.ba
        obtain ⟨-, h4⟩ := layR_all _ _ HBY.out HLL.out
        have hsrt : Srt (its.map IP.it) := by
          rw [HJ.out.1]
          have := jn_srt ls [] List.Pairwise.nil (fun l hl => ⟨(h4 l hl).2.2.1, (h4 l hl).2.1⟩) HJ.out.2.symm
          simpa using this
        have hall : ∀ x ∈ its.map IP.it, okI x ∧ x.k ≠ [] := fun x hx => by
          rw [HJ.out.1] at hx
          obtain ⟨l, hl, hx⟩ := List.mem_flatten.1 hx
          exact ⟨(h4 l hl).1.all x hx, (h4 l hl).2.2.2 x hx⟩
        have hsz : ∀ q ∈ its, 1 ≤ q.k.n ∧ q.k.n ≤ 256 ∧ q.v.n ≤ 1024 := fun q hq => by
          have h5 := hall q.it (List.mem_map.2 ⟨q, hq, rfl⟩)
          have h6 := (IL1.sl q hq).1.len
          have h7 := (IL1.sl q hq).2.len
          have h8 : q.k.xs.length ≤ 256 := h5.1.k.1
          have h9 : q.v.xs.length ≤ 1024 := h5.1.v.1
          have h10 : q.k.xs ≠ [] := h5.2
          have := List.length_pos_iff.2 h10
          omega
        have CM := tmake_any wr io its.length ic its (hT.below hB h2) IL1 (by have := HTL.out; omega) (fun q hq => by have := hsz q hq; omega)
        have HJL : Hid (jL its 0 = 0) := jL_ok its 0 hsz
        have HS : Hid (Srt (its.map IP.it)) := hsrt
        have HA : Hid (∀ x ∈ its.map IP.it, okI x ∧ x.k ≠ []) := hall
        obtain ⟨il, hil⟩ : ∃ n, n = its.length := ⟨_, rfl⟩
        rw [← hil] at ca CM
        clear inv HJ IL1 h4 hsrt hall hsz hil HTL
        go_wp2_with fail
        refine CM.mono ?_
        rintro e w1 ⟨u, kd, rfl, C1, hcase⟩
        have B1 := hB.trans (C1.mono hB.size)
        rcases hcase with ⟨rfl, -, l', hp, hs', tt⟩ | ⟨-, -, hbad⟩
        · have HTT : Hid (TT w1 (.pointer u) (its.map IP.it)) := by
            show TT _ _ _
            rw [← hs'.perm HS.out hp]
            exact tt
          clear hp hs' tt CM
          go_wp2
          go_ret2
          refine ⟨fun y hy => ?_, fun l hl => ?_, B1⟩
          · rw [HC.out] at hy
            cases hy
          · rw [HC.out] at hl
            obtain rfl := Sum.inr.inj hl
            exact ⟨_, rfl, HTT.out, HS.out, HA.out⟩
        · exact absurd HS.out.nodup (hbad HJL.out)
end Go.Proofs.YtiabdcejibeciaaGreatDoor

namespace Go.Proofs.YtiabdcejibeciaaGreatDoor
open Go.RowKit

/-- Items that a tree may have. -/
structure okL (l : List It) : Prop where
  srt : Srt l
  all : ∀ x ∈ l, okI x ∧ x.k ≠ []
theorem cutF_all {per : Nat} (hp : 0 < per) (hq : per ≤ 64) : ∀ (f : Nat) (l : List It), l.length ≤ f → okL l → ∀ c ∈ cutF f per l, okCk c ∧ kindCk c = 0
  | 0, l, _, _ => by simp [cutF]
  | f + 1, l, hf, h => by
    cases l with
    | nil => simp [cutF]
    | cons x l =>
      have h1 : ((x :: l).drop per).length ≤ f := by rw [List.length_drop]; simp only [List.length_cons] at hf ⊢; omega
      have e : x :: l = (x :: l).take per ++ (x :: l).drop per := (List.take_append_drop per (x :: l)).symm
      have hs := h.srt
      rw [e] at hs
      intro c hc
      have hc : c ∈ (x :: l).take per :: cutF f per ((x :: l).drop per) := hc
      rcases List.mem_cons.1 hc with rfl | hc
      · refine ⟨⟨by rw [List.length_take]; omega, fun y hy => (h.all y (List.mem_of_mem_take hy)).1⟩, kindCk_of ?_ hs.app.1 fun y hy => (h.all y (List.mem_of_mem_take hy)).2⟩
        intro hn
        have := congrArg List.length hn
        rw [List.length_take] at this
        simp only [List.length_cons, List.length_nil] at this
        omega
      · exact cutF_all hp hq f _ h1 ⟨hs.app.2.1, fun y hy => h.all y (List.mem_of_mem_drop hy)⟩ c hc
theorem cuts_all {per : Nat} (hp : 0 < per) (hq : per ≤ 64) {l : List It} (h : okL l) : ∀ c ∈ cuts per l, okCk c ∧ kindCk c = 0 := cutF_all hp hq l.length l (Nat.le_refl _) h
theorem layR_put : ∀ (cs : List (List It)), (∀ c ∈ cs, okCk c ∧ kindCk c = 0) → layR (cs.map putCk) = .inr cs
  | [], _ => rfl
  | c :: cs, h => by
    have h1 := h c (List.mem_cons_self ..)
    rw [List.map_cons, layR, rdCk_put h1.1 h1.2, layR_put cs (fun x hx => h x (List.mem_cons_of_mem _ hx))]
theorem joins_of {a l : List It} (h : Srt (a ++ l)) : joins a l = true := by
  unfold joins
  cases ha : a.getLast? with
  | none => rfl
  | some x =>
    cases l with
    | nil => rfl
    | cons y l => exact decide_eq_true (h.app.2.2 x (List.mem_of_getLast? ha) y (List.mem_cons_self ..))
theorem jn_of : ∀ (ls : List (List It)) (a : List It), Srt (a ++ ls.flatten) → jn a ls = true
  | [], _, _ => rfl
  | l :: ls, a, h => by
    rw [List.flatten_cons, ← List.append_assoc] at h
    rw [jn, joins_of h.app.1, jn_of ls (a ++ l) h]
    rfl
/-- What was cut is laid as it was. -/
theorem layC_cuts {per : Nat} (hp : 0 < per) (hq : per ≤ 64) {l : List It} (h : okL l) : layC ((cuts per l).map putCk) = .inr l := by
  unfold layC
  rw [layR_put _ (cuts_all hp hq h)]
  have e : (cuts per l).flatten = l := cuts_flat per hp l.length l (Nat.le_refl _)
  simp only
  rw [jn_of _ _ (by rw [List.nil_append, e]; exact h.srt), e]
  rfl
end Go.Proofs.YtiabdcejibeciaaGreatDoor

namespace Go.Proofs.YtiabdcejibeciaaGreatDoor
open Go.RowKit

/-- Bytes that are written out, marked. -/
theorem Sl.const (w : World) (xs : List Int) (fr : Nat × Nat) (h : Byt xs) (hn : xs.length ≤ maxLen) : Sl (w.alloc (.cells (bv xs).toArray 5 fr)) (some ⟨w.heap.size, 0, none⟩) xs.length xs.length xs := by
  refine ⟨rfl, Nat.le_refl _, hn, fun h => by simp at h, fun a ha i hi => ?_, h⟩
  obtain rfl := Option.some.inj ha
  rw [Addr.add_lit, Nat.zero_add, cell_of_row _ w.heap.size i (bv xs).toArray 5 fr (heap_alloc_new w _)]
  simpa using bv_get xs i hi
end Go.Proofs.YtiabdcejibeciaaGreatDoor

namespace Go.Proofs.YtiabdcejibeciaaGreatDoor
open Go.RowKit

def abc : List It := [⟨[97], []⟩, ⟨[98], []⟩, ⟨[99], []⟩]
theorem byt_one (c : Int) (h : 0 ≤ c ∧ c ≤ 255) : Byt [c] := by
  intro x hx
  rw [List.mem_singleton.1 hx]
  exact h
theorem abc_ok : okL abc := by
  refine ⟨?_, fun x hx => ?_⟩
  · refine (rises_srt _).1 ?_
    decide
  · unfold abc at hx
    simp only [List.mem_cons, List.not_mem_nil, or_false] at hx
    rcases hx with rfl | rfl | rfl
    · exact ⟨⟨⟨by simp, byt_one _ (by omega)⟩, by simp, fun _ h => by simp at h⟩, by simp⟩
    · exact ⟨⟨⟨by simp, byt_one _ (by omega)⟩, by simp, fun _ h => by simp at h⟩, by simp⟩
    · exact ⟨⟨⟨by simp, byt_one _ (by omega)⟩, by simp, fun _ h => by simp at h⟩, by simp⟩
def partOf (b : Nat) (c : Int) : Part := ⟨some ⟨b, 0, none⟩, 1, 1, [c]⟩
def ipOf (b : Nat) (c : Int) : IP := ⟨partOf b c, ⟨none, 0, 0, []⟩⟩
theorem KL.short {w : World} {ao : Option Addr} {n cap : Nat} {qs : List Part} (h : KL w ao n cap qs) {M : Nat} (hx : ∀ b ∈ qs.map Part.xs, b.length ≤ M) : ∀ q ∈ qs, q.n ≤ M := fun q hq => by
  have := hx q.xs (List.mem_map.2 ⟨q, hq, rfl⟩)
  rw [← (h.sl q hq).len]
  exact this

set_option maxHeartbeats 8000000 in
set_option maxRecDepth 100000 in
theorem alive9 (w : World) (hT : Tabs w) : Calls Tryz.prog 6 #[] w fun e w' => e = .returned (.bool true) ∧ Below w.heap.size w w' := by
  have h2 := hT.two
  have kc := fun (w : World) (C : Array Value) (n c g : Nat) (hg : g = w.heap.size) => Joins.run_convert_bytes_const_at (P := Tryz.prog) w 30 5 C n c g hg Tryz.underlying30 Tryz.underlying5
  obtain ⟨W1, hW1⟩ : ∃ W, W = w.alloc (.cells #[.int .u8 97] 5 (1, 2)) := ⟨_, rfl⟩
  obtain ⟨W2, hW2⟩ : ∃ W, W = W1.alloc (.cells #[.int .u8 98] 5 (1, 2)) := ⟨_, rfl⟩
  obtain ⟨W3, hW3⟩ : ∃ W, W = W2.alloc (.cells #[.int .u8 99] 5 (1, 2)) := ⟨_, rfl⟩
  have z1 : W1.heap.size = w.heap.size + 1 := by rw [hW1]; simp
  have z2 : W2.heap.size = w.heap.size + 2 := by rw [hW2]; simp [z1]
  have z3 : W3.heap.size = w.heap.size + 3 := by rw [hW3]; simp [z2]
  have k1 := kc w #[.int .u8 97] 1 1 w.heap.size rfl
  have k2 := kc W1 #[.int .u8 98] 1 1 (w.heap.size + 1) z1.symm
  have k3 := kc W2 #[.int .u8 99] 1 1 (w.heap.size + 2) z2.symm
  obtain ⟨W4, hW4⟩ : ∃ W, W = W3.alloc (.cells #[.slice (some ⟨w.heap.size, 0, none⟩) 1 1, .slice none 0 0, .slice (some ⟨w.heap.size + 1, 0, none⟩) 1 1, .slice none 0 0, .slice (some ⟨w.heap.size + 1 + 1, 0, none⟩) 1 1, .slice none 0 0] 32) := ⟨_, rfl⟩
  have B1 : Below w.heap.size w W1 := by rw [hW1]; exact (Below.refl _ _).alloc (Nat.le_refl _) _
  have B2 : Below W1.heap.size W1 W2 := by rw [hW2]; exact (Below.refl _ _).alloc (Nat.le_refl _) _
  have B3 : Below W2.heap.size W2 W3 := by rw [hW3]; exact (Below.refl _ _).alloc (Nat.le_refl _) _
  have B4 : Below W3.heap.size W3 W4 := by rw [hW4]; exact (Below.refl _ _).alloc (Nat.le_refl _) _
  have S1 : Sl W1 (some ⟨w.heap.size, 0, none⟩) 1 1 [97] := by rw [hW1]; exact Sl.const w [97] (1, 2) (byt_one _ (by omega)) (by simp [maxLen])
  have S2 : Sl W2 (some ⟨w.heap.size + 1, 0, none⟩) 1 1 [98] := by rw [hW2, ← z1]; exact Sl.const W1 [98] (1, 2) (byt_one _ (by omega)) (by simp [maxLen])
  have S3 : Sl W3 (some ⟨w.heap.size + 2, 0, none⟩) 1 1 [99] := by rw [hW3, ← z2]; exact Sl.const W2 [99] (1, 2) (byt_one _ (by omega)) (by simp [maxLen])
  have G4 : W4.heap[w.heap.size + 3]? = some (.cells #[.slice (some ⟨w.heap.size, 0, none⟩) 1 1, .slice none 0 0, .slice (some ⟨w.heap.size + 1, 0, none⟩) 1 1, .slice none 0 0, .slice (some ⟨w.heap.size + 1 + 1, 0, none⟩) 1 1, .slice none 0 0] 32) := by rw [hW4, ← z3]; exact heap_alloc_new W3 _
  have I4 : IL W4 (some ⟨w.heap.size + 3, 0, none⟩) 3 3 [ipOf w.heap.size 97, ipOf (w.heap.size + 1) 98, ipOf (w.heap.size + 2) 99] := by
    refine ⟨rfl, Nat.le_refl _, by simp [maxLen], fun h => by simp at h, fun a ha i hi => ?_, fun q hq => ?_⟩
    · obtain rfl := Option.some.inj ha
      simp only [List.length_cons, List.length_nil] at hi
      rw [Addr.add_lit, Addr.add_lit, Nat.zero_add, Nat.zero_add, cell_of_row _ _ (i * 2) _ _ _ G4, cell_of_row _ _ (i * 2 + 1) _ _ _ G4]
      obtain rfl | rfl | rfl : i = 0 ∨ i = 1 ∨ i = 2 := by omega
      · exact ⟨rfl, rfl⟩
      · exact ⟨rfl, rfl⟩
      · exact ⟨rfl, rfl⟩
    · simp only [List.mem_cons, List.not_mem_nil, or_false] at hq
      rcases hq with rfl | rfl | rfl
      · exact ⟨((S1.below B2).below B3).below B4, Sl.nothing _⟩
      · exact ⟨(S2.below B3).below B4, Sl.nothing _⟩
      · exact ⟨S3.below B4, Sl.nothing _⟩
  have E4 : Below w.heap.size w W4 := B1.trans ((B2.mono B1.size).trans ((B3.mono (by omega)).trans (B4.mono (by omega))))
  have CM := tmake_any W4 (some ⟨w.heap.size + 3, 0, none⟩) 3 3 _ (hT.below E4 h2) I4 (by omega) (fun q hq => by
    simp only [List.mem_cons, List.not_mem_nil, or_false] at hq
    rcases hq with rfl | rfl | rfl <;> simp [ipOf, partOf])
  clear I4 G4 S1 S2 S3 B1 B2 B3 B4 z2 z3
  go_enter Tryz.func6, Tryz.ntmps6
  go_wp2_with fail
  rw [← hW1, ← hW2, ← hW3, ← hW4]
  clear hW1 hW2 hW3 hW4 k1 k2 k3 kc z1
  refine CM.mono ?_
  rintro e w1 ⟨u, kd, rfl, C1, hcase⟩
  have E1 := E4.trans (C1.mono E4.size)
  clear CM C1 E4
  obtain ⟨rfl, TT1⟩ : kd = 0 ∧ TT w1 (.pointer u) abc := by
    rcases hcase with ⟨rfl, -, l', hp, hs', tt⟩ | ⟨-, -, hbad⟩
    · refine ⟨rfl, ?_⟩
      rw [← hs'.perm abc_ok.srt hp]
      exact tt
    · exact absurd abc_ok.srt.nodup (hbad rfl)
  clear hcase
  have CC := cut_any w1 (.pointer u) abc 2 TT1 abc_ok.srt (by decide) (fun x hx => by have h := (abc_ok.all x hx).1; exact ⟨⟨h.k.2, h.k.1⟩, h.v.2, by have := h.v.1; omega⟩)
  go_wp2_with fail
  refine CC.mono ?_
  rintro e w2 P2
  obtain ⟨ao, n, cap, qs, rfl, K2, hqs⟩ := P2.good (by decide) (by decide)
  have C2 := P2.bel
  have E2 := E1.trans (C2.mono E1.size)
  have hqs : qs.map Part.xs = (cuts 2 abc).map putCk := hqs
  obtain rfl : n = 2 := by
    rw [← K2.len, ← List.length_map (f := Part.xs), hqs]
    rfl
  have CL := lay_any w2 ao 2 cap qs (hT.below E2 h2) K2 (by omega) (K2.short (M := 1000000) (by
    rw [hqs]
    decide))
  rw [hqs, layC_cuts (by decide) (by decide) abc_ok] at CL
  clear P2 CC K2 hqs C2 E1 TT1
  go_wp2_with fail
  refine CL.mono ?_
  rintro e w3 P3
  obtain ⟨v, rfl, TT3, -, -⟩ := P3.good abc rfl
  have C3 := P3.bel
  have E3 := E2.trans (C3.mono E2.size)
  have CN := len_any w3 v abc TT3 abc_ok.srt (by decide)
  have hl3 : (((abc.length : Nat) : Int) == 3) = true := rfl
  clear P3 CL C3 E2 TT3
  go_wp2_with fail
  refine CN.mono ?_
  rintro e w4 ⟨rfl, C4⟩
  have E5 := E3.trans (C4.mono E3.size)
  go_wp2
  go_ret
  exact ⟨rfl, E5⟩
end Go.Proofs.YtiabdcejibeciaaGreatDoor

namespace Go.Proofs.YtiabdcejibeciaaGreatDoor
open Go.RowKit

set_option maxHeartbeats 800000 in
set_option maxRecDepth 100000 in
theorem rUint_any (w : World) (ao : Option Addr) (k cap n : Nat) (xs : List Int) (h : Sl w ao k cap xs) (hr : k + 30 ≤ 140737488355328) (hn : n < 18446744073709551616) :
    Calls Tryz.prog 31 #[.slice ao k cap, .int .u64 n] w fun e w' =>
      ∃ v, e = .returned v ∧ w'.ownsRow w.heap.size 5 1 v (k + (enc n).length) (bv (xs ++ enc n)) ∧ Below w.heap.size w w' := by
  have hA := h.below ((Below.refl w.heap.size w).alloc (Nat.le_refl _) (.cells #[] 5))
  have hO := own_empty w
  go_enter Tryz.func31, Tryz.ntmps31
  go_wp2_with (at_builtin; refine wpList_app rfl _ _ rfl w.heap.size _ _ _ rfl hO _ _ _ _ rfl hA (by omega) (by simp) ?_; intro v1 w1 hown1 hb1)
  have hb : Below w.heap.size w w1 := ((Below.refl w.heap.size w).alloc (Nat.le_refl _) _).trans hb1
  have hlen := enc_length hn
  simp only [Nat.zero_add, List.nil_append] at hown1
  clear hb1 hO hA
  go_loopw [0, 1] (fun b m wr => ∃ (j : Nat) (ys : List Int), m = .int .u64 j ∧ j < 18446744073709551616 ∧ ys ++ enc j = enc n ∧ wr.ownsRow w.heap.size 5 1 b (k + ys.length) (bv (xs ++ ys)) ∧ Below w.heap.size w wr) (fun _ m _ => (intOf m).toNat)
  case atStart => exact ⟨n, [], rfl, hn, rfl, by simpa using hown1, hb⟩
  case round =>
    obtain ⟨m, ys, rfl, hm, hys, hown', hbel⟩ := hrel
    have hp := enc_pos m
    have hy9 : ys.length + (enc m).length ≤ 10 := by have := congrArg List.length hys; simp at this; omega
    have hsz := hbel.size
    have HY : Hid (ys ++ enc m = enc n) := hys
    clear hys
    by_cases hlt : m < 128
    · go_wp2_with (at_builtin; refine wpList_app rfl _ _ rfl w.heap.size _ _ _ rfl (hown'.alloc _) _ _ _ _ rfl (Sl.one wr _ (by omega)) (by omega) (by simp; omega) ?_; intro v2 w2 hown2 hb2)
      have e2 := HY.out
      rw [enc_small hlt] at e2
      have ho : w2.ownsRow w.heap.size 5 1 v2 (k + (enc n).length) (bv (xs ++ enc n)) := by
        rw [← e2, ← List.append_assoc]
        simpa [Nat.add_assoc] using hown2
      have hb3 := (hbel.alloc hsz _).trans hb2
      clear hown2 hb2
      go_ret
      exact ⟨v2, rfl, ho, hb3⟩
    · go_wp2_with (at_builtin; refine wpList_app rfl _ _ rfl w.heap.size _ _ _ rfl (hown'.alloc _) _ _ _ _ rfl (Sl.one wr _ (by omega)) (by omega) (by simp; omega) ?_; intro v2 w2 hown2 hb2)
      have e2 := HY.out
      rw [enc_big (n := m) (by omega) hm] at e2
      have ho : w2.ownsRow w.heap.size 5 1 v2 (k + (ys ++ [((m % 128 + 128 : Nat) : Int)]).length) (bv (xs ++ (ys ++ [((m % 128 + 128 : Nat) : Int)]))) := by
        rw [← List.append_assoc]
        simpa [Nat.add_assoc] using hown2
      have hb3 := (hbel.alloc hsz _).trans hb2
      clear hown2 hb2
      go_wp2
      go_roundw
      case rel => exact ⟨m / 128, ys ++ [((m % 128 + 128 : Nat) : Int)], by go_num, by omega, by rw [← e2]; simp, ho, hb3⟩
      case measure => simp [intOf]; omega

set_option maxHeartbeats 400000 in
theorem rBytes_any (w : World) (ao bo : Option Addr) (n cap m cap2 : Nat) (xs ys : List Int) (h : Sl w ao n cap xs) (h2 : Sl w bo m cap2 ys) (hr : n + m + 60 ≤ 140737488355328) :
    Calls Tryz.prog 32 #[.slice ao n cap, .slice bo m cap2] w fun e w' =>
      ∃ v, e = .returned v ∧ w'.ownsRow w.heap.size 5 1 v (n + (enc m).length + m) (bv (xs ++ enc m ++ ys)) ∧ Below w.heap.size w w' := by
  go_enter Tryz.func32, Tryz.ntmps32
  go_wp2_with fail
  refine (rUint_any w ao n cap m xs h (by omega) (by omega)).mono ?_
  rintro e w1 ⟨v1, rfl, hown1, hb1⟩
  have hs := hb1.size
  have hl := enc_length (n := m) (by omega)
  have h3 := h2.below hb1
  go_wp2_with (at_builtin; refine wpList_app rfl _ _ rfl w.heap.size _ _ _ rfl hown1 _ _ _ _ rfl h3 (by omega) (by omega) ?_; intro v3 w3 hown3 hb3)
  have hb4 := hb1.trans hb3
  clear hb1 hown1 hb3 h3
  go_ret
  exact ⟨v3, rfl, hown3, hb4⟩
end Go.Proofs.YtiabdcejibeciaaGreatDoor

namespace Go.Proofs.YtiabdcejibeciaaGreatDoor
open Go.RowKit

theorem rUintT (w : World) (n : Nat) (hn : n < 18446744073709551616) : Calls Tryz.prog 31 #[.slice none 0 0, .int .u64 n] w fun e w' => ∃ fo fn fc, e = .returned (.slice fo fn fc) ∧ SlT w' ⟨fo, fn, fc, enc n⟩ ∧ Below w.heap.size w w' := by
  refine (rUint_any w none 0 0 n [] (Sl.nothing w) (by omega) hn).mono ?_
  rintro e w' ⟨v, rfl, own, B⟩
  rw [List.nil_append] at own
  obtain ⟨fo, fc, rfl, S⟩ := SlT.own own (enc_byte hn)
  exact ⟨fo, _, fc, rfl, S, B⟩
theorem rBytesT (w : World) (ao bo : Option Addr) (n cap m cap2 : Nat) (xs ys : List Int) (h : Sl w ao n cap xs) (h2 : Sl w bo m cap2 ys) (hr : n + m + 60 ≤ 140737488355328) :
    Calls Tryz.prog 32 #[.slice ao n cap, .slice bo m cap2] w fun e w' => ∃ fo fn fc, e = .returned (.slice fo fn fc) ∧ SlT w' ⟨fo, fn, fc, xs ++ bytF ys⟩ ∧ Below w.heap.size w w' := by
  refine (rBytes_any w ao bo n cap m cap2 xs ys h h2 hr).mono ?_
  rintro e w' ⟨v, rfl, own, B⟩
  have hm := h2.len
  have e : xs ++ enc m ++ ys = xs ++ bytF ys := by
    unfold bytF
    rw [hm, List.append_assoc]
  rw [e] at own
  obtain ⟨fo, fc, rfl, S⟩ := SlT.own own (by
    intro x hx
    rcases List.mem_append.1 hx with hx | hx
    · exact h.byte x hx
    · rcases List.mem_append.1 hx with hx | hx
      · exact enc_byte (by omega) x hx
      · exact h2.byte x hx)
  exact ⟨fo, _, fc, rfl, S, B⟩
/-- Chunks in a row of the call's own. -/
structure RcI (w W : World) (v : Value) (qs : List Part) : Prop where
  own : W.ownsRow w.heap.size 30 1 v qs.length (qs.map Part.val)
  sl : ∀ q ∈ qs, SlT W q
  bel : Below w.heap.size w W
theorem RcI.below {w W W' : World} {v : Value} {qs : List Part} (h : RcI w W v qs) (hb : Below W.heap.size W W') : RcI w W' v qs :=
  ⟨own_below h.own hb, fun q hq => (h.sl q hq).kp (KpB.below hb), h.bel.trans (hb.mono h.bel.size)⟩
theorem RcI.kl {w W : World} {v : Value} {qs : List Part} (h : RcI w W v qs) : ∃ ao cap, v = .slice ao qs.length cap ∧ KL W ao qs.length cap qs := by
  obtain ⟨ao, cap, e, V, -⟩ := VL.own h.own
  exact ⟨ao, cap, e, V, fun q hq => (h.sl q hq).1⟩
theorem RcI.step {w W W2 : World} {v : Value} {qs : List Part} {q : Part} (h : RcI w W v qs) (hq : SlT W q) (h2 : W2 = W.alloc (.cells #[q.val] 30)) (hn : qs.length ≤ 1000000) (ty : TypeId) (c : Nat) :
    ∃ v' W3, (Builtin.append_ #[33, 33] ty #[v, .slice (some ⟨W.heap.size, 0, none⟩) 1 c]).run Tryz.prog W2 = .ok v' W3 ∧ RcI w W3 v' (qs ++ [q]) := by
  have hb2 : Below W.heap.size W W2 := by rw [h2]; exact (Below.refl _ _).alloc (Nat.le_refl _) _
  have k2 := h.below hb2
  have hq2 := hq.kp (KpB.below hb2)
  have hxc : W2.heap[W.heap.size]? = some (.cells #[q.val] 30) := by rw [h2]; exact heap_alloc_new W _
  have hs := k2.bel.size
  obtain ⟨i0, hi, hz0, hz1, hz2⟩ := info_parts kinfo
  obtain ⟨v', W3, hrun, own3, g3, -⟩ := run_append_own2 (P := Tryz.prog) W2 w.heap.size 33 ty 30 i0 _ 1 24 Tryz.underlying33 hi hz0 hz1 hz2 rfl (by decide) v qs.length (qs.map Part.val) k2.own ⟨W.heap.size, 0, none⟩ 1 c [q.val] rfl
    (fun j u hu => by
      rw [Addr.add_lit, Nat.zero_add, cell_of_row W2 W.heap.size j _ _ _ hxc]
      simpa using hu) (fun u hu => by
      rw [List.mem_singleton.1 hu]
      rfl) (by unfold maxLen; omega) (by omega) hs
  have kpb : KpB W2 W3 := KpB.row k2.own (by decide) g3
  refine ⟨v', W3, hrun, ?_, ?_, ?_⟩
  · rw [List.length_append, List.map_append]
    exact own3
  · intro r hr
    rcases List.mem_append.1 hr with hr | hr
    · exact (k2.sl r hr).kp kpb
    · rw [List.mem_singleton.1 hr]
      exact hq2.kp kpb
  · exact k2.bel.trans ((Below.refl w.heap.size W2).grown g3 hs (fun k hk => (k2.own.lt k hk).1))
theorem cuts_min {per : Nat} (hp : 0 < per) {l : List It} (h : l ≠ []) : cuts per l = l.take (min per l.length) :: cuts per (l.drop (min per l.length)) := by
  rw [cuts_cons per hp h]
  by_cases q : per ≤ l.length
  · rw [Nat.min_eq_left q]
  · rw [Nat.min_eq_right (by omega), List.take_of_length_le (by omega), List.drop_eq_nil_of_le (by omega), List.take_length, List.drop_length]
theorem cuts_len {per : Nat} (hp : 0 < per) : ∀ (f : Nat) (l : List It), l.length ≤ f → (cutF f per l).length ≤ l.length
  | 0, l, _ => by simp [cutF]
  | f + 1, l, hf => by
    cases l with
    | nil => simp [cutF]
    | cons x l =>
      have h1 : ((x :: l).drop per).length ≤ f := by rw [List.length_drop]; simp only [List.length_cons] at hf ⊢; omega
      have ih := cuts_len hp f _ h1
      show ((x :: l).take per :: cutF f per ((x :: l).drop per)).length ≤ _
      rw [List.length_drop] at ih
      simp only [List.length_cons] at ih ⊢
      omega
theorem jL_keep : ∀ (its : List IP), jL its 4 ≠ 0
  | [] => by decide
  | q :: its => by
    unfold jL
    split
    · decide
    · split
      · exact jL_keep its
      · exact jL_keep its
theorem jL_sz : ∀ (its : List IP), jL its 0 = 0 → ∀ q ∈ its, 1 ≤ q.k.n ∧ q.k.n ≤ 256 ∧ q.v.n ≤ 1024
  | [], _ => by simp
  | q :: its, h => by
    unfold jL at h
    by_cases hb : badK q.k.n = true
    · rw [if_pos hb] at h
      exact absurd h (by decide)
    · rw [if_neg hb] at h
      by_cases hv : 1024 < q.v.n
      · rw [if_pos hv] at h
        exact absurd h (jL_keep its)
      · rw [if_neg hv] at h
        intro y hy
        rcases List.mem_cons.1 hy with rfl | hy
        · have : ¬ (y.k.n < 1 ∨ 256 < y.k.n) := by simpa [badK] using hb
          omega
        · exact jL_sz its h y hy
theorem lo_hi_len (l : List It) (k : List Int) : (lo k l).length + (hi k l).length ≤ l.length := by
  induction l with
  | nil => simp [lo, hi]
  | cons x l ih =>
    unfold lo hi at ih ⊢
    rw [List.filter_cons, List.filter_cons]
    by_cases h1 : cmpL x.k k < 0
    · rw [if_pos (decide_eq_true h1), if_neg (by simpa using cmpL_asym h1)]
      simp only [List.length_cons]
      omega
    · rw [if_neg (by simpa using h1)]
      split
      · simp only [List.length_cons]
        omega
      · simp only [List.length_cons]
        omega
end Go.Proofs.YtiabdcejibeciaaGreatDoor

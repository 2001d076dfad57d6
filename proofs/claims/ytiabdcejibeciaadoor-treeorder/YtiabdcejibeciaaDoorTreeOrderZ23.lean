/-
  Texts in one: ScopeDec, PFind, PTrim, Hex, CConv, PLevel, PTree, PRootN, PHash, PDel, HRegG, NMem, SMem, SortP, PSort.
-/
import Derived.Test.YtiabdcejibeciaaDoorTreeOrderZ0
import Derived.Test.YtiabdcejibeciaaDoorTreeOrderZ6
import Derived.Lib.Strings
import Derived.Test.YtiabdcejibeciaaDoorTreeOrderZ5
import Derived.Laws.BytesArg
import Derived.Laws.IdiomStrings
import Derived.Test.YtiabdcejibeciaaDoorTreeOrderZ14
import Derived.Test.YtiabdcejibeciaaDoorTreeOrderZ20
import Derived.Test.YtiabdcejibeciaaDoorTreeOrderZ22
import Derived.Test.YtiabdcejibeciaaDoorTreeOrderZ8
import Derived.Test.YtiabdcejibeciaaDoorTreeOrderZ10
import Derived.Test.YtiabdcejibeciaaDoorTreeOrderZ9
import Derived.BigQuiet
import Derived.Test.YtiabdcejibeciaaDoorTreeOrderZ16
import Derived.Shelf.SlGeneric
import Derived.Shelf.SlSortCmp.WholeK
import Derived.Ground.SlsfProg
import Derived.Test.YtiabdcejibeciaaDoorProg
namespace Go.Proofs.YtiabdcejibeciaaDoor
open Go.RowKit

theorem least (p : Nat → Prop) : ∀ n, p n → ∃ m, p m ∧ ∀ k, k < m → ¬ p k := by
  intro n
  induction n using Nat.strongRecOn with
  | ind n ih =>
    intro hn
    by_cases h : ∃ k, k < n ∧ p k
    · obtain ⟨k, hk, hp⟩ := h
      exact ih k hk hp
    · exact ⟨n, hn, fun k hk hp => h ⟨k, hk, hp⟩⟩
theorem wp_scope_dec {P : Program} {Q : Exit → Act → World → Prop} {a : Act} {w : World} {y : Code} (l : Nat) (J : Nat → Act → World → Prop) (n : Nat) (h0 : J n a w)
    (pass : ∀ n a w, J n a w → y.wp P (Exit.jump l (fun a' w' => ∃ m, m < n ∧ J m a' w') Q) a w) : (Code.scope ((Code.label l).seq y)).wp P Q a w := by
  have hex : ∀ p : Act × World, ∃ n, (∃ k, J k p.1 p.2) → (J n p.1 p.2 ∧ ∀ m, m < n → ¬ J m p.1 p.2) := by
    intro p
    by_cases h : ∃ k, J k p.1 p.2
    · obtain ⟨k, hk⟩ := h
      obtain ⟨m, h1, h2⟩ := least (fun k => J k p.1 p.2) k hk
      exact ⟨m, fun _ => ⟨h1, h2⟩⟩
    · exact ⟨0, fun h' => absurd h' h⟩
  obtain ⟨μ, hμ⟩ := Classical.axiomOfChoice hex
  refine wp_scope_label l (fun a w => ∃ n, J n a w) (fun a w => μ (a, w)) ⟨n, h0⟩ ?_
  intro a w hJ
  obtain ⟨h1, h2⟩ := hμ (a, w) hJ
  refine wp_mono (pass _ a w h1) ?_
  intro e a' w' h
  cases e with
  | goto l' =>
    obtain ⟨he, ⟨m, hm, hJm⟩⟩ := h
    refine ⟨he, ⟨m, hJm⟩, ?_⟩
    obtain ⟨h3, h4⟩ := hμ (a', w') ⟨m, hJm⟩
    have : ¬ m < μ (a', w') := fun hlt => h4 m hlt hJm
    show μ (a', w') < μ (a, w)
    have hm' : m < μ (a, w) := hm
    omega
  | _ => exact h
end Go.Proofs.YtiabdcejibeciaaDoor

namespace Go.Proofs.YtiabdcejibeciaaDoor
open Go.RowKit

/-- What a search for a key answers. -/
def FoundV (w : World) (l : List It) (key : List Int) (e : Ending) (w' : World) : Prop := ∃ (qo : Option Addr) (qn qc : Nat) (b : Bool), e = .returned (.tuple #[.slice qo qn qc, .bool b]) ∧
  (b = true → ∃ x ∈ l, x.k = key ∧ Sl w' qo qn qc x.v) ∧ (b = false → ¬ has key l ∧ qo = none ∧ qn = 0 ∧ qc = 0) ∧ Below w.heap.size w w'

/-- What holds at the label. -/
def FJ (w : World) (l : List It) (key : List Int) (xo : Option Addr) (m xc : Nat) (n : Nat) (a' : Act) (w' : World) : Prop := Below w.heap.size w w' ∧ ∃ (u u6 u7 u8 u9 u10 u11 u12 u13 u14 u15 u16 u17 u18 u19 u20 u21 u22 u23 u24 u25 u26 u27 u28 u29 u30 : Value) (l' : List It),
  a' = { tmps := #[u, .slice xo m xc, undef, undef, .slice none 0 0, .bool false, u6, u7, u8, u9, u10, u11, u12, u13, u14, u15, u16, u17, u18, u19, u20, u21, u22, u23, u24, u25, u26, u27, u28, u29, u30], defers := [] } ∧ T w' u l' ∧ Srt l' ∧ (∀ x ∈ l', x ∈ l) ∧ (has key l → has key l') ∧ l'.length = n ∧ n ≤ 100000

set_option maxHeartbeats 4000000 in
set_option maxRecDepth 100000 in
theorem find_any (w : World) (v : Value) (l : List It) (key : List Int) (xo : Option Addr) (m xc : Nat) (hT : T w v l) (hs : Srt l) (hx : Sl w xo m xc key) (hn : l.length ≤ 100000) :
    Calls Tryd.prog 30 #[v, .slice xo m xc] w (FoundV w l key) := by
  go_enter Tryd.func30, Tryd.ntmps30
  go_wp2
  refine wp_scope_dec 0 (FJ w l key xo m xc) l.length ?_ ?_
  · exact ⟨Below.refl _ _, v, _, _, _, _, _, _, _, _, _, _, _, _, _, _, _, _, _, _, _, _, _, _, _, _, _, l, rfl, hT, hs, fun x hx => hx, fun h => h, rfl, hn⟩
  · rintro n a' w' ⟨hB, u, u6, u7, u8, u9, u10, u11, u12, u13, u14, u15, u16, u17, u18, u19, u20, u21, u22, u23, u24, u25, u26, u27, u28, u29, u30, l', rfl, hT', hs', hsub, hhas, hlen, hn'⟩
    have HN : Hid (l'.length = n) := hlen
    have HH : Hid (has key l → has key l') := hhas
    have HU : Hid (∀ x ∈ l', x ∈ l) := hsub
    have hln : l'.length ≤ 100000 := by omega
    clear hlen hhas hsub hn'
    rcases hT'.is with ⟨rfl, rfl⟩ | ⟨d, segs, xs, rfl, h⟩
    · go_wp2
      simp only [Exit.jump]
      go_ret2
      refine ⟨none, 0, 0, false, rfl, by simp, fun _ => ⟨fun hk => ?_, rfl, rfl, rfl⟩, hB⟩
      obtain ⟨y, hy, -⟩ := HH.out hk
      simp at hy
    · have hm := h.many
      have hnk1 := Nat.le_of_eq h.nk
      have hnk2 := Nat.le_of_eq h.nk.symm
      have hnv1 := Nat.le_of_eq h.nv
      have hnv2 := Nat.le_of_eq h.nv.symm
      have hnc1 := Nat.le_of_eq h.nc
      have hnc2 := Nat.le_of_eq h.nc.symm
      have CP := place_any w' d h.ok xo m xc key (hx.below hB) (h.rise hs') (by omega)
      unfold Nd.ptr at CP ⊢
      go_wp2_with fail
      refine CP.mono ?_
      rintro e w1 ⟨i, b, rfl, hat, B1⟩
      have N1 := h.below B1
      have E1 : Below w.heap.size w w1 := hB.trans (B1.mono hB.size)
      obtain ⟨s, A, B, c, hA, hBB, hB2, hf⟩ := h.found hs' hat
      have hle := c.le
      clear CP
      cases b with
      | true =>
        obtain ⟨hi, he⟩ := hf rfl
        have hv : i < d.vs.length := by omega
        have hvi : (i : Int) < (d.vs.length : Int) := by omega
        have V1 := N1.ok.vl
        have c2 := N1.ok.c2
        obtain ⟨vb, vf, ev, hcell⟩ := V1.vl.at (by omega)
        have c1 := hcell i (by simpa using hv)
        have S1 := V1.sl d.vs[i] (List.getElem_mem hv)
        have hval := h.valAt i hv hi
        simp only [List.getElem_map] at c1
        rw [ev] at c2
        obtain ⟨q, hq⟩ : ∃ q, q = d.vs[i] := ⟨_, rfl⟩
        rw [← hq] at c1 S1 hval
        have HX : Hid (xs[i].k = key) := he
        have HV : Hid (q.xs = xs[i].v) := hval
        unfold Part.val at c1
        clear hq hcell he hval hf hB2 hat
        go_wp2
        simp only [Exit.jump]
        go_ret2
        refine ⟨q.ao, q.n, q.cap, true, rfl, fun _ => ⟨xs[i], HU.out _ (h.shp.key _ (List.getElem_mem hi)), HX.out, by rw [← HV.out]; exact S1⟩, by simp, E1⟩
      | false =>
        have hB3 := hB2 rfl
        obtain ⟨kb, ko, s', u', eco, hs1, hs2, hcell, hTk, hlen⟩ := N1.kidAt i hle
        obtain rfl : s = s' := Option.some.inj (c.seg.symm.trans hs1)
        have hss : Srt s := by
          have h1 := hs'
          rw [c.el] at h1
          exact h1.app.2.1.app.1
        have c3 := N1.ok.c3
        rw [eco] at c3
        have hii : (i : Int) < (d.cs.length : Int) := by omega
        obtain ⟨q, rfl⟩ := hTk.ptr
        have HK : Hid (has key l → has key s) := fun hk => by
          obtain ⟨y, hy, he⟩ := HH.out hk
          rw [c.el] at hy
          rcases List.mem_append.1 hy with hy | hy
          · exact absurd he (cmpL_lt_ne (hA y hy))
          · rcases List.mem_append.1 hy with hy | hy
            · exact ⟨y, hy, he⟩
            · exact absurd he.symm (cmpL_lt_ne (hB3 y hy))
        have HS : Hid (∀ x ∈ s, x ∈ l) := fun y hy => HU.out y (h.shp.seg _ (List.mem_of_getElem? c.seg) y hy)
        have hlN : s.length < n := by have := HN.out; omega
        clear hs1 hs2 hf hB2 hat eco HH HU
        go_wp2
        go_step3
        refine ⟨rfl, s.length, hlN, E1, _, _, _, _, _, _, _, _, _, _, _, _, _, _, _, _, _, _, _, _, _, _, _, _, _, _, s, rfl, hTk, hss, HS.out, HK.out, rfl, by omega⟩
end Go.Proofs.YtiabdcejibeciaaDoor

namespace Go.Proofs.YtiabdcejibeciaaDoor
open Go.RowKit

theorem sb_drop (t : ByteArray) : sb (t.extract 1 t.size) = (sb t).drop 1 := by
  unfold sb
  rw [ByteArray.data_extract, Array.toList_extract]
  simp
  refine List.take_of_length_le ?_
  rw [List.length_tail, List.length_map, Array.length_toList]
  exact Nat.le_refl _

set_option maxHeartbeats 1000000 in
set_option maxRecDepth 100000 in
theorem trimB_any (w : World) (s : ByteArray) (hs : s.size ≤ 1000000) :
    Calls Tryd.prog 86 #[.string s, .int .u8 48] w fun e w' => ∃ t, e = .returned (.string t) ∧ sb t = (sb s).dropWhile (fun c => c == 48) ∧ w' = w := by
  go_enter Tryd.func86, Tryd.ntmps86
  go_wp2
  go_loopw [0] (fun a wr => ∃ t : ByteArray, a = .string t ∧ t.size ≤ s.size ∧ wr = w ∧ (sb t).dropWhile (fun c => c == 48) = (sb s).dropWhile (fun c => c == 48)) (fun a _ => match a with | .string t => t.size | _ => 0)
  case atStart => exact ⟨s, rfl, Nat.le_refl _, rfl, rfl⟩
  case round =>
    obtain ⟨t, rfl, hle, rfl, hd⟩ := hrel
    have HD : Hid ((sb t).dropWhile (fun c => c == 48) = (sb s).dropWhile (fun c => c == 48)) := hd
    clear hd
    by_cases h0 : 0 < t.size
    · have h0' : (0 : Int) < (t.size : Int) := by omega
      have hat := sb_at t 0 h0
      rw [List.drop_zero, Nat.zero_add] at hat
      by_cases h1 : (t[0].toNat : Int) = 48
      · have hb : ((t[0].toNat : Int) == 48) = true := by simpa using h1
        have HE : Hid (sb t = (t[0].toNat : Int) :: (sb t).drop 1) := hat
        have H1 : Hid ((t[0].toNat : Int) = 48) := h1
        clear hat h1
        go_wp2
        refine ⟨⟨_, rfl, ?_, trivial, ?_⟩, ?_⟩
        · simp only [ByteArray.size_extract]
          omega
        · rw [sb_drop, ← HD.out]
          conv => rhs; rw [HE.out, H1.out]
          simp
        · simp only [ByteArray.size_extract]
          omega
      · have hb : ((t[0].toNat : Int) == 48) = false := by simpa using h1
        have HE : Hid ((sb t).dropWhile (fun c => c == 48) = sb t) := by
          show _ = _
          rw [hat, List.dropWhile_cons, hb]
          rfl
        clear hat h1
        go_wp2
        go_ret
        exact ⟨t, rfl, by rw [← HD.out, HE.out], rfl⟩
    · have h0' : ¬ (0 : Int) < (t.size : Int) := by omega
      have HE : Hid ((sb t).dropWhile (fun c => c == 48) = sb t) := by
        show _ = _
        have : sb t = [] := List.eq_nil_of_length_eq_zero (by rw [sb_len]; omega)
        rw [this]
        rfl
      go_wp2
      go_ret
      exact ⟨t, rfl, by rw [← HD.out, HE.out], rfl⟩

set_option maxHeartbeats 1000000 in
set_option maxRecDepth 100000 in
theorem trim_any (w : World) (s : ByteArray) (h0 : 0 < s.size) (hs : s.size ≤ 1000000) :
    Calls Tryd.prog 62 #[.string s, .string ⟨#[48]⟩] w fun e w' => ∃ t, e = .returned (.string t) ∧ sb t = (sb s).dropWhile (fun c => c == 48) ∧ w' = w := by
  have CT := trimB_any w s hs
  have he : s.toList.isEmpty = false := by
    rw [List.isEmpty_eq_false_iff]
    intro e
    have := congrArg List.length e
    rw [Lib.toList_data, Array.length_toList] at this
    have h2 : s.size = s.data.size := rfl
    simp at this
    rw [h2, this] at h0
    simp at h0
  have hz : (((⟨#[48]⟩ : ByteArray)[0]'(by decide)).toNat : Int) = 48 := rfl
  go_enter Tryd.func62, Tryd.ntmps62
  go_wp2_with fail
  refine CT.mono ?_
  rintro e w' ⟨t, rfl, ht, rfl⟩
  have HT : Hid (sb t = (sb s).dropWhile (fun c => c == 48)) := ht
  clear ht
  go_wp2
  go_ret
  exact ⟨t, rfl, HT.out, rfl⟩
end Go.Proofs.YtiabdcejibeciaaDoor

namespace Go.Proofs.YtiabdcejibeciaaDoor
open Go.RowKit Go.Shelf

attribute [local go_sem] Oper.semAt_some

/-- A slice of the call's own, as a string. -/
theorem conv_own {w : World} {base : Nat} {v : Value} {k : Nat} {xs : List Int} (h : w.ownsRow base 5 1 v k (bv xs)) : (convert 26 9 v).run Tryd.prog w = .ok (.string (strOfNums xs)) w := by
  have hl : xs.length = k := by have := h.1; rw [bv_length] at this; omega
  rcases h.2 with ⟨rfl, rfl⟩ | ⟨g, cap, cur, rfl, hg, hh, hle, hmx, hcs, htk⟩
  · obtain rfl : xs = [] := List.eq_nil_of_length_eq_zero hl
    exact run_convert_bytes_nil w 26 5 Tryd.underlying26 Tryd.underlying5 0 0 9 Tryd.underlying9
  · refine run_convert_bytes_arg w 26 5 Tryd.underlying26 Tryd.underlying5 g 0 k cap xs hl (fun i hi => ?_) 9 Tryd.underlying9
    have := h.cells (g := g) rfl i _ (bv_get xs i (by omega))
    simpa [add_at] using this

set_option maxRecDepth 100000 in
set_option maxHeartbeats 2000000 in
theorem hex_in (F : Fence) (n : Nat) (h3 : F.fn 60) (h4 : F.fn 82) (h5 : F.fn 107) (hro : F.round = none) (hn : 3 ≤ n) (ao : Option Addr) (m cap : Nat) (xs : List Int) (w : World) (hL : Sl w ao m cap xs) (hm : m ≤ 70368744177664) :
    CallsIn F n Tryd.prog 60 #[.slice ao m cap] w fun e w' => e = .returned (.string (strOfNums (hexL xs))) ∧ Below w.heap.size w w' := by
  have h1 : 1 ≤ n := by omega
  obtain ⟨i0, hi, hz0, hz1, hz2⟩ := info_parts u8info
  have hln := hL.len
  have hlow := hL.lt
  have hxl := hexL_len xs
  refine callsIn_of_wp_marks Tryd.func60 rfl h3 ?_ hro
  simp only [Tryd.ntmps60, List.size_toArray, List.length_cons, List.length_nil, Nat.reduceAdd, Nat.reduceSub, Array.replicate_succ, Array.replicate_zero, List.push_toArray, List.append_toArray, List.nil_append, List.cons_append]
  gi_wp2_with (first
    | (gi_at_make; refine wpListIn_make_own _ rfl _ _ 26 rfl w.heap.size 5 i0 (.int .u8 0) 1 Tryd.underlying26 hi hz0 hz1 _ _ _ (2 * m) rfl rfl (by omega) (by rw [hz2]; omega) (by unfold maxLen; omega) (Nat.le_refl _) ?_; intro w1 own1 g1; have B1 : Below w.heap.size w w1 := (Below.refl _ w).grown g1 (Nat.le_refl _) (by simp); have s1 := g1.size; clear g1)
    | (gi_at_call 82; refine (digits_in F (n - 1) h4 hro _ ao m cap rfl _).mono ?_; rintro e w' ⟨rfl, rfl⟩))
  have bO := Boxed.new w1 26 (.slice (some ⟨w.heap.size, 0, none⟩) 0 (2 * m))
  have bN := Boxed.new (w1.alloc (.cells #[.slice (some ⟨w.heap.size, 0, none⟩) 0 (2 * m)] 26)) 26 (.slice ao m cap)
  rw [World.size_alloc] at bN
  have hB0 : Below w.heap.size w ((w1.alloc (.cells #[.slice (some ⟨w.heap.size, 0, none⟩) 0 (2 * m)] 26)).alloc (.cells #[.slice ao m cap] 26)) := (B1.alloc s1 _).alloc (by simp; omega) _
  refine wpIn_rangeFunc_ownG hro h1 (gf := 107) (lb := #[.pointer (some ⟨w1.heap.size + 1, 0, none⟩)]) rfl h5 (enters_of Tryd.func107 (by kernel_rfl) rfl)
    (digits_stops F (n - 1) h5 hro (by omega) (w1.heap.size + 1) w.heap.size ao m cap xs _ (by simp) bN.cell (hL.below hB0) hlow) belowK_t (belowK_b (by simp; omega)) (Below.refl _ _) (fun _ => rfl)
    (fun pre W => (∃ v, Boxed W w1.heap.size 26 v ∧ W.ownsRow w.heap.size 5 1 v pre.length (bv pre) ∧ True) ∧ Below w.heap.size w W)
    (fun _ _ _ => False)
    (OwnFrom.and (Own.from (holdsRow_own w.heap.size w1.heap.size 26 5 1 (fun pre => List.length pre) (fun pre => bv pre) (fun _ _ => True)) _) (ownFrom_below (Nat.le_refl _) (by simp; omega)))
    (fun _ _ _ _ _ hs _ _ => hs)
    ⟨⟨_, bO.alloc _, (own1.alloc _).alloc _, trivial⟩, hB0⟩
    (fun x => { tmps := #[.slice ao m cap, undef, .string ⟨#[]⟩, .pointer (some ⟨w1.heap.size, 0, none⟩), .int .u8 x, .slice ao m cap, .int .i64 m, .int .i64 (2 * m), .slice (some ⟨w.heap.size, 0, none⟩) 0 (2 * m), .slice ao m cap, .func (.func 107) #[] #[.pointer (some ⟨w1.heap.size + 1, 0, none⟩)], .int .u8 x, undef, undef, undef, undef, undef, undef], defers := [] }) ?assign ?body ?done ?stop
  case assign =>
    intro l x W K hK
    gi_wp2
    exact hK
  case body =>
    rintro l pre x W ⟨⟨v, hv, hrow, _⟩, hB⟩ hlt
    have hc := hv.cell
    gi_wp2_with (gi_at_builtin; refine wpListIn_append_own _ rfl _ _ 26 rfl w.heap.size 5 i0 (.int .u8 0) 1 1 Tryd.underlying26 hi hz0 hz1 hz2 rfl (by decide) _ _ _ rfl (hrow.alloc _) ⟨W.heap.size, 0, none⟩ 1 1 [.int .u8 x] rfl rfl (cell_one_new _ _ _) (by simp [Value.oneCell']) (by unfold maxLen; omega) (by omega) (by have := hB.size; simp; omega) ?_; intro v' w2 hown' hgrow _; obtain ⟨g', cap', rfl⟩ := ownsRow_succ hown'; obtain ⟨hv1, hv2, hr2, hk2, hb2⟩ := hv.appended (by decide) hrow hB.size s1 hown' hgrow; have hc1 := hv1.cell; have hf1 := hv1.frozen)
    exact ⟨hk2.from _, hb2, ⟨_, hv2, by rw [bv_append, List.length_append]; exact hr2, trivial⟩, hB.trans hb2⟩
  case done =>
    rintro D ys W hD rfl ⟨⟨v, hv, hrow, _⟩, hB⟩ hK
    have hc := hv.cell
    have hcv := conv_own hrow
    gi_wp2
    refine ⟨by simp, .inl ⟨_, _, rfl, run_takeDeferred hK, ?_⟩⟩
    exact ⟨_, results_tmp rfl _ _ _, rfl, hB.trans (belowK_b (w := w) (Nat.le_refl _) W D _ _ (by simp at hD; omega) hK rfl rfl)⟩
  case stop =>
    rintro D c pre W _ _ h _
    exact h.elim

/-- Hex of whatever bytes. -/
theorem hex_any (w : World) (ao : Option Addr) (m cap : Nat) (xs : List Int) (hL : Sl w ao m cap xs) (hm : m ≤ 70368744177664) :
    Calls Tryd.prog 60 #[.slice ao m cap] w fun e w' => e = .returned (.string (strOfNums (hexL xs))) ∧ Below w.heap.size w w' :=
  (callsIn_wide (n := 3)).1 (hex_in Fence.wide 3 trivial trivial trivial rfl (Nat.le_refl _) ao m cap xs w hL hm)

end Go.Proofs.YtiabdcejibeciaaDoor

namespace Go.Proofs.YtiabdcejibeciaaDoor
open Go.RowKit

theorem sb_str {xs : List Int} (h : Byt xs) : sb (strOfNums xs) = xs := by
  unfold sb
  rw [strOfNums_data, List.map_map]
  refine (List.map_congr_left fun x hx => ?_).trans (List.map_id xs)
  have := h x hx
  simp only [Function.comp_apply, id_eq, UInt8.toNat_ofNat']
  omega
theorem conv_str {w : World} {ao : Option Addr} {n cap : Nat} {xs : List Int} (h : Sl w ao n cap xs) : (convert 26 9 (.slice ao n cap)).run Tryd.prog w = .ok (.string (strOfNums xs)) w := by
  cases ao with
  | none =>
    obtain ⟨rfl, rfl⟩ := h.nil rfl
    obtain rfl : xs = [] := List.eq_nil_of_length_eq_zero h.len
    exact run_convert_bytes_nil w _ _ Tryd.underlying26 Tryd.underlying5 _ _ _ Tryd.underlying9
  | some a =>
    have hl := h.len
    have hc := run_convert_bytes_back (P := Tryd.prog) w 26 9 5 a cap (xs.map fun n => UInt8.ofNat n.toNat) Tryd.underlying26 Tryd.underlying5 Tryd.underlying9 (fun j hj => by
      have hj' : j < xs.length := by simpa using hj
      have hb := h.byte xs[j] (List.getElem_mem hj')
      rw [h.cells a rfl j _ (bv_get xs j hj')]
      simp only [List.getElem_map, UInt8.toNat_ofNat', List.getD, List.getElem?_eq_getElem hj', Option.getD_some, Option.some.injEq, Value.int.injEq, true_and]
      omega)
    rw [List.length_map, hl] at hc
    exact hc
end Go.Proofs.YtiabdcejibeciaaDoor

namespace Go.Proofs.YtiabdcejibeciaaDoor
open Go.RowKit

theorem dg_byte {x : Int} (h : 0 ≤ x ∧ x < 16) : 0 ≤ dg x ∧ dg x ≤ 255 := by
  unfold dg
  split <;> omega
theorem hexL_byte {xs : List Int} (h : Byt xs) : Byt (hexL xs) := by
  intro y hy
  simp only [hexL, List.mem_flatMap, List.mem_cons, List.not_mem_nil, or_false] at hy
  obtain ⟨x, hx, hy⟩ := hy
  have := h x hx
  rcases hy with rfl | rfl
  · exact dg_byte (by omega)
  · exact dg_byte (by omega)
theorem take_drop_while {α : Type} (p : α → Bool) : ∀ l : List α, (l.takeWhile p).length + (l.dropWhile p).length = l.length
  | [] => rfl
  | a :: l => by
    have := take_drop_while p l
    rw [List.takeWhile_cons, List.dropWhile_cons]
    split <;> simp only [List.length_cons, List.length_nil] <;> omega
theorem pl_one (w : World) (ao : Option Addr) (n cap : Nat) (xs : List Int) (h : Sl w ao n cap xs) (t : TypeId) : PL (w.alloc (.cells #[.slice ao n cap] t)) (some ⟨w.heap.size, 0, none⟩) 1 1 [⟨ao, n, cap, xs⟩] := by
  have B : Below w.heap.size w (w.alloc (.cells #[.slice ao n cap] t)) := (Below.refl _ w).alloc (Nat.le_refl _) _
  refine (KL.mk ?_ ?_).pl
  · exact VL.new w [.slice ao n cap] t (by simp [maxLen])
  · intro q hq
    rw [List.mem_singleton.1 hq]
    exact h.below B

theorem wrap_lev (k : List Int) : IntKind.i64.wrap (lev k : Int) = lev k := by
  have := lev_le k
  simp [IntKind.wrap, IntKind.bits, IntKind.signed]
  omega

set_option maxHeartbeats 1000000 in
set_option maxRecDepth 100000 in
theorem level_any (w : World) (ao : Option Addr) (n cap : Nat) (xs : List Int) (hT : Tabs w) (h : Sl w ao n cap xs) (hn : n ≤ 1000000) :
    Calls Tryd.prog 28 #[.slice ao n cap] w fun e w' => e = .returned (.int .i64 (lev xs)) ∧ Below w.heap.size w w' := by
  have h2 := hT.two
  have B0 : Below w.heap.size w (w.alloc (.cells #[.slice ao n cap] 26)) := (Below.refl _ w).alloc (Nat.le_refl _) _
  have P0 := pl_one w ao n cap xs h 26
  obtain ⟨D, hD⟩ : ∃ D, D = sumL (formL (sb lvS) [xs]) := ⟨_, rfl⟩
  have hDl : D.length = 32 := by rw [hD]; exact sumL_len _
  have hDb : Byt D := by rw [hD]; exact sumL_byte _
  have CO := of_any _ lvS (some ⟨w.heap.size, 0, none⟩) 1 1 [⟨ao, n, cap, xs⟩] P0 (hT.below B0 h2) (by decide) (by decide) (by intro q hq; rw [List.mem_singleton.1 hq]; exact hn)
  rw [show formL (sb lvS) (pxs [⟨ao, n, cap, xs⟩]) = formL (sb lvS) [xs] from rfl, ← hD] at CO
  have HL : Hid (lev xs = ((hexL D).takeWhile fun c => c == 48).length) := by show _ = _; rw [hD]; rfl
  clear hD
  go_enter Tryd.func28, Tryd.ntmps28
  go_wp2_with fail
  refine CO.mono ?_
  rintro e w1 ⟨v1, rfl, own1, C1⟩
  obtain ⟨fo, fc, rfl, S1, -⟩ := Sl.own own1 hDb
  have B1 : Below w.heap.size w w1 := B0.trans (C1.mono B0.size)
  clear own1 C1 CO P0 B0
  go_wp2_with fail
  refine (hex_any w1 fo 32 fc D S1 (by decide)).mono ?_
  rintro e w2 ⟨rfl, C2⟩
  have B2 : Below w.heap.size w w2 := B1.trans (C2.mono B1.size)
  obtain ⟨H, hH⟩ : ∃ H, H = strOfNums (hexL D) := ⟨_, rfl⟩
  have hs : H.size = 64 := by rw [hH, strOfNums_size, hexL_len, hDl]
  have hsb : Hid (sb H = hexL D) := by show _ = _; rw [hH]; exact sb_str (hexL_byte hDb)
  rw [← hH]
  clear hH C2 S1 B1
  have CT := trim_any w2 H (by omega) (by omega)
  have HS : Hid (H.size = 64) := hs
  clear hs
  go_wp2_with fail
  refine CT.mono ?_
  rintro e w3 ⟨t, rfl, ht, rfl⟩
  have htl := take_drop_while (fun c : Int => c == 48) (hexL D)
  rw [hsb.out] at ht
  rw [← ht, sb_len, ← hsb.out, sb_len, hsb.out, HS.out, ← HL.out] at htl
  have HZ : Hid ((H.size : Int) - t.size = lev xs) := by
    show _ = _
    rw [HS.out]
    omega
  have hw : IntKind.i64.wrap ((H.size : Int) - t.size) = (H.size : Int) - t.size := by
    rw [HZ.out]
    exact wrap_lev xs
  clear htl ht CT
  go_wp2
  go_ret
  refine ⟨?_, B2⟩
  show Ending.returned (.int .i64 ((H.size : Int) - t.size)) = _
  rw [HZ.out]

end Go.Proofs.YtiabdcejibeciaaDoor

namespace Go.Proofs.YtiabdcejibeciaaDoor
open Go.RowKit

/-- What Put answers. -/
def PutPost (w : World) (l : List It) (x : It) (kd : Int) (e : Ending) (w' : World) : Prop := ∃ u, e = .returned (.tuple #[.pointer u, .int .i64 kd]) ∧ (kd = 0 → TT w' (.pointer u) (ins l x)) ∧ (kd ≠ 0 → u = none) ∧ Below w.heap.size w w'

set_option maxHeartbeats 4000000 in
set_option maxRecDepth 100000 in
theorem tput_any (w : World) (v : Value) (l : List It) (x : It) (ko vo : Option Addr) (kn kc vn vc : Nat) (hT : Tabs w) (h : TT w v l) (hs : Srt l) (hk : Sl w ko kn kc x.k) (hv : Sl w vo vn vc x.v) (hkn : kn ≤ 1000000) (hvn : vn ≤ 1000000) (hn : l.length ≤ 50000) (kd : Int)
    (hkd : Hid (jL [⟨⟨ko, kn, kc, x.k⟩, ⟨vo, vn, vc, x.v⟩⟩] 0 = kd)) :
    Calls Tryd.prog 11 #[v, .slice ko kn kc, .slice vo vn vc] w (PutPost w l x kd) := by
  have h2 := hT.two
  obtain ⟨W0, hW0⟩ : ∃ W, W = w.alloc (.cells #[.slice ko kn kc, .slice vo vn vc] 28) := ⟨_, rfl⟩
  have B0 : Below w.heap.size w W0 := by rw [hW0]; exact (Below.refl _ w).alloc (Nat.le_refl _) _
  have I0 : IL W0 (some ⟨w.heap.size, 0, none⟩) 1 1 [⟨⟨ko, kn, kc, x.k⟩, ⟨vo, vn, vc, x.v⟩⟩] := by rw [hW0]; exact IL.one w ⟨⟨ko, kn, kc, x.k⟩, ⟨vo, vn, vc, x.v⟩⟩ ⟨hk, hv⟩ _
  have CJ := judge_any W0 _ 1 1 _ I0 (by omega) (by intro q hq; rw [List.mem_singleton.1 hq]; exact ⟨hkn, hvn⟩)
  rw [hkd.out] at CJ
  obtain ⟨po, rfl⟩ := h.ptr
  go_enter Tryd.func11, Tryd.ntmps11
  go_wp2_with fail
  rw [← hW0]
  clear hW0
  refine CJ.mono ?_
  rintro e w1 ⟨rfl, C1⟩
  have B1 : Below w.heap.size w w1 := B0.trans (C1.mono B0.size)
  clear CJ I0 C1 B0
  by_cases hz : kd = 0
  · have hzb : (kd != 0) = false := by simp [hz]
    have HZ : Hid (kd = 0) := hz
    clear hz
    have CS := shared_at w w1 (.pointer po) l h B1
    go_wp2_with fail
    refine CS.mono ?_
    rintro e w2 ⟨q, rfl, hq, hw2⟩
    obtain rfl := hw2.symm
    clear CS
    have CL := level_any w1 ko kn kc x.k (hT.below B1 h2) (hk.below B1) hkn
    go_wp2_with fail
    refine CL.mono ?_
    rintro e w3 ⟨rfl, C3⟩
    have B3 : Below w.heap.size w w3 := B1.trans (C3.mono B1.size)
    clear CL C3 B1
    have CO := own_any w3 ko kn kc x.k (hk.below B3) hkn
    go_wp2_with fail
    refine CO.mono ?_
    rintro e w4 ⟨xo, xc, rfl, S4, C4⟩
    have B4 : Below w.heap.size w w4 := B3.trans (C4.mono B3.size)
    clear CO C4 B3
    have CO := own_any w4 vo vn vc x.v (hv.below B4) hvn
    go_wp2_with fail
    refine CO.mono ?_
    rintro e w5 ⟨yo, yc, rfl, S5, C5⟩
    have B5 : Below w.heap.size w w5 := B4.trans (C5.mono B4.size)
    have S4 := S4.below C5
    clear CO C5 B4
    have CW := with_any w5 (.pointer q) l x xo yo kn xc vn yc S4 S5 (hq.below B5) hs (by omega)
    go_wp2_with fail
    refine CW.mono ?_
    rintro e w6 ⟨u, rfl, T6, C6⟩
    have B6 : Below w.heap.size w w6 := B5.trans (C6.mono B5.size)
    clear CW C6 B5 S4 S5
    obtain ⟨u6, rfl⟩ := T6.ptr
    have CT := treeOf_any w6 _ _ T6
    go_wp2_with fail
    refine CT.mono ?_
    rintro e w7 ⟨u, rfl, T7, C7⟩
    have B7 : Below w.heap.size w w7 := B6.trans (C7.mono B6.size)
    obtain ⟨u7, rfl⟩ := T7.ptr
    clear CT C7 B6 T6
    go_wp2
    go_ret2
    refine ⟨u7, ?_, fun _ => T7, fun hne => absurd HZ.out hne, B7⟩
    rw [HZ.out]
    rfl
  · have hzb : (kd != 0) = true := by simp [hz]
    have HZ : Hid (¬ kd = 0) := hz
    clear hz
    go_wp2
    go_ret2
    exact ⟨none, rfl, fun hz => absurd hz HZ.out, fun _ => rfl, B1⟩

/-- What Get answers. -/
def GetPost (w : World) (l : List It) (key : List Int) (e : Ending) (w' : World) : Prop := ∃ (qo : Option Addr) (qn qc : Nat) (b : Bool), e = .returned (.tuple #[.slice qo qn qc, .bool b]) ∧
  (b = true → ∃ x ∈ l, x.k = key ∧ Sl w' qo qn qc x.v) ∧ (b = false → ¬ has key l ∧ qn = 0 ∧ Sl w' qo qn qc []) ∧ Below w.heap.size w w'

set_option maxHeartbeats 4000000 in
set_option maxRecDepth 100000 in
theorem tget_any (w : World) (v : Value) (l : List It) (key : List Int) (ko : Option Addr) (kn kc : Nat) (h : TT w v l) (hs : Srt l) (hk : Sl w ko kn kc key) (hn : l.length ≤ 50000) (hv : ∀ x ∈ l, x.v.length ≤ 1000000) :
    Calls Tryd.prog 17 #[v, .slice ko kn kc] w (GetPost w l key) := by
  have CS := shared_at w w v l h (Below.refl _ _)
  obtain ⟨po, rfl⟩ := h.ptr
  go_enter Tryd.func17, Tryd.ntmps17
  go_wp2_with fail
  refine CS.mono ?_
  rintro e w2 ⟨q, rfl, hq, hw2⟩
  obtain rfl := hw2.symm
  have CF := find_any w (.pointer q) l key ko kn kc hq hs hk (by omega)
  clear CS
  go_wp2_with fail
  refine CF.mono ?_
  rintro e w3 ⟨qo, qn, qc, b, rfl, h1, h2, B3⟩
  clear CF
  cases b with
  | true =>
    obtain ⟨x, hx, hxk, S⟩ := h1 rfl
    have hl := hv x hx
    rw [S.len] at hl
    have CC := bclone_any w3 qo qn qc x.v S hl
    clear h1 h2
    go_wp2_with fail
    refine CC.mono ?_
    rintro e w4 ⟨ro, rc, rfl, S4, C4⟩
    go_wp2
    go_ret2
    exact ⟨ro, qn, rc, true, rfl, fun _ => ⟨x, hx, hxk, S4⟩, by simp, B3.trans (C4.mono B3.size)⟩
  | false =>
    obtain ⟨hno, rfl, rfl, rfl⟩ := h2 rfl
    have CC := bclone_any w3 none 0 0 [] (Sl.nothing w3) (by omega)
    clear h1 h2
    go_wp2_with fail
    refine CC.mono ?_
    rintro e w4 ⟨ro, rc, rfl, S4, C4⟩
    go_wp2
    go_ret2
    exact ⟨ro, 0, rc, false, rfl, by simp, fun _ => ⟨hno, rfl, S4⟩, B3.trans (C4.mono B3.size)⟩
end Go.Proofs.YtiabdcejibeciaaDoor

namespace Go.Proofs.YtiabdcejibeciaaDoor
open Go.RowKit

def emptyL : List Int := [101, 109, 112, 116, 121]
theorem emptyL_byte : Byt emptyL := by
  intro x hx
  simp [emptyL] at hx
  omega
set_option maxHeartbeats 1000000 in
set_option maxRecDepth 100000 in
/-- hashOf of nil, whatever the map. -/
theorem hashNil_any (w : World) (m : Value) (hT : Tabs w) :
    Calls Tryd.prog 67 #[.pointer none, m] w fun e w' => ∃ v, e = .returned v ∧ w'.ownsRow w.heap.size 5 1 v 32 (bv (sumL emptyL)) ∧ Below w.heap.size w w' := by
  have h2 := hT.two
  have B0 : Below w.heap.size w (w.alloc (.cells (bv emptyL).toArray 5 (5, 6))) := (Below.refl _ w).alloc (Nat.le_refl _) _
  have S0 := Sl.const w emptyL (5, 6) emptyL_byte (by simp [emptyL, maxLen])
  have kc0 := Lib.run_convert_bytes_const (P := Tryd.prog) w 26 5 #[.int .u8 101, .int .u8 109, .int .u8 112, .int .u8 116, .int .u8 121] 5 5 Tryd.underlying26 Tryd.underlying5
  have CS := sum_any _ _ 5 5 emptyL (hT.below B0 h2) S0
  go_enter Tryd.func67, Tryd.ntmps67
  go_wp2_with fail
  refine CS.mono ?_
  rintro e w1 ⟨v, rfl, o, C⟩
  go_wp2
  go_ret
  exact ⟨_, rfl, own_base o B0.size, B0.trans (C.mono B0.size)⟩

set_option maxHeartbeats 1000000 in
set_option maxRecDepth 100000 in
theorem rootNil_any (w : World) (hT : Tabs w) :
    Calls Tryd.prog 15 #[.pointer none] w fun e w' => ∃ v, e = .returned v ∧ w'.ownsRow w.heap.size 5 1 v 32 (bv (sumL emptyL)) ∧ Below w.heap.size w w' := by
  have h2 := hT.two
  have CS := shared_at w w (.pointer none) [] (TT.nil w) (Below.refl _ _)
  have CH : Calls Tryd.prog 37 #[.pointer none] w fun e w' => ∃ v, e = .returned v ∧ w'.ownsRow w.heap.size 5 1 v 32 (bv (sumL emptyL)) ∧ Below w.heap.size w w' := by
    have hmm := @run_makeMap Tryd.prog
    have B1 : Below w.heap.size w (w.alloc (.map #[] 0)) := (Below.refl _ w).alloc (Nat.le_refl _) _
    have CN := hashNil_any (w.alloc (.map #[] 0)) (.map (some w.heap.size)) (hT.below B1 h2)
    go_enter Tryd.func37, Tryd.ntmps37
    go_wp2_with fail
    refine CN.mono ?_
    rintro e w2 ⟨v, rfl, o, C⟩
    go_wp2
    go_ret
    exact ⟨_, rfl, own_base o B1.size, B1.trans (C.mono B1.size)⟩
  go_enter Tryd.func15, Tryd.ntmps15
  go_wp2_with fail
  refine CS.mono ?_
  rintro e w1 ⟨q, rfl, hq, hw⟩
  obtain rfl := hw.symm
  obtain rfl : q = none := by
    rcases hq.is with ⟨-, h⟩ | ⟨d, segs, xs, -, h⟩
    · simpa using h
    · have h1 := h.shp.pos
      have h2 := h.many
      rw [List.length_nil] at h2
      omega
  clear CS
  go_wp2_with fail
  refine CH.mono ?_
  rintro e w2 ⟨v, rfl, o, C⟩
  go_wp2
  go_ret
  exact ⟨_, rfl, o, C⟩
end Go.Proofs.YtiabdcejibeciaaDoor

namespace Go.Proofs.YtiabdcejibeciaaDoor
open Go.RowKit

theorem nodeInfo : (Tryd.prog.info? 73).map (fun i => i.size) = some 4 := by kernel_rfl
theorem zero_b (w : World) : (zeroValue 26).run Tryd.prog w = .ok (.slice none 0 0) w := by
  obtain ⟨i0, hi, hz0, hz1, hz2⟩ := info_parts kinfo
  simp [zeroValue, typeInfo, hi, hz0]
/-- What is found in the map. -/
def foundV (b : Nat) (F : List (Nat × Value)) : Value := ((findB b F 0).map Prod.snd).getD (.slice none 0 0)
theorem look_two {w : World} {m : Nat} {F : List (Nat × Value)} (h : PM w m F) (b : Nat) (hb : Ordi w b) :
    (Instr.lookup 109 (.map (some m)) (.pointer (some ⟨b, 0, none⟩)) true).run Tryd.prog w = .ok (.tuple #[foundV b F, .bool (findB b F 0).isSome]) w := by
  have hI := nodeInfo
  cases hi : Tryd.prog.info? 73 with
  | none => rw [hi] at hI; simp at hI
  | some j =>
    rw [hi] at hI
    have := h.look (P := Tryd.prog) Tryd.underlying109 Tryd.underlying46 hi (by simp at hI; omega) (zero_b w) b hb true
    simpa [foundV] using this
theorem look_one {w : World} {m : Nat} {F : List (Nat × Value)} (h : PM w m F) (b : Nat) (hb : Ordi w b) :
    (Instr.lookup 109 (.map (some m)) (.pointer (some ⟨b, 0, none⟩)) false).run Tryd.prog w = .ok (foundV b F) w := by
  have hI := nodeInfo
  cases hi : Tryd.prog.info? 73 with
  | none => rw [hi] at hI; simp at hI
  | some j =>
    rw [hi] at hI
    have := h.look (P := Tryd.prog) Tryd.underlying109 Tryd.underlying46 hi (by simp at hI; omega) (zero_b w) b hb false
    simpa [foundV] using this
theorem put_new7 {w : World} {m : Nat} {F : List (Nat × Value)} (h : PM w m F) (b : Nat) (hb : Ordi w b) (v : Value) (hN : ∀ p ∈ F, p.1 ≠ b) :
    ∃ w', (Instr.mapUpdate 109 (.map (some m)) (.pointer (some ⟨b, 0, none⟩)) v).run Tryd.prog w = .ok () w' ∧ PM w' m (F ++ [(b, v)]) ∧ w.grownBy w' (some m) := by
  have hI := nodeInfo
  cases hi : Tryd.prog.info? 73 with
  | none => rw [hi] at hI; simp at hI
  | some j =>
    rw [hi] at hI
    exact h.new (P := Tryd.prog) Tryd.underlying109 Tryd.underlying46 hi (by simp at hI; omega) b hb v hN
theorem put_old7 {w : World} {m : Nat} {F : List (Nat × Value)} (h : PM w m F) (b : Nat) (hb : Ordi w b) (v : Value) (k : Nat) (u : Value) (hf : findB b F 0 = some (k, u)) (hkl : k < F.length) (hkF : F[k].1 = b) :
    ∃ w', (Instr.mapUpdate 109 (.map (some m)) (.pointer (some ⟨b, 0, none⟩)) v).run Tryd.prog w = .ok () w' ∧ PM w' m (F.set k (b, v)) ∧ w.grownBy w' (some m) := by
  have hI := nodeInfo
  cases hi : Tryd.prog.info? 73 with
  | none => rw [hi] at hI; simp at hI
  | some j =>
    rw [hi] at hI
    exact h.old (P := Tryd.prog) Tryd.underlying109 Tryd.underlying46 hi (by simp at hI; omega) b hb v k u hf hkl hkF
theorem found_at {b k : Nat} {F : List (Nat × Value)} (hn : (F.map Prod.fst).Nodup) (hk : k < F.length) {v : Value} (hF : F[k] = (b, v)) : foundV b F = v := by
  unfold foundV
  rcases findB_at b F 0 with ⟨-, h⟩ | ⟨k', v', hk', e, h⟩
  · exact absurd (by rw [hF]) (h F[k] (List.getElem_mem hk))
  · have hkk : k' = k := by
      have h1 : (F.map Prod.fst)[k']'(by simpa using hk') = (F.map Prod.fst)[k]'(by simpa using hk) := by simp [h, hF]
      exact (List.getElem_inj (h₀ := by simpa using hk') (h₁ := by simpa using hk) hn).1 h1
    subst hkk
    rw [e]
    rw [hF] at h
    simp only [Option.map_some, Option.getD_some]
    exact (Prod.mk.inj h).2.symm
/-- A node begins. -/
theorem HI.begin {w0 W W' : World} {m b : Nat} {F : List (Nat × Value)} {P : List (Nat × List It)} {l : List It} {v : Value} (h : HI w0 W m F P) (hN : ∀ p ∈ F, p.1 ≠ b) (ht : T w0 (ptrB b) l) (pm : PM W' m (F ++ [(b, v)])) (hg : W.grownBy W' (some m)) : HI w0 W' m (F ++ [(b, v)]) ((b, l) :: P) := by
  have kc := KC.grown h.pm hg
  refine ⟨grown_trans h.g hg, h.m0, pm, ?_, fun p hp => ?_, fun q hq => ?_⟩
  · rw [List.map_append, List.nodup_append]
    refine ⟨h.nd, by simp, fun x hx y hy e => ?_⟩
    obtain ⟨p, hp, rfl⟩ := List.mem_map.1 hx
    have hy : y = b := by simpa using hy
    exact hN p hp (e.trans hy)
  · rcases List.mem_append.1 hp with hp | hp
    · rcases h.ent p hp with ⟨q, hq, e⟩ | ⟨l', ao, cap, h1, h2, h3⟩
      · exact .inl ⟨q, List.mem_cons_of_mem _ hq, e⟩
      · exact .inr ⟨l', ao, cap, h1, h2, h3.kc kc⟩
    · rw [List.mem_singleton.1 hp]
      exact .inl ⟨(b, l), List.mem_cons_self .., rfl⟩
  · rcases List.mem_cons.1 hq with rfl | hq
    · exact ht
    · exact h.prg q hq
/-- A node is done. -/
theorem HI.finish {w0 W W' : World} {m b k : Nat} {F : List (Nat × Value)} {P : List (Nat × List It)} {l : List It} {ao : Option Addr} {cap : Nat} (h : HI w0 W m F ((b, l) :: P)) (hk : k < F.length) (hF : F[k].1 = b) (hs : SlT W ⟨ao, 32, cap, hashI l⟩) (pm : PM W' m (F.set k (b, .slice ao 32 cap))) (hg : W.grownBy W' (some m)) : HI w0 W' m (F.set k (b, .slice ao 32 cap)) P := by
  have kc := KC.grown h.pm hg
  have ht := h.prg (b, l) (List.mem_cons_self ..)
  have hmap : (F.set k (b, Value.slice ao 32 cap)).map Prod.fst = F.map Prod.fst := by
    rw [List.map_set]
    refine List.ext_getElem (by simp) fun i h1 h2 => ?_
    rw [List.getElem_set]
    split
    · rename_i e
      subst e
      simp [hF]
    · rfl
  refine ⟨grown_trans h.g hg, h.m0, pm, by rw [hmap]; exact h.nd, fun p hp => ?_, fun q hq => h.prg q (List.mem_cons_of_mem _ hq)⟩
  obtain ⟨i, hi, rfl⟩ := List.mem_iff_getElem.1 hp
  have hi' : i < F.length := by simpa using hi
  rw [List.getElem_set]
  by_cases e : k = i
  · rw [if_pos e]
    exact .inr ⟨l, ao, cap, ht, rfl, hs.kc kc⟩
  · rw [if_neg e]
    rcases h.ent F[i] (List.getElem_mem hi') with ⟨q, hq, eq⟩ | ⟨l', ao', cap', h1, h2, h3⟩
    · rcases List.mem_cons.1 hq with rfl | hq
      · exfalso
        have h1 : (F.map Prod.fst)[k]'(by simpa using hk) = (F.map Prod.fst)[i]'(by simpa using hi') := by simp [hF, ← eq]
        exact e ((List.getElem_inj (h₀ := by simpa using hk) (h₁ := by simpa using hi') h.nd).1 h1)
      · exact .inl ⟨q, hq, eq⟩
    · exact .inr ⟨l', ao', cap', h1, h2, h3.kc kc⟩
theorem emptyL_H : emptyL = emptyH := rfl

set_option maxHeartbeats 8000000 in
set_option maxRecDepth 100000 in
theorem hash_nil (n : Nat) (w0 W : World) (m : Nat) (l : List It) (F : List (Nat × Value)) (P : List (Nat × List It)) (hl : l = []) (hI : HI w0 W m F P) (hT : Tabs w0) (_ : n = n) : Calls Tryd.prog 67 #[.pointer none, .map (some m)] W (HashPost w0 W m F P l) := by
  subst hl
  refine (hashNil_any W (.map (some m)) (hT.kc hI.kc)).mono ?_
  rintro e W' ⟨v, rfl, own, B⟩
  obtain ⟨ao, cap, rfl, S⟩ := SlT.own own (sumL_byte _)
  exact ⟨ao, cap, F, rfl, S, hI.below B, fun p hp => ⟨p, hp, rfl⟩, grown_below B⟩

set_option maxHeartbeats 8000000 in
set_option maxRecDepth 100000 in
theorem hash_node (n : Nat) (IH : HashOk n) (w0 W : World) (m : Nat) (d : Nd) (l : List It) (segs : List (List It)) (xs : List It) (F : List (Nat × Value)) (P : List (Nat × List It)) (hN : Nod w0 l d segs xs) (hln : l.length ≤ n + 1) (hI : HI w0 W m F P) (hP : ∀ q ∈ P, l.length < q.2.length) (hT : Tabs w0) (hz : Szs l) :
    Calls Tryd.prog 67 #[.pointer (some ⟨d.b, 0, none⟩), .map (some m)] W (HashPost w0 W m F P l) := by
  have ht : T w0 (ptrB d.b) l := T.of hN
  have hO : Ordi w0 d.b := hN.ok.uf
  have L1 := look_two hI.pm d.b (hO.kc hI.kc)
  have HP : Hid (∀ q ∈ P, l.length < q.2.length) := hP
  rcases findB_at d.b F 0 with ⟨e, hno⟩ | ⟨k, u, hk, e, hF⟩
  · rw [e] at L1
    have hv0 : foundV d.b F = .slice none 0 0 := by unfold foundV; rw [e]; rfl
    rw [hv0] at L1
    have CS := sumT W none 0 0 [] (hT.kc hI.kc) (Sl.nothing W)
    have HNO : Hid (∀ p ∈ F, p.1 ≠ d.b) := hno
    have HI0 : Hid (HI w0 W m F P) := hI
    have HT0 : Hid (T w0 (ptrB d.b) l) := ht
    have HN : Hid (Nod w0 l d segs xs) := hN
    have HTb : Hid (Tabs w0) := hT
    have HZ : Hid (Szs l) := hz
    have HO : Hid (Ordi w0 d.b) := hO
    have HIH : Hid (HashOk n) := IH
    have nk := hN.nk
    have nv := hN.nv
    have nc := hN.nc
    have hx1 : xs.length ≤ 10000 := by have := hN.many; have := hz.1; omega
    have HL : Hid (d.ks.length = xs.length ∧ d.vs.length = xs.length ∧ d.cs.length = xs.length + 1) := ⟨nk, nv, nc⟩
    clear hv0 e hno hI ht hN hT hz hO IH nk nv nc hP
    go_enter Tryd.func67, Tryd.ntmps67
    go_wp2_with fail
    refine CS.mono ?_
    rintro e W1 ⟨s0, sc0, rfl, S0, C1⟩
    have I1 := HI0.out.below C1
    obtain ⟨W2, hput, pm2, g2⟩ := put_new7 I1.pm d.b (HO.out.kc I1.kc) (.slice s0 32 sc0) HNO.out
    have I2 := I1.begin HNO.out HT0.out pm2 g2
    have hG2 := grown_trans (grown_below C1) g2
    have K2 := I2.kc
    have c1 := K2.cell HN.out.ok.c1
    have c2 := K2.cell HN.out.ok.c2
    have c3 := K2.cell HN.out.ok.c3
    rw [HL.out.1] at c1
    rw [HL.out.2.1] at c2
    rw [HL.out.2.2] at c3
    obtain ⟨x, hx⟩ : ∃ x, x = xs.length := ⟨_, rfl⟩
    rw [← hx] at c1 c2 c3 hx1
    have hwr : IntKind.i64.wrap ((x : Int) + 1) = (x : Int) + 1 := by
      have := wrap_nat (k := x + 1) (by omega)
      simpa using this
    have hxx : (((x + 1 : Nat) : Int) == (x : Int) + 1) = true := by simp
    clear CS L1 I1 pm2 g2 K2 S0 C1 hx
    go_wp2_with fail
    go_quiet (fail)
    have D2 := below_drewN W2 nq W2.heap.size
    obtain ⟨V, hV⟩ : ∃ V, V = W2.drewN nq := ⟨_, rfl⟩
    rw [← hV] at D2 ⊢
    have IV := I2.below D2
    have hGV := grown_keep hG2 D2 hG2.size
    have CF := formOf_any n HIH.out w0 V m d l segs xs _ _ HN.out hln IV (fun q hq => by
      rcases List.mem_cons.1 hq with rfl | hq
      · exact Nat.le_refl _
      · exact Nat.le_of_lt (HP.out q hq)) HTb.out HZ.out
    unfold Nd.ptr at CF
    clear hV hput c1 c2 c3 hwr hxx D2 I2 IV hG2
    go_wp2_with fail
    refine CF.mono ?_
    rintro e W3 ⟨fo, fn, fc, F3, rfl, S3, I3, kf3, G3⟩
    have hG3 := grown_trans hGV G3
    have CS := sumT W3 fo fn fc _ (HTb.out.kc I3.kc) S3.1
    rw [← hashI_node HN.out.shp] at CS
    have HKF : Hid (∀ p ∈ F ++ [(d.b, Value.slice s0 32 sc0)], ∃ q ∈ F3, q.1 = p.1) := kf3
    have HI3 : Hid (HI w0 W3 m F3 ((d.b, l) :: P)) := I3
    clear CF S3 I3 kf3 G3 hGV
    go_wp2_with fail
    refine CS.mono ?_
    rintro e W4 ⟨s1, sc1, rfl, S4, C4⟩
    have I4 := HI3.out.below C4
    have hG4 := grown_keep hG3 C4 hG3.size
    obtain ⟨k, u, hk, hf, hF⟩ : ∃ (k : Nat) (u : Value) (h : k < F3.length), findB d.b F3 0 = some (k, u) ∧ F3[k] = (d.b, u) := by
      rcases findB_at d.b F3 0 with ⟨-, hno⟩ | ⟨k, u, hk, e, hF⟩
      · obtain ⟨q, hq, e⟩ := HKF.out (d.b, Value.slice s0 32 sc0) (by simp)
        exact absurd e (hno q hq)
      · exact ⟨k, u, hk, by rw [e, Nat.zero_add], hF⟩
    have hF1 : F3[k].1 = d.b := by rw [hF]
    obtain ⟨W5, hput, pm5, g5⟩ := put_old7 I4.pm d.b (HO.out.kc I4.kc) (.slice s1 32 sc1) k u hf hk hF1
    have I5 := I4.finish hk hF1 S4 pm5 g5
    have S5 := S4.kc (KC.grown I4.pm g5)
    have hG5 := grown_trans hG4 g5
    have L5 := look_one I5.pm d.b (HO.out.kc I5.kc)
    rw [found_at I5.nd (k := k) (b := d.b) (v := .slice s1 32 sc1) (by simpa using hk) (by simp)] at L5
    have HKF5 : Hid (∀ p ∈ F, ∃ q ∈ F3.set k (d.b, Value.slice s1 32 sc1), q.1 = p.1) := fun p hp => by
      obtain ⟨q, hq, e⟩ := HKF.out p (List.mem_append_left _ hp)
      obtain ⟨i, hi, rfl⟩ := List.mem_iff_getElem.1 hq
      refine ⟨(F3.set k (d.b, Value.slice s1 32 sc1))[i]'(by simpa using hi), List.getElem_mem _, ?_⟩
      rw [List.getElem_set]
      split
      · rename_i ek
        subst ek
        rw [← e, hF1]
      · exact e
    have HI5 : Hid (HI w0 W5 m (F3.set k (d.b, Value.slice s1 32 sc1)) P) := I5
    clear CS S4 C4 I4 hf hF hF1 pm5 g5 I5 hG4 hG3
    go_wp2
    go_ret
    exact ⟨s1, sc1, _, rfl, S5, HI5.out, HKF5.out, hG5⟩
  · have hmem : (d.b, u) ∈ F := by rw [← hF]; exact List.getElem_mem hk
    have hv : foundV d.b F = u := found_at hI.nd hk hF
    rw [hv, e] at L1
    rcases hI.ent (d.b, u) hmem with ⟨q, hq, eq⟩ | ⟨l', ao, cap, h1, h2, h3⟩
    · exfalso
      have h4 := hI.prg q hq
      rw [eq] at h4
      have h5 := T.inj l.length (ptrB d.b) l q.2 (Nat.le_refl _) ht h4
      have h6 := hP q hq
      rw [← h5] at h6
      omega
    · have h5 := T.inj l.length (ptrB d.b) l l' (Nat.le_refl _) ht h1
      subst h5
      have h2 : u = .slice ao 32 cap := h2
      subst h2
      have HI0 : Hid (HI w0 W m F P) := hI
      clear hmem hv e hF hI h1 ht hO hN hT hz hP IH
      go_enter Tryd.func67, Tryd.ntmps67
      go_wp2
      go_ret
      exact ⟨ao, cap, F, rfl, h3, HI0.out, fun p hp => ⟨p, hp, rfl⟩, World.grownBy.refl _ _⟩
/-- hashOf of whatever node. -/
theorem hash_fuel : ∀ n, HashOk n := by
  intro n
  induction n with
  | zero =>
    intro w0 W m v l F P hl ht hI _ hT _
    obtain rfl : l = [] := List.eq_nil_of_length_eq_zero (by omega)
    rcases ht.is with ⟨-, rfl⟩ | ⟨d, segs, xs, -, hN⟩
    · exact hash_nil 0 w0 W m [] F P rfl hI hT rfl
    · have h1 := hN.shp.pos
      have h2 := hN.many
      rw [List.length_nil] at h2
      omega
  | succ n ih =>
    intro w0 W m v l F P hl ht hI hP hT hz
    rcases ht.is with ⟨e, rfl⟩ | ⟨d, segs, xs, rfl, hN⟩
    · exact hash_nil 0 w0 W m l F P e hI hT rfl
    · exact hash_node n ih w0 W m d l segs xs F P hN hl hI hP hT hz

/-- The root of a tree is the hash of its items. -/
def RootPost (w : World) (l : List It) (e : Ending) (w' : World) : Prop := ∃ ao cap, e = .returned (.slice ao 32 cap) ∧ SlT w' ⟨ao, 32, cap, hashI l⟩ ∧ Below w.heap.size w w'

set_option maxHeartbeats 1000000 in
set_option maxRecDepth 100000 in
theorem thash_any (w : World) (v : Value) (l : List It) (h : T w v l) (hT : Tabs w) (hz : Szs l) : Calls Tryd.prog 37 #[v] w (RootPost w l) := by
  have h2 := hT.two
  have hmm := @run_makeMap Tryd.prog
  have B1 : Below w.heap.size w (w.alloc (.map #[] 0)) := (Below.refl _ w).alloc (Nat.le_refl _) _
  have pm : PM (w.alloc (.map #[] 0)) w.heap.size [] := ⟨#[], 0, heap_alloc_new w _, rfl, fun i hi => by simp at hi, fun _ h => by simp at h⟩
  have CH := hash_fuel l.length (w.alloc (.map #[] 0)) (w.alloc (.map #[] 0)) w.heap.size v l [] [] (Nat.le_refl _) (h.below B1) ⟨World.grownBy.refl _ _, ⟨_, pm⟩, pm, by simp, fun _ h => by simp at h, fun _ h => by simp at h⟩ (fun _ h => by simp at h) (hT.below B1 h2) hz
  obtain ⟨po, rfl⟩ := h.ptr
  clear pm h
  go_enter Tryd.func37, Tryd.ntmps37
  go_wp2_with fail
  refine CH.mono ?_
  rintro e w2 ⟨ao, cap, F', rfl, S, -, -, G⟩
  have B2 : Below w.heap.size w w2 := B1.trans (below_grown G B1.size (Nat.le_refl _))
  go_wp2
  go_ret
  exact ⟨ao, cap, rfl, S, B2⟩

set_option maxHeartbeats 1000000 in
set_option maxRecDepth 100000 in
theorem root_any (w : World) (v : Value) (l : List It) (h : TT w v l) (hT : Tabs w) (hz : Szs l) : Calls Tryd.prog 15 #[v] w (RootPost w l) := by
  have CS := shared_at w w v l h (Below.refl _ _)
  obtain ⟨po, rfl⟩ := h.ptr
  go_enter Tryd.func15, Tryd.ntmps15
  go_wp2_with fail
  refine CS.mono ?_
  rintro e w1 ⟨q, rfl, hq, hw⟩
  obtain rfl := hw.symm
  have CH := thash_any w (.pointer q) l hq hT hz
  clear CS
  go_wp2_with fail
  refine CH.mono ?_
  rintro e w2 ⟨ao, cap, rfl, S, B⟩
  go_wp2
  go_ret
  exact ⟨ao, cap, rfl, S, B⟩
end Go.Proofs.YtiabdcejibeciaaDoor

namespace Go.Proofs.YtiabdcejibeciaaDoor
open Go.RowKit

/-- What Del answers. -/
def DelPost (w : World) (v : Value) (l : List It) (key : List Int) (e : Ending) (w' : World) : Prop := ∃ u b, e = .returned (.tuple #[.pointer u, .bool b]) ∧
  (b = true → has key l ∧ TT w' (.pointer u) (del l key)) ∧ (b = false → ¬ has key l ∧ v = .pointer u) ∧ Below w.heap.size w w'

set_option maxHeartbeats 4000000 in
set_option maxRecDepth 100000 in
theorem tdel_any (w : World) (v : Value) (l : List It) (key : List Int) (ko : Option Addr) (kn kc : Nat) (h : TT w v l) (hs : Srt l) (hk : Sl w ko kn kc key) (hn : l.length ≤ 50000) :
    Calls Tryd.prog 12 #[v, .slice ko kn kc] w (DelPost w v l key) := by
  have CS := shared_at w w v l h (Below.refl _ _)
  obtain ⟨po, rfl⟩ := h.ptr
  go_enter Tryd.func12, Tryd.ntmps12
  go_wp2_with fail
  refine CS.mono ?_
  rintro e w2 ⟨q, rfl, hq, hw2⟩
  obtain rfl := hw2.symm
  have CF := find_any w (.pointer q) l key ko kn kc hq hs hk (by omega)
  clear CS
  go_wp2_with fail
  refine CF.mono ?_
  rintro e w3 ⟨qo, qn, qc, b, rfl, h1, h2, B3⟩
  clear CF
  cases b with
  | true =>
    obtain ⟨x, hx, hxk, S⟩ := h1 rfl
    have hh : has key l := ⟨x, hx, hxk⟩
    clear h1 h2 S hx hxk
    have CS := shared_at w w3 (.pointer po) l h B3
    go_wp2_with fail
    refine CS.mono ?_
    rintro e w4 ⟨q4, rfl, hq4, hw4⟩
    obtain rfl := hw4.symm
    clear CS
    have CW := without_fuel l.length l w3 (.pointer q4) key ko kn kc (Nat.le_refl _) (hk.below B3) (hq4.below B3) hs hh (by omega)
    go_wp2_with fail
    refine CW.mono ?_
    rintro e w6 ⟨u, rfl, T6, C6⟩
    have B6 : Below w.heap.size w w6 := B3.trans (C6.mono B3.size)
    clear CW C6 B3
    obtain ⟨u6, rfl⟩ := T6.ptr
    have CT := treeOf_any w6 _ _ T6
    go_wp2_with fail
    refine CT.mono ?_
    rintro e w7 ⟨u, rfl, T7, C7⟩
    have B7 : Below w.heap.size w w7 := B6.trans (C7.mono B6.size)
    obtain ⟨u7, rfl⟩ := T7.ptr
    clear CT C7 B6 T6
    go_wp2
    go_ret2
    exact ⟨u7, true, rfl, fun _ => ⟨hh, T7⟩, by simp, B7⟩
  | false =>
    obtain ⟨hno, rfl, rfl, rfl⟩ := h2 rfl
    clear h1 h2
    go_wp2
    go_ret2
    exact ⟨po, false, rfl, by simp, fun _ => ⟨hno, rfl⟩, B3⟩
end Go.Proofs.YtiabdcejibeciaaDoor

namespace Go
open Go.RowKit
/-- Listed, besides. -/
def setL (L : Array Bool) (is : List Nat) : Array Bool := is.foldl (fun L i => L.setIfInBounds i true) L
theorem setL_size (is : List Nat) : ∀ L : Array Bool, (setL L is).size = L.size := by
  induction is with
  | nil => intro L; rfl
  | cons i is ih => intro L; exact (ih _).trans (by simp)
theorem setL_get (is : List Nat) : ∀ (L : Array Bool) (j : Nat), j < L.size → (setL L is).getD j true = (L.getD j true || is.contains j) := by
  induction is with
  | nil => intro L j _; simp [setL]
  | cons i is ih =>
    intro L j hj
    have h := ih (L.setIfInBounds i true) j (by simpa using hj)
    show (setL (L.setIfInBounds i true) is).getD j true = _
    rw [h]
    by_cases hij : i = j
    · subst hij
      have : (L.setIfInBounds i true).getD i true = true := by simp [hj]
      rw [this]
      simp
    · rw [getD_set_ne true hij]
      have : (i :: is).contains j = is.contains j := by
        rw [List.contains_cons, show (j == i) = false by simpa using fun e => hij e.symm, Bool.false_or]
      rw [this]
theorem arr_ext {A B : Array Bool} (hs : A.size = B.size) (h : ∀ j, j < A.size → A.getD j true = B.getD j true) : A = B := by
  refine Array.ext hs fun j h1 h2 => ?_
  have := h j h1
  simpa [h1, h2] using this
/-- What operation i waits for has come up. -/
def depOk (ops : Array Oper) (L : Array Bool) (i : Nat) : Bool := ((ops[i]?).map (·.after.all fun e => !Region.binds .any e || L.getD e.on false)).getD false
theorem depOk_of {ops : Array Oper} {L : Array Bool} {i : Nat} {o : Oper} (ho : ops[i]? = some o) (h : ∀ e ∈ o.after, Region.binds .any e = true → L.getD e.on false = true) : depOk ops L i = true := by
  simp only [depOk, ho, Option.map_some, Option.getD_some]
  refine Array.all_eq_true_iff_forall_mem.2 fun e he => ?_
  by_cases hb : Region.binds .any e = true
  · rw [h e he hb, Bool.or_true]
  · simp [hb]
theorem getD_set_on {L : Array Bool} {i j : Nat} (h : L.getD j false = true) : (L.setIfInBounds i true).getD j false = true := by
  by_cases hij : i = j
  · subst hij
    by_cases hlt : i < L.size
    · simp [hlt]
    · simp [hlt] at h
  · simp only [Array.getD_eq_getD_getElem?] at h ⊢
    rw [Array.getElem?_setIfInBounds_ne hij]
    exact h
theorem depOk_set {ops : Array Oper} {L : Array Bool} {i j : Nat} (h : depOk ops L i = true) : depOk ops (L.setIfInBounds j true) i = true := by
  cases ho : ops[i]? with
  | none => simp [depOk, ho] at h
  | some o =>
    refine depOk_of ho fun e he hb => ?_
    simp only [depOk, ho, Option.map_some, Option.getD_some] at h
    have := Array.all_eq_true_iff_forall_mem.1 h e he
    rw [hb, Bool.not_true, Bool.false_or] at this
    exact getD_set_on this
/-- Whichever of them have come up, as long as some have not: one of them may come up, and no other. -/
def effChk (ops : Array Oper) (all : List Nat) : List Nat → Array Bool → Bool → Bool
  | [], L, sk => !sk || !(all.all fun i => !L.getD i true || depOk ops L i) || (!(Region.ready .any ops L).isEmpty && (Region.ready .any ops L).all fun j => all.contains j)
  | i :: is, L, sk => effChk ops all is (L.setIfInBounds i true) sk && effChk ops all is L true
theorem effChk_spec {ops : Array Oper} {all : List Nat} (c : Nat → Bool) : ∀ (is : List Nat) (L : Array Bool) (sk : Bool), effChk ops all is L sk = true → (sk = true ∨ ∃ i ∈ is, c i = false) → (∀ i ∈ all, (setL L (is.filter c)).getD i true = true → depOk ops (setL L (is.filter c)) i = true) →
    Region.ready .any ops (setL L (is.filter c)) ≠ [] ∧ ∀ j ∈ Region.ready .any ops (setL L (is.filter c)), j ∈ all
  | [], L, sk, h, hs, hcl => by
    rcases hs with rfl | ⟨i, hi, _⟩
    · have hcl' : (all.all fun i => !L.getD i true || depOk ops L i) = true := List.all_eq_true.2 fun i hi => by
        by_cases hL : L.getD i true = true
        · have := hcl i hi hL
          have h2 : depOk ops L i = true := this
          rw [h2, Bool.or_true]
        · have h2 : L.getD i true = false := by simpa using hL
          rw [h2]
          rfl
      simp only [effChk, hcl', Bool.not_true, Bool.false_or, Bool.and_eq_true] at h
      refine ⟨fun e => ?_, fun j hj => ?_⟩
      · have : Region.ready .any ops L = [] := e
        rw [this] at h
        simp at h
      · have := List.all_eq_true.1 h.2 j hj
        simpa using this
    · simp at hi
  | i :: is, L, sk, h, hs, hcl => by
    simp only [effChk, Bool.and_eq_true] at h
    by_cases hc : c i = true
    · rw [List.filter_cons, if_pos hc] at hcl ⊢
      refine effChk_spec c is (L.setIfInBounds i true) sk h.1 ?_ hcl
      rcases hs with hs | ⟨j, hj, hf⟩
      · exact .inl hs
      · rcases List.mem_cons.1 hj with rfl | hj
        · rw [hc] at hf; simp at hf
        · exact .inr ⟨j, hj, hf⟩
    · rw [List.filter_cons, if_neg hc] at hcl ⊢
      exact effChk_spec c is L true h.2 (.inl rfl) hcl
/-- How many have not come up. -/
def unC (c : Nat → Bool) : List Nat → Nat
  | [] => 0
  | i :: is => unC c is + (if c i then 0 else 1)
theorem unC_same {c d : Nat → Bool} : ∀ (is : List Nat), (∀ i ∈ is, c i = d i) → unC c is = unC d is
  | [], _ => rfl
  | i :: is, h => by rw [unC, unC, unC_same is (fun j hj => h j (List.mem_cons_of_mem _ hj)), h i (List.mem_cons_self ..)]
theorem unC_set {c : Nat → Bool} {i : Nat} (hc : c i = false) : ∀ (is : List Nat), is.Nodup → i ∈ is → unC c is = unC (fun j => c j || j == i) is + 1
  | [], _, h => by simp at h
  | j :: is, hn, h => by
    have hn' := List.nodup_cons.1 hn
    rw [unC, unC]
    by_cases hji : j = i
    · subst hji
      have := unC_same (c := c) (d := fun k => c k || k == j) is (fun k hk => by
        have hne : k ≠ j := fun e => hn'.1 (e ▸ hk)
        have : (k == j) = false := by simpa using hne
        simp [this])
      rw [← this, hc]
      simp
    · have hi : i ∈ is := by
        rcases List.mem_cons.1 h with h | h
        · exact absurd h.symm hji
        · exact h
      have ih := unC_set hc is hn'.2 hi
      have : (j == i) = false := by simpa using hji
      rw [ih]
      simp only [this, Bool.or_false]
      omega
theorem unC_zero {c : Nat → Bool} : ∀ (is : List Nat), unC c is = 0 → ∀ i ∈ is, c i = true
  | [], _, i, h => by simp at h
  | j :: is, h0, i, h => by
    rw [unC] at h0
    rcases List.mem_cons.1 h with rfl | h
    · by_cases hc : c i = true
      · exact hc
      · rw [if_neg hc] at h0; omega
    · exact unC_zero is (by omega) i h
theorem unC_none : ∀ (is : List Nat), unC (fun _ => false) is = is.length
  | [] => rfl
  | i :: is => by rw [unC, unC_none is]; simp
/-- The slots of those that came up. -/
def putL (a : Act) (f : Nat → Value) (ids : List (Nat × Nat)) : Act := ids.foldl (fun a p => a.put (some p.2) (f p.1)) a
theorem putL_size (f : Nat → Value) (ids : List (Nat × Nat)) : ∀ a : Act, (putL a f ids).tmps.size = a.tmps.size := by
  induction ids with
  | nil => intro a; rfl
  | cons p ids ih => intro a; exact (ih _).trans (by simp [Act.put])
theorem putL_defers (f : Nat → Value) (ids : List (Nat × Nat)) : ∀ a : Act, (putL a f ids).defers = a.defers := by
  induction ids with
  | nil => intro a; rfl
  | cons p ids ih => intro a; exact (ih _).trans rfl
theorem putL_other (f : Nat → Value) (k : Nat) (ids : List (Nat × Nat)) : ∀ a : Act, (∀ p ∈ ids, p.2 ≠ k) → (putL a f ids).tmps[k]? = a.tmps[k]? := by
  induction ids with
  | nil => intro a _; rfl
  | cons p ids ih =>
    intro a h
    have h1 := ih (a.put (some p.2) (f p.1)) (fun q hq => h q (List.mem_cons_of_mem _ hq))
    refine h1.trans ?_
    have hne := h p (List.mem_cons_self ..)
    simp [Act.put, Array.getElem?_setIfInBounds_ne hne]
theorem putL_at (f : Nat → Value) : ∀ (ids : List (Nat × Nat)) (a : Act), (ids.map (·.2)).Nodup → ∀ p ∈ ids, p.2 < a.tmps.size → (putL a f ids).tmps[p.2]? = some (f p.1)
  | [], a, _, p, h, _ => by simp at h
  | q :: ids, a, hn, p, h, hlt => by
    have hn' := List.nodup_cons.1 hn
    rcases List.mem_cons.1 h with rfl | h
    · have h1 := putL_other f p.2 ids (a.put (some p.2) (f p.1)) (fun q hq e => hn'.1 (List.mem_map.2 ⟨q, hq, e⟩))
      refine h1.trans ?_
      simp [Act.put, hlt]
    · exact putL_at f ids (a.put (some q.2) (f q.1)) hn'.2 p h (by simpa [Act.put] using hlt)
/-- The test of the whole. -/
def effTo (ops : Array Oper) (L0 : Array Bool) (ids : List (Nat × Nat)) (n : Nat) : Bool :=
  ids.all (fun p => decide (p.2 < n) && !L0.getD p.1 true && (match ops[p.1]? with | some o => o.dst == some p.2 && o.guard.isNone | none => false)) &&
  effChk ops (ids.map (·.1)) (ids.map (·.1)) L0 false && decide (L0.size = ops.size)
/-- What has come up of what an operation waits for. -/
def EffGot (ids : List (Nat × Nat)) (F : Nat → Value → World → Prop) (a : Act) (w : World) (j : Nat) : Prop := ∀ p ∈ ids, p.1 = j → ∃ v, a.tmps[p.2]? = some v ∧ F j v w
structure EffKeep (ids : List (Nat × Nat)) (a0 a : Act) : Prop where
  defers : a.defers = a0.defers
  size : a.tmps.size = a0.tmps.size
  same : ∀ k, (∀ p ∈ ids, p.2 ≠ k) → a.tmps[k]? = a0.tmps[k]?
theorem EffKeep.get {ids : List (Nat × Nat)} {a0 a : Act} (h : EffKeep ids a0 a) (k : Nat) {v : Value} (hk : ids.all (fun p => p.2 != k) = true) (h0 : a0.tmps[k]? = some v) : a.tmps[k]? = some v := by
  rw [h.same k (fun p hp => by simpa using List.all_eq_true.1 hk p hp)]
  exact h0
theorem EffGot.at {ids : List (Nat × Nat)} {F : Nat → Value → World → Prop} {a : Act} {w : World} {j : Nat} (h : EffGot ids F a w j) (d : Nat) (hd : ids.contains (j, d) = true) : ∃ v, a.tmps[d]? = some v ∧ F j v w :=
  h (j, d) (by simpa using hd) rfl

theorem wpAnyH_effto {P : Program} {ops : Array Oper} {S : World → Prop} {Q : Exit → Act → World → Prop} {a0 : Act} {W0 : World} {L0 : Array Bool} (m : Nat) (F : Nat → Value → World → Prop) (ids : List (Nat × Nat)) (n : Nat)
    (hok : effTo ops L0 ids n = true) (hn1 : (ids.map (·.1)).Nodup) (hn2 : (ids.map (·.2)).Nodup) (hn : n = a0.tmps.size)
    (mono : ∀ i v w w', F i v w → Below w.heap.size w w' → F i v w')
    (hS : ∀ w, Below W0.heap.size W0 w → S w)
    (step : ∀ p ∈ ids, ∀ o a w, ops[p.1]? = some o → EffKeep ids a0 a → Below W0.heap.size W0 w → (∀ j, o.after.any (fun e => Region.binds .any e && e.on == j) = true → EffGot ids F a w j) → EffRun P o a w (fun v w' => F p.1 v w' ∧ Below w.heap.size w w'))
    (fin : ∀ (f : Nat → Value) w, Below W0.heap.size W0 w → (∀ p ∈ ids, F p.1 (f p.1) w) → wpAnyH P .any ops (NoPanic Q) S m (setL L0 (ids.map (·.1))) (putL a0 f ids) w) :
    wpAnyH P .any ops (NoPanic Q) S (ids.length + m) L0 a0 W0 := by
  simp only [effTo, Bool.and_eq_true, decide_eq_true_eq] at hok
  obtain ⟨⟨hok1, hok2⟩, hLs⟩ := hok
  have hat : ∀ p ∈ ids, p.2 < a0.tmps.size ∧ L0.getD p.1 true = false ∧ ∃ o, ops[p.1]? = some o ∧ o.dst = some p.2 ∧ o.guard = none := fun p hp => by
    have h := List.all_eq_true.1 hok1 p hp
    simp only [Bool.and_eq_true, decide_eq_true_eq, Bool.not_eq_true'] at h
    obtain ⟨⟨h1, h2⟩, h3⟩ := h
    refine ⟨hn ▸ h1, h2, ?_⟩
    cases ho : ops[p.1]? with
    | none => rw [ho] at h3; simp at h3
    | some o =>
      rw [ho] at h3
      simp only [Bool.and_eq_true, beq_iff_eq] at h3
      exact ⟨o, rfl, h3.1, Option.isNone_iff_eq_none.1 h3.2⟩
  have main : ∀ (k : Nat) (c : Nat → Bool) (a : Act) (w : World), unC c (ids.map (·.1)) = k → EffKeep ids a0 a → Below W0.heap.size W0 w → (∀ p ∈ ids, c p.1 = true → ∃ v, a.tmps[p.2]? = some v ∧ F p.1 v w) →
      (∀ i ∈ ids.map (·.1), (setL L0 ((ids.map (·.1)).filter c)).getD i true = true → depOk ops (setL L0 ((ids.map (·.1)).filter c)) i = true) →
      wpAnyH P .any ops (NoPanic Q) S (k + m) (setL L0 ((ids.map (·.1)).filter c)) a w := by
    intro k
    induction k with
    | zero =>
      intro c a w hu hs hb hh _
      have hz := unC_zero _ hu
      have hall : ∀ p ∈ ids, ∃ v, a.tmps[p.2]? = some v ∧ F p.1 v w := fun p hp => hh p hp (hz p.1 (List.mem_map_of_mem hp))
      have hLeq : setL L0 ((ids.map (·.1)).filter c) = setL L0 (ids.map (·.1)) := by rw [List.filter_eq_self.2 hz]
      obtain ⟨f, hf⟩ : ∃ f : Nat → Value, ∀ p ∈ ids, a.tmps[p.2]? = some (f p.1) ∧ F p.1 (f p.1) w := by
        have hch : ∀ j, ∃ v, ∀ p ∈ ids, p.1 = j → a.tmps[p.2]? = some v ∧ F p.1 v w := fun j => by
          by_cases hj : ∃ p ∈ ids, p.1 = j
          · obtain ⟨p, hp, rfl⟩ := hj
            obtain ⟨v, h1, h2⟩ := hall p hp
            refine ⟨v, fun q hq e => ?_⟩
            obtain ⟨-, -, o, ho, hd, -⟩ := hat p hp
            obtain ⟨-, -, o', ho', hd', -⟩ := hat q hq
            rw [e, ho] at ho'
            obtain rfl := Option.some.inj ho'
            have : p.2 = q.2 := Option.some.inj (hd.symm.trans hd')
            rw [← this, e]
            exact ⟨h1, h2⟩
          · exact ⟨undef, fun q hq e => absurd ⟨q, hq, e⟩ hj⟩
        exact ⟨fun j => Classical.choose (hch j), fun p hp => Classical.choose_spec (hch p.1) p hp rfl⟩
      have ha : a = putL a0 f ids := by
        have ht : a.tmps = (putL a0 f ids).tmps := by
          refine Array.ext (by rw [putL_size]; exact hs.size) fun j h1 h2 => ?_
          have : a.tmps[j]? = (putL a0 f ids).tmps[j]? := by
            by_cases hj : ∃ p ∈ ids, p.2 = j
            · obtain ⟨p, hp, rfl⟩ := hj
              rw [(hf p hp).1, putL_at f ids a0 hn2 p hp (hat p hp).1]
            · have hj' : ∀ p ∈ ids, p.2 ≠ j := fun p hp e => hj ⟨p, hp, e⟩
              rw [hs.same j hj', putL_other f j ids a0 hj']
          simpa [h1, h2] using this
        have hd : a.defers = (putL a0 f ids).defers := by rw [putL_defers]; exact hs.defers
        cases a
        cases hp : putL a0 f ids
        rw [hp] at ht hd
        simp only at ht hd
        rw [ht, hd]
      rw [hLeq, ha, Nat.zero_add]
      exact fin f w hb (fun p hp => (hf p hp).2)
    | succ k ih =>
      intro c a w hu hs hb hh hcl
      have hex : ∃ i ∈ ids.map (·.1), c i = false := by
        by_cases h : ∃ i ∈ ids.map (·.1), c i = false
        · exact h
        · exfalso
          have hz : ∀ i ∈ ids.map (·.1), c i = true := fun i hi => by
            by_cases hc : c i = true
            · exact hc
            · exact absurd ⟨i, hi, by simpa using hc⟩ h
          have : unC c (ids.map (·.1)) = unC (fun _ => true) (ids.map (·.1)) := unC_same _ (fun i hi => hz i hi)
          have h0 : ∀ l : List Nat, unC (fun _ => true) l = 0 := fun l => by
            induction l with
            | nil => rfl
            | cons x l ih => rw [unC, ih]; rfl
          rw [hu, h0] at this
          omega
      obtain ⟨hne, hsub⟩ := effChk_spec (ops := ops) (all := ids.map (·.1)) c (ids.map (·.1)) L0 false hok2 (.inr hex) hcl
      have hsz : (setL L0 ((ids.map (·.1)).filter c)).size = ops.size := by rw [setL_size]; exact hLs
      rw [show k + 1 + m = (k + m) + 1 by omega]
      refine ⟨fun h => absurd h hne, fun i hi => ?_⟩
      obtain ⟨p, hp, rfl⟩ := List.mem_map.1 (hsub i hi)
      obtain ⟨h1, o, ho, hdep⟩ := mem_ready.1 hi
      obtain ⟨hdl, hL0, o', ho', hdo, hg⟩ := hat p hp
      rw [ho] at ho'
      obtain rfl := Option.some.inj ho'
      have hlt := (Array.getElem?_eq_some_iff.1 ho).1
      have hci : c p.1 = false := by
        by_cases hc : c p.1 = true
        · exfalso
          rw [setL_get _ _ _ (by omega)] at h1
          have : ((ids.map (·.1)).filter c).contains p.1 = true := by
            simpa using ⟨⟨p.2, hp⟩, hc⟩
          rw [this] at h1
          simp at h1
        · simpa using hc
      have hw : Region.wanted o (yielded ops a.tmps) = true := by simp [Region.wanted, hg]
      have hrun := step p hp o a w ho hs hb (fun j hj q hq hqj => by
        obtain ⟨e, hem, hbj⟩ := Array.any_eq_true'.1 hj
        simp only [Bool.and_eq_true, beq_iff_eq] at hbj
        obtain ⟨hbi, rfl⟩ := hbj
        have h2 := hdep e hem hbi
        obtain ⟨-, hq0, oq, hoq, -⟩ := hat q hq
        have hqlt := (Array.getElem?_eq_some_iff.1 hoq).1
        have h4 : (setL L0 ((ids.map (·.1)).filter c)).getD q.1 true = true := by
          rw [hqj]
          have : e.on < (setL L0 ((ids.map (·.1)).filter c)).size := by rw [hsz, ← hqj]; exact hqlt
          simpa [this] using h2
        rw [setL_get _ _ _ (by omega), hq0, Bool.false_or] at h4
        have h5 : c q.1 = true := by
          have h6 : q.1 ∈ (ids.map (·.1)).filter c := by simpa using h4
          exact (List.mem_filter.1 h6).2
        have := hh q hq h5
        rw [hqj] at this
        exact this)
      have next : ∀ v w', F p.1 v w' ∧ Below w.heap.size w w' → S w' ∧ wpAnyH P .any ops (NoPanic Q) S (k + m) ((setL L0 ((ids.map (·.1)).filter c)).setIfInBounds p.1 true) (a.put (some p.2) v) w' := by
        rintro v w' ⟨hF, hb'⟩
        have hbw := hb.trans (hb'.mono hb.size)
        have htm : (a.put (some p.2) v).tmps = a.tmps.setIfInBounds p.2 v := rfl
        refine ⟨hS w' hbw, ?_⟩
        have hLq : (setL L0 ((ids.map (·.1)).filter c)).setIfInBounds p.1 true = setL L0 ((ids.map (·.1)).filter fun j => c j || j == p.1) := by
          refine arr_ext (by simp [setL_size]) fun j hj => ?_
          have hj' : j < L0.size := by simpa [setL_size] using hj
          rw [setL_get _ _ _ hj']
          by_cases hji : p.1 = j
          · subst hji
            have h7 : ((setL L0 ((ids.map (·.1)).filter c)).setIfInBounds p.1 true).getD p.1 true = true := by
              have : p.1 < (setL L0 ((ids.map (·.1)).filter c)).size := by rw [setL_size]; exact hj'
              simp [this]
            have h8 : ((ids.map (·.1)).filter fun j => c j || j == p.1).contains p.1 = true := by
              rw [List.contains_iff_mem]
              exact List.mem_filter.2 ⟨List.mem_map_of_mem hp, by simp⟩
            rw [h7, h8]
            simp
          · rw [getD_set_ne true hji, setL_get _ _ _ hj']
            congr 1
            have hbe : (j == p.1) = false := by simpa using fun e => hji e.symm
            rw [Bool.eq_iff_iff, List.contains_iff_mem, List.contains_iff_mem, List.mem_filter, List.mem_filter, hbe, Bool.or_false]
        rw [hLq]
        refine ih _ _ _ ?_ ⟨hs.defers, by rw [htm, Array.size_setIfInBounds]; exact hs.size, fun q hq => ?_⟩ hbw (fun q hq hcq => ?_) ?_
        · have := unC_set hci (ids.map (·.1)) hn1 (List.mem_map_of_mem hp)
          omega
        · rw [htm, Array.getElem?_setIfInBounds_ne (hq p hp)]
          exact hs.same q hq
        · by_cases hqp : q.1 = p.1
          · have h9 : q.2 = p.2 := by
              obtain ⟨-, -, oq, hoq, hdq, -⟩ := hat q hq
              rw [hqp, ho] at hoq
              obtain rfl := Option.some.inj hoq
              exact Option.some.inj (hdq.symm.trans hdo)
            rw [hqp, h9]
            refine ⟨v, ?_, hF⟩
            rw [htm, Array.getElem?_setIfInBounds_self_of_lt (by rw [hs.size]; exact hdl)]
          · have hbe : (q.1 == p.1) = false := by simpa using hqp
            have hcq' : c q.1 = true := by simpa [hbe] using hcq
            obtain ⟨v', h1', h2'⟩ := hh q hq hcq'
            refine ⟨v', ?_, mono _ _ _ _ h2' hb'⟩
            have hne : p.2 ≠ q.2 := fun e => hqp (by
              have hinj : ∀ (l : List (Nat × Nat)), (l.map (·.2)).Nodup → ∀ x ∈ l, ∀ y ∈ l, x.2 = y.2 → x = y := by
                intro l
                induction l with
                | nil => intro _ x hx; simp at hx
                | cons z l ihl =>
                  intro hnd x hx y hy exy
                  have hnd' := List.nodup_cons.1 hnd
                  rcases List.mem_cons.1 hx with rfl | hxl
                  · rcases List.mem_cons.1 hy with rfl | hyl
                    · rfl
                    · exact absurd (List.mem_map.2 ⟨y, hyl, exy.symm⟩) hnd'.1
                  · rcases List.mem_cons.1 hy with rfl | hyl
                    · exact absurd (List.mem_map.2 ⟨x, hxl, exy⟩) hnd'.1
                    · exact ihl hnd'.2 x hxl y hyl exy
              rw [hinj ids hn2 q hq p hp e.symm])
            rw [htm, Array.getElem?_setIfInBounds_ne hne]
            exact h1'
        · rw [← hLq]
          intro i hi hiL
          by_cases hip : p.1 = i
          · subst hip
            exact depOk_set (depOk_of ho hdep)
          · rw [getD_set_ne true hip] at hiL
            exact depOk_set (hcl i hi hiL)
      rcases hrun with ⟨v, w', hr, hR⟩ | ⟨f, args, hr, hc⟩
      · unfold wpOp
        simp only [ho, hw, if_true, Oper.wp, hr, Oper.upon, hdo]
        exact .inl (next v w' hR)
      · unfold wpOp
        simp only [ho, hw, if_true, Oper.wp, hr, Oper.upon, hdo]
        refine .inl (hc.mono ?_)
        rintro e w' ⟨v, rfl, hR⟩
        exact next v w' hR
  have h := main (ids.length) (fun _ => false) a0 W0 (by rw [unC_none]; simp) ⟨rfl, rfl, fun _ _ => rfl⟩ (Below.refl _ _) (fun p hp h => by simp at h) (fun i hi hL => by
    exfalso
    obtain ⟨p, hp, rfl⟩ := List.mem_map.1 hi
    rw [List.filter_eq_nil_iff.2 (by simp)] at hL
    have := (hat p hp).2.1
    have h2 : L0.getD p.1 true = true := hL
    rw [this] at h2
    simp at h2)
  have he : setL L0 ((ids.map (·.1)).filter fun _ => false) = L0 := by
    rw [List.filter_eq_nil_iff.2 (by simp)]
    rfl
  rw [he] at h
  exact h
end Go

namespace Go.Proofs.YtiabdcejibeciaaDoor
open Go.RowKit

/-- Two rows of the call's own are not one. -/
def Sp (v u : Value) : Prop := v.ownBlock = none ∨ v.ownBlock ≠ u.ownBlock
theorem Sp.symm {v u : Value} (h : Sp v u) : Sp u v := by
  unfold Sp at *
  rcases h with h | h
  · cases hu : u.ownBlock with
    | none => exact .inl rfl
    | some g => exact .inr (by rw [h]; simp)
  · exact .inr (Ne.symm h)
theorem Sp.nil (v : Value) : Sp (.slice none 0 0) v := .inl rfl
/-- append to a row of the call's own: where the row lies behind it. -/
theorem run_append_at {P : Program} (w : World) (base : Nat) (t ty e : TypeId) (i : TypeInfo) (z : Value) (size bytes : Nat) (ht : P.underlying t = some (.slice e)) (hi : P.info? e = some i) (hz : i.zero = some z)
    (hsize : i.size = size) (hby : i.bytes = bytes) (hzs : z.cells.size = size) (hsz : 0 < size)
    (v : Value) (n : Nat) (xs : List Value) (hown : w.ownsRow base e size v n xs)
    (a : Addr) (m c : Nat) (news : List Value) (hl : news.length = m * size) (hnews : ∀ j u, news[j]? = some u → w.cell? (a.add j) = some u) (h1 : ∀ u ∈ news, u.oneCell' = true)
    (h63 : n + m ≤ maxLen) (hbytes : (n + m) * bytes ≤ 140737488355328) (hbase : base ≤ w.heap.size) :
    ∃ v' w', (Builtin.append_ #[t, t] ty #[v, .slice (some a) m c]).run P w = .ok v' w' ∧ w'.ownsRow base e size v' (n + m) (xs ++ news) ∧ w.grownBy w' v.ownBlock ∧
      ∀ g, v'.ownBlock = some g → v.ownBlock = some g ∨ w.heap.size ≤ g := by
  obtain ⟨v', w', hr, ho, hg, _⟩ := run_append_own (P := P) w base t ty e i z size bytes ht hi hz hsize hby hzs hsz v n xs hown a m c news hl hnews h1 h63 hbytes hbase
  refine ⟨v', w', hr, ho, hg, ?_⟩
  have hsmall : n + m ≤ 9223372036854775807 := by simp only [maxLen] at h63; omega
  subst hsize
  subst hby
  rcases hown.2 with ⟨rfl, rfl⟩ | ⟨g, cap, cur, rfl, hbg, hgc, hnc, hcm, hcs, htake⟩
  · have hown2 : w.ownsRow w.heap.size e i.size (.slice none 0 0) 0 xs := ⟨hown.1, .inl ⟨rfl, rfl⟩⟩
    obtain ⟨v2, w2, hr2, ho2, _, _⟩ := run_append_own (P := P) w w.heap.size t ty e i z i.size i.bytes ht hi hz rfl rfl hzs hsz _ 0 xs hown2 a m c news hl hnews h1 h63 hbytes (Nat.le_refl _)
    rw [hr] at hr2
    simp only [Result.ok.injEq] at hr2
    obtain ⟨rfl, rfl⟩ := hr2
    intro g hgv
    exact .inr (ho2.lt g hgv).1
  · by_cases hroom : n + m ≤ cap
    · have hfit : n * i.size + news.length ≤ cur.size := by rw [hl, hcs, ← Nat.add_mul]; exact Nat.mul_le_mul_right _ hroom
      have hr2 := run_append_room (P := P) w t ty e i ht hi g n cap cur hgc a m c news hl hnews h1 hroom hfit
      rw [hr] at hr2
      simp only [Result.ok.injEq] at hr2
      obtain ⟨rfl, rfl⟩ := hr2
      intro g' hg'
      exact .inl hg'
    · have holds : ∀ j u, xs[j]? = some u → w.cell? ((⟨g, 0, none⟩ : Addr).add j) = some u := hown.cells (g := g) rfl
      have hr2 := run_append_grow (P := P) w t ty e i z ht hi hz ⟨g, 0, none⟩ n cap xs hown.1 holds a m c news hl hnews (by omega) (by omega) (growslice_fits (by omega) hbytes)
      rw [hr] at hr2
      simp only [Result.ok.injEq] at hr2
      obtain ⟨rfl, rfl⟩ := hr2
      intro g' hg'
      simp only [Value.ownBlock, Option.some.injEq] at hg'
      exact .inr (by omega)
theorem row_kept {w w' : World} {base : Nat} {e : TypeId} {size : Nat} {v : Value} {n : Nat} {xs : List Value} (h : w.ownsRow base e size v n xs) (hb : ∀ g, v.ownBlock = some g → w'.heap[g]? = w.heap[g]?) : w'.ownsRow base e size v n xs := by
  refine ⟨h.1, ?_⟩
  rcases h.2 with c | ⟨g, cap, cur, rfl, a1, a2, a3, a4, a5, a6⟩
  · exact .inl c
  · exact .inr ⟨g, cap, cur, rfl, a1, (hb g rfl).trans a2, a3, a4, a5, a6⟩

theorem row_slice {w : World} {base : Nat} {e : TypeId} {size : Nat} {v : Value} {n : Nat} {xs : List Value} (h : w.ownsRow base e size v n xs) : ∃ a m c, v = .slice a m c := by
  rcases h.2 with ⟨rfl, _⟩ | ⟨g, cap, cur, rfl, _⟩
  · exact ⟨_, _, _, rfl⟩
  · exact ⟨_, _, _, rfl⟩
/-- A block apart from a node's own four. -/
def Off (g : Nat) (k v c : Value) (b : Nat) : Prop := b ≠ g ∧ k.ownBlock ≠ some b ∧ v.ownBlock ≠ some b ∧ c.ownBlock ≠ some b
/-- Only the node's own four blocks have changed, and new ones were made. -/
structure Chg (W W' : World) (g : Nat) (k v c k' v' c' : Value) : Prop where
  size : W.heap.size ≤ W'.heap.size
  off : ∀ b, b < W.heap.size → Off g k v c b → W'.heap[b]? = W.heap[b]? ∧ Off g k' v' c' b
theorem Chg.trans {W W' W'' : World} {g : Nat} {k v c k' v' c' k2 v2 c2 : Value} (h : Chg W W' g k v c k' v' c') (h' : Chg W' W'' g k' v' c' k2 v2 c2) : Chg W W'' g k v c k2 v2 c2 :=
  ⟨Nat.le_trans h.size h'.size, fun b hb ho => by
    obtain ⟨h1, h2⟩ := h.off b hb ho
    obtain ⟨h3, h4⟩ := h'.off b (Nat.lt_of_lt_of_le hb h.size) h2
    exact ⟨h3.trans h1, h4⟩⟩
theorem Chg.below {W W' : World} {g : Nat} {k v c : Value} (h : Below W.heap.size W W') : Chg W W' g k v c k v c := ⟨h.size, fun b hb ho => ⟨h.block b hb, ho⟩⟩
/-- A fact that hangs on blocks apart from the node's own: of those below m, or from n on. -/
def Far (W : World) (m n g : Nat) (k v c : Value) (φ : World → Prop) : Prop :=
  ∃ A : Nat → Prop, (∀ b, A b → b < W.heap.size ∧ (b < m ∨ n ≤ b) ∧ Off g k v c b) ∧ ∀ W', (∀ b, A b → W'.heap[b]? = W.heap[b]?) → φ W'
theorem Far.chg {W W' : World} {m n g : Nat} {k v c k' v' c' : Value} {φ : World → Prop} (h : Far W m n g k v c φ) (hc : Chg W W' g k v c k' v' c') : Far W' m n g k' v' c' φ := by
  obtain ⟨A, h1, h2⟩ := h
  refine ⟨A, fun b hb => ?_, fun w hw => h2 w fun b hb => ?_⟩
  · obtain ⟨a1, a2, a3⟩ := h1 b hb
    exact ⟨Nat.lt_of_lt_of_le a1 hc.size, a2, (hc.off b a1 a3).2⟩
  · obtain ⟨a1, a2, a3⟩ := h1 b hb
    exact (hw b hb).trans (hc.off b a1 a3).1
theorem Far.now {W : World} {m n g : Nat} {k v c : Value} {φ : World → Prop} (h : Far W m n g k v c φ) : φ W := by
  obtain ⟨A, h1, h2⟩ := h
  exact h2 W fun _ _ => rfl
theorem Far.end {W : World} {m n g : Nat} {k v c : Value} {φ : World → Prop} (h : Far W m n g k v c φ) {w : World} (hw : ∀ b, (b < m ∨ n ≤ b) → b < W.heap.size → w.heap[b]? = W.heap[b]?) : φ w := by
  obtain ⟨A, h1, h2⟩ := h
  exact h2 w fun b hb => hw b (h1 b hb).2.1 (h1 b hb).1
/-- What hangs on a part of memory: below m, or from n on. -/
def On (w' : World) (m n : Nat) (φ : World → Prop) : Prop := ∀ W, (∀ b, (b < m ∨ n ≤ b) → b < w'.heap.size → W.heap[b]? = w'.heap[b]?) → φ W
theorem On.now {w' : World} {m n : Nat} {φ : World → Prop} (h : On w' m n φ) : φ w' := h w' fun _ _ _ => rfl
/-- Behind a call that was made while a node is being made. -/
theorem On.far {W W' : World} {m n g : Nat} {k v c : Value} {φ : World → Prop} (h : On W' m W.heap.size φ) (hn : n ≤ W.heap.size) (ho : ∀ b, b < m → Off g k v c b) (hg : ∀ b, W.heap.size ≤ b → Off g k v c b) : Far W' m n g k v c φ :=
  ⟨fun b => (b < m ∨ W.heap.size ≤ b) ∧ b < W'.heap.size, fun b hb' => ⟨hb'.2, by omega, by
    rcases hb'.1 with h1 | h1
    · exact ho b h1
    · exact hg b h1⟩, fun w hw => h w fun b h1 h2 => hw b ⟨h1, h2⟩⟩

/-- A node that is being made. -/
structure NB (W : World) (base g : Nat) (t pe : TypeId) (L : Int) (k v c : Value) (ks vs us : List Value) : Prop where
  arr : Arr W g t [.int .i64 L, k, v, c]
  bg : base ≤ g
  ok : W.ownsRow base 26 1 k ks.length ks
  ov : W.ownsRow base 26 1 v vs.length vs
  oc : W.ownsRow base pe 1 c us.length us
  s1 : Sp k v
  s2 : Sp k c
  s3 : Sp v c
section
variable {W W' : World} {base g : Nat} {t pe : TypeId} {L : Int} {k v c : Value} {ks vs us : List Value}
theorem NB.le (h : NB W base g t pe L k v c ks vs us) : base ≤ W.heap.size := Nat.le_trans h.bg (Nat.le_of_lt h.arr.lt)
theorem NB.below (h : NB W base g t pe L k v c ks vs us) (hb : Below W.heap.size W W') : NB W' base g t pe L k v c ks vs us :=
  ⟨arr_below h.arr hb, h.bg, own_below h.ok hb, own_below h.ov hb, own_below h.oc hb, h.s1, h.s2, h.s3⟩
theorem NB.new (W : World) (t pe : TypeId) (L : Int) : NB (W.alloc (.cells #[.int .i64 L, .slice none 0 0, .slice none 0 0, .slice none 0 0] t)) W.heap.size W.heap.size t pe L (.slice none 0 0) (.slice none 0 0) (.slice none 0 0) [] [] [] :=
  ⟨heap_alloc_new W _, Nat.le_refl _, World.ownsRow_nil _ _ _ _, World.ownsRow_nil _ _ _ _, World.ownsRow_nil _ _ _ _, Sp.nil _, Sp.nil _, Sp.nil _⟩
/-- What lies below the call's own memory, and what is new, is apart from the node. -/
theorem NB.offLow (h : NB W base g t pe L k v c ks vs us) {b : Nat} (hb : b < base) : Off g k v c b := by
  have h1 := h.bg
  refine ⟨by omega, fun e => ?_, fun e => ?_, fun e => ?_⟩
  · have := (h.ok.lt b e).1; omega
  · have := (h.ov.lt b e).1; omega
  · have := (h.oc.lt b e).1; omega
theorem NB.offNew (h : NB W base g t pe L k v c ks vs us) {b : Nat} (hb : W.heap.size ≤ b) : Off g k v c b := by
  have h1 := h.arr.lt
  refine ⟨by omega, fun e => ?_, fun e => ?_, fun e => ?_⟩
  · have := (h.ok.lt b e).2; omega
  · have := (h.ov.lt b e).2; omega
  · have := (h.oc.lt b e).2; omega
/-- A new level. -/
theorem NB.level (h : NB W base g t pe L k v c ks vs us) (hk : t ≠ 26) (hp : t ≠ pe) (M : Int) : NB (W.setCell ⟨g, 0, none⟩ (.int .i64 M)) base g t pe M k v c ks vs us ∧ Chg W (W.setCell ⟨g, 0, none⟩ (.int .i64 M)) g k v c k v c ∧ Below base W (W.setCell ⟨g, 0, none⟩ (.int .i64 M)) := by
  have hg : W.grownBy (W.setCell ⟨g, 0, none⟩ (.int .i64 M)) (some g) := grown_set (a := W) (b := W) ⟨rfl, rfl, rfl, Nat.le_refl _, fun _ _ _ => rfl⟩ 0 _
  refine ⟨⟨h.arr.set 0 _, h.bg, h.ok.kept hg (.inr (arr_not_row h.arr hk h.ok)), h.ov.kept hg (.inr (arr_not_row h.arr hk h.ov)), h.oc.kept hg (.inr (arr_not_row h.arr hp h.oc)), h.s1, h.s2, h.s3⟩, ⟨hg.size, fun b hb ho => ⟨hg.block b hb (by simpa using ho.1), ho⟩⟩, (Below.refl _ _).setCell h.bg _⟩
end
/-- Of two rows one was grown. -/
theorem Sp.grown {W : World} {base : Nat} {e : TypeId} {v v' u : Value} {m : Nat} {ys : List Value} (h : Sp v u) (hu : W.ownsRow base e 1 u m ys) (hv : ∀ g, v'.ownBlock = some g → v.ownBlock = some g ∨ W.heap.size ≤ g) : Sp v' u := by
  unfold Sp at *
  cases hv' : v'.ownBlock with
  | none => exact .inl rfl
  | some g =>
    refine .inr fun e => ?_
    rcases hv g hv' with h1 | h1
    · rcases h with h | h
      · rw [h] at h1; simp at h1
      · exact h (h1.trans e)
    · have := (hu.lt g e.symm).2
      omega
theorem Sp.keeps {W W' : World} {base : Nat} {e : TypeId} {v u : Value} {m : Nat} {ys : List Value} (h : Sp v u) (hu : W.ownsRow base e 1 u m ys) (hg : W.grownBy W' v.ownBlock) : W'.ownsRow base e 1 u m ys :=
  row_kept hu fun g hgu => hg.block g (hu.lt g hgu).2 (fun e => by
    unfold Sp at h
    rcases h with h | h
    · rw [h] at e; simp at e
    · exact h (by rw [← e, hgu]))
/-- What an append to a field of the node comes to, and the store behind it. -/
structure NApp (W : World) (base g : Nat) (t pe : TypeId) (L : Int) (k v c : Value) (W1 W2 : World) (k' v' c' : Value) (ks vs us : List Value) : Prop where
  arr : Arr W1 g t [.int .i64 L, k, v, c]
  nb : NB W2 base g t pe L k' v' c' ks vs us
  chg : Chg W W2 g k v c k' v' c'
  below : Below base W W2
section
variable {W : World} {base g : Nat} {t pe : TypeId} {L : Int} {k v c : Value} {ks vs us : List Value}
theorem NB.appK (h : NB W base g t pe L k v c ks vs us) (hk : t ≠ 26) (hp : t ≠ pe) {ty : TypeId} {bo : Addr} {cap : Nat} {u : Value} (hx : VL W (some bo) 1 cap [u]) (hu : u.oneCell' = true) (hn : ks.length ≤ 1000000) :
    ∃ k' W1, (Builtin.append_ #[51, 51] ty #[k, .slice (some bo) 1 cap]).run Tryd.prog W = .ok k' W1 ∧ NApp W base g t pe L k v c W1 (W1.setCell ⟨g, 1, none⟩ k') k' v c (ks ++ [u]) vs us := by
  obtain ⟨i0, hi, hz0, hz1, hz2⟩ := info_parts kinfo
  obtain ⟨k', W1, hr, ho, hg, ha⟩ := run_append_at (P := Tryd.prog) W base 51 ty 26 i0 (.slice none 0 0) 1 24 Tryd.underlying51 hi hz0 hz1 hz2 rfl (by decide) k ks.length ks h.ok bo 1 cap [u] rfl (hx.cells bo rfl) (by intro y hy; rw [List.mem_singleton.1 hy]; exact hu) (by simp [maxLen]; omega) (by omega) h.le
  obtain ⟨a1, a2, a3, a4⟩ := arr_put h.arr hk h.ok h.le h.bg ho hg 1
  have hs : W1.grownBy (W1.setCell ⟨g, 1, none⟩ k') (some g) := grown_set (a := W1) (b := W1) ⟨rfl, rfl, rfl, Nat.le_refl _, fun _ _ _ => rfl⟩ 1 _
  have ov1 := h.s1.keeps h.ov hg
  have oc1 := h.s2.keeps h.oc hg
  refine ⟨k', W1, hr, a1, ⟨a2, h.bg, by simpa using a3, ov1.kept hs (.inr (arr_not_row a1 hk ov1)), oc1.kept hs (.inr (arr_not_row a1 hp oc1)), h.s1.grown h.ov ha, h.s2.grown h.oc ha, h.s3⟩, ⟨Nat.le_trans hg.size hs.size, fun b hb hf => ⟨?_, hf.1, fun e => ?_, hf.2.2⟩⟩, a4⟩
  · rw [hs.block b (Nat.lt_of_lt_of_le hb hg.size) (by simpa using hf.1)]
    exact hg.block b hb (fun e => hf.2.1 e.symm)
  · rcases ha b e with h1 | h1
    · exact hf.2.1 h1
    · omega
theorem NB.appV (h : NB W base g t pe L k v c ks vs us) (hk : t ≠ 26) (hp : t ≠ pe) {ty : TypeId} {bo : Addr} {cap : Nat} {u : Value} (hx : VL W (some bo) 1 cap [u]) (hu : u.oneCell' = true) (hn : vs.length ≤ 1000000) :
    ∃ v' W1, (Builtin.append_ #[51, 51] ty #[v, .slice (some bo) 1 cap]).run Tryd.prog W = .ok v' W1 ∧ NApp W base g t pe L k v c W1 (W1.setCell ⟨g, 2, none⟩ v') k v' c ks (vs ++ [u]) us := by
  obtain ⟨i0, hi, hz0, hz1, hz2⟩ := info_parts kinfo
  obtain ⟨v', W1, hr, ho, hg, ha⟩ := run_append_at (P := Tryd.prog) W base 51 ty 26 i0 (.slice none 0 0) 1 24 Tryd.underlying51 hi hz0 hz1 hz2 rfl (by decide) v vs.length vs h.ov bo 1 cap [u] rfl (hx.cells bo rfl) (by intro y hy; rw [List.mem_singleton.1 hy]; exact hu) (by simp [maxLen]; omega) (by omega) h.le
  obtain ⟨a1, a2, a3, a4⟩ := arr_put h.arr hk h.ov h.le h.bg ho hg 2
  have hs : W1.grownBy (W1.setCell ⟨g, 2, none⟩ v') (some g) := grown_set (a := W1) (b := W1) ⟨rfl, rfl, rfl, Nat.le_refl _, fun _ _ _ => rfl⟩ 2 _
  have ok1 := h.s1.symm.keeps h.ok hg
  have oc1 := h.s3.keeps h.oc hg
  refine ⟨v', W1, hr, a1, ⟨a2, h.bg, ok1.kept hs (.inr (arr_not_row a1 hk ok1)), by simpa using a3, oc1.kept hs (.inr (arr_not_row a1 hp oc1)), (h.s1.symm.grown h.ok ha).symm, h.s2, h.s3.grown h.oc ha⟩, ⟨Nat.le_trans hg.size hs.size, fun b hb hf => ⟨?_, hf.1, hf.2.1, fun e => ?_, hf.2.2.2⟩⟩, a4⟩
  · rw [hs.block b (Nat.lt_of_lt_of_le hb hg.size) (by simpa using hf.1)]
    exact hg.block b hb (fun e => hf.2.2.1 e.symm)
  · rcases ha b e with h1 | h1
    · exact hf.2.2.1 h1
    · omega
theorem NB.appC (h : NB W base g t pe L k v c ks vs us) (hk : t ≠ 26) (hp : t ≠ pe) {ps : TypeId} (hps : Tryd.prog.underlying ps = some (.slice pe)) (hinfo : (Tryd.prog.info? pe).map (fun i => (i.zero, i.size, i.bytes)) = some (some (.pointer none), 1, 8)) {ty : TypeId} {bo : Addr} {cap : Nat} {u : Value} (hx : VL W (some bo) 1 cap [u]) (hu : u.oneCell' = true) (hn : us.length ≤ 1000000) :
    ∃ c' W1, (Builtin.append_ #[ps, ps] ty #[c, .slice (some bo) 1 cap]).run Tryd.prog W = .ok c' W1 ∧ NApp W base g t pe L k v c W1 (W1.setCell ⟨g, 3, none⟩ c') k v c' ks vs (us ++ [u]) := by
  obtain ⟨i0, hi, hz0, hz1, hz2⟩ := info_parts hinfo
  obtain ⟨c', W1, hr, ho, hg, ha⟩ := run_append_at (P := Tryd.prog) W base ps ty pe i0 (.pointer none) 1 8 hps hi hz0 hz1 hz2 rfl (by decide) c us.length us h.oc bo 1 cap [u] rfl (hx.cells bo rfl) (by intro y hy; rw [List.mem_singleton.1 hy]; exact hu) (by simp [maxLen]; omega) (by omega) h.le
  obtain ⟨a1, a2, a3, a4⟩ := arr_put h.arr hp h.oc h.le h.bg ho hg 3
  have hs : W1.grownBy (W1.setCell ⟨g, 3, none⟩ c') (some g) := grown_set (a := W1) (b := W1) ⟨rfl, rfl, rfl, Nat.le_refl _, fun _ _ _ => rfl⟩ 3 _
  have ok1 := h.s2.symm.keeps h.ok hg
  have ov1 := h.s3.symm.keeps h.ov hg
  refine ⟨c', W1, hr, a1, ⟨a2, h.bg, ok1.kept hs (.inr (arr_not_row a1 hk ok1)), ov1.kept hs (.inr (arr_not_row a1 hk ov1)), by simpa using a3, h.s1, (h.s2.symm.grown h.ok ha).symm, (h.s3.symm.grown h.ov ha).symm⟩, ⟨Nat.le_trans hg.size hs.size, fun b hb hf => ⟨?_, hf.1, hf.2.1, hf.2.2.1, fun e => ?_⟩⟩, a4⟩
  · rw [hs.block b (Nat.lt_of_lt_of_le hb hg.size) (by simpa using hf.1)]
    exact hg.block b hb (fun e => hf.2.2.2 e.symm)
  · rcases ha b e with h1 | h1
    · exact hf.2.2.2 h1
    · omega
/-- The node's own blocks are as they were. -/
theorem NB.on {w : World} (h : NB W base g t pe L k v c ks vs us) (hw : ∀ b, base ≤ b → b < W.heap.size → w.heap[b]? = W.heap[b]?) : NB w base g t pe L k v c ks vs us :=
  ⟨(hw g h.bg h.arr.lt).trans h.arr, h.bg, row_kept h.ok fun b hb => hw b (h.ok.lt b hb).1 (h.ok.lt b hb).2, row_kept h.ov fun b hb => hw b (h.ov.lt b hb).1 (h.ov.lt b hb).2, row_kept h.oc fun b hb => hw b (h.oc.lt b hb).1 (h.oc.lt b hb).2, h.s1, h.s2, h.s3⟩
/-- It is made. -/
theorem NB.tree {W : World} {L : Nat} {ks vs : List Part} {l : List It} {segs : List (List It)} {xs : List It} (h : NB W base g t pe L k v c (ks.map Part.val) (vs.map Part.val) us) (hks : ∀ q ∈ ks, Sl W q.ao q.n q.cap q.xs) (hvs : ∀ q ∈ vs, Sl W q.ao q.n q.cap q.xs)
    (hs : Shp lev l L segs xs) (ek : ks.map Part.xs = xs.map It.k) (ev : vs.map Part.xs = xs.map It.v) (kid : Kids W us segs) : T W (.pointer (some ⟨g, 0, none⟩)) l := by
  obtain ⟨ko, kc, rfl, K, -⟩ := VL.own h.ok
  obtain ⟨vo, vc, rfl, V, -⟩ := VL.own h.ov
  obtain ⟨co, cc, rfl, C, -⟩ := VL.own h.oc
  exact T.make h.arr ⟨K, hks⟩ ⟨V, hvs⟩ C hs ek ev kid
end
end Go.Proofs.YtiabdcejibeciaaDoor

namespace Go.Proofs.YtiabdcejibeciaaDoor
open Go.RowKit

/-- Items of which i are gone through, the last segment not closed yet. -/
structure Prt (lv : List Int → Nat) (L : Nat) (l : List It) (i fr : Nat) (segs : List (List It)) (xs : List It) : Prop where
  le : fr ≤ i
  hi : i ≤ l.length
  len : segs.length = xs.length
  eq : l.take fr = wvA segs xs
  top : ∀ x ∈ xs, lv x.k = L
  low : ∀ s ∈ segs, ∀ x ∈ s, lv x.k < L
  cur : ∀ j (h : j < l.length), fr ≤ j → j < i → lv l[j].k < L
section
variable {lv : List Int → Nat} {L : Nat} {l : List It} {i fr : Nat} {segs : List (List It)} {xs : List It}
theorem Prt.start (lv : List Int → Nat) (L : Nat) (l : List It) : Prt lv L l 0 0 [] [] :=
  ⟨Nat.le_refl _, Nat.zero_le _, rfl, rfl, fun x h => by simp at h, fun s h => by simp at h, fun j h _ h' => by omega⟩
theorem wvA_many : ∀ (P : List (List It)) (xs : List It), P.length = xs.length → P.length ≤ (wvA P xs).length
  | [], _, _ => by simp
  | _ :: _, [], h => by simp at h
  | s :: P, x :: xs, h => by
    have := wvA_many P xs (by simpa using h)
    simp only [wvA, List.length_append, List.length_cons]
    omega
theorem Prt.many (h : Prt lv L l i fr segs xs) : segs.length ≤ i := by
  have h1 := wvA_many segs xs h.len
  have h2 := h.le
  rw [← h.eq, List.length_take] at h1
  omega
theorem Prt.skip (h : Prt lv L l i fr segs xs) (hi : i < l.length) (hl : lv l[i].k < L) : Prt lv L l (i + 1) fr segs xs :=
  ⟨by have := h.le; omega, hi, h.len, h.eq, h.top, h.low, fun j hj h1 h2 => by
    by_cases hji : j = i
    · subst hji; exact hl
    · exact h.cur j hj h1 (by omega)⟩
theorem Prt.seg (h : Prt lv L l i fr segs xs) : ∀ x ∈ (l.take i).drop fr, lv x.k < L := fun x hx => by
  obtain ⟨j, hj, rfl⟩ := List.mem_iff_getElem.1 hx
  simp only [List.length_drop, List.length_take] at hj
  rw [List.getElem_drop, List.getElem_take]
  exact h.cur (fr + j) (by omega) (by omega) (by omega)
theorem Prt.take (h : Prt lv L l i fr segs xs) (hi : i < l.length) (hl : lv l[i].k = L) : Prt lv L l (i + 1) (i + 1) (segs ++ [(l.take i).drop fr]) (xs ++ [l[i]]) := by
  refine ⟨Nat.le_refl _, hi, by simp [h.len], ?_, fun x hx => ?_, fun s hs x hx => ?_, fun j hj h1 h2 => by omega⟩
  · rw [wvA_app _ _ _ _ h.len, ← h.eq]
    simp only [wvA]
    rw [List.take_succ_eq_append_getElem hi, ← List.append_assoc]
    congr 1
    have hle := h.le
    have : l.take fr = (l.take i).take fr := by rw [List.take_take, Nat.min_eq_left hle]
    rw [this, List.take_append_drop]
  · rcases List.mem_append.1 hx with hx | hx
    · exact h.top x hx
    · rw [List.mem_singleton.1 hx]; exact hl
  · rcases List.mem_append.1 hs with hs | hs
    · exact h.low s hs x hx
    · rw [List.mem_singleton.1 hs] at hx
      exact h.seg x hx
theorem Prt.pos (h : Prt lv L l l.length fr segs xs) (ha : ∃ x ∈ l, lv x.k = L) : 0 < fr := by
  cases fr with
  | succ n => omega
  | zero =>
    exfalso
    obtain ⟨x, hx, hxl⟩ := ha
    obtain ⟨j, hj, rfl⟩ := List.mem_iff_getElem.1 hx
    have := h.cur j hj (Nat.zero_le _) hj
    omega
theorem Prt.done (h : Prt lv L l l.length fr segs xs) (ha : ∃ x ∈ l, lv x.k = L) : Shp lv l L (segs ++ [l.drop fr]) xs := by
  have hlast : ∀ x ∈ l.drop fr, lv x.k < L := by
    have := h.seg
    rwa [List.take_length] at this
  have heq : l = weave (segs ++ [l.drop fr]) xs := by
    have := weave_app segs [l.drop fr] xs [] h.len
    rw [List.append_nil] at this
    rw [this, ← h.eq]
    simp only [weave]
    rw [List.take_append_drop]
  refine ⟨by simp [h.len], ?_, heq, h.top, fun s hs x hx => ?_⟩
  · obtain ⟨x, hx, hxl⟩ := ha
    cases xs with
    | cons y ys => simp
    | nil =>
      exfalso
      have hs0 : segs = [] := List.eq_nil_of_length_eq_zero h.len
      subst hs0
      have h0 := h.eq
      simp only [wvA] at h0
      rw [← List.take_append_drop fr l, h0, List.nil_append] at hx
      have := hlast x hx
      omega
  · rcases List.mem_append.1 hs with hs | hs
    · exact h.low s hs x hx
    · rw [List.mem_singleton.1 hs] at hx
      exact hlast x hx
end

/-- Bytes hang on the blocks that stood. -/
theorem Sl.on {w w' : World} {ao : Option Addr} {n cap : Nat} {xs : List Int} (h : Sl w ao n cap xs) (hb : ∀ b, b < w.heap.size → w'.heap[b]? = w.heap[b]?) : Sl w' ao n cap xs := by
  refine ⟨h.len, h.le, h.mx, h.nil, fun a ha i hi => ?_, h.byte⟩
  have hc := h.cell a ha i hi
  rw [← hc]
  exact World.cell?_of_block (hb _ (World.block_lt_of_cell? w _ hc))

/-- Kids of a node that is being made. -/
structure KidsF (W : World) (m n g : Nat) (k v c : Value) (us : List Value) (segs : List (List It)) : Prop where
  len : us.length = segs.length
  kid : ∀ (i : Nat) (s : List It), segs[i]? = some s → ∃ u, us[i]? = some u ∧ Far W m n g k v c fun w => T w u s
section
variable {W W' : World} {m n g : Nat} {k v c k' v' c' : Value} {us : List Value} {segs : List (List It)}
theorem KidsF.nil (W : World) (m n g : Nat) (k v c : Value) : KidsF W m n g k v c [] [] := ⟨rfl, fun i s h => by simp at h⟩
theorem KidsF.chg (h : KidsF W m n g k v c us segs) (hc : Chg W W' g k v c k' v' c') : KidsF W' m n g k' v' c' us segs :=
  ⟨h.len, fun i s hi => by obtain ⟨u, hu, hf⟩ := h.kid i s hi; exact ⟨u, hu, hf.chg hc⟩⟩
theorem KidsF.app (h : KidsF W m n g k v c us segs) {u : Value} {s : List It} (hu : Far W m n g k v c fun w => T w u s) : KidsF W m n g k v c (us ++ [u]) (segs ++ [s]) := by
  refine ⟨by simp [h.len], fun i t hi => ?_⟩
  have hl := h.len
  by_cases hlt : i < segs.length
  · rw [List.getElem?_append_left hlt] at hi
    rw [List.getElem?_append_left (by omega)]
    exact h.kid i t hi
  · rw [List.getElem?_append_right (by omega)] at hi
    rw [List.getElem?_append_right (by omega)]
    cases hj : i - segs.length with
    | zero =>
      rw [hj] at hi
      rw [hl, hj]
      simp only [List.getElem?_cons_zero, Option.some.injEq] at hi ⊢
      subst hi
      exact ⟨u, rfl, hu⟩
    | succ j => rw [hj] at hi; simp at hi
theorem KidsF.end (h : KidsF W m n g k v c us segs) {w : World} (hw : ∀ b, (b < m ∨ n ≤ b) → b < W.heap.size → w.heap[b]? = W.heap[b]?) : Kids w us segs :=
  ⟨h.len, fun i s hi => by obtain ⟨u, hu, hf⟩ := h.kid i s hi; exact ⟨u, hu, hf.end hw⟩⟩
end

/-- A leaf in memory. -/
structure LP where
  L : Nat
  k : Part
  v : Part
def LP.it (q : LP) : It := ⟨q.k.xs, q.v.xs⟩
/-- Its bytes, and its level is its key's. -/
def LP.ok (w : World) (q : LP) : Prop := Sl w q.k.ao q.k.n q.k.cap q.k.xs ∧ Sl w q.v.ao q.v.n q.v.cap q.v.xs ∧ q.L = lev q.k.xs
/-- The slice at ao, of n leaves, up to cap, holds ls. -/
structure LL (w : World) (ao : Option Addr) (n cap : Nat) (ls : List LP) : Prop where
  len : ls.length = n
  le : n ≤ cap
  mx : cap ≤ maxLen
  nil : ao = none → n = 0 ∧ cap = 0
  cell : ∀ a, ao = some a → ∀ i (h : i < ls.length), w.cell? (a.add (i * 3)) = some (.int .i64 ls[i].L) ∧ w.cell? (a.add (i * 3 + 1)) = some ls[i].k.val ∧ w.cell? (a.add (i * 3 + 2)) = some ls[i].v.val
theorem LL.below {w w' : World} {ao : Option Addr} {n cap : Nat} {ls : List LP} (h : LL w ao n cap ls) (hb : Below w.heap.size w w') : LL w' ao n cap ls :=
  ⟨h.len, h.le, h.mx, h.nil, fun a ha i hi => by
    obtain ⟨h1, h2, h3⟩ := h.cell a ha i hi
    exact ⟨(hb.cell (World.block_lt_of_cell? w _ h1)).trans h1, (hb.cell (World.block_lt_of_cell? w _ h2)).trans h2, (hb.cell (World.block_lt_of_cell? w _ h3)).trans h3⟩⟩
theorem LL.at {w : World} {ao : Option Addr} {n cap : Nat} {ls : List LP} (h : LL w ao n cap ls) (hn : 0 < n) :
    ∃ b off, ao = some ⟨b, off, none⟩ ∧ ∀ i (hi : i < ls.length), w.cell? ⟨b, off + i * 3, none⟩ = some (.int .i64 ls[i].L) ∧ w.cell? ⟨b, off + i * 3 + 1, none⟩ = some ls[i].k.val ∧ w.cell? ⟨b, off + i * 3 + 2, none⟩ = some ls[i].v.val := by
  have hl := h.len
  cases ao with
  | none => have := (h.nil rfl).1; omega
  | some a =>
    obtain ⟨b, off, spot⟩ := a
    have hc := (h.cell _ rfl 0 (by omega)).1
    have hs : spot = none := by simpa [Addr.add] using World.cell?_spot hc
    subst hs
    exact ⟨b, off, rfl, fun i hi => by have := h.cell _ rfl i hi; rw [Addr.add_lit, Addr.add_lit, Addr.add_lit, ← Nat.add_assoc, ← Nat.add_assoc] at this; exact this⟩
theorem leafInfo : (Tryd.prog.info? 61).map (fun i => (i.zero, i.size, i.bytes)) = some (some (.agg #[.int .i64 0, .slice none 0 0, .slice none 0 0]), 3, 56) := by kernel_rfl
theorem size3 (w : World) : (sizeOf 61).run Tryd.prog w = .ok 3 w := by
  have hI := leafInfo
  cases hi : Tryd.prog.info? 61 with
  | none => rw [hi] at hI; simp at hI
  | some i =>
    rw [hi] at hI
    simp only [Option.map_some, Option.some.injEq, Prod.mk.injEq] at hI
    simp [sizeOf, typeInfo, hi, hI.2.1]
/-- Where l[j:..:c] lies. -/
def bk3 (ao : Option Addr) (c j : Nat) : Option Addr := if c = j then ao else ao.map (·.add (j * 3))
/-- l[j:] -/
theorem run_back3 {W : World} {ao : Option Addr} {n cap j : Nat} (h1 : j ≤ n) :
    (Instr.sliceAt 64 (.slice ao n cap) (some (.int .i64 (j : Nat))) none none).run Tryd.prog W = .ok (.slice (bk3 ao cap j) (n - j) (cap - j)) W := by
  have ht := Tryd.underlying64
  have he : Tryd.prog.elem 64 = 61 := by simp [Program.elem, ht]
  rw [run_sliceAt_slice W 64 _ _ _ _ (by rw [he]; exact ht), run_slice_l W 64 ao n cap (by rw [he]; exact ht) .i64 j (by omega) (by omega), he, size3]
  simp only [Result.andThen_ok, sliced, Int.toNat_natCast, bk3]
/-- l[j:i:i] -/
theorem run_mid3 {W : World} {ao : Option Addr} {n cap j i : Nat} (h1 : j ≤ i) (h2 : i ≤ cap) :
    (Instr.sliceAt 64 (.slice ao n cap) (some (.int .i64 (j : Nat))) (some (.int .i64 (i : Nat))) (some (.int .i64 (i : Nat)))).run Tryd.prog W = .ok (.slice (bk3 ao i j) (i - j) (i - j)) W := by
  have ht := Tryd.underlying64
  have he : Tryd.prog.elem 64 = 61 := by simp [Program.elem, ht]
  rw [run_sliceAt_slice W 64 _ _ _ _ (by rw [he]; exact ht), run_slice_lhm W 64 ao n cap (by rw [he]; exact ht) .i64 .i64 .i64 j i i (by omega) (by omega) (by omega) (by omega), he, size3]
  simp only [Result.andThen_ok, sliced, Int.toNat_natCast, bk3]
theorem LL.part {w : World} {ao : Option Addr} {n cap : Nat} {ls : List LP} (h : LL w ao n cap ls) {j i c : Nat} (hj : j ≤ i) (hi : i ≤ n) (hc : i ≤ c) (hcc : c ≤ cap) : LL w (bk3 ao c j) (i - j) (c - j) ((ls.take i).drop j) := by
  have h1 := h.len
  have h2 := h.mx
  refine ⟨by simp; omega, by omega, by omega, fun hn => ?_, fun b hb p hp => ?_⟩
  · unfold bk3 at hn
    by_cases he : c = j
    · omega
    · rw [if_neg he] at hn
      have := h.nil (by simpa using hn)
      omega
  · simp only [List.length_drop, List.length_take] at hp
    have he : c ≠ j := by omega
    unfold bk3 at hb
    rw [if_neg he] at hb
    cases ao with
    | none => simp at hb
    | some a =>
      have hb' : a.add (j * 3) = b := by simpa using hb
      have := h.cell a rfl (j + p) (by omega)
      rw [← hb', Addr.add_add, Addr.add_add, Addr.add_add, List.getElem_drop, List.getElem_take, ← Nat.add_mul, ← Nat.add_assoc, ← Nat.add_assoc, ← Nat.add_mul]
      exact this
/-- What shape answers: a tree that hangs on the bytes' blocks and on new ones alone. -/
def OnT (m : Nat) (w : World) (l : List It) (e : Ending) (w' : World) : Prop := ∃ v, e = .returned (.pointer v) ∧ On w' m w.heap.size (fun W => T W (.pointer v) l) ∧ Below w.heap.size w w'
theorem OnT.nil (m : Nat) (w : World) : OnT m w [] (.returned (.pointer none)) w := ⟨none, rfl, fun W _ => T.nil W, Below.refl _ _⟩
/-- All is made. -/
theorem NB.onT {W w0 : World} {base g : Nat} {t pe : TypeId} {k v c : Value} {us : List Value} {L : Nat} {ks vs : List Part} {l : List It} {segs : List (List It)} {xs : List It} (h : NB W base g t pe L k v c (ks.map Part.val) (vs.map Part.val) us)
    (hm : w0.heap.size ≤ W.heap.size) (h0 : ∀ b, b < w0.heap.size → W.heap[b]? = w0.heap[b]?) (hks : ∀ q ∈ ks, Sl w0 q.ao q.n q.cap q.xs) (hvs : ∀ q ∈ vs, Sl w0 q.ao q.n q.cap q.xs)
    (hs : Shp lev l L segs xs) (ek : ks.map Part.xs = xs.map It.k) (ev : vs.map Part.xs = xs.map It.v) (kid : KidsF W w0.heap.size base g k v c us segs) : On W w0.heap.size base fun w => T w (.pointer (some ⟨g, 0, none⟩)) l := fun w hw => by
  have hw0 : ∀ b, b < w0.heap.size → w.heap[b]? = w0.heap[b]? := fun b hb => (hw b (.inl hb) (by omega)).trans (h0 b hb)
  exact (h.on (fun b h1 h2 => hw b (.inr h1) h2)).tree (fun q hq => (hks q hq).on hw0) (fun q hq => (hvs q hq).on hw0) hs ek ev (kid.end hw)
end Go.Proofs.YtiabdcejibeciaaDoor

namespace Go.Proofs
open Go.Shelf
def Tryd.sortLeaf_ren : Go.Shelf.Ren := ⟨fun | 6 => 32 | 15 => 65 | 14 => 64 | 28 => 98 | 29 => 99 | 20 => 90 | 21 => 91 | 22 => 92 | 23 => 93 | 24 => 94 | 25 => 95 | 26 => 96 | 27 => 97 | 46 => 114 | 47 => 115 | 48 => 116 | 49 => 117 | 50 => 118 | 57 => 127 | n => n, fun | 22 => 64 | 24 => 61 | 25 => 67 | 3 => 3 | 39 => 91 | 0 => 0 | 53 => 93 | 55 => 90 | 4 => 4 | 46 => 139 | 45 => 138 | 50 => 44 | 5 => 5 | 9 => 9 | 66 => 159 | 70 => 162 | 76 => 175 | 77 => 176 | n => n, fun | n => n⟩
theorem Tryd.sortLeaf : Go.Proofs.SlLaysF0.n6 Tryd.prog Tryd.sortLeaf_ren := {
  mixed := by kernel_rfl
  f6 := ⟨Tryd.f32.name, by decide, Tryd.func32.trans (congrArg some (by kernel_rfl))⟩
  f14 := ⟨Tryd.f64.name, by decide, Tryd.func64.trans (congrArg some (by kernel_rfl))⟩
  f15 := Tryd.func65.trans (congrArg some (by kernel_rfl))
  f20 := ⟨Tryd.f90.name, by decide, Tryd.func90.trans (congrArg some (by kernel_rfl))⟩
  f21 := ⟨Tryd.f91.name, by decide, Tryd.func91.trans (congrArg some (by kernel_rfl))⟩
  f22 := ⟨Tryd.f92.name, by decide, Tryd.func92.trans (congrArg some (by kernel_rfl))⟩
  f23 := ⟨Tryd.f93.name, by decide, Tryd.func93.trans (congrArg some (by kernel_rfl))⟩
  f24 := ⟨Tryd.f94.name, by decide, Tryd.func94.trans (congrArg some (by kernel_rfl))⟩
  f25 := ⟨Tryd.f95.name, by decide, Tryd.func95.trans (congrArg some (by kernel_rfl))⟩
  f26 := ⟨Tryd.f96.name, by decide, Tryd.func96.trans (congrArg some (by kernel_rfl))⟩
  f27 := ⟨Tryd.f97.name, by decide, Tryd.func97.trans (congrArg some (by kernel_rfl))⟩
  f28 := Tryd.func98.trans (congrArg some (by kernel_rfl))
  f29 := Tryd.func99.trans (congrArg some (by kernel_rfl))
  f46 := ⟨Tryd.f114.name, by decide, Tryd.func114.trans (congrArg some (by kernel_rfl))⟩
  f47 := Tryd.func115.trans (congrArg some (by kernel_rfl))
  f48 := Tryd.func116.trans (congrArg some (by kernel_rfl))
  f49 := ⟨Tryd.f117.name, by decide, Tryd.func117.trans (congrArg some (by kernel_rfl))⟩
  f50 := ⟨Tryd.f118.name, by decide, Tryd.func118.trans (congrArg some (by kernel_rfl))⟩
  f57 := ⟨Tryd.f127.name, by decide, Tryd.func127.trans (congrArg some (by kernel_rfl))⟩
  t0 := Tryd.underlying0
  a0 := Tryd.isAgg0
  z0 := Tryd.sizeOf0
  v0 := Tryd.zeroValue0
  t3 := Tryd.underlying3
  a3 := Tryd.isAgg3
  z3 := Tryd.sizeOf3
  v3 := Tryd.zeroValue3
  t4 := Tryd.underlying4
  a4 := Tryd.isAgg4
  z4 := Tryd.sizeOf4
  v4 := Tryd.zeroValue4
  t5 := Tryd.underlying5
  a5 := Tryd.isAgg5
  z5 := Tryd.sizeOf5
  v5 := Tryd.zeroValue5
  t9 := Tryd.underlying9
  a9 := Tryd.isAgg9
  z9 := Tryd.sizeOf9
  v9 := Tryd.zeroValue9
  t22 := Tryd.underlying64
  a22 := Tryd.isAgg64
  z22 := Tryd.sizeOf64
  v22 := Tryd.zeroValue64
  t25 := Tryd.underlying67
  a25 := Tryd.isAgg67
  z25 := Tryd.sizeOf67
  v25 := Tryd.zeroValue67
  t39 := Tryd.underlying91
  a39 := Tryd.isAgg91
  z39 := Tryd.sizeOf91
  v39 := Tryd.zeroValue91
  t45 := Tryd.underlying138
  a45 := Tryd.isAgg138
  z45 := Tryd.sizeOf138
  v45 := Tryd.zeroValue138
  t46 := Tryd.underlying139
  a46 := Tryd.isAgg139
  z46 := Tryd.sizeOf139
  v46 := Tryd.zeroValue139
  t50 := Tryd.underlying44
  a50 := Tryd.isAgg44
  z50 := Tryd.sizeOf44
  v50 := Tryd.zeroValue44
  t53 := Tryd.underlying93
  a53 := Tryd.isAgg93
  z53 := Tryd.sizeOf93
  v53 := Tryd.zeroValue93
  t55 := Tryd.underlying90
  a55 := Tryd.isAgg90
  z55 := Tryd.sizeOf90
  v55 := Tryd.zeroValue90
  t66 := Tryd.underlying159
  a66 := Tryd.isAgg159
  z66 := Tryd.sizeOf159
  v66 := Tryd.zeroValue159
  t70 := Tryd.underlying162
  a70 := Tryd.isAgg162
  z70 := Tryd.sizeOf162
  v70 := Tryd.zeroValue162
  t76 := Tryd.underlying175
  a76 := Tryd.isAgg175
  z76 := Tryd.sizeOf175
  v76 := Tryd.zeroValue175
  t77 := Tryd.underlying176
  a77 := Tryd.isAgg176
  z77 := Tryd.sizeOf176
  v77 := Tryd.zeroValue176 }
end Go.Proofs

namespace Go.Proofs.YtiabdcejibeciaaDoor
open Go.RowKit

/-- The cells of some leaves. -/
def encL (q : LP) : List Value := [.int .i64 q.L, q.k.val, q.v.val]
def flatL (ls : List LP) : List Value := ls.flatMap encL
theorem flatL_cons (q : LP) (ls : List LP) : flatL (q :: ls) = .int .i64 q.L :: q.k.val :: q.v.val :: flatL ls := rfl
theorem flatL_app (a b : List LP) : flatL (a ++ b) = flatL a ++ flatL b := by simp [flatL]
theorem flatL_length (ls : List LP) : (flatL ls).length = ls.length * 3 := by
  induction ls with
  | nil => rfl
  | cons q ls ih =>
    rw [flatL_cons, List.length_cons, List.length_cons, List.length_cons, ih, List.length_cons]
    omega
theorem flatL_get : ∀ (ls : List LP) (i : Nat) (hi : i < ls.length) (j : Nat), j < 3 → (flatL ls)[i * 3 + j]? = (encL ls[i])[j]?
  | q :: ls, 0, _, j, hj => by
    match j, hj with
    | 0, _ => rfl
    | 1, _ => rfl
    | 2, _ => rfl
  | q :: ls, i + 1, hi, j, hj => by
    have := flatL_get ls i (by simpa using hi) j hj
    rw [flatL_cons, show (i + 1) * 3 + j = (i * 3 + j) + 1 + 1 + 1 by omega]
    simpa using this
theorem flatL_one (ls : List LP) : ∀ u ∈ flatL ls, u.oneCell' = true := fun u hu => by
  obtain ⟨q, -, hq⟩ := List.mem_flatMap.1 hu
  simp only [encL, List.mem_cons, List.not_mem_nil, or_false] at hq
  rcases hq with rfl | rfl | rfl <;> rfl
/-- A leaf whose bytes stand in w. -/
structure LW (w : World) where
  q : LP
  hk : SlT w q.k
  hv : SlT w q.v
def LW.enc {w : World} (x : LW w) : List Value := encL x.q
def LW.cf {w : World} (x y : LW w) : Int := cmpL x.q.k.xs y.q.k.xs
theorem slT_none (w : World) : SlT w ⟨none, 0, 0, []⟩ := ⟨Sl.nothing w, fun a h => by simp at h⟩
theorem swoL (w : World) : Sort.SWO (ltOf (LW.cf (w := w))) := by
  refine ⟨fun x => decide_eq_false (cmpL_irr x.q.k.xs), fun x y z h1 h2 => decide_eq_true (cmpL_lt_trans _ _ _ (of_decide_eq_true h1) (of_decide_eq_true h2)), fun x y z h1 h2 => ?_⟩
  · replace h1 := of_decide_eq_false h1
    replace h2 := of_decide_eq_false h2
    refine decide_eq_false fun h => ?_
    unfold LW.cf at h h1 h2
    rcases cmpL_total x.q.k.xs y.q.k.xs with h3 | h3 | h3
    · exact h1 h3
    · rw [h3] at h
      exact h2 h
    · exact h2 (cmpL_lt_trans _ _ _ h3 h)
/-- Blocks behind the sort: all but the row's. -/
theorem sortW_block {α : Type} [Inhabited α] (enc : α → List Value) (k : Nat) (w : World) (blk off m : Nat) (dk : Array α) (os : Array Obj) (b : Nat) (hb : b < w.heap.size) (hne : b ≠ blk) : (sortWorldK enc k w blk off m dk os).heap[b]? = w.heap[b]? := by
  unfold sortWorldK
  rw [Sort.heap_grow_old _ _ (by rw [Sort.size_putRowK]; exact hb)]
  simp only [Sort.putRowK, Sort.putRow, Sort.mapBlock, Array.getElem?_modify]
  rw [if_neg (fun e => hne e.symm)]
  rfl
theorem sortW_size {α : Type} [Inhabited α] (enc : α → List Value) (k : Nat) (w : World) (blk off m : Nat) (dk : Array α) (os : Array Obj) : w.heap.size ≤ (sortWorldK enc k w blk off m dk os).heap.size := by
  unfold sortWorldK
  rw [Sort.size_grow, Sort.size_putRowK]
  exact Nat.le_add_right _ _
theorem sortW_kp {α : Type} [Inhabited α] (enc : α → List Value) (k : Nat) (w : World) (blk off m : Nat) (dk : Array α) (os : Array Obj) {t : TypeId} {cur : Array Value} {z : Nat × Nat} (hg : w.heap[blk]? = some (.cells cur t z)) (ht : t ≠ 5) : KpB w (sortWorldK enc k w blk off m dk os) := fun b c hbc => by
  have hne : b ≠ blk := fun e => by
    subst e
    rw [hg] at hbc
    simp only [Option.some.injEq, Obj.cells.injEq] at hbc
    exact ht hbc.2.1
  rw [sortW_block enc k w blk off m dk os b (Array.getElem?_eq_some_iff.1 hbc).1 hne]
  exact hbc
theorem sortW_below {α : Type} [Inhabited α] (enc : α → List Value) (k : Nat) (w : World) (blk off m : Nat) (dk : Array α) (os : Array Obj) (base : Nat) (hb : base ≤ blk) (hblk : blk < w.heap.size) : Below base w (sortWorldK enc k w blk off m dk os) :=
  ⟨rfl, rfl, rfl, sortW_size enc k w blk off m dk os, fun b h => sortW_block enc k w blk off m dk os b (by omega) (by omega)⟩

set_option maxHeartbeats 1000000 in
set_option maxRecDepth 100000 in
/-- The comparison. -/
theorem cmpLeaf (W : World) (x y : LP) (hx : Sl W x.k.ao x.k.n x.k.cap x.k.xs) (hy : Sl W y.k.ao y.k.n y.k.cap y.k.xs) :
    Calls Tryd.prog 33 #[.agg (encL x).toArray, .agg (encL y).toArray] W fun e w' => e = .returned (.int .i64 (cmpL x.k.xs y.k.xs)) ∧ ∃ q os', w' = Sort.grow (W.drewN q) os' := by
  obtain ⟨W1, hW1⟩ : ∃ V, V = W.alloc (.cells #[.int .i64 x.L, .slice x.k.ao x.k.n x.k.cap, .slice x.v.ao x.v.n x.v.cap] 61) := ⟨_, rfl⟩
  obtain ⟨W2, hW2⟩ : ∃ V, V = W1.alloc (.cells #[.int .i64 y.L, .slice y.k.ao y.k.n y.k.cap, .slice y.v.ao y.v.n y.v.cap] 61) := ⟨_, rfl⟩
  have B1 : Below W.heap.size W W1 := by rw [hW1]; exact (Below.refl _ _).alloc (Nat.le_refl _) _
  have C2 : Below W1.heap.size W1 W2 := by rw [hW2]; exact (Below.refl _ _).alloc (Nat.le_refl _) _
  have B2 := B1.trans (C2.mono B1.size)
  have CB := bcmp_any W2 x.k.ao y.k.ao x.k.n x.k.cap y.k.n y.k.cap x.k.xs y.k.xs (hx.below B2) (hy.below B2)
  have hg : W2 = Sort.grow (W.drewN 0) #[.cells #[.int .i64 x.L, .slice x.k.ao x.k.n x.k.cap, .slice x.v.ao x.v.n x.v.cap] 61, .cells #[.int .i64 y.L, .slice y.k.ao y.k.n y.k.cap, .slice y.v.ao y.v.n y.v.cap] 61] := by
    rw [hW2, hW1, Sort.alloc_eq_grow, Sort.alloc_eq_grow, Sort.grow_grow]
    rfl
  have HG : Hid (W2 = Sort.grow (W.drewN 0) #[.cells #[.int .i64 x.L, .slice x.k.ao x.k.n x.k.cap, .slice x.v.ao x.v.n x.v.cap] 61, .cells #[.int .i64 y.L, .slice y.k.ao y.k.n y.k.cap, .slice y.v.ao y.v.n y.v.cap] 61]) := hg
  clear hg
  unfold encL Part.val
  go_enter Tryd.func33, Tryd.ntmps33
  go_wp2_with fail
  rw [← hW1, ← hW2]
  clear hW1 hW2
  refine CB.mono ?_
  rintro e w' ⟨rfl, hw⟩
  obtain rfl := hw.symm
  go_wp2
  go_ret
  exact ⟨rfl, 0, _, HG.out⟩

/-- No key stands ahead of a lesser one. -/
def RiseL (ls : List LP) : Prop := ls.Pairwise fun a b => ¬ cmpL b.k.xs a.k.xs < 0
/-- What the sort leaves. -/
def SortPost (w : World) (base g n cap : Nat) (ls : List LP) (e : Ending) (w' : World) : Prop := e = .returned (.tuple #[]) ∧
  ∃ ls', ls'.Perm ls ∧ RiseL ls' ∧ LL w' (some ⟨g, 0, none⟩) n cap ls' ∧ KpB w w' ∧ Below base w w'

set_option maxHeartbeats 1000000 in
/-- slices.SortFunc of leaves. -/
theorem sortL_any (w : World) (base g n cap : Nat) (ls : List LP) (own : w.ownsRow base 61 3 (.slice (some ⟨g, 0, none⟩) n cap) n (flatL ls)) (hsl : ∀ q ∈ ls, SlT w q.k ∧ SlT w q.v) (hn : n ≤ 1000000) :
    Calls Tryd.prog 32 #[.slice (some ⟨g, 0, none⟩) n cap, .func (.func 33) #[] #[]] w (SortPost w base g n cap ls) := by
  haveI : Inhabited (LW w) := ⟨⟨⟨0, ⟨none, 0, 0, []⟩, ⟨none, 0, 0, []⟩⟩, slT_none w, slT_none w⟩⟩
  have hlen : ls.length = n := by
    have h1 := own.1
    rw [flatL_length] at h1
    omega
  obtain ⟨cur, hgb, hbg, hle, hmx, hcs, htk⟩ : ∃ cur, w.heap[g]? = some (.cells cur 61 (0, 0)) ∧ base ≤ g ∧ n ≤ cap ∧ cap ≤ maxLen ∧ cur.size = cap * 3 ∧ cur.toList.take (n * 3) = flatL ls := by
    rcases own.2 with ⟨e, -⟩ | ⟨g', cap', cur, e, h1, h2, h3, h4, h5, h6⟩
    · simp at e
    · simp only [Value.slice.injEq, Option.some.injEq, Addr.mk.injEq, true_and, and_true] at e
      obtain ⟨rfl, rfl⟩ := e
      exact ⟨cur, h2, h1, h3, h4, h5, h6⟩
  have hglt : g < w.heap.size := (Array.getElem?_eq_some_iff.1 hgb).1
  obtain ⟨xs, hxs⟩ : ∃ xs : List (LW w), xs.map LW.q = ls := by
    have : ∀ (l : List LP), (∀ q ∈ l, SlT w q.k ∧ SlT w q.v) → ∃ xs : List (LW w), xs.map LW.q = l := by
      intro l
      induction l with
      | nil => exact fun _ => ⟨[], rfl⟩
      | cons q l ih =>
        intro h
        obtain ⟨xs, h1⟩ := ih fun y hy => h y (List.mem_cons_of_mem _ hy)
        have h2 := h q (List.mem_cons_self ..)
        exact ⟨⟨q, h2.1, h2.2⟩ :: xs, by rw [List.map_cons, h1]⟩
    exact this ls hsl
  have hxl : xs.length = n := by rw [← hlen, ← hxs, List.length_map]
  have hcell : ∀ i (hi : i < ls.length) j, j < 3 → ∀ u, (encL ls[i])[j]? = some u → w.cell? ⟨g, 0 + (i * 3 + j), none⟩ = some u := fun i hi j hj u hu => by
    have h1 := flatL_get ls i hi j hj
    rw [hu] at h1
    have h2 := own.cells (g := g) rfl (i * 3 + j) u h1
    rw [Addr.add_lit] at h2
    exact h2
  have hH : Sort.HoldsK LW.enc 3 w g 0 xs.toArray := fun t ht => by
    have ht' : t < xs.length * 3 := by simpa using ht
    have hi : t / 3 < xs.length := by omega
    have hi2 : t / 3 < ls.length := by omega
    refine ⟨?_, frozen_of_row w g (0 + t) _ _ hgb⟩
    rw [Sort.get_flatK _ _ _ _ (by simpa using ht')]
    have hx : xs.toArray[t / 3]! = xs[t / 3] := by simp [hi]
    have hq : xs[t / 3].q = ls[t / 3] := by
      have := congrArg (·[t / 3]?) hxs
      simpa [hi, hi2] using this
    rw [hx]
    have hj : t % 3 < 3 := Nat.mod_lt _ (by decide)
    have hl3 : (encL ls[t / 3]).length = 3 := rfl
    have := hcell (t / 3) hi2 (t % 3) hj (encL ls[t / 3])[t % 3] (List.getElem?_eq_getElem (by rw [hl3]; exact hj))
    rw [show t / 3 * 3 + t % 3 = t by omega] at this
    rw [this]
    unfold LW.enc
    rw [hq, getElem!_pos _ _ (by rw [hl3]; exact hj)]
    rfl
  have hcmp : CmpLays Tryd.prog 33 #[] LW.enc 3 (LW.cf (w := w)) g 0 xs.toArray.size w := fun m os dk _ x y => by
    have kp := sortW_kp (LW.enc (w := w)) 3 w g 0 m dk os hgb (by decide)
    exact cmpLeaf _ x.q y.q (x.hk.kp kp).1 (y.hk.kp kp).1
  have eg : ∀ args w, (callFunc 33 args).run Tryd.prog w = .ok (.enter 33 args) w := enters_of Tryd.func33 (by kernel_rfl) rfl
  have hsize3 : ∀ w, (Go.sizeOf 61).run Tryd.prog w = .ok 3 w := size3
  have hagg : ∀ w, (isAgg 61).run Tryd.prog w = .ok true w := fun w => by
    simp [isAgg, run_underlying Tryd.underlying61]
  have hcon := AnyQ.slices_SortFunc (P := Tryd.prog) Tryd.sortLeaf 3 hagg hsize3 (LW.enc (w := w)) (fun _ => rfl) (fun x v hv => by
    simp only [LW.enc, encL, List.mem_cons, List.not_mem_nil, or_false] at hv
    rcases hv with rfl | rfl | rfl <;> rfl) (LW.cf (w := w)) (swoL w) 33 #[] g 0 cap xs.toArray w eg hcmp hH hglt (by simp; omega)
  have hsz : xs.toArray.size = n := by simpa using hxl
  rw [hsz] at hcon
  refine Calls.mono (show Calls Tryd.prog 32 _ _ _ from hcon) ?_
  rintro e w' ⟨rfl, d', m, os, hp, hs, rfl⟩
  have hd : d'.size = n := hp.1.trans hsz
  refine ⟨rfl, d'.toList.map LW.q, ?_, ?_, ?_, sortW_kp _ 3 w g 0 m d' os hgb (by decide), sortW_below _ 3 w g 0 m d' os base hbg hglt⟩
  · have h1 := hp.2.2
    rw [Array.extract_eq_self_of_le (by omega), Array.extract_eq_self_of_le (by omega)] at h1
    have h2 := h1.map LW.q
    rw [hxs] at h2
    exact h2
  · refine List.pairwise_map.2 (List.pairwise_iff_getElem.2 fun i j hi hj hij => ?_)
    have hi' : i < d'.size := by simpa using hi
    have hj' : j < d'.size := by simpa using hj
    have h1 := hs i j (Nat.zero_le _) hij (by omega)
    rw [getElem!_pos d' i hi', getElem!_pos d' j hj'] at h1
    have h2 := of_decide_eq_false h1
    unfold LW.cf at h2
    simpa using h2
  · have hH' := holdsK_sortWorldK (LW.enc (w := w)) 3 w g 0 m xs.toArray d' os hglt hH (by omega)
    refine ⟨by simpa using hd, hle, hmx, fun h => by simp at h, fun a ha i hi => ?_⟩
    obtain rfl := Option.some.inj ha
    have hi' : i < d'.size := by simpa using hi
    have hc := HoldsK.cells hH' (fun _ => rfl) hi'
    rw [getElem!_pos d' i hi'] at hc
    have e : (d'.toList.map LW.q)[i] = d'[i].q := by simp
    rw [e]
    have h0 := hc 0 _ rfl
    have h1 := hc 1 _ rfl
    have h2 := hc 2 _ rfl
    simp only [Addr.add_lit, Nat.zero_add, Nat.add_zero] at h0 h1 h2 ⊢
    exact ⟨h0, h1, h2⟩
end Go.Proofs.YtiabdcejibeciaaDoor

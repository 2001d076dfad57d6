/-
  Hex: the digits of some bytes, as a string.
-/
import Derived.Test.YtmedheecimglkaaDoorDig
import Derived.Laws.BytesArg
namespace Go.Proofs.YtmedheecimglkaaDoor
open Go.RowKit Go.Shelf

attribute [local go_sem] Oper.semAt_some

/-- A slice of the call's own, as a string. -/
theorem conv_own {w : World} {base : Nat} {v : Value} {k : Nat} {xs : List Int} (h : w.ownsRow base 5 1 v k (bv xs)) : (convert 23 9 v).run Tryd.prog w = .ok (.string (strOfNums xs)) w := by
  have hl : xs.length = k := by have := h.1; rw [bv_length] at this; omega
  rcases h.2 with ⟨rfl, rfl⟩ | ⟨g, cap, cur, rfl, hg, hh, hle, hmx, hcs, htk⟩
  · obtain rfl : xs = [] := List.eq_nil_of_length_eq_zero hl
    exact run_convert_bytes_nil w 23 5 Tryd.underlying23 Tryd.underlying5 0 0 9 Tryd.underlying9
  · refine run_convert_bytes_arg w 23 5 Tryd.underlying23 Tryd.underlying5 g 0 k cap xs hl (fun i hi => ?_) 9 Tryd.underlying9
    have := h.cells (g := g) rfl i _ (bv_get xs i (by omega))
    simpa [add_at] using this

set_option maxRecDepth 100000 in
set_option maxHeartbeats 2000000 in
theorem hex_in (F : Fence) (n : Nat) (h3 : F.fn 51) (h4 : F.fn 79) (h5 : F.fn 97) (hro : F.round = none) (hn : 3 ≤ n) (ao : Option Addr) (m cap : Nat) (xs : List Int) (w : World) (hL : Sl w ao m cap xs) (hm : m ≤ 70368744177664) :
    CallsIn F n Tryd.prog 51 #[.slice ao m cap] w fun e w' => e = .returned (.string (strOfNums (hexL xs))) ∧ Below w.heap.size w w' := by
  have h1 : 1 ≤ n := by omega
  obtain ⟨i0, hi, hz0, hz1, hz2⟩ := info_parts u8info
  have hln := hL.len
  have hlow := hL.lt
  have hxl := hexL_len xs
  refine callsIn_of_wp_marks Tryd.func51 rfl h3 ?_ hro
  simp only [Tryd.ntmps51, List.size_toArray, List.length_cons, List.length_nil, Nat.reduceAdd, Nat.reduceSub, Array.replicate_succ, Array.replicate_zero, List.push_toArray, List.append_toArray, List.nil_append, List.cons_append]
  gi_wp2_with (first
    | (gi_at_make; refine wpListIn_make_own _ rfl _ _ 23 rfl w.heap.size 5 i0 (.int .u8 0) 1 Tryd.underlying23 hi hz0 hz1 _ _ _ (2 * m) rfl rfl (by omega) (by rw [hz2]; omega) (by unfold maxLen; omega) (Nat.le_refl _) ?_; intro w1 own1 g1; have B1 : Below w.heap.size w w1 := (Below.refl _ w).grown g1 (Nat.le_refl _) (by simp); have s1 := g1.size; clear g1)
    | (gi_at_call 79; refine (digits_in F (n - 1) h4 hro _ ao m cap rfl _).mono ?_; rintro e w' ⟨rfl, rfl⟩))
  have bO := Boxed.new w1 23 (.slice (some ⟨w.heap.size, 0, none⟩) 0 (2 * m))
  have bN := Boxed.new (w1.alloc (.cells #[.slice (some ⟨w.heap.size, 0, none⟩) 0 (2 * m)] 23)) 23 (.slice ao m cap)
  rw [World.size_alloc] at bN
  have hB0 : Below w.heap.size w ((w1.alloc (.cells #[.slice (some ⟨w.heap.size, 0, none⟩) 0 (2 * m)] 23)).alloc (.cells #[.slice ao m cap] 23)) := (B1.alloc s1 _).alloc (by simp; omega) _
  refine wpIn_rangeFunc_ownG hro h1 (gf := 97) (lb := #[.pointer (some ⟨w1.heap.size + 1, 0, none⟩)]) rfl h5 (enters_of Tryd.func97 (by kernel_rfl) rfl)
    (digits_stops F (n - 1) h5 hro (by omega) (w1.heap.size + 1) w.heap.size ao m cap xs _ (by simp) bN.cell (hL.below hB0) hlow) belowK_t (belowK_b (by simp; omega)) (Below.refl _ _) (fun _ => rfl)
    (fun pre W => (∃ v, Boxed W w1.heap.size 23 v ∧ W.ownsRow w.heap.size 5 1 v pre.length (bv pre) ∧ True) ∧ Below w.heap.size w W)
    (fun _ _ _ => False)
    (OwnFrom.and (Own.from (holdsRow_own w.heap.size w1.heap.size 23 5 1 (fun pre => List.length pre) (fun pre => bv pre) (fun _ _ => True)) _) (ownFrom_below (Nat.le_refl _) (by simp; omega)))
    (fun _ _ _ _ _ hs _ _ => hs)
    ⟨⟨_, bO.alloc _, (own1.alloc _).alloc _, trivial⟩, hB0⟩
    (fun x => { tmps := #[.slice ao m cap, undef, .string ⟨#[]⟩, .pointer (some ⟨w1.heap.size, 0, none⟩), .int .u8 x, .slice ao m cap, .int .i64 m, .int .i64 (2 * m), .slice (some ⟨w.heap.size, 0, none⟩) 0 (2 * m), .slice ao m cap, .func (.func 97) #[] #[.pointer (some ⟨w1.heap.size + 1, 0, none⟩)], .int .u8 x, undef, undef, undef, undef, undef, undef], defers := [] }) ?assign ?body ?done ?stop
  case assign =>
    intro l x W K hK
    gi_wp2
    exact hK
  case body =>
    rintro l pre x W ⟨⟨v, hv, hrow, _⟩, hB⟩ hlt
    have hc := hv.cell
    gi_wp2_with (gi_at_builtin; refine wpListIn_append_own _ rfl _ _ 23 rfl w.heap.size 5 i0 (.int .u8 0) 1 1 Tryd.underlying23 hi hz0 hz1 hz2 rfl (by decide) _ _ _ rfl (hrow.alloc _) ⟨W.heap.size, 0, none⟩ 1 1 [.int .u8 x] rfl rfl (cell_one_new _ _ _) (by simp [Value.oneCell']) (by unfold maxLen; omega) (by omega) (by have := hB.size; simp; omega) ?_; intro v' w2 hown' hgrow _; obtain ⟨g', cap', rfl⟩ := ownsRow_succ hown'; obtain ⟨hv1, hv2, hr2, hk2, hb2⟩ := hv.appended (by decide) hrow hB.size s1 hown' hgrow; have hc1 := hv1.cell; have hf1 := hv1.frozen)
    exact ⟨hk2.from _, hb2, ⟨_, hv2, by rw [bv_append, List.length_append]; exact hr2, trivial⟩, hB.trans hb2⟩
  case done =>
    rintro D ys W hD rfl ⟨⟨v, hv, hrow, _⟩, hB⟩ hK
    have hc := hv.cell
    have hcv := conv_own hrow
    gi_wp2
    refine ⟨by simp, .inl ⟨_, _, rfl, run_takeDeferred hK, ?_⟩⟩
    exact ⟨_, results_tmp rfl _ _ _, rfl, hB.trans (belowK_b (w := w) (Nat.le_refl _) W D _ _ (by simp at hD; omega) hK rfl rfl)⟩
  case stop =>
    rintro D c pre W _ _ h _
    exact h.elim

/-- Hex of whatever bytes. -/
theorem hex_any (w : World) (ao : Option Addr) (m cap : Nat) (xs : List Int) (hL : Sl w ao m cap xs) (hm : m ≤ 70368744177664) :
    Calls Tryd.prog 51 #[.slice ao m cap] w fun e w' => e = .returned (.string (strOfNums (hexL xs))) ∧ Below w.heap.size w w' :=
  (callsIn_wide (n := 3)).1 (hex_in Fence.wide 3 trivial trivial trivial rfl (Nat.le_refl _) ao m cap xs w hL hm)

end Go.Proofs.YtmedheecimglkaaDoor

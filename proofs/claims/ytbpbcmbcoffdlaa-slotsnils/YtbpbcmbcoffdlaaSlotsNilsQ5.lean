/-
  Texts in one: SlKeys, SlVals, HRegIn, HRegE, HRegG, SlCloneAll, SlSeq, SlSortA, SlInsort, SlSorted.
-/
import Derived.Test.YtbpbcmbcoffdlaaSlotsNilsQFL
import Derived.RangeFuncBox
import Derived.RangeFuncLeaves
import Derived.Shelf.Abstract
import Derived.OwnWalkIn
import Derived.TacticsInMore
import Derived.LoopNIn
import Derived.LoopIn
import Derived.Sort.MapsRangeIn
import Derived.Test.YtbpbcmbcoffdlaaSlotsNilsQ2
import Derived.Test.YtbpbcmbcoffdlaaSlotsNilsQ3
import Derived.Test.YtbpbcmbcoffdlaaSlotsNilsQ0
import Derived.RangeFuncCalls
import Derived.OrdersIn
import Derived.ControlIn
import Derived.Test.YtbpbcmbcoffdlaaSlotsNilsQ1
import Derived.RangeFuncNested
import Derived.Maps.AppendAt
namespace Go.Proofs.Ytbpbcmbcoffdlaa
open Go.RowKit Go.Shelf
attribute [local go_sem] Oper.semAt_some
abbrev eU (x : Nat) : Value := .int .u64 (x : Nat)
def ColU (D : DataW Value) (left : Lit → Bool) (ss : List Nat) : Prop := ss.Nodup ∧ (∀ x ∈ ss, x < 18446744073709551616) ∧ ∀ x : Nat, x < 18446744073709551616 → (x ∈ ss ↔ (Maps.has D (.int .u64 (x : Nat)) = true ∧ left (.int .u64 (x : Nat)) = false))
theorem ColU.start (D : DataW Value) : ColU D (Maps.has D) [] := ⟨List.nodup_nil, fun _ h => absurd h List.not_mem_nil, fun x _ => by cases Maps.has D (.int .u64 (x : Nat)) <;> simp⟩
theorem same_int (x y : Nat) : (Lit.int .u64 (x : Nat)).sameKey (.int .u64 (y : Nat)) = decide (x = y) := by
  simp [Lit.sameKey]
  omega
theorem ColU.step {D : DataW Value} {left : Lit → Bool} {ss : List Nat} (h : ColU D left ss) {x : Nat} (hx : x < 18446744073709551616) (hl : left (.int .u64 (x : Nat)) = true) (hh : Maps.has D (.int .u64 (x : Nat)) = true) : ColU D (fun z => left z && !z.sameKey (.int .u64 (x : Nat))) (ss ++ [x]) := by
  have hn : x ∉ ss := fun hm => by
    have := ((h.2.2 x hx).1 hm).2
    rw [hl] at this
    cases this
  refine ⟨List.nodup_append.2 ⟨h.1, by simp, fun a ha b hb => ?_⟩, fun y hy => ?_, fun y hy => ?_⟩
  · rw [List.mem_singleton.1 hb]
    rintro rfl
    exact hn ha
  · rcases List.mem_append.1 hy with hy | hy
    · exact h.2.1 y hy
    · rw [List.mem_singleton.1 hy]
      exact hx
  · rw [List.mem_append, List.mem_singleton, h.2.2 y hy]
    show _ ↔ (Maps.has D (.int .u64 (y : Nat)) = true ∧ (left (.int .u64 (y : Nat)) && !(Lit.int .u64 (y : Nat)).sameKey (.int .u64 (x : Nat))) = false)
    rw [same_int]
    by_cases e : y = x
    · subst e
      simp [hh]
    · simp [e]
theorem keyU_inv {key : Value} {kl : Lit} (h : keyOf Try.prog 30 key = some kl) : ∃ x : Nat, key = eU x ∧ kl = .int .u64 (x : Nat) ∧ x < 18446744073709551616 := by
  obtain ⟨x, rfl, rfl, hw⟩ := Maps.keyOf_int_inv Try.underlying30 h
  simp [Lit.wf, IntKind.min, IntKind.max, IntKind.signed, IntKind.bits] at hw
  exact ⟨x.toNat, by unfold eU; rw [Int.toNat_of_nonneg hw.1], by rw [Int.toNat_of_nonneg hw.1], by omega⟩
theorem has_of_at {D : DataW Value} {F : Value → Option Value} {v : Value} {l : Lit} {y : DataW Value} (hF : (F v = none ∧ Maps.has D l = false ∧ ∀ z, D.atKey l z = z) ∨ ∃ u, F v = some u ∧ Maps.has D l = true ∧ ∀ z, D.atKey l z = .held u) (h : ∀ z, D.atKey l z = y) : Maps.has D l = true := by
  rcases hF with ⟨_, _, h3⟩ | ⟨u, _, h2, _⟩
  · have a := (h3 (.held (.bool true))).symm.trans (h _)
    have b := (h3 (.held (.bool false))).symm.trans (h _)
    rw [← b] at a
    cases a
  · exact h2
set_option maxRecDepth 100000 in
set_option maxHeartbeats 4000000 in
theorem keys1_u (F : Fence) (n : Nat) (hf : F.fn 66) (hro : F.round = none) (hn : 1 ≤ n) (l Bm b nn : Nat) (D : DataW Value) (G : Value → Option Value)
    (hG : ∀ v l, keyOf Try.prog 30 v = some l → (G v = none ∧ Maps.has D l = false ∧ ∀ z, D.atKey l z = z) ∨ ∃ u, G v = some u ∧ Maps.has D l = true ∧ ∀ z, D.atKey l z = .held u)
    (J Jx : List Nat → World → Prop) (W : World) (hJ : AbidesFrom W.heap.size J)
    (hY : ∀ pre x W1, J pre W1 → pre.length < Maps.size D → YieldAt F (n - 1) Try.prog l #[eU x] W1 fun e W' =>
      (e = .returned (.bool true) ∧ J (pre ++ [x]) W' ∧ KeepsWalks W1 W') ∨ (e = .returned (.bool false) ∧ Jx (pre ++ [x]) W'))
    (hBm : W.cell? ⟨Bm, 0, none⟩ = some (.map (some b))) (hown : W.ownsMap Try.prog 30 vElem b nn D) (h0 : J [] W) :
    CallsIn F n Try.prog 66 #[.func (.yield l) #[] #[], .pointer (some ⟨Bm, 0, none⟩)] W fun e W' => (∃ v, e = .returned v) ∧
      ((∃ ss, ColU D (fun _ => false) ss ∧ J ss W') ∨ (∃ pre, True ∧ Jx pre W')) := by
  refine callsIn_of_wp Try.func66 rfl hf ?_ hro
  simp only [Try.ntmps66, List.size_toArray, List.length_cons, List.length_nil, Nat.reduceAdd, Nat.reduceSub, Array.replicate_succ, Array.replicate_zero, List.push_toArray, List.append_toArray, List.nil_append, List.cons_append]
  gi_wp2_with (first
    | (gi_at_range; refine wpListIn_range_own _ rfl _ 67 rfl 30 80 kU Try.underlying67 _ b nn _ rfl hown ?_; intro w0 hrg0 hg0 hs0)
    | gi_in)
  go_frame
  gi_loopw [3] (fun _ wr => ∃ (left : Lit → Bool) (cnt : Nat) (ss : List Nat), wr.ranges Try.prog 30 vElem b W.heap.size nn D left cnt ∧ ss.length + cnt ≤ Maps.size D ∧ ColU D left ss ∧ J ss wr)
    (fun _ wr => wr.rangeLeft b W.heap.size)
  case atStart =>
    exact ⟨_, _, [], hrg0, by simp, ColU.start D, hJ [] W w0 none h0 hg0 (fun r e => by cases e)⟩
  case round =>
    obtain ⟨left, cnt, ss, hrg, hcs, hC, hJs⟩ := hrel
    gi_wp2_with (first
      | (gi_at_next; refine wpListIn_next_ranges _ rfl _ rfl 30 kU vElem eU id (fun key kl hk => by obtain ⟨x, hx, _⟩ := keyU_inv hk; exact ⟨x, hx⟩) (fun v _ _ => ⟨v, rfl⟩) b W.heap.size nn _ _ _ rfl hrg ?_ ?_)
      | gi_in)
    · intro hc0 hl0
      have e : left = fun _ => false := funext hl0
      rw [e] at hC
      gi_wp2
      go_end0
      exact ⟨⟨_, rfl⟩, .inl ⟨ss, hC, hJs⟩⟩
    · intro x c kl yd yp w2 cnt2 hkey hlk hv hat hrg2 hlt hg2 hs2 hen
      obtain ⟨x', ex, rfl, hx64⟩ := keyU_inv hkey
      obtain rfl : x = x' := by
        unfold eU at ex
        simp only [Value.int.injEq, true_and] at ex
        omega
      have hJ2 : J ss w2 := hJ ss wr w2 (some W.heap.size) hJs hg2 (fun r e => by cases e; exact ⟨Nat.le_refl _, hrg.iter_walk⟩)
      have hh := has_of_at (hG _ _ hkey) hat
      obtain ⟨fn, tmps, assign, body, hy, hR⟩ := hY ss x w2 hJ2 (by omega)
      clear hs2
      gi_wp2
      refine hR.mono ?_
      clear hR hy
      rintro e W3 (⟨rfl, hJ3, hk3⟩ | ⟨rfl, hJx3⟩)
      · gi_wp2
        have hrg3 := hrg2.of_walks hk3
        go_roundw
        case rel => exact ⟨_, cnt2, ss ++ [x], hrg3, by simp; omega, hC.step hx64 hlk hh, hJ3⟩
        case measure => rw [hrg3.left_eq, hrg.left_eq]; exact hlt
      · gi_wp2
        refine bodyPost_ret (results_none rfl _ _ _) rfl ?_
        exact ⟨⟨_, rfl⟩, .inr ⟨_, trivial, hJx3⟩⟩
set_option maxHeartbeats 1000000 in
theorem keys_u (F : Fence) (n : Nat) (hf : F.fn 41) (hro : F.round = none) (mb : Option Nat) (w : World) :
    CallsIn F n Try.prog 41 #[.map mb] w fun e w' => e = .returned (.func (.func 66) #[] #[.pointer (some ⟨w.heap.size, 0, none⟩)]) ∧ w' = w.alloc (.cells #[.map mb] 67) := by
  refine callsIn_of_wp Try.func41 rfl hf ?_ hro
  simp only [Try.ntmps41, List.size_toArray, List.length_cons, List.length_nil, Nat.reduceAdd, Nat.reduceSub, Array.replicate_succ, Array.replicate_zero, List.push_toArray, List.append_toArray, List.nil_append, List.cons_append]
  gi_wp2
  go_ret
  exact ⟨rfl, rfl⟩
theorem keys_stopsU (F : Fence) (n : Nat) (hf : F.fn 66) (hro : F.round = none) (hn : 1 ≤ n) (Bm b nn : Nat) (D : DataW Value) (G : Value → Option Value)
    (hG : ∀ v l, keyOf Try.prog 30 v = some l → (G v = none ∧ Maps.has D l = false ∧ ∀ z, D.atKey l z = z) ∨ ∃ u, G v = some u ∧ Maps.has D l = true ∧ ∀ z, D.atKey l z = .held u)
    (w : World) (hBm : w.cell? ⟨Bm, 0, none⟩ = some (.map (some b))) (hown : w.ownsMap Try.prog 30 vElem b nn D) :
    SeqStopsK F n Try.prog 66 #[.pointer (some ⟨Bm, 0, none⟩)] (fun x : Nat => #[eU x]) KeepsWalks (ColU D fun _ => false) (fun _ => True) (Maps.size D) w := fun l J Jx W hW aJ _ hY h0 => by
  have hown' : W.ownsMap Try.prog 30 vElem b nn D := by
    have hbl := hown.lt
    obtain ⟨es, clock, hb, Ft, hs, hD⟩ := hown
    exact ⟨es, clock, (hW.block b hbl).trans hb, Ft, hs, hD⟩
  exact keys1_u F n hf hro hn l Bm b nn D G hG J Jx W aJ hY ((hW.cell (p := ⟨Bm, 0, none⟩) (World.block_lt_of_cell? w _ hBm)).trans hBm) hown' h0
open Go.RowKit Go.Shelf
attribute [local go_sem] Oper.semAt_some
set_option maxRecDepth 100000 in
set_option maxHeartbeats 4000000 in
theorem values1_s (F : Fence) (n : Nat) (hf : F.fn 79) (hro : F.round = none) (hn : 1 ≤ n) (l Bn n₀ : Nat) (ao : Option Addr) (m cap : Nat) (xs : List SA) (J Jx : List SA → World → Prop) (W : World) (aJ : AbidesFrom W.heap.size J)
    (hY : ∀ pre x W1, x ∈ xs → J pre W1 → pre.length < xs.length → YieldAt F (n - 1) Try.prog l #[SA.val x] W1 fun e W' =>
      (e = .returned (.bool true) ∧ J (pre ++ [x]) W' ∧ Below n₀ W1 W') ∨ (e = .returned (.bool false) ∧ Jx (pre ++ [x]) W'))
    (hBn : W.cell? ⟨Bn, 0, none⟩ = some (.slice ao m cap)) (hL : GL elS W ao m cap xs) (hlow : ∀ z, sblk ao m z → z < n₀) (hW : n₀ ≤ W.heap.size) (h0 : J [] W) :
    CallsIn F n Try.prog 79 #[.func (.yield l) #[] #[], .pointer (some ⟨Bn, 0, none⟩)] W fun e W' => (∃ v, e = .returned v) ∧
      ((∃ ys, ys = xs ∧ J ys W') ∨ (∃ pre, True ∧ Jx pre W')) := by
  have hmx := hL.mx
  have hle := hL.le
  have hln := hL.len
  unfold maxLen at hmx
  refine callsIn_of_wp Try.func79 rfl hf ?_ hro
  simp only [Try.ntmps79, List.size_toArray, List.length_cons, List.length_nil, Nat.reduceAdd, Nat.reduceSub, Array.replicate_succ, Array.replicate_zero, List.push_toArray, List.append_toArray, List.nil_append, List.cons_append]
  gi_wp2
  gi_loopw [7] (fun i wr => ∃ k : Nat, k ≤ m ∧ i = .int .i64 k ∧ Below n₀ W wr ∧ J (xs.take k) wr) (fun i _ => m - (intOf i).toNat)
  case atStart => exact ⟨0, by omega, rfl, Below.refl _ _, h0⟩
  case round =>
    obtain ⟨k, hk, rfl, hB, hJ⟩ := hrel
    by_cases hlt : k < m
    · have hki : (k : Int) < (m : Int) := by omega
      have hkx : k < xs.length := by omega
      obtain ⟨b, off, rfl, hX⟩ := hL.atS (by omega)
      have hbn : b < n₀ := hlow b ⟨_, rfl, by omega, rfl⟩
      obtain ⟨x, hx⟩ : ∃ x, x = xs[k] := ⟨_, rfl⟩
      have HS : Hid (xs.take (k + 1) = xs.take k ++ [x]) := by show _ = _; rw [List.take_succ_eq_append_getElem hkx, hx]
      have hxm : x ∈ xs := by rw [hx]; exact List.getElem_mem hkx
      have hXk := hX k hkx
      rw [← hx] at hXk
      have c0 : wr.cell? ⟨b, off + k * 3, none⟩ = some (.int .u64 x.fr) := (hB.cell (p := ⟨b, off + k * 3, none⟩) hbn).trans hXk.c0
      have c1 : wr.cell? ⟨b, off + k * 3 + 1, none⟩ = some (.slice x.b.ao x.b.n x.b.cap) := (hB.cell (p := ⟨b, off + k * 3 + 1, none⟩) hbn).trans hXk.c1
      have c2 : wr.cell? ⟨b, off + k * 3 + 2, none⟩ = some (.slice x.tag.ao x.tag.n x.tag.cap) := (hB.cell (p := ⟨b, off + k * 3 + 2, none⟩) hbn).trans hXk.c2
      have hpl : (xs.take k).length < xs.length := by rw [List.length_take]; omega
      have CA : Below wr.heap.size wr (wr.alloc (.cells #[.int .u64 x.fr, .slice x.b.ao x.b.n x.b.cap, .slice x.tag.ao x.tag.n x.tag.cap] 62)) := (Below.refl _ _).alloc (Nat.le_refl _) _
      have hB2 : Below n₀ W (wr.alloc (.cells #[.int .u64 x.fr, .slice x.b.ao x.b.n x.b.cap, .slice x.tag.ao x.tag.n x.tag.cap] 62)) := hB.trans (CA.mono (Nat.le_trans hW hB.size))
      obtain ⟨fn, tmps, assign, body, hy, hR⟩ := hY (xs.take k) x _ hxm (aJ _ wr _ none hJ (bel_grown CA none) (fun r e => by cases e)) hpl
      unfold SA.val at hy
      clear hX hXk hx hY hJ CA hB
      gi_wp2
      refine hR.mono ?_
      clear hR hy
      rintro e W3 (⟨rfl, hJ3, hk3⟩ | ⟨rfl, hJx3⟩)
      · gi_wp2
        go_roundw
        case rel => exact ⟨k + 1, by omega, by go_num, hB2.trans hk3, by rw [HS.out]; exact hJ3⟩
        case measure => simp [intOf]; omega
      · gi_wp2
        refine bodyPost_ret (results_none rfl _ _ _) rfl ?_
        exact ⟨⟨_, rfl⟩, .inr ⟨_, trivial, hJx3⟩⟩
    · have hge : (m : Int) ≤ (k : Int) := by omega
      have e : xs.take k = xs := List.take_of_length_le (by omega)
      rw [e] at hJ
      clear e
      gi_wp2
      go_end0
      exact ⟨⟨_, rfl⟩, .inl ⟨_, rfl, hJ⟩⟩
set_option maxHeartbeats 1000000 in
theorem values_s (F : Fence) (n : Nat) (hf : F.fn 67) (hro : F.round = none) (ao : Option Addr) (m cap : Nat) (w : World) :
    CallsIn F n Try.prog 67 #[.slice ao m cap] w fun e w' => e = .returned (.func (.func 79) #[] #[.pointer (some ⟨w.heap.size, 0, none⟩)]) ∧ w' = w.alloc (.cells #[.slice ao m cap] 47) := by
  refine callsIn_of_wp Try.func67 rfl hf ?_ hro
  simp only [Try.ntmps67, List.size_toArray, List.length_cons, List.length_nil, Nat.reduceAdd, Nat.reduceSub, Array.replicate_succ, Array.replicate_zero, List.push_toArray, List.append_toArray, List.nil_append, List.cons_append]
  gi_wp2
  go_ret
  exact ⟨rfl, rfl⟩
theorem values_stopsS (P : SA → Prop) (F : Fence) (n : Nat) (hf : F.fn 79) (hro : F.round = none) (hn : 1 ≤ n) (Bn n₀ : Nat) (ao : Option Addr) (m cap : Nat) (xs : List SA) (hP : ∀ x ∈ xs, P x) (w : World)
    (hBn : w.cell? ⟨Bn, 0, none⟩ = some (.slice ao m cap)) (hL : GL elS w ao m cap xs) (hlow : ∀ z, sblk ao m z → z < n₀) (hw : n₀ ≤ w.heap.size) :
    SeqStopsK F n Try.prog 79 #[.pointer (some ⟨Bn, 0, none⟩)] (fun x : { s : SA // P s } => #[SA.val x.val]) (Below n₀) (fun ys => ys.map Subtype.val = xs) (fun _ => True) xs.length w := fun l J Jx W hW aJ _ hY h0 => by
  refine (values1_s F n hf hro hn l Bn n₀ ao m cap xs (fun pre W => ∃ q : List { s : SA // P s }, q.map Subtype.val = pre ∧ J q W) (fun pre W => ∃ q : List { s : SA // P s }, q.map Subtype.val = pre ∧ Jx q W) W ?_ ?_ ((hW.cell (p := ⟨Bn, 0, none⟩) (World.block_lt_of_cell? w _ hBn)).trans hBn) (hL.below elS_fine hW) hlow (Nat.le_trans hw hW.size) ⟨[], rfl, h0⟩).mono ?_
  · rintro pre V V' row ⟨q, e, h⟩ hg hr
    exact ⟨q, e, aJ q V V' row h hg hr⟩
  · rintro pre x W1 hx ⟨q, e, h⟩ hl
    obtain ⟨fn, tmps, assign, body, hy, hR⟩ := hY q ⟨x, hP x hx⟩ W1 h (by rw [← e, List.length_map] at hl; exact hl)
    refine ⟨fn, tmps, assign, body, hy, hR.mono ?_⟩
    rintro e' W' (⟨h1, h2, h3⟩ | ⟨h1, h2⟩)
    · exact .inl ⟨h1, ⟨_, by rw [List.map_append, e]; rfl, h2⟩, h3⟩
    · exact .inr ⟨h1, _, by rw [List.map_append, e]; rfl, h2⟩
  · rintro e W' ⟨h1, ⟨ys, h2, q, h3, h4⟩ | ⟨pre, _, q, _, h4⟩⟩
    · exact ⟨h1, .inl ⟨q, h3.trans h2, h4⟩⟩
    · exact ⟨h1, .inr ⟨q, trivial, h4⟩⟩
end Go.Proofs.Ytbpbcmbcoffdlaa
namespace Go
section
variable {P : Program} {ops : Array Oper} {Q : Exit → Act → World → Prop}
theorem opIn_of {l n : Nat} {o : Oper} {a : Act} {w : World} {K K' : Act → World → Prop} (hd : ∀ c, o.op ≠ .defer c) (hk : ∀ a w, K a w → K' a w) (h : o.wp P a w K Q) : o.wpIn (Fence.wide.inRound l) n P a w K' Q := by
  unfold Oper.wpIn
  refine ⟨fun _ _ => trivial, ?_⟩
  rw [Oper.semAt_eq _ _ _ hd]
  unfold Oper.wp at h
  generalize (execOp a.eval o).run P w = r at h ⊢
  cases r with
  | ok x w' =>
    cases x with
    | value v => exact hk _ _ h
    | skip => exact hk _ _ h
    | defer d => exact hk _ _ h
    | enter f args =>
      refine ⟨fun e => by simp [Fence.wide] at e, (CallsIn.inRound l (callsIn_wide.2 h)).mono ?_⟩
      intro e w'' he
      cases e with
      | returned v => exact hk _ _ he
      | panicked c => exact he
      | outgrown => exact he
    | row r args =>
      refine ⟨fun e => by simp [Fence.wide] at e, fun c cs _ => ?_⟩
      obtain ⟨v, w2, h1, h2⟩ := h c cs
      exact ⟨v, w2, hk _ _ h1, stepsIn_wide.2 h2⟩
    | _ => exact h.elim
  | halt x w' =>
    cases x with
    | panic v => exact h
    | _ => exact h.elim
theorem anyIn_of {md : Region.Mode} {l n : Nat} (hd : ∀ (i : Nat) (o : Oper), ops[i]? = some o → ∀ c, o.op ≠ .defer c) (hL : ∀ a w, ¬ Q .outgrown a w) : ∀ (fuel : Nat) (listed : Array Bool) (a : Act) (w : World), wpAny P md ops (NoPanic Q) fuel listed a w → wpAnyIn (Fence.wide.inRound l) n P md ops (NoPanic Q) fuel listed a w
  | 0, _, _, _, h => h
  | fuel + 1, listed, a, w, h => by
    refine ⟨h.1, fun i hi => ?_⟩
    have hi' := h.2 i hi
    unfold wpOp at hi'
    unfold wpOpIn
    cases ho : ops[i]? with
    | none =>
      rw [ho] at hi'
      exact anyIn_of hd hL fuel _ a w hi'
    | some o =>
      rw [ho] at hi'
      simp only at hi' ⊢
      by_cases hw : Region.wanted o (yielded ops a.tmps) = true
      · rw [if_pos hw] at hi' ⊢
        rcases hi' with hi' | ⟨_, hO⟩
        · exact opIn_of (hd i o ho) (fun a w h => anyIn_of hd hL fuel _ a w h) hi'
        · obtain ⟨a', w', hq⟩ := hO
          exact (hL a' w' hq).elim
      · rw [if_neg hw] at hi' ⊢
        exact ⟨fun _ _ => trivial, anyIn_of hd hL fuel _ _ w hi'⟩
def noDefer (ops : Array Oper) : Bool := ops.toList.all fun o => match o.op with
  | .defer _ => false
  | _ => true
theorem noDefer_at (h : noDefer ops = true) : ∀ (i : Nat) (o : Oper), ops[i]? = some o → ∀ c, o.op ≠ .defer c := fun i o ho c hc => by
  have hm : o ∈ ops.toList := by
    rw [Array.mem_toList_iff]
    exact Array.mem_of_getElem? ho
  have := List.all_eq_true.1 h o hm
  rw [hc] at this
  simp at this
theorem wpIn_round_held {S : World → Prop} {l n id : Nat} {a : Act} {w : World} (hm : P.follows .mixedOrders = true) (hd : noDefer ops = true) (hL : ∀ a w, ¬ Q .outgrown a w) (hS : S w.drew)
    (h : S w.drew → wpAnyH P .any ops (NoPanic Q) S ops.size (Array.replicate ops.size false) a w.drew) : (Code.region id ops true).wpIn (Fence.wide.inRound l) n P Q a w :=
  wpIn_mono (wpIn_region_any hm (anyIn_of (noDefer_at hd) hL _ _ _ _ (wpAny_of_held _ _ _ _ (h hS)))) NoPanic.imp
end
end Go
namespace Go
open Go.RowKit
def EffRun (P : Program) (o : Oper) (a : Act) (w : World) (R : Value → World → Prop) : Prop :=
  (∃ v w', (execOp a.eval o).run P w = .ok (.value v) w' ∧ R v w') ∨
  (∃ f args, (execOp a.eval o).run P w = .ok (.enter f args) w ∧ Calls P f args w fun e w' => ∃ v, e = .returned v ∧ R v w')
end Go
namespace Go
open Go.RowKit
def setL (L : Array Bool) (is : List Nat) : Array Bool := is.foldl (fun L i => L.setIfInBounds i true) L
theorem setL_size (is : List Nat) : ∀ L : Array Bool, (setL L is).size = L.size := by
  induction is with
  | nil => intro L; rfl
  | cons i is ih => intro L; exact (ih _).trans (by simp)
theorem setL_get (is : List Nat) : ∀ (L : Array Bool) (j : Nat), j < L.size → (setL L is).getD j true = (L.getD j true || is.contains j) := by
  induction is with
  | nil => intro L j _; simp [setL]
  | cons i is ih =>
    intro L j hj
    have h := ih (L.setIfInBounds i true) j (by simpa using hj)
    show (setL (L.setIfInBounds i true) is).getD j true = _
    rw [h]
    by_cases hij : i = j
    · subst hij
      have : (L.setIfInBounds i true).getD i true = true := by simp [hj]
      rw [this]
      simp
    · rw [getD_set_ne true hij]
      have : (i :: is).contains j = is.contains j := by
        rw [List.contains_cons, show (j == i) = false by simpa using fun e => hij e.symm, Bool.false_or]
      rw [this]
theorem arr_ext {A B : Array Bool} (hs : A.size = B.size) (h : ∀ j, j < A.size → A.getD j true = B.getD j true) : A = B := by
  refine Array.ext hs fun j h1 h2 => ?_
  have := h j h1
  simpa [h1, h2] using this
def depOk (ops : Array Oper) (L : Array Bool) (i : Nat) : Bool := ((ops[i]?).map (·.after.all fun e => !Region.binds .any e || L.getD e.on false)).getD false
theorem depOk_of {ops : Array Oper} {L : Array Bool} {i : Nat} {o : Oper} (ho : ops[i]? = some o) (h : ∀ e ∈ o.after, Region.binds .any e = true → L.getD e.on false = true) : depOk ops L i = true := by
  simp only [depOk, ho, Option.map_some, Option.getD_some]
  refine Array.all_eq_true_iff_forall_mem.2 fun e he => ?_
  by_cases hb : Region.binds .any e = true
  · rw [h e he hb, Bool.or_true]
  · simp [hb]
theorem getD_set_on {L : Array Bool} {i j : Nat} (h : L.getD j false = true) : (L.setIfInBounds i true).getD j false = true := by
  by_cases hij : i = j
  · subst hij
    by_cases hlt : i < L.size
    · simp [hlt]
    · simp [hlt] at h
  · simp only [Array.getD_eq_getD_getElem?] at h ⊢
    rw [Array.getElem?_setIfInBounds_ne hij]
    exact h
theorem depOk_set {ops : Array Oper} {L : Array Bool} {i j : Nat} (h : depOk ops L i = true) : depOk ops (L.setIfInBounds j true) i = true := by
  cases ho : ops[i]? with
  | none => simp [depOk, ho] at h
  | some o =>
    refine depOk_of ho fun e he hb => ?_
    simp only [depOk, ho, Option.map_some, Option.getD_some] at h
    have := Array.all_eq_true_iff_forall_mem.1 h e he
    rw [hb, Bool.not_true, Bool.false_or] at this
    exact getD_set_on this
def effChk (ops : Array Oper) (all : List Nat) : List Nat → Array Bool → Bool → Bool
  | [], L, sk => !sk || !(all.all fun i => !L.getD i true || depOk ops L i) || (!(Region.ready .any ops L).isEmpty && (Region.ready .any ops L).all fun j => all.contains j)
  | i :: is, L, sk => effChk ops all is (L.setIfInBounds i true) sk && effChk ops all is L true
theorem effChk_spec {ops : Array Oper} {all : List Nat} (c : Nat → Bool) : ∀ (is : List Nat) (L : Array Bool) (sk : Bool), effChk ops all is L sk = true → (sk = true ∨ ∃ i ∈ is, c i = false) → (∀ i ∈ all, (setL L (is.filter c)).getD i true = true → depOk ops (setL L (is.filter c)) i = true) →
    Region.ready .any ops (setL L (is.filter c)) ≠ [] ∧ ∀ j ∈ Region.ready .any ops (setL L (is.filter c)), j ∈ all
  | [], L, sk, h, hs, hcl => by
    rcases hs with rfl | ⟨i, hi, _⟩
    · have hcl' : (all.all fun i => !L.getD i true || depOk ops L i) = true := List.all_eq_true.2 fun i hi => by
        by_cases hL : L.getD i true = true
        · have := hcl i hi hL
          have h2 : depOk ops L i = true := this
          rw [h2, Bool.or_true]
        · have h2 : L.getD i true = false := by simpa using hL
          rw [h2]
          rfl
      simp only [effChk, hcl', Bool.not_true, Bool.false_or, Bool.and_eq_true] at h
      refine ⟨fun e => ?_, fun j hj => ?_⟩
      · have : Region.ready .any ops L = [] := e
        rw [this] at h
        simp at h
      · have := List.all_eq_true.1 h.2 j hj
        simpa using this
    · simp at hi
  | i :: is, L, sk, h, hs, hcl => by
    simp only [effChk, Bool.and_eq_true] at h
    by_cases hc : c i = true
    · rw [List.filter_cons, if_pos hc] at hcl ⊢
      refine effChk_spec c is (L.setIfInBounds i true) sk h.1 ?_ hcl
      rcases hs with hs | ⟨j, hj, hf⟩
      · exact .inl hs
      · rcases List.mem_cons.1 hj with rfl | hj
        · rw [hc] at hf; simp at hf
        · exact .inr ⟨j, hj, hf⟩
    · rw [List.filter_cons, if_neg hc] at hcl ⊢
      exact effChk_spec c is L true h.2 (.inl rfl) hcl
def unC (c : Nat → Bool) : List Nat → Nat
  | [] => 0
  | i :: is => unC c is + (if c i then 0 else 1)
theorem unC_same {c d : Nat → Bool} : ∀ (is : List Nat), (∀ i ∈ is, c i = d i) → unC c is = unC d is
  | [], _ => rfl
  | i :: is, h => by rw [unC, unC, unC_same is (fun j hj => h j (List.mem_cons_of_mem _ hj)), h i (List.mem_cons_self ..)]
theorem unC_set {c : Nat → Bool} {i : Nat} (hc : c i = false) : ∀ (is : List Nat), is.Nodup → i ∈ is → unC c is = unC (fun j => c j || j == i) is + 1
  | [], _, h => by simp at h
  | j :: is, hn, h => by
    have hn' := List.nodup_cons.1 hn
    rw [unC, unC]
    by_cases hji : j = i
    · subst hji
      have := unC_same (c := c) (d := fun k => c k || k == j) is (fun k hk => by
        have hne : k ≠ j := fun e => hn'.1 (e ▸ hk)
        have : (k == j) = false := by simpa using hne
        simp [this])
      rw [← this, hc]
      simp
    · have hi : i ∈ is := by
        rcases List.mem_cons.1 h with h | h
        · exact absurd h.symm hji
        · exact h
      have ih := unC_set hc is hn'.2 hi
      have : (j == i) = false := by simpa using hji
      rw [ih]
      simp only [this, Bool.or_false]
      omega
theorem unC_zero {c : Nat → Bool} : ∀ (is : List Nat), unC c is = 0 → ∀ i ∈ is, c i = true
  | [], _, i, h => by simp at h
  | j :: is, h0, i, h => by
    rw [unC] at h0
    rcases List.mem_cons.1 h with rfl | h
    · by_cases hc : c i = true
      · exact hc
      · rw [if_neg hc] at h0; omega
    · exact unC_zero is (by omega) i h
theorem unC_none : ∀ (is : List Nat), unC (fun _ => false) is = is.length
  | [] => rfl
  | i :: is => by rw [unC, unC_none is]; simp
def putL (a : Act) (f : Nat → Value) (ids : List (Nat × Nat)) : Act := ids.foldl (fun a p => a.put (some p.2) (f p.1)) a
theorem putL_size (f : Nat → Value) (ids : List (Nat × Nat)) : ∀ a : Act, (putL a f ids).tmps.size = a.tmps.size := by
  induction ids with
  | nil => intro a; rfl
  | cons p ids ih => intro a; exact (ih _).trans (by simp [Act.put])
theorem putL_defers (f : Nat → Value) (ids : List (Nat × Nat)) : ∀ a : Act, (putL a f ids).defers = a.defers := by
  induction ids with
  | nil => intro a; rfl
  | cons p ids ih => intro a; exact (ih _).trans rfl
theorem putL_other (f : Nat → Value) (k : Nat) (ids : List (Nat × Nat)) : ∀ a : Act, (∀ p ∈ ids, p.2 ≠ k) → (putL a f ids).tmps[k]? = a.tmps[k]? := by
  induction ids with
  | nil => intro a _; rfl
  | cons p ids ih =>
    intro a h
    have h1 := ih (a.put (some p.2) (f p.1)) (fun q hq => h q (List.mem_cons_of_mem _ hq))
    refine h1.trans ?_
    have hne := h p (List.mem_cons_self ..)
    simp [Act.put, Array.getElem?_setIfInBounds_ne hne]
theorem putL_at (f : Nat → Value) : ∀ (ids : List (Nat × Nat)) (a : Act), (ids.map (·.2)).Nodup → ∀ p ∈ ids, p.2 < a.tmps.size → (putL a f ids).tmps[p.2]? = some (f p.1)
  | [], a, _, p, h, _ => by simp at h
  | q :: ids, a, hn, p, h, hlt => by
    have hn' := List.nodup_cons.1 hn
    rcases List.mem_cons.1 h with rfl | h
    · have h1 := putL_other f p.2 ids (a.put (some p.2) (f p.1)) (fun q hq e => hn'.1 (List.mem_map.2 ⟨q, hq, e⟩))
      refine h1.trans ?_
      simp [Act.put, hlt]
    · exact putL_at f ids (a.put (some q.2) (f q.1)) hn'.2 p h (by simpa [Act.put] using hlt)
def effTo (ops : Array Oper) (L0 : Array Bool) (ids : List (Nat × Nat)) (n : Nat) : Bool :=
  ids.all (fun p => decide (p.2 < n) && !L0.getD p.1 true && (match ops[p.1]? with | some o => o.dst == some p.2 && o.guard.isNone | none => false)) &&
  effChk ops (ids.map (·.1)) (ids.map (·.1)) L0 false && decide (L0.size = ops.size)
def EffGot (ids : List (Nat × Nat)) (F : Nat → Value → World → Prop) (a : Act) (w : World) (j : Nat) : Prop := ∀ p ∈ ids, p.1 = j → ∃ v, a.tmps[p.2]? = some v ∧ F j v w
structure EffKeep (ids : List (Nat × Nat)) (a0 a : Act) : Prop where
  defers : a.defers = a0.defers
  size : a.tmps.size = a0.tmps.size
  same : ∀ k, (∀ p ∈ ids, p.2 ≠ k) → a.tmps[k]? = a0.tmps[k]?
theorem EffKeep.get {ids : List (Nat × Nat)} {a0 a : Act} (h : EffKeep ids a0 a) (k : Nat) {v : Value} (hk : ids.all (fun p => p.2 != k) = true) (h0 : a0.tmps[k]? = some v) : a.tmps[k]? = some v := by
  rw [h.same k (fun p hp => by simpa using List.all_eq_true.1 hk p hp)]
  exact h0
theorem EffGot.at {ids : List (Nat × Nat)} {F : Nat → Value → World → Prop} {a : Act} {w : World} {j : Nat} (h : EffGot ids F a w j) (d : Nat) (hd : ids.contains (j, d) = true) : ∃ v, a.tmps[d]? = some v ∧ F j v w :=
  h (j, d) (by simpa using hd) rfl
theorem wpAnyH_effto {P : Program} {ops : Array Oper} {S : World → Prop} {Q : Exit → Act → World → Prop} {a0 : Act} {W0 : World} {L0 : Array Bool} (m : Nat) (F : Nat → Value → World → Prop) (ids : List (Nat × Nat)) (n : Nat)
    (hok : effTo ops L0 ids n = true) (hn1 : (ids.map (·.1)).Nodup) (hn2 : (ids.map (·.2)).Nodup) (hn : n = a0.tmps.size)
    (mono : ∀ i v w w', F i v w → Below w.heap.size w w' → F i v w')
    (hS : ∀ w, Below W0.heap.size W0 w → S w)
    (step : ∀ p ∈ ids, ∀ o a w, ops[p.1]? = some o → EffKeep ids a0 a → Below W0.heap.size W0 w → (∀ j, o.after.any (fun e => Region.binds .any e && e.on == j) = true → EffGot ids F a w j) → EffRun P o a w (fun v w' => F p.1 v w' ∧ Below w.heap.size w w'))
    (fin : ∀ (f : Nat → Value) w, Below W0.heap.size W0 w → (∀ p ∈ ids, F p.1 (f p.1) w) → wpAnyH P .any ops (NoPanic Q) S m (setL L0 (ids.map (·.1))) (putL a0 f ids) w) :
    wpAnyH P .any ops (NoPanic Q) S (ids.length + m) L0 a0 W0 := by
  simp only [effTo, Bool.and_eq_true, decide_eq_true_eq] at hok
  obtain ⟨⟨hok1, hok2⟩, hLs⟩ := hok
  have hat : ∀ p ∈ ids, p.2 < a0.tmps.size ∧ L0.getD p.1 true = false ∧ ∃ o, ops[p.1]? = some o ∧ o.dst = some p.2 ∧ o.guard = none := fun p hp => by
    have h := List.all_eq_true.1 hok1 p hp
    simp only [Bool.and_eq_true, decide_eq_true_eq, Bool.not_eq_true'] at h
    obtain ⟨⟨h1, h2⟩, h3⟩ := h
    refine ⟨hn ▸ h1, h2, ?_⟩
    cases ho : ops[p.1]? with
    | none => rw [ho] at h3; simp at h3
    | some o =>
      rw [ho] at h3
      simp only [Bool.and_eq_true, beq_iff_eq] at h3
      exact ⟨o, rfl, h3.1, Option.isNone_iff_eq_none.1 h3.2⟩
  have main : ∀ (k : Nat) (c : Nat → Bool) (a : Act) (w : World), unC c (ids.map (·.1)) = k → EffKeep ids a0 a → Below W0.heap.size W0 w → (∀ p ∈ ids, c p.1 = true → ∃ v, a.tmps[p.2]? = some v ∧ F p.1 v w) →
      (∀ i ∈ ids.map (·.1), (setL L0 ((ids.map (·.1)).filter c)).getD i true = true → depOk ops (setL L0 ((ids.map (·.1)).filter c)) i = true) →
      wpAnyH P .any ops (NoPanic Q) S (k + m) (setL L0 ((ids.map (·.1)).filter c)) a w := by
    intro k
    induction k with
    | zero =>
      intro c a w hu hs hb hh _
      have hz := unC_zero _ hu
      have hall : ∀ p ∈ ids, ∃ v, a.tmps[p.2]? = some v ∧ F p.1 v w := fun p hp => hh p hp (hz p.1 (List.mem_map_of_mem hp))
      have hLeq : setL L0 ((ids.map (·.1)).filter c) = setL L0 (ids.map (·.1)) := by rw [List.filter_eq_self.2 hz]
      obtain ⟨f, hf⟩ : ∃ f : Nat → Value, ∀ p ∈ ids, a.tmps[p.2]? = some (f p.1) ∧ F p.1 (f p.1) w := by
        have hch : ∀ j, ∃ v, ∀ p ∈ ids, p.1 = j → a.tmps[p.2]? = some v ∧ F p.1 v w := fun j => by
          by_cases hj : ∃ p ∈ ids, p.1 = j
          · obtain ⟨p, hp, rfl⟩ := hj
            obtain ⟨v, h1, h2⟩ := hall p hp
            refine ⟨v, fun q hq e => ?_⟩
            obtain ⟨-, -, o, ho, hd, -⟩ := hat p hp
            obtain ⟨-, -, o', ho', hd', -⟩ := hat q hq
            rw [e, ho] at ho'
            obtain rfl := Option.some.inj ho'
            have : p.2 = q.2 := Option.some.inj (hd.symm.trans hd')
            rw [← this, e]
            exact ⟨h1, h2⟩
          · exact ⟨undef, fun q hq e => absurd ⟨q, hq, e⟩ hj⟩
        exact ⟨fun j => Classical.choose (hch j), fun p hp => Classical.choose_spec (hch p.1) p hp rfl⟩
      have ha : a = putL a0 f ids := by
        have ht : a.tmps = (putL a0 f ids).tmps := by
          refine Array.ext (by rw [putL_size]; exact hs.size) fun j h1 h2 => ?_
          have : a.tmps[j]? = (putL a0 f ids).tmps[j]? := by
            by_cases hj : ∃ p ∈ ids, p.2 = j
            · obtain ⟨p, hp, rfl⟩ := hj
              rw [(hf p hp).1, putL_at f ids a0 hn2 p hp (hat p hp).1]
            · have hj' : ∀ p ∈ ids, p.2 ≠ j := fun p hp e => hj ⟨p, hp, e⟩
              rw [hs.same j hj', putL_other f j ids a0 hj']
          simpa [h1, h2] using this
        have hd : a.defers = (putL a0 f ids).defers := by rw [putL_defers]; exact hs.defers
        cases a
        cases hp : putL a0 f ids
        rw [hp] at ht hd
        simp only at ht hd
        rw [ht, hd]
      rw [hLeq, ha, Nat.zero_add]
      exact fin f w hb (fun p hp => (hf p hp).2)
    | succ k ih =>
      intro c a w hu hs hb hh hcl
      have hex : ∃ i ∈ ids.map (·.1), c i = false := by
        by_cases h : ∃ i ∈ ids.map (·.1), c i = false
        · exact h
        · exfalso
          have hz : ∀ i ∈ ids.map (·.1), c i = true := fun i hi => by
            by_cases hc : c i = true
            · exact hc
            · exact absurd ⟨i, hi, by simpa using hc⟩ h
          have : unC c (ids.map (·.1)) = unC (fun _ => true) (ids.map (·.1)) := unC_same _ (fun i hi => hz i hi)
          have h0 : ∀ l : List Nat, unC (fun _ => true) l = 0 := fun l => by
            induction l with
            | nil => rfl
            | cons x l ih => rw [unC, ih]; rfl
          rw [hu, h0] at this
          omega
      obtain ⟨hne, hsub⟩ := effChk_spec (ops := ops) (all := ids.map (·.1)) c (ids.map (·.1)) L0 false hok2 (.inr hex) hcl
      have hsz : (setL L0 ((ids.map (·.1)).filter c)).size = ops.size := by rw [setL_size]; exact hLs
      rw [show k + 1 + m = (k + m) + 1 by omega]
      refine ⟨fun h => absurd h hne, fun i hi => ?_⟩
      obtain ⟨p, hp, rfl⟩ := List.mem_map.1 (hsub i hi)
      obtain ⟨h1, o, ho, hdep⟩ := mem_ready.1 hi
      obtain ⟨hdl, hL0, o', ho', hdo, hg⟩ := hat p hp
      rw [ho] at ho'
      obtain rfl := Option.some.inj ho'
      have hlt := (Array.getElem?_eq_some_iff.1 ho).1
      have hci : c p.1 = false := by
        by_cases hc : c p.1 = true
        · exfalso
          rw [setL_get _ _ _ (by omega)] at h1
          have : ((ids.map (·.1)).filter c).contains p.1 = true := by
            simpa using ⟨⟨p.2, hp⟩, hc⟩
          rw [this] at h1
          simp at h1
        · simpa using hc
      have hw : Region.wanted o (yielded ops a.tmps) = true := by simp [Region.wanted, hg]
      have hrun := step p hp o a w ho hs hb (fun j hj q hq hqj => by
        obtain ⟨e, hem, hbj⟩ := Array.any_eq_true'.1 hj
        simp only [Bool.and_eq_true, beq_iff_eq] at hbj
        obtain ⟨hbi, rfl⟩ := hbj
        have h2 := hdep e hem hbi
        obtain ⟨-, hq0, oq, hoq, -⟩ := hat q hq
        have hqlt := (Array.getElem?_eq_some_iff.1 hoq).1
        have h4 : (setL L0 ((ids.map (·.1)).filter c)).getD q.1 true = true := by
          rw [hqj]
          have : e.on < (setL L0 ((ids.map (·.1)).filter c)).size := by rw [hsz, ← hqj]; exact hqlt
          simpa [this] using h2
        rw [setL_get _ _ _ (by omega), hq0, Bool.false_or] at h4
        have h5 : c q.1 = true := by
          have h6 : q.1 ∈ (ids.map (·.1)).filter c := by simpa using h4
          exact (List.mem_filter.1 h6).2
        have := hh q hq h5
        rw [hqj] at this
        exact this)
      have next : ∀ v w', F p.1 v w' ∧ Below w.heap.size w w' → S w' ∧ wpAnyH P .any ops (NoPanic Q) S (k + m) ((setL L0 ((ids.map (·.1)).filter c)).setIfInBounds p.1 true) (a.put (some p.2) v) w' := by
        rintro v w' ⟨hF, hb'⟩
        have hbw := hb.trans (hb'.mono hb.size)
        have htm : (a.put (some p.2) v).tmps = a.tmps.setIfInBounds p.2 v := rfl
        refine ⟨hS w' hbw, ?_⟩
        have hLq : (setL L0 ((ids.map (·.1)).filter c)).setIfInBounds p.1 true = setL L0 ((ids.map (·.1)).filter fun j => c j || j == p.1) := by
          refine arr_ext (by simp [setL_size]) fun j hj => ?_
          have hj' : j < L0.size := by simpa [setL_size] using hj
          rw [setL_get _ _ _ hj']
          by_cases hji : p.1 = j
          · subst hji
            have h7 : ((setL L0 ((ids.map (·.1)).filter c)).setIfInBounds p.1 true).getD p.1 true = true := by
              have : p.1 < (setL L0 ((ids.map (·.1)).filter c)).size := by rw [setL_size]; exact hj'
              simp [this]
            have h8 : ((ids.map (·.1)).filter fun j => c j || j == p.1).contains p.1 = true := by
              rw [List.contains_iff_mem]
              exact List.mem_filter.2 ⟨List.mem_map_of_mem hp, by simp⟩
            rw [h7, h8]
            simp
          · rw [getD_set_ne true hji, setL_get _ _ _ hj']
            congr 1
            have hbe : (j == p.1) = false := by simpa using fun e => hji e.symm
            rw [Bool.eq_iff_iff, List.contains_iff_mem, List.contains_iff_mem, List.mem_filter, List.mem_filter, hbe, Bool.or_false]
        rw [hLq]
        refine ih _ _ _ ?_ ⟨hs.defers, by rw [htm, Array.size_setIfInBounds]; exact hs.size, fun q hq => ?_⟩ hbw (fun q hq hcq => ?_) ?_
        · have := unC_set hci (ids.map (·.1)) hn1 (List.mem_map_of_mem hp)
          omega
        · rw [htm, Array.getElem?_setIfInBounds_ne (hq p hp)]
          exact hs.same q hq
        · by_cases hqp : q.1 = p.1
          · have h9 : q.2 = p.2 := by
              obtain ⟨-, -, oq, hoq, hdq, -⟩ := hat q hq
              rw [hqp, ho] at hoq
              obtain rfl := Option.some.inj hoq
              exact Option.some.inj (hdq.symm.trans hdo)
            rw [hqp, h9]
            refine ⟨v, ?_, hF⟩
            rw [htm, Array.getElem?_setIfInBounds_self_of_lt (by rw [hs.size]; exact hdl)]
          · have hbe : (q.1 == p.1) = false := by simpa using hqp
            have hcq' : c q.1 = true := by simpa [hbe] using hcq
            obtain ⟨v', h1', h2'⟩ := hh q hq hcq'
            refine ⟨v', ?_, mono _ _ _ _ h2' hb'⟩
            have hne : p.2 ≠ q.2 := fun e => hqp (by
              have hinj : ∀ (l : List (Nat × Nat)), (l.map (·.2)).Nodup → ∀ x ∈ l, ∀ y ∈ l, x.2 = y.2 → x = y := by
                intro l
                induction l with
                | nil => intro _ x hx; simp at hx
                | cons z l ihl =>
                  intro hnd x hx y hy exy
                  have hnd' := List.nodup_cons.1 hnd
                  rcases List.mem_cons.1 hx with rfl | hxl
                  · rcases List.mem_cons.1 hy with rfl | hyl
                    · rfl
                    · exact absurd (List.mem_map.2 ⟨y, hyl, exy.symm⟩) hnd'.1
                  · rcases List.mem_cons.1 hy with rfl | hyl
                    · exact absurd (List.mem_map.2 ⟨x, hxl, exy⟩) hnd'.1
                    · exact ihl hnd'.2 x hxl y hyl exy
              rw [hinj ids hn2 q hq p hp e.symm])
            rw [htm, Array.getElem?_setIfInBounds_ne hne]
            exact h1'
        · rw [← hLq]
          intro i hi hiL
          by_cases hip : p.1 = i
          · subst hip
            exact depOk_set (depOk_of ho hdep)
          · rw [getD_set_ne true hip] at hiL
            exact depOk_set (hcl i hi hiL)
      rcases hrun with ⟨v, w', hr, hR⟩ | ⟨f, args, hr, hc⟩
      · unfold wpOp
        simp only [ho, hw, if_true, Oper.wp, hr, Oper.upon, hdo]
        exact .inl (next v w' hR)
      · unfold wpOp
        simp only [ho, hw, if_true, Oper.wp, hr, Oper.upon, hdo]
        refine .inl (hc.mono ?_)
        rintro e w' ⟨v, rfl, hR⟩
        exact next v w' hR
  have h := main (ids.length) (fun _ => false) a0 W0 (by rw [unC_none]; simp) ⟨rfl, rfl, fun _ _ => rfl⟩ (Below.refl _ _) (fun p hp h => by simp at h) (fun i hi hL => by
    exfalso
    obtain ⟨p, hp, rfl⟩ := List.mem_map.1 hi
    rw [List.filter_eq_nil_iff.2 (by simp)] at hL
    have := (hat p hp).2.1
    have h2 : L0.getD p.1 true = true := hL
    rw [this] at h2
    simp at h2)
  have he : setL L0 ((ids.map (·.1)).filter fun _ => false) = L0 := by
    rw [List.filter_eq_nil_iff.2 (by simp)]
    rfl
  rw [he] at h
  exact h
end Go
namespace Go.Proofs.Ytbpbcmbcoffdlaa
open Go.RowKit Go.Shelf
attribute [local go_sem] Oper.semAt_some
theorem cells_of_cell {w : World} {a : Addr} {v : Value} (h : w.cell? a = some v) : ∃ o, w.heap[a.block]? = some o ∧ o.isCells = true := by
  unfold World.cell? at h
  split at h
  · rename_i c t m e
    exact ⟨_, e, rfl⟩
  · cases h
theorem cells_of_sl {w : World} {b : Bs} (h : Sl w b.ao b.n b.cap b.xs) {z : Nat} (hz : b.blk z) : ∃ o, w.heap[z]? = some o ∧ o.isCells = true := by
  obtain ⟨a, ha, hn, rfl⟩ := hz
  have := cells_of_cell (h.cell a ha 0 hn)
  have e : (a.add 0).block = a.block := by unfold Addr.add; split <;> rfl
  rwa [e] at this
theorem cells_of_sa {w : World} {s : SA} (h : s.ok w) {z : Nat} (hz : s.blk z) : ∃ o, w.heap[z]? = some o ∧ o.isCells = true := hz.elim (cells_of_sl h.b) (cells_of_sl h.tag)
theorem keeps_below {W W' : World} (h : Below W.heap.size W W') : KeepsOthers W W' := ⟨h.size, fun k _ hk _ => (h.block k (Array.getElem?_eq_some_iff.1 hk).1).trans hk⟩
abbrev CSA (w : World) := { s : SA // s.ok w ∧ s.b.n ≤ 1000000 ∧ s.tag.n ≤ 1000000 }
structure ClI (w : World) (pre : List (CSA w)) (W : World) (u : Value) (ys : List SA) : Prop where
  bx : Arr W w.heap.size 47 [u]
  gi : GI elS 62 W w.heap.size u ys
  v : ys.map SA.v = pre.map fun x => x.val.v
  hi : ∀ y ∈ ys, ∀ z, y.blk z → w.heap.size < z
  bel : Below w.heap.size w W
theorem ClI.below {w : World} {pre : List (CSA w)} {W V : World} {u : Value} {ys : List SA} (h : ClI w pre W u ys) (hb : Below W.heap.size W V) : ClI w pre V u ys :=
  ⟨Arr.below h.bx hb h.bx.lt, h.gi.below elS_fine hb, h.v, h.hi, h.bel.trans (hb.mono h.bel.size)⟩
theorem ClI.sz {w : World} {pre : List (CSA w)} {W : World} {u : Value} {ys : List SA} (h : ClI w pre W u ys) : w.heap.size < W.heap.size := h.bx.lt
theorem ClI.own {w : World} {B : Nat} (hB : w.heap.size ≤ B) : OwnFrom B fun (pre : List (CSA w)) W => ∃ u ys, ClI w pre W u ys := by
  rintro pre W W' row ⟨u, ys, h⟩ hg hr
  have far : ∀ z, (∃ o : Obj, W.heap[z]? = some o ∧ o.isCells = true) → W'.heap[z]? = W.heap[z]? := fun z ⟨o, ho, hc⟩ => hg.block z (Array.getElem?_eq_some_iff.1 ho).1 fun e => by
    obtain ⟨_, o2, h2, h3⟩ := hr z e.symm
    rw [ho] at h2
    obtain rfl := Option.some.inj h2
    rw [hc] at h3
    cases h3
  refine ⟨u, ys, (far _ ⟨_, h.bx, rfl⟩).trans h.bx, h.gi.kept elS_fine fun z hz => far z ?_, h.v, h.hi, h.bel.grown hg h.bel.size fun j hj => Nat.le_trans hB (hr j hj).1⟩
  rcases hz with hz | ⟨y, hy, hz⟩
  · rcases h.gi.own.2 with ⟨rfl, _⟩ | ⟨g, cap, cur, rfl, _, h2, _⟩
    · cases hz
    · obtain rfl := Option.some.inj hz
      exact ⟨_, h2, rfl⟩
  · exact cells_of_sa (h.gi.ok y hy) hz
theorem arr_own {B Q : Nat} {t : TypeId} {cs : List Value} : OwnFrom B fun (_ : Unit) W => Arr W Q t cs := fun _ W W' row h hg hr => (hg.block Q (Arr.lt h) fun e => by
    obtain ⟨_, o2, h2, h3⟩ := hr Q e.symm
    unfold Arr at h
    rw [h] at h2
    obtain rfl := Option.some.inj h2
    cases h3).trans h
set_option maxRecDepth 100000 in
set_option maxHeartbeats 4000000 in
theorem cloneAll_in (w : World) (ao : Option Addr) (m cap : Nat) (xs : List SA) (hL : GL elS w ao m cap xs) (hm : m ≤ 100) (hz : ∀ s ∈ xs, s.b.n ≤ 1000000 ∧ s.tag.n ≤ 1000000) :
    CallsIn Fence.wide 3 Try.prog 42 #[.slice ao m cap] w fun e w' => ∃ ro rc ys, e = .returned (.slice ro xs.length rc) ∧ GL elS w' ro xs.length rc ys ∧ ys.map SA.v = xs.map SA.v ∧ Below w.heap.size w w' ∧ ∀ z, GLb elS ro xs.length ys z → w.heap.size ≤ z := by
  have hlow : ∀ z, sblk ao m z → z < w.heap.size := fun z hz => hL.lt elS_fine (.inl hz)
  obtain ⟨w0, hw0⟩ : ∃ W, W = w.alloc (.cells #[.slice none 0 0] 47) := ⟨_, rfl⟩
  have B0 : Below w.heap.size w w0 := by rw [hw0]; exact (Below.refl _ _).alloc (Nat.le_refl _) _
  have A0 : Arr w0 w.heap.size 47 [.slice none 0 0] := by rw [hw0]; exact heap_alloc_new w _
  have s0 : w0.heap.size = w.heap.size + 1 := by rw [hw0]; simp
  refine callsIn_of_wp_marks Try.func42 rfl trivial ?_ rfl
  simp only [Try.ntmps42, List.size_toArray, List.length_cons, List.length_nil, Nat.reduceAdd, Nat.reduceSub, Array.replicate_succ, Array.replicate_zero, List.push_toArray, List.append_toArray, List.nil_append, List.cons_append]
  gi_wp2_with fail
  rw [← hw0]
  refine ⟨trivial, (values_s Fence.wide 2 trivial rfl ao m cap w0).mono ?_⟩
  rintro e w2 ⟨rfl, hw2⟩
  clear hw0
  have bA : Below w0.heap.size w0 w2 := by rw [hw2]; exact (Below.refl _ w0).alloc (Nat.le_refl _) _
  have s2 : w2.heap.size = w.heap.size + 2 := by rw [hw2]; simp; omega
  have cS : w2.cell? ⟨w.heap.size + 1, 0, none⟩ = some (.slice ao m cap) := by
    rw [hw2, ← s0]
    exact cell_of_row _ _ 0 _ _ _ (heap_alloc_new w0 _)
  have A2 := Arr.below A0 bA A0.lt
  have E2 : Below w.heap.size w w2 := B0.trans (bA.mono B0.size)
  have L2 := hL.below elS_fine E2
  rw [s0]
  clear hw2 A0 bA B0
  gi_wp2_with fail
  refine wpIn_rangeFunc_ownH rfl (by decide) (gf := 79) (lb := #[.pointer (some ⟨w.heap.size + 1, 0, none⟩)]) rfl trivial (enters_of Try.func79 (by kernel_rfl) rfl)
    (values_stopsS (fun s => s.ok w ∧ s.b.n ≤ 1000000 ∧ s.tag.n ≤ 1000000) Fence.wide 2 trivial rfl (by decide) (w.heap.size + 1) w.heap.size ao m cap xs (fun s hs => ⟨hL.ok s hs, hz s hs⟩) w2 cS L2 hlow E2.size) belowK_t (belowK_b (by omega)) (Below.refl _ _) (fun _ => rfl)
    (fun (pre : List (CSA w)) W => ∃ u ys, ClI w pre W u ys) (fun _ _ _ => False) (ClI.own (by omega)) (fun _ _ _ _ _ hs _ _ => hs)
    ⟨.slice none 0 0, [], A2, GI.nil _ _ _ _, rfl, fun _ h => absurd h List.not_mem_nil, E2⟩
    (fun (x : CSA w) a' W => ∃ Q, a' = { tmps := #[.slice ao m cap, undef, .slice none 0 0, .pointer (some ⟨w.heap.size, 0, none⟩), .pointer (some ⟨Q, 0, none⟩), .slice ao m cap, .func (.func 79) #[] #[.pointer (some ⟨w.heap.size + 1, 0, none⟩)], .agg #[.int .u64 x.val.fr, .slice x.val.b.ao x.val.b.n x.val.b.cap, .slice x.val.tag.ao x.val.tag.n x.val.tag.cap], undef, undef, undef, undef, undef, undef], defers := [] } ∧ Arr W Q 62 [.int .u64 x.val.fr, .slice x.val.b.ao x.val.b.n x.val.b.cap, .slice x.val.tag.ao x.val.tag.n x.val.tag.cap] ∧ w.heap.size < Q) ?hax ?assign ?body ?done ?stop
  case hax =>
    rintro x a' s W W' row ⟨Q, h1, h2, h3⟩ hg hr
    exact ⟨Q, h1, arr_own s W W' row h2 hg hr, h3⟩
  case assign =>
    rintro l pre x W K ⟨u, ys, hC⟩ hK
    have CA : Below W.heap.size W (W.alloc (.cells #[.int .u64 x.val.fr, .slice x.val.b.ao x.val.b.n x.val.b.cap, .slice x.val.tag.ao x.val.tag.n x.val.tag.cap] 62)) := (Below.refl _ _).alloc (Nat.le_refl _) _
    have HK := hK { tmps := #[.slice ao m cap, undef, .slice none 0 0, .pointer (some ⟨w.heap.size, 0, none⟩), .pointer (some ⟨W.heap.size, 0, none⟩), .slice ao m cap, .func (.func 79) #[] #[.pointer (some ⟨w.heap.size + 1, 0, none⟩)], .agg #[.int .u64 x.val.fr, .slice x.val.b.ao x.val.b.n x.val.b.cap, .slice x.val.tag.ao x.val.tag.n x.val.tag.cap], undef, undef, undef, undef, undef, undef], defers := [] } (W.alloc (.cells #[.int .u64 x.val.fr, .slice x.val.b.ao x.val.b.n x.val.b.cap, .slice x.val.tag.ao x.val.tag.n x.val.tag.cap] 62)) ((keeps_below CA).from _) (CA.mono hC.bel.size) ⟨u, ys, hC.below CA⟩ ⟨_, rfl, heap_alloc_new W _, hC.sz⟩
    unfold SA.val
    gi_wp2
    exact HK
  case body =>
    rintro l pre x a' W hl hrec ⟨u, ys, hC⟩ ⟨Q, rfl, hA, hQ⟩ hlen
    obtain ⟨x, hx1, hx2⟩ := x
    have hbx : W.cell? ⟨w.heap.size, 0, none⟩ = some u := hC.bx.cell 0
    have HC : Hid (ClI w pre W u ys) := hC
    have HQ : Hid (∀ V, Below W.heap.size W V → Arr V Q 62 [.int .u64 x.fr, .slice x.b.ao x.b.n x.b.cap, .slice x.tag.ao x.tag.n x.tag.cap]) := fun V hV => Arr.below hA hV hA.lt
    have HOK : Hid (∀ V, Below W.heap.size W V → x.ok V) := fun V hV => (hx1.below hC.bel).below hV
    have HZ : Hid (x.b.n ≤ 1000000 ∧ x.tag.n ≤ 1000000) := hx2
    have HP : Hid (pre.length < xs.length) := hlen
    have HX : Hid (x.ok w) := hx1
    clear hA hC hrec
    have E0 : Below W.heap.size W W.drew := (Below.refl _ _).drew
    gi_wp2_with fail
    refine wpIn_round_held (S := fun _ => True) (by kernel_rfl) (by kernel_rfl) (fun _ _ h => h) trivial (fun _ => ?_)
    obtain ⟨v0, hv0⟩ : ∃ v, v = W.drew := ⟨_, rfl⟩
    rw [← hv0] at E0 ⊢
    clear hv0
    refine wpAnyH_effto 2 (fun zi zv zw => (zi = 0 → zv = u) ∧ (zi = 1 → zv = .agg #[.int .u64 x.fr, .slice x.b.ao x.b.n x.b.cap, .slice x.tag.ao x.tag.n x.tag.cap]) ∧ (zi = 2 → ∃ ro rc so sc, zv = .agg #[.int .u64 x.fr, .slice ro x.b.n rc, .slice so x.tag.n sc] ∧ SA.ok ⟨x.fr, ⟨ro, x.b.n, rc, x.b.xs⟩, ⟨so, x.tag.n, sc, x.tag.xs⟩⟩ zw ∧ ∀ z, SA.blk ⟨x.fr, ⟨ro, x.b.n, rc, x.b.xs⟩, ⟨so, x.tag.n, sc, x.tag.xs⟩⟩ z → W.heap.size ≤ z) ∧ (zi = 3 → ∃ ro rc so sc gl, zv = .slice (some ⟨gl, 0, none⟩) 1 1 ∧ zw.heap[gl]? = some (.cells #[.int .u64 x.fr, .slice ro x.b.n rc, .slice so x.tag.n sc] 62) ∧ SA.ok ⟨x.fr, ⟨ro, x.b.n, rc, x.b.xs⟩, ⟨so, x.tag.n, sc, x.tag.xs⟩⟩ zw ∧ ∀ z, SA.blk ⟨x.fr, ⟨ro, x.b.n, rc, x.b.xs⟩, ⟨so, x.tag.n, sc, x.tag.xs⟩⟩ z → W.heap.size ≤ z)) [(0, 8), (1, 9), (2, 10), (3, 11)] 14 (by kernel_rfl) (by decide) (by decide) rfl ?_ (fun _ _ => trivial) ?_ ?_
    · intro zi zv zw zw' h hb
      refine ⟨fun e => ?_, fun e => ?_, fun e => ?_, fun e => ?_⟩
      · have h := h.1 e
        exact h
      · have h := h.2.1 e
        exact h
      · have h := h.2.2.1 e
        obtain ⟨ro, rc, so, sc, h1, h2, h3⟩ := h
        exact ⟨ro, rc, so, sc, h1, SA.ok.below h2 hb, h3⟩
      · have h := h.2.2.2 e
        obtain ⟨ro, rc, so, sc, gl, h1, h2, h3, h4⟩ := h
        exact ⟨ro, rc, so, sc, gl, h1, (hb.block gl (Array.getElem?_eq_some_iff.1 h2).1).trans h2, SA.ok.below h3 hb, h4⟩
    · intro zp zhi o a zw ho hs hb hdep
      have EB := E0.trans (hb.mono E0.size)
      simp only [List.mem_cons, List.not_mem_nil, or_false] at zhi
      rcases zhi with rfl | rfl | rfl | rfl
      · obtain rfl : _ = o := Option.some.inj (show some _ = some o from ho)
        have t3 : a.tmps[3]? = some (.pointer (some ⟨w.heap.size, 0, none⟩)) := hs.get 3 (by kernel_rfl) rfl
        have c0 : zw.cell? ⟨w.heap.size, 0, none⟩ = some u := (EB.cell (World.block_lt_of_cell? _ _ hbx)).trans hbx
        exact .inl ⟨u, zw, by go_simp, ⟨fun _ => rfl, fun e => absurd e (by decide), fun e => absurd e (by decide), fun e => absurd e (by decide)⟩, Below.refl _ _⟩
      · obtain rfl : _ = o := Option.some.inj (show some _ = some o from ho)
        have t4 : a.tmps[4]? = some (.pointer (some ⟨Q, 0, none⟩)) := hs.get 4 (by kernel_rfl) rfl
        have AQ := HQ.out zw EB
        have c0 := AQ.cell 0
        have c1 := AQ.cell 1
        have c2 := AQ.cell 2
        exact .inl ⟨.agg #[.int .u64 x.fr, .slice x.b.ao x.b.n x.b.cap, .slice x.tag.ao x.tag.n x.tag.cap], zw, by go_simp, ⟨fun e => absurd e (by decide), fun _ => rfl, fun e => absurd e (by decide), fun e => absurd e (by decide)⟩, Below.refl _ _⟩
      · obtain rfl : _ = o := Option.some.inj (show some _ = some o from ho)
        obtain ⟨x9, t9, f9⟩ := (hdep 1 (by kernel_rfl)).at 9 (by kernel_rfl)
        replace f9 := f9.2.1 rfl
        obtain rfl := f9
        refine .inr ⟨51, #[.agg #[.int .u64 x.fr, .slice x.b.ao x.b.n x.b.cap, .slice x.tag.ao x.tag.n x.tag.cap]], by go_simp, (clone15 zw x (HOK.out zw EB) HZ.out).mono ?_⟩
        rintro e w' ⟨ro, rc, so, sc, rfl, h1, h2, h3, h4, h5⟩
        exact ⟨_, rfl, ⟨fun e => absurd e (by decide), fun e => absurd e (by decide), fun _ => ⟨ro, rc, so, sc, rfl, ⟨(HOK.out zw EB).fr, h1, h2⟩, fun z hz => Nat.le_trans EB.size (hz.elim (h4 z) (h5 z))⟩, fun e => absurd e (by decide)⟩, h3⟩
      · obtain rfl : _ = o := Option.some.inj (show some _ = some o from ho)
        obtain ⟨x10, t10, f10⟩ := (hdep 2 (by kernel_rfl)).at 10 (by kernel_rfl)
        replace f10 := f10.2.2.1 rfl
        obtain ⟨ro, rc, so, sc, rfl, S1, S2⟩ := f10
        have CA : Below zw.heap.size zw (zw.alloc (.cells #[.int .u64 x.fr, .slice ro x.b.n rc, .slice so x.tag.n sc] 62)) := (Below.refl _ _).alloc (Nat.le_refl _) _
        exact .inl ⟨_, _, by go_simp, ⟨fun e => absurd e (by decide), fun e => absurd e (by decide), fun e => absurd e (by decide), fun _ => ⟨ro, rc, so, sc, _, rfl, heap_alloc_new zw _, SA.ok.below S1 CA, S2⟩⟩, CA⟩
    intro zf v1 hb hh
    have E1 := E0.trans (hb.mono E0.size)
    obtain e0 := (hh (0, 8) (by simp)).1 rfl
    obtain ⟨ro, rc, so, sc, gl, e3, G1, S1, S2⟩ := (hh (3, 11) (by simp)).2.2.2 rfl
    clear hh hb
    simp only [putL, List.foldl_cons, List.foldl_nil, e0, e3]
    clear e0 e3
    simp only [FL]
    have C0 := HC.out
    have C1 := C0.below E1
    have hyl : ys.length < 100 := by
      have e := congrArg List.length C0.v
      rw [List.length_map, List.length_map] at e
      have h1 := HP.out
      have h2 := hL.len
      omega
    obtain ⟨v', W3, ha, GI3, B3, G3, go, gn, gc, rfl⟩ := C1.gi.app elS_fine tyS 47 (a := ⟨gl, 0, none⟩) (cp := 1) (y := ⟨x.fr, ⟨ro, x.b.n, rc, x.b.xs⟩, ⟨so, x.tag.n, sc, x.tag.xs⟩⟩) (fun j t ht => by
      rw [Addr.add_lit, Nat.zero_add, cell_of_row _ _ j _ _ _ G1]
      simpa [elS, SA.cells] using ht) S1 (fun z hz e => by
      have h1 := S2 z hz
      have h2 := (C0.gi.own.lt z e).2
      omega) (by omega) (by unfold maxLen; omega) C1.bel.size
    have A3 : Arr W3 w.heap.size 47 [u] := (G3.block _ C1.bx.lt fun e => arr_not C1.bx (by decide) C1.gi.own e.symm).trans C1.bx
    have c3 := A3.cell 0
    have f3 := A3.free 0
    have A4 := A3.set 0 (.slice go gn gc)
    have K3 : KeepsOthers W W3 := (keeps_below E1).trans (KeepsOthers.of_grownBy G3 fun j o ej hj => by
      rcases C1.gi.own.2 with ⟨rfl, _⟩ | ⟨g, cap, cur, rfl, _, h2, _⟩
      · cases ej
      · obtain rfl := Option.some.inj ej
        rw [h2] at hj
        obtain rfl := Option.some.inj hj
        rfl)
    have HNS : Hid (SA.v ⟨x.fr, ⟨ro, x.b.n, rc, x.b.xs⟩, ⟨so, x.tag.n, sc, x.tag.xs⟩⟩ = x.v) := rfl
    have HS2 : Hid (∀ z, SA.blk ⟨x.fr, ⟨ro, x.b.n, rc, x.b.xs⟩, ⟨so, x.tag.n, sc, x.tag.xs⟩⟩ z → W.heap.size ≤ z) := S2
    refine hr_ex 4 (some 12) rfl rfl (by kernel_rfl) rfl (R := fun v w' => .slice go gn gc = v ∧ W3 = w') ⟨_, W3, by simp [execOp, Act.eval, resolve, invoke, builtin, ha], rfl, rfl⟩ ?_
    rintro v w' ⟨rfl, rfl⟩
    refine ⟨trivial, ?_⟩
    simp only [FL]
    refine hr_skip 5 none (w' := W3.setCell ⟨w.heap.size, 0, none⟩ (.slice go gn gc)) rfl rfl (by kernel_rfl) rfl (by go_simp) trivial ?_
    simp only [Act.put]
    refine wpAnyH_done (by kernel_rfl) ?_ _
    refine NoPanic.normal ?_
    have KW : Below w.heap.size W W3 := (E1.mono C0.bel.size).trans B3
    have HI : ∀ y ∈ ys ++ [⟨x.fr, ⟨ro, x.b.n, rc, x.b.xs⟩, ⟨so, x.tag.n, sc, x.tag.xs⟩⟩], ∀ z, y.blk z → w.heap.size < z := fun y hy z hz => by
      rcases List.mem_append.1 hy with hy | hy
      · exact C0.hi y hy z hz
      · rw [List.mem_singleton.1 hy] at hz
        exact Nat.lt_of_lt_of_le C0.sz (HS2.out z hz)
    refine ⟨(K3.trans (KeepsOthers.setCell _ _ _)).from _, KW.setCell (p := ⟨w.heap.size, 0, none⟩) (Nat.le_refl _) _, .slice go gn gc, ys ++ [⟨x.fr, ⟨ro, x.b.n, rc, x.b.xs⟩, ⟨so, x.tag.n, sc, x.tag.xs⟩⟩], A4, GI3.kept elS_fine fun z hz => ?_, ?_, HI, (C0.bel.trans KW).setCell (p := ⟨w.heap.size, 0, none⟩) (Nat.le_refl _) _⟩
    · refine heap_setCell_other _ _ _ _ ?_
      rcases hz with hz | ⟨y, hy, hz⟩
      · intro e
        exact arr_not A3 (by decide) GI3.own (by rw [hz, e])
      · exact Nat.ne_of_gt (HI y hy z hz)
    · rw [List.map_append, List.map_append, C0.v]
      rfl
  case done =>
    rintro D zs W hD hzs ⟨u, ys, hC⟩ hK
    obtain ⟨ro, rc, rfl, GLr, GLh⟩ := hC.gi.gl elS_fine
    have HF : Hid (∀ z, GLb elS ro ys.length ys z → w.heap.size ≤ z) := fun z hz => hz.elim (GLh z) fun ⟨y, hy, hz⟩ => Nat.le_of_lt (hC.hi y hy z hz)
    have hbx : W.cell? ⟨w.heap.size, 0, none⟩ = some (.slice ro ys.length rc) := hC.bx.cell 0
    have HL : Hid (ys.length = xs.length ∧ ys.map SA.v = xs.map SA.v) := by
      have e := hC.v
      rw [show (zs.map fun x => x.val.v) = xs.map SA.v by rw [← hzs, List.map_map]; rfl] at e
      exact ⟨by have := congrArg List.length e; simpa using this, e⟩
    obtain ⟨u2, ys2, hC2⟩ := ClI.own (w := w) (B := w2.heap.size) (by omega) zs W _ _ ⟨_, _, hC⟩ (grownBy_putObj' W D (.deferred none)) (fun r e => by cases e; exact ⟨hD, _, hK, rfl⟩)
    have hG : GL elS (W.putObj D (.deferred none)) ro ys.length rc ys := by
      have far : ∀ z, GLb elS ro ys.length ys z → (W.putObj D (.deferred none)).heap[z]? = W.heap[z]? := fun z hz => World.putObj_heap_other fun e => by
        have hc : ∃ o, W.heap[z]? = some o ∧ o.isCells = true := by
          rcases hz with ⟨a, ha, hn, rfl⟩ | ⟨y, hy, hz⟩
          · have h0 := GLr.get elS_fine ha 0 (by have := GLr.len; omega) 0 (by decide)
            have := cells_of_cell h0
            have e : (a.add (0 * elS.sz + 0)).block = a.block := by unfold Addr.add; split <;> rfl
            rwa [e] at this
          · exact cells_of_sa (GLr.ok y hy) hz
        obtain ⟨o, h1, h2⟩ := hc
        rw [e, hK] at h1
        obtain rfl := Option.some.inj h1
        cases h2
      exact GLr.kept elS_fine far
    have HG : Hid (GL elS (W.putObj D (.deferred none)) ro ys.length rc ys ∧ Below w.heap.size w (W.putObj D (.deferred none))) := ⟨hG, hC2.bel⟩
    obtain ⟨yn, hyn⟩ : ∃ n, n = ys.length := ⟨_, rfl⟩
    rw [← hyn] at hbx HG HL HF
    clear GLh hG hC2 hC GLr hzs hyn
    gi_wp2
    refine ⟨by simp, .inl ⟨_, _, rfl, run_takeDeferred hK, ?_⟩⟩
    refine ⟨_, results_tmp rfl _ _ _, ro, rc, ys, ?_, ?_, HL.out.2, HG.out.2, by rw [← HL.out.1]; exact HF.out⟩
    · rw [← HL.out.1]
      rfl
    · rw [← HL.out.1]
      exact HG.out.1
  case stop =>
    rintro D c pre W _ _ h _
    exact h.elim
theorem cloneAll_any (w : World) (ao : Option Addr) (m cap : Nat) (xs : List SA) (hL : GL elS w ao m cap xs) (hm : m ≤ 100) (hz : ∀ s ∈ xs, s.b.n ≤ 1000000 ∧ s.tag.n ≤ 1000000) :
    Calls Try.prog 42 #[.slice ao m cap] w fun e w' => ∃ ro rc ys, e = .returned (.slice ro xs.length rc) ∧ GL elS w' ro xs.length rc ys ∧ ys.map SA.v = xs.map SA.v ∧ Below w.heap.size w w' ∧ ∀ z, GLb elS ro xs.length ys z → w.heap.size ≤ z :=
  (callsIn_wide (n := 3)).1 (cloneAll_in w ao m cap xs hL hm hz)
open Go.RowKit Go.Shelf
attribute [local go_sem] Oper.semAt_some
theorem u64info : (Try.prog.info? 30).map (fun i => (i.zero, i.size, i.bytes)) = some (some (.int .u64 0), 1, 8) := by kernel_rfl
def uv (ss : List Nat) : List Value := ss.map eU
theorem uv_len (ss : List Nat) : (uv ss).length = ss.length := by simp [uv]
theorem uv_app (ss : List Nat) (x : Nat) : uv (ss ++ [x]) = uv ss ++ [eU x] := by simp [uv]
theorem walks_of {W W' : World} (h : KeepsOthers W W') : KeepsWalks W W' := ⟨h.size, fun k o hk hw => h.same k o hk (Obj.not_cells_of_walk hw)⟩
def CollPost (w : World) (D : DataW Value) (e : Ending) (w' : World) : Prop := ∃ v ss, e = .returned v ∧ ColU D (fun _ => false) ss ∧ w'.ownsRow w.heap.size 30 1 v ss.length (uv ss) ∧ Below w.heap.size w w'
set_option maxRecDepth 100000 in
set_option maxHeartbeats 4000000 in
theorem appendSeq_u (n : Nat) (hn : 3 ≤ n) (Bm b nn : Nat) (D : DataW Value) (G : Value → Option Value)
    (hG : ∀ v l, keyOf Try.prog 30 v = some l → (G v = none ∧ Maps.has D l = false ∧ ∀ z, D.atKey l z = z) ∨ ∃ u, G v = some u ∧ Maps.has D l = true ∧ ∀ z, D.atKey l z = .held u)
    (hsz : Maps.size D ≤ 1000000) (w : World) (hBm : w.cell? ⟨Bm, 0, none⟩ = some (.map (some b))) (hown : w.ownsMap Try.prog 30 vElem b nn D) :
    CallsIn Fence.wide n Try.prog 76 #[.slice none 0 0, .func (.func 66) #[] #[.pointer (some ⟨Bm, 0, none⟩)]] w (CollPost w D) := by
  have h1 : 1 ≤ n := by omega
  obtain ⟨i0, hi, hz0, hz1, hz2⟩ := info_parts u64info
  have hBl : Bm < w.heap.size := World.block_lt_of_cell? w _ hBm
  have hbl := hown.lt
  refine callsIn_of_wp_marks Try.func76 rfl trivial ?_ rfl
  simp only [Try.ntmps76, List.size_toArray, List.length_cons, List.length_nil, Nat.reduceAdd, Nat.reduceSub, Array.replicate_succ, Array.replicate_zero, List.push_toArray, List.append_toArray, List.nil_append, List.cons_append]
  gi_wp2
  have bO := Boxed.new w 59 (.slice none 0 0)
  have hB0 : Below w.heap.size w (w.alloc (.cells #[.slice none 0 0] 59)) := (Below.refl _ w).alloc (Nat.le_refl _) _
  have hown1 : (w.alloc (.cells #[.slice none 0 0] 59)).ownsMap Try.prog 30 vElem b nn D := by
    obtain ⟨es, clock, hb, Ft, hs, hD⟩ := hown
    exact ⟨es, clock, (hB0.block b hbl).trans hb, Ft, hs, hD⟩
  refine wpIn_rangeFunc_ownG rfl h1 (gf := 66) (lb := #[.pointer (some ⟨Bm, 0, none⟩)]) rfl trivial (enters_of Try.func66 (by kernel_rfl) rfl)
    (keys_stopsU Fence.wide (n - 1) trivial rfl (by omega) Bm b nn D G hG _ ((hB0.cell (p := ⟨Bm, 0, none⟩) hBl).trans hBm) hown1) walksK_t walksK_b (Below.refl _ _) (fun _ => rfl)
    (fun pre W => (∃ v, Boxed W w.heap.size 59 v ∧ W.ownsRow w.heap.size 30 1 v pre.length (uv pre) ∧ True) ∧ Below w.heap.size w W)
    (fun _ _ _ => False)
    (OwnFrom.and (Own.from (holdsRow_own w.heap.size w.heap.size 59 30 1 (fun pre => List.length pre) (fun pre => uv pre) (fun _ _ => True)) _) (ownFrom_below (Nat.le_refl _) (by simp)))
    (fun _ _ _ _ _ hs _ _ => hs)
    ⟨⟨_, bO, World.ownsRow_nil _ _ _ _, trivial⟩, hB0⟩
    (fun x => { tmps := #[.slice none 0 0, .func (.func 66) #[] #[.pointer (some ⟨Bm, 0, none⟩)], .pointer (some ⟨w.heap.size, 0, none⟩), undef, .slice none 0 0, eU x, .func (.func 66) #[] #[.pointer (some ⟨Bm, 0, none⟩)], eU x, undef, undef, undef, undef, undef], defers := [] }) ?assign ?body ?done ?stop
  case assign =>
    intro l x W K hK
    gi_wp2
    exact hK
  case body =>
    rintro l pre x W ⟨⟨v, hv, hrow, _⟩, hB⟩ hlt
    have hc := hv.cell
    have hn0 : w.heap.size ≤ W.heap.size := hB.size
    gi_wp2_with (gi_at_builtin; refine wpListIn_append_own _ rfl _ _ 59 rfl w.heap.size 30 i0 (.int .u64 0) 1 8 Try.underlying59 hi hz0 hz1 hz2 rfl (by decide) _ _ _ rfl (hrow.alloc _) ⟨W.heap.size, 0, none⟩ 1 1 [eU x] rfl rfl (cell_one_new _ _ _) (by simp [Value.oneCell', eU]) (by unfold maxLen; omega) (by omega) (by simp; omega) ?_; intro v' w2 hown' hgrow _; obtain ⟨g', cap', rfl⟩ := ownsRow_succ hown'; obtain ⟨hv1, hv2, hr2, hk2, hb2⟩ := hv.appended (by decide) hrow hB.size (Nat.le_refl _) hown' hgrow; have hc1 := hv1.cell; have hf1 := hv1.frozen)
    exact ⟨hk2.from _, walks_of hk2, ⟨_, hv2, by rw [uv_app, List.length_append]; exact hr2, trivial⟩, hB.trans hb2⟩
  case done =>
    rintro E ys W hE hys ⟨⟨v, hv, hrow, _⟩, hB⟩ hK
    have hc := hv.cell
    gi_wp2
    refine ⟨by simp, .inl ⟨_, _, rfl, run_takeDeferred hK, ?_⟩⟩
    exact ⟨_, results_tmp rfl _ _ _, _, ys, rfl, hys, ownsRow_putObj hrow _ hK rfl, hB.trans (belowK_b (w := w) (Nat.le_refl _) W E _ _ (by simp at hE; omega) hK rfl rfl)⟩
  case stop =>
    rintro E c pre W _ _ h _
    exact h.elim
theorem collect_u (n : Nat) (hn : 4 ≤ n) (Bm b nn : Nat) (D : DataW Value) (G : Value → Option Value)
    (hG : ∀ v l, keyOf Try.prog 30 v = some l → (G v = none ∧ Maps.has D l = false ∧ ∀ z, D.atKey l z = z) ∨ ∃ u, G v = some u ∧ Maps.has D l = true ∧ ∀ z, D.atKey l z = .held u)
    (hsz : Maps.size D ≤ 1000000) (w : World) (hBm : w.cell? ⟨Bm, 0, none⟩ = some (.map (some b))) (hown : w.ownsMap Try.prog 30 vElem b nn D) :
    CallsIn Fence.wide n Try.prog 64 #[.func (.func 66) #[] #[.pointer (some ⟨Bm, 0, none⟩)]] w (CollPost w D) := by
  have CA := appendSeq_u (n - 1) (by omega) Bm b nn D G hG hsz w hBm hown
  refine callsIn_of_wp Try.func64 rfl trivial ?_ rfl
  simp only [Try.ntmps64, List.size_toArray, List.length_cons, List.length_nil, Nat.reduceAdd, Nat.reduceSub, Array.replicate_succ, Array.replicate_zero, List.push_toArray, List.append_toArray, List.nil_append, List.cons_append]
  gi_wp2_with fail
  refine ⟨trivial, fun _ => by omega, CA.mono ?_⟩
  rintro e w1 ⟨v, ss, rfl, h2, h3, h4⟩
  gi_wp2
  go_ret
  exact ⟨v, ss, rfl, h2, h3, h4⟩
open Go.RowKit
theorem nan_u (x : Nat) (w : World) : Calls Try.prog 97 #[.int .u64 (x : Nat)] w fun e w' => e = .returned (.bool false) ∧ w' = w := by
  go_enter Try.func97, Try.ntmps97
  go_wp2
  go_ret
  exact ⟨rfl, rfl⟩
theorem less_u (x y : Nat) (w : World) : Calls Try.prog 87 #[.int .u64 (x : Nat), .int .u64 (y : Nat)] w fun e w' => e = .returned (.bool (decide (x < y))) ∧ w' = w := by
  have CN := fun v => nan_u v w
  go_enter Try.func87, Try.ntmps87
  go_wp2_with (go_at_call 97; refine (CN _).mono ?_; rintro e w1 ⟨rfl, hw1⟩; have hw1 := hw1.symm; subst hw1)
  go_ret
  exact ⟨rfl, rfl⟩
set_option maxRecDepth 100000 in
set_option maxHeartbeats 4000000 in
theorem len64_u (n : Nat) (hn : n ≤ 8) (w : World) : Calls Try.prog 91 #[.int .u64 (n : Nat)] w fun e w' => (∃ x : Int, e = .returned (.int .i64 x)) ∧ w' = w := by
  have h1 : ¬ (4294967296 : Int) ≤ (n : Int) := by omega
  have h2 : ¬ (65536 : Int) ≤ (n : Int) := by omega
  have h3 : ¬ (256 : Int) ≤ (n : Int) := by omega
  go_enter Try.func91, Try.ntmps91
  go_wp2
  go_ret
  exact ⟨⟨_, rfl⟩, rfl⟩
set_option maxRecDepth 100000 in
theorem len_u (n : Nat) (hn : n ≤ 8) (w : World) : Calls Try.prog 78 #[.int .u64 (n : Nat)] w fun e w' => (∃ x : Int, e = .returned (.int .i64 x)) ∧ w' = w := by
  have CL := len64_u n hn w
  go_enter Try.func78, Try.ntmps78
  go_wp2_with (go_at_call 91; refine CL.mono ?_; rintro e w1 ⟨⟨x, rfl⟩, hw1⟩; have hw1 := hw1.symm; subst hw1)
  go_ret
  exact ⟨⟨_, rfl⟩, rfl⟩
def SoTo (L : List Nat) (k : Nat) : Prop := ∀ a b, a < b → b < k → L.getD a 0 ≤ L.getD b 0
def Ins (L : List Nat) (k j : Nat) : Prop := (∀ a b, a < b → b ≤ k → a ≠ j → b ≠ j → L.getD a 0 ≤ L.getD b 0) ∧ ∀ b, j < b → b ≤ k → L.getD j 0 ≤ L.getD b 0
theorem SoTo.ins {L : List Nat} {k : Nat} (h : SoTo L k) : Ins L k k := ⟨fun a b hab hb _ hn => h a b hab (by omega), fun b h1 h2 => by omega⟩
theorem Ins.done {L : List Nat} {k j : Nat} (h : Ins L k j) (he : j = 0 ∨ ¬ L.getD j 0 < L.getD (j - 1) 0) : SoTo L (k + 1) := fun a b hab hb => by
  by_cases e1 : b = j
  · subst e1
    rcases he with rfl | he
    · omega
    · by_cases e2 : a = b - 1
      · subst e2
        omega
      · have := h.1 a (b - 1) (by omega) (by omega) (by omega) (by omega)
        omega
  · by_cases e2 : a = j
    · subst e2
      exact h.2 b hab (by omega)
    · exact h.1 a b hab (by omega) e2 e1
def swp (L : List Nat) (j : Nat) : List Nat := (L.set j (L.getD (j - 1) 0)).set (j - 1) (L.getD j 0)
theorem gset (L : List Nat) (i v a : Nat) (h : i < L.length) : (L.set i v).getD a 0 = if a = i then v else L.getD a 0 := by
  simp only [List.getD, List.getElem?_set]
  by_cases e : a = i
  · subst e
    simp [h]
  · rw [if_neg e, if_neg (fun q => e q.symm)]
theorem swp_at (L : List Nat) (j a : Nat) (h0 : 0 < j) (h : j < L.length) : (swp L j).getD a 0 = if a = j - 1 then L.getD j 0 else if a = j then L.getD (j - 1) 0 else L.getD a 0 := by
  unfold swp
  rw [gset _ _ _ _ (by rw [List.length_set]; omega), gset _ _ _ _ h]
theorem Ins.step {L : List Nat} {k j : Nat} (h : Ins L k j) (h0 : 0 < j) (hj : j ≤ k) (hk : k < L.length) (hlt : L.getD j 0 < L.getD (j - 1) 0) : Ins (swp L j) k (j - 1) := by
  refine ⟨fun a b hab hb ha hb' => ?_, fun b hb hbk => ?_⟩
  · rw [swp_at L j a h0 (by omega), swp_at L j b h0 (by omega), if_neg ha, if_neg hb']
    by_cases e1 : a = j
    · rw [if_pos e1, if_neg (by omega)]
      exact h.1 (j - 1) b (by omega) hb (by omega) (by omega)
    · rw [if_neg e1]
      by_cases e2 : b = j
      · rw [if_pos e2]
        exact h.1 a (j - 1) (by omega) (by omega) e1 (by omega)
      · rw [if_neg e2]
        exact h.1 a b hab hb e1 e2
  · rw [swp_at L j (j - 1) h0 (by omega), if_pos rfl, swp_at L j b h0 (by omega), if_neg (by omega)]
    by_cases e : b = j
    · rw [if_pos e]
      omega
    · rw [if_neg e]
      exact h.2 b (by omega) hbk
theorem swp_perm (L : List Nat) (j : Nat) (h0 : 0 < j) (h : j < L.length) : (swp L j).Perm L := by
  have e1 : L.getD (j - 1) 0 = L[j - 1]'(by omega) := by simp [List.getD, show j - 1 < L.length by omega]
  have e2 : L.getD j 0 = L[j] := by simp [List.getD, h]
  unfold swp
  rw [e1, e2]
  exact List.set_set_perm h (by omega)
theorem SoTo.pair {L : List Nat} (h : SoTo L L.length) : L.Pairwise (· ≤ ·) := by
  rw [List.pairwise_iff_getElem]
  intro i j hi hj hij
  have := h i j hij hj
  simpa [List.getD, hi, hj] using this
open Go.RowKit
theorem uvr_at {w : World} {gb : Nat} {L : List Nat} {rest : List Value} (h : Arr w gb 30 (uv L ++ rest)) (j : Nat) (hj : j < L.length) : w.cell? ⟨gb, j, none⟩ = some (.int .u64 (L.getD j 0 : Nat)) := by
  rw [h.cell, List.getElem?_append_left (by rw [uv_len]; exact hj)]
  simp [uv, List.getD, hj]
theorem uv_set (L : List Nat) (rest : List Value) (j v : Nat) (h : j < L.length) : (uv L ++ rest).set j (.int .u64 (v : Nat)) = uv (L.set j v) ++ rest := by
  rw [List.set_append_left _ _ (by rw [uv_len]; exact h)]
  simp [uv, List.map_set]
theorem less_at (w : World) (x y : Nat) {b : Bool} (h : decide (x < y) = b) : Calls Try.prog 87 #[.int .u64 (x : Nat), .int .u64 (y : Nat)] w fun e w' => e = .returned (.bool b) ∧ Below w.heap.size w w' := by
  refine (less_u x y w).mono ?_
  rintro e w' ⟨rfl, rfl⟩
  exact ⟨by rw [h], Below.refl _ _⟩
def SortPost (w : World) (gb : Nat) (L : List Nat) (rest : List Value) (e : Ending) (w' : World) : Prop := ∃ L', e = .returned (.tuple #[]) ∧ L'.Perm L ∧ L'.Pairwise (· ≤ ·) ∧ Arr w' gb 30 (uv L' ++ rest) ∧ w.grownBy w' (some gb)
set_option maxRecDepth 100000 in
set_option maxHeartbeats 4000000 in
theorem insort_u (w : World) (gb n cap : Nat) (L0 : List Nat) (rest : List Value) (hA : Arr w gb 30 (uv L0 ++ rest)) (hl : L0.length = n) (hn : n ≤ 8) :
    Calls Try.prog 81 #[.slice (some ⟨gb, 0, none⟩) n cap, .int .i64 0, .int .i64 (n : Nat)] w (SortPost w gb L0 rest) := by
  go_enter Try.func81, Try.ntmps81
  go_wp2
  go_loopw [6] (fun i wr => ∃ (k : Nat) (L : List Nat), i = .int .i64 (k : Nat) ∧ 1 ≤ k ∧ (k ≤ n ∨ k = 1) ∧ L.Perm L0 ∧ SoTo L k ∧ Arr wr gb 30 (uv L ++ rest) ∧ w.grownBy wr (some gb)) (fun i _ => 10 - (intOf i).toNat)
  case atStart => exact ⟨1, L0, rfl, Nat.le_refl _, .inr rfl, List.Perm.refl _, fun a b h1 h2 => by omega, hA, bel_grown (Below.refl _ _) _⟩
  case round =>
    obtain ⟨k, L, rfl, hk1, hk2, hP, hS, HA0, HG0⟩ := hrel
    have hL := hP.length_eq
    by_cases hlt : k < n
    · have hki : (k : Int) < (n : Int) := by omega
      have hS2 : Hid (Ins L k k) := hS.ins
      clear hS
      go_wp2
      go_loopw [7] (fun jv wr => ∃ (j : Nat) (L : List Nat), jv = .int .i64 (j : Nat) ∧ j ≤ k ∧ L.Perm L0 ∧ Hid (Ins L k j) ∧ Arr wr gb 30 (uv L ++ rest) ∧ w.grownBy wr (some gb)) (fun j _ => (intOf j).toNat)
      case atStart => exact ⟨k, L, rfl, Nat.le_refl _, hP, hS2, HA0, HG0⟩
      case round =>
        obtain ⟨j, L, rfl, hjk, hP, hI, HA, HG⟩ := hrel
        have hL := hP.length_eq
        by_cases hj0 : 0 < j
        · have hj1 : (0 : Int) < (j : Int) := by omega
          have iw : IntKind.i64.wrap ((j : Int) - 1) = (j : Int) - 1 := by rw [IntKind.wrap_i64]; omega
          have jn : ((j : Int) - 1).toNat = j - 1 := by omega
          have q1 : ¬ n ≤ j := by omega
          have q2 : ¬ (n : Int) ≤ (j : Int) - 1 := by omega
          have q3 : (1 : Int) ≤ (j : Int) := by omega
          by_cases hlt2 : L.getD j 0 < L.getD (j - 1) 0
          · have hless : decide (L.getD j 0 < L.getD (j - 1) 0) = true := decide_eq_true hlt2
            have hIn2 : Hid (Ins (swp L j) k (j - 1)) := hI.out.step hj0 hjk (by omega) hlt2
            clear hlt2
            go_wp2_with fail
            have tHS : Hid (∀ V, Below wr.heap.size wr V → V.cell? ⟨gb, j, none⟩ = some (.int .u64 (L.getD j 0 : Nat)) ∧ V.cell? ⟨gb, j - 1, none⟩ = some (.int .u64 (L.getD (j - 1) 0 : Nat))) := fun V hV => by have K := Arr.below HA hV HA.lt; exact ⟨uvr_at K j (by omega), uvr_at K (j - 1) (by omega)⟩
            have tE0 : Below wr.heap.size wr wr.drew := (Below.refl _ _).drew
            refine wp_region_noPanic ?_
            refine wp_region_held_drew (S := fun V => V.cell? ⟨gb, j, none⟩ = some (.int .u64 (L.getD j 0 : Nat)) ∧ V.cell? ⟨gb, j - 1, none⟩ = some (.int .u64 (L.getD (j - 1) 0 : Nat))) (by kernel_rfl) (tHS.out _ tE0) (fun tH0 => ?_)
            obtain ⟨tv0, hv0⟩ : ∃ v, v = wr.drew := ⟨_, rfl⟩
            rw [← hv0] at tH0 tE0 ⊢
            clear hv0
            refine hr_take_w 0 (some 16) (.int .i64 (j : Nat)) rfl rfl (by kernel_rfl) (by kernel_rfl) (by kernel_rfl) rfl (fun W hW => by obtain ⟨h0, h1⟩ := hW; go_simp) tH0 ?_
            simp only [FL]
            refine hr_take_w 1 (some 17) (.int .i64 0) rfl rfl (by kernel_rfl) (by kernel_rfl) (by kernel_rfl) rfl (fun W hW => by obtain ⟨h0, h1⟩ := hW; go_simp) tH0 ?_
            simp only [FL]
            refine hr_take_w 2 (some 18) (.bool true) rfl rfl (by kernel_rfl) (by kernel_rfl) (by kernel_rfl) rfl (fun W hW => by obtain ⟨h0, h1⟩ := hW; go_simp) tH0 ?_
            simp only [FL]
            refine hr_take_w 3 (some 19) (.bool true) rfl rfl (by kernel_rfl) (by kernel_rfl) (by kernel_rfl) rfl (fun W hW => by obtain ⟨h0, h1⟩ := hW; go_simp) tH0 ?_
            simp only [FL]
            refine hr_take_w 4 (some 20) (.slice (some ⟨gb, 0, none⟩) n cap) rfl rfl (by kernel_rfl) (by kernel_rfl) (by kernel_rfl) rfl (fun W hW => by obtain ⟨h0, h1⟩ := hW; go_simp) tH0 ?_
            simp only [FL]
            refine hr_take_w 5 (some 21) (.int .i64 (j : Nat)) rfl rfl (by kernel_rfl) (by kernel_rfl) (by kernel_rfl) rfl (fun W hW => by obtain ⟨h0, h1⟩ := hW; go_simp) tH0 ?_
            simp only [FL]
            refine hr_take_w 6 (some 22) (.pointer (some ⟨gb, j, none⟩)) rfl rfl (by kernel_rfl) (by kernel_rfl) (by kernel_rfl) rfl (fun W hW => by obtain ⟨h0, h1⟩ := hW; go_simp) tH0 ?_
            simp only [FL]
            refine hr_take_w 7 (some 23) (.int .u64 (L.getD j 0 : Nat)) rfl rfl (by kernel_rfl) (by kernel_rfl) (by kernel_rfl) rfl (fun W hW => by obtain ⟨h0, h1⟩ := hW; go_simp) tH0 ?_
            simp only [FL]
            refine hr_take_w 8 (some 24) (.slice (some ⟨gb, 0, none⟩) n cap) rfl rfl (by kernel_rfl) (by kernel_rfl) (by kernel_rfl) rfl (fun W hW => by obtain ⟨h0, h1⟩ := hW; go_simp) tH0 ?_
            simp only [FL]
            refine hr_take_w 9 (some 25) (.int .i64 (j : Nat)) rfl rfl (by kernel_rfl) (by kernel_rfl) (by kernel_rfl) rfl (fun W hW => by obtain ⟨h0, h1⟩ := hW; go_simp) tH0 ?_
            simp only [FL]
            refine hr_take_w 10 (some 26) (.int .i64 ((j : Int) - 1)) rfl rfl (by kernel_rfl) (by kernel_rfl) (by kernel_rfl) rfl (fun W hW => by obtain ⟨h0, h1⟩ := hW; go_simp) tH0 ?_
            simp only [FL]
            refine hr_take_w 11 (some 27) (.pointer (some ⟨gb, j - 1, none⟩)) rfl rfl (by kernel_rfl) (by kernel_rfl) (by kernel_rfl) rfl (fun W hW => by obtain ⟨h0, h1⟩ := hW; go_simp) tH0 ?_
            simp only [FL]
            refine hr_take_w 12 (some 28) (.int .u64 (L.getD (j - 1) 0 : Nat)) rfl rfl (by kernel_rfl) (by kernel_rfl) (by kernel_rfl) rfl (fun W hW => by obtain ⟨h0, h1⟩ := hW; go_simp) tH0 ?_
            simp only [FL]
            refine hr_call_w 13 (some 29) 87 #[.int .u64 (L.getD j 0 : Nat), .int .u64 (L.getD (j - 1) 0 : Nat)] rfl rfl (by kernel_rfl) rfl (by go_simp) (fun v w' => v = .bool true ∧ Below tv0.heap.size tv0 w') ((less_at tv0 _ _ hless).mono (by
              rintro e w' ⟨rfl, C⟩
              exact ⟨_, rfl, rfl, C⟩)) ?_
            rintro v tv1 ⟨rfl, tC0⟩
            have tE1 := tE0.trans (tC0.mono tE0.size)
            have tH1 := tHS.out tv1 tE1
            refine ⟨tH1, ?_⟩
            simp only [FL]
            refine hr_take_w 14 (some 30) (.bool true) rfl rfl (by kernel_rfl) (by kernel_rfl) (by kernel_rfl) rfl (fun W hW => by obtain ⟨h0, h1⟩ := hW; go_simp) tH1 ?_
            simp only [FL]
            refine wpAnyH_done (by kernel_rfl) ?_ _
            refine NoPanic.normal ?_
            have HA1 := Arr.below HA tE1 HA.lt
            go_wp2_with fail
            have uE0 : Below tv1.heap.size tv1 tv1.drew := (Below.refl _ _).drew
            refine wp_region_noPanic ?_
            refine wp_region_held_drew (S := fun _ => True) (by kernel_rfl) trivial (fun _ => ?_)
            obtain ⟨uv0, hv0⟩ : ∃ v, v = tv1.drew := ⟨_, rfl⟩
            rw [← hv0] at uE0 ⊢
            clear hv0
            have A1 := Arr.below HA1 uE0 HA1.lt
            have c0 := uvr_at A1 j (by omega)
            have c1 := uvr_at A1 (j - 1) (by omega)
            refine hr_take_w 0 (some 33) (.slice (some ⟨gb, 0, none⟩) n cap) rfl rfl (by kernel_rfl) (by kernel_rfl) (by kernel_rfl) rfl (fun W hW => by go_simp) trivial ?_
            simp only [FL]
            refine hr_take_w 1 (some 34) (.int .i64 (j : Nat)) rfl rfl (by kernel_rfl) (by kernel_rfl) (by kernel_rfl) rfl (fun W hW => by go_simp) trivial ?_
            simp only [FL]
            refine hr_take_w 2 (some 35) (.slice (some ⟨gb, 0, none⟩) n cap) rfl rfl (by kernel_rfl) (by kernel_rfl) (by kernel_rfl) rfl (fun W hW => by go_simp) trivial ?_
            simp only [FL]
            refine hr_take_w 3 (some 36) (.int .i64 (j : Nat)) rfl rfl (by kernel_rfl) (by kernel_rfl) (by kernel_rfl) rfl (fun W hW => by go_simp) trivial ?_
            simp only [FL]
            refine hr_take_w 4 (some 37) (.int .i64 ((j : Int) - 1)) rfl rfl (by kernel_rfl) (by kernel_rfl) (by kernel_rfl) rfl (fun W hW => by go_simp) trivial ?_
            simp only [FL]
            refine hr_take_w 5 (some 38) (.slice (some ⟨gb, 0, none⟩) n cap) rfl rfl (by kernel_rfl) (by kernel_rfl) (by kernel_rfl) rfl (fun W hW => by go_simp) trivial ?_
            simp only [FL]
            refine hr_take_w 6 (some 39) (.int .i64 (j : Nat)) rfl rfl (by kernel_rfl) (by kernel_rfl) (by kernel_rfl) rfl (fun W hW => by go_simp) trivial ?_
            simp only [FL]
            refine hr_take_w 7 (some 40) (.int .i64 ((j : Int) - 1)) rfl rfl (by kernel_rfl) (by kernel_rfl) (by kernel_rfl) rfl (fun W hW => by go_simp) trivial ?_
            simp only [FL]
            refine hr_take_w 10 (some 43) (.slice (some ⟨gb, 0, none⟩) n cap) rfl rfl (by kernel_rfl) (by kernel_rfl) (by kernel_rfl) rfl (fun W hW => by go_simp) trivial ?_
            simp only [FL]
            refine hr_take_w 11 (some 44) (.int .i64 (j : Nat)) rfl rfl (by kernel_rfl) (by kernel_rfl) (by kernel_rfl) rfl (fun W hW => by go_simp) trivial ?_
            simp only [FL]
            refine hr_take_w 8 (some 41) (.pointer (some ⟨gb, j - 1, none⟩)) rfl rfl (by kernel_rfl) (by kernel_rfl) (by kernel_rfl) rfl (fun W hW => by go_simp) trivial ?_
            simp only [FL]
            refine hr_take_w 12 (some 45) (.pointer (some ⟨gb, j, none⟩)) rfl rfl (by kernel_rfl) (by kernel_rfl) (by kernel_rfl) rfl (fun W hW => by go_simp) trivial ?_
            simp only [FL]
            refine hr_two (i := 9) (j := 13) (by kernel_rfl) ?_ ?_
            · refine op_ex 9 (some 42) rfl rfl rfl (R := fun v w' => v = .int .u64 (L.getD (j - 1) 0 : Nat) ∧ w' = uv0) ⟨_, _, by go_simp, rfl, rfl⟩ ?_
              rintro v w' ⟨rfl, rfl⟩
              refine ⟨trivial, ?_⟩
              simp only [FL]
              refine hr_do 13 (some 46) (.int .u64 (L.getD j 0 : Nat)) rfl rfl (by kernel_rfl) rfl (w' := w') (by go_simp) trivial ?_
              simp only [FL]
              refine hr_take_w 14 (some 47) (.pointer (some ⟨gb, j, none⟩)) rfl rfl (by kernel_rfl) (by kernel_rfl) (by kernel_rfl) rfl (fun W hW => by go_simp) trivial ?_
              simp only [FL]
              have f0 := A1.free j
              have A2 := A1.set j (.int .u64 (L.getD (j - 1) 0 : Nat))
              have c2 : (w'.setCell ⟨gb, j, none⟩ (.int .u64 (L.getD (j - 1) 0 : Nat))).cell? ⟨gb, j - 1, none⟩ = some (.int .u64 (L.getD (j - 1) 0 : Nat)) := by
                have := uvr_at (rest := rest) (L := L.set j (L.getD (j - 1) 0)) (by rw [uv_set L rest j _ (by omega)] at A2; exact A2) (j - 1) (by rw [List.length_set]; omega)
                rw [gset _ _ _ _ (by omega), if_neg (by omega)] at this
                exact this
              have f2 := A2.free (j - 1)
              have A3 := A2.set (j - 1) (.int .u64 (L.getD j 0 : Nat))
              have G2 : w'.grownBy (w'.setCell ⟨gb, j, none⟩ (.int .u64 (L.getD (j - 1) 0 : Nat))) (some gb) := grown_set (bel_grown (Below.refl _ w') (some gb)) j _
              obtain ⟨w2, hw2⟩ : ∃ v, v = w'.setCell ⟨gb, j, none⟩ (.int .u64 (L.getD (j - 1) 0 : Nat)) := ⟨_, rfl⟩
              refine hr_skip 15 none (w' := w2) rfl rfl (by kernel_rfl) rfl (by rw [hw2]; clear hw2; go_simp) trivial ?_
              rw [← hw2] at A2 A3 G2 c2 f2
              clear hw2
              simp only [Act.put]
              refine hr_take_w 16 (some 48) (.pointer (some ⟨gb, j - 1, none⟩)) rfl rfl (by kernel_rfl) (by kernel_rfl) (by kernel_rfl) rfl (fun W hW => by go_simp) trivial ?_
              simp only [FL]
              have G3 : w2.grownBy (w2.setCell ⟨gb, j - 1, none⟩ (.int .u64 (L.getD j 0 : Nat))) (some gb) := grown_set (bel_grown (Below.refl _ w2) (some gb)) (j - 1) _
              obtain ⟨w3, hw3⟩ : ∃ v, v = w2.setCell ⟨gb, j - 1, none⟩ (.int .u64 (L.getD j 0 : Nat)) := ⟨_, rfl⟩
              refine hr_skip 17 none (w' := w3) rfl rfl (by kernel_rfl) rfl (by rw [hw3]; clear hw3; go_simp) trivial ?_
              rw [← hw3] at A3 G3
              clear hw3
              simp only [Act.put]
              refine wpAnyH_done (by kernel_rfl) ?_ _
              refine NoPanic.normal ?_
              have A4 : Arr w3 gb 30 (uv (swp L j) ++ rest) := by
                rw [uv_set L rest j _ (by omega), uv_set _ rest (j - 1) _ (by rw [List.length_set]; omega)] at A3
                exact A3
              have G4 : w.grownBy w3 (some gb) := gro_trans (gro_trans (gro_trans (gro_trans HG (bel_grown tE1 _)) (bel_grown uE0 _)) G2) G3
              clear A1 A2 A3 c0 c1 c2 f0 f2
              go_wp2
              go_roundw
              case rel => exact ⟨j - 1, swp L j, by go_num, by omega, (swp_perm L j hj0 (by omega)).trans hP, hIn2, A4, G4⟩
              case measure => simp [intOf]; omega
            · refine op_ex 13 (some 46) rfl rfl rfl (R := fun v w' => v = .int .u64 (L.getD j 0 : Nat) ∧ w' = uv0) ⟨_, _, by go_simp, rfl, rfl⟩ ?_
              rintro v w' ⟨rfl, rfl⟩
              refine ⟨trivial, ?_⟩
              simp only [FL]
              refine hr_do 9 (some 42) (.int .u64 (L.getD (j - 1) 0 : Nat)) rfl rfl (by kernel_rfl) rfl (w' := w') (by go_simp) trivial ?_
              simp only [FL]
              refine hr_take_w 14 (some 47) (.pointer (some ⟨gb, j, none⟩)) rfl rfl (by kernel_rfl) (by kernel_rfl) (by kernel_rfl) rfl (fun W hW => by go_simp) trivial ?_
              simp only [FL]
              have f0 := A1.free j
              have A2 := A1.set j (.int .u64 (L.getD (j - 1) 0 : Nat))
              have c2 : (w'.setCell ⟨gb, j, none⟩ (.int .u64 (L.getD (j - 1) 0 : Nat))).cell? ⟨gb, j - 1, none⟩ = some (.int .u64 (L.getD (j - 1) 0 : Nat)) := by
                have := uvr_at (rest := rest) (L := L.set j (L.getD (j - 1) 0)) (by rw [uv_set L rest j _ (by omega)] at A2; exact A2) (j - 1) (by rw [List.length_set]; omega)
                rw [gset _ _ _ _ (by omega), if_neg (by omega)] at this
                exact this
              have f2 := A2.free (j - 1)
              have A3 := A2.set (j - 1) (.int .u64 (L.getD j 0 : Nat))
              have G2 : w'.grownBy (w'.setCell ⟨gb, j, none⟩ (.int .u64 (L.getD (j - 1) 0 : Nat))) (some gb) := grown_set (bel_grown (Below.refl _ w') (some gb)) j _
              obtain ⟨w2, hw2⟩ : ∃ v, v = w'.setCell ⟨gb, j, none⟩ (.int .u64 (L.getD (j - 1) 0 : Nat)) := ⟨_, rfl⟩
              refine hr_skip 15 none (w' := w2) rfl rfl (by kernel_rfl) rfl (by rw [hw2]; clear hw2; go_simp) trivial ?_
              rw [← hw2] at A2 A3 G2 c2 f2
              clear hw2
              simp only [Act.put]
              refine hr_take_w 16 (some 48) (.pointer (some ⟨gb, j - 1, none⟩)) rfl rfl (by kernel_rfl) (by kernel_rfl) (by kernel_rfl) rfl (fun W hW => by go_simp) trivial ?_
              simp only [FL]
              have G3 : w2.grownBy (w2.setCell ⟨gb, j - 1, none⟩ (.int .u64 (L.getD j 0 : Nat))) (some gb) := grown_set (bel_grown (Below.refl _ w2) (some gb)) (j - 1) _
              obtain ⟨w3, hw3⟩ : ∃ v, v = w2.setCell ⟨gb, j - 1, none⟩ (.int .u64 (L.getD j 0 : Nat)) := ⟨_, rfl⟩
              refine hr_skip 17 none (w' := w3) rfl rfl (by kernel_rfl) rfl (by rw [hw3]; clear hw3; go_simp) trivial ?_
              rw [← hw3] at A3 G3
              clear hw3
              simp only [Act.put]
              refine wpAnyH_done (by kernel_rfl) ?_ _
              refine NoPanic.normal ?_
              have A4 : Arr w3 gb 30 (uv (swp L j) ++ rest) := by
                rw [uv_set L rest j _ (by omega), uv_set _ rest (j - 1) _ (by rw [List.length_set]; omega)] at A3
                exact A3
              have G4 : w.grownBy w3 (some gb) := gro_trans (gro_trans (gro_trans (gro_trans HG (bel_grown tE1 _)) (bel_grown uE0 _)) G2) G3
              clear A1 A2 A3 c0 c1 c2 f0 f2
              go_wp2
              go_roundw
              case rel => exact ⟨j - 1, swp L j, by go_num, by omega, (swp_perm L j hj0 (by omega)).trans hP, hIn2, A4, G4⟩
              case measure => simp [intOf]; omega
          · have hless : decide (L.getD j 0 < L.getD (j - 1) 0) = false := decide_eq_false hlt2
            have hD : Hid (SoTo L (k + 1)) := hI.out.done (.inr hlt2)
            clear hlt2
            go_wp2_with fail
            have tHS : Hid (∀ V, Below wr.heap.size wr V → V.cell? ⟨gb, j, none⟩ = some (.int .u64 (L.getD j 0 : Nat)) ∧ V.cell? ⟨gb, j - 1, none⟩ = some (.int .u64 (L.getD (j - 1) 0 : Nat))) := fun V hV => by have K := Arr.below HA hV HA.lt; exact ⟨uvr_at K j (by omega), uvr_at K (j - 1) (by omega)⟩
            have tE0 : Below wr.heap.size wr wr.drew := (Below.refl _ _).drew
            refine wp_region_noPanic ?_
            refine wp_region_held_drew (S := fun V => V.cell? ⟨gb, j, none⟩ = some (.int .u64 (L.getD j 0 : Nat)) ∧ V.cell? ⟨gb, j - 1, none⟩ = some (.int .u64 (L.getD (j - 1) 0 : Nat))) (by kernel_rfl) (tHS.out _ tE0) (fun tH0 => ?_)
            obtain ⟨tv0, hv0⟩ : ∃ v, v = wr.drew := ⟨_, rfl⟩
            rw [← hv0] at tH0 tE0 ⊢
            clear hv0
            refine hr_take_w 0 (some 16) (.int .i64 (j : Nat)) rfl rfl (by kernel_rfl) (by kernel_rfl) (by kernel_rfl) rfl (fun W hW => by obtain ⟨h0, h1⟩ := hW; go_simp) tH0 ?_
            simp only [FL]
            refine hr_take_w 1 (some 17) (.int .i64 0) rfl rfl (by kernel_rfl) (by kernel_rfl) (by kernel_rfl) rfl (fun W hW => by obtain ⟨h0, h1⟩ := hW; go_simp) tH0 ?_
            simp only [FL]
            refine hr_take_w 2 (some 18) (.bool true) rfl rfl (by kernel_rfl) (by kernel_rfl) (by kernel_rfl) rfl (fun W hW => by obtain ⟨h0, h1⟩ := hW; go_simp) tH0 ?_
            simp only [FL]
            refine hr_take_w 3 (some 19) (.bool true) rfl rfl (by kernel_rfl) (by kernel_rfl) (by kernel_rfl) rfl (fun W hW => by obtain ⟨h0, h1⟩ := hW; go_simp) tH0 ?_
            simp only [FL]
            refine hr_take_w 4 (some 20) (.slice (some ⟨gb, 0, none⟩) n cap) rfl rfl (by kernel_rfl) (by kernel_rfl) (by kernel_rfl) rfl (fun W hW => by obtain ⟨h0, h1⟩ := hW; go_simp) tH0 ?_
            simp only [FL]
            refine hr_take_w 5 (some 21) (.int .i64 (j : Nat)) rfl rfl (by kernel_rfl) (by kernel_rfl) (by kernel_rfl) rfl (fun W hW => by obtain ⟨h0, h1⟩ := hW; go_simp) tH0 ?_
            simp only [FL]
            refine hr_take_w 6 (some 22) (.pointer (some ⟨gb, j, none⟩)) rfl rfl (by kernel_rfl) (by kernel_rfl) (by kernel_rfl) rfl (fun W hW => by obtain ⟨h0, h1⟩ := hW; go_simp) tH0 ?_
            simp only [FL]
            refine hr_take_w 7 (some 23) (.int .u64 (L.getD j 0 : Nat)) rfl rfl (by kernel_rfl) (by kernel_rfl) (by kernel_rfl) rfl (fun W hW => by obtain ⟨h0, h1⟩ := hW; go_simp) tH0 ?_
            simp only [FL]
            refine hr_take_w 8 (some 24) (.slice (some ⟨gb, 0, none⟩) n cap) rfl rfl (by kernel_rfl) (by kernel_rfl) (by kernel_rfl) rfl (fun W hW => by obtain ⟨h0, h1⟩ := hW; go_simp) tH0 ?_
            simp only [FL]
            refine hr_take_w 9 (some 25) (.int .i64 (j : Nat)) rfl rfl (by kernel_rfl) (by kernel_rfl) (by kernel_rfl) rfl (fun W hW => by obtain ⟨h0, h1⟩ := hW; go_simp) tH0 ?_
            simp only [FL]
            refine hr_take_w 10 (some 26) (.int .i64 ((j : Int) - 1)) rfl rfl (by kernel_rfl) (by kernel_rfl) (by kernel_rfl) rfl (fun W hW => by obtain ⟨h0, h1⟩ := hW; go_simp) tH0 ?_
            simp only [FL]
            refine hr_take_w 11 (some 27) (.pointer (some ⟨gb, j - 1, none⟩)) rfl rfl (by kernel_rfl) (by kernel_rfl) (by kernel_rfl) rfl (fun W hW => by obtain ⟨h0, h1⟩ := hW; go_simp) tH0 ?_
            simp only [FL]
            refine hr_take_w 12 (some 28) (.int .u64 (L.getD (j - 1) 0 : Nat)) rfl rfl (by kernel_rfl) (by kernel_rfl) (by kernel_rfl) rfl (fun W hW => by obtain ⟨h0, h1⟩ := hW; go_simp) tH0 ?_
            simp only [FL]
            refine hr_call_w 13 (some 29) 87 #[.int .u64 (L.getD j 0 : Nat), .int .u64 (L.getD (j - 1) 0 : Nat)] rfl rfl (by kernel_rfl) rfl (by go_simp) (fun v w' => v = .bool false ∧ Below tv0.heap.size tv0 w') ((less_at tv0 _ _ hless).mono (by
              rintro e w' ⟨rfl, C⟩
              exact ⟨_, rfl, rfl, C⟩)) ?_
            rintro v tv1 ⟨rfl, tC0⟩
            have tE1 := tE0.trans (tC0.mono tE0.size)
            have tH1 := tHS.out tv1 tE1
            refine ⟨tH1, ?_⟩
            simp only [FL]
            refine hr_take_w 14 (some 30) (.bool false) rfl rfl (by kernel_rfl) (by kernel_rfl) (by kernel_rfl) rfl (fun W hW => by obtain ⟨h0, h1⟩ := hW; go_simp) tH1 ?_
            simp only [FL]
            refine wpAnyH_done (by kernel_rfl) ?_ _
            refine NoPanic.normal ?_
            have HA1 := Arr.below HA tE1 HA.lt
            go_wp2
            go_roundw
            case rel => exact ⟨k + 1, L, by go_num, by omega, .inl (by omega), hP, hD.out, HA1, gro_trans HG (bel_grown tE1 _)⟩
            case measure => simp [intOf]; omega
        · obtain rfl : j = 0 := by omega
          have hD : Hid (SoTo L (k + 1)) := hI.out.done (.inl rfl)
          go_wp2_with fail
          have tHS : Hid (∀ V, Below wr.heap.size wr V → True) := fun _ _ => trivial
          have tE0 : Below wr.heap.size wr wr.drew := (Below.refl _ _).drew
          refine wp_region_noPanic ?_
          refine wp_region_held_drew (S := fun V => True) (by kernel_rfl) (tHS.out _ tE0) (fun tH0 => ?_)
          obtain ⟨tv0, hv0⟩ : ∃ v, v = wr.drew := ⟨_, rfl⟩
          rw [← hv0] at tE0 ⊢
          clear hv0
          refine hr_take_w 0 (some 16) (.int .i64 ((0 : Nat) : Int)) rfl rfl (by kernel_rfl) (by kernel_rfl) (by kernel_rfl) rfl (fun W hW => by go_simp) tH0 ?_
          simp only [FL]
          refine hr_take_w 1 (some 17) (.int .i64 0) rfl rfl (by kernel_rfl) (by kernel_rfl) (by kernel_rfl) rfl (fun W hW => by go_simp) tH0 ?_
          simp only [FL]
          refine hr_take_w 2 (some 18) (.bool false) rfl rfl (by kernel_rfl) (by kernel_rfl) (by kernel_rfl) rfl (fun W hW => by go_simp) tH0 ?_
          simp only [FL]
          refine hr_take_w 3 (some 19) (.bool false) rfl rfl (by kernel_rfl) (by kernel_rfl) (by kernel_rfl) rfl (fun W hW => by go_simp) tH0 ?_
          simp only [FL]
          refine hr_none 4 (some 20) rfl rfl (by kernel_rfl) (by kernel_rfl) (by kernel_rfl) rfl tH0 ?_
          simp only [FL]
          refine hr_none 5 (some 21) rfl rfl (by kernel_rfl) (by kernel_rfl) (by kernel_rfl) rfl tH0 ?_
          simp only [FL]
          refine hr_none 6 (some 22) rfl rfl (by kernel_rfl) (by kernel_rfl) (by kernel_rfl) rfl tH0 ?_
          simp only [FL]
          refine hr_none 7 (some 23) rfl rfl (by kernel_rfl) (by kernel_rfl) (by kernel_rfl) rfl tH0 ?_
          simp only [FL]
          refine hr_none 8 (some 24) rfl rfl (by kernel_rfl) (by kernel_rfl) (by kernel_rfl) rfl tH0 ?_
          simp only [FL]
          refine hr_none 9 (some 25) rfl rfl (by kernel_rfl) (by kernel_rfl) (by kernel_rfl) rfl tH0 ?_
          simp only [FL]
          refine hr_none 10 (some 26) rfl rfl (by kernel_rfl) (by kernel_rfl) (by kernel_rfl) rfl tH0 ?_
          simp only [FL]
          refine hr_none 11 (some 27) rfl rfl (by kernel_rfl) (by kernel_rfl) (by kernel_rfl) rfl tH0 ?_
          simp only [FL]
          refine hr_none 12 (some 28) rfl rfl (by kernel_rfl) (by kernel_rfl) (by kernel_rfl) rfl tH0 ?_
          simp only [FL]
          refine hr_none 13 (some 29) rfl rfl (by kernel_rfl) (by kernel_rfl) (by kernel_rfl) rfl tH0 ?_
          simp only [FL]
          refine hr_take_w 14 (some 30) (.bool false) rfl rfl (by kernel_rfl) (by kernel_rfl) (by kernel_rfl) rfl (fun W hW => by go_simp) tH0 ?_
          simp only [FL]
          refine wpAnyH_done (by kernel_rfl) ?_ _
          refine NoPanic.normal ?_
          have HA1 := Arr.below HA tE0 HA.lt
          go_wp2
          go_roundw
          case rel => exact ⟨k + 1, L, by go_num, by omega, .inl (by omega), hP, hD.out, HA1, gro_trans HG (bel_grown tE0 _)⟩
          case measure => simp [intOf]; omega
    · have hge : ¬ (k : Int) < (n : Int) := by omega
      have hS3 : L.Pairwise (· ≤ ·) := SoTo.pair fun a b hab hb => hS a b hab (by omega)
      go_wp2
      go_end0
      exact ⟨L, rfl, hP, hS3, HA0, HG0⟩
open Go.RowKit Go.Shelf
attribute [local go_sem] Oper.semAt_some
theorem insort_nil (w : World) : Calls Try.prog 81 #[.slice none 0 0, .int .i64 0, .int .i64 0] w fun e w' => e = .returned (.tuple #[]) ∧ w' = w := by
  go_enter Try.func81, Try.ntmps81
  go_wp2
  refine wp_loop_rounds 1 ?_
  rw [rounds_succ]
  go_wp2
  go_end0
  exact ⟨rfl, rfl⟩
set_option maxRecDepth 100000 in
set_option maxHeartbeats 4000000 in
theorem pdq_nil (w : World) (lim : Int) : Calls Try.prog 77 #[.slice none 0 0, .int .i64 0, .int .i64 0, .int .i64 lim] w fun e w' => e = .returned (.tuple #[]) ∧ w' = w := by
  have CI := insort_nil w
  go_enter Try.func77, Try.ntmps77
  go_wp2
  refine wp_loop_rounds 1 ?_
  rw [rounds_succ]
  go_wp2_with (go_at_call 81; refine CI.mono ?_; rintro e w1 ⟨rfl, hw1⟩; have hw1 := hw1.symm; subst hw1)
  refine bodyPost_ret (results_none rfl _ _ _) rfl ?_
  exact ⟨rfl, rfl⟩
set_option maxRecDepth 100000 in
set_option maxHeartbeats 4000000 in
theorem pdq_u (w : World) (gb n cap : Nat) (L : List Nat) (rest : List Value) (hA : Arr w gb 30 (uv L ++ rest)) (hl : L.length = n) (hn : n ≤ 8) (lim : Int) :
    Calls Try.prog 77 #[.slice (some ⟨gb, 0, none⟩) n cap, .int .i64 0, .int .i64 (n : Nat), .int .i64 lim] w (SortPost w gb L rest) := by
  have CI := insort_u w gb n cap L rest hA hl hn
  have h12 : (n : Int) ≤ 12 := by omega
  clear hA hl
  go_enter Try.func77, Try.ntmps77
  go_wp2
  refine wp_loop_rounds 1 ?_
  rw [rounds_succ]
  go_wp2_with (go_at_call 81; refine CI.mono ?_; rintro e w1 ⟨L', rfl, h1⟩)
  go_end0
  exact ⟨L', rfl, h1⟩
set_option maxRecDepth 100000 in
set_option maxHeartbeats 4000000 in
theorem sort_nil (w : World) : Calls Try.prog 65 #[.slice none 0 0] w fun e w' => e = .returned (.tuple #[]) ∧ w' = w := by
  have CL := len_u 0 (by omega) w
  have CP := fun lim => pdq_nil w lim
  go_enter Try.func65, Try.ntmps65
  go_wp2_with (first
    | (go_at_call 78; refine CL.mono ?_; rintro e w1 ⟨⟨x, rfl⟩, hw1⟩; have hw1 := hw1.symm; subst hw1)
    | (go_at_call 77; refine (CP _).mono ?_; rintro e w1 ⟨rfl, hw1⟩; have hw1 := hw1.symm; subst hw1))
  go_end0
  exact ⟨rfl, rfl⟩
set_option maxRecDepth 100000 in
set_option maxHeartbeats 4000000 in
theorem sort_u (w : World) (gb n cap : Nat) (L : List Nat) (rest : List Value) (hA : Arr w gb 30 (uv L ++ rest)) (hl : L.length = n) (hn : n ≤ 8) :
    Calls Try.prog 65 #[.slice (some ⟨gb, 0, none⟩) n cap] w (SortPost w gb L rest) := by
  have CL := len_u n hn w
  have CP := fun lim => pdq_u w gb n cap L rest hA hl hn lim
  have wr64 : IntKind.u64.wrap (n : Int) = (n : Int) := by rw [IntKind.wrap_u64]; omega
  clear hA hl
  go_enter Try.func65, Try.ntmps65
  go_wp2_with (first
    | (go_at_call 78; refine CL.mono ?_; rintro e w1 ⟨⟨x, rfl⟩, hw1⟩; have hw1 := hw1.symm; subst hw1)
    | (go_at_call 77; refine (CP _).mono ?_; rintro e w1 ⟨L', rfl, h1⟩))
  go_end0
  exact ⟨L', rfl, h1⟩
def keysG (g : GT) : List Nat := (List.range' (g.low + 1) 8).filter fun k => (g.s k).isSome
theorem keysG_len (g : GT) : (keysG g).length ≤ 8 := by
  unfold keysG
  have := List.length_filter_le (fun k => (g.s k).isSome) (List.range' (g.low + 1) 8)
  rwa [List.length_range'] at this
theorem keysG_lt (g : GT) : (keysG g).Pairwise (· < ·) := List.Pairwise.filter _ (List.pairwise_lt_range' 1)
theorem nodup_lt {l : List Nat} (h : l.Pairwise (· < ·)) : l.Nodup := h.imp fun h => Nat.ne_of_lt h
theorem perm_col {w : World} {base L M n : Nat} {g : GT} {F : Value → Option Value} {B : Nat → SB} {ρ : Nat → Nat} (h : LG w base L M n g F B ρ) {D : DataW Value}
    (hF : ∀ v l, keyOf Try.prog 30 v = some l → (F v = none ∧ Maps.has D l = false ∧ ∀ z, D.atKey l z = z) ∨ ∃ u, F v = some u ∧ Maps.has D l = true ∧ ∀ z, D.atKey l z = .held u)
    {ss : List Nat} (hC : ColU D (fun _ => false) ss) : ss.Perm (keysG g) := by
  refine (List.perm_ext_iff_of_nodup hC.1 (nodup_lt (keysG_lt g))).2 fun a => ?_
  have lz := h.lowz
  have key : ∀ x : Nat, x < 18446744073709551616 → (Maps.has D (.int .u64 (x : Nat)) = true ↔ (g.s x).isSome = true) := fun x hx => by
    have hk := keyU x hx
    have hk2 : keyOf Try.prog 30 (.int .u64 (x : Nat)) = some (.int .u64 (x : Nat)) := hk
    rcases hF _ _ hk2 with ⟨h1, h2, _⟩ | ⟨u, h1, h2, _⟩
    · rw [h2]
      cases hs : g.s x with
      | none => simp
      | some y =>
        rw [(h.here x y hs).1] at h1
        cases h1
    · rw [h2]
      obtain ⟨j, e, hj⟩ := h.no _ (by rw [h1]; simp)
      simp only [Value.int.injEq, true_and] at e
      obtain rfl : j = x := by omega
      cases hs : g.s j with
      | none => exact absurd hs hj
      | some y => simp
  unfold keysG
  rw [List.mem_filter, List.mem_range'_1]
  constructor
  · intro ha
    have h64 := hC.2.1 a ha
    have := (key a h64).1 ((hC.2.2 a h64).1 ha).1
    refine ⟨?_, this⟩
    cases hs : g.s a with
    | none => rw [hs] at this; cases this
    | some y =>
      have := h.win a y hs
      omega
  · rintro ⟨h1, h2⟩
    have h64 : a < 18446744073709551616 := by omega
    exact (hC.2.2 a h64).2 ⟨(key a h64).2 h2, rfl⟩
theorem sorted_eq {g : GT} {L : List Nat} (hp : L.Perm (keysG g)) (hs : L.Pairwise (· ≤ ·)) : L = keysG g :=
  List.Perm.eq_of_pairwise (fun _ _ _ _ h1 h2 => Nat.le_antisymm h1 h2) hs ((keysG_lt g).imp fun h => Nat.le_of_lt h) hp
def KeysPost (w : World) (g : GT) (e : Ending) (w' : World) : Prop := ∃ ao cap, e = .returned (.slice ao (keysG g).length cap) ∧ (∀ j, j < (keysG g).length → ∃ gb, ao = some ⟨gb, 0, none⟩ ∧ w.heap.size ≤ gb ∧ w'.cell? ⟨gb, j, none⟩ = some (.int .u64 ((keysG g).getD j 0 : Nat))) ∧ (keysG g).length ≤ cap ∧ cap ≤ maxLen ∧ Below w.heap.size w w'
set_option maxRecDepth 100000 in
set_option maxHeartbeats 4000000 in
theorem sorted_any (w : World) (base L M n : Nat) (g : GT) (F : Value → Option Value) (B : Nat → SB) (ρ : Nat → Nat) (h : LG w base L M n g F B ρ) (hn : n ≤ 1000000) (Bm : Nat) (hBm : w.cell? ⟨Bm, 0, none⟩ = some (.map (some M))) :
    Calls Try.prog 40 #[.func (.func 66) #[] #[.pointer (some ⟨Bm, 0, none⟩)]] w (KeysPost w g) := by
  obtain ⟨D, hown, hsz, hF⟩ := h.mf
  have CC := (callsIn_wide (n := 4)).1 (collect_u 4 (Nat.le_refl _) Bm M n D F hF (by omega) w hBm hown)
  have HP : Hid (∀ ss, ColU D (fun _ => false) ss → ss.Perm (keysG g)) := fun ss hC => perm_col h hF hC
  have HL : Hid ((keysG g).length ≤ 8) := keysG_len g
  clear h hown hF hBm hsz
  go_enter Try.func40, Try.ntmps40
  go_wp2_with fail
  refine CC.mono ?_
  rintro e w1 ⟨v, ss, rfl, hC, hrow, hB⟩
  have hp := HP.out ss hC
  have hlen := hp.length_eq
  rcases hrow.2 with ⟨rfl, hz⟩ | ⟨gb, cap, cur, rfl, hbase, hgb, r1, r2, r3, r4⟩
  · have h0 : Hid ((keysG g).length = 0) := by show _ = _; omega
    have CS := sort_nil w1
    clear hlen hrow hC hp HP
    go_wp2_with (go_at_call 65; refine CS.mono ?_; rintro e w2 ⟨rfl, hw2⟩; have hw2 := hw2.symm; subst hw2)
    go_ret
    have h0 := h0.out
    exact ⟨none, 0, by rw [h0]; rfl, fun j hj => by omega, by omega, by decide, hB⟩
  · have hA : Arr w1 gb 30 (uv ss ++ cur.toList.drop ss.length) := by
      rw [Nat.mul_one] at r4
      rw [← r4, List.take_append_drop]
      exact hgb
    have hl8 := HL.out
    have CS := sort_u w1 gb ss.length cap ss _ hA rfl (by omega)
    have HLEN : Hid (ss.length = (keysG g).length) := hlen
    have HH : Hid (ss.Perm (keysG g) ∧ w.heap.size ≤ gb ∧ ss.length ≤ cap ∧ cap ≤ maxLen ∧ Below w.heap.size w w1) := ⟨hp, hbase, r1, r2, hB⟩
    clear hA hgb hlen r3 r4 hp hbase r1 r2 hl8 hrow hC hB HP
    go_wp2_with (go_at_call 65; refine CS.mono ?_; rintro e w2 ⟨L', rfl, p1, p2, p3, p4⟩)
    go_ret
    obtain ⟨hp, hbase, r1, r2, hB⟩ := HH.out
    have hlen := HLEN.out
    obtain rfl := sorted_eq (p1.trans hp) p2
    have q1 : Ending.returned (.slice (some ⟨gb, 0, none⟩) ss.length cap) = .returned (.slice (some ⟨gb, 0, none⟩) (keysG g).length cap) := by simp only [hlen]
    have q2 : ∀ j, j < (keysG g).length → w2.cell? ⟨gb, j, none⟩ = some (.int .u64 ((keysG g).getD j 0 : Nat)) := fun j hj => uvr_at p3 j hj
    have q3 : Below w.heap.size w w2 := hB.grown p4 hB.size fun j hj => by cases hj; exact hbase
    exact ⟨some ⟨gb, 0, none⟩, cap, q1, fun j hj => ⟨gb, rfl, hbase, q2 j hj⟩, by omega, r2, q3⟩
end Go.Proofs.Ytbpbcmbcoffdlaa

/-
  Texts in one: SlCommit, SlKeys, SlDel, SlAdv, SlAdvance, SlVals, HRegIn, HRegE, HRegG, SlCloneAll, SlEnter, SlOne, SlSeq, SlSortA.
-/
import Derived.Test.YtbbhokodleaheaaSlotsTwoQFL
import Derived.Test.YtbbhokodleaheaaSlotsTwoQ1
import Derived.RangeFuncBox
import Derived.RangeFuncLeaves
import Derived.Shelf.Abstract
import Derived.OwnWalkIn
import Derived.TacticsInMore
import Derived.LoopNIn
import Derived.LoopIn
import Derived.Sort.MapsRangeIn
import Derived.Maps.RangeWalk
import Derived.Maps.Ext
import Derived.Test.YtbbhokodleaheaaSlotsTwoQ0
import Derived.RangeFuncCalls
import Derived.OrdersIn
import Derived.ControlIn
import Derived.RangeFuncNested
import Derived.Maps.AppendAt
namespace Go.Proofs.Ytbbhokodleaheaa
open Go.RowKit
set_option maxRecDepth 100000 in
set_option maxHeartbeats 4000000 in
theorem commit_any (w : World) (base L M n : Nat) (g : GT) (F : Value → Option Value) (B : Nat → SB) (ρ : Nat → Nat) (h : LG w base L M n g F B ρ) (hn : n < maxLen) (s : SA) (sok : s.ok w) (sr : ∀ z, s.blk z → ρ z = 0) (sz : s.b.n ≤ 1000000 ∧ s.tag.n ≤ 1000000) (seq : Nat) (hs : seq < 18446744073709551616)
    (ao : Option Addr) (n1 cap : Nat) (xs : List Int) (S : Sl w ao n1 cap xs) (Sr : ∀ z, sblk ao n1 z → ρ z = 0) (n1z : n1 ≤ 1000000) :
    Calls Try.prog 29 #[.pointer (some ⟨L, 0, none⟩), s.val, .int .u64 (seq : Nat), .slice ao n1 cap] w (MsgPost w base L M n ρ (comG g s.v seq (strOfNums xs))) := by
  have hF : Hid (comG g s.v seq (strOfNums xs) = comG g s.v seq (strOfNums xs)) := rfl
  have lz := h.lowz
  have vz := h.viewz
  obtain ⟨W1, hW1⟩ : ∃ W1, W1 = (w.alloc (.cells #[.int .u64 s.fr, .slice s.b.ao s.b.n s.b.cap, .slice s.tag.ao s.tag.n s.tag.cap] 62)) := ⟨_, rfl⟩
  have b1 : Below w.heap.size w W1 := by rw [hW1]; exact (Below.refl _ w).alloc (Nat.le_refl _) _
  have AX : Arr W1 w.heap.size 62 [.int .u64 s.fr, .slice s.b.ao s.b.n s.b.cap, .slice s.tag.ao s.tag.n s.tag.cap] := by rw [hW1]; exact heap_alloc_new w _
  have x0 : W1.cell? ⟨w.heap.size, 0, none⟩ = some (.int .u64 s.fr) := AX.cell 0
  have HA : Hid (Arr W1 w.heap.size 62 [.int .u64 s.fr, .slice s.b.ao s.b.n s.b.cap, .slice s.tag.ao s.tag.n s.tag.cap]) := AX
  obtain ⟨K1, T1⟩ := h.below b1
  have R1 : rho w ρ w.heap.size = 0 := rho_new (Nat.le_refl _)
  have CJ := judge_log W1 L g.f g.low g.view M s.fr seq K1.lc h.f1 h.f4 (by omega) hs
  have HG : Hid (LG W1 base L M n g F B (rho w ρ) ∧ Stp base w W1 ρ (rho w ρ) ∧ rho w ρ w.heap.size = 0) := ⟨K1, T1, R1⟩
  have HS : Hid ((s.ok w ∧ ∀ z, s.blk z → ρ z = 0) ∧ Sl w ao n1 cap xs ∧ ∀ z, sblk ao n1 z → ρ z = 0) := ⟨⟨sok, sr⟩, S, Sr⟩
  have HQ : Hid (g.view < 18446744073709551616 ∧ s.fr < 18446744073709551616) := ⟨by omega, sok.fr⟩
  by_cases cj : jdgS g.f g.low s.fr seq ≠ 0
  · have hv : Hid (comG g s.v seq (strOfNums xs) = (g, jdgS g.f g.low s.fr seq)) := if_pos cj
    have tj : (jdgS g.f g.low s.fr seq != 0) = true := by simpa using cj
    rw [hv.out]
    generalize jdgS g.f g.low s.fr seq = jd at *
    clear h b1 AX K1 T1 R1 sok sr S Sr lz vz cj hF
    unfold SA.val
    go_enter Try.func29, Try.ntmps29
    go_wp2_with fail
    rw [← hW1]
    clear hW1
    go_wp2_with (go_at_call 48; refine CJ.mono ?_; rintro e w1 ⟨rfl, hw1⟩; have hw1 := hw1.symm; subst hw1)
    go_ret
    exact ⟨n, F, B, rho w ρ, rfl, HG.out.1, HG.out.2.1, by omega⟩
  have tj : (jdgS g.f g.low s.fr seq != 0) = false := by simpa using cj
  have hv : Hid (comG g s.v seq (strOfNums xs) = (g.put seq { g.slot seq with cv := (addCv g s.v seq (strOfNums xs)).1 }, (addCv g s.v seq (strOfNums xs)).2)) := if_neg cj
  have cj := Decidable.not_not.1 cj
  rw [hv.out]
  clear h b1 AX K1 T1 R1 sok sr S Sr lz vz hF
  unfold SA.val
  go_enter Try.func29, Try.ntmps29
  go_wp2_with fail
  rw [← hW1]
  clear hW1
  go_wp2_with (go_at_call 48; refine CJ.mono ?_; rintro e w1 ⟨rfl, hw1⟩; have hw1 := hw1.symm; subst hw1)
  have tHS : Hid (∀ V, Below W1.heap.size W1 V → V.cell? ⟨w.heap.size, 0, none⟩ = some (.int .u64 s.fr) ∧ V.cell? ⟨w.heap.size, 1, none⟩ = some (.slice s.b.ao s.b.n s.b.cap) ∧ V.cell? ⟨w.heap.size, 2, none⟩ = some (.slice s.tag.ao s.tag.n s.tag.cap)) := fun V hV => by have K := Arr.below HA.out hV HA.out.lt; exact ⟨K.cell 0, K.cell 1, K.cell 2⟩
  have tE0 : Below W1.heap.size W1 W1.drew := (Below.refl _ _).drew
  refine wp_region_noPanic ?_
  refine wp_region_held_drew (S := fun V => V.cell? ⟨w.heap.size, 0, none⟩ = some (.int .u64 s.fr) ∧ V.cell? ⟨w.heap.size, 1, none⟩ = some (.slice s.b.ao s.b.n s.b.cap) ∧ V.cell? ⟨w.heap.size, 2, none⟩ = some (.slice s.tag.ao s.tag.n s.tag.cap)) (by kernel_rfl) (tHS.out _ tE0) (fun tH0 => ?_)
  obtain ⟨tv0, hv0⟩ : ∃ v, v = W1.drew := ⟨_, rfl⟩
  rw [← hv0] at tH0 tE0 ⊢
  clear hv0
  refine hr_take_w 0 (some 18) (.pointer (some ⟨L, 0, none⟩)) rfl rfl (by kernel_rfl) (by kernel_rfl) (by kernel_rfl) rfl (fun W hW => by obtain ⟨h0, h1, h2⟩ := hW; go_simp) tH0 ?_
  simp only [FL]
  refine hr_take_w 1 (some 19) (.int .u64 (seq : Nat)) rfl rfl (by kernel_rfl) (by kernel_rfl) (by kernel_rfl) rfl (fun W hW => by obtain ⟨h0, h1, h2⟩ := hW; go_simp) tH0 ?_
  simp only [FL]
  refine hr_take_w 7 (some 25) (.agg #[.int .u64 s.fr, .slice s.b.ao s.b.n s.b.cap, .slice s.tag.ao s.tag.n s.tag.cap]) rfl rfl (by kernel_rfl) (by kernel_rfl) (by kernel_rfl) rfl (fun W hW => by obtain ⟨h0, h1, h2⟩ := hW; go_simp) tH0 ?_
  simp only [FL]
  refine hr_take_w 8 (some 26) (.slice ao n1 cap) rfl rfl (by kernel_rfl) (by kernel_rfl) (by kernel_rfl) rfl (fun W hW => by obtain ⟨h0, h1, h2⟩ := hW; go_simp) tH0 ?_
  simp only [FL]
  obtain ⟨K2, T2⟩ := HG.out.1.below tE0
  refine hr_call_w 2 (some 20) 50 #[.pointer (some ⟨L, 0, none⟩), .int .u64 (seq : Nat)] rfl rfl (by kernel_rfl) rfl (by go_simp) (fun v w' => ∃ n' F' B' ρ', v = .pointer (some ⟨(B' seq).X, 0, none⟩) ∧ LG w' base L M n' (g.put seq (g.slot seq)) F' B' ρ' ∧ Stp base tv0 w' (rho W1 (rho w ρ)) ρ' ∧ n' ≤ n + 1) ((slot_any tv0 base L M n g F B _ K2 hn seq (jdgS_win cj)).mono (by
    rintro e w' ⟨n3, F3, B3, ρ3, rfl, h1⟩
    exact ⟨_, rfl, n3, F3, B3, ρ3, rfl, h1⟩)) ?_
  rintro v w3 ⟨n3, F3, B3, ρ3, rfl, K3, T3, hn3⟩
  have TT := (HG.out.2.1.trans T2).trans T3
  have sok3 := TT.sa HS.out.1.1 HS.out.1.2
  have S3 := TT.sl HS.out.2.1 HS.out.2.2
  obtain ⟨-, HX⟩ := K3.here seq _ (g.put_same _ _)
  obtain ⟨q1, q2, q3, q4⟩ := K3.ro seq _ (g.put_same _ _)
  have AB : Arr w3 w.heap.size 62 [.int .u64 s.fr, .slice s.b.ao s.b.n s.b.cap, .slice s.tag.ao s.tag.n s.tag.cap] := ((T2.trans T3).keep _ HA.out.lt (.inl HG.out.2.2)).trans HA.out
  have rB : ρ3 w.heap.size = 0 := ((T2.trans T3).role _ HA.out.lt).trans HG.out.2.2
  have nBq : w.heap.size ≠ (B3 seq).q := fun e => by rw [← e, rB] at q3; omega
  have c6 : w3.cell? ⟨(B3 seq).X, 6, none⟩ = some (.pointer (some ⟨(B3 seq).q, 0, none⟩)) := HX.cell 6
  have tH3 : w3.cell? ⟨w.heap.size, 0, none⟩ = some (.int .u64 s.fr) ∧ w3.cell? ⟨w.heap.size, 1, none⟩ = some (.slice s.b.ao s.b.n s.b.cap) ∧ w3.cell? ⟨w.heap.size, 2, none⟩ = some (.slice s.tag.ao s.tag.n s.tag.cap) := ⟨AB.cell 0, AB.cell 1, AB.cell 2⟩
  refine ⟨tH3, ?_⟩
  simp only [FL]
  refine hr_do 3 (some 21) (.pointer (some ⟨(B3 seq).X, 0, none⟩)) rfl rfl (by kernel_rfl) rfl (w' := w3) (by go_simp) tH3 ?_
  simp only [FL]
  refine hr_do 4 (some 22) (.pointer (some ⟨(B3 seq).X, 0, none⟩)) rfl rfl (by kernel_rfl) rfl (w' := w3) (by go_simp) tH3 ?_
  simp only [FL]
  refine hr_do 5 (some 23) (.pointer (some ⟨(B3 seq).X, 6, none⟩)) rfl rfl (by kernel_rfl) rfl (w' := w3) (by go_simp) tH3 ?_
  simp only [FL]
  refine hr_do 6 (some 24) (.pointer (some ⟨(B3 seq).q, 0, none⟩)) rfl rfl (by kernel_rfl) rfl (w' := w3) (by go_simp) tH3 ?_
  simp only [FL]
  refine hr_call_w 9 (some 27) 53 #[.pointer (some ⟨(B3 seq).q, 0, none⟩), .agg #[.int .u64 s.fr, .slice s.b.ao s.b.n s.b.cap, .slice s.tag.ao s.tag.n s.tag.cap], .slice ao n1 cap] rfl rfl (by kernel_rfl) rfl (by go_simp) (fun v w' => v = .int .i64 (addCv g s.v seq (strOfNums xs)).2 ∧ QS w' (B3 seq).q g.f (addCv g s.v seq (strOfNums xs)).1 ∧ w3.grownBy w' (some (B3 seq).q)) ((add_any w3 (B3 seq).q g.f (g.slot seq).cv HX.Q s.fr HQ.out.2 s.b.ao s.tag.ao ao s.b.n s.b.cap s.tag.n s.tag.cap n1 cap s.b.xs s.tag.xs xs sok3.1.b sok3.1.tag S3.1 sz.1 sz.2 n1z).mono (by
    rintro e w' ⟨rfl, h1, h2⟩
    exact ⟨_, rfl, rfl, h1, h2⟩)) ?_
  rintro v w5 ⟨rfl, Q5, G5⟩
  have tH5 : w5.cell? ⟨w.heap.size, 0, none⟩ = some (.int .u64 s.fr) ∧ w5.cell? ⟨w.heap.size, 1, none⟩ = some (.slice s.b.ao s.b.n s.b.cap) ∧ w5.cell? ⟨w.heap.size, 2, none⟩ = some (.slice s.tag.ao s.tag.n s.tag.cap) := ⟨(grown_cell G5 AB.lt nBq).trans tH3.1, (grown_cell G5 AB.lt nBq).trans tH3.2.1, (grown_cell G5 AB.lt nBq).trans tH3.2.2⟩
  refine ⟨tH5, ?_⟩
  simp only [FL]
  refine hr_take_w 10 (some 8) (.int .i64 (addCv g s.v seq (strOfNums xs)).2) rfl rfl (by kernel_rfl) (by kernel_rfl) (by kernel_rfl) rfl (fun W hW => by obtain ⟨h0, h1, h2⟩ := hW; go_simp) tH5 ?_
  simp only [FL]
  refine wpAnyH_done (by kernel_rfl) ?_ _
  refine NoPanic.normal ?_
  go_wp2
  go_ret
  obtain ⟨K5, T5⟩ := K3.putCv (g.put_same _ _) Q5 G5
  rw [g.put_put] at K5
  exact ⟨n3, F3, _, _, rfl, K5, TT.trans T5, hn3⟩
open Go.RowKit Go.Shelf
attribute [local go_sem] Oper.semAt_some
abbrev eU (x : Nat) : Value := .int .u64 (x : Nat)
def ColU (D : DataW Value) (left : Lit → Bool) (ss : List Nat) : Prop := ss.Nodup ∧ (∀ x ∈ ss, x < 18446744073709551616) ∧ ∀ x : Nat, x < 18446744073709551616 → (x ∈ ss ↔ (Maps.has D (.int .u64 (x : Nat)) = true ∧ left (.int .u64 (x : Nat)) = false))
theorem ColU.start (D : DataW Value) : ColU D (Maps.has D) [] := ⟨List.nodup_nil, fun _ h => absurd h List.not_mem_nil, fun x _ => by cases Maps.has D (.int .u64 (x : Nat)) <;> simp⟩
theorem same_int (x y : Nat) : (Lit.int .u64 (x : Nat)).sameKey (.int .u64 (y : Nat)) = decide (x = y) := by
  simp [Lit.sameKey]
  omega
theorem ColU.step {D : DataW Value} {left : Lit → Bool} {ss : List Nat} (h : ColU D left ss) {x : Nat} (hx : x < 18446744073709551616) (hl : left (.int .u64 (x : Nat)) = true) (hh : Maps.has D (.int .u64 (x : Nat)) = true) : ColU D (fun z => left z && !z.sameKey (.int .u64 (x : Nat))) (ss ++ [x]) := by
  have hn : x ∉ ss := fun hm => by
    have := ((h.2.2 x hx).1 hm).2
    rw [hl] at this
    cases this
  refine ⟨List.nodup_append.2 ⟨h.1, by simp, fun a ha b hb => ?_⟩, fun y hy => ?_, fun y hy => ?_⟩
  · rw [List.mem_singleton.1 hb]
    rintro rfl
    exact hn ha
  · rcases List.mem_append.1 hy with hy | hy
    · exact h.2.1 y hy
    · rw [List.mem_singleton.1 hy]
      exact hx
  · rw [List.mem_append, List.mem_singleton, h.2.2 y hy]
    show _ ↔ (Maps.has D (.int .u64 (y : Nat)) = true ∧ (left (.int .u64 (y : Nat)) && !(Lit.int .u64 (y : Nat)).sameKey (.int .u64 (x : Nat))) = false)
    rw [same_int]
    by_cases e : y = x
    · subst e
      simp [hh]
    · simp [e]
theorem keyU_inv {key : Value} {kl : Lit} (h : keyOf Try.prog 30 key = some kl) : ∃ x : Nat, key = eU x ∧ kl = .int .u64 (x : Nat) ∧ x < 18446744073709551616 := by
  obtain ⟨x, rfl, rfl, hw⟩ := Maps.keyOf_int_inv Try.underlying30 h
  simp [Lit.wf, IntKind.min, IntKind.max, IntKind.signed, IntKind.bits] at hw
  exact ⟨x.toNat, by unfold eU; rw [Int.toNat_of_nonneg hw.1], by rw [Int.toNat_of_nonneg hw.1], by omega⟩
theorem has_of_at {D : DataW Value} {F : Value → Option Value} {v : Value} {l : Lit} {y : DataW Value} (hF : (F v = none ∧ Maps.has D l = false ∧ ∀ z, D.atKey l z = z) ∨ ∃ u, F v = some u ∧ Maps.has D l = true ∧ ∀ z, D.atKey l z = .held u) (h : ∀ z, D.atKey l z = y) : Maps.has D l = true := by
  rcases hF with ⟨_, _, h3⟩ | ⟨u, _, h2, _⟩
  · have a := (h3 (.held (.bool true))).symm.trans (h _)
    have b := (h3 (.held (.bool false))).symm.trans (h _)
    rw [← b] at a
    cases a
  · exact h2
set_option maxRecDepth 100000 in
set_option maxHeartbeats 4000000 in
theorem keys1_u (F : Fence) (n : Nat) (hf : F.fn 66) (hro : F.round = none) (hn : 1 ≤ n) (l Bm b nn : Nat) (D : DataW Value) (G : Value → Option Value)
    (hG : ∀ v l, keyOf Try.prog 30 v = some l → (G v = none ∧ Maps.has D l = false ∧ ∀ z, D.atKey l z = z) ∨ ∃ u, G v = some u ∧ Maps.has D l = true ∧ ∀ z, D.atKey l z = .held u)
    (J Jx : List Nat → World → Prop) (W : World) (hJ : AbidesFrom W.heap.size J)
    (hY : ∀ pre x W1, J pre W1 → pre.length < Maps.size D → YieldAt F (n - 1) Try.prog l #[eU x] W1 fun e W' =>
      (e = .returned (.bool true) ∧ J (pre ++ [x]) W' ∧ KeepsWalks W1 W') ∨ (e = .returned (.bool false) ∧ Jx (pre ++ [x]) W'))
    (hBm : W.cell? ⟨Bm, 0, none⟩ = some (.map (some b))) (hown : W.ownsMap Try.prog 30 vElem b nn D) (h0 : J [] W) :
    CallsIn F n Try.prog 66 #[.func (.yield l) #[] #[], .pointer (some ⟨Bm, 0, none⟩)] W fun e W' => (∃ v, e = .returned v) ∧
      ((∃ ss, ColU D (fun _ => false) ss ∧ J ss W') ∨ (∃ pre, True ∧ Jx pre W')) := by
  refine callsIn_of_wp Try.func66 rfl hf ?_ hro
  simp only [Try.ntmps66, List.size_toArray, List.length_cons, List.length_nil, Nat.reduceAdd, Nat.reduceSub, Array.replicate_succ, Array.replicate_zero, List.push_toArray, List.append_toArray, List.nil_append, List.cons_append]
  gi_wp2_with (first
    | (gi_at_range; refine wpListIn_range_own _ rfl _ 67 rfl 30 80 kU Try.underlying67 _ b nn _ rfl hown ?_; intro w0 hrg0 hg0 hs0)
    | gi_in)
  go_frame
  gi_loopw [3] (fun _ wr => ∃ (left : Lit → Bool) (cnt : Nat) (ss : List Nat), wr.ranges Try.prog 30 vElem b W.heap.size nn D left cnt ∧ ss.length + cnt ≤ Maps.size D ∧ ColU D left ss ∧ J ss wr)
    (fun _ wr => wr.rangeLeft b W.heap.size)
  case atStart =>
    exact ⟨_, _, [], hrg0, by simp, ColU.start D, hJ [] W w0 none h0 hg0 (fun r e => by cases e)⟩
  case round =>
    obtain ⟨left, cnt, ss, hrg, hcs, hC, hJs⟩ := hrel
    gi_wp2_with (first
      | (gi_at_next; refine wpListIn_next_ranges _ rfl _ rfl 30 kU vElem eU id (fun key kl hk => by obtain ⟨x, hx, _⟩ := keyU_inv hk; exact ⟨x, hx⟩) (fun v _ _ => ⟨v, rfl⟩) b W.heap.size nn _ _ _ rfl hrg ?_ ?_)
      | gi_in)
    · intro hc0 hl0
      have e : left = fun _ => false := funext hl0
      rw [e] at hC
      gi_wp2
      go_end0
      exact ⟨⟨_, rfl⟩, .inl ⟨ss, hC, hJs⟩⟩
    · intro x c kl yd yp w2 cnt2 hkey hlk hv hat hrg2 hlt hg2 hs2 hen
      obtain ⟨x', ex, rfl, hx64⟩ := keyU_inv hkey
      obtain rfl : x = x' := by
        unfold eU at ex
        simp only [Value.int.injEq, true_and] at ex
        omega
      have hJ2 : J ss w2 := hJ ss wr w2 (some W.heap.size) hJs hg2 (fun r e => by cases e; exact ⟨Nat.le_refl _, hrg.iter_walk⟩)
      have hh := has_of_at (hG _ _ hkey) hat
      obtain ⟨fn, tmps, assign, body, hy, hR⟩ := hY ss x w2 hJ2 (by omega)
      clear hs2
      gi_wp2
      refine hR.mono ?_
      clear hR hy
      rintro e W3 (⟨rfl, hJ3, hk3⟩ | ⟨rfl, hJx3⟩)
      · gi_wp2
        have hrg3 := hrg2.of_walks hk3
        go_roundw
        case rel => exact ⟨_, cnt2, ss ++ [x], hrg3, by simp; omega, hC.step hx64 hlk hh, hJ3⟩
        case measure => rw [hrg3.left_eq, hrg.left_eq]; exact hlt
      · gi_wp2
        refine bodyPost_ret (results_none rfl _ _ _) rfl ?_
        exact ⟨⟨_, rfl⟩, .inr ⟨_, trivial, hJx3⟩⟩
set_option maxHeartbeats 1000000 in
theorem keys_u (F : Fence) (n : Nat) (hf : F.fn 41) (hro : F.round = none) (mb : Option Nat) (w : World) :
    CallsIn F n Try.prog 41 #[.map mb] w fun e w' => e = .returned (.func (.func 66) #[] #[.pointer (some ⟨w.heap.size, 0, none⟩)]) ∧ w' = w.alloc (.cells #[.map mb] 67) := by
  refine callsIn_of_wp Try.func41 rfl hf ?_ hro
  simp only [Try.ntmps41, List.size_toArray, List.length_cons, List.length_nil, Nat.reduceAdd, Nat.reduceSub, Array.replicate_succ, Array.replicate_zero, List.push_toArray, List.append_toArray, List.nil_append, List.cons_append]
  gi_wp2
  go_ret
  exact ⟨rfl, rfl⟩
theorem keys_stopsU (F : Fence) (n : Nat) (hf : F.fn 66) (hro : F.round = none) (hn : 1 ≤ n) (Bm b nn : Nat) (D : DataW Value) (G : Value → Option Value)
    (hG : ∀ v l, keyOf Try.prog 30 v = some l → (G v = none ∧ Maps.has D l = false ∧ ∀ z, D.atKey l z = z) ∨ ∃ u, G v = some u ∧ Maps.has D l = true ∧ ∀ z, D.atKey l z = .held u)
    (w : World) (hBm : w.cell? ⟨Bm, 0, none⟩ = some (.map (some b))) (hown : w.ownsMap Try.prog 30 vElem b nn D) :
    SeqStopsK F n Try.prog 66 #[.pointer (some ⟨Bm, 0, none⟩)] (fun x : Nat => #[eU x]) KeepsWalks (ColU D fun _ => false) (fun _ => True) (Maps.size D) w := fun l J Jx W hW aJ _ hY h0 => by
  have hown' : W.ownsMap Try.prog 30 vElem b nn D := by
    have hbl := hown.lt
    obtain ⟨es, clock, hb, Ft, hs, hD⟩ := hown
    exact ⟨es, clock, (hW.block b hbl).trans hb, Ft, hs, hD⟩
  exact keys1_u F n hf hro hn l Bm b nn D G hG J Jx W aJ hY ((hW.cell (p := ⟨Bm, 0, none⟩) (World.block_lt_of_cell? w _ hBm)).trans hBm) hown' h0
open Go.RowKit
def TriF (D : DataW Value) (F : Value → Option Value) : Prop := ∀ v l, keyOf Try.prog 30 v = some l → (F v = none ∧ Maps.has D l = false ∧ ∀ z, D.atKey l z = z) ∨ ∃ u, F v = some u ∧ Maps.has D l = true ∧ ∀ z, D.atKey l z = .held u
theorem MF.of {w : World} {b n : Nat} {D : DataW Value} {F : Value → Option Value} (h : w.ownsMap Try.prog 30 vElem b n D) (hT : TriF D F) : MF w 30 b (Maps.size D) F := by
  refine ⟨D, ?_, rfl, hT⟩
  obtain ⟨es, clock, hb, F0, hs, hD⟩ := h
  refine ⟨es, clock, hb, F0, ?_, hD⟩
  rw [hD]
  simp [Maps.size, length_sorted]
theorem MF.size_le {w : World} {b n : Nat} {D : DataW Value} (h : w.ownsMap Try.prog 30 vElem b n D) : Maps.size D ≤ n := by
  obtain ⟨es, clock, hb, F0, hs, hD⟩ := h
  rw [hD]
  simpa [Maps.size, length_sorted] using hs
theorem TriF.del {D : DataW Value} {F : Value → Option Value} (h : TriF D F) (x : Nat) (hx : x < 18446744073709551616) (F' : Value → Option Value) (h1 : F' (eU x) = none) (h2 : ∀ v, v ≠ eU x → F' v = F v) : TriF (D.del (.int .u64 (x : Nat))) F' := fun v l hv => by
  have hk := keyU x hx
  by_cases e : v = eU x
  · subst e
    have hv2 : keyOf Try.prog 30 (.int .u64 (x : Nat)) = some l := hv
    rw [hk] at hv2
    obtain rfl := Option.some.inj hv2
    exact .inl ⟨h1, Maps.has_del_same, fun z => Maps.atKey_del_same z⟩
  · have hne : l ≠ .int .u64 (x : Nat) := fun q => e (kU.inj hv (by rw [q]; exact hk))
    rw [h2 v e]
    rcases h v l hv with ⟨a1, a2, a3⟩ | ⟨u, a1, a2, a3⟩
    · exact .inl ⟨a1, by rw [Maps.has_del_other hne]; exact a2, fun z => by rw [Maps.atKey_del_other hne]; exact a3 z⟩
    · exact .inr ⟨u, a1, by rw [Maps.has_del_other hne]; exact a2, fun z => by rw [Maps.atKey_del_other hne]; exact a3 z⟩
set_option maxRecDepth 100000 in
set_option maxHeartbeats 4000000 in
theorem delete_u (w : World) (M n : Nat) (F : Value → Option Value) (hM : MF w 30 M n F) (pd : Nat → Bool) (gn : Nat) (cb : Array Value) (eg : ∀ args w, (callFunc gn args).run Try.prog w = .ok (.enter gn args) w)
    (hdel : ∀ (W : World) (x : Nat) (v : Value), w.grownBy W (some M) → x < 18446744073709551616 → F (eU x) = some v → Calls Try.prog gn (#[eU x, v] ++ cb) W fun e w' => e = .returned (.bool (pd x)) ∧ W.grownBy w' none) :
    Calls Try.prog 54 #[.map (some M), .func (.func gn) #[] cb] w fun e w' => e = .returned (.tuple #[]) ∧ (∃ n' F', MF w' 30 M n' F' ∧ n' ≤ n ∧ (∀ x, x < 18446744073709551616 → F' (eU x) = if pd x = true then none else F (eU x)) ∧ ∀ v, F' v ≠ none → F v ≠ none) ∧ w.grownBy w' (some M) := by
  obtain ⟨D0, hown, hsz, hT⟩ := hM
  have HD : Hid _ := hdel
  have HT : Hid (TriF D0 F) := hT
  clear hdel hT
  go_enter Try.func54, Try.ntmps54
  go_wp2_with (first
    | (at_range; refine wpList_range_own _ rfl _ 67 rfl 30 80 kU Try.underlying67 vElem M n _ rfl hown ?_; intro w0 hrg0 hg0 hs0)
    | go_in)
  go_frame
  go_loopw [8] (fun _ wr => ∃ (D : DataW Value) (left : Lit → Bool) (cnt : Nat) (Fc : Value → Option Value), wr.ranges Try.prog 30 vElem M w.heap.size n D left cnt ∧ Hid (TriF D Fc ∧ (∀ x, x < 18446744073709551616 → Fc (eU x) = if (pd x && !left (.int .u64 (x : Nat))) = true then none else F (eU x)) ∧ ∀ v, Fc v ≠ none → F v ≠ none) ∧ w.grownBy wr (some M))
    (fun _ wr => wr.rangeLeft M w.heap.size)
  case atStart =>
    refine ⟨_, _, _, F, hrg0, ⟨HT.out, fun x hx => ?_, fun _ h => h⟩, hg0.but _⟩
    cases hp : (pd x && !Maps.has D0 (.int .u64 (x : Nat))) with
    | false => simp
    | true =>
      simp only [Bool.and_eq_true, Bool.not_eq_true'] at hp
      rcases HT.out _ _ (keyU x hx) with ⟨h1, _⟩ | ⟨u, _, h2, _⟩
      · rw [if_pos rfl]
        exact h1
      · rw [hp.2] at h2
        cases h2
  case round =>
    obtain ⟨D, left, cnt, Fc, hrg, HI, hgw⟩ := hrel
    go_wp2_with (first
      | (at_next; refine wpList_next_ranges _ rfl _ rfl 30 kU vElem eU id (fun key kl hk => by obtain ⟨x, hx, _⟩ := keyU_inv hk; exact ⟨x, hx⟩) (fun v _ _ => ⟨v, rfl⟩) M w.heap.size n _ _ _ rfl hrg ?_ ?_)
      | go_in)
    · intro _ hl0
      go_wp2
      go_end0
      refine ⟨rfl, ⟨_, Fc, MF.of hrg.owns HI.out.1, MF.size_le hrg.owns, fun x hx => ?_, HI.out.2.2⟩, hgw⟩
      rw [HI.out.2.1 x hx, hl0]
      simp
    · intro x c kl yd yp w1 cnt1 hkey hlx hv hat hrg1 hlt hg1 hs1 hen
      obtain ⟨x', ex, rfl, hx64⟩ := keyU_inv hkey
      obtain rfl : x = x' := by
        simp only [Value.int.injEq, true_and] at ex
        omega
      have hy : yd = .held c := by
        unfold vElem at hv
        simp at hv
        exact hv.1.symm
      have hFc : F (eU x) = some c := by
        have h1 := HI.out.2.1 x hx64
        rw [hlx] at h1
        simp at h1
        rw [← h1]
        rcases HI.out.1 _ _ hkey with ⟨_, _, a3⟩ | ⟨u, a1, _, a3⟩
        · have b1 := (a3 (.held (.bool true))).symm.trans (hat _)
          have b2 := (a3 (.held (.bool false))).symm.trans (hat _)
          rw [← b2] at b1
          cases b1
        · have b1 := (a3 .nil).symm.trans (hat _)
          rw [hy] at b1
          simp only [DataW.held.injEq] at b1
          rw [← b1]
          exact a1
      have hgw1 := hgw.andThen hg1 (fun j hj => by cases hj; exact Or.inl (Nat.le_refl _))
      have hc := HD.out w1 x c hgw1 hx64 hFc
      have hbl := hrg1.owns.lt
      have hrl := hrg1.lt
      have HX : Hid (x < 18446744073709551616 ∧ left (.int .u64 (x : Nat)) = true) := ⟨hx64, hlx⟩
      clear hFc hy hv hat hlx hs1
      cases hp : pd x <;> rw [hp] at hc
      · have HP : Hid (pd x = false) := hp
        clear hp
        go_wp2_with (first
          | (go_at_fn gn; refine hc.mono ?_; rintro e w2 ⟨rfl, hg2⟩)
          | go_in)
        have hrg2 := hrg1.kept hg2 (by simp) (by simp)
        go_roundw
        case rel =>
          refine ⟨D, _, cnt1, Fc, hrg2, ⟨HI.out.1, fun z hz => ?_, HI.out.2.2⟩, hgw1.andThen hg2 (fun j hj => by cases hj)⟩
          rw [HI.out.2.1 z hz]
          show _ = if (pd z && !(left (.int .u64 (z : Nat)) && !(Lit.int .u64 (z : Nat)).sameKey (.int .u64 (x : Nat)))) = true then none else _
          rw [same_int]
          by_cases e : z = x
          · subst e
            rw [HP.out]
            rfl
          · simp [e]
        case measure => rw [hrg2.left_eq, hrg.left_eq]; exact hlt
      · have HP : Hid (pd x = true) := hp
        clear hp
        go_wp2_with (first
          | (go_at_fn gn; refine hc.mono ?_; rintro e w2 ⟨rfl, hg2⟩; have hrg2 := hrg1.kept hg2 (by simp) (by simp))
          | (at_delete; refine wpList_delete_ranges _ rfl _ _ 67 30 rfl 80 kU Try.underlying67 vElem M w.heap.size n _ _ _ rfl hrg2 _ _ rfl hkey ?_; intro w3 cnt3 hrg3 hle hturn; go_frame)
          | go_in)
        rw [Maps.strike_twice] at hrg3
        haveI : ∀ v : Value, Decidable (v = eU x) := fun v => Classical.propDecidable _
        go_roundw
        case rel =>
          refine ⟨_, _, cnt3, fun v => if v = eU x then none else Fc v, hrg3, ⟨HI.out.1.del x HX.out.1 _ (if_pos rfl) (fun v hv => if_neg hv), fun z hz => ?_, fun v hv => ?_⟩, (hgw1.andThen hg2 (fun j hj => by cases hj)).andThen hturn.grown (fun j hj => by cases hj; exact Or.inr rfl)⟩
          · show (if eU z = eU x then none else Fc (eU z)) = if (pd z && !(left (.int .u64 (z : Nat)) && !(Lit.int .u64 (z : Nat)).sameKey (.int .u64 (x : Nat)))) = true then none else _
            rw [same_int]
            by_cases e : z = x
            · subst e
              rw [if_pos rfl, HP.out]
              simp
            · have e2 : eU z ≠ eU x := fun q => e (by simp only [Value.int.injEq, true_and] at q; omega)
              rw [if_neg e2, HI.out.2.1 z hz]
              simp [e]
          · by_cases e : v = eU x
            · exact absurd (if_pos e) hv
            · have hv2 : (if v = eU x then none else Fc v) ≠ none := hv
              rw [if_neg e] at hv2
              exact HI.out.2.2 v hv2
        case measure => rw [hrg3.left_eq, hrg.left_eq]; omega
open Go.RowKit
theorem LG.turn {w w' : World} {base L M n n' : Nat} {g g' : GT} {F F' : Value → Option Value} {B : Nat → SB} {ρ : Nat → Nat} (h : LG w base L M n g F B ρ) (hf : g'.f = g.f) (lz : g'.low ≤ 4611686018427387895) (vz : g'.view ≤ 4611686018427387903) (lc : LC w' L g'.f g'.low g'.view M) (mf : MF w' 30 M n' F')
    (hb : Below base w w') (hk : ∀ z, z < w.heap.size → ρ z ≠ 1 → ρ z ≠ 2 → w'.heap[z]? = w.heap[z]?) (sub : ∀ k x, g'.s k = some x → g.s k = some x ∧ F' (.int .u64 (k : Nat)) = F (.int .u64 (k : Nat))) (win : ∀ k x, g'.s k = some x → g'.low < k ∧ k ≤ g'.low + 8)
    (no : ∀ v, F' v ≠ none → ∃ k : Nat, v = .int .u64 (k : Nat) ∧ g'.s k ≠ none) : LG w' base L M n' g' F' B (rho w ρ) ∧ Stp base w w' ρ (rho w ρ) := by
  refine ⟨{ f1 := by rw [hf]; exact h.f1, f4 := by rw [hf]; exact h.f4, lowz := lz, viewz := vz, lc := lc, mf := mf, here := fun k x hx => ?_, win := win, no := no, rL := (rho_old h.Llt).trans h.rL, rM := (rho_old h.mf.lt).trans h.rM, ro := fun k x hx => ?_, lo := fun z hz => (rho_old (Nat.lt_of_lt_of_le hz h.hbs)).trans (h.lo z hz) }, ⟨hb, fun z hz => rho_old hz, fun z hz h0 => hk z hz (by omega) (by omega)⟩⟩
  · obtain ⟨h1, h2⟩ := sub k x hx
    obtain ⟨a1, a2⟩ := h.here k x h1
    obtain ⟨r1, r2, r3, r4⟩ := h.ro k x h1
    rw [hf]
    exact ⟨h2.trans a1, a2.keep (hk _ a2.lt (by rw [r1]; omega) (by rw [r1]; omega)) (hk _ a2.P.lt (by rw [r2]; omega) (by rw [r2]; omega)) (hk _ a2.Q.lt (by rw [r3]; omega) (by rw [r3]; omega)) fun z hz => hk z (a2.imm_lt hz) (by rw [r4 z hz]; omega) (by rw [r4 z hz]; omega)⟩
  · obtain ⟨h1, -⟩ := sub k x hx
    obtain ⟨a1, a2⟩ := h.here k x h1
    obtain ⟨r1, r2, r3, r4⟩ := h.ro k x h1
    exact ⟨(rho_old a2.lt).trans r1, (rho_old a2.P.lt).trans r2, (rho_old a2.Q.lt).trans r3, fun z hz => (rho_old (a2.imm_lt hz)).trans (r4 z hz)⟩
theorem adv1_u (w : World) (bx l x : Nat) (v : Value) (hc : w.cell? ⟨bx, 0, none⟩ = some (.int .u64 (l : Nat))) : Calls Try.prog 57 #[eU x, v, .pointer (some ⟨bx, 0, none⟩)] w fun e w' => e = .returned (.bool (decide (x ≤ l))) ∧ w' = w := by
  go_enter Try.func57, Try.ntmps57
  go_wp2
  go_ret
  exact ⟨rfl, rfl⟩
open Go.RowKit
set_option maxRecDepth 100000 in
set_option maxHeartbeats 4000000 in
theorem advance_any (w : World) (base L M n : Nat) (g : GT) (F : Value → Option Value) (B : Nat → SB) (ρ : Nat → Nat) (h : LG w base L M n g F B ρ) (l : Nat) :
    Calls Try.prog 31 #[.pointer (some ⟨L, 0, none⟩), .int .u64 (l : Nat)] w (MsgPost w base L M n ρ (advG g l)) := by
  have lz := h.lowz
  obtain ⟨W1, hW1⟩ : ∃ W1, W1 = w.alloc (.cells #[.int .u64 (l : Nat)] 30) := ⟨_, rfl⟩
  have b1 : Below w.heap.size w W1 := by rw [hW1]; exact (Below.refl _ w).alloc (Nat.le_refl _) _
  have AX : Arr W1 w.heap.size 30 [.int .u64 (l : Nat)] := by rw [hW1]; exact heap_alloc_new w _
  have HA : Hid (Arr W1 w.heap.size 30 [.int .u64 (l : Nat)]) := AX
  obtain ⟨K1, T1⟩ := h.below b1
  have R1 : rho w ρ w.heap.size = 0 := rho_new (Nat.le_refl _)
  have HG : Hid (LG W1 base L M n g F B (rho w ρ) ∧ Stp base w W1 ρ (rho w ρ) ∧ rho w ρ w.heap.size = 0) := ⟨K1, T1, R1⟩
  clear h b1 AX K1 T1 R1
  by_cases c1 : l < g.low
  · have hv : Hid (advG g l = (g, 13)) := if_pos (.inl c1)
    have d1 : (l : Int) < (g.low : Int) := by omega
    rw [hv.out]
    clear c1 hv
    go_enter Try.func31, Try.ntmps31
    go_wp2_with fail
    rw [← hW1]
    clear hW1
    go_wp2_with fail
    have tHS : Hid (∀ V, Below W1.heap.size W1 V → V.cell? ⟨w.heap.size, 0, none⟩ = some (.int .u64 (l : Nat)) ∧ V.cell? ⟨L, 1, none⟩ = some (.int .u64 (g.low : Nat))) := fun V hV => ⟨(Arr.below HA.out hV HA.out.lt).cell 0, (HG.out.1.lc.below hV).cell 1⟩
    have tE0 : Below W1.heap.size W1 W1.drew := (Below.refl _ _).drew
    refine wp_region_noPanic ?_
    refine wp_region_held_drew (S := fun V => V.cell? ⟨w.heap.size, 0, none⟩ = some (.int .u64 (l : Nat)) ∧ V.cell? ⟨L, 1, none⟩ = some (.int .u64 (g.low : Nat))) (by kernel_rfl) (tHS.out _ tE0) (fun tH0 => ?_)
    obtain ⟨tv0, hv0⟩ : ∃ v, v = W1.drew := ⟨_, rfl⟩
    rw [← hv0] at tH0 tE0 ⊢
    clear hv0
    refine hr_take_w 0 (some 9) (.int .u64 (l : Nat)) rfl rfl (by kernel_rfl) (by kernel_rfl) (by kernel_rfl) rfl (fun W hW => by obtain ⟨h0, h1⟩ := hW; go_simp) tH0 ?_
    simp only [FL]
    refine hr_take_w 1 (some 10) (.pointer (some ⟨L, 0, none⟩)) rfl rfl (by kernel_rfl) (by kernel_rfl) (by kernel_rfl) rfl (fun W hW => by obtain ⟨h0, h1⟩ := hW; go_simp) tH0 ?_
    simp only [FL]
    refine hr_take_w 2 (some 11) (.pointer (some ⟨L, 0, none⟩)) rfl rfl (by kernel_rfl) (by kernel_rfl) (by kernel_rfl) rfl (fun W hW => by obtain ⟨h0, h1⟩ := hW; go_simp) tH0 ?_
    simp only [FL]
    refine hr_take_w 3 (some 12) (.pointer (some ⟨L, 1, none⟩)) rfl rfl (by kernel_rfl) (by kernel_rfl) (by kernel_rfl) rfl (fun W hW => by obtain ⟨h0, h1⟩ := hW; go_simp) tH0 ?_
    simp only [FL]
    refine hr_take_w 4 (some 13) (.int .u64 (g.low : Nat)) rfl rfl (by kernel_rfl) (by kernel_rfl) (by kernel_rfl) rfl (fun W hW => by obtain ⟨h0, h1⟩ := hW; go_simp) tH0 ?_
    simp only [FL]
    refine hr_take_w 5 (some 14) (.bool true) rfl rfl (by kernel_rfl) (by kernel_rfl) (by kernel_rfl) rfl (fun W hW => by obtain ⟨h0, h1⟩ := hW; go_simp) tH0 ?_
    simp only [FL]
    refine hr_take_w 6 (some 15) (.bool true) rfl rfl (by kernel_rfl) (by kernel_rfl) (by kernel_rfl) rfl (fun W hW => by obtain ⟨h0, h1⟩ := hW; go_simp) tH0 ?_
    simp only [FL]
    refine hr_none 7 (some 16) rfl rfl (by kernel_rfl) (by kernel_rfl) (by kernel_rfl) rfl tH0 ?_
    simp only [FL]
    refine hr_none 8 (some 17) rfl rfl (by kernel_rfl) (by kernel_rfl) (by kernel_rfl) rfl tH0 ?_
    simp only [FL]
    refine hr_take_w 9 (some 18) (.bool true) rfl rfl (by kernel_rfl) (by kernel_rfl) (by kernel_rfl) rfl (fun W hW => by obtain ⟨h0, h1⟩ := hW; go_simp) tH0 ?_
    simp only [FL]
    refine hr_take_w 10 (some 8) (.bool true) rfl rfl (by kernel_rfl) (by kernel_rfl) (by kernel_rfl) rfl (fun W hW => by obtain ⟨h0, h1⟩ := hW; go_simp) tH0 ?_
    simp only [FL]
    refine wpAnyH_done (by kernel_rfl) ?_ _
    refine NoPanic.normal ?_
    go_wp2
    go_ret
    obtain ⟨K2, T2⟩ := HG.out.1.below tE0
    exact ⟨n, F, B, _, rfl, K2, HG.out.2.1.trans T2, by omega⟩
  by_cases c2 : 4611686018427387895 < l
  · have hv : Hid (advG g l = (g, 13)) := if_pos (.inr c2)
    have d1 : ¬ (l : Int) < (g.low : Int) := by omega
    have d1n : g.low ≤ l := by omega
    have d2 : (4611686018427387895 : Int) < (l : Int) := by omega
    rw [hv.out]
    clear c1 c2 hv
    go_enter Try.func31, Try.ntmps31
    go_wp2_with fail
    rw [← hW1]
    clear hW1
    go_wp2_with fail
    have tHS : Hid (∀ V, Below W1.heap.size W1 V → V.cell? ⟨w.heap.size, 0, none⟩ = some (.int .u64 (l : Nat)) ∧ V.cell? ⟨L, 1, none⟩ = some (.int .u64 (g.low : Nat))) := fun V hV => ⟨(Arr.below HA.out hV HA.out.lt).cell 0, (HG.out.1.lc.below hV).cell 1⟩
    have tE0 : Below W1.heap.size W1 W1.drew := (Below.refl _ _).drew
    refine wp_region_noPanic ?_
    refine wp_region_held_drew (S := fun V => V.cell? ⟨w.heap.size, 0, none⟩ = some (.int .u64 (l : Nat)) ∧ V.cell? ⟨L, 1, none⟩ = some (.int .u64 (g.low : Nat))) (by kernel_rfl) (tHS.out _ tE0) (fun tH0 => ?_)
    obtain ⟨tv0, hv0⟩ : ∃ v, v = W1.drew := ⟨_, rfl⟩
    rw [← hv0] at tH0 tE0 ⊢
    clear hv0
    refine hr_take_w 0 (some 9) (.int .u64 (l : Nat)) rfl rfl (by kernel_rfl) (by kernel_rfl) (by kernel_rfl) rfl (fun W hW => by obtain ⟨h0, h1⟩ := hW; go_simp) tH0 ?_
    simp only [FL]
    refine hr_take_w 1 (some 10) (.pointer (some ⟨L, 0, none⟩)) rfl rfl (by kernel_rfl) (by kernel_rfl) (by kernel_rfl) rfl (fun W hW => by obtain ⟨h0, h1⟩ := hW; go_simp) tH0 ?_
    simp only [FL]
    refine hr_take_w 2 (some 11) (.pointer (some ⟨L, 0, none⟩)) rfl rfl (by kernel_rfl) (by kernel_rfl) (by kernel_rfl) rfl (fun W hW => by obtain ⟨h0, h1⟩ := hW; go_simp) tH0 ?_
    simp only [FL]
    refine hr_take_w 3 (some 12) (.pointer (some ⟨L, 1, none⟩)) rfl rfl (by kernel_rfl) (by kernel_rfl) (by kernel_rfl) rfl (fun W hW => by obtain ⟨h0, h1⟩ := hW; go_simp) tH0 ?_
    simp only [FL]
    refine hr_take_w 4 (some 13) (.int .u64 (g.low : Nat)) rfl rfl (by kernel_rfl) (by kernel_rfl) (by kernel_rfl) rfl (fun W hW => by obtain ⟨h0, h1⟩ := hW; go_simp) tH0 ?_
    simp only [FL]
    refine hr_take_w 5 (some 14) (.bool false) rfl rfl (by kernel_rfl) (by kernel_rfl) (by kernel_rfl) rfl (fun W hW => by obtain ⟨h0, h1⟩ := hW; go_simp) tH0 ?_
    simp only [FL]
    refine hr_take_w 6 (some 15) (.bool false) rfl rfl (by kernel_rfl) (by kernel_rfl) (by kernel_rfl) rfl (fun W hW => by obtain ⟨h0, h1⟩ := hW; go_simp) tH0 ?_
    simp only [FL]
    refine hr_take_w 7 (some 16) (.int .u64 (l : Nat)) rfl rfl (by kernel_rfl) (by kernel_rfl) (by kernel_rfl) rfl (fun W hW => by obtain ⟨h0, h1⟩ := hW; go_simp) tH0 ?_
    simp only [FL]
    refine hr_take_w 8 (some 17) (.bool true) rfl rfl (by kernel_rfl) (by kernel_rfl) (by kernel_rfl) rfl (fun W hW => by obtain ⟨h0, h1⟩ := hW; go_simp) tH0 ?_
    simp only [FL]
    refine hr_take_w 9 (some 18) (.bool true) rfl rfl (by kernel_rfl) (by kernel_rfl) (by kernel_rfl) rfl (fun W hW => by obtain ⟨h0, h1⟩ := hW; go_simp) tH0 ?_
    simp only [FL]
    refine hr_take_w 10 (some 8) (.bool true) rfl rfl (by kernel_rfl) (by kernel_rfl) (by kernel_rfl) rfl (fun W hW => by obtain ⟨h0, h1⟩ := hW; go_simp) tH0 ?_
    simp only [FL]
    refine wpAnyH_done (by kernel_rfl) ?_ _
    refine NoPanic.normal ?_
    go_wp2
    go_ret
    obtain ⟨K2, T2⟩ := HG.out.1.below tE0
    exact ⟨n, F, B, _, rfl, K2, HG.out.2.1.trans T2, by omega⟩
  have hv : Hid (advG g l = ({ g with low := l, s := fun k => if k ≤ l then none else g.s k }, 0)) := if_neg (by omega)
  have HC : Hid (¬ l < g.low ∧ l ≤ 4611686018427387895) := ⟨c1, by omega⟩
  have d1 : ¬ (l : Int) < (g.low : Int) := by omega
  have d1n : g.low ≤ l := by omega
  have d2 : ¬ (4611686018427387895 : Int) < (l : Int) := by omega
  rw [hv.out]
  clear c1 c2 hv lz
  go_enter Try.func31, Try.ntmps31
  go_wp2_with fail
  rw [← hW1]
  clear hW1
  go_wp2_with fail
  have tHS : Hid (∀ V, Below W1.heap.size W1 V → V.cell? ⟨w.heap.size, 0, none⟩ = some (.int .u64 (l : Nat)) ∧ V.cell? ⟨L, 1, none⟩ = some (.int .u64 (g.low : Nat))) := fun V hV => ⟨(Arr.below HA.out hV HA.out.lt).cell 0, (HG.out.1.lc.below hV).cell 1⟩
  have tE0 : Below W1.heap.size W1 W1.drew := (Below.refl _ _).drew
  refine wp_region_noPanic ?_
  refine wp_region_held_drew (S := fun V => V.cell? ⟨w.heap.size, 0, none⟩ = some (.int .u64 (l : Nat)) ∧ V.cell? ⟨L, 1, none⟩ = some (.int .u64 (g.low : Nat))) (by kernel_rfl) (tHS.out _ tE0) (fun tH0 => ?_)
  obtain ⟨tv0, hv0⟩ : ∃ v, v = W1.drew := ⟨_, rfl⟩
  rw [← hv0] at tH0 tE0 ⊢
  clear hv0
  refine hr_take_w 0 (some 9) (.int .u64 (l : Nat)) rfl rfl (by kernel_rfl) (by kernel_rfl) (by kernel_rfl) rfl (fun W hW => by obtain ⟨h0, h1⟩ := hW; go_simp) tH0 ?_
  simp only [FL]
  refine hr_take_w 1 (some 10) (.pointer (some ⟨L, 0, none⟩)) rfl rfl (by kernel_rfl) (by kernel_rfl) (by kernel_rfl) rfl (fun W hW => by obtain ⟨h0, h1⟩ := hW; go_simp) tH0 ?_
  simp only [FL]
  refine hr_take_w 2 (some 11) (.pointer (some ⟨L, 0, none⟩)) rfl rfl (by kernel_rfl) (by kernel_rfl) (by kernel_rfl) rfl (fun W hW => by obtain ⟨h0, h1⟩ := hW; go_simp) tH0 ?_
  simp only [FL]
  refine hr_take_w 3 (some 12) (.pointer (some ⟨L, 1, none⟩)) rfl rfl (by kernel_rfl) (by kernel_rfl) (by kernel_rfl) rfl (fun W hW => by obtain ⟨h0, h1⟩ := hW; go_simp) tH0 ?_
  simp only [FL]
  refine hr_take_w 4 (some 13) (.int .u64 (g.low : Nat)) rfl rfl (by kernel_rfl) (by kernel_rfl) (by kernel_rfl) rfl (fun W hW => by obtain ⟨h0, h1⟩ := hW; go_simp) tH0 ?_
  simp only [FL]
  refine hr_take_w 5 (some 14) (.bool false) rfl rfl (by kernel_rfl) (by kernel_rfl) (by kernel_rfl) rfl (fun W hW => by obtain ⟨h0, h1⟩ := hW; go_simp) tH0 ?_
  simp only [FL]
  refine hr_take_w 6 (some 15) (.bool false) rfl rfl (by kernel_rfl) (by kernel_rfl) (by kernel_rfl) rfl (fun W hW => by obtain ⟨h0, h1⟩ := hW; go_simp) tH0 ?_
  simp only [FL]
  refine hr_take_w 7 (some 16) (.int .u64 (l : Nat)) rfl rfl (by kernel_rfl) (by kernel_rfl) (by kernel_rfl) rfl (fun W hW => by obtain ⟨h0, h1⟩ := hW; go_simp) tH0 ?_
  simp only [FL]
  refine hr_take_w 8 (some 17) (.bool false) rfl rfl (by kernel_rfl) (by kernel_rfl) (by kernel_rfl) rfl (fun W hW => by obtain ⟨h0, h1⟩ := hW; go_simp) tH0 ?_
  simp only [FL]
  refine hr_take_w 9 (some 18) (.bool false) rfl rfl (by kernel_rfl) (by kernel_rfl) (by kernel_rfl) rfl (fun W hW => by obtain ⟨h0, h1⟩ := hW; go_simp) tH0 ?_
  simp only [FL]
  refine hr_take_w 10 (some 8) (.bool false) rfl rfl (by kernel_rfl) (by kernel_rfl) (by kernel_rfl) rfl (fun W hW => by obtain ⟨h0, h1⟩ := hW; go_simp) tH0 ?_
  simp only [FL]
  refine wpAnyH_done (by kernel_rfl) ?_ _
  refine NoPanic.normal ?_
  obtain ⟨K2, T2⟩ := HG.out.1.below tE0
  have c0 := tH0.1
  have AL : Arr tv0 L 69 [.int .i64 (g.f : Nat), .int .u64 (g.low : Nat), .int .u64 (g.view : Nat), .map (some M)] := K2.lc
  have cl1 := AL.cell 1
  have fl1 := AL.free 1
  have AB := Arr.below HA.out tE0 HA.out.lt
  have A3 := AL.set 1 (.int .u64 (l : Nat))
  have G3 : tv0.grownBy (tv0.setCell ⟨L, 1, none⟩ (.int .u64 (l : Nat))) (some L) := grown_set (bel_grown (Below.refl _ tv0) (some L)) 1 _
  have hML : M ≠ L := fun e => by have r1 := K2.rM; rw [e, K2.rL] at r1; cases r1
  have nBL : w.heap.size ≠ L := fun e => by have r1 := K2.rL; rw [← e, (T2.role _ HA.out.lt).trans HG.out.2.2] at r1; cases r1
  have M3 : MF (tv0.setCell ⟨L, 1, none⟩ (.int .u64 (l : Nat))) 30 M n F := K2.mf.same (G3.block M K2.mf.lt fun e => hML (Option.some.inj e))
  have cM : (tv0.setCell ⟨L, 1, none⟩ (.int .u64 (l : Nat))).cell? ⟨L, 3, none⟩ = some (.map (some M)) := A3.cell 3
  have cB : (tv0.setCell ⟨L, 1, none⟩ (.int .u64 (l : Nat))).cell? ⟨w.heap.size, 0, none⟩ = some (.int .u64 (l : Nat)) := by
    rw [grown_cell G3 (Nat.lt_of_lt_of_le HA.out.lt tE0.size) nBL]
    exact AB.cell 0
  have CD := delete_u (tv0.setCell ⟨L, 1, none⟩ (.int .u64 (l : Nat))) M n F M3 (fun x => decide (x ≤ l)) 57 #[.pointer (some ⟨w.heap.size, 0, none⟩)] (enters_of Try.func57 (by kernel_rfl) rfl) (fun W x v hW hx hF => (adv1_u W w.heap.size l x v (by
    rw [grown_cell hW (World.block_lt_of_cell? _ _ cB) (fun e => by have r1 := K2.rM; rw [← e, (T2.role _ HA.out.lt).trans HG.out.2.2] at r1; cases r1)]
    exact cB)).mono (by rintro e w' ⟨rfl, rfl⟩; exact ⟨rfl, bel_grown (Below.refl _ _) none⟩))
  have HK : Hid (LG tv0 base L M n g F B (rho W1 (rho w ρ)) ∧ Stp base w tv0 ρ (rho W1 (rho w ρ))) := ⟨K2, HG.out.2.1.trans T2⟩
  have HA3 : Hid (Arr (tv0.setCell ⟨L, 1, none⟩ (.int .u64 (l : Nat))) L 69 [.int .i64 (g.f : Nat), .int .u64 (l : Nat), .int .u64 (g.view : Nat), .map (some M)]) := A3
  have HG3 : Hid (tv0.grownBy (tv0.setCell ⟨L, 1, none⟩ (.int .u64 (l : Nat))) (some L) ∧ M ≠ L) := ⟨G3, hML⟩
  clear K2 T2 AL AB A3 nBL hML M3 cB G3
  go_wp2_with (go_at_call 54; refine CD.mono ?_; rintro e w4 ⟨rfl, ⟨n4, F4, M4, hn4, f1, f2⟩, G4⟩)
  go_ret
  obtain ⟨K2, T2⟩ := HK.out
  have s3 := HG3.out.1.size
  have bl : ∀ z, z < tv0.heap.size → rho W1 (rho w ρ) z ≠ 1 → rho W1 (rho w ρ) z ≠ 2 → w4.heap[z]? = tv0.heap[z]? := fun z hz a1 a2 => (G4.block z (Nat.lt_of_lt_of_le hz s3) fun e => a2 (by rw [Option.some.inj e]; exact K2.rM)).trans (HG3.out.1.block z hz fun e => a1 (by rw [Option.some.inj e]; exact K2.rL))
  have lc4 : LC w4 L g.f l g.view M := (G4.block L HA3.out.lt fun e => HG3.out.2 (Option.some.inj e).symm).trans HA3.out
  have hbb := K2.hbs
  have b4 : Below base tv0 w4 := ((Below.refl _ tv0).grown HG3.out.1 hbb (fun j hj => by cases hj; exact K2.baseL)).grown G4 (Nat.le_trans hbb s3) (fun j hj => by cases hj; exact K2.base_of (by rw [K2.rM]; decide))
  have hc := HC.out
  have lz := K2.lowz
  obtain ⟨K5, T5⟩ := K2.turn (g' := { g with low := l, s := fun k => if k ≤ l then none else g.s k }) rfl hc.2 K2.viewz lc4 M4 b4 bl (fun k x hx => by
      have hx : (if k ≤ l then none else g.s k) = some x := hx
      by_cases e : k ≤ l
      · rw [if_pos e] at hx
        cases hx
      · rw [if_neg e] at hx
        have := K2.win k x hx
        refine ⟨hx, (f1 k (by omega)).trans ?_⟩
        rw [if_neg (by simpa using e)]) (fun k x hx => by
      have hx : (if k ≤ l then none else g.s k) = some x := hx
      show l < k ∧ k ≤ l + 8
      by_cases e : k ≤ l
      · rw [if_pos e] at hx
        cases hx
      · rw [if_neg e] at hx
        have := K2.win k x hx
        omega) (fun v hv => by
      obtain ⟨k, rfl, hk⟩ := K2.no v (f2 v hv)
      refine ⟨k, rfl, ?_⟩
      show (if k ≤ l then none else g.s k) ≠ none
      cases hs : g.s k with
      | none => exact absurd hs hk
      | some x =>
        have h64 : k < 18446744073709551616 := by have := K2.win k x hs; omega
        have h1 := f1 k h64
        by_cases e : k ≤ l
        · rw [if_pos (decide_eq_true e)] at h1
          exact absurd h1 hv
        · rw [if_neg e]
          simp)
  exact ⟨n4, F4, B, _, rfl, K5, T2.trans T5, by omega⟩
open Go.RowKit Go.Shelf
attribute [local go_sem] Oper.semAt_some
set_option maxRecDepth 100000 in
set_option maxHeartbeats 4000000 in
theorem values1_s (F : Fence) (n : Nat) (hf : F.fn 79) (hro : F.round = none) (hn : 1 ≤ n) (l Bn n₀ : Nat) (ao : Option Addr) (m cap : Nat) (xs : List SA) (J Jx : List SA → World → Prop) (W : World) (aJ : AbidesFrom W.heap.size J)
    (hY : ∀ pre x W1, x ∈ xs → J pre W1 → pre.length < xs.length → YieldAt F (n - 1) Try.prog l #[SA.val x] W1 fun e W' =>
      (e = .returned (.bool true) ∧ J (pre ++ [x]) W' ∧ Below n₀ W1 W') ∨ (e = .returned (.bool false) ∧ Jx (pre ++ [x]) W'))
    (hBn : W.cell? ⟨Bn, 0, none⟩ = some (.slice ao m cap)) (hL : GL elS W ao m cap xs) (hlow : ∀ z, sblk ao m z → z < n₀) (hW : n₀ ≤ W.heap.size) (h0 : J [] W) :
    CallsIn F n Try.prog 79 #[.func (.yield l) #[] #[], .pointer (some ⟨Bn, 0, none⟩)] W fun e W' => (∃ v, e = .returned v) ∧
      ((∃ ys, ys = xs ∧ J ys W') ∨ (∃ pre, True ∧ Jx pre W')) := by
  have hmx := hL.mx
  have hle := hL.le
  have hln := hL.len
  unfold maxLen at hmx
  refine callsIn_of_wp Try.func79 rfl hf ?_ hro
  simp only [Try.ntmps79, List.size_toArray, List.length_cons, List.length_nil, Nat.reduceAdd, Nat.reduceSub, Array.replicate_succ, Array.replicate_zero, List.push_toArray, List.append_toArray, List.nil_append, List.cons_append]
  gi_wp2
  gi_loopw [7] (fun i wr => ∃ k : Nat, k ≤ m ∧ i = .int .i64 k ∧ Below n₀ W wr ∧ J (xs.take k) wr) (fun i _ => m - (intOf i).toNat)
  case atStart => exact ⟨0, by omega, rfl, Below.refl _ _, h0⟩
  case round =>
    obtain ⟨k, hk, rfl, hB, hJ⟩ := hrel
    by_cases hlt : k < m
    · have hki : (k : Int) < (m : Int) := by omega
      have hkx : k < xs.length := by omega
      obtain ⟨b, off, rfl, hX⟩ := hL.atS (by omega)
      have hbn : b < n₀ := hlow b ⟨_, rfl, by omega, rfl⟩
      obtain ⟨x, hx⟩ : ∃ x, x = xs[k] := ⟨_, rfl⟩
      have HS : Hid (xs.take (k + 1) = xs.take k ++ [x]) := by show _ = _; rw [List.take_succ_eq_append_getElem hkx, hx]
      have hxm : x ∈ xs := by rw [hx]; exact List.getElem_mem hkx
      have hXk := hX k hkx
      rw [← hx] at hXk
      have c0 : wr.cell? ⟨b, off + k * 3, none⟩ = some (.int .u64 x.fr) := (hB.cell (p := ⟨b, off + k * 3, none⟩) hbn).trans hXk.c0
      have c1 : wr.cell? ⟨b, off + k * 3 + 1, none⟩ = some (.slice x.b.ao x.b.n x.b.cap) := (hB.cell (p := ⟨b, off + k * 3 + 1, none⟩) hbn).trans hXk.c1
      have c2 : wr.cell? ⟨b, off + k * 3 + 2, none⟩ = some (.slice x.tag.ao x.tag.n x.tag.cap) := (hB.cell (p := ⟨b, off + k * 3 + 2, none⟩) hbn).trans hXk.c2
      have hpl : (xs.take k).length < xs.length := by rw [List.length_take]; omega
      have CA : Below wr.heap.size wr (wr.alloc (.cells #[.int .u64 x.fr, .slice x.b.ao x.b.n x.b.cap, .slice x.tag.ao x.tag.n x.tag.cap] 62)) := (Below.refl _ _).alloc (Nat.le_refl _) _
      have hB2 : Below n₀ W (wr.alloc (.cells #[.int .u64 x.fr, .slice x.b.ao x.b.n x.b.cap, .slice x.tag.ao x.tag.n x.tag.cap] 62)) := hB.trans (CA.mono (Nat.le_trans hW hB.size))
      obtain ⟨fn, tmps, assign, body, hy, hR⟩ := hY (xs.take k) x _ hxm (aJ _ wr _ none hJ (bel_grown CA none) (fun r e => by cases e)) hpl
      unfold SA.val at hy
      clear hX hXk hx hY hJ CA hB
      gi_wp2
      refine hR.mono ?_
      clear hR hy
      rintro e W3 (⟨rfl, hJ3, hk3⟩ | ⟨rfl, hJx3⟩)
      · gi_wp2
        go_roundw
        case rel => exact ⟨k + 1, by omega, by go_num, hB2.trans hk3, by rw [HS.out]; exact hJ3⟩
        case measure => simp [intOf]; omega
      · gi_wp2
        refine bodyPost_ret (results_none rfl _ _ _) rfl ?_
        exact ⟨⟨_, rfl⟩, .inr ⟨_, trivial, hJx3⟩⟩
    · have hge : (m : Int) ≤ (k : Int) := by omega
      have e : xs.take k = xs := List.take_of_length_le (by omega)
      rw [e] at hJ
      clear e
      gi_wp2
      go_end0
      exact ⟨⟨_, rfl⟩, .inl ⟨_, rfl, hJ⟩⟩
set_option maxHeartbeats 1000000 in
theorem values_s (F : Fence) (n : Nat) (hf : F.fn 67) (hro : F.round = none) (ao : Option Addr) (m cap : Nat) (w : World) :
    CallsIn F n Try.prog 67 #[.slice ao m cap] w fun e w' => e = .returned (.func (.func 79) #[] #[.pointer (some ⟨w.heap.size, 0, none⟩)]) ∧ w' = w.alloc (.cells #[.slice ao m cap] 47) := by
  refine callsIn_of_wp Try.func67 rfl hf ?_ hro
  simp only [Try.ntmps67, List.size_toArray, List.length_cons, List.length_nil, Nat.reduceAdd, Nat.reduceSub, Array.replicate_succ, Array.replicate_zero, List.push_toArray, List.append_toArray, List.nil_append, List.cons_append]
  gi_wp2
  go_ret
  exact ⟨rfl, rfl⟩
theorem values_stopsS (P : SA → Prop) (F : Fence) (n : Nat) (hf : F.fn 79) (hro : F.round = none) (hn : 1 ≤ n) (Bn n₀ : Nat) (ao : Option Addr) (m cap : Nat) (xs : List SA) (hP : ∀ x ∈ xs, P x) (w : World)
    (hBn : w.cell? ⟨Bn, 0, none⟩ = some (.slice ao m cap)) (hL : GL elS w ao m cap xs) (hlow : ∀ z, sblk ao m z → z < n₀) (hw : n₀ ≤ w.heap.size) :
    SeqStopsK F n Try.prog 79 #[.pointer (some ⟨Bn, 0, none⟩)] (fun x : { s : SA // P s } => #[SA.val x.val]) (Below n₀) (fun ys => ys.map Subtype.val = xs) (fun _ => True) xs.length w := fun l J Jx W hW aJ _ hY h0 => by
  refine (values1_s F n hf hro hn l Bn n₀ ao m cap xs (fun pre W => ∃ q : List { s : SA // P s }, q.map Subtype.val = pre ∧ J q W) (fun pre W => ∃ q : List { s : SA // P s }, q.map Subtype.val = pre ∧ Jx q W) W ?_ ?_ ((hW.cell (p := ⟨Bn, 0, none⟩) (World.block_lt_of_cell? w _ hBn)).trans hBn) (hL.below elS_fine hW) hlow (Nat.le_trans hw hW.size) ⟨[], rfl, h0⟩).mono ?_
  · rintro pre V V' row ⟨q, e, h⟩ hg hr
    exact ⟨q, e, aJ q V V' row h hg hr⟩
  · rintro pre x W1 hx ⟨q, e, h⟩ hl
    obtain ⟨fn, tmps, assign, body, hy, hR⟩ := hY q ⟨x, hP x hx⟩ W1 h (by rw [← e, List.length_map] at hl; exact hl)
    refine ⟨fn, tmps, assign, body, hy, hR.mono ?_⟩
    rintro e' W' (⟨h1, h2, h3⟩ | ⟨h1, h2⟩)
    · exact .inl ⟨h1, ⟨_, by rw [List.map_append, e]; rfl, h2⟩, h3⟩
    · exact .inr ⟨h1, _, by rw [List.map_append, e]; rfl, h2⟩
  · rintro e W' ⟨h1, ⟨ys, h2, q, h3, h4⟩ | ⟨pre, _, q, _, h4⟩⟩
    · exact ⟨h1, .inl ⟨q, h3.trans h2, h4⟩⟩
    · exact ⟨h1, .inr ⟨q, trivial, h4⟩⟩
end Go.Proofs.Ytbbhokodleaheaa
namespace Go
section
variable {P : Program} {ops : Array Oper} {Q : Exit → Act → World → Prop}
theorem opIn_of {l n : Nat} {o : Oper} {a : Act} {w : World} {K K' : Act → World → Prop} (hd : ∀ c, o.op ≠ .defer c) (hk : ∀ a w, K a w → K' a w) (h : o.wp P a w K Q) : o.wpIn (Fence.wide.inRound l) n P a w K' Q := by
  unfold Oper.wpIn
  refine ⟨fun _ _ => trivial, ?_⟩
  rw [Oper.semAt_eq _ _ _ hd]
  unfold Oper.wp at h
  generalize (execOp a.eval o).run P w = r at h ⊢
  cases r with
  | ok x w' =>
    cases x with
    | value v => exact hk _ _ h
    | skip => exact hk _ _ h
    | defer d => exact hk _ _ h
    | enter f args =>
      refine ⟨fun e => by simp [Fence.wide] at e, (CallsIn.inRound l (callsIn_wide.2 h)).mono ?_⟩
      intro e w'' he
      cases e with
      | returned v => exact hk _ _ he
      | panicked c => exact he
      | outgrown => exact he
    | row r args =>
      refine ⟨fun e => by simp [Fence.wide] at e, fun c cs _ => ?_⟩
      obtain ⟨v, w2, h1, h2⟩ := h c cs
      exact ⟨v, w2, hk _ _ h1, stepsIn_wide.2 h2⟩
    | _ => exact h.elim
  | halt x w' =>
    cases x with
    | panic v => exact h
    | _ => exact h.elim
theorem anyIn_of {md : Region.Mode} {l n : Nat} (hd : ∀ (i : Nat) (o : Oper), ops[i]? = some o → ∀ c, o.op ≠ .defer c) (hL : ∀ a w, ¬ Q .outgrown a w) : ∀ (fuel : Nat) (listed : Array Bool) (a : Act) (w : World), wpAny P md ops (NoPanic Q) fuel listed a w → wpAnyIn (Fence.wide.inRound l) n P md ops (NoPanic Q) fuel listed a w
  | 0, _, _, _, h => h
  | fuel + 1, listed, a, w, h => by
    refine ⟨h.1, fun i hi => ?_⟩
    have hi' := h.2 i hi
    unfold wpOp at hi'
    unfold wpOpIn
    cases ho : ops[i]? with
    | none =>
      rw [ho] at hi'
      exact anyIn_of hd hL fuel _ a w hi'
    | some o =>
      rw [ho] at hi'
      simp only at hi' ⊢
      by_cases hw : Region.wanted o (yielded ops a.tmps) = true
      · rw [if_pos hw] at hi' ⊢
        rcases hi' with hi' | ⟨_, hO⟩
        · exact opIn_of (hd i o ho) (fun a w h => anyIn_of hd hL fuel _ a w h) hi'
        · obtain ⟨a', w', hq⟩ := hO
          exact (hL a' w' hq).elim
      · rw [if_neg hw] at hi' ⊢
        exact ⟨fun _ _ => trivial, anyIn_of hd hL fuel _ _ w hi'⟩
def noDefer (ops : Array Oper) : Bool := ops.toList.all fun o => match o.op with
  | .defer _ => false
  | _ => true
theorem noDefer_at (h : noDefer ops = true) : ∀ (i : Nat) (o : Oper), ops[i]? = some o → ∀ c, o.op ≠ .defer c := fun i o ho c hc => by
  have hm : o ∈ ops.toList := by
    rw [Array.mem_toList_iff]
    exact Array.mem_of_getElem? ho
  have := List.all_eq_true.1 h o hm
  rw [hc] at this
  simp at this
theorem wpIn_round_held {S : World → Prop} {l n id : Nat} {a : Act} {w : World} (hm : P.follows .mixedOrders = true) (hd : noDefer ops = true) (hL : ∀ a w, ¬ Q .outgrown a w) (hS : S w.drew)
    (h : S w.drew → wpAnyH P .any ops (NoPanic Q) S ops.size (Array.replicate ops.size false) a w.drew) : (Code.region id ops true).wpIn (Fence.wide.inRound l) n P Q a w :=
  wpIn_mono (wpIn_region_any hm (anyIn_of (noDefer_at hd) hL _ _ _ _ (wpAny_of_held _ _ _ _ (h hS)))) NoPanic.imp
end
end Go
namespace Go
open Go.RowKit
def EffRun (P : Program) (o : Oper) (a : Act) (w : World) (R : Value → World → Prop) : Prop :=
  (∃ v w', (execOp a.eval o).run P w = .ok (.value v) w' ∧ R v w') ∨
  (∃ f args, (execOp a.eval o).run P w = .ok (.enter f args) w ∧ Calls P f args w fun e w' => ∃ v, e = .returned v ∧ R v w')
end Go
namespace Go
open Go.RowKit
def setL (L : Array Bool) (is : List Nat) : Array Bool := is.foldl (fun L i => L.setIfInBounds i true) L
theorem setL_size (is : List Nat) : ∀ L : Array Bool, (setL L is).size = L.size := by
  induction is with
  | nil => intro L; rfl
  | cons i is ih => intro L; exact (ih _).trans (by simp)
theorem setL_get (is : List Nat) : ∀ (L : Array Bool) (j : Nat), j < L.size → (setL L is).getD j true = (L.getD j true || is.contains j) := by
  induction is with
  | nil => intro L j _; simp [setL]
  | cons i is ih =>
    intro L j hj
    have h := ih (L.setIfInBounds i true) j (by simpa using hj)
    show (setL (L.setIfInBounds i true) is).getD j true = _
    rw [h]
    by_cases hij : i = j
    · subst hij
      have : (L.setIfInBounds i true).getD i true = true := by simp [hj]
      rw [this]
      simp
    · rw [getD_set_ne true hij]
      have : (i :: is).contains j = is.contains j := by
        rw [List.contains_cons, show (j == i) = false by simpa using fun e => hij e.symm, Bool.false_or]
      rw [this]
theorem arr_ext {A B : Array Bool} (hs : A.size = B.size) (h : ∀ j, j < A.size → A.getD j true = B.getD j true) : A = B := by
  refine Array.ext hs fun j h1 h2 => ?_
  have := h j h1
  simpa [h1, h2] using this
def depOk (ops : Array Oper) (L : Array Bool) (i : Nat) : Bool := ((ops[i]?).map (·.after.all fun e => !Region.binds .any e || L.getD e.on false)).getD false
theorem depOk_of {ops : Array Oper} {L : Array Bool} {i : Nat} {o : Oper} (ho : ops[i]? = some o) (h : ∀ e ∈ o.after, Region.binds .any e = true → L.getD e.on false = true) : depOk ops L i = true := by
  simp only [depOk, ho, Option.map_some, Option.getD_some]
  refine Array.all_eq_true_iff_forall_mem.2 fun e he => ?_
  by_cases hb : Region.binds .any e = true
  · rw [h e he hb, Bool.or_true]
  · simp [hb]
theorem getD_set_on {L : Array Bool} {i j : Nat} (h : L.getD j false = true) : (L.setIfInBounds i true).getD j false = true := by
  by_cases hij : i = j
  · subst hij
    by_cases hlt : i < L.size
    · simp [hlt]
    · simp [hlt] at h
  · simp only [Array.getD_eq_getD_getElem?] at h ⊢
    rw [Array.getElem?_setIfInBounds_ne hij]
    exact h
theorem depOk_set {ops : Array Oper} {L : Array Bool} {i j : Nat} (h : depOk ops L i = true) : depOk ops (L.setIfInBounds j true) i = true := by
  cases ho : ops[i]? with
  | none => simp [depOk, ho] at h
  | some o =>
    refine depOk_of ho fun e he hb => ?_
    simp only [depOk, ho, Option.map_some, Option.getD_some] at h
    have := Array.all_eq_true_iff_forall_mem.1 h e he
    rw [hb, Bool.not_true, Bool.false_or] at this
    exact getD_set_on this
def effChk (ops : Array Oper) (all : List Nat) : List Nat → Array Bool → Bool → Bool
  | [], L, sk => !sk || !(all.all fun i => !L.getD i true || depOk ops L i) || (!(Region.ready .any ops L).isEmpty && (Region.ready .any ops L).all fun j => all.contains j)
  | i :: is, L, sk => effChk ops all is (L.setIfInBounds i true) sk && effChk ops all is L true
theorem effChk_spec {ops : Array Oper} {all : List Nat} (c : Nat → Bool) : ∀ (is : List Nat) (L : Array Bool) (sk : Bool), effChk ops all is L sk = true → (sk = true ∨ ∃ i ∈ is, c i = false) → (∀ i ∈ all, (setL L (is.filter c)).getD i true = true → depOk ops (setL L (is.filter c)) i = true) →
    Region.ready .any ops (setL L (is.filter c)) ≠ [] ∧ ∀ j ∈ Region.ready .any ops (setL L (is.filter c)), j ∈ all
  | [], L, sk, h, hs, hcl => by
    rcases hs with rfl | ⟨i, hi, _⟩
    · have hcl' : (all.all fun i => !L.getD i true || depOk ops L i) = true := List.all_eq_true.2 fun i hi => by
        by_cases hL : L.getD i true = true
        · have := hcl i hi hL
          have h2 : depOk ops L i = true := this
          rw [h2, Bool.or_true]
        · have h2 : L.getD i true = false := by simpa using hL
          rw [h2]
          rfl
      simp only [effChk, hcl', Bool.not_true, Bool.false_or, Bool.and_eq_true] at h
      refine ⟨fun e => ?_, fun j hj => ?_⟩
      · have : Region.ready .any ops L = [] := e
        rw [this] at h
        simp at h
      · have := List.all_eq_true.1 h.2 j hj
        simpa using this
    · simp at hi
  | i :: is, L, sk, h, hs, hcl => by
    simp only [effChk, Bool.and_eq_true] at h
    by_cases hc : c i = true
    · rw [List.filter_cons, if_pos hc] at hcl ⊢
      refine effChk_spec c is (L.setIfInBounds i true) sk h.1 ?_ hcl
      rcases hs with hs | ⟨j, hj, hf⟩
      · exact .inl hs
      · rcases List.mem_cons.1 hj with rfl | hj
        · rw [hc] at hf; simp at hf
        · exact .inr ⟨j, hj, hf⟩
    · rw [List.filter_cons, if_neg hc] at hcl ⊢
      exact effChk_spec c is L true h.2 (.inl rfl) hcl
def unC (c : Nat → Bool) : List Nat → Nat
  | [] => 0
  | i :: is => unC c is + (if c i then 0 else 1)
theorem unC_same {c d : Nat → Bool} : ∀ (is : List Nat), (∀ i ∈ is, c i = d i) → unC c is = unC d is
  | [], _ => rfl
  | i :: is, h => by rw [unC, unC, unC_same is (fun j hj => h j (List.mem_cons_of_mem _ hj)), h i (List.mem_cons_self ..)]
theorem unC_set {c : Nat → Bool} {i : Nat} (hc : c i = false) : ∀ (is : List Nat), is.Nodup → i ∈ is → unC c is = unC (fun j => c j || j == i) is + 1
  | [], _, h => by simp at h
  | j :: is, hn, h => by
    have hn' := List.nodup_cons.1 hn
    rw [unC, unC]
    by_cases hji : j = i
    · subst hji
      have := unC_same (c := c) (d := fun k => c k || k == j) is (fun k hk => by
        have hne : k ≠ j := fun e => hn'.1 (e ▸ hk)
        have : (k == j) = false := by simpa using hne
        simp [this])
      rw [← this, hc]
      simp
    · have hi : i ∈ is := by
        rcases List.mem_cons.1 h with h | h
        · exact absurd h.symm hji
        · exact h
      have ih := unC_set hc is hn'.2 hi
      have : (j == i) = false := by simpa using hji
      rw [ih]
      simp only [this, Bool.or_false]
      omega
theorem unC_zero {c : Nat → Bool} : ∀ (is : List Nat), unC c is = 0 → ∀ i ∈ is, c i = true
  | [], _, i, h => by simp at h
  | j :: is, h0, i, h => by
    rw [unC] at h0
    rcases List.mem_cons.1 h with rfl | h
    · by_cases hc : c i = true
      · exact hc
      · rw [if_neg hc] at h0; omega
    · exact unC_zero is (by omega) i h
theorem unC_none : ∀ (is : List Nat), unC (fun _ => false) is = is.length
  | [] => rfl
  | i :: is => by rw [unC, unC_none is]; simp
def putL (a : Act) (f : Nat → Value) (ids : List (Nat × Nat)) : Act := ids.foldl (fun a p => a.put (some p.2) (f p.1)) a
theorem putL_size (f : Nat → Value) (ids : List (Nat × Nat)) : ∀ a : Act, (putL a f ids).tmps.size = a.tmps.size := by
  induction ids with
  | nil => intro a; rfl
  | cons p ids ih => intro a; exact (ih _).trans (by simp [Act.put])
theorem putL_defers (f : Nat → Value) (ids : List (Nat × Nat)) : ∀ a : Act, (putL a f ids).defers = a.defers := by
  induction ids with
  | nil => intro a; rfl
  | cons p ids ih => intro a; exact (ih _).trans rfl
theorem putL_other (f : Nat → Value) (k : Nat) (ids : List (Nat × Nat)) : ∀ a : Act, (∀ p ∈ ids, p.2 ≠ k) → (putL a f ids).tmps[k]? = a.tmps[k]? := by
  induction ids with
  | nil => intro a _; rfl
  | cons p ids ih =>
    intro a h
    have h1 := ih (a.put (some p.2) (f p.1)) (fun q hq => h q (List.mem_cons_of_mem _ hq))
    refine h1.trans ?_
    have hne := h p (List.mem_cons_self ..)
    simp [Act.put, Array.getElem?_setIfInBounds_ne hne]
theorem putL_at (f : Nat → Value) : ∀ (ids : List (Nat × Nat)) (a : Act), (ids.map (·.2)).Nodup → ∀ p ∈ ids, p.2 < a.tmps.size → (putL a f ids).tmps[p.2]? = some (f p.1)
  | [], a, _, p, h, _ => by simp at h
  | q :: ids, a, hn, p, h, hlt => by
    have hn' := List.nodup_cons.1 hn
    rcases List.mem_cons.1 h with rfl | h
    · have h1 := putL_other f p.2 ids (a.put (some p.2) (f p.1)) (fun q hq e => hn'.1 (List.mem_map.2 ⟨q, hq, e⟩))
      refine h1.trans ?_
      simp [Act.put, hlt]
    · exact putL_at f ids (a.put (some q.2) (f q.1)) hn'.2 p h (by simpa [Act.put] using hlt)
def effTo (ops : Array Oper) (L0 : Array Bool) (ids : List (Nat × Nat)) (n : Nat) : Bool :=
  ids.all (fun p => decide (p.2 < n) && !L0.getD p.1 true && (match ops[p.1]? with | some o => o.dst == some p.2 && o.guard.isNone | none => false)) &&
  effChk ops (ids.map (·.1)) (ids.map (·.1)) L0 false && decide (L0.size = ops.size)
def EffGot (ids : List (Nat × Nat)) (F : Nat → Value → World → Prop) (a : Act) (w : World) (j : Nat) : Prop := ∀ p ∈ ids, p.1 = j → ∃ v, a.tmps[p.2]? = some v ∧ F j v w
structure EffKeep (ids : List (Nat × Nat)) (a0 a : Act) : Prop where
  defers : a.defers = a0.defers
  size : a.tmps.size = a0.tmps.size
  same : ∀ k, (∀ p ∈ ids, p.2 ≠ k) → a.tmps[k]? = a0.tmps[k]?
theorem EffKeep.get {ids : List (Nat × Nat)} {a0 a : Act} (h : EffKeep ids a0 a) (k : Nat) {v : Value} (hk : ids.all (fun p => p.2 != k) = true) (h0 : a0.tmps[k]? = some v) : a.tmps[k]? = some v := by
  rw [h.same k (fun p hp => by simpa using List.all_eq_true.1 hk p hp)]
  exact h0
theorem EffGot.at {ids : List (Nat × Nat)} {F : Nat → Value → World → Prop} {a : Act} {w : World} {j : Nat} (h : EffGot ids F a w j) (d : Nat) (hd : ids.contains (j, d) = true) : ∃ v, a.tmps[d]? = some v ∧ F j v w :=
  h (j, d) (by simpa using hd) rfl
theorem wpAnyH_effto {P : Program} {ops : Array Oper} {S : World → Prop} {Q : Exit → Act → World → Prop} {a0 : Act} {W0 : World} {L0 : Array Bool} (m : Nat) (F : Nat → Value → World → Prop) (ids : List (Nat × Nat)) (n : Nat)
    (hok : effTo ops L0 ids n = true) (hn1 : (ids.map (·.1)).Nodup) (hn2 : (ids.map (·.2)).Nodup) (hn : n = a0.tmps.size)
    (mono : ∀ i v w w', F i v w → Below w.heap.size w w' → F i v w')
    (hS : ∀ w, Below W0.heap.size W0 w → S w)
    (step : ∀ p ∈ ids, ∀ o a w, ops[p.1]? = some o → EffKeep ids a0 a → Below W0.heap.size W0 w → (∀ j, o.after.any (fun e => Region.binds .any e && e.on == j) = true → EffGot ids F a w j) → EffRun P o a w (fun v w' => F p.1 v w' ∧ Below w.heap.size w w'))
    (fin : ∀ (f : Nat → Value) w, Below W0.heap.size W0 w → (∀ p ∈ ids, F p.1 (f p.1) w) → wpAnyH P .any ops (NoPanic Q) S m (setL L0 (ids.map (·.1))) (putL a0 f ids) w) :
    wpAnyH P .any ops (NoPanic Q) S (ids.length + m) L0 a0 W0 := by
  simp only [effTo, Bool.and_eq_true, decide_eq_true_eq] at hok
  obtain ⟨⟨hok1, hok2⟩, hLs⟩ := hok
  have hat : ∀ p ∈ ids, p.2 < a0.tmps.size ∧ L0.getD p.1 true = false ∧ ∃ o, ops[p.1]? = some o ∧ o.dst = some p.2 ∧ o.guard = none := fun p hp => by
    have h := List.all_eq_true.1 hok1 p hp
    simp only [Bool.and_eq_true, decide_eq_true_eq, Bool.not_eq_true'] at h
    obtain ⟨⟨h1, h2⟩, h3⟩ := h
    refine ⟨hn ▸ h1, h2, ?_⟩
    cases ho : ops[p.1]? with
    | none => rw [ho] at h3; simp at h3
    | some o =>
      rw [ho] at h3
      simp only [Bool.and_eq_true, beq_iff_eq] at h3
      exact ⟨o, rfl, h3.1, Option.isNone_iff_eq_none.1 h3.2⟩
  have main : ∀ (k : Nat) (c : Nat → Bool) (a : Act) (w : World), unC c (ids.map (·.1)) = k → EffKeep ids a0 a → Below W0.heap.size W0 w → (∀ p ∈ ids, c p.1 = true → ∃ v, a.tmps[p.2]? = some v ∧ F p.1 v w) →
      (∀ i ∈ ids.map (·.1), (setL L0 ((ids.map (·.1)).filter c)).getD i true = true → depOk ops (setL L0 ((ids.map (·.1)).filter c)) i = true) →
      wpAnyH P .any ops (NoPanic Q) S (k + m) (setL L0 ((ids.map (·.1)).filter c)) a w := by
    intro k
    induction k with
    | zero =>
      intro c a w hu hs hb hh _
      have hz := unC_zero _ hu
      have hall : ∀ p ∈ ids, ∃ v, a.tmps[p.2]? = some v ∧ F p.1 v w := fun p hp => hh p hp (hz p.1 (List.mem_map_of_mem hp))
      have hLeq : setL L0 ((ids.map (·.1)).filter c) = setL L0 (ids.map (·.1)) := by rw [List.filter_eq_self.2 hz]
      obtain ⟨f, hf⟩ : ∃ f : Nat → Value, ∀ p ∈ ids, a.tmps[p.2]? = some (f p.1) ∧ F p.1 (f p.1) w := by
        have hch : ∀ j, ∃ v, ∀ p ∈ ids, p.1 = j → a.tmps[p.2]? = some v ∧ F p.1 v w := fun j => by
          by_cases hj : ∃ p ∈ ids, p.1 = j
          · obtain ⟨p, hp, rfl⟩ := hj
            obtain ⟨v, h1, h2⟩ := hall p hp
            refine ⟨v, fun q hq e => ?_⟩
            obtain ⟨-, -, o, ho, hd, -⟩ := hat p hp
            obtain ⟨-, -, o', ho', hd', -⟩ := hat q hq
            rw [e, ho] at ho'
            obtain rfl := Option.some.inj ho'
            have : p.2 = q.2 := Option.some.inj (hd.symm.trans hd')
            rw [← this, e]
            exact ⟨h1, h2⟩
          · exact ⟨undef, fun q hq e => absurd ⟨q, hq, e⟩ hj⟩
        exact ⟨fun j => Classical.choose (hch j), fun p hp => Classical.choose_spec (hch p.1) p hp rfl⟩
      have ha : a = putL a0 f ids := by
        have ht : a.tmps = (putL a0 f ids).tmps := by
          refine Array.ext (by rw [putL_size]; exact hs.size) fun j h1 h2 => ?_
          have : a.tmps[j]? = (putL a0 f ids).tmps[j]? := by
            by_cases hj : ∃ p ∈ ids, p.2 = j
            · obtain ⟨p, hp, rfl⟩ := hj
              rw [(hf p hp).1, putL_at f ids a0 hn2 p hp (hat p hp).1]
            · have hj' : ∀ p ∈ ids, p.2 ≠ j := fun p hp e => hj ⟨p, hp, e⟩
              rw [hs.same j hj', putL_other f j ids a0 hj']
          simpa [h1, h2] using this
        have hd : a.defers = (putL a0 f ids).defers := by rw [putL_defers]; exact hs.defers
        cases a
        cases hp : putL a0 f ids
        rw [hp] at ht hd
        simp only at ht hd
        rw [ht, hd]
      rw [hLeq, ha, Nat.zero_add]
      exact fin f w hb (fun p hp => (hf p hp).2)
    | succ k ih =>
      intro c a w hu hs hb hh hcl
      have hex : ∃ i ∈ ids.map (·.1), c i = false := by
        by_cases h : ∃ i ∈ ids.map (·.1), c i = false
        · exact h
        · exfalso
          have hz : ∀ i ∈ ids.map (·.1), c i = true := fun i hi => by
            by_cases hc : c i = true
            · exact hc
            · exact absurd ⟨i, hi, by simpa using hc⟩ h
          have : unC c (ids.map (·.1)) = unC (fun _ => true) (ids.map (·.1)) := unC_same _ (fun i hi => hz i hi)
          have h0 : ∀ l : List Nat, unC (fun _ => true) l = 0 := fun l => by
            induction l with
            | nil => rfl
            | cons x l ih => rw [unC, ih]; rfl
          rw [hu, h0] at this
          omega
      obtain ⟨hne, hsub⟩ := effChk_spec (ops := ops) (all := ids.map (·.1)) c (ids.map (·.1)) L0 false hok2 (.inr hex) hcl
      have hsz : (setL L0 ((ids.map (·.1)).filter c)).size = ops.size := by rw [setL_size]; exact hLs
      rw [show k + 1 + m = (k + m) + 1 by omega]
      refine ⟨fun h => absurd h hne, fun i hi => ?_⟩
      obtain ⟨p, hp, rfl⟩ := List.mem_map.1 (hsub i hi)
      obtain ⟨h1, o, ho, hdep⟩ := mem_ready.1 hi
      obtain ⟨hdl, hL0, o', ho', hdo, hg⟩ := hat p hp
      rw [ho] at ho'
      obtain rfl := Option.some.inj ho'
      have hlt := (Array.getElem?_eq_some_iff.1 ho).1
      have hci : c p.1 = false := by
        by_cases hc : c p.1 = true
        · exfalso
          rw [setL_get _ _ _ (by omega)] at h1
          have : ((ids.map (·.1)).filter c).contains p.1 = true := by
            simpa using ⟨⟨p.2, hp⟩, hc⟩
          rw [this] at h1
          simp at h1
        · simpa using hc
      have hw : Region.wanted o (yielded ops a.tmps) = true := by simp [Region.wanted, hg]
      have hrun := step p hp o a w ho hs hb (fun j hj q hq hqj => by
        obtain ⟨e, hem, hbj⟩ := Array.any_eq_true'.1 hj
        simp only [Bool.and_eq_true, beq_iff_eq] at hbj
        obtain ⟨hbi, rfl⟩ := hbj
        have h2 := hdep e hem hbi
        obtain ⟨-, hq0, oq, hoq, -⟩ := hat q hq
        have hqlt := (Array.getElem?_eq_some_iff.1 hoq).1
        have h4 : (setL L0 ((ids.map (·.1)).filter c)).getD q.1 true = true := by
          rw [hqj]
          have : e.on < (setL L0 ((ids.map (·.1)).filter c)).size := by rw [hsz, ← hqj]; exact hqlt
          simpa [this] using h2
        rw [setL_get _ _ _ (by omega), hq0, Bool.false_or] at h4
        have h5 : c q.1 = true := by
          have h6 : q.1 ∈ (ids.map (·.1)).filter c := by simpa using h4
          exact (List.mem_filter.1 h6).2
        have := hh q hq h5
        rw [hqj] at this
        exact this)
      have next : ∀ v w', F p.1 v w' ∧ Below w.heap.size w w' → S w' ∧ wpAnyH P .any ops (NoPanic Q) S (k + m) ((setL L0 ((ids.map (·.1)).filter c)).setIfInBounds p.1 true) (a.put (some p.2) v) w' := by
        rintro v w' ⟨hF, hb'⟩
        have hbw := hb.trans (hb'.mono hb.size)
        have htm : (a.put (some p.2) v).tmps = a.tmps.setIfInBounds p.2 v := rfl
        refine ⟨hS w' hbw, ?_⟩
        have hLq : (setL L0 ((ids.map (·.1)).filter c)).setIfInBounds p.1 true = setL L0 ((ids.map (·.1)).filter fun j => c j || j == p.1) := by
          refine arr_ext (by simp [setL_size]) fun j hj => ?_
          have hj' : j < L0.size := by simpa [setL_size] using hj
          rw [setL_get _ _ _ hj']
          by_cases hji : p.1 = j
          · subst hji
            have h7 : ((setL L0 ((ids.map (·.1)).filter c)).setIfInBounds p.1 true).getD p.1 true = true := by
              have : p.1 < (setL L0 ((ids.map (·.1)).filter c)).size := by rw [setL_size]; exact hj'
              simp [this]
            have h8 : ((ids.map (·.1)).filter fun j => c j || j == p.1).contains p.1 = true := by
              rw [List.contains_iff_mem]
              exact List.mem_filter.2 ⟨List.mem_map_of_mem hp, by simp⟩
            rw [h7, h8]
            simp
          · rw [getD_set_ne true hji, setL_get _ _ _ hj']
            congr 1
            have hbe : (j == p.1) = false := by simpa using fun e => hji e.symm
            rw [Bool.eq_iff_iff, List.contains_iff_mem, List.contains_iff_mem, List.mem_filter, List.mem_filter, hbe, Bool.or_false]
        rw [hLq]
        refine ih _ _ _ ?_ ⟨hs.defers, by rw [htm, Array.size_setIfInBounds]; exact hs.size, fun q hq => ?_⟩ hbw (fun q hq hcq => ?_) ?_
        · have := unC_set hci (ids.map (·.1)) hn1 (List.mem_map_of_mem hp)
          omega
        · rw [htm, Array.getElem?_setIfInBounds_ne (hq p hp)]
          exact hs.same q hq
        · by_cases hqp : q.1 = p.1
          · have h9 : q.2 = p.2 := by
              obtain ⟨-, -, oq, hoq, hdq, -⟩ := hat q hq
              rw [hqp, ho] at hoq
              obtain rfl := Option.some.inj hoq
              exact Option.some.inj (hdq.symm.trans hdo)
            rw [hqp, h9]
            refine ⟨v, ?_, hF⟩
            rw [htm, Array.getElem?_setIfInBounds_self_of_lt (by rw [hs.size]; exact hdl)]
          · have hbe : (q.1 == p.1) = false := by simpa using hqp
            have hcq' : c q.1 = true := by simpa [hbe] using hcq
            obtain ⟨v', h1', h2'⟩ := hh q hq hcq'
            refine ⟨v', ?_, mono _ _ _ _ h2' hb'⟩
            have hne : p.2 ≠ q.2 := fun e => hqp (by
              have hinj : ∀ (l : List (Nat × Nat)), (l.map (·.2)).Nodup → ∀ x ∈ l, ∀ y ∈ l, x.2 = y.2 → x = y := by
                intro l
                induction l with
                | nil => intro _ x hx; simp at hx
                | cons z l ihl =>
                  intro hnd x hx y hy exy
                  have hnd' := List.nodup_cons.1 hnd
                  rcases List.mem_cons.1 hx with rfl | hxl
                  · rcases List.mem_cons.1 hy with rfl | hyl
                    · rfl
                    · exact absurd (List.mem_map.2 ⟨y, hyl, exy.symm⟩) hnd'.1
                  · rcases List.mem_cons.1 hy with rfl | hyl
                    · exact absurd (List.mem_map.2 ⟨x, hxl, exy⟩) hnd'.1
                    · exact ihl hnd'.2 x hxl y hyl exy
              rw [hinj ids hn2 q hq p hp e.symm])
            rw [htm, Array.getElem?_setIfInBounds_ne hne]
            exact h1'
        · rw [← hLq]
          intro i hi hiL
          by_cases hip : p.1 = i
          · subst hip
            exact depOk_set (depOk_of ho hdep)
          · rw [getD_set_ne true hip] at hiL
            exact depOk_set (hcl i hi hiL)
      rcases hrun with ⟨v, w', hr, hR⟩ | ⟨f, args, hr, hc⟩
      · unfold wpOp
        simp only [ho, hw, if_true, Oper.wp, hr, Oper.upon, hdo]
        exact .inl (next v w' hR)
      · unfold wpOp
        simp only [ho, hw, if_true, Oper.wp, hr, Oper.upon, hdo]
        refine .inl (hc.mono ?_)
        rintro e w' ⟨v, rfl, hR⟩
        exact next v w' hR
  have h := main (ids.length) (fun _ => false) a0 W0 (by rw [unC_none]; simp) ⟨rfl, rfl, fun _ _ => rfl⟩ (Below.refl _ _) (fun p hp h => by simp at h) (fun i hi hL => by
    exfalso
    obtain ⟨p, hp, rfl⟩ := List.mem_map.1 hi
    rw [List.filter_eq_nil_iff.2 (by simp)] at hL
    have := (hat p hp).2.1
    have h2 : L0.getD p.1 true = true := hL
    rw [this] at h2
    simp at h2)
  have he : setL L0 ((ids.map (·.1)).filter fun _ => false) = L0 := by
    rw [List.filter_eq_nil_iff.2 (by simp)]
    rfl
  rw [he] at h
  exact h
end Go
namespace Go.Proofs.Ytbbhokodleaheaa
open Go.RowKit Go.Shelf
attribute [local go_sem] Oper.semAt_some
theorem cells_of_cell {w : World} {a : Addr} {v : Value} (h : w.cell? a = some v) : ∃ o, w.heap[a.block]? = some o ∧ o.isCells = true := by
  unfold World.cell? at h
  split at h
  · rename_i c t m e
    exact ⟨_, e, rfl⟩
  · cases h
theorem cells_of_sl {w : World} {b : Bs} (h : Sl w b.ao b.n b.cap b.xs) {z : Nat} (hz : b.blk z) : ∃ o, w.heap[z]? = some o ∧ o.isCells = true := by
  obtain ⟨a, ha, hn, rfl⟩ := hz
  have := cells_of_cell (h.cell a ha 0 hn)
  have e : (a.add 0).block = a.block := by unfold Addr.add; split <;> rfl
  rwa [e] at this
theorem cells_of_sa {w : World} {s : SA} (h : s.ok w) {z : Nat} (hz : s.blk z) : ∃ o, w.heap[z]? = some o ∧ o.isCells = true := hz.elim (cells_of_sl h.b) (cells_of_sl h.tag)
theorem keeps_below {W W' : World} (h : Below W.heap.size W W') : KeepsOthers W W' := ⟨h.size, fun k _ hk _ => (h.block k (Array.getElem?_eq_some_iff.1 hk).1).trans hk⟩
abbrev CSA (w : World) := { s : SA // s.ok w ∧ s.b.n ≤ 1000000 ∧ s.tag.n ≤ 1000000 }
structure ClI (w : World) (pre : List (CSA w)) (W : World) (u : Value) (ys : List SA) : Prop where
  bx : Arr W w.heap.size 47 [u]
  gi : GI elS 62 W w.heap.size u ys
  v : ys.map SA.v = pre.map fun x => x.val.v
  hi : ∀ y ∈ ys, ∀ z, y.blk z → w.heap.size < z
  bel : Below w.heap.size w W
theorem ClI.below {w : World} {pre : List (CSA w)} {W V : World} {u : Value} {ys : List SA} (h : ClI w pre W u ys) (hb : Below W.heap.size W V) : ClI w pre V u ys :=
  ⟨Arr.below h.bx hb h.bx.lt, h.gi.below elS_fine hb, h.v, h.hi, h.bel.trans (hb.mono h.bel.size)⟩
theorem ClI.sz {w : World} {pre : List (CSA w)} {W : World} {u : Value} {ys : List SA} (h : ClI w pre W u ys) : w.heap.size < W.heap.size := h.bx.lt
theorem ClI.own {w : World} {B : Nat} (hB : w.heap.size ≤ B) : OwnFrom B fun (pre : List (CSA w)) W => ∃ u ys, ClI w pre W u ys := by
  rintro pre W W' row ⟨u, ys, h⟩ hg hr
  have far : ∀ z, (∃ o : Obj, W.heap[z]? = some o ∧ o.isCells = true) → W'.heap[z]? = W.heap[z]? := fun z ⟨o, ho, hc⟩ => hg.block z (Array.getElem?_eq_some_iff.1 ho).1 fun e => by
    obtain ⟨_, o2, h2, h3⟩ := hr z e.symm
    rw [ho] at h2
    obtain rfl := Option.some.inj h2
    rw [hc] at h3
    cases h3
  refine ⟨u, ys, (far _ ⟨_, h.bx, rfl⟩).trans h.bx, h.gi.kept elS_fine fun z hz => far z ?_, h.v, h.hi, h.bel.grown hg h.bel.size fun j hj => Nat.le_trans hB (hr j hj).1⟩
  rcases hz with hz | ⟨y, hy, hz⟩
  · rcases h.gi.own.2 with ⟨rfl, _⟩ | ⟨g, cap, cur, rfl, _, h2, _⟩
    · cases hz
    · obtain rfl := Option.some.inj hz
      exact ⟨_, h2, rfl⟩
  · exact cells_of_sa (h.gi.ok y hy) hz
theorem arr_own {B Q : Nat} {t : TypeId} {cs : List Value} : OwnFrom B fun (_ : Unit) W => Arr W Q t cs := fun _ W W' row h hg hr => (hg.block Q (Arr.lt h) fun e => by
    obtain ⟨_, o2, h2, h3⟩ := hr Q e.symm
    unfold Arr at h
    rw [h] at h2
    obtain rfl := Option.some.inj h2
    cases h3).trans h
set_option maxRecDepth 100000 in
set_option maxHeartbeats 4000000 in
theorem cloneAll_in (w : World) (ao : Option Addr) (m cap : Nat) (xs : List SA) (hL : GL elS w ao m cap xs) (hm : m ≤ 100) (hz : ∀ s ∈ xs, s.b.n ≤ 1000000 ∧ s.tag.n ≤ 1000000) :
    CallsIn Fence.wide 3 Try.prog 42 #[.slice ao m cap] w fun e w' => ∃ ro rc ys, e = .returned (.slice ro xs.length rc) ∧ GL elS w' ro xs.length rc ys ∧ ys.map SA.v = xs.map SA.v ∧ Below w.heap.size w w' ∧ ∀ z, GLb elS ro xs.length ys z → w.heap.size ≤ z := by
  have hlow : ∀ z, sblk ao m z → z < w.heap.size := fun z hz => hL.lt elS_fine (.inl hz)
  obtain ⟨w0, hw0⟩ : ∃ W, W = w.alloc (.cells #[.slice none 0 0] 47) := ⟨_, rfl⟩
  have B0 : Below w.heap.size w w0 := by rw [hw0]; exact (Below.refl _ _).alloc (Nat.le_refl _) _
  have A0 : Arr w0 w.heap.size 47 [.slice none 0 0] := by rw [hw0]; exact heap_alloc_new w _
  have s0 : w0.heap.size = w.heap.size + 1 := by rw [hw0]; simp
  refine callsIn_of_wp_marks Try.func42 rfl trivial ?_ rfl
  simp only [Try.ntmps42, List.size_toArray, List.length_cons, List.length_nil, Nat.reduceAdd, Nat.reduceSub, Array.replicate_succ, Array.replicate_zero, List.push_toArray, List.append_toArray, List.nil_append, List.cons_append]
  gi_wp2_with fail
  rw [← hw0]
  refine ⟨trivial, (values_s Fence.wide 2 trivial rfl ao m cap w0).mono ?_⟩
  rintro e w2 ⟨rfl, hw2⟩
  clear hw0
  have bA : Below w0.heap.size w0 w2 := by rw [hw2]; exact (Below.refl _ w0).alloc (Nat.le_refl _) _
  have s2 : w2.heap.size = w.heap.size + 2 := by rw [hw2]; simp; omega
  have cS : w2.cell? ⟨w.heap.size + 1, 0, none⟩ = some (.slice ao m cap) := by
    rw [hw2, ← s0]
    exact cell_of_row _ _ 0 _ _ _ (heap_alloc_new w0 _)
  have A2 := Arr.below A0 bA A0.lt
  have E2 : Below w.heap.size w w2 := B0.trans (bA.mono B0.size)
  have L2 := hL.below elS_fine E2
  rw [s0]
  clear hw2 A0 bA B0
  gi_wp2_with fail
  refine wpIn_rangeFunc_ownH rfl (by decide) (gf := 79) (lb := #[.pointer (some ⟨w.heap.size + 1, 0, none⟩)]) rfl trivial (enters_of Try.func79 (by kernel_rfl) rfl)
    (values_stopsS (fun s => s.ok w ∧ s.b.n ≤ 1000000 ∧ s.tag.n ≤ 1000000) Fence.wide 2 trivial rfl (by decide) (w.heap.size + 1) w.heap.size ao m cap xs (fun s hs => ⟨hL.ok s hs, hz s hs⟩) w2 cS L2 hlow E2.size) belowK_t (belowK_b (by omega)) (Below.refl _ _) (fun _ => rfl)
    (fun (pre : List (CSA w)) W => ∃ u ys, ClI w pre W u ys) (fun _ _ _ => False) (ClI.own (by omega)) (fun _ _ _ _ _ hs _ _ => hs)
    ⟨.slice none 0 0, [], A2, GI.nil _ _ _ _, rfl, fun _ h => absurd h List.not_mem_nil, E2⟩
    (fun (x : CSA w) a' W => ∃ Q, a' = { tmps := #[.slice ao m cap, undef, .slice none 0 0, .pointer (some ⟨w.heap.size, 0, none⟩), .pointer (some ⟨Q, 0, none⟩), .slice ao m cap, .func (.func 79) #[] #[.pointer (some ⟨w.heap.size + 1, 0, none⟩)], .agg #[.int .u64 x.val.fr, .slice x.val.b.ao x.val.b.n x.val.b.cap, .slice x.val.tag.ao x.val.tag.n x.val.tag.cap], undef, undef, undef, undef, undef, undef], defers := [] } ∧ Arr W Q 62 [.int .u64 x.val.fr, .slice x.val.b.ao x.val.b.n x.val.b.cap, .slice x.val.tag.ao x.val.tag.n x.val.tag.cap] ∧ w.heap.size < Q) ?hax ?assign ?body ?done ?stop
  case hax =>
    rintro x a' s W W' row ⟨Q, h1, h2, h3⟩ hg hr
    exact ⟨Q, h1, arr_own s W W' row h2 hg hr, h3⟩
  case assign =>
    rintro l pre x W K ⟨u, ys, hC⟩ hK
    have CA : Below W.heap.size W (W.alloc (.cells #[.int .u64 x.val.fr, .slice x.val.b.ao x.val.b.n x.val.b.cap, .slice x.val.tag.ao x.val.tag.n x.val.tag.cap] 62)) := (Below.refl _ _).alloc (Nat.le_refl _) _
    have HK := hK { tmps := #[.slice ao m cap, undef, .slice none 0 0, .pointer (some ⟨w.heap.size, 0, none⟩), .pointer (some ⟨W.heap.size, 0, none⟩), .slice ao m cap, .func (.func 79) #[] #[.pointer (some ⟨w.heap.size + 1, 0, none⟩)], .agg #[.int .u64 x.val.fr, .slice x.val.b.ao x.val.b.n x.val.b.cap, .slice x.val.tag.ao x.val.tag.n x.val.tag.cap], undef, undef, undef, undef, undef, undef], defers := [] } (W.alloc (.cells #[.int .u64 x.val.fr, .slice x.val.b.ao x.val.b.n x.val.b.cap, .slice x.val.tag.ao x.val.tag.n x.val.tag.cap] 62)) ((keeps_below CA).from _) (CA.mono hC.bel.size) ⟨u, ys, hC.below CA⟩ ⟨_, rfl, heap_alloc_new W _, hC.sz⟩
    unfold SA.val
    gi_wp2
    exact HK
  case body =>
    rintro l pre x a' W hl hrec ⟨u, ys, hC⟩ ⟨Q, rfl, hA, hQ⟩ hlen
    obtain ⟨x, hx1, hx2⟩ := x
    have hbx : W.cell? ⟨w.heap.size, 0, none⟩ = some u := hC.bx.cell 0
    have HC : Hid (ClI w pre W u ys) := hC
    have HQ : Hid (∀ V, Below W.heap.size W V → Arr V Q 62 [.int .u64 x.fr, .slice x.b.ao x.b.n x.b.cap, .slice x.tag.ao x.tag.n x.tag.cap]) := fun V hV => Arr.below hA hV hA.lt
    have HOK : Hid (∀ V, Below W.heap.size W V → x.ok V) := fun V hV => (hx1.below hC.bel).below hV
    have HZ : Hid (x.b.n ≤ 1000000 ∧ x.tag.n ≤ 1000000) := hx2
    have HP : Hid (pre.length < xs.length) := hlen
    have HX : Hid (x.ok w) := hx1
    clear hA hC hrec
    have E0 : Below W.heap.size W W.drew := (Below.refl _ _).drew
    gi_wp2_with fail
    refine wpIn_round_held (S := fun _ => True) (by kernel_rfl) (by kernel_rfl) (fun _ _ h => h) trivial (fun _ => ?_)
    obtain ⟨v0, hv0⟩ : ∃ v, v = W.drew := ⟨_, rfl⟩
    rw [← hv0] at E0 ⊢
    clear hv0
    refine wpAnyH_effto 2 (fun zi zv zw => (zi = 0 → zv = u) ∧ (zi = 1 → zv = .agg #[.int .u64 x.fr, .slice x.b.ao x.b.n x.b.cap, .slice x.tag.ao x.tag.n x.tag.cap]) ∧ (zi = 2 → ∃ ro rc so sc, zv = .agg #[.int .u64 x.fr, .slice ro x.b.n rc, .slice so x.tag.n sc] ∧ SA.ok ⟨x.fr, ⟨ro, x.b.n, rc, x.b.xs⟩, ⟨so, x.tag.n, sc, x.tag.xs⟩⟩ zw ∧ ∀ z, SA.blk ⟨x.fr, ⟨ro, x.b.n, rc, x.b.xs⟩, ⟨so, x.tag.n, sc, x.tag.xs⟩⟩ z → W.heap.size ≤ z) ∧ (zi = 3 → ∃ ro rc so sc gl, zv = .slice (some ⟨gl, 0, none⟩) 1 1 ∧ zw.heap[gl]? = some (.cells #[.int .u64 x.fr, .slice ro x.b.n rc, .slice so x.tag.n sc] 62) ∧ SA.ok ⟨x.fr, ⟨ro, x.b.n, rc, x.b.xs⟩, ⟨so, x.tag.n, sc, x.tag.xs⟩⟩ zw ∧ ∀ z, SA.blk ⟨x.fr, ⟨ro, x.b.n, rc, x.b.xs⟩, ⟨so, x.tag.n, sc, x.tag.xs⟩⟩ z → W.heap.size ≤ z)) [(0, 8), (1, 9), (2, 10), (3, 11)] 14 (by kernel_rfl) (by decide) (by decide) rfl ?_ (fun _ _ => trivial) ?_ ?_
    · intro zi zv zw zw' h hb
      refine ⟨fun e => ?_, fun e => ?_, fun e => ?_, fun e => ?_⟩
      · have h := h.1 e
        exact h
      · have h := h.2.1 e
        exact h
      · have h := h.2.2.1 e
        obtain ⟨ro, rc, so, sc, h1, h2, h3⟩ := h
        exact ⟨ro, rc, so, sc, h1, SA.ok.below h2 hb, h3⟩
      · have h := h.2.2.2 e
        obtain ⟨ro, rc, so, sc, gl, h1, h2, h3, h4⟩ := h
        exact ⟨ro, rc, so, sc, gl, h1, (hb.block gl (Array.getElem?_eq_some_iff.1 h2).1).trans h2, SA.ok.below h3 hb, h4⟩
    · intro zp zhi o a zw ho hs hb hdep
      have EB := E0.trans (hb.mono E0.size)
      simp only [List.mem_cons, List.not_mem_nil, or_false] at zhi
      rcases zhi with rfl | rfl | rfl | rfl
      · obtain rfl : _ = o := Option.some.inj (show some _ = some o from ho)
        have t3 : a.tmps[3]? = some (.pointer (some ⟨w.heap.size, 0, none⟩)) := hs.get 3 (by kernel_rfl) rfl
        have c0 : zw.cell? ⟨w.heap.size, 0, none⟩ = some u := (EB.cell (World.block_lt_of_cell? _ _ hbx)).trans hbx
        exact .inl ⟨u, zw, by go_simp, ⟨fun _ => rfl, fun e => absurd e (by decide), fun e => absurd e (by decide), fun e => absurd e (by decide)⟩, Below.refl _ _⟩
      · obtain rfl : _ = o := Option.some.inj (show some _ = some o from ho)
        have t4 : a.tmps[4]? = some (.pointer (some ⟨Q, 0, none⟩)) := hs.get 4 (by kernel_rfl) rfl
        have AQ := HQ.out zw EB
        have c0 := AQ.cell 0
        have c1 := AQ.cell 1
        have c2 := AQ.cell 2
        exact .inl ⟨.agg #[.int .u64 x.fr, .slice x.b.ao x.b.n x.b.cap, .slice x.tag.ao x.tag.n x.tag.cap], zw, by go_simp, ⟨fun e => absurd e (by decide), fun _ => rfl, fun e => absurd e (by decide), fun e => absurd e (by decide)⟩, Below.refl _ _⟩
      · obtain rfl : _ = o := Option.some.inj (show some _ = some o from ho)
        obtain ⟨x9, t9, f9⟩ := (hdep 1 (by kernel_rfl)).at 9 (by kernel_rfl)
        replace f9 := f9.2.1 rfl
        obtain rfl := f9
        refine .inr ⟨51, #[.agg #[.int .u64 x.fr, .slice x.b.ao x.b.n x.b.cap, .slice x.tag.ao x.tag.n x.tag.cap]], by go_simp, (clone15 zw x (HOK.out zw EB) HZ.out).mono ?_⟩
        rintro e w' ⟨ro, rc, so, sc, rfl, h1, h2, h3, h4, h5⟩
        exact ⟨_, rfl, ⟨fun e => absurd e (by decide), fun e => absurd e (by decide), fun _ => ⟨ro, rc, so, sc, rfl, ⟨(HOK.out zw EB).fr, h1, h2⟩, fun z hz => Nat.le_trans EB.size (hz.elim (h4 z) (h5 z))⟩, fun e => absurd e (by decide)⟩, h3⟩
      · obtain rfl : _ = o := Option.some.inj (show some _ = some o from ho)
        obtain ⟨x10, t10, f10⟩ := (hdep 2 (by kernel_rfl)).at 10 (by kernel_rfl)
        replace f10 := f10.2.2.1 rfl
        obtain ⟨ro, rc, so, sc, rfl, S1, S2⟩ := f10
        have CA : Below zw.heap.size zw (zw.alloc (.cells #[.int .u64 x.fr, .slice ro x.b.n rc, .slice so x.tag.n sc] 62)) := (Below.refl _ _).alloc (Nat.le_refl _) _
        exact .inl ⟨_, _, by go_simp, ⟨fun e => absurd e (by decide), fun e => absurd e (by decide), fun e => absurd e (by decide), fun _ => ⟨ro, rc, so, sc, _, rfl, heap_alloc_new zw _, SA.ok.below S1 CA, S2⟩⟩, CA⟩
    intro zf v1 hb hh
    have E1 := E0.trans (hb.mono E0.size)
    obtain e0 := (hh (0, 8) (by simp)).1 rfl
    obtain ⟨ro, rc, so, sc, gl, e3, G1, S1, S2⟩ := (hh (3, 11) (by simp)).2.2.2 rfl
    clear hh hb
    simp only [putL, List.foldl_cons, List.foldl_nil, e0, e3]
    clear e0 e3
    simp only [FL]
    have C0 := HC.out
    have C1 := C0.below E1
    have hyl : ys.length < 100 := by
      have e := congrArg List.length C0.v
      rw [List.length_map, List.length_map] at e
      have h1 := HP.out
      have h2 := hL.len
      omega
    obtain ⟨v', W3, ha, GI3, B3, G3, go, gn, gc, rfl⟩ := C1.gi.app elS_fine tyS 47 (a := ⟨gl, 0, none⟩) (cp := 1) (y := ⟨x.fr, ⟨ro, x.b.n, rc, x.b.xs⟩, ⟨so, x.tag.n, sc, x.tag.xs⟩⟩) (fun j t ht => by
      rw [Addr.add_lit, Nat.zero_add, cell_of_row _ _ j _ _ _ G1]
      simpa [elS, SA.cells] using ht) S1 (fun z hz e => by
      have h1 := S2 z hz
      have h2 := (C0.gi.own.lt z e).2
      omega) (by omega) (by unfold maxLen; omega) C1.bel.size
    have A3 : Arr W3 w.heap.size 47 [u] := (G3.block _ C1.bx.lt fun e => arr_not C1.bx (by decide) C1.gi.own e.symm).trans C1.bx
    have c3 := A3.cell 0
    have f3 := A3.free 0
    have A4 := A3.set 0 (.slice go gn gc)
    have K3 : KeepsOthers W W3 := (keeps_below E1).trans (KeepsOthers.of_grownBy G3 fun j o ej hj => by
      rcases C1.gi.own.2 with ⟨rfl, _⟩ | ⟨g, cap, cur, rfl, _, h2, _⟩
      · cases ej
      · obtain rfl := Option.some.inj ej
        rw [h2] at hj
        obtain rfl := Option.some.inj hj
        rfl)
    have HNS : Hid (SA.v ⟨x.fr, ⟨ro, x.b.n, rc, x.b.xs⟩, ⟨so, x.tag.n, sc, x.tag.xs⟩⟩ = x.v) := rfl
    have HS2 : Hid (∀ z, SA.blk ⟨x.fr, ⟨ro, x.b.n, rc, x.b.xs⟩, ⟨so, x.tag.n, sc, x.tag.xs⟩⟩ z → W.heap.size ≤ z) := S2
    refine hr_ex 4 (some 12) rfl rfl (by kernel_rfl) rfl (R := fun v w' => .slice go gn gc = v ∧ W3 = w') ⟨_, W3, by simp [execOp, Act.eval, resolve, invoke, builtin, ha], rfl, rfl⟩ ?_
    rintro v w' ⟨rfl, rfl⟩
    refine ⟨trivial, ?_⟩
    simp only [FL]
    refine hr_skip 5 none (w' := W3.setCell ⟨w.heap.size, 0, none⟩ (.slice go gn gc)) rfl rfl (by kernel_rfl) rfl (by go_simp) trivial ?_
    simp only [Act.put]
    refine wpAnyH_done (by kernel_rfl) ?_ _
    refine NoPanic.normal ?_
    have KW : Below w.heap.size W W3 := (E1.mono C0.bel.size).trans B3
    have HI : ∀ y ∈ ys ++ [⟨x.fr, ⟨ro, x.b.n, rc, x.b.xs⟩, ⟨so, x.tag.n, sc, x.tag.xs⟩⟩], ∀ z, y.blk z → w.heap.size < z := fun y hy z hz => by
      rcases List.mem_append.1 hy with hy | hy
      · exact C0.hi y hy z hz
      · rw [List.mem_singleton.1 hy] at hz
        exact Nat.lt_of_lt_of_le C0.sz (HS2.out z hz)
    refine ⟨(K3.trans (KeepsOthers.setCell _ _ _)).from _, KW.setCell (p := ⟨w.heap.size, 0, none⟩) (Nat.le_refl _) _, .slice go gn gc, ys ++ [⟨x.fr, ⟨ro, x.b.n, rc, x.b.xs⟩, ⟨so, x.tag.n, sc, x.tag.xs⟩⟩], A4, GI3.kept elS_fine fun z hz => ?_, ?_, HI, (C0.bel.trans KW).setCell (p := ⟨w.heap.size, 0, none⟩) (Nat.le_refl _) _⟩
    · refine heap_setCell_other _ _ _ _ ?_
      rcases hz with hz | ⟨y, hy, hz⟩
      · intro e
        exact arr_not A3 (by decide) GI3.own (by rw [hz, e])
      · exact Nat.ne_of_gt (HI y hy z hz)
    · rw [List.map_append, List.map_append, C0.v]
      rfl
  case done =>
    rintro D zs W hD hzs ⟨u, ys, hC⟩ hK
    obtain ⟨ro, rc, rfl, GLr, GLh⟩ := hC.gi.gl elS_fine
    have HF : Hid (∀ z, GLb elS ro ys.length ys z → w.heap.size ≤ z) := fun z hz => hz.elim (GLh z) fun ⟨y, hy, hz⟩ => Nat.le_of_lt (hC.hi y hy z hz)
    have hbx : W.cell? ⟨w.heap.size, 0, none⟩ = some (.slice ro ys.length rc) := hC.bx.cell 0
    have HL : Hid (ys.length = xs.length ∧ ys.map SA.v = xs.map SA.v) := by
      have e := hC.v
      rw [show (zs.map fun x => x.val.v) = xs.map SA.v by rw [← hzs, List.map_map]; rfl] at e
      exact ⟨by have := congrArg List.length e; simpa using this, e⟩
    obtain ⟨u2, ys2, hC2⟩ := ClI.own (w := w) (B := w2.heap.size) (by omega) zs W _ _ ⟨_, _, hC⟩ (grownBy_putObj' W D (.deferred none)) (fun r e => by cases e; exact ⟨hD, _, hK, rfl⟩)
    have hG : GL elS (W.putObj D (.deferred none)) ro ys.length rc ys := by
      have far : ∀ z, GLb elS ro ys.length ys z → (W.putObj D (.deferred none)).heap[z]? = W.heap[z]? := fun z hz => World.putObj_heap_other fun e => by
        have hc : ∃ o, W.heap[z]? = some o ∧ o.isCells = true := by
          rcases hz with ⟨a, ha, hn, rfl⟩ | ⟨y, hy, hz⟩
          · have h0 := GLr.get elS_fine ha 0 (by have := GLr.len; omega) 0 (by decide)
            have := cells_of_cell h0
            have e : (a.add (0 * elS.sz + 0)).block = a.block := by unfold Addr.add; split <;> rfl
            rwa [e] at this
          · exact cells_of_sa (GLr.ok y hy) hz
        obtain ⟨o, h1, h2⟩ := hc
        rw [e, hK] at h1
        obtain rfl := Option.some.inj h1
        cases h2
      exact GLr.kept elS_fine far
    have HG : Hid (GL elS (W.putObj D (.deferred none)) ro ys.length rc ys ∧ Below w.heap.size w (W.putObj D (.deferred none))) := ⟨hG, hC2.bel⟩
    obtain ⟨yn, hyn⟩ : ∃ n, n = ys.length := ⟨_, rfl⟩
    rw [← hyn] at hbx HG HL HF
    clear GLh hG hC2 hC GLr hzs hyn
    gi_wp2
    refine ⟨by simp, .inl ⟨_, _, rfl, run_takeDeferred hK, ?_⟩⟩
    refine ⟨_, results_tmp rfl _ _ _, ro, rc, ys, ?_, ?_, HL.out.2, HG.out.2, by rw [← HL.out.1]; exact HF.out⟩
    · rw [← HL.out.1]
      rfl
    · rw [← HL.out.1]
      exact HG.out.1
  case stop =>
    rintro D c pre W _ _ h _
    exact h.elim
theorem cloneAll_any (w : World) (ao : Option Addr) (m cap : Nat) (xs : List SA) (hL : GL elS w ao m cap xs) (hm : m ≤ 100) (hz : ∀ s ∈ xs, s.b.n ≤ 1000000 ∧ s.tag.n ≤ 1000000) :
    Calls Try.prog 42 #[.slice ao m cap] w fun e w' => ∃ ro rc ys, e = .returned (.slice ro xs.length rc) ∧ GL elS w' ro xs.length rc ys ∧ ys.map SA.v = xs.map SA.v ∧ Below w.heap.size w w' ∧ ∀ z, GLb elS ro xs.length ys z → w.heap.size ≤ z :=
  (callsIn_wide (n := 3)).1 (cloneAll_in w ao m cap xs hL hm hz)
open Go.RowKit
theorem imm_cells {w : World} {f : Nat} {b : SB} {x : ST} (h : SlotAt w f b x) {z : Nat} (hz : b.imm z) : ∃ o, w.heap[z]? = some o ∧ o.isCells = true := by
  rcases hz with hz | hz
  · exact cells_of_sa h.sok hz
  · rcases hz with ⟨a, ha, hn, rfl⟩ | ⟨y, hy, hz⟩
    · have h0 := h.L.get elS_fine ha 0 (by have := h.L.len; omega) 0 (by decide)
      have := cells_of_cell h0
      have e : (a.add (0 * elS.sz + 0)).block = a.block := by unfold Addr.add; split <;> rfl
      rwa [e] at this
    · exact cells_of_sa (h.L.ok y hy) hz
theorem LG.iter {w w' : World} {base L M n : Nat} {g : GT} {F : Value → Option Value} {B : Nat → SB} {ρ : Nat → Nat} (h : LG w base L M n g F B ρ) {r : Nat} (hr : ∃ o : Obj, w.heap[r]? = some o ∧ o.isCells = false) (hrM : r ≠ M) (hg : w.grownBy w' (some r)) : LG w' base L M n g F B (rho w ρ) := by
  obtain ⟨o, ho, hc⟩ := hr
  have far : ∀ z, (∃ o : Obj, w.heap[z]? = some o ∧ o.isCells = true) → w'.heap[z]? = w.heap[z]? := fun z ⟨o2, h1, h2⟩ => hg.block z (Array.getElem?_eq_some_iff.1 h1).1 fun e => by
    rw [Option.some.inj e, ho] at h1
    obtain rfl := Option.some.inj h1
    rw [hc] at h2
    cases h2
  have fA : ∀ {b : Nat} {t : TypeId} {cs : List Value}, Arr w b t cs → w'.heap[b]? = w.heap[b]? := fun hA => far _ ⟨_, hA, rfl⟩
  refine { h with lc := (fA h.lc).trans h.lc, mf := h.mf.same (hg.block M h.mf.lt fun e => hrM (Option.some.inj e).symm), here := fun j y hy => ?_, rL := (rho_old h.Llt).trans h.rL, rM := (rho_old h.mf.lt).trans h.rM, ro := fun j y hy => ?_, lo := fun z hz => (rho_old (Nat.lt_of_lt_of_le hz h.hbs)).trans (h.lo z hz) }
  · obtain ⟨h1, h2⟩ := h.here j y hy
    exact ⟨h1, h2.keep (fA h2.mem) (fA h2.P.mem) (fA h2.Q.mem) fun z hz => far z (imm_cells h2 hz)⟩
  · obtain ⟨h1, h2⟩ := h.here j y hy
    obtain ⟨r1, r2, r3, r4⟩ := h.ro j y hy
    exact ⟨(rho_old h2.lt).trans r1, (rho_old h2.P.lt).trans r2, (rho_old h2.Q.lt).trans r3, fun z hz => (rho_old (h2.imm_lt hz)).trans (r4 z hz)⟩
theorem Stp.more {base : Nat} {w wr w1 : World} {ρ ρ' : Nat → Nat} (h : Stp base w wr ρ ρ') {r : Nat} (hg : wr.grownBy w1 (some r)) (hr : w.heap.size ≤ r) (hb : base ≤ w.heap.size) : Stp base w w1 ρ (rho wr ρ') :=
  ⟨h.bel.grown hg (Nat.le_trans hb h.bel.size) (fun j hj => by cases hj; omega), fun z hz => (rho_old (Nat.lt_of_lt_of_le hz h.bel.size)).trans (h.role z hz), fun z hz h0 => (hg.block z (Nat.lt_of_lt_of_le hz h.bel.size) fun e => by have := Option.some.inj e; omega).trans (h.keep z hz h0)⟩
def turnC (x : ST) : ST := { newST with cert := x.cert }
def certG (g : GT) (v : Nat) : GT := { g with view := v, s := fun k => (g.s k).bind fun x => if x.cert.isSome = true then some x else none }
def leftG (g : GT) (left : Lit → Bool) : GT := { g with s := fun k => (g.s k).map fun x => if left (.int .u64 (k : Nat)) = true then x else turnC x }
theorem leftG_end (g : GT) (v : Nat) {left : Lit → Bool} (hl : ∀ l, left l = false) : leftG (certG g v) left = { g with view := v, s := fun k => (g.s k).bind turnS } := by
  unfold leftG certG
  simp only [GT.mk.injEq, true_and]
  funext k
  cases g.s k with
  | none => rfl
  | some x =>
    show (((if x.cert.isSome = true then some x else none : Option ST)).map fun x => if left (.int .u64 (k : Nat)) = true then x else turnC x) = turnS x
    unfold turnS
    rw [hl]
    cases x.cert.isSome <;> rfl
theorem leftG_start {g : GT} {left : Lit → Bool} (hl : ∀ (k : Nat) x, g.s k = some x → left (.int .u64 (k : Nat)) = true) : leftG g left = g := by
  unfold leftG
  cases g
  simp only [GT.mk.injEq, true_and] at hl ⊢
  funext k
  rename_i s
  cases hs : s k with
  | none => rfl
  | some x =>
    show some (if left (.int .u64 (k : Nat)) = true then x else turnC x) = some x
    rw [if_pos (hl k x hs)]
theorem leftG_step {g : GT} {left : Lit → Bool} {k : Nat} {x : ST} (hx : g.s k = some x) : leftG g (fun z => left z && !z.sameKey (.int .u64 (k : Nat))) = (leftG g left).put k (turnC x) := by
  unfold leftG GT.put
  simp only [GT.mk.injEq, true_and]
  funext j
  simp only [same_int]
  by_cases e : j = k
  · subst e
    rw [hx, if_pos rfl]
    simp
  · rw [if_neg e]
    simp [e]
theorem leftG_at {g : GT} {left : Lit → Bool} {k : Nat} {x : ST} (hx : g.s k = some x) (hl : left (.int .u64 (k : Nat)) = true) : (leftG g left).s k = some x := by
  unfold leftG
  show (g.s k).map _ = _
  rw [hx]
  show some (if left (.int .u64 (k : Nat)) = true then x else turnC x) = _
  rw [if_pos hl]
theorem ent1_u (w : World) (k : Value) (f : Nat) (b : SB) (x : ST) (h : SlotAt w f b x) : Calls Try.prog 55 #[k, .pointer (some ⟨b.X, 0, none⟩)] w fun e w' => e = .returned (.bool (!x.cert.isSome)) ∧ w' = w := by
  have x7 : w.cell? ⟨b.X, 7, none⟩ = some (.bool x.cert.isSome) := h.cell 7
  clear h
  go_enter Try.func55, Try.ntmps55
  go_wp2
  go_ret
  exact ⟨by cases x.cert <;> rfl, rfl⟩
set_option maxRecDepth 100000 in
set_option maxHeartbeats 4000000 in
theorem enter_any (w : World) (base L M n : Nat) (g : GT) (F : Value → Option Value) (B : Nat → SB) (ρ : Nat → Nat) (h : LG w base L M n g F B ρ) (v : Nat) :
    Calls Try.prog 30 #[.pointer (some ⟨L, 0, none⟩), .int .u64 (v : Nat)] w (MsgPost w base L M n ρ (entG g v)) := by
  have vz := h.viewz
  have cv : w.cell? ⟨L, 2, none⟩ = some (.int .u64 (g.view : Nat)) := h.lc.cell 2
  have HG : Hid (LG w base L M n g F B ρ) := h
  by_cases c1 : 4611686018427387903 < v
  · have hv : Hid (entG g v = (g, 14)) := if_pos c1
    have d1 : (4611686018427387903 : Int) < (v : Int) := by omega
    rw [hv.out]
    clear c1 hv h
    go_enter Try.func30, Try.ntmps30
    go_wp2
    go_ret
    exact ⟨n, F, B, ρ, rfl, HG.out, Stp.refl _ _ _, by omega⟩
  have d1 : ¬ (4611686018427387903 : Int) < (v : Int) := by omega
  by_cases c2 : v ≤ g.view
  · have hv : Hid (entG g v = (g, 12)) := (if_neg c1).trans (if_pos c2)
    have d2 : (v : Int) ≤ (g.view : Int) := by omega
    rw [hv.out]
    clear c1 hv h
    go_enter Try.func30, Try.ntmps30
    go_wp2
    go_ret
    exact ⟨n, F, B, ρ, rfl, HG.out, Stp.refl _ _ _, by omega⟩
  have d2 : ¬ (v : Int) ≤ (g.view : Int) := by omega
  have d2n : g.view < v := by omega
  have hv : Hid (entG g v = ({ g with view := v, s := fun k => (g.s k).bind turnS }, 0)) := (if_neg c1).trans (if_neg c2)
  have HC : Hid (v ≤ 4611686018427387903) := Nat.le_of_not_lt c1
  rw [hv.out]
  clear c1 c2 hv vz
  have AL : Arr w L 69 [.int .i64 (g.f : Nat), .int .u64 (g.low : Nat), .int .u64 (g.view : Nat), .map (some M)] := h.lc
  have fl2 := AL.free 2
  have A3 := AL.set 2 (.int .u64 (v : Nat))
  have G3 : w.grownBy (w.setCell ⟨L, 2, none⟩ (.int .u64 (v : Nat))) (some L) := grown_set (bel_grown (Below.refl _ w) (some L)) 2 _
  have hML : M ≠ L := fun e => by have r1 := h.rM; rw [e, h.rL] at r1; cases r1
  have M3 : MF (w.setCell ⟨L, 2, none⟩ (.int .u64 (v : Nat))) 30 M n F := h.mf.same (G3.block M h.mf.lt fun e => hML (Option.some.inj e))
  have cM : (w.setCell ⟨L, 2, none⟩ (.int .u64 (v : Nat))).cell? ⟨L, 3, none⟩ = some (.map (some M)) := A3.cell 3
  have CD := delete_u (w.setCell ⟨L, 2, none⟩ (.int .u64 (v : Nat))) M n F M3 (fun x => match g.s x with | none => true | some y => !y.cert.isSome) 55 #[] (enters_of Try.func55 (by kernel_rfl) rfl) (fun W x u hW hx hF => by
    obtain ⟨j, e, hj⟩ := h.no (eU x) (by rw [hF]; simp)
    simp only [Value.int.injEq, true_and] at e
    obtain rfl : j = x := by omega
    cases hs : g.s j with
    | none => exact absurd hs hj
    | some y =>
      obtain ⟨a1, a2⟩ := h.here j y hs
      obtain ⟨r1, r2, r3, r4⟩ := h.ro j y hs
      have hF2 : F (.int .u64 (j : Nat)) = some u := hF
      rw [a1] at hF2
      obtain rfl := Option.some.inj hF2
      have bl : ∀ z, z < w.heap.size → ρ z ≠ 1 → ρ z ≠ 2 → W.heap[z]? = w.heap[z]? := fun z hz b1 b2 => (hW.block z (Nat.lt_of_lt_of_le hz G3.size) fun e => b2 (by rw [Option.some.inj e]; exact h.rM)).trans (G3.block z hz fun e => b1 (by rw [Option.some.inj e]; exact h.rL))
      have a3 := a2.keep (bl _ a2.lt (by rw [r1]; omega) (by rw [r1]; omega)) (bl _ a2.P.lt (by rw [r2]; omega) (by rw [r2]; omega)) (bl _ a2.Q.lt (by rw [r3]; omega) (by rw [r3]; omega)) fun z hz => bl z (a2.imm_lt hz) (by rw [r4 z hz]; omega) (by rw [r4 z hz]; omega)
      refine (ent1_u W (eU j) g.f (B j) y a3).mono ?_
      rintro e w' ⟨rfl, rfl⟩
      exact ⟨rfl, bel_grown (Below.refl _ _) none⟩)
  have HA3 : Hid (Arr (w.setCell ⟨L, 2, none⟩ (.int .u64 (v : Nat))) L 69 [.int .i64 (g.f : Nat), .int .u64 (g.low : Nat), .int .u64 (v : Nat), .map (some M)]) := A3
  have HG3 : Hid (w.grownBy (w.setCell ⟨L, 2, none⟩ (.int .u64 (v : Nat))) (some L) ∧ M ≠ L) := ⟨G3, hML⟩
  clear AL A3 hML M3 G3 h
  go_enter Try.func30, Try.ntmps30
  go_wp2_with fail
  refine CD.mono ?_
  rintro e w4 ⟨rfl, ⟨n4, F4, M4, hn4, f1, f2⟩, G4⟩
  have K2 := HG.out
  have s3 := HG3.out.1.size
  have bl : ∀ z, z < w.heap.size → ρ z ≠ 1 → ρ z ≠ 2 → w4.heap[z]? = w.heap[z]? := fun z hz a1 a2 => (G4.block z (Nat.lt_of_lt_of_le hz s3) fun e => a2 (by rw [Option.some.inj e]; exact K2.rM)).trans (HG3.out.1.block z hz fun e => a1 (by rw [Option.some.inj e]; exact K2.rL))
  have lc4 : LC w4 L g.f g.low v M := (G4.block L HA3.out.lt fun e => HG3.out.2 (Option.some.inj e).symm).trans HA3.out
  have hbb := K2.hbs
  have b4 : Below base w w4 := ((Below.refl _ w).grown HG3.out.1 hbb (fun j hj => by cases hj; exact K2.baseL)).grown G4 (Nat.le_trans hbb s3) (fun j hj => by cases hj; exact K2.base_of (by rw [K2.rM]; decide))
  have lz := K2.lowz
  have inv : ∀ (k : Nat) (x : ST), (certG g v).s k = some x → g.s k = some x ∧ x.cert.isSome = true := fun k x hx => by
    have hx : ((g.s k).bind fun x => if x.cert.isSome = true then some x else none) = some x := hx
    cases hs : g.s k with
    | none => rw [hs] at hx; cases hx
    | some y =>
      rw [hs] at hx
      have hx : (if y.cert.isSome = true then some y else none) = some x := hx
      by_cases e : y.cert.isSome = true
      · rw [if_pos e] at hx
        obtain rfl := Option.some.inj hx
        exact ⟨rfl, e⟩
      · rw [if_neg e] at hx
        cases hx
  obtain ⟨K5, T5⟩ := K2.turn (g' := certG g v) rfl lz HC.out lc4 M4 b4 bl (fun k x hx => by
      obtain ⟨h1, h2⟩ := inv k x hx
      have := K2.win k x h1
      refine ⟨h1, (f1 k (by omega)).trans ?_⟩
      rw [h1]
      simp [h2]) (fun k x hx => K2.win k x (inv k x hx).1) (fun u hu => by
      obtain ⟨k, rfl, hk⟩ := K2.no u (f2 u hu)
      refine ⟨k, rfl, ?_⟩
      cases hs : g.s k with
      | none => exact absurd hs hk
      | some x =>
        have h64 : k < 18446744073709551616 := by have := K2.win k x hs; omega
        have h1 := f1 k h64
        rw [hs] at h1
        show ((g.s k).bind fun x => if x.cert.isSome = true then some x else none) ≠ none
        rw [hs]
        show (if x.cert.isSome = true then some x else none) ≠ none
        by_cases e : x.cert.isSome = true
        · rw [if_pos e]
          simp
        · rw [if_pos (by simpa using e)] at h1
          exact absurd h1 hu)
  have HK : Hid (LG w4 base L M n4 (certG g v) F4 B (rho w ρ) ∧ Stp base w w4 ρ (rho w ρ) ∧ n4 ≤ n) := ⟨K5, T5, hn4⟩
  obtain ⟨D, hown, hsz, hT⟩ := M4
  have HT : Hid (TriF D F4) := hT
  have cM4 : w4.cell? ⟨L, 3, none⟩ = some (.map (some M)) := K5.lc.cell 3
  clear K2 s3 bl lc4 hbb b4 lz inv K5 T5 hn4 f1 f2 G4 HG3 HA3 CD cM fl2 hT hsz
  go_wp2_with (first
    | (at_range; refine wpList_range_own _ rfl _ 67 rfl 30 80 kU Try.underlying67 vElem M n4 _ rfl hown ?_; intro w0 hrg0 hg0 hs0)
    | go_in)
  go_frame
  have B0 : Below w4.heap.size w4 w0 := ⟨hg0.os, hg0.tape, hg0.output, hg0.size, fun z hz => hg0.block z hz (by simp)⟩
  have HS : Hid (∃ ρ', LG w0 base L M n4 (leftG (certG g v) (Maps.has D)) F4 B ρ' ∧ Stp base w4 w0 (rho w ρ) ρ') := by
    obtain ⟨k1, k2⟩ := HK.out.1.below B0
    refine ⟨_, ?_, k2⟩
    rw [leftG_start fun k x hx => ?_]
    · exact k1
    · have h1 := (HK.out.1.here k x hx).1
      have hw := HK.out.1.win k x hx
      have hz : g.low ≤ 4611686018427387895 := HK.out.1.lowz
      have hw2 : k ≤ g.low + 8 := hw.2
      rcases HT.out _ _ (keyU k (by omega)) with ⟨e1, _⟩ | ⟨u, _, e2, _⟩
      · rw [h1] at e1
        cases e1
      · exact e2
  clear B0 hg0 hs0 hown
  go_loopw [34] (fun _ wr => ∃ (left : Lit → Bool) (cnt : Nat) (Bc : Nat → SB) (ρc : Nat → Nat), wr.ranges Try.prog 30 vElem M w4.heap.size n4 D left cnt ∧ Hid (LG wr base L M n4 (leftG (certG g v) left) F4 Bc ρc ∧ Stp base w4 wr (rho w ρ) ρc))
    (fun _ wr => wr.rangeLeft M w4.heap.size)
  case atStart =>
    obtain ⟨ρ', k1, k2⟩ := HS.out
    exact ⟨_, _, B, ρ', hrg0, k1, k2⟩
  case round =>
    obtain ⟨left, cnt, Bc, ρc, hrg, HI⟩ := hrel
    go_wp2_with (first
      | (at_next; refine wpList_next_ranges _ rfl _ rfl 30 kU vElem eU id (fun key kl hk => by obtain ⟨x, hx, _⟩ := keyU_inv hk; exact ⟨x, hx⟩) (fun v _ _ => ⟨v, rfl⟩) M w4.heap.size n4 _ _ _ rfl hrg ?_ ?_)
      | go_in)
    · intro _ hl0
      go_wp2
      go_ret
      obtain ⟨KL, TL⟩ := HI.out
      rw [leftG_end g v hl0] at KL
      have hn4 := HK.out.2.2
      exact ⟨n4, F4, Bc, ρc, rfl, KL, HK.out.2.1.trans TL, by omega⟩
    · intro x c kl yd yp w1 cnt1 hkey hlx hv hat hrg1 hlt hg1 hs1 hen
      obtain ⟨x', ex, rfl, hx64⟩ := keyU_inv hkey
      obtain rfl : x = x' := by
        simp only [Value.int.injEq, true_and] at ex
        omega
      have hy : yd = .held c := by
        unfold vElem at hv
        simp at hv
        exact hv.1.symm
      have hFc : F4 (eU x) = some c := by
        rcases HT.out _ _ hkey with ⟨_, _, a3⟩ | ⟨u, a1, _, a3⟩
        · have b1 := (a3 (.held (.bool true))).symm.trans (hat _)
          have b2 := (a3 (.held (.bool false))).symm.trans (hat _)
          rw [← b2] at b1
          cases b1
        · have b1 := (a3 .nil).symm.trans (hat _)
          rw [hy] at b1
          simp only [DataW.held.injEq] at b1
          rw [← b1]
          exact a1
      obtain ⟨y, hys⟩ : ∃ y, (certG g v).s x = some y := by
        obtain ⟨j, e, hj⟩ := HK.out.1.no (eU x) (by rw [hFc]; simp)
        simp only [Value.int.injEq, true_and] at e
        obtain rfl : j = x := by omega
        cases hs : (certG g v).s j with
        | none => exact absurd hs hj
        | some y => exact ⟨y, rfl⟩
      have ha := leftG_at hys hlx
      obtain ⟨ow, ho1, ho2⟩ := hrg.iter_walk
      have K1 := HI.out.1.iter ⟨ow, ho1, Obj.not_cells_of_walk ho2⟩ hrg.ne hg1
      have T1 := HI.out.2.more hg1 (Nat.le_refl _) (Nat.le_trans HK.out.1.hbs (Nat.le_refl _))
      obtain ⟨a1, a2⟩ := K1.here x y ha
      have hF2 : F4 (.int .u64 (x : Nat)) = some c := hFc
      rw [a1] at hF2
      obtain rfl := Option.some.inj hF2
      have CN := newRound_any w1 g.f HK.out.1.f1 HK.out.1.f4
      have cf : w1.cell? ⟨L, 0, none⟩ = some (.int .i64 (g.f : Nat)) := K1.lc.cell 0
      have H1 : Hid (LG w1 base L M n4 (leftG (certG g v) left) F4 Bc (rho wr ρc) ∧ Stp base w4 w1 (rho w ρ) (rho wr ρc) ∧ (leftG (certG g v) left).s x = some y ∧ (certG g v).s x = some y ∧ SlotAt w1 g.f (Bc x) y) := ⟨K1, T1, ha, hys, a2⟩
      clear hFc hF2 hy hv hat hlx hs1 K1 T1 ha hys a1 a2 ho1 ho2 hx64
      go_wp2_with (first
        | (go_at_call 56; refine CN.mono ?_; rintro e w2 ⟨p, q, rfl, hp, hpq, Q1, Q2, hB⟩
           have HX2 : Arr w2 (Bc x).X 87 ((Bc x).rc y ++ (Bc x).cc y) := Arr.below H1.out.2.2.2.2.mem hB H1.out.2.2.2.2.lt
           have k0 : w2.cell? ⟨(Bc x).X, 0, none⟩ = some (.bool y.has) := HX2.cell 0
           have k1 : w2.cell? ⟨(Bc x).X, 1, none⟩ = some (.string y.sum) := HX2.cell 1
           have k2 : w2.cell? ⟨(Bc x).X, 2, none⟩ = some (.int .u64 (Bc x).s.fr) := HX2.cell 2
           have k3 : w2.cell? ⟨(Bc x).X, 3, none⟩ = some (.slice (Bc x).s.b.ao (Bc x).s.b.n (Bc x).s.b.cap) := HX2.cell 3
           have k4 : w2.cell? ⟨(Bc x).X, 4, none⟩ = some (.slice (Bc x).s.tag.ao (Bc x).s.tag.n (Bc x).s.tag.cap) := HX2.cell 4
           have k5 : w2.cell? ⟨(Bc x).X, 5, none⟩ = some (.pointer (some ⟨(Bc x).p, 0, none⟩)) := HX2.cell 5
           have k6 : w2.cell? ⟨(Bc x).X, 6, none⟩ = some (.pointer (some ⟨(Bc x).q, 0, none⟩)) := HX2.cell 6
           have f0 := HX2.free 0
           have f1 := HX2.free 1
           have f2 := HX2.free 2
           have f3 := HX2.free 3
           have f4 := HX2.free 4
           have f5 := HX2.free 5
           have f6 := HX2.free 6
           have HQ : Hid (w1.heap.size < p ∧ p < q ∧ QS w2 p g.f noVotes ∧ QS w2 q g.f noVotes ∧ Below w1.heap.size w1 w2) := ⟨hp, hpq, Q1, Q2, hB⟩
           have HH2 : Hid (Arr w2 (Bc x).X 87 ((Bc x).rc y ++ (Bc x).cc y)) := HX2
           clear HX2 hp hpq Q1 Q2 hB CN)
        | go_in)
      clear k0 k1 k2 k3 k4 k5 k6 f0 f1 f2 f3 f4 f5 f6
      have HX2 := HH2.out
      have A9 : Arr (((((((w2.setCell ⟨(Bc x).X, 0, none⟩ (.bool false)).setCell ⟨(Bc x).X, 1, none⟩ (.string ⟨#[]⟩)).setCell ⟨(Bc x).X, 2, none⟩ (.int .u64 0)).setCell ⟨(Bc x).X, 3, none⟩ (.slice none 0 0)).setCell ⟨(Bc x).X, 4, none⟩ (.slice none 0 0)).setCell ⟨(Bc x).X, 5, none⟩ (.pointer (some ⟨p, 0, none⟩))).setCell ⟨(Bc x).X, 6, none⟩ (.pointer (some ⟨q, 0, none⟩))) (Bc x).X 87 (({ Bc x with p := p, q := q, s := ⟨0, ⟨none, 0, 0, []⟩, ⟨none, 0, 0, []⟩⟩ } : SB).rc (turnC y) ++ (Bc x).cc y) := (((((((HX2.set 0 (.bool false)).set 1 (.string ⟨#[]⟩)).set 2 (.int .u64 0)).set 3 (.slice none 0 0)).set 4 (.slice none 0 0)).set 5 (.pointer (some ⟨p, 0, none⟩))).set 6 (.pointer (some ⟨q, 0, none⟩)))
      have G9 : w2.grownBy (((((((w2.setCell ⟨(Bc x).X, 0, none⟩ (.bool false)).setCell ⟨(Bc x).X, 1, none⟩ (.string ⟨#[]⟩)).setCell ⟨(Bc x).X, 2, none⟩ (.int .u64 0)).setCell ⟨(Bc x).X, 3, none⟩ (.slice none 0 0)).setCell ⟨(Bc x).X, 4, none⟩ (.slice none 0 0)).setCell ⟨(Bc x).X, 5, none⟩ (.pointer (some ⟨p, 0, none⟩))).setCell ⟨(Bc x).X, 6, none⟩ (.pointer (some ⟨q, 0, none⟩))) (some (Bc x).X) := grown_set (grown_set (grown_set (grown_set (grown_set (grown_set (grown_set (bel_grown (Below.refl _ w2) (some (Bc x).X)) 0 _) 1 _) 2 _) 3 _) 4 _) 5 _) 6 _
      obtain ⟨w9, hw9⟩ : ∃ z, z = (((((((w2.setCell ⟨(Bc x).X, 0, none⟩ (.bool false)).setCell ⟨(Bc x).X, 1, none⟩ (.string ⟨#[]⟩)).setCell ⟨(Bc x).X, 2, none⟩ (.int .u64 0)).setCell ⟨(Bc x).X, 3, none⟩ (.slice none 0 0)).setCell ⟨(Bc x).X, 4, none⟩ (.slice none 0 0)).setCell ⟨(Bc x).X, 5, none⟩ (.pointer (some ⟨p, 0, none⟩))).setCell ⟨(Bc x).X, 6, none⟩ (.pointer (some ⟨q, 0, none⟩))) := ⟨_, rfl⟩
      rw [← hw9] at A9 G9 ⊢
      clear hw9
      obtain ⟨hp, hpq, Q1, Q2, hB⟩ := HQ.out
      obtain ⟨K1, T1, ha, hys, a2⟩ := H1.out
      obtain ⟨r1, r2, r3, r4⟩ := K1.ro x y ha
      obtain ⟨a1, -⟩ := K1.here x y ha
      have hx8 := K1.win x y ha
      have lp := Q1.lt
      have lq := Q2.lt
      have bl : ∀ z, z < w1.heap.size → z ≠ (Bc x).X → w9.heap[z]? = w1.heap[z]? := fun z hz hn => (G9.block z (Nat.lt_of_lt_of_le hz hB.size) fun e => hn (Option.some.inj e)).trans (hB.block z hz)
      have hXl := a2.lt
      have blr : ∀ z, z < w1.heap.size → rho wr ρc z ≠ 3 * x + 4 → w9.heap[z]? = w1.heap[z]? := fun z hz hn => bl z hz fun e => hn (by rw [e]; exact r1)
      have hbs := K1.hbs
      have hpX : p ≠ (Bc x).X := by omega
      have hqX : q ≠ (Bc x).X := by omega
      obtain ⟨ρ9, hρ9⟩ : ∃ ρ' : Nat → Nat, ρ' = fun z => if z < w1.heap.size then rho wr ρc z else if z = p then 3 * x + 5 else if z = q then 3 * x + 6 else 0 := ⟨_, rfl⟩
      have o9 : ∀ z, z < w1.heap.size → ρ9 z = rho wr ρc z := fun z hz => by rw [hρ9]; exact if_pos hz
      have p9 : ρ9 p = 3 * x + 5 := by
        rw [hρ9]
        show (if p < w1.heap.size then _ else _) = _
        rw [if_neg (by omega), if_pos rfl]
      have q9 : ρ9 q = 3 * x + 6 := by
        rw [hρ9]
        show (if q < w1.heap.size then _ else _) = _
        rw [if_neg (by omega), if_neg (by omega), if_pos rfl]
      have M9 : MF w9 30 M n4 F4 := K1.mf.same (blr M K1.mf.lt (by rw [K1.rM]; omega))
      have S9 : SlotAt w9 g.f { Bc x with p := p, q := q, s := ⟨0, ⟨none, 0, 0, []⟩, ⟨none, 0, 0, []⟩⟩ } (turnC y) := ⟨A9, ⟨by show 0 < _; omega, Sl.nothing _, Sl.nothing _⟩, rfl, Q1.keep (G9.block p lp fun e => hpX (Option.some.inj e)), Q2.keep (G9.block q lq fun e => hqX (Option.some.inj e)),
        a2.L.kept elS_fine fun z hz => blr z (a2.L.lt elS_fine hz) (by rw [r4 z (.inr hz)]; omega), a2.lv, Nat.zero_le _, a2.cz, a2.vz, ⟨Nat.zero_le _, Nat.zero_le _⟩, a2.tz, a2.ln⟩
      have K9 := K1.step (w' := w9) (n' := n4) (F' := F4) (b' := { Bc x with p := p, q := q, s := ⟨0, ⟨none, 0, 0, []⟩, ⟨none, 0, 0, []⟩⟩ }) (x' := turnC y) (ρ' := ρ9) x hx8 o9 (fun z hz _ b2 _ _ => blr z hz b2) M9 a1 (fun _ _ => rfl) S9 ((o9 _ hXl).trans r1) p9 q9 (fun z hz => by
        rcases hz with hz | hz
        · rcases hz with ⟨a, h, _⟩ | ⟨a, h, _⟩ <;> cases h
        · exact (o9 z (a2.L.lt elS_fine hz)).trans (r4 z (.inr hz)))
      have T9 : Stp base w1 w9 (rho wr ρc) ρ9 := ⟨(hB.mono hbs).grown G9 (Nat.le_trans hbs hB.size) (fun j hj => by cases hj; exact K1.base_of (by rw [r1]; omega)), o9, fun z hz h0 => blr z hz (by omega)⟩
      have rX : some w4.heap.size ≠ some (Bc x).X := fun e => by
        obtain ⟨ow, ho1, ho2⟩ := hrg1.iter_walk
        rw [Option.some.inj e] at ho1
        have := a2.mem
        unfold SlC Arr at this
        rw [this] at ho1
        obtain rfl := Option.some.inj ho1
        cases ho2
      have MX : some M ≠ some (Bc x).X := fun e => by
        have r0 := K1.rM
        rw [Option.some.inj e, r1] at r0
        omega
      have hrg9 := (hrg1.kept (bel_grown hB none) (by simp) (by simp)).kept G9 MX rX
      rw [← leftG_step hys] at K9
      have HK9 : Hid (LG w9 base L M n4 (leftG (certG g v) (fun z => left z && !z.sameKey (.int .u64 (x : Nat)))) F4 (fun j => if j = x then { Bc x with p := p, q := q, s := ⟨0, ⟨none, 0, 0, []⟩, ⟨none, 0, 0, []⟩⟩ } else Bc j) ρ9 ∧ Stp base w4 w9 (rho w ρ) ρ9) := ⟨K9, T1.trans T9⟩
      clear K9 T9 S9 M9 A9 G9 K1 T1 a2 HX2 Q1 Q2 hB
      refine ⟨⟨_, cnt1, _, ρ9, hrg9, HK9⟩, ?_⟩
      rw [hrg9.left_eq, hrg.left_eq]
      exact hlt
open Go.RowKit
def litO (l : List OA) (n : Nat) : Bool := decide (l.length ≤ n) && l.all fun o => decide (o.b.n ≤ 100)
theorem litO_of {l : List OA} {n : Nat} (h : litO l n = true) : l.length ≤ n ∧ ∀ o ∈ l, o.b.n ≤ 100 := by
  unfold litO at h
  simp only [Bool.and_eq_true, decide_eq_true_eq, List.all_eq_true] at h
  exact h
def svO (o : OA) : SV := ⟨o.fr, [o.k % 256], o.b.xs⟩
def oneG (g : GT) (o : OA) : GT × Int :=
  if o.k = 0 then preG g (svO o) o.seq (strOfNums o.b.xs)
  else if o.k = 1 then parG g (svO o) o.seq (strOfNums o.b.xs)
  else if o.k = 2 then comG g (svO o) o.seq (strOfNums o.b.xs)
  else if o.k = 3 then entG g o.seq
  else if o.k = 4 then advG g o.seq
  else (g, 0)
set_option maxRecDepth 100000 in
set_option maxHeartbeats 4000000 in
theorem light15 (w : World) (ao : Option Addr) (n cap : Nat) (l : List OA) (h : GL elO w ao n cap l) (m : Nat) (hm : m ≤ 100) : Calls Try.prog 9 #[.slice ao n cap, .int .i64 (m : Nat)] w fun e w' => e = .returned (.bool (litO l m)) ∧ Below w.heap.size w w' := by
  have hl := h.len
  by_cases hb : n ≤ m
  · have i1 : ¬ (m : Int) < (n : Int) := by omega
    have HL : Hid (litO l m = l.all fun o => decide (o.b.n ≤ 100)) := by show _ = _; unfold litO; rw [decide_eq_true (by omega), Bool.true_and]
    rw [HL.out]
    obtain ⟨R, hR⟩ : ∃ R, R = l.all fun o => decide (o.b.n ≤ 100) := ⟨_, rfl⟩
    rw [← hR]
    have HR : Hid (R = _) := hR
    clear hR HL
    go_enter Try.func9, Try.ntmps9
    go_wp2
    go_loopw [5] (fun i wr => ∃ k : Nat, k ≤ n ∧ i = .int .i64 (k : Nat) ∧ Below w.heap.size w wr ∧ Hid (∀ j (hj : j < l.length), j < k → l[j].b.n ≤ 100)) (fun i _ => n - (intOf i).toNat)
    case atStart => exact ⟨0, Nat.zero_le _, rfl, Below.refl _ _, fun j hj h0 => absurd h0 (Nat.not_lt_zero _)⟩
    case round =>
      obtain ⟨k, hk, rfl, BR, HK⟩ := hrel
      by_cases hlt : k < n
      · have hki : (k : Int) < (n : Int) := by omega
        obtain ⟨b, off, rfl, hX⟩ := h.atO (by omega)
        have hkx : k < l.length := by omega
        have HX := hX k hkx
        obtain ⟨o, ho⟩ : ∃ o, o = l[k] := ⟨_, rfl⟩
        rw [← ho] at HX
        have c3 := (BR.cell (World.block_lt_of_cell? _ _ HX.c3)).trans HX.c3
        have HO : Hid (o = l[k]) := ho
        clear hX HX ho
        by_cases h100 : o.b.n ≤ 100
        · have i2 : ¬ (100 : Int) < (o.b.n : Int) := by omega
          have HK2 : Hid (∀ j (hj : j < l.length), j < k + 1 → l[j].b.n ≤ 100) := fun j hj h1 => by
            by_cases e : j = k
            · subst e
              rw [← HO.out]
              exact h100
            · exact HK.out j hj (by omega)
          clear h100
          go_wp2
          go_roundw
          case rel => exact ⟨k + 1, by omega, by go_num, BR, HK2⟩
          case measure => simp [intOf]; omega
        · have i2 : (100 : Int) < (o.b.n : Int) := by omega
          have hf : (l.all fun o => decide (o.b.n ≤ 100)) = false := by
            rw [List.all_eq_false]
            exact ⟨o, by rw [HO.out]; exact List.getElem_mem hkx, by simpa using h100⟩
          have hR2 : Hid (R = false) := HR.out.trans hf
          clear h100 hf
          go_wp2
          go_ret
          exact ⟨by rw [hR2.out] <;> rfl, BR⟩
      · have hge : ¬ (k : Int) < (n : Int) := by omega
        have ht : (l.all fun o => decide (o.b.n ≤ 100)) = true := by
          rw [List.all_eq_true]
          intro o ho
          obtain ⟨j, hj, rfl⟩ := List.getElem_of_mem ho
          exact decide_eq_true (HK.out j hj (by omega))
        have hR2 : Hid (R = true) := HR.out.trans ht
        clear ht
        go_wp2
        go_ret
        exact ⟨by rw [hR2.out] <;> rfl, BR⟩
  · have i1 : (m : Int) < (n : Int) := by omega
    have HL : Hid (litO l m = false) := by show _ = _; unfold litO; rw [decide_eq_false (by omega), Bool.false_and]
    rw [HL.out]
    clear hb
    go_enter Try.func9, Try.ntmps9
    go_wp2
    go_ret
    exact ⟨rfl, Below.refl _ _⟩
set_option maxRecDepth 100000 in
set_option maxHeartbeats 4000000 in
theorem one_0 (w : World) (base L M n : Nat) (g : GT) (F : Value → Option Value) (B : Nat → SB) (ρ : Nat → Nat) (h : LG w base L M n g F B ρ) (hn : n < maxLen) (fr seq : Nat) (b : Bs) (ok : OA.ok ⟨0, fr, seq, b⟩ w) (hr : ∀ z, b.blk z → ρ z = 0) (hz : b.n ≤ 1000000) :
    Calls Try.prog 12 #[.pointer (some ⟨L, 0, none⟩), .agg #[.int .i64 0, .int .u64 (fr : Nat), .int .u64 (seq : Nat), .slice b.ao b.n b.cap]] w (MsgPost w base L M n ρ (oneG g ⟨0, fr, seq, b⟩)) := by
  have b1 : Below w.heap.size w (((w.alloc (.cells #[.int .i64 0, .int .u64 (fr : Nat), .int .u64 (seq : Nat), .slice b.ao b.n b.cap] 37)).alloc (.cells #[.int .u8 0] 5)).alloc (.cells #[.int .u64 (fr : Nat), .slice (some ⟨w.heap.size + 1, 0, none⟩) 1 1, .slice b.ao b.n b.cap] 62)) := (((Below.refl _ w).alloc (Nat.le_refl _) _).alloc (by simp) _).alloc (by simp; omega) _
  obtain ⟨K1, T1⟩ := h.below b1
  have S2 : Sl (((w.alloc (.cells #[.int .i64 0, .int .u64 (fr : Nat), .int .u64 (seq : Nat), .slice b.ao b.n b.cap] 37)).alloc (.cells #[.int .u8 0] 5)).alloc (.cells #[.int .u64 (fr : Nat), .slice (some ⟨w.heap.size + 1, 0, none⟩) 1 1, .slice b.ao b.n b.cap] 62)) (some ⟨w.heap.size + 1, 0, none⟩) 1 1 [0] := by
    have e : (w.alloc (.cells #[.int .i64 0, .int .u64 (fr : Nat), .int .u64 (seq : Nat), .slice b.ao b.n b.cap] 37)).heap.size = w.heap.size + 1 := by simp
    have S := Sl.new (w.alloc (.cells #[.int .i64 0, .int .u64 (fr : Nat), .int .u64 (seq : Nat), .slice b.ao b.n b.cap] 37)) [0] (fun x hx => by rw [List.mem_singleton.1 hx]; omega) (by decide)
    rw [e] at S
    exact Sl.below S ((Below.refl _ _).alloc (Nat.le_refl _) _)
  have CA := pre_any _ _ _ _ _ _ _ _ _ K1 hn ⟨fr, ⟨some ⟨w.heap.size + 1, 0, none⟩, 1, 1, [0]⟩, b⟩ ⟨ok.fr, S2, ok.b.below b1⟩ (fun z hz => by
    rcases hz with ⟨a, ha, _, e⟩ | hz
    · cases ha
      rw [← e]
      exact rho_new (by show w.heap.size ≤ w.heap.size + 1; omega)
    · rw [rho_old (ok.b.blk_lt hz)]
      exact hr z hz) ⟨by show 1 ≤ _; omega, hz⟩ seq ok.seq b.ao b.n b.cap b.xs (ok.b.below b1) (fun z hz => by
    have hz : b.blk z := hz
    rw [rho_old (ok.b.blk_lt hz)]
    exact hr z hz) hz
  have HV : Hid (oneG g ⟨0, fr, seq, b⟩ = preG g (SA.v ⟨fr, ⟨some ⟨w.heap.size + 1, 0, none⟩, 1, 1, [0]⟩, b⟩) seq (strOfNums b.xs)) := rfl
  have HT : Hid (Stp base w _ ρ _) := T1
  rw [HV.out]
  unfold SA.val at CA
  clear h K1 T1 S2 b1 ok hr HV
  go_enter Try.func12, Try.ntmps12
  go_wp2_with (go_at_call 27; refine CA.mono ?_; rintro x w5 ⟨n5, F5, B5, ρ5, rfl, K5, T5, h5⟩)
  go_ret
  exact ⟨n5, F5, B5, ρ5, rfl, K5, HT.out.trans T5, h5⟩
set_option maxRecDepth 100000 in
set_option maxHeartbeats 4000000 in
theorem one_1 (w : World) (base L M n : Nat) (g : GT) (F : Value → Option Value) (B : Nat → SB) (ρ : Nat → Nat) (h : LG w base L M n g F B ρ) (hn : n < maxLen) (fr seq : Nat) (b : Bs) (ok : OA.ok ⟨1, fr, seq, b⟩ w) (hr : ∀ z, b.blk z → ρ z = 0) (hz : b.n ≤ 1000000) :
    Calls Try.prog 12 #[.pointer (some ⟨L, 0, none⟩), .agg #[.int .i64 1, .int .u64 (fr : Nat), .int .u64 (seq : Nat), .slice b.ao b.n b.cap]] w (MsgPost w base L M n ρ (oneG g ⟨1, fr, seq, b⟩)) := by
  have b1 : Below w.heap.size w (((w.alloc (.cells #[.int .i64 1, .int .u64 (fr : Nat), .int .u64 (seq : Nat), .slice b.ao b.n b.cap] 37)).alloc (.cells #[.int .u8 1] 5)).alloc (.cells #[.int .u64 (fr : Nat), .slice (some ⟨w.heap.size + 1, 0, none⟩) 1 1, .slice b.ao b.n b.cap] 62)) := (((Below.refl _ w).alloc (Nat.le_refl _) _).alloc (by simp) _).alloc (by simp; omega) _
  obtain ⟨K1, T1⟩ := h.below b1
  have S2 : Sl (((w.alloc (.cells #[.int .i64 1, .int .u64 (fr : Nat), .int .u64 (seq : Nat), .slice b.ao b.n b.cap] 37)).alloc (.cells #[.int .u8 1] 5)).alloc (.cells #[.int .u64 (fr : Nat), .slice (some ⟨w.heap.size + 1, 0, none⟩) 1 1, .slice b.ao b.n b.cap] 62)) (some ⟨w.heap.size + 1, 0, none⟩) 1 1 [1] := by
    have e : (w.alloc (.cells #[.int .i64 1, .int .u64 (fr : Nat), .int .u64 (seq : Nat), .slice b.ao b.n b.cap] 37)).heap.size = w.heap.size + 1 := by simp
    have S := Sl.new (w.alloc (.cells #[.int .i64 1, .int .u64 (fr : Nat), .int .u64 (seq : Nat), .slice b.ao b.n b.cap] 37)) [1] (fun x hx => by rw [List.mem_singleton.1 hx]; omega) (by decide)
    rw [e] at S
    exact Sl.below S ((Below.refl _ _).alloc (Nat.le_refl _) _)
  have CA := prepare_any _ _ _ _ _ _ _ _ _ K1 hn ⟨fr, ⟨some ⟨w.heap.size + 1, 0, none⟩, 1, 1, [1]⟩, b⟩ ⟨ok.fr, S2, ok.b.below b1⟩ (fun z hz => by
    rcases hz with ⟨a, ha, _, e⟩ | hz
    · cases ha
      rw [← e]
      exact rho_new (by show w.heap.size ≤ w.heap.size + 1; omega)
    · rw [rho_old (ok.b.blk_lt hz)]
      exact hr z hz) ⟨by show 1 ≤ _; omega, hz⟩ seq ok.seq b.ao b.n b.cap b.xs (ok.b.below b1) (fun z hz => by
    have hz : b.blk z := hz
    rw [rho_old (ok.b.blk_lt hz)]
    exact hr z hz) hz
  have HV : Hid (oneG g ⟨1, fr, seq, b⟩ = parG g (SA.v ⟨fr, ⟨some ⟨w.heap.size + 1, 0, none⟩, 1, 1, [1]⟩, b⟩) seq (strOfNums b.xs)) := rfl
  have HT : Hid (Stp base w _ ρ _) := T1
  rw [HV.out]
  unfold SA.val at CA
  clear h K1 T1 S2 b1 ok hr HV
  go_enter Try.func12, Try.ntmps12
  go_wp2_with (go_at_call 28; refine CA.mono ?_; rintro x w5 ⟨n5, F5, B5, ρ5, rfl, K5, T5, h5⟩)
  go_ret
  exact ⟨n5, F5, B5, ρ5, rfl, K5, HT.out.trans T5, h5⟩
set_option maxRecDepth 100000 in
set_option maxHeartbeats 4000000 in
theorem one_2 (w : World) (base L M n : Nat) (g : GT) (F : Value → Option Value) (B : Nat → SB) (ρ : Nat → Nat) (h : LG w base L M n g F B ρ) (hn : n < maxLen) (fr seq : Nat) (b : Bs) (ok : OA.ok ⟨2, fr, seq, b⟩ w) (hr : ∀ z, b.blk z → ρ z = 0) (hz : b.n ≤ 1000000) :
    Calls Try.prog 12 #[.pointer (some ⟨L, 0, none⟩), .agg #[.int .i64 2, .int .u64 (fr : Nat), .int .u64 (seq : Nat), .slice b.ao b.n b.cap]] w (MsgPost w base L M n ρ (oneG g ⟨2, fr, seq, b⟩)) := by
  have b1 : Below w.heap.size w (((w.alloc (.cells #[.int .i64 2, .int .u64 (fr : Nat), .int .u64 (seq : Nat), .slice b.ao b.n b.cap] 37)).alloc (.cells #[.int .u8 2] 5)).alloc (.cells #[.int .u64 (fr : Nat), .slice (some ⟨w.heap.size + 1, 0, none⟩) 1 1, .slice b.ao b.n b.cap] 62)) := (((Below.refl _ w).alloc (Nat.le_refl _) _).alloc (by simp) _).alloc (by simp; omega) _
  obtain ⟨K1, T1⟩ := h.below b1
  have S2 : Sl (((w.alloc (.cells #[.int .i64 2, .int .u64 (fr : Nat), .int .u64 (seq : Nat), .slice b.ao b.n b.cap] 37)).alloc (.cells #[.int .u8 2] 5)).alloc (.cells #[.int .u64 (fr : Nat), .slice (some ⟨w.heap.size + 1, 0, none⟩) 1 1, .slice b.ao b.n b.cap] 62)) (some ⟨w.heap.size + 1, 0, none⟩) 1 1 [2] := by
    have e : (w.alloc (.cells #[.int .i64 2, .int .u64 (fr : Nat), .int .u64 (seq : Nat), .slice b.ao b.n b.cap] 37)).heap.size = w.heap.size + 1 := by simp
    have S := Sl.new (w.alloc (.cells #[.int .i64 2, .int .u64 (fr : Nat), .int .u64 (seq : Nat), .slice b.ao b.n b.cap] 37)) [2] (fun x hx => by rw [List.mem_singleton.1 hx]; omega) (by decide)
    rw [e] at S
    exact Sl.below S ((Below.refl _ _).alloc (Nat.le_refl _) _)
  have CA := commit_any _ _ _ _ _ _ _ _ _ K1 hn ⟨fr, ⟨some ⟨w.heap.size + 1, 0, none⟩, 1, 1, [2]⟩, b⟩ ⟨ok.fr, S2, ok.b.below b1⟩ (fun z hz => by
    rcases hz with ⟨a, ha, _, e⟩ | hz
    · cases ha
      rw [← e]
      exact rho_new (by show w.heap.size ≤ w.heap.size + 1; omega)
    · rw [rho_old (ok.b.blk_lt hz)]
      exact hr z hz) ⟨by show 1 ≤ _; omega, hz⟩ seq ok.seq b.ao b.n b.cap b.xs (ok.b.below b1) (fun z hz => by
    have hz : b.blk z := hz
    rw [rho_old (ok.b.blk_lt hz)]
    exact hr z hz) hz
  have HV : Hid (oneG g ⟨2, fr, seq, b⟩ = comG g (SA.v ⟨fr, ⟨some ⟨w.heap.size + 1, 0, none⟩, 1, 1, [2]⟩, b⟩) seq (strOfNums b.xs)) := rfl
  have HT : Hid (Stp base w _ ρ _) := T1
  rw [HV.out]
  unfold SA.val at CA
  clear h K1 T1 S2 b1 ok hr HV
  go_enter Try.func12, Try.ntmps12
  go_wp2_with (go_at_call 29; refine CA.mono ?_; rintro x w5 ⟨n5, F5, B5, ρ5, rfl, K5, T5, h5⟩)
  go_ret
  exact ⟨n5, F5, B5, ρ5, rfl, K5, HT.out.trans T5, h5⟩
set_option maxRecDepth 100000 in
set_option maxHeartbeats 4000000 in
theorem one_3 (w : World) (base L M n : Nat) (g : GT) (F : Value → Option Value) (B : Nat → SB) (ρ : Nat → Nat) (h : LG w base L M n g F B ρ) (fr seq : Nat) (b : Bs) (_ : OA.ok ⟨3, fr, seq, b⟩ w) (_ : ∀ z, b.blk z → ρ z = 0) (_ : b.n ≤ 1000000) :
    Calls Try.prog 12 #[.pointer (some ⟨L, 0, none⟩), .agg #[.int .i64 3, .int .u64 (fr : Nat), .int .u64 (seq : Nat), .slice b.ao b.n b.cap]] w (MsgPost w base L M n ρ (oneG g ⟨3, fr, seq, b⟩)) := by
  have b1 : Below w.heap.size w (((w.alloc (.cells #[.int .i64 3, .int .u64 (fr : Nat), .int .u64 (seq : Nat), .slice b.ao b.n b.cap] 37)).alloc (.cells #[.int .u8 3] 5)).alloc (.cells #[.int .u64 (fr : Nat), .slice (some ⟨w.heap.size + 1, 0, none⟩) 1 1, .slice b.ao b.n b.cap] 62)) := (((Below.refl _ w).alloc (Nat.le_refl _) _).alloc (by simp) _).alloc (by simp; omega) _
  obtain ⟨K1, T1⟩ := h.below b1
  have CA := enter_any _ _ _ _ _ _ _ _ _ K1 seq
  have HV : Hid (oneG g ⟨3, fr, seq, b⟩ = entG g seq) := rfl
  have HT : Hid (Stp base w _ ρ _) := T1
  rw [HV.out]
  clear h K1 T1 b1 HV
  go_enter Try.func12, Try.ntmps12
  go_wp2_with (go_at_call 30; refine CA.mono ?_; rintro x w5 ⟨n5, F5, B5, ρ5, rfl, K5, T5, h5⟩)
  go_ret
  exact ⟨n5, F5, B5, ρ5, rfl, K5, HT.out.trans T5, h5⟩
set_option maxRecDepth 100000 in
set_option maxHeartbeats 4000000 in
theorem one_4 (w : World) (base L M n : Nat) (g : GT) (F : Value → Option Value) (B : Nat → SB) (ρ : Nat → Nat) (h : LG w base L M n g F B ρ) (fr seq : Nat) (b : Bs) (_ : OA.ok ⟨4, fr, seq, b⟩ w) (_ : ∀ z, b.blk z → ρ z = 0) (_ : b.n ≤ 1000000) :
    Calls Try.prog 12 #[.pointer (some ⟨L, 0, none⟩), .agg #[.int .i64 4, .int .u64 (fr : Nat), .int .u64 (seq : Nat), .slice b.ao b.n b.cap]] w (MsgPost w base L M n ρ (oneG g ⟨4, fr, seq, b⟩)) := by
  have b1 : Below w.heap.size w (((w.alloc (.cells #[.int .i64 4, .int .u64 (fr : Nat), .int .u64 (seq : Nat), .slice b.ao b.n b.cap] 37)).alloc (.cells #[.int .u8 4] 5)).alloc (.cells #[.int .u64 (fr : Nat), .slice (some ⟨w.heap.size + 1, 0, none⟩) 1 1, .slice b.ao b.n b.cap] 62)) := (((Below.refl _ w).alloc (Nat.le_refl _) _).alloc (by simp) _).alloc (by simp; omega) _
  obtain ⟨K1, T1⟩ := h.below b1
  have CA := advance_any _ _ _ _ _ _ _ _ _ K1 seq
  have HV : Hid (oneG g ⟨4, fr, seq, b⟩ = advG g seq) := rfl
  have HT : Hid (Stp base w _ ρ _) := T1
  rw [HV.out]
  clear h K1 T1 b1 HV
  go_enter Try.func12, Try.ntmps12
  go_wp2_with (go_at_call 31; refine CA.mono ?_; rintro x w5 ⟨n5, F5, B5, ρ5, rfl, K5, T5, h5⟩)
  go_ret
  exact ⟨n5, F5, B5, ρ5, rfl, K5, HT.out.trans T5, h5⟩
set_option maxRecDepth 100000 in
set_option maxHeartbeats 4000000 in
theorem one_x (w : World) (base L M n : Nat) (g : GT) (F : Value → Option Value) (B : Nat → SB) (ρ : Nat → Nat) (h : LG w base L M n g F B ρ) (fr seq : Nat) (b : Bs) (kk : Int) (k0 : kk ≠ 0) (k1 : kk ≠ 1) (k2 : kk ≠ 2) (k3 : kk ≠ 3) (k4 : kk ≠ 4) (_ : OA.ok ⟨kk, fr, seq, b⟩ w) (_ : ∀ z, b.blk z → ρ z = 0) (_ : b.n ≤ 1000000) :
    Calls Try.prog 12 #[.pointer (some ⟨L, 0, none⟩), .agg #[.int .i64 kk, .int .u64 (fr : Nat), .int .u64 (seq : Nat), .slice b.ao b.n b.cap]] w (MsgPost w base L M n ρ (oneG g ⟨kk, fr, seq, b⟩)) := by
  have b1 : Below w.heap.size w (((w.alloc (.cells #[.int .i64 kk, .int .u64 (fr : Nat), .int .u64 (seq : Nat), .slice b.ao b.n b.cap] 37)).alloc (.cells #[.int .u8 (IntKind.u8.wrap kk)] 5)).alloc (.cells #[.int .u64 (fr : Nat), .slice (some ⟨w.heap.size + 1, 0, none⟩) 1 1, .slice b.ao b.n b.cap] 62)) := (((Below.refl _ w).alloc (Nat.le_refl _) _).alloc (by simp) _).alloc (by simp; omega) _
  obtain ⟨K1, T1⟩ := h.below b1
  have HV : Hid (oneG g ⟨kk, fr, seq, b⟩ = (g, 0)) := (if_neg k0).trans ((if_neg k1).trans ((if_neg k2).trans ((if_neg k3).trans (if_neg k4))))
  have HT : Hid (LG _ base L M n g F B _ ∧ Stp base w _ ρ _) := ⟨K1, T1⟩
  rw [HV.out]
  clear h K1 T1 b1 HV
  go_enter Try.func12, Try.ntmps12
  go_wp2
  go_ret
  exact ⟨n, F, B, _, rfl, HT.out.1, HT.out.2, by omega⟩
theorem one_any (w : World) (base L M n : Nat) (g : GT) (F : Value → Option Value) (B : Nat → SB) (ρ : Nat → Nat) (h : LG w base L M n g F B ρ) (hn : n < maxLen) (o : OA) (ok : o.ok w) (hr : ∀ z, o.b.blk z → ρ z = 0) (hz : o.b.n ≤ 1000000) :
    Calls Try.prog 12 #[.pointer (some ⟨L, 0, none⟩), .agg #[.int .i64 o.k, .int .u64 (o.fr : Nat), .int .u64 (o.seq : Nat), .slice o.b.ao o.b.n o.b.cap]] w (MsgPost w base L M n ρ (oneG g o)) := by
  obtain ⟨kk, fr, seq, b⟩ := o
  by_cases k0 : kk = 0
  · subst k0
    exact one_0 w base L M n g F B ρ h hn fr seq b ok hr hz
  by_cases k1 : kk = 1
  · subst k1
    exact one_1 w base L M n g F B ρ h hn fr seq b ok hr hz
  by_cases k2 : kk = 2
  · subst k2
    exact one_2 w base L M n g F B ρ h hn fr seq b ok hr hz
  by_cases k3 : kk = 3
  · subst k3
    exact one_3 w base L M n g F B ρ h fr seq b ok hr hz
  by_cases k4 : kk = 4
  · subst k4
    exact one_4 w base L M n g F B ρ h fr seq b ok hr hz
  exact one_x w base L M n g F B ρ h fr seq b kk k0 k1 k2 k3 k4 ok hr hz
open Go.RowKit Go.Shelf
attribute [local go_sem] Oper.semAt_some
theorem u64info : (Try.prog.info? 30).map (fun i => (i.zero, i.size, i.bytes)) = some (some (.int .u64 0), 1, 8) := by kernel_rfl
def uv (ss : List Nat) : List Value := ss.map eU
theorem uv_len (ss : List Nat) : (uv ss).length = ss.length := by simp [uv]
theorem uv_app (ss : List Nat) (x : Nat) : uv (ss ++ [x]) = uv ss ++ [eU x] := by simp [uv]
theorem walks_of {W W' : World} (h : KeepsOthers W W') : KeepsWalks W W' := ⟨h.size, fun k o hk hw => h.same k o hk (Obj.not_cells_of_walk hw)⟩
def CollPost (w : World) (D : DataW Value) (e : Ending) (w' : World) : Prop := ∃ v ss, e = .returned v ∧ ColU D (fun _ => false) ss ∧ w'.ownsRow w.heap.size 30 1 v ss.length (uv ss) ∧ Below w.heap.size w w'
set_option maxRecDepth 100000 in
set_option maxHeartbeats 4000000 in
theorem appendSeq_u (n : Nat) (hn : 3 ≤ n) (Bm b nn : Nat) (D : DataW Value) (G : Value → Option Value)
    (hG : ∀ v l, keyOf Try.prog 30 v = some l → (G v = none ∧ Maps.has D l = false ∧ ∀ z, D.atKey l z = z) ∨ ∃ u, G v = some u ∧ Maps.has D l = true ∧ ∀ z, D.atKey l z = .held u)
    (hsz : Maps.size D ≤ 1000000) (w : World) (hBm : w.cell? ⟨Bm, 0, none⟩ = some (.map (some b))) (hown : w.ownsMap Try.prog 30 vElem b nn D) :
    CallsIn Fence.wide n Try.prog 76 #[.slice none 0 0, .func (.func 66) #[] #[.pointer (some ⟨Bm, 0, none⟩)]] w (CollPost w D) := by
  have h1 : 1 ≤ n := by omega
  obtain ⟨i0, hi, hz0, hz1, hz2⟩ := info_parts u64info
  have hBl : Bm < w.heap.size := World.block_lt_of_cell? w _ hBm
  have hbl := hown.lt
  refine callsIn_of_wp_marks Try.func76 rfl trivial ?_ rfl
  simp only [Try.ntmps76, List.size_toArray, List.length_cons, List.length_nil, Nat.reduceAdd, Nat.reduceSub, Array.replicate_succ, Array.replicate_zero, List.push_toArray, List.append_toArray, List.nil_append, List.cons_append]
  gi_wp2
  have bO := Boxed.new w 59 (.slice none 0 0)
  have hB0 : Below w.heap.size w (w.alloc (.cells #[.slice none 0 0] 59)) := (Below.refl _ w).alloc (Nat.le_refl _) _
  have hown1 : (w.alloc (.cells #[.slice none 0 0] 59)).ownsMap Try.prog 30 vElem b nn D := by
    obtain ⟨es, clock, hb, Ft, hs, hD⟩ := hown
    exact ⟨es, clock, (hB0.block b hbl).trans hb, Ft, hs, hD⟩
  refine wpIn_rangeFunc_ownG rfl h1 (gf := 66) (lb := #[.pointer (some ⟨Bm, 0, none⟩)]) rfl trivial (enters_of Try.func66 (by kernel_rfl) rfl)
    (keys_stopsU Fence.wide (n - 1) trivial rfl (by omega) Bm b nn D G hG _ ((hB0.cell (p := ⟨Bm, 0, none⟩) hBl).trans hBm) hown1) walksK_t walksK_b (Below.refl _ _) (fun _ => rfl)
    (fun pre W => (∃ v, Boxed W w.heap.size 59 v ∧ W.ownsRow w.heap.size 30 1 v pre.length (uv pre) ∧ True) ∧ Below w.heap.size w W)
    (fun _ _ _ => False)
    (OwnFrom.and (Own.from (holdsRow_own w.heap.size w.heap.size 59 30 1 (fun pre => List.length pre) (fun pre => uv pre) (fun _ _ => True)) _) (ownFrom_below (Nat.le_refl _) (by simp)))
    (fun _ _ _ _ _ hs _ _ => hs)
    ⟨⟨_, bO, World.ownsRow_nil _ _ _ _, trivial⟩, hB0⟩
    (fun x => { tmps := #[.slice none 0 0, .func (.func 66) #[] #[.pointer (some ⟨Bm, 0, none⟩)], .pointer (some ⟨w.heap.size, 0, none⟩), undef, .slice none 0 0, eU x, .func (.func 66) #[] #[.pointer (some ⟨Bm, 0, none⟩)], eU x, undef, undef, undef, undef, undef], defers := [] }) ?assign ?body ?done ?stop
  case assign =>
    intro l x W K hK
    gi_wp2
    exact hK
  case body =>
    rintro l pre x W ⟨⟨v, hv, hrow, _⟩, hB⟩ hlt
    have hc := hv.cell
    have hn0 : w.heap.size ≤ W.heap.size := hB.size
    gi_wp2_with (gi_at_builtin; refine wpListIn_append_own _ rfl _ _ 59 rfl w.heap.size 30 i0 (.int .u64 0) 1 8 Try.underlying59 hi hz0 hz1 hz2 rfl (by decide) _ _ _ rfl (hrow.alloc _) ⟨W.heap.size, 0, none⟩ 1 1 [eU x] rfl rfl (cell_one_new _ _ _) (by simp [Value.oneCell', eU]) (by unfold maxLen; omega) (by omega) (by simp; omega) ?_; intro v' w2 hown' hgrow _; obtain ⟨g', cap', rfl⟩ := ownsRow_succ hown'; obtain ⟨hv1, hv2, hr2, hk2, hb2⟩ := hv.appended (by decide) hrow hB.size (Nat.le_refl _) hown' hgrow; have hc1 := hv1.cell; have hf1 := hv1.frozen)
    exact ⟨hk2.from _, walks_of hk2, ⟨_, hv2, by rw [uv_app, List.length_append]; exact hr2, trivial⟩, hB.trans hb2⟩
  case done =>
    rintro E ys W hE hys ⟨⟨v, hv, hrow, _⟩, hB⟩ hK
    have hc := hv.cell
    gi_wp2
    refine ⟨by simp, .inl ⟨_, _, rfl, run_takeDeferred hK, ?_⟩⟩
    exact ⟨_, results_tmp rfl _ _ _, _, ys, rfl, hys, ownsRow_putObj hrow _ hK rfl, hB.trans (belowK_b (w := w) (Nat.le_refl _) W E _ _ (by simp at hE; omega) hK rfl rfl)⟩
  case stop =>
    rintro E c pre W _ _ h _
    exact h.elim
theorem collect_u (n : Nat) (hn : 4 ≤ n) (Bm b nn : Nat) (D : DataW Value) (G : Value → Option Value)
    (hG : ∀ v l, keyOf Try.prog 30 v = some l → (G v = none ∧ Maps.has D l = false ∧ ∀ z, D.atKey l z = z) ∨ ∃ u, G v = some u ∧ Maps.has D l = true ∧ ∀ z, D.atKey l z = .held u)
    (hsz : Maps.size D ≤ 1000000) (w : World) (hBm : w.cell? ⟨Bm, 0, none⟩ = some (.map (some b))) (hown : w.ownsMap Try.prog 30 vElem b nn D) :
    CallsIn Fence.wide n Try.prog 64 #[.func (.func 66) #[] #[.pointer (some ⟨Bm, 0, none⟩)]] w (CollPost w D) := by
  have CA := appendSeq_u (n - 1) (by omega) Bm b nn D G hG hsz w hBm hown
  refine callsIn_of_wp Try.func64 rfl trivial ?_ rfl
  simp only [Try.ntmps64, List.size_toArray, List.length_cons, List.length_nil, Nat.reduceAdd, Nat.reduceSub, Array.replicate_succ, Array.replicate_zero, List.push_toArray, List.append_toArray, List.nil_append, List.cons_append]
  gi_wp2_with fail
  refine ⟨trivial, fun _ => by omega, CA.mono ?_⟩
  rintro e w1 ⟨v, ss, rfl, h2, h3, h4⟩
  gi_wp2
  go_ret
  exact ⟨v, ss, rfl, h2, h3, h4⟩
open Go.RowKit
theorem nan_u (x : Nat) (w : World) : Calls Try.prog 97 #[.int .u64 (x : Nat)] w fun e w' => e = .returned (.bool false) ∧ w' = w := by
  go_enter Try.func97, Try.ntmps97
  go_wp2
  go_ret
  exact ⟨rfl, rfl⟩
theorem less_u (x y : Nat) (w : World) : Calls Try.prog 87 #[.int .u64 (x : Nat), .int .u64 (y : Nat)] w fun e w' => e = .returned (.bool (decide (x < y))) ∧ w' = w := by
  have CN := fun v => nan_u v w
  go_enter Try.func87, Try.ntmps87
  go_wp2_with (go_at_call 97; refine (CN _).mono ?_; rintro e w1 ⟨rfl, hw1⟩; have hw1 := hw1.symm; subst hw1)
  go_ret
  exact ⟨rfl, rfl⟩
set_option maxRecDepth 100000 in
set_option maxHeartbeats 4000000 in
theorem len64_u (n : Nat) (hn : n ≤ 8) (w : World) : Calls Try.prog 91 #[.int .u64 (n : Nat)] w fun e w' => (∃ x : Int, e = .returned (.int .i64 x)) ∧ w' = w := by
  have h1 : ¬ (4294967296 : Int) ≤ (n : Int) := by omega
  have h2 : ¬ (65536 : Int) ≤ (n : Int) := by omega
  have h3 : ¬ (256 : Int) ≤ (n : Int) := by omega
  go_enter Try.func91, Try.ntmps91
  go_wp2
  go_ret
  exact ⟨⟨_, rfl⟩, rfl⟩
set_option maxRecDepth 100000 in
theorem len_u (n : Nat) (hn : n ≤ 8) (w : World) : Calls Try.prog 78 #[.int .u64 (n : Nat)] w fun e w' => (∃ x : Int, e = .returned (.int .i64 x)) ∧ w' = w := by
  have CL := len64_u n hn w
  go_enter Try.func78, Try.ntmps78
  go_wp2_with (go_at_call 91; refine CL.mono ?_; rintro e w1 ⟨⟨x, rfl⟩, hw1⟩; have hw1 := hw1.symm; subst hw1)
  go_ret
  exact ⟨⟨_, rfl⟩, rfl⟩
def SoTo (L : List Nat) (k : Nat) : Prop := ∀ a b, a < b → b < k → L.getD a 0 ≤ L.getD b 0
def Ins (L : List Nat) (k j : Nat) : Prop := (∀ a b, a < b → b ≤ k → a ≠ j → b ≠ j → L.getD a 0 ≤ L.getD b 0) ∧ ∀ b, j < b → b ≤ k → L.getD j 0 ≤ L.getD b 0
theorem SoTo.ins {L : List Nat} {k : Nat} (h : SoTo L k) : Ins L k k := ⟨fun a b hab hb _ hn => h a b hab (by omega), fun b h1 h2 => by omega⟩
theorem Ins.done {L : List Nat} {k j : Nat} (h : Ins L k j) (he : j = 0 ∨ ¬ L.getD j 0 < L.getD (j - 1) 0) : SoTo L (k + 1) := fun a b hab hb => by
  by_cases e1 : b = j
  · subst e1
    rcases he with rfl | he
    · omega
    · by_cases e2 : a = b - 1
      · subst e2
        omega
      · have := h.1 a (b - 1) (by omega) (by omega) (by omega) (by omega)
        omega
  · by_cases e2 : a = j
    · subst e2
      exact h.2 b hab (by omega)
    · exact h.1 a b hab (by omega) e2 e1
def swp (L : List Nat) (j : Nat) : List Nat := (L.set j (L.getD (j - 1) 0)).set (j - 1) (L.getD j 0)
theorem gset (L : List Nat) (i v a : Nat) (h : i < L.length) : (L.set i v).getD a 0 = if a = i then v else L.getD a 0 := by
  simp only [List.getD, List.getElem?_set]
  by_cases e : a = i
  · subst e
    simp [h]
  · rw [if_neg e, if_neg (fun q => e q.symm)]
theorem swp_at (L : List Nat) (j a : Nat) (h0 : 0 < j) (h : j < L.length) : (swp L j).getD a 0 = if a = j - 1 then L.getD j 0 else if a = j then L.getD (j - 1) 0 else L.getD a 0 := by
  unfold swp
  rw [gset _ _ _ _ (by rw [List.length_set]; omega), gset _ _ _ _ h]
theorem Ins.step {L : List Nat} {k j : Nat} (h : Ins L k j) (h0 : 0 < j) (hj : j ≤ k) (hk : k < L.length) (hlt : L.getD j 0 < L.getD (j - 1) 0) : Ins (swp L j) k (j - 1) := by
  refine ⟨fun a b hab hb ha hb' => ?_, fun b hb hbk => ?_⟩
  · rw [swp_at L j a h0 (by omega), swp_at L j b h0 (by omega), if_neg ha, if_neg hb']
    by_cases e1 : a = j
    · rw [if_pos e1, if_neg (by omega)]
      exact h.1 (j - 1) b (by omega) hb (by omega) (by omega)
    · rw [if_neg e1]
      by_cases e2 : b = j
      · rw [if_pos e2]
        exact h.1 a (j - 1) (by omega) (by omega) e1 (by omega)
      · rw [if_neg e2]
        exact h.1 a b hab hb e1 e2
  · rw [swp_at L j (j - 1) h0 (by omega), if_pos rfl, swp_at L j b h0 (by omega), if_neg (by omega)]
    by_cases e : b = j
    · rw [if_pos e]
      omega
    · rw [if_neg e]
      exact h.2 b (by omega) hbk
theorem swp_perm (L : List Nat) (j : Nat) (h0 : 0 < j) (h : j < L.length) : (swp L j).Perm L := by
  have e1 : L.getD (j - 1) 0 = L[j - 1]'(by omega) := by simp [List.getD, show j - 1 < L.length by omega]
  have e2 : L.getD j 0 = L[j] := by simp [List.getD, h]
  unfold swp
  rw [e1, e2]
  exact List.set_set_perm h (by omega)
theorem SoTo.pair {L : List Nat} (h : SoTo L L.length) : L.Pairwise (· ≤ ·) := by
  rw [List.pairwise_iff_getElem]
  intro i j hi hj hij
  have := h i j hij hj
  simpa [List.getD, hi, hj] using this
end Go.Proofs.Ytbbhokodleaheaa

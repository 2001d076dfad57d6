/-
  Texts in one: SumM, SumOf, Parts, HRegC.
-/
import Derived.Test.YtlgafjalcpjelaaDoorSessionPlaysQ6
import Derived.Deep.Slices
import Derived.Test.YtlgafjalcpjelaaDoorSessionPlaysQ3
import Derived.ArgAppend
import Derived.Deep.Upon
import Derived.DataElems
namespace Go.Proofs.YtlgafjalcpjelaaDoor
open Go.RowKit
def b4 (x : Int) : List Int := [x / 16777216 % 256, x / 65536 % 256, x / 256 % 256, x % 256]
def wds (bs : List Int) : List Int := part H0 (AA (bs ++ padL bs.length) ((bs ++ padL bs.length).length / 64)) 8
def sumL (bs : List Int) : List Int := (wds bs).flatMap b4
def outL (X : List Int) (i : Nat) : List Int := (X.take i).flatMap b4
theorem b4_byte (x : Int) : Byt (b4 x) := by
  intro y hy
  simp only [b4, List.mem_cons, List.not_mem_nil, or_false] at hy
  omega
theorem outL_succ (X : List Int) (i : Nat) (h : i < X.length) : outL X (i + 1) = outL X i ++ b4 (X.getD i 0) := by
  have e : X.getD i 0 = X[i] := by simp [List.getD, h]
  unfold outL
  rw [List.take_add_one, List.getElem?_eq_getElem h, List.flatMap_append, e]
  simp only [Option.toList_some, List.flatMap_cons, List.flatMap_nil, List.append_nil]
theorem outL_byte (X : List Int) (i : Nat) : Byt (outL X i) := by
  intro x hx
  simp only [outL, List.mem_flatMap] at hx
  obtain ⟨y, _, hy⟩ := hx
  exact b4_byte y x hy
theorem wds_len (bs : List Int) : (wds bs).length = 8 := part_len _ _ _
theorem outL_all (bs : List Int) : outL (wds bs) 8 = sumL bs := by
  unfold outL sumL
  rw [List.take_of_length_le (by rw [wds_len]; omega)]
theorem sumL_byte (bs : List Int) : Byt (sumL bs) := by rw [← outL_all]; exact outL_byte _ _
theorem z51 : (Tryd.prog.info? 104).map (fun i => (i.zero, i.size)) = some (some (.agg (hv (List.replicate 8 0) (List.replicate 64 0) 0).toArray), 73) := by kernel_rfl
theorem a51 : (Tryd.prog.info? 104).map (·.size) = some 73 := by kernel_rfl
theorem g51 (w : World) : (isAgg 104).run Tryd.prog w = .ok true w := by
  simp [isAgg, run_underlying Tryd.underlying104 w]
theorem hv_len (A B : List Int) (n : Nat) (hA : A.length = 8) (hB : B.length = 64) : (hv A B n).length = 73 := by simp [hv, wv, bv, hA, hB]
theorem hv_one (A B : List Int) (n : Nat) : ∀ u ∈ hv A B n, u.oneCell' = true := by
  intro u hu
  simp only [hv, List.mem_append, List.mem_singleton] at hu
  rcases hu with (hu | hu) | rfl
  · exact wv_one A u hu
  · exact bv_one B u hu
  · rfl
set_option maxRecDepth 100000 in
set_option maxHeartbeats 1000000 in
theorem new_any (w : World) : Calls Tryd.prog 49 #[] w fun e w' => e = .returned (.pointer (some ⟨w.heap.size, 0, none⟩)) ∧ HS w' w.heap.size [] ∧ w.grownBy w' none := by
  go_enter Tryd.func49, Tryd.ntmps49
  go_wp2_with (refine wpList_alloc_named rfl 1 rfl 104 rfl w.heap.size rfl _ 73 z51 ?_; intro w1 a1 s1 g1)
  go_ret
  refine ⟨rfl, ⟨List.replicate 64 0, ⟨?_, by simp [AA], by simp, ?_, by simp⟩, rfl⟩, g1⟩
  · exact a1
  · intro x hx
    obtain ⟨_, rfl⟩ := List.mem_replicate.1 hx
    omega
theorem words_hs (w : World) (p : Nat) (bs : List Int) (hT : Tabs w) (h : HS w p bs) :
    Calls Tryd.prog 67 #[.pointer (some ⟨p, 0, none⟩)] w fun e w' => e = .returned (.agg (wv (part H0 (AA bs (bs.length / 64)) 8)).toArray) ∧ Below w.heap.size w w' := by
  obtain ⟨B, hB, _⟩ := h
  exact words_any w p _ B _ hT hB
set_option maxRecDepth 100000 in
set_option maxHeartbeats 2000000 in
theorem hsum_any (w : World) (p : Nat) (bs : List Int) (hT : Tabs w) (h : HS w p bs) (hl : bs.length + 72 < 18446744073709551616) :
    Calls Tryd.prog 51 #[.pointer (some ⟨p, 0, none⟩)] w fun e w' => ∃ v, e = .returned v ∧ w'.ownsRow w.heap.size 5 1 v 32 (bv (sumL bs)) ∧ Below w.heap.size w w' := by
  obtain ⟨i0, hi, hz0, hz1, hz2⟩ := info_parts u8info
  have h2 := hT.two
  have hp := h.lt
  obtain ⟨B, hB, eB⟩ := h
  obtain ⟨A, hA⟩ : ∃ A, A = AA bs (bs.length / 64) := ⟨_, rfl⟩
  rw [← hA] at hB
  have HA : Hid (A = AA bs (bs.length / 64)) := hA
  clear hA
  go_enter Tryd.func51, Tryd.ntmps51
  go_wp2_with (first
    | (refine wpList_load_cells rfl 104 (Operand.tmp 10) rfl ⟨p, 0, none⟩ rfl (hv A B bs.length) (fun j v hv' => by rw [add_at, Nat.zero_add, Arr.cell hB.heap]; exact hv') g51 (a51.trans (by rw [hv_len _ _ _ hB.lenA hB.lenB])) ?_)
    | (refine wpList_alloc_named rfl 3 rfl 104 rfl w.heap.size rfl _ 73 z51 ?_; intro w1 a1 s1 g1; have B1 : Below w.heap.size w w1 := (Below.refl _ w).grown g1 (Nat.le_refl _) (by simp); clear g1)
    | (refine wpList_store_named rfl 104 (Operand.tmp 3) _ rfl w.heap.size (hv A B bs.length) rfl rfl 104 _ a1 _ s1 (a51.trans (by rw [hv_len _ _ _ hB.lenA hB.lenB])) (by rw [hv_len _ _ _ hB.lenA hB.lenB]; rfl) (hv_one _ _ _) ?_; intro w2 a2 s2 g2; have B2 : Below w.heap.size w w2 := B1.grown g2 (by omega) (by intro k hk; cases hk; omega); have T2 := hT.below B2 h2; have H2 : HS w2 w.heap.size bs := ⟨B, by rw [← HA.out]; exact ⟨a2, hB.lenA, hB.lenB, hB.byte, hB.size⟩, eB⟩; clear g2 a2 B1 a1 s1)
    | (go_at_call 66; refine (pad_any w2 w.heap.size bs T2 H2 h2 hl).mono ?_; rintro e w3 ⟨⟨v, rfl⟩, H3, g3⟩; have B3 : Below w.heap.size w w3 := B2.grown g3 (by omega) (by intro k hk; cases hk; omega); have T3 := hT.below B3 h2; have s3 := g3.size; clear g3 B2 H2 T2)
    | (at_make; refine wpList_make_own _ rfl _ _ 50 rfl w.heap.size 5 i0 (.int .u8 0) 1 Tryd.underlying50 hi hz0 hz1 _ _ _ 32 rfl rfl rfl (by rw [hz2]; decide) (by decide) (by omega) ?_; intro w4 own4 g4; have B4 : Below w.heap.size w w4 := B3.grown g4 (by omega) (by simp); have T4 := hT.below B4 h2; have H4 : HS w4 w.heap.size (bs ++ padL bs.length) := H3.grown g4 (by simp); have s4 := g4.size; clear g4 B3 H3 T3))
  refine (words_hs w4 w.heap.size _ T4 H4).mono ?_
  rintro e w5 ⟨rfl, B5⟩
  have C5 : Below w.heap.size w w5 := B4.trans (B5.mono (by omega))
  have own5 : w5.ownsRow w.heap.size 5 1 (.slice (some ⟨w3.heap.size, 0, none⟩) 0 32) 0 (bv (outL (wds bs) 0)) := own4.kept (bel_grown B5 none) (by simp [Value.ownBlock])
  have eW : part H0 (AA (bs ++ padL bs.length) ((bs ++ padL bs.length).length / 64)) 8 = wds bs := rfl
  rw [eW]
  have hWl := wds_len bs
  have hs5 : w.heap.size ≤ w5.heap.size := C5.size
  generalize Value.slice (some ⟨w3.heap.size, 0, none⟩) 0 32 = v0 at own5
  have HWE : Hid (outL (wds bs) 8 = sumL bs) := outL_all bs
  generalize wds bs = X at own5 hWl HWE
  clear eW B5 B4 T4 H4 own4 hB eB HA s2 s3 s4
  go_wp2
  go_loopw [4, 15] (fun v i wr => ∃ k : Nat, k ≤ 8 ∧ i = .int .i64 k ∧ Below w.heap.size w wr ∧ wr.ownsRow w.heap.size 5 1 v (4 * k) (bv (outL X k))) (fun _ i _ => 8 - (intOf i).toNat)
  case atStart => exact ⟨0, by omega, rfl, C5, own5⟩
  case round =>
    obtain ⟨k, hk, rfl, B6, own6⟩ := hrel
    have hs6 := B6.size
    by_cases hlt : k < 8
    · have hki : (k : Int) < 8 := by omega
      have hx := index48 X k hWl hlt
      obtain ⟨x, hx'⟩ : ∃ x, x = X.getD k 0 := ⟨_, rfl⟩
      have HX : Hid (x = X.getD k 0) := hx'
      rw [← hx'] at hx
      clear hx'
      go_wp2_with (at_builtin; refine wpList_app rfl _ _ rfl w.heap.size _ (4 * k) (outL X k) rfl (own6.alloc _) _ 4 4 (b4 x) rfl (Sl.new wr (b4 x) (b4_byte x) (by simp [b4, maxLen])) (by omega) (by simp; omega) ?_; intro v7 w7 own7 C7)
      go_roundw
      case rel =>
        refine ⟨k + 1, by omega, by go_num, (B6.alloc hs6 _).trans C7, ?_⟩
        rw [outL_succ X k (by omega), ← HX.out, Nat.mul_add]
        exact own7
      case measure => simp [intOf]; omega
    · obtain rfl : k = 8 := by omega
      go_wp2
      go_ret
      refine ⟨_, rfl, ?_, B6⟩
      rw [← HWE.out]
      exact own6
open Go.RowKit
structure Part where
  ao : Option Addr
  n : Nat
  cap : Nat
  xs : List Int
def Part.val (q : Part) : Value := .slice q.ao q.n q.cap
theorem own_base {w : World} {base base' : Nat} {e : TypeId} {size : Nat} {v : Value} {n : Nat} {xs : List Value} (h : w.ownsRow base e size v n xs) (hb : base' ≤ base) : w.ownsRow base' e size v n xs := by
  refine ⟨h.1, ?_⟩
  rcases h.2 with h | ⟨g, cap, cur, h1, h2, h3⟩
  · exact .inl h
  · exact .inr ⟨g, cap, cur, h1, Nat.le_trans hb h2, h3⟩
open Go.RowKit
structure PL (w : World) (ao : Option Addr) (n cap : Nat) (ps : List Part) : Prop where
  len : ps.length = n
  le : n ≤ cap
  mx : cap ≤ maxLen
  nil : ao = none → n = 0
  cell : ∀ a, ao = some a → ∀ i (h : i < ps.length), w.cell? (a.add i) = some ps[i].val
  sl : ∀ q ∈ ps, Sl w q.ao q.n q.cap q.xs
theorem PL.below {w w' : World} {ao : Option Addr} {n cap : Nat} {ps : List Part} (h : PL w ao n cap ps) (hb : Below w.heap.size w w') : PL w' ao n cap ps :=
  ⟨h.len, h.le, h.mx, h.nil, fun a ha i hi => by have hc := h.cell a ha i hi; rw [← hc]; exact hb.cell (World.block_lt_of_cell? w _ hc), fun q hq => (h.sl q hq).below hb⟩
theorem PL.at {w : World} {ao : Option Addr} {n cap : Nat} {ps : List Part} (h : PL w ao n cap ps) (hn : 0 < n) :
    ∃ b off, ao = some ⟨b, off, none⟩ ∧ ∀ i (hi : i < ps.length), w.cell? ⟨b, off + i, none⟩ = some ps[i].val := by
  have hl := h.len
  cases ao with
  | none => have := h.nil rfl; omega
  | some a =>
    obtain ⟨b, off, spot⟩ := a
    have hc := h.cell _ rfl 0 (by omega)
    have hs : spot = none := by simpa [Addr.add] using World.cell?_spot hc
    subst hs
    exact ⟨b, off, rfl, fun i hi => by have := h.cell _ rfl i hi; rw [Addr.add_lit] at this; exact this⟩
end Go.Proofs.YtlgafjalcpjelaaDoor
namespace Go
section
variable {P : Program} {ops : Array Oper} {S : World → Prop} {Q : Exit → Act → World → Prop} {fuel : Nat} {listed : Array Bool} {a : Act} {w : World}
theorem hr_ex (i : Nat) (d : Option Tmp) {oi : Oper} {R : Value → World → Prop} (hi : ops[i]? = some oi) (hd : oi.dst = d) (hr : Region.ready .any ops listed = [i]) (hw : Region.wanted oi (yielded ops a.tmps) = true)
    (hrun : ∃ v w', (execOp a.eval oi).run P w = .ok (.value v) w' ∧ R v w')
    (h : ∀ v w', R v w' → S w' ∧ wpAnyH P .any ops (NoPanic Q) S fuel (listed.setIfInBounds i true) (a.put d v) w') : wpAnyH P .any ops (NoPanic Q) S (fuel + 1) listed a w := by
  refine wpAnyH_all hr (by simp) fun j hj => ?_
  obtain rfl := List.mem_singleton.1 hj
  obtain ⟨v, w', hrun, hR⟩ := hrun
  unfold wpOp
  simp only [hi, hw, if_true, Oper.wp, hrun, Oper.upon, hd]
  exact .inl (h v w' hR)
theorem op_ex (i : Nat) (d : Option Tmp) {oi : Oper} {R : Value → World → Prop} (hi : ops[i]? = some oi) (hd : oi.dst = d) (hw : Region.wanted oi (yielded ops a.tmps) = true)
    (hrun : ∃ v w', (execOp a.eval oi).run P w = .ok (.value v) w' ∧ R v w')
    (h : ∀ v w', R v w' → S w' ∧ wpAnyH P .any ops (NoPanic Q) S fuel (listed.setIfInBounds i true) (a.put d v) w') : wpOp P ops (NoPanic Q) i (fun a' w' => S w' ∧ wpAnyH P .any ops (NoPanic Q) S fuel (listed.setIfInBounds i true) a' w') a w := by
  obtain ⟨v, w', hrun, hR⟩ := hrun
  unfold wpOp
  simp only [hi, hw, if_true, Oper.wp, hrun, Oper.upon, hd]
  exact .inl (h v w' hR)
theorem op_calls (i : Nat) (d : Option Tmp) {oi : Oper} (f : FuncId) (args : Array Value) (hi : ops[i]? = some oi) (hd : oi.dst = d) (hw : Region.wanted oi (yielded ops a.tmps) = true) (hrun : (execOp a.eval oi).run P w = .ok (.enter f args) w)
    (R : Value → World → Prop) (hc : Calls P f args w fun e w' => ∃ v, e = .returned v ∧ R v w')
    (h : ∀ v w', R v w' → S w' ∧ wpAnyH P .any ops (NoPanic Q) S fuel (listed.setIfInBounds i true) (a.put d v) w') : wpOp P ops (NoPanic Q) i (fun a' w' => S w' ∧ wpAnyH P .any ops (NoPanic Q) S fuel (listed.setIfInBounds i true) a' w') a w := by
  unfold wpOp
  simp only [hi, hw, if_true, Oper.wp, hrun, Oper.upon, hd]
  refine .inl (hc.mono ?_)
  rintro e w' ⟨v, rfl, hR⟩
  exact h v w' hR
end
end Go
namespace Go.Proofs.YtlgafjalcpjelaaDoor
open Go.RowKit
def bk (ao : Option Addr) (cap j : Nat) : Option Addr := if cap = j then ao else ao.map (·.add j)
end Go.Proofs.YtlgafjalcpjelaaDoor

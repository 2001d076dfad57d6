/-
  Texts in one: SameT, BatchesLaw13, Laid2.
-/
import Derived.Test.YtnimcfkgckflhaaGreatDoorMessageBatchesQ1
import Derived.Test.YtnimcfkgckflhaaGreatDoorMessageBatchesQ36
import Derived.Test.YtnimcfkgckflhaaGreatDoorMessageBatchesQ44
import Derived.Test.YtnimcfkgckflhaaGreatDoorMessageBatchesQ45
import Derived.Test.YtnimcfkgckflhaaGreatDoorRows
import Derived.Test.YtnimcfkgckflhaaGreatDoorMessageBatchesQ13
import Derived.ProofKit
import Derived.LaidMore
import Derived.Lay
import Derived.OpenShut
import Derived.Lib.LaidU8
import Derived.Stop.Joined
namespace Go.Proofs.YtnimcfkgckflhaaGreatDoor
open Go.RowKit
theorem same_true (w : World) (ao bo : Option Addr) (n cap m cap2 : Nat) (xs : List Int) (h : Sl w ao n cap xs) (h2 : Sl w bo m cap2 xs) :
    Calls Tryz.prog 7 #[.slice ao n cap, .slice bo m cap2] w fun e w' => e = .returned (.bool true) ∧ Below w.heap.size w w' := by
  refine (same_any w ao bo n cap m cap2 xs xs h h2).mono ?_
  rintro e w' ⟨rfl, q, rfl⟩
  exact ⟨by simp, ⟨rfl, rfl, rfl, Nat.le_refl _, fun _ _ => rfl⟩⟩
open Go.RowKit
set_option maxRecDepth 100000 in
set_option maxHeartbeats 8000000 in
theorem messageBatches_any (w : World) (ao : Option Addr) (n cap : Nat) (l : List QE) (L : GL elQ w ao n cap (l.map QE.m)) (ow : ∀ y ∈ l, OW w 3 y.x) (sm : ∀ y ∈ l, OSm 3 y.x) (hT : Tabs w) :
    Calls Tryz.prog 3 #[.slice ao n cap] w fun e w' => e = .returned (.bool true) ∧ Below w.heap.size w w' := by
  have hl := L.len
  rw [List.length_map] at hl
  have hm := L.mx
  have hle := L.le
  simp only [maxLen] at hm
  have HT : Hid (Tabs w) := hT
  clear hT
  by_cases c12 : 12 < n
  · have i12 : (12 : Int) < (n : Int) := by omega
    have CA := alive13 w
    clear c12
    go_enter Tryz.func3, Tryz.ntmps3
    go_wp2_with (go_at_call 5; refine CA.mono ?_; rintro e w' ⟨rfl, C⟩)
    go_ret
    exact ⟨rfl, C⟩
  have i12 : (n : Int) ≤ 12 := by omega
  go_enter Tryz.func3, Tryz.ntmps3
  go_wp2_with fail
  go_loopw [3] (fun i wr => ∃ k : Nat, k ≤ n ∧ i = .int .i64 k ∧ Below w.heap.size w wr ∧ Hid (∀ y ∈ l.take k, lightD 3 y.x = true)) (fun i _ => n - (intOf i).toNat)
  case atStart => exact ⟨0, Nat.zero_le _, rfl, Below.refl _ _, fun y hy => by simp at hy⟩
  case round =>
    obtain ⟨k, hk, rfl, B, HLT⟩ := hrel
    by_cases hlt : k < n
    · have hki : (k : Int) < (n : Int) := by omega
      have hkl : k < l.length := by omega
      have Lr := L.below elQ_fine B
      obtain ⟨b, off, rfl, hc⟩ := Lr.atQ (by omega)
      have X := hc k (by rw [List.length_map]; exact hkl)
      rw [List.getElem_map] at X
      have hmem := List.getElem_mem hkl
      have ow1 := OW.below B (ow _ hmem)
      have sm1 := sm _ hmem
      have HX : Hid (∀ y ∈ l.take (k + 1), y ∈ l.take k ∨ y = l[k]) := fun y hy => by
        rw [List.take_succ_eq_append_getElem hkl, List.mem_append, List.mem_singleton] at hy
        exact hy
      obtain ⟨y, hy⟩ : ∃ y, y = l[k] := ⟨_, rfl⟩
      rw [← hy] at X ow1 sm1 HX
      have CL := light_any 3 wr y.x ow1 sm1 (by omega)
      rw [show ((3 : Nat) : Int) - 1 = 2 from rfl] at CL
      unfold OA.val at CL
      obtain ⟨q0, q1, q2, q3, q4, q5, q6, q7, q8, q9, q10, q11⟩ := X
      simp only [QE.m] at q0 q1 q2 q3 q4 q5 q6 q7 q8 q9 q10 q11
      generalize topD 3 y.x = o at CL q2 q3 q4 q5 q6 q7 q8 q9 q10 q11
      clear hy hc Lr ow1 sm1 hmem
      cases hb : lightD 3 y.x with
      | true =>
        rw [hb] at CL
        go_wp2_with (go_at_call 6; refine CL.mono ?_; rintro e w2 ⟨rfl, C⟩; have D := B.trans (C.mono B.size))
        go_roundw
        case rel => exact ⟨k + 1, by omega, by go_num, D, fun u hu => by
          rcases HX.out u hu with h | h
          · exact HLT.out u h
          · rw [h]; exact hb⟩
        case measure => simp [intOf]; omega
      | false =>
        rw [hb] at CL
        go_wp2_with fail
        refine CL.mono ?_
        rintro e w2 ⟨rfl, C⟩
        have D := B.trans (C.mono B.size)
        have CA := alive13 w2
        clear CL C q0 q1 q2 q3 q4 q5 q6 q7 q8 q9 q10 q11
        go_wp2_with (go_at_call 5; refine CA.mono ?_; rintro e w' ⟨rfl, C⟩; have D2 := D.trans (C.mono D.size))
        go_ret
        exact ⟨rfl, D2⟩
    · have hge : (n : Int) ≤ (k : Int) := by omega
      have HL2 : Hid (∀ y ∈ l, lightD 3 y.x = true) := fun y hy => HLT.out y (by rw [List.take_of_length_le (by omega)]; exact hy)
      have Lr := L.below elQ_fine B
      have TB := HT.out.below B HT.out.two
      have CB := batch_any wr ao n cap (l.map QE.m) Lr TB (by omega)
      clear HLT
      go_wp2_with fail
      refine CB.mono ?_
      rintro e w2 ⟨v2, rfl, own2, C2⟩
      have L2 := Lr.below elQ_fine C2
      have B2 := B.trans (C2.mono B.size)
      have CR := rbatch_any w2 ao n cap (l.map QE.m) L2 (fun q hq => by
        obtain ⟨y, hy, rfl⟩ := List.mem_map.1 hq
        exact ⟨2, y.x, rfl, rfl, OW.below B2 (ow y hy), HL2.out y hy⟩) (by omega)
      generalize formL (sb ⟨#[98, 97, 116, 99, 104]⟩) ((l.map QE.m).map reqB) = F at own2 CR
      have hby := sumL_byte F
      obtain ⟨bo, bc, rfl, S2, -⟩ := Sl.own own2 hby
      clear CB own2 Lr L2
      go_wp2_with fail
      refine CR.mono ?_
      rintro e w3 ⟨v3, rfl, own3, C3⟩
      obtain ⟨co, cc, rfl, S3, -⟩ := Sl.own own3 hby
      have S2 := S2.below C3
      have B3 := B2.trans (C3.mono B2.size)
      clear CR own3 C3 C2 B2
      have CS := same_true w3 bo co 32 bc 32 cc _ S2 S3
      go_wp2_with fail
      refine CS.mono ?_
      rintro e w4 ⟨rfl, C4⟩
      have B4 := B3.trans (C4.mono B3.size)
      have CA := alive13 w4
      clear CS C4 S2 S3 B3 hby
      go_wp2_with (go_at_call 5; refine CA.mono ?_; rintro e w' ⟨rfl, C⟩; have D2 := B4.trans (C.mono B4.size))
      go_ret
      exact ⟨rfl, D2⟩
open Go.RowKit
abbrev laidL : List (String × DataW Unit) := [("bulwark/digest.firstWords", Rows.laid_bulwark_digest_firstWords), ("bulwark/digest.roundWords", Rows.laid_bulwark_digest_roundWords)]
theorem gFirst : Tryz.prog.globalNamed "bulwark/digest.firstWords" = some 1 := by kernel_rfl
theorem gRound : Tryz.prog.globalNamed "bulwark/digest.roundWords" = some 0 := by kernel_rfl
theorem tFirst : (Tryz.prog.globals[1]?).map (·.type) = some 112 := by kernel_rfl
theorem tRound : (Tryz.prog.globals[0]?).map (·.type) = some 134 := by kernel_rfl
theorem laidL_plain : (laidL.all fun x => x.2.handleName?.isNone) = true := by kernel_rfl
theorem all_met (os : Os) (args : Array Value) : laidMetH Tryz.prog laidL ((World.laidAll Tryz.prog os laidL).forCall (fun _ _ => 0) ⟨#[], args, []⟩).memory := by
  rw [MakeChecks.laidMetH_plain _ _ _ laidL_plain]
  exact laidMet_laidAll _ (by kernel_rfl) (by kernel_rfl)
theorem words_of {H : Type} {enc : TypeId × Value → H} {w : World} {base : Nat} {sp : Nat → Bool} {held : Bool} {fuel n : Nat} {t : TypeId} {cs : List Value} {zs : List Int} {p : List MemPlace}
    (ht : Tryz.prog.underlying t = some (.array n 111)) (h : DataW.trod enc Tryz.prog w base sp held fuel t cs = some (.agg (zs.map fun z => .lit (.int .u32 z)), p)) (hz : zs.length = n) :
    ∀ (j : Nat) (v : Value), (wv zs)[j]? = some v → cs[j]? = some v := by
  intro j v hv
  have hj : j < zs.length := by have := (List.getElem?_eq_some_iff.1 hv).1; rwa [wv_length] at this
  rw [wv_get zs j hj] at hv
  obtain rfl := Option.some.inj hv
  obtain ⟨f', d, q, hd, he⟩ := Lib.array_elem ht h j (by omega)
  have c1 : Tryz.prog.cellsOf 111 = 1 := by kernel_rfl
  rw [c1, Nat.mul_one] at he
  obtain ⟨k, e1, e2, _⟩ := DataW.trod_int Tryz.underlying111 he
  simp only [Prod.mk.injEq] at e2
  rw [e2.1] at hd
  simp only [List.getElem?_map, List.getElem?_eq_getElem hj, Option.map_some, Option.some.injEq, DataW.lit.injEq, Lit.int.injEq, true_and] at hd
  have : (cs.drop j)[0]? = some (.int .u32 k) := by
    have := congrArg (fun l : List Value => l[0]?) e1
    simpa [List.getElem?_take] using this
  rw [List.getElem?_drop, Nat.add_zero] at this
  rw [this, ← hd]
  simp [List.getD, hj]
theorem tabs_of {W : World} (h : laidMetH Tryz.prog laidL W) : Tabs W := by
  rw [MakeChecks.laidMetH_plain _ _ _ laidL_plain] at h
  obtain ⟨ps, ⟨g0, t0, cs0, f0, p0, q0, hg0, ht0, hv0, hd0, ⟨g1, t1, cs1, f1, p1, q1, hg1, ht1, hv1, hd1, _, _⟩, _⟩, _, _⟩ := h
  obtain rfl := Option.some.inj (gFirst.symm.trans hg0)
  obtain rfl := Option.some.inj (gRound.symm.trans hg1)
  obtain rfl := Option.some.inj (tFirst.symm.trans ht0)
  obtain rfl := Option.some.inj (tRound.symm.trans ht1)
  have hA := words_of (zs := H0) Tryz.underlying112 hd0 rfl
  have hB := words_of (zs := K0) Tryz.underlying134 hd1 rfl
  have cA : ∀ j v, (wv H0)[j]? = some v → W.cell? ⟨1, j, none⟩ = some v := fun j v hv => by
    rw [World.var?_cell hg0 hv0 j]
    simpa using hA j v hv
  refine ⟨cA, fun j v hv => ?_, ?_⟩
  · rw [World.var?_cell hg1 hv1 j]
    simpa using hB j v hv
  · have := block_lt_of_cell (cA 0 _ rfl)
    exact this
end Go.Proofs.YtnimcfkgckflhaaGreatDoor

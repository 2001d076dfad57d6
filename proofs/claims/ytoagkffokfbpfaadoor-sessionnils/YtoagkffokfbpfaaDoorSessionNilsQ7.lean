/-
  Texts in one: RResults, NilsLaw12, Laid2, SeOpen, SeTypes.
-/
import Derived.Test.YtoagkffokfbpfaaDoorSessionNilsQ1
import Derived.Test.YtoagkffokfbpfaaDoorSessionNilsQ4
import Derived.Test.YtoagkffokfbpfaaDoorSessionNilsQ5
import Derived.Test.YtoagkffokfbpfaaDoorSessionNilsQ6
import Derived.Test.YtoagkffokfbpfaaDoorRows
import Derived.Test.YtoagkffokfbpfaaDoorSessionNilsQ3
import Derived.ProofKit
import Derived.LaidMore
import Derived.Lay
import Derived.OpenShut
import Derived.Lib.LaidU8
import Derived.Stop.Joined
import Derived.Test.YtoagkffokfbpfaaDoorSessionNilsQ0
namespace Go.Proofs.YtoagkffokfbpfaaDoor
open Go.RowKit
set_option maxRecDepth 100000 in
set_option maxHeartbeats 4000000 in
theorem rresults_any (w : World) (e : Int) (ao bo : Option Addr) (n cap cap2 : Nat) (l l2 : List CA) (m : Bool) (L : CL w ao n cap l) (L2 : CL w bo n cap2 l2) (hl : l.map CA.c = l2.map CA.c) (hn : n ≤ 1000) :
    Calls Tryd.prog 16 #[resV e ao n cap m, resV e bo n cap2 m] w fun x w' => x = .returned (.bool true) ∧ Below w.heap.size w w' := by
  have l1 : l.length = n := L.len
  have l3 : l2.length = n := L2.len
  have B : Below w.heap.size w ((w.alloc (Obj.cells #[.int .i64 e, .slice ao n cap, .bool m] 37)).alloc (Obj.cells #[.int .i64 e, .slice bo n cap2, .bool m] 37)) := ((Below.refl _ w).alloc (Nat.le_refl _) _).alloc (by simp) _
  have K : RC ((w.alloc (Obj.cells #[.int .i64 e, .slice ao n cap, .bool m] 37)).alloc (Obj.cells #[.int .i64 e, .slice bo n cap2, .bool m] 37)) w.heap.size e ao n cap m := (heap_alloc_old _ _ (by simp)).trans (heap_alloc_new w _)
  have K2 : RC ((w.alloc (Obj.cells #[.int .i64 e, .slice ao n cap, .bool m] 37)).alloc (Obj.cells #[.int .i64 e, .slice bo n cap2, .bool m] 37)) (w.heap.size + 1) e bo n cap2 m := by
    have := heap_alloc_new (w.alloc (Obj.cells #[.int .i64 e, .slice ao n cap, .bool m] 37)) (Obj.cells #[.int .i64 e, .slice bo n cap2, .bool m] 37)
    unfold RC
    simpa using this
  have M1 := L.below B
  have M2 := L2.below B
  have HL : Hid (l.map CA.c = l2.map CA.c) := hl
  unfold resV
  clear L L2 hl
  go_enter Tryd.func16, Tryd.ntmps16
  go_wp2_with fail
  obtain ⟨w1, hw1⟩ : ∃ W, W = (w.alloc (Obj.cells #[.int .i64 e, .slice ao n cap, .bool m] 37)).alloc (Obj.cells #[.int .i64 e, .slice bo n cap2, .bool m] 37) := ⟨_, rfl⟩
  obtain ⟨N, hN⟩ : ∃ N, N = w.heap.size := ⟨_, rfl⟩
  rw [← hw1] at B K K2 M1 M2 ⊢
  rw [← hN] at B K K2 ⊢
  have HN : Hid (N = w.heap.size) := hN
  clear hw1 hN
  go_loopw [5, 6, 7] (fun i _ _ wr => ∃ k : Nat, k ≤ n ∧ i = .int .i64 k ∧ Below N w wr ∧ Below w1.heap.size w1 wr) (fun i _ _ _ => n - (intOf i).toNat)
  case atStart => exact ⟨0, Nat.zero_le _, rfl, B, Below.refl _ _⟩
  case round =>
    clear B
    obtain ⟨k, hk, rfl, B, C1⟩ := hrel
    have A1 := K.keep C1
    have A2 := K2.keep C1
    have r1 := A1.c1
    have r2 := A2.c1
    by_cases hlt : k < n
    · obtain ⟨b1, o1, rfl, hc1⟩ := M1.at (by omega)
      obtain ⟨b2, o2, rfl, hc2⟩ := M2.at (by omega)
      have X1 := (hc1 k (by omega)).below C1
      have X2 := (hc2 k (by omega)).below C1
      have ok1 : (l[k]).ok wr := (M1.ok _ (List.getElem_mem (by omega))).below C1
      have ok2 : (l2[k]).ok wr := (M2.ok _ (List.getElem_mem (by omega))).below C1
      have hxy : (l[k]).c = (l2[k]).c := by
        have e1 : (l.map CA.c)[k]? = some (l[k]).c := by simp [show k < l.length by omega]
        have e2 : (l2.map CA.c)[k]? = some (l2[k]).c := by simp [show k < l2.length by omega]
        rw [HL.out] at e1
        exact Option.some.inj (e1.symm.trans e2)
      obtain ⟨x, hx⟩ : ∃ c : CA, c = l[k] := ⟨_, rfl⟩
      obtain ⟨y, hy⟩ : ∃ c : CA, c = l2[k] := ⟨_, rfl⟩
      rw [← hx] at X1 ok1 hxy
      rw [← hy] at X2 ok2 hxy
      clear hx hy hc1 hc2
      obtain ⟨xr, xf, xq, xt, xv, xg⟩ := x
      obtain ⟨yr, yf, yq, yt, yv, yg⟩ := y
      simp only [CA.c, CV.mk.injEq] at hxy
      obtain ⟨rfl, rfl, rfl, rfl, hv, rfl⟩ := hxy
      have V1 := ok1.va
      have V2 := ok2.va
      rw [hv] at V1
      simp only at V1 V2
      clear ok1 ok2 hv
      have i6 : (k : Int) < (n : Int) := by omega
      obtain ⟨p0, p1, p2, p3, p4, p5⟩ := X1
      obtain ⟨q0, q1, q2, q3, q4, q5⟩ := X2
      simp only at p0 p1 p2 p3 p4 p5 q0 q1 q2 q3 q4 q5
      have a1 := A1.lt
      have a2 := A2.lt
      have b1l := World.block_lt_of_cell? wr _ p0
      have b2l := World.block_lt_of_cell? wr _ q0
      simp only at b1l b2l
      go_wp2_with fail
      go_region
      · have Bv : Below wr.heap.size wr ((wr.alloc (Obj.cells #[.string xr, .string xf, .string xq, .int .u64 xt, .slice xv.ao xv.n xv.cap, .bool xg] 76)).alloc (Obj.cells #[.string xr, .string xf, .string xq, .int .u64 xt, .slice yv.ao yv.n yv.cap, .bool xg] 76)).drew := (((Below.refl _ _).alloc (Nat.le_refl _) _).alloc (by simp) _).drew
        have S1 := V1.below Bv
        have S2 := V2.below Bv
        have B6 := B.trans (Bv.mono (by have := B.size; have := HN.out; omega))
        have D6 := C1.trans (Bv.mono C1.size)
        clear V1 V2 B C1 Bv A1 A2 M1 M2 K K2
        go_wp2_with fail
        refine (same_any _ _ _ _ _ _ _ _ _ S1 S2).mono ?_
        rintro x w7 ⟨rfl, q, hw⟩
        rw [decide_eq_true rfl]
        have B7 : Below N w w7 := by rw [hw]; exact belN B6 q
        have D7 : Below w1.heap.size w1 w7 := by rw [hw]; exact belN D6 q
        clear hw S1 S2 B6 D6
        go_wp2
        go_roundw
        case rel => exact ⟨k + 1, by omega, by go_num, B7, D7⟩
        case measure => simp [intOf]; omega
      · have Bv : Below wr.heap.size wr ((wr.alloc (Obj.cells #[.string xr, .string xf, .string xq, .int .u64 xt, .slice yv.ao yv.n yv.cap, .bool xg] 76)).alloc (Obj.cells #[.string xr, .string xf, .string xq, .int .u64 xt, .slice xv.ao xv.n xv.cap, .bool xg] 76)).drew := (((Below.refl _ _).alloc (Nat.le_refl _) _).alloc (by simp) _).drew
        have S1 := V1.below Bv
        have S2 := V2.below Bv
        have B6 := B.trans (Bv.mono (by have := B.size; have := HN.out; omega))
        have D6 := C1.trans (Bv.mono C1.size)
        clear V1 V2 B C1 Bv A1 A2 M1 M2 K K2
        go_wp2_with fail
        refine (same_any _ _ _ _ _ _ _ _ _ S1 S2).mono ?_
        rintro x w7 ⟨rfl, q, hw⟩
        rw [decide_eq_true rfl]
        have B7 : Below N w w7 := by rw [hw]; exact belN B6 q
        have D7 : Below w1.heap.size w1 w7 := by rw [hw]; exact belN D6 q
        clear hw S1 S2 B6 D6
        go_wp2
        go_roundw
        case rel => exact ⟨k + 1, by omega, by go_num, B7, D7⟩
        case measure => simp [intOf]; omega
    · have i6 : (n : Int) ≤ (k : Int) := by omega
      go_wp2
      go_ret
      exact ⟨rfl, by rw [← HN.out]; exact B⟩
open Go.RowKit
theorem cPut_nil (w : World) (c s : Nat) (e : Int) (ao : Option Addr) (n cap : Nat) (m : Bool) : Calls Tryd.prog 13 #[.pointer none, .int .u64 c, .int .u64 s, resV e ao n cap m] w fun x w' => x = .returned (.int .i64 17) ∧ Below w.heap.size w w' := by
  unfold resV
  go_enter Tryd.func13, Tryd.ntmps13
  go_wp2
  go_ret
  exact ⟨rfl, (Below.refl _ w).alloc (Nat.le_refl _) _⟩
theorem cAll_nil (w : World) : Calls Tryd.prog 19 #[.pointer none] w fun x w' => x = .returned (.slice none 0 0) ∧ w' = w := by
  go_enter Tryd.func19, Tryd.ntmps19
  go_wp2
  go_ret
  exact ⟨rfl, rfl⟩
theorem cBytes_nil (w : World) : Calls Tryd.prog 21 #[.pointer none] w fun x w' => x = .returned (.slice none 0 0) ∧ w' = w := by
  go_enter Tryd.func21, Tryd.ntmps21
  go_wp2
  go_ret
  exact ⟨rfl, rfl⟩
theorem cSum_nil (w : World) : Calls Tryd.prog 23 #[.pointer none] w fun x w' => x = .returned (.slice none 0 0) ∧ w' = w := by
  go_enter Tryd.func23, Tryd.ntmps23
  go_wp2
  go_ret
  exact ⟨rfl, rfl⟩
theorem cClone_nil (w : World) : Calls Tryd.prog 27 #[.pointer none] w fun x w' => x = .returned (.pointer none) ∧ w' = w := by
  go_enter Tryd.func27, Tryd.ntmps27
  go_wp2
  go_ret
  exact ⟨rfl, rfl⟩
set_option maxRecDepth 100000 in
set_option maxHeartbeats 4000000 in
theorem sessionNils_any (w : World) (c s : Nat) (e : Int) (ao : Option Addr) (n cap : Nat) (l : List CA) (m : Bool) (L : CL w ao n cap l) (sm : ∀ c ∈ l, c.small) :
    Calls Tryd.prog 5 #[.int .u64 c, .int .u64 s, resV e ao n cap m] w fun x w' => x = .returned (.bool true) ∧ Below w.heap.size w w' := by
  have B0 : Below w.heap.size w (w.alloc (.cells #[.int .i64 e, .slice ao n cap, .bool m] 37)) := (Below.refl _ w).alloc (Nat.le_refl _) _
  have K0 : RW (w.alloc (.cells #[.int .i64 e, .slice ao n cap, .bool m] 37)) w.heap.size e (.slice ao n cap) m := heap_alloc_new w _
  have CC := lcells_any _ ao n cap l 70 (L.below B0) sm
  unfold resV
  clear L sm
  go_enter Tryd.func5, Tryd.ntmps5
  go_wp2_with fail
  obtain ⟨w1, hw1⟩ : ∃ W, W = w.alloc (.cells #[.int .i64 e, .slice ao n cap, .bool m] 37) := ⟨_, rfl⟩
  obtain ⟨N, hN⟩ : ∃ N, N = w.heap.size := ⟨_, rfl⟩
  rw [← hw1] at B0 K0 CC ⊢
  rw [← hN] at K0 ⊢
  clear hw1 hN
  refine CC.mono ?_
  rintro x w2 ⟨rfl, C2⟩
  have K2 : RW w2 N e (.slice ao n cap) m := K0.kept (C2.block _ K0.lt)
  have B2 := B0.trans (C2.mono B0.size)
  clear CC C2 B0 K0
  cases hcb : cellsB l 70 with
  | false =>
    have CA := alive12 w2
    clear hcb K2
    go_wp2_with fail
    refine CA.mono ?_
    rintro x w3 ⟨rfl, C3⟩
    have B3 := B2.trans (C3.mono B2.size)
    clear CA
    go_wp2
    go_ret
    exact ⟨rfl, B3⟩
  | true =>
    clear hcb
    have C3 := cAsk_nil w2 c s
    go_wp2_with fail
    refine C3.mono ?_
    rintro x w3 ⟨q, ao3, n3, cap3, cs3, m3, rfl, L3, hq, D3⟩
    have K3 : RW w3 N e (.slice ao n cap) m := K2.kept (D3.block _ K2.lt)
    have B3 := B2.trans (D3.mono B2.size)
    have hq' : zRV = resR q cs3 m3 := hq
    unfold zRV resR at hq'
    simp only [RV.mk.injEq] at hq'
    obtain ⟨rfl, hcs, rfl⟩ := hq'
    have hcs0 : cs3 = [] := by simpa using hcs.symm
    subst hcs0
    have hn0 : n3 = 0 := by simpa using L3.len.symm
    subst hn0
    clear C3 K2 B2 D3 hq hcs
    have A3 : Below w3.heap.size w3 (w3.alloc (.cells #[.int .i64 0, .slice ao3 0 cap3, .bool false] 37)) := (Below.refl _ _).alloc (Nat.le_refl _) _
    have K4 : RW (w3.alloc (.cells #[.int .i64 0, .slice ao3 0 cap3, .bool false] 37)) N e (.slice ao n cap) m := K3.kept (A3.block _ K3.lt)
    have B4 := B3.trans (A3.mono B3.size)
    have CR := rresults_any _ 0 ao3 none 0 cap3 0 [] [] false (L3.below A3) (CL.nothing _) rfl (by omega)
    unfold resV at CR ⊢
    go_wp2_with fail
    obtain ⟨w4, hw4⟩ : ∃ W, W = w3.alloc (.cells #[.int .i64 0, .slice ao3 0 cap3, .bool false] 37) := ⟨_, rfl⟩
    obtain ⟨M, hM⟩ : ∃ M, M = w3.heap.size := ⟨_, rfl⟩
    rw [← hw4] at K4 CR B4 ⊢
    rw [← hM]
    clear hw4 hM A3 K3 B3 L3
    refine CR.mono ?_
    rintro x w5 ⟨rfl, D5⟩
    have K5 : RW w5 N e (.slice ao n cap) m := K4.kept (D5.block _ K4.lt)
    have B5 := B4.trans (D5.mono B4.size)
    clear CR K4 B4 D5
    have CP := cPut_nil w5 c s e ao n cap m
    have r0 := K5.c0
    have r1 := K5.c1
    have r2 := K5.c2
    unfold resV at CP
    go_wp2_with fail
    refine CP.mono ?_
    rintro x w6 ⟨rfl, D6⟩
    have B6 := B5.trans (D6.mono B5.size)
    clear CP K5 B5 D6 r0 r1 r2
    have CA := cAll_nil w6
    have CB := cBytes_nil w6
    have CS := cSum_nil w6
    have CC := cClone_nil w6
    have CL := alive12 w6
    go_wp2_with (first
      | (go_at_call 19; refine CA.mono ?_; rintro x w' ⟨rfl, hw⟩; obtain rfl := hw.symm; clear hw)
      | (go_at_call 21; refine CB.mono ?_; rintro x w' ⟨rfl, hw⟩; obtain rfl := hw.symm; clear hw)
      | (go_at_call 23; refine CS.mono ?_; rintro x w' ⟨rfl, hw⟩; obtain rfl := hw.symm; clear hw)
      | (go_at_call 27; refine CC.mono ?_; rintro x w' ⟨rfl, hw⟩; obtain rfl := hw.symm; clear hw)
      | (go_at_call 8; refine CL.mono ?_; rintro x w7 ⟨rfl, D7⟩))
    go_ret
    exact ⟨rfl, B6.trans (D7.mono B6.size)⟩
open Go.RowKit
abbrev laidL : List (String × DataW Unit) := [("bulwark/digest.firstWords", Rows.laid_bulwark_digest_firstWords), ("bulwark/digest.roundWords", Rows.laid_bulwark_digest_roundWords)]
theorem laidL_plain : (laidL.all fun x => x.2.handleName?.isNone) = true := by kernel_rfl
theorem all_met (os : Os) (args : Array Value) : laidMetH Tryd.prog laidL ((World.laidAll Tryd.prog os laidL).forCall (fun _ _ => 0) ⟨#[], args, []⟩).memory := by
  rw [MakeChecks.laidMetH_plain _ _ _ laidL_plain]
  exact laidMet_laidAll _ (by kernel_rfl) (by kernel_rfl)
open Go.RowKit Go.ChangeShapes Go.WideShapes
structure ResTypes (P : Program) where
  key : TypeId
  str : TypeId
  u64 : TypeId
  bys : TypeId
  u8 : TypeId
  bool : TypeId
  cel : TypeId
  cels : TypeId
  knd : TypeId
  res : TypeId
  g0 : Field
  g1 : Field
  g2 : Field
  g3 : Field
  f0 : Field
  f1 : Field
  f2 : Field
  r0 : Field
  r1 : Field
  r2 : Field
  hkey : P.underlying key = some (.struct #[g0, g1, g2, g3])
  hstr : P.underlying str = some .string
  hu64 : P.underlying u64 = some (.int .u64)
  hbys : P.underlying bys = some (.slice u8)
  hu8 : P.underlying u8 = some (.int .u8)
  hbool : P.underlying bool = some .bool
  hcel : P.underlying cel = some (.struct #[f0, f1, f2])
  hcels : P.underlying cels = some (.slice cel)
  hknd : P.underlying knd = some (.int .i64)
  hres : P.underlying res = some (.struct #[r0, r1, r2])
  ckey : P.cellsOf key = 4
  cstr : P.cellsOf str = 1
  cu64 : P.cellsOf u64 = 1
  cbys : P.cellsOf bys = 1
  cu8 : P.cellsOf u8 = 1
  bu8 : P.bytesOf u8 = 1
  cbool : P.cellsOf bool = 1
  ccel : P.cellsOf cel = 6
  ccels : P.cellsOf cels = 1
  cknd : P.cellsOf knd = 1
  cres : P.cellsOf res = 3
  p0 : g0.type = str ∧ g0.offset = 0
  p1 : g1.type = str ∧ g1.offset = 1
  p2 : g2.type = str ∧ g2.offset = 2
  p3 : g3.type = u64 ∧ g3.offset = 3
  o0 : f0.type = key ∧ f0.offset = 0
  o1 : f1.type = bys ∧ f1.offset = 4
  o2 : f2.type = bool ∧ f2.offset = 5
  q0 : r0.type = knd ∧ r0.offset = 0
  q1 : r1.type = cels ∧ r1.offset = 1
  q2 : r2.type = bool ∧ r2.offset = 2
variable {H : Type} {enc : TypeId × Value → H} {P : Program} {w : World} {base : Nat} {spare : Nat → Bool} {held : Bool}
set_option maxHeartbeats 1000000 in
theorem open_cellS (T : ResTypes P) {fuel : Nat} {cs : List Value} {x : DataW H × List MemPlace} (h : DataW.trod enc P w base spare held fuel T.cel cs = some x) : ∃ c : CA, cs = c.cells ∧ c.ok w ∧ (Wt P x.1 T.cel → c.small) := by
  obtain ⟨xs, k, _, hx, hl, hlen, hf⟩ := DataW.trod_struct T.hcel h
  rw [T.ccel] at hl
  obtain ⟨c0, c1, c2, c3, c4, c5, rfl⟩ : ∃ c0 c1 c2 c3 c4 c5, cs = [c0, c1, c2, c3, c4, c5] := by
    match cs, hl with
    | [c0, c1, c2, c3, c4, c5], _ => exact ⟨_, _, _, _, _, _, rfl⟩
  obtain ⟨x0, x1, x2, rfl⟩ : ∃ x0 x1 x2, xs = [x0, x1, x2] := by
    match xs, hlen with
    | [x0, x1, x2], _ => exact ⟨_, _, _, rfl⟩
  have e0 := hf 0 T.f0 rfl
  have e1 := hf 1 T.f1 rfl
  have e2 := hf 2 T.f2 rfl
  rw [T.o0.1, T.o0.2, T.ckey] at e0
  rw [T.o1.1, T.o1.2, T.cbys] at e1
  rw [T.o2.1, T.o2.2, T.cbool] at e2
  simp only [List.drop_succ_cons, List.drop_zero, List.take_succ_cons, List.take_zero, List.getElem?_cons_zero, List.getElem?_cons_succ] at e0 e1 e2
  obtain ⟨ys, k2, _, hx2, _, hlen2, hf2⟩ := DataW.trod_struct T.hkey e0
  obtain ⟨y0, y1, y2, y3, rfl⟩ : ∃ y0 y1 y2 y3, ys = [y0, y1, y2, y3] := by
    match ys, hlen2 with
    | [y0, y1, y2, y3], _ => exact ⟨_, _, _, _, rfl⟩
  have d0 := hf2 0 T.g0 rfl
  have d1 := hf2 1 T.g1 rfl
  have d2 := hf2 2 T.g2 rfl
  have d3 := hf2 3 T.g3 rfl
  rw [T.p0.1, T.p0.2, T.cstr] at d0
  rw [T.p1.1, T.p1.2, T.cstr] at d1
  rw [T.p2.1, T.p2.2, T.cstr] at d2
  rw [T.p3.1, T.p3.2, T.cu64] at d3
  simp only [List.drop_succ_cons, List.drop_zero, List.take_succ_cons, List.take_zero, List.getElem?_cons_zero, List.getElem?_cons_succ] at d0 d1 d2 d3
  obtain ⟨rw_, q1, r1, w1⟩ := DataW.trod_string T.hstr d0
  obtain rfl : c0 = .string rw_ := by simpa using q1
  obtain ⟨fm, q2, r2, w2⟩ := DataW.trod_string T.hstr d1
  obtain rfl : c1 = .string fm := by simpa using q2
  obtain ⟨ql, q3, r3, w3⟩ := DataW.trod_string T.hstr d2
  obtain rfl : c2 = .string ql := by simpa using q3
  obtain ⟨tm, q4, _, w4⟩ := DataW.trod_int T.hu64 d3
  obtain rfl : c3 = .int .u64 tm := by simpa using q4
  obtain ⟨va, q6, s6, sv⟩ := Sl.of_ints T.hbys T.hu8 T.cu8 T.bu8 e1
  obtain ⟨gn, q8, _⟩ := DataW.trod_bool T.hbool e2
  obtain rfl : c5 = .bool gn := by simpa using q8
  have gt : 0 ≤ tm ∧ tm < 18446744073709551616 := by
    simp [Lit.wf, IntKind.min, IntKind.max, IntKind.signed, IntKind.bits] at w4
    omega
  have ez : ((tm.toNat : Nat) : Int) = tm := Int.toNat_of_nonneg gt.1
  subst q6
  refine ⟨⟨rw_, fm, ql, tm.toNat, va, gn⟩, ?_, ⟨w1, w2, w3, by show tm.toNat < _; omega, s6⟩, fun hwt => ?_⟩
  · simp [CA.cells, ez]
  · rw [hx] at hwt
    have hk := hwt.field T.hcel 0 (u := T.key) (by simp [T.o0.1]) rfl
    rw [hx2] at hk
    have g0 := hk.field T.hkey 0 (u := T.str) (by simp [T.p0.1]) rfl
    have g1 := hk.field T.hkey 1 (u := T.str) (by simp [T.p1.1]) rfl
    have g2 := hk.field T.hkey 2 (u := T.str) (by simp [T.p2.1]) rfl
    rw [r1] at g0
    rw [r2] at g1
    rw [r3] at g2
    exact ⟨g0.text, g1.text, g2.text, sv (hwt.field T.hcel 1 (u := T.bys) (by simp [T.o1.1]) rfl)⟩
theorem open_cellsS (T : ResTypes P) {fuel : Nat} {v : Value} {x : DataW H × List MemPlace} (h : DataW.trod enc P w base spare held fuel T.cels [v] = some x) : ∃ ao n cap l, v = .slice ao n cap ∧ CL w ao n cap l ∧ (Wt P x.1 T.cels → ∀ c ∈ l, c.small) := by
  rcases Deep.open_slice T.hcels h with ⟨hcs, _⟩ | ⟨a, l, c, m, n, D, Pl, hcs, _, hl, hm, hmm, hy0, hx⟩
  · exact ⟨none, 0, 0, [], by simpa using hcs, CL.nothing w, fun _ _ h => by simp at h⟩
  · have hlm : l ≤ m := by rw [hmm]; split <;> omega
    obtain ⟨z, hz1, hz2⟩ := gather_list (p := fun i y => ((∀ j v, (CA.cells y)[j]? = some v → w.cell? (a.add (i * 6 + j)) = some v) ∧ CA.ok y w) ∧ (Wt P (D i) T.cel → CA.small y)) l (fun i hi => by
      obtain ⟨cs', h1, h2⟩ := hx i (by omega)
      rw [T.ccel] at h1
      obtain ⟨_, hlen, hcell⟩ := World.cells?_some h1
      obtain ⟨y, e1, w1, sm1⟩ := open_cellS T h2
      refine ⟨y, ⟨fun j v hv => ?_, w1⟩, sm1⟩
      rw [← e1] at hv
      have hj : j < cs'.length := (List.getElem?_eq_some_iff.1 hv).1
      have := hcell j (by omega)
      rw [Deep.add_add, hv] at this
      exact this)
    refine ⟨some a, l, c, z, by simpa using hcs, ⟨hz1, hl, hm, fun h => by simp at h, fun b hb i hi => ?_, fun y hy => ?_⟩, fun hwt y hy => ?_⟩
    · obtain rfl := Option.some.inj hb
      exact (hz2 i hi).1.1
    · obtain ⟨i, hi, rfl⟩ := List.getElem_of_mem hy
      exact (hz2 i hi).1.2
    · obtain ⟨i, hi, rfl⟩ := List.getElem_of_mem hy
      refine (hz2 i hi).2 fun n hn2 => hwt n ?_
      rw [hy0]
      simp only [DataW.weights, T.hcels]
      refine List.mem_cons_of_mem _ (List.mem_append_left _ (weights_mem_all (j := i) ?_ n hn2))
      rw [List.getElem?_map, List.getElem?_range (by omega)]
      rfl
theorem open_resS (T : ResTypes P) {fuel : Nat} {l : List Value} {x : DataW H × List MemPlace} (h : DataW.trod enc P w base spare held fuel T.res l = some x) :
    ∃ (e : Int) (ao : Option Addr) (n cap : Nat) (cs : List CA) (m : Bool), l = [.int .i64 e, .slice ao n cap, .bool m] ∧ CL w ao n cap cs ∧ (Wt P x.1 T.res → ∀ c ∈ cs, c.small) := by
  obtain ⟨xs, k, _, hx, hl, hlen, hfl⟩ := DataW.trod_struct T.hres h
  rw [T.cres] at hl
  obtain ⟨x0, x1, x2, rfl⟩ : ∃ x0 x1 x2, xs = [x0, x1, x2] := by
    match xs, hlen with
    | [x0, x1, x2], _ => exact ⟨_, _, _, rfl⟩
  have e0 := hfl 0 T.r0 rfl
  have e1 := hfl 1 T.r1 rfl
  have e2 := hfl 2 T.r2 rfl
  rw [T.q0.1, T.q0.2, T.cknd] at e0
  rw [T.q1.1, T.q1.2, T.ccels] at e1
  rw [T.q2.1, T.q2.2, T.cbool] at e2
  obtain ⟨a, b, c, rfl⟩ : ∃ a b c, l = [a, b, c] := by
    match l, hl with
    | [a, b, c], _ => exact ⟨_, _, _, rfl⟩
  simp only [List.drop_succ_cons, List.drop_zero, List.take_succ_cons, List.take_zero, List.getElem?_cons_zero, List.getElem?_cons_succ] at e0 e1 e2
  obtain ⟨z0, q0, _, w0⟩ := DataW.trod_int T.hknd e0
  obtain rfl : a = .int .i64 z0 := by simpa using q0
  obtain ⟨ao, n, cap, cl, rfl, hcl, sm⟩ := open_cellsS T e1
  obtain ⟨m, q2, _⟩ := DataW.trod_bool T.hbool e2
  obtain rfl : c = .bool m := by simpa using q2
  refine ⟨z0, ao, n, cap, cl, m, rfl, hcl, fun hwt => ?_⟩
  rw [hx] at hwt
  exact sm (hwt.field T.hres 1 (u := T.cels) (by simp [T.q1.1]) rfl)
theorem open_resW (T : ResTypes P) {r : Reach} {b0 : Nat} {v : Value} {x : DataW H} {p : List MemPlace} (hv : Value.okWide P w r b0 T.res v) (h : DataW.Trod enc P w base spare held T.res v x p) :
    ∃ (e : Int) (ao : Option Addr) (n cap : Nat) (l : List CA) (m : Bool), v = .agg #[.int .i64 e, .slice ao n cap, .bool m] ∧ CL w ao n cap l ∧ (Wt P x T.res → ∀ c ∈ l, c.small) := by
  obtain ⟨cs, rfl, hsz⟩ := okWide_struct T.hres hv
  obtain ⟨fuel, hf⟩ := h
  obtain ⟨e, ao, n, cap, l, m, e1, L, sm⟩ := open_resS T hf
  refine ⟨e, ao, n, cap, l, m, ?_, L, sm⟩
  have e2 : cs.toList = _ := e1
  congr 1
  exact Array.toList_inj.1 e2
open Go.RowKit
def resT : ResTypes Tryd.prog where
  key := 74
  str := 9
  u64 := 34
  bys := 50
  u8 := 5
  bool := 4
  cel := 76
  cels := 35
  knd := 27
  res := 37
  g0 := { name := "Row", type := 9, offset := 0, embedded := false, tag := "", pkgPath := "", byteOffset := 0 }
  g1 := { name := "Family", type := 9, offset := 1, embedded := false, tag := "", pkgPath := "", byteOffset := 16 }
  g2 := { name := "Qual", type := 9, offset := 2, embedded := false, tag := "", pkgPath := "", byteOffset := 32 }
  g3 := { name := "Time", type := 34, offset := 3, embedded := false, tag := "", pkgPath := "", byteOffset := 48 }
  f0 := { name := "K", type := 74, offset := 0, embedded := false, tag := "", pkgPath := "", byteOffset := 0 }
  f1 := { name := "Value", type := 50, offset := 4, embedded := false, tag := "", pkgPath := "", byteOffset := 56 }
  f2 := { name := "Gone", type := 4, offset := 5, embedded := false, tag := "", pkgPath := "", byteOffset := 80 }
  r0 := { name := "E", type := 27, offset := 0, embedded := false, tag := "", pkgPath := "", byteOffset := 0 }
  r1 := { name := "Cells", type := 35, offset := 1, embedded := false, tag := "", pkgPath := "", byteOffset := 8 }
  r2 := { name := "More", type := 4, offset := 2, embedded := false, tag := "", pkgPath := "", byteOffset := 32 }
  hkey := Tryd.underlying74
  hstr := Tryd.underlying9
  hu64 := Tryd.underlying34
  hbys := Tryd.underlying50
  hu8 := Tryd.underlying5
  hbool := Tryd.underlying4
  hcel := Tryd.underlying76
  hcels := Tryd.underlying35
  hknd := Tryd.underlying27
  hres := Tryd.underlying37
  ckey := by kernel_rfl
  cstr := by kernel_rfl
  cu64 := by kernel_rfl
  cbys := by kernel_rfl
  cu8 := by kernel_rfl
  bu8 := by kernel_rfl
  cbool := by kernel_rfl
  ccel := by kernel_rfl
  ccels := by kernel_rfl
  cknd := by kernel_rfl
  cres := by kernel_rfl
  p0 := ⟨rfl, rfl⟩
  p1 := ⟨rfl, rfl⟩
  p2 := ⟨rfl, rfl⟩
  p3 := ⟨rfl, rfl⟩
  o0 := ⟨rfl, rfl⟩
  o1 := ⟨rfl, rfl⟩
  o2 := ⟨rfl, rfl⟩
  q0 := ⟨rfl, rfl⟩
  q1 := ⟨rfl, rfl⟩
  q2 := ⟨rfl, rfl⟩
end Go.Proofs.YtoagkffokfbpfaaDoor

/-
  Texts in one: MgLight, MethL, MgRdM, RdOr.
-/
import Derived.Test.YtnbejckdhdbamaaGreatMessageRightQ28
import Derived.Test.YtnbejckdhdbamaaGreatMessageRightQ30
import Derived.Test.YtnbejckdhdbamaaGreatMessageRightQ10
import Derived.Test.YtnbejckdhdbamaaGreatMessageRightQ31
import Derived.Test.YtnbejckdhdbamaaGreatMessageRightQ32
import Derived.Test.YtnbejckdhdbamaaGreatMessageRightQ3
import Derived.Test.YtnbejckdhdbamaaGreatMessageRightQ9
namespace Go.Proofs.YtnbejckdhdbamaaGreat
open Go.RowKit
def smT (t : LS SA) : Prop := t.n ≤ 20 ∧ ∀ s ∈ t.l, s.b.n ≤ 2000 ∧ s.tag.n ≤ 100
structure LB (x : BM) (ql : List QE) : Prop where
 sum : x.sum.n ≤ 100
 qn : x.q.n ≤ 10
 sn : x.s.n ≤ 20
 tn : x.t.n ≤ 20
 c : cellsB x.c.l 20 = true
 q : ∀ y ∈ ql, lightD 3 y.x = true
 s : smT x.s
 t : ∀ t ∈ x.t.l, smT t
def LtPost (w : World) (x : BM) (ql : List QE) (e : Ending) (w' : World) : Prop := ∃ b : Bool, e = .returned (.bool b) ∧ (b = true → LB x ql) ∧ Below w.heap.size w w'
theorem lsTy : GTy elS.lists.sz 24 (.slice none 0 0) 31 32 := ⟨by kernel_rfl, rfl, Tryz.underlying32⟩
set_option maxRecDepth 100000 in
set_option maxHeartbeats 16000000 in
theorem light13 (w : World) (x : BM) (ql : List QE) (hx : x.ok w) (qx : x.q.l = ql.map QE.m) (ow : ∀ y ∈ ql, OW w 3 y.x) (sm : ∀ y ∈ ql, OSm 3 y.x) (cs : ∀ c ∈ x.c.l, c.small) :
  Calls Tryz.prog 5 #[x.val] w (LtPost w x ql) := by
 have B : Below w.heap.size w (w.alloc (Obj.cells #[.int .i64 x.kind, .int .u64 (x.view : Nat), .int .u64 (x.seq : Nat), .slice x.sum.ao x.sum.n x.sum.cap, .slice x.q.ao x.q.n x.q.cap, .int .u64 (x.cl : Nat), .int .u64 (x.st : Nat), .int .u64 (x.vw : Nat), .int .i64 x.e, .slice x.c.ao x.c.n x.c.cap, .bool x.more, .slice x.s.ao x.s.n x.s.cap, .slice x.t.ao x.t.n x.t.cap] 34)) := (Below.refl _ w).alloc (Nat.le_refl _) _
 have KX : (w.alloc (Obj.cells #[.int .i64 x.kind, .int .u64 (x.view : Nat), .int .u64 (x.seq : Nat), .slice x.sum.ao x.sum.n x.sum.cap, .slice x.q.ao x.q.n x.q.cap, .int .u64 (x.cl : Nat), .int .u64 (x.st : Nat), .int .u64 (x.vw : Nat), .int .i64 x.e, .slice x.c.ao x.c.n x.c.cap, .bool x.more, .slice x.s.ao x.s.n x.s.cap, .slice x.t.ao x.t.n x.t.cap] 34)).heap[w.heap.size]? = some (.cells #[.int .i64 x.kind, .int .u64 (x.view : Nat), .int .u64 (x.seq : Nat), .slice x.sum.ao x.sum.n x.sum.cap, .slice x.q.ao x.q.n x.q.cap, .int .u64 (x.cl : Nat), .int .u64 (x.st : Nat), .int .u64 (x.vw : Nat), .int .i64 x.e, .slice x.c.ao x.c.n x.c.cap, .bool x.more, .slice x.s.ao x.s.n x.s.cap, .slice x.t.ao x.t.n x.t.cap] 34) := heap_alloc_new w _
 have nq : ql.length = x.q.n := by rw [← hx.q.len, qx, List.length_map]
 have GX : GL elQ w x.q.ao x.q.n x.q.cap (ql.map QE.m) := by rw [← qx]; exact hx.q
 have h0q := hx.q.len
 clear qx
 unfold BM.val
 by_cases c0 : 100 < x.sum.n
 ·have i0 : (100 : Int) < (x.sum.n : Int) := by omega
  clear c0
  go_enter Tryz.func5, Tryz.ntmps5
  go_wp2
  go_ret
  exact ⟨false, rfl, fun h => (by cases h), B⟩
 have i0 : ¬ (100 : Int) < (x.sum.n : Int) := by omega
 have H0 : x.sum.n ≤ 100 := by omega
 clear c0
 by_cases c1 : 10 < x.q.n
 ·have i1 : (10 : Int) < (x.q.n : Int) := by omega
  clear c1
  go_enter Tryz.func5, Tryz.ntmps5
  go_wp2
  go_ret
  exact ⟨false, rfl, fun h => (by cases h), B⟩
 have i1 : ¬ (10 : Int) < (x.q.n : Int) := by omega
 have H1 : x.q.n ≤ 10 := by omega
 clear c1
 by_cases c2 : 20 < x.s.n
 ·have i2 : (20 : Int) < (x.s.n : Int) := by omega
  clear c2
  go_enter Tryz.func5, Tryz.ntmps5
  go_wp2
  go_ret
  exact ⟨false, rfl, fun h => (by cases h), B⟩
 have i2 : ¬ (20 : Int) < (x.s.n : Int) := by omega
 have H2 : x.s.n ≤ 20 := by omega
 clear c2
 by_cases c3 : 20 < x.t.n
 ·have i3 : (20 : Int) < (x.t.n : Int) := by omega
  clear c3
  go_enter Tryz.func5, Tryz.ntmps5
  go_wp2
  go_ret
  exact ⟨false, rfl, fun h => (by cases h), B⟩
 have i3 : ¬ (20 : Int) < (x.t.n : Int) := by omega
 have H3 : x.t.n ≤ 20 := by omega
 clear c3
 go_enter Tryz.func5, Tryz.ntmps5
 go_wp2_with fail
 obtain ⟨w1, hw1⟩ : ∃ W, W = (w.alloc (Obj.cells #[.int .i64 x.kind, .int .u64 (x.view : Nat), .int .u64 (x.seq : Nat), .slice x.sum.ao x.sum.n x.sum.cap, .slice x.q.ao x.q.n x.q.cap, .int .u64 (x.cl : Nat), .int .u64 (x.st : Nat), .int .u64 (x.vw : Nat), .int .i64 x.e, .slice x.c.ao x.c.n x.c.cap, .bool x.more, .slice x.s.ao x.s.n x.s.cap, .slice x.t.ao x.t.n x.t.cap] 34)) := ⟨_, rfl⟩
 rw [← hw1] at B KX ⊢
 obtain ⟨N, hN⟩ : ∃ N, N = w.heap.size := ⟨_, rfl⟩
 rw [← hN] at KX ⊢
 have HN : Hid (N = w.heap.size) := hN
 have hN1 : N < w1.heap.size := (Array.getElem?_eq_some_iff.1 KX).1
 clear hw1 hN i0 i1 i2 i3
 refine (lcells_any w1 x.c.ao x.c.n x.c.cap x.c.l 20 (hx.c.below B) cs).mono ?_
 rintro e w2 ⟨rfl, C⟩
 have B2 := B.trans (C.mono B.size)
 cases hcb : cellsB x.c.l 20 with
 | false =>
  clear KX
  go_wp2
  go_ret
  exact ⟨false, rfl, fun h => (by cases h), B2⟩
 | true =>
  have HCB : Hid (cellsB x.c.l 20 = true) := hcb
  clear hcb
  go_wp2_with fail
  go_loopw [3] (fun i wr => ∃ k : Nat, k ≤ x.q.n ∧ i = .int .i64 k ∧ Below w.heap.size w wr ∧ Below w1.heap.size w1 wr ∧ Hid (∀ y ∈ ql.take k, lightD 3 y.x = true)) (fun i _ => x.q.n - (intOf i).toNat)
  case atStart => exact ⟨0, Nat.zero_le _, rfl, B2, C, fun y hy => by simp at hy⟩
  case round =>
   clear B2 C
   obtain ⟨k, hk, rfl, B2, C, HLT⟩ := hrel
   have p4 := cell_of_row wr N 4 _ _ _ ((C.block N hN1).trans KX)
   by_cases hlt : k < x.q.n
   ·have hki : (k : Int) < (x.q.n : Int) := by omega
    have hkl : k < ql.length := by omega
    have Lr := GX.below elQ_fine B2
    obtain ⟨b, off, ea, hc⟩ := Lr.atQ (by omega)
    have X := hc k (by rw [List.length_map]; exact hkl)
    rw [List.getElem_map] at X
    rw [ea] at p4
    have hmem := List.getElem_mem hkl
    have ow1 := OW.below B2 (ow _ hmem)
    have sm1 := sm _ hmem
    have HX : Hid (∀ y ∈ ql.take (k + 1), y ∈ ql.take k ∨ y = ql[k]) := fun y hy => by
     rw [List.take_succ_eq_append_getElem hkl, List.mem_append, List.mem_singleton] at hy
     exact hy
    obtain ⟨y, hy⟩ : ∃ y, y = ql[k] := ⟨_, rfl⟩
    rw [← hy] at X ow1 sm1 HX
    have CL := light_any 3 wr y.x ow1 sm1 (by omega)
    rw [show ((3 : Nat) : Int) - 1 = 2 from rfl] at CL
    unfold OA.val at CL
    obtain ⟨q0, q1, q2, q3, q4, q5, q6, q7, q8, q9, q10, q11⟩ := X
    simp only [QE.m] at q0 q1 q2 q3 q4 q5 q6 q7 q8 q9 q10 q11
    generalize topD 3 y.x = o at CL q2 q3 q4 q5 q6 q7 q8 q9 q10 q11
    clear hy hc Lr ow1 sm1 hmem ea
    cases hb : lightD 3 y.x with
    | true =>
     rw [hb] at CL
     have HLT2 : Hid (∀ u ∈ ql.take (k + 1), lightD 3 u.x = true) := fun u hu => by
      rcases HX.out u hu with h | h
      ·exact HLT.out u h
      ·rw [h]; exact hb
     clear hb HX HLT
     go_wp2_with fail
     refine CL.mono ?_
     rintro e w3 ⟨rfl, D⟩
     have B2 := B2.trans (D.mono B2.size)
     have C := C.trans (D.mono C.size)
     clear CL D q0 q1 q2 q3 q4 q5 q6 q7 q8 q9 q10 q11 p4
     go_wp2
     go_roundw
     case rel => exact ⟨k + 1, by omega, by go_num, B2, C, HLT2⟩
     case measure => simp [intOf]; omega
    | false =>
     rw [hb] at CL
     clear hb HX HLT
     go_wp2_with fail
     refine CL.mono ?_
     rintro e w3 ⟨rfl, D⟩
     have B2 := B2.trans (D.mono B2.size)
     clear CL D q0 q1 q2 q3 q4 q5 q6 q7 q8 q9 q10 q11 p4
     go_wp2
     go_ret
     exact ⟨false, rfl, fun h => (by cases h), B2⟩
   ·have hge : ¬ (k : Int) < (x.q.n : Int) := by omega
    have HQ : Hid (∀ y ∈ ql, lightD 3 y.x = true) := fun y hy => HLT.out y (by rw [List.take_of_length_le (by omega)]; exact hy)
    have p11 := cell_of_row wr N 11 _ _ _ ((C.block N hN1).trans KX)
    have p12 := cell_of_row wr N 12 _ _ _ ((C.block N hN1).trans KX)
    clear HLT
    have hNr : N < wr.heap.size := by have := C.size; omega
    go_wp2_with (refine stop_at (.call { callee := .builtin .append, args := #[Operand.tmp 54, Operand.tmp 56], argTypes := #[32, 32] }) rfl ?_)
    refine ⟨?_⟩
    clear p4 p11 p12 hge hlt hk
    have BA : Below wr.heap.size wr (wr.alloc (Obj.cells #[.slice x.s.ao x.s.n x.s.cap] 31)) := (Below.refl _ wr).alloc (Nat.le_refl _) _
    have GA : (wr.alloc (Obj.cells #[.slice x.s.ao x.s.n x.s.cap] 31)).heap[wr.heap.size]? = some (.cells #[.slice x.s.ao x.s.n x.s.cap] 31) := heap_alloc_new wr _
    have NW : GNew elS.lists 31 w (wr.alloc (Obj.cells #[.slice x.s.ao x.s.n x.s.cap] 31)) wr.heap.size (.slice (some ⟨wr.heap.size, 0, none⟩) 1 1) [x.s] := ⟨⟨by rfl, .inr ⟨wr.heap.size, 1, #[.slice x.s.ao x.s.n x.s.cap], rfl, Nat.le_refl _, GA, Nat.le_refl _, by decide, by rfl, by simp [flatE, El.lists]⟩⟩, fun c hc => by rw [List.mem_singleton.1 hc]; exact hx.s⟩
    obtain ⟨v2, w4, hr, N4, D⟩ := run_appGs (w0 := w) (l := [x.s]) elS_fine.lists lsTy 32 NW BA.size ((hx.t.below elS_fine.lists B2).below elS_fine.lists BA) (fun q hq => hx.t.ok q hq) (by simp only [List.length_singleton]; omega) (by simp only [List.length_singleton, maxLen]; omega)
    refine wpList_append_run rfl (.tmp 54) (.tmp 56) rfl rfl rfl hr ?_
    have D4 := BA.trans D
    have B4 := B2.trans (D4.mono B2.size)
    obtain ⟨ao, ac, rfl, G4, -⟩ := N4.gl elS_fine.lists B4
    have HTY : Hid (([x.s] ++ x.t.l).length = x.t.n + 1) := by have := hx.t.len; show _ = _; rw [List.length_append, List.length_singleton]; omega
    rw [HTY.out] at G4 ⊢
    obtain ⟨al, hal⟩ : ∃ l, l = [x.s] ++ x.t.l := ⟨_, rfl⟩
    rw [← hal] at G4 HTY
    have HALL : Hid ((∀ t ∈ al, smT t) → LB x ql) := fun h => ⟨H0, H1, H2, H3, HCB.out, HQ.out, h _ (by rw [hal]; simp), fun t ht => h t (by rw [hal]; simp [ht])⟩
    clear hal N4 NW GA BA hr D D4 B2 C KX GX hx H0 H1 H2 HQ HCB
    have hal := HTY.out
    go_wp2_with fail
    go_loopw [5, 6] (fun i _ wr => ∃ k : Nat, k ≤ x.t.n + 1 ∧ i = .int .i64 k ∧ Below w.heap.size w wr ∧ Below w4.heap.size w4 wr ∧ Hid (∀ t ∈ al.take k, smT t)) (fun i _ _ => x.t.n + 1 - (intOf i).toNat)
    case atStart => exact ⟨0, Nat.zero_le _, rfl, B4, Below.refl _ _, fun y hy => by simp at hy⟩
    case round =>
     clear B4
     obtain ⟨k, hk, rfl, B4, C4, HLT⟩ := hrel
     by_cases hlt : k < x.t.n + 1
     ·have hki : (k : Int) < (x.t.n : Int) + 1 := by omega
      have hkl : k < al.length := by omega
      obtain ⟨b, off, rfl, hc⟩ := (G4.below elS_fine.lists C4).atL (by omega)
      have r0 := hc k hkl
      have HRC : Hid (∀ V, Below w4.heap.size w4 V → V.cell? ⟨b, off + k, none⟩ = some (.slice al[k].ao al[k].n al[k].cap)) := fun V hV => by
       obtain ⟨b', off', e', hc'⟩ := (G4.below elS_fine.lists hV).atL (by omega)
       simp only [Option.some.injEq, Addr.mk.injEq, and_true] at e'
       obtain ⟨rfl, rfl⟩ := e'
       exact hc' k hkl
      have tok : elS.lists.ok al[k] w4 := G4.ok _ (List.getElem_mem hkl)
      have HX : Hid (∀ y ∈ al.take (k + 1), y ∈ al.take k ∨ y = al[k]) := fun y hy => by
       rw [List.take_succ_eq_append_getElem hkl, List.mem_append, List.mem_singleton] at hy
       exact hy
      obtain ⟨t, ht⟩ : ∃ t, t = al[k] := ⟨_, rfl⟩
      rw [← ht] at r0 tok HX HRC
      clear ht hc
      have tok : GL elS w4 t.ao t.n t.cap t.l := tok
      by_cases c20 : 20 < t.n
      ·have i20 : (20 : Int) < (t.n : Int) := by omega
       go_wp2
       go_ret
       exact ⟨false, rfl, fun h => (by cases h), B4⟩
      have i20 : ¬ (20 : Int) < (t.n : Int) := by omega
      have HR0 : Hid (∀ V, Below w4.heap.size w4 V → V.cell? ⟨b, off + k, none⟩ = some (.slice t.ao t.n t.cap)) := fun V hV => HRC.out V hV
      clear c20 r0
      have r0 := HR0.out wr C4
      go_wp2_with fail
      go_loopw [6] (fun i wr => ∃ j : Nat, j ≤ t.n ∧ i = .int .i64 j ∧ Below w.heap.size w wr ∧ Below w4.heap.size w4 wr ∧ Hid (∀ s ∈ t.l.take j, s.b.n ≤ 2000 ∧ s.tag.n ≤ 100)) (fun i _ => t.n - (intOf i).toNat)
      case atStart => exact ⟨0, Nat.zero_le _, rfl, B4, C4, fun y hy => by simp at hy⟩
      case round =>
       clear B4 C4 r0
       obtain ⟨j, hj, rfl, B4, C4, HLS⟩ := hrel
       have r0 := HR0.out wr C4
       have tl := tok.len
       have tm := tok.mx
       have tle := tok.le
       simp only [maxLen] at tm
       by_cases hlt2 : j < t.n
       ·have hji : (j : Int) < (t.n : Int) := by omega
        have hjl : j < t.l.length := by omega
        obtain ⟨b2, o2, e2, hc2⟩ := (tok.below elS_fine C4).atS (by omega)
        have X := hc2 j hjl
        have HX2 : Hid (∀ y ∈ t.l.take (j + 1), y ∈ t.l.take j ∨ y = t.l[j]) := fun y hy => by
         rw [List.take_succ_eq_append_getElem hjl, List.mem_append, List.mem_singleton] at hy
         exact hy
        obtain ⟨s, hs⟩ : ∃ s, s = t.l[j] := ⟨_, rfl⟩
        rw [← hs] at X HX2
        clear hs hc2
        obtain ⟨s0, s1, s2⟩ := X
        rw [e2] at r0
        by_cases d1 : 2000 < s.b.n
        ·have j1 : (2000 : Int) < (s.b.n : Int) := by omega
         clear HR0 HX2 HX HLS HLT HRC d1 e2
         go_wp2
         go_ret
         exact ⟨false, rfl, fun h => (by cases h), B4⟩
        have j1 : ¬ (2000 : Int) < (s.b.n : Int) := by omega
        by_cases d2 : 100 < s.tag.n
        ·have j2 : (100 : Int) < (s.tag.n : Int) := by omega
         clear HR0 HX2 HX HLS HLT HRC d1 d2 e2
         go_wp2
         go_ret
         exact ⟨false, rfl, fun h => (by cases h), B4⟩
        have j2 : ¬ (100 : Int) < (s.tag.n : Int) := by omega
        have HLS2 : Hid (∀ u ∈ t.l.take (j + 1), u.b.n ≤ 2000 ∧ u.tag.n ≤ 100) := fun u hu => by
         rcases HX2.out u hu with h | h
         ·exact HLS.out u h
         ·rw [h]; exact ⟨by omega, by omega⟩
        clear HX2 HLS d1 d2 e2
        go_wp2
        go_roundw
        case rel => exact ⟨j + 1, by omega, by go_num, B4, C4, HLS2⟩
        case measure => simp [intOf]; omega
       ·have hge2 : ¬ (j : Int) < (t.n : Int) := by omega
        have HLT2 : Hid (∀ u ∈ al.take (k + 1), smT u) := fun u hu => by
         rcases HX.out u hu with h | h
         ·exact HLT.out u h
         ·rw [h]
          refine ⟨by omega, fun s hs => HLS.out s ?_⟩
          rw [List.take_of_length_le (by omega)]
          exact hs
        clear HX HLT HLS
        go_wp2
        go_roundw
        case rel => exact ⟨k + 1, by omega, by go_num, B4, C4, HLT2⟩
        case measure => simp [intOf]; omega
     ·have hge : ¬ (k : Int) < (x.t.n : Int) + 1 := by omega
      have HL : Hid (LB x ql) := HALL.out fun t ht => HLT.out t (by rw [List.take_of_length_le (by omega)]; exact ht)
      clear HLT HALL
      go_wp2
      go_ret
      exact ⟨true, rfl, fun _ => HL.out, B4⟩
open Go.RowKit
theorem left_any (w : World) (p L : Nat) (xs : List Int) (k : Int) (h : R w p L xs k) : Calls Tryz.prog 80 #[.pointer (some ⟨p, 0, none⟩)] w fun e w' => e = .returned (.int .i64 (if k = 0 then (xs.length : Int) else 0)) ∧ w' = w := by
 obtain ⟨ao, n, cap, hr⟩ := h
 have h0 := hr.c0
 have h1 := hr.c1
 have hl := hr.sl.len
 clear hr
 by_cases hk : k = 0
 ·rw [if_pos hk]
  subst hl hk
  go_enter Tryz.func80, Tryz.ntmps80
  go_wp2_with (go_at_call 75; refine (failed_any _ p 0 h1).mono ?_; rintro e w' ⟨rfl, rfl⟩)
  go_ret
  exact ⟨rfl, rfl⟩
 ·rw [if_neg hk]
  have hb : (k != 0) = true := by simp [hk]
  clear hk
  go_enter Tryz.func80, Tryz.ntmps80
  go_wp2_with (go_at_call 75; refine (failed_any _ p k h1).mono ?_; rintro e w' ⟨rfl, rfl⟩)
  go_ret
  exact ⟨rfl, rfl⟩
open Go.RowKit
theorem R.lowM {W W' : World} {rp B : Nat} {xs : List Int} {k : Int} (h : R W rp rp xs k) (hb : Below B W W') (hB : rp < B) : R W' rp rp xs k := by
 obtain ⟨ao, n, cap, r⟩ := h
 have hbk := hb.block rp hB
 refine ⟨ao, n, cap, (World.cell?_of_block (a := ⟨rp, 0, none⟩) hbk).trans r.c0, (World.cell?_of_block (a := ⟨rp, 1, none⟩) hbk).trans r.c1, (World.frozen?_of_block (a := ⟨rp, 0, none⟩) hbk).trans r.f0, (World.frozen?_of_block (a := ⟨rp, 1, none⟩) hbk).trans r.f1, ?_, r.low, r.le, r.sm⟩
 exact Sl.kept (b := ⟨ao, n, cap, _⟩) r.sl (fun x hx => by
  obtain ⟨a, ha, hn, rfl⟩ := hx
  have hl1 := r.low a ha hn
  exact hb.block _ (by omega))
theorem fail_gm (w : World) (p L : Nat) (xs : List Int) (k q : Int) (h : R w p L xs k) : Calls Tryz.prog 76 #[.pointer (some ⟨p, 0, none⟩), .int .i64 q] w fun e w' => e = .returned (.tuple #[]) ∧ R w' p L (flS xs k q).1 (flS xs k q).2 ∧ w.grownBy w' (some p) := by
 by_cases hk : k = 0
 ·by_cases hq : q = 0
  ·have hf : flS xs k q = (xs, k) := by unfold flS; rw [if_pos hk, if_pos hq, hk]
   rw [hf]
   obtain ⟨ao, n, cap, hr⟩ := h
   refine (fail_not w p k q hr.c1 (.inr hq)).mono ?_
   rintro e w' ⟨rfl, rfl⟩
   exact ⟨rfl, ⟨ao, n, cap, hr⟩, World.grownBy.refl _ _⟩
  ·have hf : flS xs k q = ([], q) := by unfold flS; rw [if_pos hk, if_neg hq]
   rw [hf]
   subst hk
   exact fail_any w p L xs q h hq
 ·have hf : flS xs k q = (xs, k) := by unfold flS; rw [if_neg hk]
  rw [hf]
  obtain ⟨ao, n, cap, hr⟩ := h
  refine (fail_not w p k q hr.c1 (.inl hk)).mono ?_
  rintro e w' ⟨rfl, rfl⟩
  exact ⟨rfl, ⟨ao, n, cap, hr⟩, World.grownBy.refl _ _⟩
theorem gtrans {a b c : World} {p : Nat} (h : a.grownBy b (some p)) (k : b.grownBy c (some p)) : a.grownBy c (some p) :=
 ⟨k.os.trans h.os, k.tape.trans h.tape, k.output.trans h.output, Nat.le_trans h.size k.size, fun z hz hne => (k.block z (Nat.lt_of_lt_of_le hz h.size) hne).trans (h.block z hz hne)⟩
theorem gthen {a b c : World} {p : Nat} (h : a.grownBy b (some p)) (k : Below a.heap.size b c) : a.grownBy c (some p) := ⟨k.os.trans h.os, k.tape.trans h.tape, k.output.trans h.output, Nat.le_trans h.size k.size, fun z hz hne => (k.block z hz).trans (h.block z hz hne)⟩
theorem gbelow {a b : World} (p : Nat) (h : Below a.heap.size a b) : a.grownBy b (some p) := ⟨h.os, h.tape, h.output, h.size, fun z hz _ => h.block z hz⟩
theorem GI.rdr {α : Type} {E : El α} (F : E.Fine) {t : TypeId} {W W' : World} {base : Nat} {v : Value} {ys : List α} (h : GI E t W base v ys) (hl : ∀ y ∈ ys, ∀ z, E.blk y z → base ≤ z) {p : Nat} (hp : p < base) (hg : W.grownBy W' (some p)) : GI E t W' base v ys :=
 h.kept F fun z hz => hg.block z (h.lt F hz) (fun e => by
  have e := Option.some.inj e
  rcases hz with hz | ⟨y, hy, hz⟩
  ·have := (h.own.lt z hz).1
   omega
  ·have := hl y hy z hz
   omega)
def TxsPost (w : World) (p : Nat) (xs : List Int) (k : Int) (e : Ending) (w' : World) : Prop :=
 ∃ (ao : Option Addr) (n cap : Nat) (l : List SA), e = .returned (.slice ao n cap) ∧ GL elS w' ao n cap l ∧ l.map SA.v = (vsT xs k).1 ∧ R w' p p (vsT xs k).2.1 (vsT xs k).2.2 ∧ w.grownBy w' (some p) ∧ ∀ z, GLb elS ao n l z → w.heap.size ≤ z
set_option maxRecDepth 100000 in
set_option maxHeartbeats 4000000 in
theorem takeTexts_any (w : World) (p : Nat) (xs : List Int) (k : Int) (h : R w p p xs k) :
  Calls Tryz.prog 42 #[.pointer (some ⟨p, 0, none⟩)] w (TxsPost w p xs k) := by
 have hp := h.plt.1
 have CI := int_any w p p xs k 16 (by omega) h.byte h
 have HV : Hid (vsT xs k = repT vT (intS xs k 16).1 (intS xs k 16).2.1 (intS xs k 16).2.2) := rfl
 have hc16 := intS_le xs k 16
 have e16 : ((16 : Nat) : Int) = 16 := rfl
 rw [e16] at hc16
 clear e16
 go_enter Tryz.func42, Tryz.ntmps42
 go_wp2_with fail
 refine CI.mono ?_
 rintro e w1 ⟨rfl, R1, G1⟩
 generalize intS xs k 16 = c at HV hc16 R1 ⊢
 obtain ⟨cn, cxs, ck⟩ := c
 simp only at HV hc16 R1 ⊢
 have hci : (cn : Int) ≤ 16 := by omega
 clear CI h
 go_wp2_with fail
 go_loopw [3, 6] (fun v' i wr => ∃ (j : Nat) (v : Value) (ys : List SA), j ≤ cn ∧ i = .int .i64 j ∧ v = v' ∧ GI elS 112 wr w.heap.size v ys ∧ Hid (ys.map SA.v = (repT vT j cxs ck).1) ∧ ys.length = j ∧ R wr p p (repT vT j cxs ck).2.1 (repT vT j cxs ck).2.2 ∧ w.grownBy wr (some p) ∧ Hid (∀ y ∈ ys, ∀ z, elS.blk y z → w.heap.size ≤ z)) (fun _ i _ => cn - (intOf i).toNat)
 case atStart => exact ⟨0, _, [], Nat.zero_le _, rfl, rfl, GI.nil _ _ _ _, rfl, rfl, R1, G1, fun _ h => absurd h List.not_mem_nil⟩
 case round =>
  clear R1 G1
  obtain ⟨j, v, ys, hj, rfl, rfl, GR, HY, hyl, RR, GG, HL⟩ := hrel
  have hsz := GG.size
  by_cases hlt : j < cn
  ·have hji : (j : Int) < (cn : Int) := by omega
   have HS : Hid (repT vT (j + 1) cxs ck = ((repT vT j cxs ck).1 ++ [(vT (repT vT j cxs ck).2.1 (repT vT j cxs ck).2.2).1], (vT (repT vT j cxs ck).2.1 (repT vT j cxs ck).2.2).2)) := repT_snoc vT j cxs ck
   generalize repT vT j cxs ck = s at HY RR HS
   obtain ⟨sl, sx, sk⟩ := s
   simp only at HY RR HS
   have HT : Hid (vT sx sk = (⟨(uintS sx sk).1, (bytesS (uintS sx sk).2.1 (uintS sx sk).2.2 65536).1, (bytesS (bytesS (uintS sx sk).2.1 (uintS sx sk).2.2 65536).2.1 (bytesS (uintS sx sk).2.1 (uintS sx sk).2.2 65536).2.2 32).1⟩, (bytesS (bytesS (uintS sx sk).2.1 (uintS sx sk).2.2 65536).2.1 (bytesS (uintS sx sk).2.1 (uintS sx sk).2.2 65536).2.2 32).2)) := rfl
   have CU := uint_any wr p p sx sk RR
   have vlt : Hid (∀ z, v.ownBlock = some z → z < wr.heap.size) := fun z hz => (GR.own.lt z hz).2
   have hlt1 := uintS_lt (k := sk) RR.byte
   go_wp2_with fail
   refine CU.mono ?_
   rintro e w2 ⟨rfl, R2, G2⟩
   generalize uintS sx sk = r1 at HT hlt1 R2 ⊢
   have GR := GR.rdr elS_fine HL.out hp G2
   have GG := gtrans GG G2
   have s1 := G2.size
   clear CU G2 RR
   have CB := bytes_any w2 p p r1.2.1 r1.2.2 65536 (by omega) R2
   go_wp2_with fail
   refine CB.mono ?_
   rintro e w3 ⟨bo, bn, bc, rfl, S3, F3, R3, G3⟩
   generalize bytesS r1.2.1 r1.2.2 65536 = r2 at HT S3 R3
   have GR := GR.rdr elS_fine HL.out hp G3
   have s2 := s1
   have s1 := Nat.le_trans s1 G3.size
   have GG := gtrans GG G3
   clear CB G3 R2
   have CC := bytes_any w3 p p r2.2.1 r2.2.2 32 (by omega) R3
   go_wp2_with fail
   refine CC.mono ?_
   rintro e w4 ⟨to, tn, tc, rfl, S4, F4, R4, G4⟩
   generalize bytesS r2.2.1 r2.2.2 32 = r3 at HT S4 R4
   have GR := GR.rdr elS_fine HL.out hp G4
   have S3 : Sl w4 bo bn bc r2.1 := S3.keepNe (fun a ha _ e => by have := F3 a ha; have := GG.size; omega) G4
   have s3 := s1
   have GG := gtrans GG G4
   clear CC G4 R3 s1
   obtain ⟨y, hy⟩ : ∃ y : SA, y = ⟨r1.1, ⟨bo, bn, bc, r2.1⟩, ⟨to, tn, tc, r3.1⟩⟩ := ⟨_, rfl⟩
   have C5 : Below w4.heap.size w4 (w4.alloc (.cells #[.int .u64 r1.1, .slice bo bn bc, .slice to tn tc] 112)) := (Below.refl _ _).alloc (Nat.le_refl _) _
   have K5 : (w4.alloc (.cells #[.int .u64 r1.1, .slice bo bn bc, .slice to tn tc] 112)).heap[w4.heap.size]? = some (.cells #[.int .u64 r1.1, .slice bo bn bc, .slice to tn tc] 112) := heap_alloc_new _ _
   have yok : y.ok w4 := by rw [hy]; exact ⟨hlt1, S3, S4⟩
   have HYF : Hid (∀ z, elS.blk y z → w.heap.size ≤ z ∧ v.ownBlock ≠ some z) := fun z hz => by
    rw [hy] at hz
    have hlow : wr.heap.size ≤ z := by
     rcases hz with ⟨a, ha, _, rfl⟩ | ⟨a, ha, _, rfl⟩
     ·exact Nat.le_trans s2 (F3 a ha)
     ·exact Nat.le_trans s3 (F4 a ha)
    exact ⟨Nat.le_trans hsz hlow, fun e => by have := vlt.out z e; omega⟩
   have HG : Hid (∀ j u, (elS.c y)[j]? = some u → (w4.alloc (.cells #[.int .u64 r1.1, .slice bo bn bc, .slice to tn tc] 112)).cell? ((⟨w4.heap.size, 0, none⟩ : Addr).add j) = some u) := fun j u hu => by
    rw [Addr.add_lit, Nat.zero_add, cell_of_row _ _ j _ _ _ K5]
    rw [hy] at hu
    simpa [elS, SA.cells] using hu
   have hyv : y.v = ⟨r1.1, r2.1, r3.1⟩ := by rw [hy]; rfl
   have HYV : Hid ((ys ++ [y]).map SA.v = (repT vT (j + 1) cxs ck).1) := by
    show _ = _
    rw [HS.out, HT.out, List.map_append, HY.out]
    simp only [List.map_cons, List.map_nil, hyv]
   have HSR : Hid ((repT vT (j + 1) cxs ck).2 = r3.2) := by
    show _ = _
    rw [HS.out, HT.out]
   have HL2 : Hid (∀ u ∈ ys ++ [y], ∀ z, elS.blk u z → w.heap.size ≤ z) := fun u hu z hz => by
    rcases List.mem_append.1 hu with hu | hu
    ·exact HL.out u hu z hz
    ·rw [List.mem_singleton.1 hu] at hz
     exact (HYF.out z hz).1
   have GR5 := GR.below elS_fine C5
   have yok5 : elS.ok y (w4.alloc (.cells #[.int .u64 r1.1, .slice bo bn bc, .slice to tn tc] 112)) := yok.below C5
   have R5 := R4.below C5
   have GG5 := gtrans GG (gbelow p C5)
   have hb5 := GG5.size
   clear hy hyv HS HT HY HL S3 S4 F3 F4 R4 K5 yok s2 s3 GR C5 vlt
   go_wp2_with (refine wpList_appG elS_fine tyS rfl (.tmp 8) (.tmp 16) rfl GR5 rfl rfl HG.out yok5 (fun z hz => (HYF.out z hz).2) (by omega) (by unfold maxLen; omega) hb5 ?_; intro v6 w6 GR6 B6)
   have R6 := R5.lowM B6 hp
   have GG6 : w.grownBy w6 (some p) := gthen GG5 B6
   go_roundw
   case rel => exact ⟨j + 1, v6, ys ++ [y], by omega, by go_num, rfl, GR6, HYV, by simp [hyl], by rw [HSR.out]; exact R6, GG6, HL2⟩
   case measure => simp [intOf]; omega
  ·have hge : (cn : Int) ≤ (j : Int) := by omega
   obtain rfl : j = cn := by omega
   obtain ⟨ao, cap, rfl, GLx, hlo⟩ := GR.gl elS_fine
   have HF : Hid (∀ z, GLb elS ao ys.length ys z → w.heap.size ≤ z) := fun z hz => by
    rcases hz with hz | ⟨y, hy, hz⟩
    ·exact hlo z hz
    ·exact HL.out y hy z hz
   clear hlo HL
   go_wp2
   go_ret
   exact ⟨ao, _, cap, ys, rfl, GLx, by rw [HV.out]; exact HY.out, by rw [HV.out]; exact RR, GG, HF.out⟩
open Go.RowKit
theorem rd_or {α : Type} (f : Th α) (kind : α → Int) (xs : List Int) : rdT f kind xs = if or2 (doneS (f xs 0).2.1 (f xs 0).2.2) (kind (f xs 0).1) = 0 then .inr (f xs 0).1 else .inl (or2 (doneS (f xs 0).2.1 (f xs 0).2.2) (kind (f xs 0).1)) := by
 unfold rdT or2
 by_cases c : doneS (f xs 0).2.1 (f xs 0).2.2 = 0
 ·simp only [c, if_true]
 ·simp only [c, if_false]
end Go.Proofs.YtnbejckdhdbamaaGreat

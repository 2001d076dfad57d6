/-
  Texts in one: MgLight, PResult, RResult, MgBuf.
-/
import Derived.Test.YtkjaapomaaakmaaGreatMessageBytesQFL
import Derived.Test.YtkjaapomaaakmaaGreatMessageBytesQ25
import Derived.Test.YtkjaapomaaakmaaGreatMessageBytesQ14
import Derived.Test.YtkjaapomaaakmaaGreatMessageBytesQ26
import Derived.Test.YtkjaapomaaakmaaGreatMessageBytesQ27
import Derived.Test.YtkjaapomaaakmaaGreatMessageBytesQ23
import Derived.Test.YtkjaapomaaakmaaGreatMessageBytesQ10
import Derived.Test.YtkjaapomaaakmaaGreatMessageBytesQ21
import Derived.Test.YtkjaapomaaakmaaGreatMessageBytesQ2
import Derived.Maps.AppendAt
namespace Go.Proofs.YtkjaapomaaakmaaGreat
open Go.RowKit
def smT (t : LS SA) : Prop := t.n ≤ 20 ∧ ∀ s ∈ t.l, s.b.n ≤ 2000 ∧ s.tag.n ≤ 100
structure LB (x : BM) (ql : List QE) : Prop where
 sum : x.sum.n ≤ 100
 qn : x.q.n ≤ 10
 sn : x.s.n ≤ 20
 tn : x.t.n ≤ 20
 c : cellsB x.c.l 20 = true
 q : ∀ y ∈ ql, lightD 3 y.x = true
 s : smT x.s
 t : ∀ t ∈ x.t.l, smT t
def LtPost (w : World) (x : BM) (ql : List QE) (e : Ending) (w' : World) : Prop := ∃ b : Bool, e = .returned (.bool b) ∧ (b = true → LB x ql) ∧ Below w.heap.size w w'
theorem lsTy : GTy elS.lists.sz 24 (.slice none 0 0) 31 32 := ⟨by kernel_rfl, rfl, Tryz.underlying32⟩
set_option maxRecDepth 100000 in
set_option maxHeartbeats 16000000 in
theorem light13 (w : World) (x : BM) (ql : List QE) (hx : x.ok w) (qx : x.q.l = ql.map QE.m) (ow : ∀ y ∈ ql, OW w 3 y.x) (sm : ∀ y ∈ ql, OSm 3 y.x) (cs : ∀ c ∈ x.c.l, c.small) :
  Calls Tryz.prog 6 #[x.val] w (LtPost w x ql) := by
 have B : Below w.heap.size w (w.alloc (Obj.cells #[.int .i64 x.kind, .int .u64 (x.view : Nat), .int .u64 (x.seq : Nat), .slice x.sum.ao x.sum.n x.sum.cap, .slice x.q.ao x.q.n x.q.cap, .int .u64 (x.cl : Nat), .int .u64 (x.st : Nat), .int .u64 (x.vw : Nat), .int .i64 x.e, .slice x.c.ao x.c.n x.c.cap, .bool x.more, .slice x.s.ao x.s.n x.s.cap, .slice x.t.ao x.t.n x.t.cap] 34)) := (Below.refl _ w).alloc (Nat.le_refl _) _
 have KX : (w.alloc (Obj.cells #[.int .i64 x.kind, .int .u64 (x.view : Nat), .int .u64 (x.seq : Nat), .slice x.sum.ao x.sum.n x.sum.cap, .slice x.q.ao x.q.n x.q.cap, .int .u64 (x.cl : Nat), .int .u64 (x.st : Nat), .int .u64 (x.vw : Nat), .int .i64 x.e, .slice x.c.ao x.c.n x.c.cap, .bool x.more, .slice x.s.ao x.s.n x.s.cap, .slice x.t.ao x.t.n x.t.cap] 34)).heap[w.heap.size]? = some (.cells #[.int .i64 x.kind, .int .u64 (x.view : Nat), .int .u64 (x.seq : Nat), .slice x.sum.ao x.sum.n x.sum.cap, .slice x.q.ao x.q.n x.q.cap, .int .u64 (x.cl : Nat), .int .u64 (x.st : Nat), .int .u64 (x.vw : Nat), .int .i64 x.e, .slice x.c.ao x.c.n x.c.cap, .bool x.more, .slice x.s.ao x.s.n x.s.cap, .slice x.t.ao x.t.n x.t.cap] 34) := heap_alloc_new w _
 have nq : ql.length = x.q.n := by rw [← hx.q.len, qx, List.length_map]
 have GX : GL elQ w x.q.ao x.q.n x.q.cap (ql.map QE.m) := by rw [← qx]; exact hx.q
 have h0q := hx.q.len
 clear qx
 unfold BM.val
 by_cases c0 : 100 < x.sum.n
 ·have i0 : (100 : Int) < (x.sum.n : Int) := by omega
  clear c0
  go_enter Tryz.func6, Tryz.ntmps6
  go_wp2
  go_ret
  exact ⟨false, rfl, fun h => (by cases h), B⟩
 have i0 : ¬ (100 : Int) < (x.sum.n : Int) := by omega
 have H0 : x.sum.n ≤ 100 := by omega
 clear c0
 by_cases c1 : 10 < x.q.n
 ·have i1 : (10 : Int) < (x.q.n : Int) := by omega
  clear c1
  go_enter Tryz.func6, Tryz.ntmps6
  go_wp2
  go_ret
  exact ⟨false, rfl, fun h => (by cases h), B⟩
 have i1 : ¬ (10 : Int) < (x.q.n : Int) := by omega
 have H1 : x.q.n ≤ 10 := by omega
 clear c1
 by_cases c2 : 20 < x.s.n
 ·have i2 : (20 : Int) < (x.s.n : Int) := by omega
  clear c2
  go_enter Tryz.func6, Tryz.ntmps6
  go_wp2
  go_ret
  exact ⟨false, rfl, fun h => (by cases h), B⟩
 have i2 : ¬ (20 : Int) < (x.s.n : Int) := by omega
 have H2 : x.s.n ≤ 20 := by omega
 clear c2
 by_cases c3 : 20 < x.t.n
 ·have i3 : (20 : Int) < (x.t.n : Int) := by omega
  clear c3
  go_enter Tryz.func6, Tryz.ntmps6
  go_wp2
  go_ret
  exact ⟨false, rfl, fun h => (by cases h), B⟩
 have i3 : ¬ (20 : Int) < (x.t.n : Int) := by omega
 have H3 : x.t.n ≤ 20 := by omega
 clear c3
 go_enter Tryz.func6, Tryz.ntmps6
 go_wp2_with fail
 obtain ⟨w1, hw1⟩ : ∃ W, W = (w.alloc (Obj.cells #[.int .i64 x.kind, .int .u64 (x.view : Nat), .int .u64 (x.seq : Nat), .slice x.sum.ao x.sum.n x.sum.cap, .slice x.q.ao x.q.n x.q.cap, .int .u64 (x.cl : Nat), .int .u64 (x.st : Nat), .int .u64 (x.vw : Nat), .int .i64 x.e, .slice x.c.ao x.c.n x.c.cap, .bool x.more, .slice x.s.ao x.s.n x.s.cap, .slice x.t.ao x.t.n x.t.cap] 34)) := ⟨_, rfl⟩
 rw [← hw1] at B KX ⊢
 obtain ⟨N, hN⟩ : ∃ N, N = w.heap.size := ⟨_, rfl⟩
 rw [← hN] at KX ⊢
 have HN : Hid (N = w.heap.size) := hN
 have hN1 : N < w1.heap.size := (Array.getElem?_eq_some_iff.1 KX).1
 clear hw1 hN i0 i1 i2 i3
 refine (lcells_any w1 x.c.ao x.c.n x.c.cap x.c.l 20 (hx.c.below B) cs).mono ?_
 rintro e w2 ⟨rfl, C⟩
 have B2 := B.trans (C.mono B.size)
 cases hcb : cellsB x.c.l 20 with
 | false =>
  clear KX
  go_wp2
  go_ret
  exact ⟨false, rfl, fun h => (by cases h), B2⟩
 | true =>
  have HCB : Hid (cellsB x.c.l 20 = true) := hcb
  clear hcb
  go_wp2_with fail
  go_loopw [3] (fun i wr => ∃ k : Nat, k ≤ x.q.n ∧ i = .int .i64 k ∧ Below w.heap.size w wr ∧ Below w1.heap.size w1 wr ∧ Hid (∀ y ∈ ql.take k, lightD 3 y.x = true)) (fun i _ => x.q.n - (intOf i).toNat)
  case atStart => exact ⟨0, Nat.zero_le _, rfl, B2, C, fun y hy => by simp at hy⟩
  case round =>
   clear B2 C
   obtain ⟨k, hk, rfl, B2, C, HLT⟩ := hrel
   have p4 := cell_of_row wr N 4 _ _ _ ((C.block N hN1).trans KX)
   by_cases hlt : k < x.q.n
   ·have hki : (k : Int) < (x.q.n : Int) := by omega
    have hkl : k < ql.length := by omega
    have Lr := GX.below elQ_fine B2
    obtain ⟨b, off, ea, hc⟩ := Lr.atQ (by omega)
    have X := hc k (by rw [List.length_map]; exact hkl)
    rw [List.getElem_map] at X
    rw [ea] at p4
    have hmem := List.getElem_mem hkl
    have ow1 := OW.below B2 (ow _ hmem)
    have sm1 := sm _ hmem
    have HX : Hid (∀ y ∈ ql.take (k + 1), y ∈ ql.take k ∨ y = ql[k]) := fun y hy => by
     rw [List.take_succ_eq_append_getElem hkl, List.mem_append, List.mem_singleton] at hy
     exact hy
    obtain ⟨y, hy⟩ : ∃ y, y = ql[k] := ⟨_, rfl⟩
    rw [← hy] at X ow1 sm1 HX
    have CL := light_any 3 wr y.x ow1 sm1 (by omega)
    rw [show ((3 : Nat) : Int) - 1 = 2 from rfl] at CL
    unfold OA.val at CL
    obtain ⟨q0, q1, q2, q3, q4, q5, q6, q7, q8, q9, q10, q11⟩ := X
    simp only [QE.m] at q0 q1 q2 q3 q4 q5 q6 q7 q8 q9 q10 q11
    generalize topD 3 y.x = o at CL q2 q3 q4 q5 q6 q7 q8 q9 q10 q11
    clear hy hc Lr ow1 sm1 hmem ea
    cases hb : lightD 3 y.x with
    | true =>
     rw [hb] at CL
     have HLT2 : Hid (∀ u ∈ ql.take (k + 1), lightD 3 u.x = true) := fun u hu => by
      rcases HX.out u hu with h | h
      ·exact HLT.out u h
      ·rw [h]; exact hb
     clear hb HX HLT
     go_wp2_with fail
     refine CL.mono ?_
     rintro e w3 ⟨rfl, D⟩
     have B2 := B2.trans (D.mono B2.size)
     have C := C.trans (D.mono C.size)
     clear CL D q0 q1 q2 q3 q4 q5 q6 q7 q8 q9 q10 q11 p4
     go_wp2
     go_roundw
     case rel => exact ⟨k + 1, by omega, by go_num, B2, C, HLT2⟩
     case measure => simp [intOf]; omega
    | false =>
     rw [hb] at CL
     clear hb HX HLT
     go_wp2_with fail
     refine CL.mono ?_
     rintro e w3 ⟨rfl, D⟩
     have B2 := B2.trans (D.mono B2.size)
     clear CL D q0 q1 q2 q3 q4 q5 q6 q7 q8 q9 q10 q11 p4
     go_wp2
     go_ret
     exact ⟨false, rfl, fun h => (by cases h), B2⟩
   ·have hge : ¬ (k : Int) < (x.q.n : Int) := by omega
    have HQ : Hid (∀ y ∈ ql, lightD 3 y.x = true) := fun y hy => HLT.out y (by rw [List.take_of_length_le (by omega)]; exact hy)
    have p11 := cell_of_row wr N 11 _ _ _ ((C.block N hN1).trans KX)
    have p12 := cell_of_row wr N 12 _ _ _ ((C.block N hN1).trans KX)
    clear HLT
    have hNr : N < wr.heap.size := by have := C.size; omega
    go_wp2_with (refine stop_at (.call { callee := .builtin .append, args := #[Operand.tmp 54, Operand.tmp 56], argTypes := #[32, 32] }) rfl ?_)
    refine ⟨?_⟩
    clear p4 p11 p12 hge hlt hk
    have BA : Below wr.heap.size wr (wr.alloc (Obj.cells #[.slice x.s.ao x.s.n x.s.cap] 31)) := (Below.refl _ wr).alloc (Nat.le_refl _) _
    have GA : (wr.alloc (Obj.cells #[.slice x.s.ao x.s.n x.s.cap] 31)).heap[wr.heap.size]? = some (.cells #[.slice x.s.ao x.s.n x.s.cap] 31) := heap_alloc_new wr _
    have NW : GNew elS.lists 31 w (wr.alloc (Obj.cells #[.slice x.s.ao x.s.n x.s.cap] 31)) wr.heap.size (.slice (some ⟨wr.heap.size, 0, none⟩) 1 1) [x.s] := ⟨⟨by rfl, .inr ⟨wr.heap.size, 1, #[.slice x.s.ao x.s.n x.s.cap], rfl, Nat.le_refl _, GA, Nat.le_refl _, by decide, by rfl, by simp [flatE, El.lists]⟩⟩, fun c hc => by rw [List.mem_singleton.1 hc]; exact hx.s⟩
    obtain ⟨v2, w4, hr, N4, D⟩ := run_appGs (w0 := w) (l := [x.s]) elS_fine.lists lsTy 32 NW BA.size ((hx.t.below elS_fine.lists B2).below elS_fine.lists BA) (fun q hq => hx.t.ok q hq) (by simp only [List.length_singleton]; omega) (by simp only [List.length_singleton, maxLen]; omega)
    refine wpList_append_run rfl (.tmp 54) (.tmp 56) rfl rfl rfl hr ?_
    have D4 := BA.trans D
    have B4 := B2.trans (D4.mono B2.size)
    obtain ⟨ao, ac, rfl, G4, -⟩ := N4.gl elS_fine.lists B4
    have HTY : Hid (([x.s] ++ x.t.l).length = x.t.n + 1) := by have := hx.t.len; show _ = _; rw [List.length_append, List.length_singleton]; omega
    rw [HTY.out] at G4 ⊢
    obtain ⟨al, hal⟩ : ∃ l, l = [x.s] ++ x.t.l := ⟨_, rfl⟩
    rw [← hal] at G4 HTY
    have HALL : Hid ((∀ t ∈ al, smT t) → LB x ql) := fun h => ⟨H0, H1, H2, H3, HCB.out, HQ.out, h _ (by rw [hal]; simp), fun t ht => h t (by rw [hal]; simp [ht])⟩
    clear hal N4 NW GA BA hr D D4 B2 C KX GX hx H0 H1 H2 HQ HCB
    have hal := HTY.out
    go_wp2_with fail
    go_loopw [5, 6] (fun i _ wr => ∃ k : Nat, k ≤ x.t.n + 1 ∧ i = .int .i64 k ∧ Below w.heap.size w wr ∧ Below w4.heap.size w4 wr ∧ Hid (∀ t ∈ al.take k, smT t)) (fun i _ _ => x.t.n + 1 - (intOf i).toNat)
    case atStart => exact ⟨0, Nat.zero_le _, rfl, B4, Below.refl _ _, fun y hy => by simp at hy⟩
    case round =>
     clear B4
     obtain ⟨k, hk, rfl, B4, C4, HLT⟩ := hrel
     by_cases hlt : k < x.t.n + 1
     ·have hki : (k : Int) < (x.t.n : Int) + 1 := by omega
      have hkl : k < al.length := by omega
      obtain ⟨b, off, rfl, hc⟩ := (G4.below elS_fine.lists C4).atL (by omega)
      have r0 := hc k hkl
      have HRC : Hid (∀ V, Below w4.heap.size w4 V → V.cell? ⟨b, off + k, none⟩ = some (.slice al[k].ao al[k].n al[k].cap)) := fun V hV => by
       obtain ⟨b', off', e', hc'⟩ := (G4.below elS_fine.lists hV).atL (by omega)
       simp only [Option.some.injEq, Addr.mk.injEq, and_true] at e'
       obtain ⟨rfl, rfl⟩ := e'
       exact hc' k hkl
      have tok : elS.lists.ok al[k] w4 := G4.ok _ (List.getElem_mem hkl)
      have HX : Hid (∀ y ∈ al.take (k + 1), y ∈ al.take k ∨ y = al[k]) := fun y hy => by
       rw [List.take_succ_eq_append_getElem hkl, List.mem_append, List.mem_singleton] at hy
       exact hy
      obtain ⟨t, ht⟩ : ∃ t, t = al[k] := ⟨_, rfl⟩
      rw [← ht] at r0 tok HX HRC
      clear ht hc
      have tok : GL elS w4 t.ao t.n t.cap t.l := tok
      by_cases c20 : 20 < t.n
      ·have i20 : (20 : Int) < (t.n : Int) := by omega
       go_wp2
       go_ret
       exact ⟨false, rfl, fun h => (by cases h), B4⟩
      have i20 : ¬ (20 : Int) < (t.n : Int) := by omega
      have HR0 : Hid (∀ V, Below w4.heap.size w4 V → V.cell? ⟨b, off + k, none⟩ = some (.slice t.ao t.n t.cap)) := fun V hV => HRC.out V hV
      clear c20 r0
      have r0 := HR0.out wr C4
      go_wp2_with fail
      go_loopw [6] (fun i wr => ∃ j : Nat, j ≤ t.n ∧ i = .int .i64 j ∧ Below w.heap.size w wr ∧ Below w4.heap.size w4 wr ∧ Hid (∀ s ∈ t.l.take j, s.b.n ≤ 2000 ∧ s.tag.n ≤ 100)) (fun i _ => t.n - (intOf i).toNat)
      case atStart => exact ⟨0, Nat.zero_le _, rfl, B4, C4, fun y hy => by simp at hy⟩
      case round =>
       clear B4 C4 r0
       obtain ⟨j, hj, rfl, B4, C4, HLS⟩ := hrel
       have r0 := HR0.out wr C4
       have tl := tok.len
       have tm := tok.mx
       have tle := tok.le
       simp only [maxLen] at tm
       by_cases hlt2 : j < t.n
       ·have hji : (j : Int) < (t.n : Int) := by omega
        have hjl : j < t.l.length := by omega
        obtain ⟨b2, o2, e2, hc2⟩ := (tok.below elS_fine C4).atS (by omega)
        have X := hc2 j hjl
        have HX2 : Hid (∀ y ∈ t.l.take (j + 1), y ∈ t.l.take j ∨ y = t.l[j]) := fun y hy => by
         rw [List.take_succ_eq_append_getElem hjl, List.mem_append, List.mem_singleton] at hy
         exact hy
        obtain ⟨s, hs⟩ : ∃ s, s = t.l[j] := ⟨_, rfl⟩
        rw [← hs] at X HX2
        clear hs hc2
        obtain ⟨s0, s1, s2⟩ := X
        rw [e2] at r0
        by_cases d1 : 2000 < s.b.n
        ·have j1 : (2000 : Int) < (s.b.n : Int) := by omega
         clear HR0 HX2 HX HLS HLT HRC d1 e2
         go_wp2
         go_ret
         exact ⟨false, rfl, fun h => (by cases h), B4⟩
        have j1 : ¬ (2000 : Int) < (s.b.n : Int) := by omega
        by_cases d2 : 100 < s.tag.n
        ·have j2 : (100 : Int) < (s.tag.n : Int) := by omega
         clear HR0 HX2 HX HLS HLT HRC d1 d2 e2
         go_wp2
         go_ret
         exact ⟨false, rfl, fun h => (by cases h), B4⟩
        have j2 : ¬ (100 : Int) < (s.tag.n : Int) := by omega
        have HLS2 : Hid (∀ u ∈ t.l.take (j + 1), u.b.n ≤ 2000 ∧ u.tag.n ≤ 100) := fun u hu => by
         rcases HX2.out u hu with h | h
         ·exact HLS.out u h
         ·rw [h]; exact ⟨by omega, by omega⟩
        clear HX2 HLS d1 d2 e2
        go_wp2
        go_roundw
        case rel => exact ⟨j + 1, by omega, by go_num, B4, C4, HLS2⟩
        case measure => simp [intOf]; omega
       ·have hge2 : ¬ (j : Int) < (t.n : Int) := by omega
        have HLT2 : Hid (∀ u ∈ al.take (k + 1), smT u) := fun u hu => by
         rcases HX.out u hu with h | h
         ·exact HLT.out u h
         ·rw [h]
          refine ⟨by omega, fun s hs => HLS.out s ?_⟩
          rw [List.take_of_length_le (by omega)]
          exact hs
        clear HX HLT HLS
        go_wp2
        go_roundw
        case rel => exact ⟨k + 1, by omega, by go_num, B4, C4, HLT2⟩
        case measure => simp [intOf]; omega
     ·have hge : ¬ (k : Int) < (x.t.n : Int) + 1 := by omega
      have HL : Hid (LB x ql) := HALL.out fun t ht => HLT.out t (by rw [List.take_of_length_le (by omega)]; exact ht)
      clear HLT HALL
      go_wp2
      go_ret
      exact ⟨true, rfl, fun _ => HL.out, B4⟩
open Go.RowKit
theorem putC_key (c : CA) : putC c.c = putK c.key ++ (byts c.va.xs ++ enb c.gone) := by
 unfold putC putK CA.key CA.c
 simp only [List.append_assoc]
theorem putC_len {c : CA} (hk : c.key.fits) (hv : c.va.xs.length ≤ 256) : (putC c.c).length ≤ 410 := by
 rw [putC_key]
 have := putK_len hk
 have := byts_len hv
 have := enb_len c.gone
 simp only [List.length_append]
 omega
theorem putR_res (e : Int) (l : List CA) (m : Bool) : putR (resR e l m) = enc e.toNat ++ (enc l.length ++ ((l.map fun c => putC c.c).flatten ++ enb m)) := by
 unfold putR resR
 simp only [List.length_map, List.map_map]
 rfl
theorem right_cells {e : Int} {l : List CA} {m : Bool} {w : World} (h : rightR (resR e l m) = true) (hl : ∀ c ∈ l, c.ok w) : (0 ≤ e ∧ e ≤ 18) ∧ l.length ≤ 16 ∧ ∀ c ∈ l, c.key.fits ∧ c.va.xs.length ≤ 256 := by
 have h0 := h
 unfold rightR at h0
 have h1 := of_decide_eq_true (Bool.and_eq_true_iff.1 h0).1
 have h2 := rightR_fits h (fun c hc => by
  obtain ⟨x, hx, rfl⟩ := List.mem_map.1 hc
  exact (hl x hx).wf)
 obtain ⟨_, h3, h4⟩ := h2
 have h1 : 0 ≤ e ∧ e ≤ 18 ∧ (l.map CA.c).length ≤ 16 := h1
 refine ⟨⟨h1.1, h1.2.1⟩, by simpa [resR] using h3, fun c hc => ?_⟩
 have h5 := h4 c.c (List.mem_map.2 ⟨c, hc, rfl⟩)
 exact ⟨⟨h5.row, h5.fam, h5.qual, h5.time⟩, h5.value.1⟩
def ResPost (w : World) (r : RV) (e : Ending) (w' : World) : Prop :=
 (∃ bo k c, e = .returned (.tuple #[.slice bo k c, .int .i64 (kindR r)]) ∧ Sl w' bo k c (if rightR r then putR r else [])) ∧ Below w.heap.size w w'
set_option maxRecDepth 100000 in
set_option maxHeartbeats 8000000 in
theorem presult_any (w : World) (e : Int) (ao : Option Addr) (n cap : Nat) (l : List CA) (m : Bool) (L : CL w ao n cap l) :
  Calls Tryz.prog 81 #[resV e ao n cap m] w (ResPost w (resR e l m)) := by
 have hl : l.length = n := L.len
 have B : Below w.heap.size w (w.alloc (Obj.cells #[.int .i64 e, .slice ao n cap, .bool m] 28)) := (Below.refl _ w).alloc (Nat.le_refl _) _
 have K : RC (w.alloc (Obj.cells #[.int .i64 e, .slice ao n cap, .bool m] 28)) w.heap.size e ao n cap m := heap_alloc_new w _
 have L1 := L.below B
 have hp : rightR (resR e l m) = true → (0 ≤ e ∧ e ≤ 18) ∧ l.length ≤ 16 ∧ ∀ c ∈ l, c.key.fits ∧ c.va.xs.length ≤ 256 := fun q => right_cells q L.ok
 clear L
 unfold resV
 go_enter Tryz.func81, Tryz.ntmps81
 go_wp2_with fail
 obtain ⟨w1, hw1⟩ : ∃ W, W = w.alloc (Obj.cells #[.int .i64 e, .slice ao n cap, .bool m] 28) := ⟨_, rfl⟩
 obtain ⟨N, hN⟩ : ∃ N, N = w.heap.size := ⟨_, rfl⟩
 rw [← hw1] at B K L1 ⊢
 rw [← hN] at B K ⊢
 have HN : Hid (N = w.heap.size) := hN
 clear hw1 hN
 refine (prr_any w1 e ao n cap l m L1).mono ?_
 rintro x w2 ⟨rfl, C⟩
 have K2 := K.keep C
 have B2 := B.trans (C.mono (by have := B.size; have := K.lt; omega))
 have L2 := L1.below C
 clear C K B L1
 cases hb : rightR (resR e l m) with
 | false =>
  have hk : kindR (resR e l m) = 1 := by unfold kindR; rw [hb]; rfl
  rw [hk]
  go_wp2
  go_ret2
  exact ⟨⟨none, 0, 0, by rw [hk] <;> rfl, by rw [hb]; exact Sl.nothing _⟩, by rw [← HN.out]; exact B2⟩
 | true =>
  have hk : kindR (resR e l m) = 0 := by unfold kindR; rw [hb]; rfl
  rw [hk]
  obtain ⟨⟨e0, e18⟩, l16, hcf⟩ := hp hb
  clear hp
  have r0 := K2.c0
  have r1 := K2.c1
  have r2 := K2.c2
  go_wp2_with fail
  clear r0 r1 r2
  refine (fUintI w2 none 0 0 e [] (Sl.nothing _) (by omega) e0 (by omega)).mono ?_
  rintro x w3 ⟨b3, m3, c3, rfl, S3, C⟩
  have K3 := K2.keep C
  have B3 := B2.trans (C.mono (by have := B2.size; have := K2.lt; omega))
  have L3 := L2.below C
  clear C K2 B2 L2
  have l3 := S3.len
  have g0 := enc_length (n := e.toNat) (by omega)
  have g1 := enc_length (n := n) (by omega)
  simp only [List.length_append, List.length_nil] at l3
  have r0 := K3.c0
  have r1 := K3.c1
  have r2 := K3.c2
  go_wp2_with fail
  clear r0 r1 r2
  refine (fUint w3 b3 m3 c3 n _ S3 (by omega) (by omega)).mono ?_
  rintro x w4 ⟨b4, m4, c4, rfl, S4, C⟩
  have K4 := K3.keep C
  have B4 := B3.trans (C.mono (by have := B3.size; have := K3.lt; omega))
  have L4 := L3.below C
  clear C K3 B3 L3
  have l4 := S4.len
  simp only [List.length_append, List.length_nil] at l4
  have m4b : m4 ≤ 20 := by omega
  clear l3 l4 S3 g0 g1
  rw [List.nil_append] at S4
  have r1 := K4.c1
  go_wp2_with fail
  clear r1
  go_loopw [5, 7, 26] (fun b _ i wr => ∃ (k : Nat) (bo : Option Addr) (m c : Nat), k ≤ n ∧ i = .int .i64 k ∧ b = .slice bo m c ∧ Sl wr bo m c (enc e.toNat ++ enc n ++ ((l.take k).map fun c => putC c.c).flatten) ∧ m ≤ 20 + 410 * k ∧ Below N w wr ∧ Below w4.heap.size w4 wr) (fun _ _ i _ => n - (intOf i).toNat)
  case atStart => exact ⟨0, b4, m4, c4, Nat.zero_le _, rfl, rfl, by simpa using S4, by omega, B4, Below.refl _ _⟩
  case round =>
   clear S4 B4
   obtain ⟨k, bo, m1, c1, hk1, rfl, rfl, S, hm, B, C⟩ := hrel
   have K5 := K4.keep C
   clear K4
   by_cases hlt : k < n
   ·obtain ⟨b, off, ea, hc⟩ := L4.at (by omega)
    have hkl : k < l.length := by omega
    have X := (hc k hkl).below C
    have hok : (l[k]).ok wr := (L4.ok _ (List.getElem_mem hkl)).below C
    have hcf1 := hcf _ (List.getElem_mem hkl)
    have i6 : (k : Int) < (n : Int) := by omega
    have HT : Hid (((l.take (k + 1)).map fun c => putC c.c).flatten = ((l.take k).map fun c => putC c.c).flatten ++ putC l[k].c) := by
     show _ = _
     rw [List.take_succ_eq_append_getElem hkl, List.map_append, List.flatten_append]
     simp
    obtain ⟨c, hx⟩ : ∃ c : CA, c = l[k] := ⟨_, rfl⟩
    obtain ⟨p, hp⟩ : ∃ p, p = ((l.take k).map fun c => putC c.c).flatten := ⟨_, rfl⟩
    rw [← hx] at hok HT X hcf1
    rw [← hp] at S HT
    clear hx hc hp
    rw [ea]
    clear ea
    obtain ⟨u0, hu0⟩ : ∃ V, V = wr.alloc (Obj.cells #[.string c.row, .string c.fam, .string c.qual, .int .u64 c.time, .slice c.va.ao c.va.n c.va.cap, .bool c.gone] 104) := ⟨_, rfl⟩
    obtain ⟨M, hM⟩ : ∃ M, M = wr.heap.size := ⟨_, rfl⟩
    have U0 : Below wr.heap.size wr u0 := by rw [hu0]; exact (Below.refl _ _).alloc (Nat.le_refl _) _
    have KU : u0.heap[M]? = some (.cells #[.string c.row, .string c.fam, .string c.qual, .int .u64 c.time, .slice c.va.ao c.va.n c.va.cap, .bool c.gone] 104) := by rw [hu0, hM]; exact heap_alloc_new wr _
    have HC : Hid (∀ V, Below u0.heap.size u0 V → V.cell? ⟨M, 0, none⟩ = some (.string c.row) ∧ V.cell? ⟨M, 1, none⟩ = some (.string c.fam) ∧ V.cell? ⟨M, 2, none⟩ = some (.string c.qual) ∧ V.cell? ⟨M, 3, none⟩ = some (.int .u64 c.time) ∧ V.cell? ⟨M, 4, none⟩ = some (.slice c.va.ao c.va.n c.va.cap) ∧ V.cell? ⟨M, 5, none⟩ = some (.bool c.gone)) := fun V hV => by
     have q := (hV.block M ((Array.getElem?_eq_some_iff.1 KU).1)).trans KU
     exact ⟨cell_of_row V M 0 _ _ _ q, cell_of_row V M 1 _ _ _ q, cell_of_row V M 2 _ _ _ q, cell_of_row V M 3 _ _ _ q, cell_of_row V M 4 _ _ _ q, cell_of_row V M 5 _ _ _ q⟩
    have sU := S.below U0
    have hokU := hok.below U0
    have BU := B.trans (U0.mono (by have := B.size; have := HN.out; omega))
    have DU := C.trans (U0.mono C.size)
    have lS := S.len
    have g1 := putK_len hcf1.1
    have g2 := byts_len hcf1.2
    have g3 := enb_len c.gone
    simp only [List.length_append] at lS
    obtain ⟨q0, q1, q2, q3, q4, q5⟩ := X
    go_wp2_with fail
    rw [← hu0, ← hM]
    clear hu0 hM q0 q1 q2 q3 q4 q5 KU S
    refine (pkey_any u0 bo m1 c1 _ sU (by omega) c.key hcf1.1).mono ?_
    rintro x w5 ⟨b5, m5, c5, rfl, S5, C5⟩
    have A5 : Below u0.heap.size u0 w5 := C5
    have l5 := S5.len
    simp only [List.length_append] at l5
    obtain ⟨q0, q1, q2, q3, q4, q5⟩ := HC.out w5 A5
    go_wp2_with fail
    clear q0 q1 q2 q3 q4 q5 C5
    refine (fBytes w5 b5 _ m5 c5 _ _ _ _ S5 (hokU.below A5).va (by omega) (by have := hokU.va.len; omega)).mono ?_
    rintro x w6 ⟨b6, m6, c6, rfl, S6, C6⟩
    have A6 := A5.trans (C6.mono A5.size)
    have l6 := S6.len
    simp only [List.length_append] at l6
    obtain ⟨q0, q1, q2, q3, q4, q5⟩ := HC.out w6 A6
    go_wp2_with fail
    clear q0 q1 q2 q3 q4 q5 C6
    refine (fBool w6 b6 m6 c6 c.gone _ S6 (by omega)).mono ?_
    rintro x w7 ⟨b7, m7, c7, rfl, S7, C7⟩
    have A7 := A6.trans (C7.mono A6.size)
    have l7 := S7.len
    simp only [List.length_append] at l7
    have m7b : m7 ≤ 20 + 410 * (k + 1) := by omega
    have B7 := BU.trans (A7.mono (by have := BU.size; have := HN.out; omega))
    have D7 := DU.trans (A7.mono DU.size)
    have fin : enc e.toNat ++ enc n ++ p ++ putK c.key ++ byts c.va.xs ++ enb c.gone = enc e.toNat ++ enc n ++ (p ++ putC c.c) := by
     rw [putC_key]
     simp only [List.append_assoc]
    rw [fin] at S7
    clear C7 l5 l6 l7 lS S5 S6 sU
    go_wp2
    go_roundw
    case rel => exact ⟨k + 1, b7, m7, c7, by omega, by go_num, rfl, by rw [HT.out]; exact S7, m7b, B7, D7⟩
    case measure => simp [intOf]; omega
   ·have i6 : (n : Int) ≤ (k : Int) := by omega
    rw [List.take_of_length_le (by omega)] at S
    have r2 := K5.c2
    go_wp2_with fail
    clear r2
    refine (fBool wr bo m1 c1 m _ S (by omega)).mono ?_
    rintro x w5 ⟨b5, m5, c5, rfl, S5, C5⟩
    have B5 := B.trans (C5.mono (by have := B.size; have := HN.out; omega))
    go_wp2
    go_ret2
    refine ⟨⟨b5, m5, c5, by rw [hk] <;> rfl, ?_⟩, by rw [← HN.out]; exact B5⟩
    rw [if_pos hb, putR_res, hl]
    simpa only [List.append_assoc] using S5
open Go.RowKit
set_option maxRecDepth 100000 in
set_option maxHeartbeats 16000000 in
theorem rresult_any (w : World) (e : Int) (ao : Option Addr) (n cap : Nat) (l : List CA) (m : Bool) (L : CL w ao n cap l) :
  Calls Tryz.prog 83 #[resV e ao n cap m] w (ResPost w (resR e l m)) := by
 have hl : l.length = n := L.len
 have B : Below w.heap.size w (w.alloc (Obj.cells #[.int .i64 e, .slice ao n cap, .bool m] 28)) := (Below.refl _ w).alloc (Nat.le_refl _) _
 have K : RC (w.alloc (Obj.cells #[.int .i64 e, .slice ao n cap, .bool m] 28)) w.heap.size e ao n cap m := heap_alloc_new w _
 have L1 := L.below B
 have hp : rightR (resR e l m) = true → (0 ≤ e ∧ e ≤ 18) ∧ l.length ≤ 16 ∧ ∀ c ∈ l, c.key.fits ∧ c.va.xs.length ≤ 256 := fun q => right_cells q L.ok
 clear L
 unfold resV
 go_enter Tryz.func83, Tryz.ntmps83
 go_wp2_with fail
 obtain ⟨w1, hw1⟩ : ∃ W, W = w.alloc (Obj.cells #[.int .i64 e, .slice ao n cap, .bool m] 28) := ⟨_, rfl⟩
 obtain ⟨N, hN⟩ : ∃ N, N = w.heap.size := ⟨_, rfl⟩
 rw [← hw1] at B K L1 ⊢
 rw [← hN] at B K ⊢
 have HN : Hid (N = w.heap.size) := hN
 clear hw1 hN
 refine (rrr_any w1 e ao n cap l m L1).mono ?_
 rintro x w2 ⟨rfl, C⟩
 have K2 := K.keep C
 have B2 := B.trans (C.mono (by have := B.size; have := K.lt; omega))
 have L2 := L1.below C
 clear C K B L1
 cases hb : rightR (resR e l m) with
 | false =>
  have hk : kindR (resR e l m) = 1 := by unfold kindR; rw [hb]; rfl
  go_wp2
  go_ret2
  exact ⟨⟨none, 0, 0, by rw [hk] <;> rfl, by rw [hb]; exact Sl.nothing _⟩, by rw [← HN.out]; exact B2⟩
 | true =>
  have hk : kindR (resR e l m) = 0 := by unfold kindR; rw [hb]; rfl
  obtain ⟨⟨e0, e18⟩, l16, hcf⟩ := hp hb
  clear hp
  go_wp2_with fail
  have g0 := enc_length (n := e.toNat) (by omega)
  have g1 := enc_length (n := n) (by omega)
  have HS : Hid (∀ V, Below w2.heap.size w2 V → V.cell? ⟨N, 0, none⟩ = some (.int .i64 e) ∧ V.cell? ⟨N, 1, none⟩ = some (.slice ao n cap)) := fun V hV => have q := K2.keep hV; ⟨q.c0, q.c1⟩
  refine zB (by kernel_rfl) HS.out fun v0 E0 H0 => ?_
  refine zT 0 (some 9) (.pointer (some ⟨N, 0, none⟩)) rfl rfl (by kernel_rfl) rfl (fun W ⟨h0, h1⟩ => by go_simp) H0 ?_
  simp only [FL]
  refine zT 1 (some 10) (.int .i64 e) rfl rfl (by kernel_rfl) rfl (fun W ⟨h0, h1⟩ => by go_simp) H0 ?_
  simp only [FL]
  refine zT 2 (some 11) (.int .u64 e) rfl rfl (by kernel_rfl) rfl (fun W ⟨h0, h1⟩ => by go_simp; exact IntWalk.u64_in _ (by omega)) H0 ?_
  simp only [FL]
  refine zT 4 (some 13) (.pointer (some ⟨N, 1, none⟩)) rfl rfl (by kernel_rfl) rfl (fun W ⟨h0, h1⟩ => by go_simp) H0 ?_
  simp only [FL]
  refine zT 5 (some 14) (.slice ao n cap) rfl rfl (by kernel_rfl) rfl (fun W ⟨h0, h1⟩ => by go_simp) H0 ?_
  simp only [FL]
  refine zT 6 (some 15) (.int .i64 n) rfl rfl (by kernel_rfl) rfl (fun W ⟨h0, h1⟩ => by go_simp) H0 ?_
  simp only [FL]
  refine zT 7 (some 16) (.int .u64 n) rfl rfl (by kernel_rfl) rfl (fun W ⟨h0, h1⟩ => by go_simp; exact IntWalk.u64_in _ (by omega)) H0 ?_
  simp only [FL]
  refine hr_call_w 3 (some 12) 69 #[.slice none 0 0, .int .u64 e] rfl rfl (by kernel_rfl) rfl (by go_simp) (fun v w' => ∃ b1 m1 c1, v = .slice b1 m1 c1 ∧ Sl w' b1 m1 c1 ([] ++ enc e.toNat) ∧ Below v0.heap.size v0 w') ((gUintI v0 none 0 0 e [] (Sl.nothing _) (by omega) e0 (by omega)).mono (by
   rintro e w' ⟨b1, m1, c1, rfl, F, C⟩
   exact ⟨_, rfl, b1, m1, c1, rfl, F, C⟩)) ?_
  rintro v v1 ⟨b1, m1, c1, rfl, F0, C0⟩
  have E1 := E0.trans (C0.mono E0.size)
  have H1 := HS.out v1 E1
  refine ⟨H1, ?_⟩
  simp only [FL]
  have l1 := F0.len
  simp only [List.length_append, List.length_nil] at l1
  refine hr_call_w 8 (some 17) 69 #[.slice b1 m1 c1, .int .u64 n] rfl rfl (by kernel_rfl) rfl (by go_simp) (fun v w' => ∃ b2 m2 c2, v = .slice b2 m2 c2 ∧ Sl w' b2 m2 c2 ([] ++ enc e.toNat ++ enc n) ∧ Below v1.heap.size v1 w') ((gUint v1 b1 m1 c1 n _ F0 (by omega) (by omega)).mono (by
   rintro e w' ⟨b2, m2, c2, rfl, F, C⟩
   exact ⟨_, rfl, b2, m2, c2, rfl, F, C⟩)) ?_
  rintro v v2 ⟨b2, m2, c2, rfl, F1, C1⟩
  have E2 := E1.trans (C1.mono E1.size)
  have H2 := HS.out v2 E2
  refine ⟨H2, ?_⟩
  simp only [FL]
  have l2 := F1.len
  simp only [List.length_append, List.length_nil] at l2
  refine zT 9 (some 4) (.slice b2 m2 c2) rfl rfl (by kernel_rfl) rfl (fun W ⟨h0, h1⟩ => by go_simp) H2 ?_
  simp only [FL]
  refine wpAnyH_done (by kernel_rfl) ?_ _
  refine NoPanic.normal ?_
  have K4 := K2.keep E2
  have B4 := B2.trans (E2.mono (by have := B2.size; have := K2.lt; omega))
  have L4 := L2.below E2
  have m4b : m2 ≤ 20 := by omega
  rw [List.nil_append] at F1
  obtain ⟨w4, hw4⟩ : ∃ V, V = v2 := ⟨_, rfl⟩
  rw [← hw4] at K4 B4 L4 F1 ⊢
  clear hw4 HS E0 E1 E2 H0 H1 H2 F0 C0 C1 l1 l2 g0 g1 K2 B2 L2
  go_wp2_with fail
  go_loopw [4, 5] (fun b i wr => ∃ (k : Nat) (bo : Option Addr) (m c : Nat), k ≤ n ∧ i = .int .i64 k ∧ b = .slice bo m c ∧ Sl wr bo m c (enc e.toNat ++ enc n ++ ((l.take k).map fun c => putC c.c).flatten) ∧ m ≤ 20 + 410 * k ∧ Below N w wr ∧ Below w4.heap.size w4 wr) (fun _ i _ => n - (intOf i).toNat)
  case atStart => exact ⟨0, b2, m2, c2, Nat.zero_le _, rfl, rfl, by simpa using F1, by omega, B4, Below.refl _ _⟩
  case round =>
   clear F1 B4
   obtain ⟨k, bo, m1, c1, hk1, rfl, rfl, S, hm, B, C⟩ := hrel
   have K5 := K4.keep C
   clear K4
   by_cases hlt : k < n
   ·obtain ⟨b, off, rfl, hc⟩ := L4.at (by omega)
    have hkl : k < l.length := by omega
    have X := (hc k hkl).below C
    have hok : (l[k]).ok wr := (L4.ok _ (List.getElem_mem hkl)).below C
    have hcf1 := hcf _ (List.getElem_mem hkl)
    have i6 : (k : Int) < (n : Int) := by omega
    have HT : Hid (((l.take (k + 1)).map fun c => putC c.c).flatten = ((l.take k).map fun c => putC c.c).flatten ++ putC l[k].c) := by
     show _ = _
     rw [List.take_succ_eq_append_getElem hkl, List.map_append, List.flatten_append]
     simp
    obtain ⟨c, hx⟩ : ∃ c : CA, c = l[k] := ⟨_, rfl⟩
    obtain ⟨p, hp⟩ : ∃ p, p = ((l.take k).map fun c => putC c.c).flatten := ⟨_, rfl⟩
    rw [← hx] at hok HT X hcf1
    rw [← hp] at S HT
    clear hx hc hp
    have lS := S.len
    have g1 := putK_len hcf1.1
    have g2 := byts_len hcf1.2
    have g3 := enb_len c.gone
    simp only [List.length_append] at lS
    have r1 := K5.c1
    go_wp2_with fail
    clear r1
    have HS : Hid (∀ V, Below wr.heap.size wr V → V.cell? ⟨N, 1, none⟩ = some (.slice (some ⟨b, off, none⟩) n cap) ∧ V.cell? ⟨b, off + k * 6, none⟩ = some (.string c.row) ∧ V.cell? ⟨b, off + k * 6 + 1, none⟩ = some (.string c.fam) ∧ V.cell? ⟨b, off + k * 6 + 2, none⟩ = some (.string c.qual) ∧ V.cell? ⟨b, off + k * 6 + 3, none⟩ = some (.int .u64 c.time) ∧ V.cell? ⟨b, off + k * 6 + 4, none⟩ = some (.slice c.va.ao c.va.n c.va.cap) ∧ V.cell? ⟨b, off + k * 6 + 5, none⟩ = some (.bool c.gone)) := fun V hV => have q := K5.keep hV; have x := X.below hV; ⟨q.c1, x.c0, x.c1, x.c2, x.c3, x.c4, x.c5⟩
    refine zB (by kernel_rfl) HS.out fun v0 E0 H0 => ?_
    refine zT 0 (some 25) (.slice bo m1 c1) rfl rfl (by kernel_rfl) rfl (fun W ⟨h0, h1, h2, h3, h4, h5, h6⟩ => by go_simp) H0 ?_
    simp only [FL]
    refine zT 1 (some 26) (.pointer (some ⟨N, 1, none⟩)) rfl rfl (by kernel_rfl) rfl (fun W ⟨h0, h1, h2, h3, h4, h5, h6⟩ => by go_simp) H0 ?_
    simp only [FL]
    refine zT 2 (some 27) (.slice (some ⟨b, off, none⟩) n cap) rfl rfl (by kernel_rfl) rfl (fun W ⟨h0, h1, h2, h3, h4, h5, h6⟩ => by go_simp) H0 ?_
    simp only [FL]
    refine zT 3 (some 28) (.int .i64 k) rfl rfl (by kernel_rfl) rfl (fun W ⟨h0, h1, h2, h3, h4, h5, h6⟩ => by go_simp) H0 ?_
    simp only [FL]
    refine zT 4 (some 29) (.pointer (some ⟨b, off + k * 6, none⟩)) rfl rfl (by kernel_rfl) rfl (fun W ⟨h0, h1, h2, h3, h4, h5, h6⟩ => by go_simp) H0 ?_
    simp only [FL]
    refine zT 5 (some 30) (.pointer (some ⟨b, off + k * 6, none⟩)) rfl rfl (by kernel_rfl) rfl (fun W ⟨h0, h1, h2, h3, h4, h5, h6⟩ => by go_simp) H0 ?_
    simp only [FL]
    refine zT 6 (some 31) (.agg #[.string c.row, .string c.fam, .string c.qual, .int .u64 c.time]) rfl rfl (by kernel_rfl) rfl (fun W ⟨h0, h1, h2, h3, h4, h5, h6⟩ => by go_simp) H0 ?_
    simp only [FL]
    refine zT 8 (some 33) (.pointer (some ⟨N, 1, none⟩)) rfl rfl (by kernel_rfl) rfl (fun W ⟨h0, h1, h2, h3, h4, h5, h6⟩ => by go_simp) H0 ?_
    simp only [FL]
    refine zT 9 (some 34) (.slice (some ⟨b, off, none⟩) n cap) rfl rfl (by kernel_rfl) rfl (fun W ⟨h0, h1, h2, h3, h4, h5, h6⟩ => by go_simp) H0 ?_
    simp only [FL]
    refine zT 10 (some 35) (.int .i64 k) rfl rfl (by kernel_rfl) rfl (fun W ⟨h0, h1, h2, h3, h4, h5, h6⟩ => by go_simp) H0 ?_
    simp only [FL]
    refine zT 11 (some 36) (.pointer (some ⟨b, off + k * 6, none⟩)) rfl rfl (by kernel_rfl) rfl (fun W ⟨h0, h1, h2, h3, h4, h5, h6⟩ => by go_simp) H0 ?_
    simp only [FL]
    refine zT 12 (some 37) (.pointer (some ⟨b, off + k * 6 + 4, none⟩)) rfl rfl (by kernel_rfl) rfl (fun W ⟨h0, h1, h2, h3, h4, h5, h6⟩ => by go_simp) H0 ?_
    simp only [FL]
    refine zT 13 (some 38) (.slice c.va.ao c.va.n c.va.cap) rfl rfl (by kernel_rfl) rfl (fun W ⟨h0, h1, h2, h3, h4, h5, h6⟩ => by go_simp) H0 ?_
    simp only [FL]
    refine zT 15 (some 40) (.pointer (some ⟨N, 1, none⟩)) rfl rfl (by kernel_rfl) rfl (fun W ⟨h0, h1, h2, h3, h4, h5, h6⟩ => by go_simp) H0 ?_
    simp only [FL]
    refine zT 16 (some 41) (.slice (some ⟨b, off, none⟩) n cap) rfl rfl (by kernel_rfl) rfl (fun W ⟨h0, h1, h2, h3, h4, h5, h6⟩ => by go_simp) H0 ?_
    simp only [FL]
    refine zT 17 (some 42) (.int .i64 k) rfl rfl (by kernel_rfl) rfl (fun W ⟨h0, h1, h2, h3, h4, h5, h6⟩ => by go_simp) H0 ?_
    simp only [FL]
    refine zT 18 (some 43) (.pointer (some ⟨b, off + k * 6, none⟩)) rfl rfl (by kernel_rfl) rfl (fun W ⟨h0, h1, h2, h3, h4, h5, h6⟩ => by go_simp) H0 ?_
    simp only [FL]
    refine zT 19 (some 44) (.pointer (some ⟨b, off + k * 6 + 5, none⟩)) rfl rfl (by kernel_rfl) rfl (fun W ⟨h0, h1, h2, h3, h4, h5, h6⟩ => by go_simp) H0 ?_
    simp only [FL]
    refine zT 20 (some 45) (.bool c.gone) rfl rfl (by kernel_rfl) rfl (fun W ⟨h0, h1, h2, h3, h4, h5, h6⟩ => by go_simp) H0 ?_
    simp only [FL]
    refine hr_call_w 7 (some 32) 108 #[.slice bo m1 c1, .agg #[.string c.row, .string c.fam, .string c.qual, .int .u64 c.time]] rfl rfl (by kernel_rfl) rfl (by go_simp) (fun v w' => ∃ b5 m5 c5, v = .slice b5 m5 c5 ∧ Sl w' b5 m5 c5 (enc e.toNat ++ enc n ++ p ++ putK c.key) ∧ Below v0.heap.size v0 w') ((rkey_any v0 bo m1 c1 _ (S.below E0) (by omega) c.key hcf1.1).mono (by
     rintro e w' ⟨b5, m5, c5, rfl, F, C⟩
     exact ⟨_, rfl, b5, m5, c5, rfl, F, C⟩)) ?_
    rintro v v1 ⟨b5, m5, c5, rfl, F0, C0⟩
    have E1 := E0.trans (C0.mono E0.size)
    have H1 := HS.out v1 E1
    refine ⟨H1, ?_⟩
    simp only [FL]
    have l5 := F0.len
    simp only [List.length_append] at l5
    refine hr_call_w 14 (some 39) 82 #[.slice b5 m5 c5, .slice c.va.ao c.va.n c.va.cap] rfl rfl (by kernel_rfl) rfl (by go_simp) (fun v w' => ∃ b6 m6 c6, v = .slice b6 m6 c6 ∧ Sl w' b6 m6 c6 (enc e.toNat ++ enc n ++ p ++ putK c.key ++ byts c.va.xs) ∧ Below v1.heap.size v1 w') ((gBytes v1 b5 _ m5 c5 _ _ _ _ F0 (hok.below E1).va (by omega) (by have := hok.va.len; omega)).mono (by
     rintro e w' ⟨b6, m6, c6, rfl, F, C⟩
     exact ⟨_, rfl, b6, m6, c6, rfl, F, C⟩)) ?_
    rintro v v2 ⟨b6, m6, c6, rfl, F1, C1⟩
    have E2 := E1.trans (C1.mono E1.size)
    have H2 := HS.out v2 E2
    refine ⟨H2, ?_⟩
    simp only [FL]
    have l6 := F1.len
    simp only [List.length_append] at l6
    refine hr_call_w 21 (some 46) 109 #[.slice b6 m6 c6, .bool c.gone] rfl rfl (by kernel_rfl) rfl (by go_simp) (fun v w' => ∃ b7 m7 c7, v = .slice b7 m7 c7 ∧ Sl w' b7 m7 c7 (enc e.toNat ++ enc n ++ p ++ putK c.key ++ byts c.va.xs ++ enb c.gone) ∧ Below v2.heap.size v2 w') ((gBool v2 b6 m6 c6 c.gone _ F1 (by omega)).mono (by
     rintro e w' ⟨b7, m7, c7, rfl, F, C⟩
     exact ⟨_, rfl, b7, m7, c7, rfl, F, C⟩)) ?_
    rintro v v3 ⟨b7, m7, c7, rfl, F2, C2⟩
    have E3 := E2.trans (C2.mono E2.size)
    have H3 := HS.out v3 E3
    refine ⟨H3, ?_⟩
    simp only [FL]
    have l7 := F2.len
    simp only [List.length_append] at l7
    refine zT 22 (some 4) (.slice b7 m7 c7) rfl rfl (by kernel_rfl) rfl (fun W ⟨h0, h1, h2, h3, h4, h5, h6⟩ => by go_simp) H3 ?_
    simp only [FL]
    refine wpAnyH_done (by kernel_rfl) ?_ _
    refine NoPanic.normal ?_
    have m7b : m7 ≤ 20 + 410 * (k + 1) := by omega
    have B7 := B.trans (E3.mono (by have := B.size; have := HN.out; omega))
    have D7 := C.trans (E3.mono C.size)
    have fin : enc e.toNat ++ enc n ++ p ++ putK c.key ++ byts c.va.xs ++ enb c.gone = enc e.toNat ++ enc n ++ (p ++ putC c.c) := by
     rw [putC_key]
     simp only [List.append_assoc]
    rw [fin] at F2
    clear l5 l6 l7 lS F0 F1 S HS E0 E1 E2 E3 C0 C1 C2 H0 H1 H2 H3
    go_wp2
    go_roundw
    case rel => exact ⟨k + 1, b7, m7, c7, by omega, by go_num, rfl, by rw [HT.out]; exact F2, m7b, B7, D7⟩
    case measure => simp [intOf]; omega
   ·have i6 : (n : Int) ≤ (k : Int) := by omega
    rw [List.take_of_length_le (by omega)] at S
    have r1 := K5.c1
    have r2 := K5.c2
    go_wp2_with fail
    clear r1 r2
    refine (gBool wr bo m1 c1 m _ S (by omega)).mono ?_
    rintro x w5 ⟨b5, m5, c5, rfl, S5, C5⟩
    have B5 := B.trans (C5.mono (by have := B.size; have := HN.out; omega))
    go_wp2
    go_ret2
    refine ⟨⟨b5, m5, c5, by rw [hk] <;> rfl, ?_⟩, by rw [← HN.out]; exact B5⟩
    rw [if_pos hb, putR_res, hl]
    simpa only [List.append_assoc] using S5
open Go.RowKit
structure Buf (w : World) (base : Nat) (v : Value) (xs : List Int) : Prop where
 own : w.ownsRow base 5 1 v xs.length (bv xs)
 byt : Byt xs
structure Bst (w : World) (v : Value) (w' : World) (v' : Value) : Prop where
 gr : w.grownBy w' v.ownBlock
 at' : ∀ g, v'.ownBlock = some g → v.ownBlock = some g ∨ w.heap.size ≤ g
theorem bel_gr {w w' : World} (h : Below w.heap.size w w') (r : Option Nat) : w.grownBy w' r := ⟨h.os, h.tape, h.output, h.size, fun k hk _ => h.block k hk⟩
theorem Bst.refl (w : World) (v : Value) : Bst w v w v := ⟨bel_gr (Below.refl _ w) _, fun _ h => .inl h⟩
theorem Bst.trans {w w1 w2 : World} {v v1 v2 : Value} (h : Bst w v w1 v1) (k : Bst w1 v1 w2 v2) : Bst w v w2 v2 :=
 ⟨⟨k.gr.os.trans h.gr.os, k.gr.tape.trans h.gr.tape, k.gr.output.trans h.gr.output, Nat.le_trans h.gr.size k.gr.size, fun z hz hne => (k.gr.block z (Nat.lt_of_lt_of_le hz h.gr.size) (fun e => by
  rcases h.at' z e.symm with c | c
  ·exact hne c.symm
  ·omega)).trans (h.gr.block z hz hne)⟩, fun g hg => by
  rcases k.at' g hg with c | c
  ·exact h.at' g c
  ·exact .inr (Nat.le_trans h.gr.size c)⟩
theorem Bst.below {w w1 : World} (h : Below w.heap.size w w1) (v : Value) : Bst w v w1 v := ⟨bel_gr h _, fun _ h => .inl h⟩
theorem Bst.block {w w' : World} {v v' : Value} (h : Bst w v w' v') {z : Nat} (hz : z < w.heap.size) (hne : v.ownBlock ≠ some z) : w'.heap[z]? = w.heap[z]? := h.gr.block z hz (fun e => hne e.symm)
theorem Bst.off {w w' : World} {v v' : Value} (h : Bst w v w' v') {z : Nat} (hz : z < w.heap.size) (hne : v.ownBlock ≠ some z) : v'.ownBlock ≠ some z := fun e => by
 rcases h.at' z e with c | c
 ·exact hne c
 ·omega
theorem Buf.nil (w : World) (base : Nat) : Buf w base (.slice none 0 0) [] := ⟨World.ownsRow_nil _ _ _ _, fun _ h => by cases h⟩
theorem Buf.bel {w w' : World} {base : Nat} {v v' : Value} {xs : List Int} (h : Buf w base v xs) (k : Bst w v w' v') (hb : base ≤ w.heap.size) : Below base w w' := (Below.refl _ w).grown k.gr hb (fun z hz => (h.own.lt z hz).1)
theorem Buf.below {w w' : World} {base : Nat} {v : Value} {xs : List Int} (h : Buf w base v xs) (hb : Below w.heap.size w w') : Buf w' base v xs := ⟨own_kept h.own fun g hg => hb.block g (h.own.lt g hg).2, h.byt⟩
theorem Buf.lt {w : World} {base : Nat} {v : Value} {xs : List Int} (h : Buf w base v xs) {z : Nat} (hz : v.ownBlock = some z) : base ≤ z ∧ z < w.heap.size := h.own.lt z hz
theorem Buf.new {w : World} {base : Nat} {v : Value} {xs : List Int} (h : Buf w base v xs) {z : Nat} (hz : w.heap.size ≤ z) : v.ownBlock ≠ some z := fun e => by have := (h.lt e).2; omega
def BufPost (w : World) (base : Nat) (v : Value) (zs : List Int) (e : Ending) (w' : World) : Prop := ∃ v', e = .returned v' ∧ Buf w' base v' zs ∧ Bst w v w' v'
theorem wpList_appB {w : World} {ops : Array Oper} {rest : List Oper} {o : Oper} {a : Act} {Q : Exit → Act → World → Prop} (hgd : o.guard = none) (s x : Operand)
  (ho : o.op = .call { callee := .builtin .append, args := #[s, x], argTypes := #[23, 23] })
  (base : Nat) (v : Value) (xs : List Int) (hs : a.eval s = v) (hown : Buf w base v xs)
  (bo : Option Addr) (m c : Nat) (ys : List Int) (hx : a.eval x = .slice bo m c) (hsl : Sl w bo m c ys) (hb : xs.length + m ≤ 140737488355328) (hbase : base ≤ w.heap.size)
  (h : ∀ v' w', Buf w' base v' (xs ++ ys) → Bst w v w' v' → wpList Tryz.prog ops Q rest (a.put o.dst v') w') : wpList Tryz.prog ops Q (o :: rest) a w := by
 obtain ⟨i0, hi, hz0, hz1, hz2⟩ := info_parts u8info
 cases bo with
 | some ad =>
  refine wpList_append_own_at w hgd s x 23 ho base 5 i0 (.int .u8 0) 1 1 Tryz.underlying23 hi hz0 hz1 hz2 rfl (by decide) v xs.length (bv xs) hs hown.own ad m c (bv ys) hx (by rw [bv_length, hsl.len, Nat.mul_one]) (hsl.cells ad rfl) (bv_one ys) (by unfold maxLen; omega) (by omega) hbase ?_
  intro v' w' h1 h2 _ h4
  rw [← bv_append] at h1
  refine h v' w' ⟨by rw [List.length_append, hsl.len]; exact h1, hown.byt.append hsl.byte⟩ ⟨h2, fun g hg => ?_⟩
  rcases h4 with h4 | h4
  ·exact .inl (h4 ▸ hg)
  ·rw [h4] at hg
   exact .inr (Nat.le_of_eq (Option.some.inj hg))
 | none =>
  obtain ⟨rfl, rfl⟩ := hsl.nil rfl
  obtain rfl : ys = [] := List.eq_nil_of_length_eq_zero hsl.len
  refine wpList_append_own_none hgd s x 23 ho base 5 i0 1 Tryz.underlying23 hi v xs.length (bv xs) hs hown.own hx ?_
  exact h v w (by simpa using hown) (Bst.refl _ _)
end Go.Proofs.YtkjaapomaaakmaaGreat

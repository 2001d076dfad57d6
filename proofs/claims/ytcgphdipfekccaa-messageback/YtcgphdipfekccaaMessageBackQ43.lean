/-
  Texts in one: MgLight, SameT.
-/
import Derived.Test.YtcgphdipfekccaaMessageBackQ0
import Derived.Test.YtcgphdipfekccaaMessageBackQ15
import Derived.Test.YtcgphdipfekccaaMessageBackQ13
import Derived.Test.YtcgphdipfekccaaMessageBackQ37
import Derived.Test.YtcgphdipfekccaaMessageBackQ41
import Derived.Test.YtcgphdipfekccaaMessageBackQ42
import Derived.Test.YtcgphdipfekccaaMessageBackQ2
namespace Go.Proofs.Ytcgphdipfekccaa
open Go.RowKit
def smT (t : LS SA) : Prop := t.n ≤ 20 ∧ ∀ s ∈ t.l, s.b.n ≤ 2000 ∧ s.tag.n ≤ 100
structure LB (x : BM) (ql : List QE) : Prop where
  sum : x.sum.n ≤ 100
  qn : x.q.n ≤ 10
  sn : x.s.n ≤ 20
  tn : x.t.n ≤ 20
  c : cellsB x.c.l 20 = true
  q : ∀ y ∈ ql, lightD 3 y.x = true
  s : smT x.s
  t : ∀ t ∈ x.t.l, smT t
def LtPost (w : World) (x : BM) (ql : List QE) (e : Ending) (w' : World) : Prop := ∃ b : Bool, e = .returned (.bool b) ∧ (b = true → LB x ql) ∧ Below w.heap.size w w'
theorem lsTy : GTy elS.lists.sz 24 (.slice none 0 0) 31 32 := ⟨by kernel_rfl, rfl, Try.underlying32⟩
set_option maxRecDepth 100000 in
set_option maxHeartbeats 16000000 in
theorem light13 (w : World) (x : BM) (ql : List QE) (hx : x.ok w) (qx : x.q.l = ql.map QE.m) (ow : ∀ y ∈ ql, OW w 3 y.x) (sm : ∀ y ∈ ql, OSm 3 y.x) (cs : ∀ c ∈ x.c.l, c.small) :
    Calls Try.prog 5 #[x.val] w (LtPost w x ql) := by
  have B : Below w.heap.size w (w.alloc (Obj.cells #[.int .i64 x.kind, .int .u64 (x.view : Nat), .int .u64 (x.seq : Nat), .slice x.sum.ao x.sum.n x.sum.cap, .slice x.q.ao x.q.n x.q.cap, .int .u64 (x.cl : Nat), .int .u64 (x.st : Nat), .int .u64 (x.vw : Nat), .int .i64 x.e, .slice x.c.ao x.c.n x.c.cap, .bool x.more, .slice x.s.ao x.s.n x.s.cap, .slice x.t.ao x.t.n x.t.cap] 34)) := (Below.refl _ w).alloc (Nat.le_refl _) _
  have KX : (w.alloc (Obj.cells #[.int .i64 x.kind, .int .u64 (x.view : Nat), .int .u64 (x.seq : Nat), .slice x.sum.ao x.sum.n x.sum.cap, .slice x.q.ao x.q.n x.q.cap, .int .u64 (x.cl : Nat), .int .u64 (x.st : Nat), .int .u64 (x.vw : Nat), .int .i64 x.e, .slice x.c.ao x.c.n x.c.cap, .bool x.more, .slice x.s.ao x.s.n x.s.cap, .slice x.t.ao x.t.n x.t.cap] 34)).heap[w.heap.size]? = some (.cells #[.int .i64 x.kind, .int .u64 (x.view : Nat), .int .u64 (x.seq : Nat), .slice x.sum.ao x.sum.n x.sum.cap, .slice x.q.ao x.q.n x.q.cap, .int .u64 (x.cl : Nat), .int .u64 (x.st : Nat), .int .u64 (x.vw : Nat), .int .i64 x.e, .slice x.c.ao x.c.n x.c.cap, .bool x.more, .slice x.s.ao x.s.n x.s.cap, .slice x.t.ao x.t.n x.t.cap] 34) := heap_alloc_new w _
  have nq : ql.length = x.q.n := by rw [← hx.q.len, qx, List.length_map]
  have GX : GL elQ w x.q.ao x.q.n x.q.cap (ql.map QE.m) := by rw [← qx]; exact hx.q
  have h0q := hx.q.len
  clear qx
  unfold BM.val
  by_cases c0 : 100 < x.sum.n
  · have i0 : (100 : Int) < (x.sum.n : Int) := by omega
    clear c0
    go_enter Try.func5, Try.ntmps5
    go_wp2
    go_ret
    exact ⟨false, rfl, fun h => (by cases h), B⟩
  have i0 : ¬ (100 : Int) < (x.sum.n : Int) := by omega
  have H0 : x.sum.n ≤ 100 := by omega
  clear c0
  by_cases c1 : 10 < x.q.n
  · have i1 : (10 : Int) < (x.q.n : Int) := by omega
    clear c1
    go_enter Try.func5, Try.ntmps5
    go_wp2
    go_ret
    exact ⟨false, rfl, fun h => (by cases h), B⟩
  have i1 : ¬ (10 : Int) < (x.q.n : Int) := by omega
  have H1 : x.q.n ≤ 10 := by omega
  clear c1
  by_cases c2 : 20 < x.s.n
  · have i2 : (20 : Int) < (x.s.n : Int) := by omega
    clear c2
    go_enter Try.func5, Try.ntmps5
    go_wp2
    go_ret
    exact ⟨false, rfl, fun h => (by cases h), B⟩
  have i2 : ¬ (20 : Int) < (x.s.n : Int) := by omega
  have H2 : x.s.n ≤ 20 := by omega
  clear c2
  by_cases c3 : 20 < x.t.n
  · have i3 : (20 : Int) < (x.t.n : Int) := by omega
    clear c3
    go_enter Try.func5, Try.ntmps5
    go_wp2
    go_ret
    exact ⟨false, rfl, fun h => (by cases h), B⟩
  have i3 : ¬ (20 : Int) < (x.t.n : Int) := by omega
  have H3 : x.t.n ≤ 20 := by omega
  clear c3
  go_enter Try.func5, Try.ntmps5
  go_wp2_with fail
  obtain ⟨w1, hw1⟩ : ∃ W, W = (w.alloc (Obj.cells #[.int .i64 x.kind, .int .u64 (x.view : Nat), .int .u64 (x.seq : Nat), .slice x.sum.ao x.sum.n x.sum.cap, .slice x.q.ao x.q.n x.q.cap, .int .u64 (x.cl : Nat), .int .u64 (x.st : Nat), .int .u64 (x.vw : Nat), .int .i64 x.e, .slice x.c.ao x.c.n x.c.cap, .bool x.more, .slice x.s.ao x.s.n x.s.cap, .slice x.t.ao x.t.n x.t.cap] 34)) := ⟨_, rfl⟩
  rw [← hw1] at B KX ⊢
  obtain ⟨N, hN⟩ : ∃ N, N = w.heap.size := ⟨_, rfl⟩
  rw [← hN] at KX ⊢
  have HN : Hid (N = w.heap.size) := hN
  have hN1 : N < w1.heap.size := (Array.getElem?_eq_some_iff.1 KX).1
  clear hw1 hN i0 i1 i2 i3
  refine (lcells_any w1 x.c.ao x.c.n x.c.cap x.c.l 20 (hx.c.below B) cs).mono ?_
  rintro e w2 ⟨rfl, C⟩
  have B2 := B.trans (C.mono B.size)
  cases hcb : cellsB x.c.l 20 with
  | false =>
    clear KX
    go_wp2
    go_ret
    exact ⟨false, rfl, fun h => (by cases h), B2⟩
  | true =>
    have HCB : Hid (cellsB x.c.l 20 = true) := hcb
    clear hcb
    go_wp2_with fail
    go_loopw [3] (fun i wr => ∃ k : Nat, k ≤ x.q.n ∧ i = .int .i64 k ∧ Below w.heap.size w wr ∧ Below w1.heap.size w1 wr ∧ Hid (∀ y ∈ ql.take k, lightD 3 y.x = true)) (fun i _ => x.q.n - (intOf i).toNat)
    case atStart => exact ⟨0, Nat.zero_le _, rfl, B2, C, fun y hy => by simp at hy⟩
    case round =>
      clear B2 C
      obtain ⟨k, hk, rfl, B2, C, HLT⟩ := hrel
      have p4 := cell_of_row wr N 4 _ _ _ ((C.block N hN1).trans KX)
      by_cases hlt : k < x.q.n
      · have hki : (k : Int) < (x.q.n : Int) := by omega
        have hkl : k < ql.length := by omega
        have Lr := GX.below elQ_fine B2
        obtain ⟨b, off, ea, hc⟩ := Lr.atQ (by omega)
        have X := hc k (by rw [List.length_map]; exact hkl)
        rw [List.getElem_map] at X
        rw [ea] at p4
        have hmem := List.getElem_mem hkl
        have ow1 := OW.below B2 (ow _ hmem)
        have sm1 := sm _ hmem
        have HX : Hid (∀ y ∈ ql.take (k + 1), y ∈ ql.take k ∨ y = ql[k]) := fun y hy => by
          rw [List.take_succ_eq_append_getElem hkl, List.mem_append, List.mem_singleton] at hy
          exact hy
        obtain ⟨y, hy⟩ : ∃ y, y = ql[k] := ⟨_, rfl⟩
        rw [← hy] at X ow1 sm1 HX
        have CL := light_any 3 wr y.x ow1 sm1 (by omega)
        rw [show ((3 : Nat) : Int) - 1 = 2 from rfl] at CL
        unfold OA.val at CL
        obtain ⟨q0, q1, q2, q3, q4, q5, q6, q7, q8, q9, q10, q11⟩ := X
        simp only [QE.m] at q0 q1 q2 q3 q4 q5 q6 q7 q8 q9 q10 q11
        generalize topD 3 y.x = o at CL q2 q3 q4 q5 q6 q7 q8 q9 q10 q11
        clear hy hc Lr ow1 sm1 hmem ea
        cases hb : lightD 3 y.x with
        | true =>
          rw [hb] at CL
          have HLT2 : Hid (∀ u ∈ ql.take (k + 1), lightD 3 u.x = true) := fun u hu => by
            rcases HX.out u hu with h | h
            · exact HLT.out u h
            · rw [h]; exact hb
          clear hb HX HLT
          go_wp2_with fail
          refine CL.mono ?_
          rintro e w3 ⟨rfl, D⟩
          have B2 := B2.trans (D.mono B2.size)
          have C := C.trans (D.mono C.size)
          clear CL D q0 q1 q2 q3 q4 q5 q6 q7 q8 q9 q10 q11 p4
          go_wp2
          go_roundw
          case rel => exact ⟨k + 1, by omega, by go_num, B2, C, HLT2⟩
          case measure => simp [intOf]; omega
        | false =>
          rw [hb] at CL
          clear hb HX HLT
          go_wp2_with fail
          refine CL.mono ?_
          rintro e w3 ⟨rfl, D⟩
          have B2 := B2.trans (D.mono B2.size)
          clear CL D q0 q1 q2 q3 q4 q5 q6 q7 q8 q9 q10 q11 p4
          go_wp2
          go_ret
          exact ⟨false, rfl, fun h => (by cases h), B2⟩
      · have hge : ¬ (k : Int) < (x.q.n : Int) := by omega
        have HQ : Hid (∀ y ∈ ql, lightD 3 y.x = true) := fun y hy => HLT.out y (by rw [List.take_of_length_le (by omega)]; exact hy)
        have p11 := cell_of_row wr N 11 _ _ _ ((C.block N hN1).trans KX)
        have p12 := cell_of_row wr N 12 _ _ _ ((C.block N hN1).trans KX)
        clear HLT
        have hNr : N < wr.heap.size := by have := C.size; omega
        go_wp2_with (refine stop_at (.call { callee := .builtin .append, args := #[Operand.tmp 54, Operand.tmp 56], argTypes := #[32, 32] }) rfl ?_)
        refine ⟨?_⟩
        clear p4 p11 p12 hge hlt hk
        have BA : Below wr.heap.size wr (wr.alloc (Obj.cells #[.slice x.s.ao x.s.n x.s.cap] 31)) := (Below.refl _ wr).alloc (Nat.le_refl _) _
        have GA : (wr.alloc (Obj.cells #[.slice x.s.ao x.s.n x.s.cap] 31)).heap[wr.heap.size]? = some (.cells #[.slice x.s.ao x.s.n x.s.cap] 31) := heap_alloc_new wr _
        have NW : GNew elS.lists 31 w (wr.alloc (Obj.cells #[.slice x.s.ao x.s.n x.s.cap] 31)) wr.heap.size (.slice (some ⟨wr.heap.size, 0, none⟩) 1 1) [x.s] := ⟨⟨by rfl, .inr ⟨wr.heap.size, 1, #[.slice x.s.ao x.s.n x.s.cap], rfl, Nat.le_refl _, GA, Nat.le_refl _, by decide, by rfl, by simp [flatE, El.lists]⟩⟩, fun c hc => by rw [List.mem_singleton.1 hc]; exact hx.s⟩
        obtain ⟨v2, w4, hr, N4, D⟩ := run_appGs (w0 := w) (l := [x.s]) elS_fine.lists lsTy 32 NW BA.size ((hx.t.below elS_fine.lists B2).below elS_fine.lists BA) (fun q hq => hx.t.ok q hq) (by simp only [List.length_singleton]; omega) (by simp only [List.length_singleton, maxLen]; omega)
        refine wpList_append_run rfl (.tmp 54) (.tmp 56) rfl rfl rfl hr ?_
        have D4 := BA.trans D
        have B4 := B2.trans (D4.mono B2.size)
        obtain ⟨ao, ac, rfl, G4, -⟩ := N4.gl elS_fine.lists B4
        have HTY : Hid (([x.s] ++ x.t.l).length = x.t.n + 1) := by have := hx.t.len; show _ = _; rw [List.length_append, List.length_singleton]; omega
        rw [HTY.out] at G4 ⊢
        obtain ⟨al, hal⟩ : ∃ l, l = [x.s] ++ x.t.l := ⟨_, rfl⟩
        rw [← hal] at G4 HTY
        have HALL : Hid ((∀ t ∈ al, smT t) → LB x ql) := fun h => ⟨H0, H1, H2, H3, HCB.out, HQ.out, h _ (by rw [hal]; simp), fun t ht => h t (by rw [hal]; simp [ht])⟩
        clear hal N4 NW GA BA hr D D4 B2 C KX GX hx H0 H1 H2 HQ HCB
        have hal := HTY.out
        go_wp2_with fail
        go_loopw [5, 6] (fun i _ wr => ∃ k : Nat, k ≤ x.t.n + 1 ∧ i = .int .i64 k ∧ Below w.heap.size w wr ∧ Below w4.heap.size w4 wr ∧ Hid (∀ t ∈ al.take k, smT t)) (fun i _ _ => x.t.n + 1 - (intOf i).toNat)
        case atStart => exact ⟨0, Nat.zero_le _, rfl, B4, Below.refl _ _, fun y hy => by simp at hy⟩
        case round =>
          clear B4
          obtain ⟨k, hk, rfl, B4, C4, HLT⟩ := hrel
          by_cases hlt : k < x.t.n + 1
          · have hki : (k : Int) < (x.t.n : Int) + 1 := by omega
            have hkl : k < al.length := by omega
            obtain ⟨b, off, rfl, hc⟩ := (G4.below elS_fine.lists C4).atL (by omega)
            have r0 := hc k hkl
            have HRC : Hid (∀ V, Below w4.heap.size w4 V → V.cell? ⟨b, off + k, none⟩ = some (.slice al[k].ao al[k].n al[k].cap)) := fun V hV => by
              obtain ⟨b', off', e', hc'⟩ := (G4.below elS_fine.lists hV).atL (by omega)
              simp only [Option.some.injEq, Addr.mk.injEq, and_true] at e'
              obtain ⟨rfl, rfl⟩ := e'
              exact hc' k hkl
            have tok : elS.lists.ok al[k] w4 := G4.ok _ (List.getElem_mem hkl)
            have HX : Hid (∀ y ∈ al.take (k + 1), y ∈ al.take k ∨ y = al[k]) := fun y hy => by
              rw [List.take_succ_eq_append_getElem hkl, List.mem_append, List.mem_singleton] at hy
              exact hy
            obtain ⟨t, ht⟩ : ∃ t, t = al[k] := ⟨_, rfl⟩
            rw [← ht] at r0 tok HX HRC
            clear ht hc
            have tok : GL elS w4 t.ao t.n t.cap t.l := tok
            by_cases c20 : 20 < t.n
            · have i20 : (20 : Int) < (t.n : Int) := by omega
              go_wp2
              go_ret
              exact ⟨false, rfl, fun h => (by cases h), B4⟩
            have i20 : ¬ (20 : Int) < (t.n : Int) := by omega
            have HR0 : Hid (∀ V, Below w4.heap.size w4 V → V.cell? ⟨b, off + k, none⟩ = some (.slice t.ao t.n t.cap)) := fun V hV => HRC.out V hV
            clear c20 r0
            have r0 := HR0.out wr C4
            go_wp2_with fail
            go_loopw [6] (fun i wr => ∃ j : Nat, j ≤ t.n ∧ i = .int .i64 j ∧ Below w.heap.size w wr ∧ Below w4.heap.size w4 wr ∧ Hid (∀ s ∈ t.l.take j, s.b.n ≤ 2000 ∧ s.tag.n ≤ 100)) (fun i _ => t.n - (intOf i).toNat)
            case atStart => exact ⟨0, Nat.zero_le _, rfl, B4, C4, fun y hy => by simp at hy⟩
            case round =>
              clear B4 C4 r0
              obtain ⟨j, hj, rfl, B4, C4, HLS⟩ := hrel
              have r0 := HR0.out wr C4
              have tl := tok.len
              have tm := tok.mx
              have tle := tok.le
              simp only [maxLen] at tm
              by_cases hlt2 : j < t.n
              · have hji : (j : Int) < (t.n : Int) := by omega
                have hjl : j < t.l.length := by omega
                obtain ⟨b2, o2, e2, hc2⟩ := (tok.below elS_fine C4).atS (by omega)
                have X := hc2 j hjl
                have HX2 : Hid (∀ y ∈ t.l.take (j + 1), y ∈ t.l.take j ∨ y = t.l[j]) := fun y hy => by
                  rw [List.take_succ_eq_append_getElem hjl, List.mem_append, List.mem_singleton] at hy
                  exact hy
                obtain ⟨s, hs⟩ : ∃ s, s = t.l[j] := ⟨_, rfl⟩
                rw [← hs] at X HX2
                clear hs hc2
                obtain ⟨s0, s1, s2⟩ := X
                rw [e2] at r0
                by_cases d1 : 2000 < s.b.n
                · have j1 : (2000 : Int) < (s.b.n : Int) := by omega
                  clear HR0 HX2 HX HLS HLT HRC d1 e2
                  go_wp2
                  go_ret
                  exact ⟨false, rfl, fun h => (by cases h), B4⟩
                have j1 : ¬ (2000 : Int) < (s.b.n : Int) := by omega
                by_cases d2 : 100 < s.tag.n
                · have j2 : (100 : Int) < (s.tag.n : Int) := by omega
                  clear HR0 HX2 HX HLS HLT HRC d1 d2 e2
                  go_wp2
                  go_ret
                  exact ⟨false, rfl, fun h => (by cases h), B4⟩
                have j2 : ¬ (100 : Int) < (s.tag.n : Int) := by omega
                have HLS2 : Hid (∀ u ∈ t.l.take (j + 1), u.b.n ≤ 2000 ∧ u.tag.n ≤ 100) := fun u hu => by
                  rcases HX2.out u hu with h | h
                  · exact HLS.out u h
                  · rw [h]; exact ⟨by omega, by omega⟩
                clear HX2 HLS d1 d2 e2
                go_wp2
                go_roundw
                case rel => exact ⟨j + 1, by omega, by go_num, B4, C4, HLS2⟩
                case measure => simp [intOf]; omega
              · have hge2 : ¬ (j : Int) < (t.n : Int) := by omega
                have HLT2 : Hid (∀ u ∈ al.take (k + 1), smT u) := fun u hu => by
                  rcases HX.out u hu with h | h
                  · exact HLT.out u h
                  · rw [h]
                    refine ⟨by omega, fun s hs => HLS.out s ?_⟩
                    rw [List.take_of_length_le (by omega)]
                    exact hs
                clear HX HLT HLS
                go_wp2
                go_roundw
                case rel => exact ⟨k + 1, by omega, by go_num, B4, C4, HLT2⟩
                case measure => simp [intOf]; omega
          · have hge : ¬ (k : Int) < (x.t.n : Int) + 1 := by omega
            have HL : Hid (LB x ql) := HALL.out fun t ht => HLT.out t (by rw [List.take_of_length_le (by omega)]; exact ht)
            clear HLT HALL
            go_wp2
            go_ret
            exact ⟨true, rfl, fun _ => HL.out, B4⟩
open Go.RowKit
theorem same_true (w : World) (ao bo : Option Addr) (n cap m cap2 : Nat) (xs : List Int) (h : Sl w ao n cap xs) (h2 : Sl w bo m cap2 xs) :
    Calls Try.prog 13 #[.slice ao n cap, .slice bo m cap2] w fun e w' => e = .returned (.bool true) ∧ Below w.heap.size w w' := by
  refine (same_any w ao bo n cap m cap2 xs xs h h2).mono ?_
  rintro e w' ⟨rfl, q, rfl⟩
  exact ⟨by simp, ⟨rfl, rfl, rfl, Nat.le_refl _, fun _ _ => rfl⟩⟩
end Go.Proofs.Ytcgphdipfekccaa

/-
  Texts in one: OrderLaw13.
-/
import Derived.Test.YtcgphdipfekccaaGreatDoorMessageOrderQFL
import Derived.Test.YtcgphdipfekccaaGreatDoorMessageOrderQ25
import Derived.Test.YtcgphdipfekccaaGreatDoorMessageOrderQ33
import Derived.Test.YtcgphdipfekccaaGreatDoorMessageOrderQ30
import Derived.Test.YtcgphdipfekccaaGreatDoorMessageOrderQ34
import Derived.Test.YtcgphdipfekccaaGreatDoorMessageOrderQ35
import Derived.Test.YtcgphdipfekccaaGreatDoorMessageOrderQ41
import Derived.Test.YtcgphdipfekccaaGreatDoorMessageOrderQ24
import Derived.Test.YtcgphdipfekccaaGreatDoorMessageOrderQ12
namespace Go.Proofs.YtcgphdipfekccaaGreatDoor
open Go.RowKit
theorem szQ : (Tryz.prog.info? 33).map (·.size) = some 12 := by kernel_rfl
theorem swap_map {α β : Type} (f : α → β) (l : List α) (a : Nat) (h : a + 1 < l.length) (e : f l[a] = f l[a + 1]) : ((l.set a l[a + 1]).set (a + 1) l[a]).map f = l.map f := by
  apply List.ext_getElem?
  intro i
  rw [List.getElem?_map, List.getElem?_map, List.getElem?_set, List.getElem?_set]
  by_cases h1 : a + 1 = i
  · subst h1
    simp [h, e]
  · by_cases h2 : a = i
    · subst h2
      have : a < l.length := by omega
      simp [this, e]
    · simp [h1, h2]
set_option maxRecDepth 100000 in
set_option maxHeartbeats 8000000 in
theorem order_in (w : World) (ao : Option Addr) (n cap a : Nat) (l : List QE) (L : GL elQ w ao n cap (l.map QE.m)) (ow : ∀ y ∈ l, OW w 3 y.x) (sm : ∀ y ∈ l, OSm 3 y.x) (hT : Tabs w) (hn : n ≤ 8) (ha : a + 2 ≤ n) :
    Calls Tryz.prog 3 #[.slice ao n cap, .int .i64 (a : Nat)] w fun e w' => e = .returned (.bool true) ∧ Below w.heap.size w w' := by
  have hl := L.len
  rw [List.length_map] at hl
  have hm := L.mx
  have hle := L.le
  simp only [maxLen] at hm
  have HT : Hid (Tabs w) := hT
  clear hT
  have i8 : (n : Int) ≤ 8 := by omega
  have ia : (a : Int) ≤ (n : Int) - 2 := by omega
  have ia0 : ¬ (a : Int) < 0 := by omega
  go_enter Tryz.func3, Tryz.ntmps3
  go_wp2_with fail
  go_loopw [5] (fun i wr => ∃ k : Nat, k ≤ n ∧ i = .int .i64 k ∧ Below w.heap.size w wr ∧ Hid (∀ y ∈ l.take k, lightD 3 y.x = true ∧ kq y.m.cl y.m.st (rightO y.m.o.s (y.m.l.map sn0)) = 0)) (fun i _ => n - (intOf i).toNat)
  case atStart => exact ⟨0, Nat.zero_le _, rfl, Below.refl _ _, fun y hy => by simp at hy⟩
  case round =>
    obtain ⟨k, hk, rfl, B, HLT⟩ := hrel
    by_cases hlt : k < n
    · have hki : (k : Int) < (n : Int) := by omega
      have hkl : k < l.length := by omega
      have Lr := L.below elQ_fine B
      obtain ⟨b, off, rfl, hc⟩ := Lr.atQ (by omega)
      have HXC : Hid (∀ V, Below w.heap.size w V → QX V b (off + k * 12) l[k].m) := fun V hV => by
        obtain ⟨b2, off2, e, hc2⟩ := (L.below elQ_fine hV).atQ (by omega : 0 < n)
        simp only [Option.some.injEq, Addr.mk.injEq, and_true] at e
        obtain ⟨rfl, rfl⟩ := e
        have := hc2 k (by rw [List.length_map]; exact hkl)
        rw [List.getElem_map] at this
        exact this
      have hmem := List.getElem_mem hkl
      have ow0 := ow _ hmem
      have sm1 := sm _ hmem
      have qok : QM.ok l[k].m w := L.ok _ (List.mem_map_of_mem hmem)
      have HX : Hid (∀ y ∈ l.take (k + 1), y ∈ l.take k ∨ y = l[k]) := fun y hy => by
        rw [List.take_succ_eq_append_getElem hkl, List.mem_append, List.mem_singleton] at hy
        exact hy
      obtain ⟨y, hy⟩ : ∃ y, y = l[k] := ⟨_, rfl⟩
      rw [← hy] at HXC ow0 sm1 HX qok
      have ow1 := OW.below B ow0
      have CL := light_any 3 wr y.x ow1 sm1 (by omega)
      rw [show ((3 : Nat) : Int) - 1 = 2 from rfl] at CL
      unfold OA.val at CL
      obtain ⟨q0, q1, q2, q3, q4, q5, q6, q7, q8, q9, q10, q11⟩ := HXC.out wr B
      have eo : Hid (topD 3 y.x = y.m.o) := rfl
      rw [eo.out] at CL
      clear hy hc Lr sm1 hmem ow1
      cases hb : lightD 3 y.x with
      | true =>
        rw [hb] at CL
        go_wp2_with fail
        refine CL.mono ?_
        rintro e w2 ⟨rfl, C⟩
        have D := B.trans (C.mono B.size)
        clear q0 q1 q2 q3 q4 q5 q6 q7 q8 q9 q10 q11 CL C
        obtain ⟨q0, q1, q2, q3, q4, q5, q6, q7, q8, q9, q10, q11⟩ := HXC.out w2 D
        have CR := rreq_any 2 w2 y.m.cl y.m.st y.m.o (show OA × List (OD 2) from y.x).2 qok.cl qok.st (OW.below D ow0) hb y.m.l rfl
        rw [show qVal y.m.cl y.m.st y.m.o = .agg #[.int .u64 (y.m.cl : Nat), .int .u64 (y.m.st : Nat), .int .i64 y.m.o.kind, .string y.m.o.row, .string y.m.o.fam, .string y.m.o.qual, .int .u64 (y.m.o.time : Nat), .string y.m.o.to, .slice y.m.o.va.ao y.m.o.va.n y.m.o.va.cap, .slice y.m.o.wa.ao y.m.o.wa.n y.m.o.wa.cap, .bool y.m.o.has, .slice y.m.o.so y.m.o.sn y.m.o.sc] from rfl] at CR
        obtain ⟨kk, hkk⟩ : ∃ kk, kk = kq y.m.cl y.m.st (rightO y.m.o.s (y.m.l.map sn0)) := ⟨_, rfl⟩
        have HKK : Hid (kk = kq y.m.cl y.m.st (rightO y.m.o.s (y.m.l.map sn0))) := hkk
        rw [← hkk] at CR
        clear hkk
        go_wp2_with fail
        refine CR.mono ?_
        rintro e w3 ⟨⟨bo, m, c, rfl, -⟩, C3⟩
        have D3 := D.trans (C3.mono D.size)
        clear CR q0 q1 q2 q3 q4 q5 q6 q7 q8 q9 q10 q11 C3
        by_cases h0 : kk = 0
        · subst h0
          have HL3 : Hid (∀ u ∈ l.take (k + 1), lightD 3 u.x = true ∧ kq u.m.cl u.m.st (rightO u.m.o.s (u.m.l.map sn0)) = 0) := fun u hu => by
            rcases HX.out u hu with h | h
            · exact HLT.out u h
            · rw [h]; exact ⟨hb, HKK.out.symm⟩
          clear HKK HX HLT
          go_wp2
          go_roundw
          case rel => exact ⟨k + 1, by omega, by go_num, D3, HL3⟩
          case measure => simp [intOf]; omega
        · have h1 : (kk != 0) = true := by simpa using h0
          have CA := alive13 w3
          clear HKK HX HLT h0
          go_wp2_with (go_at_call 4; refine CA.mono ?_; rintro e w9 ⟨rfl, C9⟩)
          go_ret
          exact ⟨rfl, D3.trans (C9.mono D3.size)⟩
      | false =>
        rw [hb] at CL
        go_wp2_with fail
        refine CL.mono ?_
        rintro e w2 ⟨rfl, C⟩
        have D := B.trans (C.mono B.size)
        have CA := alive13 w2
        clear CL C q0 q1 q2 q3 q4 q5 q6 q7 q8 q9 q10 q11
        go_wp2_with (go_at_call 4; refine CA.mono ?_; rintro e w9 ⟨rfl, C9⟩)
        go_ret
        exact ⟨rfl, D.trans (C9.mono D.size)⟩
    · have hge : ¬ (k : Int) < (n : Int) := by omega
      have HL2 : Hid (∀ y ∈ l, lightD 3 y.x = true ∧ kq y.m.cl y.m.st (rightO y.m.o.s (y.m.l.map sn0)) = 0) := fun y hy => HLT.out y (by rw [List.take_of_length_le (by omega)]; exact hy)
      obtain ⟨b, off, rfl, hc⟩ := L.atQ (by omega)
      have k0 : a < l.length := by omega
      have k1 : a + 1 < l.length := by omega
      have g0 : a < (l.map QE.m).length := by rw [List.length_map]; exact k0
      have g1 : a + 1 < (l.map QE.m).length := by rw [List.length_map]; exact k1
      have X0 : Hid (∀ V, Below w.heap.size w V → QX V b (off + a * 12) l[a].m) := fun V hV => by
        obtain ⟨b2, off2, e, hc2⟩ := (L.below elQ_fine hV).atQ (by omega : 0 < n)
        simp only [Option.some.injEq, Addr.mk.injEq, and_true] at e
        obtain ⟨rfl, rfl⟩ := e
        have := hc2 a g0
        rw [List.getElem_map] at this
        exact this
      have X1 : Hid (∀ V, Below w.heap.size w V → QX V b (off + (a + 1) * 12) l[a + 1].m) := fun V hV => by
        obtain ⟨b2, off2, e, hc2⟩ := (L.below elQ_fine hV).atQ (by omega : 0 < n)
        simp only [Option.some.injEq, Addr.mk.injEq, and_true] at e
        obtain ⟨rfl, rfl⟩ := e
        have := hc2 (a + 1) g1
        rw [List.getElem_map] at this
        exact this
      have HOK : Hid (∀ q ∈ l.map QE.m, elQ.ok q w) := L.ok
      have ok0 : elQ.ok l[a].m w := L.ok _ (List.mem_map_of_mem (List.getElem_mem k0))
      have ok1 : elQ.ok l[a + 1].m w := L.ok _ (List.mem_map_of_mem (List.getElem_mem k1))
      have ow0 := ow _ (List.getElem_mem k0)
      have ow1 := ow _ (List.getElem_mem k1)
      have lt0 := (HL2.out _ (List.getElem_mem k0)).1
      have lt1 := (HL2.out _ (List.getElem_mem k1)).1
      have HRB : Hid ((decide (l[a].cl = l[a + 1].cl) && (decide (l[a].st = l[a + 1].st) && sameD 3 l[a].x l[a + 1].x)) = true → reqB l[a].m = reqB l[a + 1].m) := fun q => by
        unfold reqB
        rw [if_pos (HL2.out _ (List.getElem_mem k0)).2, if_pos (HL2.out _ (List.getElem_mem k1)).2, same_v _ _ q]
      have HSW : Hid (reqB l[a].m = reqB l[a + 1].m → ((((l.map QE.m).set a l[a + 1].m).set (a + 1) l[a].m).map reqB = (l.map QE.m).map reqB)) := fun q => by
        have := swap_map reqB (l.map QE.m) a g1 (by rw [List.getElem_map, List.getElem_map]; exact q)
        rw [List.getElem_map, List.getElem_map] at this
        exact this
      obtain ⟨y0, hy0⟩ : ∃ y, y = l[a] := ⟨_, rfl⟩
      obtain ⟨y1, hy1⟩ : ∃ y, y = l[a + 1] := ⟨_, rfl⟩
      rw [← hy0] at X0 ok0 ow0 lt0 HRB HSW
      rw [← hy1] at X1 ok1 ow1 lt1 HRB HSW
      obtain ⟨q0, hq0⟩ : ∃ q, q = y0.m := ⟨_, rfl⟩
      obtain ⟨q1, hq1⟩ : ∃ q, q = y1.m := ⟨_, rfl⟩
      rw [← hq0] at X0 ok0 HRB HSW
      rw [← hq1] at X1 ok1 HRB HSW
      have HQ0 : Hid (qVal q0.cl q0.st (topD 3 y0.x) = .agg #[.int .u64 (q0.cl : Nat), .int .u64 (q0.st : Nat), .int .i64 q0.o.kind, .string q0.o.row, .string q0.o.fam, .string q0.o.qual, .int .u64 (q0.o.time : Nat), .string q0.o.to, .slice q0.o.va.ao q0.o.va.n q0.o.va.cap, .slice q0.o.wa.ao q0.o.wa.n q0.o.wa.cap, .bool q0.o.has, .slice q0.o.so q0.o.sn q0.o.sc]) := by rw [hq0]; rfl
      have HQ1 : Hid (qVal q1.cl q1.st (topD 3 y1.x) = .agg #[.int .u64 (q1.cl : Nat), .int .u64 (q1.st : Nat), .int .i64 q1.o.kind, .string q1.o.row, .string q1.o.fam, .string q1.o.qual, .int .u64 (q1.o.time : Nat), .string q1.o.to, .slice q1.o.va.ao q1.o.va.n q1.o.va.cap, .slice q1.o.wa.ao q1.o.wa.n q1.o.wa.cap, .bool q1.o.has, .slice q1.o.so q1.o.sn q1.o.sc]) := by rw [hq1]; rfl
      have hcl0 : Hid (q0.cl = y0.cl ∧ q0.st = y0.st) := by rw [hq0]; exact ⟨rfl, rfl⟩
      have hcl1 : Hid (q1.cl = y1.cl ∧ q1.st = y1.st) := by rw [hq1]; exact ⟨rfl, rfl⟩
      have HS : Hid (∀ V, Below w.heap.size w V → V.cell? ⟨b, off + a * 12, none⟩ = some (.int .u64 (q0.cl : Nat)) ∧ V.cell? ⟨b, off + a * 12 + 1, none⟩ = some (.int .u64 (q0.st : Nat)) ∧ V.cell? ⟨b, off + a * 12 + 2, none⟩ = some (.int .i64 q0.o.kind) ∧ V.cell? ⟨b, off + a * 12 + 3, none⟩ = some (.string q0.o.row) ∧ V.cell? ⟨b, off + a * 12 + 4, none⟩ = some (.string q0.o.fam) ∧ V.cell? ⟨b, off + a * 12 + 5, none⟩ = some (.string q0.o.qual) ∧ V.cell? ⟨b, off + a * 12 + 6, none⟩ = some (.int .u64 (q0.o.time : Nat)) ∧ V.cell? ⟨b, off + a * 12 + 7, none⟩ = some (.string q0.o.to) ∧ V.cell? ⟨b, off + a * 12 + 8, none⟩ = some (.slice q0.o.va.ao q0.o.va.n q0.o.va.cap) ∧ V.cell? ⟨b, off + a * 12 + 9, none⟩ = some (.slice q0.o.wa.ao q0.o.wa.n q0.o.wa.cap) ∧ V.cell? ⟨b, off + a * 12 + 10, none⟩ = some (.bool q0.o.has) ∧ V.cell? ⟨b, off + a * 12 + 11, none⟩ = some (.slice q0.o.so q0.o.sn q0.o.sc) ∧ V.cell? ⟨b, off + (a + 1) * 12, none⟩ = some (.int .u64 (q1.cl : Nat)) ∧ V.cell? ⟨b, off + (a + 1) * 12 + 1, none⟩ = some (.int .u64 (q1.st : Nat)) ∧ V.cell? ⟨b, off + (a + 1) * 12 + 2, none⟩ = some (.int .i64 q1.o.kind) ∧ V.cell? ⟨b, off + (a + 1) * 12 + 3, none⟩ = some (.string q1.o.row) ∧ V.cell? ⟨b, off + (a + 1) * 12 + 4, none⟩ = some (.string q1.o.fam) ∧ V.cell? ⟨b, off + (a + 1) * 12 + 5, none⟩ = some (.string q1.o.qual) ∧ V.cell? ⟨b, off + (a + 1) * 12 + 6, none⟩ = some (.int .u64 (q1.o.time : Nat)) ∧ V.cell? ⟨b, off + (a + 1) * 12 + 7, none⟩ = some (.string q1.o.to) ∧ V.cell? ⟨b, off + (a + 1) * 12 + 8, none⟩ = some (.slice q1.o.va.ao q1.o.va.n q1.o.va.cap) ∧ V.cell? ⟨b, off + (a + 1) * 12 + 9, none⟩ = some (.slice q1.o.wa.ao q1.o.wa.n q1.o.wa.cap) ∧ V.cell? ⟨b, off + (a + 1) * 12 + 10, none⟩ = some (.bool q1.o.has) ∧ V.cell? ⟨b, off + (a + 1) * 12 + 11, none⟩ = some (.slice q1.o.so q1.o.sn q1.o.sc)) := fun V hV => by
        obtain ⟨s0, s1, s2, s3, s4, s5, s6, s7, s8, s9, s10, s11⟩ := X0.out V hV
        obtain ⟨t0, t1, t2, t3, t4, t5, t6, t7, t8, t9, t10, t11⟩ := X1.out V hV
        exact ⟨s0, s1, s2, s3, s4, s5, s6, s7, s8, s9, s10, s11, t0, t1, t2, t3, t4, t5, t6, t7, t8, t9, t10, t11⟩
      obtain ⟨sb2, hsb⟩ : ∃ s, s = (decide (q0.cl = q1.cl) && (decide (q0.st = q1.st) && sameD 3 y0.x y1.x)) := ⟨_, rfl⟩
      have HSB : Hid ((decide (q0.cl = q1.cl) && (decide (q0.st = q1.st) && sameD 3 y0.x y1.x)) = sb2) := hsb.symm
      have HR3 : Hid (sb2 = true → ((((l.map QE.m).set a q1).set (a + 1) q0).map reqB = (l.map QE.m).map reqB)) := fun q => HSW.out (HRB.out (by
        rw [← hcl0.out.1, ← hcl0.out.2, ← hcl1.out.1, ← hcl1.out.2, HSB.out]
        exact q))
      clear hc hy0 hy1 hq0 hq1 hsb X0 X1 HRB HSW HLT HL2 hcl0 hcl1 k0 k1
      have A1 : Below wr.heap.size wr (wr.alloc (.cells #[] 33)) := (Below.refl _ _).alloc (Nat.le_refl _) _
      have AR : Arr (wr.alloc (.cells #[] 33)) wr.heap.size 33 [] := heap_alloc_new wr _
      have B4 := B.trans (A1.mono B.size)
      have hsz := B.size
      go_wp2_with (refine stop_at (.call { callee := .builtin .append, args := #[Operand.tmp 49, Operand.tmp 50], argTypes := #[22, 22] }) rfl ?_)
      refine ⟨?_⟩
      obtain ⟨v', w5, hr, N5, C5⟩ := run_appG0 (w0 := w) elQ_fine tyQ 22 hsz AR (L.below elQ_fine B4) HOK.out (by omega) (by omega) B4.size
      refine wpList_append_run rfl (.tmp 49) (.tmp 50) rfl rfl rfl hr ?_
      have B5 := B4.trans (C5.mono B4.size)
      obtain ⟨go, mc, rfl, GM, hfar⟩ := N5.gl elQ_fine B5
      have hln : (l.map QE.m).length = n := by rw [List.length_map]; exact hl
      rw [hln] at GM N5 hfar ⊢
      obtain ⟨g, og, rfl, -⟩ := GM.atQ (by omega)
      have hgb : w.heap.size ≤ g := hfar g ⟨_, rfl, by omega, rfl⟩
      have hog : og = 0 := by
        rcases N5.row.2 with ⟨e, _⟩ | ⟨g', cap', cur, e, _⟩
        · simp at e
        · simp only [Value.slice.injEq, Option.some.injEq, Addr.mk.injEq, and_true] at e
          exact e.1.2
      subst hog
      have FZ : Hid (∀ V : World, V.heap[g]? = w5.heap[g]? → ∀ j, V.frozen? ⟨g, j, none⟩ = false) := fun V hV j => by
        have hb : V.frozen? ⟨g, j, none⟩ = w5.frozen? ⟨g, j, none⟩ := World.frozen?_of_block hV
        rw [hb]
        exact N5.free j
      have HOFF : Hid (∀ x, (x ∈ l.map QE.m ∨ x = q1) → ∀ z, elQ.blk x z → z ≠ g) := fun x hx z hz => by
        have hx : elQ.ok x w := by
          rcases hx with hx | rfl
          · exact HOK.out x hx
          · exact ok1
        have := elQ_fine.lt x w z hx hz
        omega
      have HOFF2 : Hid (∀ x, (x ∈ (l.map QE.m).set a q1 ∨ x = q0) → ∀ z, elQ.blk x z → z ≠ g) := fun x hx z hz => by
        have hx : elQ.ok x w := by
          rcases hx with hx | rfl
          · rcases List.mem_or_eq_of_mem_set hx with hx | rfl
            · exact HOK.out x hx
            · exact ok1
          · exact ok0
        have := elQ_fine.lt x w z hx hz
        omega
      have j1 : (a : Int) < (n : Int) := by omega
      have j2 : (a : Int) + 1 < (n : Int) := by omega
      have j3 : ¬ (a : Int) + 1 < 0 := by omega
      have iw : IntKind.i64.wrap ((a : Int) + 1) = (a : Int) + 1 := by rw [IntKind.wrap_i64]; omega
      clear hr N5 hfar A1 AR hln
      go_wp2_with fail
      have xE0 : Below w.heap.size w w5.drew := B5.trans ((Below.refl _ _).drew.mono B5.size)
      have GM := GM.below elQ_fine ((Below.refl _ _).drew)
      have HXD := (show w5.drew.heap[g]? = w5.heap[g]? from rfl)
      refine wp_region_noPanic ?_
      refine wp_region_held_drew (S := fun V => V.cell? ⟨b, off + a * 12, none⟩ = some (.int .u64 (q0.cl : Nat)) ∧ V.cell? ⟨b, off + a * 12 + 1, none⟩ = some (.int .u64 (q0.st : Nat)) ∧ V.cell? ⟨b, off + a * 12 + 2, none⟩ = some (.int .i64 q0.o.kind) ∧ V.cell? ⟨b, off + a * 12 + 3, none⟩ = some (.string q0.o.row) ∧ V.cell? ⟨b, off + a * 12 + 4, none⟩ = some (.string q0.o.fam) ∧ V.cell? ⟨b, off + a * 12 + 5, none⟩ = some (.string q0.o.qual) ∧ V.cell? ⟨b, off + a * 12 + 6, none⟩ = some (.int .u64 (q0.o.time : Nat)) ∧ V.cell? ⟨b, off + a * 12 + 7, none⟩ = some (.string q0.o.to) ∧ V.cell? ⟨b, off + a * 12 + 8, none⟩ = some (.slice q0.o.va.ao q0.o.va.n q0.o.va.cap) ∧ V.cell? ⟨b, off + a * 12 + 9, none⟩ = some (.slice q0.o.wa.ao q0.o.wa.n q0.o.wa.cap) ∧ V.cell? ⟨b, off + a * 12 + 10, none⟩ = some (.bool q0.o.has) ∧ V.cell? ⟨b, off + a * 12 + 11, none⟩ = some (.slice q0.o.so q0.o.sn q0.o.sc) ∧ V.cell? ⟨b, off + (a + 1) * 12, none⟩ = some (.int .u64 (q1.cl : Nat)) ∧ V.cell? ⟨b, off + (a + 1) * 12 + 1, none⟩ = some (.int .u64 (q1.st : Nat)) ∧ V.cell? ⟨b, off + (a + 1) * 12 + 2, none⟩ = some (.int .i64 q1.o.kind) ∧ V.cell? ⟨b, off + (a + 1) * 12 + 3, none⟩ = some (.string q1.o.row) ∧ V.cell? ⟨b, off + (a + 1) * 12 + 4, none⟩ = some (.string q1.o.fam) ∧ V.cell? ⟨b, off + (a + 1) * 12 + 5, none⟩ = some (.string q1.o.qual) ∧ V.cell? ⟨b, off + (a + 1) * 12 + 6, none⟩ = some (.int .u64 (q1.o.time : Nat)) ∧ V.cell? ⟨b, off + (a + 1) * 12 + 7, none⟩ = some (.string q1.o.to) ∧ V.cell? ⟨b, off + (a + 1) * 12 + 8, none⟩ = some (.slice q1.o.va.ao q1.o.va.n q1.o.va.cap) ∧ V.cell? ⟨b, off + (a + 1) * 12 + 9, none⟩ = some (.slice q1.o.wa.ao q1.o.wa.n q1.o.wa.cap) ∧ V.cell? ⟨b, off + (a + 1) * 12 + 10, none⟩ = some (.bool q1.o.has) ∧ V.cell? ⟨b, off + (a + 1) * 12 + 11, none⟩ = some (.slice q1.o.so q1.o.sn q1.o.sc)) (by kernel_rfl) (HS.out _ xE0) (fun xH0 => ?_)
      obtain ⟨xv0, hv0⟩ : ∃ v, v = w5.drew := ⟨_, rfl⟩
      rw [← hv0] at xH0 xE0 GM HXD ⊢
      clear hv0
      have FZ0 : ∀ j, xv0.frozen? ⟨g, j, none⟩ = false := fun j => FZ.out xv0 HXD j
      refine hr_take_w 0 (some 52) (.slice (some ⟨g, 0, none⟩) n mc) rfl rfl (by kernel_rfl) (by kernel_rfl) (by kernel_rfl) rfl (fun W hW => by obtain ⟨h0, h1, h2, h3, h4, h5, h6, h7, h8, h9, h10, h11, h12, h13, h14, h15, h16, h17, h18, h19, h20, h21, h22, h23⟩ := hW; go_simp) xH0 ?_
      simp only [FL]
      refine hr_take_w 1 (some 53) (.int .i64 (a : Nat)) rfl rfl (by kernel_rfl) (by kernel_rfl) (by kernel_rfl) rfl (fun W hW => by obtain ⟨h0, h1, h2, h3, h4, h5, h6, h7, h8, h9, h10, h11, h12, h13, h14, h15, h16, h17, h18, h19, h20, h21, h22, h23⟩ := hW; go_simp) xH0 ?_
      simp only [FL]
      refine hr_take_w 2 (some 54) (.slice (some ⟨g, 0, none⟩) n mc) rfl rfl (by kernel_rfl) (by kernel_rfl) (by kernel_rfl) rfl (fun W hW => by obtain ⟨h0, h1, h2, h3, h4, h5, h6, h7, h8, h9, h10, h11, h12, h13, h14, h15, h16, h17, h18, h19, h20, h21, h22, h23⟩ := hW; go_simp) xH0 ?_
      simp only [FL]
      refine hr_take_w 3 (some 55) (.int .i64 (a : Nat)) rfl rfl (by kernel_rfl) (by kernel_rfl) (by kernel_rfl) rfl (fun W hW => by obtain ⟨h0, h1, h2, h3, h4, h5, h6, h7, h8, h9, h10, h11, h12, h13, h14, h15, h16, h17, h18, h19, h20, h21, h22, h23⟩ := hW; go_simp) xH0 ?_
      simp only [FL]
      refine hr_take_w 4 (some 56) (.int .i64 ((a : Int) + 1)) rfl rfl (by kernel_rfl) (by kernel_rfl) (by kernel_rfl) rfl (fun W hW => by obtain ⟨h0, h1, h2, h3, h4, h5, h6, h7, h8, h9, h10, h11, h12, h13, h14, h15, h16, h17, h18, h19, h20, h21, h22, h23⟩ := hW; go_simp) xH0 ?_
      simp only [FL]
      refine hr_take_w 5 (some 57) (.slice (some ⟨b, off, none⟩) n cap) rfl rfl (by kernel_rfl) (by kernel_rfl) (by kernel_rfl) rfl (fun W hW => by obtain ⟨h0, h1, h2, h3, h4, h5, h6, h7, h8, h9, h10, h11, h12, h13, h14, h15, h16, h17, h18, h19, h20, h21, h22, h23⟩ := hW; go_simp) xH0 ?_
      simp only [FL]
      refine hr_take_w 6 (some 58) (.int .i64 (a : Nat)) rfl rfl (by kernel_rfl) (by kernel_rfl) (by kernel_rfl) rfl (fun W hW => by obtain ⟨h0, h1, h2, h3, h4, h5, h6, h7, h8, h9, h10, h11, h12, h13, h14, h15, h16, h17, h18, h19, h20, h21, h22, h23⟩ := hW; go_simp) xH0 ?_
      simp only [FL]
      refine hr_take_w 7 (some 59) (.int .i64 ((a : Int) + 1)) rfl rfl (by kernel_rfl) (by kernel_rfl) (by kernel_rfl) rfl (fun W hW => by obtain ⟨h0, h1, h2, h3, h4, h5, h6, h7, h8, h9, h10, h11, h12, h13, h14, h15, h16, h17, h18, h19, h20, h21, h22, h23⟩ := hW; go_simp) xH0 ?_
      simp only [FL]
      refine hr_take_w 8 (some 60) (.pointer (some ⟨b, off + (a + 1) * 12, none⟩)) rfl rfl (by kernel_rfl) (by kernel_rfl) (by kernel_rfl) rfl (fun W hW => by obtain ⟨h0, h1, h2, h3, h4, h5, h6, h7, h8, h9, h10, h11, h12, h13, h14, h15, h16, h17, h18, h19, h20, h21, h22, h23⟩ := hW; go_simp) xH0 ?_
      simp only [FL]
      refine hr_take_w 9 (some 61) (.agg #[.int .u64 (q1.cl : Nat), .int .u64 (q1.st : Nat), .int .i64 q1.o.kind, .string q1.o.row, .string q1.o.fam, .string q1.o.qual, .int .u64 (q1.o.time : Nat), .string q1.o.to, .slice q1.o.va.ao q1.o.va.n q1.o.va.cap, .slice q1.o.wa.ao q1.o.wa.n q1.o.wa.cap, .bool q1.o.has, .slice q1.o.so q1.o.sn q1.o.sc]) rfl rfl (by kernel_rfl) (by kernel_rfl) (by kernel_rfl) rfl (fun W hW => by obtain ⟨h0, h1, h2, h3, h4, h5, h6, h7, h8, h9, h10, h11, h12, h13, h14, h15, h16, h17, h18, h19, h20, h21, h22, h23⟩ := hW; go_simp) xH0 ?_
      simp only [FL]
      refine hr_take_w 10 (some 62) (.slice (some ⟨b, off, none⟩) n cap) rfl rfl (by kernel_rfl) (by kernel_rfl) (by kernel_rfl) rfl (fun W hW => by obtain ⟨h0, h1, h2, h3, h4, h5, h6, h7, h8, h9, h10, h11, h12, h13, h14, h15, h16, h17, h18, h19, h20, h21, h22, h23⟩ := hW; go_simp) xH0 ?_
      simp only [FL]
      refine hr_take_w 11 (some 63) (.int .i64 (a : Nat)) rfl rfl (by kernel_rfl) (by kernel_rfl) (by kernel_rfl) rfl (fun W hW => by obtain ⟨h0, h1, h2, h3, h4, h5, h6, h7, h8, h9, h10, h11, h12, h13, h14, h15, h16, h17, h18, h19, h20, h21, h22, h23⟩ := hW; go_simp) xH0 ?_
      simp only [FL]
      refine hr_take_w 12 (some 64) (.pointer (some ⟨b, off + a * 12, none⟩)) rfl rfl (by kernel_rfl) (by kernel_rfl) (by kernel_rfl) rfl (fun W hW => by obtain ⟨h0, h1, h2, h3, h4, h5, h6, h7, h8, h9, h10, h11, h12, h13, h14, h15, h16, h17, h18, h19, h20, h21, h22, h23⟩ := hW; go_simp) xH0 ?_
      simp only [FL]
      refine hr_take_w 13 (some 65) (.agg #[.int .u64 (q0.cl : Nat), .int .u64 (q0.st : Nat), .int .i64 q0.o.kind, .string q0.o.row, .string q0.o.fam, .string q0.o.qual, .int .u64 (q0.o.time : Nat), .string q0.o.to, .slice q0.o.va.ao q0.o.va.n q0.o.va.cap, .slice q0.o.wa.ao q0.o.wa.n q0.o.wa.cap, .bool q0.o.has, .slice q0.o.so q0.o.sn q0.o.sc]) rfl rfl (by kernel_rfl) (by kernel_rfl) (by kernel_rfl) rfl (fun W hW => by obtain ⟨h0, h1, h2, h3, h4, h5, h6, h7, h8, h9, h10, h11, h12, h13, h14, h15, h16, h17, h18, h19, h20, h21, h22, h23⟩ := hW; go_simp) xH0 ?_
      simp only [FL]
      refine hr_take_w 14 (some 66) (.pointer (some ⟨g, a * 12, none⟩)) rfl rfl (by kernel_rfl) (by kernel_rfl) (by kernel_rfl) rfl (fun W hW => by obtain ⟨h0, h1, h2, h3, h4, h5, h6, h7, h8, h9, h10, h11, h12, h13, h14, h15, h16, h17, h18, h19, h20, h21, h22, h23⟩ := hW; go_simp) xH0 ?_
      simp only [FL]
      have T0 := GM.there elQ_fine FZ0 a g0
      have st0 := run_storeAt_mid (P := Tryz.prog) xv0 g (a * 12) 33 #[.int .u64 (q1.cl : Nat), .int .u64 (q1.st : Nat), .int .i64 q1.o.kind, .string q1.o.row, .string q1.o.fam, .string q1.o.qual, .int .u64 (q1.o.time : Nat), .string q1.o.to, .slice q1.o.va.ao q1.o.va.n q1.o.va.cap, .slice q1.o.wa.ao q1.o.wa.n q1.o.wa.cap, .bool q1.o.has, .slice q1.o.so q1.o.sn q1.o.sc] T0 szQ (all_oneCell_toArray (elQ_fine.one q1))
      have xE1 : Below w.heap.size w (xv0.setCells g (a * 12) (elQ.c q1)) := xE0.grown (cells_grown xv0 g (a * 12) (elQ.c q1)) xE0.size (fun i hi => by cases hi; exact hgb)
      have xH1 := HS.out _ xE1
      have GM1 := GM.setAt elQ_fine a g0 q1 (elQ_fine.below ok1 xE0) HOFF.out
      have FZ1 : ∀ j, (xv0.setCells g (a * 12) (elQ.c q1)).frozen? ⟨g, j, none⟩ = false := fun j => by rw [World.frozen?_setCells]; exact FZ0 j
      have T1 := GM1.there elQ_fine FZ1 (a + 1) (by rw [List.length_set]; exact g1)
      have st1 := run_storeAt_mid (P := Tryz.prog) (xv0.setCells g (a * 12) (elQ.c q1)) g ((a + 1) * 12) 33 #[.int .u64 (q0.cl : Nat), .int .u64 (q0.st : Nat), .int .i64 q0.o.kind, .string q0.o.row, .string q0.o.fam, .string q0.o.qual, .int .u64 (q0.o.time : Nat), .string q0.o.to, .slice q0.o.va.ao q0.o.va.n q0.o.va.cap, .slice q0.o.wa.ao q0.o.wa.n q0.o.wa.cap, .bool q0.o.has, .slice q0.o.so q0.o.sn q0.o.sc] T1 szQ (all_oneCell_toArray (elQ_fine.one q0))
      have xE2 : Below w.heap.size w ((xv0.setCells g (a * 12) (elQ.c q1)).setCells g ((a + 1) * 12) (elQ.c q0)) := xE1.grown (cells_grown _ g ((a + 1) * 12) (elQ.c q0)) xE1.size (fun i hi => by cases hi; exact hgb)
      have xH2 := HS.out _ xE2
      have GM2 := GM1.setAt elQ_fine (a + 1) (by rw [List.length_set]; exact g1) q0 (elQ_fine.below ok0 xE1) (fun x hx => HOFF2.out x hx)
      refine hr_skip 15 none (w' := xv0.setCells g (a * 12) (elQ.c q1)) rfl rfl (by kernel_rfl) rfl (exec_store rfl rfl rfl st0) xH1 ?_
      simp only [Act.put]
      refine hr_take_w 16 (some 67) (.pointer (some ⟨g, (a + 1) * 12, none⟩)) rfl rfl (by kernel_rfl) (by kernel_rfl) (by kernel_rfl) rfl (fun W hW => by obtain ⟨h0, h1, h2, h3, h4, h5, h6, h7, h8, h9, h10, h11, h12, h13, h14, h15, h16, h17, h18, h19, h20, h21, h22, h23⟩ := hW; go_simp) xH1 ?_
      simp only [FL]
      refine hr_skip 17 none (w' := (xv0.setCells g (a * 12) (elQ.c q1)).setCells g ((a + 1) * 12) (elQ.c q0)) rfl rfl (by kernel_rfl) rfl (exec_store rfl rfl rfl st1) xH2 ?_
      simp only [Act.put]
      refine wpAnyH_done (by kernel_rfl) ?_ _
      refine NoPanic.normal ?_
      obtain ⟨w6, hw6⟩ : ∃ V, V = (xv0.setCells g (a * 12) (elQ.c q1)).setCells g ((a + 1) * 12) (elQ.c q0) := ⟨_, rfl⟩
      have B6 := xE2
      have GM3 := GM2
      rw [show elQ.sz = 12 from rfl] at GM3
      rw [← hw6] at B6 GM3 ⊢
      clear hw6 GM GM1 GM2 T0 T1 st0 st1 xE0 xE1 xE2 xH0 xH1 xH2 FZ0 FZ1 HXD
      go_wp2_with fail
      have yE0 : Below w.heap.size w w6.drew := B6.trans ((Below.refl _ _).drew.mono B6.size)
      have GM3 := GM3.below elQ_fine ((Below.refl _ _).drew)
      refine wp_region_noPanic ?_
      refine wp_region_held_drew (S := fun V => V.cell? ⟨b, off + a * 12, none⟩ = some (.int .u64 (q0.cl : Nat)) ∧ V.cell? ⟨b, off + a * 12 + 1, none⟩ = some (.int .u64 (q0.st : Nat)) ∧ V.cell? ⟨b, off + a * 12 + 2, none⟩ = some (.int .i64 q0.o.kind) ∧ V.cell? ⟨b, off + a * 12 + 3, none⟩ = some (.string q0.o.row) ∧ V.cell? ⟨b, off + a * 12 + 4, none⟩ = some (.string q0.o.fam) ∧ V.cell? ⟨b, off + a * 12 + 5, none⟩ = some (.string q0.o.qual) ∧ V.cell? ⟨b, off + a * 12 + 6, none⟩ = some (.int .u64 (q0.o.time : Nat)) ∧ V.cell? ⟨b, off + a * 12 + 7, none⟩ = some (.string q0.o.to) ∧ V.cell? ⟨b, off + a * 12 + 8, none⟩ = some (.slice q0.o.va.ao q0.o.va.n q0.o.va.cap) ∧ V.cell? ⟨b, off + a * 12 + 9, none⟩ = some (.slice q0.o.wa.ao q0.o.wa.n q0.o.wa.cap) ∧ V.cell? ⟨b, off + a * 12 + 10, none⟩ = some (.bool q0.o.has) ∧ V.cell? ⟨b, off + a * 12 + 11, none⟩ = some (.slice q0.o.so q0.o.sn q0.o.sc) ∧ V.cell? ⟨b, off + (a + 1) * 12, none⟩ = some (.int .u64 (q1.cl : Nat)) ∧ V.cell? ⟨b, off + (a + 1) * 12 + 1, none⟩ = some (.int .u64 (q1.st : Nat)) ∧ V.cell? ⟨b, off + (a + 1) * 12 + 2, none⟩ = some (.int .i64 q1.o.kind) ∧ V.cell? ⟨b, off + (a + 1) * 12 + 3, none⟩ = some (.string q1.o.row) ∧ V.cell? ⟨b, off + (a + 1) * 12 + 4, none⟩ = some (.string q1.o.fam) ∧ V.cell? ⟨b, off + (a + 1) * 12 + 5, none⟩ = some (.string q1.o.qual) ∧ V.cell? ⟨b, off + (a + 1) * 12 + 6, none⟩ = some (.int .u64 (q1.o.time : Nat)) ∧ V.cell? ⟨b, off + (a + 1) * 12 + 7, none⟩ = some (.string q1.o.to) ∧ V.cell? ⟨b, off + (a + 1) * 12 + 8, none⟩ = some (.slice q1.o.va.ao q1.o.va.n q1.o.va.cap) ∧ V.cell? ⟨b, off + (a + 1) * 12 + 9, none⟩ = some (.slice q1.o.wa.ao q1.o.wa.n q1.o.wa.cap) ∧ V.cell? ⟨b, off + (a + 1) * 12 + 10, none⟩ = some (.bool q1.o.has) ∧ V.cell? ⟨b, off + (a + 1) * 12 + 11, none⟩ = some (.slice q1.o.so q1.o.sn q1.o.sc)) (by kernel_rfl) (HS.out _ yE0) (fun yH0 => ?_)
      obtain ⟨yv0, hv0⟩ : ∃ v, v = w6.drew := ⟨_, rfl⟩
      rw [← hv0] at yH0 yE0 GM3 ⊢
      clear hv0
      refine hr_take_w 0 (some 68) (.slice (some ⟨b, off, none⟩) n cap) rfl rfl (by kernel_rfl) (by kernel_rfl) (by kernel_rfl) rfl (fun W hW => by obtain ⟨h0, h1, h2, h3, h4, h5, h6, h7, h8, h9, h10, h11, h12, h13, h14, h15, h16, h17, h18, h19, h20, h21, h22, h23⟩ := hW; go_simp) yH0 ?_
      simp only [FL]
      refine hr_take_w 1 (some 69) (.int .i64 (a : Nat)) rfl rfl (by kernel_rfl) (by kernel_rfl) (by kernel_rfl) rfl (fun W hW => by obtain ⟨h0, h1, h2, h3, h4, h5, h6, h7, h8, h9, h10, h11, h12, h13, h14, h15, h16, h17, h18, h19, h20, h21, h22, h23⟩ := hW; go_simp) yH0 ?_
      simp only [FL]
      refine hr_take_w 2 (some 70) (.pointer (some ⟨b, off + a * 12, none⟩)) rfl rfl (by kernel_rfl) (by kernel_rfl) (by kernel_rfl) rfl (fun W hW => by obtain ⟨h0, h1, h2, h3, h4, h5, h6, h7, h8, h9, h10, h11, h12, h13, h14, h15, h16, h17, h18, h19, h20, h21, h22, h23⟩ := hW; go_simp) yH0 ?_
      simp only [FL]
      refine hr_take_w 3 (some 71) (.agg #[.int .u64 (q0.cl : Nat), .int .u64 (q0.st : Nat), .int .i64 q0.o.kind, .string q0.o.row, .string q0.o.fam, .string q0.o.qual, .int .u64 (q0.o.time : Nat), .string q0.o.to, .slice q0.o.va.ao q0.o.va.n q0.o.va.cap, .slice q0.o.wa.ao q0.o.wa.n q0.o.wa.cap, .bool q0.o.has, .slice q0.o.so q0.o.sn q0.o.sc]) rfl rfl (by kernel_rfl) (by kernel_rfl) (by kernel_rfl) rfl (fun W hW => by obtain ⟨h0, h1, h2, h3, h4, h5, h6, h7, h8, h9, h10, h11, h12, h13, h14, h15, h16, h17, h18, h19, h20, h21, h22, h23⟩ := hW; go_simp) yH0 ?_
      simp only [FL]
      refine hr_take_w 4 (some 72) (.slice (some ⟨b, off, none⟩) n cap) rfl rfl (by kernel_rfl) (by kernel_rfl) (by kernel_rfl) rfl (fun W hW => by obtain ⟨h0, h1, h2, h3, h4, h5, h6, h7, h8, h9, h10, h11, h12, h13, h14, h15, h16, h17, h18, h19, h20, h21, h22, h23⟩ := hW; go_simp) yH0 ?_
      simp only [FL]
      refine hr_take_w 5 (some 73) (.int .i64 (a : Nat)) rfl rfl (by kernel_rfl) (by kernel_rfl) (by kernel_rfl) rfl (fun W hW => by obtain ⟨h0, h1, h2, h3, h4, h5, h6, h7, h8, h9, h10, h11, h12, h13, h14, h15, h16, h17, h18, h19, h20, h21, h22, h23⟩ := hW; go_simp) yH0 ?_
      simp only [FL]
      refine hr_take_w 6 (some 74) (.int .i64 ((a : Int) + 1)) rfl rfl (by kernel_rfl) (by kernel_rfl) (by kernel_rfl) rfl (fun W hW => by obtain ⟨h0, h1, h2, h3, h4, h5, h6, h7, h8, h9, h10, h11, h12, h13, h14, h15, h16, h17, h18, h19, h20, h21, h22, h23⟩ := hW; go_simp) yH0 ?_
      simp only [FL]
      refine hr_take_w 7 (some 75) (.pointer (some ⟨b, off + (a + 1) * 12, none⟩)) rfl rfl (by kernel_rfl) (by kernel_rfl) (by kernel_rfl) rfl (fun W hW => by obtain ⟨h0, h1, h2, h3, h4, h5, h6, h7, h8, h9, h10, h11, h12, h13, h14, h15, h16, h17, h18, h19, h20, h21, h22, h23⟩ := hW; go_simp) yH0 ?_
      simp only [FL]
      refine hr_take_w 8 (some 76) (.agg #[.int .u64 (q1.cl : Nat), .int .u64 (q1.st : Nat), .int .i64 q1.o.kind, .string q1.o.row, .string q1.o.fam, .string q1.o.qual, .int .u64 (q1.o.time : Nat), .string q1.o.to, .slice q1.o.va.ao q1.o.va.n q1.o.va.cap, .slice q1.o.wa.ao q1.o.wa.n q1.o.wa.cap, .bool q1.o.has, .slice q1.o.so q1.o.sn q1.o.sc]) rfl rfl (by kernel_rfl) (by kernel_rfl) (by kernel_rfl) rfl (fun W hW => by obtain ⟨h0, h1, h2, h3, h4, h5, h6, h7, h8, h9, h10, h11, h12, h13, h14, h15, h16, h17, h18, h19, h20, h21, h22, h23⟩ := hW; go_simp) yH0 ?_
      simp only [FL]
      have CR := rreqs_any 3 yv0 q0.cl q0.st q1.cl q1.st y0.x y1.x (OW.below yE0 ow0) (OW.below yE0 ow1) lt0 lt1
      rw [HQ0.out, HQ1.out] at CR
      refine hr_call_w 9 (some 77) 7 #[.agg #[.int .u64 (q0.cl : Nat), .int .u64 (q0.st : Nat), .int .i64 q0.o.kind, .string q0.o.row, .string q0.o.fam, .string q0.o.qual, .int .u64 (q0.o.time : Nat), .string q0.o.to, .slice q0.o.va.ao q0.o.va.n q0.o.va.cap, .slice q0.o.wa.ao q0.o.wa.n q0.o.wa.cap, .bool q0.o.has, .slice q0.o.so q0.o.sn q0.o.sc], .agg #[.int .u64 (q1.cl : Nat), .int .u64 (q1.st : Nat), .int .i64 q1.o.kind, .string q1.o.row, .string q1.o.fam, .string q1.o.qual, .int .u64 (q1.o.time : Nat), .string q1.o.to, .slice q1.o.va.ao q1.o.va.n q1.o.va.cap, .slice q1.o.wa.ao q1.o.wa.n q1.o.wa.cap, .bool q1.o.has, .slice q1.o.so q1.o.sn q1.o.sc]] rfl rfl (by kernel_rfl) rfl (by go_simp) (fun v w' => v = .bool sb2 ∧ Below yv0.heap.size yv0 w') (CR.mono (by
        rintro e w' ⟨rfl, C⟩
        exact ⟨_, rfl, by rw [HSB.out], C⟩)) ?_
      rintro v yv1 ⟨rfl, yC0⟩
      have yE1 := yE0.trans (yC0.mono yE0.size)
      have yH1 := HS.out yv1 yE1
      have GM3 := GM3.below elQ_fine yC0
      clear CR
      refine ⟨yH1, ?_⟩
      simp only [FL]
      refine wpAnyH_done (by kernel_rfl) ?_ _
      refine NoPanic.normal ?_
      clear yH0 yH1 HS
      cases sb2 with
      | true =>
        have HEQ : Hid (((((l.map QE.m).set a q1).set (a + 1) q0).map reqB = (l.map QE.m).map reqB)) := HR3.out rfl
        clear HR3 HSB
        generalize ((l.map QE.m).set a q1).set (a + 1) q0 = M2 at GM3 HEQ
        have LB := L.below elQ_fine yE1
        have TB := HT.out.below yE1 HT.out.two
        have CB := batch_any yv1 (some ⟨b, off, none⟩) n cap (l.map QE.m) LB TB (by omega)
        go_wp2_with fail
        refine CB.mono ?_
        rintro e u2 ⟨v2, rfl, own2, D2⟩
        have U2 := yE1.trans (D2.mono yE1.size)
        have GM4 := GM3.below elQ_fine D2
        obtain ⟨bo, bc, rfl, S2, -⟩ := Sl.own own2 (sumL_byte _)
        have TB := HT.out.below U2 HT.out.two
        have CB := batch_any u2 (some ⟨g, 0, none⟩) n mc _ GM4 TB (by omega)
        rw [HEQ.out] at CB
        clear own2 LB
        go_wp2_with fail
        refine CB.mono ?_
        rintro e u3 ⟨v3, rfl, own3, D3⟩
        have U3 := U2.trans (D3.mono U2.size)
        obtain ⟨co, cc, rfl, S3, -⟩ := Sl.own own3 (sumL_byte _)
        have S2 := S2.below D3
        have CS := same_true u3 bo co 32 bc 32 cc _ S2 S3
        clear CB own3
        go_wp2_with fail
        refine CS.mono ?_
        rintro e u4 ⟨rfl, D4⟩
        have U4 := U3.trans (D4.mono U3.size)
        have CA := alive13 u4
        clear CS S2 S3
        go_wp2_with (go_at_call 4; refine CA.mono ?_; rintro e w9 ⟨rfl, C9⟩)
        go_ret
        exact ⟨rfl, U4.trans (C9.mono U4.size)⟩
      | false =>
        clear HR3 HSB GM3
        have LB := L.below elQ_fine yE1
        have TB := HT.out.below yE1 HT.out.two
        have CB := batch_any yv1 (some ⟨b, off, none⟩) n cap (l.map QE.m) LB TB (by omega)
        go_wp2_with fail
        refine CB.mono ?_
        rintro e u2 ⟨v2, rfl, own2, D2⟩
        have U2 := yE1.trans (D2.mono yE1.size)
        obtain ⟨bo, bc, rfl, S2, -⟩ := Sl.own own2 (sumL_byte _)
        have A1 : Below u2.heap.size u2 (u2.alloc (.cells #[] 33)) := (Below.refl _ _).alloc (Nat.le_refl _) _
        have AR : Arr (u2.alloc (.cells #[] 33)) u2.heap.size 33 [] := heap_alloc_new u2 _
        have U3 := U2.trans (A1.mono U2.size)
        have S2 := S2.below A1
        have usz := U2.size
        clear CB own2 LB
        go_wp2_with (refine stop_at (.call { callee := .builtin .append, args := #[Operand.tmp 88, Operand.tmp 89], argTypes := #[22, 22] }) rfl ?_)
        refine ⟨?_⟩
        obtain ⟨v', u4, hr, N5, C5⟩ := run_appG0 (w0 := w) elQ_fine tyQ 22 usz AR (L.below elQ_fine U3) HOK.out (by omega) (by omega) U3.size
        refine wpList_append_run rfl (.tmp 88) (.tmp 89) rfl rfl rfl hr ?_
        have U4 := U3.trans (C5.mono U3.size)
        obtain ⟨go, hc2, rfl, GM4, -⟩ := N5.gl elQ_fine U4
        rw [List.length_map, hl] at GM4
        rw [List.length_map, hl]
        have S2 := S2.below C5
        have TB := HT.out.below U4 HT.out.two
        have CB := batch_any u4 go n hc2 _ GM4 TB (by omega)
        clear hr N5 A1 AR C5
        go_wp2_with fail
        refine CB.mono ?_
        rintro e u5 ⟨v3, rfl, own3, D3⟩
        have U5 := U4.trans (D3.mono U4.size)
        obtain ⟨co, cc, rfl, S3, -⟩ := Sl.own own3 (sumL_byte _)
        have S2 := S2.below D3
        have CS := same_true u5 bo co 32 bc 32 cc _ S2 S3
        clear CB own3
        go_wp2_with fail
        refine CS.mono ?_
        rintro e u6 ⟨rfl, D4⟩
        have U6 := U5.trans (D4.mono U5.size)
        have CA := alive13 u6
        clear CS S2 S3
        go_wp2_with (go_at_call 4; refine CA.mono ?_; rintro e w9 ⟨rfl, C9⟩)
        go_ret
        exact ⟨rfl, U6.trans (C9.mono U6.size)⟩
set_option maxRecDepth 100000 in
set_option maxHeartbeats 8000000 in
theorem messageOrder_any (w : World) (ao : Option Addr) (n cap : Nat) (l : List QE) (x : Int) (L : GL elQ w ao n cap (l.map QE.m)) (ow : ∀ y ∈ l, OW w 3 y.x) (sm : ∀ y ∈ l, OSm 3 y.x) (_ : (Lit.int .i64 x).wf = true) (hT : Tabs w) :
    Calls Tryz.prog 3 #[.slice ao n cap, .int .i64 x] w fun e w' => e = .returned (.bool true) ∧ Below w.heap.size w w' := by
  have CA := alive13 w
  have hm := L.mx
  have hle := L.le
  simp only [maxLen] at hm
  by_cases c8 : 8 < n
  · have i8 : (8 : Int) < (n : Int) := by omega
    clear c8 L ow sm hT
    go_enter Tryz.func3, Tryz.ntmps3
    go_wp2_with (go_at_call 4; refine CA.mono ?_; rintro e w9 ⟨rfl, C9⟩)
    go_ret
    exact ⟨rfl, C9⟩
  · have i8 : (n : Int) ≤ 8 := by omega
    by_cases c0 : x < 0
    · clear c8 L ow sm hT
      go_enter Tryz.func3, Tryz.ntmps3
      go_wp2_with (go_at_call 4; refine CA.mono ?_; rintro e w9 ⟨rfl, C9⟩)
      go_ret
      exact ⟨rfl, C9⟩
    · by_cases c1 : (n : Int) - 2 < x
      · have j1 : 0 ≤ x := by omega
        clear c8 c0 L ow sm hT
        go_enter Tryz.func3, Tryz.ntmps3
        go_wp2_with (go_at_call 4; refine CA.mono ?_; rintro e w9 ⟨rfl, C9⟩)
        go_ret
        exact ⟨rfl, C9⟩
      · obtain ⟨a, rfl⟩ : ∃ a : Nat, x = a := ⟨x.toNat, by omega⟩
        exact order_in w ao n cap a l L ow sm hT (by omega) (by omega)
end Go.Proofs.YtcgphdipfekccaaGreatDoor

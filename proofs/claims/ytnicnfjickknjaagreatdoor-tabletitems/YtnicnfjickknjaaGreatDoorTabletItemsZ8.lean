/-
  Texts in one: TbPut, TbGet, Less, TbRow, PSame, PLeafM, PLeaf, PParts, PRight, TbDo, TbApply, SlConst.
-/
import Derived.Test.YtnicnfjickknjaaGreatDoorTabletItemsZ4
import Derived.Test.YtnicnfjickknjaaGreatDoorTabletItemsZ7
import Derived.Test.YtnicnfjickknjaaGreatDoorTabletItemsZ0
import Derived.Test.YtnicnfjickknjaaGreatDoorTabletItemsZ2
import Derived.Lib.SlBytesConst
namespace Go.Proofs.YtnicnfjickknjaaGreatDoor
open Go.RowKit

def CV.ky (c : CV) : KA := ⟨c.row, c.fam, c.qual, c.time⟩
/-- A cell is put. -/
def mPut (cs : List CV) (c : CV) : List CV × Int :=
  if (colC c.ky cs).any (eqK c.ky) = false ∧ (colC c.ky cs).length < 4 ∧ 32 ≤ cs.length then (cs, 9)
  else match (colC c.ky (cIns cs c)).getLast? with
    | none => (cIns cs c, 0)
    | some x => if 4 < (colC c.ky (cIns cs c)).length then (cDel (cIns cs c) x.kv, 0) else (cIns cs c, 0)
/-- It is not full. -/
def NotFull (cs : List CV) (c : CV) : Prop := ¬ ((colC c.ky cs).any (eqK c.ky) = false ∧ (colC c.ky cs).length < 4 ∧ 32 ≤ cs.length)
theorem mPut_is9 {cs : List CV} {c : CV} (h : (colC c.ky cs).any (eqK c.ky) = false ∧ (colC c.ky cs).length < 4 ∧ 32 ≤ cs.length) : mPut cs c = (cs, 9) := by
  unfold mPut
  rw [if_pos h]
theorem mPut_full {cs : List CV} {c x : CV} (h : NotFull cs c) {l2 : List CV} (e : l2 = colC c.ky (cIns cs c)) (hl : 4 < l2.length) (hx : l2.getLast? = some x) : mPut cs c = (cDel (cIns cs c) x.kv, 0) := by
  unfold mPut
  rw [if_neg h, ← e, hx]
  simp only
  rw [if_pos hl]
theorem mPut_few {cs : List CV} {c : CV} (h : NotFull cs c) {l2 : List CV} (e : l2 = colC c.ky (cIns cs c)) (hl : ¬ 4 < l2.length) : mPut cs c = (cIns cs c, 0) := by
  unfold mPut
  rw [if_neg h, ← e]
  cases l2.getLast? with
  | none => rfl
  | some x => simp only; rw [if_neg hl]
def PutPost10 (w : World) (p : Nat) (f t : ByteArray) (r : List CV × Int) (e : Ending) (w' : World) : Prop := e = .returned (.int .i64 r.2) ∧ TB w' p f t r.1 ∧ Wr p w w'

set_option maxHeartbeats 4000000 in
set_option maxRecDepth 100000 in
theorem put_any (w : World) (p : Nat) (f t : ByteArray) (cs : List CV) (c : CA) (hTb : Tabs w) (hT : TB w p f t cs) (hs : CSrt cs) (hg : CGood cs) (hn : cs.length ≤ 900) (hok : c.ok w) (hgd : c.c.good) (hcn : c.va.n ≤ 100000) :
    Calls Tryz.prog 63 #[.pointer (some ⟨p, 0, none⟩), c.val] w (PutPost10 w p f t (mPut cs c.c)) := by
  have t2 := hTb.two
  have hp := hT.lt
  have hn : cs.length ≤ 1000 := by omega
  have hrow : c.key.row.size ≤ 32 := by have := hgd.right.2.1; rw [show c.c.kv.row = sb c.row from rfl, sb_len] at this; exact this
  obtain ⟨W1, hW1⟩ : ∃ V, V = w.alloc (.cells #[.string c.row, .string c.fam, .string c.qual, .int .u64 c.time, .slice c.va.ao c.va.n c.va.cap, .bool c.gone] 27) := ⟨_, rfl⟩
  have C1 : Below w.heap.size w W1 := by rw [hW1]; exact (Below.refl _ _).alloc (Nat.le_refl _) _
  have A1 : Arr W1 w.heap.size 27 (#[.string c.row, .string c.fam, .string c.qual, .int .u64 c.time, .slice c.va.ao c.va.n c.va.cap, .bool c.gone]).toList := by rw [hW1]; exact heap_alloc_new w _
  have CO := column_any W1 p f t cs c.key (hT.below C1) hs hg hrow hn
  rw [show c.key.val = .agg #[.string c.row, .string c.fam, .string c.qual, .int .u64 c.time] from rfl] at CO
  unfold CA.val
  go_enter Tryz.func63, Tryz.ntmps63
  go_wp2_with fail
  rw [← hW1]
  clear hW1
  refine CO.mono ?_
  rintro e w2 ⟨ao, n1, cap, l, rfl, h1, -, hl, C2⟩
  have B2 := C1.trans (C2.mono C1.size)
  have A2 := arr_below A1 C2
  have HL : Hid (l.map CA.c = colC c.key cs) := hl
  have hn1 : n1 ≤ 1000 := by
    have h3 := congrArg List.length hl
    rw [List.length_map, h1.len] at h3
    have h4 := List.length_filter_le (fun x : CV => x.col c.key) cs
    unfold colC at h3
    omega
  have HLN : Hid (n1 = (colC c.c.ky cs).length) := by show _ = _; rw [show c.c.ky = c.key from rfl, ← hl, List.length_map, h1.len]
  obtain ⟨bb, hbb⟩ : ∃ bb, bb = (l.map CA.c).any (eqK c.key) := ⟨_, rfl⟩
  have HBB : Hid (bb = (l.map CA.c).any (eqK c.key)) := hbb
  have HB2 : Hid (bb = (colC c.c.ky cs).any (eqK c.c.ky)) := by show _ = _; rw [hbb, hl]; rfl
  have CH := has_any w2 ao n1 cap l c.key h1 hn1 bb HBB
  rw [show c.key.val = .agg #[.string c.row, .string c.fam, .string c.qual, .int .u64 c.time] from rfl] at CH
  have q0 : w2.cell? ⟨w.heap.size, 0, none⟩ = some (.string c.row) := A2.cell 0
  have q1 : w2.cell? ⟨w.heap.size, 1, none⟩ = some (.string c.fam) := A2.cell 1
  have q2 : w2.cell? ⟨w.heap.size, 2, none⟩ = some (.string c.qual) := A2.cell 2
  have q3 : w2.cell? ⟨w.heap.size, 3, none⟩ = some (.int .u64 c.time) := A2.cell 3
  have q4 : w2.cell? ⟨w.heap.size, 4, none⟩ = some (.slice c.va.ao c.va.n c.va.cap) := A2.cell 4
  have q5 : w2.cell? ⟨w.heap.size, 5, none⟩ = some (.bool c.gone) := A2.cell 5
  clear CO hl hbb C2
  go_wp2_with fail
  refine CH.mono ?_
  rintro e w3 ⟨rfl, C3⟩
  have B3 := B2.trans (C3.mono B2.size)
  have A3 := arr_below A2 C3
  clear CH q0 q1 q2 q3 q4 q5 h1 HBB A2 A1
  have X3 := hT.below B3
  cases bb with
  | true =>
    have HNF : Hid (NotFull cs c.c) := fun h => by rw [h.1] at HB2; exact absurd HB2.out (by simp)
    have X4 := X3
    have A4 := A3
    have B4 := B3
    clear X3 A3 HB2 HLN
    have q0 : w3.cell? ⟨w.heap.size, 0, none⟩ = some (.string c.row) := A4.cell 0
    have q1 : w3.cell? ⟨w.heap.size, 1, none⟩ = some (.string c.fam) := A4.cell 1
    have q2 : w3.cell? ⟨w.heap.size, 2, none⟩ = some (.string c.qual) := A4.cell 2
    have q3 : w3.cell? ⟨w.heap.size, 3, none⟩ = some (.int .u64 c.time) := A4.cell 3
    have q4 : w3.cell? ⟨w.heap.size, 4, none⟩ = some (.slice c.va.ao c.va.n c.va.cap) := A4.cell 4
    have q5 : w3.cell? ⟨w.heap.size, 5, none⟩ = some (.bool c.gone) := A4.cell 5
    have CL := lay_any w3 p f t cs c (hTb.below B4 t2) X4 hs hn (hok.below B4) hgd hcn
    unfold CA.val at CL
    go_wp2_with fail
    refine CL.mono ?_
    rintro e w5 ⟨rfl, X5, K5⟩
    clear CL q0 q1 q2 q3 q4 q5
    have A5 : Arr w5 w.heap.size 27 (#[.string c.row, .string c.fam, .string c.qual, .int .u64 c.time, .slice c.va.ao c.va.n c.va.cap, .bool c.gone]).toList := (K5.block _ A4.lt (by omega)).trans A4
    have q0 : w5.cell? ⟨w.heap.size, 0, none⟩ = some (.string c.row) := A5.cell 0
    have q1 : w5.cell? ⟨w.heap.size, 1, none⟩ = some (.string c.fam) := A5.cell 1
    have q2 : w5.cell? ⟨w.heap.size, 2, none⟩ = some (.string c.qual) := A5.cell 2
    have q3 : w5.cell? ⟨w.heap.size, 3, none⟩ = some (.int .u64 c.time) := A5.cell 3
    have q4 : w5.cell? ⟨w.heap.size, 4, none⟩ = some (.slice c.va.ao c.va.n c.va.cap) := A5.cell 4
    have q5 : w5.cell? ⟨w.heap.size, 5, none⟩ = some (.bool c.gone) := A5.cell 5
    have CO := column_any w5 p f t (cIns cs c.c) c.key X5 (hs.ins _) (hg.ins hgd) hrow (by have := cIns_len cs c.c; omega)
    rw [show c.key.val = .agg #[.string c.row, .string c.fam, .string c.qual, .int .u64 c.time] from rfl] at CO
    have K5' := (Wr.of (p := p) B4).trans K5
    clear X4 A4 B4
    go_wp2_with fail
    refine CO.mono ?_
    rintro e w6 ⟨ao2, n2, cap2, l2, rfl, h2, -, hl2, C6⟩
    have X6 := X5.below C6
    have K6 := K5'.trans (Wr.of C6)
    have HL2 : Hid (l2.map CA.c = colC c.key (cIns cs c.c)) := hl2
    have hll := h2.len
    have hb2 : l2.length ≤ 1001 := by
      have h3 := congrArg List.length hl2
      rw [List.length_map] at h3
      have h4 := List.length_filter_le (fun x : CV => x.col c.key) (cIns cs c.c)
      have h5 := cIns_len cs c.c
      unfold colC at h3
      omega
    clear CO hl2 X5 q0 q1 q2 q3 q4 q5
    by_cases g4 : 4 < n2
    · have i4 : (4 : Int) < (n2 : Int) := by omega
      have hlt : n2 - 1 < l2.length := by omega
      have hxi : (((n2 - 1 : Nat) : Int)) = (n2 : Int) - 1 := by omega
      have hnw : IntKind.i64.wrap ((n2 : Int) - 1) = (n2 : Int) - 1 := by simp [IntKind.wrap, IntKind.bits, IntKind.signed]; omega
      have hnl : (n2 : Int) - 1 < (n2 : Int) := by omega
      have hn0 : (0 : Int) ≤ (n2 : Int) - 1 := by omega
      have htn : ((n2 : Int) - 1).toNat = n2 - 1 := by omega
      obtain ⟨lb, lo, rfl, hc2⟩ := h2.at (by omega)
      have X := hc2 (n2 - 1) hlt
      have hdm : l2[n2 - 1].c ∈ cIns cs c.c := by
        have : l2[n2 - 1].c ∈ l2.map CA.c := List.mem_map.2 ⟨_, List.getElem_mem hlt, rfl⟩
        rw [HL2.out] at this
        exact (List.mem_filter.1 this).1
      have hdg := (hg.ins hgd) _ hdm
      have hdo := h2.ok _ (List.getElem_mem hlt)
      have HM : Hid (mPut cs c.c = (cDel (cIns cs c.c) l2[n2 - 1].c.kv, 0)) := by
        show _ = _
        refine mPut_full HNF.out (l2 := l2.map CA.c) HL2.out (by rw [List.length_map]; omega) ?_
        rw [List.getLast?_map, List.getLast?_eq_getElem?, hll, List.getElem?_eq_getElem hlt]
        rfl
      obtain ⟨d, hde⟩ : ∃ d, d = l2[n2 - 1] := ⟨_, rfl⟩
      rw [← hde] at X hdg hdo HM
      obtain ⟨r0, r1, r2, r3, r4, r5⟩ := X
      have hdn : d.va.n ≤ 100000 := by rw [← hdo.va.len]; have := hdg.val; show d.c.value.length ≤ _; omega
      have CT := take_any w6 p f t (cIns cs c.c) d X6 (hs.ins _) (by have := cIns_len cs c.c; omega) hdo hdg hdn
      unfold CA.val at CT
      clear hc2 hde hdm h2
      go_wp2_with fail
      refine CT.mono ?_
      rintro e w7 ⟨rfl, X7, K7⟩
      go_wp2
      go_ret
      exact ⟨by rw [HM.out] <;> rfl, by rw [HM.out]; exact X7, K6.trans K7⟩
    · have i4 : ¬ (4 : Int) < (n2 : Int) := by omega
      have HM : Hid (mPut cs c.c = (cIns cs c.c, 0)) := mPut_few HNF.out (l2 := l2.map CA.c) HL2.out (by rw [List.length_map]; omega)
      go_wp2
      go_ret
      exact ⟨by rw [HM.out] <;> rfl, by rw [HM.out]; exact X6, K6⟩
  | false =>
    by_cases g1 : n1 < 4
    · have i1 : (n1 : Int) < 4 := by omega
      obtain ⟨u, AU, TU⟩ := X3
      have c2 : w3.cell? ⟨p, 2, none⟩ = some (.pointer u) := Arr.cell AU 2
      have CN := len_any w3 (.pointer u) (cs.map itm) TU hs (by rw [List.length_map]; omega)
      rw [List.length_map] at CN
      go_wp2_with fail
      refine CN.mono ?_
      rintro e w4 ⟨rfl, C4⟩
      have B4 := B3.trans (C4.mono B3.size)
      have A4 := arr_below A3 C4
      have X4 := hT.below B4
      clear CN c2 TU AU A3 C4
      by_cases g2 : 32 ≤ cs.length
      · have i2 : (32 : Int) ≤ (cs.length : Int) := by omega
        have HM : Hid (mPut cs c.c = (cs, 9)) := mPut_is9 ⟨HB2.out.symm, by rw [← HLN.out]; exact g1, g2⟩
        go_wp2
        go_ret
        exact ⟨by rw [HM.out] <;> rfl, by rw [HM.out]; exact X4, Wr.of B4⟩
      · have i2 : ¬ (32 : Int) ≤ (cs.length : Int) := by omega
        have HNF : Hid (NotFull cs c.c) := fun h => g2 h.2.2
        clear g2 HB2 HLN
        have q0 : w4.cell? ⟨w.heap.size, 0, none⟩ = some (.string c.row) := A4.cell 0
        have q1 : w4.cell? ⟨w.heap.size, 1, none⟩ = some (.string c.fam) := A4.cell 1
        have q2 : w4.cell? ⟨w.heap.size, 2, none⟩ = some (.string c.qual) := A4.cell 2
        have q3 : w4.cell? ⟨w.heap.size, 3, none⟩ = some (.int .u64 c.time) := A4.cell 3
        have q4 : w4.cell? ⟨w.heap.size, 4, none⟩ = some (.slice c.va.ao c.va.n c.va.cap) := A4.cell 4
        have q5 : w4.cell? ⟨w.heap.size, 5, none⟩ = some (.bool c.gone) := A4.cell 5
        have CL := lay_any w4 p f t cs c (hTb.below B4 t2) X4 hs hn (hok.below B4) hgd hcn
        unfold CA.val at CL
        go_wp2_with fail
        refine CL.mono ?_
        rintro e w5 ⟨rfl, X5, K5⟩
        clear CL q0 q1 q2 q3 q4 q5
        have A5 : Arr w5 w.heap.size 27 (#[.string c.row, .string c.fam, .string c.qual, .int .u64 c.time, .slice c.va.ao c.va.n c.va.cap, .bool c.gone]).toList := (K5.block _ A4.lt (by omega)).trans A4
        have q0 : w5.cell? ⟨w.heap.size, 0, none⟩ = some (.string c.row) := A5.cell 0
        have q1 : w5.cell? ⟨w.heap.size, 1, none⟩ = some (.string c.fam) := A5.cell 1
        have q2 : w5.cell? ⟨w.heap.size, 2, none⟩ = some (.string c.qual) := A5.cell 2
        have q3 : w5.cell? ⟨w.heap.size, 3, none⟩ = some (.int .u64 c.time) := A5.cell 3
        have q4 : w5.cell? ⟨w.heap.size, 4, none⟩ = some (.slice c.va.ao c.va.n c.va.cap) := A5.cell 4
        have q5 : w5.cell? ⟨w.heap.size, 5, none⟩ = some (.bool c.gone) := A5.cell 5
        have CO := column_any w5 p f t (cIns cs c.c) c.key X5 (hs.ins _) (hg.ins hgd) hrow (by have := cIns_len cs c.c; omega)
        rw [show c.key.val = .agg #[.string c.row, .string c.fam, .string c.qual, .int .u64 c.time] from rfl] at CO
        have K5' := (Wr.of (p := p) B4).trans K5
        clear X4 A4 B4
        go_wp2_with fail
        refine CO.mono ?_
        rintro e w6 ⟨ao2, n2, cap2, l2, rfl, h2, -, hl2, C6⟩
        have X6 := X5.below C6
        have K6 := K5'.trans (Wr.of C6)
        have HL2 : Hid (l2.map CA.c = colC c.key (cIns cs c.c)) := hl2
        have hll := h2.len
        have hb2 : l2.length ≤ 1001 := by
          have h3 := congrArg List.length hl2
          rw [List.length_map] at h3
          have h4 := List.length_filter_le (fun x : CV => x.col c.key) (cIns cs c.c)
          have h5 := cIns_len cs c.c
          unfold colC at h3
          omega
        clear CO hl2 X5 q0 q1 q2 q3 q4 q5
        by_cases g4 : 4 < n2
        · have i4 : (4 : Int) < (n2 : Int) := by omega
          have hlt : n2 - 1 < l2.length := by omega
          have hxi : (((n2 - 1 : Nat) : Int)) = (n2 : Int) - 1 := by omega
          have hnw : IntKind.i64.wrap ((n2 : Int) - 1) = (n2 : Int) - 1 := by simp [IntKind.wrap, IntKind.bits, IntKind.signed]; omega
          have hnl : (n2 : Int) - 1 < (n2 : Int) := by omega
          have hn0 : (0 : Int) ≤ (n2 : Int) - 1 := by omega
          have htn : ((n2 : Int) - 1).toNat = n2 - 1 := by omega
          obtain ⟨lb, lo, rfl, hc2⟩ := h2.at (by omega)
          have X := hc2 (n2 - 1) hlt
          have hdm : l2[n2 - 1].c ∈ cIns cs c.c := by
            have : l2[n2 - 1].c ∈ l2.map CA.c := List.mem_map.2 ⟨_, List.getElem_mem hlt, rfl⟩
            rw [HL2.out] at this
            exact (List.mem_filter.1 this).1
          have hdg := (hg.ins hgd) _ hdm
          have hdo := h2.ok _ (List.getElem_mem hlt)
          have HM : Hid (mPut cs c.c = (cDel (cIns cs c.c) l2[n2 - 1].c.kv, 0)) := by
            show _ = _
            refine mPut_full HNF.out (l2 := l2.map CA.c) HL2.out (by rw [List.length_map]; omega) ?_
            rw [List.getLast?_map, List.getLast?_eq_getElem?, hll, List.getElem?_eq_getElem hlt]
            rfl
          obtain ⟨d, hde⟩ : ∃ d, d = l2[n2 - 1] := ⟨_, rfl⟩
          rw [← hde] at X hdg hdo HM
          obtain ⟨r0, r1, r2, r3, r4, r5⟩ := X
          have hdn : d.va.n ≤ 100000 := by rw [← hdo.va.len]; have := hdg.val; show d.c.value.length ≤ _; omega
          have CT := take_any w6 p f t (cIns cs c.c) d X6 (hs.ins _) (by have := cIns_len cs c.c; omega) hdo hdg hdn
          unfold CA.val at CT
          clear hc2 hde hdm h2
          go_wp2_with fail
          refine CT.mono ?_
          rintro e w7 ⟨rfl, X7, K7⟩
          go_wp2
          go_ret
          exact ⟨by rw [HM.out] <;> rfl, by rw [HM.out]; exact X7, K6.trans K7⟩
        · have i4 : ¬ (4 : Int) < (n2 : Int) := by omega
          have HM : Hid (mPut cs c.c = (cIns cs c.c, 0)) := mPut_few HNF.out (l2 := l2.map CA.c) HL2.out (by rw [List.length_map]; omega)
          go_wp2
          go_ret
          exact ⟨by rw [HM.out] <;> rfl, by rw [HM.out]; exact X6, K6⟩
    · have i1 : ¬ (n1 : Int) < 4 := by omega
      have HNF : Hid (NotFull cs c.c) := fun h => g1 (by rw [HLN.out]; exact h.2.1)
      have X4 := X3
      have A4 := A3
      have B4 := B3
      clear X3 A3 HB2 HLN
      have q0 : w3.cell? ⟨w.heap.size, 0, none⟩ = some (.string c.row) := A4.cell 0
      have q1 : w3.cell? ⟨w.heap.size, 1, none⟩ = some (.string c.fam) := A4.cell 1
      have q2 : w3.cell? ⟨w.heap.size, 2, none⟩ = some (.string c.qual) := A4.cell 2
      have q3 : w3.cell? ⟨w.heap.size, 3, none⟩ = some (.int .u64 c.time) := A4.cell 3
      have q4 : w3.cell? ⟨w.heap.size, 4, none⟩ = some (.slice c.va.ao c.va.n c.va.cap) := A4.cell 4
      have q5 : w3.cell? ⟨w.heap.size, 5, none⟩ = some (.bool c.gone) := A4.cell 5
      have CL := lay_any w3 p f t cs c (hTb.below B4 t2) X4 hs hn (hok.below B4) hgd hcn
      unfold CA.val at CL
      go_wp2_with fail
      refine CL.mono ?_
      rintro e w5 ⟨rfl, X5, K5⟩
      clear CL q0 q1 q2 q3 q4 q5
      have A5 : Arr w5 w.heap.size 27 (#[.string c.row, .string c.fam, .string c.qual, .int .u64 c.time, .slice c.va.ao c.va.n c.va.cap, .bool c.gone]).toList := (K5.block _ A4.lt (by omega)).trans A4
      have q0 : w5.cell? ⟨w.heap.size, 0, none⟩ = some (.string c.row) := A5.cell 0
      have q1 : w5.cell? ⟨w.heap.size, 1, none⟩ = some (.string c.fam) := A5.cell 1
      have q2 : w5.cell? ⟨w.heap.size, 2, none⟩ = some (.string c.qual) := A5.cell 2
      have q3 : w5.cell? ⟨w.heap.size, 3, none⟩ = some (.int .u64 c.time) := A5.cell 3
      have q4 : w5.cell? ⟨w.heap.size, 4, none⟩ = some (.slice c.va.ao c.va.n c.va.cap) := A5.cell 4
      have q5 : w5.cell? ⟨w.heap.size, 5, none⟩ = some (.bool c.gone) := A5.cell 5
      have CO := column_any w5 p f t (cIns cs c.c) c.key X5 (hs.ins _) (hg.ins hgd) hrow (by have := cIns_len cs c.c; omega)
      rw [show c.key.val = .agg #[.string c.row, .string c.fam, .string c.qual, .int .u64 c.time] from rfl] at CO
      have K5' := (Wr.of (p := p) B4).trans K5
      clear X4 A4 B4
      go_wp2_with fail
      refine CO.mono ?_
      rintro e w6 ⟨ao2, n2, cap2, l2, rfl, h2, -, hl2, C6⟩
      have X6 := X5.below C6
      have K6 := K5'.trans (Wr.of C6)
      have HL2 : Hid (l2.map CA.c = colC c.key (cIns cs c.c)) := hl2
      have hll := h2.len
      have hb2 : l2.length ≤ 1001 := by
        have h3 := congrArg List.length hl2
        rw [List.length_map] at h3
        have h4 := List.length_filter_le (fun x : CV => x.col c.key) (cIns cs c.c)
        have h5 := cIns_len cs c.c
        unfold colC at h3
        omega
      clear CO hl2 X5 q0 q1 q2 q3 q4 q5
      by_cases g4 : 4 < n2
      · have i4 : (4 : Int) < (n2 : Int) := by omega
        have hlt : n2 - 1 < l2.length := by omega
        have hxi : (((n2 - 1 : Nat) : Int)) = (n2 : Int) - 1 := by omega
        have hnw : IntKind.i64.wrap ((n2 : Int) - 1) = (n2 : Int) - 1 := by simp [IntKind.wrap, IntKind.bits, IntKind.signed]; omega
        have hnl : (n2 : Int) - 1 < (n2 : Int) := by omega
        have hn0 : (0 : Int) ≤ (n2 : Int) - 1 := by omega
        have htn : ((n2 : Int) - 1).toNat = n2 - 1 := by omega
        obtain ⟨lb, lo, rfl, hc2⟩ := h2.at (by omega)
        have X := hc2 (n2 - 1) hlt
        have hdm : l2[n2 - 1].c ∈ cIns cs c.c := by
          have : l2[n2 - 1].c ∈ l2.map CA.c := List.mem_map.2 ⟨_, List.getElem_mem hlt, rfl⟩
          rw [HL2.out] at this
          exact (List.mem_filter.1 this).1
        have hdg := (hg.ins hgd) _ hdm
        have hdo := h2.ok _ (List.getElem_mem hlt)
        have HM : Hid (mPut cs c.c = (cDel (cIns cs c.c) l2[n2 - 1].c.kv, 0)) := by
          show _ = _
          refine mPut_full HNF.out (l2 := l2.map CA.c) HL2.out (by rw [List.length_map]; omega) ?_
          rw [List.getLast?_map, List.getLast?_eq_getElem?, hll, List.getElem?_eq_getElem hlt]
          rfl
        obtain ⟨d, hde⟩ : ∃ d, d = l2[n2 - 1] := ⟨_, rfl⟩
        rw [← hde] at X hdg hdo HM
        obtain ⟨r0, r1, r2, r3, r4, r5⟩ := X
        have hdn : d.va.n ≤ 100000 := by rw [← hdo.va.len]; have := hdg.val; show d.c.value.length ≤ _; omega
        have CT := take_any w6 p f t (cIns cs c.c) d X6 (hs.ins _) (by have := cIns_len cs c.c; omega) hdo hdg hdn
        unfold CA.val at CT
        clear hc2 hde hdm h2
        go_wp2_with fail
        refine CT.mono ?_
        rintro e w7 ⟨rfl, X7, K7⟩
        go_wp2
        go_ret
        exact ⟨by rw [HM.out] <;> rfl, by rw [HM.out]; exact X7, K6.trans K7⟩
      · have i4 : ¬ (4 : Int) < (n2 : Int) := by omega
        have HM : Hid (mPut cs c.c = (cIns cs c.c, 0)) := mPut_few HNF.out (l2 := l2.map CA.c) HL2.out (by rw [List.length_map]; omega)
        go_wp2
        go_ret
        exact ⟨by rw [HM.out] <;> rfl, by rw [HM.out]; exact X6, K6⟩
end Go.Proofs.YtnicnfjickknjaaGreatDoor

namespace Go.Proofs.YtnicnfjickknjaaGreatDoor
open Go.RowKit

set_option maxHeartbeats 1000000 in
theorem only_any (w : World) (k : Int) : Calls Tryz.prog 39 #[.int .i64 k] w fun e w' => e = .returned (resV k none 0 0 false) ∧ Below w.heap.size w w' := by
  have B : Below w.heap.size w (w.alloc (.cells #[.int .i64 k, .slice none 0 0, .bool false] 50)) := (Below.refl _ _).alloc (Nat.le_refl _) _
  go_enter Tryz.func39, Tryz.ntmps39
  go_wp2
  exact bodyPost_ret (v := .agg #[.int .i64 k, .slice none 0 0, .bool false]) (by simp [results, Tryz.results39, go_sem]) rfl ⟨rfl, B⟩
/-- The newest of a column. -/
def mGet (cs : List CV) (k : KA) : RV := match (colC k cs).head? with
  | none => ⟨7, [], false⟩
  | some c => if c.gone then ⟨7, [], false⟩ else ⟨0, [c], false⟩
/-- A result is answered, in new memory. -/
def ResP (r : RV) (e : Ending) (w' : World) : Prop := ∃ ao n cap l, e = .returned (resV r.e ao n cap r.more) ∧ CL w' ao n cap l ∧ l.map CA.c = r.cells
theorem ResP.bad (k : Int) (w' : World) : ResP ⟨k, [], false⟩ (.returned (resV k none 0 0 false)) w' := ⟨none, 0, 0, [], rfl, CL.nothing _, rfl⟩
theorem CL.one (w : World) (c : CA) (h : c.ok (w.alloc (.cells #[.string c.row, .string c.fam, .string c.qual, .int .u64 c.time, .slice c.va.ao c.va.n c.va.cap, .bool c.gone] 27))) : CL (w.alloc (.cells #[.string c.row, .string c.fam, .string c.qual, .int .u64 c.time, .slice c.va.ao c.va.n c.va.cap, .bool c.gone] 27)) (some ⟨w.heap.size, 0, none⟩) 1 1 [c] := by
  refine ⟨rfl, Nat.le_refl _, by decide, fun h => by simp at h, fun a ha i hi j v hv => ?_, fun d hd => by rw [List.mem_singleton.1 hd]; exact h⟩
  obtain rfl := Option.some.inj ha
  obtain rfl : i = 0 := by simp at hi; exact hi
  rw [Addr.add_lit, Nat.zero_mul, Nat.zero_add, Nat.zero_add, cell_of_row _ w.heap.size j _ _ _ (heap_alloc_new w _)]
  simpa [CA.cells] using hv
/-- Cells stand while a result's block is written. -/
theorem CL.wr {w w' : World} {p : Nat} {x y z : Value} (h : Arr w p 50 [x, y, z]) (hx : ∀ s, x ≠ .int .u8 s) (hx2 : ∀ s, x ≠ .string s) (hy : ∀ s, y ≠ .int .u8 s) (hy2 : ∀ s, y ≠ .string s) (hz : ∀ s, z ≠ .int .u8 s) (hz2 : ∀ s, z ≠ .string s) (k : Wr p w w') {ao : Option Addr} {n cap : Nat} {l : List CA} (S : CL w ao n cap l) : CL w' ao n cap l := by
  refine ⟨S.len, S.le, S.mx, S.nil, fun a ha i hi j v hv => ?_, fun c hc => ⟨(S.ok c hc).row, (S.ok c hc).fam, (S.ok c hc).qual, (S.ok c hc).time, (S.ok c hc).va.wr h (by intro v hv; simp only [List.mem_cons, List.not_mem_nil, or_false] at hv; rcases hv with rfl | rfl | rfl <;> assumption) k⟩⟩
  have h0 := S.cell a ha i hi 0 _ rfl
  have hne : a.block ≠ p := fun e => by
    have e2 : (a.add (i * 6 + 0)).block = p := (add_block _ _).trans e
    generalize a.add (i * 6 + 0) = ad at h0 e2
    obtain ⟨b, off, spot⟩ := ad
    obtain rfl : b = p := e2
    have hs : spot = none := World.cell?_spot h0
    subst hs
    rw [Arr.cell h off] at h0
    match off, h0 with
    | 0, h0 => exact hx2 _ (Option.some.inj h0)
    | 1, h0 => exact hy2 _ (Option.some.inj h0)
    | 2, h0 => exact hz2 _ (Option.some.inj h0)
    | _ + 3, h0 => simp at h0
  exact k.cell (S.cell a ha i hi j v hv) (by rw [add_block]; exact hne)

set_option maxHeartbeats 2000000 in
set_option maxRecDepth 100000 in
theorem get_any (w : World) (p : Nat) (f t : ByteArray) (cs : List CV) (k : KA) (hT : TB w p f t cs) (hs : CSrt cs) (hg : CGood cs) (hn : cs.length ≤ 1000) (hr : k.row.size ≤ 32) :
    Calls Tryz.prog 69 #[.pointer (some ⟨p, 0, none⟩), k.val] w fun e w' => ResP (mGet cs k) e w' ∧ Below w.heap.size w w' := by
  obtain ⟨W1, hW1⟩ : ∃ V, V = w.alloc (.cells #[.string k.row, .string k.fam, .string k.qual, .int .u64 k.time] 24) := ⟨_, rfl⟩
  obtain ⟨W2, hW2⟩ : ∃ V, V = W1.alloc (.cells #[.int .i64 0, .slice none 0 0, .bool false] 50) := ⟨_, rfl⟩
  have C1 : Below w.heap.size w W1 := by rw [hW1]; exact (Below.refl _ _).alloc (Nat.le_refl _) _
  have C2 : Below W1.heap.size W1 W2 := by rw [hW2]; exact (Below.refl _ _).alloc (Nat.le_refl _) _
  have B2 := C1.trans (C2.mono C1.size)
  have s1 : W1.heap.size = w.heap.size + 1 := by rw [hW1]; exact Array.size_push ..
  have R2 : Arr W2 (w.heap.size + 1) 50 [.int .i64 0, .slice none 0 0, .bool false] := by rw [hW2, ← s1]; exact heap_alloc_new W1 _
  have CO := column_any W2 p f t cs k (hT.below B2) hs hg hr hn
  unfold KA.val at CO ⊢
  go_enter Tryz.func69, Tryz.ntmps69
  go_wp2_with fail
  rw [← hW1, ← hW2]
  clear hW1 hW2 s1
  refine CO.mono ?_
  rintro e w3 ⟨ao, n, cap, l, rfl, h1, -, hl, C3⟩
  have B3 := B2.trans (C3.mono B2.size)
  have R3 := arr_below R2 C3
  have hll := h1.len
  have hn1 : n ≤ 1000 := by
    have h3 := congrArg List.length hl
    rw [List.length_map, hll] at h3
    have h4 := List.length_filter_le (fun x : CV => x.col k) cs
    unfold colC at h3
    omega
  clear CO R2 C3
  by_cases hz : n = 0
  · subst hz
    have HM : Hid (mGet cs k = ⟨7, [], false⟩) := by
      show _ = _
      obtain rfl : l = [] := List.eq_nil_of_length_eq_zero hll
      unfold mGet
      rw [← hl]
      rfl
    have CB := only_any w3 7
    unfold resV at CB
    clear hl hll hn1
    go_wp2_with fail
    refine CB.mono ?_
    rintro e w4 ⟨rfl, C4⟩
    have B4 := B3.trans (C4.mono B3.size)
    have R4 := arr_below R3 C4
    have r0 : w4.cell? ⟨w.heap.size + 1, 0, none⟩ = some (.int .i64 0) := R4.cell 0
    have f0 := R4.free 0
    have r1 : w4.cell? ⟨w.heap.size + 1, 1, none⟩ = some (.slice none 0 0) := R4.cell 1
    have f1 := R4.free 1
    have r2 : w4.cell? ⟨w.heap.size + 1, 2, none⟩ = some (.bool false) := R4.cell 2
    have f2 := R4.free 2
    have lt := R4.lt
    clear CB
    go_wp2
    exact bodyPost_ret (v := .agg #[.int .i64 7, .slice none 0 0, .bool false]) (by simp [results, Tryz.results69, go_sem, r0, r1, r2]) rfl ⟨by rw [HM.out]; exact ResP.bad 7 _, Wr.below B4 ((((Wr.refl _ _).set 0 _).set 1 _).set 2 _) B4.size (Nat.le_succ _)⟩
  · have hni : ((n : Int) == 0) = false := by simp; omega
    have hnp : (0 : Int) < (n : Int) := by omega
    have h0l : 0 < l.length := by omega
    obtain ⟨lb, lo, rfl, hc⟩ := h1.at (by omega)
    have X := hc 0 h0l
    rw [Nat.zero_mul, Nat.add_zero] at X
    have hok := h1.ok _ (List.getElem_mem h0l)
    have HH : Hid ((colC k cs).head? = some l[0].c) := by
      show _ = _
      rw [← hl, List.head?_map, List.head?_eq_getElem?, List.getElem?_eq_getElem h0l]
      rfl
    obtain ⟨c, hce⟩ : ∃ c, c = l[0] := ⟨_, rfl⟩
    rw [← hce] at X hok HH
    obtain ⟨q0, q1, q2, q3, q4, q5⟩ := X
    clear hc hce hl hll h1 h0l hz
    cases hgn : c.gone with
    | true =>
      have HM : Hid (mGet cs k = ⟨7, [], false⟩) := by
        show _ = _
        unfold mGet
        rw [HH.out]
        simp only
        rw [show c.c.gone = c.gone from rfl, hgn]
        rfl
      rw [hgn] at q5
      have CB := only_any w3 7
      unfold resV at CB
      clear hgn
      go_wp2_with fail
      refine CB.mono ?_
      rintro e w4 ⟨rfl, C4⟩
      have B4 := B3.trans (C4.mono B3.size)
      have R4 := arr_below R3 C4
      have r0 : w4.cell? ⟨w.heap.size + 1, 0, none⟩ = some (.int .i64 0) := R4.cell 0
      have f0 := R4.free 0
      have r1 : w4.cell? ⟨w.heap.size + 1, 1, none⟩ = some (.slice none 0 0) := R4.cell 1
      have f1 := R4.free 1
      have r2 : w4.cell? ⟨w.heap.size + 1, 2, none⟩ = some (.bool false) := R4.cell 2
      have f2 := R4.free 2
      have lt := R4.lt
      clear CB q0 q1 q2 q3 q4 q5
      go_wp2
      exact bodyPost_ret (v := .agg #[.int .i64 7, .slice none 0 0, .bool false]) (by simp [results, Tryz.results69, go_sem, r0, r1, r2]) rfl ⟨by rw [HM.out]; exact ResP.bad 7 _, Wr.below B4 ((((Wr.refl _ _).set 0 _).set 1 _).set 2 _) B4.size (Nat.le_succ _)⟩
    | false =>
      have HM : Hid (mGet cs k = ⟨0, [c.c], false⟩) := by
        show _ = _
        unfold mGet
        rw [HH.out]
        simp only
        rw [show c.c.gone = c.gone from rfl, hgn]
        rfl
      rw [hgn] at q5
      have r0 : w3.cell? ⟨w.heap.size + 1, 0, none⟩ = some (.int .i64 0) := R3.cell 0
      have f0 := R3.free 0
      have r1 : w3.cell? ⟨w.heap.size + 1, 1, none⟩ = some (.slice none 0 0) := R3.cell 1
      have f1 := R3.free 1
      have r2 : w3.cell? ⟨w.heap.size + 1, 2, none⟩ = some (.bool false) := R3.cell 2
      have f2 := R3.free 2
      have lt := R3.lt
      have KW : Wr (w.heap.size + 1) w3 (((w3.setCell ⟨w.heap.size + 1, 0, none⟩ (.int .i64 0)).setCell ⟨w.heap.size + 1, 1, none⟩ (.slice (some ⟨w3.heap.size, 0, none⟩) 1 1)).setCell ⟨w.heap.size + 1, 2, none⟩ (.bool false)) := (((Wr.refl _ _).set 0 _).set 1 _).set 2 _
      have ok5 : c.ok (((w3.setCell ⟨w.heap.size + 1, 0, none⟩ (.int .i64 0)).setCell ⟨w.heap.size + 1, 1, none⟩ (.slice (some ⟨w3.heap.size, 0, none⟩) 1 1)).setCell ⟨w.heap.size + 1, 2, none⟩ (.bool false)) := ⟨hok.row, hok.fam, hok.qual, hok.time, hok.va.wr R3 (by simp) KW⟩
      have CL1 := CL.one (((w3.setCell ⟨w.heap.size + 1, 0, none⟩ (.int .i64 0)).setCell ⟨w.heap.size + 1, 1, none⟩ (.slice (some ⟨w3.heap.size, 0, none⟩) 1 1)).setCell ⟨w.heap.size + 1, 2, none⟩ (.bool false)) c (ok5.below ((Below.refl _ _).alloc (Nat.le_refl _) _))
      rw [hgn, show (((w3.setCell ⟨w.heap.size + 1, 0, none⟩ (.int .i64 0)).setCell ⟨w.heap.size + 1, 1, none⟩ (.slice (some ⟨w3.heap.size, 0, none⟩) 1 1)).setCell ⟨w.heap.size + 1, 2, none⟩ (.bool false)).heap.size = w3.heap.size by simp] at CL1
      clear hgn
      go_wp2
      exact bodyPost_ret (v := .agg #[.int .i64 0, .slice (some ⟨w3.heap.size, 0, none⟩) 1 1, .bool false]) (by simp [results, Tryz.results69, go_sem, r0, r1, r2, lt]) rfl ⟨by rw [HM.out]; exact ⟨_, _, _, [c], rfl, CL1, rfl⟩, Wr.below B3 (KW.alloc _) B3.size (Nat.le_succ _)⟩
end Go.Proofs.YtnicnfjickknjaaGreatDoor

namespace Go.Proofs.YtnicnfjickknjaaGreatDoor
open Go.RowKit

theorem less_cmp : ∀ a b : List UInt8, Op.bytesLess a b = decide (cmpL (a.map fun c => (c.toNat : Int)) (b.map fun c => (c.toNat : Int)) < 0)
  | [], [] => rfl
  | _ :: _, [] => rfl
  | [], _ :: _ => rfl
  | a :: x, b :: y => by
    rw [Op.bytesLess, less_cmp x y, List.map_cons, List.map_cons, cmpL_cons]
    by_cases e : a = b
    · subst e
      have h : ¬ a < a := UInt8.lt_irrefl a
      simp [h]
    · have hn : a.toNat ≠ b.toNat := fun h => e (UInt8.toNat_inj.1 h)
      have hb : (a == b) = false := by simp [e]
      rw [hb, if_neg (by omega)]
      by_cases l : a < b
      · have l2 : (a.toNat : Int) < (b.toNat : Int) := by have := UInt8.lt_iff_toNat_lt.1 l; omega
        rw [if_pos l2]
        simp [l]
      · have l2 : ¬ (a.toNat : Int) < (b.toNat : Int) := fun h => l (UInt8.lt_iff_toNat_lt.2 (by omega))
        rw [if_neg l2]
        simp [l]
theorem less_sb (s t : ByteArray) : Op.bytesLess s.toList t.toList = decide (cmpL (sb s) (sb t) < 0) := by
  rw [ByteArray.toList_eq, ByteArray.toList_eq, less_cmp]
  rfl
end Go.Proofs.YtnicnfjickknjaaGreatDoor

namespace Go.Proofs.YtnicnfjickknjaaGreatDoor
open Go.RowKit

set_option maxHeartbeats 1000000 in
theorem hasRow_any (w : World) (p : Nat) (f t r : ByteArray) (u : Option Addr) (h : TbC w p f t u) :
    Calls Tryz.prog 60 #[.pointer (some ⟨p, 0, none⟩), .string r] w fun e w' => e = .returned (.bool (inRows f t r)) ∧ w' = w := by
  have c0 : w.cell? ⟨p, 0, none⟩ = some (.string f) := Arr.cell h 0
  have c1 : w.cell? ⟨p, 1, none⟩ = some (.string t) := Arr.cell h 1
  clear h
  by_cases e1 : cmpL (sb r) (sb f) < 0
  · have HV : Hid (inRows f t r = false) := decide_eq_false fun h => h.1 e1
    have l1 : Op.bytesLess r.toList f.toList = true := by rw [less_sb]; exact decide_eq_true e1
    clear e1
    go_enter Tryz.func60, Tryz.ntmps60
    go_wp2
    go_ret
    exact ⟨by rw [HV.out] <;> rfl, rfl⟩
  have l1 : Op.bytesLess r.toList f.toList = false := by rw [less_sb]; exact decide_eq_false e1
  by_cases hz : t.size = 0
  · have HV : Hid (inRows f t r = true) := decide_eq_true ⟨e1, .inl hz⟩
    have e0 : (t.toList == (ByteArray.mk #[]).toList) = true := by rw [empty_of hz]; simp
    have ee : t.toList.isEmpty = true := by rw [toE]; exact decide_eq_true hz
    clear e1 hz
    go_enter Tryz.func60, Tryz.ntmps60
    go_wp2
    go_ret
    exact ⟨by rw [HV.out] <;> rfl, rfl⟩
  have e0 : (t.toList == (ByteArray.mk #[]).toList) = false := toL_ne (fun h => hz (by rw [h]; rfl))
  have e1' : (t.toList == []) = false := by rw [← e0]; congr 1; simp
  have ee : t.toList.isEmpty = false := by rw [toE]; exact decide_eq_false hz
  by_cases e2 : cmpL (sb r) (sb t) < 0
  · have HV : Hid (inRows f t r = true) := decide_eq_true ⟨e1, .inr e2⟩
    have l2 : Op.bytesLess r.toList t.toList = true := by rw [less_sb]; exact decide_eq_true e2
    clear e1 e2 hz
    go_enter Tryz.func60, Tryz.ntmps60
    go_wp2
    go_ret
    exact ⟨by rw [HV.out] <;> rfl, rfl⟩
  · have HV : Hid (inRows f t r = false) := decide_eq_false fun h => h.2.elim hz e2
    have l2 : Op.bytesLess r.toList t.toList = false := by rw [less_sb]; exact decide_eq_false e2
    clear e1 e2 hz
    go_enter Tryz.func60, Tryz.ntmps60
    go_wp2
    go_ret
    exact ⟨by rw [HV.out] <;> rfl, rfl⟩

/-- May these be bounds? -/
def newK (f t : ByteArray) : Int := if f.size ≤ 32 ∧ t.size ≤ 32 ∧ (t.size = 0 ∨ cmpL (sb f) (sb t) < 0) then 0 else 1
/-- What New answers. -/
def NewPost (w : World) (f t : ByteArray) (e : Ending) (w' : World) : Prop :=
  (newK f t = 0 ∧ e = .returned (.tuple #[.pointer (some ⟨w.heap.size, 0, none⟩), .int .i64 0]) ∧ TB w' w.heap.size f t [] ∧ Below w.heap.size w w') ∨ (newK f t = 1 ∧ e = .returned (.tuple #[.pointer none, .int .i64 1]) ∧ w' = w)
theorem newOk (f t : ByteArray) (h : f.size ≤ 32 ∧ t.size ≤ 32 ∧ (t.size = 0 ∨ cmpL (sb f) (sb t) < 0)) : newK f t = 0 := if_pos h
theorem TB.new (w : World) (f t : ByteArray) : TB (w.alloc (.cells #[.string f, .string t, .pointer none] 76)) w.heap.size f t [] := ⟨none, heap_alloc_new w _, TT.nil _⟩

set_option maxHeartbeats 1000000 in
theorem tnew_any (w : World) (f t : ByteArray) (hf : f.size ≤ 1000000) (ht : t.size ≤ 1000000) : Calls Tryz.prog 18 #[.string f, .string t] w (NewPost w f t) := by
  have hfi : (f.size : Int) ≤ 1000000 := by omega
  have hti : (t.size : Int) ≤ 1000000 := by omega
  have X := TB.new w f t
  have B : Below w.heap.size w (w.alloc (.cells #[.string f, .string t, .pointer none] 76)) := (Below.refl _ _).alloc (Nat.le_refl _) _
  by_cases g1 : f.size ≤ 32
  case neg =>
    have i1 : (32 : Int) < (f.size : Int) := by omega
    have HV : Hid (newK f t = 1) := by show _ = _; unfold newK; rw [if_neg (fun h => g1 h.1)]
    go_enter Tryz.func18, Tryz.ntmps18
    go_wp2
    go_ret2
    exact .inr ⟨HV.out, rfl, rfl⟩
  have i1 : (f.size : Int) ≤ 32 := by omega
  by_cases g2 : t.size ≤ 32
  case neg =>
    have i2 : (32 : Int) < (t.size : Int) := by omega
    have HV : Hid (newK f t = 1) := by show _ = _; unfold newK; rw [if_neg (fun h => g2 h.2.1)]
    go_enter Tryz.func18, Tryz.ntmps18
    go_wp2
    go_ret2
    exact .inr ⟨HV.out, rfl, rfl⟩
  have i2 : (t.size : Int) ≤ 32 := by omega
  by_cases hz : t.size = 0
  · have HV : Hid (newK f t = 0) := newOk f t ⟨g1, g2, .inl hz⟩
    have e0 : (t.toList == (ByteArray.mk #[]).toList) = true := by rw [empty_of hz]; simp
    have ee : t.toList.isEmpty = true := by rw [toE]; exact decide_eq_true hz
    clear hz
    go_enter Tryz.func18, Tryz.ntmps18
    go_wp2
    go_ret2
    exact .inl ⟨HV.out, rfl, X, B⟩
  have e0 : (t.toList == (ByteArray.mk #[]).toList) = false := toL_ne (fun h => hz (by rw [h]; rfl))
  have e1' : (t.toList == []) = false := by rw [← e0]; congr 1; simp
  have ee : t.toList.isEmpty = false := by rw [toE]; exact decide_eq_false hz
  by_cases e2 : cmpL (sb f) (sb t) < 0
  · have HV : Hid (newK f t = 0) := newOk f t ⟨g1, g2, .inr e2⟩
    have l2 : Op.bytesLess t.toList f.toList = false := by rw [less_sb]; exact decide_eq_false (cmpL_asym e2)
    have l3 : (t.toList == f.toList) = false := toL_ne fun h => by rw [h] at e2; exact cmpL_irr _ e2
    have l4 : Op.bytesLess f.toList t.toList = true := by rw [less_sb]; exact decide_eq_true e2
    clear e2 hz
    go_enter Tryz.func18, Tryz.ntmps18
    go_wp2
    go_ret2
    exact .inl ⟨HV.out, rfl, X, B⟩
  · have l4 : Op.bytesLess f.toList t.toList = false := by rw [less_sb]; exact decide_eq_false e2
    have l5 : (Op.bytesLess t.toList f.toList || t.toList == f.toList) = true := by
      rw [less_sb]
      rcases cmpL_total (sb t) (sb f) with h | h | h
      · rw [decide_eq_true h]; rfl
      · rw [sb_inj h]; simp
      · exact absurd h e2
    have HV : Hid (newK f t = 1) := by show _ = _; unfold newK; rw [if_neg (fun h => h.2.2.elim hz e2)]
    go_enter Tryz.func18, Tryz.ntmps18
    go_wp2
    go_ret2
    exact .inr ⟨HV.out, rfl, rfl⟩
end Go.Proofs.YtnicnfjickknjaaGreatDoor

namespace Go.Proofs.YtnicnfjickknjaaGreatDoor
open Go.RowKit

/-- EqualFunc, where the second list is empty. -/
theorem peqf_any (w : World) (ao bo : Option Addr) (n cap cap2 : Nat) :
    Calls Tryz.prog 120 #[.slice ao n cap, .slice bo 0 cap2, .func (.func 104) #[] #[]] w fun e w' => e = .returned (.bool (decide (n = 0))) ∧ w' = w := by
  by_cases z : n = 0
  · subst z
    rw [decide_eq_true rfl]
    go_enter Tryz.func120, Tryz.ntmps120
    go_wp2
    go_loopw [17] (fun i wr => wr = w ∧ i = .int .i64 0) (fun _ _ => 0)
    case atStart => exact ⟨rfl, rfl⟩
    case round =>
      obtain ⟨rfl, rfl⟩ := hrel
      go_wp2
      go_ret
      exact ⟨rfl, rfl⟩
  · have i : ((n : Int) != 0) = true := by simp; omega
    rw [decide_eq_false z]
    go_enter Tryz.func120, Tryz.ntmps120
    go_wp2
    go_ret
    exact ⟨rfl, rfl⟩

set_option maxRecDepth 100000 in
set_option maxHeartbeats 4000000 in
theorem psame_leaf (w : World) (a b : OA) (ha : a.ok w) (hb : b.ok w) (hz : b.sn = 0) :
    Calls Tryz.prog 104 #[a.val, b.val] w fun e w' => e = .returned (.bool (sameS a.s b.s && decide (a.sn = 0))) ∧ Below w.heap.size w w' := by
  have B : Below w.heap.size w ((w.alloc (Obj.cells a.cells.toArray 43)).alloc (Obj.cells b.cells.toArray 43)) := ((Below.refl _ w).alloc (Nat.le_refl _) _).alloc (by simp) _
  unfold OA.cells at B
  unfold OA.val
  rw [hz] at B
  have Va := ha.va.below B
  have Vb := hb.va.below B
  have Wa := ha.wa.below B
  have Wb := hb.wa.below B
  clear ha hb
  by_cases e0 : ¬ (a.kind = b.kind)
  · have i0 : (a.kind == b.kind) = false := by simp [e0]
    have hv : Hid ((sameS a.s b.s && decide (a.sn = 0)) = false) := by
      show _ = _
      rw [show sameS a.s b.s = false from decide_eq_false fun h => e0 h.1]
      rfl
    clear e0
    clear Va Vb Wa Wb
    go_enter Tryz.func104, Tryz.ntmps104
    go_wp2
    go_ret
    exact ⟨by rw [hv.out] <;> rfl, B⟩
  have e0 := Classical.not_not.1 e0
  have i0 : (a.kind == b.kind) = true := by simp [e0]
  by_cases e1 : ¬ (a.row = b.row)
  · have i1 : (a.row.toList == b.row.toList) = false := toL_ne e1
    have hv : Hid ((sameS a.s b.s && decide (a.sn = 0)) = false) := by
      show _ = _
      rw [show sameS a.s b.s = false from decide_eq_false fun h => e1 h.2.1]
      rfl
    clear e0 e1
    clear Va Vb Wa Wb
    go_enter Tryz.func104, Tryz.ntmps104
    go_wp2
    go_ret
    exact ⟨by rw [hv.out] <;> rfl, B⟩
  have e1 := Classical.not_not.1 e1
  have i1 : (a.row.toList == b.row.toList) = true := by rw [e1]; exact beq_self_eq_true _
  by_cases e2 : ¬ (a.fam = b.fam)
  · have i2 : (a.fam.toList == b.fam.toList) = false := toL_ne e2
    have hv : Hid ((sameS a.s b.s && decide (a.sn = 0)) = false) := by
      show _ = _
      rw [show sameS a.s b.s = false from decide_eq_false fun h => e2 h.2.2.1]
      rfl
    clear e0 e1 e2
    clear Va Vb Wa Wb
    go_enter Tryz.func104, Tryz.ntmps104
    go_wp2
    go_ret
    exact ⟨by rw [hv.out] <;> rfl, B⟩
  have e2 := Classical.not_not.1 e2
  have i2 : (a.fam.toList == b.fam.toList) = true := by rw [e2]; exact beq_self_eq_true _
  by_cases e3 : ¬ (a.qual = b.qual)
  · have i3 : (a.qual.toList == b.qual.toList) = false := toL_ne e3
    have hv : Hid ((sameS a.s b.s && decide (a.sn = 0)) = false) := by
      show _ = _
      rw [show sameS a.s b.s = false from decide_eq_false fun h => e3 h.2.2.2.1]
      rfl
    clear e0 e1 e2 e3
    clear Va Vb Wa Wb
    go_enter Tryz.func104, Tryz.ntmps104
    go_wp2
    go_ret
    exact ⟨by rw [hv.out] <;> rfl, B⟩
  have e3 := Classical.not_not.1 e3
  have i3 : (a.qual.toList == b.qual.toList) = true := by rw [e3]; exact beq_self_eq_true _
  by_cases e4 : ¬ (a.time = b.time)
  · have i4 : ((a.time : Int) == (b.time : Int)) = false := by simp; omega
    have hv : Hid ((sameS a.s b.s && decide (a.sn = 0)) = false) := by
      show _ = _
      rw [show sameS a.s b.s = false from decide_eq_false fun h => e4 h.2.2.2.2.1]
      rfl
    clear e0 e1 e2 e3 e4
    clear Va Vb Wa Wb
    go_enter Tryz.func104, Tryz.ntmps104
    go_wp2
    go_ret
    exact ⟨by rw [hv.out] <;> rfl, B⟩
  have e4 := Classical.not_not.1 e4
  have i4 : ((a.time : Int) == (b.time : Int)) = true := by simp [e4]
  by_cases e5 : ¬ (a.to = b.to)
  · have i5 : (a.to.toList == b.to.toList) = false := toL_ne e5
    have hv : Hid ((sameS a.s b.s && decide (a.sn = 0)) = false) := by
      show _ = _
      rw [show sameS a.s b.s = false from decide_eq_false fun h => e5 h.2.2.2.2.2.1]
      rfl
    clear e0 e1 e2 e3 e4 e5
    clear Va Vb Wa Wb
    go_enter Tryz.func104, Tryz.ntmps104
    go_wp2
    go_ret
    exact ⟨by rw [hv.out] <;> rfl, B⟩
  have e5 := Classical.not_not.1 e5
  have i5 : (a.to.toList == b.to.toList) = true := by rw [e5]; exact beq_self_eq_true _
  by_cases e6 : ¬ (a.has = b.has)
  · have i6 : (a.has == b.has) = false := by simp [e6]
    have hv : Hid ((sameS a.s b.s && decide (a.sn = 0)) = false) := by
      show _ = _
      rw [show sameS a.s b.s = false from decide_eq_false fun h => e6 h.2.2.2.2.2.2.2.2]
      rfl
    clear e0 e1 e2 e3 e4 e5 e6
    clear Va Vb Wa Wb
    go_enter Tryz.func104, Tryz.ntmps104
    go_wp2
    go_ret
    exact ⟨by rw [hv.out] <;> rfl, B⟩
  have e6 := Classical.not_not.1 e6
  have i6 : (a.has == b.has) = true := by simp [e6]
  by_cases e7 : ¬ (a.va.xs = b.va.xs)
  · have dV : decide (a.va.xs = b.va.xs) = false := decide_eq_false e7
    have hv : Hid ((sameS a.s b.s && decide (a.sn = 0)) = false) := by
      show _ = _
      rw [show sameS a.s b.s = false from decide_eq_false fun h => e7 h.2.2.2.2.2.2.1]
      rfl
    clear e0 e1 e2 e3 e4 e5 e6 e7
    go_enter Tryz.func104, Tryz.ntmps104
    go_wp2_with (first | (go_at_call 35; refine (pequal_any _ _ _ _ _ _ _ _ _ Va Vb).mono ?_; rintro e w' ⟨rfl, rfl⟩; rw [dV]; clear Va Vb))
    go_ret
    exact ⟨by rw [hv.out] <;> rfl, B⟩
  have e7 := Classical.not_not.1 e7
  have dV : decide (a.va.xs = b.va.xs) = true := decide_eq_true e7
  by_cases e8 : ¬ (a.wa.xs = b.wa.xs)
  · have dW : decide (a.wa.xs = b.wa.xs) = false := decide_eq_false e8
    have hv : Hid ((sameS a.s b.s && decide (a.sn = 0)) = false) := by
      show _ = _
      rw [show sameS a.s b.s = false from decide_eq_false fun h => e8 h.2.2.2.2.2.2.2.1]
      rfl
    clear e0 e1 e2 e3 e4 e5 e6 e7 e8
    go_enter Tryz.func104, Tryz.ntmps104
    go_wp2_with (first | (go_at_call 35; refine (pequal_any _ _ _ _ _ _ _ _ _ Va Vb).mono ?_; rintro e w' ⟨rfl, rfl⟩; rw [dV]; clear Va Vb) | (go_at_call 35; refine (pequal_any _ _ _ _ _ _ _ _ _ Wa Wb).mono ?_; rintro e w' ⟨rfl, rfl⟩; rw [dW]))
    go_ret
    exact ⟨by rw [hv.out] <;> rfl, B⟩
  have e8 := Classical.not_not.1 e8
  have dW : decide (a.wa.xs = b.wa.xs) = true := decide_eq_true e8
  by_cases e9 : ¬ (a.sn = 0)
  · have dS : decide (a.sn = 0) = false := decide_eq_false e9
    have hv : Hid ((sameS a.s b.s && decide (a.sn = 0)) = false) := by
      show _ = _
      rw [decide_eq_false e9, Bool.and_false]
    clear e0 e1 e2 e3 e4 e5 e6 e7 e8 e9
    go_enter Tryz.func104, Tryz.ntmps104
    go_wp2_with (first | (go_at_call 35; refine (pequal_any _ _ _ _ _ _ _ _ _ Va Vb).mono ?_; rintro e w' ⟨rfl, rfl⟩; rw [dV]; clear Va Vb) | (go_at_call 35; refine (pequal_any _ _ _ _ _ _ _ _ _ Wa Wb).mono ?_; rintro e w' ⟨rfl, rfl⟩; rw [dW]) | (go_at_call 120; refine (peqf_any _ _ _ _ _ _).mono ?_; rintro e w' ⟨rfl, rfl⟩; rw [dS]))
    go_ret
    exact ⟨by rw [hv.out] <;> rfl, B⟩
  have e9 := Classical.not_not.1 e9
  have dS : decide (a.sn = 0) = true := decide_eq_true e9
  have hv : Hid ((sameS a.s b.s && decide (a.sn = 0)) = true) := by
    show _ = _
    rw [show sameS a.s b.s = true from decide_eq_true ⟨e0, e1, e2, e3, e4, e5, e7, e8, e6⟩, decide_eq_true e9]
    rfl
  clear e0 e1 e2 e3 e4 e5 e6 e7 e8 e9
  go_enter Tryz.func104, Tryz.ntmps104
  go_wp2_with (first | (go_at_call 35; refine (pequal_any _ _ _ _ _ _ _ _ _ Va Vb).mono ?_; rintro e w' ⟨rfl, rfl⟩; rw [dV]; clear Va Vb) | (go_at_call 35; refine (pequal_any _ _ _ _ _ _ _ _ _ Wa Wb).mono ?_; rintro e w' ⟨rfl, rfl⟩; rw [dW]) | (go_at_call 120; refine (peqf_any _ _ _ _ _ _).mono ?_; rintro e w' ⟨rfl, rfl⟩; rw [dS]))
  go_ret
  exact ⟨by rw [hv.out] <;> rfl, B⟩

/-- isRowAlone: nothing but a Kind and a row. -/
def aloneO (o : OA) : OA := ⟨o.kind, o.row, noTxt, noTxt, 0, noTxt, ⟨none, 0, 0, []⟩, ⟨none, 0, 0, []⟩, false, none, 0, 0⟩
def isAlone (o : OA) : Bool := decide (o.row.size ≤ 32) && (sameS o.s (aloneO o).s && decide (o.sn = 0))
theorem aloneO_ok {o : OA} {w : World} (h : o.ok w) : (aloneO o).ok w :=
  ⟨h.kind, h.row, Nat.zero_le _, Nat.zero_le _, by show 0 < 18446744073709551616; decide, Nat.zero_le _, Sl.nothing w, Sl.nothing w, Nat.le_refl _, Nat.zero_le _, fun _ => ⟨rfl, rfl⟩⟩

set_option maxRecDepth 100000 in
set_option maxHeartbeats 4000000 in
theorem palone_any (w : World) (o : OA) (h : o.ok w) :
    Calls Tryz.prog 82 #[o.val] w fun e w' => e = .returned (.bool (isAlone o)) ∧ Below w.heap.size w w' := by
  have B : Below w.heap.size w (w.alloc (Obj.cells o.cells.toArray 43)) := (Below.refl _ w).alloc (Nat.le_refl _) _
  unfold OA.cells at B
  have ho := h.below B
  have h2 := aloneO_ok ho
  by_cases l : o.row.size ≤ 32
  · have i : (o.row.size : Int) ≤ 32 := by omega
    have hv : Hid (isAlone o = (sameS o.s (aloneO o).s && decide (o.sn = 0))) := by
      show _ = _
      unfold isAlone
      rw [decide_eq_true l, Bool.true_and]
    clear l
    unfold OA.val
    go_enter Tryz.func82, Tryz.ntmps82
    go_wp2_with (go_at_call 104; refine (psame_leaf _ o (aloneO o) ho h2 rfl).mono ?_; rintro e w' ⟨rfl, C⟩; have D := B.trans (C.mono B.size))
    go_ret
    exact ⟨by rw [hv.out] <;> rfl, D⟩
  · have i : decide ((o.row.size : Int) ≤ 32) = false := by simp; omega
    have hv : Hid (isAlone o = false) := by
      show _ = _
      unfold isAlone
      rw [decide_eq_false l, Bool.false_and]
    clear l ho h2 h
    unfold OA.val
    go_enter Tryz.func82, Tryz.ntmps82
    go_wp2
    go_ret
    exact ⟨by rw [hv.out] <;> rfl, B⟩
end Go.Proofs.YtnicnfjickknjaaGreatDoor

namespace Go.Proofs.YtnicnfjickknjaaGreatDoor
open Go.RowKit

def noBs : Bs := ⟨none, 0, 0, []⟩
/-- Without Want and Has; without Value; without Time; without Family and Qual; without To; without parts. -/
def OA.noW (o : OA) : OA := { o with wa := noBs, has := false }
def OA.noV (o : OA) : OA := { o with va := noBs }
def OA.noT (o : OA) : OA := { o with time := 0 }
def OA.noK (o : OA) : OA := { o with fam := noTxt, qual := noTxt }
def OA.noTo (o : OA) : OA := { o with to := noTxt }
def OA.noS (o : OA) : OA := { o with so := none, sn := 0, sc := 0 }
theorem OA.ok.noW {o : OA} {w : World} (h : o.ok w) : o.noW.ok w := ⟨h.kind, h.row, h.fam, h.qual, h.time, h.to, h.va, Sl.nothing w, h.le, h.mx, h.nil⟩
theorem OA.ok.noV {o : OA} {w : World} (h : o.ok w) : o.noV.ok w := ⟨h.kind, h.row, h.fam, h.qual, h.time, h.to, Sl.nothing w, h.wa, h.le, h.mx, h.nil⟩
theorem OA.ok.noT {o : OA} {w : World} (h : o.ok w) : o.noT.ok w := ⟨h.kind, h.row, h.fam, h.qual, by show 0 < 18446744073709551616; decide, h.to, h.va, h.wa, h.le, h.mx, h.nil⟩
theorem OA.ok.noK {o : OA} {w : World} (h : o.ok w) : o.noK.ok w := ⟨h.kind, h.row, Nat.zero_le _, Nat.zero_le _, h.time, h.to, h.va, h.wa, h.le, h.mx, h.nil⟩
theorem OA.ok.noTo {o : OA} {w : World} (h : o.ok w) : o.noTo.ok w := ⟨h.kind, h.row, h.fam, h.qual, h.time, Nat.zero_le _, h.va, h.wa, h.le, h.mx, h.nil⟩
theorem OA.ok.noS {o : OA} {w : World} (h : o.ok w) : o.noS.ok w := ⟨h.kind, h.row, h.fam, h.qual, h.time, h.to, h.va, h.wa, Nat.le_refl _, Nat.zero_le _, fun _ => ⟨rfl, rfl⟩⟩
/-- Its key. -/
def OA.key (o : OA) : KA := ⟨o.row, o.fam, o.qual, o.time⟩

theorem len_nil {o : Bs} {w : World} (h : Sl w o.ao o.n o.cap o.xs) : o.xs = [] ↔ o.n = 0 := by
  rw [← h.len]
  exact (List.length_eq_zero_iff).symm

theorem leaf5 {o : OA} {w : World} (h : o.ok w) (hk : o.kind = 5) (hw : o.wa.n ≤ 256 ∧ (o.has = true ∨ o.wa.n = 0)) (hv : o.va.n ≤ 256) (hr : o.key.isRight = true) : leaf o.s o.sn = isAlone o.noW.noV.noT.noK := by
  have l1 := h.va.len
  have l2 := h.wa.len
  have n2 := len_nil h.wa
  have hr := of_decide_eq_true hr
  have hw2 : (if o.has = true then o.wa.xs else []) = o.wa.xs := by
    rcases hw.2 with c | c
    · rw [if_pos c]
    · by_cases d : o.has = true
      · rw [if_pos d]
      · rw [if_neg d, n2.2 c]
  rw [Bool.eq_iff_iff]
  unfold leaf isAlone sameS onlyS aloneO keyR OA.s OA.noW OA.noV OA.noT OA.noK
  simp only [OA.key] at hr
  simp [hk, hw2, l1, l2, hv, hw.1, hr, noBs]
theorem leaf1 {o : OA} {w : World} (h : o.ok w) (hk : o.kind = 1) (hv : o.va.n ≤ 256) (hr : o.key.isRight = true) : leaf o.s o.sn = isAlone o.noV.noT.noK := by
  have l1 := h.va.len
  have hr := of_decide_eq_true hr
  rw [Bool.eq_iff_iff]
  unfold leaf isAlone sameS onlyS aloneO keyR OA.s OA.noV OA.noT OA.noK
  simp only [OA.key] at hr
  simp [hk, l1, hv, hr, noBs]
  grind
theorem leaf2 {o : OA} (hk : o.kind = 2) (hr : o.key.isRight = true) : leaf o.s o.sn = isAlone o.noT.noK := by
  have hr := of_decide_eq_true hr
  rw [Bool.eq_iff_iff]
  unfold leaf isAlone sameS onlyS aloneO keyR OA.s OA.noT OA.noK
  simp only [OA.key] at hr
  simp [hk, hr]
  grind
theorem leaf37 {o : OA} (hk : o.kind = 3 ∨ o.kind = 7) (hr : o.key.isRight = true) : leaf o.s o.sn = isAlone o.noK := by
  have hr := of_decide_eq_true hr
  rw [Bool.eq_iff_iff]
  unfold leaf isAlone sameS onlyS aloneO keyR OA.s OA.noK
  simp only [OA.key] at hr
  rcases hk with hk | hk
  · simp [hk, hr]
    grind
  · simp [hk, hr]
    grind
theorem leaf4 {o : OA} (hk : o.kind = 4) (hr : o.row.size ≠ 0) : leaf o.s o.sn = isAlone o := by
  rw [Bool.eq_iff_iff]
  unfold leaf isAlone sameS onlyS aloneO rowR OA.s
  simp [hk]
  grind
theorem leaf8 {o : OA} (hk : o.kind = 8) (ht : o.to.size ≤ 32) : leaf o.s o.sn = isAlone o.noTo := by
  rw [Bool.eq_iff_iff]
  unfold leaf isAlone sameS onlyS aloneO OA.s OA.noTo
  simp [hk, ht]
  grind
/-- A batch, its parts aside. -/
theorem leaf6 {o : OA} (hk : o.kind = 6) (hr : o.row.size ≠ 0) : leaf o.s o.sn = (isAlone o.noS && decide (1 ≤ o.sn ∧ o.sn ≤ 8)) := by
  rw [Bool.eq_iff_iff]
  unfold leaf isAlone sameS onlyS aloneO rowR OA.s OA.noS
  simp [hk]
  grind
/-- Where something is wrong. -/
theorem leaf_noKey {o : SO} {n : Nat} (hk : o.kind = 1 ∨ o.kind = 2 ∨ o.kind = 3 ∨ o.kind = 5 ∨ o.kind = 7) (hr : (⟨o.row, o.fam, o.qual, o.time⟩ : KA).isRight = false) : leaf o n = false := by
  unfold leaf
  rw [if_pos hk, show keyR o = false from hr, Bool.and_false]
theorem leaf_noRow {o : SO} {n : Nat} (hk : o.kind = 4 ∨ o.kind = 6) (hr : o.row.size = 0) : leaf o n = false := by
  unfold leaf rowR
  rcases hk with hk | hk <;> simp [hk, hr]
theorem leaf_noTo {o : SO} {n : Nat} (hk : o.kind = 8) (hr : 32 < o.to.size) : leaf o n = false := by
  unfold leaf
  simp [hk]
  omega
theorem leaf_noKind {o : SO} {n : Nat} (hk : o.kind < 1 ∨ 8 < o.kind) : leaf o n = false := by
  by_cases h : leaf o n = true
  · have := leaf_kind h
    omega
  · simpa using h
theorem leaf_long {o : SO} {n : Nat} (h : 256 < o.value.length ∨ 256 < o.want.length) : leaf o n = false := by
  unfold leaf
  rw [decide_eq_false (by omega), Bool.false_and]
theorem leaf_noHas {o : SO} {n : Nat} (hk : o.kind = 5) (h1 : o.has = false) (h2 : o.want ≠ []) : leaf o n = false := by
  unfold leaf
  rw [decide_eq_false, Bool.false_and]
  rintro ⟨h, _⟩
  have e := (sameS_iff _ _).1 h
  apply h2
  rw [e]
  unfold onlyS
  simp [hk, h1]
end Go.Proofs.YtnicnfjickknjaaGreatDoor

namespace Go.Proofs.YtnicnfjickknjaaGreatDoor
open Go.RowKit

/-- The operation o lies in block p. -/
def OC (V : World) (p : Nat) (o : OA) : Prop := V.heap[p]? = some (.cells #[.int .i64 o.kind, .string o.row, .string o.fam, .string o.qual, .int .u64 o.time, .string o.to, .slice o.va.ao o.va.n o.va.cap, .slice o.wa.ao o.wa.n o.wa.cap, .bool o.has, .slice o.so o.sn o.sc] 43)
theorem OC.lt {V : World} {p : Nat} {o : OA} (h : OC V p o) : p < V.heap.size := (Array.getElem?_eq_some_iff.1 h).1
theorem OC.below {V V' : World} {p n : Nat} {o : OA} (h : OC V p o) (hb : Below n V V') (hp : p < n) : OC V' p o := (hb.block p hp).trans h
theorem OC.keep {V V' : World} {p : Nat} {o : OA} (h : OC V p o) (hb : Below V.heap.size V V') : OC V' p o := h.below hb h.lt
theorem OC.new (w : World) (o : OA) : OC (w.alloc (.cells #[.int .i64 o.kind, .string o.row, .string o.fam, .string o.qual, .int .u64 o.time, .string o.to, .slice o.va.ao o.va.n o.va.cap, .slice o.wa.ao o.wa.n o.wa.cap, .bool o.has, .slice o.so o.sn o.sc] 43)) w.heap.size o := heap_alloc_new w _
theorem OC.alloc {V : World} {p : Nat} {o : OA} (h : OC V p o) (x : Obj) : OC (V.alloc x) p o := (heap_alloc_old V x h.lt).trans h
/-- Its cells. -/
structure OCs (V : World) (p : Nat) (o : OA) : Prop where
  c0 : V.cell? ⟨p, 0, none⟩ = some (.int .i64 o.kind)
  c1 : V.cell? ⟨p, 1, none⟩ = some (.string o.row)
  c2 : V.cell? ⟨p, 2, none⟩ = some (.string o.fam)
  c3 : V.cell? ⟨p, 3, none⟩ = some (.string o.qual)
  c4 : V.cell? ⟨p, 4, none⟩ = some (.int .u64 o.time)
  c5 : V.cell? ⟨p, 5, none⟩ = some (.string o.to)
  c6 : V.cell? ⟨p, 6, none⟩ = some (.slice o.va.ao o.va.n o.va.cap)
  c7 : V.cell? ⟨p, 7, none⟩ = some (.slice o.wa.ao o.wa.n o.wa.cap)
  c8 : V.cell? ⟨p, 8, none⟩ = some (.bool o.has)
  c9 : V.cell? ⟨p, 9, none⟩ = some (.slice o.so o.sn o.sc)
theorem OC.cs {V : World} {p : Nat} {o : OA} (h : OC V p o) : OCs V p o :=
  ⟨cell_of_row V p 0 _ _ _ h, cell_of_row V p 1 _ _ _ h, cell_of_row V p 2 _ _ _ h, cell_of_row V p 3 _ _ _ h, cell_of_row V p 4 _ _ _ h, cell_of_row V p 5 _ _ _ h, cell_of_row V p 6 _ _ _ h, cell_of_row V p 7 _ _ _ h, cell_of_row V p 8 _ _ _ h, cell_of_row V p 9 _ _ _ h⟩
theorem OC.fz {V : World} {p : Nat} {o : OA} (h : OC V p o) (i : Nat) : V.frozen? ⟨p, i, none⟩ = false := frozen_of_row V p i _ _ h

set_option maxRecDepth 100000 in
set_option maxHeartbeats 4000000 in
theorem pleaf_5 (w : World) (o : OA) (h : o.ok w) (hk : o.kind = 5) :
    Calls Tryz.prog 59 #[o.val] w fun e w' => e = .returned (.bool (leaf o.s o.sn)) ∧ Below w.heap.size w w' := by
  have l1 := h.va.len
  have l2 := h.wa.len
  have t5 : (o.kind == 5) = true := by simp [hk]
  by_cases hw : ¬ (o.wa.n ≤ 256 ∧ (o.has = true ∨ o.wa.n = 0))
  · have d1 : decide (o.wa.n ≤ 256 ∧ (o.has = true ∨ o.wa.n = 0)) = false := decide_eq_false hw
    have hv : Hid (leaf o.s o.sn = false) := by
      by_cases c : o.wa.n ≤ 256
      · refine leaf_noHas hk ?_ ?_
        · simp at hw; exact hw c |>.1
        · intro c2
          simp at hw
          exact (hw c).2 ((len_nil h.wa).1 c2)
      · exact leaf_long (.inr (by show 256 < o.wa.xs.length; omega))
    clear hw l1 l2 h hk
    unfold OA.val
    go_enter Tryz.func59, Tryz.ntmps59
    go_wp2_with (go_at_call 80; refine (pwant_any _ _ _ _ _).mono ?_; rintro e w' ⟨rfl, rfl⟩; rw [d1])
    go_ret
    exact ⟨by rw [hv.out] <;> rfl, ((Below.refl _ w).alloc (Nat.le_refl _) _)⟩
  have hw := Classical.not_not.1 hw
  have d1 : decide (o.wa.n ≤ 256 ∧ (o.has = true ∨ o.wa.n = 0)) = true := decide_eq_true hw
  by_cases hva : ¬ o.va.n ≤ 256
  · have d2 : decide (o.va.n ≤ 256) = false := decide_eq_false hva
    have hv : Hid (leaf o.s o.sn = false) := leaf_long (.inl (by show 256 < o.va.xs.length; omega))
    clear h hk hva l1 hw l2
    unfold OA.val
    go_enter Tryz.func59, Tryz.ntmps59
    go_wp2_with (first | (go_at_call 80; refine (pwant_any _ _ _ _ _).mono ?_; rintro e w' ⟨rfl, rfl⟩; rw [d1]) | (go_at_call 81; refine (pvalue_any _ _ _ _).mono ?_; rintro e w' ⟨rfl, rfl⟩; rw [d2]))
    go_ret
    exact ⟨by rw [hv.out] <;> rfl, ((Below.refl _ w).alloc (Nat.le_refl _) _)⟩
  have hva := Classical.not_not.1 hva
  have d2 : decide (o.va.n ≤ 256) = true := decide_eq_true hva
  by_cases q : ¬ o.key.isRight = true
  · have hr : (o.noW.noV.noT).key.kind = 5 := by
      unfold KA.kind
      rw [show (o.noW.noV.noT).key.isRight = o.key.isRight from rfl, if_neg q]
    have hv : Hid (leaf o.s o.sn = false) := leaf_noKey (o := o.s) (.inr (.inr (.inr (.inl hk)))) (Bool.eq_false_iff.2 q)
    clear h hk q l1 l2 hw hva
    unfold OA.val
    go_enter Tryz.func59, Tryz.ntmps59
    go_wp2_with (first | (go_at_call 80; refine (pwant_any _ _ _ _ _).mono ?_; rintro e w' ⟨rfl, rfl⟩; rw [d1]) | (go_at_call 81; refine (pvalue_any _ _ _ _).mono ?_; rintro e w' ⟨rfl, rfl⟩; rw [d2]) | (go_at_call 52; refine (pright_any _ (o.noW.noV.noT).key).mono ?_; rintro e w2 ⟨rfl, C⟩; rw [hr]; have D := ((Below.refl _ w).alloc (Nat.le_refl _) _).trans (C.mono (by simp))))
    go_ret
    exact ⟨by rw [hv.out] <;> rfl, D⟩
  have q := Classical.not_not.1 q
  have hr : (o.noW.noV.noT).key.kind = 0 := by
    unfold KA.kind
    rw [show (o.noW.noV.noT).key.isRight = o.key.isRight from rfl, if_pos q]
  have hv : Hid (leaf o.s o.sn = isAlone (o.noW.noV.noT).noK) := leaf5 h hk hw hva q
  have e0 : o.row.toList.isEmpty = false := by
    rw [toE]
    exact decide_eq_false (by have := of_decide_eq_true q; simp only [OA.key] at this; omega)
  clear q hk l1 l2 hw hva
  unfold OA.val
  go_enter Tryz.func59, Tryz.ntmps59
  go_wp2_with (first
    | (go_at_call 80; refine (pwant_any _ _ _ _ _).mono ?_; rintro e w' ⟨rfl, rfl⟩; rw [d1]) | (go_at_call 81; refine (pvalue_any _ _ _ _).mono ?_; rintro e w' ⟨rfl, rfl⟩; rw [d2]) |  (go_at_call 52; refine (pright_any _ (o.noW.noV.noT).key).mono ?_; rintro e w2 ⟨rfl, C⟩; rw [hr]; have D : Below w.heap.size w w2 := ((Below.refl _ w).alloc (Nat.le_refl _) _).trans (C.mono (by simp)); have K2 : OC w2 w.heap.size (o.noW.noV.noT) := (OC.new w (o.noW.noV.noT)).keep C; obtain ⟨q0, q1, q2, q3, q4, q5, q6, q7, q8, q9⟩ := K2.cs; have f2 := K2.fz 2; have f3 := K2.fz 3; have lt := K2.lt; clear K2 C; have D3 : Below w.heap.size w ((w2.setCell ⟨w.heap.size, 2, none⟩ (.string noTxt)).setCell ⟨w.heap.size, 3, none⟩ (.string noTxt)) := (D.setCell (Nat.le_refl _) _).setCell (Nat.le_refl _) _; have h3 := ((h.below D3).noW.noV.noT).noK; clear h D; simp only [OA.noW, OA.noV, OA.noT, noBs] at q0 q1 q2 q3 q4 q5 q6 q7 q8 q9)
    | (go_at_call 82; refine (palone_any _ (o.noW.noV.noT).noK h3).mono ?_; rintro e w4 ⟨rfl, C4⟩; have D4 := D3.trans (C4.mono D3.size); clear C4))
  go_ret
  exact ⟨by rw [hv.out] <;> rfl, D4⟩

set_option maxRecDepth 100000 in
set_option maxHeartbeats 4000000 in
theorem pleaf_1 (w : World) (o : OA) (h : o.ok w) (hk : o.kind = 1) :
    Calls Tryz.prog 59 #[o.val] w fun e w' => e = .returned (.bool (leaf o.s o.sn)) ∧ Below w.heap.size w w' := by
  have l1 := h.va.len
  have t5 : (o.kind == 5) = false := by simp [hk]
  have t1 : (o.kind == 1) = true := by simp [hk]
  by_cases hva : ¬ o.va.n ≤ 256
  · have d2 : decide (o.va.n ≤ 256) = false := decide_eq_false hva
    have hv : Hid (leaf o.s o.sn = false) := leaf_long (.inl (by show 256 < o.va.xs.length; omega))
    clear h hk hva l1 
    unfold OA.val
    go_enter Tryz.func59, Tryz.ntmps59
    go_wp2_with (first | (go_at_call 81; refine (pvalue_any _ _ _ _).mono ?_; rintro e w' ⟨rfl, rfl⟩; rw [d2]))
    go_ret
    exact ⟨by rw [hv.out] <;> rfl, ((Below.refl _ w).alloc (Nat.le_refl _) _)⟩
  have hva := Classical.not_not.1 hva
  have d2 : decide (o.va.n ≤ 256) = true := decide_eq_true hva
  by_cases q : ¬ o.key.isRight = true
  · have hr : (o.noV.noT).key.kind = 5 := by
      unfold KA.kind
      rw [show (o.noV.noT).key.isRight = o.key.isRight from rfl, if_neg q]
    have hv : Hid (leaf o.s o.sn = false) := leaf_noKey (o := o.s) (.inl hk) (Bool.eq_false_iff.2 q)
    clear h hk q l1 hva
    unfold OA.val
    go_enter Tryz.func59, Tryz.ntmps59
    go_wp2_with (first | (go_at_call 81; refine (pvalue_any _ _ _ _).mono ?_; rintro e w' ⟨rfl, rfl⟩; rw [d2]) | (go_at_call 52; refine (pright_any _ (o.noV.noT).key).mono ?_; rintro e w2 ⟨rfl, C⟩; rw [hr]; have D := ((Below.refl _ w).alloc (Nat.le_refl _) _).trans (C.mono (by simp))))
    go_ret
    exact ⟨by rw [hv.out] <;> rfl, D⟩
  have q := Classical.not_not.1 q
  have hr : (o.noV.noT).key.kind = 0 := by
    unfold KA.kind
    rw [show (o.noV.noT).key.isRight = o.key.isRight from rfl, if_pos q]
  have hv : Hid (leaf o.s o.sn = isAlone (o.noV.noT).noK) := leaf1 h hk hva q
  have e0 : o.row.toList.isEmpty = false := by
    rw [toE]
    exact decide_eq_false (by have := of_decide_eq_true q; simp only [OA.key] at this; omega)
  clear q hk l1 hva
  unfold OA.val
  go_enter Tryz.func59, Tryz.ntmps59
  go_wp2_with (first
    | (go_at_call 81; refine (pvalue_any _ _ _ _).mono ?_; rintro e w' ⟨rfl, rfl⟩; rw [d2]) |  (go_at_call 52; refine (pright_any _ (o.noV.noT).key).mono ?_; rintro e w2 ⟨rfl, C⟩; rw [hr]; have D : Below w.heap.size w w2 := ((Below.refl _ w).alloc (Nat.le_refl _) _).trans (C.mono (by simp)); have K2 : OC w2 w.heap.size (o.noV.noT) := (OC.new w (o.noV.noT)).keep C; obtain ⟨q0, q1, q2, q3, q4, q5, q6, q7, q8, q9⟩ := K2.cs; have f2 := K2.fz 2; have f3 := K2.fz 3; have lt := K2.lt; clear K2 C; have D3 : Below w.heap.size w ((w2.setCell ⟨w.heap.size, 2, none⟩ (.string noTxt)).setCell ⟨w.heap.size, 3, none⟩ (.string noTxt)) := (D.setCell (Nat.le_refl _) _).setCell (Nat.le_refl _) _; have h3 := ((h.below D3).noV.noT).noK; clear h D; simp only [OA.noV, OA.noT, noBs] at q0 q1 q2 q3 q4 q5 q6 q7 q8 q9)
    | (go_at_call 82; refine (palone_any _ (o.noV.noT).noK h3).mono ?_; rintro e w4 ⟨rfl, C4⟩; have D4 := D3.trans (C4.mono D3.size); clear C4))
  go_ret
  exact ⟨by rw [hv.out] <;> rfl, D4⟩

set_option maxRecDepth 100000 in
set_option maxHeartbeats 4000000 in
theorem pleaf_2 (w : World) (o : OA) (h : o.ok w) (hk : o.kind = 2) :
    Calls Tryz.prog 59 #[o.val] w fun e w' => e = .returned (.bool (leaf o.s o.sn)) ∧ Below w.heap.size w w' := by
  have t5 : (o.kind == 5) = false := by simp [hk]
  have t1 : (o.kind == 1) = false := by simp [hk]
  have t2 : (o.kind == 2) = true := by simp [hk]
  by_cases q : ¬ o.key.isRight = true
  · have hr : (o.noT).key.kind = 5 := by
      unfold KA.kind
      rw [show (o.noT).key.isRight = o.key.isRight from rfl, if_neg q]
    have hv : Hid (leaf o.s o.sn = false) := leaf_noKey (o := o.s) (.inr (.inl hk)) (Bool.eq_false_iff.2 q)
    clear h hk q 
    unfold OA.val
    go_enter Tryz.func59, Tryz.ntmps59
    go_wp2_with (first | (go_at_call 52; refine (pright_any _ (o.noT).key).mono ?_; rintro e w2 ⟨rfl, C⟩; rw [hr]; have D := ((Below.refl _ w).alloc (Nat.le_refl _) _).trans (C.mono (by simp))))
    go_ret
    exact ⟨by rw [hv.out] <;> rfl, D⟩
  have q := Classical.not_not.1 q
  have hr : (o.noT).key.kind = 0 := by
    unfold KA.kind
    rw [show (o.noT).key.isRight = o.key.isRight from rfl, if_pos q]
  have hv : Hid (leaf o.s o.sn = isAlone (o.noT).noK) := leaf2 hk q
  have e0 : o.row.toList.isEmpty = false := by
    rw [toE]
    exact decide_eq_false (by have := of_decide_eq_true q; simp only [OA.key] at this; omega)
  clear q hk 
  unfold OA.val
  go_enter Tryz.func59, Tryz.ntmps59
  go_wp2_with (first
    |  (go_at_call 52; refine (pright_any _ (o.noT).key).mono ?_; rintro e w2 ⟨rfl, C⟩; rw [hr]; have D : Below w.heap.size w w2 := ((Below.refl _ w).alloc (Nat.le_refl _) _).trans (C.mono (by simp)); have K2 : OC w2 w.heap.size (o.noT) := (OC.new w (o.noT)).keep C; obtain ⟨q0, q1, q2, q3, q4, q5, q6, q7, q8, q9⟩ := K2.cs; have f2 := K2.fz 2; have f3 := K2.fz 3; have lt := K2.lt; clear K2 C; have D3 : Below w.heap.size w ((w2.setCell ⟨w.heap.size, 2, none⟩ (.string noTxt)).setCell ⟨w.heap.size, 3, none⟩ (.string noTxt)) := (D.setCell (Nat.le_refl _) _).setCell (Nat.le_refl _) _; have h3 := ((h.below D3).noT).noK; clear h D; simp only [OA.noT] at q0 q1 q2 q3 q4 q5 q6 q7 q8 q9)
    | (go_at_call 82; refine (palone_any _ (o.noT).noK h3).mono ?_; rintro e w4 ⟨rfl, C4⟩; have D4 := D3.trans (C4.mono D3.size); clear C4))
  go_ret
  exact ⟨by rw [hv.out] <;> rfl, D4⟩

set_option maxRecDepth 100000 in
set_option maxHeartbeats 4000000 in
theorem pleaf_3 (w : World) (o : OA) (h : o.ok w) (hk : o.kind = 3) :
    Calls Tryz.prog 59 #[o.val] w fun e w' => e = .returned (.bool (leaf o.s o.sn)) ∧ Below w.heap.size w w' := by
  have t5 : (o.kind == 5) = false := by simp [hk]
  have t1 : (o.kind == 1) = false := by simp [hk]
  have t2 : (o.kind == 2) = false := by simp [hk]
  have t3 : (o.kind == 3) = true := by simp [hk]
  by_cases q : ¬ o.key.isRight = true
  · have hr : (o).key.kind = 5 := by
      unfold KA.kind
      rw [show (o).key.isRight = o.key.isRight from rfl, if_neg q]
    have hv : Hid (leaf o.s o.sn = false) := leaf_noKey (o := o.s) (.inr (.inr (.inl hk))) (Bool.eq_false_iff.2 q)
    clear h hk q 
    unfold OA.val
    go_enter Tryz.func59, Tryz.ntmps59
    go_wp2_with (first | (go_at_call 52; refine (pright_any _ (o).key).mono ?_; rintro e w2 ⟨rfl, C⟩; rw [hr]; have D := ((Below.refl _ w).alloc (Nat.le_refl _) _).trans (C.mono (by simp))))
    go_ret
    exact ⟨by rw [hv.out] <;> rfl, D⟩
  have q := Classical.not_not.1 q
  have hr : (o).key.kind = 0 := by
    unfold KA.kind
    rw [show (o).key.isRight = o.key.isRight from rfl, if_pos q]
  have hv : Hid (leaf o.s o.sn = isAlone (o).noK) := leaf37 (.inl hk) q
  have e0 : o.row.toList.isEmpty = false := by
    rw [toE]
    exact decide_eq_false (by have := of_decide_eq_true q; simp only [OA.key] at this; omega)
  clear q hk 
  unfold OA.val
  go_enter Tryz.func59, Tryz.ntmps59
  go_wp2_with (first
    |  (go_at_call 52; refine (pright_any _ (o).key).mono ?_; rintro e w2 ⟨rfl, C⟩; rw [hr]; have D : Below w.heap.size w w2 := ((Below.refl _ w).alloc (Nat.le_refl _) _).trans (C.mono (by simp)); have K2 : OC w2 w.heap.size (o) := (OC.new w (o)).keep C; obtain ⟨q0, q1, q2, q3, q4, q5, q6, q7, q8, q9⟩ := K2.cs; have f2 := K2.fz 2; have f3 := K2.fz 3; have lt := K2.lt; clear K2 C; have D3 : Below w.heap.size w ((w2.setCell ⟨w.heap.size, 2, none⟩ (.string noTxt)).setCell ⟨w.heap.size, 3, none⟩ (.string noTxt)) := (D.setCell (Nat.le_refl _) _).setCell (Nat.le_refl _) _; have h3 := ((h.below D3)).noK; clear h D)
    | (go_at_call 82; refine (palone_any _ (o).noK h3).mono ?_; rintro e w4 ⟨rfl, C4⟩; have D4 := D3.trans (C4.mono D3.size); clear C4))
  go_ret
  exact ⟨by rw [hv.out] <;> rfl, D4⟩

set_option maxRecDepth 100000 in
set_option maxHeartbeats 4000000 in
theorem pleaf_7 (w : World) (o : OA) (h : o.ok w) (hk : o.kind = 7) :
    Calls Tryz.prog 59 #[o.val] w fun e w' => e = .returned (.bool (leaf o.s o.sn)) ∧ Below w.heap.size w w' := by
  have t5 : (o.kind == 5) = false := by simp [hk]
  have t1 : (o.kind == 1) = false := by simp [hk]
  have t2 : (o.kind == 2) = false := by simp [hk]
  have t3 : (o.kind == 3) = false := by simp [hk]
  have t7 : (o.kind == 7) = true := by simp [hk]
  by_cases q : ¬ o.key.isRight = true
  · have hr : (o).key.kind = 5 := by
      unfold KA.kind
      rw [show (o).key.isRight = o.key.isRight from rfl, if_neg q]
    have hv : Hid (leaf o.s o.sn = false) := leaf_noKey (o := o.s) (.inr (.inr (.inr (.inr hk)))) (Bool.eq_false_iff.2 q)
    clear h hk q 
    unfold OA.val
    go_enter Tryz.func59, Tryz.ntmps59
    go_wp2_with (first | (go_at_call 52; refine (pright_any _ (o).key).mono ?_; rintro e w2 ⟨rfl, C⟩; rw [hr]; have D := ((Below.refl _ w).alloc (Nat.le_refl _) _).trans (C.mono (by simp))))
    go_ret
    exact ⟨by rw [hv.out] <;> rfl, D⟩
  have q := Classical.not_not.1 q
  have hr : (o).key.kind = 0 := by
    unfold KA.kind
    rw [show (o).key.isRight = o.key.isRight from rfl, if_pos q]
  have hv : Hid (leaf o.s o.sn = isAlone (o).noK) := leaf37 (.inr hk) q
  have e0 : o.row.toList.isEmpty = false := by
    rw [toE]
    exact decide_eq_false (by have := of_decide_eq_true q; simp only [OA.key] at this; omega)
  clear q hk 
  unfold OA.val
  go_enter Tryz.func59, Tryz.ntmps59
  go_wp2_with (first
    |  (go_at_call 52; refine (pright_any _ (o).key).mono ?_; rintro e w2 ⟨rfl, C⟩; rw [hr]; have D : Below w.heap.size w w2 := ((Below.refl _ w).alloc (Nat.le_refl _) _).trans (C.mono (by simp)); have K2 : OC w2 w.heap.size (o) := (OC.new w (o)).keep C; obtain ⟨q0, q1, q2, q3, q4, q5, q6, q7, q8, q9⟩ := K2.cs; have f2 := K2.fz 2; have f3 := K2.fz 3; have lt := K2.lt; clear K2 C; have D3 : Below w.heap.size w ((w2.setCell ⟨w.heap.size, 2, none⟩ (.string noTxt)).setCell ⟨w.heap.size, 3, none⟩ (.string noTxt)) := (D.setCell (Nat.le_refl _) _).setCell (Nat.le_refl _) _; have h3 := ((h.below D3)).noK; clear h D)
    | (go_at_call 82; refine (palone_any _ (o).noK h3).mono ?_; rintro e w4 ⟨rfl, C4⟩; have D4 := D3.trans (C4.mono D3.size); clear C4))
  go_ret
  exact ⟨by rw [hv.out] <;> rfl, D4⟩

set_option maxRecDepth 100000 in
set_option maxHeartbeats 4000000 in
theorem pleaf_4 (w : World) (o : OA) (h : o.ok w) (hk : o.kind = 4) :
    Calls Tryz.prog 59 #[o.val] w fun e w' => e = .returned (.bool (leaf o.s o.sn)) ∧ Below w.heap.size w w' := by
  have t5 : (o.kind == 5) = false := by simp [hk]
  have t1 : (o.kind == 1) = false := by simp [hk]
  have t2 : (o.kind == 2) = false := by simp [hk]
  have t3 : (o.kind == 3) = false := by simp [hk]
  have t7 : (o.kind == 7) = false := by simp [hk]
  have t4 : (o.kind == 4) = true := by simp [hk]
  by_cases q : o.row.size = 0
  · have e0 : o.row.toList.isEmpty = true := by
      rw [toE]
      exact decide_eq_true q
    have hv : Hid (leaf o.s o.sn = false) := leaf_noRow (.inl hk) q
    clear h hk q
    unfold OA.val
    go_enter Tryz.func59, Tryz.ntmps59
    go_wp2
    go_ret
    exact ⟨by rw [hv.out] <;> rfl, ((Below.refl _ w).alloc (Nat.le_refl _) _)⟩
  have e0 : o.row.toList.isEmpty = false := by
    rw [toE]
    exact decide_eq_false q
  have hv : Hid (leaf o.s o.sn = isAlone o) := leaf4 hk q
  have D3 : Below w.heap.size w (w.alloc (Obj.cells o.cells.toArray 43)) := ((Below.refl _ w).alloc (Nat.le_refl _) _)
  have h3 := h.below D3
  clear h hk q
  unfold OA.val
  go_enter Tryz.func59, Tryz.ntmps59
  go_wp2_with (go_at_call 82; refine (palone_any _ o h3).mono ?_; rintro e w4 ⟨rfl, C4⟩; have D4 := D3.trans (C4.mono D3.size); clear C4)
  go_ret
  exact ⟨by rw [hv.out] <;> rfl, D4⟩

set_option maxRecDepth 100000 in
set_option maxHeartbeats 4000000 in
theorem pleaf_8 (w : World) (o : OA) (h : o.ok w) (hk : o.kind = 8) :
    Calls Tryz.prog 59 #[o.val] w fun e w' => e = .returned (.bool (leaf o.s o.sn)) ∧ Below w.heap.size w w' := by
  have t5 : (o.kind == 5) = false := by simp [hk]
  have t1 : (o.kind == 1) = false := by simp [hk]
  have t2 : (o.kind == 2) = false := by simp [hk]
  have t3 : (o.kind == 3) = false := by simp [hk]
  have t7 : (o.kind == 7) = false := by simp [hk]
  have t4 : (o.kind == 4) = false := by simp [hk]
  have t6 : (o.kind == 6) = false := by simp [hk]
  have t8 : (o.kind == 8) = true := by simp [hk]
  by_cases q : ¬ o.to.size ≤ 32
  · have i : decide ((32 : Int) < (o.to.size : Int)) = true := by simp; omega
    have hv : Hid (leaf o.s o.sn = false) := leaf_noTo hk (by show 32 < o.to.size; omega)
    clear h hk q
    unfold OA.val
    go_enter Tryz.func59, Tryz.ntmps59
    go_wp2
    go_ret
    exact ⟨by rw [hv.out] <;> rfl, ((Below.refl _ w).alloc (Nat.le_refl _) _)⟩
  have q := Classical.not_not.1 q
  have i : decide ((32 : Int) < (o.to.size : Int)) = false := by simp; omega
  have hv : Hid (leaf o.s o.sn = isAlone o.noTo) := leaf8 hk q
  have D3 : Below w.heap.size w (w.alloc (Obj.cells o.noTo.cells.toArray 43)) := ((Below.refl _ w).alloc (Nat.le_refl _) _)
  have h3 := (h.below D3).noTo
  clear h hk q
  unfold OA.val
  go_enter Tryz.func59, Tryz.ntmps59
  go_wp2_with (go_at_call 82; refine (palone_any _ o.noTo h3).mono ?_; rintro e w4 ⟨rfl, C4⟩; have D4 := D3.trans (C4.mono D3.size); clear C4)
  go_ret
  exact ⟨by rw [hv.out] <;> rfl, D4⟩

set_option maxRecDepth 100000 in
set_option maxHeartbeats 4000000 in
theorem pleaf_0 (w : World) (o : OA) (hk : o.kind < 1 ∨ 8 < o.kind) :
    Calls Tryz.prog 59 #[o.val] w fun e w' => e = .returned (.bool (leaf o.s o.sn)) ∧ Below w.heap.size w w' := by
  have t5 : (o.kind == 5) = false := by simp; omega
  have t1 : (o.kind == 1) = false := by simp; omega
  have t2 : (o.kind == 2) = false := by simp; omega
  have t3 : (o.kind == 3) = false := by simp; omega
  have t7 : (o.kind == 7) = false := by simp; omega
  have t4 : (o.kind == 4) = false := by simp; omega
  have t6 : (o.kind == 6) = false := by simp; omega
  have t8 : (o.kind == 8) = false := by simp; omega
  have hv : Hid (leaf o.s o.sn = false) := leaf_noKind hk
  clear hk
  unfold OA.val
  go_enter Tryz.func59, Tryz.ntmps59
  go_wp2
  go_ret
  exact ⟨by rw [hv.out] <;> rfl, ((Below.refl _ w).alloc (Nat.le_refl _) _)⟩

/-- isRight, of an operation that is no batch. -/
theorem pleaf_any (w : World) (o : OA) (h : o.ok w) (hk : o.kind ≠ 6) :
    Calls Tryz.prog 59 #[o.val] w fun e w' => e = .returned (.bool (leaf o.s o.sn)) ∧ Below w.heap.size w w' := by
  by_cases c0 : o.kind < 1 ∨ 8 < o.kind
  · exact pleaf_0 w o c0
  · have : o.kind = 1 ∨ o.kind = 2 ∨ o.kind = 3 ∨ o.kind = 4 ∨ o.kind = 5 ∨ o.kind = 7 ∨ o.kind = 8 := by omega
    rcases this with c | c | c | c | c | c | c
    · exact pleaf_1 w o h c
    · exact pleaf_2 w o h c
    · exact pleaf_3 w o h c
    · exact pleaf_4 w o h c
    · exact pleaf_5 w o h c
    · exact pleaf_7 w o h c
    · exact pleaf_8 w o h c
end Go.Proofs.YtnicnfjickknjaaGreatDoor

namespace Go.Proofs.YtnicnfjickknjaaGreatDoor
open Go.RowKit

def partB (o : OA) : Bool := decide (1 ≤ o.kind ∧ o.kind ≤ 4) && leaf o.s o.sn

set_option maxRecDepth 100000 in
set_option maxHeartbeats 4000000 in
theorem ppart_any (w : World) (o : OA) (h : o.ok w) :
    Calls Tryz.prog 107 #[o.val] w fun e w' => e = .returned (.bool (partB o)) ∧ Below w.heap.size w w' := by
  have B : Below w.heap.size w (w.alloc (Obj.cells o.cells.toArray 43)) := (Below.refl _ w).alloc (Nat.le_refl _) _
  have h1 := h.below B
  clear h
  unfold OA.cells at B
  by_cases c : 1 ≤ o.kind ∧ o.kind ≤ 4
  · have h6 : o.kind ≠ 6 := by omega
    have hv : Hid (partB o = leaf o.s o.sn) := by
      show _ = _
      unfold partB
      rw [decide_eq_true c, Bool.true_and]
    have c : o.kind = 1 ∨ o.kind = 2 ∨ o.kind = 3 ∨ o.kind = 4 := by omega
    rcases c with c | c | c | c
    · have t1 : (o.kind == 1) = true := by simp [c]
      clear c
      unfold OA.val
      go_enter Tryz.func107, Tryz.ntmps107
      go_wp2_with (go_at_call 59; refine (pleaf_any _ o h1 h6).mono ?_; rintro e w' ⟨rfl, C⟩; have D := B.trans (C.mono B.size))
      go_ret
      exact ⟨by rw [hv.out] <;> rfl, D⟩
    · have t1 : (o.kind == 1) = false := by simp [c]
      have t2 : (o.kind == 2) = true := by simp [c]
      clear c
      unfold OA.val
      go_enter Tryz.func107, Tryz.ntmps107
      go_wp2_with (go_at_call 59; refine (pleaf_any _ o h1 h6).mono ?_; rintro e w' ⟨rfl, C⟩; have D := B.trans (C.mono B.size))
      go_ret
      exact ⟨by rw [hv.out] <;> rfl, D⟩
    · have t1 : (o.kind == 1) = false := by simp [c]
      have t2 : (o.kind == 2) = false := by simp [c]
      have t3 : (o.kind == 3) = true := by simp [c]
      clear c
      unfold OA.val
      go_enter Tryz.func107, Tryz.ntmps107
      go_wp2_with (go_at_call 59; refine (pleaf_any _ o h1 h6).mono ?_; rintro e w' ⟨rfl, C⟩; have D := B.trans (C.mono B.size))
      go_ret
      exact ⟨by rw [hv.out] <;> rfl, D⟩
    · have t1 : (o.kind == 1) = false := by simp [c]
      have t2 : (o.kind == 2) = false := by simp [c]
      have t3 : (o.kind == 3) = false := by simp [c]
      have t4 : (o.kind == 4) = true := by simp [c]
      clear c
      unfold OA.val
      go_enter Tryz.func107, Tryz.ntmps107
      go_wp2_with (go_at_call 59; refine (pleaf_any _ o h1 h6).mono ?_; rintro e w' ⟨rfl, C⟩; have D := B.trans (C.mono B.size))
      go_ret
      exact ⟨by rw [hv.out] <;> rfl, D⟩
  · have t1 : (o.kind == 1) = false := by simp; omega
    have t2 : (o.kind == 2) = false := by simp; omega
    have t3 : (o.kind == 3) = false := by simp; omega
    have t4 : (o.kind == 4) = false := by simp; omega
    have hv : Hid (partB o = false) := by
      show _ = _
      unfold partB
      rw [decide_eq_false c, Bool.false_and]
    clear c h1
    unfold OA.val
    go_enter Tryz.func107, Tryz.ntmps107
    go_wp2
    go_ret
    exact ⟨by rw [hv.out] <;> rfl, B⟩

/-- Is it no part of a batch of that row? -/
def badP (row : ByteArray) (o : OA) : Bool := !(decide (o.row = row) && partB o)

set_option maxRecDepth 100000 in
set_option maxHeartbeats 4000000 in
theorem pbad_any (w : World) (o : OA) (h : o.ok w) (g : Nat) (row : ByteArray) (hg : w.cell? ⟨g, 0, none⟩ = some (.string row)) :
    Calls Tryz.prog 106 #[o.val, .pointer (some ⟨g, 0, none⟩)] w fun e w' => e = .returned (.bool (badP row o)) ∧ Below w.heap.size w w' := by
  have B : Below w.heap.size w (w.alloc (Obj.cells o.cells.toArray 43)) := (Below.refl _ w).alloc (Nat.le_refl _) _
  have h1 := h.below B
  have g1 : (w.alloc (Obj.cells o.cells.toArray 43)).cell? ⟨g, 0, none⟩ = some (.string row) := (B.cell (World.block_lt_of_cell? w _ hg)).trans hg
  clear h hg
  unfold OA.cells at B g1
  by_cases c : o.row = row
  · have i : (o.row.toList == row.toList) = true := by rw [c]; exact beq_self_eq_true _
    have hv : Hid (badP row o = !(partB o)) := by
      show _ = _
      unfold badP
      rw [decide_eq_true c, Bool.true_and]
    clear c
    unfold OA.val
    go_enter Tryz.func106, Tryz.ntmps106
    go_wp2_with (go_at_call 107; refine (ppart_any _ o h1).mono ?_; rintro e w' ⟨rfl, C⟩; have D := B.trans (C.mono B.size))
    go_ret
    exact ⟨by rw [hv.out] <;> rfl, D⟩
  · have i : (o.row.toList == row.toList) = false := toL_ne c
    have hv : Hid (badP row o = true) := by
      show _ = _
      unfold badP
      rw [decide_eq_false c, Bool.false_and]
      rfl
    clear c h1
    unfold OA.val
    go_enter Tryz.func106, Tryz.ntmps106
    go_wp2
    go_ret
    exact ⟨by rw [hv.out] <;> rfl, B⟩

set_option maxRecDepth 100000 in
set_option maxHeartbeats 4000000 in
theorem pindex_any (w : World) (ao : Option Addr) (n cap : Nat) (l : List OA) (h : OWL w 0 ao n cap l) (g : Nat) (row : ByteArray) (hg : w.cell? ⟨g, 0, none⟩ = some (.string row)) :
    Calls Tryz.prog 121 #[.slice ao n cap, .func (.func 106) #[] #[.pointer (some ⟨g, 0, none⟩)]] w fun e w' =>
      (∃ i : Int, e = .returned (.int .i64 i) ∧ decide (0 ≤ i) = l.any (badP row)) ∧ Below w.heap.size w w' := by
  have hl : l.length = n := h.len
  have hm := h.mx
  have hle := h.le
  simp only [maxLen] at hm
  go_enter Tryz.func121, Tryz.ntmps121
  go_wp2
  go_loopw [5, 8] (fun _ i wr => ∃ k : Nat, k ≤ n ∧ i = .int .i64 k ∧ Below w.heap.size w wr ∧ (l.take k).any (badP row) = false) (fun _ i _ => n - (intOf i).toNat)
  case atStart => exact ⟨0, Nat.zero_le _, rfl, Below.refl _ _, rfl⟩
  case round =>
    obtain ⟨k, hk, rfl, B, hall⟩ := hrel
    have HA : Hid ((l.take k).any (badP row) = false) := hall
    clear hall
    by_cases hlt : k < n
    · obtain ⟨b, off, rfl, hc⟩ := h.at (by omega)
      have hkl : k < l.length := by omega
      have X := (hc k hkl).below B
      have hok : (l[k]).ok wr := (h.ok _ (List.getElem_mem hkl)).below B
      have g1 : wr.cell? ⟨g, 0, none⟩ = some (.string row) := (B.cell (World.block_lt_of_cell? w _ hg)).trans hg
      have i1 : (k : Int) < (n : Int) := by omega
      have HT : Hid ((l.take (k + 1)).any (badP row) = badP row l[k]) := by
        show _ = _
        rw [List.take_succ_eq_append_getElem hkl, List.any_append, HA.out]
        simp
      have HL : Hid (badP row l[k] = true → l.any (badP row) = true) := fun hb => List.any_eq_true.2 ⟨_, List.getElem_mem hkl, hb⟩
      obtain ⟨o, ho⟩ : ∃ o : OA, o = l[k] := ⟨_, rfl⟩
      have X : OX wr b (off + k * 10) o := by rw [ho]; exact X
      rw [← ho] at hok HT HL
      clear ho hc h HA
      obtain ⟨q0, q1, q2, q3, q4, q5, q6, q7, q8, q9⟩ := X
      cases hb : badP row o with
      | true =>
        go_wp2_with (go_at_call 106; refine (pbad_any _ o hok g row g1).mono ?_; rintro e w2 ⟨rfl, C⟩; have D := B.trans (C.mono B.size); rw [hb])
        go_ret
        exact ⟨⟨k, rfl, by rw [HL.out hb]; exact decide_eq_true (by omega)⟩, D⟩
      | false =>
        go_wp2_with (go_at_call 106; refine (pbad_any _ o hok g row g1).mono ?_; rintro e w2 ⟨rfl, C⟩; have D := B.trans (C.mono B.size); rw [hb])
        go_roundw
        case rel => exact ⟨k + 1, by omega, by go_num, D, by rw [HT.out, hb]⟩
        case measure => simp [intOf]; omega
    · have i1 : (n : Int) ≤ (k : Int) := by omega
      have HL : Hid (l.any (badP row) = false) := by
        show _ = _
        rw [← HA.out, List.take_of_length_le (by omega)]
      go_wp2
      go_ret
      exact ⟨⟨-1, rfl, by rw [HL.out]; rfl⟩, B⟩

theorem pcontains_any (w : World) (ao : Option Addr) (n cap : Nat) (l : List OA) (h : OWL w 0 ao n cap l) (g : Nat) (row : ByteArray) (hg : w.cell? ⟨g, 0, none⟩ = some (.string row)) :
    Calls Tryz.prog 105 #[.slice ao n cap, .func (.func 106) #[] #[.pointer (some ⟨g, 0, none⟩)]] w fun e w' =>
      e = .returned (.bool (l.any (badP row))) ∧ Below w.heap.size w w' := by
  go_enter Tryz.func105, Tryz.ntmps105
  go_wp2_with fail
  refine (pindex_any _ ao n cap l h g row hg).mono ?_
  rintro e w' ⟨⟨i, rfl, hi⟩, C⟩
  have HI : Hid (decide (0 ≤ i) = l.any (badP row)) := hi
  clear hi
  go_wp2
  go_ret
  exact ⟨by rw [← HI.out] <;> rfl, C⟩

/-- areParts: from one to eight, each a part. -/
def partsB (row : ByteArray) (l : List OA) : Bool := decide (1 ≤ l.length ∧ l.length ≤ 8) && l.all fun o => decide (o.row = row) && partB o
theorem any_bad (row : ByteArray) (l : List OA) : (!(l.any (badP row))) = l.all fun o => decide (o.row = row) && partB o := by
  rw [List.not_any_eq_all_not]
  congr 1
  funext o
  unfold badP
  simp

set_option maxRecDepth 100000 in
set_option maxHeartbeats 4000000 in
theorem pparts_any (w : World) (ao : Option Addr) (n cap : Nat) (l : List OA) (h : OWL w 0 ao n cap l) (row : ByteArray) :
    Calls Tryz.prog 83 #[.slice ao n cap, .string row] w fun e w' => e = .returned (.bool (partsB row l)) ∧ Below w.heap.size w w' := by
  have hl : l.length = n := h.len
  have B : Below w.heap.size w (w.alloc (Obj.cells #[.string row] 9)) := (Below.refl _ w).alloc (Nat.le_refl _) _
  have h1 := h.below B
  have g1 : (w.alloc (Obj.cells #[.string row] 9)).cell? ⟨w.heap.size, 0, none⟩ = some (.string row) := cell_one_new _ _ _ 0 _ (by simp)
  by_cases c0 : n < 1
  · have i0 : (n : Int) < 1 := by omega
    have hv : Hid (partsB row l = false) := by
      show _ = _
      unfold partsB
      rw [decide_eq_false (by omega), Bool.false_and]
    clear h h1 hl
    go_enter Tryz.func83, Tryz.ntmps83
    go_wp2
    go_ret
    exact ⟨by rw [hv.out] <;> rfl, B⟩
  have i0 : decide ((n : Int) < 1) = false := by simp; omega
  by_cases c1 : 8 < n
  · have i1 : decide ((8 : Int) < (n : Int)) = true := by simp; omega
    have hv : Hid (partsB row l = false) := by
      show _ = _
      unfold partsB
      rw [decide_eq_false (by omega), Bool.false_and]
    clear h h1 hl
    go_enter Tryz.func83, Tryz.ntmps83
    go_wp2
    go_ret
    exact ⟨by rw [hv.out] <;> rfl, B⟩
  have i1 : decide ((8 : Int) < (n : Int)) = false := by simp; omega
  have hv : Hid (partsB row l = !(l.any (badP row))) := by
    show _ = _
    unfold partsB
    rw [decide_eq_true (by omega), Bool.true_and, any_bad]
  clear h hl c0 c1
  go_enter Tryz.func83, Tryz.ntmps83
  go_wp2_with (go_at_call 105; refine (pcontains_any _ ao n cap l h1 w.heap.size row g1).mono ?_; rintro e w' ⟨rfl, C⟩; have D := B.trans (C.mono B.size))
  go_ret
  exact ⟨by rw [hv.out] <;> rfl, D⟩
end Go.Proofs.YtnicnfjickknjaaGreatDoor

namespace Go.Proofs.YtnicnfjickknjaaGreatDoor
open Go.RowKit

/-- A part, as it is looked at. -/
def sn0 (o : OA) : SN := (o.s, o.sn)
theorem OWL.flat {w : World} {d : Nat} {ao : Option Addr} {n cap : Nat} {l : List (OD d)} (h : OWL w d ao n cap l) : OWL w 0 ao n cap (l.map (topD d)) := by
  refine ⟨by rw [← h.len]; exact List.length_map _, h.le, h.mx, h.nil, fun a ha i hi j v hv => ?_, fun y hy => ?_⟩
  · have hi' : i < l.length := Nat.lt_of_lt_of_eq hi (List.length_map _)
    refine h.cell a ha i hi' j v ?_
    have e : (l.map (topD d))[i] = topD d l[i] := List.getElem_map _
    rw [← e]
    exact hv
  · obtain ⟨x, hx, rfl⟩ := List.mem_map.1 hy
    exact (h.ok x hx).top
theorem map_flat (d : Nat) (l : List (OD d)) : (l.map (topD d)).map sn0 = l.map (snD d) := by
  rw [List.map_map]
  rfl

theorem right6 {o : OA} {l : List OA} (hk : o.kind = 6) (hn : l.length = o.sn) (hr : o.row.size ≠ 0) : rightO o.s (l.map sn0) = (partsB o.row l && isAlone o.noS) := by
  have e : (l.map sn0).all (partR o.s) = l.all fun x => decide (x.row = o.row) && partB x := by
    rw [List.all_map]
    congr 1
    funext x
    show partR o.s (sn0 x) = _
    unfold partR sn0 partB
    show (decide (1 ≤ x.kind ∧ x.kind ≤ 4) && leaf x.s x.sn && decide (x.row = o.row)) = (decide (x.row = o.row) && (decide (1 ≤ x.kind ∧ x.kind ≤ 4) && leaf x.s x.sn))
    rw [Bool.and_comm]
  unfold rightO partsB
  rw [e, List.length_map, hn, leaf6 hk hr, show o.s.kind = o.kind from rfl, hk]
  simp only [ne_eq, not_true_eq_false, decide_false, Bool.false_or]
  cases isAlone o.noS <;> simp
theorem right_not6 {o : OA} {l : List SN} (hk : o.kind ≠ 6) : rightO o.s l = leaf o.s l.length := by
  unfold rightO
  rw [show o.s.kind = o.kind from rfl, decide_eq_true hk, Bool.true_or, Bool.and_true]
theorem right_noRow {o : OA} {l : List SN} (hk : o.kind = 6) (hr : o.row.size = 0) : rightO o.s l = false := by
  unfold rightO
  rw [leaf_noRow (.inr hk) hr, Bool.false_and]

set_option maxRecDepth 100000 in
set_option maxHeartbeats 4000000 in
theorem pisright_6 (w : World) (o : OA) (l : List OA) (h : o.ok w) (hs : OWL w 0 o.so o.sn o.sc l) (hk : o.kind = 6) :
    Calls Tryz.prog 59 #[o.val] w fun e w' => e = .returned (.bool (rightO o.s (l.map sn0))) ∧ Below w.heap.size w w' := by
  have hl : l.length = o.sn := hs.len
  have t5 : (o.kind == 5) = false := by simp [hk]
  have t1 : (o.kind == 1) = false := by simp [hk]
  have t2 : (o.kind == 2) = false := by simp [hk]
  have t3 : (o.kind == 3) = false := by simp [hk]
  have t7 : (o.kind == 7) = false := by simp [hk]
  have t4 : (o.kind == 4) = false := by simp [hk]
  have t6 : (o.kind == 6) = true := by simp [hk]
  have B : Below w.heap.size w (w.alloc (Obj.cells o.cells.toArray 43)) := (Below.refl _ w).alloc (Nat.le_refl _) _
  have K : OC (w.alloc (Obj.cells o.cells.toArray 43)) w.heap.size o := OC.new w o
  have hs1 := hs.below B
  unfold OA.cells at B K
  by_cases hp : partsB o.row l = false
  · have hv : Hid (rightO o.s (l.map sn0) = false) := by
      show _ = _
      by_cases hr : o.row.size = 0
      · exact right_noRow hk hr
      · rw [right6 hk hl hr, hp, Bool.false_and]
    clear h hs hk K hl
    unfold OA.val
    go_enter Tryz.func59, Tryz.ntmps59
    go_wp2_with (go_at_call 83; refine (pparts_any _ _ _ _ l hs1 o.row).mono ?_; rintro e w2 ⟨rfl, C⟩; have D := B.trans (C.mono B.size); rw [hp])
    go_ret
    exact ⟨by rw [hv.out] <;> rfl, D⟩
  have hp : partsB o.row l = true := by simpa using hp
  by_cases hr : o.row.size = 0
  · have e0 : o.row.toList.isEmpty = true := by
      rw [toE]
      exact decide_eq_true hr
    have hv : Hid (rightO o.s (l.map sn0) = false) := right_noRow hk hr
    clear h hs hk hl hr
    unfold OA.val
    go_enter Tryz.func59, Tryz.ntmps59
    go_wp2_with (go_at_call 83; refine (pparts_any _ _ _ _ l hs1 o.row).mono ?_; rintro e w2 ⟨rfl, C⟩; have D : Below w.heap.size w w2 := B.trans (C.mono B.size); have K2 : OC w2 w.heap.size o := K.keep C; rw [hp]; obtain ⟨q0, q1, q2, q3, q4, q5, q6, q7, q8, q9⟩ := K2.cs; have f9 := K2.fz 9; have lt := K2.lt; clear K2 C K; have D3 : Below w.heap.size w (w2.setCell ⟨w.heap.size, 9, none⟩ (.slice none 0 0)) := D.setCell (Nat.le_refl _) _; clear D)
    go_ret
    exact ⟨by rw [hv.out] <;> rfl, D3⟩
  have e0 : o.row.toList.isEmpty = false := by
    rw [toE]
    exact decide_eq_false hr
  have hv : Hid (rightO o.s (l.map sn0) = isAlone o.noS) := by
    show _ = _
    rw [right6 hk hl hr, hp, Bool.true_and]
  clear hs hk hl hr
  unfold OA.val
  go_enter Tryz.func59, Tryz.ntmps59
  go_wp2_with (first
    | (go_at_call 83; refine (pparts_any _ _ _ _ l hs1 o.row).mono ?_; rintro e w2 ⟨rfl, C⟩; have D : Below w.heap.size w w2 := B.trans (C.mono B.size); have K2 : OC w2 w.heap.size o := K.keep C; rw [hp]; obtain ⟨q0, q1, q2, q3, q4, q5, q6, q7, q8, q9⟩ := K2.cs; have f9 := K2.fz 9; have lt := K2.lt; clear K2 C K; have D3 : Below w.heap.size w (w2.setCell ⟨w.heap.size, 9, none⟩ (.slice none 0 0)) := D.setCell (Nat.le_refl _) _; have h3 := (h.below D3).noS; clear D h)
    | (go_at_call 82; refine (palone_any _ o.noS h3).mono ?_; rintro e w4 ⟨rfl, C4⟩; have D4 := D3.trans (C4.mono D3.size); clear C4))
  go_ret
  exact ⟨by rw [hv.out] <;> rfl, D4⟩

/-- isRight, of whatever operation. -/
theorem pisright_any (w : World) (o : OA) (l : List OA) (h : o.ok w) (hs : OWL w 0 o.so o.sn o.sc l) :
    Calls Tryz.prog 59 #[o.val] w fun e w' => e = .returned (.bool (rightO o.s (l.map sn0))) ∧ Below w.heap.size w w' := by
  by_cases hk : o.kind = 6
  · exact pisright_6 w o l h hs hk
  · rw [right_not6 hk, List.length_map, show l.length = o.sn from hs.len]
    exact pleaf_any w o h hk

def kindO (b : Bool) : Int := if b then 0 else 6

set_option maxRecDepth 100000 in
set_option maxHeartbeats 4000000 in
theorem pRight_any (w : World) (o : OA) (l : List OA) (h : o.ok w) (hs : OWL w 0 o.so o.sn o.sc l) :
    Calls Tryz.prog 40 #[o.val] w fun e w' => e = .returned (.int .i64 (kindO (rightO o.s (l.map sn0)))) ∧ Below w.heap.size w w' := by
  have B : Below w.heap.size w (w.alloc (Obj.cells o.cells.toArray 43)) := (Below.refl _ w).alloc (Nat.le_refl _) _
  have h1 := h.below B
  have hs1 := hs.below B
  clear h hs
  unfold OA.cells at B
  cases hb : rightO o.s (l.map sn0) with
  | true =>
    unfold OA.val
    go_enter Tryz.func40, Tryz.ntmps40
    go_wp2_with (go_at_call 59; refine (pisright_any _ o l h1 hs1).mono ?_; rintro e w2 ⟨rfl, C⟩; have D := B.trans (C.mono B.size); rw [hb])
    go_ret
    exact ⟨rfl, D⟩
  | false =>
    unfold OA.val
    go_enter Tryz.func40, Tryz.ntmps40
    go_wp2_with (go_at_call 59; refine (pisright_any _ o l h1 hs1).mono ?_; rintro e w2 ⟨rfl, C⟩; have D := B.trans (C.mono B.size); rw [hb])
    go_ret
    exact ⟨rfl, D⟩
end Go.Proofs.YtnicnfjickknjaaGreatDoor

namespace Go.Proofs.YtnicnfjickknjaaGreatDoor
open Go.RowKit

/-- What do leaves. -/
def DoPost (w : World) (p : Nat) (f t : ByteArray) (r : List CV × RV) (e : Ending) (w' : World) : Prop := ResP r.2 e w' ∧ TB w' p f t r.1 ∧ Wr p w w'
/-- The cell that an operation puts. -/
def OA.cell (o : OA) : CA := ⟨o.row, o.fam, o.qual, o.time, o.va, false⟩
theorem ResP.wr {w w' : World} {p : Nat} {x y z : Value} {r : RV} {e : Ending} (h : Arr w p 50 [x, y, z]) (hx : ∀ s, x ≠ .int .u8 s) (hx2 : ∀ s, x ≠ .string s) (hy : ∀ s, y ≠ .int .u8 s) (hy2 : ∀ s, y ≠ .string s) (hz : ∀ s, z ≠ .int .u8 s) (hz2 : ∀ s, z ≠ .string s) (k : Wr p w w') (S : ResP r e w) : ResP r e w' := by
  obtain ⟨ao, n, cap, l, he, hc, hl⟩ := S
  exact ⟨ao, n, cap, l, he, hc.wr h hx hx2 hy hy2 hz hz2 k, hl⟩

set_option maxHeartbeats 2000000 in
set_option maxRecDepth 100000 in
theorem do_put (w : World) (p : Nat) (f t : ByteArray) (cs : List CV) (o : OA) (hk : o.kind = 1) (hTb : Tabs w) (hT : TB w p f t cs) (hs : CSrt cs) (hg : CGood cs) (hn : cs.length ≤ 900) (hok : o.ok w) (hgd : o.cell.c.good) :
    Calls Tryz.prog 42 #[.pointer (some ⟨p, 0, none⟩), o.val] w (DoPost w p f t ((mPut cs o.cell.c).1, ⟨(mPut cs o.cell.c).2, [], false⟩)) := by
  have t2 := hTb.two
  obtain ⟨W1, hW1⟩ : ∃ V, V = w.alloc (.cells #[.int .i64 o.kind, .string o.row, .string o.fam, .string o.qual, .int .u64 o.time, .string o.to, .slice o.va.ao o.va.n o.va.cap, .slice o.wa.ao o.wa.n o.wa.cap, .bool o.has, .slice o.so o.sn o.sc] 43) := ⟨_, rfl⟩
  obtain ⟨W2, hW2⟩ : ∃ V, V = W1.alloc (.cells #[.int .i64 0, .slice none 0 0, .bool false] 50) := ⟨_, rfl⟩
  have C1 : Below w.heap.size w W1 := by rw [hW1]; exact (Below.refl _ _).alloc (Nat.le_refl _) _
  have C2 : Below W1.heap.size W1 W2 := by rw [hW2]; exact (Below.refl _ _).alloc (Nat.le_refl _) _
  have B2 := C1.trans (C2.mono C1.size)
  have s1 : W1.heap.size = w.heap.size + 1 := by rw [hW1]; exact Array.size_push ..
  have O1 : OC W1 w.heap.size o := by rw [hW1]; exact OC.new w o
  have O2 := O1.keep C2
  have R2 : Arr W2 (w.heap.size + 1) 50 [.int .i64 0, .slice none 0 0, .bool false] := by rw [hW2, ← s1]; exact heap_alloc_new W1 _
  have hp := hT.lt
  have hvn : o.va.n ≤ 100000 := by rw [← hok.va.len]; have := hgd.val; show o.cell.c.value.length ≤ _; omega
  have CP := put_any W2 p f t cs o.cell (hTb.below B2 t2) (hT.below B2) hs hg hn ⟨hok.row, hok.fam, hok.qual, hok.time, hok.va.below B2⟩ hgd hvn
  rw [show o.cell.val = .agg #[.string o.row, .string o.fam, .string o.qual, .int .u64 o.time, .slice o.va.ao o.va.n o.va.cap, .bool false] from rfl] at CP
  have k1 : (o.kind == 1) = true := by simp [hk]
  have k2 : (o.kind == 2) = false := by simp [hk]
  have k3 : (o.kind == 3) = false := by simp [hk]
  have k4 : (o.kind == 4) = false := by simp [hk]
  have k5 : (o.kind == 5) = false := by simp [hk]
  have k6 : (o.kind == 6) = false := by simp [hk]
  have k7 : (o.kind == 7) = false := by simp [hk]
  obtain ⟨m, hm⟩ : ∃ m, m = mPut cs o.cell.c := ⟨_, rfl⟩
  rw [← hm] at CP ⊢
  clear hm hk
  unfold OA.val
  go_enter Tryz.func42, Tryz.ntmps42
  go_wp2_with fail
  rw [← hW1, ← hW2]
  clear hW1 hW2 s1
  refine CP.mono ?_
  rintro e w3 ⟨rfl, X3, K3⟩
  have R3 : Arr w3 (w.heap.size + 1) 50 [.int .i64 0, .slice none 0 0, .bool false] := (K3.block _ R2.lt (by omega)).trans R2
  have K3' := (Wr.of (p := p) B2).trans K3
  have CB := only_any w3 m.2
  unfold resV at CB
  clear CP R2
  go_wp2_with fail
  refine CB.mono ?_
  rintro e w4 ⟨rfl, C4⟩
  have R4 := arr_below R3 C4
  have X4 := X3.below C4
  have K4 := K3'.trans (Wr.of C4)
  have r0 : w4.cell? ⟨w.heap.size + 1, 0, none⟩ = some (.int .i64 0) := R4.cell 0
  have f0 := R4.free 0
  have r1 : w4.cell? ⟨w.heap.size + 1, 1, none⟩ = some (.slice none 0 0) := R4.cell 1
  have f1 := R4.free 1
  have r2 : w4.cell? ⟨w.heap.size + 1, 2, none⟩ = some (.bool false) := R4.cell 2
  have f2 := R4.free 2
  have lt := R4.lt
  clear CB R3 X3
  have KW : Wr (w.heap.size + 1) w4 (((w4.setCell ⟨w.heap.size + 1, 0, none⟩ (.int .i64 m.2)).setCell ⟨w.heap.size + 1, 1, none⟩ (.slice none 0 0)).setCell ⟨w.heap.size + 1, 2, none⟩ (.bool false)) := (((Wr.refl _ _).set 0 _).set 1 _).set 2 _
  go_wp2
  exact bodyPost_ret (v := .agg #[.int .i64 m.2, .slice none 0 0, .bool false]) (by simp [results, Tryz.results42, go_sem, r0, r1, r2]) rfl ⟨ResP.bad m.2 _, TB.dull R4 (Dull.res _ _) KW (by omega) X4, K4.new KW (Nat.le_succ _)⟩

set_option maxHeartbeats 2000000 in
set_option maxRecDepth 100000 in
theorem do_get (w : World) (p : Nat) (f t : ByteArray) (cs : List CV) (o : OA) (hk : o.kind = 7) (hT : TB w p f t cs) (hs : CSrt cs) (hg : CGood cs) (hn : cs.length ≤ 1000) (hr : o.row.size ≤ 32) :
    Calls Tryz.prog 42 #[.pointer (some ⟨p, 0, none⟩), o.val] w (DoPost w p f t (cs, mGet cs o.key)) := by
  obtain ⟨W1, hW1⟩ : ∃ V, V = w.alloc (.cells #[.int .i64 o.kind, .string o.row, .string o.fam, .string o.qual, .int .u64 o.time, .string o.to, .slice o.va.ao o.va.n o.va.cap, .slice o.wa.ao o.wa.n o.wa.cap, .bool o.has, .slice o.so o.sn o.sc] 43) := ⟨_, rfl⟩
  obtain ⟨W2, hW2⟩ : ∃ V, V = W1.alloc (.cells #[.int .i64 0, .slice none 0 0, .bool false] 50) := ⟨_, rfl⟩
  have C1 : Below w.heap.size w W1 := by rw [hW1]; exact (Below.refl _ _).alloc (Nat.le_refl _) _
  have C2 : Below W1.heap.size W1 W2 := by rw [hW2]; exact (Below.refl _ _).alloc (Nat.le_refl _) _
  have B2 := C1.trans (C2.mono C1.size)
  have s1 : W1.heap.size = w.heap.size + 1 := by rw [hW1]; exact Array.size_push ..
  have O1 : OC W1 w.heap.size o := by rw [hW1]; exact OC.new w o
  have O2 := O1.keep C2
  have R2 : Arr W2 (w.heap.size + 1) 50 [.int .i64 0, .slice none 0 0, .bool false] := by rw [hW2, ← s1]; exact heap_alloc_new W1 _
  have hp := hT.lt
  have CP := get_any W2 p f t cs o.key (hT.below B2) hs hg hn hr
  rw [show o.key.val = .agg #[.string o.row, .string o.fam, .string o.qual, .int .u64 o.time] from rfl] at CP
  have k1 : (o.kind == 1) = false := by simp [hk]
  have k2 : (o.kind == 2) = false := by simp [hk]
  have k3 : (o.kind == 3) = false := by simp [hk]
  have k4 : (o.kind == 4) = false := by simp [hk]
  have k5 : (o.kind == 5) = false := by simp [hk]
  have k6 : (o.kind == 6) = false := by simp [hk]
  have k7 : (o.kind == 7) = true := by simp [hk]
  clear hk
  obtain ⟨m, hm⟩ : ∃ m, m = mGet cs o.key := ⟨_, rfl⟩
  rw [← hm] at CP ⊢
  clear hm
  unfold OA.val
  go_enter Tryz.func42, Tryz.ntmps42
  go_wp2_with fail
  rw [← hW1, ← hW2]
  clear hW1 hW2 s1
  refine CP.mono ?_
  rintro e w3 ⟨⟨ao, n, cap, l, rfl, L3, hl⟩, C3⟩
  have R3 := arr_below R2 C3
  have B3 := B2.trans (C3.mono B2.size)
  unfold resV
  have r0 : w3.cell? ⟨w.heap.size + 1, 0, none⟩ = some (.int .i64 0) := R3.cell 0
  have f0 := R3.free 0
  have r1 : w3.cell? ⟨w.heap.size + 1, 1, none⟩ = some (.slice none 0 0) := R3.cell 1
  have f1 := R3.free 1
  have r2 : w3.cell? ⟨w.heap.size + 1, 2, none⟩ = some (.bool false) := R3.cell 2
  have f2 := R3.free 2
  have lt := R3.lt
  have KW : Wr (w.heap.size + 1) w3 (((w3.setCell ⟨w.heap.size + 1, 0, none⟩ (.int .i64 m.e)).setCell ⟨w.heap.size + 1, 1, none⟩ (.slice ao n cap)).setCell ⟨w.heap.size + 1, 2, none⟩ (.bool m.more)) := (((Wr.refl _ _).set 0 _).set 1 _).set 2 _
  clear CP R2
  go_wp2
  exact bodyPost_ret (v := .agg #[.int .i64 m.e, .slice ao n cap, .bool m.more]) (by simp [results, Tryz.results42, go_sem, r0, r1, r2]) rfl ⟨⟨ao, n, cap, l, rfl, L3.wr R3 (by simp) (by simp) (by simp) (by simp) (by simp) (by simp) KW, hl⟩, TB.dull R3 (Dull.res _ _) KW (by omega) (hT.below B3), (Wr.of B3).new KW (Nat.le_succ _)⟩
end Go.Proofs.YtnicnfjickknjaaGreatDoor

namespace Go.Proofs.YtnicnfjickknjaaGreatDoor
open Go.RowKit

set_option maxHeartbeats 1000000 in
set_option maxRecDepth 100000 in
theorem isout_row (w : World) (p : Nat) (f t : ByteArray) (u : Option Addr) (o : OA) (h : TbC w p f t u) (hk : o.kind ≠ 8) :
    Calls Tryz.prog 41 #[.pointer (some ⟨p, 0, none⟩), o.val] w fun e w' => e = .returned (.bool (!(inRows f t o.row))) ∧ Below w.heap.size w w' := by
  obtain ⟨W1, hW1⟩ : ∃ V, V = w.alloc (.cells #[.int .i64 o.kind, .string o.row, .string o.fam, .string o.qual, .int .u64 o.time, .string o.to, .slice o.va.ao o.va.n o.va.cap, .slice o.wa.ao o.wa.n o.wa.cap, .bool o.has, .slice o.so o.sn o.sc] 43) := ⟨_, rfl⟩
  have C1 : Below w.heap.size w W1 := by rw [hW1]; exact (Below.refl _ _).alloc (Nat.le_refl _) _
  have k8 : (o.kind != 8) = true := by simp [hk]
  have CH := hasRow_any W1 p f t o.row u (arr_below h C1)
  obtain ⟨b, hb⟩ : ∃ b, b = inRows f t o.row := ⟨_, rfl⟩
  rw [← hb] at CH ⊢
  clear hb hk
  unfold OA.val
  go_enter Tryz.func41, Tryz.ntmps41
  go_wp2_with fail
  rw [← hW1]
  clear hW1
  refine CH.mono ?_
  rintro e w2 ⟨rfl, hw⟩
  obtain rfl := hw.symm
  go_wp2
  go_ret
  exact ⟨rfl, C1⟩

/-- What Apply leaves of what do did. -/
def keepM (cs : List CV) (r : List CV × RV) : List CV := if r.2.e = 0 then r.1 else cs

set_option maxHeartbeats 4000000 in
set_option maxRecDepth 100000 in
theorem apply_any (w : World) (p : Nat) (f t : ByteArray) (cs : List CV) (o : OA) (l : List OA) (r : List CV × RV) (hT : TB w p f t cs) (hok : o.ok w) (hs : OWL w 0 o.so o.sn o.sc l) (hr : rightO o.s (l.map sn0) = true)
    (hout : ∀ V u, Below w.heap.size w V → TbC V p f t u → Calls Tryz.prog 41 #[.pointer (some ⟨p, 0, none⟩), o.val] V fun e w' => e = .returned (.bool false) ∧ Below V.heap.size V w')
    (hdo : ∀ V, Below w.heap.size w V → Calls Tryz.prog 42 #[.pointer (some ⟨p, 0, none⟩), o.val] V (DoPost V p f t r)) :
    Calls Tryz.prog 19 #[.pointer (some ⟨p, 0, none⟩), o.val] w (DoPost w p f t (keepM cs r, r.2)) := by
  obtain ⟨W1, hW1⟩ : ∃ V, V = w.alloc (.cells #[.int .i64 o.kind, .string o.row, .string o.fam, .string o.qual, .int .u64 o.time, .string o.to, .slice o.va.ao o.va.n o.va.cap, .slice o.wa.ao o.wa.n o.wa.cap, .bool o.has, .slice o.so o.sn o.sc] 43) := ⟨_, rfl⟩
  obtain ⟨W2, hW2⟩ : ∃ V, V = W1.alloc (.cells #[.int .i64 0, .slice none 0 0, .bool false] 50) := ⟨_, rfl⟩
  have C1 : Below w.heap.size w W1 := by rw [hW1]; exact (Below.refl _ _).alloc (Nat.le_refl _) _
  have C2 : Below W1.heap.size W1 W2 := by rw [hW2]; exact (Below.refl _ _).alloc (Nat.le_refl _) _
  have B2 := C1.trans (C2.mono C1.size)
  have s1 : W1.heap.size = w.heap.size + 1 := by rw [hW1]; exact Array.size_push ..
  have O1 : OC W1 w.heap.size o := by rw [hW1]; exact OC.new w o
  have O2 := O1.keep C2
  have R2 : Arr W2 (w.heap.size + 1) 50 [.int .i64 0, .slice none 0 0, .bool false] := by rw [hW2, ← s1]; exact heap_alloc_new W1 _
  have hp := hT.lt
  have CR := pRight_any W2 o l (hok.below B2) (hs.below B2)
  rw [hr] at CR
  unfold OA.val at CR hout hdo ⊢
  have o0 : W2.cell? ⟨w.heap.size, 0, none⟩ = some (.int .i64 o.kind) := O2.cs.c0
  have o1 : W2.cell? ⟨w.heap.size, 1, none⟩ = some (.string o.row) := O2.cs.c1
  have o2 : W2.cell? ⟨w.heap.size, 2, none⟩ = some (.string o.fam) := O2.cs.c2
  have o3 : W2.cell? ⟨w.heap.size, 3, none⟩ = some (.string o.qual) := O2.cs.c3
  have o4 : W2.cell? ⟨w.heap.size, 4, none⟩ = some (.int .u64 o.time) := O2.cs.c4
  have o5 : W2.cell? ⟨w.heap.size, 5, none⟩ = some (.string o.to) := O2.cs.c5
  have o6 : W2.cell? ⟨w.heap.size, 6, none⟩ = some (.slice o.va.ao o.va.n o.va.cap) := O2.cs.c6
  have o7 : W2.cell? ⟨w.heap.size, 7, none⟩ = some (.slice o.wa.ao o.wa.n o.wa.cap) := O2.cs.c7
  have o8 : W2.cell? ⟨w.heap.size, 8, none⟩ = some (.bool o.has) := O2.cs.c8
  have o9 : W2.cell? ⟨w.heap.size, 9, none⟩ = some (.slice o.so o.sn o.sc) := O2.cs.c9
  have HOUT : Hid (∀ V u, Below w.heap.size w V → TbC V p f t u → Calls Tryz.prog 41 #[.pointer (some ⟨p, 0, none⟩), .agg #[.int .i64 o.kind, .string o.row, .string o.fam, .string o.qual, .int .u64 o.time, .string o.to, .slice o.va.ao o.va.n o.va.cap, .slice o.wa.ao o.wa.n o.wa.cap, .bool o.has, .slice o.so o.sn o.sc]] V fun e w' => e = .returned (.bool false) ∧ Below V.heap.size V w') := hout
  have HDO : Hid (∀ V, Below w.heap.size w V → Calls Tryz.prog 42 #[.pointer (some ⟨p, 0, none⟩), .agg #[.int .i64 o.kind, .string o.row, .string o.fam, .string o.qual, .int .u64 o.time, .string o.to, .slice o.va.ao o.va.n o.va.cap, .slice o.wa.ao o.wa.n o.wa.cap, .bool o.has, .slice o.so o.sn o.sc]] V (DoPost V p f t r)) := hdo
  clear hout hdo hs hok hr
  go_enter Tryz.func19, Tryz.ntmps19
  go_wp2_with fail
  rw [← hW1, ← hW2]
  clear hW1 hW2 s1
  refine CR.mono ?_
  rintro e w3 ⟨rfl, C3⟩
  rw [show kindO true = 0 from rfl]
  have B3 := B2.trans (C3.mono B2.size)
  have R3 := arr_below R2 C3
  have O3 := O2.keep C3
  obtain ⟨u, A3, T3⟩ := hT.below B3
  have CO := HOUT.out w3 u B3 A3
  clear o0 o1 o2 o3 o4 o5 o6 o7 o8 o9
  have o0 : w3.cell? ⟨w.heap.size, 0, none⟩ = some (.int .i64 o.kind) := O3.cs.c0
  have o1 : w3.cell? ⟨w.heap.size, 1, none⟩ = some (.string o.row) := O3.cs.c1
  have o2 : w3.cell? ⟨w.heap.size, 2, none⟩ = some (.string o.fam) := O3.cs.c2
  have o3 : w3.cell? ⟨w.heap.size, 3, none⟩ = some (.string o.qual) := O3.cs.c3
  have o4 : w3.cell? ⟨w.heap.size, 4, none⟩ = some (.int .u64 o.time) := O3.cs.c4
  have o5 : w3.cell? ⟨w.heap.size, 5, none⟩ = some (.string o.to) := O3.cs.c5
  have o6 : w3.cell? ⟨w.heap.size, 6, none⟩ = some (.slice o.va.ao o.va.n o.va.cap) := O3.cs.c6
  have o7 : w3.cell? ⟨w.heap.size, 7, none⟩ = some (.slice o.wa.ao o.wa.n o.wa.cap) := O3.cs.c7
  have o8 : w3.cell? ⟨w.heap.size, 8, none⟩ = some (.bool o.has) := O3.cs.c8
  have o9 : w3.cell? ⟨w.heap.size, 9, none⟩ = some (.slice o.so o.sn o.sc) := O3.cs.c9
  clear CR R2 O2 C3
  go_wp2_with fail
  refine CO.mono ?_
  rintro e w4 ⟨rfl, C4⟩
  have B4 := B3.trans (C4.mono B3.size)
  have R4 := arr_below R3 C4
  have O4 := O3.keep C4
  have A4 : TbC w4 p f t u := arr_below A3 C4
  have T4 := T3.below C4
  have u4 : w4.cell? ⟨p, 2, none⟩ = some (.pointer u) := Arr.cell A4 2
  have CD := HDO.out w4 B4
  clear o0 o1 o2 o3 o4 o5 o6 o7 o8 o9
  have o0 : w4.cell? ⟨w.heap.size, 0, none⟩ = some (.int .i64 o.kind) := O4.cs.c0
  have o1 : w4.cell? ⟨w.heap.size, 1, none⟩ = some (.string o.row) := O4.cs.c1
  have o2 : w4.cell? ⟨w.heap.size, 2, none⟩ = some (.string o.fam) := O4.cs.c2
  have o3 : w4.cell? ⟨w.heap.size, 3, none⟩ = some (.string o.qual) := O4.cs.c3
  have o4 : w4.cell? ⟨w.heap.size, 4, none⟩ = some (.int .u64 o.time) := O4.cs.c4
  have o5 : w4.cell? ⟨w.heap.size, 5, none⟩ = some (.string o.to) := O4.cs.c5
  have o6 : w4.cell? ⟨w.heap.size, 6, none⟩ = some (.slice o.va.ao o.va.n o.va.cap) := O4.cs.c6
  have o7 : w4.cell? ⟨w.heap.size, 7, none⟩ = some (.slice o.wa.ao o.wa.n o.wa.cap) := O4.cs.c7
  have o8 : w4.cell? ⟨w.heap.size, 8, none⟩ = some (.bool o.has) := O4.cs.c8
  have o9 : w4.cell? ⟨w.heap.size, 9, none⟩ = some (.slice o.so o.sn o.sc) := O4.cs.c9
  clear CO R3 O3 C4 A3 T3
  go_wp2_with fail
  refine CD.mono ?_
  rintro e w5 ⟨⟨ao, n, cap, cl, rfl, L5, hcl⟩, X5, K5⟩
  have hw4 := B4.size
  have R5 : Arr w5 (w.heap.size + 1) 50 [.int .i64 0, .slice none 0 0, .bool false] := (K5.block _ R4.lt (by omega)).trans R4
  have K5' := (Wr.of (p := p) B4).trans K5
  unfold resV
  clear o0 o1 o2 o3 o4 o5 o6 o7 o8 o9
  clear CD R4 O4
  by_cases hz : r.2.e = 0
  · have z0 : (r.2.e != 0) = false := by simp [hz]
    have HZ : Hid (keepM cs r = r.1) := if_pos hz
    clear hz u4
    have r0 : w5.cell? ⟨w.heap.size + 1, 0, none⟩ = some (.int .i64 0) := R5.cell 0
    have f0 := R5.free 0
    have r1 : w5.cell? ⟨w.heap.size + 1, 1, none⟩ = some (.slice none 0 0) := R5.cell 1
    have f1 := R5.free 1
    have r2 : w5.cell? ⟨w.heap.size + 1, 2, none⟩ = some (.bool false) := R5.cell 2
    have f2 := R5.free 2
    have lt := R5.lt
    have KW : Wr (w.heap.size + 1) w5 (((w5.setCell ⟨w.heap.size + 1, 0, none⟩ (.int .i64 r.2.e)).setCell ⟨w.heap.size + 1, 1, none⟩ (.slice ao n cap)).setCell ⟨w.heap.size + 1, 2, none⟩ (.bool r.2.more)) := (((Wr.refl _ _).set 0 _).set 1 _).set 2 _
    go_wp2
    exact bodyPost_ret (v := .agg #[.int .i64 r.2.e, .slice ao n cap, .bool r.2.more]) (by simp [results, Tryz.results19, go_sem, r0, r1, r2, lt]) rfl ⟨⟨ao, n, cap, cl, rfl, (L5.wr R5 (by simp) (by simp) (by simp) (by simp) (by simp) (by simp) KW).below ((Below.refl _ _).alloc (Nat.le_refl _) _), hcl⟩, by rw [HZ.out]; exact (TB.dull R5 (Dull.res _ _) KW (by omega) X5).below ((Below.refl _ _).alloc (Nat.le_refl _) _), (K5'.new KW (Nat.le_succ _)).alloc _⟩
  · have z0 : (r.2.e != 0) = true := by simp [hz]
    have HZ : Hid (keepM cs r = cs) := if_neg hz
    clear hz u4
    have T5 := T4.tb A4 K5
    obtain ⟨u5, A5, -⟩ := X5
    have g2 : w5.cell? ⟨p, 2, none⟩ = some (.pointer u5) := Arr.cell A5 2
    have gf := Arr.free A5 2
    obtain ⟨w6, hw6⟩ : ∃ V, V = w5.setCell ⟨p, 2, none⟩ (.pointer u) := ⟨_, rfl⟩
    have KP : Wr p w5 w6 := by rw [hw6]; exact (Wr.refl _ _).set 2 _
    have s6 : w6.heap.size = w5.heap.size := by rw [hw6]; simp
    have X6 : TB w6 p f t cs := ⟨u, by rw [hw6]; exact Arr.set A5 2 (.pointer u), T5.tb A5 KP⟩
    have R6 : Arr w6 (w.heap.size + 1) 50 [.int .i64 0, .slice none 0 0, .bool false] := (KP.block _ R5.lt (by omega)).trans R5
    have L6 := L5.tb A5 KP
    have r0 : w6.cell? ⟨w.heap.size + 1, 0, none⟩ = some (.int .i64 0) := R6.cell 0
    have f0 := R6.free 0
    have r1 : w6.cell? ⟨w.heap.size + 1, 1, none⟩ = some (.slice none 0 0) := R6.cell 1
    have f1 := R6.free 1
    have r2 : w6.cell? ⟨w.heap.size + 1, 2, none⟩ = some (.bool false) := R6.cell 2
    have f2 := R6.free 2
    have lt := R6.lt
    have KW : Wr (w.heap.size + 1) w6 (((w6.setCell ⟨w.heap.size + 1, 0, none⟩ (.int .i64 r.2.e)).setCell ⟨w.heap.size + 1, 1, none⟩ (.slice ao n cap)).setCell ⟨w.heap.size + 1, 2, none⟩ (.bool r.2.more)) := (((Wr.refl _ _).set 0 _).set 1 _).set 2 _
    have hR5 := R5.lt
    have r0' : w5.cell? ⟨w.heap.size + 1, 0, none⟩ = some (.int .i64 0) := R5.cell 0
    have r1' : w5.cell? ⟨w.heap.size + 1, 1, none⟩ = some (.slice none 0 0) := R5.cell 1
    have r2' : w5.cell? ⟨w.heap.size + 1, 2, none⟩ = some (.bool false) := R5.cell 2
    have f0' := R5.free 0
    have f1' := R5.free 1
    have f2' := R5.free 2
    have hpR : p ≠ w.heap.size + 1 := by omega
    have hp5 : p < w5.heap.size := Arr.lt A5
    go_wp2
    rw [← hw6]
    exact bodyPost_ret (v := .agg #[.int .i64 r.2.e, .slice ao n cap, .bool r.2.more]) (by simp [results, Tryz.results19, go_sem, r0, r1, r2, lt]) rfl ⟨⟨ao, n, cap, cl, rfl, (L6.wr R6 (by simp) (by simp) (by simp) (by simp) (by simp) (by simp) KW).below ((Below.refl _ _).alloc (Nat.le_refl _) _), hcl⟩, by rw [HZ.out]; exact (TB.dull R6 (Dull.res _ _) KW (by omega) X6).below ((Below.refl _ _).alloc (Nat.le_refl _) _), ((K5'.trans KP).new KW (Nat.le_succ _)).alloc _⟩
end Go.Proofs.YtnicnfjickknjaaGreatDoor

namespace Go.Proofs.YtnicnfjickknjaaGreatDoor
open Go.RowKit

/-- Bytes that are written out, marked. -/
theorem Sl.const (w : World) (xs : List Int) (fr : Nat × Nat) (h : Byt xs) (hn : xs.length ≤ maxLen) : Sl (w.alloc (.cells (bv xs).toArray 5 fr)) (some ⟨w.heap.size, 0, none⟩) xs.length xs.length xs := by
  refine ⟨rfl, Nat.le_refl _, hn, fun h => by simp at h, fun a ha i hi => ?_, h⟩
  obtain rfl := Option.some.inj ha
  rw [Addr.add_lit, Nat.zero_add, cell_of_row _ w.heap.size i (bv xs).toArray 5 fr (heap_alloc_new w _)]
  simpa using bv_get xs i hi
end Go.Proofs.YtnicnfjickknjaaGreatDoor

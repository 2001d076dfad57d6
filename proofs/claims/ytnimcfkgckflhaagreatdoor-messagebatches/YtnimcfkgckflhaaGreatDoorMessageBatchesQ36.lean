/-
  Texts in one: ROf, MgBatch, RdOr.
-/
import Derived.Test.YtnimcfkgckflhaaGreatDoorMessageBatchesQ31
import Derived.Test.YtnimcfkgckflhaaGreatDoorMessageBatchesQ35
import Derived.Test.YtnimcfkgckflhaaGreatDoorMessageBatchesQ12
import Derived.Test.YtnimcfkgckflhaaGreatDoorMessageBatchesQ23
import Derived.Test.YtnimcfkgckflhaaGreatDoorMessageBatchesQ24
import Derived.Test.YtnimcfkgckflhaaGreatDoorMessageBatchesQ30
import Derived.Test.YtnimcfkgckflhaaGreatDoorMessageBatchesQ10
import Derived.Test.YtnimcfkgckflhaaGreatDoorMessageBatchesQ3
namespace Go.Proofs.YtnimcfkgckflhaaGreatDoor
open Go.RowKit
set_option maxRecDepth 100000 in
set_option maxHeartbeats 1000000 in
theorem rof_any (w : World) (s : ByteArray) (ao : Option Addr) (n cap : Nat) (ps : List Part) (hP : PL w ao n cap ps) (hs : s.size ≤ 1000000) (hn : n ≤ 1000000) (hq : ∀ q ∈ ps, q.n ≤ 1000000) (hL : (formL (sb s) (pxs ps)).length ≤ 100000) :
    Calls Tryz.prog 16 #[.string s, .slice ao n cap] w fun e w' => ∃ v, e = .returned v ∧ w'.ownsRow w.heap.size 5 1 v 32 (bv (sumL (formL (sb s) (pxs ps)))) ∧ Below w.heap.size w w' := by
  have hl := hP.len
  have fb := formL_byte s ps hs (by omega) (fun q hq' => ⟨(hP.sl q hq').byte, by rw [(hP.sl q hq').len]; exact hq q hq'⟩)
  go_enter Tryz.func16, Tryz.ntmps16
  go_wp2_with (go_at_call 43; refine (rform_any w s ao n cap ps hP hs hn hq).mono ?_; rintro e w1 ⟨v1, rfl, own1, B1⟩; obtain ⟨fo, fc, rfl, S1, -⟩ := Sl.own own1 fb; have s1 := B1.size; clear own1)
  refine (rsum_any w1 fo _ fc _ S1 hL).mono ?_
  rintro e w2 ⟨v2, rfl, own2, C2⟩
  have B2 : Below w.heap.size w w2 := B1.trans (C2.mono s1)
  go_wp2
  go_ret
  exact ⟨_, rfl, own_base own2 s1, B2⟩
open Go.RowKit
theorem tyB : GTy elB.sz 24 (.slice none 0 0) 28 54 := ⟨by kernel_rfl, rfl, Tryz.underlying54⟩
def reqB (q : QM) : List Int := if kq q.cl q.st (rightO q.o.s (q.l.map sn0)) = 0 then putQ q.v else []
theorem reqB_len {q : QM} {w : World} (h : q.ok w) : (reqB q).length ≤ 8000 := by
  unfold reqB
  by_cases c : kq q.cl q.st (rightO q.o.s (q.l.map sn0)) = 0
  · rw [if_pos c]; exact req_len h c
  · rw [if_neg c]; exact Nat.zero_le _
theorem form_len (xs : List (List Int)) (hn : xs.length ≤ 12) (h : ∀ x ∈ xs, x.length ≤ 8000) : (formL (sb ⟨#[98, 97, 116, 99, 104]⟩) xs).length ≤ 100000 := by
  have h1 := fmP_le xs 8000 (by omega) h
  have h2 := enc_length (n := xs.length) (by omega)
  have h3 : (enc (sb ⟨#[98, 97, 116, 99, 104]⟩).length ++ sb ⟨#[98, 97, 116, 99, 104]⟩).length = 6 := by decide
  unfold formL
  rw [List.length_append, List.length_append, h3]
  have : xs.length * (8000 + 10) ≤ 12 * (8000 + 10) := Nat.mul_le_mul_right _ hn
  omega
def bsP (b : Bs) : Part := ⟨b.ao, b.n, b.cap, b.xs⟩
theorem pxs_bs (ys : List Bs) : pxs (ys.map bsP) = ys.map Bs.xs := by
  unfold pxs
  rw [List.map_map]
  rfl
theorem pl_of {w : World} {ao : Option Addr} {n cap : Nat} {ys : List Bs} (h : GL elB w ao n cap ys) : PL w ao n cap (ys.map bsP) := by
  refine ⟨by rw [List.length_map, h.len], h.le, h.mx, fun e => (h.nil e).1, fun a ha i hi => ?_, fun q hq => ?_⟩
  · rw [List.length_map] at hi
    have := h.cell a ha i hi 0 _ rfl
    rw [show i * elB.sz + 0 = i by show i * 1 + 0 = i; omega] at this
    rw [this, List.getElem_map]
    rfl
  · obtain ⟨y, hy, rfl⟩ := List.mem_map.1 hq
    exact h.ok y hy
set_option maxRecDepth 100000 in
set_option maxHeartbeats 8000000 in
theorem batch_any (w : World) (ao : Option Addr) (n cap : Nat) (l : List QM) (L : GL elQ w ao n cap l) (hT : Tabs w) (hn : n ≤ 1000) :
    Calls Tryz.prog 8 #[.slice ao n cap] w fun e w' => ∃ v, e = .returned v ∧ w'.ownsRow w.heap.size 5 1 v 32 (bv (sumL (formL (sb ⟨#[98, 97, 116, 99, 104]⟩) (l.map reqB)))) ∧ Below w.heap.size w w' := by
  have hl := L.len
  have hni : (n : Int) ≤ 1000 := by omega
  go_enter Tryz.func8, Tryz.ntmps8
  go_wp2_with fail
  go_loopw [3, 10] (fun v' i wr => ∃ (j : Nat) (v : Value) (ys : List Bs), j ≤ n ∧ i = .int .i64 j ∧ v = v' ∧ GI elB 28 wr w.heap.size v ys ∧ ys.length = j ∧ Hid (ys.map Bs.xs = (l.take j).map reqB) ∧ Below w.heap.size w wr) (fun _ i _ => n - (intOf i).toNat)
  case atStart => exact ⟨0, _, [], Nat.zero_le _, rfl, rfl, GI.nil _ _ _ _, rfl, rfl, Below.refl _ _⟩
  case round =>
    obtain ⟨j, v, ys, hj, rfl, rfl, GR, hyl, HY, B⟩ := hrel
    have hsz := B.size
    by_cases hlt : j < n
    · have hji : (j : Int) < (n : Int) := by omega
      have hkl : j < l.length := by omega
      have Lr := L.below elQ_fine B
      obtain ⟨b, off, rfl, hc⟩ := Lr.atQ (by omega)
      have X := hc j hkl
      have hok : (l[j]).ok wr := Lr.ok _ (List.getElem_mem hkl)
      have HX : Hid ((l.take (j + 1)).map reqB = (l.take j).map reqB ++ [reqB l[j]]) := by
        show _ = _
        rw [List.take_succ_eq_append_getElem hkl, List.map_append]
        rfl
      obtain ⟨q, hq⟩ : ∃ q, q = l[j] := ⟨_, rfl⟩
      rw [← hq] at X hok HX
      obtain ⟨q0, q1, q2, q3, q4, q5, q6, q7, q8, q9, q10, q11⟩ := X
      have C_ : Below wr.heap.size wr (wr.alloc (.cells #[.int .u64 q.cl, .int .u64 q.st, .int .i64 q.o.kind, .string q.o.row, .string q.o.fam, .string q.o.qual, .int .u64 q.o.time, .string q.o.to, .slice q.o.va.ao q.o.va.n q.o.va.cap, .slice q.o.wa.ao q.o.wa.n q.o.wa.cap, .bool q.o.has, .slice q.o.so q.o.sn q.o.sc] 33)) := (Below.refl _ _).alloc (Nat.le_refl _) _
      have qok : q.ok (wr.alloc (.cells #[.int .u64 q.cl, .int .u64 q.st, .int .i64 q.o.kind, .string q.o.row, .string q.o.fam, .string q.o.qual, .int .u64 q.o.time, .string q.o.to, .slice q.o.va.ao q.o.va.n q.o.va.cap, .slice q.o.wa.ao q.o.wa.n q.o.wa.cap, .bool q.o.has, .slice q.o.so q.o.sn q.o.sc] 33)) := elQ_fine.below hok C_
      have CQ := preq_far (wr.alloc (.cells #[.int .u64 q.cl, .int .u64 q.st, .int .i64 q.o.kind, .string q.o.row, .string q.o.fam, .string q.o.qual, .int .u64 q.o.time, .string q.o.to, .slice q.o.va.ao q.o.va.n q.o.va.cap, .slice q.o.wa.ao q.o.wa.n q.o.wa.cap, .bool q.o.has, .slice q.o.so q.o.sn q.o.sc] 33)) q.cl q.st q.o q.l qok.cl qok.st qok.o qok.l
      rw [show qVal q.cl q.st q.o = .agg #[.int .u64 q.cl, .int .u64 q.st, .int .i64 q.o.kind, .string q.o.row, .string q.o.fam, .string q.o.qual, .int .u64 q.o.time, .string q.o.to, .slice q.o.va.ao q.o.va.n q.o.va.cap, .slice q.o.wa.ao q.o.wa.n q.o.wa.cap, .bool q.o.has, .slice q.o.so q.o.sn q.o.sc] from rfl] at CQ
      clear hq hc Lr
      go_wp2_with fail
      refine CQ.mono ?_
      rintro e w2 ⟨⟨fo, fn, fc, rfl, S2, F2⟩, D_⟩
      have C2 := C_.trans (D_.mono C_.size)
      have HS2 : Hid ((if kq q.cl q.st (rightO q.o.s (q.l.map sn0)) = 0 then enc q.cl ++ (enc q.st ++ putA q.o q.l) else []) = reqB q) := by
        show _ = _
        unfold reqB putQ QM.v
        rw [putA_P]
      rw [HS2.out] at S2
      have GR2 := GR.below elB_fine C2
      have HF2 : Hid (∀ a, fo = some a → wr.heap.size ≤ a.block) := fun a ha => Nat.le_trans C_.size (F2 a ha)
      have vlt : Hid (∀ z, v.ownBlock = some z → z < wr.heap.size) := fun z hz => (GR.own.lt z hz).2
      have B2 := B.trans (C2.mono hsz)
      clear CQ C_ D_ F2 GR qok hok q0 q1 q2 q3 q4 q5 q6 q7 q8 q9 q10 q11 HS2 C2
      have C3 : Below w2.heap.size w2 (w2.alloc (.cells #[.slice fo fn fc] 28)) := (Below.refl _ _).alloc (Nat.le_refl _) _
      have K3 : (w2.alloc (.cells #[.slice fo fn fc] 28)).heap[w2.heap.size]? = some (.cells #[.slice fo fn fc] 28) := heap_alloc_new _ _
      have S3 := S2.below C3
      have GR3 := GR2.below elB_fine C3
      have B3 := B2.trans (C3.mono B2.size)
      have HG : Hid (∀ i u, (elB.c ⟨fo, fn, fc, reqB q⟩)[i]? = some u → (w2.alloc (.cells #[.slice fo fn fc] 28)).cell? ((⟨w2.heap.size, 0, none⟩ : Addr).add i) = some u) := fun i u hu => by
        rw [Addr.add_lit, Nat.zero_add, cell_of_row _ _ i _ _ _ K3]
        simpa [elB] using hu
      have HNE : Hid (∀ z, elB.blk ⟨fo, fn, fc, reqB q⟩ z → v.ownBlock ≠ some z) := fun z hz e => by
        obtain ⟨a, ha, _, rfl⟩ := hz
        have h1 := HF2.out a ha
        have h2 := vlt.out _ e
        omega
      have hb3 := B3.size
      clear K3 S2 GR2 C3 HF2 vlt B2
      go_wp2_with (refine wpList_appG elB_fine tyB rfl (.tmp 19) (.tmp 21) rfl GR3 rfl rfl HG.out S3 HNE.out (by omega) (by unfold maxLen; omega) hb3 ?_; intro v4 w4 GR4 B4)
      have B5 := B3.trans B4
      go_roundw
      case rel => exact ⟨j + 1, v4, ys ++ [⟨fo, fn, fc, reqB q⟩], by omega, by go_num, rfl, GR4, by simp [hyl], by rw [HX.out, ← HY.out, List.map_append] <;> rfl, B5⟩
      case measure => simp [intOf]; omega
    · have hge : (n : Int) ≤ (j : Int) := by omega
      have HX : Hid (ys.map Bs.xs = l.map reqB) := by
        show _ = _
        rw [HY.out, List.take_of_length_le (by omega)]
      obtain ⟨ao1, cap1, rfl, GLx, -⟩ := GR.gl elB_fine
      have hyl2 : ys.length ≤ 1000 := by omega
      have PX := pl_of GLx
      have HPX : Hid (pxs (ys.map bsP) = l.map reqB) := by
        show _ = _
        rw [pxs_bs, HX.out]
      have HQ : ∀ q ∈ ys.map bsP, q.n ≤ 1000000 := fun q hq => by
        obtain ⟨y, hy, rfl⟩ := List.mem_map.1 hq
        have h1 : Sl wr y.ao y.n y.cap y.xs := GLx.ok y hy
        have h2 : y.xs ∈ l.map reqB := by rw [← HX.out]; exact List.mem_map_of_mem hy
        obtain ⟨r, hr, e⟩ := List.mem_map.1 h2
        have h3 := reqB_len (L.ok r hr)
        show y.n ≤ _
        rw [← h1.len, ← e]
        omega
      have CO := of_any wr ⟨#[98, 97, 116, 99, 104]⟩ ao1 _ cap1 (ys.map bsP) PX (hT.below B hT.two) (by decide) (by omega) HQ
      rw [HPX.out] at CO
      generalize ys.length = m at CO hyl2 ⊢
      clear GR GLx PX HQ HX
      go_wp2_with fail
      refine CO.mono ?_
      rintro e w6 ⟨v6, rfl, own6, C6⟩
      have B6 := B.trans (C6.mono B.size)
      clear CO C6
      go_wp2
      go_ret
      exact ⟨v6, rfl, own_base own6 hsz, B6⟩
set_option maxRecDepth 100000 in
set_option maxHeartbeats 8000000 in
theorem rbatch_any (w : World) (ao : Option Addr) (n cap : Nat) (l : List QM) (L : GL elQ w ao n cap l) (LG : ∀ q ∈ l, ∃ (d : Nat) (x : OD (d + 1)), q.o = topD (d + 1) x ∧ q.l = x.2.map (topD d) ∧ OW w (d + 1) x ∧ lightD (d + 1) x = true) (h12 : n ≤ 12) :
    Calls Tryz.prog 9 #[.slice ao n cap] w fun e w' => ∃ v, e = .returned v ∧ w'.ownsRow w.heap.size 5 1 v 32 (bv (sumL (formL (sb ⟨#[98, 97, 116, 99, 104]⟩) (l.map reqB)))) ∧ Below w.heap.size w w' := by
  have hl := L.len
  have hni : (n : Int) ≤ 1000 := by omega
  go_enter Tryz.func9, Tryz.ntmps9
  go_wp2_with fail
  go_loopw [3, 4] (fun v' i wr => ∃ (j : Nat) (v : Value) (ys : List Bs), j ≤ n ∧ i = .int .i64 j ∧ v = v' ∧ GI elB 28 wr w.heap.size v ys ∧ ys.length = j ∧ Hid (ys.map Bs.xs = (l.take j).map reqB) ∧ Below w.heap.size w wr) (fun _ i _ => n - (intOf i).toNat)
  case atStart => exact ⟨0, _, [], Nat.zero_le _, rfl, rfl, GI.nil _ _ _ _, rfl, rfl, Below.refl _ _⟩
  case round =>
    obtain ⟨j, v, ys, hj, rfl, rfl, GR, hyl, HY, B⟩ := hrel
    have hsz := B.size
    by_cases hlt : j < n
    · have hji : (j : Int) < (n : Int) := by omega
      have hkl : j < l.length := by omega
      have Lr := L.below elQ_fine B
      obtain ⟨b, off, rfl, hc⟩ := Lr.atQ (by omega)
      have X := hc j hkl
      have hok : (l[j]).ok wr := Lr.ok _ (List.getElem_mem hkl)
      have HX : Hid ((l.take (j + 1)).map reqB = (l.take j).map reqB ++ [reqB l[j]]) := by
        show _ = _
        rw [List.take_succ_eq_append_getElem hkl, List.map_append]
        rfl
      obtain ⟨gd, gx, go_, ge, gw, gl⟩ := LG _ (List.getElem_mem hkl)
      obtain ⟨q, hq⟩ : ∃ q, q = l[j] := ⟨_, rfl⟩
      rw [← hq] at X hok HX go_ ge
      obtain ⟨q0, q1, q2, q3, q4, q5, q6, q7, q8, q9, q10, q11⟩ := X
      have C_ : Below wr.heap.size wr wr := Below.refl _ _
      have qok : q.ok wr := elQ_fine.below hok C_
      have gw : OW w (gd + 1) (q.o, gx.2) := by rw [go_]; exact gw
      have gl : lightD (gd + 1) (q.o, gx.2) = true := by rw [go_]; exact gl
      have CQ := rreq_far gd wr q.cl q.st q.o gx.2 qok.cl qok.st (OW.below (B.trans (C_.mono B.size)) gw) gl q.l ge
      clear go_ ge gw gl
      rw [show qVal q.cl q.st q.o = .agg #[.int .u64 q.cl, .int .u64 q.st, .int .i64 q.o.kind, .string q.o.row, .string q.o.fam, .string q.o.qual, .int .u64 q.o.time, .string q.o.to, .slice q.o.va.ao q.o.va.n q.o.va.cap, .slice q.o.wa.ao q.o.wa.n q.o.wa.cap, .bool q.o.has, .slice q.o.so q.o.sn q.o.sc] from rfl] at CQ
      clear hq hc Lr
      go_wp2_with fail
      refine CQ.mono ?_
      rintro e w2 ⟨⟨fo, fn, fc, rfl, S2, F2⟩, D_⟩
      have C2 := C_.trans (D_.mono C_.size)
      have HS2 : Hid ((if kq q.cl q.st (rightO q.o.s (q.l.map sn0)) = 0 then enc q.cl ++ (enc q.st ++ putA q.o q.l) else []) = reqB q) := by
        show _ = _
        unfold reqB putQ QM.v
        rw [putA_P]
      rw [HS2.out] at S2
      have GR2 := GR.below elB_fine C2
      have HF2 : Hid (∀ a, fo = some a → wr.heap.size ≤ a.block) := fun a ha => Nat.le_trans C_.size (F2 a ha)
      have vlt : Hid (∀ z, v.ownBlock = some z → z < wr.heap.size) := fun z hz => (GR.own.lt z hz).2
      have B2 := B.trans (C2.mono hsz)
      clear CQ C_ D_ F2 GR qok hok q0 q1 q2 q3 q4 q5 q6 q7 q8 q9 q10 q11 HS2 C2
      have C3 : Below w2.heap.size w2 (w2.alloc (.cells #[.slice fo fn fc] 28)) := (Below.refl _ _).alloc (Nat.le_refl _) _
      have K3 : (w2.alloc (.cells #[.slice fo fn fc] 28)).heap[w2.heap.size]? = some (.cells #[.slice fo fn fc] 28) := heap_alloc_new _ _
      have S3 := S2.below C3
      have GR3 := GR2.below elB_fine C3
      have B3 := B2.trans (C3.mono B2.size)
      have HG : Hid (∀ i u, (elB.c ⟨fo, fn, fc, reqB q⟩)[i]? = some u → (w2.alloc (.cells #[.slice fo fn fc] 28)).cell? ((⟨w2.heap.size, 0, none⟩ : Addr).add i) = some u) := fun i u hu => by
        rw [Addr.add_lit, Nat.zero_add, cell_of_row _ _ i _ _ _ K3]
        simpa [elB] using hu
      have HNE : Hid (∀ z, elB.blk ⟨fo, fn, fc, reqB q⟩ z → v.ownBlock ≠ some z) := fun z hz e => by
        obtain ⟨a, ha, _, rfl⟩ := hz
        have h1 := HF2.out a ha
        have h2 := vlt.out _ e
        omega
      have hb3 := B3.size
      clear K3 S2 GR2 C3 HF2 vlt B2
      go_wp2_with (refine wpList_appG elB_fine tyB rfl (.tmp 21) (.tmp 23) rfl GR3 rfl rfl HG.out S3 HNE.out (by omega) (by unfold maxLen; omega) hb3 ?_; intro v4 w4 GR4 B4)
      have B5 := B3.trans B4
      go_roundw
      case rel => exact ⟨j + 1, v4, ys ++ [⟨fo, fn, fc, reqB q⟩], by omega, by go_num, rfl, GR4, by simp [hyl], by rw [HX.out, ← HY.out, List.map_append] <;> rfl, B5⟩
      case measure => simp [intOf]; omega
    · have hge : (n : Int) ≤ (j : Int) := by omega
      have HX : Hid (ys.map Bs.xs = l.map reqB) := by
        show _ = _
        rw [HY.out, List.take_of_length_le (by omega)]
      obtain ⟨ao1, cap1, rfl, GLx, -⟩ := GR.gl elB_fine
      have hyl2 : ys.length ≤ 1000 := by omega
      have PX := pl_of GLx
      have HPX : Hid (pxs (ys.map bsP) = l.map reqB) := by
        show _ = _
        rw [pxs_bs, HX.out]
      have HQ : ∀ q ∈ ys.map bsP, q.n ≤ 1000000 := fun q hq => by
        obtain ⟨y, hy, rfl⟩ := List.mem_map.1 hq
        have h1 : Sl wr y.ao y.n y.cap y.xs := GLx.ok y hy
        have h2 : y.xs ∈ l.map reqB := by rw [← HX.out]; exact List.mem_map_of_mem hy
        obtain ⟨r, hr, e⟩ := List.mem_map.1 h2
        have h3 := reqB_len (L.ok r hr)
        show y.n ≤ _
        rw [← h1.len, ← e]
        omega
      have HLEN := form_len (pxs (ys.map bsP)) (by rw [HPX.out, List.length_map]; omega) (fun x hx => by
        rw [HPX.out] at hx
        obtain ⟨r, hr, rfl⟩ := List.mem_map.1 hx
        exact reqB_len (L.ok r hr))
      have CO := rof_any wr ⟨#[98, 97, 116, 99, 104]⟩ ao1 _ cap1 (ys.map bsP) PX (by decide) (by omega) HQ HLEN
      rw [HPX.out] at CO
      generalize ys.length = m at CO hyl2 ⊢
      clear GR GLx PX HQ HX
      go_wp2_with fail
      refine CO.mono ?_
      rintro e w6 ⟨v6, rfl, own6, C6⟩
      have B6 := B.trans (C6.mono B.size)
      clear CO C6
      go_wp2
      go_ret
      exact ⟨v6, rfl, own_base own6 hsz, B6⟩
open Go.RowKit
theorem rd_or {α : Type} (f : Th α) (kind : α → Int) (xs : List Int) : rdT f kind xs = if or2 (doneS (f xs 0).2.1 (f xs 0).2.2) (kind (f xs 0).1) = 0 then .inr (f xs 0).1 else .inl (or2 (doneS (f xs 0).2.1 (f xs 0).2.2) (kind (f xs 0).1)) := by
  unfold rdT or2
  by_cases c : doneS (f xs 0).2.1 (f xs 0).2.2 = 0
  · simp only [c, if_true]
  · simp only [c, if_false]
end Go.Proofs.YtnimcfkgckflhaaGreatDoor

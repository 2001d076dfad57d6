/-
  Texts in one: PWrites, MgReq.
-/
import Derived.Test.YtkjaapomaaakmaaGreatMessageBytesQ4
import Derived.Test.YtkjaapomaaakmaaGreatMessageBytesQ14
import Derived.Test.YtkjaapomaaakmaaGreatMessageBytesQ28
namespace Go.Proofs.YtkjaapomaaakmaaGreat
open Go.RowKit
set_option maxRecDepth 100000 in
set_option maxHeartbeats 2000000 in
theorem pwrites_any (w : World) (o : OA) :
  Calls Tryz.prog 99 #[o.val] w fun e w' => e = .returned (.bool (decide (o.kind ≠ 7 ∧ o.kind ≠ 8))) ∧ Below w.heap.size w w' := by
 have B : Below w.heap.size w (w.alloc (Obj.cells o.cells.toArray 62)) := (Below.refl _ w).alloc (Nat.le_refl _) _
 unfold OA.cells at B
 unfold OA.val
 by_cases e7 : o.kind = 7
 ·have i : (o.kind != 7) = false := by simp [e7]
  have hv : Hid (decide (o.kind ≠ 7 ∧ o.kind ≠ 8) = false) := decide_eq_false (by omega)
  clear e7
  go_enter Tryz.func99, Tryz.ntmps99
  go_wp2
  go_ret
  exact ⟨by rw [hv.out] <;> rfl, B⟩
 ·have i : (o.kind != 7) = true := by simp [e7]
  by_cases e8 : o.kind = 8
  ·have j : (o.kind != 8) = false := by simp [e8]
   have hv : Hid (decide (o.kind ≠ 7 ∧ o.kind ≠ 8) = false) := decide_eq_false (by omega)
   clear e7 e8
   go_enter Tryz.func99, Tryz.ntmps99
   go_wp2
   go_ret
   exact ⟨by rw [hv.out] <;> rfl, B⟩
  ·have j : (o.kind != 8) = true := by simp [e8]
   have hv : Hid (decide (o.kind ≠ 7 ∧ o.kind ≠ 8) = true) := decide_eq_true ⟨e7, e8⟩
   clear e7 e8
   go_enter Tryz.func99, Tryz.ntmps99
   go_wp2
   go_ret
   exact ⟨by rw [hv.out] <;> rfl, B⟩
open Go.RowKit
set_option maxRecDepth 100000 in
set_option maxHeartbeats 4000000 in
theorem reqBad_any (w : World) (q : QM) (hq : q.ok w) (p : Nat) (kind : Int) (hp : w.cell? ⟨p, 0, none⟩ = some (.int .i64 kind)) :
  Calls Tryz.prog 98 #[.agg #[.int .u64 q.cl, .int .u64 q.st, .int .i64 q.o.kind, .string q.o.row, .string q.o.fam, .string q.o.qual, .int .u64 q.o.time, .string q.o.to, .slice q.o.va.ao q.o.va.n q.o.va.cap, .slice q.o.wa.ao q.o.wa.n q.o.wa.cap, .bool q.o.has, .slice q.o.so q.o.sn q.o.sc], .pointer (some ⟨p, 0, none⟩)] w fun e w' => e = .returned (.bool (reqBad kind q)) ∧ Below w.heap.size w w' := by
 have B : Below w.heap.size w (w.alloc (Obj.cells #[.int .u64 q.cl, .int .u64 q.st, .int .i64 q.o.kind, .string q.o.row, .string q.o.fam, .string q.o.qual, .int .u64 q.o.time, .string q.o.to, .slice q.o.va.ao q.o.va.n q.o.va.cap, .slice q.o.wa.ao q.o.wa.n q.o.wa.cap, .bool q.o.has, .slice q.o.so q.o.sn q.o.sc] 64)) := (Below.refl _ w).alloc (Nat.le_refl _) _
 have K : QC (w.alloc (Obj.cells #[.int .u64 q.cl, .int .u64 q.st, .int .i64 q.o.kind, .string q.o.row, .string q.o.fam, .string q.o.qual, .int .u64 q.o.time, .string q.o.to, .slice q.o.va.ao q.o.va.n q.o.va.cap, .slice q.o.wa.ao q.o.wa.n q.o.wa.cap, .bool q.o.has, .slice q.o.so q.o.sn q.o.sc] 64)) w.heap.size q.cl q.st q.o := heap_alloc_new w _
 have p1 := (B.cell (World.block_lt_of_cell? w _ hp)).trans hp
 have q1 : q.ok (w.alloc (Obj.cells #[.int .u64 q.cl, .int .u64 q.st, .int .i64 q.o.kind, .string q.o.row, .string q.o.fam, .string q.o.qual, .int .u64 q.o.time, .string q.o.to, .slice q.o.va.ao q.o.va.n q.o.va.cap, .slice q.o.wa.ao q.o.wa.n q.o.wa.cap, .bool q.o.has, .slice q.o.so q.o.sn q.o.sc] 64)) := elQ_fine.below hq B
 have CR := preq_any (w.alloc (Obj.cells #[.int .u64 q.cl, .int .u64 q.st, .int .i64 q.o.kind, .string q.o.row, .string q.o.fam, .string q.o.qual, .int .u64 q.o.time, .string q.o.to, .slice q.o.va.ao q.o.va.n q.o.va.cap, .slice q.o.wa.ao q.o.wa.n q.o.wa.cap, .bool q.o.has, .slice q.o.so q.o.sn q.o.sc] 64)) q.cl q.st q.o q.l q1.cl q1.st q1.o q1.l
 clear hq hp
 have hN : w.heap.size < (w.alloc (Obj.cells #[.int .u64 q.cl, .int .u64 q.st, .int .i64 q.o.kind, .string q.o.row, .string q.o.fam, .string q.o.qual, .int .u64 q.o.time, .string q.o.to, .slice q.o.va.ao q.o.va.n q.o.va.cap, .slice q.o.wa.ao q.o.wa.n q.o.wa.cap, .bool q.o.has, .slice q.o.so q.o.sn q.o.sc] 64)).heap.size := K.lt
 rw [show qVal q.cl q.st q.o = .agg #[.int .u64 q.cl, .int .u64 q.st, .int .i64 q.o.kind, .string q.o.row, .string q.o.fam, .string q.o.qual, .int .u64 q.o.time, .string q.o.to, .slice q.o.va.ao q.o.va.n q.o.va.cap, .slice q.o.wa.ao q.o.wa.n q.o.wa.cap, .bool q.o.has, .slice q.o.so q.o.sn q.o.sc] from rfl] at CR
 go_enter Tryz.func98, Tryz.ntmps98
 go_wp2_with fail
 obtain ⟨w1, hw1⟩ : ∃ W, W = (w.alloc (Obj.cells #[.int .u64 q.cl, .int .u64 q.st, .int .i64 q.o.kind, .string q.o.row, .string q.o.fam, .string q.o.qual, .int .u64 q.o.time, .string q.o.to, .slice q.o.va.ao q.o.va.n q.o.va.cap, .slice q.o.wa.ao q.o.wa.n q.o.wa.cap, .bool q.o.has, .slice q.o.so q.o.sn q.o.sc] 64)) := ⟨_, rfl⟩
 obtain ⟨N, hN'⟩ : ∃ N, N = w.heap.size := ⟨_, rfl⟩
 rw [← hw1] at B K p1 q1 CR hN ⊢
 rw [← hN'] at K hN ⊢
 have HN : Hid (N = w.heap.size) := hN'
 clear hw1 hN'
 refine CR.mono ?_
 rintro e w2 ⟨⟨bo, m, c, rfl, -⟩, C⟩
 have K2 := K.keep C
 have p2 := (C.cell (World.block_lt_of_cell? w1 _ p1)).trans p1
 have B2 := B.trans (C.mono B.size)
 clear CR C K p1 B hN
 obtain ⟨c0, c1, c2, c3, c4, c5, c6, c7, c8, c9, c10, c11⟩ := K2.cs
 clear K2
 by_cases hk : kq q.cl q.st (rightO q.o.s (q.l.map sn0)) = 0
 ·by_cases h13 : kind = 13
  ·subst h13
   have hv : Hid (reqBad 13 q = decide (q.o.kind ≠ 7 ∧ q.o.kind ≠ 8)) := by
    show _ = _
    unfold reqBad
    rw [hk]
    simp
   rw [hk]
   clear hk q1
   have CW := pwrites_any w2 q.o
   unfold OA.val at CW
   generalize decide (q.o.kind ≠ 7 ∧ q.o.kind ≠ 8) = bw at CW hv
   go_wp2_with (go_at_call 99; refine CW.mono ?_; rintro e w3 ⟨rfl, C3⟩; have B3 := B2.trans (C3.mono B2.size))
   go_ret
   exact ⟨by rw [hv.out] <;> rfl, B3⟩
  ·have i2 : (kind == 13) = false := by simp [h13]
   have hv : Hid (reqBad kind q = false) := by
    show _ = _
    unfold reqBad
    rw [hk, decide_eq_false h13]
    simp
   rw [hk]
   clear hk q1 h13
   go_wp2
   go_ret
   exact ⟨by rw [hv.out] <;> rfl, B2⟩
 ·obtain ⟨k, hkk⟩ : ∃ k, k = kq q.cl q.st (rightO q.o.s (q.l.map sn0)) := ⟨_, rfl⟩
  have hv : Hid (reqBad kind q = true) := by
   show _ = _
   unfold reqBad
   rw [decide_eq_true hk, Bool.true_or]
  rw [← hkk] at hk ⊢
  have i1 : (k != 0) = true := by simp [hk]
  clear hk hkk q1
  go_wp2
  go_ret
  exact ⟨by rw [hv.out] <;> rfl, B2⟩
set_option maxRecDepth 100000 in
set_option maxHeartbeats 4000000 in
theorem reqIx (w : World) (ao : Option Addr) (n cap : Nat) (l : List QM) (h : GL elQ w ao n cap l) (p : Nat) (kind : Int) (hp : w.cell? ⟨p, 0, none⟩ = some (.int .i64 kind)) :
  Calls Tryz.prog 123 #[.slice ao n cap, .func (.func 98) #[] #[.pointer (some ⟨p, 0, none⟩)]] w fun e w' =>
   (∃ i : Int, e = .returned (.int .i64 i) ∧ decide (0 ≤ i) = l.any (reqBad kind)) ∧ Below w.heap.size w w' := by
 have hl : l.length = n := h.len
 have hm := h.mx
 have hle := h.le
 simp only [maxLen] at hm
 go_enter Tryz.func123, Tryz.ntmps123
 go_wp2
 go_loopw [5, 8] (fun _ i wr => ∃ k : Nat, k ≤ n ∧ i = .int .i64 k ∧ Below w.heap.size w wr ∧ (l.take k).any (reqBad kind) = false) (fun _ i _ => n - (intOf i).toNat)
 case atStart => exact ⟨0, Nat.zero_le _, rfl, Below.refl _ _, rfl⟩
 case round =>
  obtain ⟨k, hk, rfl, B, hall⟩ := hrel
  have HA : Hid ((l.take k).any (reqBad kind) = false) := hall
  clear hall
  by_cases hlt : k < n
  ·have hB := h.below elQ_fine B
   obtain ⟨b, off, rfl, hc⟩ := hB.atQ (by omega)
   have hkl : k < l.length := by omega
   have X := hc k hkl
   have hok := hB.ok _ (List.getElem_mem hkl)
   have g1 := (B.cell (World.block_lt_of_cell? w _ hp)).trans hp
   have i1 : (k : Int) < (n : Int) := by omega
   have HT : Hid ((l.take (k + 1)).any (reqBad kind) = (reqBad kind) l[k]) := by
    show _ = _
    rw [List.take_succ_eq_append_getElem hkl, List.any_append, HA.out]
    simp
   have HL : Hid ((reqBad kind) l[k] = true → l.any (reqBad kind) = true) := fun hb => List.any_eq_true.2 ⟨_, List.getElem_mem hkl, hb⟩
   obtain ⟨o, ho⟩ : ∃ o, o = l[k] := ⟨_, rfl⟩
   rw [← ho] at X hok HT HL
   clear ho hc h hB HA
   obtain ⟨q0, q1, q2, q3, q4, q5, q6, q7, q8, q9, q10, q11⟩ := X
   have CC := reqBad_any wr o hok p kind g1
   cases hb : (reqBad kind) o with
   | true =>
    go_wp2_with (go_at_call 98; refine CC.mono ?_; rintro e w2 ⟨rfl, C⟩; have D := B.trans (C.mono B.size); rw [hb])
    go_ret
    exact ⟨⟨k, rfl, by rw [HL.out hb]; exact decide_eq_true (by omega)⟩, D⟩
   | false =>
    go_wp2_with (go_at_call 98; refine CC.mono ?_; rintro e w2 ⟨rfl, C⟩; have D := B.trans (C.mono B.size); rw [hb])
    go_roundw
    case rel => exact ⟨k + 1, by omega, by go_num, D, by rw [HT.out, hb]⟩
    case measure => simp [intOf]; omega
  ·have i1 : (n : Int) ≤ (k : Int) := by omega
   have HL : Hid (l.any (reqBad kind) = false) := by
    show _ = _
    rw [← HA.out, List.take_of_length_le (by omega)]
   go_wp2
   go_ret
   exact ⟨⟨-1, rfl, by rw [HL.out]; rfl⟩, B⟩
set_option maxRecDepth 100000 in
set_option maxHeartbeats 4000000 in
theorem reqCf (w : World) (ao : Option Addr) (n cap : Nat) (l : List QM) (h : GL elQ w ao n cap l) (p : Nat) (kind : Int) (hp : w.cell? ⟨p, 0, none⟩ = some (.int .i64 kind)) :
  Calls Tryz.prog 97 #[.slice ao n cap, .func (.func 98) #[] #[.pointer (some ⟨p, 0, none⟩)]] w fun e w' => e = .returned (.bool (l.any (reqBad kind))) ∧ Below w.heap.size w w' := by
 go_enter Tryz.func97, Tryz.ntmps97
 go_wp2_with fail
 refine (reqIx _ ao n cap l h p kind hp).mono ?_
 rintro e w' ⟨⟨i, rfl, hi⟩, C⟩
 have HI : Hid (decide (0 ≤ i) = l.any (reqBad kind)) := hi
 clear hi
 go_wp2
 go_ret
 exact ⟨by rw [← HI.out] <;> rfl, C⟩
set_option maxRecDepth 100000 in
set_option maxHeartbeats 4000000 in
theorem areRequests_any (w : World) (x : BM) (h : x.ok w) :
  Calls Tryz.prog 62 #[x.val] w fun e w' => e = .returned (.bool (!(x.q.l.any (reqBad x.kind)))) ∧ Below w.heap.size w w' := by
 have B : Below w.heap.size w (w.alloc (.cells #[.int .i64 x.kind, .int .u64 x.view, .int .u64 x.seq, .slice x.sum.ao x.sum.n x.sum.cap, .slice x.q.ao x.q.n x.q.cap, .int .u64 x.cl, .int .u64 x.st, .int .u64 x.vw, .int .i64 x.e, .slice x.c.ao x.c.n x.c.cap, .bool x.more, .slice x.s.ao x.s.n x.s.cap, .slice x.t.ao x.t.n x.t.cap] 41)) := (Below.refl _ w).alloc (Nat.le_refl _) _
 have K : BC (w.alloc (.cells #[.int .i64 x.kind, .int .u64 x.view, .int .u64 x.seq, .slice x.sum.ao x.sum.n x.sum.cap, .slice x.q.ao x.q.n x.q.cap, .int .u64 x.cl, .int .u64 x.st, .int .u64 x.vw, .int .i64 x.e, .slice x.c.ao x.c.n x.c.cap, .bool x.more, .slice x.s.ao x.s.n x.s.cap, .slice x.t.ao x.t.n x.t.cap] 41)) w.heap.size x := heap_alloc_new w _
 have h1 := h.below B
 clear h
 unfold BM.val
 go_enter Tryz.func62, Tryz.ntmps62
 go_wp2_with fail
 obtain ⟨w1, hw1⟩ : ∃ W, W = (w.alloc (.cells #[.int .i64 x.kind, .int .u64 x.view, .int .u64 x.seq, .slice x.sum.ao x.sum.n x.sum.cap, .slice x.q.ao x.q.n x.q.cap, .int .u64 x.cl, .int .u64 x.st, .int .u64 x.vw, .int .i64 x.e, .slice x.c.ao x.c.n x.c.cap, .bool x.more, .slice x.s.ao x.s.n x.s.cap, .slice x.t.ao x.t.n x.t.cap] 41)) := ⟨_, rfl⟩
 obtain ⟨N, hN'⟩ : ∃ N, N = w.heap.size := ⟨_, rfl⟩
 rw [← hw1] at B K h1 ⊢
 rw [← hN'] at K ⊢
 clear hw1 hN'
 refine (reqCf w1 x.q.ao x.q.n x.q.cap x.q.l h1.q N x.kind K.cs.c0).mono ?_
 rintro e w2 ⟨rfl, C⟩
 have B2 := B.trans (C.mono B.size)
 clear C K B h1
 go_wp2
 go_ret
 exact ⟨rfl, B2⟩
set_option maxRecDepth 100000 in
set_option maxHeartbeats 4000000 in
theorem isReplyFor_any (w : World) (x : BM) (h : x.ok w) :
  Calls Tryz.prog 63 #[x.val] w fun e w' => e = .returned (.bool (repOk x)) ∧ Below w.heap.size w w' := by
 have CR := fun V (hV : x.ok V) => presult_any V x.e x.c.ao x.c.n x.c.cap x.c.l x.more hV.c
 unfold resV at CR
 have B : Below w.heap.size w (w.alloc (.cells #[.int .i64 x.kind, .int .u64 x.view, .int .u64 x.seq, .slice x.sum.ao x.sum.n x.sum.cap, .slice x.q.ao x.q.n x.q.cap, .int .u64 x.cl, .int .u64 x.st, .int .u64 x.vw, .int .i64 x.e, .slice x.c.ao x.c.n x.c.cap, .bool x.more, .slice x.s.ao x.s.n x.s.cap, .slice x.t.ao x.t.n x.t.cap] 41)) := (Below.refl _ w).alloc (Nat.le_refl _) _
 have K : BC (w.alloc (.cells #[.int .i64 x.kind, .int .u64 x.view, .int .u64 x.seq, .slice x.sum.ao x.sum.n x.sum.cap, .slice x.q.ao x.q.n x.q.cap, .int .u64 x.cl, .int .u64 x.st, .int .u64 x.vw, .int .i64 x.e, .slice x.c.ao x.c.n x.c.cap, .bool x.more, .slice x.s.ao x.s.n x.s.cap, .slice x.t.ao x.t.n x.t.cap] 41)) w.heap.size x := heap_alloc_new w _
 have h1 := h.below B
 clear h
 unfold BM.val
 by_cases c5 : x.kind = 5
 ·have i5 : (x.kind != 5) = false := by simp [c5]
  have hv : Hid (repOk x = (rightR (resR x.e x.c.l x.more) && decide (x.cl ≠ 0 ∧ x.st ≠ 0 ∧ x.vw ≤ 4611686018427387903))) := by
   show _ = _
   unfold repOk
   rw [decide_eq_false (by omega), Bool.false_or]
  clear c5
  have CR := CR _ h1
  clear h1
  go_enter Tryz.func63, Tryz.ntmps63
  go_wp2_with fail
  obtain ⟨w1, hw1⟩ : ∃ W, W = (w.alloc (.cells #[.int .i64 x.kind, .int .u64 x.view, .int .u64 x.seq, .slice x.sum.ao x.sum.n x.sum.cap, .slice x.q.ao x.q.n x.q.cap, .int .u64 x.cl, .int .u64 x.st, .int .u64 x.vw, .int .i64 x.e, .slice x.c.ao x.c.n x.c.cap, .bool x.more, .slice x.s.ao x.s.n x.s.cap, .slice x.t.ao x.t.n x.t.cap] 41)) := ⟨_, rfl⟩
  obtain ⟨N, hN'⟩ : ∃ N, N = w.heap.size := ⟨_, rfl⟩
  rw [← hw1] at B K CR ⊢
  rw [← hN'] at K ⊢
  clear hw1 hN'
  refine CR.mono ?_
  rintro e w2 ⟨⟨bo, m, c, rfl, -⟩, C⟩
  have K2 := K.keep C
  have B2 := B.trans (C.mono B.size)
  clear CR C K B
  obtain ⟨k0, k1, k2, k3, k4, k5, k6, k7, k8, k9, k10, k11, k12⟩ := K2.cs
  clear K2
  unfold kindR
  cases hr : rightR (resR x.e x.c.l x.more) with
  | false =>
   have hv2 : Hid (repOk x = false) := by
    show _ = _
    rw [hv.out, hr, Bool.false_and]
   clear hv hr
   go_wp2
   go_ret
   exact ⟨by rw [hv2.out] <;> rfl, B2⟩
  | true =>
   have hv2 : Hid (repOk x = decide (x.cl ≠ 0 ∧ x.st ≠ 0 ∧ x.vw ≤ 4611686018427387903)) := by
    show _ = _
    rw [hv.out, hr, Bool.true_and]
   clear hv hr
   by_cases d0 : x.cl = 0
   ·have jd0 : ((x.cl : Int) != 0) = false := by first | omega | (simp; omega)
    have hv3 : Hid (repOk x = false) := by
     show _ = _
     rw [hv2.out]
     exact decide_eq_false (by omega)
    clear hv2 d0
    go_wp2
    go_ret
    exact ⟨by rw [hv3.out] <;> rfl, B2⟩
   have jd0 : ((x.cl : Int) != 0) = true := by first | omega | (simp; omega)
   by_cases d1 : x.st = 0
   ·have jd1 : ((x.st : Int) != 0) = false := by first | omega | (simp; omega)
    have hv3 : Hid (repOk x = false) := by
     show _ = _
     rw [hv2.out]
     exact decide_eq_false (by omega)
    clear hv2 d0 d1
    go_wp2
    go_ret
    exact ⟨by rw [hv3.out] <;> rfl, B2⟩
   have jd1 : ((x.st : Int) != 0) = true := by first | omega | (simp; omega)
   by_cases d2 : 4611686018427387903 < x.vw
   ·have jd2 : decide ((x.vw : Int) ≤ 4611686018427387903) = false := by first | omega | (simp; omega)
    have hv3 : Hid (repOk x = false) := by
     show _ = _
     rw [hv2.out]
     exact decide_eq_false (by omega)
    clear hv2 d0 d1 d2
    go_wp2
    go_ret
    exact ⟨by rw [hv3.out] <;> rfl, B2⟩
   have jd2 : decide ((x.vw : Int) ≤ 4611686018427387903) = true := by first | omega | (simp; omega)
   have hv3 : Hid (repOk x = true) := by
    show _ = _
    rw [hv2.out]
    exact decide_eq_true (by omega)
   clear hv2 d0 d1 d2
   go_wp2
   go_ret
   exact ⟨by rw [hv3.out] <;> rfl, B2⟩
 have i5 : (x.kind != 5) = true := by simp [c5]
 have hv : Hid (repOk x = true) := by
  show _ = _
  unfold repOk
  rw [decide_eq_true c5, Bool.true_or]
 clear c5 CR h1
 go_enter Tryz.func63, Tryz.ntmps63
 go_wp2
 go_ret
 exact ⟨by rw [hv.out] <;> rfl, B⟩
end Go.Proofs.YtkjaapomaaakmaaGreat

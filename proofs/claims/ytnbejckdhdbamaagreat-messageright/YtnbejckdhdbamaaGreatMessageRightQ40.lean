/-
  Texts in one: PWrites, PResult, MgReq.
-/
import Derived.Test.YtnbejckdhdbamaaGreatMessageRightQ4
import Derived.Test.YtnbejckdhdbamaaGreatMessageRightQ26
import Derived.Test.YtnbejckdhdbamaaGreatMessageRightQ10
namespace Go.Proofs.YtnbejckdhdbamaaGreat
open Go.RowKit
set_option maxRecDepth 100000 in
set_option maxHeartbeats 2000000 in
theorem pwrites_any (w : World) (o : OA) :
  Calls Tryz.prog 93 #[o.val] w fun e w' => e = .returned (.bool (decide (o.kind ≠ 7 ∧ o.kind ≠ 8))) ∧ Below w.heap.size w w' := by
 have B : Below w.heap.size w (w.alloc (Obj.cells o.cells.toArray 58)) := (Below.refl _ w).alloc (Nat.le_refl _) _
 unfold OA.cells at B
 unfold OA.val
 by_cases e7 : o.kind = 7
 ·have i : (o.kind != 7) = false := by simp [e7]
  have hv : Hid (decide (o.kind ≠ 7 ∧ o.kind ≠ 8) = false) := decide_eq_false (by omega)
  clear e7
  go_enter Tryz.func93, Tryz.ntmps93
  go_wp2
  go_ret
  exact ⟨by rw [hv.out] <;> rfl, B⟩
 ·have i : (o.kind != 7) = true := by simp [e7]
  by_cases e8 : o.kind = 8
  ·have j : (o.kind != 8) = false := by simp [e8]
   have hv : Hid (decide (o.kind ≠ 7 ∧ o.kind ≠ 8) = false) := decide_eq_false (by omega)
   clear e7 e8
   go_enter Tryz.func93, Tryz.ntmps93
   go_wp2
   go_ret
   exact ⟨by rw [hv.out] <;> rfl, B⟩
  ·have j : (o.kind != 8) = true := by simp [e8]
   have hv : Hid (decide (o.kind ≠ 7 ∧ o.kind ≠ 8) = true) := decide_eq_true ⟨e7, e8⟩
   clear e7 e8
   go_enter Tryz.func93, Tryz.ntmps93
   go_wp2
   go_ret
   exact ⟨by rw [hv.out] <;> rfl, B⟩
open Go.RowKit
theorem putC_key (c : CA) : putC c.c = putK c.key ++ (byts c.va.xs ++ enb c.gone) := by
 unfold putC putK CA.key CA.c
 simp only [List.append_assoc]
theorem putC_len {c : CA} (hk : c.key.fits) (hv : c.va.xs.length ≤ 256) : (putC c.c).length ≤ 410 := by
 rw [putC_key]
 have := putK_len hk
 have := byts_len hv
 have := enb_len c.gone
 simp only [List.length_append]
 omega
theorem putR_res (e : Int) (l : List CA) (m : Bool) : putR (resR e l m) = enc e.toNat ++ (enc l.length ++ ((l.map fun c => putC c.c).flatten ++ enb m)) := by
 unfold putR resR
 simp only [List.length_map, List.map_map]
 rfl
theorem right_cells {e : Int} {l : List CA} {m : Bool} {w : World} (h : rightR (resR e l m) = true) (hl : ∀ c ∈ l, c.ok w) : (0 ≤ e ∧ e ≤ 18) ∧ l.length ≤ 16 ∧ ∀ c ∈ l, c.key.fits ∧ c.va.xs.length ≤ 256 := by
 have h0 := h
 unfold rightR at h0
 have h1 := of_decide_eq_true (Bool.and_eq_true_iff.1 h0).1
 have h2 := rightR_fits h (fun c hc => by
  obtain ⟨x, hx, rfl⟩ := List.mem_map.1 hc
  exact (hl x hx).wf)
 obtain ⟨_, h3, h4⟩ := h2
 have h1 : 0 ≤ e ∧ e ≤ 18 ∧ (l.map CA.c).length ≤ 16 := h1
 refine ⟨⟨h1.1, h1.2.1⟩, by simpa [resR] using h3, fun c hc => ?_⟩
 have h5 := h4 c.c (List.mem_map.2 ⟨c, hc, rfl⟩)
 exact ⟨⟨h5.row, h5.fam, h5.qual, h5.time⟩, h5.value.1⟩
def ResPost (w : World) (r : RV) (e : Ending) (w' : World) : Prop :=
 (∃ bo k c, e = .returned (.tuple #[.slice bo k c, .int .i64 (kindR r)]) ∧ Sl w' bo k c (if rightR r then putR r else [])) ∧ Below w.heap.size w w'
set_option maxRecDepth 100000 in
set_option maxHeartbeats 8000000 in
theorem presult_any (w : World) (e : Int) (ao : Option Addr) (n cap : Nat) (l : List CA) (m : Bool) (L : CL w ao n cap l) :
  Calls Tryz.prog 90 #[resV e ao n cap m] w (ResPost w (resR e l m)) := by
 have hl : l.length = n := L.len
 have B : Below w.heap.size w (w.alloc (Obj.cells #[.int .i64 e, .slice ao n cap, .bool m] 28)) := (Below.refl _ w).alloc (Nat.le_refl _) _
 have K : RC (w.alloc (Obj.cells #[.int .i64 e, .slice ao n cap, .bool m] 28)) w.heap.size e ao n cap m := heap_alloc_new w _
 have L1 := L.below B
 have hp : rightR (resR e l m) = true → (0 ≤ e ∧ e ≤ 18) ∧ l.length ≤ 16 ∧ ∀ c ∈ l, c.key.fits ∧ c.va.xs.length ≤ 256 := fun q => right_cells q L.ok
 clear L
 unfold resV
 go_enter Tryz.func90, Tryz.ntmps90
 go_wp2_with fail
 obtain ⟨w1, hw1⟩ : ∃ W, W = w.alloc (Obj.cells #[.int .i64 e, .slice ao n cap, .bool m] 28) := ⟨_, rfl⟩
 obtain ⟨N, hN⟩ : ∃ N, N = w.heap.size := ⟨_, rfl⟩
 rw [← hw1] at B K L1 ⊢
 rw [← hN] at B K ⊢
 have HN : Hid (N = w.heap.size) := hN
 clear hw1 hN
 refine (prr_any w1 e ao n cap l m L1).mono ?_
 rintro x w2 ⟨rfl, C⟩
 have K2 := K.keep C
 have B2 := B.trans (C.mono (by have := B.size; have := K.lt; omega))
 have L2 := L1.below C
 clear C K B L1
 cases hb : rightR (resR e l m) with
 | false =>
  have hk : kindR (resR e l m) = 1 := by unfold kindR; rw [hb]; rfl
  rw [hk]
  go_wp2
  go_ret2
  exact ⟨⟨none, 0, 0, by rw [hk] <;> rfl, by rw [hb]; exact Sl.nothing _⟩, by rw [← HN.out]; exact B2⟩
 | true =>
  have hk : kindR (resR e l m) = 0 := by unfold kindR; rw [hb]; rfl
  rw [hk]
  obtain ⟨⟨e0, e18⟩, l16, hcf⟩ := hp hb
  clear hp
  have r0 := K2.c0
  have r1 := K2.c1
  have r2 := K2.c2
  go_wp2_with fail
  clear r0 r1 r2
  refine (fUintI w2 none 0 0 e [] (Sl.nothing _) (by omega) e0 (by omega)).mono ?_
  rintro x w3 ⟨b3, m3, c3, rfl, S3, C⟩
  have K3 := K2.keep C
  have B3 := B2.trans (C.mono (by have := B2.size; have := K2.lt; omega))
  have L3 := L2.below C
  clear C K2 B2 L2
  have l3 := S3.len
  have g0 := enc_length (n := e.toNat) (by omega)
  have g1 := enc_length (n := n) (by omega)
  simp only [List.length_append, List.length_nil] at l3
  have r0 := K3.c0
  have r1 := K3.c1
  have r2 := K3.c2
  go_wp2_with fail
  clear r0 r1 r2
  refine (fUint w3 b3 m3 c3 n _ S3 (by omega) (by omega)).mono ?_
  rintro x w4 ⟨b4, m4, c4, rfl, S4, C⟩
  have K4 := K3.keep C
  have B4 := B3.trans (C.mono (by have := B3.size; have := K3.lt; omega))
  have L4 := L3.below C
  clear C K3 B3 L3
  have l4 := S4.len
  simp only [List.length_append, List.length_nil] at l4
  have m4b : m4 ≤ 20 := by omega
  clear l3 l4 S3 g0 g1
  rw [List.nil_append] at S4
  have r1 := K4.c1
  go_wp2_with fail
  clear r1
  go_loopw [5, 7, 26] (fun b _ i wr => ∃ (k : Nat) (bo : Option Addr) (m c : Nat), k ≤ n ∧ i = .int .i64 k ∧ b = .slice bo m c ∧ Sl wr bo m c (enc e.toNat ++ enc n ++ ((l.take k).map fun c => putC c.c).flatten) ∧ m ≤ 20 + 410 * k ∧ Below N w wr ∧ Below w4.heap.size w4 wr) (fun _ _ i _ => n - (intOf i).toNat)
  case atStart => exact ⟨0, b4, m4, c4, Nat.zero_le _, rfl, rfl, by simpa using S4, by omega, B4, Below.refl _ _⟩
  case round =>
   clear S4 B4
   obtain ⟨k, bo, m1, c1, hk1, rfl, rfl, S, hm, B, C⟩ := hrel
   have K5 := K4.keep C
   clear K4
   by_cases hlt : k < n
   ·obtain ⟨b, off, ea, hc⟩ := L4.at (by omega)
    have hkl : k < l.length := by omega
    have X := (hc k hkl).below C
    have hok : (l[k]).ok wr := (L4.ok _ (List.getElem_mem hkl)).below C
    have hcf1 := hcf _ (List.getElem_mem hkl)
    have i6 : (k : Int) < (n : Int) := by omega
    have HT : Hid (((l.take (k + 1)).map fun c => putC c.c).flatten = ((l.take k).map fun c => putC c.c).flatten ++ putC l[k].c) := by
     show _ = _
     rw [List.take_succ_eq_append_getElem hkl, List.map_append, List.flatten_append]
     simp
    obtain ⟨c, hx⟩ : ∃ c : CA, c = l[k] := ⟨_, rfl⟩
    obtain ⟨p, hp⟩ : ∃ p, p = ((l.take k).map fun c => putC c.c).flatten := ⟨_, rfl⟩
    rw [← hx] at hok HT X hcf1
    rw [← hp] at S HT
    clear hx hc hp
    rw [ea]
    clear ea
    obtain ⟨u0, hu0⟩ : ∃ V, V = wr.alloc (Obj.cells #[.string c.row, .string c.fam, .string c.qual, .int .u64 c.time, .slice c.va.ao c.va.n c.va.cap, .bool c.gone] 98) := ⟨_, rfl⟩
    obtain ⟨M, hM⟩ : ∃ M, M = wr.heap.size := ⟨_, rfl⟩
    have U0 : Below wr.heap.size wr u0 := by rw [hu0]; exact (Below.refl _ _).alloc (Nat.le_refl _) _
    have KU : u0.heap[M]? = some (.cells #[.string c.row, .string c.fam, .string c.qual, .int .u64 c.time, .slice c.va.ao c.va.n c.va.cap, .bool c.gone] 98) := by rw [hu0, hM]; exact heap_alloc_new wr _
    have HC : Hid (∀ V, Below u0.heap.size u0 V → V.cell? ⟨M, 0, none⟩ = some (.string c.row) ∧ V.cell? ⟨M, 1, none⟩ = some (.string c.fam) ∧ V.cell? ⟨M, 2, none⟩ = some (.string c.qual) ∧ V.cell? ⟨M, 3, none⟩ = some (.int .u64 c.time) ∧ V.cell? ⟨M, 4, none⟩ = some (.slice c.va.ao c.va.n c.va.cap) ∧ V.cell? ⟨M, 5, none⟩ = some (.bool c.gone)) := fun V hV => by
     have q := (hV.block M ((Array.getElem?_eq_some_iff.1 KU).1)).trans KU
     exact ⟨cell_of_row V M 0 _ _ _ q, cell_of_row V M 1 _ _ _ q, cell_of_row V M 2 _ _ _ q, cell_of_row V M 3 _ _ _ q, cell_of_row V M 4 _ _ _ q, cell_of_row V M 5 _ _ _ q⟩
    have sU := S.below U0
    have hokU := hok.below U0
    have BU := B.trans (U0.mono (by have := B.size; have := HN.out; omega))
    have DU := C.trans (U0.mono C.size)
    have lS := S.len
    have g1 := putK_len hcf1.1
    have g2 := byts_len hcf1.2
    have g3 := enb_len c.gone
    simp only [List.length_append] at lS
    obtain ⟨q0, q1, q2, q3, q4, q5⟩ := X
    go_wp2_with fail
    rw [← hu0, ← hM]
    clear hu0 hM q0 q1 q2 q3 q4 q5 KU S
    refine (pkey_any u0 bo m1 c1 _ sU (by omega) c.key hcf1.1).mono ?_
    rintro x w5 ⟨b5, m5, c5, rfl, S5, C5⟩
    have A5 : Below u0.heap.size u0 w5 := C5
    have l5 := S5.len
    simp only [List.length_append] at l5
    obtain ⟨q0, q1, q2, q3, q4, q5⟩ := HC.out w5 A5
    go_wp2_with fail
    clear q0 q1 q2 q3 q4 q5 C5
    refine (fBytes w5 b5 _ m5 c5 _ _ _ _ S5 (hokU.below A5).va (by omega) (by have := hokU.va.len; omega)).mono ?_
    rintro x w6 ⟨b6, m6, c6, rfl, S6, C6⟩
    have A6 := A5.trans (C6.mono A5.size)
    have l6 := S6.len
    simp only [List.length_append] at l6
    obtain ⟨q0, q1, q2, q3, q4, q5⟩ := HC.out w6 A6
    go_wp2_with fail
    clear q0 q1 q2 q3 q4 q5 C6
    refine (fBool w6 b6 m6 c6 c.gone _ S6 (by omega)).mono ?_
    rintro x w7 ⟨b7, m7, c7, rfl, S7, C7⟩
    have A7 := A6.trans (C7.mono A6.size)
    have l7 := S7.len
    simp only [List.length_append] at l7
    have m7b : m7 ≤ 20 + 410 * (k + 1) := by omega
    have B7 := BU.trans (A7.mono (by have := BU.size; have := HN.out; omega))
    have D7 := DU.trans (A7.mono DU.size)
    have fin : enc e.toNat ++ enc n ++ p ++ putK c.key ++ byts c.va.xs ++ enb c.gone = enc e.toNat ++ enc n ++ (p ++ putC c.c) := by
     rw [putC_key]
     simp only [List.append_assoc]
    rw [fin] at S7
    clear C7 l5 l6 l7 lS S5 S6 sU
    go_wp2
    go_roundw
    case rel => exact ⟨k + 1, b7, m7, c7, by omega, by go_num, rfl, by rw [HT.out]; exact S7, m7b, B7, D7⟩
    case measure => simp [intOf]; omega
   ·have i6 : (n : Int) ≤ (k : Int) := by omega
    rw [List.take_of_length_le (by omega)] at S
    have r2 := K5.c2
    go_wp2_with fail
    clear r2
    refine (fBool wr bo m1 c1 m _ S (by omega)).mono ?_
    rintro x w5 ⟨b5, m5, c5, rfl, S5, C5⟩
    have B5 := B.trans (C5.mono (by have := B.size; have := HN.out; omega))
    go_wp2
    go_ret2
    refine ⟨⟨b5, m5, c5, by rw [hk] <;> rfl, ?_⟩, by rw [← HN.out]; exact B5⟩
    rw [if_pos hb, putR_res, hl]
    simpa only [List.append_assoc] using S5
open Go.RowKit
set_option maxRecDepth 100000 in
set_option maxHeartbeats 4000000 in
theorem reqBad_any (w : World) (q : QM) (hq : q.ok w) (p : Nat) (kind : Int) (hp : w.cell? ⟨p, 0, none⟩ = some (.int .i64 kind)) :
  Calls Tryz.prog 92 #[.agg #[.int .u64 q.cl, .int .u64 q.st, .int .i64 q.o.kind, .string q.o.row, .string q.o.fam, .string q.o.qual, .int .u64 q.o.time, .string q.o.to, .slice q.o.va.ao q.o.va.n q.o.va.cap, .slice q.o.wa.ao q.o.wa.n q.o.wa.cap, .bool q.o.has, .slice q.o.so q.o.sn q.o.sc], .pointer (some ⟨p, 0, none⟩)] w fun e w' => e = .returned (.bool (reqBad kind q)) ∧ Below w.heap.size w w' := by
 have B : Below w.heap.size w (w.alloc (Obj.cells #[.int .u64 q.cl, .int .u64 q.st, .int .i64 q.o.kind, .string q.o.row, .string q.o.fam, .string q.o.qual, .int .u64 q.o.time, .string q.o.to, .slice q.o.va.ao q.o.va.n q.o.va.cap, .slice q.o.wa.ao q.o.wa.n q.o.wa.cap, .bool q.o.has, .slice q.o.so q.o.sn q.o.sc] 60)) := (Below.refl _ w).alloc (Nat.le_refl _) _
 have K : QC (w.alloc (Obj.cells #[.int .u64 q.cl, .int .u64 q.st, .int .i64 q.o.kind, .string q.o.row, .string q.o.fam, .string q.o.qual, .int .u64 q.o.time, .string q.o.to, .slice q.o.va.ao q.o.va.n q.o.va.cap, .slice q.o.wa.ao q.o.wa.n q.o.wa.cap, .bool q.o.has, .slice q.o.so q.o.sn q.o.sc] 60)) w.heap.size q.cl q.st q.o := heap_alloc_new w _
 have p1 := (B.cell (World.block_lt_of_cell? w _ hp)).trans hp
 have q1 : q.ok (w.alloc (Obj.cells #[.int .u64 q.cl, .int .u64 q.st, .int .i64 q.o.kind, .string q.o.row, .string q.o.fam, .string q.o.qual, .int .u64 q.o.time, .string q.o.to, .slice q.o.va.ao q.o.va.n q.o.va.cap, .slice q.o.wa.ao q.o.wa.n q.o.wa.cap, .bool q.o.has, .slice q.o.so q.o.sn q.o.sc] 60)) := elQ_fine.below hq B
 have CR := preq_any (w.alloc (Obj.cells #[.int .u64 q.cl, .int .u64 q.st, .int .i64 q.o.kind, .string q.o.row, .string q.o.fam, .string q.o.qual, .int .u64 q.o.time, .string q.o.to, .slice q.o.va.ao q.o.va.n q.o.va.cap, .slice q.o.wa.ao q.o.wa.n q.o.wa.cap, .bool q.o.has, .slice q.o.so q.o.sn q.o.sc] 60)) q.cl q.st q.o q.l q1.cl q1.st q1.o q1.l
 clear hq hp
 have hN : w.heap.size < (w.alloc (Obj.cells #[.int .u64 q.cl, .int .u64 q.st, .int .i64 q.o.kind, .string q.o.row, .string q.o.fam, .string q.o.qual, .int .u64 q.o.time, .string q.o.to, .slice q.o.va.ao q.o.va.n q.o.va.cap, .slice q.o.wa.ao q.o.wa.n q.o.wa.cap, .bool q.o.has, .slice q.o.so q.o.sn q.o.sc] 60)).heap.size := K.lt
 rw [show qVal q.cl q.st q.o = .agg #[.int .u64 q.cl, .int .u64 q.st, .int .i64 q.o.kind, .string q.o.row, .string q.o.fam, .string q.o.qual, .int .u64 q.o.time, .string q.o.to, .slice q.o.va.ao q.o.va.n q.o.va.cap, .slice q.o.wa.ao q.o.wa.n q.o.wa.cap, .bool q.o.has, .slice q.o.so q.o.sn q.o.sc] from rfl] at CR
 go_enter Tryz.func92, Tryz.ntmps92
 go_wp2_with fail
 obtain ⟨w1, hw1⟩ : ∃ W, W = (w.alloc (Obj.cells #[.int .u64 q.cl, .int .u64 q.st, .int .i64 q.o.kind, .string q.o.row, .string q.o.fam, .string q.o.qual, .int .u64 q.o.time, .string q.o.to, .slice q.o.va.ao q.o.va.n q.o.va.cap, .slice q.o.wa.ao q.o.wa.n q.o.wa.cap, .bool q.o.has, .slice q.o.so q.o.sn q.o.sc] 60)) := ⟨_, rfl⟩
 obtain ⟨N, hN'⟩ : ∃ N, N = w.heap.size := ⟨_, rfl⟩
 rw [← hw1] at B K p1 q1 CR hN ⊢
 rw [← hN'] at K hN ⊢
 have HN : Hid (N = w.heap.size) := hN'
 clear hw1 hN'
 refine CR.mono ?_
 rintro e w2 ⟨⟨bo, m, c, rfl, -⟩, C⟩
 have K2 := K.keep C
 have p2 := (C.cell (World.block_lt_of_cell? w1 _ p1)).trans p1
 have B2 := B.trans (C.mono B.size)
 clear CR C K p1 B hN
 obtain ⟨c0, c1, c2, c3, c4, c5, c6, c7, c8, c9, c10, c11⟩ := K2.cs
 clear K2
 by_cases hk : kq q.cl q.st (rightO q.o.s (q.l.map sn0)) = 0
 ·by_cases h13 : kind = 13
  ·subst h13
   have hv : Hid (reqBad 13 q = decide (q.o.kind ≠ 7 ∧ q.o.kind ≠ 8)) := by
    show _ = _
    unfold reqBad
    rw [hk]
    simp
   rw [hk]
   clear hk q1
   have CW := pwrites_any w2 q.o
   unfold OA.val at CW
   generalize decide (q.o.kind ≠ 7 ∧ q.o.kind ≠ 8) = bw at CW hv
   go_wp2_with (go_at_call 93; refine CW.mono ?_; rintro e w3 ⟨rfl, C3⟩; have B3 := B2.trans (C3.mono B2.size))
   go_ret
   exact ⟨by rw [hv.out] <;> rfl, B3⟩
  ·have i2 : (kind == 13) = false := by simp [h13]
   have hv : Hid (reqBad kind q = false) := by
    show _ = _
    unfold reqBad
    rw [hk, decide_eq_false h13]
    simp
   rw [hk]
   clear hk q1 h13
   go_wp2
   go_ret
   exact ⟨by rw [hv.out] <;> rfl, B2⟩
 ·obtain ⟨k, hkk⟩ : ∃ k, k = kq q.cl q.st (rightO q.o.s (q.l.map sn0)) := ⟨_, rfl⟩
  have hv : Hid (reqBad kind q = true) := by
   show _ = _
   unfold reqBad
   rw [decide_eq_true hk, Bool.true_or]
  rw [← hkk] at hk ⊢
  have i1 : (k != 0) = true := by simp [hk]
  clear hk hkk q1
  go_wp2
  go_ret
  exact ⟨by rw [hv.out] <;> rfl, B2⟩
set_option maxRecDepth 100000 in
set_option maxHeartbeats 4000000 in
theorem reqIx (w : World) (ao : Option Addr) (n cap : Nat) (l : List QM) (h : GL elQ w ao n cap l) (p : Nat) (kind : Int) (hp : w.cell? ⟨p, 0, none⟩ = some (.int .i64 kind)) :
  Calls Tryz.prog 118 #[.slice ao n cap, .func (.func 92) #[] #[.pointer (some ⟨p, 0, none⟩)]] w fun e w' =>
   (∃ i : Int, e = .returned (.int .i64 i) ∧ decide (0 ≤ i) = l.any (reqBad kind)) ∧ Below w.heap.size w w' := by
 have hl : l.length = n := h.len
 have hm := h.mx
 have hle := h.le
 simp only [maxLen] at hm
 go_enter Tryz.func118, Tryz.ntmps118
 go_wp2
 go_loopw [5, 8] (fun _ i wr => ∃ k : Nat, k ≤ n ∧ i = .int .i64 k ∧ Below w.heap.size w wr ∧ (l.take k).any (reqBad kind) = false) (fun _ i _ => n - (intOf i).toNat)
 case atStart => exact ⟨0, Nat.zero_le _, rfl, Below.refl _ _, rfl⟩
 case round =>
  obtain ⟨k, hk, rfl, B, hall⟩ := hrel
  have HA : Hid ((l.take k).any (reqBad kind) = false) := hall
  clear hall
  by_cases hlt : k < n
  ·have hB := h.below elQ_fine B
   obtain ⟨b, off, rfl, hc⟩ := hB.atQ (by omega)
   have hkl : k < l.length := by omega
   have X := hc k hkl
   have hok := hB.ok _ (List.getElem_mem hkl)
   have g1 := (B.cell (World.block_lt_of_cell? w _ hp)).trans hp
   have i1 : (k : Int) < (n : Int) := by omega
   have HT : Hid ((l.take (k + 1)).any (reqBad kind) = (reqBad kind) l[k]) := by
    show _ = _
    rw [List.take_succ_eq_append_getElem hkl, List.any_append, HA.out]
    simp
   have HL : Hid ((reqBad kind) l[k] = true → l.any (reqBad kind) = true) := fun hb => List.any_eq_true.2 ⟨_, List.getElem_mem hkl, hb⟩
   obtain ⟨o, ho⟩ : ∃ o, o = l[k] := ⟨_, rfl⟩
   rw [← ho] at X hok HT HL
   clear ho hc h hB HA
   obtain ⟨q0, q1, q2, q3, q4, q5, q6, q7, q8, q9, q10, q11⟩ := X
   have CC := reqBad_any wr o hok p kind g1
   cases hb : (reqBad kind) o with
   | true =>
    go_wp2_with (go_at_call 92; refine CC.mono ?_; rintro e w2 ⟨rfl, C⟩; have D := B.trans (C.mono B.size); rw [hb])
    go_ret
    exact ⟨⟨k, rfl, by rw [HL.out hb]; exact decide_eq_true (by omega)⟩, D⟩
   | false =>
    go_wp2_with (go_at_call 92; refine CC.mono ?_; rintro e w2 ⟨rfl, C⟩; have D := B.trans (C.mono B.size); rw [hb])
    go_roundw
    case rel => exact ⟨k + 1, by omega, by go_num, D, by rw [HT.out, hb]⟩
    case measure => simp [intOf]; omega
  ·have i1 : (n : Int) ≤ (k : Int) := by omega
   have HL : Hid (l.any (reqBad kind) = false) := by
    show _ = _
    rw [← HA.out, List.take_of_length_le (by omega)]
   go_wp2
   go_ret
   exact ⟨⟨-1, rfl, by rw [HL.out]; rfl⟩, B⟩
set_option maxRecDepth 100000 in
set_option maxHeartbeats 4000000 in
theorem reqCf (w : World) (ao : Option Addr) (n cap : Nat) (l : List QM) (h : GL elQ w ao n cap l) (p : Nat) (kind : Int) (hp : w.cell? ⟨p, 0, none⟩ = some (.int .i64 kind)) :
  Calls Tryz.prog 91 #[.slice ao n cap, .func (.func 92) #[] #[.pointer (some ⟨p, 0, none⟩)]] w fun e w' => e = .returned (.bool (l.any (reqBad kind))) ∧ Below w.heap.size w w' := by
 go_enter Tryz.func91, Tryz.ntmps91
 go_wp2_with fail
 refine (reqIx _ ao n cap l h p kind hp).mono ?_
 rintro e w' ⟨⟨i, rfl, hi⟩, C⟩
 have HI : Hid (decide (0 ≤ i) = l.any (reqBad kind)) := hi
 clear hi
 go_wp2
 go_ret
 exact ⟨by rw [← HI.out] <;> rfl, C⟩
set_option maxRecDepth 100000 in
set_option maxHeartbeats 4000000 in
theorem areRequests_any (w : World) (x : BM) (h : x.ok w) :
  Calls Tryz.prog 59 #[x.val] w fun e w' => e = .returned (.bool (!(x.q.l.any (reqBad x.kind)))) ∧ Below w.heap.size w w' := by
 have B : Below w.heap.size w (w.alloc (.cells #[.int .i64 x.kind, .int .u64 x.view, .int .u64 x.seq, .slice x.sum.ao x.sum.n x.sum.cap, .slice x.q.ao x.q.n x.q.cap, .int .u64 x.cl, .int .u64 x.st, .int .u64 x.vw, .int .i64 x.e, .slice x.c.ao x.c.n x.c.cap, .bool x.more, .slice x.s.ao x.s.n x.s.cap, .slice x.t.ao x.t.n x.t.cap] 41)) := (Below.refl _ w).alloc (Nat.le_refl _) _
 have K : BC (w.alloc (.cells #[.int .i64 x.kind, .int .u64 x.view, .int .u64 x.seq, .slice x.sum.ao x.sum.n x.sum.cap, .slice x.q.ao x.q.n x.q.cap, .int .u64 x.cl, .int .u64 x.st, .int .u64 x.vw, .int .i64 x.e, .slice x.c.ao x.c.n x.c.cap, .bool x.more, .slice x.s.ao x.s.n x.s.cap, .slice x.t.ao x.t.n x.t.cap] 41)) w.heap.size x := heap_alloc_new w _
 have h1 := h.below B
 clear h
 unfold BM.val
 go_enter Tryz.func59, Tryz.ntmps59
 go_wp2_with fail
 obtain ⟨w1, hw1⟩ : ∃ W, W = (w.alloc (.cells #[.int .i64 x.kind, .int .u64 x.view, .int .u64 x.seq, .slice x.sum.ao x.sum.n x.sum.cap, .slice x.q.ao x.q.n x.q.cap, .int .u64 x.cl, .int .u64 x.st, .int .u64 x.vw, .int .i64 x.e, .slice x.c.ao x.c.n x.c.cap, .bool x.more, .slice x.s.ao x.s.n x.s.cap, .slice x.t.ao x.t.n x.t.cap] 41)) := ⟨_, rfl⟩
 obtain ⟨N, hN'⟩ : ∃ N, N = w.heap.size := ⟨_, rfl⟩
 rw [← hw1] at B K h1 ⊢
 rw [← hN'] at K ⊢
 clear hw1 hN'
 refine (reqCf w1 x.q.ao x.q.n x.q.cap x.q.l h1.q N x.kind K.cs.c0).mono ?_
 rintro e w2 ⟨rfl, C⟩
 have B2 := B.trans (C.mono B.size)
 clear C K B h1
 go_wp2
 go_ret
 exact ⟨rfl, B2⟩
set_option maxRecDepth 100000 in
set_option maxHeartbeats 4000000 in
theorem isReplyFor_any (w : World) (x : BM) (h : x.ok w) :
  Calls Tryz.prog 60 #[x.val] w fun e w' => e = .returned (.bool (repOk x)) ∧ Below w.heap.size w w' := by
 have CR := fun V (hV : x.ok V) => presult_any V x.e x.c.ao x.c.n x.c.cap x.c.l x.more hV.c
 unfold resV at CR
 have B : Below w.heap.size w (w.alloc (.cells #[.int .i64 x.kind, .int .u64 x.view, .int .u64 x.seq, .slice x.sum.ao x.sum.n x.sum.cap, .slice x.q.ao x.q.n x.q.cap, .int .u64 x.cl, .int .u64 x.st, .int .u64 x.vw, .int .i64 x.e, .slice x.c.ao x.c.n x.c.cap, .bool x.more, .slice x.s.ao x.s.n x.s.cap, .slice x.t.ao x.t.n x.t.cap] 41)) := (Below.refl _ w).alloc (Nat.le_refl _) _
 have K : BC (w.alloc (.cells #[.int .i64 x.kind, .int .u64 x.view, .int .u64 x.seq, .slice x.sum.ao x.sum.n x.sum.cap, .slice x.q.ao x.q.n x.q.cap, .int .u64 x.cl, .int .u64 x.st, .int .u64 x.vw, .int .i64 x.e, .slice x.c.ao x.c.n x.c.cap, .bool x.more, .slice x.s.ao x.s.n x.s.cap, .slice x.t.ao x.t.n x.t.cap] 41)) w.heap.size x := heap_alloc_new w _
 have h1 := h.below B
 clear h
 unfold BM.val
 by_cases c5 : x.kind = 5
 ·have i5 : (x.kind != 5) = false := by simp [c5]
  have hv : Hid (repOk x = (rightR (resR x.e x.c.l x.more) && decide (x.cl ≠ 0 ∧ x.st ≠ 0 ∧ x.vw ≤ 4611686018427387903))) := by
   show _ = _
   unfold repOk
   rw [decide_eq_false (by omega), Bool.false_or]
  clear c5
  have CR := CR _ h1
  clear h1
  go_enter Tryz.func60, Tryz.ntmps60
  go_wp2_with fail
  obtain ⟨w1, hw1⟩ : ∃ W, W = (w.alloc (.cells #[.int .i64 x.kind, .int .u64 x.view, .int .u64 x.seq, .slice x.sum.ao x.sum.n x.sum.cap, .slice x.q.ao x.q.n x.q.cap, .int .u64 x.cl, .int .u64 x.st, .int .u64 x.vw, .int .i64 x.e, .slice x.c.ao x.c.n x.c.cap, .bool x.more, .slice x.s.ao x.s.n x.s.cap, .slice x.t.ao x.t.n x.t.cap] 41)) := ⟨_, rfl⟩
  obtain ⟨N, hN'⟩ : ∃ N, N = w.heap.size := ⟨_, rfl⟩
  rw [← hw1] at B K CR ⊢
  rw [← hN'] at K ⊢
  clear hw1 hN'
  refine CR.mono ?_
  rintro e w2 ⟨⟨bo, m, c, rfl, -⟩, C⟩
  have K2 := K.keep C
  have B2 := B.trans (C.mono B.size)
  clear CR C K B
  obtain ⟨k0, k1, k2, k3, k4, k5, k6, k7, k8, k9, k10, k11, k12⟩ := K2.cs
  clear K2
  unfold kindR
  cases hr : rightR (resR x.e x.c.l x.more) with
  | false =>
   have hv2 : Hid (repOk x = false) := by
    show _ = _
    rw [hv.out, hr, Bool.false_and]
   clear hv hr
   go_wp2
   go_ret
   exact ⟨by rw [hv2.out] <;> rfl, B2⟩
  | true =>
   have hv2 : Hid (repOk x = decide (x.cl ≠ 0 ∧ x.st ≠ 0 ∧ x.vw ≤ 4611686018427387903)) := by
    show _ = _
    rw [hv.out, hr, Bool.true_and]
   clear hv hr
   by_cases d0 : x.cl = 0
   ·have jd0 : ((x.cl : Int) != 0) = false := by first | omega | (simp; omega)
    have hv3 : Hid (repOk x = false) := by
     show _ = _
     rw [hv2.out]
     exact decide_eq_false (by omega)
    clear hv2 d0
    go_wp2
    go_ret
    exact ⟨by rw [hv3.out] <;> rfl, B2⟩
   have jd0 : ((x.cl : Int) != 0) = true := by first | omega | (simp; omega)
   by_cases d1 : x.st = 0
   ·have jd1 : ((x.st : Int) != 0) = false := by first | omega | (simp; omega)
    have hv3 : Hid (repOk x = false) := by
     show _ = _
     rw [hv2.out]
     exact decide_eq_false (by omega)
    clear hv2 d0 d1
    go_wp2
    go_ret
    exact ⟨by rw [hv3.out] <;> rfl, B2⟩
   have jd1 : ((x.st : Int) != 0) = true := by first | omega | (simp; omega)
   by_cases d2 : 4611686018427387903 < x.vw
   ·have jd2 : decide ((x.vw : Int) ≤ 4611686018427387903) = false := by first | omega | (simp; omega)
    have hv3 : Hid (repOk x = false) := by
     show _ = _
     rw [hv2.out]
     exact decide_eq_false (by omega)
    clear hv2 d0 d1 d2
    go_wp2
    go_ret
    exact ⟨by rw [hv3.out] <;> rfl, B2⟩
   have jd2 : decide ((x.vw : Int) ≤ 4611686018427387903) = true := by first | omega | (simp; omega)
   have hv3 : Hid (repOk x = true) := by
    show _ = _
    rw [hv2.out]
    exact decide_eq_true (by omega)
   clear hv2 d0 d1 d2
   go_wp2
   go_ret
   exact ⟨by rw [hv3.out] <;> rfl, B2⟩
 have i5 : (x.kind != 5) = true := by simp [c5]
 have hv : Hid (repOk x = true) := by
  show _ = _
  unfold repOk
  rw [decide_eq_true c5, Bool.true_or]
 clear c5 CR h1
 go_enter Tryz.func60, Tryz.ntmps60
 go_wp2
 go_ret
 exact ⟨by rw [hv.out] <;> rfl, B⟩
end Go.Proofs.YtnbejckdhdbamaaGreat

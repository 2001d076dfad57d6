/-
  Texts in one: PResF, MgPutR.
-/
import Derived.Test.YtkjaapomaaakmaaGreatMessageBytesQ28
import Derived.Test.YtkjaapomaaakmaaGreatMessageBytesQ29
import Derived.Test.YtkjaapomaaakmaaGreatMessageBytesQ34
namespace Go.Proofs.YtkjaapomaaakmaaGreat
open Go.RowKit
theorem fBoolF (w : World) (ao : Option Addr) (n cap : Nat) (b : Bool) (xs : List Int) (h : Sl w ao n cap xs) (hr : n ≤ 1000000) :
  Calls Tryz.prog 117 #[.slice ao n cap, .bool b] w fun e w' => ∃ bo k c, e = .returned (.slice bo k c) ∧ Sl w' bo k c (xs ++ enb b) ∧ Below w.heap.size w w' ∧ ∀ a, bo = some a → w.heap.size ≤ a.block := by
 refine (wBool_any w ao n cap b xs h (by omega)).mono ?_
 rintro e w' ⟨v, rfl, O, B⟩
 obtain ⟨bo, c, rfl, s, f⟩ := Sl.own O (h.byte.append (enb_byte b))
 exact ⟨bo, _, c, rfl, s, B, fun a ha => (f a ha).1⟩
def ResPostF (w : World) (r : RV) (e : Ending) (w' : World) : Prop :=
 (∃ bo k c, e = .returned (.tuple #[.slice bo k c, .int .i64 (kindR r)]) ∧ Sl w' bo k c (if rightR r then putR r else []) ∧ ∀ a, bo = some a → w.heap.size ≤ a.block) ∧ Below w.heap.size w w'
set_option maxRecDepth 100000 in
set_option maxHeartbeats 8000000 in
theorem presult_far (w : World) (e : Int) (ao : Option Addr) (n cap : Nat) (l : List CA) (m : Bool) (L : CL w ao n cap l) :
  Calls Tryz.prog 81 #[resV e ao n cap m] w (ResPostF w (resR e l m)) := by
 have hl : l.length = n := L.len
 have B : Below w.heap.size w (w.alloc (Obj.cells #[.int .i64 e, .slice ao n cap, .bool m] 28)) := (Below.refl _ w).alloc (Nat.le_refl _) _
 have K : RC (w.alloc (Obj.cells #[.int .i64 e, .slice ao n cap, .bool m] 28)) w.heap.size e ao n cap m := heap_alloc_new w _
 have L1 := L.below B
 have hp : rightR (resR e l m) = true → (0 ≤ e ∧ e ≤ 18) ∧ l.length ≤ 16 ∧ ∀ c ∈ l, c.key.fits ∧ c.va.xs.length ≤ 256 := fun q => right_cells q L.ok
 clear L
 unfold resV
 go_enter Tryz.func81, Tryz.ntmps81
 go_wp2_with fail
 obtain ⟨w1, hw1⟩ : ∃ W, W = w.alloc (Obj.cells #[.int .i64 e, .slice ao n cap, .bool m] 28) := ⟨_, rfl⟩
 obtain ⟨N, hN⟩ : ∃ N, N = w.heap.size := ⟨_, rfl⟩
 rw [← hw1] at B K L1 ⊢
 rw [← hN] at B K ⊢
 have HN : Hid (N = w.heap.size) := hN
 clear hw1 hN
 refine (prr_any w1 e ao n cap l m L1).mono ?_
 rintro x w2 ⟨rfl, C⟩
 have K2 := K.keep C
 have B2 := B.trans (C.mono (by have := B.size; have := K.lt; omega))
 have L2 := L1.below C
 clear C K B L1
 cases hb : rightR (resR e l m) with
 | false =>
  have hk : kindR (resR e l m) = 1 := by unfold kindR; rw [hb]; rfl
  rw [hk]
  go_wp2
  go_ret2
  exact ⟨⟨none, 0, 0, by rw [hk] <;> rfl, by rw [hb]; exact Sl.nothing _, fun _ h => by cases h⟩, by rw [← HN.out]; exact B2⟩
 | true =>
  have hk : kindR (resR e l m) = 0 := by unfold kindR; rw [hb]; rfl
  rw [hk]
  obtain ⟨⟨e0, e18⟩, l16, hcf⟩ := hp hb
  clear hp
  have r0 := K2.c0
  have r1 := K2.c1
  have r2 := K2.c2
  go_wp2_with fail
  clear r0 r1 r2
  refine (fUintI w2 none 0 0 e [] (Sl.nothing _) (by omega) e0 (by omega)).mono ?_
  rintro x w3 ⟨b3, m3, c3, rfl, S3, C⟩
  have K3 := K2.keep C
  have B3 := B2.trans (C.mono (by have := B2.size; have := K2.lt; omega))
  have L3 := L2.below C
  clear C K2 B2 L2
  have l3 := S3.len
  have g0 := enc_length (n := e.toNat) (by omega)
  have g1 := enc_length (n := n) (by omega)
  simp only [List.length_append, List.length_nil] at l3
  have r0 := K3.c0
  have r1 := K3.c1
  have r2 := K3.c2
  go_wp2_with fail
  clear r0 r1 r2
  refine (fUint w3 b3 m3 c3 n _ S3 (by omega) (by omega)).mono ?_
  rintro x w4 ⟨b4, m4, c4, rfl, S4, C⟩
  have K4 := K3.keep C
  have B4 := B3.trans (C.mono (by have := B3.size; have := K3.lt; omega))
  have L4 := L3.below C
  clear C K3 B3 L3
  have l4 := S4.len
  simp only [List.length_append, List.length_nil] at l4
  have m4b : m4 ≤ 20 := by omega
  clear l3 l4 S3 g0 g1
  rw [List.nil_append] at S4
  have r1 := K4.c1
  go_wp2_with fail
  clear r1
  go_loopw [5, 7, 26] (fun b _ i wr => ∃ (k : Nat) (bo : Option Addr) (m c : Nat), k ≤ n ∧ i = .int .i64 k ∧ b = .slice bo m c ∧ Sl wr bo m c (enc e.toNat ++ enc n ++ ((l.take k).map fun c => putC c.c).flatten) ∧ m ≤ 20 + 410 * k ∧ Below N w wr ∧ Below w4.heap.size w4 wr) (fun _ _ i _ => n - (intOf i).toNat)
  case atStart => exact ⟨0, b4, m4, c4, Nat.zero_le _, rfl, rfl, by simpa using S4, by omega, B4, Below.refl _ _⟩
  case round =>
   clear S4 B4
   obtain ⟨k, bo, m1, c1, hk1, rfl, rfl, S, hm, B, C⟩ := hrel
   have K5 := K4.keep C
   clear K4
   by_cases hlt : k < n
   ·obtain ⟨b, off, ea, hc⟩ := L4.at (by omega)
    have hkl : k < l.length := by omega
    have X := (hc k hkl).below C
    have hok : (l[k]).ok wr := (L4.ok _ (List.getElem_mem hkl)).below C
    have hcf1 := hcf _ (List.getElem_mem hkl)
    have i6 : (k : Int) < (n : Int) := by omega
    have HT : Hid (((l.take (k + 1)).map fun c => putC c.c).flatten = ((l.take k).map fun c => putC c.c).flatten ++ putC l[k].c) := by
     show _ = _
     rw [List.take_succ_eq_append_getElem hkl, List.map_append, List.flatten_append]
     simp
    obtain ⟨c, hx⟩ : ∃ c : CA, c = l[k] := ⟨_, rfl⟩
    obtain ⟨p, hp⟩ : ∃ p, p = ((l.take k).map fun c => putC c.c).flatten := ⟨_, rfl⟩
    rw [← hx] at hok HT X hcf1
    rw [← hp] at S HT
    clear hx hc hp
    rw [ea]
    clear ea
    obtain ⟨u0, hu0⟩ : ∃ V, V = wr.alloc (Obj.cells #[.string c.row, .string c.fam, .string c.qual, .int .u64 c.time, .slice c.va.ao c.va.n c.va.cap, .bool c.gone] 104) := ⟨_, rfl⟩
    obtain ⟨M, hM⟩ : ∃ M, M = wr.heap.size := ⟨_, rfl⟩
    have U0 : Below wr.heap.size wr u0 := by rw [hu0]; exact (Below.refl _ _).alloc (Nat.le_refl _) _
    have KU : u0.heap[M]? = some (.cells #[.string c.row, .string c.fam, .string c.qual, .int .u64 c.time, .slice c.va.ao c.va.n c.va.cap, .bool c.gone] 104) := by rw [hu0, hM]; exact heap_alloc_new wr _
    have HC : Hid (∀ V, Below u0.heap.size u0 V → V.cell? ⟨M, 0, none⟩ = some (.string c.row) ∧ V.cell? ⟨M, 1, none⟩ = some (.string c.fam) ∧ V.cell? ⟨M, 2, none⟩ = some (.string c.qual) ∧ V.cell? ⟨M, 3, none⟩ = some (.int .u64 c.time) ∧ V.cell? ⟨M, 4, none⟩ = some (.slice c.va.ao c.va.n c.va.cap) ∧ V.cell? ⟨M, 5, none⟩ = some (.bool c.gone)) := fun V hV => by
     have q := (hV.block M ((Array.getElem?_eq_some_iff.1 KU).1)).trans KU
     exact ⟨cell_of_row V M 0 _ _ _ q, cell_of_row V M 1 _ _ _ q, cell_of_row V M 2 _ _ _ q, cell_of_row V M 3 _ _ _ q, cell_of_row V M 4 _ _ _ q, cell_of_row V M 5 _ _ _ q⟩
    have sU := S.below U0
    have hokU := hok.below U0
    have BU := B.trans (U0.mono (by have := B.size; have := HN.out; omega))
    have DU := C.trans (U0.mono C.size)
    have lS := S.len
    have g1 := putK_len hcf1.1
    have g2 := byts_len hcf1.2
    have g3 := enb_len c.gone
    simp only [List.length_append] at lS
    obtain ⟨q0, q1, q2, q3, q4, q5⟩ := X
    go_wp2_with fail
    rw [← hu0, ← hM]
    clear hu0 hM q0 q1 q2 q3 q4 q5 KU S
    refine (pkey_any u0 bo m1 c1 _ sU (by omega) c.key hcf1.1).mono ?_
    rintro x w5 ⟨b5, m5, c5, rfl, S5, C5⟩
    have A5 : Below u0.heap.size u0 w5 := C5
    have l5 := S5.len
    simp only [List.length_append] at l5
    obtain ⟨q0, q1, q2, q3, q4, q5⟩ := HC.out w5 A5
    go_wp2_with fail
    clear q0 q1 q2 q3 q4 q5 C5
    refine (fBytes w5 b5 _ m5 c5 _ _ _ _ S5 (hokU.below A5).va (by omega) (by have := hokU.va.len; omega)).mono ?_
    rintro x w6 ⟨b6, m6, c6, rfl, S6, C6⟩
    have A6 := A5.trans (C6.mono A5.size)
    have l6 := S6.len
    simp only [List.length_append] at l6
    obtain ⟨q0, q1, q2, q3, q4, q5⟩ := HC.out w6 A6
    go_wp2_with fail
    clear q0 q1 q2 q3 q4 q5 C6
    refine (fBool w6 b6 m6 c6 c.gone _ S6 (by omega)).mono ?_
    rintro x w7 ⟨b7, m7, c7, rfl, S7, C7⟩
    have A7 := A6.trans (C7.mono A6.size)
    have l7 := S7.len
    simp only [List.length_append] at l7
    have m7b : m7 ≤ 20 + 410 * (k + 1) := by omega
    have B7 := BU.trans (A7.mono (by have := BU.size; have := HN.out; omega))
    have D7 := DU.trans (A7.mono DU.size)
    have fin : enc e.toNat ++ enc n ++ p ++ putK c.key ++ byts c.va.xs ++ enb c.gone = enc e.toNat ++ enc n ++ (p ++ putC c.c) := by
     rw [putC_key]
     simp only [List.append_assoc]
    rw [fin] at S7
    clear C7 l5 l6 l7 lS S5 S6 sU
    go_wp2
    go_roundw
    case rel => exact ⟨k + 1, b7, m7, c7, by omega, by go_num, rfl, by rw [HT.out]; exact S7, m7b, B7, D7⟩
    case measure => simp [intOf]; omega
   ·have i6 : (n : Int) ≤ (k : Int) := by omega
    rw [List.take_of_length_le (by omega)] at S
    have r2 := K5.c2
    go_wp2_with fail
    clear r2
    refine (fBoolF wr bo m1 c1 m _ S (by omega)).mono ?_
    rintro x w5 ⟨b5, m5, c5, rfl, S5, C5, F5⟩
    have F6 : Hid (∀ a, b5 = some a → w.heap.size ≤ a.block) := fun a ha => Nat.le_trans B.size (F5 a ha)
    clear F5
    have B5 := B.trans (C5.mono (by have := B.size; have := HN.out; omega))
    go_wp2
    go_ret2
    refine ⟨⟨b5, m5, c5, by rw [hk] <;> rfl, ?_, F6.out⟩, by rw [← HN.out]; exact B5⟩
    rw [if_pos hb, putR_res, hl]
    simpa only [List.append_assoc] using S5
open Go.RowKit
set_option maxRecDepth 100000 in
set_option maxHeartbeats 4000000 in
theorem putReply_any (w : World) (base : Nat) (v : Value) (xs : List Int) (h : Buf w base v xs) (hb : base ≤ w.heap.size) (cl st vw : Nat) (hcl : cl < 18446744073709551616) (hst : st < 18446744073709551616) (hvw : vw < 18446744073709551616) (e : Int) (co : Option Addr) (cn cc : Nat) (l : List CA) (m : Bool) (L : CL w co cn cc l) (hr : rightR (resR e l m) = true) (hx : xs.length ≤ 500000000) :
  Calls Tryz.prog 41 #[v, .agg #[.int .u64 cl, .int .u64 st, .int .u64 vw, .int .i64 e, .slice co cn cc, .bool m]] w (BufPost w base v (xs ++ putPV ⟨cl, st, vw, resR e l m⟩)) := by
 have B : Below w.heap.size w (w.alloc (.cells #[.int .u64 cl, .int .u64 st, .int .u64 vw, .int .i64 e, .slice co cn cc, .bool m] 30)) := (Below.refl _ w).alloc (Nat.le_refl _) _
 have K : (w.alloc (.cells #[.int .u64 cl, .int .u64 st, .int .u64 vw, .int .i64 e, .slice co cn cc, .bool m] 30)).heap[w.heap.size]? = some (.cells #[.int .u64 cl, .int .u64 st, .int .u64 vw, .int .i64 e, .slice co cn cc, .bool m] 30) := heap_alloc_new w _
 have CR := presult_far (w.alloc (.cells #[.int .u64 cl, .int .u64 st, .int .u64 vw, .int .i64 e, .slice co cn cc, .bool m] 30)) e co cn cc l m (L.below B)
 have hl8 := (res_back hr L.ok).2
 have e1 := enc_length hcl
 have e2 := enc_length hst
 have e3 := enc_length hvw
 have h1 := h.below B
 have T1 := Bst.below B v
 have hlo : Hid (∀ z, v.ownBlock = some z → z < w.heap.size) := fun z hz => (h.lt hz).2
 unfold resV at CR
 clear L h
 go_enter Tryz.func41, Tryz.ntmps41
 go_wp2_with fail
 obtain ⟨w1, hw1⟩ : ∃ W, W = (w.alloc (.cells #[.int .u64 cl, .int .u64 st, .int .u64 vw, .int .i64 e, .slice co cn cc, .bool m] 30)) := ⟨_, rfl⟩
 obtain ⟨N, hN'⟩ : ∃ N, N = w.heap.size := ⟨_, rfl⟩
 rw [← hw1] at B K CR h1 T1 ⊢
 rw [← hN'] at K hlo ⊢
 have hNs : N < w1.heap.size := (Array.getElem?_eq_some_iff.1 K).1
 clear hw1 hN'
 refine CR.mono ?_
 rintro x w2 ⟨⟨bo, k, c, rfl, S2, F2⟩, C2⟩
 rw [if_pos hr] at S2
 have K2 := (C2.block N hNs).trans K
 have h2 := h1.below C2
 have T2 := T1.trans (Bst.below C2 v)
 have hb2 : base ≤ w2.heap.size := Nat.le_trans hb T2.gr.size
 have hk8 := S2.len
 have HF : Hid (∀ a, bo = some a → N < a.block) := fun a ha => Nat.lt_of_lt_of_le hNs (F2 a ha)
 clear CR C2 K h1 T1 F2 B
 have q0 : w2.cell? ⟨N, 0, none⟩ = some (.int .u64 cl) := cell_of_row w2 N 0 _ _ _ K2
 have q1 : w2.cell? ⟨N, 1, none⟩ = some (.int .u64 st) := cell_of_row w2 N 1 _ _ _ K2
 have q2 : w2.cell? ⟨N, 2, none⟩ = some (.int .u64 vw) := cell_of_row w2 N 2 _ _ _ K2
 have C3 : Below w2.heap.size w2 (w2.alloc (.cells #[.int .u64 cl, .int .u64 st, .int .u64 vw] 22)) := (Below.refl _ _).alloc (Nat.le_refl _) _
 have G : (w2.alloc (.cells #[.int .u64 cl, .int .u64 st, .int .u64 vw] 22)).heap[w2.heap.size]? = some (.cells #[.int .u64 cl, .int .u64 st, .int .u64 vw] 22) := heap_alloc_new _ _
 have CN := putNumbers_any (w2.alloc (.cells #[.int .u64 cl, .int .u64 st, .int .u64 vw] 22)) base v xs (h2.below C3) (Nat.le_trans hb2 C3.size) w2.heap.size [cl, st, vw] 3 rfl (by decide) (fun i hi => by
   rcases (by have : i < 3 := hi; omega : i = 0 ∨ i = 1 ∨ i = 2) with rfl | rfl | rfl
   ·exact cell_of_row _ _ 0 _ _ _ G
   ·exact cell_of_row _ _ 1 _ _ _ G
   ·exact cell_of_row _ _ 2 _ _ _ G) (h2.new (Nat.le_refl _)) (fun n hn => by simp only [List.mem_cons, List.not_mem_nil, or_false] at hn; rcases hn with rfl | rfl | rfl <;> assumption) (by omega)
 have S3 := S2.below C3
 have T3 := T2.trans (Bst.below C3 v)
 have en : ([cl, st, vw].map enc).flatten = enc cl ++ (enc st ++ enc vw) := by simp
 rw [en] at CN
 clear en
 go_wp2_with fail
 clear q0 q1 q2 G K2
 have hb3 : base ≤ (w2.alloc (.cells #[.int .u64 cl, .int .u64 st, .int .u64 vw] 22)).heap.size := Nat.le_trans hb2 C3.size
 clear C3
 obtain ⟨w3, hw3⟩ : ∃ W, W = (w2.alloc (.cells #[.int .u64 cl, .int .u64 st, .int .u64 vw] 22)) := ⟨_, rfl⟩
 rw [← hw3] at CN S3 T3 hb3 ⊢
 clear hw3
 refine CN.mono ?_
 rintro x w4 ⟨v4, rfl, H4, T4⟩
 have S4 : Sl w4 bo k c (putR (resR e l m)) := Sl.kept (b := ⟨bo, k, c, putR (resR e l m)⟩) S3 fun z hz => T4.block (S3.blk_lt (b := ⟨bo, k, c, putR (resR e l m)⟩) hz) (fun e => by
  obtain ⟨a, ha, _, rfl⟩ := hz
  have h1 := HF.out a ha
  have h2 := hlo.out _ e
  omega)
 have hb4 : base ≤ w4.heap.size := Nat.le_trans hb3 T4.gr.size
 have T5 := T3.trans T4
 clear CN S3 T3 T4 S2 h2 T2
 have CF := putForm_any w4 base v4 _ H4 hb4 bo k c _ S4 (by simp only [List.length_append]; omega)
 go_wp2_with fail
 refine CF.mono ?_
 rintro x w5 ⟨v5, rfl, H5, T6⟩
 have TF := T5.trans T6
 clear CF T5 T6 S4 H4
 go_wp2
 go_ret
 refine ⟨v5, rfl, ?_, TF⟩
 unfold putPV
 simpa only [List.append_assoc] using H5
theorem shp_lim {k : Int} {h : HV} (e : shpOk k h = true) : h.view ≤ 4611686018427387903 ∧ h.seq ≤ 4611686018427387903 ∧ h.sum ≤ 32 ∧ h.reqs ≤ 1 ∧ h.cert ≤ 16 ∧ h.sets ≤ 16 ∧ (k ≠ 5 → h.rep = false) := by
 have hk := shp_kind e
 have hc : k = 1 ∨ k = 2 ∨ k = 3 ∨ k = 4 ∨ k = 5 ∨ k = 6 ∨ k = 7 ∨ k = 8 ∨ k = 9 ∨ k = 10 ∨ k = 11 ∨ k = 12 ∨ k = 13 ∨ k = 14 := by omega
 rcases hc with rfl | rfl | rfl | rfl | rfl | rfl | rfl | rfl | rfl | rfl | rfl | rfl | rfl | rfl
 all_goals
  unfold shpOk at e
  simp at e
  obtain ⟨⟨e1, e2, e3, e4, e5, e6⟩, e7⟩ := e
  refine ⟨by omega, by omega, by omega, by omega, by omega, by omega, fun _ => by first | exact e7 | omega⟩
structure Rgt (x : BM) : Prop where
 kind : 1 ≤ x.kind ∧ x.kind ≤ 14
 view : x.view ≤ 4611686018427387903
 seq : x.seq ≤ 4611686018427387903
 sum : x.sum.n ≤ 32
 qn : x.q.n ≤ 1
 sn : x.s.n ≤ 16
 tn : x.t.n ≤ 16
 rep : x.kind ≠ 5 → x.rz = true
 q : ∀ q ∈ x.q.l, kq q.cl q.st (rightO q.o.s (q.l.map sn0)) = 0
 r5 : x.kind = 5 → rightR (resR x.e x.c.l x.more) = true
 s : ∀ s ∈ x.s.l, s.fit
 t : ∀ t ∈ x.t.l, t.n ≤ 16 ∧ ∀ s ∈ t.l, s.fit
theorem sg_fit {s : SA} (h : s.sg = true) : s.fit := by
 unfold SA.sg sgnd at h
 have := of_decide_eq_true h
 exact ⟨by omega, by omega⟩
theorem tx_fit {s : SA} {k : Int} (h : s.tx k = true) : s.fit := by
 unfold SA.tx txOk at h
 split at h
 ·have := of_decide_eq_true h
  exact ⟨by omega, by omega⟩
 ·exact sg_fit h
theorem rgt {x : BM} (h : rightM x = true) : Rgt x := by
 unfold rightM at h
 simp only [Bool.and_eq_true, Bool.not_eq_true', List.any_eq_false] at h
 obtain ⟨h1, h2, h3, h4, h5⟩ := h
 obtain ⟨a1, a2, a3, a4, a5, a6, a7⟩ := shp_lim h1
 refine ⟨shp_kind h1, a1, a2, a3, a4, a5, a6, fun hk => ?_, fun q hq => ?_, fun hk => ?_, fun s hs => ?_, fun t ht => ?_⟩
 ·have : (!x.rz) = false := a7 hk
  simpa using this
 ·have := h2 q hq
  unfold reqBad at this
  simp only [Bool.or_eq_true, decide_eq_true_eq, not_or] at this
  exact Decidable.not_not.1 this.1
 ·unfold repOk at h3
  rw [decide_eq_false (by omega), Bool.false_or] at h3
  exact (Bool.and_eq_true_iff.1 h3).1
 ·have := h4 s hs
  exact tx_fit (k := x.kind) (by simpa using this)
 ·have := h5 t ht
  unfold setBad at this
  simp only [Bool.or_eq_true, decide_eq_true_eq, List.any_eq_true, not_or, not_exists, not_and] at this
  exact ⟨by omega, fun s hs => sg_fit (by simpa using this.2 s hs)⟩
theorem req_len {q : QM} {w : World} (h : q.ok w) (hk : kq q.cl q.st (rightO q.o.s (q.l.map sn0)) = 0) : (putQ q.v).length ≤ 8000 := by
 obtain ⟨_, _, hr⟩ := kq_zero hk
 obtain ⟨p1, p2, p3, p4⟩ := right_parts hr h.o (fun x hx => h.l.ok x hx)
 have e1 := enc_length h.cl
 have e2 := enc_length h.st
 have e3 := putS_len p1 (n := q.l.length) (by omega)
 have g : ∀ k : List OA, (∀ x ∈ k, x.s.fits) → ((k.map fun x => putS x.s 0).flatten).length ≤ 800 * k.length := by
  intro k
  induction k with
  | nil => intro _; simp
  | cons a k ih =>
   intro hk
   have i1 := ih (fun x hx => hk x (List.mem_cons_of_mem _ hx))
   have i2 := putS_len (hk a (List.mem_cons_self ..)) (n := 0) (by omega)
   simp only [List.map_cons, List.flatten_cons, List.length_append, List.length_cons]
   omega
 have g1 := g q.l p3
 have : putQ q.v = enc q.cl ++ (enc q.st ++ putA q.o q.l) := by
  unfold putQ QM.v
  rw [putA_P]
 rw [this]
 unfold putA
 simp only [List.length_append]
 omega
end Go.Proofs.YtkjaapomaaakmaaGreat

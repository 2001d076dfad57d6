/-
  Texts in one: MgPutR.
-/
import Derived.Test.YtcgphdipfekccaaMessageBackQ30
import Derived.Test.YtcgphdipfekccaaMessageBackQ27
namespace Go.Proofs.Ytcgphdipfekccaa
open Go.RowKit
set_option maxRecDepth 100000 in
set_option maxHeartbeats 4000000 in
theorem putReply_any (w : World) (base : Nat) (v : Value) (xs : List Int) (h : Buf w base v xs) (hb : base ≤ w.heap.size) (cl st vw : Nat) (hcl : cl < 18446744073709551616) (hst : st < 18446744073709551616) (hvw : vw < 18446744073709551616) (e : Int) (co : Option Addr) (cn cc : Nat) (l : List CA) (m : Bool) (L : CL w co cn cc l) (hr : rightR (resR e l m) = true) (hx : xs.length ≤ 500000000) :
    Calls Try.prog 19 #[v, .agg #[.int .u64 cl, .int .u64 st, .int .u64 vw, .int .i64 e, .slice co cn cc, .bool m]] w (BufPost w base v (xs ++ putPV ⟨cl, st, vw, resR e l m⟩)) := by
  have B : Below w.heap.size w (w.alloc (.cells #[.int .u64 cl, .int .u64 st, .int .u64 vw, .int .i64 e, .slice co cn cc, .bool m] 30)) := (Below.refl _ w).alloc (Nat.le_refl _) _
  have K : (w.alloc (.cells #[.int .u64 cl, .int .u64 st, .int .u64 vw, .int .i64 e, .slice co cn cc, .bool m] 30)).heap[w.heap.size]? = some (.cells #[.int .u64 cl, .int .u64 st, .int .u64 vw, .int .i64 e, .slice co cn cc, .bool m] 30) := heap_alloc_new w _
  have CR := presult_far (w.alloc (.cells #[.int .u64 cl, .int .u64 st, .int .u64 vw, .int .i64 e, .slice co cn cc, .bool m] 30)) e co cn cc l m (L.below B)
  have hl8 := (res_back hr L.ok).2
  have e1 := enc_length hcl
  have e2 := enc_length hst
  have e3 := enc_length hvw
  have h1 := h.below B
  have T1 := Bst.below B v
  have hlo : Hid (∀ z, v.ownBlock = some z → z < w.heap.size) := fun z hz => (h.lt hz).2
  unfold resV at CR
  clear L h
  go_enter Try.func19, Try.ntmps19
  go_wp2_with fail
  obtain ⟨w1, hw1⟩ : ∃ W, W = (w.alloc (.cells #[.int .u64 cl, .int .u64 st, .int .u64 vw, .int .i64 e, .slice co cn cc, .bool m] 30)) := ⟨_, rfl⟩
  obtain ⟨N, hN'⟩ : ∃ N, N = w.heap.size := ⟨_, rfl⟩
  rw [← hw1] at B K CR h1 T1 ⊢
  rw [← hN'] at K hlo ⊢
  have hNs : N < w1.heap.size := (Array.getElem?_eq_some_iff.1 K).1
  clear hw1 hN'
  refine CR.mono ?_
  rintro x w2 ⟨⟨bo, k, c, rfl, S2, F2⟩, C2⟩
  rw [if_pos hr] at S2
  have K2 := (C2.block N hNs).trans K
  have h2 := h1.below C2
  have T2 := T1.trans (Bst.below C2 v)
  have hb2 : base ≤ w2.heap.size := Nat.le_trans hb T2.gr.size
  have hk8 := S2.len
  have HF : Hid (∀ a, bo = some a → N < a.block) := fun a ha => Nat.lt_of_lt_of_le hNs (F2 a ha)
  clear CR C2 K h1 T1 F2 B
  have q0 : w2.cell? ⟨N, 0, none⟩ = some (.int .u64 cl) := cell_of_row w2 N 0 _ _ _ K2
  have q1 : w2.cell? ⟨N, 1, none⟩ = some (.int .u64 st) := cell_of_row w2 N 1 _ _ _ K2
  have q2 : w2.cell? ⟨N, 2, none⟩ = some (.int .u64 vw) := cell_of_row w2 N 2 _ _ _ K2
  have C3 : Below w2.heap.size w2 (w2.alloc (.cells #[.int .u64 cl, .int .u64 st, .int .u64 vw] 22)) := (Below.refl _ _).alloc (Nat.le_refl _) _
  have G : (w2.alloc (.cells #[.int .u64 cl, .int .u64 st, .int .u64 vw] 22)).heap[w2.heap.size]? = some (.cells #[.int .u64 cl, .int .u64 st, .int .u64 vw] 22) := heap_alloc_new _ _
  have CN := putNumbers_any (w2.alloc (.cells #[.int .u64 cl, .int .u64 st, .int .u64 vw] 22)) base v xs (h2.below C3) (Nat.le_trans hb2 C3.size) w2.heap.size [cl, st, vw] 3 rfl (by decide) (fun i hi => by
      rcases (by have : i < 3 := hi; omega : i = 0 ∨ i = 1 ∨ i = 2) with rfl | rfl | rfl
      · exact cell_of_row _ _ 0 _ _ _ G
      · exact cell_of_row _ _ 1 _ _ _ G
      · exact cell_of_row _ _ 2 _ _ _ G) (h2.new (Nat.le_refl _)) (fun n hn => by simp only [List.mem_cons, List.not_mem_nil, or_false] at hn; rcases hn with rfl | rfl | rfl <;> assumption) (by omega)
  have S3 := S2.below C3
  have T3 := T2.trans (Bst.below C3 v)
  have en : ([cl, st, vw].map enc).flatten = enc cl ++ (enc st ++ enc vw) := by simp
  rw [en] at CN
  clear en
  go_wp2_with fail
  clear q0 q1 q2 G K2
  have hb3 : base ≤ (w2.alloc (.cells #[.int .u64 cl, .int .u64 st, .int .u64 vw] 22)).heap.size := Nat.le_trans hb2 C3.size
  clear C3
  obtain ⟨w3, hw3⟩ : ∃ W, W = (w2.alloc (.cells #[.int .u64 cl, .int .u64 st, .int .u64 vw] 22)) := ⟨_, rfl⟩
  rw [← hw3] at CN S3 T3 hb3 ⊢
  clear hw3
  refine CN.mono ?_
  rintro x w4 ⟨v4, rfl, H4, T4⟩
  have S4 : Sl w4 bo k c (putR (resR e l m)) := Sl.kept (b := ⟨bo, k, c, putR (resR e l m)⟩) S3 fun z hz => T4.block (S3.blk_lt (b := ⟨bo, k, c, putR (resR e l m)⟩) hz) (fun e => by
    obtain ⟨a, ha, _, rfl⟩ := hz
    have h1 := HF.out a ha
    have h2 := hlo.out _ e
    omega)
  have hb4 : base ≤ w4.heap.size := Nat.le_trans hb3 T4.gr.size
  have T5 := T3.trans T4
  clear CN S3 T3 T4 S2 h2 T2
  have CF := putForm_any w4 base v4 _ H4 hb4 bo k c _ S4 (by simp only [List.length_append]; omega)
  go_wp2_with fail
  refine CF.mono ?_
  rintro x w5 ⟨v5, rfl, H5, T6⟩
  have TF := T5.trans T6
  clear CF T5 T6 S4 H4
  go_wp2
  go_ret
  refine ⟨v5, rfl, ?_, TF⟩
  unfold putPV
  simpa only [List.append_assoc] using H5
theorem shp_lim {k : Int} {h : HV} (e : shpOk k h = true) : h.view ≤ 4611686018427387903 ∧ h.seq ≤ 4611686018427387903 ∧ h.sum ≤ 32 ∧ h.reqs ≤ 1 ∧ h.cert ≤ 16 ∧ h.sets ≤ 16 ∧ (k ≠ 5 → h.rep = false) := by
  have hk := shp_kind e
  have hc : k = 1 ∨ k = 2 ∨ k = 3 ∨ k = 4 ∨ k = 5 ∨ k = 6 ∨ k = 7 ∨ k = 8 ∨ k = 9 ∨ k = 10 ∨ k = 11 ∨ k = 12 ∨ k = 13 ∨ k = 14 := by omega
  rcases hc with rfl | rfl | rfl | rfl | rfl | rfl | rfl | rfl | rfl | rfl | rfl | rfl | rfl | rfl
  all_goals
    unfold shpOk at e
    simp at e
    obtain ⟨⟨e1, e2, e3, e4, e5, e6⟩, e7⟩ := e
    refine ⟨by omega, by omega, by omega, by omega, by omega, by omega, fun _ => by first | exact e7 | omega⟩
structure Rgt (x : BM) : Prop where
  kind : 1 ≤ x.kind ∧ x.kind ≤ 14
  view : x.view ≤ 4611686018427387903
  seq : x.seq ≤ 4611686018427387903
  sum : x.sum.n ≤ 32
  qn : x.q.n ≤ 1
  sn : x.s.n ≤ 16
  tn : x.t.n ≤ 16
  rep : x.kind ≠ 5 → x.rz = true
  q : ∀ q ∈ x.q.l, kq q.cl q.st (rightO q.o.s (q.l.map sn0)) = 0
  r5 : x.kind = 5 → rightR (resR x.e x.c.l x.more) = true
  s : ∀ s ∈ x.s.l, s.fit
  t : ∀ t ∈ x.t.l, t.n ≤ 16 ∧ ∀ s ∈ t.l, s.fit
theorem sg_fit {s : SA} (h : s.sg = true) : s.fit := by
  unfold SA.sg sgnd at h
  have := of_decide_eq_true h
  exact ⟨by omega, by omega⟩
theorem tx_fit {s : SA} {k : Int} (h : s.tx k = true) : s.fit := by
  unfold SA.tx txOk at h
  split at h
  · have := of_decide_eq_true h
    exact ⟨by omega, by omega⟩
  · exact sg_fit h
theorem rgt {x : BM} (h : rightM x = true) : Rgt x := by
  unfold rightM at h
  simp only [Bool.and_eq_true, Bool.not_eq_true', List.any_eq_false] at h
  obtain ⟨h1, h2, h3, h4, h5⟩ := h
  obtain ⟨a1, a2, a3, a4, a5, a6, a7⟩ := shp_lim h1
  refine ⟨shp_kind h1, a1, a2, a3, a4, a5, a6, fun hk => ?_, fun q hq => ?_, fun hk => ?_, fun s hs => ?_, fun t ht => ?_⟩
  · have : (!x.rz) = false := a7 hk
    simpa using this
  · have := h2 q hq
    unfold reqBad at this
    simp only [Bool.or_eq_true, decide_eq_true_eq, not_or] at this
    exact Decidable.not_not.1 this.1
  · unfold repOk at h3
    rw [decide_eq_false (by omega), Bool.false_or] at h3
    exact (Bool.and_eq_true_iff.1 h3).1
  · have := h4 s hs
    exact tx_fit (k := x.kind) (by simpa using this)
  · have := h5 t ht
    unfold setBad at this
    simp only [Bool.or_eq_true, decide_eq_true_eq, List.any_eq_true, not_or, not_exists, not_and] at this
    exact ⟨by omega, fun s hs => sg_fit (by simpa using this.2 s hs)⟩
theorem req_len {q : QM} {w : World} (h : q.ok w) (hk : kq q.cl q.st (rightO q.o.s (q.l.map sn0)) = 0) : (putQ q.v).length ≤ 8000 := by
  obtain ⟨_, _, hr⟩ := kq_zero hk
  obtain ⟨p1, p2, p3, p4⟩ := right_parts hr h.o (fun x hx => h.l.ok x hx)
  have e1 := enc_length h.cl
  have e2 := enc_length h.st
  have e3 := putS_len p1 (n := q.l.length) (by omega)
  have g : ∀ k : List OA, (∀ x ∈ k, x.s.fits) → ((k.map fun x => putS x.s 0).flatten).length ≤ 800 * k.length := by
    intro k
    induction k with
    | nil => intro _; simp
    | cons a k ih =>
      intro hk
      have i1 := ih (fun x hx => hk x (List.mem_cons_of_mem _ hx))
      have i2 := putS_len (hk a (List.mem_cons_self ..)) (n := 0) (by omega)
      simp only [List.map_cons, List.flatten_cons, List.length_append, List.length_cons]
      omega
  have g1 := g q.l p3
  have : putQ q.v = enc q.cl ++ (enc q.st ++ putA q.o q.l) := by
    unfold putQ QM.v
    rw [putA_P]
  rw [this]
  unfold putA
  simp only [List.length_append]
  omega
end Go.Proofs.Ytcgphdipfekccaa

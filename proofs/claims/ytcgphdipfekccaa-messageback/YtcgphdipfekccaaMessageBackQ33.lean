/-
  Texts in one: MgAlive, MgOkB.
-/
import Derived.Test.YtcgphdipfekccaaMessageBackQ29
import Derived.Test.YtcgphdipfekccaaMessageBackQ32
import Derived.Test.YtcgphdipfekccaaMessageBackQ13
namespace Go.Proofs.Ytcgphdipfekccaa
open Go.RowKit
theorem rdR_ne (bs : List Int) (k : Int) (e : rdR bs = .inl k) : k ≠ 0 := rdAll_ne thr_r bs k e
theorem bT_put {v : BV} (h : okB v) : bT (putB v) 0 = (v, [], 0) := by
  have := fair_b.put v [] h
  rw [List.append_nil] at this
  exact (thr_b rdR_ne).ok _ _ _ this
def liveV : BV := ⟨4, 1, 2, List.replicate 32 0, [], zPV, [], []⟩
theorem liveV_ok : okB liveV := by
  refine ⟨by decide, by decide, by decide, ⟨by decide, ?_⟩, ⟨by decide, fun _ h => by cases h⟩, ?_, ⟨by decide, fun _ h => by cases h⟩, ⟨by decide, fun _ h => by cases h⟩⟩
  · intro x hx
    have := List.eq_of_mem_replicate hx
    omega
  · show (if (4 : Int).toNat = 5 then okPV1 zPV else zPV = zPV)
    rw [if_neg (by decide)]
theorem liveV_right : rightV liveV = true := by decide
theorem liveV_put : putB liveV = 4 :: (1 :: 2 :: 32 :: (List.replicate 32 0 ++ [0, 0, 0])) := by decide
def liveM (g : Nat) : BM := ⟨4, 1, 2, ⟨some ⟨g, 0, none⟩, 32, 32, List.replicate 32 0⟩, ⟨none, 0, 0, []⟩, 0, 0, 0, 0, ⟨none, 0, 0, []⟩, false, ⟨none, 0, 0, []⟩, ⟨none, 0, 0, []⟩⟩
theorem mk32 (w : World) : (Instr.makeSlice 23 (.int .i64 32) (.int .i64 32)).run Try.prog w = .ok (.slice (some ⟨w.heap.size, 0, none⟩) 32 32) (w.alloc (.cells (bv (List.replicate 32 0)).toArray 5)) := by kernel_rfl
set_option maxRecDepth 100000 in
set_option maxHeartbeats 8000000 in
theorem alive13 (w : World) : Calls Try.prog 6 #[] w fun e w' => e = .returned (.bool true) ∧ Below w.heap.size w w' := by
  have mk : (Instr.makeSlice 23 (.int .i64 32) (.int .i64 32)).run Try.prog w = .ok (.slice (some ⟨w.heap.size, 0, none⟩) 32 32) (w.alloc (.cells (bv (List.replicate 32 0)).toArray 5)) := mk32 w
  have B1 : Below w.heap.size w (w.alloc (.cells (bv (List.replicate 32 0)).toArray 5)) := (Below.refl _ _).alloc (Nat.le_refl _) _
  have S1 : Sl (w.alloc (.cells (bv (List.replicate 32 0)).toArray 5)) (some ⟨w.heap.size, 0, none⟩) 32 32 (List.replicate 32 0) := Sl.new w (List.replicate 32 0) liveV_ok.sum.2 (by decide)
  obtain ⟨w1, hw1⟩ : ∃ W, W = w.alloc (.cells (bv (List.replicate 32 0)).toArray 5) := ⟨_, rfl⟩
  obtain ⟨N, hN⟩ : ∃ N, N = w.heap.size := ⟨_, rfl⟩
  rw [← hw1] at mk B1 S1
  rw [← hN] at mk S1
  have OK : (liveM N).ok w1 := ⟨by show (-9223372036854775808 : Int) ≤ 4 ∧ (4 : Int) ≤ 9223372036854775807; decide, by show 1 < _; decide, by show 2 < _; decide, S1, GL.nothing _ _, by show 0 < _; decide, by show 0 < _; decide, by show 0 < _; decide, by show (-9223372036854775808 : Int) ≤ 0 ∧ (0 : Int) ≤ 9223372036854775807; decide, CL.nothing _, GL.nothing _ _, GL.nothing _ _⟩
  have hr : rightM (liveM N) = true := (rightM_v OK (fun _ h => by cases h)).trans liveV_right
  have CB := bytes_msg w1 (liveM N) OK
  have HP : Hid (BytPost w1 (liveM N) = fun e w' => ∃ bo m c, e = .returned (.tuple #[.slice bo m c, .int .i64 0]) ∧ Sl w' bo m c (putB liveV) ∧ Below w1.heap.size w1 w') := by
    show _ = _
    unfold BytPost
    simp only [hr, if_true]
    rfl
  rw [HP.out] at CB
  simp only [liveM, BM.val] at CB
  clear hw1 hN HP hr OK S1
  go_enter Try.func6, Try.ntmps6
  go_wp2_with fail
  refine CB.mono ?_
  rintro e w2 ⟨bo, m, c, rfl, S2, C2⟩
  have B2 := B1.trans (C2.mono B1.size)
  have hm : m = 39 := by rw [← S2.len, liveV_put]; rfl
  subst hm
  clear CB mk B1 C2
  have CR := read_msg w2 bo 39 c (putB liveV) S2 (by omega)
  go_wp2_with fail
  refine CR.mono ?_
  rintro e w3 ⟨x, ok, fl, hv, he, C3⟩
  rw [bT_put liveV_ok] at hv he
  have hr : rightM x = true := by rw [rightM_v ok fl, hv]; exact liveV_right
  rw [if_pos ⟨rfl, hr⟩] at he
  subst he
  have hs : x.seq = 2 := congrArg BV.seq hv
  have S3 := S2.below C3
  have B3 := B2.trans (C3.mono B2.size)
  clear CR C3 S2 B2 hr fl hv ok
  obtain ⟨b, off, rfl, hc⟩ := S3.at (by omega)
  have c0 : w3.cell? ⟨b, off, none⟩ = some (.int .u8 4) := by
    have := hc 0 (by omega)
    rw [liveV_put] at this
    exact this
  clear hc S3
  unfold BM.val
  have B4 : Below w.heap.size w (w3.alloc (.cells #[.int .i64 x.kind, .int .u64 x.view, .int .u64 x.seq, .slice x.sum.ao x.sum.n x.sum.cap, .slice x.q.ao x.q.n x.q.cap, .int .u64 x.cl, .int .u64 x.st, .int .u64 x.vw, .int .i64 x.e, .slice x.c.ao x.c.n x.c.cap, .bool x.more, .slice x.s.ao x.s.n x.s.cap, .slice x.t.ao x.t.n x.t.cap] 42)) := B3.alloc B3.size _
  have C4 : Below w3.heap.size w3 (w3.alloc (.cells #[.int .i64 x.kind, .int .u64 x.view, .int .u64 x.seq, .slice x.sum.ao x.sum.n x.sum.cap, .slice x.q.ao x.q.n x.q.cap, .int .u64 x.cl, .int .u64 x.st, .int .u64 x.vw, .int .i64 x.e, .slice x.c.ao x.c.n x.c.cap, .bool x.more, .slice x.s.ao x.s.n x.s.cap, .slice x.t.ao x.t.n x.t.cap] 42)) := (Below.refl _ _).alloc (Nat.le_refl _) _
  have c1 := (C4.cell (World.block_lt_of_cell? w3 _ c0)).trans c0
  clear c0 C4
  have i2 : ((x.seq : Int) == 2) = true := by rw [hs]; rfl
  clear hs
  go_wp2
  go_ret
  exact ⟨rfl, B4⟩
open Go.RowKit
theorem okQ_of {q : QM} {w : World} (h : q.ok w) (hk : kq q.cl q.st (rightO q.o.s (q.l.map sn0)) = 0) (hb : Byt (putQ q.v)) : okN rdQ putQ q.v := by
  obtain ⟨_, _, hr⟩ := kq_zero hk
  obtain ⟨f1, f2, f3, f4⟩ := right_parts hr h.o (fun x hx => h.l.ok x hx)
  refine ⟨rdAll_put good_q kindQ q.v ⟨h.cl, h.st, f1, ?_, fun s hs => ?_⟩ ?_, hb, by have := req_len h hk; omega⟩
  · show (q.l.map OA.s).length ≤ 8
    rw [List.length_map]
    exact f2
  · obtain ⟨x, hx, rfl⟩ := List.mem_map.1 (show s ∈ q.l.map OA.s from hs)
    exact f3 x hx
  · exact (kindq_read q.cl q.st f4).trans hk
theorem okV_of {s : SA} {w : World} (h : s.ok w) (hf : s.fit) : okV s.v :=
  ⟨h.fr, ⟨by show s.b.xs.length ≤ _; rw [h.b.len]; exact hf.1, h.b.byte⟩, ⟨by show s.tag.xs.length ≤ _; rw [h.tag.len]; exact hf.2, h.tag.byte⟩⟩
theorem okVs_of {w : World} {ao : Option Addr} {n cap : Nat} {l : List SA} (h : GL elS w ao n cap l) (hn : n ≤ 16) (hf : ∀ s ∈ l, s.fit) : okVs (l.map SA.v) := by
  refine ⟨by rw [List.length_map, h.len]; exact hn, fun s hs => ?_⟩
  obtain ⟨x, hx, rfl⟩ := List.mem_map.1 hs
  exact okV_of (h.ok x hx) (hf x hx)
theorem byt_flat {α : Type} {f : α → List Int} {l : List α} (h : Byt (putLs f l)) : ∀ a ∈ l, Byt (f a) := fun a ha x hx => by
  have := byt_right (xs := enc l.length) h
  exact this x (List.mem_flatten.2 ⟨f a, List.mem_map.2 ⟨a, ha, rfl⟩, hx⟩)
theorem rz_zero {x : BM} {w : World} (h : x.ok w) (hz : x.rz = true) : (⟨x.cl, x.st, x.vw, resR x.e x.c.l x.more⟩ : PV) = zPV := by
  unfold BM.rz at hz
  obtain ⟨h1, h2⟩ := Bool.and_eq_true_iff.1 hz
  obtain ⟨a, b, c, d, e⟩ := of_decide_eq_true h1
  have hm : x.more = false := by simpa using h2
  have hl : x.c.l = [] := List.eq_nil_of_length_eq_zero (h.c.len.trans e)
  rw [a, b, c, d, hl, hm]
  rfl
theorem okB_of {x : BM} {w : World} (h : x.ok w) (hr : rightM x = true) (hb : Byt (putB x.v)) : okB x.v := by
  have g := rgt hr
  have hk := g.kind
  have b1 := byt_right (byt_right (byt_right (byt_right hb)))
  have bq := byt_flat (byt_left b1)
  have bp := byt_left (byt_right b1)
  refine ⟨⟨by show (0 : Int) ≤ x.kind; omega, by show x.kind ≤ 14; omega⟩, h.view, h.seq, ⟨by show x.sum.xs.length ≤ 32; rw [h.sum.len]; exact g.sum, h.sum.byte⟩, ⟨by show (x.q.l.map QM.v).length ≤ 1; rw [List.length_map, h.q.len]; exact g.qn, fun q hq => ?_⟩, ?_, okVs_of h.s g.sn g.s, ⟨by show (x.t.l.map fun s => s.l.map SA.v).length ≤ 16; rw [List.length_map, h.t.len]; exact g.tn, fun l hl => ?_⟩⟩
  · have hby := bq q hq
    obtain ⟨y, hy, rfl⟩ := List.mem_map.1 (show q ∈ x.q.l.map QM.v from hq)
    exact okQ_of (h.q.ok y hy) (g.q y hy) (byt_right hby)
  · show (if x.kind.toNat = 5 then _ else _)
    by_cases c : x.kind = 5
    · rw [if_pos (show x.kind.toNat = 5 by omega)]
      obtain ⟨r1, r2⟩ := res_back (g.r5 c) h.c.ok
      have bp : Byt (if x.kind = 5 then putPV x.v.rep else []) := bp
      rw [if_pos c] at bp
      exact ⟨h.cl, h.st, h.vw, r1, byt_right (byt_right (byt_right (byt_right bp))), by show (putR (resR x.e x.c.l x.more)).length < _; omega⟩
    · rw [if_neg (show ¬ x.kind.toNat = 5 by omega)]
      exact rz_zero h (g.rep c)
  · obtain ⟨t, ht, rfl⟩ := List.mem_map.1 (show l ∈ x.t.l.map (fun s => s.l.map SA.v) from hl)
    exact okVs_of (h.t.ok t ht) (g.t t ht).1 (g.t t ht).2
end Go.Proofs.Ytcgphdipfekccaa

/-
  Texts in one: RefMore, RLow, CkMemL, CText, CConv, CBelow.
-/
import Derived.Test.YtkmkmekhodcioaaGreatDoorChunkLaysZ9
import Derived.Test.YtkmkmekhodcioaaGreatDoorChunkLaysZ8
import Derived.Test.YtkmkmekhodcioaaGreatDoorChunkLaysZ2
import Derived.Laws.BytesArg
import Derived.Laws.IdiomStrings
namespace Go.Proofs.YtkmkmekhodcioaaGreatDoor
open Go.RowKit

set_option maxHeartbeats 400000 in
theorem rInt_any (w : World) (p L : Nat) (xs : List Int) (k most : Int) (hmost : most ≤ 9223372036854775807) (hb : Byt xs) (h : R w p L xs k) : Calls Tryz.prog 46 #[.pointer (some ⟨p, 0, none⟩), .int .i64 most] w fun e w' =>
    e = .returned (.int .i64 ((intT xs k most).1 : Nat)) ∧ R w' p L (intT xs k most).2.1 (intT xs k most).2.2 ∧ w.grownBy w' (some p) := by
  have hU := rUint_read w p L xs k h
  have hlt := uintT_lt (k := k) hb
  unfold intT
  generalize uintT xs k = T at *
  obtain ⟨m, rs, q⟩ := T
  simp only at hU hlt ⊢
  have HU : Hid (Calls _ _ _ _ _) := hU
  clear hU h hb
  by_cases hq : q = 0
  · subst hq
    rw [if_pos rfl]
    by_cases hbad : most < 0 ∨ most < (m : Int)
    · rw [if_pos hbad]
      by_cases hneg : most < 0
      · clear hbad
        go_enter Tryz.func46, Tryz.ntmps46
        go_wp2_with fail
        refine HU.out.mono ?_
        rintro e w1 ⟨rfl, hR1, hg1⟩
        clear HU
        have hc1 := hR1.kind
        go_wp2_with fail
        refine (rFail_any _ p L rs 0 4 hR1).mono ?_
        rintro e w2 ⟨rfl, hR2, hg2⟩
        rw [if_pos rfl] at hR2
        have hc2 := hR2.kind
        have hg := grown_trans hg1 hg2
        clear hg1 hg2 hc1 hR1
        go_wp2_with fail
        go_ret
        exact ⟨rfl, hR2, hg⟩
      · have hlt2 : most < (m : Int) := by omega
        clear hbad
        go_enter Tryz.func46, Tryz.ntmps46
        go_wp2_with fail
        refine HU.out.mono ?_
        rintro e w1 ⟨rfl, hR1, hg1⟩
        clear HU
        have hc1 := hR1.kind
        go_wp2_with fail
        refine (rFail_any _ p L rs 0 4 hR1).mono ?_
        rintro e w2 ⟨rfl, hR2, hg2⟩
        rw [if_pos rfl] at hR2
        have hc2 := hR2.kind
        have hg := grown_trans hg1 hg2
        clear hg1 hg2 hc1 hR1
        go_wp2_with fail
        go_ret
        exact ⟨rfl, hR2, hg⟩
    · rw [if_neg hbad]
      have h1 : 0 ≤ most := by omega
      have h2 : (m : Int) ≤ most := by omega
      clear hbad
      go_enter Tryz.func46, Tryz.ntmps46
      go_wp2_with fail
      refine HU.out.mono ?_
      rintro e w1 ⟨rfl, hR1, hg1⟩
      clear HU
      have hc1 := hR1.kind
      go_wp2_with fail
      go_ret
      exact ⟨rfl, hR1, hg1⟩
  · rw [if_neg hq]
    have hqb : (q != 0) = true := by simp [hq]
    have hqe : (q == 0) = false := by simp [hq]
    clear hq
    go_enter Tryz.func46, Tryz.ntmps46
    go_wp2_with fail
    refine HU.out.mono ?_
    rintro e w1 ⟨rfl, hR1, hg1⟩
    clear HU
    have hc1 := hR1.kind
    go_wp2_with fail
    go_ret
    exact ⟨rfl, hR1, hg1⟩

set_option maxHeartbeats 800000 in
theorem rBytes_read (w : World) (p L : Nat) (xs : List Int) (k most : Int) (hmost : most ≤ 9223372036854775807) (h : R w p L xs k) : Calls Tryz.prog 47 #[.pointer (some ⟨p, 0, none⟩), .int .i64 most] w fun e w' =>
    ∃ ao n cap, e = .returned (.slice ao n cap) ∧ Sl w' ao n cap (bytesT xs k most).1 ∧ R w' p L (bytesT xs k most).2.1 (bytesT xs k most).2.2 ∧ w.grownBy w' (some p) := by
  have hU := rInt_any w p L xs k most hmost h.byte h
  unfold bytesT
  generalize intT xs k most = T at *
  obtain ⟨m, rs, q⟩ := T
  simp only at hU ⊢
  have HU : Hid (Calls _ _ _ _ _) := hU
  clear hU h
  by_cases hq : q = 0
  · subst hq
    rw [if_pos rfl]
    by_cases hbad : rs.length < m
    · rw [if_pos hbad]
      go_enter Tryz.func47, Tryz.ntmps47
      go_wp2_with fail
      refine HU.out.mono ?_
      rintro e w1 ⟨rfl, hR1, hg1⟩
      clear HU
      have hR1' := hR1
      obtain ⟨ao, n, cap, hr⟩ := hR1'
      have hc0 := hr.c0
      have hc1 := hr.c1
      have hl := hr.sl.len
      have hlt : (n : Int) < (m : Int) := by omega
      clear hr hl hbad
      go_wp2_with fail
      refine (rFail_any _ p L rs 0 2 hR1).mono ?_
      rintro e w2 ⟨rfl, hR2, hg2⟩
      rw [if_pos rfl] at hR2
      have hc2 := hR2.kind
      have hg := grown_trans hg1 hg2
      clear hg1 hg2 hc1 hc0 hR1
      go_wp2_with fail
      go_ret
      exact ⟨none, 0, 0, rfl, Sl.nothing _, hR2, hg⟩
    · rw [if_neg hbad]
      go_enter Tryz.func47, Tryz.ntmps47
      go_wp2_with fail
      refine HU.out.mono ?_
      rintro e w1 ⟨rfl, hR1, hg1⟩
      clear HU
      obtain ⟨ao, n, cap, hr⟩ := hR1
      have hc0 := hr.c0
      have hc1 := hr.c1
      have hf0 := hr.f0
      have hl := hr.sl.len
      have hle := hr.sl.le
      have hmx := hr.sl.mx
      unfold maxLen at hmx
      have hmn : m ≤ n := by omega
      have hsl := hr.sl.take m hmn
      clear hbad
      by_cases hcm : cap = m
      · subst hcm
        have hfin : R (w1.setCell ⟨p, 0, none⟩ (.slice ao 0 0)) p L (rs.drop cap) 0 := by
          have := hr.rest (hr.sl.dropAll hmn) (fun a ha hp => by omega) (by omega)
          rw [show n - cap = 0 from by omega] at this
          exact ⟨_, _, _, this⟩
        have hs := hsl.keep (fun a ha hp => hr.low a ha (by omega)) hr.le (grown_setCell w1 p 0 (.slice ao 0 0))
        have hg := grown_trans hg1 (grown_setCell w1 p 0 (.slice ao 0 0))
        clear hsl hg1
        go_wp2_with fail
        go_ret
        exact ⟨_, _, _, rfl, hs, hfin, hg⟩
      · have hfin : R (w1.setCell ⟨p, 0, none⟩ (.slice (ao.map (fun x => x.add m)) (n - m) (cap - m))) p L (rs.drop m) 0 :=
          ⟨_, _, _, hr.rest (hr.sl.drop m hmn) (low_drop hr.low (by omega)) (by omega)⟩
        have hs := hsl.keep (fun a ha hp => hr.low a ha (by omega)) hr.le (grown_setCell w1 p 0 (.slice (ao.map (fun x => x.add m)) (n - m) (cap - m)))
        have hg := grown_trans hg1 (grown_setCell w1 p 0 (.slice (ao.map (fun x => x.add m)) (n - m) (cap - m)))
        clear hsl hg1
        go_wp2_with fail
        go_ret
        exact ⟨_, _, _, rfl, hs, hfin, hg⟩
  · rw [if_neg hq]
    have hqb : (q != 0) = true := by simp [hq]
    have hqe : (q == 0) = false := by simp [hq]
    clear hq
    go_enter Tryz.func47, Tryz.ntmps47
    go_wp2_with fail
    refine HU.out.mono ?_
    rintro e w1 ⟨rfl, hR1, hg1⟩
    clear HU
    have hc1 := hR1.kind
    go_wp2_with fail
    go_ret
    exact ⟨none, 0, 0, rfl, Sl.nothing _, hR1, hg1⟩

end Go.Proofs.YtkmkmekhodcioaaGreatDoor

namespace Go.Proofs.YtkmkmekhodcioaaGreatDoor
open Go.RowKit

set_option maxHeartbeats 800000 in
theorem rBytes_low (w : World) (p L : Nat) (xs : List Int) (k most : Int) (hmost : most ≤ 9223372036854775807) (h : R w p L xs k) : Calls Tryz.prog 47 #[.pointer (some ⟨p, 0, none⟩), .int .i64 most] w fun e w' =>
    ∃ ao n cap, e = .returned (.slice ao n cap) ∧ Sl w' ao n cap (bytesT xs k most).1 ∧ (∀ a, ao = some a → 0 < n → a.block < L) ∧ R w' p L (bytesT xs k most).2.1 (bytesT xs k most).2.2 ∧ w.grownBy w' (some p) := by
  have hU := rInt_any w p L xs k most hmost h.byte h
  unfold bytesT
  generalize intT xs k most = T at *
  obtain ⟨m, rs, q⟩ := T
  simp only at hU ⊢
  have HU : Hid (Calls _ _ _ _ _) := hU
  clear hU h
  by_cases hq : q = 0
  · subst hq
    rw [if_pos rfl]
    by_cases hbad : rs.length < m
    · rw [if_pos hbad]
      go_enter Tryz.func47, Tryz.ntmps47
      go_wp2_with fail
      refine HU.out.mono ?_
      rintro e w1 ⟨rfl, hR1, hg1⟩
      clear HU
      have hR1' := hR1
      obtain ⟨ao, n, cap, hr⟩ := hR1'
      have hc0 := hr.c0
      have hc1 := hr.c1
      have hl := hr.sl.len
      have hlt : (n : Int) < (m : Int) := by omega
      clear hr hl hbad
      go_wp2_with fail
      refine (rFail_any _ p L rs 0 2 hR1).mono ?_
      rintro e w2 ⟨rfl, hR2, hg2⟩
      rw [if_pos rfl] at hR2
      have hc2 := hR2.kind
      have hg := grown_trans hg1 hg2
      clear hg1 hg2 hc1 hc0 hR1
      go_wp2_with fail
      go_ret
      exact ⟨none, 0, 0, rfl, Sl.nothing _, fun _ h => by simp at h, hR2, hg⟩
    · rw [if_neg hbad]
      go_enter Tryz.func47, Tryz.ntmps47
      go_wp2_with fail
      refine HU.out.mono ?_
      rintro e w1 ⟨rfl, hR1, hg1⟩
      clear HU
      obtain ⟨ao, n, cap, hr⟩ := hR1
      have hc0 := hr.c0
      have hc1 := hr.c1
      have hf0 := hr.f0
      have hl := hr.sl.len
      have hle := hr.sl.le
      have hmx := hr.sl.mx
      unfold maxLen at hmx
      have hmn : m ≤ n := by omega
      have hsl := hr.sl.take m hmn
      have HLO : Hid (∀ a, ao = some a → 0 < m → a.block < L) := fun a ha hp => hr.low a ha (by omega)
      clear hbad
      by_cases hcm : cap = m
      · subst hcm
        have hfin : R (w1.setCell ⟨p, 0, none⟩ (.slice ao 0 0)) p L (rs.drop cap) 0 := by
          have := hr.rest (hr.sl.dropAll hmn) (fun a ha hp => by omega) (by omega)
          rw [show n - cap = 0 from by omega] at this
          exact ⟨_, _, _, this⟩
        have hs := hsl.keep (fun a ha hp => hr.low a ha (by omega)) hr.le (grown_setCell w1 p 0 (.slice ao 0 0))
        have hg := grown_trans hg1 (grown_setCell w1 p 0 (.slice ao 0 0))
        clear hsl hg1
        go_wp2_with fail
        go_ret
        exact ⟨_, _, _, rfl, hs, HLO.out, hfin, hg⟩
      · have hfin : R (w1.setCell ⟨p, 0, none⟩ (.slice (ao.map (fun x => x.add m)) (n - m) (cap - m))) p L (rs.drop m) 0 :=
          ⟨_, _, _, hr.rest (hr.sl.drop m hmn) (low_drop hr.low (by omega)) (by omega)⟩
        have hs := hsl.keep (fun a ha hp => hr.low a ha (by omega)) hr.le (grown_setCell w1 p 0 (.slice (ao.map (fun x => x.add m)) (n - m) (cap - m)))
        have hg := grown_trans hg1 (grown_setCell w1 p 0 (.slice (ao.map (fun x => x.add m)) (n - m) (cap - m)))
        clear hsl hg1
        go_wp2_with fail
        go_ret
        exact ⟨_, _, _, rfl, hs, HLO.out, hfin, hg⟩
  · rw [if_neg hq]
    have hqb : (q != 0) = true := by simp [hq]
    have hqe : (q == 0) = false := by simp [hq]
    clear hq
    go_enter Tryz.func47, Tryz.ntmps47
    go_wp2_with fail
    refine HU.out.mono ?_
    rintro e w1 ⟨rfl, hR1, hg1⟩
    clear HU
    have hc1 := hR1.kind
    go_wp2_with fail
    go_ret
    exact ⟨none, 0, 0, rfl, Sl.nothing _, fun _ h => by simp at h, hR1, hg1⟩
end Go.Proofs.YtkmkmekhodcioaaGreatDoor

namespace Go.Proofs.YtkmkmekhodcioaaGreatDoor
open Go.RowKit

/-- The same as CkInv, the bytes below L. -/
structure CkInvL (w : World) (N p L base : Nat) (f : Nat → List It × List Int × Int) (V : World) (v : Value) (ps : List IP) : Prop where
  rd : R V p L (f ps.length).2.1 (f ps.length).2.2
  own : V.ownsRow base 43 2 v ps.length (flatI ps)
  oks : ∀ q ∈ ps, q.ok V
  far : ∀ q ∈ ps, ∀ x, q.blk x → x ≠ p ∧ v.ownBlock ≠ some x
  new : ∀ q ∈ ps, ∀ x, q.blk x → N ≤ x
  thr : ps.map IP.it = (f ps.length).1
  bel : Below w.heap.size w V
  pos : w.heap.size ≤ p ∧ p < base ∧ base ≤ V.heap.size
theorem CkInvL.row {w : World} {N p L base : Nat} {f : Nat → List It × List Int × Int} {V : World} {v : Value} {ps : List IP} (h : CkInvL w N p L base f V v ps) : ∃ ao cap, v = .slice ao ps.length cap ∧ IL V ao ps.length cap ps := own_items h.own h.oks
/-- The reader has read on: what was read is as it was. -/
theorem CkInvL.grown {w : World} {N p L base : Nat} {f : Nat → List It × List Int × Int} {V V1 : World} {v : Value} {ps : List IP} (h : CkInvL w N p L base f V v ps) (hg : V.grownBy V1 (some p)) :
    V1.ownsRow base 43 2 v ps.length (flatI ps) ∧ (∀ q ∈ ps, q.ok V1) ∧ Below w.heap.size w V1 ∧ base ≤ V1.heap.size := by
  have hpos := h.pos
  refine ⟨own_kept h.own fun g hgv => hg.block g (h.own.lt g hgv).2 fun e => ?_, fun q hq => (h.oks q hq).kept fun x hx => hg.block x ((h.oks q hq).lt hx) fun e => (h.far q hq x hx).1 (Option.some.inj e), ?_, by have := hg.size; omega⟩
  · have := (h.own.lt g hgv).1
    have := Option.some.inj e
    omega
  · exact h.bel.trans (below_grown hg h.bel.size hpos.1)
/-- One item more. -/
theorem CkInvL.step {w : World} {N p L base : Nat} {f : Nat → List It × List Int × Int} {V V2 V3 : World} {v : Value} {ps : List IP} {q : IP} (h : CkInvL w N p L base f V v ps) (hg : V.grownBy V2 (some p)) (hq : q.ok V2)
    (hfar : ∀ x, q.blk x → x ≠ p ∧ v.ownBlock ≠ some x) (hnew : ∀ x, q.blk x → N ≤ x) (hf : f (ps.length + 1) = ((f ps.length).1 ++ [q.it], (f (ps.length + 1)).2)) (hr : R V2 p L (f (ps.length + 1)).2.1 (f (ps.length + 1)).2.2) (hn : ps.length ≤ 100000) (h3 : V3 = V2.alloc (.cells #[q.k.val, q.v.val] 43)) (ty : TypeId) (c : Nat) :
    ∃ v' V4, (Builtin.append_ #[30, 30] ty #[v, .slice (some ⟨V2.heap.size, 0, none⟩) 1 c]).run Tryz.prog V3 = .ok v' V4 ∧ CkInvL w N p L base f V4 v' (ps ++ [q]) := by
  obtain ⟨o2, k2, b2, s2⟩ := h.grown hg
  have B3 : Below V2.heap.size V2 V3 := by rw [h3]; exact (Below.refl _ _).alloc (Nat.le_refl _) _
  have o3 := own_kept (w' := V3) o2 fun g hgv => B3.block g (o2.lt g hgv).2
  have hx : V3.heap[V2.heap.size]? = some (.cells #[q.k.val, q.v.val] 43) := by rw [h3]; exact heap_alloc_new V2 _
  have hs3 := B3.size
  have hpos := h.pos
  obtain ⟨i0, hi, hz0, hz1, hz2⟩ := info_parts itemInfo
  obtain ⟨v', V4, hrun, own4, g4, w4⟩ := run_append_own2 (P := Tryz.prog) V3 base 30 ty 43 i0 _ 2 48 Tryz.underlying30 hi hz0 hz1 hz2 rfl (by decide) v ps.length (flatI ps) o3 ⟨V2.heap.size, 0, none⟩ 1 c [q.k.val, q.v.val] rfl
    (fun j u hu => by
      rw [Addr.add_lit, Nat.zero_add, cell_of_row V3 V2.heap.size j _ _ _ hx]
      simpa using hu) (fun u hu => by
      simp only [List.mem_cons, List.not_mem_nil, or_false] at hu
      rcases hu with rfl | rfl <;> rfl) (by unfold maxLen; omega) (by omega) (by omega)
  have hpl : p < V2.heap.size ∧ L ≤ p := by
    obtain ⟨_, _, _, hR⟩ := hr
    exact ⟨hR.plt, hR.le⟩
  have rowne : ∀ g, v.ownBlock = some g → p ≠ g ∧ L ≤ g := fun g hgv => by
    have := (h.own.lt g hgv).1
    omega
  have kp : ∀ r : IP, r.ok V2 → (∀ x, r.blk x → x ≠ p ∧ v.ownBlock ≠ some x) → r.ok V4 ∧ ∀ x, r.blk x → x ≠ p ∧ v'.ownBlock ≠ some x := fun r hr hf => by
    refine ⟨(hr.below B3).kept fun x hx => g4.block x ((hr.below B3).lt hx) fun e => (hf x hx).2 e.symm, fun x hx => ⟨(hf x hx).1, fun e => ?_⟩⟩
    rcases w4 x e with e' | e'
    · exact (hf x hx).2 e'
    · have := hr.lt hx
      omega
  refine ⟨v', V4, hrun, ?_, ?_, ?_, ?_, ?_, ?_, ?_, ?_⟩
  · rw [List.length_append]
    exact (hr.below B3).keepO g4 rowne
  · rw [List.length_append, flatI_snoc]
    exact own4
  · intro r hm
    rcases List.mem_append.1 hm with hm | hm
    · exact (kp r (k2 r hm) (h.far r hm)).1
    · rw [List.mem_singleton.1 hm]
      exact (kp q hq hfar).1
  · intro r hm
    rcases List.mem_append.1 hm with hm | hm
    · exact (kp r (k2 r hm) (h.far r hm)).2
    · rw [List.mem_singleton.1 hm]
      exact (kp q hq hfar).2
  · intro r hm
    rcases List.mem_append.1 hm with hm | hm
    · exact h.new r hm
    · rw [List.mem_singleton.1 hm]
      exact hnew
  · rw [List.map_append, h.thr, List.length_append]
    show _ = (f (ps.length + 1)).1
    rw [hf]
    rfl
  · refine (b2.trans (B3.mono b2.size)).trans ?_
    cases ho : v.ownBlock with
    | none => rw [ho] at g4; exact ⟨g4.os, g4.tape, g4.output, g4.size, fun i hi => g4.block i (by have := (b2.trans (B3.mono b2.size)).size; omega) (by simp)⟩
    | some g => rw [ho] at g4; exact below_grown g4 (b2.trans (B3.mono b2.size)).size (by have := (h.own.lt g ho).1; omega)
  · refine ⟨hpos.1, hpos.2.1, ?_⟩
    have := g4.size
    omega
end Go.Proofs.YtkmkmekhodcioaaGreatDoor

namespace Go.Proofs.YtkmkmekhodcioaaGreatDoor
open Go.RowKit

set_option maxRecDepth 100000 in
set_option maxHeartbeats 2000000 in
theorem text_any (w : World) (s t : ByteArray) (hs : s.size ≤ maxLen) (ht : t.size ≤ maxLen) :
    Calls Tryz.prog 49 #[.string s, .string t] w fun e w' => e = .returned (.int .i64 (cmpL (sb s) (sb t))) ∧ Below w.heap.size w w' := by
  simp only [maxLen] at hs ht
  go_enter Tryz.func49, Tryz.ntmps49
  go_wp2_with fail
  go_loopw [5] (fun i wr => ∃ k : Nat, k ≤ s.size ∧ k ≤ t.size ∧ i = .int .i64 k ∧ Below w.heap.size w wr ∧ cmpL (sb s) (sb t) = cmpL ((sb s).drop k) ((sb t).drop k)) (fun i _ => s.size - (intOf i).toNat)
  case atStart => exact ⟨0, by omega, by omega, rfl, Below.refl _ _, rfl⟩
  case round =>
    obtain ⟨k, h1, h2, rfl, B, hc⟩ := hrel
    by_cases l1 : k < s.size
    · have i1 : (k : Int) < (s.size : Int) := by omega
      by_cases l2 : k < t.size
      · have i2 : (k : Int) < (t.size : Int) := by omega
        rw [sb_at s k l1, sb_at t k l2] at hc
        obtain ⟨x, hx⟩ : ∃ x : Nat, x = s[k].toNat := ⟨_, rfl⟩
        obtain ⟨y, hy⟩ : ∃ y : Nat, y = t[k].toNat := ⟨_, rfl⟩
        rw [← hx, ← hy] at hc
        have r1 : ∀ W : World, (Instr.index 9 (.string s) (.int .i64 k)).run Tryz.prog W = .ok (.int .u8 x) W := fun W => by
          rw [run_index_string W _ s _ _ Tryz.underlying9, dif_pos ⟨by omega, i1⟩, hx]
          rfl
        have r2 : ∀ W : World, (Instr.index 9 (.string t) (.int .i64 k)).run Tryz.prog W = .ok (.int .u8 y) W := fun W => by
          rw [run_index_string W _ t _ _ Tryz.underlying9, dif_pos ⟨by omega, i2⟩, hy]
          rfl
        clear hx hy
        by_cases e : x = y
        · subst e
          have hc' : Hid (cmpL (sb s) (sb t) = cmpL ((sb s).drop (k + 1)) ((sb t).drop (k + 1))) := by
            show _ = _
            rw [hc]
            rw [cmpL_cons, if_pos rfl]
          clear hc
          go_wp2_with fail
          go_quiet (fail)
          rename Nat => q
          go_wp2
          go_roundw
          case rel => exact ⟨k + 1, by omega, by omega, by go_num, belN B q, hc'.out⟩
          case measure => simp [intOf]; omega
        · have ne : ((x : Int) == (y : Int)) = false := by simp; omega
          have nn : ((x : Int) != (y : Int)) = true := by simp; omega
          by_cases l : x < y
          · have li : (x : Int) < (y : Int) := by omega
            have hc' : Hid (cmpL (sb s) (sb t) = -1) := by
              show _ = _
              rw [hc, cmpL_cons, if_neg (by omega), if_pos li]
            clear hc
            go_wp2_with fail
            go_quiet (fail)
            rename Nat => q
            go_wp2_with fail
            go_quiet (fail)
            rename Nat => q2
            go_wp2
            go_ret
            exact ⟨by rw [hc'.out] <;> rfl, belN (belN B q) q2⟩
          · have li : ¬ (x : Int) < (y : Int) := by omega
            have hc' : Hid (cmpL (sb s) (sb t) = 1) := by
              show _ = _
              rw [hc, cmpL_cons, if_neg (by omega), if_neg li]
            clear hc
            go_wp2_with fail
            go_quiet (fail)
            rename Nat => q
            go_wp2_with fail
            go_quiet (fail)
            rename Nat => q2
            go_wp2
            go_ret
            exact ⟨by rw [hc'.out] <;> rfl, belN (belN B q) q2⟩
      · have i2 : (t.size : Int) ≤ (k : Int) := by omega
        rw [sb_at s k l1, sb_end t k (by omega)] at hc
        have hc' : Hid (cmpL (sb s) (sb t) = 1) := hc
        clear hc
        have f1 : ((s.size : Int) == (t.size : Int)) = false := by simp; omega
        have f2 : ¬ (s.size : Int) < (t.size : Int) := by omega
        go_wp2
        go_ret
        exact ⟨by rw [hc'.out] <;> rfl, B⟩
    · have i1 : (s.size : Int) ≤ (k : Int) := by omega
      rw [sb_end s k (by omega)] at hc
      by_cases l2 : k < t.size
      · rw [sb_at t k l2] at hc
        have hc' : Hid (cmpL (sb s) (sb t) = -1) := hc
        clear hc
        have f1 : ((s.size : Int) == (t.size : Int)) = false := by simp; omega
        have f2 : (s.size : Int) < (t.size : Int) := by omega
        go_wp2
        go_ret
        exact ⟨by rw [hc'.out] <;> rfl, B⟩
      · rw [sb_end t k (by omega)] at hc
        have hc' : Hid (cmpL (sb s) (sb t) = 0) := hc
        clear hc
        have f1 : ((s.size : Int) == (t.size : Int)) = true := by simp; omega
        go_wp2
        go_ret
        exact ⟨by rw [hc'.out] <;> rfl, B⟩
end Go.Proofs.YtkmkmekhodcioaaGreatDoor

namespace Go.Proofs.YtkmkmekhodcioaaGreatDoor
open Go.RowKit

theorem sb_str {xs : List Int} (h : Byt xs) : sb (strOfNums xs) = xs := by
  unfold sb
  rw [strOfNums_data, List.map_map]
  refine (List.map_congr_left fun x hx => ?_).trans (List.map_id xs)
  have := h x hx
  simp only [Function.comp_apply, id_eq, UInt8.toNat_ofNat']
  omega
theorem conv_str {w : World} {ao : Option Addr} {n cap : Nat} {xs : List Int} (h : Sl w ao n cap xs) : (convert 23 9 (.slice ao n cap)).run Tryz.prog w = .ok (.string (strOfNums xs)) w := by
  cases ao with
  | none =>
    obtain ⟨rfl, rfl⟩ := h.nil rfl
    obtain rfl : xs = [] := List.eq_nil_of_length_eq_zero h.len
    exact run_convert_bytes_nil w _ _ Tryz.underlying23 Tryz.underlying5 _ _ _ Tryz.underlying9
  | some a =>
    have hl := h.len
    have hc := run_convert_bytes_back (P := Tryz.prog) w 23 9 5 a cap (xs.map fun n => UInt8.ofNat n.toNat) Tryz.underlying23 Tryz.underlying5 Tryz.underlying9 (fun j hj => by
      have hj' : j < xs.length := by simpa using hj
      have hb := h.byte xs[j] (List.getElem_mem hj')
      rw [h.cells a rfl j _ (bv_get xs j hj')]
      simp only [List.getElem_map, UInt8.toNat_ofNat', List.getD, List.getElem?_eq_getElem hj', Option.getD_some, Option.some.injEq, Value.int.injEq, true_and]
      omega)
    rw [List.length_map, hl] at hc
    exact hc
end Go.Proofs.YtkmkmekhodcioaaGreatDoor

namespace Go.Proofs.YtkmkmekhodcioaaGreatDoor
open Go.RowKit

set_option maxHeartbeats 1000000 in
set_option maxRecDepth 100000 in
theorem rbelow_any (w : World) (ao bo : Option Addr) (n cap m cap2 : Nat) (xs ys : List Int) (h : Sl w ao n cap xs) (h2 : Sl w bo m cap2 ys) :
    Calls Tryz.prog 20 #[.slice ao n cap, .slice bo m cap2] w fun e w' => e = .returned (.bool (decide (cmpL xs ys < 0))) ∧ Below w.heap.size w w' := by
  have c1 := conv_str h
  have c2 := conv_str h2
  have hn := h.len
  have hm := h2.len
  have m1 := h.mx
  have m2 := h2.mx
  have l1 := h.le
  have l2 := h2.le
  go_enter Tryz.func20, Tryz.ntmps20
  go_wp2_with fail
  refine (text_any w (strOfNums xs) (strOfNums ys) (by rw [strOfNums_size]; omega) (by rw [strOfNums_size]; omega)).mono ?_
  rintro e w1 ⟨rfl, B⟩
  rw [sb_str h.byte, sb_str h2.byte]
  go_wp2
  go_ret
  exact ⟨rfl, B⟩
end Go.Proofs.YtkmkmekhodcioaaGreatDoor

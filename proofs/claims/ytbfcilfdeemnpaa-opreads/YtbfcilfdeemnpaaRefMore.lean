/-
  Contracts: the reference's reader: Int, Bytes and Bool.
-/
import Derived.Test.YtbfcilfdeemnpaaRefRead
namespace Go.Proofs.Ytbfcilfdeemnpaa
open Go.RowKit

set_option maxHeartbeats 400000 in
theorem rInt_any (w : World) (p L : Nat) (xs : List Int) (k most : Int) (hmost : most ≤ 9223372036854775807) (hb : Byt xs) (h : R w p L xs k) : Calls Try.prog 48 #[.pointer (some ⟨p, 0, none⟩), .int .i64 most] w fun e w' =>
    e = .returned (.int .i64 ((intT xs k most).1 : Nat)) ∧ R w' p L (intT xs k most).2.1 (intT xs k most).2.2 ∧ w.grownBy w' (some p) := by
  have hU := rUint_read w p L xs k h
  have hlt := uintT_lt (k := k) hb
  unfold intT
  generalize uintT xs k = T at *
  obtain ⟨m, rs, q⟩ := T
  simp only at hU hlt ⊢
  have HU : Hid (Calls _ _ _ _ _) := hU
  clear hU h hb
  by_cases hq : q = 0
  · subst hq
    rw [if_pos rfl]
    by_cases hbad : most < 0 ∨ most < (m : Int)
    · rw [if_pos hbad]
      by_cases hneg : most < 0
      · clear hbad
        go_enter Try.func48, Try.ntmps48
        go_wp2_with fail
        refine HU.out.mono ?_
        rintro e w1 ⟨rfl, hR1, hg1⟩
        clear HU
        have hc1 := hR1.kind
        go_wp2_with fail
        refine (rFail_any _ p L rs 0 4 hR1).mono ?_
        rintro e w2 ⟨rfl, hR2, hg2⟩
        rw [if_pos rfl] at hR2
        have hc2 := hR2.kind
        have hg := grown_trans hg1 hg2
        clear hg1 hg2 hc1 hR1
        go_wp2_with fail
        go_ret
        exact ⟨rfl, hR2, hg⟩
      · have hlt2 : most < (m : Int) := by omega
        clear hbad
        go_enter Try.func48, Try.ntmps48
        go_wp2_with fail
        refine HU.out.mono ?_
        rintro e w1 ⟨rfl, hR1, hg1⟩
        clear HU
        have hc1 := hR1.kind
        go_wp2_with fail
        refine (rFail_any _ p L rs 0 4 hR1).mono ?_
        rintro e w2 ⟨rfl, hR2, hg2⟩
        rw [if_pos rfl] at hR2
        have hc2 := hR2.kind
        have hg := grown_trans hg1 hg2
        clear hg1 hg2 hc1 hR1
        go_wp2_with fail
        go_ret
        exact ⟨rfl, hR2, hg⟩
    · rw [if_neg hbad]
      have h1 : 0 ≤ most := by omega
      have h2 : (m : Int) ≤ most := by omega
      clear hbad
      go_enter Try.func48, Try.ntmps48
      go_wp2_with fail
      refine HU.out.mono ?_
      rintro e w1 ⟨rfl, hR1, hg1⟩
      clear HU
      have hc1 := hR1.kind
      go_wp2_with fail
      go_ret
      exact ⟨rfl, hR1, hg1⟩
  · rw [if_neg hq]
    have hqb : (q != 0) = true := by simp [hq]
    have hqe : (q == 0) = false := by simp [hq]
    clear hq
    go_enter Try.func48, Try.ntmps48
    go_wp2_with fail
    refine HU.out.mono ?_
    rintro e w1 ⟨rfl, hR1, hg1⟩
    clear HU
    have hc1 := hR1.kind
    go_wp2_with fail
    go_ret
    exact ⟨rfl, hR1, hg1⟩

set_option maxHeartbeats 800000 in
theorem rBytes_read (w : World) (p L : Nat) (xs : List Int) (k most : Int) (hmost : most ≤ 9223372036854775807) (h : R w p L xs k) : Calls Try.prog 50 #[.pointer (some ⟨p, 0, none⟩), .int .i64 most] w fun e w' =>
    ∃ ao n cap, e = .returned (.slice ao n cap) ∧ Sl w' ao n cap (bytesT xs k most).1 ∧ R w' p L (bytesT xs k most).2.1 (bytesT xs k most).2.2 ∧ w.grownBy w' (some p) := by
  have hU := rInt_any w p L xs k most hmost h.byte h
  unfold bytesT
  generalize intT xs k most = T at *
  obtain ⟨m, rs, q⟩ := T
  simp only at hU ⊢
  have HU : Hid (Calls _ _ _ _ _) := hU
  clear hU h
  by_cases hq : q = 0
  · subst hq
    rw [if_pos rfl]
    by_cases hbad : rs.length < m
    · rw [if_pos hbad]
      go_enter Try.func50, Try.ntmps50
      go_wp2_with fail
      refine HU.out.mono ?_
      rintro e w1 ⟨rfl, hR1, hg1⟩
      clear HU
      have hR1' := hR1
      obtain ⟨ao, n, cap, hr⟩ := hR1'
      have hc0 := hr.c0
      have hc1 := hr.c1
      have hl := hr.sl.len
      have hlt : (n : Int) < (m : Int) := by omega
      clear hr hl hbad
      go_wp2_with fail
      refine (rFail_any _ p L rs 0 2 hR1).mono ?_
      rintro e w2 ⟨rfl, hR2, hg2⟩
      rw [if_pos rfl] at hR2
      have hc2 := hR2.kind
      have hg := grown_trans hg1 hg2
      clear hg1 hg2 hc1 hc0 hR1
      go_wp2_with fail
      go_ret
      exact ⟨none, 0, 0, rfl, Sl.nothing _, hR2, hg⟩
    · rw [if_neg hbad]
      go_enter Try.func50, Try.ntmps50
      go_wp2_with fail
      refine HU.out.mono ?_
      rintro e w1 ⟨rfl, hR1, hg1⟩
      clear HU
      obtain ⟨ao, n, cap, hr⟩ := hR1
      have hc0 := hr.c0
      have hc1 := hr.c1
      have hf0 := hr.f0
      have hl := hr.sl.len
      have hle := hr.sl.le
      have hmx := hr.sl.mx
      unfold maxLen at hmx
      have hmn : m ≤ n := by omega
      have hsl := hr.sl.take m hmn
      clear hbad
      by_cases hcm : cap = m
      · subst hcm
        have hfin : R (w1.setCell ⟨p, 0, none⟩ (.slice ao 0 0)) p L (rs.drop cap) 0 := by
          have := hr.rest (hr.sl.dropAll hmn) (fun a ha hp => by omega) (by omega)
          rw [show n - cap = 0 from by omega] at this
          exact ⟨_, _, _, this⟩
        have hs := hsl.keep (fun a ha hp => hr.low a ha (by omega)) hr.le (grown_setCell w1 p 0 (.slice ao 0 0))
        have hg := grown_trans hg1 (grown_setCell w1 p 0 (.slice ao 0 0))
        clear hsl hg1
        go_wp2_with fail
        go_ret
        exact ⟨_, _, _, rfl, hs, hfin, hg⟩
      · have hfin : R (w1.setCell ⟨p, 0, none⟩ (.slice (ao.map (fun x => x.add m)) (n - m) (cap - m))) p L (rs.drop m) 0 :=
          ⟨_, _, _, hr.rest (hr.sl.drop m hmn) (low_drop hr.low (by omega)) (by omega)⟩
        have hs := hsl.keep (fun a ha hp => hr.low a ha (by omega)) hr.le (grown_setCell w1 p 0 (.slice (ao.map (fun x => x.add m)) (n - m) (cap - m)))
        have hg := grown_trans hg1 (grown_setCell w1 p 0 (.slice (ao.map (fun x => x.add m)) (n - m) (cap - m)))
        clear hsl hg1
        go_wp2_with fail
        go_ret
        exact ⟨_, _, _, rfl, hs, hfin, hg⟩
  · rw [if_neg hq]
    have hqb : (q != 0) = true := by simp [hq]
    have hqe : (q == 0) = false := by simp [hq]
    clear hq
    go_enter Try.func50, Try.ntmps50
    go_wp2_with fail
    refine HU.out.mono ?_
    rintro e w1 ⟨rfl, hR1, hg1⟩
    clear HU
    have hc1 := hR1.kind
    go_wp2_with fail
    go_ret
    exact ⟨none, 0, 0, rfl, Sl.nothing _, hR1, hg1⟩

set_option maxHeartbeats 800000 in
theorem rBool_read (w : World) (p L : Nat) (xs : List Int) (k : Int) (h : R w p L xs k) : Calls Try.prog 51 #[.pointer (some ⟨p, 0, none⟩)] w fun e w' =>
    e = .returned (.bool (boolT xs k).1) ∧ R w' p L (boolT xs k).2.1 (boolT xs k).2.2 ∧ w.grownBy w' (some p) := by
  have hR := h
  obtain ⟨ao, n, cap, hr⟩ := h
  have hc0 := hr.c0
  have hc1 := hr.c1
  have hf0 := hr.f0
  have hl := hr.sl.len
  by_cases hk : k = 0
  · subst hk
    have HF : Hid (∀ q, Calls Try.prog 71 #[.pointer (some ⟨p, 0, none⟩), .int .i64 q] w fun e w' => e = .returned (.tuple #[]) ∧ R w' p L xs q ∧ w.grownBy w' (some p)) := fun q => by
      have := rFail_any w p L xs 0 q hR
      rw [if_pos rfl] at this
      exact this
    cases xs with
    | nil =>
      obtain rfl : n = 0 := by simpa using hl.symm
      rw [show boolT [] 0 = (false, [], 2) from rfl]
      clear hr hl
      go_enter Try.func51, Try.ntmps51
      go_wp2_with (go_at_call 71; refine (HF.out 2).mono ?_; rintro e w2 ⟨rfl, hr2, hg2⟩)
      go_ret
      exact ⟨rfl, hr2, hg2⟩
    | cons c r =>
      have hn : 0 < n := by rw [← hl]; simp
      have hnb : ((n : Int) == 0) = false := by simp; omega
      have hn1 : (0 : Int) < (n : Int) := by omega
      have hn2 : (1 : Int) ≤ (n : Int) := by omega
      have hby := hr.sl.byte c (by simp)
      obtain ⟨b, off, rfl, hcell⟩ := hr.sl.at hn
      have c0 := hcell 0 hn
      rw [Nat.add_zero, show (c :: r).getD 0 0 = c from rfl] at c0
      have hle := hr.sl.le
      have hmx := hr.sl.mx
      unfold maxLen at hmx
      clear hcell
      by_cases hbig : 1 < c
      · rw [show boolT (c :: r) 0 = (false, c :: r, 3) from by simp [boolT, hbig]]
        clear hr
        go_enter Try.func51, Try.ntmps51
        go_wp2_with (go_at_call 71; refine (HF.out 3).mono ?_; rintro e w2 ⟨rfl, hr2, hg2⟩)
        go_ret
        exact ⟨rfl, hr2, hg2⟩
      · have hc1' : c ≤ 1 := by omega
        rw [show boolT (c :: r) 0 = (c == 1, r, 0) from by simp [boolT, hbig]]
        have hsd := hr.sl.drop 1 hn
        rw [show (c :: r).drop 1 = r from rfl] at hsd
        have hsa : cap = 1 → Sl w (some ⟨b, off, none⟩) (n - 1) 0 r := by
          intro hc
          subst hc
          exact hr.sl.dropAll hn
        clear hbig HF
        go_enter Try.func51, Try.ntmps51
        go_wp2_with fail
        · have hcap : cap = 1 := by assumption
          have hfin : R (w.setCell ⟨p, 0, none⟩ (.slice (some ⟨b, off, none⟩) (n - 1) 0)) p L r 0 := ⟨_, _, _, hr.rest (hsa hcap) (fun a ha hp => by omega) (by omega)⟩
          go_ret
          exact ⟨rfl, hfin, grown_setCell _ _ _ _⟩
        · have hfin := hr.rest hsd (low_drop hr.low (by omega)) (by omega)
          rw [show Option.map (fun x => x.add 1) (some (⟨b, off, none⟩ : Addr)) = some ⟨b, off + 1, none⟩ from by rw [Option.map_some, Addr.add_lit]] at hfin
          go_ret
          exact ⟨rfl, ⟨_, _, _, hfin⟩, grown_setCell _ _ _ _⟩
  · have hb : (k != 0) = true := by simp [hk]
    have hs : boolT xs k = (false, xs, k) := by simp [boolT, hk]
    rw [hs]
    clear hr hk hs
    go_enter Try.func51, Try.ntmps51
    go_wp2_with fail
    go_ret
    exact ⟨rfl, hR, World.grownBy.refl _ _⟩
end Go.Proofs.Ytbfcilfdeemnpaa

/-
  The reference's Bytes: where the slice lies that it gives.
-/
import Derived.Test.YtbfcilfdeemnpaaRefMore
namespace Go.Proofs.Ytbfcilfdeemnpaa
open Go.RowKit

set_option maxHeartbeats 800000 in
theorem rBytes_low (w : World) (p L : Nat) (xs : List Int) (k most : Int) (hmost : most ≤ 9223372036854775807) (h : R w p L xs k) : Calls Try.prog 50 #[.pointer (some ⟨p, 0, none⟩), .int .i64 most] w fun e w' =>
    ∃ ao n cap, e = .returned (.slice ao n cap) ∧ Sl w' ao n cap (bytesT xs k most).1 ∧ (∀ a, ao = some a → 0 < n → a.block < L) ∧ R w' p L (bytesT xs k most).2.1 (bytesT xs k most).2.2 ∧ w.grownBy w' (some p) := by
  have hU := rInt_any w p L xs k most hmost h.byte h
  unfold bytesT
  generalize intT xs k most = T at *
  obtain ⟨m, rs, q⟩ := T
  simp only at hU ⊢
  have HU : Hid (Calls _ _ _ _ _) := hU
  clear hU h
  by_cases hq : q = 0
  · subst hq
    rw [if_pos rfl]
    by_cases hbad : rs.length < m
    · rw [if_pos hbad]
      go_enter Try.func50, Try.ntmps50
      go_wp2_with fail
      refine HU.out.mono ?_
      rintro e w1 ⟨rfl, hR1, hg1⟩
      clear HU
      have hR1' := hR1
      obtain ⟨ao, n, cap, hr⟩ := hR1'
      have hc0 := hr.c0
      have hc1 := hr.c1
      have hl := hr.sl.len
      have hlt : (n : Int) < (m : Int) := by omega
      clear hr hl hbad
      go_wp2_with fail
      refine (rFail_any _ p L rs 0 2 hR1).mono ?_
      rintro e w2 ⟨rfl, hR2, hg2⟩
      rw [if_pos rfl] at hR2
      have hc2 := hR2.kind
      have hg := grown_trans hg1 hg2
      clear hg1 hg2 hc1 hc0 hR1
      go_wp2_with fail
      go_ret
      exact ⟨none, 0, 0, rfl, Sl.nothing _, fun _ h => by simp at h, hR2, hg⟩
    · rw [if_neg hbad]
      go_enter Try.func50, Try.ntmps50
      go_wp2_with fail
      refine HU.out.mono ?_
      rintro e w1 ⟨rfl, hR1, hg1⟩
      clear HU
      obtain ⟨ao, n, cap, hr⟩ := hR1
      have hc0 := hr.c0
      have hc1 := hr.c1
      have hf0 := hr.f0
      have hl := hr.sl.len
      have hle := hr.sl.le
      have hmx := hr.sl.mx
      unfold maxLen at hmx
      have hmn : m ≤ n := by omega
      have hsl := hr.sl.take m hmn
      have HLO : Hid (∀ a, ao = some a → 0 < m → a.block < L) := fun a ha hp => hr.low a ha (by omega)
      clear hbad
      by_cases hcm : cap = m
      · subst hcm
        have hfin : R (w1.setCell ⟨p, 0, none⟩ (.slice ao 0 0)) p L (rs.drop cap) 0 := by
          have := hr.rest (hr.sl.dropAll hmn) (fun a ha hp => by omega) (by omega)
          rw [show n - cap = 0 from by omega] at this
          exact ⟨_, _, _, this⟩
        have hs := hsl.keep (fun a ha hp => hr.low a ha (by omega)) hr.le (grown_setCell w1 p 0 (.slice ao 0 0))
        have hg := grown_trans hg1 (grown_setCell w1 p 0 (.slice ao 0 0))
        clear hsl hg1
        go_wp2_with fail
        go_ret
        exact ⟨_, _, _, rfl, hs, HLO.out, hfin, hg⟩
      · have hfin : R (w1.setCell ⟨p, 0, none⟩ (.slice (ao.map (fun x => x.add m)) (n - m) (cap - m))) p L (rs.drop m) 0 :=
          ⟨_, _, _, hr.rest (hr.sl.drop m hmn) (low_drop hr.low (by omega)) (by omega)⟩
        have hs := hsl.keep (fun a ha hp => hr.low a ha (by omega)) hr.le (grown_setCell w1 p 0 (.slice (ao.map (fun x => x.add m)) (n - m) (cap - m)))
        have hg := grown_trans hg1 (grown_setCell w1 p 0 (.slice (ao.map (fun x => x.add m)) (n - m) (cap - m)))
        clear hsl hg1
        go_wp2_with fail
        go_ret
        exact ⟨_, _, _, rfl, hs, HLO.out, hfin, hg⟩
  · rw [if_neg hq]
    have hqb : (q != 0) = true := by simp [hq]
    have hqe : (q == 0) = false := by simp [hq]
    clear hq
    go_enter Try.func50, Try.ntmps50
    go_wp2_with fail
    refine HU.out.mono ?_
    rintro e w1 ⟨rfl, hR1, hg1⟩
    clear HU
    have hc1 := hR1.kind
    go_wp2_with fail
    go_ret
    exact ⟨none, 0, 0, rfl, Sl.nothing _, fun _ h => by simp at h, hR1, hg1⟩
end Go.Proofs.Ytbfcilfdeemnpaa

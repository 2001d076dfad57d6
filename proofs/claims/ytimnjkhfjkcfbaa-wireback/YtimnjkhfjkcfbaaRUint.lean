/-
  A contract: a reader's Uint.
-/
import Derived.Test.YtimnjkhfjkcfbaaMeth
namespace Go.Proofs.Ytimnjkhfjkcfbaa
open Go.RowKit

/-- What Uint tells, and the reader behind it. -/
def uintS (xs : List Int) (k : Int) : Nat × List Int × Int :=
  if k = 0 then (if (tk 0 0 xs).2.2 = 0 then ((tk 0 0 xs).1, xs.drop (tk 0 0 xs).2.1, 0) else (0, [], ((tk 0 0 xs).2.2 : Nat))) else (0, xs, k)

theorem uint_nil (w : World) : Calls Try.prog 7 #[.pointer none] w fun e w' => e = .returned (.int .u64 0) ∧ w' = w := by
  go_enter Try.func7, Try.ntmps7
  go_wp2_with (go_at_call 26; refine (failed_nil _).mono ?_; rintro e w' ⟨rfl, rfl⟩)
  go_ret
  exact ⟨rfl, rfl⟩

theorem uint_any (w : World) (p L : Nat) (xs : List Int) (k : Int) (h : R w p L xs k) : Calls Try.prog 7 #[.pointer (some ⟨p, 0, none⟩)] w fun e w' =>
    e = .returned (.int .u64 ((uintS xs k).1 : Nat)) ∧ R w' p L (uintS xs k).2.1 (uintS xs k).2.2 ∧ w.grownBy w' (some p) := by
  have hR := h
  obtain ⟨ao, n, cap, hr⟩ := h
  have h0 := hr.c0
  have h1 := hr.c1
  have f0 := hr.f0
  by_cases hk : k = 0
  · subst hk
    have ht := takeNumber_any w ao n cap xs hr.sl
    have hu := tk_used xs 0 0
    unfold uintS
    rw [if_pos rfl]
    have HT : Hid (Calls _ _ _ _ _) := ht
    clear ht
    generalize tk 0 0 xs = T at *
    obtain ⟨m, u, q⟩ := T
    simp only at hu HT ⊢
    by_cases hq : q = 0
    · subst hq
      have hu := hu rfl
      rw [if_pos rfl]
      have hl := hr.sl.len
      have hle := hr.sl.le
      have hmx := hr.sl.mx
      unfold maxLen at hmx
      go_enter Try.func7, Try.ntmps7
      go_wp2_with (first | (go_at_call 26; refine (failed_any _ p 0 h1).mono ?_; rintro e w' ⟨rfl, rfl⟩) | (go_at_call 27; refine HT.out.mono ?_; rintro e w' ⟨rfl, rfl⟩))
      · have hfin : R (w'.setCell ⟨p, 0, none⟩ (.slice ao (n - u) 0)) p L (xs.drop u) 0 := by
          have hcu : cap = u := by assumption
          subst hcu
          exact ⟨_, _, _, hr.rest (hr.sl.dropAll (by omega)) (fun a ha hp => by omega) (by omega)⟩
        go_ret
        exact ⟨rfl, hfin, grown_setCell _ _ _ _⟩
      · have hfin : R (w'.setCell ⟨p, 0, none⟩ (.slice (ao.map (fun x => x.add u)) (n - u) (cap - u))) p L (xs.drop u) 0 :=
          ⟨_, _, _, hr.rest (hr.sl.drop u (by omega)) (low_drop hr.low (by omega)) (by omega)⟩
        go_ret
        exact ⟨rfl, hfin, grown_setCell _ _ _ _⟩
    · rw [if_neg hq]
      have hqb : ((q : Int) != 0) = true := by simp; omega
      have hf := fail_any w p L xs q hR (by omega)
      have HF : Hid (Calls _ _ _ _ _) := hf
      clear hf hu hR hr
      go_enter Try.func7, Try.ntmps7
      go_wp2_with (first | (go_at_call 26; refine (failed_any _ p 0 h1).mono ?_; rintro e w' ⟨rfl, rfl⟩) | (go_at_call 27; refine HT.out.mono ?_; rintro e w' ⟨rfl, rfl⟩) | (go_at_call 16; refine HF.out.mono ?_; rintro e w2 ⟨rfl, hr2, hg2⟩))
      go_ret
      exact ⟨rfl, hr2, hg2⟩
  · have hb : (k != 0) = true := by simp [hk]
    have hs : uintS xs k = (0, xs, k) := by simp [uintS, hk]
    rw [hs]
    clear hr hk hs
    go_enter Try.func7, Try.ntmps7
    go_wp2_with (go_at_call 26; refine (failed_any _ p k h1).mono ?_; rintro e w' ⟨rfl, rfl⟩)
    go_ret
    exact ⟨rfl, hR, World.grownBy.refl _ _⟩
end Go.Proofs.Ytimnjkhfjkcfbaa

/-
  The walk of WireOne: for every bytes the statement's function answers true.
-/
import Derived.Test.YtmaoophlfpffbaaAlive
import Derived.Test.YtmaoophlfpffbaaRowIn
import Derived.Test.YtmaoophlfpffbaaLaws
namespace Go.Proofs.Ytmaoophlfpffbaa
open Go.RowKit

theorem one_facts (xs : List Int) (hb : Byt xs) (m : Nat) (rs : List Int) (k : Int) (h : uintS xs 0 = (m, rs, k)) :
    m < 18446744073709551616 ∧ (doneS rs k = 0 → xs = enc m) ∧ (doneS rs k ≠ 0 → m = 0 ∨ doneS rs k = 3) := by
  unfold uintS at h
  rw [if_pos rfl] at h
  have hlt := tk_lt xs 0 0 hb (by omega) (by decide)
  have hbk := fun m u => tk_back (xs := xs) (m := m) (u := u) hb
  generalize tk 0 0 xs = T at *
  obtain ⟨m', u, q⟩ := T
  simp only at h hlt
  by_cases hq : q = 0
  · rw [if_pos hq] at h
    subst hq
    obtain ⟨ht, _⟩ := hbk m' u rfl
    simp only [Prod.mk.injEq] at h
    obtain ⟨rfl, rfl, rfl⟩ := h
    refine ⟨hlt, fun hd => ?_, fun hd => ?_⟩
    · unfold doneS at hd
      rw [if_pos rfl] at hd
      by_cases he : xs.drop u = []
      · have := List.take_append_drop u xs
        rw [he, List.append_nil, ht] at this
        exact this.symm
      · rw [if_neg he] at hd
        omega
    · right
      unfold doneS at hd ⊢
      rw [if_pos rfl] at hd ⊢
      by_cases he : xs.drop u = []
      · rw [if_pos he] at hd
        omega
      · rw [if_neg he]
  · rw [if_neg hq] at h
    simp only [Prod.mk.injEq] at h
    obtain ⟨rfl, rfl, rfl⟩ := h
    refine ⟨by omega, fun hd => ?_, fun _ => .inl rfl⟩
    unfold doneS at hd
    rw [if_neg (by omega)] at hd
    omega

set_option maxHeartbeats 1000000 in
theorem wireOne_any (w : World) (ao : Option Addr) (n cap : Nat) (xs : List Int) (h : Sl w ao n cap xs) :
    Calls Try.prog 5 #[.slice ao n cap] w fun e w' => e = .returned (.bool true) ∧ Below w.heap.size w w' := by
  by_cases hn : 1000 < n
  · go_enter Try.func5, Try.ntmps5
    go_wp2_with fail
    refine (alive_any _).mono ?_
    rintro e w1 ⟨rfl, hb1⟩
    go_wp2_with fail
    go_ret
    exact ⟨rfl, hb1⟩
  · obtain ⟨T, hT⟩ : ∃ T, uintS xs 0 = T := ⟨_, rfl⟩
    obtain ⟨m, rs, k⟩ := T
    have HT : Hid (uintS xs 0 = (m, rs, k)) := hT
    clear hT
    have hf := one_facts xs h.byte m rs k HT.out
    have hn' : n ≤ 1000 := by omega
    clear hn
    go_enter Try.func5, Try.ntmps5
    go_wp2_with fail
    refine (read_any _ _ _ _ xs h (by omega)).mono ?_
    rintro e w1 ⟨p, rfl, hp, hR1, hb1⟩
    go_wp2_with fail
    refine (uint_any _ _ _ _ _ hR1).mono ?_
    rintro e w2 ⟨rfl, hR2, hg2⟩
    rw [HT.out] at hR2 ⊢
    have hb2 : Below w.heap.size w1 w2 := below_grown hg2 hb1.size hp
    have hB2 := hb1.trans hb2
    simp only at hR2 ⊢
    clear hR1
    go_wp2_with fail
    refine (done_any _ _ _ _ _ hR2).mono ?_
    rintro e w3 ⟨rfl, hw3⟩
    rw [hw3]
    have h2 := h.below hB2
    clear hw3 hR2 h hb1 hb2 hg2 HT
    generalize doneS rs k = d at hf ⊢
    obtain ⟨hm, hz, hnz⟩ := hf
    by_cases hd : d = 0
    · have hx := hz hd
      subst hx hd
      clear hz hnz
      go_wp2_with fail
      refine (wUint_any _ none 0 0 m [] (Sl.nothing _) (by decide) hm).mono ?_
      rintro e w4 ⟨v4, rfl, hown4, hb4⟩
      obtain ⟨o4, c4, rfl, s4, _⟩ := Sl.own hown4 (nil_byte.append (enc_byt hm))
      have h4 := h2.below hb4
      have hB4 := hB2.trans (hb4.mono hB2.size)
      simp only [Nat.zero_add, List.nil_append] at s4
      clear hown4 hb4 h2 hB2
      go_wp2_with fail
      refine (same_any _ _ _ _ _ _ _ _ _ s4 h4).mono ?_
      rintro e w5 ⟨rfl, q5, hw5⟩
      rw [show decide (enc m = enc m) = true from decide_eq_true rfl]
      have hB5 : Below w.heap.size w w5 := by rw [hw5]; exact hB4.trans (below_drewN _ _ _)
      clear hw5 s4 h4 hB4
      go_wp2_with fail
      refine (alive_any w5).mono ?_
      rintro e w6 ⟨rfl, hb6⟩
      have hB6 := hB5.trans (hb6.mono hB5.size)
      clear hB5 hb6
      go_wp2_with fail
      go_ret
      exact ⟨rfl, hB6⟩
    · have hdb : (d != 0) = true := by simp [hd]
      have hor := hnz hd
      clear hz hnz hd h2
      by_cases hm0 : m = 0
      · subst hm0
        clear hor
        go_wp2_with fail
        refine (alive_any w2).mono ?_
        rintro e w6 ⟨rfl, hb6⟩
        have hB6 := hB2.trans (hb6.mono hB2.size)
        clear hB2 hb6
        go_wp2_with fail
        go_ret
        exact ⟨rfl, hB6⟩
      · have hd3 : d = 3 := by omega
        subst hd3
        have hmb : ((m : Int) == 0) = false := by simp; omega
        clear hor hm0 hdb
        go_wp2_with fail
        refine (alive_any w2).mono ?_
        rintro e w6 ⟨rfl, hb6⟩
        have hB6 := hB2.trans (hb6.mono hB2.size)
        clear hB2 hb6
        go_wp2_with fail
        go_ret
        exact ⟨rfl, hB6⟩
end Go.Proofs.Ytmaoophlfpffbaa

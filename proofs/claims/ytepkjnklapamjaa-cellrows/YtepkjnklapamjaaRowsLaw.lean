/-
  CellRows.
-/
import Derived.Test.YtepkjnklapamjaaPRows
import Derived.Test.YtepkjnklapamjaaCAlive
namespace Go.Proofs.Ytepkjnklapamjaa
open Go.RowKit

set_option maxHeartbeats 4000000 in
set_option maxRecDepth 100000 in
theorem cellRows_any (w : World) (s t : ByteArray) (_hs : s.size ≤ maxLen) (_ht : t.size ≤ maxLen) :
    Calls Try.prog 5 #[.string s, .string t] w fun e w' => e = .returned (.bool true) ∧ Below w.heap.size w w' := by
  by_cases l1 : 200 < s.size
  · have i1 : (200 : Int) < (s.size : Int) := by omega
    go_enter Try.func5, Try.ntmps5
    go_wp2_with fail
    refine (alive_any _).mono ?_
    rintro e wz ⟨rfl, Bz⟩
    go_wp2
    go_ret
    exact ⟨rfl, Bz⟩
  have i1 : (s.size : Int) ≤ 200 := by omega
  by_cases l2 : 200 < t.size
  · have i2 : (200 : Int) < (t.size : Int) := by omega
    go_enter Try.func5, Try.ntmps5
    go_wp2_with fail
    refine (alive_any _).mono ?_
    rintro e wz ⟨rfl, Bz⟩
    go_wp2
    go_ret
    exact ⟨rfl, Bz⟩
  have i2 : (t.size : Int) ≤ 200 := by omega
  by_cases hb : 32 < s.size ∨ 32 < t.size
  · go_enter Try.func5, Try.ntmps5
    go_wp2_with fail
    refine (prows_bad _ s t hb).mono ?_
    rintro e w1 ⟨rfl, hw⟩
    obtain rfl := hw.symm
    go_wp2_with fail
    refine (rrows_bad _ s t hb).mono ?_
    rintro e w1 ⟨rfl, hw⟩
    obtain rfl := hw.symm
    go_wp2_with fail
    refine (rsame_below _ _ _ _ _ _ _ [] [] (Sl.nothing _) (Sl.nothing _)).mono ?_
    rintro e w3 ⟨rfl, B3⟩
    rw [decide_eq_true rfl]
    go_wp2_with fail
    refine (rsame_below _ _ _ _ _ _ _ [] [] (Sl.nothing _) (Sl.nothing _)).mono ?_
    rintro e w4 ⟨rfl, C4⟩
    have B4 := B3.trans (C4.mono B3.size)
    rw [decide_eq_true rfl]
    clear B3 C4
    go_wp2_with fail
    refine (alive_any _).mono ?_
    rintro e w5 ⟨rfl, C5⟩
    have B5 := B4.trans (C5.mono B4.size)
    go_wp2
    go_ret
    exact ⟨rfl, B5⟩
  · have h1 : s.size ≤ 32 := by omega
    have h2 : t.size ≤ 32 := by omega
    go_enter Try.func5, Try.ntmps5
    go_wp2_with fail
    refine (prows_any _ s t h1 h2).mono ?_
    rintro e w1 ⟨ao, n, c, bo, m, d, rfl, S1, S2, B1⟩
    go_wp2_with fail
    refine (rrows_any _ s t h1 h2).mono ?_
    rintro e w2 ⟨ao', n', c', bo', m', d', rfl, T1, T2, C2⟩
    have B2 := B1.trans (C2.mono B1.size)
    have U1 := S1.below C2
    have U2 := S2.below C2
    clear S1 S2 B1 C2
    go_wp2_with fail
    refine (rsame_below _ _ _ _ _ _ _ _ _ U1 T1).mono ?_
    rintro e w3 ⟨rfl, C3⟩
    have B3 := B2.trans (C3.mono B2.size)
    have V2 := U2.below C3
    have W2 := T2.below C3
    rw [decide_eq_true rfl]
    clear U1 U2 T1 T2 B2 C3
    go_wp2_with fail
    refine (rsame_below _ _ _ _ _ _ _ _ _ V2 W2).mono ?_
    rintro e w4 ⟨rfl, C4⟩
    have B4 := B3.trans (C4.mono B3.size)
    rw [decide_eq_true rfl]
    clear B3 C4 V2 W2
    go_wp2_with fail
    refine (alive_any _).mono ?_
    rintro e w5 ⟨rfl, C5⟩
    have B5 := B4.trans (C5.mono B4.size)
    go_wp2
    go_ret
    exact ⟨rfl, B5⟩
end Go.Proofs.Ytepkjnklapamjaa

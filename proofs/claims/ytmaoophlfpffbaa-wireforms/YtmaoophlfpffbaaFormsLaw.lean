/-
  The walk of WireForms: for every bytes, numbers and truths the statement's function answers true.
-/
import Derived.Test.YtmaoophlfpffbaaAlive
import Derived.Test.YtmaoophlfpffbaaRowIn
import Derived.Test.YtmaoophlfpffbaaRefForms
namespace Go.Proofs.Ytmaoophlfpffbaa
open Go.RowKit

set_option maxHeartbeats 1000000 in
theorem wireForms_any (w : World) (ao xo : Option Addr) (n cap m cap2 : Nat) (xs ys : List Int) (k : Nat) (b : Bool) (h : Sl w ao n cap xs) (h2 : Sl w xo m cap2 ys) (hk : k < 18446744073709551616) :
    Calls Try.prog 3 #[.slice ao n cap, .slice xo m cap2, .int .u64 k, .bool b] w fun e w' => e = .returned (.bool true) ∧ Below w.heap.size w w' := by
  by_cases hbig : 10000 < n ∨ 10000 < m
  · by_cases hn : 10000 < n
    all_goals
      go_enter Try.func3, Try.ntmps3
      go_wp2_with fail
      refine (alive_any _).mono ?_
      rintro e w1 ⟨rfl, hb1⟩
      go_wp2_with fail
      go_ret
      exact ⟨rfl, hb1⟩
  · have hn : n ≤ 10000 := by omega
    have hm : m ≤ 10000 := by omega
    clear hbig
    go_enter Try.func3, Try.ntmps3
    go_wp2_with fail
    refine (wUint_any _ _ _ _ k xs h (by omega) hk).mono ?_
    rintro e w1 ⟨v1, rfl, hown1, hb1⟩
    obtain ⟨o1, c1, rfl, s1, _⟩ := Sl.own hown1 (h.byte.append (enc_byt hk))
    have hA1 := h.below hb1
    have hX1 := h2.below hb1
    clear hown1 h h2
    go_wp2_with fail
    refine (rUint_any _ _ _ _ k xs hA1 (by omega) hk).mono ?_
    rintro e w2 ⟨v2, rfl, hown2, hb2⟩
    obtain ⟨o2, c2, rfl, s2, _⟩ := Sl.own hown2 (hA1.byte.append (enc_byt hk))
    have s12 := s1.below hb2
    have hA2 := hA1.below hb2
    have hX2 := hX1.below hb2
    have hB2 := hb1.trans (hb2.mono hb1.size)
    clear hown2 hA1 hX1 s1 hb1 hb2
    go_wp2_with fail
    refine (same_any _ _ _ _ _ _ _ _ _ s12 s2).mono ?_
    rintro e w3 ⟨rfl, q3, hw3⟩
    rw [show decide (xs ++ enc k = xs ++ enc k) = true from decide_eq_true rfl]
    have hb3 : Below w2.heap.size w2 w3 := by rw [hw3]; exact below_drewN _ _ _
    have hA3 := hA2.below hb3
    have hX3 := hX2.below hb3
    have hB3 := hB2.trans (hb3.mono hB2.size)
    clear hw3 hb3 s12 s2 hA2 hX2 hB2
    go_wp2_with fail
    refine (wBytes_any _ _ _ _ _ _ _ xs ys hA3 hX3 (by omega)).mono ?_
    rintro e w4 ⟨v4, rfl, hown4, hb4⟩
    obtain ⟨o4, c4, rfl, s4, _⟩ := Sl.own hown4 ((hA3.byte.append (enc_byt (by omega))).append hX3.byte)
    have hA4 := hA3.below hb4
    have hX4 := hX3.below hb4
    have hB4 := hB3.trans (hb4.mono hB3.size)
    clear hown4 hA3 hX3 hB3 hb4
    go_wp2_with fail
    refine (rBytes_any _ _ _ _ _ _ _ xs ys hA4 hX4 (by omega)).mono ?_
    rintro e w5 ⟨v5, rfl, hown5, hb5⟩
    obtain ⟨o5, c5, rfl, s5, _⟩ := Sl.own hown5 ((hA4.byte.append (enc_byt (by omega))).append hX4.byte)
    have s45 := s4.below hb5
    have hA5 := hA4.below hb5
    have hB5 := hB4.trans (hb5.mono hB4.size)
    clear hown5 hA4 hX4 s4 hB4 hb5
    go_wp2_with fail
    refine (same_any _ _ _ _ _ _ _ _ _ s45 s5).mono ?_
    rintro e w6 ⟨rfl, q6, hw6⟩
    rw [show decide (xs ++ enc m ++ ys = xs ++ enc m ++ ys) = true from decide_eq_true rfl]
    have hb6 : Below w5.heap.size w5 w6 := by rw [hw6]; exact below_drewN _ _ _
    have hA6 := hA5.below hb6
    have hB6 := hB5.trans (hb6.mono hB5.size)
    clear hw6 hb6 s45 s5 hA5 hB5
    go_wp2_with fail
    refine (wBool_any _ _ _ _ b xs hA6 (by omega)).mono ?_
    rintro e w7 ⟨v7, rfl, hown7, hb7⟩
    obtain ⟨o7, c7, rfl, s7, _⟩ := Sl.own hown7 (hA6.byte.append (enb_byte b))
    have hA7 := hA6.below hb7
    have hB7 := hB6.trans (hb7.mono hB6.size)
    clear hown7 hA6 hB6 hb7
    go_wp2_with fail
    refine (rBool_any _ _ _ _ b xs hA7 (by omega)).mono ?_
    rintro e w8 ⟨v8, rfl, hown8, hb8⟩
    obtain ⟨o8, c8, rfl, s8, _⟩ := Sl.own hown8 (hA7.byte.append (enb_byte b))
    have s78 := s7.below hb8
    have hB8 := hB7.trans (hb8.mono hB7.size)
    clear hown8 hA7 s7 hB7 hb8
    go_wp2_with fail
    refine (same_any _ _ _ _ _ _ _ _ _ s78 s8).mono ?_
    rintro e w9 ⟨rfl, q9, hw9⟩
    rw [show decide (xs ++ enb b = xs ++ enb b) = true from decide_eq_true rfl]
    have hB9 : Below w.heap.size w w9 := by rw [hw9]; exact hB8.trans (below_drewN _ _ _)
    clear hw9 s78 s8 hB8
    go_wp2_with fail
    refine (alive_any w9).mono ?_
    rintro e w10 ⟨rfl, hb10⟩
    have hB10 := hB9.trans (hb10.mono hB9.size)
    clear hB9 hb10
    go_wp2_with fail
    go_ret
    exact ⟨rfl, hB10⟩

end Go.Proofs.Ytmaoophlfpffbaa

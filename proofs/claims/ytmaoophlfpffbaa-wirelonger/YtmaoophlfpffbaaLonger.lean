/-
  The walk of WireLonger: for every two numbers the statement's function answers true.
-/
import Derived.Test.YtmaoophlfpffbaaAlive
import Derived.Test.YtmaoophlfpffbaaLaws
import Derived.Test.YtmaoophlfpffbaaTake2
namespace Go.Proofs.Ytmaoophlfpffbaa
open Go.RowKit

set_option maxHeartbeats 1000000 in
theorem wireLonger_any (w : World) (a b : Nat) (ha : a < 18446744073709551616) (hb : b < 18446744073709551616) :
    Calls Try.prog 8 #[.int .u64 a, .int .u64 b] w fun e w' => e = .returned (.bool true) ∧ Below w.heap.size w w' := by
  have hla := enc_length ha
  have hlb := enc_length hb
  go_enter Try.func8, Try.ntmps8
  go_wp2_with fail
  refine (wUint_any w none 0 0 a [] (Sl.nothing _) (by decide) ha).mono ?_
  rintro e w1 ⟨v1, rfl, hown1, hb1⟩
  obtain ⟨ao, ca, rfl, hsa, _⟩ := Sl.own hown1 (nil_byte.append (enc_byt ha))
  go_wp2_with fail
  refine (wUint_any w1 none 0 0 b [] (Sl.nothing _) (by decide) hb).mono ?_
  rintro e w2 ⟨v2, rfl, hown2, hb2⟩
  obtain ⟨bo, cb, rfl, hsb, _⟩ := Sl.own hown2 (nil_byte.append (enc_byt hb))
  have hsa2 := hsa.below hb2
  have hB2 := hb1.trans (hb2.mono hb1.size)
  simp only [Nat.zero_add, List.nil_append] at hsa2 hsb
  clear hown1 hown2 hb1 hb2 hsa
  have hmb := hsb.mx
  have hlb2 := hsb.le
  unfold maxLen at hmb
  by_cases hab : a = b
  · subst hab
    have hne : ((a : Int) != (a : Int)) = false := by simp
    have heq : ((a : Int) == (a : Int)) = true := by simp
    go_wp2_with fail
    refine (same_any _ _ _ _ _ _ _ (enc a) (enc a) hsa2 hsb).mono ?_
    rintro e w4 ⟨rfl, q4, hw4⟩
    rw [show decide (enc a = enc a) = true from decide_eq_true rfl]
    have hB4 : Below w.heap.size w w4 := by rw [hw4]; exact hB2.trans (below_drewN _ _ _)
    clear hw4 hsa2 hsb hB2
    go_wp2_with fail
    refine (alive_any w4).mono ?_
    rintro e w5 ⟨rfl, hb5⟩
    have hB5 := hB4.trans (hb5.mono hB4.size)
    clear hB4 hb5
    go_wp2_with fail
    go_ret
    exact ⟨rfl, hB5⟩
  · have hne : ((a : Int) != (b : Int)) = true := by simp; omega
    have heq : ((a : Int) == (b : Int)) = false := by simp; omega
    have hd0 : decide (enc a = enc b) = false := decide_eq_false (fun h => hab (enc_inj ha hb h))
    have hd1 : decide (enc a = (enc b).take (enc a).length) = false := decide_eq_false (fun h => hab (enc_prefix ha hb _ h))
    by_cases hlt : a < b
    · have hmo := enc_mono (Nat.le_of_lt hlt)
      have hsc := hsb.take (enc a).length hmo
      go_wp2_with fail
      refine (same_any _ _ _ _ _ _ _ (enc a) _ hsa2 hsc).mono ?_
      rintro e w3 ⟨rfl, q, hw3⟩
      rw [hd1]
      have hb3 : Below w2.heap.size w2 w3 := by rw [hw3]; exact below_drewN _ _ _
      have hB3 := hB2.trans (hb3.mono hB2.size)
      have hsa3 := hsa2.below hb3
      have hsb3 := hsb.below hb3
      clear hw3 hb3 hsa2 hsb hsc hB2
      go_wp2_with fail
      refine (same_any _ _ _ _ _ _ _ (enc a) (enc b) hsa3 hsb3).mono ?_
      rintro e w4 ⟨rfl, q4, hw4⟩
      rw [hd0]
      have hB4 : Below w.heap.size w w4 := by rw [hw4]; exact hB3.trans (below_drewN _ _ _)
      clear hw4 hd0 hd1
      go_wp2_with fail
      refine (alive_any w4).mono ?_
      rintro e w5 ⟨rfl, hb5⟩
      have hB5 := hB4.trans (hb5.mono hB4.size)
      clear hB4 hb5
      go_wp2_with fail
      go_ret
      exact ⟨rfl, hB5⟩
    · by_cases hmo : (enc a).length ≤ (enc b).length
      · have hsc := hsb.take (enc a).length hmo
        go_wp2_with fail
        refine (same_any _ _ _ _ _ _ _ (enc a) _ hsa2 hsc).mono ?_
        rintro e w3 ⟨rfl, q, hw3⟩
        rw [hd1]
        have hb3 : Below w2.heap.size w2 w3 := by rw [hw3]; exact below_drewN _ _ _
        have hB3 := hB2.trans (hb3.mono hB2.size)
        have hsa3 := hsa2.below hb3
        have hsb3 := hsb.below hb3
        clear hw3 hb3 hsa2 hsb hsc hB2
        go_wp2_with fail
        refine (same_any _ _ _ _ _ _ _ (enc a) (enc b) hsa3 hsb3).mono ?_
        rintro e w4 ⟨rfl, q4, hw4⟩
        rw [hd0]
        have hB4 : Below w.heap.size w w4 := by rw [hw4]; exact hB3.trans (below_drewN _ _ _)
        clear hw4 hd0 hd1
        go_wp2_with fail
        refine (alive_any w4).mono ?_
        rintro e w5 ⟨rfl, hb5⟩
        have hB5 := hB4.trans (hb5.mono hB4.size)
        clear hB4 hb5
        go_wp2_with fail
        go_ret
        exact ⟨rfl, hB5⟩
      · skip
        go_wp2_with fail
        refine (same_any _ _ _ _ _ _ _ (enc a) (enc b) hsa2 hsb).mono ?_
        rintro e w4 ⟨rfl, q4, hw4⟩
        rw [hd0]
        have hB4 : Below w.heap.size w w4 := by rw [hw4]; exact hB2.trans (below_drewN _ _ _)
        clear hw4 hd0 hd1
        go_wp2_with fail
        refine (alive_any w4).mono ?_
        rintro e w5 ⟨rfl, hb5⟩
        have hB5 := hB4.trans (hb5.mono hB4.size)
        clear hB4 hb5
        go_wp2_with fail
        go_ret
        exact ⟨rfl, hB5⟩
end Go.Proofs.Ytmaoophlfpffbaa

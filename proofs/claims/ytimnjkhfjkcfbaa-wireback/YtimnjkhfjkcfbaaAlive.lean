/-
  A contract: the statements' own look at the chapter's examples, alive, answers true.
-/
import Derived.Test.YtimnjkhfjkcfbaaRead
namespace Go.Proofs.Ytimnjkhfjkcfbaa
open Go.RowKit

theorem two_byte : Byt [172, 2] := by intro x hx; simp at hx; omega
theorem one_byte : Byt [0] := by intro x hx; simp at hx; omega
theorem nil_byte : Byt [] := by intro x hx; simp at hx
theorem enc_byt {n : Nat} (h : n < 18446744073709551616) : Byt (enc n) := enc_byte h

set_option maxHeartbeats 1000000 in
theorem alive_any (w : World) : Calls Try.prog 5 #[] w fun e w' => e = .returned (.bool true) ∧ Below w.heap.size w w' := by
  go_enter Try.func5, Try.ntmps5
  go_wp2_with fail
  refine (read_any _ _ _ _ [172, 2] (Sl.new w [172, 2] two_byte (by decide)) (by decide)).mono ?_
  rintro e w1 ⟨p, rfl, hp, hR, hb1⟩
  have hB1 : Below w.heap.size w w1 := ((Below.refl _ w).alloc (Nat.le_refl _) _).trans (hb1.mono (by simp))
  clear hb1
  go_wp2_with fail
  refine (wUint_any w1 none 0 0 300 [] (Sl.nothing _) (by decide) (by decide)).mono ?_
  rintro e w2 ⟨v2, rfl, hown2, hb2⟩
  obtain ⟨bo, c2, rfl, hsl2, hbo⟩ := Sl.own hown2 (nil_byte.append (enc_byt (by decide)))
  clear hown2 hbo
  have hR2 := hR.below hb2
  have hB2 := hB1.trans (hb2.mono hB1.size)
  clear hR hb2 hB1
  simp only [Nat.zero_add, List.nil_append] at hsl2
  have hA2 : Below w2.heap.size w2 (w2.alloc (.cells (bv [172, 2]).toArray 5)) := (Below.refl _ w2).alloc (Nat.le_refl _) _
  go_wp2_with fail
  refine (same_any _ _ _ _ _ _ _ (enc 300) [172, 2] (hsl2.below hA2) (Sl.new w2 [172, 2] two_byte (by decide))).mono ?_
  rintro e w3 ⟨rfl, q, hw3⟩
  rw [show decide (enc 300 = [172, 2]) = true from by decide]
  have hb3 : Below w2.heap.size w2 w3 := by rw [hw3]; exact hA2.trans (below_drewN _ _ _)
  have hR3 := hR2.below hb3
  have hB3 := hB2.trans (hb3.mono hB2.size)
  clear hw3 hA2 hb3 hR2 hB2 hsl2
  go_wp2_with fail
  refine (wUint_any w3 none 0 0 0 [] (Sl.nothing _) (by decide) (by decide)).mono ?_
  rintro e w4 ⟨v4, rfl, hown4, hb4⟩
  obtain ⟨bo4, c4, rfl, hsl4, hbo4⟩ := Sl.own hown4 (nil_byte.append (enc_byt (by decide)))
  clear hown4 hbo4
  have hR4 := hR3.below hb4
  have hB4 := hB3.trans (hb4.mono hB3.size)
  clear hR3 hb4 hB3
  simp only [Nat.zero_add, List.nil_append] at hsl4
  have hA4 : Below w4.heap.size w4 (w4.alloc (.cells (bv [0]).toArray 5)) := (Below.refl _ w4).alloc (Nat.le_refl _) _
  go_wp2_with fail
  refine (same_any _ _ _ _ _ _ _ (enc 0) [0] (hsl4.below hA4) (Sl.new w4 [0] one_byte (by decide))).mono ?_
  rintro e w5 ⟨rfl, q5, hw5⟩
  rw [show decide (enc 0 = [0]) = true from by decide]
  have hb5 : Below w4.heap.size w4 w5 := by rw [hw5]; exact hA4.trans (below_drewN _ _ _)
  have hR5 := hR4.below hb5
  have hB5 := hB4.trans (hb5.mono hB4.size)
  clear hw5 hA4 hb5 hR4 hB4 hsl4
  go_wp2_with fail
  refine (uint_any w5 p p [172, 2] 0 hR5).mono ?_
  rintro e w6 ⟨rfl, hR6, hg6⟩
  rw [show uintS [172, 2] 0 = (300, [], 0) from by decide] at hR6
  rw [show uintS [172, 2] 0 = (300, [], 0) from by decide]
  have hB6 := hB5.trans (below_grown hg6 hB5.size (by simp at hp; omega))
  clear hR5 hg6 hB5
  go_wp2_with fail
  refine (done_any w6 p p [] 0 hR6).mono ?_
  rintro e w7 ⟨rfl, rfl⟩
  rw [show doneS [] 0 = 0 from by decide]
  clear hR6
  go_wp2_with fail
  go_ret
  exact ⟨rfl, hB6⟩
end Go.Proofs.Ytimnjkhfjkcfbaa

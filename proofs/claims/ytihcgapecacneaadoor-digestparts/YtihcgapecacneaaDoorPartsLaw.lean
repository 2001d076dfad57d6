/-
  DigestParts: the digest of a word and parts.
-/
import Derived.Test.YtihcgapecacneaaDoorROf
import Derived.Test.YtihcgapecacneaaDoorSame
import Derived.Test.YtihcgapecacneaaDoorAbc
namespace Go.Proofs.YtihcgapecacneaaDoor
open Go.RowKit

set_option maxRecDepth 100000 in
set_option maxHeartbeats 2000000 in
theorem digestParts_any (w : World) (s : ByteArray) (ao : Option Addr) (n cap : Nat) (ps : List Part) (hs0 : s.size ≤ maxLen) (hP : PL w ao n cap ps) (hT : Tabs w) :
    Calls Tryd.prog 3 #[.string s, .slice ao n cap] w fun e w' => e = .returned (.bool true) ∧ Below w.heap.size w w' := by
  have h2 := hT.two
  unfold maxLen at hs0
  have hl := hP.len
  by_cases ha : 500 < s.size
  · have d1 : (500 : Int) < (s.size : Int) := by omega
    have d2 : decide ((500 : Int) < (s.size : Int)) = true := by simp; omega
    go_enter Tryd.func3, Tryd.ntmps3
    go_wp2_with (go_at_call 6; refine (alive_any _ hT).mono ?_; rintro e w3 ⟨rfl, B3⟩)
    go_ret
    exact ⟨rfl, B3⟩
  have a1' : (s.size : Int) ≤ 500 := by omega
  have a2' : decide ((500 : Int) < (s.size : Int)) = false := by simp; omega
  go_enter Tryd.func3, Tryd.ntmps3
  go_wp2_with fail
  refine (light_any w ao n cap ps hP).mono ?_
  rintro e w0 ⟨⟨b, rfl, hb1⟩, hw0⟩
  subst hw0
  cases b
  · go_wp2_with (go_at_call 6; refine (alive_any _ hT).mono ?_; rintro e w3 ⟨rfl, B3⟩)
    go_ret
    exact ⟨rfl, B3⟩
  obtain ⟨hn, hq0⟩ := hb1 rfl
  have hq : ∀ q ∈ ps, q.n ≤ 1000000 := fun q hq => by have := hq0 q hq; omega
  have hL : (formL (sb s) (pxs ps)).length ≤ 100000 := by
    have := formL_len s ps 200 (by omega) (by omega) (by omega) (fun q hq => by rw [(hP.sl q hq).len]; exact hq0 q hq)
    omega
  clear hb1 ha
  go_wp2_with (first
    | (go_at_call 8; refine (of_any w0 s ao n cap ps hP hT (by omega) (by omega) hq).mono ?_; rintro e w1 ⟨v1, rfl, own1, B1⟩; obtain ⟨mo, mc, rfl, M1, -⟩ := Sl.own own1 (sumL_byte _); have s1 := B1.size; clear own1)
    | (go_at_call 9; refine (rof_any w1 s ao n cap ps (hP.below B1) (by omega) (by omega) hq hL).mono ?_; rintro e w2 ⟨v2, rfl, own2, C2⟩; obtain ⟨no, nc, rfl, N2, -⟩ := Sl.own own2 (sumL_byte _); have B2 : Below w0.heap.size w0 w2 := B1.trans (C2.mono s1); have s2 := B2.size; have M2 := M1.below C2; clear own2 C2 M1 B1)
    | (go_at_call 7; refine (same_any _ _ _ _ _ _ _ _ _ M2 N2).mono ?_; rintro e w4 ⟨rfl, q4, rfl⟩; simp only [decide_true])
    | (go_at_call 6; refine (alive_any _ (hT.below (bel_drewN B2 q4) h2)).mono ?_; rintro e w5 ⟨rfl, C5⟩; have B5 : Below w0.heap.size w0 w5 := (bel_drewN B2 q4).trans (C5.mono s2)))
  go_ret
  exact ⟨rfl, B5⟩

end Go.Proofs.YtihcgapecacneaaDoor

/-
  SealKeys: a node's key, and which books can be.
-/
import Derived.Test.YtkncfjokkojfpaaDoorRNew
namespace Go.Proofs.YtkncfjokkojfpaaDoor
open Go.RowKit

set_option maxRecDepth 100000 in
set_option maxHeartbeats 2000000 in
theorem sealKeys_any (w : World) (real : Bool) (mo : Option Addr) (mn mc : Nat) (mst : List Int) (ao : Option Addr) (n cap : Nat) (ns : List Nat) (a : Int) (hM : Sl w mo mn mc mst) (hN : NL w ao n cap ns) (ha : (Lit.int .u64 a).wf = true) (hT : Tabs w) :
    Calls Tryd.prog 3 #[.bool real, .slice mo mn mc, .slice ao n cap, .int .u64 a] w fun e w' => e = .returned (.bool true) ∧ Below w.heap.size w w' := by
  have h2 := hT.two
  obtain ⟨node, rfl, hn⟩ := nat_of_u64 ha
  by_cases h1 : 200 < mn
  · have d1 : (200 : Int) < (mn : Int) := by omega
    have d2 : decide ((200 : Int) < (mn : Int)) = true := by simp; omega
    go_enter Tryd.func3, Tryd.ntmps3
    go_wp2_with (go_at_call 9; refine (alive_any _ hT).mono ?_; rintro e w3 ⟨rfl, B3⟩)
    go_ret
    exact ⟨rfl, B3⟩
  have x1 : (mn : Int) ≤ 200 := by omega
  have x2 : decide ((200 : Int) < (mn : Int)) = false := by simp; omega
  by_cases h3 : 200 < n
  · have d1 : (200 : Int) < (n : Int) := by omega
    have d2 : decide ((200 : Int) < (n : Int)) = true := by simp; omega
    go_enter Tryd.func3, Tryd.ntmps3
    go_wp2_with (go_at_call 9; refine (alive_any _ hT).mono ?_; rintro e w3 ⟨rfl, B3⟩)
    go_ret
    exact ⟨rfl, B3⟩
  have y1 : (n : Int) ≤ 200 := by omega
  have y2 : decide ((200 : Int) < (n : Int)) = false := by simp; omega
  by_cases hbad : n = 0 ∨ 64 < n ∨ riseF 0 ns = false
  · go_enter Tryd.func3, Tryd.ntmps3
    go_wp2_with fail
    refine (new_bad w real mo mn mc ao n cap ns hN hbad).mono ?_
    rintro e w' ⟨rfl, hw⟩
    obtain rfl := hw.symm
    clear hw
    go_wp2_with fail
    refine (rnew_bad w real _ ao n cap ns hN hbad).mono ?_
    rintro e w' ⟨rfl, q, rfl⟩
    have B1 : Below w.heap.size w (w.drewN q) := bel_drewN (Below.refl _ w) q
    generalize w.drewN q = w1 at B1 ⊢
    have s1 := B1.size
    clear hbad
    go_wp2_with fail
    refine (skey_any w1 mo mn mc mst node (hT.below B1 h2) (hM.below B1) (by omega) hn).mono ?_
    rintro e w2 ⟨v2, rfl, own2, C2⟩
    obtain ⟨so, sc, rfl, S2, -⟩ := Sl.own own2 (sumL_byte _)
    have B2 : Below w.heap.size w w2 := B1.trans (C2.mono s1)
    have s2 := B2.size
    clear own2 C2
    go_wp2_with fail
    refine (rkey_any w2 mo mn mc mst node (hM.below B2) (by omega) hn).mono ?_
    rintro e w3 ⟨v3, rfl, own3, C3⟩
    obtain ⟨ro, rc, rfl, S3, -⟩ := Sl.own own3 (sumL_byte _)
    have B3 : Below w.heap.size w w3 := B2.trans (C3.mono s2)
    have s3 := B3.size
    have S2' := S2.below C3
    clear own3 C3 S2
    go_wp2_with fail
    refine (same_any _ _ _ _ _ _ _ _ _ S2' S3).mono ?_
    rintro e w4 ⟨rfl, q4, rfl⟩
    simp only [decide_true]
    have B4 := bel_drewN B3 q4
    have s4 := B4.size
    go_wp2_with fail
    refine (alive_any _ (hT.below B4 h2)).mono ?_
    rintro e w5 ⟨rfl, B5⟩
    go_wp2
    go_ret
    exact ⟨rfl, B4.trans (B5.mono s4)⟩
  · have hn0 : 0 < n := by omega
    have hr : riseF 0 ns = true := by
      cases e : riseF 0 ns with
      | true => rfl
      | false => exact absurd (.inr (.inr e)) hbad
    have hn64 : n ≤ 64 := by omega
    clear hbad
    go_enter Tryd.func3, Tryd.ntmps3
    go_wp2_with fail
    refine (new_good w real mo mn mc mst ao n cap ns hN hM (by omega) hT hn0 hn64 hr).mono ?_
    rintro e w0 ⟨p, mk, ms, nk, KF, rfl, P0⟩
    have B0 := P0.bel
    have s0 := B0.size
    clear P0
    go_wp2_with fail
    refine (rnew_good w0 real mo mn mc ao n cap ns (hN.below B0) hn0 hn64 hr).mono ?_
    rintro e w1 ⟨ra, rfl, C1⟩
    have B1 : Below w.heap.size w w1 := B0.trans (C1.mono s0)
    have s1 := B1.size
    clear C1 B0
    go_wp2_with fail
    refine (skey_any w1 mo mn mc mst node (hT.below B1 h2) (hM.below B1) (by omega) hn).mono ?_
    rintro e w2 ⟨v2, rfl, own2, C2⟩
    obtain ⟨so, sc, rfl, S2, -⟩ := Sl.own own2 (sumL_byte _)
    have B2 : Below w.heap.size w w2 := B1.trans (C2.mono s1)
    have s2 := B2.size
    clear own2 C2
    go_wp2_with fail
    refine (rkey_any w2 mo mn mc mst node (hM.below B2) (by omega) hn).mono ?_
    rintro e w3 ⟨v3, rfl, own3, C3⟩
    obtain ⟨ro, rc, rfl, S3, -⟩ := Sl.own own3 (sumL_byte _)
    have B3 : Below w.heap.size w w3 := B2.trans (C3.mono s2)
    have s3 := B3.size
    have S2' := S2.below C3
    clear own3 C3 S2
    go_wp2_with fail
    refine (same_any _ _ _ _ _ _ _ _ _ S2' S3).mono ?_
    rintro e w4 ⟨rfl, q4, rfl⟩
    simp only [decide_true]
    have B4 := bel_drewN B3 q4
    have s4 := B4.size
    go_wp2_with fail
    refine (alive_any _ (hT.below B4 h2)).mono ?_
    rintro e w5 ⟨rfl, B5⟩
    go_wp2
    go_ret
    exact ⟨rfl, B4.trans (B5.mono s4)⟩

end Go.Proofs.YtkncfjokkojfpaaDoor

/-
  SealNils: what a nil book says.
-/
import Derived.Test.YtkncfjokkojfpaaDoorSAlive
namespace Go.Proofs.YtkncfjokkojfpaaDoor
open Go.RowKit

theorem nat_of_u64 {a : Int} (h : (Lit.int .u64 a).wf = true) : ∃ n : Nat, a = (n : Int) ∧ n < 18446744073709551616 := by
  simp [Lit.wf, IntKind.min, IntKind.max, IntKind.signed, IntKind.bits] at h
  obtain ⟨n, rfl⟩ := Int.eq_ofNat_of_zero_le h.1
  exact ⟨n, rfl, by omega⟩

set_option maxRecDepth 100000 in
set_option maxHeartbeats 2000000 in
theorem sealNils_any (w : World) (a : Int) (bo : Option Addr) (bn bc : Nat) (body : List Int) (to : Option Addr) (tn tc : Nat) (tag : List Int) (ha : (Lit.int .u64 a).wf = true) (hB : Sl w bo bn bc body) (hG : Sl w to tn tc tag) (hT : Tabs w) :
    Calls Tryd.prog 8 #[.int .u64 a, .slice bo bn bc, .slice to tn tc] w fun e w' => e = .returned (.bool true) ∧ Below w.heap.size w w' := by
  have h2 := hT.two
  obtain ⟨node, rfl, hn⟩ := nat_of_u64 ha
  have hbl := hB.len
  have htl := hG.len
  by_cases h1 : 500 < bn
  · have d1 : (500 : Int) < (bn : Int) := by omega
    have d2 : decide ((500 : Int) < (bn : Int)) = true := by simp; omega
    go_enter Tryd.func8, Tryd.ntmps8
    go_wp2_with (go_at_call 9; refine (alive_any _ hT).mono ?_; rintro e w3 ⟨rfl, B3⟩)
    go_ret
    exact ⟨rfl, B3⟩
  have a1' : (bn : Int) ≤ 500 := by omega
  have a2' : decide ((500 : Int) < (bn : Int)) = false := by simp; omega
  by_cases h3 : 500 < tn
  · have d1 : (500 : Int) < (tn : Int) := by omega
    have d2 : decide ((500 : Int) < (tn : Int)) = true := by simp; omega
    go_enter Tryd.func8, Tryd.ntmps8
    go_wp2_with (go_at_call 9; refine (alive_any _ hT).mono ?_; rintro e w3 ⟨rfl, B3⟩)
    go_ret
    exact ⟨rfl, B3⟩
  have b1' : (tn : Int) ≤ 500 := by omega
  have b2' : decide ((500 : Int) < (tn : Int)) = false := by simp; omega
  go_enter Tryd.func8, Tryd.ntmps8
  go_wp2_with fail
  refine (tag_nil w node _).mono ?_
  rintro e w' ⟨rfl, hw⟩
  obtain rfl := hw.symm
  clear hw
  go_wp2_with fail
  refine (check_nil w node _ _).mono ?_
  rintro e w' ⟨rfl, hw⟩
  obtain rfl := hw.symm
  clear hw
  go_wp2_with fail
  refine (said_nil w node _).mono ?_
  rintro e w' ⟨rfl, hw⟩
  obtain rfl := hw.symm
  clear hw
  go_wp2_with fail
  refine (forged_nil w node _ _).mono ?_
  rintro e w' ⟨rfl, hw⟩
  obtain rfl := hw.symm
  clear hw
  go_wp2_with fail
  refine (many_nil w).mono ?_
  rintro e w' ⟨rfl, hw⟩
  obtain rfl := hw.symm
  clear hw
  go_wp2_with fail
  refine (sum_any w bo bn bc body hT hB).mono ?_
  rintro e w1 ⟨v, rfl, own1, B1⟩
  obtain ⟨g, c, rfl, -, -⟩ := own1.form (by omega)
  have s1 := B1.size
  go_wp2_with fail
  refine (alive_any _ (hT.below B1 h2)).mono ?_
  rintro e w3 ⟨rfl, B3⟩
  go_wp2
  go_ret
  exact ⟨rfl, B1.trans (B3.mono s1)⟩

end Go.Proofs.YtkncfjokkojfpaaDoor

/-
  Check and Forged of whatever is asked.
-/
import Derived.Test.YtkncfjokkojfpaaDoorSCheck
namespace Go.Proofs.YtkncfjokkojfpaaDoor
open Go.RowKit

/-- Was it said? -/
def saB (SF : Value → Option Value) (real : Bool) (node : Nat) (body : List Int) : Bool := (SF (sv node (dgL real node body))).isSome
/-- Does it check? -/
def chB (SF : Value → Option Value) (real : Bool) (mst : List Int) (kn : Nat → Bool) (node : Nat) (body tag : List Int) : Bool :=
  kn node && ((real || saB SF real node body) && decide (tag = tgL real mst node body))

theorem check_any (w : World) (p mk ms : Nat) (real : Bool) (nk ns : Nat) (KF SF : Value → Option Value) (mst : List Int) (kn : Nat → Bool) (node : Nat) (bo : Option Addr) (bn bc : Nat) (body : List Int) (to : Option Addr) (tn tc : Nat) (tag : List Int) (h : BK w p mk ms real nk ns KF SF) (hK : KN w real mst kn KF) (hT : Tabs w) (hn : node < 18446744073709551616) (hB : Sl w bo bn bc body) (hb : bn ≤ 1000000) (hG : Sl w to tn tc tag) (hu : SU SF) :
    Calls Tryd.prog 20 #[.pointer (some ⟨p, 0, none⟩), .int .u64 node, .slice bo bn bc, .slice to tn tc] w fun e w' => e = .returned (.bool (chB SF real mst kn node body tag)) ∧ Below w.heap.size w w' := by
  have hks := hK.isSome hn
  unfold chB
  cases hk : kn node with
  | false =>
    refine (check_unknown w p mk ms real nk ns KF SF node _ _ h hn (hks.trans hk)).mono ?_
    rintro e w' ⟨rfl, rfl⟩
    exact ⟨rfl, Below.refl _ _⟩
  | true =>
    by_cases ht : tn = 32
    · subst ht
      refine (check_known w p mk ms real nk ns KF SF mst kn node bo bn bc body to tc tag h hK hT hn hk hB hb hG hu).mono ?_
      rintro e w' ⟨rfl, B⟩
      exact ⟨rfl, B⟩
    · refine (check_short w p mk ms real nk ns KF SF node _ to tn tc h hn (hks.trans hk) ht).mono ?_
      rintro e w' ⟨rfl, rfl⟩
      refine ⟨?_, Below.refl _ _⟩
      have : decide (tag = tgL real mst node body) = false := decide_eq_false fun e => ht (by rw [← hG.len, e]; exact tgL_len _ _ _ _)
      rw [this]
      simp

set_option maxHeartbeats 1000000 in
theorem forged_any (w : World) (p mk ms : Nat) (real : Bool) (nk ns : Nat) (KF SF : Value → Option Value) (mst : List Int) (kn : Nat → Bool) (node : Nat) (bo : Option Addr) (bn bc : Nat) (body : List Int) (to : Option Addr) (tn tc : Nat) (tag : List Int) (h : BK w p mk ms real nk ns KF SF) (hK : KN w real mst kn KF) (hT : Tabs w) (hn : node < 18446744073709551616) (hB : Sl w bo bn bc body) (hb : bn ≤ 1000000) (hG : Sl w to tn tc tag) (hu : SU SF) :
    Calls Tryd.prog 22 #[.pointer (some ⟨p, 0, none⟩), .int .u64 node, .slice bo bn bc, .slice to tn tc] w fun e w' => e = .returned (.bool (chB SF real mst kn node body tag && !saB SF real node body)) ∧ Below w.heap.size w w' := by
  obtain ⟨b, hbe⟩ : ∃ b, b = chB SF real mst kn node body tag := ⟨_, rfl⟩
  have HB : Hid (b = chB SF real mst kn node body tag) := hbe
  rw [← hbe]
  clear hbe
  obtain ⟨s, hse⟩ : ∃ s, s = saB SF real node body := ⟨_, rfl⟩
  have HSE : Hid (s = saB SF real node body) := hse
  rw [← hse]
  clear hse
  cases b with
  | false =>
    go_enter Tryd.func22, Tryd.ntmps22
    go_wp2_with (go_at_call 20; refine (check_any w p mk ms real nk ns KF SF mst kn node bo bn bc body to tn tc tag h hK hT hn hB hb hG hu).mono ?_; rintro e w1 ⟨rfl, B1⟩; rw [← HB.out])
    go_ret
    exact ⟨rfl, B1⟩
  | true =>
    go_enter Tryd.func22, Tryd.ntmps22
    go_wp2_with (first
      | (go_at_call 20; refine (check_any w p mk ms real nk ns KF SF mst kn node bo bn bc body to tn tc tag h hK hT hn hB hb hG hu).mono ?_; rintro e w1 ⟨rfl, B1⟩; rw [← HB.out]; have s1 := B1.size)
      | (go_at_call 21; refine (said_any w1 p mk ms real nk ns KF SF node bo bn bc body (h.below B1) (hT.below B1 hT.two) hn (hB.below B1) hb hu).mono ?_; rintro e w2 ⟨rfl, B2⟩; rw [show (SF (sv node (dgL real node body))).isSome = s from HSE.out.symm]))
    go_ret
    exact ⟨by simp, B1.trans (B2.mono s1)⟩

end Go.Proofs.YtkncfjokkojfpaaDoor

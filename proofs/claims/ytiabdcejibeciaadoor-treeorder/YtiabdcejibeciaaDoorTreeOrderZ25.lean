/-
  bytes.Equal.
-/
import Derived.Test.YtiabdcejibeciaaDoorTreeOrderZ23
namespace Go.Proofs.YtiabdcejibeciaaDoor
open Go.RowKit

theorem str_eq {xs ys : List Int} (hx : Byt xs) (hy : Byt ys) : strOfNums xs = strOfNums ys ↔ xs = ys := by
  constructor
  · intro h
    have := congrArg sb h
    rwa [sb_str hx, sb_str hy] at this
  · exact fun h => by rw [h]

set_option maxHeartbeats 400000 in
set_option maxRecDepth 100000 in
theorem bequal_any (w : World) (ao bo : Option Addr) (n cap m cap2 : Nat) (xs ys : List Int) (h : Sl w ao n cap xs) (h2 : Sl w bo m cap2 ys) (b : Bool) (hb : b = true ↔ xs = ys) :
    Calls Tryd.prog 35 #[.slice ao n cap, .slice bo m cap2] w fun e w' => e = .returned (.bool b) ∧ w' = w := by
  have c1 := conv_str h
  have c2 := conv_str h2
  have hq : ((strOfNums xs).toList == (strOfNums ys).toList) = b := by
    rw [Bool.eq_iff_iff, hb, ← str_eq h.byte h2.byte, beq_iff_eq, ByteArray.toList_eq, ByteArray.toList_eq]
    exact ⟨fun e => ByteArray.ext (Array.toList_inj.1 e), fun e => by rw [e]⟩
  obtain ⟨s, hs⟩ : ∃ s, s = strOfNums xs := ⟨_, rfl⟩
  obtain ⟨t, ht⟩ : ∃ t, t = strOfNums ys := ⟨_, rfl⟩
  rw [← hs] at c1 hq
  rw [← ht] at c2 hq
  clear hs ht hb h h2
  go_enter Tryd.func35, Tryd.ntmps35
  go_wp2
  go_ret
  exact ⟨rfl, rfl⟩
theorem bequal_b (w : World) (ao bo : Option Addr) (n cap m cap2 : Nat) (xs ys : List Int) (h : Sl w ao n cap xs) (h2 : Sl w bo m cap2 ys) (b : Bool) (hb : b = true ↔ xs = ys) :
    Calls Tryd.prog 35 #[.slice ao n cap, .slice bo m cap2] w fun e w' => e = .returned (.bool b) ∧ Below w.heap.size w w' :=
  (bequal_any w ao bo n cap m cap2 xs ys h h2 b hb).mono fun _ _ ⟨he, hw⟩ => ⟨he, by rw [hw]; exact Below.refl _ _⟩
end Go.Proofs.YtiabdcejibeciaaDoor

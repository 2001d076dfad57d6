/-
  ref.Same, alive.
-/
import Derived.Test.YthghninlfkkahaaPBytes
import Derived.Test.YthghninlfkkahaaSame
namespace Go.Proofs.Ythghninlfkkahaa
open Go.RowKit

set_option maxHeartbeats 2000000 in
set_option maxRecDepth 100000 in
theorem rsame_any (w : World) (ao bo : Option Addr) (n cap m cap2 : Nat) (xs ys : List Int) (h : Sl w ao n cap xs) (h2 : Sl w bo m cap2 ys) :
    Calls Try.prog 10 #[.slice ao n cap, .slice bo m cap2] w fun e w' => e = .returned (.bool (decide (xs = ys))) ∧ ∃ q, w' = w.drewN q := by
  go_enter Try.func10, Try.ntmps10
  go_wp2_with fail
  refine (same_any w ao bo n cap m cap2 xs ys h h2).mono ?_
  rintro e w' ⟨rfl, q, hw⟩
  go_wp2
  go_ret
  exact ⟨rfl, q, rfl⟩

theorem rsame_below (w : World) (ao bo : Option Addr) (n cap m cap2 : Nat) (xs ys : List Int) (h : Sl w ao n cap xs) (h2 : Sl w bo m cap2 ys) :
    Calls Try.prog 10 #[.slice ao n cap, .slice bo m cap2] w fun e w' => e = .returned (.bool (decide (xs = ys))) ∧ Below w.heap.size w w' :=
  (rsame_any w ao bo n cap m cap2 xs ys h h2).mono fun e w' ⟨he, q, hw⟩ => ⟨he, by rw [hw]; exact belN (Below.refl _ _) q⟩

def liveK : KA := ⟨⟨#[97]⟩, ⟨#[98]⟩, ⟨#[]⟩, 0⟩

set_option maxHeartbeats 2000000 in
set_option maxRecDepth 100000 in
theorem alive_any (w : World) :
    Calls Try.prog 5 #[] w fun e w' => e = .returned (.bool true) ∧ Below w.heap.size w w' := by
  go_enter Try.func5, Try.ntmps5
  go_wp2_with fail
  refine (pbytes_any w liveK ⟨by decide, by decide, by decide, by decide⟩ (by decide)).mono ?_
  rintro e w1 ⟨ao, n, c, rfl, S1, B1⟩
  have hk : keyL liveK.kv = [97, 0, 1, 98, 0, 1, 0, 1, 255, 255, 255, 255, 255, 255, 255, 255] := by decide
  rw [hk] at S1
  clear hk
  have C1 : Below w1.heap.size w1 (w1.alloc (.cells (bv [97, 0, 1, 98, 0, 1, 0, 1, 255, 255, 255, 255, 255, 255, 255, 255]).toArray 5)) := (Below.refl _ w1).alloc (Nat.le_refl _) _
  have S2 := Sl.new w1 [97, 0, 1, 98, 0, 1, 0, 1, 255, 255, 255, 255, 255, 255, 255, 255] (by intro x hx; simp at hx; omega) (by decide)
  have S3 := S1.below C1
  have B2 : Below w.heap.size w (w1.alloc (.cells (bv [97, 0, 1, 98, 0, 1, 0, 1, 255, 255, 255, 255, 255, 255, 255, 255]).toArray 5)) := B1.trans (C1.mono B1.size)
  go_wp2_with fail
  refine (rsame_any _ ao _ n c 16 16 _ _ S3 S2).mono ?_
  rintro e w' ⟨rfl, q, hw⟩
  rw [decide_eq_true rfl]
  go_wp2
  go_ret
  exact ⟨rfl, belN B2 q⟩
end Go.Proofs.Ythghninlfkkahaa

/-
  The frame of slots, laid flat.
-/
import Derived.Test.YtdcebokfnbgkaaaDoorProg
import Derived.WalkKit
namespace Go.Proofs.YtdcebokfnbgkaaaDoor
open Go.RowKit
theorem FL : (∀ (a : Act) (i : Tmp) (v : Value), a.put (some i) v = { a with tmps := a.tmps.setIfInBounds i v }) ∧ (∀ (l : List Value) (i : Nat) (v : Value), l.toArray.setIfInBounds i v = (l.set i v).toArray) ∧ (∀ (x v : Value) (l : List Value), (x :: l).set 0 v = v :: l) ∧ (∀ (x v : Value) (l : List Value) (n : Nat), (x :: l).set (n + 1) v = x :: l.set n v) ∧ (∀ (a : Act) (v : Value), a.put none v = a) := ⟨fun _ _ _ => rfl, fun _ _ _ => List.setIfInBounds_toArray .., fun _ _ _ => rfl, fun _ _ _ _ => rfl, fun _ _ => rfl⟩
end Go.Proofs.YtdcebokfnbgkaaaDoor

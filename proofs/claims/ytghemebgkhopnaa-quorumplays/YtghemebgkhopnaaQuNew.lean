/-
  New: no votes.
-/
import Derived.Test.YtghemebgkhopnaaQuMem
import Derived.Test.YtghemebgkhopnaaQuNum
namespace Go.Proofs.Ytghemebgkhopnaa
open Go.RowKit

def noVotes : List VT := List.replicate 13 zVT
theorem new_bad (w : World) (f : Int) (h : okF f = false) : Calls Try.prog 18 #[.int .i64 f] w fun x w' => x = .returned (.tuple #[.pointer none, .int .i64 1]) ∧ w' = w := by
  have CB := canBe_any f w
  rw [h] at CB
  clear h
  go_enter Try.func18, Try.ntmps18
  go_wp2_with (go_at_call 32; refine CB.mono ?_; rintro e w' ⟨rfl, rfl⟩)
  go_ret2
  exact ⟨rfl, rfl⟩
theorem new_good (w : World) (f : Nat) (h1 : 1 ≤ f) (h4 : f ≤ 4) : Calls Try.prog 18 #[.int .i64 (f : Nat)] w fun x w' => ∃ p, x = .returned (.tuple #[.pointer (some ⟨p, 0, none⟩), .int .i64 0]) ∧ w.heap.size ≤ p ∧ QS w' p f noVotes ∧ Below w.heap.size w w' := by
  have CB := canBe_any f w
  rw [okF_t (by omega) (by omega)] at CB
  have HQ : ∀ W : World, W.heap[w.heap.size]? = some (.cells (.int .i64 f :: cellsV noVotes).toArray 66) → QS W w.heap.size f noVotes := fun W hW => ⟨hW, by simp [noVotes], h1, h4, fun v hv => by
    have := (List.mem_replicate.1 hv).2
    rw [this]
    exact zVT_ok, fun i hi _ => by
    have e : noVotes[i] = zVT := List.getElem_replicate _
    rw [e]
    rfl⟩
  go_enter Try.func18, Try.ntmps18
  go_wp2_with (go_at_call 32; refine CB.mono ?_; rintro e w' ⟨rfl, hw⟩; obtain rfl := hw.symm; clear hw)
  go_ret2
  exact ⟨_, rfl, Nat.le_refl _, HQ _ (heap_alloc_new w _), (Below.refl _ _).alloc (Nat.le_refl _) _⟩
end Go.Proofs.Ytghemebgkhopnaa

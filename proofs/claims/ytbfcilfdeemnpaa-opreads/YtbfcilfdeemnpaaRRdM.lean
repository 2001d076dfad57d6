/-
  What the reference has read: whole, and small where nothing was wrong.
-/
import Derived.Test.YtbfcilfdeemnpaaRTake
import Derived.Test.YtbfcilfdeemnpaaBackM
namespace Go.Proofs.Ytbfcilfdeemnpaa
open Go.RowKit

theorem rtake_leaf (w : World) (p L : Nat) (xs : List Int) (k : Int) (h : R w p L xs k) : Calls Try.prog 39 #[.pointer (some ⟨p, 0, none⟩), .int .i64 0] w (RTakePost w p L 0 xs k) :=
  rtake_gen 0 (by omega) w p L xs k h (fun h => absurd rfl h)
theorem rtake_any (w : World) (p L : Nat) (xs : List Int) (k : Int) (h : R w p L xs k) : Calls Try.prog 39 #[.pointer (some ⟨p, 0, none⟩), .int .i64 8] w (RTakePost w p L 8 xs k) :=
  rtake_gen 8 (by omega) w p L xs k h (fun _ V ys q hR => rtake_leaf V p L ys q hR)
theorem stopT_flat : ∀ (n : Nat) (xs : List Int) (k : Int), ∀ z ∈ (stopT (sR 0) n xs k).1, z.2 = 0
  | 0, _, _, z, hz => by simp [stopT] at hz
  | n + 1, xs, k, z, hz => by
    unfold stopT at hz
    by_cases hk : k = 0
    · rw [if_pos hk] at hz
      rcases List.mem_cons.1 hz with rfl | hz
      · have : (sR 0 xs k).1.2 ≤ 0 := intT_le 0 _ _
        omega
      · exact stopT_flat n _ _ z hz
    · rw [if_neg hk] at hz
      simp at hz
theorem rtake_op {w w' : World} {p L : Nat} {xs : List Int} {k : Int} {e : Ending} (h : RTakePost w p L 8 xs k e w') : ∃ v, e = .returned v ∧ OpRead L w.heap.size w' v (opR xs k).1 ∧ Left w p L (opR xs k).2 w' := by
  obtain ⟨o, l, e1, ok, OL, far, hs, hl, hle⟩ := h
  refine ⟨_, e1, ⟨o, l, rfl, ok, OL, far, ?_, ?_⟩, hle⟩
  · show (((sR 8 xs k).1.1, (stopT (sR 0) (sR 8 xs k).1.2 (sR 8 xs k).2.1 (sR 8 xs k).2.2).1.map Prod.fst) : OP) = _
    rw [← hl, ← hs, List.map_map]
    rfl
  · intro y hy
    have := stopT_flat (sR 8 xs k).1.2 (sR 8 xs k).2.1 (sR 8 xs k).2.2 (sn0 y) (by rw [← hl]; exact List.mem_map.2 ⟨y, hy, rfl⟩)
    exact this
/-- Where a reader is done, what it told is what was put. -/
theorem done_good {α : Type} {P : List Int → Rs α} {f : α → List Int} {ok : α → Prop} (h : Good P f ok) {t : Th α} (ht : Thr P t) {xs : List Int} (hb : Byt xs) (hd : doneS (t xs 0).2.1 (t xs 0).2.2 = 0) : ok (t xs 0).1 := by
  have h1 : rdT t (fun _ => 0) xs = .inr (t xs 0).1 := by
    unfold rdT
    rw [if_pos hd, if_pos rfl]
  rw [← rd_thr ht] at h1
  exact (rdAll_back h (fun _ => 0) hb h1).2.1
end Go.Proofs.Ytbfcilfdeemnpaa

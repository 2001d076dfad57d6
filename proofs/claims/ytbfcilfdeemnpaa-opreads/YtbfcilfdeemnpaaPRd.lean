/-
  What was read: the program's.
-/
import Derived.Test.YtbfcilfdeemnpaaPTake
import Derived.Test.YtbfcilfdeemnpaaMC
import Derived.Test.YtbfcilfdeemnpaaPReq
namespace Go.Proofs.Ytbfcilfdeemnpaa
open Go.RowKit

theorem ttake_leaf (w : World) (p L : Nat) (xs : List Int) (k : Int) (h : R w p L xs k) : Calls Try.prog 36 #[.pointer (some ⟨p, 0, none⟩), .int .i64 0] w (TakePost 0 w p L 0 xs k) :=
  ttake_gen 0 (by omega) w p L xs k h (fun h => absurd rfl h)
theorem ttake_any (w : World) (p L : Nat) (xs : List Int) (k : Int) (h : R w p L xs k) : Calls Try.prog 36 #[.pointer (some ⟨p, 0, none⟩), .int .i64 8] w (TakePost 0 w p L 8 xs k) :=
  ttake_gen 8 (by omega) w p L xs k h (fun _ V ys q hR => ttake_leaf V p L ys q hR)
theorem OWL.kept {w w' : World} {o : OA} {l : List OA} (h : OWL w 0 o.so o.sn o.sc l) (hk : ∀ x, (o.sblk x ∨ ∃ y ∈ l, y.blks x) → w'.heap[x]? = w.heap[x]?) : OWL w' 0 o.so o.sn o.sc l := by
  refine ⟨h.len, h.le, h.mx, h.nil, fun a ha i hi j v hv => ?_, fun y hy => ?_⟩
  · have hb : (a.add (i * 10 + j)).block = a.block := by unfold Addr.add; split <;> rfl
    rw [← h.cell a ha i hi j v hv]
    exact World.cell?_of_block (by rw [hb]; exact hk _ (.inl ⟨a, ha, by have := h.len; omega, rfl⟩))
  · have hy1 : OA.ok y w := h.ok y hy
    exact hy1.kept fun x hx => hk x (.inr ⟨y, hy, hx⟩)
theorem repT_flat : ∀ (n : Nat) (xs : List Int) (k : Int), ∀ z ∈ (repT (sT 0) n xs k).1, z.2 = 0
  | 0, _, _, z, hz => by simp [repT] at hz
  | n + 1, xs, k, z, hz => by
    rcases List.mem_cons.1 hz with rfl | hz
    · have : (sT 0 xs k).1.2 ≤ 0 := intS_le _ _ 0
      omega
    · exact repT_flat n _ _ z hz
/-- An operation that was read whole. -/
def OpRead (F s : Nat) (w' : World) (v : Value) (t : OP) : Prop :=
  ∃ (o : OA) (l : List OA), v = o.val ∧ o.ok w' ∧ OWL w' 0 o.so o.sn o.sc l ∧ (∀ x, (o.blks x ∨ o.sblk x ∨ ∃ y ∈ l, y.blks x) → x < F ∨ s ≤ x) ∧ t = (o.s, l.map OA.s) ∧ ∀ y ∈ l, y.sn = 0
theorem take_op {F : Nat} {w w' : World} {p L : Nat} {xs : List Int} {k : Int} {e : Ending} (h : TakePost F w p L 8 xs k e w') : ∃ v, e = .returned v ∧ OpRead F w.heap.size w' v (opTh xs k).1 ∧ Left w p L (opTh xs k).2 w' := by
  obtain ⟨o, l, e1, ok, OL, far, hs, hl, hle⟩ := h
  refine ⟨_, e1, ⟨o, l, rfl, ok, OL, far, ?_, ?_⟩, hle⟩
  · show (((sT 8 xs k).1.1, (repT (sT 0) (sT 8 xs k).1.2 (sT 8 xs k).2.1 (sT 8 xs k).2.2).1.map Prod.fst) : OP) = _
    rw [← hl, ← hs, List.map_map]
    rfl
  · intro y hy
    have := repT_flat (sT 8 xs k).1.2 (sT 8 xs k).2.1 (sT 8 xs k).2.2 (sn0 y) (by rw [← hl]; exact List.mem_map.2 ⟨y, hy, rfl⟩)
    exact this
theorem kind_read {o : OA} {l : List OA} (h : ∀ y ∈ l, y.sn = 0) : kindP (o.s, l.map OA.s) = kindO (rightO o.s (l.map sn0)) := by
  unfold kindP rightP kindO
  have e : (l.map OA.s).map (fun s => (s, 0)) = l.map sn0 := by
    rw [List.map_map]
    refine List.map_congr_left fun y hy => ?_
    show (y.s, 0) = (y.s, y.sn)
    rw [h y hy]
  rw [e]
theorem kindq_read {o : OA} {l : List OA} (cl st : Nat) (h : ∀ y ∈ l, y.sn = 0) : kindQ (cl, st, (o.s, l.map OA.s)) = kq cl st (rightO o.s (l.map sn0)) := by
  unfold kindQ kq
  simp only
  rw [kind_read h]
def or2 (a b : Int) : Int := if a = 0 then b else a
set_option maxRecDepth 100000 in
set_option maxHeartbeats 2000000 in
theorem por2_any (w : World) (g : Nat) (c0 c1 : Int) (hg : w.heap[g]? = some (.cells #[.int .i64 c0, .int .i64 c1] 33)) :
    Calls Try.prog 37 #[.slice (some ⟨g, 0, none⟩) 2 2] w fun e w' => e = .returned (.int .i64 (or2 c0 c1)) ∧ w' = w := by
  have q0 : w.cell? ⟨g, 0, none⟩ = some (.int .i64 c0) := cell_of_row w g 0 _ _ _ hg
  have q1 : w.cell? ⟨g, 1, none⟩ = some (.int .i64 c1) := cell_of_row w g 1 _ _ _ hg
  clear hg
  go_enter Try.func37, Try.ntmps37
  go_wp2_with fail
  go_loopw [5, 8] (fun _ i wr => wr = w ∧ ∃ j : Nat, i = .int .i64 j ∧ j ≤ 2 ∧ (0 < j → c0 = 0) ∧ (1 < j → c1 = 0)) (fun _ i _ => 2 - (intOf i).toNat)
  case atStart => exact ⟨rfl, 0, rfl, by omega, by omega, by omega⟩
  case round =>
    obtain ⟨rfl, j, rfl, hj, h1, h2⟩ := hrel
    obtain rfl | rfl | rfl : j = 0 ∨ j = 1 ∨ j = 2 := by omega
    · by_cases z : c0 = 0
      · subst z
        clear h1 h2
        go_wp2
        go_roundw
        case rel => exact ⟨trivial, 1, rfl, by omega, fun _ => trivial, by omega⟩
        case measure => simp [intOf]
      · have zb : (c0 != 0) = true := by simp [z]
        have zc : (c0 == 0) = false := by simp [z]
        have hv : Hid (or2 c0 c1 = c0) := if_neg z
        clear h1 h2 z
        go_wp2
        go_ret
        exact ⟨by rw [hv.out] <;> rfl, rfl⟩
    · obtain rfl := h1 (by omega)
      by_cases z : c1 = 0
      · subst z
        clear h1 h2
        go_wp2
        go_roundw
        case rel => exact ⟨trivial, 2, rfl, by omega, fun _ => trivial, fun _ => trivial⟩
        case measure => simp [intOf]
      · have zb : (c1 != 0) = true := by simp [z]
        have zc : (c1 == 0) = false := by simp [z]
        have hv : Hid (or2 0 c1 = c1) := if_pos rfl
        clear h1 h2 z
        go_wp2
        go_ret
        exact ⟨by rw [hv.out] <;> rfl, rfl⟩
    · obtain rfl := h1 (by omega)
      obtain rfl := h2 (by omega)
      clear h1 h2
      go_wp2
      go_ret
      exact ⟨rfl, rfl⟩
end Go.Proofs.Ytbfcilfdeemnpaa

/-
  The reference's Right (any operation that is small), Bytes.
-/
import Derived.Test.YthlpccajnmkbjaaGreatDoorY44
namespace Go.Proofs.YthlpccajnmkbjaaGreatDoor
open Go.RowKit

theorem rright_leaf : ∀ (d : Nat) (w : World) (o : OA) (l : List (OD d)), OW w (d + 1) (o, l) → lightD (d + 1) (o, l) = true → 1 ≤ o.kind → o.kind ≤ 4 →
    Calls Tryz.prog 38 #[o.val] w fun e w' => e = .returned (.int .i64 (kindO (leaf o.s o.sn))) ∧ Below w.heap.size w w'
  | 0, w, o, l, h, hl, h1, h4 => by
    have := rright_step 0 w o l h hl (fun V y hy => by
      have := List.all_eq_true.1 (Bool.and_eq_true_iff.1 hl).2 y hy
      simp [lightD] at this)
    rw [right_not6 (by omega), List.length_map, show l.length = o.sn from h.2.1] at this
    exact this
  | d + 1, w, o, l, h, hl, h1, h4 => by
    have := rright_step (d + 1) w o l h hl (fun V y hy wy a1 a2 => rright_leaf d V y.1 y.2 wy (List.all_eq_true.1 (Bool.and_eq_true_iff.1 hl).2 y hy) a1 a2)
    rw [right_not6 (by omega), List.length_map, show l.length = o.sn from h.2.1] at this
    exact this
/-- The reference's Right, of an operation that is small. -/
theorem rright6 : ∀ (d : Nat) (w : World) (o : OA) (l : List (OD d)), OW w (d + 1) (o, l) → lightD (d + 1) (o, l) = true →
    Calls Tryz.prog 38 #[o.val] w fun e w' => e = .returned (.int .i64 (kindO (rightO o.s (l.map (snD d))))) ∧ Below w.heap.size w w'
  | 0, w, o, l, h, hl => rright_step 0 w o l h hl (fun V y hy => by
      have := List.all_eq_true.1 (Bool.and_eq_true_iff.1 hl).2 y hy
      simp [lightD] at this)
  | d + 1, w, o, l, h, hl => rright_step (d + 1) w o l h hl (fun V y hy wy a1 a2 => rright_leaf d V y.1 y.2 wy (List.all_eq_true.1 (Bool.and_eq_true_iff.1 hl).2 y hy) a1 a2)
end Go.Proofs.YthlpccajnmkbjaaGreatDoor

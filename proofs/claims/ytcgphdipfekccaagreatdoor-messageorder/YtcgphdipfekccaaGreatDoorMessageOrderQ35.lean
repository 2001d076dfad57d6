/-
  Texts in one: SameT, CRight.
-/
import Derived.Test.YtcgphdipfekccaaGreatDoorMessageOrderQ1
namespace Go.Proofs.YtcgphdipfekccaaGreatDoor
open Go.RowKit
theorem same_true (w : World) (ao bo : Option Addr) (n cap m cap2 : Nat) (xs : List Int) (h : Sl w ao n cap xs) (h2 : Sl w bo m cap2 xs) :
    Calls Tryz.prog 8 #[.slice ao n cap, .slice bo m cap2] w fun e w' => e = .returned (.bool true) ∧ Below w.heap.size w w' := by
  refine (same_any w ao bo n cap m cap2 xs xs h h2).mono ?_
  rintro e w' ⟨rfl, q, rfl⟩
  exact ⟨by simp, ⟨rfl, rfl, rfl, Nat.le_refl _, fun _ _ => rfl⟩⟩
open Go.RowKit
set_option maxRecDepth 100000 in
set_option maxHeartbeats 2000000 in
theorem rright_any (w : World) (k : KA) :
    Calls Tryz.prog 33 #[k.val] w fun e w' => e = .returned (.int .i64 k.kind) ∧ Below w.heap.size w w' := by
  have B : Below w.heap.size w (w.alloc (Obj.cells #[.string k.row, .string k.fam, .string k.qual, .int .u64 k.time] 27)) := (Below.refl _ w).alloc (Nat.le_refl _) _
  have no : ∀ (_ : ¬ (1 ≤ k.row.size ∧ k.row.size ≤ 32 ∧ 1 ≤ k.fam.size ∧ k.fam.size ≤ 32 ∧ k.qual.size ≤ 32)), Hid (k.kind = 5) := fun h => by
    show _ = _
    unfold KA.kind KA.isRight
    rw [decide_eq_false h]
    rfl
  unfold KA.val
  by_cases r0 : k.row.size < 1
  · have i0 : (k.row.size : Int) < 1 := by omega
    have hv := no (by omega)
    clear no
    go_enter Tryz.func33, Tryz.ntmps33
    go_wp2
    go_ret
    exact ⟨by rw [hv.out] <;> rfl, B⟩
  have i0 : (1 : Int) ≤ (k.row.size : Int) := by omega
  by_cases r1 : 32 < k.row.size
  · have i1 : (32 : Int) < (k.row.size : Int) := by omega
    have hv := no (by omega)
    clear no
    go_enter Tryz.func33, Tryz.ntmps33
    go_wp2
    go_ret
    exact ⟨by rw [hv.out] <;> rfl, B⟩
  have i1 : (k.row.size : Int) ≤ 32 := by omega
  by_cases r2 : k.fam.size < 1
  · have i2 : (k.fam.size : Int) < 1 := by omega
    have hv := no (by omega)
    clear no
    go_enter Tryz.func33, Tryz.ntmps33
    go_wp2
    go_ret
    exact ⟨by rw [hv.out] <;> rfl, B⟩
  have i2 : (1 : Int) ≤ (k.fam.size : Int) := by omega
  by_cases r3 : 32 < k.fam.size
  · have i3 : (32 : Int) < (k.fam.size : Int) := by omega
    have hv := no (by omega)
    clear no
    go_enter Tryz.func33, Tryz.ntmps33
    go_wp2
    go_ret
    exact ⟨by rw [hv.out] <;> rfl, B⟩
  have i3 : (k.fam.size : Int) ≤ 32 := by omega
  by_cases r4 : 32 < k.qual.size
  · have i4 : (32 : Int) < (k.qual.size : Int) := by omega
    have hv := no (by omega)
    clear no
    go_enter Tryz.func33, Tryz.ntmps33
    go_wp2
    go_ret
    exact ⟨by rw [hv.out] <;> rfl, B⟩
  have i4 : (k.qual.size : Int) ≤ 32 := by omega
  have hv : Hid (k.kind = 0) := by
    show _ = _
    unfold KA.kind KA.isRight
    rw [decide_eq_true (by omega)]
    rfl
  clear no
  go_enter Tryz.func33, Tryz.ntmps33
  go_wp2
  go_ret
  exact ⟨by rw [hv.out] <;> rfl, B⟩
end Go.Proofs.YtcgphdipfekccaaGreatDoor

/-
  The reference's Right; Light.
-/
import Derived.Test.YtbfcilfdeemnpaaCKA
namespace Go.Proofs.Ytbfcilfdeemnpaa
open Go.RowKit

theorem toL_ne {s t : ByteArray} (h : s ≠ t) : (s.toList == t.toList) = false := by
  rw [beq_eq_false_iff_ne]
  intro e
  apply h
  rw [ByteArray.toList_eq, ByteArray.toList_eq] at e
  exact ByteArray.ext (Array.toList_inj.1 e)

/-- Is it right? -/
def KA.isRight (k : KA) : Bool := decide (1 ≤ k.row.size ∧ k.row.size ≤ 32 ∧ 1 ≤ k.fam.size ∧ k.fam.size ≤ 32 ∧ k.qual.size ≤ 32)
theorem KA.isRight_kv (k : KA) : k.isRight = decide k.kv.right := by
  unfold KA.isRight KV.right KA.kv
  simp only [sb_len]
def KA.kind (k : KA) : Int := if k.isRight then 0 else 5

set_option maxRecDepth 100000 in
set_option maxHeartbeats 2000000 in
theorem rright_any (w : World) (k : KA) :
    Calls Try.prog 62 #[k.val] w fun e w' => e = .returned (.int .i64 k.kind) ∧ Below w.heap.size w w' := by
  have B : Below w.heap.size w (w.alloc (Obj.cells #[.string k.row, .string k.fam, .string k.qual, .int .u64 k.time] 24)) := (Below.refl _ w).alloc (Nat.le_refl _) _
  have no : ∀ (_ : ¬ (1 ≤ k.row.size ∧ k.row.size ≤ 32 ∧ 1 ≤ k.fam.size ∧ k.fam.size ≤ 32 ∧ k.qual.size ≤ 32)), Hid (k.kind = 5) := fun h => by
    show _ = _
    unfold KA.kind KA.isRight
    rw [decide_eq_false h]
    rfl
  unfold KA.val
  by_cases r0 : k.row.size < 1
  · have i0 : (k.row.size : Int) < 1 := by omega
    have hv := no (by omega)
    clear no
    go_enter Try.func62, Try.ntmps62
    go_wp2
    go_ret
    exact ⟨by rw [hv.out] <;> rfl, B⟩
  have i0 : (1 : Int) ≤ (k.row.size : Int) := by omega
  by_cases r1 : 32 < k.row.size
  · have i1 : (32 : Int) < (k.row.size : Int) := by omega
    have hv := no (by omega)
    clear no
    go_enter Try.func62, Try.ntmps62
    go_wp2
    go_ret
    exact ⟨by rw [hv.out] <;> rfl, B⟩
  have i1 : (k.row.size : Int) ≤ 32 := by omega
  by_cases r2 : k.fam.size < 1
  · have i2 : (k.fam.size : Int) < 1 := by omega
    have hv := no (by omega)
    clear no
    go_enter Try.func62, Try.ntmps62
    go_wp2
    go_ret
    exact ⟨by rw [hv.out] <;> rfl, B⟩
  have i2 : (1 : Int) ≤ (k.fam.size : Int) := by omega
  by_cases r3 : 32 < k.fam.size
  · have i3 : (32 : Int) < (k.fam.size : Int) := by omega
    have hv := no (by omega)
    clear no
    go_enter Try.func62, Try.ntmps62
    go_wp2
    go_ret
    exact ⟨by rw [hv.out] <;> rfl, B⟩
  have i3 : (k.fam.size : Int) ≤ 32 := by omega
  by_cases r4 : 32 < k.qual.size
  · have i4 : (32 : Int) < (k.qual.size : Int) := by omega
    have hv := no (by omega)
    clear no
    go_enter Try.func62, Try.ntmps62
    go_wp2
    go_ret
    exact ⟨by rw [hv.out] <;> rfl, B⟩
  have i4 : (k.qual.size : Int) ≤ 32 := by omega
  have hv : Hid (k.kind = 0) := by
    show _ = _
    unfold KA.kind KA.isRight
    rw [decide_eq_true (by omega)]
    rfl
  clear no
  go_enter Try.func62, Try.ntmps62
  go_wp2
  go_ret
  exact ⟨by rw [hv.out] <;> rfl, B⟩

/-- Are two keys of one column? -/
def KA.col (a b : KA) : Bool := decide (a.row = b.row ∧ a.fam = b.fam ∧ a.qual = b.qual)
end Go.Proofs.Ytbfcilfdeemnpaa

/-
  CellReads.
-/
import Derived.Test.YthghninlfkkahaaCRead
import Derived.Test.YthghninlfkkahaaCAlive
namespace Go.Proofs.Ythghninlfkkahaa
open Go.RowKit

set_option maxHeartbeats 4000000 in
set_option maxRecDepth 100000 in
theorem cellReads_any (w : World) (ao : Option Addr) (n cap : Nat) (xs : List Int) (h : Sl w ao n cap xs) :
    Calls Try.prog 3 #[.slice ao n cap] w fun e w' => e = .returned (.bool true) ∧ Below w.heap.size w w' := by
  by_cases l : 1000 < n
  · have il : (1000 : Int) < (n : Int) := by omega
    go_enter Try.func3, Try.ntmps3
    go_wp2_with fail
    refine (alive_any _).mono ?_
    rintro e wz ⟨rfl, Bz⟩
    go_wp2
    go_ret
    exact ⟨rfl, Bz⟩
  have il : (n : Int) ≤ 1000 := by omega
  go_enter Try.func3, Try.ntmps3
  go_wp2_with fail
  refine (pread_any w ao n cap xs h (by omega)).mono ?_
  rintro e w1 ⟨P1, B1⟩
  have S1 := h.below B1
  cases hr : readL xs with
  | none =>
    rw [hr] at P1
    obtain rfl : e = .returned (.tuple #[.agg #[.string ⟨#[]⟩, .string ⟨#[]⟩, .string ⟨#[]⟩, .int .u64 0], .int .i64 5]) := P1
    have B2 := B1.alloc B1.size (.cells #[.string ⟨#[]⟩, .string ⟨#[]⟩, .string ⟨#[]⟩, .int .u64 0] 26)
    have C2 : Below w1.heap.size w1 (w1.alloc (.cells #[.string ⟨#[]⟩, .string ⟨#[]⟩, .string ⟨#[]⟩, .int .u64 0] 26)) := (Below.refl _ w1).alloc (Nat.le_refl _) _
    have S2 := S1.below C2
    have k2 : KC (w1.alloc (.cells #[.string ⟨#[]⟩, .string ⟨#[]⟩, .string ⟨#[]⟩, .int .u64 0] 26)) w1.heap.size zeroK := heap_alloc_new w1 _
    clear C2 S1 B1
    have HR : Hid (readL xs = none) := hr
    clear hr
    go_wp2_with fail
    refine (rread_any _ ao n cap xs S2 (by omega)).mono ?_
    rintro e w3 ⟨P3, C3⟩
    have k3 := k2.keep C3
    have lt := k3.lt
    have B3 := B2.trans (C3.mono B2.size)
    rw [HR.out] at P3
    obtain rfl : e = .returned (.tuple #[.agg #[.string ⟨#[]⟩, .string ⟨#[]⟩, .string ⟨#[]⟩, .int .u64 0], .int .i64 5]) := P3
    have q0 : w3.cell? ⟨w1.heap.size, 0, none⟩ = some (.string ⟨#[]⟩) := k3.c0
    have q1 : w3.cell? ⟨w1.heap.size, 1, none⟩ = some (.string ⟨#[]⟩) := k3.c1
    have q2 : w3.cell? ⟨w1.heap.size, 2, none⟩ = some (.string ⟨#[]⟩) := k3.c2
    have q3 : w3.cell? ⟨w1.heap.size, 3, none⟩ = some (.int .u64 0) := k3.c3
    have B4 := B3.alloc B3.size (.cells #[.string ⟨#[]⟩, .string ⟨#[]⟩, .string ⟨#[]⟩, .int .u64 0] 26)
    clear k2 S2 B2 C3 HR
    go_wp2_with fail
    refine (alive_any _).mono ?_
    rintro e w5 ⟨rfl, C5⟩
    have B5 := B4.trans (C5.mono B4.size)
    go_wp2
    go_ret
    exact ⟨rfl, B5⟩
  | some kv =>
    rw [hr] at P1
    obtain ⟨k, rfl, hk, ok⟩ := P1
    unfold KA.val
    have B2 := B1.alloc B1.size (Obj.cells #[.string k.row, .string k.fam, .string k.qual, .int .u64 k.time] 26)
    have C2 : Below w1.heap.size w1 (w1.alloc (Obj.cells #[.string k.row, .string k.fam, .string k.qual, .int .u64 k.time] 26)) := (Below.refl _ w1).alloc (Nat.le_refl _) _
    have S2 := S1.below C2
    have k2 : KC (w1.alloc (Obj.cells #[.string k.row, .string k.fam, .string k.qual, .int .u64 k.time] 26)) w1.heap.size k := KC.new w1 k
    clear C2 S1 B1
    have HR : Hid (readL xs = some kv) := hr
    have HK : Hid (k.kv = kv) := hk
    clear hr hk
    go_wp2_with fail
    refine (rread_any _ ao n cap xs S2 (by omega)).mono ?_
    rintro e w3 ⟨P3, C3⟩
    have k3 := k2.keep C3
    have lt := k3.lt
    have B3 := B2.trans (C3.mono B2.size)
    rw [HR.out] at P3
    obtain ⟨k', rfl, hk', -⟩ := P3
    obtain rfl : k' = k := KA.kv_inj (hk'.trans HK.out.symm)
    unfold KA.val
    have q0 := k3.c0
    have q1 := k3.c1
    have q2 := k3.c2
    have q3 := k3.c3
    have B4 := B3.alloc B3.size (Obj.cells #[.string k'.row, .string k'.fam, .string k'.qual, .int .u64 k'.time] 26)
    clear k2 S2 B2 C3 HR HK hk'
    go_wp2_with fail
    refine (alive_any _).mono ?_
    rintro e w5 ⟨rfl, C5⟩
    have B5 := B4.trans (C5.mono B4.size)
    go_wp2
    go_ret
    exact ⟨rfl, B5⟩
end Go.Proofs.Ythghninlfkkahaa

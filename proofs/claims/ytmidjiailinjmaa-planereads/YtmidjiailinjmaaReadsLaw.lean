/-
  PlaneReads.
-/
import Derived.Test.YtmidjiailinjmaaLTold
import Derived.Test.YtmidjiailinjmaaRRead
namespace Go.Proofs.Ytmidjiailinjmaa
open Go.RowKit

theorem rdL_le {xs : List Int} {p : Nat × Nat} (h : rdL xs = some p) : p.1 ≤ 2097152 ∧ p.2 ≤ 2097152 := by
  unfold rdL at h
  split at h
  · next c =>
    obtain rfl := Option.some.inj h
    exact ⟨c.2.2.2.1, c.2.2.2.2⟩
  · simp at h

set_option maxHeartbeats 2000000 in
set_option maxRecDepth 100000 in
theorem planeReads_any (w : World) (row : ByteArray) (hrow : row.size ≤ maxLen) :
    Calls Try.prog 3 #[.string row] w fun e w' => e = .returned (.bool true) ∧ Below w.heap.size w w' := by
  unfold maxLen at hrow
  by_cases hl : row.size ≤ 1000
  · have hl2 : (row.size : Int) ≤ 1000 := by omega
    go_enter Try.func3, Try.ntmps3
    go_wp2_with fail
    refine (pread_any w row).mono ?_
    rintro e w1 ⟨P1, B1⟩
    cases hr : rdL (sb row) with
    | none =>
      rw [hr] at P1
      obtain rfl : e = .returned (.tuple #[.complex .f64 0 0, .int .i64 5]) := P1
      go_wp2_with fail
      refine (rread_any w1 row).mono ?_
      rintro e w2 ⟨P2, C⟩
      rw [hr] at P2
      obtain ⟨x, y, rfl⟩ := P2
      have B2 := B1.trans (C.mono B1.size)
      have B3 : Below w.heap.size w (w2.alloc (.cells #[.int .i64 x, .int .i64 y] 28)) := B2.alloc B2.size _
      have k3 : PC (w2.alloc (.cells #[.int .i64 x, .int .i64 y] 28)) w2.heap.size x y := heap_alloc_new w2 _
      have r0 := k3.c0
      have r1 := k3.c1
      clear C B1 B2 hr
      go_wp2_with fail
      refine (ltold_bad _ x y).mono ?_
      rintro e w4 ⟨rfl, C⟩
      have B4 := B3.trans (C.mono B3.size)
      clear C B3 k3 r0 r1
      go_wp2_with fail
      refine (alive_any w4).mono ?_
      rintro e w5 ⟨rfl, C⟩
      have B5 := B4.trans (C.mono B4.size)
      clear C B4
      go_wp2
      go_ret
      exact ⟨rfl, B5⟩
    | some p =>
      have hp := rdL_le hr
      rw [hr] at P1
      obtain rfl : e = .returned (.tuple #[.complex .f64 (fw ((p.1 : Int) - 1048576)) (fw ((p.2 : Int) - 1048576)), .int .i64 0]) := P1
      go_wp2_with fail
      refine (rread_any w1 row).mono ?_
      rintro e w2 ⟨P2, C⟩
      rw [hr] at P2
      obtain rfl : e = .returned (.tuple #[.agg #[.int .i64 ((p.1 : Int) - 1048576), .int .i64 ((p.2 : Int) - 1048576)], .bool true]) := P2
      obtain ⟨m, hm⟩ : ∃ m, m = (p.1 : Int) - 1048576 := ⟨_, rfl⟩
      obtain ⟨n, hn⟩ : ∃ n, n = (p.2 : Int) - 1048576 := ⟨_, rfl⟩
      have hm2 : m.natAbs < 9007199254740992 := by omega
      have hn2 : n.natAbs < 9007199254740992 := by omega
      rw [← hm, ← hn]
      clear hm hn hp
      have B2 := B1.trans (C.mono B1.size)
      have B3 : Below w.heap.size w (w2.alloc (.cells #[.int .i64 m, .int .i64 n] 28)) := B2.alloc B2.size _
      have k3 : PC (w2.alloc (.cells #[.int .i64 m, .int .i64 n] 28)) w2.heap.size m n := heap_alloc_new w2 _
      have r0 := k3.c0
      have r1 := k3.c1
      have L : Hid (∀ W, Calls Try.prog 7 #[.complex .f64 (fw m) (fw n), .int .i64 0, .agg #[.int .i64 m, .int .i64 n], .int .i64 0] W fun e w' => e = .returned (.bool true) ∧ Below W.heap.size W w') := fun W => ltold_ok W m n hm2 hn2
      clear C B1 B2 hr hm2 hn2
      go_wp2_with fail
      refine (L.out _).mono ?_
      rintro e w4 ⟨rfl, C⟩
      have B4 := B3.trans (C.mono B3.size)
      clear C B3 k3 r0 r1
      go_wp2_with fail
      refine (alive_any w4).mono ?_
      rintro e w5 ⟨rfl, C⟩
      have B5 := B4.trans (C.mono B4.size)
      clear C B4
      go_wp2
      go_ret
      exact ⟨rfl, B5⟩
  · have hl2 : ¬ (row.size : Int) ≤ 1000 := by omega
    go_enter Try.func3, Try.ntmps3
    go_wp2_with fail
    refine (alive_any w).mono ?_
    rintro e w5 ⟨rfl, C⟩
    go_wp2
    go_ret
    exact ⟨rfl, C⟩
end Go.Proofs.Ytmidjiailinjmaa

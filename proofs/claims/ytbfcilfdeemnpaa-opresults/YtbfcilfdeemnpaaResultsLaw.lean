/-
  OpResults.
-/
import Derived.Test.YtbfcilfdeemnpaaRResult
import Derived.Test.YtbfcilfdeemnpaaPBytes6
namespace Go.Proofs.Ytbfcilfdeemnpaa
open Go.RowKit

set_option maxRecDepth 100000 in
set_option maxHeartbeats 16000000 in
theorem opResults_any (w : World) (e : Int) (ao : Option Addr) (n cap : Nat) (l : List CA) (m : Bool) (_ : -9223372036854775808 ≤ e ∧ e ≤ 9223372036854775807) (L : CL w ao n cap l) (sm : ∀ c ∈ l, c.small) :
    Calls Try.prog 5 #[.agg #[.int .i64 e, .slice ao n cap, .bool m]] w fun e w' => e = .returned (.bool true) ∧ Below w.heap.size w w' := by
  have hl : l.length = n := L.len
  have B : Below w.heap.size w (w.alloc (Obj.cells #[.int .i64 e, .slice ao n cap, .bool m] 45)) := (Below.refl _ w).alloc (Nat.le_refl _) _
  have K : RC (w.alloc (Obj.cells #[.int .i64 e, .slice ao n cap, .bool m] 45)) w.heap.size e ao n cap m := heap_alloc_new w _
  have L1 := L.below B
  clear L
  by_cases c0 : 100 < n
  · have i0 : decide ((100 : Int) < (n : Int)) = true := by simp; omega
    clear L1 K sm hl c0
    go_enter Try.func5, Try.ntmps5
    go_wp2_with (go_at_call 10; refine (alive6 _).mono ?_; rintro e wz ⟨rfl, Cz⟩; have Bz := B.trans (Cz.mono B.size))
    go_ret
    exact ⟨rfl, Bz⟩
  have i0 : decide ((100 : Int) < (n : Int)) = false := by simp; omega
  have n100 : n ≤ 100 := by omega
  clear c0
  go_enter Try.func5, Try.ntmps5
  go_wp2_with fail
  obtain ⟨w1, hw1⟩ : ∃ W, W = w.alloc (Obj.cells #[.int .i64 e, .slice ao n cap, .bool m] 45) := ⟨_, rfl⟩
  obtain ⟨N, hN⟩ : ∃ N, N = w.heap.size := ⟨_, rfl⟩
  rw [← hw1] at B K L1 ⊢
  rw [← hN] at B K ⊢
  have HN : Hid (N = w.heap.size) := hN
  clear hw1 hN
  go_loopw [3, 4] (fun i _ wr => ∃ k : Nat, k ≤ n ∧ i = .int .i64 k ∧ Below N w wr ∧ Below w1.heap.size w1 wr) (fun i _ _ => n - (intOf i).toNat)
  case atStart => exact ⟨0, Nat.zero_le _, rfl, B, Below.refl _ _⟩
  case round =>
    clear B
    obtain ⟨k, hk, rfl, B, C1⟩ := hrel
    have K1 := K.keep C1
    clear K
    by_cases hlt : k < n
    · obtain ⟨b, off, rfl, hc⟩ := L1.at (by omega)
      have hkl : k < l.length := by omega
      have X := (hc k hkl).below C1
      have i6 : (k : Int) < (n : Int) := by omega
      have hsm := sm _ (List.getElem_mem hkl)
      obtain ⟨c, hx⟩ : ∃ c : CA, c = l[k] := ⟨_, rfl⟩
      rw [← hx] at X hsm
      clear hx hc sm
      have Bc : Below wr.heap.size wr (wr.alloc (Obj.cells #[.string c.row, .string c.fam, .string c.qual, .int .u64 c.time, .slice c.va.ao c.va.n c.va.cap, .bool c.gone] 53)) := (Below.refl _ _).alloc (Nat.le_refl _) _
      have B2 := B.trans (Bc.mono (by have := B.size; have := HN.out; omega))
      have D2 := C1.trans (Bc.mono C1.size)
      obtain ⟨q0, q1, q2, q3, q4, q5⟩ := X
      obtain ⟨z0, z1, z2, z3⟩ := hsm
      have r1 := K1.c1
      by_cases cs : 1000 < c.row.size + c.fam.size + c.qual.size + c.va.n
      · have ic : decide ((1000 : Int) < (c.row.size : Int) + (c.fam.size : Int) + (c.qual.size : Int) + (c.va.n : Int)) = true := by simp; omega
        clear cs
        go_wp2_with (go_at_call 10; refine (alive6 _).mono ?_; rintro e wz ⟨rfl, Cz⟩; have Bz := B2.trans (Cz.mono (by have := B2.size; have := HN.out; omega)))
        go_ret
        exact ⟨rfl, by rw [← HN.out]; exact Bz⟩
      · have ic : decide ((1000 : Int) < (c.row.size : Int) + (c.fam.size : Int) + (c.qual.size : Int) + (c.va.n : Int)) = false := by simp; omega
        clear cs
        go_wp2
        go_roundw
        case rel => exact ⟨k + 1, by omega, by go_num, B2, D2⟩
        case measure => simp [intOf]; omega
    · have i6 : (n : Int) ≤ (k : Int) := by omega
      have L2 := L1.below C1
      have r0 := K1.c0
      have r1 := K1.c1
      have r2 := K1.c2
      go_wp2_with fail
      clear r0 r1 r2 L1 C1 sm
      refine (presult_any wr e ao n cap l m L2).mono ?_
      rintro x w3 ⟨⟨b3, m3, c3, rfl, S3⟩, C3⟩
      have K3 := K1.keep C3
      have B3 := B.trans (C3.mono (by have := B.size; have := HN.out; omega))
      have L3 := L2.below C3
      clear C3 K1 L2 B
      have r0 := K3.c0
      have r1 := K3.c1
      have r2 := K3.c2
      go_wp2_with fail
      clear r0 r1 r2 K3
      refine (rresult_any w3 e ao n cap l m L3).mono ?_
      rintro x w4 ⟨⟨b4, m4, c4, rfl, S4⟩, C4⟩
      have T4 := S3.below C4
      have B4 := B3.trans (C4.mono (by have := B3.size; have := HN.out; omega))
      obtain ⟨ys, hy⟩ : ∃ ys, ys = (if rightR (resR e l m) then putR (resR e l m) else []) := ⟨_, rfl⟩
      obtain ⟨kk, hkk⟩ : ∃ kk, kk = kindR (resR e l m) := ⟨_, rfl⟩
      rw [← hy] at S4 T4
      rw [← hkk]
      clear hy hkk C4 B3 L3 S3
      go_wp2_with fail
      refine (same_any w4 b3 b4 m3 c3 m4 c4 ys ys T4 S4).mono ?_
      rintro x w5 ⟨rfl, q, hw⟩
      rw [decide_eq_true rfl]
      have B5 : Below N w w5 := by rw [hw]; exact belN B4 q
      clear hw T4 S4
      go_wp2_with (go_at_call 10; refine (alive6 _).mono ?_; rintro e wz ⟨rfl, Cz⟩; have Bz := B5.trans (Cz.mono (by have := B5.size; have := HN.out; omega)))
      go_ret
      exact ⟨rfl, by rw [← HN.out]; exact Bz⟩
end Go.Proofs.Ytbfcilfdeemnpaa

/-
  Texts in one: MgFor.
-/
import Derived.Test.YtnbejckdhdbamaaGreatMessageRightQ38
namespace Go.Proofs.YtnbejckdhdbamaaGreat
open Go.RowKit
def isVal (k : Int) (h : HV) : Value :=
 if k = 1 then .agg #[.int .u64 0, .int .u64 0, .int .i64 0, .int .i64 1, .int .i64 0, .int .i64 0, .bool false]
 else if k = 2 then .agg #[.int .u64 (min (h.view : Int) 4611686018427387903), .int .u64 (min (h.seq : Int) 4611686018427387903), .int .i64 32, .int .i64 0, .int .i64 0, .int .i64 0, .bool false]
 else if k = 3 then .agg #[.int .u64 (min (h.view : Int) 4611686018427387903), .int .u64 (min (h.seq : Int) 4611686018427387903), .int .i64 32, .int .i64 0, .int .i64 0, .int .i64 0, .bool false]
 else if k = 4 then .agg #[.int .u64 (min (h.view : Int) 4611686018427387903), .int .u64 (min (h.seq : Int) 4611686018427387903), .int .i64 32, .int .i64 0, .int .i64 0, .int .i64 0, .bool false]
 else if k = 5 then .agg #[.int .u64 0, .int .u64 0, .int .i64 0, .int .i64 0, .int .i64 0, .int .i64 0, .bool true]
 else if k = 6 then .agg #[.int .u64 0, .int .u64 (min (h.seq : Int) 4611686018427387903), .int .i64 32, .int .i64 0, .int .i64 0, .int .i64 0, .bool false]
 else if k = 7 then .agg #[.int .u64 (min (h.view : Int) 4611686018427387903), .int .u64 (min (h.seq : Int) 4611686018427387903), .int .i64 0, .int .i64 0, .int .i64 (min (h.cert : Int) 16), .int .i64 (min (h.sets : Int) 16), .bool false]
 else if k = 8 then .agg #[.int .u64 (min (h.view : Int) 4611686018427387903), .int .u64 0, .int .i64 0, .int .i64 0, .int .i64 (min (h.cert : Int) 16), .int .i64 1, .bool false]
 else if k = 9 then .agg #[.int .u64 0, .int .u64 (min (h.seq : Int) 4611686018427387903), .int .i64 0, .int .i64 0, .int .i64 0, .int .i64 0, .bool false]
 else if k = 10 then .agg #[.int .u64 0, .int .u64 (min (h.seq : Int) 4611686018427387903), .int .i64 32, .int .i64 0, .int .i64 1, .int .i64 0, .bool false]
 else if k = 11 then .agg #[.int .u64 0, .int .u64 0, .int .i64 32, .int .i64 0, .int .i64 0, .int .i64 0, .bool false]
 else if k = 12 then .agg #[.int .u64 0, .int .u64 0, .int .i64 0, .int .i64 0, .int .i64 (min (h.cert : Int) 4), .int .i64 0, .bool false]
 else if k = 13 then .agg #[.int .u64 0, .int .u64 0, .int .i64 0, .int .i64 1, .int .i64 0, .int .i64 0, .bool false]
 else if k = 14 then .agg #[.int .u64 0, .int .u64 (min (h.seq : Int) 4611686018427387903), .int .i64 0, .int .i64 0, .int .i64 3, .int .i64 0, .bool false]
 else .agg #[.int .u64 0, .int .u64 0, .int .i64 0, .int .i64 0, .int .i64 0, .int .i64 0, .bool false]
set_option maxRecDepth 100000 in
set_option maxHeartbeats 8000000 in
theorem shapeFor_any (w : World) (k : Int) (h : HV) :
  Calls Tryz.prog 58 #[.int .i64 k, h.val] w fun e w' => e = .returned (.tuple #[isVal k h, .bool (decide (1 ≤ k ∧ k ≤ 14))]) ∧ Below w.heap.size w w' := by
 have B0 : Below w.heap.size w (w.alloc (.cells #[.int .u64 h.view, .int .u64 h.seq, .int .i64 h.sum, .int .i64 h.reqs, .int .i64 h.cert, .int .i64 h.sets, .bool h.rep] 104)) := (Below.refl _ w).alloc (Nat.le_refl _) _
 unfold HV.val
 by_cases hk : 1 ≤ k ∧ k ≤ 14
 ·have hd : Hid (decide (1 ≤ k ∧ k ≤ 14) = true) := decide_eq_true hk
  have hc : k = 1 ∨ k = 2 ∨ k = 3 ∨ k = 4 ∨ k = 5 ∨ k = 6 ∨ k = 7 ∨ k = 8 ∨ k = 9 ∨ k = 10 ∨ k = 11 ∨ k = 12 ∨ k = 13 ∨ k = 14 := by omega
  have HC : Hid (k = 1 ∨ k = 2 ∨ k = 3 ∨ k = 4 ∨ k = 5 ∨ k = 6 ∨ k = 7 ∨ k = 8 ∨ k = 9 ∨ k = 10 ∨ k = 11 ∨ k = 12 ∨ k = 13 ∨ k = 14) := hc
  clear hk hc
  go_enter Tryz.func58, Tryz.ntmps58
  go_wp2_with fail
  go_region
  rcases HC.out with rfl | rfl | rfl | rfl | rfl | rfl | rfl | rfl | rfl | rfl | rfl | rfl | rfl | rfl
  ·clear HC
   go_wp2_with fail
   refine bodyPost_ret (v := .tuple #[.agg #[.int .u64 0, .int .u64 0, .int .i64 0, .int .i64 1, .int .i64 0, .int .i64 0, .bool false], .bool true]) (by simp [results, Tryz.results58, go_sem]) rfl ?_
   exact ⟨by rw [hd.out] <;> rfl, (B0.alloc B0.size _).drew⟩
  ·clear HC
   go_wp2_with fail
   refine bodyPost_ret (v := .tuple #[.agg #[.int .u64 (min (h.view : Int) 4611686018427387903), .int .u64 (min (h.seq : Int) 4611686018427387903), .int .i64 32, .int .i64 0, .int .i64 0, .int .i64 0, .bool false], .bool true]) (by simp [results, Tryz.results58, go_sem]) rfl ?_
   exact ⟨by rw [hd.out] <;> rfl, (B0.alloc B0.size _).drew⟩
  ·clear HC
   go_wp2_with fail
   refine bodyPost_ret (v := .tuple #[.agg #[.int .u64 (min (h.view : Int) 4611686018427387903), .int .u64 (min (h.seq : Int) 4611686018427387903), .int .i64 32, .int .i64 0, .int .i64 0, .int .i64 0, .bool false], .bool true]) (by simp [results, Tryz.results58, go_sem]) rfl ?_
   exact ⟨by rw [hd.out] <;> rfl, (B0.alloc B0.size _).drew⟩
  ·clear HC
   go_wp2_with fail
   refine bodyPost_ret (v := .tuple #[.agg #[.int .u64 (min (h.view : Int) 4611686018427387903), .int .u64 (min (h.seq : Int) 4611686018427387903), .int .i64 32, .int .i64 0, .int .i64 0, .int .i64 0, .bool false], .bool true]) (by simp [results, Tryz.results58, go_sem]) rfl ?_
   exact ⟨by rw [hd.out] <;> rfl, (B0.alloc B0.size _).drew⟩
  ·clear HC
   go_wp2_with fail
   refine bodyPost_ret (v := .tuple #[.agg #[.int .u64 0, .int .u64 0, .int .i64 0, .int .i64 0, .int .i64 0, .int .i64 0, .bool true], .bool true]) (by simp [results, Tryz.results58, go_sem]) rfl ?_
   exact ⟨by rw [hd.out] <;> rfl, (B0.alloc B0.size _).drew⟩
  ·clear HC
   go_wp2_with fail
   refine bodyPost_ret (v := .tuple #[.agg #[.int .u64 0, .int .u64 (min (h.seq : Int) 4611686018427387903), .int .i64 32, .int .i64 0, .int .i64 0, .int .i64 0, .bool false], .bool true]) (by simp [results, Tryz.results58, go_sem]) rfl ?_
   exact ⟨by rw [hd.out] <;> rfl, (B0.alloc B0.size _).drew⟩
  ·clear HC
   go_wp2_with fail
   go_region
   go_wp2_with fail
   refine bodyPost_ret (v := .tuple #[.agg #[.int .u64 (min (h.view : Int) 4611686018427387903), .int .u64 (min (h.seq : Int) 4611686018427387903), .int .i64 0, .int .i64 0, .int .i64 (min (h.cert : Int) 16), .int .i64 (min (h.sets : Int) 16), .bool false], .bool true]) (by simp [results, Tryz.results58, go_sem]) rfl ?_
   exact ⟨by rw [hd.out] <;> rfl, ((B0.alloc B0.size _).drew).drew⟩
  ·clear HC
   go_wp2_with fail
   refine bodyPost_ret (v := .tuple #[.agg #[.int .u64 (min (h.view : Int) 4611686018427387903), .int .u64 0, .int .i64 0, .int .i64 0, .int .i64 (min (h.cert : Int) 16), .int .i64 1, .bool false], .bool true]) (by simp [results, Tryz.results58, go_sem]) rfl ?_
   exact ⟨by rw [hd.out] <;> rfl, (B0.alloc B0.size _).drew⟩
  ·clear HC
   go_wp2_with fail
   refine bodyPost_ret (v := .tuple #[.agg #[.int .u64 0, .int .u64 (min (h.seq : Int) 4611686018427387903), .int .i64 0, .int .i64 0, .int .i64 0, .int .i64 0, .bool false], .bool true]) (by simp [results, Tryz.results58, go_sem]) rfl ?_
   exact ⟨by rw [hd.out] <;> rfl, (B0.alloc B0.size _).drew⟩
  ·clear HC
   go_wp2_with fail
   refine bodyPost_ret (v := .tuple #[.agg #[.int .u64 0, .int .u64 (min (h.seq : Int) 4611686018427387903), .int .i64 32, .int .i64 0, .int .i64 1, .int .i64 0, .bool false], .bool true]) (by simp [results, Tryz.results58, go_sem]) rfl ?_
   exact ⟨by rw [hd.out] <;> rfl, (B0.alloc B0.size _).drew⟩
  ·clear HC
   go_wp2_with fail
   refine bodyPost_ret (v := .tuple #[.agg #[.int .u64 0, .int .u64 0, .int .i64 32, .int .i64 0, .int .i64 0, .int .i64 0, .bool false], .bool true]) (by simp [results, Tryz.results58, go_sem]) rfl ?_
   exact ⟨by rw [hd.out] <;> rfl, (B0.alloc B0.size _).drew⟩
  ·clear HC
   go_wp2_with fail
   refine bodyPost_ret (v := .tuple #[.agg #[.int .u64 0, .int .u64 0, .int .i64 0, .int .i64 0, .int .i64 (min (h.cert : Int) 4), .int .i64 0, .bool false], .bool true]) (by simp [results, Tryz.results58, go_sem]) rfl ?_
   exact ⟨by rw [hd.out] <;> rfl, (B0.alloc B0.size _).drew⟩
  ·clear HC
   go_wp2_with fail
   refine bodyPost_ret (v := .tuple #[.agg #[.int .u64 0, .int .u64 0, .int .i64 0, .int .i64 1, .int .i64 0, .int .i64 0, .bool false], .bool true]) (by simp [results, Tryz.results58, go_sem]) rfl ?_
   exact ⟨by rw [hd.out] <;> rfl, (B0.alloc B0.size _).drew⟩
  ·clear HC
   go_wp2_with fail
   refine bodyPost_ret (v := .tuple #[.agg #[.int .u64 0, .int .u64 (min (h.seq : Int) 4611686018427387903), .int .i64 0, .int .i64 0, .int .i64 3, .int .i64 0, .bool false], .bool true]) (by simp [results, Tryz.results58, go_sem]) rfl ?_
   exact ⟨by rw [hd.out] <;> rfl, (B0.alloc B0.size _).drew⟩
 have t1 : (k == 1) = false := by simp; omega
 have t2 : (k == 2) = false := by simp; omega
 have t3 : (k == 3) = false := by simp; omega
 have t4 : (k == 4) = false := by simp; omega
 have t5 : (k == 5) = false := by simp; omega
 have t6 : (k == 6) = false := by simp; omega
 have t7 : (k == 7) = false := by simp; omega
 have t8 : (k == 8) = false := by simp; omega
 have t9 : (k == 9) = false := by simp; omega
 have t10 : (k == 10) = false := by simp; omega
 have t11 : (k == 11) = false := by simp; omega
 have t12 : (k == 12) = false := by simp; omega
 have t13 : (k == 13) = false := by simp; omega
 have t14 : (k == 14) = false := by simp; omega
 have hd : Hid (decide (1 ≤ k ∧ k ≤ 14) = false) := decide_eq_false hk
 have hv : Hid (isVal k h = .agg #[.int .u64 0, .int .u64 0, .int .i64 0, .int .i64 0, .int .i64 0, .int .i64 0, .bool false]) := by
  show _ = _
  unfold isVal
  rw [if_neg (by omega), if_neg (by omega), if_neg (by omega), if_neg (by omega), if_neg (by omega), if_neg (by omega), if_neg (by omega), if_neg (by omega), if_neg (by omega), if_neg (by omega), if_neg (by omega), if_neg (by omega), if_neg (by omega), if_neg (by omega)]
 clear hk
 go_enter Tryz.func58, Tryz.ntmps58
 go_wp2_with fail
 go_region
 go_wp2_with fail
 refine bodyPost_ret (v := .tuple #[.agg #[.int .u64 0, .int .u64 0, .int .i64 0, .int .i64 0, .int .i64 0, .int .i64 0, .bool false], .bool false]) (by simp [results, Tryz.results58, go_sem]) rfl ?_
 exact ⟨by rw [hd.out, hv.out], (B0.alloc B0.size _).drew⟩
end Go.Proofs.YtnbejckdhdbamaaGreat

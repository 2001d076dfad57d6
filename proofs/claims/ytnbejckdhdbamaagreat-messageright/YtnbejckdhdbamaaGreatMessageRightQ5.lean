/-
  Texts in one: PSame.
-/
import Derived.Test.YtnbejckdhdbamaaGreatMessageRightQ4
namespace Go.Proofs.YtnbejckdhdbamaaGreat
open Go.RowKit
theorem peqf_any (w : World) (ao bo : Option Addr) (n cap cap2 : Nat) :
  Calls Tryz.prog 105 #[.slice ao n cap, .slice bo 0 cap2, .func (.func 68) #[] #[]] w fun e w' => e = .returned (.bool (decide (n = 0))) ∧ w' = w := by
 by_cases z : n = 0
 ·subst z
  rw [decide_eq_true rfl]
  go_enter Tryz.func105, Tryz.ntmps105
  go_wp2
  go_loopw [17] (fun i wr => wr = w ∧ i = .int .i64 0) (fun _ _ => 0)
  case atStart => exact ⟨rfl, rfl⟩
  case round =>
   obtain ⟨rfl, rfl⟩ := hrel
   go_wp2
   go_ret
   exact ⟨rfl, rfl⟩
 ·have i : ((n : Int) != 0) = true := by simp; omega
  rw [decide_eq_false z]
  go_enter Tryz.func105, Tryz.ntmps105
  go_wp2
  go_ret
  exact ⟨rfl, rfl⟩
set_option maxRecDepth 100000 in
set_option maxHeartbeats 4000000 in
theorem psame_leaf (w : World) (a b : OA) (ha : a.ok w) (hb : b.ok w) (hz : b.sn = 0) :
  Calls Tryz.prog 68 #[a.val, b.val] w fun e w' => e = .returned (.bool (sameS a.s b.s && decide (a.sn = 0))) ∧ Below w.heap.size w w' := by
 have B : Below w.heap.size w ((w.alloc (Obj.cells a.cells.toArray 58)).alloc (Obj.cells b.cells.toArray 58)) := ((Below.refl _ w).alloc (Nat.le_refl _) _).alloc (by simp) _
 unfold OA.cells at B
 unfold OA.val
 rw [hz] at B
 have Va := ha.va.below B
 have Vb := hb.va.below B
 have Wa := ha.wa.below B
 have Wb := hb.wa.below B
 clear ha hb
 by_cases e0 : ¬ (a.kind = b.kind)
 ·have i0 : (a.kind == b.kind) = false := by simp [e0]
  have hv : Hid ((sameS a.s b.s && decide (a.sn = 0)) = false) := by
   show _ = _
   rw [show sameS a.s b.s = false from decide_eq_false fun h => e0 h.1]
   rfl
  clear e0
  clear Va Vb Wa Wb
  go_enter Tryz.func68, Tryz.ntmps68
  go_wp2
  go_ret
  exact ⟨by rw [hv.out] <;> rfl, B⟩
 have e0 := Classical.not_not.1 e0
 have i0 : (a.kind == b.kind) = true := by simp [e0]
 by_cases e1 : ¬ (a.row = b.row)
 ·have i1 : (a.row.toList == b.row.toList) = false := toL_ne e1
  have hv : Hid ((sameS a.s b.s && decide (a.sn = 0)) = false) := by
   show _ = _
   rw [show sameS a.s b.s = false from decide_eq_false fun h => e1 h.2.1]
   rfl
  clear e0 e1
  clear Va Vb Wa Wb
  go_enter Tryz.func68, Tryz.ntmps68
  go_wp2
  go_ret
  exact ⟨by rw [hv.out] <;> rfl, B⟩
 have e1 := Classical.not_not.1 e1
 have i1 : (a.row.toList == b.row.toList) = true := by rw [e1]; exact beq_self_eq_true _
 by_cases e2 : ¬ (a.fam = b.fam)
 ·have i2 : (a.fam.toList == b.fam.toList) = false := toL_ne e2
  have hv : Hid ((sameS a.s b.s && decide (a.sn = 0)) = false) := by
   show _ = _
   rw [show sameS a.s b.s = false from decide_eq_false fun h => e2 h.2.2.1]
   rfl
  clear e0 e1 e2
  clear Va Vb Wa Wb
  go_enter Tryz.func68, Tryz.ntmps68
  go_wp2
  go_ret
  exact ⟨by rw [hv.out] <;> rfl, B⟩
 have e2 := Classical.not_not.1 e2
 have i2 : (a.fam.toList == b.fam.toList) = true := by rw [e2]; exact beq_self_eq_true _
 by_cases e3 : ¬ (a.qual = b.qual)
 ·have i3 : (a.qual.toList == b.qual.toList) = false := toL_ne e3
  have hv : Hid ((sameS a.s b.s && decide (a.sn = 0)) = false) := by
   show _ = _
   rw [show sameS a.s b.s = false from decide_eq_false fun h => e3 h.2.2.2.1]
   rfl
  clear e0 e1 e2 e3
  clear Va Vb Wa Wb
  go_enter Tryz.func68, Tryz.ntmps68
  go_wp2
  go_ret
  exact ⟨by rw [hv.out] <;> rfl, B⟩
 have e3 := Classical.not_not.1 e3
 have i3 : (a.qual.toList == b.qual.toList) = true := by rw [e3]; exact beq_self_eq_true _
 by_cases e4 : ¬ (a.time = b.time)
 ·have i4 : ((a.time : Int) == (b.time : Int)) = false := by simp; omega
  have hv : Hid ((sameS a.s b.s && decide (a.sn = 0)) = false) := by
   show _ = _
   rw [show sameS a.s b.s = false from decide_eq_false fun h => e4 h.2.2.2.2.1]
   rfl
  clear e0 e1 e2 e3 e4
  clear Va Vb Wa Wb
  go_enter Tryz.func68, Tryz.ntmps68
  go_wp2
  go_ret
  exact ⟨by rw [hv.out] <;> rfl, B⟩
 have e4 := Classical.not_not.1 e4
 have i4 : ((a.time : Int) == (b.time : Int)) = true := by simp [e4]
 by_cases e5 : ¬ (a.to = b.to)
 ·have i5 : (a.to.toList == b.to.toList) = false := toL_ne e5
  have hv : Hid ((sameS a.s b.s && decide (a.sn = 0)) = false) := by
   show _ = _
   rw [show sameS a.s b.s = false from decide_eq_false fun h => e5 h.2.2.2.2.2.1]
   rfl
  clear e0 e1 e2 e3 e4 e5
  clear Va Vb Wa Wb
  go_enter Tryz.func68, Tryz.ntmps68
  go_wp2
  go_ret
  exact ⟨by rw [hv.out] <;> rfl, B⟩
 have e5 := Classical.not_not.1 e5
 have i5 : (a.to.toList == b.to.toList) = true := by rw [e5]; exact beq_self_eq_true _
 by_cases e6 : ¬ (a.has = b.has)
 ·have i6 : (a.has == b.has) = false := by simp [e6]
  have hv : Hid ((sameS a.s b.s && decide (a.sn = 0)) = false) := by
   show _ = _
   rw [show sameS a.s b.s = false from decide_eq_false fun h => e6 h.2.2.2.2.2.2.2.2]
   rfl
  clear e0 e1 e2 e3 e4 e5 e6
  clear Va Vb Wa Wb
  go_enter Tryz.func68, Tryz.ntmps68
  go_wp2
  go_ret
  exact ⟨by rw [hv.out] <;> rfl, B⟩
 have e6 := Classical.not_not.1 e6
 have i6 : (a.has == b.has) = true := by simp [e6]
 by_cases e7 : ¬ (a.va.xs = b.va.xs)
 ·have dV : decide (a.va.xs = b.va.xs) = false := decide_eq_false e7
  have hv : Hid ((sameS a.s b.s && decide (a.sn = 0)) = false) := by
   show _ = _
   rw [show sameS a.s b.s = false from decide_eq_false fun h => e7 h.2.2.2.2.2.2.1]
   rfl
  clear e0 e1 e2 e3 e4 e5 e6 e7
  go_enter Tryz.func68, Tryz.ntmps68
  go_wp2_with (first | (go_at_call 26; refine (pequal_any _ _ _ _ _ _ _ _ _ Va Vb).mono ?_; rintro e w' ⟨rfl, rfl⟩; rw [dV]; clear Va Vb))
  go_ret
  exact ⟨by rw [hv.out] <;> rfl, B⟩
 have e7 := Classical.not_not.1 e7
 have dV : decide (a.va.xs = b.va.xs) = true := decide_eq_true e7
 by_cases e8 : ¬ (a.wa.xs = b.wa.xs)
 ·have dW : decide (a.wa.xs = b.wa.xs) = false := decide_eq_false e8
  have hv : Hid ((sameS a.s b.s && decide (a.sn = 0)) = false) := by
   show _ = _
   rw [show sameS a.s b.s = false from decide_eq_false fun h => e8 h.2.2.2.2.2.2.2.1]
   rfl
  clear e0 e1 e2 e3 e4 e5 e6 e7 e8
  go_enter Tryz.func68, Tryz.ntmps68
  go_wp2_with (first | (go_at_call 26; refine (pequal_any _ _ _ _ _ _ _ _ _ Va Vb).mono ?_; rintro e w' ⟨rfl, rfl⟩; rw [dV]; clear Va Vb) | (go_at_call 26; refine (pequal_any _ _ _ _ _ _ _ _ _ Wa Wb).mono ?_; rintro e w' ⟨rfl, rfl⟩; rw [dW]))
  go_ret
  exact ⟨by rw [hv.out] <;> rfl, B⟩
 have e8 := Classical.not_not.1 e8
 have dW : decide (a.wa.xs = b.wa.xs) = true := decide_eq_true e8
 by_cases e9 : ¬ (a.sn = 0)
 ·have dS : decide (a.sn = 0) = false := decide_eq_false e9
  have hv : Hid ((sameS a.s b.s && decide (a.sn = 0)) = false) := by
   show _ = _
   rw [decide_eq_false e9, Bool.and_false]
  clear e0 e1 e2 e3 e4 e5 e6 e7 e8 e9
  go_enter Tryz.func68, Tryz.ntmps68
  go_wp2_with (first | (go_at_call 26; refine (pequal_any _ _ _ _ _ _ _ _ _ Va Vb).mono ?_; rintro e w' ⟨rfl, rfl⟩; rw [dV]; clear Va Vb) | (go_at_call 26; refine (pequal_any _ _ _ _ _ _ _ _ _ Wa Wb).mono ?_; rintro e w' ⟨rfl, rfl⟩; rw [dW]) | (go_at_call 105; refine (peqf_any _ _ _ _ _ _).mono ?_; rintro e w' ⟨rfl, rfl⟩; rw [dS]))
  go_ret
  exact ⟨by rw [hv.out] <;> rfl, B⟩
 have e9 := Classical.not_not.1 e9
 have dS : decide (a.sn = 0) = true := decide_eq_true e9
 have hv : Hid ((sameS a.s b.s && decide (a.sn = 0)) = true) := by
  show _ = _
  rw [show sameS a.s b.s = true from decide_eq_true ⟨e0, e1, e2, e3, e4, e5, e7, e8, e6⟩, decide_eq_true e9]
  rfl
 clear e0 e1 e2 e3 e4 e5 e6 e7 e8 e9
 go_enter Tryz.func68, Tryz.ntmps68
 go_wp2_with (first | (go_at_call 26; refine (pequal_any _ _ _ _ _ _ _ _ _ Va Vb).mono ?_; rintro e w' ⟨rfl, rfl⟩; rw [dV]; clear Va Vb) | (go_at_call 26; refine (pequal_any _ _ _ _ _ _ _ _ _ Wa Wb).mono ?_; rintro e w' ⟨rfl, rfl⟩; rw [dW]) | (go_at_call 105; refine (peqf_any _ _ _ _ _ _).mono ?_; rintro e w' ⟨rfl, rfl⟩; rw [dS]))
 go_ret
 exact ⟨by rw [hv.out] <;> rfl, B⟩
def aloneO (o : OA) : OA := ⟨o.kind, o.row, noTxt, noTxt, 0, noTxt, ⟨none, 0, 0, []⟩, ⟨none, 0, 0, []⟩, false, none, 0, 0⟩
def isAlone (o : OA) : Bool := decide (o.row.size ≤ 32) && (sameS o.s (aloneO o).s && decide (o.sn = 0))
theorem aloneO_ok {o : OA} {w : World} (h : o.ok w) : (aloneO o).ok w :=
 ⟨h.kind, h.row, Nat.zero_le _, Nat.zero_le _, by show 0 < 18446744073709551616; decide, Nat.zero_le _, Sl.nothing w, Sl.nothing w, Nat.le_refl _, Nat.zero_le _, fun _ => ⟨rfl, rfl⟩⟩
set_option maxRecDepth 100000 in
set_option maxHeartbeats 4000000 in
theorem palone_any (w : World) (o : OA) (h : o.ok w) :
  Calls Tryz.prog 127 #[o.val] w fun e w' => e = .returned (.bool (isAlone o)) ∧ Below w.heap.size w w' := by
 have B : Below w.heap.size w (w.alloc (Obj.cells o.cells.toArray 58)) := (Below.refl _ w).alloc (Nat.le_refl _) _
 unfold OA.cells at B
 have ho := h.below B
 have h2 := aloneO_ok ho
 by_cases l : o.row.size ≤ 32
 ·have i : (o.row.size : Int) ≤ 32 := by omega
  have hv : Hid (isAlone o = (sameS o.s (aloneO o).s && decide (o.sn = 0))) := by
   show _ = _
   unfold isAlone
   rw [decide_eq_true l, Bool.true_and]
  clear l
  unfold OA.val
  go_enter Tryz.func127, Tryz.ntmps127
  go_wp2_with (go_at_call 68; refine (psame_leaf _ o (aloneO o) ho h2 rfl).mono ?_; rintro e w' ⟨rfl, C⟩; have D := B.trans (C.mono B.size))
  go_ret
  exact ⟨by rw [hv.out] <;> rfl, D⟩
 ·have i : decide ((o.row.size : Int) ≤ 32) = false := by simp; omega
  have hv : Hid (isAlone o = false) := by
   show _ = _
   unfold isAlone
   rw [decide_eq_false l, Bool.false_and]
  clear l ho h2 h
  unfold OA.val
  go_enter Tryz.func127, Tryz.ntmps127
  go_wp2
  go_ret
  exact ⟨by rw [hv.out] <;> rfl, B⟩
end Go.Proofs.YtnbejckdhdbamaaGreat

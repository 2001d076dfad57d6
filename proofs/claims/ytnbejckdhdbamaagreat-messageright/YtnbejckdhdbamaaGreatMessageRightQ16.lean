/-
  Texts in one: RSame.
-/
import Derived.Test.YtnbejckdhdbamaaGreatMessageRightQFL
import Derived.Test.YtnbejckdhdbamaaGreatMessageRightQ7
import Derived.Test.YtnbejckdhdbamaaGreatMessageRightQ1
import Derived.Test.YtnbejckdhdbamaaGreatMessageRightQ3
namespace Go.Proofs.YtnbejckdhdbamaaGreat
open Go.RowKit
theorem sameL_take {α : Type} (f : α → α → Bool) : ∀ (l m : List α) (k : Nat) (h1 : k < l.length) (h2 : k < m.length), sameL f (l.take k) (m.take k) = true → sameL f (l.take (k + 1)) (m.take (k + 1)) = f l[k] m[k]
 | a :: l, b :: m, 0, _, _, _ => by simp [sameL]
 | a :: l, b :: m, k + 1, h1, h2, h => by
  simp only [List.take_succ_cons, sameL, Bool.and_eq_true] at h
  have := sameL_take f l m k (by simpa using h1) (by simpa using h2) h.2
  simp only [List.take_succ_cons, sameL, h.1, Bool.true_and, List.getElem_cons_succ] at this ⊢
  exact this
 | [], _, _, h1, _, _ => by simp at h1
 | _ :: _, [], _, _, h2, _ => by simp at h2
theorem sameL_no {α : Type} (f : α → α → Bool) : ∀ (l m : List α) (k : Nat) (h1 : k < l.length) (h2 : k < m.length), f l[k] m[k] = false → sameL f l m = false
 | a :: l, b :: m, 0, _, _, h => by
  have h : f a b = false := h
  simp [sameL, h]
 | a :: l, b :: m, k + 1, h1, h2, h => by
  have := sameL_no f l m k (by simpa using h1) (by simpa using h2) (by simpa using h)
  simp [sameL, this]
 | [], _, _, h1, _, _ => by simp at h1
 | _ :: _, [], _, _, h2, _ => by simp at h2
theorem sameL_len {α : Type} (f : α → α → Bool) : ∀ (l m : List α), l.length ≠ m.length → sameL f l m = false
 | [], [], h => absurd rfl h
 | [], _ :: _, _ => rfl
 | _ :: _, [], _ => rfl
 | a :: l, b :: m, h => by
  have := sameL_len f l m (by simpa using h)
  simp [sameL, this]
set_option maxRecDepth 100000 in
set_option maxHeartbeats 16000000 in
theorem rsame_step (d : Nat) (rec : ∀ (W : World) (x y : OD d), OW W d x → OW W d y → lightD d x = true → lightD d y = true → Calls Tryz.prog 73 #[(topD d x).val, (topD d y).val] W fun e w' => e = .returned (.bool (sameD d x y)) ∧ Below W.heap.size W w')
  (w : World) (a b : OA) (l m : List (OD d)) (ha : a.ok w) (hb : b.ok w) (L : OWL w d a.so a.sn a.sc l) (M : OWL w d b.so b.sn b.sc m) (hl : l.all (lightD d) = true) (hm : m.all (lightD d) = true) (h12 : a.sn ≤ 12) :
  Calls Tryz.prog 73 #[a.val, b.val] w fun e w' => e = .returned (.bool (sameS a.s b.s && sameL (sameD d) l m)) ∧ Below w.heap.size w w' := by
 have ll : l.length = a.sn := L.len
 have lm : m.length = b.sn := M.len
 have B : Below w.heap.size w ((w.alloc (Obj.cells #[.int .i64 a.kind, .string a.row, .string a.fam, .string a.qual, .int .u64 a.time, .string a.to, .slice a.va.ao a.va.n a.va.cap, .slice a.wa.ao a.wa.n a.wa.cap, .bool a.has, .slice a.so a.sn a.sc] 58)).alloc (Obj.cells #[.int .i64 b.kind, .string b.row, .string b.fam, .string b.qual, .int .u64 b.time, .string b.to, .slice b.va.ao b.va.n b.va.cap, .slice b.wa.ao b.wa.n b.wa.cap, .bool b.has, .slice b.so b.sn b.sc] 58)) := ((Below.refl _ w).alloc (Nat.le_refl _) _).alloc (by simp) _
 have Va := ha.va.below B
 have Vb := hb.va.below B
 have Ka : OC ((w.alloc (Obj.cells #[.int .i64 a.kind, .string a.row, .string a.fam, .string a.qual, .int .u64 a.time, .string a.to, .slice a.va.ao a.va.n a.va.cap, .slice a.wa.ao a.wa.n a.wa.cap, .bool a.has, .slice a.so a.sn a.sc] 58)).alloc (Obj.cells #[.int .i64 b.kind, .string b.row, .string b.fam, .string b.qual, .int .u64 b.time, .string b.to, .slice b.va.ao b.va.n b.va.cap, .slice b.wa.ao b.wa.n b.wa.cap, .bool b.has, .slice b.so b.sn b.sc] 58)) w.heap.size a := (OC.new w a).alloc _
 have Kb : OC ((w.alloc (Obj.cells #[.int .i64 a.kind, .string a.row, .string a.fam, .string a.qual, .int .u64 a.time, .string a.to, .slice a.va.ao a.va.n a.va.cap, .slice a.wa.ao a.wa.n a.wa.cap, .bool a.has, .slice a.so a.sn a.sc] 58)).alloc (Obj.cells #[.int .i64 b.kind, .string b.row, .string b.fam, .string b.qual, .int .u64 b.time, .string b.to, .slice b.va.ao b.va.n b.va.cap, .slice b.wa.ao b.wa.n b.wa.cap, .bool b.has, .slice b.so b.sn b.sc] 58)) (w.heap.size + 1) b := by
  have := OC.new (w.alloc (Obj.cells #[.int .i64 a.kind, .string a.row, .string a.fam, .string a.qual, .int .u64 a.time, .string a.to, .slice a.va.ao a.va.n a.va.cap, .slice a.wa.ao a.wa.n a.wa.cap, .bool a.has, .slice a.so a.sn a.sc] 58)) b
  simpa using this
 unfold OA.val
 by_cases e0 : ¬ (a.kind = b.kind)
 ·have i0 : (a.kind != b.kind) = true := by simp [e0]
  have hv : Hid ((sameS a.s b.s && sameL (sameD d) l m) = false) := by
   show _ = _
   rw [show sameS a.s b.s = false from decide_eq_false fun h => e0 h.1]
   rfl
  clear e0 L M hl hm ll lm rec h12 Va Vb Ka Kb ha hb
  go_enter Tryz.func73, Tryz.ntmps73
  go_wp2
  go_ret
  exact ⟨by rw [hv.out] <;> rfl, B⟩
 have e0 := Classical.not_not.1 e0
 have i0 : (a.kind != b.kind) = false := by simp [e0]
 by_cases e1 : ¬ (a.row = b.row)
 ·have i1 : (a.row.toList == b.row.toList) = false := toL_ne e1
  have hv : Hid ((sameS a.s b.s && sameL (sameD d) l m) = false) := by
   show _ = _
   rw [show sameS a.s b.s = false from decide_eq_false fun h => e1 h.2.1]
   rfl
  clear e0 e1 L M hl hm ll lm rec h12 Va Vb Ka Kb ha hb
  go_enter Tryz.func73, Tryz.ntmps73
  go_wp2
  go_ret
  exact ⟨by rw [hv.out] <;> rfl, B⟩
 have e1 := Classical.not_not.1 e1
 have i1 : (a.row.toList == b.row.toList) = true := by rw [e1]; exact beq_self_eq_true _
 by_cases e2 : ¬ (a.fam = b.fam)
 ·have i2 : (a.fam.toList == b.fam.toList) = false := toL_ne e2
  have hv : Hid ((sameS a.s b.s && sameL (sameD d) l m) = false) := by
   show _ = _
   rw [show sameS a.s b.s = false from decide_eq_false fun h => e2 h.2.2.1]
   rfl
  clear e0 e1 e2 L M hl hm ll lm rec h12 Va Vb Ka Kb ha hb
  go_enter Tryz.func73, Tryz.ntmps73
  go_wp2
  go_ret
  exact ⟨by rw [hv.out] <;> rfl, B⟩
 have e2 := Classical.not_not.1 e2
 have i2 : (a.fam.toList == b.fam.toList) = true := by rw [e2]; exact beq_self_eq_true _
 by_cases e3 : ¬ (a.qual = b.qual)
 ·have i3 : (a.qual.toList == b.qual.toList) = false := toL_ne e3
  have hv : Hid ((sameS a.s b.s && sameL (sameD d) l m) = false) := by
   show _ = _
   rw [show sameS a.s b.s = false from decide_eq_false fun h => e3 h.2.2.2.1]
   rfl
  clear e0 e1 e2 e3 L M hl hm ll lm rec h12 Va Vb Ka Kb ha hb
  go_enter Tryz.func73, Tryz.ntmps73
  go_wp2
  go_ret
  exact ⟨by rw [hv.out] <;> rfl, B⟩
 have e3 := Classical.not_not.1 e3
 have i3 : (a.qual.toList == b.qual.toList) = true := by rw [e3]; exact beq_self_eq_true _
 by_cases e4 : ¬ (a.time = b.time)
 ·have i4 : ((a.time : Int) == (b.time : Int)) = false := by simp; omega
  have hv : Hid ((sameS a.s b.s && sameL (sameD d) l m) = false) := by
   show _ = _
   rw [show sameS a.s b.s = false from decide_eq_false fun h => e4 h.2.2.2.2.1]
   rfl
  clear e0 e1 e2 e3 e4 L M hl hm ll lm rec h12 Va Vb Ka Kb ha hb
  go_enter Tryz.func73, Tryz.ntmps73
  go_wp2
  go_ret
  exact ⟨by rw [hv.out] <;> rfl, B⟩
 have e4 := Classical.not_not.1 e4
 have i4 : ((a.time : Int) == (b.time : Int)) = true := by simp; omega
 by_cases e5 : ¬ (a.to = b.to)
 ·have i5 : (a.to.toList == b.to.toList) = false := toL_ne e5
  have hv : Hid ((sameS a.s b.s && sameL (sameD d) l m) = false) := by
   show _ = _
   rw [show sameS a.s b.s = false from decide_eq_false fun h => e5 h.2.2.2.2.2.1]
   rfl
  clear e0 e1 e2 e3 e4 e5 L M hl hm ll lm rec h12 Va Vb Ka Kb ha hb
  go_enter Tryz.func73, Tryz.ntmps73
  go_wp2
  go_ret
  exact ⟨by rw [hv.out] <;> rfl, B⟩
 have e5 := Classical.not_not.1 e5
 have i5 : (a.to.toList == b.to.toList) = true := by rw [e5]; exact beq_self_eq_true _
 by_cases e6 : ¬ (a.has = b.has)
 ·have i6 : (a.has == b.has) = false := by simp [e6]
  have hv : Hid ((sameS a.s b.s && sameL (sameD d) l m) = false) := by
   show _ = _
   rw [show sameS a.s b.s = false from decide_eq_false fun h => e6 h.2.2.2.2.2.2.2.2]
   rfl
  clear e0 e1 e2 e3 e4 e5 e6 L M hl hm ll lm rec h12 Va Vb Ka Kb ha hb
  go_enter Tryz.func73, Tryz.ntmps73
  go_wp2
  go_ret
  exact ⟨by rw [hv.out] <;> rfl, B⟩
 have e6 := Classical.not_not.1 e6
 have i6 : (a.has == b.has) = true := by simp [e6]
 by_cases e7 : ¬ (a.sn = b.sn)
 ·have i7 : ((a.sn : Int) != (b.sn : Int)) = true := by simp; omega
  have hv : Hid ((sameS a.s b.s && sameL (sameD d) l m) = false) := by
   show _ = _
   rw [sameL_len _ _ _ (by omega), Bool.and_false]
  clear e0 e1 e2 e3 e4 e5 e6 e7 L M hl hm ll lm rec h12 Va Vb Ka Kb ha hb
  go_enter Tryz.func73, Tryz.ntmps73
  go_wp2
  go_ret
  exact ⟨by rw [hv.out] <;> rfl, B⟩
 have e7 := Classical.not_not.1 e7
 have i7 : ((a.sn : Int) != (b.sn : Int)) = false := by simp; omega
 by_cases e8 : ¬ (a.va.xs = b.va.xs)
 ·have dV : decide (a.va.xs = b.va.xs) = false := decide_eq_false e8
  have hv : Hid ((sameS a.s b.s && sameL (sameD d) l m) = false) := by
   show _ = _
   rw [show sameS a.s b.s = false from decide_eq_false fun h => e8 h.2.2.2.2.2.2.1]
   rfl
  clear e0 e1 e2 e3 e4 e5 e6 e7 e8 L M hl hm ll lm rec h12
  go_enter Tryz.func73, Tryz.ntmps73
  go_wp2_with (first | (go_at_call 32; refine (same_any _ _ _ _ _ _ _ _ _ Va Vb).mono ?_; rintro e w3 ⟨rfl, q3, hw3⟩; rw [dV]; have B3 : Below w.heap.size w w3 := (by rw [hw3]; exact belN B q3); have K3a : OC w3 w.heap.size a := (by rw [hw3]; exact Ka); have K3b : OC w3 (w.heap.size + 1) b := (by rw [hw3]; exact Kb); have Wa3 := ha.wa.below B3; have Wb3 := hb.wa.below B3; clear hw3 Va Vb Ka Kb; obtain ⟨p0, p1, p2, p3, p4, p5, p6, p7, p8, p9⟩ := K3a.cs; obtain ⟨q0, q1, q2, q3, q4, q5, q6, q7, q8, q9⟩ := K3b.cs))
  go_ret
  exact ⟨by rw [hv.out] <;> rfl, B3⟩
 have e8 := Classical.not_not.1 e8
 have dV : decide (a.va.xs = b.va.xs) = true := decide_eq_true e8
 by_cases e9 : ¬ (a.wa.xs = b.wa.xs)
 ·have dW : decide (a.wa.xs = b.wa.xs) = false := decide_eq_false e9
  have hv : Hid ((sameS a.s b.s && sameL (sameD d) l m) = false) := by
   show _ = _
   rw [show sameS a.s b.s = false from decide_eq_false fun h => e9 h.2.2.2.2.2.2.2.1]
   rfl
  clear e0 e1 e2 e3 e4 e5 e6 e7 e8 e9 L M hl hm ll lm rec h12
  go_enter Tryz.func73, Tryz.ntmps73
  go_wp2_with (first | (go_at_call 32; refine (same_any _ _ _ _ _ _ _ _ _ Va Vb).mono ?_; rintro e w3 ⟨rfl, q3, hw3⟩; rw [dV]; have B3 : Below w.heap.size w w3 := (by rw [hw3]; exact belN B q3); have K3a : OC w3 w.heap.size a := (by rw [hw3]; exact Ka); have K3b : OC w3 (w.heap.size + 1) b := (by rw [hw3]; exact Kb); have Wa3 := ha.wa.below B3; have Wb3 := hb.wa.below B3; clear hw3 Va Vb Ka Kb; obtain ⟨p0, p1, p2, p3, p4, p5, p6, p7, p8, p9⟩ := K3a.cs; obtain ⟨q0, q1, q2, q3, q4, q5, q6, q7, q8, q9⟩ := K3b.cs) | (go_at_call 32; refine (same_any _ _ _ _ _ _ _ _ _ Wa3 Wb3).mono ?_; rintro e w4 ⟨rfl, q4, hw4⟩; rw [dW]; have B4 : Below w.heap.size w w4 := (by rw [hw4]; exact belN B3 q4); have K4a : OC w4 w.heap.size a := (by rw [hw4]; exact K3a); have K4b : OC w4 (w.heap.size + 1) b := (by rw [hw4]; exact K3b); clear hw4 Wa3 Wb3 B3 K3a K3b; clear p0 p1 p2 p3 p4 p5 p6 p7 p8 p9 q0 q1 q2 q3 q5 q6 q7 q8 q9))
  go_ret
  exact ⟨by rw [hv.out] <;> rfl, B4⟩
 have e9 := Classical.not_not.1 e9
 have dW : decide (a.wa.xs = b.wa.xs) = true := decide_eq_true e9
 have hv : Hid ((sameS a.s b.s && sameL (sameD d) l m) = sameL (sameD d) l m) := by
  show _ = _
  rw [show sameS a.s b.s = true from decide_eq_true ⟨e0, e1, e2, e3, e4, e5, e8, e9, e6⟩, Bool.true_and]
 have HE : Hid (a.sn = b.sn) := e7
 clear e0 e1 e2 e3 e4 e5 e6 e7 e8 e9
 go_enter Tryz.func73, Tryz.ntmps73
 go_wp2_with (first | (go_at_call 32; refine (same_any _ _ _ _ _ _ _ _ _ Va Vb).mono ?_; rintro e w3 ⟨rfl, q3, hw3⟩; rw [dV]; have B3 : Below w.heap.size w w3 := (by rw [hw3]; exact belN B q3); have K3a : OC w3 w.heap.size a := (by rw [hw3]; exact Ka); have K3b : OC w3 (w.heap.size + 1) b := (by rw [hw3]; exact Kb); have Wa3 := ha.wa.below B3; have Wb3 := hb.wa.below B3; clear hw3 Va Vb Ka Kb; obtain ⟨p0, p1, p2, p3, p4, p5, p6, p7, p8, p9⟩ := K3a.cs; obtain ⟨q0, q1, q2, q3, q4, q5, q6, q7, q8, q9⟩ := K3b.cs) | (go_at_call 32; refine (same_any _ _ _ _ _ _ _ _ _ Wa3 Wb3).mono ?_; rintro e w4 ⟨rfl, q4, hw4⟩; rw [dW]; have B4 : Below w.heap.size w w4 := (by rw [hw4]; exact belN B3 q4); have K4a : OC w4 w.heap.size a := (by rw [hw4]; exact K3a); have K4b : OC w4 (w.heap.size + 1) b := (by rw [hw4]; exact K3b); clear hw4 Wa3 Wb3 B3 K3a K3b; clear p0 p1 p2 p3 p4 p5 p6 p7 p8 p9 q0 q1 q2 q3 q5 q6 q7 q8 q9))
 clear i0 i1 i2 i3 i4 i5 i6 i7 dV dW ha hb
 obtain ⟨N, hN⟩ : ∃ N, N = w.heap.size := ⟨_, rfl⟩
 rw [← hN] at B4 K4a K4b ⊢
 have HN : Hid (N = w.heap.size) := hN
 clear hN B
 go_loopw [5] (fun i wr => ∃ k : Nat, k ≤ a.sn ∧ i = .int .i64 k ∧ Below N w wr ∧ Below w4.heap.size w4 wr ∧ sameL (sameD d) (l.take k) (m.take k) = true) (fun i _ => a.sn - (intOf i).toNat)
 case atStart => exact ⟨0, Nat.zero_le _, rfl, B4, Below.refl _ _, rfl⟩
 case round =>
  obtain ⟨k, hk, rfl, B5, C5, hall⟩ := hrel
  have HA : Hid (sameL (sameD d) (l.take k) (m.take k) = true) := hall
  have K5a := K4a.keep C5
  have K5b := K4b.keep C5
  clear hall K4a K4b B4
  by_cases hlt : k < a.sn
  ·have hbn := HE.out
   have Bw : Below w.heap.size w wr := by rw [← HN.out]; exact B5
   obtain ⟨b1, o1, ea, hc1⟩ := L.at (by omega)
   obtain ⟨b2, o2, eb, hc2⟩ := M.at (by omega)
   have hkl : k < l.length := by omega
   have hkm : k < m.length := by omega
   have X := (hc1 k hkl).below Bw
   have Y := (hc2 k hkm).below Bw
   have wx : OW wr d l[k] := (L.ok _ (List.getElem_mem hkl)).below Bw
   have wy : OW wr d m[k] := (M.ok _ (List.getElem_mem hkm)).below Bw
   have lx := List.all_eq_true.1 hl _ (List.getElem_mem hkl)
   have ly := List.all_eq_true.1 hm _ (List.getElem_mem hkm)
   have i6 : (k : Int) < (a.sn : Int) := by omega
   have HT : Hid (sameL (sameD d) (l.take (k + 1)) (m.take (k + 1)) = sameD d l[k] m[k]) := sameL_take _ l m k hkl hkm HA.out
   have HL : Hid (sameD d l[k] m[k] = false → sameL (sameD d) l m = false) := fun h => sameL_no _ l m k hkl hkm h
   obtain ⟨x, hx⟩ : ∃ x : OD d, x = l[k] := ⟨_, rfl⟩
   obtain ⟨y, hy⟩ : ∃ y : OD d, y = m[k] := ⟨_, rfl⟩
   rw [← hx, ← hy] at HT HL
   rw [← hx] at X wx lx
   rw [← hy] at Y wy ly
   clear hx hy hc1 hc2
   obtain ⟨ox, hox⟩ : ∃ o : OA, o = topD d x := ⟨_, rfl⟩
   obtain ⟨oy, hoy⟩ : ∃ o : OA, o = topD d y := ⟨_, rfl⟩
   have CR : ∀ V, Below wr.heap.size wr V → Calls Tryz.prog 73 #[ox.val, oy.val] V fun e w' => e = .returned (.bool (sameD d x y)) ∧ Below V.heap.size V w' := fun V hV => by
    rw [hox, hoy]
    exact rec V x y (wx.below hV) (wy.below hV) lx ly
   rw [← hox] at X
   rw [← hoy] at Y
   have HCR : Hid (∀ V, Below wr.heap.size wr V → Calls Tryz.prog 73 #[ox.val, oy.val] V fun e w' => e = .returned (.bool (sameD d x y)) ∧ Below V.heap.size V w') := CR
   clear hox hoy CR wx wy lx ly rec
   have n1 : b.sn ≤ 12 := by omega
   have i7 : (k : Int) < (b.sn : Int) := by omega
   have K5a9 := K5a
   have K5a := K5a.cs.c9
   have K5b := K5b.cs.c9
   rw [ea] at K5a
   rw [eb] at K5b
   have r9 := K5a9.cs.c9
   go_wp2_with fail
   clear r9 ea eb
   have A9 : wr.cell? ⟨N, 9, none⟩ = some (.slice (some ⟨b1, o1, none⟩) a.sn a.sc) := K5a
   have B9 : wr.cell? ⟨N + 1, 9, none⟩ = some (.slice (some ⟨b2, o2, none⟩) b.sn b.sc) := K5b
   clear K5a K5b K5a9
   cases hs : sameD d x y with
   | false =>
    have HS : Hid (∀ V, Below wr.heap.size wr V → V.cell? ⟨N, 9, none⟩ = some (.slice (some ⟨b1, o1, none⟩) a.sn a.sc) ∧ V.cell? ⟨N + 1, 9, none⟩ = some (.slice (some ⟨b2, o2, none⟩) b.sn b.sc) ∧ V.cell? ⟨b1, o1 + k * 10, none⟩ = some (.int .i64 ox.kind) ∧ V.cell? ⟨b1, o1 + k * 10 + 1, none⟩ = some (.string ox.row) ∧ V.cell? ⟨b1, o1 + k * 10 + 2, none⟩ = some (.string ox.fam) ∧ V.cell? ⟨b1, o1 + k * 10 + 3, none⟩ = some (.string ox.qual) ∧ V.cell? ⟨b1, o1 + k * 10 + 4, none⟩ = some (.int .u64 ox.time) ∧ V.cell? ⟨b1, o1 + k * 10 + 5, none⟩ = some (.string ox.to) ∧ V.cell? ⟨b1, o1 + k * 10 + 6, none⟩ = some (.slice ox.va.ao ox.va.n ox.va.cap) ∧ V.cell? ⟨b1, o1 + k * 10 + 7, none⟩ = some (.slice ox.wa.ao ox.wa.n ox.wa.cap) ∧ V.cell? ⟨b1, o1 + k * 10 + 8, none⟩ = some (.bool ox.has) ∧ V.cell? ⟨b1, o1 + k * 10 + 9, none⟩ = some (.slice ox.so ox.sn ox.sc) ∧ V.cell? ⟨b2, o2 + k * 10, none⟩ = some (.int .i64 oy.kind) ∧ V.cell? ⟨b2, o2 + k * 10 + 1, none⟩ = some (.string oy.row) ∧ V.cell? ⟨b2, o2 + k * 10 + 2, none⟩ = some (.string oy.fam) ∧ V.cell? ⟨b2, o2 + k * 10 + 3, none⟩ = some (.string oy.qual) ∧ V.cell? ⟨b2, o2 + k * 10 + 4, none⟩ = some (.int .u64 oy.time) ∧ V.cell? ⟨b2, o2 + k * 10 + 5, none⟩ = some (.string oy.to) ∧ V.cell? ⟨b2, o2 + k * 10 + 6, none⟩ = some (.slice oy.va.ao oy.va.n oy.va.cap) ∧ V.cell? ⟨b2, o2 + k * 10 + 7, none⟩ = some (.slice oy.wa.ao oy.wa.n oy.wa.cap) ∧ V.cell? ⟨b2, o2 + k * 10 + 8, none⟩ = some (.bool oy.has) ∧ V.cell? ⟨b2, o2 + k * 10 + 9, none⟩ = some (.slice oy.so oy.sn oy.sc)) := fun V hV => have x := X.below hV; have y := Y.below hV; ⟨(hV.cell (World.block_lt_of_cell? _ _ A9)).trans A9, (hV.cell (World.block_lt_of_cell? _ _ B9)).trans B9, x.c0, x.c1, x.c2, x.c3, x.c4, x.c5, x.c6, x.c7, x.c8, x.c9, y.c0, y.c1, y.c2, y.c3, y.c4, y.c5, y.c6, y.c7, y.c8, y.c9⟩
    refine zB (by kernel_rfl) HS.out fun v0 E0 H0 => ?_
    refine zT 0 (some 64) (.pointer (some ⟨N, 9, none⟩)) rfl rfl (by kernel_rfl) rfl (fun W ⟨h0, h1, h2, h3, h4, h5, h6, h7, h8, h9, h10, h11, h12, h13, h14, h15, h16, h17, h18, h19, h20, h21⟩ => by go_simp) H0 ?_
    simp only [FL]
    refine zT 1 (some 65) (.slice (some ⟨b1, o1, none⟩) a.sn a.sc) rfl rfl (by kernel_rfl) rfl (fun W ⟨h0, h1, h2, h3, h4, h5, h6, h7, h8, h9, h10, h11, h12, h13, h14, h15, h16, h17, h18, h19, h20, h21⟩ => by go_simp) H0 ?_
    simp only [FL]
    refine zT 2 (some 66) (.int .i64 k) rfl rfl (by kernel_rfl) rfl (fun W ⟨h0, h1, h2, h3, h4, h5, h6, h7, h8, h9, h10, h11, h12, h13, h14, h15, h16, h17, h18, h19, h20, h21⟩ => by go_simp) H0 ?_
    simp only [FL]
    refine zT 3 (some 67) (.pointer (some ⟨b1, o1 + k * 10, none⟩)) rfl rfl (by kernel_rfl) rfl (fun W ⟨h0, h1, h2, h3, h4, h5, h6, h7, h8, h9, h10, h11, h12, h13, h14, h15, h16, h17, h18, h19, h20, h21⟩ => by go_simp) H0 ?_
    simp only [FL]
    refine zT 4 (some 68) (.agg #[.int .i64 ox.kind, .string ox.row, .string ox.fam, .string ox.qual, .int .u64 ox.time, .string ox.to, .slice ox.va.ao ox.va.n ox.va.cap, .slice ox.wa.ao ox.wa.n ox.wa.cap, .bool ox.has, .slice ox.so ox.sn ox.sc]) rfl rfl (by kernel_rfl) rfl (fun W ⟨h0, h1, h2, h3, h4, h5, h6, h7, h8, h9, h10, h11, h12, h13, h14, h15, h16, h17, h18, h19, h20, h21⟩ => by go_simp) H0 ?_
    simp only [FL]
    refine zT 5 (some 69) (.pointer (some ⟨N + 1, 9, none⟩)) rfl rfl (by kernel_rfl) rfl (fun W ⟨h0, h1, h2, h3, h4, h5, h6, h7, h8, h9, h10, h11, h12, h13, h14, h15, h16, h17, h18, h19, h20, h21⟩ => by go_simp) H0 ?_
    simp only [FL]
    refine zT 6 (some 70) (.slice (some ⟨b2, o2, none⟩) b.sn b.sc) rfl rfl (by kernel_rfl) rfl (fun W ⟨h0, h1, h2, h3, h4, h5, h6, h7, h8, h9, h10, h11, h12, h13, h14, h15, h16, h17, h18, h19, h20, h21⟩ => by go_simp) H0 ?_
    simp only [FL]
    refine zT 7 (some 71) (.int .i64 k) rfl rfl (by kernel_rfl) rfl (fun W ⟨h0, h1, h2, h3, h4, h5, h6, h7, h8, h9, h10, h11, h12, h13, h14, h15, h16, h17, h18, h19, h20, h21⟩ => by go_simp) H0 ?_
    simp only [FL]
    refine zT 8 (some 72) (.pointer (some ⟨b2, o2 + k * 10, none⟩)) rfl rfl (by kernel_rfl) rfl (fun W ⟨h0, h1, h2, h3, h4, h5, h6, h7, h8, h9, h10, h11, h12, h13, h14, h15, h16, h17, h18, h19, h20, h21⟩ => by go_simp) H0 ?_
    simp only [FL]
    refine zT 9 (some 73) (.agg #[.int .i64 oy.kind, .string oy.row, .string oy.fam, .string oy.qual, .int .u64 oy.time, .string oy.to, .slice oy.va.ao oy.va.n oy.va.cap, .slice oy.wa.ao oy.wa.n oy.wa.cap, .bool oy.has, .slice oy.so oy.sn oy.sc]) rfl rfl (by kernel_rfl) rfl (fun W ⟨h0, h1, h2, h3, h4, h5, h6, h7, h8, h9, h10, h11, h12, h13, h14, h15, h16, h17, h18, h19, h20, h21⟩ => by go_simp) H0 ?_
    simp only [FL]
    refine hr_call_w 10 (some 74) 73 #[.agg #[.int .i64 ox.kind, .string ox.row, .string ox.fam, .string ox.qual, .int .u64 ox.time, .string ox.to, .slice ox.va.ao ox.va.n ox.va.cap, .slice ox.wa.ao ox.wa.n ox.wa.cap, .bool ox.has, .slice ox.so ox.sn ox.sc], .agg #[.int .i64 oy.kind, .string oy.row, .string oy.fam, .string oy.qual, .int .u64 oy.time, .string oy.to, .slice oy.va.ao oy.va.n oy.va.cap, .slice oy.wa.ao oy.wa.n oy.wa.cap, .bool oy.has, .slice oy.so oy.sn oy.sc]] rfl rfl (by kernel_rfl) rfl (by go_simp) (fun v w' => v = .bool false ∧ Below v0.heap.size v0 w') (((show Calls Tryz.prog 73 #[ox.val, oy.val] v0 fun e w' => e = .returned (.bool false) ∧ Below v0.heap.size v0 w' from hs ▸ HCR.out v0 E0)).mono (by
     rintro e w' ⟨rfl, C⟩
     exact ⟨_, rfl, rfl, C⟩)) ?_
    rintro v v1 ⟨rfl, C0⟩
    have E1 := E0.trans (C0.mono E0.size)
    have H1 := HS.out v1 E1
    refine ⟨H1, ?_⟩
    simp only [FL]
    refine zT 11 (some 75) (.bool true) rfl rfl (by kernel_rfl) rfl (fun W ⟨h0, h1, h2, h3, h4, h5, h6, h7, h8, h9, h10, h11, h12, h13, h14, h15, h16, h17, h18, h19, h20, h21⟩ => by go_simp) H1 ?_
    simp only [FL]
    refine wpAnyH_done (by kernel_rfl) ?_ _
    refine NoPanic.normal ?_
    have B6 := B5.trans (E1.mono (by have := B5.size; have := HN.out; omega))
    have hz := HL.out hs
    go_wp2
    go_ret
    exact ⟨by rw [hv.out, hz] <;> rfl, by rw [← HN.out]; exact B6⟩
   | true =>
    have HS : Hid (∀ V, Below wr.heap.size wr V → V.cell? ⟨N, 9, none⟩ = some (.slice (some ⟨b1, o1, none⟩) a.sn a.sc) ∧ V.cell? ⟨N + 1, 9, none⟩ = some (.slice (some ⟨b2, o2, none⟩) b.sn b.sc) ∧ V.cell? ⟨b1, o1 + k * 10, none⟩ = some (.int .i64 ox.kind) ∧ V.cell? ⟨b1, o1 + k * 10 + 1, none⟩ = some (.string ox.row) ∧ V.cell? ⟨b1, o1 + k * 10 + 2, none⟩ = some (.string ox.fam) ∧ V.cell? ⟨b1, o1 + k * 10 + 3, none⟩ = some (.string ox.qual) ∧ V.cell? ⟨b1, o1 + k * 10 + 4, none⟩ = some (.int .u64 ox.time) ∧ V.cell? ⟨b1, o1 + k * 10 + 5, none⟩ = some (.string ox.to) ∧ V.cell? ⟨b1, o1 + k * 10 + 6, none⟩ = some (.slice ox.va.ao ox.va.n ox.va.cap) ∧ V.cell? ⟨b1, o1 + k * 10 + 7, none⟩ = some (.slice ox.wa.ao ox.wa.n ox.wa.cap) ∧ V.cell? ⟨b1, o1 + k * 10 + 8, none⟩ = some (.bool ox.has) ∧ V.cell? ⟨b1, o1 + k * 10 + 9, none⟩ = some (.slice ox.so ox.sn ox.sc) ∧ V.cell? ⟨b2, o2 + k * 10, none⟩ = some (.int .i64 oy.kind) ∧ V.cell? ⟨b2, o2 + k * 10 + 1, none⟩ = some (.string oy.row) ∧ V.cell? ⟨b2, o2 + k * 10 + 2, none⟩ = some (.string oy.fam) ∧ V.cell? ⟨b2, o2 + k * 10 + 3, none⟩ = some (.string oy.qual) ∧ V.cell? ⟨b2, o2 + k * 10 + 4, none⟩ = some (.int .u64 oy.time) ∧ V.cell? ⟨b2, o2 + k * 10 + 5, none⟩ = some (.string oy.to) ∧ V.cell? ⟨b2, o2 + k * 10 + 6, none⟩ = some (.slice oy.va.ao oy.va.n oy.va.cap) ∧ V.cell? ⟨b2, o2 + k * 10 + 7, none⟩ = some (.slice oy.wa.ao oy.wa.n oy.wa.cap) ∧ V.cell? ⟨b2, o2 + k * 10 + 8, none⟩ = some (.bool oy.has) ∧ V.cell? ⟨b2, o2 + k * 10 + 9, none⟩ = some (.slice oy.so oy.sn oy.sc)) := fun V hV => have x := X.below hV; have y := Y.below hV; ⟨(hV.cell (World.block_lt_of_cell? _ _ A9)).trans A9, (hV.cell (World.block_lt_of_cell? _ _ B9)).trans B9, x.c0, x.c1, x.c2, x.c3, x.c4, x.c5, x.c6, x.c7, x.c8, x.c9, y.c0, y.c1, y.c2, y.c3, y.c4, y.c5, y.c6, y.c7, y.c8, y.c9⟩
    refine zB (by kernel_rfl) HS.out fun v0 E0 H0 => ?_
    refine zT 0 (some 64) (.pointer (some ⟨N, 9, none⟩)) rfl rfl (by kernel_rfl) rfl (fun W ⟨h0, h1, h2, h3, h4, h5, h6, h7, h8, h9, h10, h11, h12, h13, h14, h15, h16, h17, h18, h19, h20, h21⟩ => by go_simp) H0 ?_
    simp only [FL]
    refine zT 1 (some 65) (.slice (some ⟨b1, o1, none⟩) a.sn a.sc) rfl rfl (by kernel_rfl) rfl (fun W ⟨h0, h1, h2, h3, h4, h5, h6, h7, h8, h9, h10, h11, h12, h13, h14, h15, h16, h17, h18, h19, h20, h21⟩ => by go_simp) H0 ?_
    simp only [FL]
    refine zT 2 (some 66) (.int .i64 k) rfl rfl (by kernel_rfl) rfl (fun W ⟨h0, h1, h2, h3, h4, h5, h6, h7, h8, h9, h10, h11, h12, h13, h14, h15, h16, h17, h18, h19, h20, h21⟩ => by go_simp) H0 ?_
    simp only [FL]
    refine zT 3 (some 67) (.pointer (some ⟨b1, o1 + k * 10, none⟩)) rfl rfl (by kernel_rfl) rfl (fun W ⟨h0, h1, h2, h3, h4, h5, h6, h7, h8, h9, h10, h11, h12, h13, h14, h15, h16, h17, h18, h19, h20, h21⟩ => by go_simp) H0 ?_
    simp only [FL]
    refine zT 4 (some 68) (.agg #[.int .i64 ox.kind, .string ox.row, .string ox.fam, .string ox.qual, .int .u64 ox.time, .string ox.to, .slice ox.va.ao ox.va.n ox.va.cap, .slice ox.wa.ao ox.wa.n ox.wa.cap, .bool ox.has, .slice ox.so ox.sn ox.sc]) rfl rfl (by kernel_rfl) rfl (fun W ⟨h0, h1, h2, h3, h4, h5, h6, h7, h8, h9, h10, h11, h12, h13, h14, h15, h16, h17, h18, h19, h20, h21⟩ => by go_simp) H0 ?_
    simp only [FL]
    refine zT 5 (some 69) (.pointer (some ⟨N + 1, 9, none⟩)) rfl rfl (by kernel_rfl) rfl (fun W ⟨h0, h1, h2, h3, h4, h5, h6, h7, h8, h9, h10, h11, h12, h13, h14, h15, h16, h17, h18, h19, h20, h21⟩ => by go_simp) H0 ?_
    simp only [FL]
    refine zT 6 (some 70) (.slice (some ⟨b2, o2, none⟩) b.sn b.sc) rfl rfl (by kernel_rfl) rfl (fun W ⟨h0, h1, h2, h3, h4, h5, h6, h7, h8, h9, h10, h11, h12, h13, h14, h15, h16, h17, h18, h19, h20, h21⟩ => by go_simp) H0 ?_
    simp only [FL]
    refine zT 7 (some 71) (.int .i64 k) rfl rfl (by kernel_rfl) rfl (fun W ⟨h0, h1, h2, h3, h4, h5, h6, h7, h8, h9, h10, h11, h12, h13, h14, h15, h16, h17, h18, h19, h20, h21⟩ => by go_simp) H0 ?_
    simp only [FL]
    refine zT 8 (some 72) (.pointer (some ⟨b2, o2 + k * 10, none⟩)) rfl rfl (by kernel_rfl) rfl (fun W ⟨h0, h1, h2, h3, h4, h5, h6, h7, h8, h9, h10, h11, h12, h13, h14, h15, h16, h17, h18, h19, h20, h21⟩ => by go_simp) H0 ?_
    simp only [FL]
    refine zT 9 (some 73) (.agg #[.int .i64 oy.kind, .string oy.row, .string oy.fam, .string oy.qual, .int .u64 oy.time, .string oy.to, .slice oy.va.ao oy.va.n oy.va.cap, .slice oy.wa.ao oy.wa.n oy.wa.cap, .bool oy.has, .slice oy.so oy.sn oy.sc]) rfl rfl (by kernel_rfl) rfl (fun W ⟨h0, h1, h2, h3, h4, h5, h6, h7, h8, h9, h10, h11, h12, h13, h14, h15, h16, h17, h18, h19, h20, h21⟩ => by go_simp) H0 ?_
    simp only [FL]
    refine hr_call_w 10 (some 74) 73 #[.agg #[.int .i64 ox.kind, .string ox.row, .string ox.fam, .string ox.qual, .int .u64 ox.time, .string ox.to, .slice ox.va.ao ox.va.n ox.va.cap, .slice ox.wa.ao ox.wa.n ox.wa.cap, .bool ox.has, .slice ox.so ox.sn ox.sc], .agg #[.int .i64 oy.kind, .string oy.row, .string oy.fam, .string oy.qual, .int .u64 oy.time, .string oy.to, .slice oy.va.ao oy.va.n oy.va.cap, .slice oy.wa.ao oy.wa.n oy.wa.cap, .bool oy.has, .slice oy.so oy.sn oy.sc]] rfl rfl (by kernel_rfl) rfl (by go_simp) (fun v w' => v = .bool true ∧ Below v0.heap.size v0 w') (((show Calls Tryz.prog 73 #[ox.val, oy.val] v0 fun e w' => e = .returned (.bool true) ∧ Below v0.heap.size v0 w' from hs ▸ HCR.out v0 E0)).mono (by
     rintro e w' ⟨rfl, C⟩
     exact ⟨_, rfl, rfl, C⟩)) ?_
    rintro v v1 ⟨rfl, C0⟩
    have E1 := E0.trans (C0.mono E0.size)
    have H1 := HS.out v1 E1
    refine ⟨H1, ?_⟩
    simp only [FL]
    refine zT 11 (some 75) (.bool false) rfl rfl (by kernel_rfl) rfl (fun W ⟨h0, h1, h2, h3, h4, h5, h6, h7, h8, h9, h10, h11, h12, h13, h14, h15, h16, h17, h18, h19, h20, h21⟩ => by go_simp) H1 ?_
    simp only [FL]
    refine wpAnyH_done (by kernel_rfl) ?_ _
    refine NoPanic.normal ?_
    have B6 := B5.trans (E1.mono (by have := B5.size; have := HN.out; omega))
    have D6 := C5.trans (E1.mono C5.size)
    clear HS H0 H1 E0 E1
    go_wp2
    go_roundw
    case rel => exact ⟨k + 1, by omega, by go_num, B6, D6, by rw [HT.out, hs]⟩
    case measure => simp [intOf]; omega
  ·have i6 : (a.sn : Int) ≤ (k : Int) := by omega
   have hz : sameL (sameD d) l m = true := by
    have h := HA.out
    have hbn := HE.out
    rw [List.take_of_length_le (by omega), List.take_of_length_le (by omega)] at h
    exact h
   have HZ : Hid (sameL (sameD d) l m = true) := hz
   clear hz
   have r9 := K5a.cs.c9
   go_wp2
   go_ret
   exact ⟨by rw [hv.out, HZ.out] <;> rfl, by rw [← HN.out]; exact B5⟩
theorem rsame6 : ∀ (d : Nat) (w : World) (x y : OD d), OW w d x → OW w d y → lightD d x = true → lightD d y = true →
  Calls Tryz.prog 73 #[(topD d x).val, (topD d y).val] w fun e w' => e = .returned (.bool (sameD d x y)) ∧ Below w.heap.size w w'
 | 0, _, _, _, _, _, h, _ => by simp [lightD] at h
 | d + 1, w, (a, l), (b, m), hx, hy, lx, ly => by
  have h1 := Bool.and_eq_true_iff.1 lx
  have h2 := Bool.and_eq_true_iff.1 ly
  exact rsame_step d (fun W x y wx wy l1 l2 => rsame6 d W x y wx wy l1 l2) w a b l m hx.1 hy.1 hx.subs hy.subs h1.2 h2.2 (of_decide_eq_true h1.1).2.2.2
end Go.Proofs.YtnbejckdhdbamaaGreat

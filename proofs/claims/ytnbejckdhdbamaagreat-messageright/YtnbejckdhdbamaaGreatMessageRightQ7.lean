/-
  Texts in one: PLeaf.
-/
import Derived.Test.YtnbejckdhdbamaaGreatMessageRightQ6
namespace Go.Proofs.YtnbejckdhdbamaaGreat
open Go.RowKit
def OC (V : World) (p : Nat) (o : OA) : Prop := V.heap[p]? = some (.cells #[.int .i64 o.kind, .string o.row, .string o.fam, .string o.qual, .int .u64 o.time, .string o.to, .slice o.va.ao o.va.n o.va.cap, .slice o.wa.ao o.wa.n o.wa.cap, .bool o.has, .slice o.so o.sn o.sc] 58)
theorem OC.lt {V : World} {p : Nat} {o : OA} (h : OC V p o) : p < V.heap.size := (Array.getElem?_eq_some_iff.1 h).1
theorem OC.below {V V' : World} {p n : Nat} {o : OA} (h : OC V p o) (hb : Below n V V') (hp : p < n) : OC V' p o := (hb.block p hp).trans h
theorem OC.keep {V V' : World} {p : Nat} {o : OA} (h : OC V p o) (hb : Below V.heap.size V V') : OC V' p o := h.below hb h.lt
theorem OC.new (w : World) (o : OA) : OC (w.alloc (.cells #[.int .i64 o.kind, .string o.row, .string o.fam, .string o.qual, .int .u64 o.time, .string o.to, .slice o.va.ao o.va.n o.va.cap, .slice o.wa.ao o.wa.n o.wa.cap, .bool o.has, .slice o.so o.sn o.sc] 58)) w.heap.size o := heap_alloc_new w _
theorem OC.alloc {V : World} {p : Nat} {o : OA} (h : OC V p o) (x : Obj) : OC (V.alloc x) p o := (heap_alloc_old V x h.lt).trans h
structure OCs (V : World) (p : Nat) (o : OA) : Prop where
 c0 : V.cell? ⟨p, 0, none⟩ = some (.int .i64 o.kind)
 c1 : V.cell? ⟨p, 1, none⟩ = some (.string o.row)
 c2 : V.cell? ⟨p, 2, none⟩ = some (.string o.fam)
 c3 : V.cell? ⟨p, 3, none⟩ = some (.string o.qual)
 c4 : V.cell? ⟨p, 4, none⟩ = some (.int .u64 o.time)
 c5 : V.cell? ⟨p, 5, none⟩ = some (.string o.to)
 c6 : V.cell? ⟨p, 6, none⟩ = some (.slice o.va.ao o.va.n o.va.cap)
 c7 : V.cell? ⟨p, 7, none⟩ = some (.slice o.wa.ao o.wa.n o.wa.cap)
 c8 : V.cell? ⟨p, 8, none⟩ = some (.bool o.has)
 c9 : V.cell? ⟨p, 9, none⟩ = some (.slice o.so o.sn o.sc)
theorem OC.cs {V : World} {p : Nat} {o : OA} (h : OC V p o) : OCs V p o :=
 ⟨cell_of_row V p 0 _ _ _ h, cell_of_row V p 1 _ _ _ h, cell_of_row V p 2 _ _ _ h, cell_of_row V p 3 _ _ _ h, cell_of_row V p 4 _ _ _ h, cell_of_row V p 5 _ _ _ h, cell_of_row V p 6 _ _ _ h, cell_of_row V p 7 _ _ _ h, cell_of_row V p 8 _ _ _ h, cell_of_row V p 9 _ _ _ h⟩
theorem OC.fz {V : World} {p : Nat} {o : OA} (h : OC V p o) (i : Nat) : V.frozen? ⟨p, i, none⟩ = false := frozen_of_row V p i _ _ h
set_option maxRecDepth 100000 in
set_option maxHeartbeats 4000000 in
theorem pleaf_5 (w : World) (o : OA) (h : o.ok w) (hk : o.kind = 5) :
  Calls Tryz.prog 124 #[o.val] w fun e w' => e = .returned (.bool (leaf o.s o.sn)) ∧ Below w.heap.size w w' := by
 have l1 := h.va.len
 have l2 := h.wa.len
 have t5 : (o.kind == 5) = true := by simp [hk]
 by_cases hw : ¬ (o.wa.n ≤ 256 ∧ (o.has = true ∨ o.wa.n = 0))
 ·have d1 : decide (o.wa.n ≤ 256 ∧ (o.has = true ∨ o.wa.n = 0)) = false := decide_eq_false hw
  have hv : Hid (leaf o.s o.sn = false) := by
   by_cases c : o.wa.n ≤ 256
   ·refine leaf_noHas hk ?_ ?_
    ·simp at hw; exact hw c |>.1
    ·intro c2
     simp at hw
     exact (hw c).2 ((len_nil h.wa).1 c2)
   ·exact leaf_long (.inr (by show 256 < o.wa.xs.length; omega))
  clear hw l1 l2 h hk
  unfold OA.val
  go_enter Tryz.func124, Tryz.ntmps124
  go_wp2_with (go_at_call 126; refine (pwant_any _ _ _ _ _).mono ?_; rintro e w' ⟨rfl, rfl⟩; rw [d1])
  go_ret
  exact ⟨by rw [hv.out] <;> rfl, ((Below.refl _ w).alloc (Nat.le_refl _) _)⟩
 have hw := Classical.not_not.1 hw
 have d1 : decide (o.wa.n ≤ 256 ∧ (o.has = true ∨ o.wa.n = 0)) = true := decide_eq_true hw
 by_cases hva : ¬ o.va.n ≤ 256
 ·have d2 : decide (o.va.n ≤ 256) = false := decide_eq_false hva
  have hv : Hid (leaf o.s o.sn = false) := leaf_long (.inl (by show 256 < o.va.xs.length; omega))
  clear h hk hva l1 hw l2
  unfold OA.val
  go_enter Tryz.func124, Tryz.ntmps124
  go_wp2_with (first | (go_at_call 126; refine (pwant_any _ _ _ _ _).mono ?_; rintro e w' ⟨rfl, rfl⟩; rw [d1]) | (go_at_call 123; refine (pvalue_any _ _ _ _).mono ?_; rintro e w' ⟨rfl, rfl⟩; rw [d2]))
  go_ret
  exact ⟨by rw [hv.out] <;> rfl, ((Below.refl _ w).alloc (Nat.le_refl _) _)⟩
 have hva := Classical.not_not.1 hva
 have d2 : decide (o.va.n ≤ 256) = true := decide_eq_true hva
 by_cases q : ¬ o.key.isRight = true
 ·have hr : (o.noW.noV.noT).key.kind = 5 := by
   unfold KA.kind
   rw [show (o.noW.noV.noT).key.isRight = o.key.isRight from rfl, if_neg q]
  have hv : Hid (leaf o.s o.sn = false) := leaf_noKey (o := o.s) (.inr (.inr (.inr (.inl hk)))) (Bool.eq_false_iff.2 q)
  clear h hk q l1 l2 hw hva
  unfold OA.val
  go_enter Tryz.func124, Tryz.ntmps124
  go_wp2_with (first | (go_at_call 126; refine (pwant_any _ _ _ _ _).mono ?_; rintro e w' ⟨rfl, rfl⟩; rw [d1]) | (go_at_call 123; refine (pvalue_any _ _ _ _).mono ?_; rintro e w' ⟨rfl, rfl⟩; rw [d2]) | (go_at_call 122; refine (pright_any _ (o.noW.noV.noT).key).mono ?_; rintro e w2 ⟨rfl, C⟩; rw [hr]; have D := ((Below.refl _ w).alloc (Nat.le_refl _) _).trans (C.mono (by simp))))
  go_ret
  exact ⟨by rw [hv.out] <;> rfl, D⟩
 have q := Classical.not_not.1 q
 have hr : (o.noW.noV.noT).key.kind = 0 := by
  unfold KA.kind
  rw [show (o.noW.noV.noT).key.isRight = o.key.isRight from rfl, if_pos q]
 have hv : Hid (leaf o.s o.sn = isAlone (o.noW.noV.noT).noK) := leaf5 h hk hw hva q
 have e0 : o.row.toList.isEmpty = false := by
  rw [toE]
  exact decide_eq_false (by have := of_decide_eq_true q; simp only [OA.key] at this; omega)
 clear q hk l1 l2 hw hva
 unfold OA.val
 go_enter Tryz.func124, Tryz.ntmps124
 go_wp2_with (first
  | (go_at_call 126; refine (pwant_any _ _ _ _ _).mono ?_; rintro e w' ⟨rfl, rfl⟩; rw [d1]) | (go_at_call 123; refine (pvalue_any _ _ _ _).mono ?_; rintro e w' ⟨rfl, rfl⟩; rw [d2]) |  (go_at_call 122; refine (pright_any _ (o.noW.noV.noT).key).mono ?_; rintro e w2 ⟨rfl, C⟩; rw [hr]; have D : Below w.heap.size w w2 := ((Below.refl _ w).alloc (Nat.le_refl _) _).trans (C.mono (by simp)); have K2 : OC w2 w.heap.size (o.noW.noV.noT) := (OC.new w (o.noW.noV.noT)).keep C; obtain ⟨q0, q1, q2, q3, q4, q5, q6, q7, q8, q9⟩ := K2.cs; have f2 := K2.fz 2; have f3 := K2.fz 3; have lt := K2.lt; clear K2 C; have D3 : Below w.heap.size w ((w2.setCell ⟨w.heap.size, 2, none⟩ (.string noTxt)).setCell ⟨w.heap.size, 3, none⟩ (.string noTxt)) := (D.setCell (Nat.le_refl _) _).setCell (Nat.le_refl _) _; have h3 := ((h.below D3).noW.noV.noT).noK; clear h D; simp only [OA.noW, OA.noV, OA.noT, noBs] at q0 q1 q2 q3 q4 q5 q6 q7 q8 q9)
  | (go_at_call 127; refine (palone_any _ (o.noW.noV.noT).noK h3).mono ?_; rintro e w4 ⟨rfl, C4⟩; have D4 := D3.trans (C4.mono D3.size); clear C4))
 go_ret
 exact ⟨by rw [hv.out] <;> rfl, D4⟩
set_option maxRecDepth 100000 in
set_option maxHeartbeats 4000000 in
theorem pleaf_1 (w : World) (o : OA) (h : o.ok w) (hk : o.kind = 1) :
  Calls Tryz.prog 124 #[o.val] w fun e w' => e = .returned (.bool (leaf o.s o.sn)) ∧ Below w.heap.size w w' := by
 have l1 := h.va.len
 have t5 : (o.kind == 5) = false := by simp [hk]
 have t1 : (o.kind == 1) = true := by simp [hk]
 by_cases hva : ¬ o.va.n ≤ 256
 ·have d2 : decide (o.va.n ≤ 256) = false := decide_eq_false hva
  have hv : Hid (leaf o.s o.sn = false) := leaf_long (.inl (by show 256 < o.va.xs.length; omega))
  clear h hk hva l1 
  unfold OA.val
  go_enter Tryz.func124, Tryz.ntmps124
  go_wp2_with (first | (go_at_call 123; refine (pvalue_any _ _ _ _).mono ?_; rintro e w' ⟨rfl, rfl⟩; rw [d2]))
  go_ret
  exact ⟨by rw [hv.out] <;> rfl, ((Below.refl _ w).alloc (Nat.le_refl _) _)⟩
 have hva := Classical.not_not.1 hva
 have d2 : decide (o.va.n ≤ 256) = true := decide_eq_true hva
 by_cases q : ¬ o.key.isRight = true
 ·have hr : (o.noV.noT).key.kind = 5 := by
   unfold KA.kind
   rw [show (o.noV.noT).key.isRight = o.key.isRight from rfl, if_neg q]
  have hv : Hid (leaf o.s o.sn = false) := leaf_noKey (o := o.s) (.inl hk) (Bool.eq_false_iff.2 q)
  clear h hk q l1 hva
  unfold OA.val
  go_enter Tryz.func124, Tryz.ntmps124
  go_wp2_with (first | (go_at_call 123; refine (pvalue_any _ _ _ _).mono ?_; rintro e w' ⟨rfl, rfl⟩; rw [d2]) | (go_at_call 122; refine (pright_any _ (o.noV.noT).key).mono ?_; rintro e w2 ⟨rfl, C⟩; rw [hr]; have D := ((Below.refl _ w).alloc (Nat.le_refl _) _).trans (C.mono (by simp))))
  go_ret
  exact ⟨by rw [hv.out] <;> rfl, D⟩
 have q := Classical.not_not.1 q
 have hr : (o.noV.noT).key.kind = 0 := by
  unfold KA.kind
  rw [show (o.noV.noT).key.isRight = o.key.isRight from rfl, if_pos q]
 have hv : Hid (leaf o.s o.sn = isAlone (o.noV.noT).noK) := leaf1 h hk hva q
 have e0 : o.row.toList.isEmpty = false := by
  rw [toE]
  exact decide_eq_false (by have := of_decide_eq_true q; simp only [OA.key] at this; omega)
 clear q hk l1 hva
 unfold OA.val
 go_enter Tryz.func124, Tryz.ntmps124
 go_wp2_with (first
  | (go_at_call 123; refine (pvalue_any _ _ _ _).mono ?_; rintro e w' ⟨rfl, rfl⟩; rw [d2]) |  (go_at_call 122; refine (pright_any _ (o.noV.noT).key).mono ?_; rintro e w2 ⟨rfl, C⟩; rw [hr]; have D : Below w.heap.size w w2 := ((Below.refl _ w).alloc (Nat.le_refl _) _).trans (C.mono (by simp)); have K2 : OC w2 w.heap.size (o.noV.noT) := (OC.new w (o.noV.noT)).keep C; obtain ⟨q0, q1, q2, q3, q4, q5, q6, q7, q8, q9⟩ := K2.cs; have f2 := K2.fz 2; have f3 := K2.fz 3; have lt := K2.lt; clear K2 C; have D3 : Below w.heap.size w ((w2.setCell ⟨w.heap.size, 2, none⟩ (.string noTxt)).setCell ⟨w.heap.size, 3, none⟩ (.string noTxt)) := (D.setCell (Nat.le_refl _) _).setCell (Nat.le_refl _) _; have h3 := ((h.below D3).noV.noT).noK; clear h D; simp only [OA.noV, OA.noT, noBs] at q0 q1 q2 q3 q4 q5 q6 q7 q8 q9)
  | (go_at_call 127; refine (palone_any _ (o.noV.noT).noK h3).mono ?_; rintro e w4 ⟨rfl, C4⟩; have D4 := D3.trans (C4.mono D3.size); clear C4))
 go_ret
 exact ⟨by rw [hv.out] <;> rfl, D4⟩
set_option maxRecDepth 100000 in
set_option maxHeartbeats 4000000 in
theorem pleaf_2 (w : World) (o : OA) (h : o.ok w) (hk : o.kind = 2) :
  Calls Tryz.prog 124 #[o.val] w fun e w' => e = .returned (.bool (leaf o.s o.sn)) ∧ Below w.heap.size w w' := by
 have t5 : (o.kind == 5) = false := by simp [hk]
 have t1 : (o.kind == 1) = false := by simp [hk]
 have t2 : (o.kind == 2) = true := by simp [hk]
 by_cases q : ¬ o.key.isRight = true
 ·have hr : (o.noT).key.kind = 5 := by
   unfold KA.kind
   rw [show (o.noT).key.isRight = o.key.isRight from rfl, if_neg q]
  have hv : Hid (leaf o.s o.sn = false) := leaf_noKey (o := o.s) (.inr (.inl hk)) (Bool.eq_false_iff.2 q)
  clear h hk q 
  unfold OA.val
  go_enter Tryz.func124, Tryz.ntmps124
  go_wp2_with (first | (go_at_call 122; refine (pright_any _ (o.noT).key).mono ?_; rintro e w2 ⟨rfl, C⟩; rw [hr]; have D := ((Below.refl _ w).alloc (Nat.le_refl _) _).trans (C.mono (by simp))))
  go_ret
  exact ⟨by rw [hv.out] <;> rfl, D⟩
 have q := Classical.not_not.1 q
 have hr : (o.noT).key.kind = 0 := by
  unfold KA.kind
  rw [show (o.noT).key.isRight = o.key.isRight from rfl, if_pos q]
 have hv : Hid (leaf o.s o.sn = isAlone (o.noT).noK) := leaf2 hk q
 have e0 : o.row.toList.isEmpty = false := by
  rw [toE]
  exact decide_eq_false (by have := of_decide_eq_true q; simp only [OA.key] at this; omega)
 clear q hk 
 unfold OA.val
 go_enter Tryz.func124, Tryz.ntmps124
 go_wp2_with (first
  |  (go_at_call 122; refine (pright_any _ (o.noT).key).mono ?_; rintro e w2 ⟨rfl, C⟩; rw [hr]; have D : Below w.heap.size w w2 := ((Below.refl _ w).alloc (Nat.le_refl _) _).trans (C.mono (by simp)); have K2 : OC w2 w.heap.size (o.noT) := (OC.new w (o.noT)).keep C; obtain ⟨q0, q1, q2, q3, q4, q5, q6, q7, q8, q9⟩ := K2.cs; have f2 := K2.fz 2; have f3 := K2.fz 3; have lt := K2.lt; clear K2 C; have D3 : Below w.heap.size w ((w2.setCell ⟨w.heap.size, 2, none⟩ (.string noTxt)).setCell ⟨w.heap.size, 3, none⟩ (.string noTxt)) := (D.setCell (Nat.le_refl _) _).setCell (Nat.le_refl _) _; have h3 := ((h.below D3).noT).noK; clear h D; simp only [OA.noT] at q0 q1 q2 q3 q4 q5 q6 q7 q8 q9)
  | (go_at_call 127; refine (palone_any _ (o.noT).noK h3).mono ?_; rintro e w4 ⟨rfl, C4⟩; have D4 := D3.trans (C4.mono D3.size); clear C4))
 go_ret
 exact ⟨by rw [hv.out] <;> rfl, D4⟩
set_option maxRecDepth 100000 in
set_option maxHeartbeats 4000000 in
theorem pleaf_3 (w : World) (o : OA) (h : o.ok w) (hk : o.kind = 3) :
  Calls Tryz.prog 124 #[o.val] w fun e w' => e = .returned (.bool (leaf o.s o.sn)) ∧ Below w.heap.size w w' := by
 have t5 : (o.kind == 5) = false := by simp [hk]
 have t1 : (o.kind == 1) = false := by simp [hk]
 have t2 : (o.kind == 2) = false := by simp [hk]
 have t3 : (o.kind == 3) = true := by simp [hk]
 by_cases q : ¬ o.key.isRight = true
 ·have hr : (o).key.kind = 5 := by
   unfold KA.kind
   rw [show (o).key.isRight = o.key.isRight from rfl, if_neg q]
  have hv : Hid (leaf o.s o.sn = false) := leaf_noKey (o := o.s) (.inr (.inr (.inl hk))) (Bool.eq_false_iff.2 q)
  clear h hk q 
  unfold OA.val
  go_enter Tryz.func124, Tryz.ntmps124
  go_wp2_with (first | (go_at_call 122; refine (pright_any _ (o).key).mono ?_; rintro e w2 ⟨rfl, C⟩; rw [hr]; have D := ((Below.refl _ w).alloc (Nat.le_refl _) _).trans (C.mono (by simp))))
  go_ret
  exact ⟨by rw [hv.out] <;> rfl, D⟩
 have q := Classical.not_not.1 q
 have hr : (o).key.kind = 0 := by
  unfold KA.kind
  rw [show (o).key.isRight = o.key.isRight from rfl, if_pos q]
 have hv : Hid (leaf o.s o.sn = isAlone (o).noK) := leaf37 (.inl hk) q
 have e0 : o.row.toList.isEmpty = false := by
  rw [toE]
  exact decide_eq_false (by have := of_decide_eq_true q; simp only [OA.key] at this; omega)
 clear q hk 
 unfold OA.val
 go_enter Tryz.func124, Tryz.ntmps124
 go_wp2_with (first
  |  (go_at_call 122; refine (pright_any _ (o).key).mono ?_; rintro e w2 ⟨rfl, C⟩; rw [hr]; have D : Below w.heap.size w w2 := ((Below.refl _ w).alloc (Nat.le_refl _) _).trans (C.mono (by simp)); have K2 : OC w2 w.heap.size (o) := (OC.new w (o)).keep C; obtain ⟨q0, q1, q2, q3, q4, q5, q6, q7, q8, q9⟩ := K2.cs; have f2 := K2.fz 2; have f3 := K2.fz 3; have lt := K2.lt; clear K2 C; have D3 : Below w.heap.size w ((w2.setCell ⟨w.heap.size, 2, none⟩ (.string noTxt)).setCell ⟨w.heap.size, 3, none⟩ (.string noTxt)) := (D.setCell (Nat.le_refl _) _).setCell (Nat.le_refl _) _; have h3 := ((h.below D3)).noK; clear h D)
  | (go_at_call 127; refine (palone_any _ (o).noK h3).mono ?_; rintro e w4 ⟨rfl, C4⟩; have D4 := D3.trans (C4.mono D3.size); clear C4))
 go_ret
 exact ⟨by rw [hv.out] <;> rfl, D4⟩
set_option maxRecDepth 100000 in
set_option maxHeartbeats 4000000 in
theorem pleaf_7 (w : World) (o : OA) (h : o.ok w) (hk : o.kind = 7) :
  Calls Tryz.prog 124 #[o.val] w fun e w' => e = .returned (.bool (leaf o.s o.sn)) ∧ Below w.heap.size w w' := by
 have t5 : (o.kind == 5) = false := by simp [hk]
 have t1 : (o.kind == 1) = false := by simp [hk]
 have t2 : (o.kind == 2) = false := by simp [hk]
 have t3 : (o.kind == 3) = false := by simp [hk]
 have t7 : (o.kind == 7) = true := by simp [hk]
 by_cases q : ¬ o.key.isRight = true
 ·have hr : (o).key.kind = 5 := by
   unfold KA.kind
   rw [show (o).key.isRight = o.key.isRight from rfl, if_neg q]
  have hv : Hid (leaf o.s o.sn = false) := leaf_noKey (o := o.s) (.inr (.inr (.inr (.inr hk)))) (Bool.eq_false_iff.2 q)
  clear h hk q 
  unfold OA.val
  go_enter Tryz.func124, Tryz.ntmps124
  go_wp2_with (first | (go_at_call 122; refine (pright_any _ (o).key).mono ?_; rintro e w2 ⟨rfl, C⟩; rw [hr]; have D := ((Below.refl _ w).alloc (Nat.le_refl _) _).trans (C.mono (by simp))))
  go_ret
  exact ⟨by rw [hv.out] <;> rfl, D⟩
 have q := Classical.not_not.1 q
 have hr : (o).key.kind = 0 := by
  unfold KA.kind
  rw [show (o).key.isRight = o.key.isRight from rfl, if_pos q]
 have hv : Hid (leaf o.s o.sn = isAlone (o).noK) := leaf37 (.inr hk) q
 have e0 : o.row.toList.isEmpty = false := by
  rw [toE]
  exact decide_eq_false (by have := of_decide_eq_true q; simp only [OA.key] at this; omega)
 clear q hk 
 unfold OA.val
 go_enter Tryz.func124, Tryz.ntmps124
 go_wp2_with (first
  |  (go_at_call 122; refine (pright_any _ (o).key).mono ?_; rintro e w2 ⟨rfl, C⟩; rw [hr]; have D : Below w.heap.size w w2 := ((Below.refl _ w).alloc (Nat.le_refl _) _).trans (C.mono (by simp)); have K2 : OC w2 w.heap.size (o) := (OC.new w (o)).keep C; obtain ⟨q0, q1, q2, q3, q4, q5, q6, q7, q8, q9⟩ := K2.cs; have f2 := K2.fz 2; have f3 := K2.fz 3; have lt := K2.lt; clear K2 C; have D3 : Below w.heap.size w ((w2.setCell ⟨w.heap.size, 2, none⟩ (.string noTxt)).setCell ⟨w.heap.size, 3, none⟩ (.string noTxt)) := (D.setCell (Nat.le_refl _) _).setCell (Nat.le_refl _) _; have h3 := ((h.below D3)).noK; clear h D)
  | (go_at_call 127; refine (palone_any _ (o).noK h3).mono ?_; rintro e w4 ⟨rfl, C4⟩; have D4 := D3.trans (C4.mono D3.size); clear C4))
 go_ret
 exact ⟨by rw [hv.out] <;> rfl, D4⟩
set_option maxRecDepth 100000 in
set_option maxHeartbeats 4000000 in
theorem pleaf_4 (w : World) (o : OA) (h : o.ok w) (hk : o.kind = 4) :
  Calls Tryz.prog 124 #[o.val] w fun e w' => e = .returned (.bool (leaf o.s o.sn)) ∧ Below w.heap.size w w' := by
 have t5 : (o.kind == 5) = false := by simp [hk]
 have t1 : (o.kind == 1) = false := by simp [hk]
 have t2 : (o.kind == 2) = false := by simp [hk]
 have t3 : (o.kind == 3) = false := by simp [hk]
 have t7 : (o.kind == 7) = false := by simp [hk]
 have t4 : (o.kind == 4) = true := by simp [hk]
 by_cases q : o.row.size = 0
 ·have e0 : o.row.toList.isEmpty = true := by
   rw [toE]
   exact decide_eq_true q
  have hv : Hid (leaf o.s o.sn = false) := leaf_noRow (.inl hk) q
  clear h hk q
  unfold OA.val
  go_enter Tryz.func124, Tryz.ntmps124
  go_wp2
  go_ret
  exact ⟨by rw [hv.out] <;> rfl, ((Below.refl _ w).alloc (Nat.le_refl _) _)⟩
 have e0 : o.row.toList.isEmpty = false := by
  rw [toE]
  exact decide_eq_false q
 have hv : Hid (leaf o.s o.sn = isAlone o) := leaf4 hk q
 have D3 : Below w.heap.size w (w.alloc (Obj.cells o.cells.toArray 58)) := ((Below.refl _ w).alloc (Nat.le_refl _) _)
 have h3 := h.below D3
 clear h hk q
 unfold OA.val
 go_enter Tryz.func124, Tryz.ntmps124
 go_wp2_with (go_at_call 127; refine (palone_any _ o h3).mono ?_; rintro e w4 ⟨rfl, C4⟩; have D4 := D3.trans (C4.mono D3.size); clear C4)
 go_ret
 exact ⟨by rw [hv.out] <;> rfl, D4⟩
set_option maxRecDepth 100000 in
set_option maxHeartbeats 4000000 in
theorem pleaf_8 (w : World) (o : OA) (h : o.ok w) (hk : o.kind = 8) :
  Calls Tryz.prog 124 #[o.val] w fun e w' => e = .returned (.bool (leaf o.s o.sn)) ∧ Below w.heap.size w w' := by
 have t5 : (o.kind == 5) = false := by simp [hk]
 have t1 : (o.kind == 1) = false := by simp [hk]
 have t2 : (o.kind == 2) = false := by simp [hk]
 have t3 : (o.kind == 3) = false := by simp [hk]
 have t7 : (o.kind == 7) = false := by simp [hk]
 have t4 : (o.kind == 4) = false := by simp [hk]
 have t6 : (o.kind == 6) = false := by simp [hk]
 have t8 : (o.kind == 8) = true := by simp [hk]
 by_cases q : ¬ o.to.size ≤ 32
 ·have i : decide ((32 : Int) < (o.to.size : Int)) = true := by simp; omega
  have hv : Hid (leaf o.s o.sn = false) := leaf_noTo hk (by show 32 < o.to.size; omega)
  clear h hk q
  unfold OA.val
  go_enter Tryz.func124, Tryz.ntmps124
  go_wp2
  go_ret
  exact ⟨by rw [hv.out] <;> rfl, ((Below.refl _ w).alloc (Nat.le_refl _) _)⟩
 have q := Classical.not_not.1 q
 have i : decide ((32 : Int) < (o.to.size : Int)) = false := by simp; omega
 have hv : Hid (leaf o.s o.sn = isAlone o.noTo) := leaf8 hk q
 have D3 : Below w.heap.size w (w.alloc (Obj.cells o.noTo.cells.toArray 58)) := ((Below.refl _ w).alloc (Nat.le_refl _) _)
 have h3 := (h.below D3).noTo
 clear h hk q
 unfold OA.val
 go_enter Tryz.func124, Tryz.ntmps124
 go_wp2_with (go_at_call 127; refine (palone_any _ o.noTo h3).mono ?_; rintro e w4 ⟨rfl, C4⟩; have D4 := D3.trans (C4.mono D3.size); clear C4)
 go_ret
 exact ⟨by rw [hv.out] <;> rfl, D4⟩
set_option maxRecDepth 100000 in
set_option maxHeartbeats 4000000 in
theorem pleaf_0 (w : World) (o : OA) (hk : o.kind < 1 ∨ 8 < o.kind) :
  Calls Tryz.prog 124 #[o.val] w fun e w' => e = .returned (.bool (leaf o.s o.sn)) ∧ Below w.heap.size w w' := by
 have t5 : (o.kind == 5) = false := by simp; omega
 have t1 : (o.kind == 1) = false := by simp; omega
 have t2 : (o.kind == 2) = false := by simp; omega
 have t3 : (o.kind == 3) = false := by simp; omega
 have t7 : (o.kind == 7) = false := by simp; omega
 have t4 : (o.kind == 4) = false := by simp; omega
 have t6 : (o.kind == 6) = false := by simp; omega
 have t8 : (o.kind == 8) = false := by simp; omega
 have hv : Hid (leaf o.s o.sn = false) := leaf_noKind hk
 clear hk
 unfold OA.val
 go_enter Tryz.func124, Tryz.ntmps124
 go_wp2
 go_ret
 exact ⟨by rw [hv.out] <;> rfl, ((Below.refl _ w).alloc (Nat.le_refl _) _)⟩
theorem pleaf_any (w : World) (o : OA) (h : o.ok w) (hk : o.kind ≠ 6) :
  Calls Tryz.prog 124 #[o.val] w fun e w' => e = .returned (.bool (leaf o.s o.sn)) ∧ Below w.heap.size w w' := by
 by_cases c0 : o.kind < 1 ∨ 8 < o.kind
 ·exact pleaf_0 w o c0
 ·have : o.kind = 1 ∨ o.kind = 2 ∨ o.kind = 3 ∨ o.kind = 4 ∨ o.kind = 5 ∨ o.kind = 7 ∨ o.kind = 8 := by omega
  rcases this with c | c | c | c | c | c | c
  ·exact pleaf_1 w o h c
  ·exact pleaf_2 w o h c
  ·exact pleaf_3 w o h c
  ·exact pleaf_4 w o h c
  ·exact pleaf_5 w o h c
  ·exact pleaf_7 w o h c
  ·exact pleaf_8 w o h c
end Go.Proofs.YtnbejckdhdbamaaGreat

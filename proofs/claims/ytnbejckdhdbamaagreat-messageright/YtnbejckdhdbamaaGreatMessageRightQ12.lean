/-
  Texts in one: PSameD, MgPSame, MgPSame2.
-/
import Derived.Test.YtnbejckdhdbamaaGreatMessageRightQ5
import Derived.Test.YtnbejckdhdbamaaGreatMessageRightQ11
import Derived.Test.YtnbejckdhdbamaaGreatMessageRightQ0
import Derived.Test.YtnbejckdhdbamaaGreatMessageRightQ1
import Derived.Test.YtnbejckdhdbamaaGreatMessageRightQ4
import Derived.Laws.StructEq
namespace Go.Proofs.YtnbejckdhdbamaaGreat
open Go.RowKit
set_option maxRecDepth 100000 in
set_option maxHeartbeats 4000000 in
theorem psame_with (w : World) (a b : OA) (ha : a.ok w) (hb : b.ok w) (S : Bool) (hS : ∀ V, Below w.heap.size w V → Calls Tryz.prog 105 #[.slice a.so a.sn a.sc, .slice b.so b.sn b.sc, .func (.func 68) #[] #[]] V fun e w' => e = .returned (.bool S) ∧ Below V.heap.size V w') :
  Calls Tryz.prog 68 #[a.val, b.val] w fun e w' => e = .returned (.bool (sameS a.s b.s && S)) ∧ Below w.heap.size w w' := by
 have B : Below w.heap.size w ((w.alloc (Obj.cells a.cells.toArray 58)).alloc (Obj.cells b.cells.toArray 58)) := ((Below.refl _ w).alloc (Nat.le_refl _) _).alloc (by simp) _
 unfold OA.cells at B
 unfold OA.val
 have CE := hS _ B
 have Va := ha.va.below B
 have Vb := hb.va.below B
 have Wa := ha.wa.below B
 have Wb := hb.wa.below B
 clear ha hb
 by_cases e0 : ¬ (a.kind = b.kind)
 ·have i0 : (a.kind == b.kind) = false := by simp [e0]
  have hv : Hid ((sameS a.s b.s && S) = false) := by
   show _ = _
   rw [show sameS a.s b.s = false from decide_eq_false fun h => e0 h.1]
   rfl
  clear e0
  clear Va Vb Wa Wb CE
  go_enter Tryz.func68, Tryz.ntmps68
  go_wp2
  go_ret
  exact ⟨by rw [hv.out] <;> rfl, B⟩
 have e0 := Classical.not_not.1 e0
 have i0 : (a.kind == b.kind) = true := by simp [e0]
 by_cases e1 : ¬ (a.row = b.row)
 ·have i1 : (a.row.toList == b.row.toList) = false := toL_ne e1
  have hv : Hid ((sameS a.s b.s && S) = false) := by
   show _ = _
   rw [show sameS a.s b.s = false from decide_eq_false fun h => e1 h.2.1]
   rfl
  clear e0 e1
  clear Va Vb Wa Wb CE
  go_enter Tryz.func68, Tryz.ntmps68
  go_wp2
  go_ret
  exact ⟨by rw [hv.out] <;> rfl, B⟩
 have e1 := Classical.not_not.1 e1
 have i1 : (a.row.toList == b.row.toList) = true := by rw [e1]; exact beq_self_eq_true _
 by_cases e2 : ¬ (a.fam = b.fam)
 ·have i2 : (a.fam.toList == b.fam.toList) = false := toL_ne e2
  have hv : Hid ((sameS a.s b.s && S) = false) := by
   show _ = _
   rw [show sameS a.s b.s = false from decide_eq_false fun h => e2 h.2.2.1]
   rfl
  clear e0 e1 e2
  clear Va Vb Wa Wb CE
  go_enter Tryz.func68, Tryz.ntmps68
  go_wp2
  go_ret
  exact ⟨by rw [hv.out] <;> rfl, B⟩
 have e2 := Classical.not_not.1 e2
 have i2 : (a.fam.toList == b.fam.toList) = true := by rw [e2]; exact beq_self_eq_true _
 by_cases e3 : ¬ (a.qual = b.qual)
 ·have i3 : (a.qual.toList == b.qual.toList) = false := toL_ne e3
  have hv : Hid ((sameS a.s b.s && S) = false) := by
   show _ = _
   rw [show sameS a.s b.s = false from decide_eq_false fun h => e3 h.2.2.2.1]
   rfl
  clear e0 e1 e2 e3
  clear Va Vb Wa Wb CE
  go_enter Tryz.func68, Tryz.ntmps68
  go_wp2
  go_ret
  exact ⟨by rw [hv.out] <;> rfl, B⟩
 have e3 := Classical.not_not.1 e3
 have i3 : (a.qual.toList == b.qual.toList) = true := by rw [e3]; exact beq_self_eq_true _
 by_cases e4 : ¬ (a.time = b.time)
 ·have i4 : ((a.time : Int) == (b.time : Int)) = false := by simp; omega
  have hv : Hid ((sameS a.s b.s && S) = false) := by
   show _ = _
   rw [show sameS a.s b.s = false from decide_eq_false fun h => e4 h.2.2.2.2.1]
   rfl
  clear e0 e1 e2 e3 e4
  clear Va Vb Wa Wb CE
  go_enter Tryz.func68, Tryz.ntmps68
  go_wp2
  go_ret
  exact ⟨by rw [hv.out] <;> rfl, B⟩
 have e4 := Classical.not_not.1 e4
 have i4 : ((a.time : Int) == (b.time : Int)) = true := by simp [e4]
 by_cases e5 : ¬ (a.to = b.to)
 ·have i5 : (a.to.toList == b.to.toList) = false := toL_ne e5
  have hv : Hid ((sameS a.s b.s && S) = false) := by
   show _ = _
   rw [show sameS a.s b.s = false from decide_eq_false fun h => e5 h.2.2.2.2.2.1]
   rfl
  clear e0 e1 e2 e3 e4 e5
  clear Va Vb Wa Wb CE
  go_enter Tryz.func68, Tryz.ntmps68
  go_wp2
  go_ret
  exact ⟨by rw [hv.out] <;> rfl, B⟩
 have e5 := Classical.not_not.1 e5
 have i5 : (a.to.toList == b.to.toList) = true := by rw [e5]; exact beq_self_eq_true _
 by_cases e6 : ¬ (a.has = b.has)
 ·have i6 : (a.has == b.has) = false := by simp [e6]
  have hv : Hid ((sameS a.s b.s && S) = false) := by
   show _ = _
   rw [show sameS a.s b.s = false from decide_eq_false fun h => e6 h.2.2.2.2.2.2.2.2]
   rfl
  clear e0 e1 e2 e3 e4 e5 e6
  clear Va Vb Wa Wb CE
  go_enter Tryz.func68, Tryz.ntmps68
  go_wp2
  go_ret
  exact ⟨by rw [hv.out] <;> rfl, B⟩
 have e6 := Classical.not_not.1 e6
 have i6 : (a.has == b.has) = true := by simp [e6]
 by_cases e7 : ¬ (a.va.xs = b.va.xs)
 ·have dV : decide (a.va.xs = b.va.xs) = false := decide_eq_false e7
  have hv : Hid ((sameS a.s b.s && S) = false) := by
   show _ = _
   rw [show sameS a.s b.s = false from decide_eq_false fun h => e7 h.2.2.2.2.2.2.1]
   rfl
  clear e0 e1 e2 e3 e4 e5 e6 e7
  go_enter Tryz.func68, Tryz.ntmps68
  go_wp2_with (first | (go_at_call 26; refine (pequal_any _ _ _ _ _ _ _ _ _ Va Vb).mono ?_; rintro e w' ⟨rfl, rfl⟩; rw [dV]; clear Va Vb))
  go_ret
  exact ⟨by rw [hv.out] <;> rfl, B⟩
 have e7 := Classical.not_not.1 e7
 have dV : decide (a.va.xs = b.va.xs) = true := decide_eq_true e7
 by_cases e8 : ¬ (a.wa.xs = b.wa.xs)
 ·have dW : decide (a.wa.xs = b.wa.xs) = false := decide_eq_false e8
  have hv : Hid ((sameS a.s b.s && S) = false) := by
   show _ = _
   rw [show sameS a.s b.s = false from decide_eq_false fun h => e8 h.2.2.2.2.2.2.2.1]
   rfl
  clear e0 e1 e2 e3 e4 e5 e6 e7 e8
  go_enter Tryz.func68, Tryz.ntmps68
  go_wp2_with (first | (go_at_call 26; refine (pequal_any _ _ _ _ _ _ _ _ _ Va Vb).mono ?_; rintro e w' ⟨rfl, rfl⟩; rw [dV]; clear Va Vb) | (go_at_call 26; refine (pequal_any _ _ _ _ _ _ _ _ _ Wa Wb).mono ?_; rintro e w' ⟨rfl, rfl⟩; rw [dW]))
  go_ret
  exact ⟨by rw [hv.out] <;> rfl, B⟩
 have e8 := Classical.not_not.1 e8
 have dW : decide (a.wa.xs = b.wa.xs) = true := decide_eq_true e8
 have hv : Hid ((sameS a.s b.s && S) = S) := by
  show _ = _
  rw [show sameS a.s b.s = true from decide_eq_true ⟨e0, e1, e2, e3, e4, e5, e7, e8, e6⟩]
  rfl
 clear e0 e1 e2 e3 e4 e5 e6 e7 e8
 go_enter Tryz.func68, Tryz.ntmps68
 go_wp2_with (first | (go_at_call 26; refine (pequal_any _ _ _ _ _ _ _ _ _ Va Vb).mono ?_; rintro e w' ⟨rfl, rfl⟩; rw [dV]; clear Va Vb) | (go_at_call 26; refine (pequal_any _ _ _ _ _ _ _ _ _ Wa Wb).mono ?_; rintro e w' ⟨rfl, rfl⟩; rw [dW]) | (go_at_call 105; refine CE.mono ?_; rintro e w5 ⟨rfl, E5⟩))
 go_ret
 exact ⟨by rw [hv.out] <;> rfl, B.trans (E5.mono B.size)⟩
theorem OW.parts {w : World} {d : Nat} {x : OD (d + 1)} (h : OW w (d + 1) x) : OWL w d (show OA × List (OD d) from x).1.so (show OA × List (OD d) from x).1.sn (show OA × List (OD d) from x).1.sc (show OA × List (OD d) from x).2 :=
 ⟨h.2.1, h.1.le, h.1.mx, h.1.nil, h.2.2.1, h.2.2.2⟩
theorem psame_d : ∀ (d : Nat) (w : World) (x y : OD d), OW w d x → OW w d y → lightD d x = true → lightD d y = true →
  Calls Tryz.prog 68 #[(topD d x).val, (topD d y).val] w fun e w' => e = .returned (.bool (sameD d x y)) ∧ Below w.heap.size w w'
 | 0, _, _, _, _, _, h, _ => by cases h
 | d + 1, w, x, y, hx, hy, lx, ly => by
  have lx2 : ∀ z ∈ (show OA × List (OD d) from x).2, lightD d z = true := fun z hz => by
   have h : (fitsL (show OA × List (OD d) from x).1 && (show OA × List (OD d) from x).2.all (lightD d)) = true := lx
   rw [Bool.and_eq_true, List.all_eq_true] at h
   exact h.2 z hz
  have ly2 : ∀ z ∈ (show OA × List (OD d) from y).2, lightD d z = true := fun z hz => by
   have h : (fitsL (show OA × List (OD d) from y).1 && (show OA × List (OD d) from y).2.all (lightD d)) = true := ly
   rw [Bool.and_eq_true, List.all_eq_true] at h
   exact h.2 z hz
  have px := hx.parts
  have py := hy.parts
  refine psame_with w _ _ hx.1 hy.1 (sameL (sameD d) (show OA × List (OD d) from x).2 (show OA × List (OD d) from y).2) fun V hV => ?_
  exact eqfO_any d V _ _ _ _ _ _ _ _ (px.below hV) (py.below hV) (sameD d) (by have h := px.len; have h2 : fitsL (show OA × List (OD d) from x).1 = true := by { have h : (fitsL (show OA × List (OD d) from x).1 && (show OA × List (OD d) from x).2.all (lightD d)) = true := lx; rw [Bool.and_eq_true] at h; exact h.1 }; unfold fitsL at h2; rw [decide_eq_true_eq] at h2; omega) fun U hU a ha b hb => psame_d d U a b (((px.below hV).below hU).ok a ha) (((py.below hV).below hU).ok b hb) (lx2 a ha) (ly2 b hb)
open Go.RowKit
def sgE (s u : SA) : Bool := decide (s.fr = u.fr) && (decide (s.b.xs = u.b.xs) && decide (s.tag.xs = u.tag.xs))
set_option maxRecDepth 100000 in
set_option maxHeartbeats 4000000 in
theorem sgE_any (w : World) (s u : SA) (hs : s.ok w) (hu : u.ok w) :
  Calls Tryz.prog 71 #[.agg #[.int .u64 s.fr, .slice s.b.ao s.b.n s.b.cap, .slice s.tag.ao s.tag.n s.tag.cap], .agg #[.int .u64 u.fr, .slice u.b.ao u.b.n u.b.cap, .slice u.tag.ao u.tag.n u.tag.cap]] w fun e w' => e = .returned (.bool (sgE s u)) ∧ Below w.heap.size w w' := by
 have B : Below w.heap.size w ((w.alloc (.cells #[.int .u64 s.fr, .slice s.b.ao s.b.n s.b.cap, .slice s.tag.ao s.tag.n s.tag.cap] 112)).alloc (.cells #[.int .u64 u.fr, .slice u.b.ao u.b.n u.b.cap, .slice u.tag.ao u.tag.n u.tag.cap] 112)) := ((Below.refl _ w).alloc (Nat.le_refl _) _).alloc (by simp) _
 have Va := hs.b.below B
 have Vb := hu.b.below B
 have Wa := hs.tag.below B
 have Wb := hu.tag.below B
 have CV := pequal_any _ _ _ _ _ _ _ _ _ Va Vb
 have CW := pequal_any _ _ _ _ _ _ _ _ _ Wa Wb
 obtain ⟨d1, hd1⟩ : ∃ v, v = decide (s.b.xs = u.b.xs) := ⟨_, rfl⟩
 obtain ⟨d2, hd2⟩ : ∃ v, v = decide (s.tag.xs = u.tag.xs) := ⟨_, rfl⟩
 rw [← hd1] at CV
 rw [← hd2] at CW
 have HE : Hid (sgE s u = (decide (s.fr = u.fr) && (d1 && d2))) := by show _ = _; unfold sgE; rw [hd1, hd2]
 rw [HE.out]
 clear Va Vb Wa Wb hd1 hd2 hs hu HE
 by_cases e0 : s.fr = u.fr
 ·have i0 : ((s.fr : Int) == (u.fr : Int)) = true := by simp [e0]
  rw [decide_eq_true e0]
  clear e0
  cases d1 with
  | true =>
   go_enter Tryz.func71, Tryz.ntmps71
   go_wp2_with (first | (go_at_call 26; refine CV.mono ?_; rintro e w' ⟨rfl, rfl⟩; clear CV) | (go_at_call 26; refine CW.mono ?_; rintro e w' ⟨rfl, rfl⟩))
   go_ret
   exact ⟨by first | rfl | simp, B⟩
  | false =>
   go_enter Tryz.func71, Tryz.ntmps71
   go_wp2_with (first | (go_at_call 26; refine CV.mono ?_; rintro e w' ⟨rfl, rfl⟩; clear CV))
   go_ret
   exact ⟨by first | rfl | simp, B⟩
 ·have i0 : ((s.fr : Int) == (u.fr : Int)) = false := by simp; omega
  rw [decide_eq_false e0]
  clear e0 CV CW
  go_enter Tryz.func71, Tryz.ntmps71
  go_wp2
  go_ret
  exact ⟨by first | rfl | simp, B⟩
theorem sameTexts_any (w : World) (ao bo : Option Addr) (n cap m cap2 : Nat) (xs ys : List SA) (hx : GL elS w ao n cap xs) (hy : GL elS w bo m cap2 ys) (hn : n ≤ 1000000) :
  Calls Tryz.prog 30 #[.slice ao n cap, .slice bo m cap2] w fun e w' => e = .returned (.bool (sameL sgE xs ys)) ∧ Below w.heap.size w w' := by
 have C := eqfS_any w ao bo n cap m cap2 xs ys hx hy sgE hn fun V hV x mx y my => sgE_any V x y ((hx.ok x mx).below hV) ((hy.ok y my).below hV)
 go_enter Tryz.func30, Tryz.ntmps30
 go_wp2_with (go_at_call 70; refine C.mono ?_; rintro e w2 ⟨rfl, E2⟩)
 go_ret
 exact ⟨rfl, E2⟩
def lsE (s t : LS SA) : Bool := sameL sgE s.l t.l
theorem sameSets_any (w : World) (ao bo : Option Addr) (n cap m cap2 : Nat) (xs ys : List (LS SA)) (hx : GL elS.lists w ao n cap xs) (hy : GL elS.lists w bo m cap2 ys) (hn : n ≤ 1000000) (hx2 : ∀ s ∈ xs, s.n ≤ 1000000) :
  Calls Tryz.prog 31 #[.slice ao n cap, .slice bo m cap2, .func (.func 30) #[] #[]] w fun e w' => e = .returned (.bool (sameL lsE xs ys)) ∧ Below w.heap.size w w' :=
 eqfL_any w ao bo n cap m cap2 xs ys hx hy lsE hn fun V hV x mx y my => sameTexts_any V _ _ _ _ _ _ x.l y.l (elS_fine.lists.below (hx.ok x mx) hV) (elS_fine.lists.below (hy.ok y my) hV) (hx2 x mx)
open Go.RowKit
def kyE (c d : CA) : Bool := decide (c.row = d.row ∧ c.fam = d.fam ∧ c.qual = d.qual ∧ c.time = d.time)
theorem key_eq (W : World) (c d : CA) : (Op.equalIn 10000 55 (.agg #[.string c.row, .string c.fam, .string c.qual, .int .u64 (c.time : Nat)]) (.agg #[.string d.row, .string d.fam, .string d.qual, .int .u64 (d.time : Nat)])).run Tryz.prog W = .ok (kyE c d) W := by
 unfold kyE
 by_cases h1 : c.row = d.row
 ·have i1 : (c.row.toList == d.row.toList) = true := by rw [h1]; exact beq_self_eq_true _
  by_cases h2 : c.fam = d.fam
  ·have i2 : (c.fam.toList == d.fam.toList) = true := by rw [h2]; exact beq_self_eq_true _
   by_cases h3 : c.qual = d.qual
   ·have i3 : (c.qual.toList == d.qual.toList) = true := by rw [h3]; exact beq_self_eq_true _
    by_cases h4 : c.time = d.time
    ·have i4 : ((c.time : Int) == (d.time : Int)) = true := by simp [h4]
     rw [decide_eq_true ⟨h1, h2, h3, h4⟩]
     clear h1 h2 h3 h4
     go_simp
    ·have i4 : ((c.time : Int) == (d.time : Int)) = false := by simp; omega
     rw [decide_eq_false fun h => h4 h.2.2.2]
     clear h1 h2 h3 h4
     go_simp
   ·have i3 : (c.qual.toList == d.qual.toList) = false := toL_ne h3
    rw [decide_eq_false fun h => h3 h.2.2.1]
    clear h1 h2 h3
    go_simp
  ·have i2 : (c.fam.toList == d.fam.toList) = false := toL_ne h2
   rw [decide_eq_false fun h => h2 h.2.1]
   clear h1 h2
   go_simp
 ·have i1 : (c.row.toList == d.row.toList) = false := toL_ne h1
  rw [decide_eq_false fun h => h1 h.1]
  clear h1
  go_simp
def ceE (c d : CA) : Bool := kyE c d && (decide (c.gone = d.gone) && decide (c.va.xs = d.va.xs))
set_option maxRecDepth 100000 in
set_option maxHeartbeats 4000000 in
theorem ceE_any (w : World) (c d : CA) (hc : c.ok w) (hd : d.ok w) :
  Calls Tryz.prog 107 #[.agg #[.string c.row, .string c.fam, .string c.qual, .int .u64 c.time, .slice c.va.ao c.va.n c.va.cap, .bool c.gone], .agg #[.string d.row, .string d.fam, .string d.qual, .int .u64 d.time, .slice d.va.ao d.va.n d.va.cap, .bool d.gone]] w fun e w' => e = .returned (.bool (ceE c d)) ∧ Below w.heap.size w w' := by
 have B : Below w.heap.size w ((w.alloc (.cells #[.string c.row, .string c.fam, .string c.qual, .int .u64 c.time, .slice c.va.ao c.va.n c.va.cap, .bool c.gone] 98)).alloc (.cells #[.string d.row, .string d.fam, .string d.qual, .int .u64 d.time, .slice d.va.ao d.va.n d.va.cap, .bool d.gone] 98)) := ((Below.refl _ w).alloc (Nat.le_refl _) _).alloc (by simp) _
 have CV := pequal_any _ _ _ _ _ _ _ _ _ (hc.va.below B) (hd.va.below B)
 have KE := fun W => key_eq W c d
 obtain ⟨d1, hd1⟩ : ∃ v, v = decide (c.va.xs = d.va.xs) := ⟨_, rfl⟩
 obtain ⟨k1, hk1⟩ : ∃ v, v = kyE c d := ⟨_, rfl⟩
 rw [← hd1] at CV
 rw [← hk1] at KE
 have HE : Hid (ceE c d = (k1 && (decide (c.gone = d.gone) && d1))) := by show _ = _; unfold ceE; rw [hd1, hk1]
 rw [HE.out]
 clear hd1 hk1 hc hd HE
 cases k1 with
 | true =>
  by_cases e0 : c.gone = d.gone
  ·have i0 : (c.gone == d.gone) = true := by simp [e0]
   rw [decide_eq_true e0]
   clear e0
   go_enter Tryz.func107, Tryz.ntmps107
   go_wp2_with (go_at_call 26; refine CV.mono ?_; rintro e w' ⟨rfl, rfl⟩)
   go_ret
   exact ⟨by first | rfl | simp, B⟩
  ·have i0 : (c.gone == d.gone) = false := by simp [e0]
   rw [decide_eq_false e0]
   clear e0 CV
   go_enter Tryz.func107, Tryz.ntmps107
   go_wp2
   go_ret
   exact ⟨by first | rfl | simp, B⟩
 | false =>
  clear CV
  go_enter Tryz.func107, Tryz.ntmps107
  go_wp2
  go_ret
  exact ⟨by first | rfl | simp, B⟩
set_option maxRecDepth 100000 in
set_option maxHeartbeats 4000000 in
theorem sameResult_any (w : World) (e1 e2 : Int) (ao bo : Option Addr) (n cap m cap2 : Nat) (m1 m2 : Bool) (xs ys : List CA) (hx : CL w ao n cap xs) (hy : CL w bo m cap2 ys) (hn : n ≤ 1000000) :
  Calls Tryz.prog 69 #[.agg #[.int .i64 e1, .slice ao n cap, .bool m1], .agg #[.int .i64 e2, .slice bo m cap2, .bool m2]] w fun e w' => e = .returned (.bool (decide (e1 = e2) && (decide (m1 = m2) && sameL ceE xs ys))) ∧ Below w.heap.size w w' := by
 have B : Below w.heap.size w ((w.alloc (.cells #[.int .i64 e1, .slice ao n cap, .bool m1] 28)).alloc (.cells #[.int .i64 e2, .slice bo m cap2, .bool m2] 28)) := ((Below.refl _ w).alloc (Nat.le_refl _) _).alloc (by simp) _
 have C := eqfC_any _ ao bo n cap m cap2 xs ys (hx.below B) (hy.below B) ceE hn fun V hV x mx y my => ceE_any V x y (((hx.below B).below hV).ok x mx) (((hy.below B).below hV).ok y my)
 obtain ⟨S, hS⟩ : ∃ S, S = sameL ceE xs ys := ⟨_, rfl⟩
 rw [← hS] at C ⊢
 clear hS
 by_cases a0 : e1 = e2
 ·have i0 : (e1 == e2) = true := by simp [a0]
  rw [decide_eq_true a0]
  by_cases a1 : m1 = m2
  ·have i1 : (m1 == m2) = true := by simp [a1]
   rw [decide_eq_true a1]
   clear a0 a1
   go_enter Tryz.func69, Tryz.ntmps69
   go_wp2_with (go_at_call 106; refine C.mono ?_; rintro e w5 ⟨rfl, E5⟩)
   go_ret
   exact ⟨by first | rfl | simp, B.trans (E5.mono B.size)⟩
  ·have i1 : (m1 == m2) = false := by simp [a1]
   rw [decide_eq_false a1]
   clear a0 a1 C
   go_enter Tryz.func69, Tryz.ntmps69
   go_wp2
   go_ret
   exact ⟨by first | rfl | simp, B⟩
 ·have i0 : (e1 == e2) = false := by simp [a0]
  rw [decide_eq_false a0]
  clear a0 C
  go_enter Tryz.func69, Tryz.ntmps69
  go_wp2
  go_ret
  exact ⟨by first | rfl | simp, B⟩
def rpE (c1 s1 v1 c2 s2 v2 : Nat) (S : Bool) : Bool := decide (c1 = c2) && (decide (s1 = s2) && (decide (v1 = v2) && S))
set_option maxRecDepth 100000 in
set_option maxHeartbeats 4000000 in
theorem sameReply_any (w : World) (c1 s1 v1 c2 s2 v2 : Nat) (e1 e2 : Int) (ao bo : Option Addr) (n cap m cap2 : Nat) (m1 m2 : Bool) (xs ys : List CA) (hx : CL w ao n cap xs) (hy : CL w bo m cap2 ys) (hn : n ≤ 1000000) :
  Calls Tryz.prog 29 #[.agg #[.int .u64 (c1 : Nat), .int .u64 (s1 : Nat), .int .u64 (v1 : Nat), .int .i64 e1, .slice ao n cap, .bool m1], .agg #[.int .u64 (c2 : Nat), .int .u64 (s2 : Nat), .int .u64 (v2 : Nat), .int .i64 e2, .slice bo m cap2, .bool m2]] w fun e w' => e = .returned (.bool (rpE c1 s1 v1 c2 s2 v2 (decide (e1 = e2) && (decide (m1 = m2) && sameL ceE xs ys)))) ∧ Below w.heap.size w w' := by
 have B : Below w.heap.size w ((w.alloc (.cells #[.int .u64 (c1 : Nat), .int .u64 (s1 : Nat), .int .u64 (v1 : Nat), .int .i64 e1, .slice ao n cap, .bool m1] 30)).alloc (.cells #[.int .u64 (c2 : Nat), .int .u64 (s2 : Nat), .int .u64 (v2 : Nat), .int .i64 e2, .slice bo m cap2, .bool m2] 30)) := ((Below.refl _ w).alloc (Nat.le_refl _) _).alloc (by simp) _
 have C := sameResult_any _ e1 e2 ao bo n cap m cap2 m1 m2 xs ys (hx.below B) (hy.below B) hn
 obtain ⟨S, hS⟩ : ∃ S, S = (decide (e1 = e2) && (decide (m1 = m2) && sameL ceE xs ys)) := ⟨_, rfl⟩
 rw [← hS] at C ⊢
 clear hS hx hy
 unfold rpE
 by_cases a0 : c1 = c2
 ·have i0 : ((c1 : Int) == (c2 : Int)) = true := by simp [a0]
  rw [decide_eq_true a0]
  by_cases a1 : s1 = s2
  ·have i1 : ((s1 : Int) == (s2 : Int)) = true := by simp [a1]
   rw [decide_eq_true a1]
   by_cases a2 : v1 = v2
   ·have i2 : ((v1 : Int) == (v2 : Int)) = true := by simp [a2]
    rw [decide_eq_true a2]
    clear a0 a1 a2
    go_enter Tryz.func29, Tryz.ntmps29
    go_wp2_with (go_at_call 69; refine C.mono ?_; rintro e w5 ⟨rfl, E5⟩)
    go_ret
    exact ⟨by first | rfl | simp, B.trans (E5.mono B.size)⟩
   ·have i2 : ((v1 : Int) == (v2 : Int)) = false := by simp; omega
    rw [decide_eq_false a2]
    clear a0 a1 a2 C
    go_enter Tryz.func29, Tryz.ntmps29
    go_wp2
    go_ret
    exact ⟨by first | rfl | simp, B⟩
  ·have i1 : ((s1 : Int) == (s2 : Int)) = false := by simp; omega
   rw [decide_eq_false a1]
   clear a0 a1 C
   go_enter Tryz.func29, Tryz.ntmps29
   go_wp2
   go_ret
   exact ⟨by first | rfl | simp, B⟩
 ·have i0 : ((c1 : Int) == (c2 : Int)) = false := by simp; omega
  rw [decide_eq_false a0]
  clear a0 C
  go_enter Tryz.func29, Tryz.ntmps29
  go_wp2
  go_ret
  exact ⟨by first | rfl | simp, B⟩
def qeE (x y : QE) : Bool := decide (x.cl = y.cl) && (decide (x.st = y.st) && sameD 3 x.x y.x)
set_option maxRecDepth 100000 in
set_option maxHeartbeats 4000000 in
theorem sameRequest_any (w : World) (x y : QE) (hx : OW w 3 x.x) (hy : OW w 3 y.x) (lx : lightD 3 x.x = true) (ly : lightD 3 y.x = true) :
  Calls Tryz.prog 28 #[.agg #[.int .u64 x.m.cl, .int .u64 x.m.st, .int .i64 x.m.o.kind, .string x.m.o.row, .string x.m.o.fam, .string x.m.o.qual, .int .u64 x.m.o.time, .string x.m.o.to, .slice x.m.o.va.ao x.m.o.va.n x.m.o.va.cap, .slice x.m.o.wa.ao x.m.o.wa.n x.m.o.wa.cap, .bool x.m.o.has, .slice x.m.o.so x.m.o.sn x.m.o.sc], .agg #[.int .u64 y.m.cl, .int .u64 y.m.st, .int .i64 y.m.o.kind, .string y.m.o.row, .string y.m.o.fam, .string y.m.o.qual, .int .u64 y.m.o.time, .string y.m.o.to, .slice y.m.o.va.ao y.m.o.va.n y.m.o.va.cap, .slice y.m.o.wa.ao y.m.o.wa.n y.m.o.wa.cap, .bool y.m.o.has, .slice y.m.o.so y.m.o.sn y.m.o.sc]] w fun e w' => e = .returned (.bool (qeE x y)) ∧ Below w.heap.size w w' := by
 have B : Below w.heap.size w ((w.alloc (.cells #[.int .u64 x.m.cl, .int .u64 x.m.st, .int .i64 x.m.o.kind, .string x.m.o.row, .string x.m.o.fam, .string x.m.o.qual, .int .u64 x.m.o.time, .string x.m.o.to, .slice x.m.o.va.ao x.m.o.va.n x.m.o.va.cap, .slice x.m.o.wa.ao x.m.o.wa.n x.m.o.wa.cap, .bool x.m.o.has, .slice x.m.o.so x.m.o.sn x.m.o.sc] 60)).alloc (.cells #[.int .u64 y.m.cl, .int .u64 y.m.st, .int .i64 y.m.o.kind, .string y.m.o.row, .string y.m.o.fam, .string y.m.o.qual, .int .u64 y.m.o.time, .string y.m.o.to, .slice y.m.o.va.ao y.m.o.va.n y.m.o.va.cap, .slice y.m.o.wa.ao y.m.o.wa.n y.m.o.wa.cap, .bool y.m.o.has, .slice y.m.o.so y.m.o.sn y.m.o.sc] 60)) := ((Below.refl _ w).alloc (Nat.le_refl _) _).alloc (by simp) _
 have C := psame_d 3 _ x.x y.x (hx.below B) (hy.below B) lx ly
 rw [show (topD 3 x.x).val = .agg #[.int .i64 x.m.o.kind, .string x.m.o.row, .string x.m.o.fam, .string x.m.o.qual, .int .u64 x.m.o.time, .string x.m.o.to, .slice x.m.o.va.ao x.m.o.va.n x.m.o.va.cap, .slice x.m.o.wa.ao x.m.o.wa.n x.m.o.wa.cap, .bool x.m.o.has, .slice x.m.o.so x.m.o.sn x.m.o.sc] from rfl, show (topD 3 y.x).val = .agg #[.int .i64 y.m.o.kind, .string y.m.o.row, .string y.m.o.fam, .string y.m.o.qual, .int .u64 y.m.o.time, .string y.m.o.to, .slice y.m.o.va.ao y.m.o.va.n y.m.o.va.cap, .slice y.m.o.wa.ao y.m.o.wa.n y.m.o.wa.cap, .bool y.m.o.has, .slice y.m.o.so y.m.o.sn y.m.o.sc] from rfl] at C
 obtain ⟨S, hS⟩ : ∃ S, S = sameD 3 x.x y.x := ⟨_, rfl⟩
 unfold qeE
 rw [← hS] at C ⊢
 clear hS hx hy lx ly
 by_cases a0 : x.cl = y.cl
 ·have i0 : ((x.m.cl : Int) == (y.m.cl : Int)) = true := by show ((x.cl : Int) == (y.cl : Int)) = true; simp [a0]
  rw [decide_eq_true a0]
  by_cases a1 : x.st = y.st
  ·have i1 : ((x.m.st : Int) == (y.m.st : Int)) = true := by show ((x.st : Int) == (y.st : Int)) = true; simp [a1]
   rw [decide_eq_true a1]
   clear a0 a1
   go_enter Tryz.func28, Tryz.ntmps28
   go_wp2_with (go_at_call 68; refine C.mono ?_; rintro e w5 ⟨rfl, E5⟩)
   go_ret
   exact ⟨by first | rfl | simp, B.trans (E5.mono B.size)⟩
  ·have i1 : ((x.m.st : Int) == (y.m.st : Int)) = false := by show ((x.st : Int) == (y.st : Int)) = false; simp; omega
   rw [decide_eq_false a1]
   clear a0 a1 C
   go_enter Tryz.func28, Tryz.ntmps28
   go_wp2
   go_ret
   exact ⟨by first | rfl | simp, B⟩
 ·have i0 : ((x.m.cl : Int) == (y.m.cl : Int)) = false := by show ((x.cl : Int) == (y.cl : Int)) = false; simp; omega
  rw [decide_eq_false a0]
  clear a0 C
  go_enter Tryz.func28, Tryz.ntmps28
  go_wp2
  go_ret
  exact ⟨by first | rfl | simp, B⟩
end Go.Proofs.YtnbejckdhdbamaaGreat

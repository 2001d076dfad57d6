/-
  Texts in one: LLight.
-/
import Derived.Test.YtnbejckdhdbamaaGreatMessageRightQ1
import Derived.Test.YtnbejckdhdbamaaGreatMessageRightQ7
namespace Go.Proofs.YtnbejckdhdbamaaGreat
open Go.RowKit
theorem light_step {d : Nat} {l : List (OD d)} {k : Nat} (hk : k < l.length) (h : (l.take k).all (lightD d) = true) : (l.take (k + 1)).all (lightD d) = lightD d l[k] := by
 rw [List.take_succ_eq_append_getElem hk, List.all_append, h]
 simp
set_option maxRecDepth 100000 in
set_option maxHeartbeats 8000000 in
theorem light_zero (w : World) (o : OA) (sm : o.small) :
  Calls Tryz.prog 16 #[o.val, .int .i64 (-1)] w fun e w' => e = .returned (.bool false) ∧ Below w.heap.size w w' := by
 have B : Below w.heap.size w (w.alloc (Obj.cells o.cells.toArray 58)) := (Below.refl _ w).alloc (Nat.le_refl _) _
 unfold OA.cells at B
 obtain ⟨z0, z1, z2, z3⟩ := sm
 unfold OA.val
 by_cases c0 : 500 < o.row.size + o.fam.size + o.qual.size + o.to.size
 ·have i0 : decide ((500 : Int) < (o.row.size : Int) + (o.fam.size : Int) + (o.qual.size : Int) + (o.to.size : Int)) = true := by simp; omega
  clear c0
  go_enter Tryz.func16, Tryz.ntmps16
  go_wp2
  go_ret
  exact ⟨rfl, B⟩
 have i0 : decide ((500 : Int) < (o.row.size : Int) + (o.fam.size : Int) + (o.qual.size : Int) + (o.to.size : Int)) = false := by simp; omega
 by_cases c1 : 600 < o.va.n
 ·have i1 : decide ((600 : Int) < (o.va.n : Int)) = true := by simp; omega
  clear c0 c1
  go_enter Tryz.func16, Tryz.ntmps16
  go_wp2
  go_ret
  exact ⟨rfl, B⟩
 have i1 : decide ((600 : Int) < (o.va.n : Int)) = false := by simp; omega
 by_cases c2 : 600 < o.wa.n
 ·have i2 : decide ((600 : Int) < (o.wa.n : Int)) = true := by simp; omega
  clear c0 c1 c2
  go_enter Tryz.func16, Tryz.ntmps16
  go_wp2
  go_ret
  exact ⟨rfl, B⟩
 have i2 : decide ((600 : Int) < (o.wa.n : Int)) = false := by simp; omega
 by_cases c3 : 12 < o.sn
 ·have i3 : decide ((12 : Int) < (o.sn : Int)) = true := by simp; omega
  clear c0 c1 c2 c3
  go_enter Tryz.func16, Tryz.ntmps16
  go_wp2
  go_ret
  exact ⟨rfl, B⟩
 have i3 : decide ((12 : Int) < (o.sn : Int)) = false := by simp; omega
 go_enter Tryz.func16, Tryz.ntmps16
 go_wp2
 go_ret
 exact ⟨rfl, B⟩
set_option maxRecDepth 100000 in
set_option maxHeartbeats 8000000 in
theorem light_any : ∀ (d : Nat) (w : World) (x : OD d) (_ : OW w d x) (_ : OSm d x) (_ : d ≤ 100),
  Calls Tryz.prog 16 #[(topD d x).val, .int .i64 ((d : Int) - 1)] w fun e w' => e = .returned (.bool (lightD d x)) ∧ Below w.heap.size w w'
 | 0, w, x, _, sm, _ => light_zero w x sm
 | d + 1, w, x, h, sm, hd => by
  obtain ⟨o, l⟩ := x
  have s1 : o.small := sm.1
  have L : OWL w d o.so o.sn o.sc l := h.subs
  have sl : ∀ y ∈ l, OSm d y := sm.2
  have hl : l.length = o.sn := L.len
  rw [show topD (d + 1) (o, l) = o from rfl, show (((d + 1 : Nat) : Int) - 1) = (d : Int) from by omega]
  have B : Below w.heap.size w (w.alloc (Obj.cells o.cells.toArray 58)) := (Below.refl _ w).alloc (Nat.le_refl _) _
  have K : OC (w.alloc (Obj.cells o.cells.toArray 58)) w.heap.size o := OC.new w o
  unfold OA.cells at B K
  clear h sm
  obtain ⟨z0, z1, z2, z3⟩ := s1
  unfold OA.val
  by_cases c0 : 500 < o.row.size + o.fam.size + o.qual.size + o.to.size
  ·have i0 : decide ((500 : Int) < (o.row.size : Int) + (o.fam.size : Int) + (o.qual.size : Int) + (o.to.size : Int)) = true := by simp; omega
   have hv : Hid (lightD (d + 1) (o, l) = false) := by
    show (fitsL o && _) = false
    rw [show fitsL o = false from decide_eq_false (by omega), Bool.false_and]
   clear K L sl hl c0
   go_enter Tryz.func16, Tryz.ntmps16
   go_wp2
   go_ret
   exact ⟨by rw [hv.out] <;> rfl, B⟩
  have i0 : decide ((500 : Int) < (o.row.size : Int) + (o.fam.size : Int) + (o.qual.size : Int) + (o.to.size : Int)) = false := by simp; omega
  by_cases c1 : 600 < o.va.n
  ·have i1 : decide ((600 : Int) < (o.va.n : Int)) = true := by simp; omega
   have hv : Hid (lightD (d + 1) (o, l) = false) := by
    show (fitsL o && _) = false
    rw [show fitsL o = false from decide_eq_false (by omega), Bool.false_and]
   clear K L sl hl c0 c1
   go_enter Tryz.func16, Tryz.ntmps16
   go_wp2
   go_ret
   exact ⟨by rw [hv.out] <;> rfl, B⟩
  have i1 : decide ((600 : Int) < (o.va.n : Int)) = false := by simp; omega
  by_cases c2 : 600 < o.wa.n
  ·have i2 : decide ((600 : Int) < (o.wa.n : Int)) = true := by simp; omega
   have hv : Hid (lightD (d + 1) (o, l) = false) := by
    show (fitsL o && _) = false
    rw [show fitsL o = false from decide_eq_false (by omega), Bool.false_and]
   clear K L sl hl c0 c1 c2
   go_enter Tryz.func16, Tryz.ntmps16
   go_wp2
   go_ret
   exact ⟨by rw [hv.out] <;> rfl, B⟩
  have i2 : decide ((600 : Int) < (o.wa.n : Int)) = false := by simp; omega
  by_cases c3 : 12 < o.sn
  ·have i3 : decide ((12 : Int) < (o.sn : Int)) = true := by simp; omega
   have hv : Hid (lightD (d + 1) (o, l) = false) := by
    show (fitsL o && _) = false
    rw [show fitsL o = false from decide_eq_false (by omega), Bool.false_and]
   clear K L sl hl c0 c1 c2 c3
   go_enter Tryz.func16, Tryz.ntmps16
   go_wp2
   go_ret
   exact ⟨by rw [hv.out] <;> rfl, B⟩
  have i3 : decide ((12 : Int) < (o.sn : Int)) = false := by simp; omega
  have i5 : decide ((d : Int) < 0) = false := by simp
  have hv : Hid (lightD (d + 1) (o, l) = l.all (lightD d)) := by
   show (fitsL o && _) = _
   rw [show fitsL o = true from decide_eq_true (by omega), Bool.true_and]
  have hn : o.sn ≤ 12 := by omega
  clear c0 c1 c2 c3
  obtain ⟨w1, hw1⟩ : ∃ W, W = w.alloc (Obj.cells #[.int .i64 o.kind, .string o.row, .string o.fam, .string o.qual, .int .u64 o.time, .string o.to, .slice o.va.ao o.va.n o.va.cap, .slice o.wa.ao o.wa.n o.wa.cap, .bool o.has, .slice o.so o.sn o.sc] 58) := ⟨_, rfl⟩
  go_enter Tryz.func16, Tryz.ntmps16
  go_wp2_with fail
  rw [← hw1] at B K ⊢
  clear hw1 z0 z1 z2 z3
  go_loopw [5] (fun i wr => ∃ k : Nat, k ≤ o.sn ∧ i = .int .i64 k ∧ Below w.heap.size w wr ∧ Below w1.heap.size w1 wr ∧ (l.take k).all (lightD d) = true) (fun i _ => o.sn - (intOf i).toNat)
  case atStart => exact ⟨0, Nat.zero_le _, rfl, B, Below.refl _ _, rfl⟩
  case round =>
   obtain ⟨k, hk, rfl, B1, C1, hall⟩ := hrel
   have HA : Hid ((l.take k).all (lightD d) = true) := hall
   have K1 := K.keep C1
   have q9 := K1.cs.c9
   clear hall K K1
   by_cases hlt : k < o.sn
   ·obtain ⟨b, off, ea, hc⟩ := L.at (by omega)
    have hkl : k < l.length := by omega
    have X := (hc k hkl).below B1
    have hok : OW wr d l[k] := (L.ok _ (List.getElem_mem hkl)).below B1
    have hsm : OSm d l[k] := sl _ (List.getElem_mem hkl)
    have i6 : (k : Int) < (o.sn : Int) := by omega
    have HT : Hid ((l.take (k + 1)).all (lightD d) = lightD d l[k]) := light_step hkl HA.out
    have HL : Hid (lightD d l[k] = false → l.all (lightD d) = false) := fun hb => by
     rw [List.all_eq_false]
     exact ⟨_, List.getElem_mem hkl, by rw [hb]; simp⟩
    obtain ⟨y, hy⟩ : ∃ y : OD d, y = l[k] := ⟨_, rfl⟩
    rw [← hy] at hok HT HL X hsm
    clear hy hc HA sl L B
    rw [ea] at q9
    clear ea
    obtain ⟨q0, q1, q2, q3, q4, q5, q6, q7, q8, q10⟩ := X
    cases hb : lightD d y with
    | false =>
     go_wp2_with (go_at_call 16; refine (light_any d _ y hok hsm (by omega)).mono ?_; rintro e w2 ⟨rfl, C⟩; have D := B1.trans (C.mono B1.size); rw [hb])
     go_ret
     exact ⟨by rw [hv.out, HL.out hb] <;> rfl, D⟩
    | true =>
     go_wp2_with (go_at_call 16; refine (light_any d _ y hok hsm (by omega)).mono ?_; rintro e w2 ⟨rfl, C⟩; have D := B1.trans (C.mono B1.size); have D1 := C1.trans (C.mono C1.size); rw [hb])
     go_roundw
     case rel => exact ⟨k + 1, by omega, by go_num, D, D1, by rw [HT.out, hb]⟩
     case measure => simp [intOf]; omega
   ·have i6 : (o.sn : Int) ≤ (k : Int) := by omega
    have HL : Hid (l.all (lightD d) = true) := by
     show _ = _
     rw [← HA.out, List.take_of_length_le (by omega)]
    go_wp2
    go_ret
    exact ⟨by rw [hv.out, HL.out] <;> rfl, B1⟩
end Go.Proofs.YtnbejckdhdbamaaGreat

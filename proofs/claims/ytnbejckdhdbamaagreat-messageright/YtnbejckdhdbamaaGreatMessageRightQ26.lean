/-
  Texts in one: PRes, RRes.
-/
import Derived.Test.YtnbejckdhdbamaaGreatMessageRightQ1
import Derived.Test.YtnbejckdhdbamaaGreatMessageRightQ21
namespace Go.Proofs.YtnbejckdhdbamaaGreat
open Go.RowKit
set_option maxRecDepth 100000 in
set_option maxHeartbeats 8000000 in
theorem prr_any (w : World) (e : Int) (ao : Option Addr) (n cap : Nat) (l : List CA) (m : Bool) (L : CL w ao n cap l) :
  Calls Tryz.prog 112 #[resV e ao n cap m] w fun x w' => x = .returned (.int .i64 (kindR (resR e l m))) ∧ Below w.heap.size w w' := by
 have hl : l.length = n := L.len
 have B : Below w.heap.size w (w.alloc (Obj.cells #[.int .i64 e, .slice ao n cap, .bool m] 28)) := (Below.refl _ w).alloc (Nat.le_refl _) _
 have K : RC (w.alloc (Obj.cells #[.int .i64 e, .slice ao n cap, .bool m] 28)) w.heap.size e ao n cap m := heap_alloc_new w _
 have L1 := L.below B
 unfold resV
 by_cases c0 : e < 0
 ·have i0 : decide (e < 0) = true := by simp; omega
  have hv : Hid (rightR (resR e l m) = false) := resR_no e l m (by omega)
  clear L L1 K hl c0
  go_enter Tryz.func112, Tryz.ntmps112
  go_wp2
  go_ret
  exact ⟨by unfold kindR; rw [hv.out] <;> rfl, B⟩
 have i0 : decide (e < 0) = false := by simp; omega
 by_cases c1 : 18 < e
 ·have i1 : decide (18 < e) = true := by simp; omega
  have hv : Hid (rightR (resR e l m) = false) := resR_no e l m (by omega)
  clear L L1 K hl c0 c1
  go_enter Tryz.func112, Tryz.ntmps112
  go_wp2
  go_ret
  exact ⟨by unfold kindR; rw [hv.out] <;> rfl, B⟩
 have i1 : decide (18 < e) = false := by simp; omega
 by_cases c2 : 16 < n
 ·have i2 : decide ((16 : Int) < (n : Int)) = true := by simp; omega
  have hv : Hid (rightR (resR e l m) = false) := resR_no e l m (by omega)
  clear L L1 K hl c0 c1 c2
  go_enter Tryz.func112, Tryz.ntmps112
  go_wp2
  go_ret
  exact ⟨by unfold kindR; rw [hv.out] <;> rfl, B⟩
 have i2 : decide ((16 : Int) < (n : Int)) = false := by simp; omega
 have HV : Hid (rightR (resR e l m) = l.all fun c => cellR c.c) := resR_all e l m (by omega)
 have hn16 : n ≤ 16 := by omega
 clear c0 c1 c2 L
 go_enter Tryz.func112, Tryz.ntmps112
 go_wp2_with fail
 obtain ⟨w1, hw1⟩ : ∃ W, W = w.alloc (Obj.cells #[.int .i64 e, .slice ao n cap, .bool m] 28) := ⟨_, rfl⟩
 rw [← hw1] at B K L1 ⊢
 clear hw1
 go_loopw [4, 22] (fun _ i wr => ∃ k : Nat, k ≤ n ∧ i = .int .i64 k ∧ Below w.heap.size w wr ∧ Below w1.heap.size w1 wr ∧ (l.take k).all (fun c => cellR c.c) = true) (fun _ i _ => n - (intOf i).toNat)
 case atStart => exact ⟨0, Nat.zero_le _, rfl, B, Below.refl _ _, rfl⟩
 case round =>
  clear B
  obtain ⟨k, hk, rfl, B, C1, hall⟩ := hrel
  have HA : Hid ((l.take k).all (fun c => cellR c.c) = true) := hall
  have K1 := K.keep C1
  clear hall K
  by_cases hlt : k < n
  ·obtain ⟨b, off, rfl, hc⟩ := L1.at (by omega)
   have hkl : k < l.length := by omega
   have X := (hc k hkl).below C1
   have hok : (l[k]).ok wr := (L1.ok _ (List.getElem_mem hkl)).below C1
   have i6 : (k : Int) < (n : Int) := by omega
   have HT : Hid ((l.take (k + 1)).all (fun c => cellR c.c) = cellR l[k].c) := by
    show _ = _
    exact all_take_succ (fun c : CA => cellR c.c) hkl HA.out
   have HL : Hid (cellR l[k].c = false → rightR (resR e l m) = false) := fun hb => by
    rw [HV.out, List.all_eq_false]
    exact ⟨_, List.getElem_mem hkl, by rw [hb]; simp⟩
   obtain ⟨c, hx⟩ : ∃ c : CA, c = l[k] := ⟨_, rfl⟩
   rw [← hx] at hok HT HL X
   clear hx hc HA
   have hcr := cellR_ok hok
   have HX : Hid (∀ V, Below wr.heap.size wr V → CX V b (off + k * 6) c) := fun V hV => X.below hV
   obtain ⟨q0, q1, q2, q3, q4, q5⟩ := X
   have r1 := K1.c1
   have Bc : Below wr.heap.size wr (wr.alloc (Obj.cells #[.string c.row, .string c.fam, .string c.qual, .int .u64 c.time, .slice c.va.ao c.va.n c.va.cap, .bool c.gone] 98)) := (Below.refl _ _).alloc (Nat.le_refl _) _
   have Kc : (wr.alloc (Obj.cells #[.string c.row, .string c.fam, .string c.qual, .int .u64 c.time, .slice c.va.ao c.va.n c.va.cap, .bool c.gone] 98)).heap[wr.heap.size]? = some (.cells #[.string c.row, .string c.fam, .string c.qual, .int .u64 c.time, .slice c.va.ao c.va.n c.va.cap, .bool c.gone] 98) := heap_alloc_new wr _
   cases kr : c.key.isRight with
   | false =>
    have hr : c.key.kind = 5 := by unfold KA.kind; rw [kr]; rfl
    have hv : Hid (rightR (resR e l m) = false) := HL.out (by rw [hcr, kr]; rfl)
    go_wp2_with (go_at_call 122; (refine (pright_any _ c.key).mono ?_; rintro x w2 ⟨rfl, C⟩; have E2 := Bc.trans (C.mono Bc.size); have D : Below w.heap.size w w2 := B.trans (E2.mono B.size); have D1 := C1.trans (E2.mono C1.size); have z4 : w2.cell? ⟨wr.heap.size, 4, none⟩ = some (.slice c.va.ao c.va.n c.va.cap) := (C.cell (by simp)).trans (cell_of_row _ wr.heap.size 4 _ _ _ Kc); have zlt : wr.heap.size < w2.heap.size := (by have := C.size; simp at this; omega); rw [hr]; clear q0 q1 q2 q3 q4 q5 r1 C))
    go_ret
    exact ⟨by unfold kindR; rw [hv.out] <;> rfl, D⟩
   | true =>
    have hr : c.key.kind = 0 := by unfold KA.kind; rw [kr]; rfl
    cases dv : decide (c.va.n ≤ 256) with
    | false =>
     have hv : Hid (rightR (resR e l m) = false) := HL.out (by rw [hcr, kr, dv]; rfl)
     go_wp2_with (first | (go_at_call 122; (refine (pright_any _ c.key).mono ?_; rintro x w2 ⟨rfl, C⟩; have E2 := Bc.trans (C.mono Bc.size); have D : Below w.heap.size w w2 := B.trans (E2.mono B.size); have D1 := C1.trans (E2.mono C1.size); have z4 : w2.cell? ⟨wr.heap.size, 4, none⟩ = some (.slice c.va.ao c.va.n c.va.cap) := (C.cell (by simp)).trans (cell_of_row _ wr.heap.size 4 _ _ _ Kc); have zlt : wr.heap.size < w2.heap.size := (by have := C.size; simp at this; omega); rw [hr]; clear q0 q1 q2 q3 q4 q5 r1 C)) | (go_at_call 123; refine (pvalue_any _ _ _ _).mono ?_; rintro e w' ⟨rfl, rfl⟩; rw [dv]))
     go_ret
     exact ⟨by unfold kindR; rw [hv.out] <;> rfl, D⟩
    | true =>
     have hcc : Hid (cellR c.c = true) := by show _ = _; rw [hcr, kr, dv]; rfl
     go_wp2_with (first | (go_at_call 122; (refine (pright_any _ c.key).mono ?_; rintro x w2 ⟨rfl, C⟩; have E2 := Bc.trans (C.mono Bc.size); have D : Below w.heap.size w w2 := B.trans (E2.mono B.size); have D1 := C1.trans (E2.mono C1.size); have z4 : w2.cell? ⟨wr.heap.size, 4, none⟩ = some (.slice c.va.ao c.va.n c.va.cap) := (C.cell (by simp)).trans (cell_of_row _ wr.heap.size 4 _ _ _ Kc); have zlt : wr.heap.size < w2.heap.size := (by have := C.size; simp at this; omega); rw [hr]; clear q0 q1 q2 q3 q4 q5 r1 C)) | (go_at_call 123; refine (pvalue_any _ _ _ _).mono ?_; rintro e w' ⟨rfl, rfl⟩; rw [dv]))
     go_roundw
     case rel => exact ⟨k + 1, by omega, by go_num, D, D1, by rw [HT.out, hcc.out]⟩
     case measure => simp [intOf]; omega
  ·have i6 : (n : Int) ≤ (k : Int) := by omega
   have hv : Hid (rightR (resR e l m) = true) := by
    show _ = _
    rw [HV.out, ← HA.out, List.take_of_length_le (by omega)]
   have r1 := K1.c1
   go_wp2
   go_ret
   exact ⟨by unfold kindR; rw [hv.out] <;> rfl, B⟩
open Go.RowKit
set_option maxRecDepth 100000 in
set_option maxHeartbeats 8000000 in
theorem rrr_any (w : World) (e : Int) (ao : Option Addr) (n cap : Nat) (l : List CA) (m : Bool) (L : CL w ao n cap l) :
  Calls Tryz.prog 24 #[resV e ao n cap m] w fun x w' => x = .returned (.bool (rightR (resR e l m))) ∧ Below w.heap.size w w' := by
 have hl : l.length = n := L.len
 have B : Below w.heap.size w (w.alloc (Obj.cells #[.int .i64 e, .slice ao n cap, .bool m] 28)) := (Below.refl _ w).alloc (Nat.le_refl _) _
 have K : RC (w.alloc (Obj.cells #[.int .i64 e, .slice ao n cap, .bool m] 28)) w.heap.size e ao n cap m := heap_alloc_new w _
 have L1 := L.below B
 unfold resV
 by_cases c0 : e < 0
 ·have i0 : decide (e < 0) = true := by simp; omega
  have hv : Hid (rightR (resR e l m) = false) := resR_no e l m (by omega)
  clear L L1 K hl c0
  go_enter Tryz.func24, Tryz.ntmps24
  go_wp2
  go_ret
  exact ⟨by rw [hv.out] <;> rfl, B⟩
 have i0 : decide (e < 0) = false := by simp; omega
 by_cases c1 : 18 < e
 ·have i1 : decide (18 < e) = true := by simp; omega
  have hv : Hid (rightR (resR e l m) = false) := resR_no e l m (by omega)
  clear L L1 K hl c0 c1
  go_enter Tryz.func24, Tryz.ntmps24
  go_wp2
  go_ret
  exact ⟨by rw [hv.out] <;> rfl, B⟩
 have i1 : decide (18 < e) = false := by simp; omega
 by_cases c2 : 16 < n
 ·have i2 : decide ((16 : Int) < (n : Int)) = true := by simp; omega
  have hv : Hid (rightR (resR e l m) = false) := resR_no e l m (by omega)
  clear L L1 K hl c0 c1 c2
  go_enter Tryz.func24, Tryz.ntmps24
  go_wp2
  go_ret
  exact ⟨by rw [hv.out] <;> rfl, B⟩
 have i2 : decide ((16 : Int) < (n : Int)) = false := by simp; omega
 have HV : Hid (rightR (resR e l m) = l.all fun c => cellR c.c) := resR_all e l m (by omega)
 have hn16 : n ≤ 16 := by omega
 clear c0 c1 c2 L
 go_enter Tryz.func24, Tryz.ntmps24
 go_wp2_with fail
 obtain ⟨w1, hw1⟩ : ∃ W, W = w.alloc (Obj.cells #[.int .i64 e, .slice ao n cap, .bool m] 28) := ⟨_, rfl⟩
 rw [← hw1] at B K L1 ⊢
 clear hw1
 go_loopw [3] (fun i wr => ∃ k : Nat, k ≤ n ∧ i = .int .i64 k ∧ Below w.heap.size w wr ∧ Below w1.heap.size w1 wr ∧ (l.take k).all (fun c => cellR c.c) = true) (fun i _ => n - (intOf i).toNat)
 case atStart => exact ⟨0, Nat.zero_le _, rfl, B, Below.refl _ _, rfl⟩
 case round =>
  clear B
  obtain ⟨k, hk, rfl, B, C1, hall⟩ := hrel
  have HA : Hid ((l.take k).all (fun c => cellR c.c) = true) := hall
  have K1 := K.keep C1
  clear hall K
  by_cases hlt : k < n
  ·obtain ⟨b, off, rfl, hc⟩ := L1.at (by omega)
   have hkl : k < l.length := by omega
   have X := (hc k hkl).below C1
   have hok : (l[k]).ok wr := (L1.ok _ (List.getElem_mem hkl)).below C1
   have i6 : (k : Int) < (n : Int) := by omega
   have HT : Hid ((l.take (k + 1)).all (fun c => cellR c.c) = cellR l[k].c) := by
    show _ = _
    exact all_take_succ (fun c : CA => cellR c.c) hkl HA.out
   have HL : Hid (cellR l[k].c = false → rightR (resR e l m) = false) := fun hb => by
    rw [HV.out, List.all_eq_false]
    exact ⟨_, List.getElem_mem hkl, by rw [hb]; simp⟩
   obtain ⟨c, hx⟩ : ∃ c : CA, c = l[k] := ⟨_, rfl⟩
   rw [← hx] at hok HT HL X
   clear hx hc HA
   have hcr := cellR_ok hok
   have HX : Hid (∀ V, Below wr.heap.size wr V → CX V b (off + k * 6) c) := fun V hV => X.below hV
   obtain ⟨q0, q1, q2, q3, q4, q5⟩ := X
   have r1 := K1.c1
   cases kr : c.key.isRight with
   | false =>
    have hr : c.key.kind = 5 := by unfold KA.kind; rw [kr]; rfl
    have hv : Hid (rightR (resR e l m) = false) := HL.out (by rw [hcr, kr]; rfl)
    go_wp2_with (go_at_call 67; refine (rright_any _ c.key).mono ?_; rintro x w2 ⟨rfl, C⟩; have D : Below w.heap.size w w2 := B.trans (C.mono B.size); have D1 := C1.trans (C.mono C1.size); have K2 := K1.keep C; have X2 := HX.out w2 C; rw [hr]; clear q0 q1 q2 q3 q4 q5 r1; have r1 := K2.c1; obtain ⟨q0, q1, q2, q3, q4, q5⟩ := X2)
    go_ret
    exact ⟨by rw [hv.out] <;> rfl, D⟩
   | true =>
    have hr : c.key.kind = 0 := by unfold KA.kind; rw [kr]; rfl
    by_cases lv : 256 < c.va.n
    ·have il : decide ((256 : Int) < (c.va.n : Int)) = true := by simp; omega
     have hv : Hid (rightR (resR e l m) = false) := HL.out (by rw [hcr, kr, decide_eq_false (by omega)]; rfl)
     clear lv
     go_wp2_with (go_at_call 67; refine (rright_any _ c.key).mono ?_; rintro x w2 ⟨rfl, C⟩; have D : Below w.heap.size w w2 := B.trans (C.mono B.size); have D1 := C1.trans (C.mono C1.size); have K2 := K1.keep C; have X2 := HX.out w2 C; rw [hr]; clear q0 q1 q2 q3 q4 q5 r1; have r1 := K2.c1; obtain ⟨q0, q1, q2, q3, q4, q5⟩ := X2)
     go_ret
     exact ⟨by rw [hv.out] <;> rfl, D⟩
    ·have il : decide ((256 : Int) < (c.va.n : Int)) = false := by simp; omega
     have hcc : Hid (cellR c.c = true) := by show _ = _; rw [hcr, kr, decide_eq_true (by omega)]; rfl
     clear lv
     go_wp2_with (go_at_call 67; refine (rright_any _ c.key).mono ?_; rintro x w2 ⟨rfl, C⟩; have D : Below w.heap.size w w2 := B.trans (C.mono B.size); have D1 := C1.trans (C.mono C1.size); have K2 := K1.keep C; have X2 := HX.out w2 C; rw [hr]; clear q0 q1 q2 q3 q4 q5 r1; have r1 := K2.c1; obtain ⟨q0, q1, q2, q3, q4, q5⟩ := X2)
     go_roundw
     case rel => exact ⟨k + 1, by omega, by go_num, D, D1, by rw [HT.out, hcc.out]⟩
     case measure => simp [intOf]; omega
  ·have i6 : (n : Int) ≤ (k : Int) := by omega
   have hv : Hid (rightR (resR e l m) = true) := by
    show _ = _
    rw [HV.out, ← HA.out, List.take_of_length_le (by omega)]
   have r1 := K1.c1
   go_wp2
   go_ret
   exact ⟨by rw [hv.out] <;> rfl, B⟩
end Go.Proofs.YtnbejckdhdbamaaGreat

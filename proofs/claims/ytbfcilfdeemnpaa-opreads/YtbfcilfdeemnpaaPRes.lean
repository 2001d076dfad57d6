/-
  Cells in a list; the program's rightResult.
-/
import Derived.Test.YtbfcilfdeemnpaaMB
import Derived.Test.YtbfcilfdeemnpaaPVal
namespace Go.Proofs.Ytbfcilfdeemnpaa
open Go.RowKit

/-- A cell's cells, from a place on. -/
structure CX (V : World) (b p : Nat) (c : CA) : Prop where
  c0 : V.cell? ⟨b, p, none⟩ = some (.string c.row)
  c1 : V.cell? ⟨b, p + 1, none⟩ = some (.string c.fam)
  c2 : V.cell? ⟨b, p + 2, none⟩ = some (.string c.qual)
  c3 : V.cell? ⟨b, p + 3, none⟩ = some (.int .u64 c.time)
  c4 : V.cell? ⟨b, p + 4, none⟩ = some (.slice c.va.ao c.va.n c.va.cap)
  c5 : V.cell? ⟨b, p + 5, none⟩ = some (.bool c.gone)
theorem CX.below {V V' : World} {b p : Nat} {c : CA} (h : CX V b p c) (hb : Below V.heap.size V V') : CX V' b p c :=
  have k : ∀ a v, V.cell? a = some v → V'.cell? a = some v := fun _ _ hc => (hb.cell (World.block_lt_of_cell? V _ hc)).trans hc
  ⟨k _ _ h.c0, k _ _ h.c1, k _ _ h.c2, k _ _ h.c3, k _ _ h.c4, k _ _ h.c5⟩
theorem CL.at {w : World} {ao : Option Addr} {n cap : Nat} {l : List CA} (h : CL w ao n cap l) (hn : 0 < n) :
    ∃ b off, ao = some ⟨b, off, none⟩ ∧ ∀ i (hi : i < l.length), CX w b (off + i * 6) l[i] := by
  have hl := h.len
  cases ao with
  | none => have := (h.nil rfl).1; omega
  | some a =>
    obtain ⟨b, off, spot⟩ := a
    have hc := h.cell _ rfl 0 (by omega) 0 _ rfl
    have hs : spot = none := by simpa [Addr.add] using World.cell?_spot hc
    subst hs
    refine ⟨b, off, rfl, fun i hi => ?_⟩
    have k : ∀ j v, l[i].cells[j]? = some v → w.cell? ⟨b, off + i * 6 + j, none⟩ = some v := fun j v hv => by
      have := h.cell _ rfl i hi j v hv
      rw [Addr.add_lit] at this
      rw [Nat.add_assoc]
      exact this
    exact ⟨k 0 _ rfl, k 1 _ rfl, k 2 _ rfl, k 3 _ rfl, k 4 _ rfl, k 5 _ rfl⟩
/-- A result's value, and what it is. -/
def resV (e : Int) (ao : Option Addr) (n cap : Nat) (m : Bool) : Value := .agg #[.int .i64 e, .slice ao n cap, .bool m]
def resR (e : Int) (l : List CA) (m : Bool) : RV := ⟨e, l.map CA.c, m⟩
def CA.key (c : CA) : KA := ⟨c.row, c.fam, c.qual, c.time⟩
/-- The result lies in block p. -/
def RC (V : World) (p : Nat) (e : Int) (ao : Option Addr) (n cap : Nat) (m : Bool) : Prop := V.heap[p]? = some (.cells #[.int .i64 e, .slice ao n cap, .bool m] 45)
theorem RC.lt {V : World} {p : Nat} {e : Int} {ao : Option Addr} {n cap : Nat} {m : Bool} (h : RC V p e ao n cap m) : p < V.heap.size := (Array.getElem?_eq_some_iff.1 h).1
theorem RC.keep {V V' : World} {p : Nat} {e : Int} {ao : Option Addr} {n cap : Nat} {m : Bool} (h : RC V p e ao n cap m) (hb : Below V.heap.size V V') : RC V' p e ao n cap m := (hb.block p h.lt).trans h
theorem RC.c0 {V : World} {p : Nat} {e : Int} {ao : Option Addr} {n cap : Nat} {m : Bool} (h : RC V p e ao n cap m) : V.cell? ⟨p, 0, none⟩ = some (.int .i64 e) := cell_of_row V p 0 _ _ _ h
theorem RC.c1 {V : World} {p : Nat} {e : Int} {ao : Option Addr} {n cap : Nat} {m : Bool} (h : RC V p e ao n cap m) : V.cell? ⟨p, 1, none⟩ = some (.slice ao n cap) := cell_of_row V p 1 _ _ _ h
theorem RC.c2 {V : World} {p : Nat} {e : Int} {ao : Option Addr} {n cap : Nat} {m : Bool} (h : RC V p e ao n cap m) : V.cell? ⟨p, 2, none⟩ = some (.bool m) := cell_of_row V p 2 _ _ _ h
theorem cellR_ok {c : CA} {w : World} (h : c.ok w) : cellR c.c = (c.key.isRight && decide (c.va.n ≤ 256)) := by
  have := h.va.len
  unfold cellR KA.isRight CA.c CA.key
  simp only [this]
  rw [Bool.eq_iff_iff]
  simp only [decide_eq_true_eq, Bool.and_eq_true]
  omega
theorem resR_all (e : Int) (l : List CA) (m : Bool) (h : 0 ≤ e ∧ e ≤ 18 ∧ l.length ≤ 16) : rightR (resR e l m) = l.all fun c => cellR c.c := by
  unfold rightR resR
  simp only [List.length_map]
  rw [decide_eq_true h, Bool.true_and, List.all_map]
  rfl
theorem resR_no (e : Int) (l : List CA) (m : Bool) (h : ¬ (0 ≤ e ∧ e ≤ 18 ∧ l.length ≤ 16)) : rightR (resR e l m) = false := by
  unfold rightR resR
  simp only [List.length_map]
  rw [decide_eq_false h, Bool.false_and]
theorem all_take_succ {α : Type} (p : α → Bool) {l : List α} {k : Nat} (hk : k < l.length) (h : (l.take k).all p = true) : (l.take (k + 1)).all p = p l[k] := by
  rw [List.take_succ_eq_append_getElem hk, List.all_append, h]
  simp

set_option maxRecDepth 100000 in
set_option maxHeartbeats 8000000 in
theorem prr_any (w : World) (e : Int) (ao : Option Addr) (n cap : Nat) (l : List CA) (m : Bool) (L : CL w ao n cap l) :
    Calls Try.prog 47 #[resV e ao n cap m] w fun x w' => x = .returned (.int .i64 (kindR (resR e l m))) ∧ Below w.heap.size w w' := by
  have hl : l.length = n := L.len
  have B : Below w.heap.size w (w.alloc (Obj.cells #[.int .i64 e, .slice ao n cap, .bool m] 45)) := (Below.refl _ w).alloc (Nat.le_refl _) _
  have K : RC (w.alloc (Obj.cells #[.int .i64 e, .slice ao n cap, .bool m] 45)) w.heap.size e ao n cap m := heap_alloc_new w _
  have L1 := L.below B
  unfold resV
  by_cases c0 : e < 0
  · have i0 : decide (e < 0) = true := by simp; omega
    have hv : Hid (rightR (resR e l m) = false) := resR_no e l m (by omega)
    clear L L1 K hl c0
    go_enter Try.func47, Try.ntmps47
    go_wp2
    go_ret
    exact ⟨by unfold kindR; rw [hv.out] <;> rfl, B⟩
  have i0 : decide (e < 0) = false := by simp; omega
  by_cases c1 : 18 < e
  · have i1 : decide (18 < e) = true := by simp; omega
    have hv : Hid (rightR (resR e l m) = false) := resR_no e l m (by omega)
    clear L L1 K hl c0 c1
    go_enter Try.func47, Try.ntmps47
    go_wp2
    go_ret
    exact ⟨by unfold kindR; rw [hv.out] <;> rfl, B⟩
  have i1 : decide (18 < e) = false := by simp; omega
  by_cases c2 : 16 < n
  · have i2 : decide ((16 : Int) < (n : Int)) = true := by simp; omega
    have hv : Hid (rightR (resR e l m) = false) := resR_no e l m (by omega)
    clear L L1 K hl c0 c1 c2
    go_enter Try.func47, Try.ntmps47
    go_wp2
    go_ret
    exact ⟨by unfold kindR; rw [hv.out] <;> rfl, B⟩
  have i2 : decide ((16 : Int) < (n : Int)) = false := by simp; omega
  have HV : Hid (rightR (resR e l m) = l.all fun c => cellR c.c) := resR_all e l m (by omega)
  have hn16 : n ≤ 16 := by omega
  clear c0 c1 c2 L
  go_enter Try.func47, Try.ntmps47
  go_wp2_with fail
  obtain ⟨w1, hw1⟩ : ∃ W, W = w.alloc (Obj.cells #[.int .i64 e, .slice ao n cap, .bool m] 45) := ⟨_, rfl⟩
  rw [← hw1] at B K L1 ⊢
  clear hw1
  go_loopw [4, 22] (fun _ i wr => ∃ k : Nat, k ≤ n ∧ i = .int .i64 k ∧ Below w.heap.size w wr ∧ Below w1.heap.size w1 wr ∧ (l.take k).all (fun c => cellR c.c) = true) (fun _ i _ => n - (intOf i).toNat)
  case atStart => exact ⟨0, Nat.zero_le _, rfl, B, Below.refl _ _, rfl⟩
  case round =>
    clear B
    obtain ⟨k, hk, rfl, B, C1, hall⟩ := hrel
    have HA : Hid ((l.take k).all (fun c => cellR c.c) = true) := hall
    have K1 := K.keep C1
    clear hall K
    by_cases hlt : k < n
    · obtain ⟨b, off, rfl, hc⟩ := L1.at (by omega)
      have hkl : k < l.length := by omega
      have X := (hc k hkl).below C1
      have hok : (l[k]).ok wr := (L1.ok _ (List.getElem_mem hkl)).below C1
      have i6 : (k : Int) < (n : Int) := by omega
      have HT : Hid ((l.take (k + 1)).all (fun c => cellR c.c) = cellR l[k].c) := by
        show _ = _
        exact all_take_succ (fun c : CA => cellR c.c) hkl HA.out
      have HL : Hid (cellR l[k].c = false → rightR (resR e l m) = false) := fun hb => by
        rw [HV.out, List.all_eq_false]
        exact ⟨_, List.getElem_mem hkl, by rw [hb]; simp⟩
      obtain ⟨c, hx⟩ : ∃ c : CA, c = l[k] := ⟨_, rfl⟩
      rw [← hx] at hok HT HL X
      clear hx hc HA
      have hcr := cellR_ok hok
      have HX : Hid (∀ V, Below wr.heap.size wr V → CX V b (off + k * 6) c) := fun V hV => X.below hV
      obtain ⟨q0, q1, q2, q3, q4, q5⟩ := X
      have r1 := K1.c1
      have Bc : Below wr.heap.size wr (wr.alloc (Obj.cells #[.string c.row, .string c.fam, .string c.qual, .int .u64 c.time, .slice c.va.ao c.va.n c.va.cap, .bool c.gone] 53)) := (Below.refl _ _).alloc (Nat.le_refl _) _
      have Kc : (wr.alloc (Obj.cells #[.string c.row, .string c.fam, .string c.qual, .int .u64 c.time, .slice c.va.ao c.va.n c.va.cap, .bool c.gone] 53)).heap[wr.heap.size]? = some (.cells #[.string c.row, .string c.fam, .string c.qual, .int .u64 c.time, .slice c.va.ao c.va.n c.va.cap, .bool c.gone] 53) := heap_alloc_new wr _
      cases kr : c.key.isRight with
      | false =>
        have hr : c.key.kind = 5 := by unfold KA.kind; rw [kr]; rfl
        have hv : Hid (rightR (resR e l m) = false) := HL.out (by rw [hcr, kr]; rfl)
        go_wp2_with (go_at_call 72; (refine (pright_any _ c.key).mono ?_; rintro x w2 ⟨rfl, C⟩; have E2 := Bc.trans (C.mono Bc.size); have D : Below w.heap.size w w2 := B.trans (E2.mono B.size); have D1 := C1.trans (E2.mono C1.size); have z4 : w2.cell? ⟨wr.heap.size, 4, none⟩ = some (.slice c.va.ao c.va.n c.va.cap) := (C.cell (by simp)).trans (cell_of_row _ wr.heap.size 4 _ _ _ Kc); have zlt : wr.heap.size < w2.heap.size := (by have := C.size; simp at this; omega); rw [hr]; clear q0 q1 q2 q3 q4 q5 r1 C))
        go_ret
        exact ⟨by unfold kindR; rw [hv.out] <;> rfl, D⟩
      | true =>
        have hr : c.key.kind = 0 := by unfold KA.kind; rw [kr]; rfl
        cases dv : decide (c.va.n ≤ 256) with
        | false =>
          have hv : Hid (rightR (resR e l m) = false) := HL.out (by rw [hcr, kr, dv]; rfl)
          go_wp2_with (first | (go_at_call 72; (refine (pright_any _ c.key).mono ?_; rintro x w2 ⟨rfl, C⟩; have E2 := Bc.trans (C.mono Bc.size); have D : Below w.heap.size w w2 := B.trans (E2.mono B.size); have D1 := C1.trans (E2.mono C1.size); have z4 : w2.cell? ⟨wr.heap.size, 4, none⟩ = some (.slice c.va.ao c.va.n c.va.cap) := (C.cell (by simp)).trans (cell_of_row _ wr.heap.size 4 _ _ _ Kc); have zlt : wr.heap.size < w2.heap.size := (by have := C.size; simp at this; omega); rw [hr]; clear q0 q1 q2 q3 q4 q5 r1 C)) | (go_at_call 73; refine (pvalue_any _ _ _ _).mono ?_; rintro e w' ⟨rfl, rfl⟩; rw [dv]))
          go_ret
          exact ⟨by unfold kindR; rw [hv.out] <;> rfl, D⟩
        | true =>
          have hcc : Hid (cellR c.c = true) := by show _ = _; rw [hcr, kr, dv]; rfl
          go_wp2_with (first | (go_at_call 72; (refine (pright_any _ c.key).mono ?_; rintro x w2 ⟨rfl, C⟩; have E2 := Bc.trans (C.mono Bc.size); have D : Below w.heap.size w w2 := B.trans (E2.mono B.size); have D1 := C1.trans (E2.mono C1.size); have z4 : w2.cell? ⟨wr.heap.size, 4, none⟩ = some (.slice c.va.ao c.va.n c.va.cap) := (C.cell (by simp)).trans (cell_of_row _ wr.heap.size 4 _ _ _ Kc); have zlt : wr.heap.size < w2.heap.size := (by have := C.size; simp at this; omega); rw [hr]; clear q0 q1 q2 q3 q4 q5 r1 C)) | (go_at_call 73; refine (pvalue_any _ _ _ _).mono ?_; rintro e w' ⟨rfl, rfl⟩; rw [dv]))
          go_roundw
          case rel => exact ⟨k + 1, by omega, by go_num, D, D1, by rw [HT.out, hcc.out]⟩
          case measure => simp [intOf]; omega
    · have i6 : (n : Int) ≤ (k : Int) := by omega
      have hv : Hid (rightR (resR e l m) = true) := by
        show _ = _
        rw [HV.out, ← HA.out, List.take_of_length_le (by omega)]
      have r1 := K1.c1
      go_wp2
      go_ret
      exact ⟨by unfold kindR; rw [hv.out] <;> rfl, B⟩
end Go.Proofs.Ytbfcilfdeemnpaa

/-
  Texts in one: CRight, PNames, PValue, CCells, PRes, Room.
-/
import Derived.Test.YtoagkffokfbpfaaSessionRisesQ0
namespace Go.Proofs.Ytoagkffokfbpfaa
open Go.RowKit
def KA.isRight (k : KA) : Bool := decide (1 ≤ k.row.size ∧ k.row.size ≤ 32 ∧ 1 ≤ k.fam.size ∧ k.fam.size ≤ 32 ∧ k.qual.size ≤ 32)
def KA.kind (k : KA) : Int := if k.isRight then 0 else 5
open Go.RowKit
theorem toE (s : ByteArray) : s.toList.isEmpty = decide (s.size = 0) := by
  rw [ByteArray.toList_eq]
  unfold ByteArray.size
  cases h : s.data.toList with
  | nil =>
    have h2 := congrArg List.length h
    have h3 : s.data.size = 0 := by simpa using h2
    simp [h3]
  | cons a t =>
    have h2 := congrArg List.length h
    have h3 : s.data.size ≠ 0 := by
      intro h4
      rw [Array.length_toList, h4, List.length_cons] at h2
      omega
    exact (decide_eq_false h3).symm
def KA.nv (k : KA) : Value := .agg #[.string k.row, .string k.fam, .string k.qual]
set_option maxRecDepth 100000 in
set_option maxHeartbeats 2000000 in
theorem pnames_any (w : World) (k : KA) :
    Calls Try.prog 64 #[k.val] w fun e w' => e = .returned k.nv ∧ Below w.heap.size w w' := by
  have B : Below w.heap.size w ((w.alloc (Obj.cells #[.string k.row, .string k.fam, .string k.qual, .int .u64 k.time] 79)).alloc (Obj.cells #[.string k.row, .string k.fam, .string k.qual] 104)) := ((Below.refl _ w).alloc (Nat.le_refl _) _).alloc (by simp) _
  unfold KA.val KA.nv
  go_enter Try.func64, Try.ntmps64
  go_wp2
  exact bodyPost_ret (v := .agg #[.string k.row, .string k.fam, .string k.qual]) (by simp [results, Try.results64, go_sem]) rfl ⟨rfl, B⟩
set_option maxRecDepth 100000 in
set_option maxHeartbeats 2000000 in
theorem pright_any (w : World) (k : KA) :
    Calls Try.prog 59 #[k.val] w fun e w' => e = .returned (.int .i64 k.kind) ∧ Below w.heap.size w w' := by
  have B0 : Below w.heap.size w (w.alloc (Obj.cells #[.string k.row, .string k.fam, .string k.qual, .int .u64 k.time] 79)) := (Below.refl _ w).alloc (Nat.le_refl _) _
  have K0 : ∀ i, (w.alloc (Obj.cells #[.string k.row, .string k.fam, .string k.qual, .int .u64 k.time] 79)).cell? ⟨w.heap.size, i, none⟩ = #[Value.string k.row, .string k.fam, .string k.qual, .int .u64 k.time][i]? := fun i => World.cell?_alloc_at _ _ _ _ rfl
  have no : Hid (∀ (_ : ¬ (1 ≤ k.row.size ∧ k.row.size ≤ 32 ∧ 1 ≤ k.fam.size ∧ k.fam.size ≤ 32 ∧ k.qual.size ≤ 32)), k.kind = 5) := fun h => by
    unfold KA.kind KA.isRight
    rw [decide_eq_false h]
    rfl
  have yes : Hid (∀ (_ : (1 ≤ k.row.size ∧ k.row.size ≤ 32 ∧ 1 ≤ k.fam.size ∧ k.fam.size ≤ 32 ∧ k.qual.size ≤ 32)), k.kind = 0) := fun h => by
    unfold KA.kind KA.isRight
    rw [decide_eq_true h]
    rfl
  obtain ⟨N, hN⟩ : ∃ N, N = w.heap.size := ⟨_, rfl⟩
  unfold KA.val
  go_enter Try.func59, Try.ntmps59
  go_wp2_with fail
  obtain ⟨w1, hw1⟩ : ∃ W, W = (w.alloc (Obj.cells #[.string k.row, .string k.fam, .string k.qual, .int .u64 k.time] 79)) := ⟨_, rfl⟩
  have z1 : w1.heap.size = w.heap.size + 1 := by rw [hw1]; simp
  rw [← hw1] at B0 K0 ⊢
  refine (pnames_any w1 k).mono ?_
  rintro e w2 ⟨rfl, C2⟩
  have B2 := B0.trans (C2.mono B0.size)
  have q0 : w2.cell? ⟨N, 0, none⟩ = some (.string k.row) := (C2.cell (by show N < _; omega)).trans ((hN ▸ K0 0 :))
  have q1 : w2.cell? ⟨N, 1, none⟩ = some (.string k.fam) := (C2.cell (by show N < _; omega)).trans ((hN ▸ K0 1 :))
  unfold KA.nv
  rw [← hN]
  have i0 : ∀ w, (Instr.index 104 (.agg #[.string k.row, .string k.fam, .string k.qual]) (.int .i64 0)).run Try.prog w = .ok (.string k.row) w := fun _ => by kernel_rfl
  have i1 : ∀ w, (Instr.index 104 (.agg #[.string k.row, .string k.fam, .string k.qual]) (.int .i64 1)).run Try.prog w = .ok (.string k.fam) w := fun _ => by kernel_rfl
  have i2 : ∀ w, (Instr.index 104 (.agg #[.string k.row, .string k.fam, .string k.qual]) (.int .i64 2)).run Try.prog w = .ok (.string k.qual) w := fun _ => by kernel_rfl
  clear hN z1 hw1 K0 B0 C2
  go_wp2_with fail
  go_loopw [4, 7] (fun s i wr => wr = w2 ∧ ∃ j : Nat, i = .int .i64 j ∧ j ≤ 3 ∧ (0 < j → k.row.size ≤ 32) ∧ (1 < j → k.fam.size ≤ 32) ∧ (2 < j → k.qual.size ≤ 32)) (fun _ i _ => 3 - (intOf i).toNat)
  case atStart => exact ⟨rfl, 0, rfl, by omega, by omega, by omega, by omega⟩
  case round =>
    obtain ⟨rfl, j, rfl, hj, h1, h2, h3⟩ := hrel
    obtain rfl | rfl | rfl | rfl : j = 0 ∨ j = 1 ∨ j = 2 ∨ j = 3 := by omega
    · by_cases l : 32 < k.row.size
      · have il : (32 : Int) < (k.row.size : Int) := by omega
        have hv : Hid (k.kind = 5) := no.out (by omega)
        go_wp2
        go_ret
        exact ⟨by rw [hv.out] <;> rfl, B2⟩
      · have il : (k.row.size : Int) ≤ 32 := by omega
        go_wp2
        go_roundw
        case rel => exact ⟨trivial, 1, rfl, by omega, by omega, by omega, by omega⟩
        case measure => simp [intOf]
    · by_cases l : 32 < k.fam.size
      · have il : (32 : Int) < (k.fam.size : Int) := by omega
        have hv : Hid (k.kind = 5) := no.out (by omega)
        go_wp2
        go_ret
        exact ⟨by rw [hv.out] <;> rfl, B2⟩
      · have il : (k.fam.size : Int) ≤ 32 := by omega
        go_wp2
        go_roundw
        case rel => exact ⟨trivial, 2, rfl, by omega, by omega, by omega, by omega⟩
        case measure => simp [intOf]
    · by_cases l : 32 < k.qual.size
      · have il : (32 : Int) < (k.qual.size : Int) := by omega
        have hv : Hid (k.kind = 5) := no.out (by omega)
        go_wp2
        go_ret
        exact ⟨by rw [hv.out] <;> rfl, B2⟩
      · have il : (k.qual.size : Int) ≤ 32 := by omega
        go_wp2
        go_roundw
        case rel => exact ⟨trivial, 3, rfl, by omega, by omega, by omega, by omega⟩
        case measure => simp [intOf]
    · by_cases r0 : k.row.size = 0
      · have e0 : k.row.toList.isEmpty = true := by rw [toE]; exact decide_eq_true r0
        have hv : Hid (k.kind = 5) := no.out (by omega)
        go_wp2
        go_ret
        exact ⟨by rw [hv.out] <;> rfl, B2⟩
      · have e0 : k.row.toList.isEmpty = false := by rw [toE]; exact decide_eq_false r0
        by_cases f0 : k.fam.size = 0
        · have e2 : k.fam.toList.isEmpty = true := by rw [toE]; exact decide_eq_true f0
          have hv : Hid (k.kind = 5) := no.out (by omega)
          go_wp2
          go_ret
          exact ⟨by rw [hv.out] <;> rfl, B2⟩
        · have e2 : k.fam.toList.isEmpty = false := by rw [toE]; exact decide_eq_false f0
          have hv : Hid (k.kind = 0) := yes.out (by omega)
          go_wp2
          go_ret
          exact ⟨by rw [hv.out] <;> rfl, B2⟩
open Go.RowKit
theorem pvalue_any (w : World) (ao : Option Addr) (n cap : Nat) :
    Calls Try.prog 60 #[.slice ao n cap] w fun e w' => e = .returned (.bool (decide (n ≤ 256))) ∧ w' = w := by
  by_cases l : n ≤ 256
  · have i : (n : Int) ≤ 256 := by omega
    rw [decide_eq_true l]
    go_enter Try.func60, Try.ntmps60
    go_wp2
    go_ret
    exact ⟨rfl, rfl⟩
  · have i : decide ((n : Int) ≤ 256) = false := by simp; omega
    rw [decide_eq_false l]
    go_enter Try.func60, Try.ntmps60
    go_wp2
    go_ret
    exact ⟨rfl, rfl⟩
open Go.RowKit
structure CX (V : World) (b p : Nat) (c : CA) : Prop where
  c0 : V.cell? ⟨b, p, none⟩ = some (.string c.row)
  c1 : V.cell? ⟨b, p + 1, none⟩ = some (.string c.fam)
  c2 : V.cell? ⟨b, p + 2, none⟩ = some (.string c.qual)
  c3 : V.cell? ⟨b, p + 3, none⟩ = some (.int .u64 c.time)
  c4 : V.cell? ⟨b, p + 4, none⟩ = some (.slice c.va.ao c.va.n c.va.cap)
  c5 : V.cell? ⟨b, p + 5, none⟩ = some (.bool c.gone)
theorem CX.below {V V' : World} {b p : Nat} {c : CA} (h : CX V b p c) (hb : Below V.heap.size V V') : CX V' b p c :=
  have k : ∀ a v, V.cell? a = some v → V'.cell? a = some v := fun _ _ hc => (hb.cell (World.block_lt_of_cell? V _ hc)).trans hc
  ⟨k _ _ h.c0, k _ _ h.c1, k _ _ h.c2, k _ _ h.c3, k _ _ h.c4, k _ _ h.c5⟩
theorem CL.at {w : World} {ao : Option Addr} {n cap : Nat} {l : List CA} (h : CL w ao n cap l) (hn : 0 < n) :
    ∃ b off, ao = some ⟨b, off, none⟩ ∧ ∀ i (hi : i < l.length), CX w b (off + i * 6) l[i] := by
  have hl := h.len
  cases ao with
  | none => have := (h.nil rfl).1; omega
  | some a =>
    obtain ⟨b, off, spot⟩ := a
    have hc := h.cell _ rfl 0 (by omega) 0 _ rfl
    have hs : spot = none := by simpa [Addr.add] using World.cell?_spot hc
    subst hs
    refine ⟨b, off, rfl, fun i hi => ?_⟩
    have k : ∀ j v, l[i].cells[j]? = some v → w.cell? ⟨b, off + i * 6 + j, none⟩ = some v := fun j v hv => by
      have := h.cell _ rfl i hi j v hv
      rw [Addr.add_lit] at this
      rw [Nat.add_assoc]
      exact this
    exact ⟨k 0 _ rfl, k 1 _ rfl, k 2 _ rfl, k 3 _ rfl, k 4 _ rfl, k 5 _ rfl⟩
def resV (e : Int) (ao : Option Addr) (n cap : Nat) (m : Bool) : Value := .agg #[.int .i64 e, .slice ao n cap, .bool m]
def resR (e : Int) (l : List CA) (m : Bool) : RV := ⟨e, l.map CA.c, m⟩
def CA.key (c : CA) : KA := ⟨c.row, c.fam, c.qual, c.time⟩
def RC (V : World) (p : Nat) (e : Int) (ao : Option Addr) (n cap : Nat) (m : Bool) : Prop := V.heap[p]? = some (.cells #[.int .i64 e, .slice ao n cap, .bool m] 42)
theorem RC.lt {V : World} {p : Nat} {e : Int} {ao : Option Addr} {n cap : Nat} {m : Bool} (h : RC V p e ao n cap m) : p < V.heap.size := (Array.getElem?_eq_some_iff.1 h).1
theorem RC.keep {V V' : World} {p : Nat} {e : Int} {ao : Option Addr} {n cap : Nat} {m : Bool} (h : RC V p e ao n cap m) (hb : Below V.heap.size V V') : RC V' p e ao n cap m := (hb.block p h.lt).trans h
theorem RC.c0 {V : World} {p : Nat} {e : Int} {ao : Option Addr} {n cap : Nat} {m : Bool} (h : RC V p e ao n cap m) : V.cell? ⟨p, 0, none⟩ = some (.int .i64 e) := cell_of_row V p 0 _ _ _ h
theorem RC.c1 {V : World} {p : Nat} {e : Int} {ao : Option Addr} {n cap : Nat} {m : Bool} (h : RC V p e ao n cap m) : V.cell? ⟨p, 1, none⟩ = some (.slice ao n cap) := cell_of_row V p 1 _ _ _ h
theorem RC.c2 {V : World} {p : Nat} {e : Int} {ao : Option Addr} {n cap : Nat} {m : Bool} (h : RC V p e ao n cap m) : V.cell? ⟨p, 2, none⟩ = some (.bool m) := cell_of_row V p 2 _ _ _ h
theorem cellR_ok {c : CA} {w : World} (h : c.ok w) : cellR c.c = (c.key.isRight && decide (c.va.n ≤ 256)) := by
  have := h.va.len
  unfold cellR KA.isRight CA.c CA.key
  simp only [this]
  rw [Bool.eq_iff_iff]
  simp only [decide_eq_true_eq, Bool.and_eq_true]
  omega
theorem resR_all (e : Int) (l : List CA) (m : Bool) (h : 0 ≤ e ∧ e ≤ 18 ∧ l.length ≤ 16) : rightR (resR e l m) = l.all fun c => cellR c.c := by
  unfold rightR resR
  simp only [List.length_map]
  rw [decide_eq_true h, Bool.true_and, List.all_map]
  rfl
theorem resR_no (e : Int) (l : List CA) (m : Bool) (h : ¬ (0 ≤ e ∧ e ≤ 18 ∧ l.length ≤ 16)) : rightR (resR e l m) = false := by
  unfold rightR resR
  simp only [List.length_map]
  rw [decide_eq_false h, Bool.false_and]
theorem all_take_succ {α : Type} (p : α → Bool) {l : List α} {k : Nat} (hk : k < l.length) (h : (l.take k).all p = true) : (l.take (k + 1)).all p = p l[k] := by
  rw [List.take_succ_eq_append_getElem hk, List.all_append, h]
  simp
open Go.RowKit
set_option maxRecDepth 100000 in
set_option maxHeartbeats 8000000 in
theorem prr_any (w : World) (e : Int) (ao : Option Addr) (n cap : Nat) (l : List CA) (m : Bool) (L : CL w ao n cap l) :
    Calls Try.prog 51 #[resV e ao n cap m] w fun x w' => x = .returned (.int .i64 (kindR (resR e l m))) ∧ Below w.heap.size w w' := by
  have hl : l.length = n := L.len
  have B : Below w.heap.size w (w.alloc (Obj.cells #[.int .i64 e, .slice ao n cap, .bool m] 42)) := (Below.refl _ w).alloc (Nat.le_refl _) _
  have K : RC (w.alloc (Obj.cells #[.int .i64 e, .slice ao n cap, .bool m] 42)) w.heap.size e ao n cap m := heap_alloc_new w _
  have L1 := L.below B
  unfold resV
  by_cases c0 : e < 0
  · have i0 : decide (e < 0) = true := by simp; omega
    have hv : Hid (rightR (resR e l m) = false) := resR_no e l m (by omega)
    clear L L1 K hl c0
    go_enter Try.func51, Try.ntmps51
    go_wp2
    go_ret
    exact ⟨by unfold kindR; rw [hv.out] <;> rfl, B⟩
  have i0 : decide (e < 0) = false := by simp; omega
  by_cases c1 : 18 < e
  · have i1 : decide (18 < e) = true := by simp; omega
    have hv : Hid (rightR (resR e l m) = false) := resR_no e l m (by omega)
    clear L L1 K hl c0 c1
    go_enter Try.func51, Try.ntmps51
    go_wp2
    go_ret
    exact ⟨by unfold kindR; rw [hv.out] <;> rfl, B⟩
  have i1 : decide (18 < e) = false := by simp; omega
  by_cases c2 : 16 < n
  · have i2 : decide ((16 : Int) < (n : Int)) = true := by simp; omega
    have hv : Hid (rightR (resR e l m) = false) := resR_no e l m (by omega)
    clear L L1 K hl c0 c1 c2
    go_enter Try.func51, Try.ntmps51
    go_wp2
    go_ret
    exact ⟨by unfold kindR; rw [hv.out] <;> rfl, B⟩
  have i2 : decide ((16 : Int) < (n : Int)) = false := by simp; omega
  have HV : Hid (rightR (resR e l m) = l.all fun c => cellR c.c) := resR_all e l m (by omega)
  have hn16 : n ≤ 16 := by omega
  clear c0 c1 c2 L
  go_enter Try.func51, Try.ntmps51
  go_wp2_with fail
  obtain ⟨w1, hw1⟩ : ∃ W, W = w.alloc (Obj.cells #[.int .i64 e, .slice ao n cap, .bool m] 42) := ⟨_, rfl⟩
  rw [← hw1] at B K L1 ⊢
  clear hw1
  go_loopw [4, 22] (fun _ i wr => ∃ k : Nat, k ≤ n ∧ i = .int .i64 k ∧ Below w.heap.size w wr ∧ Below w1.heap.size w1 wr ∧ (l.take k).all (fun c => cellR c.c) = true) (fun _ i _ => n - (intOf i).toNat)
  case atStart => exact ⟨0, Nat.zero_le _, rfl, B, Below.refl _ _, rfl⟩
  case round =>
    clear B
    obtain ⟨k, hk, rfl, B, C1, hall⟩ := hrel
    have HA : Hid ((l.take k).all (fun c => cellR c.c) = true) := hall
    have K1 := K.keep C1
    clear hall K
    by_cases hlt : k < n
    · obtain ⟨b, off, rfl, hc⟩ := L1.at (by omega)
      have hkl : k < l.length := by omega
      have X := (hc k hkl).below C1
      have hok : (l[k]).ok wr := (L1.ok _ (List.getElem_mem hkl)).below C1
      have i6 : (k : Int) < (n : Int) := by omega
      have HT : Hid ((l.take (k + 1)).all (fun c => cellR c.c) = cellR l[k].c) := by
        show _ = _
        exact all_take_succ (fun c : CA => cellR c.c) hkl HA.out
      have HL : Hid (cellR l[k].c = false → rightR (resR e l m) = false) := fun hb => by
        rw [HV.out, List.all_eq_false]
        exact ⟨_, List.getElem_mem hkl, by rw [hb]; simp⟩
      obtain ⟨c, hx⟩ : ∃ c : CA, c = l[k] := ⟨_, rfl⟩
      rw [← hx] at hok HT HL X
      clear hx hc HA
      have hcr := cellR_ok hok
      have HX : Hid (∀ V, Below wr.heap.size wr V → CX V b (off + k * 6) c) := fun V hV => X.below hV
      obtain ⟨q0, q1, q2, q3, q4, q5⟩ := X
      have r1 := K1.c1
      have Bc : Below wr.heap.size wr (wr.alloc (Obj.cells #[.string c.row, .string c.fam, .string c.qual, .int .u64 c.time, .slice c.va.ao c.va.n c.va.cap, .bool c.gone] 81)) := (Below.refl _ _).alloc (Nat.le_refl _) _
      have Kc : (wr.alloc (Obj.cells #[.string c.row, .string c.fam, .string c.qual, .int .u64 c.time, .slice c.va.ao c.va.n c.va.cap, .bool c.gone] 81)).heap[wr.heap.size]? = some (.cells #[.string c.row, .string c.fam, .string c.qual, .int .u64 c.time, .slice c.va.ao c.va.n c.va.cap, .bool c.gone] 81) := heap_alloc_new wr _
      cases kr : c.key.isRight with
      | false =>
        have hr : c.key.kind = 5 := by unfold KA.kind; rw [kr]; rfl
        have hv : Hid (rightR (resR e l m) = false) := HL.out (by rw [hcr, kr]; rfl)
        go_wp2_with (go_at_call 59; (refine (pright_any _ c.key).mono ?_; rintro x w2 ⟨rfl, C⟩; have E2 := Bc.trans (C.mono Bc.size); have D : Below w.heap.size w w2 := B.trans (E2.mono B.size); have D1 := C1.trans (E2.mono C1.size); have z4 : w2.cell? ⟨wr.heap.size, 4, none⟩ = some (.slice c.va.ao c.va.n c.va.cap) := (C.cell (by simp)).trans (cell_of_row _ wr.heap.size 4 _ _ _ Kc); have zlt : wr.heap.size < w2.heap.size := (by have := C.size; simp at this; omega); rw [hr]; clear q0 q1 q2 q3 q4 q5 r1 C))
        go_ret
        exact ⟨by unfold kindR; rw [hv.out] <;> rfl, D⟩
      | true =>
        have hr : c.key.kind = 0 := by unfold KA.kind; rw [kr]; rfl
        cases dv : decide (c.va.n ≤ 256) with
        | false =>
          have hv : Hid (rightR (resR e l m) = false) := HL.out (by rw [hcr, kr, dv]; rfl)
          go_wp2_with (first | (go_at_call 59; (refine (pright_any _ c.key).mono ?_; rintro x w2 ⟨rfl, C⟩; have E2 := Bc.trans (C.mono Bc.size); have D : Below w.heap.size w w2 := B.trans (E2.mono B.size); have D1 := C1.trans (E2.mono C1.size); have z4 : w2.cell? ⟨wr.heap.size, 4, none⟩ = some (.slice c.va.ao c.va.n c.va.cap) := (C.cell (by simp)).trans (cell_of_row _ wr.heap.size 4 _ _ _ Kc); have zlt : wr.heap.size < w2.heap.size := (by have := C.size; simp at this; omega); rw [hr]; clear q0 q1 q2 q3 q4 q5 r1 C)) | (go_at_call 60; refine (pvalue_any _ _ _ _).mono ?_; rintro e w' ⟨rfl, rfl⟩; rw [dv]))
          go_ret
          exact ⟨by unfold kindR; rw [hv.out] <;> rfl, D⟩
        | true =>
          have hcc : Hid (cellR c.c = true) := by show _ = _; rw [hcr, kr, dv]; rfl
          go_wp2_with (first | (go_at_call 59; (refine (pright_any _ c.key).mono ?_; rintro x w2 ⟨rfl, C⟩; have E2 := Bc.trans (C.mono Bc.size); have D : Below w.heap.size w w2 := B.trans (E2.mono B.size); have D1 := C1.trans (E2.mono C1.size); have z4 : w2.cell? ⟨wr.heap.size, 4, none⟩ = some (.slice c.va.ao c.va.n c.va.cap) := (C.cell (by simp)).trans (cell_of_row _ wr.heap.size 4 _ _ _ Kc); have zlt : wr.heap.size < w2.heap.size := (by have := C.size; simp at this; omega); rw [hr]; clear q0 q1 q2 q3 q4 q5 r1 C)) | (go_at_call 60; refine (pvalue_any _ _ _ _).mono ?_; rintro e w' ⟨rfl, rfl⟩; rw [dv]))
          go_roundw
          case rel => exact ⟨k + 1, by omega, by go_num, D, D1, by rw [HT.out, hcc.out]⟩
          case measure => simp [intOf]; omega
    · have i6 : (n : Int) ≤ (k : Int) := by omega
      have hv : Hid (rightR (resR e l m) = true) := by
        show _ = _
        rw [HV.out, ← HA.out, List.take_of_length_le (by omega)]
      have r1 := K1.c1
      go_wp2
      go_ret
      exact ⟨by unfold kindR; rw [hv.out] <;> rfl, B⟩
open Go.RowKit
set_option maxHeartbeats 400000 in
theorem withRoom_any (w : World) (ao : Option Addr) (n cap r : Nat) (xs : List Int) (h : Sl w ao n cap xs) (hr : n + r ≤ 140737488355328) :
    Calls Try.prog 42 #[.slice ao n cap, .int .i64 r] w fun e w' =>
      e = .returned (.slice (some ⟨w.heap.size, 0, none⟩) n (n + r)) ∧ w'.ownsRow w.heap.size 5 1 (.slice (some ⟨w.heap.size, 0, none⟩) n (n + r)) n (bv xs) ∧ Below w.heap.size w w' := by
  obtain ⟨i0, hi, hz0, hz1, hz2⟩ := info_parts u8info
  have hl := h.len
  have hnil := h.nil
  have hcells := h.cells
  go_enter Try.func42, Try.ntmps42
  go_wp2_with (first | (at_make; refine wpList_make_own _ rfl _ _ 22 rfl w.heap.size 5 i0 (.int .u8 0) 1 Try.underlying22 hi hz0 hz1 _ _ _ (n + r) rfl rfl (by omega) (by rw [hz2]; omega) (by unfold maxLen; omega) (Nat.le_refl _) ?_; intro w1 hown1 hgrow1) | (at_builtin; refine wpList_append_fits_any _ rfl _ _ 22 rfl w.heap.size 5 i0 1 Try.underlying22 hi hz1 w.heap.size 0 (n + r) [] rfl hown1 ao n cap (bv xs) rfl (by rw [bv_length]; omega) hnil (fun ad had j u hu => hgrow1.cell (hcells ad had j u hu) (by simp)) (bv_one xs) (by omega) ?_; intro w2 hown2 hgrow2; simp only [Nat.zero_add, List.nil_append] at hown2) | fail)
  have hb : Below w.heap.size w w2 := ((Below.refl _ w).grown hgrow1 (Nat.le_refl _) (fun k hk => by simp at hk)).grown hgrow2 hgrow1.size (fun k hk => by simp at hk; omega)
  go_ret
  exact ⟨rfl, hown2, hb⟩
end Go.Proofs.Ytoagkffokfbpfaa

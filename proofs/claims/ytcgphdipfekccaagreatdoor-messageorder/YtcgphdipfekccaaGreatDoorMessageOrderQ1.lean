/-
  Texts in one: CKind, PNames, PValue, CCells, CellRow, OAt, Same.
-/
import Derived.Test.YtcgphdipfekccaaGreatDoorMessageOrderQ0
import Derived.Deep.QuietTactic
import Derived.BigQuiet
namespace Go.Proofs.YtcgphdipfekccaaGreatDoor
open Go.RowKit
theorem toL_ne {s t : ByteArray} (h : s ≠ t) : (s.toList == t.toList) = false := by
  rw [beq_eq_false_iff_ne]
  intro e
  apply h
  rw [ByteArray.toList_eq, ByteArray.toList_eq] at e
  exact ByteArray.ext (Array.toList_inj.1 e)
def KA.isRight (k : KA) : Bool := decide (1 ≤ k.row.size ∧ k.row.size ≤ 32 ∧ 1 ≤ k.fam.size ∧ k.fam.size ≤ 32 ∧ k.qual.size ≤ 32)
def KA.kind (k : KA) : Int := if k.isRight then 0 else 5
open Go.RowKit
theorem toE (s : ByteArray) : s.toList.isEmpty = decide (s.size = 0) := by
  rw [ByteArray.toList_eq]
  unfold ByteArray.size
  cases h : s.data.toList with
  | nil =>
    have h2 := congrArg List.length h
    have h3 : s.data.size = 0 := by simpa using h2
    simp [h3]
  | cons a t =>
    have h2 := congrArg List.length h
    have h3 : s.data.size ≠ 0 := by
      intro h4
      rw [Array.length_toList, h4, List.length_cons] at h2
      omega
    exact (decide_eq_false h3).symm
def KA.nv (k : KA) : Value := .agg #[.string k.row, .string k.fam, .string k.qual]
set_option maxRecDepth 100000 in
set_option maxHeartbeats 2000000 in
theorem pnames_any (w : World) (k : KA) :
    Calls Tryz.prog 97 #[k.val] w fun e w' => e = .returned k.nv ∧ Below w.heap.size w w' := by
  have B : Below w.heap.size w ((w.alloc (Obj.cells #[.string k.row, .string k.fam, .string k.qual, .int .u64 k.time] 27)).alloc (Obj.cells #[.string k.row, .string k.fam, .string k.qual] 144)) := ((Below.refl _ w).alloc (Nat.le_refl _) _).alloc (by simp) _
  unfold KA.val KA.nv
  go_enter Tryz.func97, Tryz.ntmps97
  go_wp2
  exact bodyPost_ret (v := .agg #[.string k.row, .string k.fam, .string k.qual]) (by simp [results, Tryz.results97, go_sem]) rfl ⟨rfl, B⟩
set_option maxRecDepth 100000 in
set_option maxHeartbeats 2000000 in
theorem pright_any (w : World) (k : KA) :
    Calls Tryz.prog 87 #[k.val] w fun e w' => e = .returned (.int .i64 k.kind) ∧ Below w.heap.size w w' := by
  have B0 : Below w.heap.size w (w.alloc (Obj.cells #[.string k.row, .string k.fam, .string k.qual, .int .u64 k.time] 27)) := (Below.refl _ w).alloc (Nat.le_refl _) _
  have K0 : ∀ i, (w.alloc (Obj.cells #[.string k.row, .string k.fam, .string k.qual, .int .u64 k.time] 27)).cell? ⟨w.heap.size, i, none⟩ = #[Value.string k.row, .string k.fam, .string k.qual, .int .u64 k.time][i]? := fun i => World.cell?_alloc_at _ _ _ _ rfl
  have no : Hid (∀ (_ : ¬ (1 ≤ k.row.size ∧ k.row.size ≤ 32 ∧ 1 ≤ k.fam.size ∧ k.fam.size ≤ 32 ∧ k.qual.size ≤ 32)), k.kind = 5) := fun h => by
    unfold KA.kind KA.isRight
    rw [decide_eq_false h]
    rfl
  have yes : Hid (∀ (_ : (1 ≤ k.row.size ∧ k.row.size ≤ 32 ∧ 1 ≤ k.fam.size ∧ k.fam.size ≤ 32 ∧ k.qual.size ≤ 32)), k.kind = 0) := fun h => by
    unfold KA.kind KA.isRight
    rw [decide_eq_true h]
    rfl
  obtain ⟨N, hN⟩ : ∃ N, N = w.heap.size := ⟨_, rfl⟩
  unfold KA.val
  go_enter Tryz.func87, Tryz.ntmps87
  go_wp2_with fail
  obtain ⟨w1, hw1⟩ : ∃ W, W = (w.alloc (Obj.cells #[.string k.row, .string k.fam, .string k.qual, .int .u64 k.time] 27)) := ⟨_, rfl⟩
  have z1 : w1.heap.size = w.heap.size + 1 := by rw [hw1]; simp
  rw [← hw1] at B0 K0 ⊢
  refine (pnames_any w1 k).mono ?_
  rintro e w2 ⟨rfl, C2⟩
  have B2 := B0.trans (C2.mono B0.size)
  have q0 : w2.cell? ⟨N, 0, none⟩ = some (.string k.row) := (C2.cell (by show N < _; omega)).trans ((hN ▸ K0 0 :))
  have q1 : w2.cell? ⟨N, 1, none⟩ = some (.string k.fam) := (C2.cell (by show N < _; omega)).trans ((hN ▸ K0 1 :))
  unfold KA.nv
  rw [← hN]
  have i0 : ∀ w, (Instr.index 144 (.agg #[.string k.row, .string k.fam, .string k.qual]) (.int .i64 0)).run Tryz.prog w = .ok (.string k.row) w := fun _ => by kernel_rfl
  have i1 : ∀ w, (Instr.index 144 (.agg #[.string k.row, .string k.fam, .string k.qual]) (.int .i64 1)).run Tryz.prog w = .ok (.string k.fam) w := fun _ => by kernel_rfl
  have i2 : ∀ w, (Instr.index 144 (.agg #[.string k.row, .string k.fam, .string k.qual]) (.int .i64 2)).run Tryz.prog w = .ok (.string k.qual) w := fun _ => by kernel_rfl
  clear hN z1 hw1 K0 B0 C2
  go_wp2_with fail
  go_loopw [4, 7] (fun s i wr => wr = w2 ∧ ∃ j : Nat, i = .int .i64 j ∧ j ≤ 3 ∧ (0 < j → k.row.size ≤ 32) ∧ (1 < j → k.fam.size ≤ 32) ∧ (2 < j → k.qual.size ≤ 32)) (fun _ i _ => 3 - (intOf i).toNat)
  case atStart => exact ⟨rfl, 0, rfl, by omega, by omega, by omega, by omega⟩
  case round =>
    obtain ⟨rfl, j, rfl, hj, h1, h2, h3⟩ := hrel
    obtain rfl | rfl | rfl | rfl : j = 0 ∨ j = 1 ∨ j = 2 ∨ j = 3 := by omega
    · by_cases l : 32 < k.row.size
      · have il : (32 : Int) < (k.row.size : Int) := by omega
        have hv : Hid (k.kind = 5) := no.out (by omega)
        go_wp2
        go_ret
        exact ⟨by rw [hv.out] <;> rfl, B2⟩
      · have il : (k.row.size : Int) ≤ 32 := by omega
        go_wp2
        go_roundw
        case rel => exact ⟨trivial, 1, rfl, by omega, by omega, by omega, by omega⟩
        case measure => simp [intOf]
    · by_cases l : 32 < k.fam.size
      · have il : (32 : Int) < (k.fam.size : Int) := by omega
        have hv : Hid (k.kind = 5) := no.out (by omega)
        go_wp2
        go_ret
        exact ⟨by rw [hv.out] <;> rfl, B2⟩
      · have il : (k.fam.size : Int) ≤ 32 := by omega
        go_wp2
        go_roundw
        case rel => exact ⟨trivial, 2, rfl, by omega, by omega, by omega, by omega⟩
        case measure => simp [intOf]
    · by_cases l : 32 < k.qual.size
      · have il : (32 : Int) < (k.qual.size : Int) := by omega
        have hv : Hid (k.kind = 5) := no.out (by omega)
        go_wp2
        go_ret
        exact ⟨by rw [hv.out] <;> rfl, B2⟩
      · have il : (k.qual.size : Int) ≤ 32 := by omega
        go_wp2
        go_roundw
        case rel => exact ⟨trivial, 3, rfl, by omega, by omega, by omega, by omega⟩
        case measure => simp [intOf]
    · by_cases r0 : k.row.size = 0
      · have e0 : k.row.toList.isEmpty = true := by rw [toE]; exact decide_eq_true r0
        have hv : Hid (k.kind = 5) := no.out (by omega)
        go_wp2
        go_ret
        exact ⟨by rw [hv.out] <;> rfl, B2⟩
      · have e0 : k.row.toList.isEmpty = false := by rw [toE]; exact decide_eq_false r0
        by_cases f0 : k.fam.size = 0
        · have e2 : k.fam.toList.isEmpty = true := by rw [toE]; exact decide_eq_true f0
          have hv : Hid (k.kind = 5) := no.out (by omega)
          go_wp2
          go_ret
          exact ⟨by rw [hv.out] <;> rfl, B2⟩
        · have e2 : k.fam.toList.isEmpty = false := by rw [toE]; exact decide_eq_false f0
          have hv : Hid (k.kind = 0) := yes.out (by omega)
          go_wp2
          go_ret
          exact ⟨by rw [hv.out] <;> rfl, B2⟩
open Go.RowKit
theorem pvalue_any (w : World) (ao : Option Addr) (n cap : Nat) :
    Calls Tryz.prog 88 #[.slice ao n cap] w fun e w' => e = .returned (.bool (decide (n ≤ 256))) ∧ w' = w := by
  by_cases l : n ≤ 256
  · have i : (n : Int) ≤ 256 := by omega
    rw [decide_eq_true l]
    go_enter Tryz.func88, Tryz.ntmps88
    go_wp2
    go_ret
    exact ⟨rfl, rfl⟩
  · have i : decide ((n : Int) ≤ 256) = false := by simp; omega
    rw [decide_eq_false l]
    go_enter Tryz.func88, Tryz.ntmps88
    go_wp2
    go_ret
    exact ⟨rfl, rfl⟩
open Go.RowKit
structure CX (V : World) (b p : Nat) (c : CA) : Prop where
  c0 : V.cell? ⟨b, p, none⟩ = some (.string c.row)
  c1 : V.cell? ⟨b, p + 1, none⟩ = some (.string c.fam)
  c2 : V.cell? ⟨b, p + 2, none⟩ = some (.string c.qual)
  c3 : V.cell? ⟨b, p + 3, none⟩ = some (.int .u64 c.time)
  c4 : V.cell? ⟨b, p + 4, none⟩ = some (.slice c.va.ao c.va.n c.va.cap)
  c5 : V.cell? ⟨b, p + 5, none⟩ = some (.bool c.gone)
theorem CX.below {V V' : World} {b p : Nat} {c : CA} (h : CX V b p c) (hb : Below V.heap.size V V') : CX V' b p c :=
  have k : ∀ a v, V.cell? a = some v → V'.cell? a = some v := fun _ _ hc => (hb.cell (World.block_lt_of_cell? V _ hc)).trans hc
  ⟨k _ _ h.c0, k _ _ h.c1, k _ _ h.c2, k _ _ h.c3, k _ _ h.c4, k _ _ h.c5⟩
theorem CL.at {w : World} {ao : Option Addr} {n cap : Nat} {l : List CA} (h : CL w ao n cap l) (hn : 0 < n) :
    ∃ b off, ao = some ⟨b, off, none⟩ ∧ ∀ i (hi : i < l.length), CX w b (off + i * 6) l[i] := by
  have hl := h.len
  cases ao with
  | none => have := (h.nil rfl).1; omega
  | some a =>
    obtain ⟨b, off, spot⟩ := a
    have hc := h.cell _ rfl 0 (by omega) 0 _ rfl
    have hs : spot = none := by simpa [Addr.add] using World.cell?_spot hc
    subst hs
    refine ⟨b, off, rfl, fun i hi => ?_⟩
    have k : ∀ j v, l[i].cells[j]? = some v → w.cell? ⟨b, off + i * 6 + j, none⟩ = some v := fun j v hv => by
      have := h.cell _ rfl i hi j v hv
      rw [Addr.add_lit] at this
      rw [Nat.add_assoc]
      exact this
    exact ⟨k 0 _ rfl, k 1 _ rfl, k 2 _ rfl, k 3 _ rfl, k 4 _ rfl, k 5 _ rfl⟩
def resV (e : Int) (ao : Option Addr) (n cap : Nat) (m : Bool) : Value := .agg #[.int .i64 e, .slice ao n cap, .bool m]
def resR (e : Int) (l : List CA) (m : Bool) : RV := ⟨e, l.map CA.c, m⟩
def CA.key (c : CA) : KA := ⟨c.row, c.fam, c.qual, c.time⟩
def RC (V : World) (p : Nat) (e : Int) (ao : Option Addr) (n cap : Nat) (m : Bool) : Prop := V.heap[p]? = some (.cells #[.int .i64 e, .slice ao n cap, .bool m] 44)
theorem RC.lt {V : World} {p : Nat} {e : Int} {ao : Option Addr} {n cap : Nat} {m : Bool} (h : RC V p e ao n cap m) : p < V.heap.size := (Array.getElem?_eq_some_iff.1 h).1
theorem RC.keep {V V' : World} {p : Nat} {e : Int} {ao : Option Addr} {n cap : Nat} {m : Bool} (h : RC V p e ao n cap m) (hb : Below V.heap.size V V') : RC V' p e ao n cap m := (hb.block p h.lt).trans h
theorem RC.c0 {V : World} {p : Nat} {e : Int} {ao : Option Addr} {n cap : Nat} {m : Bool} (h : RC V p e ao n cap m) : V.cell? ⟨p, 0, none⟩ = some (.int .i64 e) := cell_of_row V p 0 _ _ _ h
theorem RC.c1 {V : World} {p : Nat} {e : Int} {ao : Option Addr} {n cap : Nat} {m : Bool} (h : RC V p e ao n cap m) : V.cell? ⟨p, 1, none⟩ = some (.slice ao n cap) := cell_of_row V p 1 _ _ _ h
theorem RC.c2 {V : World} {p : Nat} {e : Int} {ao : Option Addr} {n cap : Nat} {m : Bool} (h : RC V p e ao n cap m) : V.cell? ⟨p, 2, none⟩ = some (.bool m) := cell_of_row V p 2 _ _ _ h
theorem cellR_ok {c : CA} {w : World} (h : c.ok w) : cellR c.c = (c.key.isRight && decide (c.va.n ≤ 256)) := by
  have := h.va.len
  unfold cellR KA.isRight CA.c CA.key
  simp only [this]
  rw [Bool.eq_iff_iff]
  simp only [decide_eq_true_eq, Bool.and_eq_true]
  omega
theorem resR_all (e : Int) (l : List CA) (m : Bool) (h : 0 ≤ e ∧ e ≤ 18 ∧ l.length ≤ 16) : rightR (resR e l m) = l.all fun c => cellR c.c := by
  unfold rightR resR
  simp only [List.length_map]
  rw [decide_eq_true h, Bool.true_and, List.all_map]
  rfl
theorem resR_no (e : Int) (l : List CA) (m : Bool) (h : ¬ (0 ≤ e ∧ e ≤ 18 ∧ l.length ≤ 16)) : rightR (resR e l m) = false := by
  unfold rightR resR
  simp only [List.length_map]
  rw [decide_eq_false h, Bool.false_and]
theorem all_take_succ {α : Type} (p : α → Bool) {l : List α} {k : Nat} (hk : k < l.length) (h : (l.take k).all p = true) : (l.take (k + 1)).all p = p l[k] := by
  rw [List.take_succ_eq_append_getElem hk, List.all_append, h]
  simp
open Go.RowKit
theorem cellInfo : (Tryz.prog.info? 119).map (fun i => (i.zero, i.size, i.bytes)) = some (some (.agg #[.string ⟨#[]⟩, .string ⟨#[]⟩, .string ⟨#[]⟩, .int .u64 0, .slice none 0 0, .bool false]), 6, 88) := by kernel_rfl
def cellsC (l : List CA) : List Value := (l.map CA.cells).flatten
theorem CL.own {w : World} {base : Nat} {v : Value} {n : Nat} {l : List CA} (h : w.ownsRow base 119 6 v n (cellsC l)) (hok : ∀ o ∈ l, o.ok w) : ∃ ao cap, v = .slice ao n cap ∧ CL w ao n cap l := by
  have hl : l.length = n := by
    have := h.1
    unfold cellsC at this
    rw [flat_len CA.cells 6 (fun _ => rfl)] at this
    omega
  rcases h.2 with ⟨rfl, rfl⟩ | ⟨g, cap, cur, rfl, a1, a2, a3, a4, a5, a6⟩
  · exact ⟨none, 0, rfl, hl, Nat.le_refl _, Nat.zero_le _, fun _ => ⟨rfl, rfl⟩, fun _ h => by simp at h, fun y hy => hok y hy⟩
  · refine ⟨some ⟨g, 0, none⟩, cap, rfl, hl, a3, a4, fun h => by simp at h, fun a ha i hi j u hu => ?_, fun y hy => hok y hy⟩
    obtain rfl := Option.some.inj ha
    have hj : j < 6 := (List.getElem?_eq_some_iff.1 hu).1
    refine h.cells (g := g) rfl (i * 6 + j) u ?_
    unfold cellsC
    rw [flat_get CA.cells 6 (fun _ => rfl) l i j hi hj]
    exact hu
theorem c_one (y : CA) : ∀ u ∈ y.cells, u.oneCell' = true := by
  intro u hu
  unfold CA.cells at hu
  simp only [List.mem_cons, List.not_mem_nil, or_false] at hu
  rcases hu with rfl | rfl | rfl | rfl | rfl | rfl <;> rfl
open Go.RowKit
structure OX (V : World) (b p : Nat) (o : OA) : Prop where
  c0 : V.cell? ⟨b, p, none⟩ = some (.int .i64 o.kind)
  c1 : V.cell? ⟨b, p + 1, none⟩ = some (.string o.row)
  c2 : V.cell? ⟨b, p + 2, none⟩ = some (.string o.fam)
  c3 : V.cell? ⟨b, p + 3, none⟩ = some (.string o.qual)
  c4 : V.cell? ⟨b, p + 4, none⟩ = some (.int .u64 o.time)
  c5 : V.cell? ⟨b, p + 5, none⟩ = some (.string o.to)
  c6 : V.cell? ⟨b, p + 6, none⟩ = some (.slice o.va.ao o.va.n o.va.cap)
  c7 : V.cell? ⟨b, p + 7, none⟩ = some (.slice o.wa.ao o.wa.n o.wa.cap)
  c8 : V.cell? ⟨b, p + 8, none⟩ = some (.bool o.has)
  c9 : V.cell? ⟨b, p + 9, none⟩ = some (.slice o.so o.sn o.sc)
theorem OX.below {V V' : World} {b p : Nat} {o : OA} (h : OX V b p o) (hb : Below V.heap.size V V') : OX V' b p o :=
  have k : ∀ a v, V.cell? a = some v → V'.cell? a = some v := fun _ _ hc => (hb.cell (World.block_lt_of_cell? V _ hc)).trans hc
  ⟨k _ _ h.c0, k _ _ h.c1, k _ _ h.c2, k _ _ h.c3, k _ _ h.c4, k _ _ h.c5, k _ _ h.c6, k _ _ h.c7, k _ _ h.c8, k _ _ h.c9⟩
theorem OWL.at {w : World} {d : Nat} {ao : Option Addr} {n cap : Nat} {l : List (OD d)} (h : OWL w d ao n cap l) (hn : 0 < n) :
    ∃ b off, ao = some ⟨b, off, none⟩ ∧ ∀ i (hi : i < l.length), OX w b (off + i * 10) (topD d l[i]) := by
  have hl := h.len
  cases ao with
  | none => have := (h.nil rfl).1; omega
  | some a =>
    obtain ⟨b, off, spot⟩ := a
    have hc := h.cell _ rfl 0 (by omega) 0 _ rfl
    have hs : spot = none := by simpa [Addr.add] using World.cell?_spot hc
    subst hs
    refine ⟨b, off, rfl, fun i hi => ?_⟩
    have k : ∀ j v, (topD d l[i]).cells[j]? = some v → w.cell? ⟨b, off + i * 10 + j, none⟩ = some v := fun j v hv => by
      have := h.cell _ rfl i hi j v hv
      rw [Addr.add_lit] at this
      rw [Nat.add_assoc]
      exact this
    exact ⟨k 0 _ rfl, k 1 _ rfl, k 2 _ rfl, k 3 _ rfl, k 4 _ rfl, k 5 _ rfl, k 6 _ rfl, k 7 _ rfl, k 8 _ rfl, k 9 _ rfl⟩
theorem OW.subs {w : World} {d : Nat} {x : OD (d + 1)} (h : OW w (d + 1) x) : OWL w d x.1.so x.1.sn x.1.sc x.2 :=
  ⟨h.2.1, h.1.le, h.1.mx, h.1.nil, h.2.2.1, h.2.2.2⟩
open Go.RowKit
theorem lists_of (n : Nat) (xs ys : List Int) (h1 : xs.length = n) (h2 : ys.length = n) (h : ∀ j, j < n → xs.getD j 0 = ys.getD j 0) : xs = ys := by
  apply List.ext_getElem (by omega)
  intro j hj hj2
  have := h j (by omega)
  simpa [List.getD, hj, hj2] using this
theorem Sl.at {w : World} {ao : Option Addr} {n cap : Nat} {xs : List Int} (h : Sl w ao n cap xs) (hn : 0 < n) :
    ∃ b off, ao = some ⟨b, off, none⟩ ∧ ∀ i, i < n → w.cell? ⟨b, off + i, none⟩ = some (.int .u8 (xs.getD i 0)) := by
  cases ao with
  | none => have := (h.nil rfl).1; omega
  | some a =>
    obtain ⟨b, off, spot⟩ := a
    have hc := h.cell _ rfl 0 hn
    have hs : spot = none := by simpa [Addr.add] using World.cell?_spot hc
    subst hs
    exact ⟨b, off, rfl, fun i hi => by have := h.cell _ rfl i hi; rw [Addr.add_lit] at this; exact this⟩
set_option maxHeartbeats 800000 in
theorem same_any (w : World) (ao bo : Option Addr) (n cap m cap2 : Nat) (xs ys : List Int) (h : Sl w ao n cap xs) (h2 : Sl w bo m cap2 ys) :
    Calls Tryz.prog 8 #[.slice ao n cap, .slice bo m cap2] w fun e w' =>
      e = .returned (.bool (decide (xs = ys))) ∧ ∃ q, w' = w.drewN q := by
  have hl := h.len
  have hl2 := h2.len
  have hle := h.le
  have hmx := h.mx
  unfold maxLen at hmx
  by_cases hnm : n = m
  · subst hnm
    have hne : ((n : Int) != (n : Int)) = false := by simp
    go_enter Tryz.func8, Tryz.ntmps8
    go_wp2
    go_loopw [5] (fun i wr => ∃ k q : Nat, k ≤ n ∧ i = .int .i64 k ∧ wr = w.drewN q ∧ ∀ j, j < k → xs.getD j 0 = ys.getD j 0) (fun i _ => n - (intOf i).toNat)
    case atStart => exact ⟨0, 0, Nat.zero_le _, rfl, rfl, fun j hj => by omega⟩
    case round =>
      obtain ⟨k, q, hk, rfl, rfl, heq⟩ := hrel
      by_cases hlt : k < n
      · obtain ⟨b, off, rfl, hc⟩ := h.at (by omega)
        obtain ⟨b2, off2, rfl, hc2⟩ := h2.at (by omega)
        have c1 := hc k hlt
        have c2 := hc2 k hlt
        have hlt1 : (k : Int) < (n : Int) := by omega
        clear hc hc2
        have k1 : k < xs.length := by omega
        have k2 : k < ys.length := by omega
        by_cases he : xs[k] = ys[k]
        · have hb : (xs[k] != ys[k]) = false := by simp [he]
          have hE : Hid (xs[k] = ys[k]) := he
          clear he
          go_wp2
          go_quiet (fail)
          go_wp2
          go_roundw
          case rel =>
            refine ⟨k + 1, _, by omega, by go_num, rfl, fun j hj => ?_⟩
            by_cases hjk : j < k
            · exact heq j hjk
            · obtain rfl : j = k := by omega
              simpa [List.getD, k1, k2] using hE.out
          case measure => simp [intOf]; omega
        · have hb : (xs[k] != ys[k]) = true := by simp [he]
          have hE : Hid (¬ xs[k] = ys[k]) := he
          clear he
          go_wp2
          go_quiet (fail)
          go_wp2
          go_ret
          have hd : decide (xs = ys) = false := decide_eq_false (fun hx => by subst hx; exact hE.out rfl)
          rw [hd, World.drewN_drewN]
          exact ⟨rfl, _, rfl⟩
      · obtain rfl : k = n := by omega
        go_wp2
        go_ret
        have hd : decide (xs = ys) = true := decide_eq_true (lists_of k xs ys hl hl2 heq)
        rw [hd]
        exact ⟨rfl, _, rfl⟩
  · have hne : ((n : Int) != (m : Int)) = true := by simp; omega
    go_enter Tryz.func8, Tryz.ntmps8
    go_wp2
    go_ret
    have hd : decide (xs = ys) = false := decide_eq_false (fun hx => by subst hx; omega)
    rw [hd]
    exact ⟨rfl, 0, rfl⟩
end Go.Proofs.YtcgphdipfekccaaGreatDoor

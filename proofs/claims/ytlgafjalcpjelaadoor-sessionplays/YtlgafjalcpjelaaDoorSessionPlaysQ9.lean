/-
  Texts in one: SeLight, PRes, Room, Put, Forms.
-/
import Derived.Test.YtlgafjalcpjelaaDoorSessionPlaysQ1
import Derived.Test.YtlgafjalcpjelaaDoorSessionPlaysQ8
import Derived.Test.YtlgafjalcpjelaaDoorSessionPlaysQ3
import Derived.Test.YtlgafjalcpjelaaDoorSessionPlaysQ0
namespace Go.Proofs.YtlgafjalcpjelaaDoor
open Go.RowKit
structure LX (V : World) (b p : Nat) (y : LA) : Prop where
  c0 : V.cell? ⟨b, p, none⟩ = some (.int .u64 y.cl)
  c1 : V.cell? ⟨b, p + 1, none⟩ = some (.int .u64 y.st)
  c2 : V.cell? ⟨b, p + 2, none⟩ = some (.int .i64 y.e)
  c3 : V.cell? ⟨b, p + 3, none⟩ = some (.slice y.ao y.n y.cap)
  c4 : V.cell? ⟨b, p + 4, none⟩ = some (.bool y.m)
theorem LX.below {V V' : World} {b p : Nat} {y : LA} (h : LX V b p y) (hb : Below V.heap.size V V') : LX V' b p y :=
  have k : ∀ a v, V.cell? a = some v → V'.cell? a = some v := fun _ _ hc => (hb.cell (World.block_lt_of_cell? V _ hc)).trans hc
  ⟨k _ _ h.c0, k _ _ h.c1, k _ _ h.c2, k _ _ h.c3, k _ _ h.c4⟩
theorem LL12.at {w : World} {ao : Option Addr} {n cap : Nat} {l : List LA} (h : LL12 w ao n cap l) (hn : 0 < n) :
    ∃ b off, ao = some ⟨b, off, none⟩ ∧ ∀ i (hi : i < l.length), LX w b (off + i * 5) l[i] := by
  have hl := h.len
  cases ao with
  | none => have := (h.nil rfl).1; omega
  | some a =>
    obtain ⟨b, off, spot⟩ := a
    have hc := h.cell _ rfl 0 (by omega) 0 _ rfl
    have hs : spot = none := by simpa [Addr.add] using World.cell?_spot hc
    subst hs
    refine ⟨b, off, rfl, fun i hi => ?_⟩
    have k : ∀ j v, l[i].cells[j]? = some v → w.cell? ⟨b, off + i * 5 + j, none⟩ = some v := fun j v hv => by
      have := h.cell _ rfl i hi j v hv
      rw [Addr.add_lit] at this
      rw [Nat.add_assoc]
      exact this
    exact ⟨k 0 _ rfl, k 1 _ rfl, k 2 _ rfl, k 3 _ rfl, k 4 _ rfl⟩
def lightL (l : List LA) : Bool := decide (l.length ≤ 40) && l.all fun y => cellsB y.cs 70
set_option maxRecDepth 100000 in
set_option maxHeartbeats 2000000 in
theorem llight_any (w : World) (ao : Option Addr) (n cap : Nat) (l : List LA) (h : LL12 w ao n cap l) (hsm : ∀ y ∈ l, y.small) :
    Calls Tryd.prog 4 #[.slice ao n cap] w fun e w' => e = .returned (.bool (lightL l)) ∧ Below w.heap.size w w' := by
  have hl := h.len
  have hmx := h.mx
  have hle := h.le
  have hnx : (n : Int) ≤ 9223372036854775807 := by unfold maxLen at hmx; omega
  by_cases hm : 40 < n
  · have i1 : (40 : Int) < (n : Int) := by omega
    have hv : Hid (lightL l = false) := by
      show _ = _
      unfold lightL
      rw [decide_eq_false (by omega), Bool.false_and]
    go_enter Tryd.func4, Tryd.ntmps4
    go_wp2
    go_ret
    exact ⟨by rw [hv.out] <;> rfl, Below.refl _ _⟩
  have i1 : (n : Int) ≤ 40 := by omega
  have HV : Hid (lightL l = l.all fun y => cellsB y.cs 70) := by
    show _ = _
    unfold lightL
    rw [decide_eq_true (by omega), Bool.true_and]
  have HS : Hid (∀ y ∈ l, y.small) := hsm
  clear hsm hm
  go_enter Tryd.func4, Tryd.ntmps4
  go_wp2
  go_loopw [3] (fun i wr => ∃ k : Nat, k ≤ n ∧ i = .int .i64 k ∧ Hid ((l.take k).all (fun y => cellsB y.cs 70) = true) ∧ Below w.heap.size w wr) (fun i _ => n - (intOf i).toNat)
  case atStart => exact ⟨0, Nat.zero_le _, rfl, rfl, Below.refl _ _⟩
  case round =>
    obtain ⟨k, hk, rfl, HA, B⟩ := hrel
    by_cases hlt : k < n
    · have hki : (k : Int) < (n : Int) := by omega
      have hkl : k < l.length := by omega
      obtain ⟨b, off, rfl, hc⟩ := h.at (by omega)
      have c3 := ((hc k hkl).below B).c3
      have CC := lcells_any wr _ _ _ _ 70 ((h.ok _ (List.getElem_mem hkl)).cs.below B) (HS.out _ (List.getElem_mem hkl))
      have HT : Hid ((l.take (k + 1)).all (fun y => cellsB y.cs 70) = cellsB l[k].cs 70) := by
        show _ = _
        exact all_take_succ (fun y : LA => cellsB y.cs 70) hkl HA.out
      have HB : Hid (cellsB l[k].cs 70 = false → lightL l = false) := fun q => by
        rw [HV.out, List.all_eq_false]
        exact ⟨_, List.getElem_mem hkl, by rw [q]; simp⟩
      obtain ⟨y, hy⟩ : ∃ y, y = l[k] := ⟨_, rfl⟩
      rw [← hy] at c3 CC HT HB
      clear hy hc
      go_wp2_with fail
      refine CC.mono ?_
      rintro x w2 ⟨rfl, C2⟩
      have B2 := B.trans (C2.mono B.size)
      clear CC C2 B c3
      cases hcb : cellsB y.cs 70 with
      | false =>
        have HV2 : Hid (lightL l = false) := HB.out hcb
        clear hcb HT HB
        go_wp2
        go_ret
        exact ⟨by rw [HV2.out] <;> rfl, B2⟩
      | true =>
        have HA2 : Hid ((l.take (k + 1)).all (fun y => cellsB y.cs 70) = true) := by show _ = _; rw [HT.out, hcb]
        clear hcb HT HB
        go_wp2
        go_roundw
        case rel => exact ⟨k + 1, by omega, by go_num, HA2, B2⟩
        case measure => simp [intOf]; omega
    · have hge : (n : Int) ≤ (k : Int) := by omega
      have HV2 : Hid (lightL l = true) := by
        show _ = _
        rw [HV.out, ← HA.out, List.take_of_length_le (by omega)]
      go_wp2
      go_ret
      exact ⟨by rw [HV2.out] <;> rfl, B⟩
open Go.RowKit
set_option maxRecDepth 100000 in
set_option maxHeartbeats 8000000 in
theorem prr_any (w : World) (e : Int) (ao : Option Addr) (n cap : Nat) (l : List CA) (m : Bool) (L : CL w ao n cap l) :
    Calls Tryd.prog 41 #[resV e ao n cap m] w fun x w' => x = .returned (.int .i64 (kindR (resR e l m))) ∧ Below w.heap.size w w' := by
  have hl : l.length = n := L.len
  have B : Below w.heap.size w (w.alloc (Obj.cells #[.int .i64 e, .slice ao n cap, .bool m] 37)) := (Below.refl _ w).alloc (Nat.le_refl _) _
  have K : RC (w.alloc (Obj.cells #[.int .i64 e, .slice ao n cap, .bool m] 37)) w.heap.size e ao n cap m := heap_alloc_new w _
  have L1 := L.below B
  unfold resV
  by_cases c0 : e < 0
  · have i0 : decide (e < 0) = true := by simp; omega
    have hv : Hid (rightR (resR e l m) = false) := resR_no e l m (by omega)
    clear L L1 K hl c0
    go_enter Tryd.func41, Tryd.ntmps41
    go_wp2
    go_ret
    exact ⟨by unfold kindR; rw [hv.out] <;> rfl, B⟩
  have i0 : decide (e < 0) = false := by simp; omega
  by_cases c1 : 18 < e
  · have i1 : decide (18 < e) = true := by simp; omega
    have hv : Hid (rightR (resR e l m) = false) := resR_no e l m (by omega)
    clear L L1 K hl c0 c1
    go_enter Tryd.func41, Tryd.ntmps41
    go_wp2
    go_ret
    exact ⟨by unfold kindR; rw [hv.out] <;> rfl, B⟩
  have i1 : decide (18 < e) = false := by simp; omega
  by_cases c2 : 16 < n
  · have i2 : decide ((16 : Int) < (n : Int)) = true := by simp; omega
    have hv : Hid (rightR (resR e l m) = false) := resR_no e l m (by omega)
    clear L L1 K hl c0 c1 c2
    go_enter Tryd.func41, Tryd.ntmps41
    go_wp2
    go_ret
    exact ⟨by unfold kindR; rw [hv.out] <;> rfl, B⟩
  have i2 : decide ((16 : Int) < (n : Int)) = false := by simp; omega
  have HV : Hid (rightR (resR e l m) = l.all fun c => cellR c.c) := resR_all e l m (by omega)
  have hn16 : n ≤ 16 := by omega
  clear c0 c1 c2 L
  go_enter Tryd.func41, Tryd.ntmps41
  go_wp2_with fail
  obtain ⟨w1, hw1⟩ : ∃ W, W = w.alloc (Obj.cells #[.int .i64 e, .slice ao n cap, .bool m] 37) := ⟨_, rfl⟩
  rw [← hw1] at B K L1 ⊢
  clear hw1
  go_loopw [4, 22] (fun _ i wr => ∃ k : Nat, k ≤ n ∧ i = .int .i64 k ∧ Below w.heap.size w wr ∧ Below w1.heap.size w1 wr ∧ (l.take k).all (fun c => cellR c.c) = true) (fun _ i _ => n - (intOf i).toNat)
  case atStart => exact ⟨0, Nat.zero_le _, rfl, B, Below.refl _ _, rfl⟩
  case round =>
    clear B
    obtain ⟨k, hk, rfl, B, C1, hall⟩ := hrel
    have HA : Hid ((l.take k).all (fun c => cellR c.c) = true) := hall
    have K1 := K.keep C1
    clear hall K
    by_cases hlt : k < n
    · obtain ⟨b, off, rfl, hc⟩ := L1.at (by omega)
      have hkl : k < l.length := by omega
      have X := (hc k hkl).below C1
      have hok : (l[k]).ok wr := (L1.ok _ (List.getElem_mem hkl)).below C1
      have i6 : (k : Int) < (n : Int) := by omega
      have HT : Hid ((l.take (k + 1)).all (fun c => cellR c.c) = cellR l[k].c) := by
        show _ = _
        exact all_take_succ (fun c : CA => cellR c.c) hkl HA.out
      have HL : Hid (cellR l[k].c = false → rightR (resR e l m) = false) := fun hb => by
        rw [HV.out, List.all_eq_false]
        exact ⟨_, List.getElem_mem hkl, by rw [hb]; simp⟩
      obtain ⟨c, hx⟩ : ∃ c : CA, c = l[k] := ⟨_, rfl⟩
      rw [← hx] at hok HT HL X
      clear hx hc HA
      have hcr := cellR_ok hok
      have HX : Hid (∀ V, Below wr.heap.size wr V → CX V b (off + k * 6) c) := fun V hV => X.below hV
      obtain ⟨q0, q1, q2, q3, q4, q5⟩ := X
      have r1 := K1.c1
      have Bc : Below wr.heap.size wr (wr.alloc (Obj.cells #[.string c.row, .string c.fam, .string c.qual, .int .u64 c.time, .slice c.va.ao c.va.n c.va.cap, .bool c.gone] 71)) := (Below.refl _ _).alloc (Nat.le_refl _) _
      have Kc : (wr.alloc (Obj.cells #[.string c.row, .string c.fam, .string c.qual, .int .u64 c.time, .slice c.va.ao c.va.n c.va.cap, .bool c.gone] 71)).heap[wr.heap.size]? = some (.cells #[.string c.row, .string c.fam, .string c.qual, .int .u64 c.time, .slice c.va.ao c.va.n c.va.cap, .bool c.gone] 71) := heap_alloc_new wr _
      cases kr : c.key.isRight with
      | false =>
        have hr : c.key.kind = 5 := by unfold KA.kind; rw [kr]; rfl
        have hv : Hid (rightR (resR e l m) = false) := HL.out (by rw [hcr, kr]; rfl)
        go_wp2_with (go_at_call 54; (refine (pright_any _ c.key).mono ?_; rintro x w2 ⟨rfl, C⟩; have E2 := Bc.trans (C.mono Bc.size); have D : Below w.heap.size w w2 := B.trans (E2.mono B.size); have D1 := C1.trans (E2.mono C1.size); have z4 : w2.cell? ⟨wr.heap.size, 4, none⟩ = some (.slice c.va.ao c.va.n c.va.cap) := (C.cell (by simp)).trans (cell_of_row _ wr.heap.size 4 _ _ _ Kc); have zlt : wr.heap.size < w2.heap.size := (by have := C.size; simp at this; omega); rw [hr]; clear q0 q1 q2 q3 q4 q5 r1 C))
        go_ret
        exact ⟨by unfold kindR; rw [hv.out] <;> rfl, D⟩
      | true =>
        have hr : c.key.kind = 0 := by unfold KA.kind; rw [kr]; rfl
        cases dv : decide (c.va.n ≤ 256) with
        | false =>
          have hv : Hid (rightR (resR e l m) = false) := HL.out (by rw [hcr, kr, dv]; rfl)
          go_wp2_with (first | (go_at_call 54; (refine (pright_any _ c.key).mono ?_; rintro x w2 ⟨rfl, C⟩; have E2 := Bc.trans (C.mono Bc.size); have D : Below w.heap.size w w2 := B.trans (E2.mono B.size); have D1 := C1.trans (E2.mono C1.size); have z4 : w2.cell? ⟨wr.heap.size, 4, none⟩ = some (.slice c.va.ao c.va.n c.va.cap) := (C.cell (by simp)).trans (cell_of_row _ wr.heap.size 4 _ _ _ Kc); have zlt : wr.heap.size < w2.heap.size := (by have := C.size; simp at this; omega); rw [hr]; clear q0 q1 q2 q3 q4 q5 r1 C)) | (go_at_call 55; refine (pvalue_any _ _ _ _).mono ?_; rintro e w' ⟨rfl, rfl⟩; rw [dv]))
          go_ret
          exact ⟨by unfold kindR; rw [hv.out] <;> rfl, D⟩
        | true =>
          have hcc : Hid (cellR c.c = true) := by show _ = _; rw [hcr, kr, dv]; rfl
          go_wp2_with (first | (go_at_call 54; (refine (pright_any _ c.key).mono ?_; rintro x w2 ⟨rfl, C⟩; have E2 := Bc.trans (C.mono Bc.size); have D : Below w.heap.size w w2 := B.trans (E2.mono B.size); have D1 := C1.trans (E2.mono C1.size); have z4 : w2.cell? ⟨wr.heap.size, 4, none⟩ = some (.slice c.va.ao c.va.n c.va.cap) := (C.cell (by simp)).trans (cell_of_row _ wr.heap.size 4 _ _ _ Kc); have zlt : wr.heap.size < w2.heap.size := (by have := C.size; simp at this; omega); rw [hr]; clear q0 q1 q2 q3 q4 q5 r1 C)) | (go_at_call 55; refine (pvalue_any _ _ _ _).mono ?_; rintro e w' ⟨rfl, rfl⟩; rw [dv]))
          go_roundw
          case rel => exact ⟨k + 1, by omega, by go_num, D, D1, by rw [HT.out, hcc.out]⟩
          case measure => simp [intOf]; omega
    · have i6 : (n : Int) ≤ (k : Int) := by omega
      have hv : Hid (rightR (resR e l m) = true) := by
        show _ = _
        rw [HV.out, ← HA.out, List.take_of_length_le (by omega)]
      have r1 := K1.c1
      go_wp2
      go_ret
      exact ⟨by unfold kindR; rw [hv.out] <;> rfl, B⟩
open Go.RowKit
set_option maxHeartbeats 400000 in
theorem withRoom_any (w : World) (ao : Option Addr) (n cap r : Nat) (xs : List Int) (h : Sl w ao n cap xs) (hr : n + r ≤ 140737488355328) :
    Calls Tryd.prog 46 #[.slice ao n cap, .int .i64 r] w fun e w' =>
      e = .returned (.slice (some ⟨w.heap.size, 0, none⟩) n (n + r)) ∧ w'.ownsRow w.heap.size 5 1 (.slice (some ⟨w.heap.size, 0, none⟩) n (n + r)) n (bv xs) ∧ Below w.heap.size w w' := by
  obtain ⟨i0, hi, hz0, hz1, hz2⟩ := info_parts u8info
  have hl := h.len
  have hnil := h.nil
  have hcells := h.cells
  go_enter Tryd.func46, Tryd.ntmps46
  go_wp2_with (first | (at_make; refine wpList_make_own _ rfl _ _ 50 rfl w.heap.size 5 i0 (.int .u8 0) 1 Tryd.underlying50 hi hz0 hz1 _ _ _ (n + r) rfl rfl (by omega) (by rw [hz2]; omega) (by unfold maxLen; omega) (Nat.le_refl _) ?_; intro w1 hown1 hgrow1) | (at_builtin; refine wpList_append_fits_any _ rfl _ _ 50 rfl w.heap.size 5 i0 1 Tryd.underlying50 hi hz1 w.heap.size 0 (n + r) [] rfl hown1 ao n cap (bv xs) rfl (by rw [bv_length]; omega) hnil (fun ad had j u hu => hgrow1.cell (hcells ad had j u hu) (by simp)) (bv_one xs) (by omega) ?_; intro w2 hown2 hgrow2; simp only [Nat.zero_add, List.nil_append] at hown2) | fail)
  have hb : Below w.heap.size w w2 := ((Below.refl _ w).grown hgrow1 (Nat.le_refl _) (fun k hk => by simp at hk)).grown hgrow2 hgrow1.size (fun k hk => by simp at hk; omega)
  go_ret
  exact ⟨rfl, hown2, hb⟩
open Go.RowKit
theorem own_snoc {w : World} {base : Nat} {v : Value} {k : Nat} {xs ys : List Int} {c : Int} (h : w.ownsRow base 5 1 v (k + ys.length + 1) (bv (xs ++ ys) ++ [.int .u8 c])) :
    w.ownsRow base 5 1 v (k + (ys ++ [c]).length) (bv (xs ++ (ys ++ [c]))) := by
  have e : bv (xs ++ (ys ++ [c])) = bv (xs ++ ys) ++ [.int .u8 c] := by simp [bv]
  have l : k + (ys ++ [c]).length = k + ys.length + 1 := by simp; omega
  rw [e, l]
  exact h
set_option maxHeartbeats 800000 in
set_option maxRecDepth 100000 in
theorem putNumber_any (w : World) (base : Nat) (v : Value) (k n : Nat) (xs : List Int) (hn : n < 18446744073709551616) (hk : k + 20 ≤ 140737488355328) (hbase : base ≤ w.heap.size) (hown : w.ownsRow base 5 1 v k (bv xs)) :
    Calls Tryd.prog 45 #[v, .int .u64 n] w fun e w' =>
      ∃ v', e = .returned v' ∧ w'.ownsRow base 5 1 v' (k + (enc n).length) (bv (xs ++ enc n)) ∧ Below base w w' := by
  obtain ⟨i0, hi, hz0, hz1, hz2⟩ := info_parts u8info
  go_enter Tryd.func45, Tryd.ntmps45
  go_wp2
  refine wp_scope_label 0 (fun a' w' => Below base w w' ∧ ∃ (m : Nat) (v' u5 u6 u7 u8 u9 u10 u11 u12 u13 u14 u15 u16 u17 u18 u19 u20 : Value) (ys : List Int), a' = { tmps := #[v', .int .u64 m, undef, undef, .slice none 0 0, u5, u6, u7, u8, u9, u10, u11, u12, u13, u14, u15, u16, u17, u18, u19, u20], defers := [] } ∧ m < 18446744073709551616 ∧ ys ++ enc m = enc n ∧ ys.length + (enc m).length ≤ 10 ∧ w'.ownsRow base 5 1 v' (k + ys.length) (bv (xs ++ ys))) (fun a' _ => (intOf (a'.tmps.getD 1 undef)).toNat) ?_ ?_
  · exact ⟨Below.refl _ _, n, v, _, _, _, _, _, _, _, _, _, _, _, _, _, _, _, _, [], rfl, hn, rfl, by simpa using enc_length hn, by simpa using hown⟩
  · rintro a' w' ⟨hbel, m, v', u5, u6, u7, u8, u9, u10, u11, u12, u13, u14, u15, u16, u17, u18, u19, u20, ys, rfl, hm, hys, hy9, hown'⟩
    have hp := enc_pos m
    have hsz := hbel.size
    by_cases hlt : m < 128
    · have HY : Hid (ys ++ enc m = enc n) := hys
      clear hys
      go_wp2_with (at_builtin; refine wpList_append_own _ rfl _ _ 50 rfl base 5 i0 (.int .u8 0) 1 1 Tryd.underlying50 hi hz0 hz1 hz2 rfl (by decide) _ _ _ rfl (hown'.alloc _) ⟨w'.heap.size, 0, none⟩ 1 1 [.int .u8 m] rfl rfl (cell_one_new _ _ _) (by simp [Value.oneCell']) (by unfold maxLen; omega) (by omega) (by simp; omega) ?_; intro v2 w2 hown2 hgrow2 hn2)
      have e1 : enc m = [(m : Int)] := enc_small hlt
      have e2 := HY.out
      rw [e1] at e2
      have ho := own_snoc hown2
      rw [e2] at ho
      have hb2 : Below base w w2 := (hbel.alloc (by omega) _).grown hgrow2 (by simp; omega) (fun j hj => (hown'.lt j hj).1)
      clear hown2 hgrow2 hn2
      simp only [Exit.jump]
      go_ret
      exact ⟨v2, rfl, ho, hb2⟩
    · have HY : Hid (ys ++ enc m = enc n) := hys
      clear hys
      have ho := or128 m
      go_wp2_with (at_builtin; refine wpList_append_own _ rfl _ _ 50 rfl base 5 i0 (.int .u8 0) 1 1 Tryd.underlying50 hi hz0 hz1 hz2 rfl (by decide) _ _ _ rfl (hown'.alloc _) ⟨w'.heap.size, 0, none⟩ 1 1 [.int .u8 ((m % 128 + 128 : Nat) : Int)] rfl rfl (cell_one_new _ _ _) (by simp [Value.oneCell']) (by unfold maxLen; omega) (by omega) (by simp; omega) ?_; intro v2 w2 hown2 hgrow2 hn2)
      have e1 := enc_big (n := m) (by omega) hm
      have e2 := HY.out
      rw [e1] at e2
      have hl : (enc m).length = (enc (m / 128)).length + 1 := by rw [e1]; rfl
      have ho2 := own_snoc hown2
      have hb2 : Below base w w2 := (hbel.alloc (by omega) _).grown hgrow2 (by simp; omega) (fun j hj => (hown'.lt j hj).1)
      clear hown2 hgrow2 hn2
      go_step3
      rw [show ((m : Int) / 128) = ((m / 128 : Nat) : Int) from by omega]
      refine ⟨rfl, ⟨hb2, m / 128, v2, _, _, _, _, _, _, _, _, _, _, _, _, _, _, _, _, ys ++ [((m % 128 + 128 : Nat) : Int)], rfl, by omega, by rw [← e2]; simp, by simp; omega, ho2⟩, ?_⟩
      simp [intOf]
      omega
open Go.RowKit
theorem own_empty (w : World) : (w.alloc (.cells #[] 5)).ownsRow w.heap.size 5 1 (.slice (some ⟨w.heap.size, 0, none⟩) 0 0) 0 (bv []) :=
  World.ownsRow_made w #[] 0 (Nat.le_refl _) (Nat.zero_le _) rfl
set_option maxHeartbeats 400000 in
theorem wUint_any (w : World) (ao : Option Addr) (n cap m : Nat) (xs : List Int) (h : Sl w ao n cap xs) (hr : n + 30 ≤ 140737488355328) (hm : m < 18446744073709551616) :
    Calls Tryd.prog 31 #[.slice ao n cap, .int .u64 m] w fun e w' =>
      ∃ v, e = .returned v ∧ w'.ownsRow w.heap.size 5 1 v (n + (enc m).length) (bv (xs ++ enc m)) ∧ Below w.heap.size w w' := by
  go_enter Tryd.func31, Tryd.ntmps31
  go_wp2_with fail
  refine (withRoom_any w ao n cap 10 xs h (by omega)).mono ?_
  rintro e w1 ⟨rfl, hown1, hb1⟩
  have hs := hb1.size
  go_wp2_with fail
  refine (putNumber_any w1 w.heap.size _ n m xs hm (by omega) hs hown1).mono ?_
  rintro e w2 ⟨v2, rfl, hown2, hb2⟩
  have hb := hb1.trans hb2
  clear hown1 hb1 hb2
  go_wp2_with fail
  go_ret
  exact ⟨v2, rfl, hown2, hb⟩
set_option maxHeartbeats 400000 in
theorem wBytes_any (w : World) (ao bo : Option Addr) (n cap m cap2 : Nat) (xs ys : List Int) (h : Sl w ao n cap xs) (h2 : Sl w bo m cap2 ys) (hr : n + m + 60 ≤ 140737488355328) :
    Calls Tryd.prog 32 #[.slice ao n cap, .slice bo m cap2] w fun e w' =>
      ∃ v, e = .returned v ∧ w'.ownsRow w.heap.size 5 1 v (n + (enc m).length + m) (bv (xs ++ enc m ++ ys)) ∧ Below w.heap.size w w' := by
  obtain ⟨i0, hi, hz0, hz1, hz2⟩ := info_parts u8info
  go_enter Tryd.func32, Tryd.ntmps32
  go_wp2_with fail
  rw [show (10 + (m : Int)) = ((10 + m : Nat) : Int) from by omega]
  refine (withRoom_any w ao n cap (10 + m) xs h (by omega)).mono ?_
  rintro e w1 ⟨rfl, hown1, hb1⟩
  have hs := hb1.size
  go_wp2_with fail
  refine (putNumber_any w1 w.heap.size _ n m xs (by omega) (by omega) hs hown1).mono ?_
  rintro e w2 ⟨v2, rfl, hown2, hb2⟩
  have hs2 := hb2.size
  have hb := hb1.trans hb2
  have hl := enc_length (n := m) (by omega)
  have h3 := h2.below hb
  clear hown1 hb1 hb2
  go_wp2_with (at_builtin; refine wpList_app rfl _ _ rfl w.heap.size _ _ _ rfl hown2 _ _ _ _ rfl h3 (by omega) (by omega) ?_; intro v3 w3 hown3 hb3)
  have hb4 := hb.trans hb3
  clear hb hown2 hb3 h3
  go_ret
  exact ⟨v3, rfl, hown3, hb4⟩
end Go.Proofs.YtlgafjalcpjelaaDoor

/-
  The program's isPart, areParts.
-/
import Derived.Test.YtbfcilfdeemnpaaPLeaf
import Derived.Test.YtbfcilfdeemnpaaMB
namespace Go.Proofs.Ytbfcilfdeemnpaa
open Go.RowKit

def partB (o : OA) : Bool := decide (1 ≤ o.kind ∧ o.kind ≤ 4) && leaf o.s o.sn

set_option maxRecDepth 100000 in
set_option maxHeartbeats 4000000 in
theorem ppart_any (w : World) (o : OA) (h : o.ok w) :
    Calls Try.prog 81 #[o.val] w fun e w' => e = .returned (.bool (partB o)) ∧ Below w.heap.size w w' := by
  have B : Below w.heap.size w (w.alloc (Obj.cells o.cells.toArray 28)) := (Below.refl _ w).alloc (Nat.le_refl _) _
  have h1 := h.below B
  clear h
  unfold OA.cells at B
  by_cases c : 1 ≤ o.kind ∧ o.kind ≤ 4
  · have h6 : o.kind ≠ 6 := by omega
    have hv : Hid (partB o = leaf o.s o.sn) := by
      show _ = _
      unfold partB
      rw [decide_eq_true c, Bool.true_and]
    have c : o.kind = 1 ∨ o.kind = 2 ∨ o.kind = 3 ∨ o.kind = 4 := by omega
    rcases c with c | c | c | c
    · have t1 : (o.kind == 1) = true := by simp [c]
      clear c
      unfold OA.val
      go_enter Try.func81, Try.ntmps81
      go_wp2_with (go_at_call 59; refine (pleaf_any _ o h1 h6).mono ?_; rintro e w' ⟨rfl, C⟩; have D := B.trans (C.mono B.size))
      go_ret
      exact ⟨by rw [hv.out] <;> rfl, D⟩
    · have t1 : (o.kind == 1) = false := by simp [c]
      have t2 : (o.kind == 2) = true := by simp [c]
      clear c
      unfold OA.val
      go_enter Try.func81, Try.ntmps81
      go_wp2_with (go_at_call 59; refine (pleaf_any _ o h1 h6).mono ?_; rintro e w' ⟨rfl, C⟩; have D := B.trans (C.mono B.size))
      go_ret
      exact ⟨by rw [hv.out] <;> rfl, D⟩
    · have t1 : (o.kind == 1) = false := by simp [c]
      have t2 : (o.kind == 2) = false := by simp [c]
      have t3 : (o.kind == 3) = true := by simp [c]
      clear c
      unfold OA.val
      go_enter Try.func81, Try.ntmps81
      go_wp2_with (go_at_call 59; refine (pleaf_any _ o h1 h6).mono ?_; rintro e w' ⟨rfl, C⟩; have D := B.trans (C.mono B.size))
      go_ret
      exact ⟨by rw [hv.out] <;> rfl, D⟩
    · have t1 : (o.kind == 1) = false := by simp [c]
      have t2 : (o.kind == 2) = false := by simp [c]
      have t3 : (o.kind == 3) = false := by simp [c]
      have t4 : (o.kind == 4) = true := by simp [c]
      clear c
      unfold OA.val
      go_enter Try.func81, Try.ntmps81
      go_wp2_with (go_at_call 59; refine (pleaf_any _ o h1 h6).mono ?_; rintro e w' ⟨rfl, C⟩; have D := B.trans (C.mono B.size))
      go_ret
      exact ⟨by rw [hv.out] <;> rfl, D⟩
  · have t1 : (o.kind == 1) = false := by simp; omega
    have t2 : (o.kind == 2) = false := by simp; omega
    have t3 : (o.kind == 3) = false := by simp; omega
    have t4 : (o.kind == 4) = false := by simp; omega
    have hv : Hid (partB o = false) := by
      show _ = _
      unfold partB
      rw [decide_eq_false c, Bool.false_and]
    clear c h1
    unfold OA.val
    go_enter Try.func81, Try.ntmps81
    go_wp2
    go_ret
    exact ⟨by rw [hv.out] <;> rfl, B⟩

/-- Is it no part of a batch of that row? -/
def badP (row : ByteArray) (o : OA) : Bool := !(decide (o.row = row) && partB o)

set_option maxRecDepth 100000 in
set_option maxHeartbeats 4000000 in
theorem pbad_any (w : World) (o : OA) (h : o.ok w) (g : Nat) (row : ByteArray) (hg : w.cell? ⟨g, 0, none⟩ = some (.string row)) :
    Calls Try.prog 80 #[o.val, .pointer (some ⟨g, 0, none⟩)] w fun e w' => e = .returned (.bool (badP row o)) ∧ Below w.heap.size w w' := by
  have B : Below w.heap.size w (w.alloc (Obj.cells o.cells.toArray 28)) := (Below.refl _ w).alloc (Nat.le_refl _) _
  have h1 := h.below B
  have g1 : (w.alloc (Obj.cells o.cells.toArray 28)).cell? ⟨g, 0, none⟩ = some (.string row) := (B.cell (World.block_lt_of_cell? w _ hg)).trans hg
  clear h hg
  unfold OA.cells at B g1
  by_cases c : o.row = row
  · have i : (o.row.toList == row.toList) = true := by rw [c]; exact beq_self_eq_true _
    have hv : Hid (badP row o = !(partB o)) := by
      show _ = _
      unfold badP
      rw [decide_eq_true c, Bool.true_and]
    clear c
    unfold OA.val
    go_enter Try.func80, Try.ntmps80
    go_wp2_with (go_at_call 81; refine (ppart_any _ o h1).mono ?_; rintro e w' ⟨rfl, C⟩; have D := B.trans (C.mono B.size))
    go_ret
    exact ⟨by rw [hv.out] <;> rfl, D⟩
  · have i : (o.row.toList == row.toList) = false := toL_ne c
    have hv : Hid (badP row o = true) := by
      show _ = _
      unfold badP
      rw [decide_eq_false c, Bool.false_and]
      rfl
    clear c h1
    unfold OA.val
    go_enter Try.func80, Try.ntmps80
    go_wp2
    go_ret
    exact ⟨by rw [hv.out] <;> rfl, B⟩

set_option maxRecDepth 100000 in
set_option maxHeartbeats 4000000 in
theorem pindex_any (w : World) (ao : Option Addr) (n cap : Nat) (l : List OA) (h : OWL w 0 ao n cap l) (g : Nat) (row : ByteArray) (hg : w.cell? ⟨g, 0, none⟩ = some (.string row)) :
    Calls Try.prog 84 #[.slice ao n cap, .func (.func 80) #[] #[.pointer (some ⟨g, 0, none⟩)]] w fun e w' =>
      (∃ i : Int, e = .returned (.int .i64 i) ∧ decide (0 ≤ i) = l.any (badP row)) ∧ Below w.heap.size w w' := by
  have hl : l.length = n := h.len
  have hm := h.mx
  have hle := h.le
  simp only [maxLen] at hm
  go_enter Try.func84, Try.ntmps84
  go_wp2
  go_loopw [5, 8] (fun _ i wr => ∃ k : Nat, k ≤ n ∧ i = .int .i64 k ∧ Below w.heap.size w wr ∧ (l.take k).any (badP row) = false) (fun _ i _ => n - (intOf i).toNat)
  case atStart => exact ⟨0, Nat.zero_le _, rfl, Below.refl _ _, rfl⟩
  case round =>
    obtain ⟨k, hk, rfl, B, hall⟩ := hrel
    have HA : Hid ((l.take k).any (badP row) = false) := hall
    clear hall
    by_cases hlt : k < n
    · obtain ⟨b, off, rfl, hc⟩ := h.at (by omega)
      have hkl : k < l.length := by omega
      have X := (hc k hkl).below B
      have hok : (l[k]).ok wr := (h.ok _ (List.getElem_mem hkl)).below B
      have g1 : wr.cell? ⟨g, 0, none⟩ = some (.string row) := (B.cell (World.block_lt_of_cell? w _ hg)).trans hg
      have i1 : (k : Int) < (n : Int) := by omega
      have HT : Hid ((l.take (k + 1)).any (badP row) = badP row l[k]) := by
        show _ = _
        rw [List.take_succ_eq_append_getElem hkl, List.any_append, HA.out]
        simp
      have HL : Hid (badP row l[k] = true → l.any (badP row) = true) := fun hb => List.any_eq_true.2 ⟨_, List.getElem_mem hkl, hb⟩
      obtain ⟨o, ho⟩ : ∃ o : OA, o = l[k] := ⟨_, rfl⟩
      have X : OX wr b (off + k * 10) o := by rw [ho]; exact X
      rw [← ho] at hok HT HL
      clear ho hc h HA
      obtain ⟨q0, q1, q2, q3, q4, q5, q6, q7, q8, q9⟩ := X
      cases hb : badP row o with
      | true =>
        go_wp2_with (go_at_call 80; refine (pbad_any _ o hok g row g1).mono ?_; rintro e w2 ⟨rfl, C⟩; have D := B.trans (C.mono B.size); rw [hb])
        go_ret
        exact ⟨⟨k, rfl, by rw [HL.out hb]; exact decide_eq_true (by omega)⟩, D⟩
      | false =>
        go_wp2_with (go_at_call 80; refine (pbad_any _ o hok g row g1).mono ?_; rintro e w2 ⟨rfl, C⟩; have D := B.trans (C.mono B.size); rw [hb])
        go_roundw
        case rel => exact ⟨k + 1, by omega, by go_num, D, by rw [HT.out, hb]⟩
        case measure => simp [intOf]; omega
    · have i1 : (n : Int) ≤ (k : Int) := by omega
      have HL : Hid (l.any (badP row) = false) := by
        show _ = _
        rw [← HA.out, List.take_of_length_le (by omega)]
      go_wp2
      go_ret
      exact ⟨⟨-1, rfl, by rw [HL.out]; rfl⟩, B⟩

theorem pcontains_any (w : World) (ao : Option Addr) (n cap : Nat) (l : List OA) (h : OWL w 0 ao n cap l) (g : Nat) (row : ByteArray) (hg : w.cell? ⟨g, 0, none⟩ = some (.string row)) :
    Calls Try.prog 79 #[.slice ao n cap, .func (.func 80) #[] #[.pointer (some ⟨g, 0, none⟩)]] w fun e w' =>
      e = .returned (.bool (l.any (badP row))) ∧ Below w.heap.size w w' := by
  go_enter Try.func79, Try.ntmps79
  go_wp2_with fail
  refine (pindex_any _ ao n cap l h g row hg).mono ?_
  rintro e w' ⟨⟨i, rfl, hi⟩, C⟩
  have HI : Hid (decide (0 ≤ i) = l.any (badP row)) := hi
  clear hi
  go_wp2
  go_ret
  exact ⟨by rw [← HI.out] <;> rfl, C⟩

/-- areParts: from one to eight, each a part. -/
def partsB (row : ByteArray) (l : List OA) : Bool := decide (1 ≤ l.length ∧ l.length ≤ 8) && l.all fun o => decide (o.row = row) && partB o
theorem any_bad (row : ByteArray) (l : List OA) : (!(l.any (badP row))) = l.all fun o => decide (o.row = row) && partB o := by
  rw [List.not_any_eq_all_not]
  congr 1
  funext o
  unfold badP
  simp

set_option maxRecDepth 100000 in
set_option maxHeartbeats 4000000 in
theorem pparts_any (w : World) (ao : Option Addr) (n cap : Nat) (l : List OA) (h : OWL w 0 ao n cap l) (row : ByteArray) :
    Calls Try.prog 76 #[.slice ao n cap, .string row] w fun e w' => e = .returned (.bool (partsB row l)) ∧ Below w.heap.size w w' := by
  have hl : l.length = n := h.len
  have B : Below w.heap.size w (w.alloc (Obj.cells #[.string row] 9)) := (Below.refl _ w).alloc (Nat.le_refl _) _
  have h1 := h.below B
  have g1 : (w.alloc (Obj.cells #[.string row] 9)).cell? ⟨w.heap.size, 0, none⟩ = some (.string row) := cell_one_new _ _ _ 0 _ (by simp)
  by_cases c0 : n < 1
  · have i0 : (n : Int) < 1 := by omega
    have hv : Hid (partsB row l = false) := by
      show _ = _
      unfold partsB
      rw [decide_eq_false (by omega), Bool.false_and]
    clear h h1 hl
    go_enter Try.func76, Try.ntmps76
    go_wp2
    go_ret
    exact ⟨by rw [hv.out] <;> rfl, B⟩
  have i0 : decide ((n : Int) < 1) = false := by simp; omega
  by_cases c1 : 8 < n
  · have i1 : decide ((8 : Int) < (n : Int)) = true := by simp; omega
    have hv : Hid (partsB row l = false) := by
      show _ = _
      unfold partsB
      rw [decide_eq_false (by omega), Bool.false_and]
    clear h h1 hl
    go_enter Try.func76, Try.ntmps76
    go_wp2
    go_ret
    exact ⟨by rw [hv.out] <;> rfl, B⟩
  have i1 : decide ((8 : Int) < (n : Int)) = false := by simp; omega
  have hv : Hid (partsB row l = !(l.any (badP row))) := by
    show _ = _
    unfold partsB
    rw [decide_eq_true (by omega), Bool.true_and, any_bad]
  clear h hl c0 c1
  go_enter Try.func76, Try.ntmps76
  go_wp2_with (go_at_call 79; refine (pcontains_any _ ao n cap l h1 w.heap.size row g1).mono ?_; rintro e w' ⟨rfl, C⟩; have D := B.trans (C.mono B.size))
  go_ret
  exact ⟨by rw [hv.out] <;> rfl, D⟩
end Go.Proofs.Ytbfcilfdeemnpaa

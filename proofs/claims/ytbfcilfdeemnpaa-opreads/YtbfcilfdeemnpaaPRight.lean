/-
  The program's isRight, Right.
-/
import Derived.Test.YtbfcilfdeemnpaaPParts
namespace Go.Proofs.Ytbfcilfdeemnpaa
open Go.RowKit

/-- A part, as it is looked at. -/
def sn0 (o : OA) : SN := (o.s, o.sn)
theorem OWL.flat {w : World} {d : Nat} {ao : Option Addr} {n cap : Nat} {l : List (OD d)} (h : OWL w d ao n cap l) : OWL w 0 ao n cap (l.map (topD d)) := by
  refine ⟨by rw [← h.len]; exact List.length_map _, h.le, h.mx, h.nil, fun a ha i hi j v hv => ?_, fun y hy => ?_⟩
  · have hi' : i < l.length := Nat.lt_of_lt_of_eq hi (List.length_map _)
    refine h.cell a ha i hi' j v ?_
    have e : (l.map (topD d))[i] = topD d l[i] := List.getElem_map _
    rw [← e]
    exact hv
  · obtain ⟨x, hx, rfl⟩ := List.mem_map.1 hy
    exact (h.ok x hx).top
theorem map_flat (d : Nat) (l : List (OD d)) : (l.map (topD d)).map sn0 = l.map (snD d) := by
  rw [List.map_map]
  rfl

theorem right6 {o : OA} {l : List OA} (hk : o.kind = 6) (hn : l.length = o.sn) (hr : o.row.size ≠ 0) : rightO o.s (l.map sn0) = (partsB o.row l && isAlone o.noS) := by
  have e : (l.map sn0).all (partR o.s) = l.all fun x => decide (x.row = o.row) && partB x := by
    rw [List.all_map]
    congr 1
    funext x
    show partR o.s (sn0 x) = _
    unfold partR sn0 partB
    show (decide (1 ≤ x.kind ∧ x.kind ≤ 4) && leaf x.s x.sn && decide (x.row = o.row)) = (decide (x.row = o.row) && (decide (1 ≤ x.kind ∧ x.kind ≤ 4) && leaf x.s x.sn))
    rw [Bool.and_comm]
  unfold rightO partsB
  rw [e, List.length_map, hn, leaf6 hk hr, show o.s.kind = o.kind from rfl, hk]
  simp only [ne_eq, not_true_eq_false, decide_false, Bool.false_or]
  cases isAlone o.noS <;> simp
theorem right_not6 {o : OA} {l : List SN} (hk : o.kind ≠ 6) : rightO o.s l = leaf o.s l.length := by
  unfold rightO
  rw [show o.s.kind = o.kind from rfl, decide_eq_true hk, Bool.true_or, Bool.and_true]
theorem right_noRow {o : OA} {l : List SN} (hk : o.kind = 6) (hr : o.row.size = 0) : rightO o.s l = false := by
  unfold rightO
  rw [leaf_noRow (.inr hk) hr, Bool.false_and]

set_option maxRecDepth 100000 in
set_option maxHeartbeats 4000000 in
theorem pisright_6 (w : World) (o : OA) (l : List OA) (h : o.ok w) (hs : OWL w 0 o.so o.sn o.sc l) (hk : o.kind = 6) :
    Calls Try.prog 59 #[o.val] w fun e w' => e = .returned (.bool (rightO o.s (l.map sn0))) ∧ Below w.heap.size w w' := by
  have hl : l.length = o.sn := hs.len
  have t5 : (o.kind == 5) = false := by simp [hk]
  have t1 : (o.kind == 1) = false := by simp [hk]
  have t2 : (o.kind == 2) = false := by simp [hk]
  have t3 : (o.kind == 3) = false := by simp [hk]
  have t7 : (o.kind == 7) = false := by simp [hk]
  have t4 : (o.kind == 4) = false := by simp [hk]
  have t6 : (o.kind == 6) = true := by simp [hk]
  have B : Below w.heap.size w (w.alloc (Obj.cells o.cells.toArray 28)) := (Below.refl _ w).alloc (Nat.le_refl _) _
  have K : OC (w.alloc (Obj.cells o.cells.toArray 28)) w.heap.size o := OC.new w o
  have hs1 := hs.below B
  unfold OA.cells at B K
  by_cases hp : partsB o.row l = false
  · have hv : Hid (rightO o.s (l.map sn0) = false) := by
      show _ = _
      by_cases hr : o.row.size = 0
      · exact right_noRow hk hr
      · rw [right6 hk hl hr, hp, Bool.false_and]
    clear h hs hk K hl
    unfold OA.val
    go_enter Try.func59, Try.ntmps59
    go_wp2_with (go_at_call 76; refine (pparts_any _ _ _ _ l hs1 o.row).mono ?_; rintro e w2 ⟨rfl, C⟩; have D := B.trans (C.mono B.size); rw [hp])
    go_ret
    exact ⟨by rw [hv.out] <;> rfl, D⟩
  have hp : partsB o.row l = true := by simpa using hp
  by_cases hr : o.row.size = 0
  · have e0 : o.row.toList.isEmpty = true := by
      rw [toE]
      exact decide_eq_true hr
    have hv : Hid (rightO o.s (l.map sn0) = false) := right_noRow hk hr
    clear h hs hk hl hr
    unfold OA.val
    go_enter Try.func59, Try.ntmps59
    go_wp2_with (go_at_call 76; refine (pparts_any _ _ _ _ l hs1 o.row).mono ?_; rintro e w2 ⟨rfl, C⟩; have D : Below w.heap.size w w2 := B.trans (C.mono B.size); have K2 : OC w2 w.heap.size o := K.keep C; rw [hp]; obtain ⟨q0, q1, q2, q3, q4, q5, q6, q7, q8, q9⟩ := K2.cs; have f9 := K2.fz 9; have lt := K2.lt; clear K2 C K; have D3 : Below w.heap.size w (w2.setCell ⟨w.heap.size, 9, none⟩ (.slice none 0 0)) := D.setCell (Nat.le_refl _) _; clear D)
    go_ret
    exact ⟨by rw [hv.out] <;> rfl, D3⟩
  have e0 : o.row.toList.isEmpty = false := by
    rw [toE]
    exact decide_eq_false hr
  have hv : Hid (rightO o.s (l.map sn0) = isAlone o.noS) := by
    show _ = _
    rw [right6 hk hl hr, hp, Bool.true_and]
  clear hs hk hl hr
  unfold OA.val
  go_enter Try.func59, Try.ntmps59
  go_wp2_with (first
    | (go_at_call 76; refine (pparts_any _ _ _ _ l hs1 o.row).mono ?_; rintro e w2 ⟨rfl, C⟩; have D : Below w.heap.size w w2 := B.trans (C.mono B.size); have K2 : OC w2 w.heap.size o := K.keep C; rw [hp]; obtain ⟨q0, q1, q2, q3, q4, q5, q6, q7, q8, q9⟩ := K2.cs; have f9 := K2.fz 9; have lt := K2.lt; clear K2 C K; have D3 : Below w.heap.size w (w2.setCell ⟨w.heap.size, 9, none⟩ (.slice none 0 0)) := D.setCell (Nat.le_refl _) _; have h3 := (h.below D3).noS; clear D h)
    | (go_at_call 75; refine (palone_any _ o.noS h3).mono ?_; rintro e w4 ⟨rfl, C4⟩; have D4 := D3.trans (C4.mono D3.size); clear C4))
  go_ret
  exact ⟨by rw [hv.out] <;> rfl, D4⟩

/-- isRight, of whatever operation. -/
theorem pisright_any (w : World) (o : OA) (l : List OA) (h : o.ok w) (hs : OWL w 0 o.so o.sn o.sc l) :
    Calls Try.prog 59 #[o.val] w fun e w' => e = .returned (.bool (rightO o.s (l.map sn0))) ∧ Below w.heap.size w w' := by
  by_cases hk : o.kind = 6
  · exact pisright_6 w o l h hs hk
  · rw [right_not6 hk, List.length_map, show l.length = o.sn from hs.len]
    exact pleaf_any w o h hk

def kindO (b : Bool) : Int := if b then 0 else 6

set_option maxRecDepth 100000 in
set_option maxHeartbeats 4000000 in
theorem pRight_any (w : World) (o : OA) (l : List OA) (h : o.ok w) (hs : OWL w 0 o.so o.sn o.sc l) :
    Calls Try.prog 27 #[o.val] w fun e w' => e = .returned (.int .i64 (kindO (rightO o.s (l.map sn0)))) ∧ Below w.heap.size w w' := by
  have B : Below w.heap.size w (w.alloc (Obj.cells o.cells.toArray 28)) := (Below.refl _ w).alloc (Nat.le_refl _) _
  have h1 := h.below B
  have hs1 := hs.below B
  clear h hs
  unfold OA.cells at B
  cases hb : rightO o.s (l.map sn0) with
  | true =>
    unfold OA.val
    go_enter Try.func27, Try.ntmps27
    go_wp2_with (go_at_call 59; refine (pisright_any _ o l h1 hs1).mono ?_; rintro e w2 ⟨rfl, C⟩; have D := B.trans (C.mono B.size); rw [hb])
    go_ret
    exact ⟨rfl, D⟩
  | false =>
    unfold OA.val
    go_enter Try.func27, Try.ntmps27
    go_wp2_with (go_at_call 59; refine (pisright_any _ o l h1 hs1).mono ?_; rintro e w2 ⟨rfl, C⟩; have D := B.trans (C.mono B.size); rw [hb])
    go_ret
    exact ⟨rfl, D⟩
end Go.Proofs.Ytbfcilfdeemnpaa

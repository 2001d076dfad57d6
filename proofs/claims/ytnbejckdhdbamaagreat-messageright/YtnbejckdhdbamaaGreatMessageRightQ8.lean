/-
  Texts in one: PParts, PRight, POp, PutOp.
-/
import Derived.Test.YtnbejckdhdbamaaGreatMessageRightQ7
import Derived.Test.YtnbejckdhdbamaaGreatMessageRightQ1
import Derived.Test.YtnbejckdhdbamaaGreatMessageRightQ4
namespace Go.Proofs.YtnbejckdhdbamaaGreat
open Go.RowKit
def partB (o : OA) : Bool := decide (1 ≤ o.kind ∧ o.kind ≤ 4) && leaf o.s o.sn
set_option maxRecDepth 100000 in
set_option maxHeartbeats 4000000 in
theorem ppart_any (w : World) (o : OA) (h : o.ok w) :
  Calls Tryz.prog 131 #[o.val] w fun e w' => e = .returned (.bool (partB o)) ∧ Below w.heap.size w w' := by
 have B : Below w.heap.size w (w.alloc (Obj.cells o.cells.toArray 58)) := (Below.refl _ w).alloc (Nat.le_refl _) _
 have h1 := h.below B
 clear h
 unfold OA.cells at B
 by_cases c : 1 ≤ o.kind ∧ o.kind ≤ 4
 ·have h6 : o.kind ≠ 6 := by omega
  have hv : Hid (partB o = leaf o.s o.sn) := by
   show _ = _
   unfold partB
   rw [decide_eq_true c, Bool.true_and]
  have c : o.kind = 1 ∨ o.kind = 2 ∨ o.kind = 3 ∨ o.kind = 4 := by omega
  rcases c with c | c | c | c
  ·have t1 : (o.kind == 1) = true := by simp [c]
   clear c
   unfold OA.val
   go_enter Tryz.func131, Tryz.ntmps131
   go_wp2_with (go_at_call 124; refine (pleaf_any _ o h1 h6).mono ?_; rintro e w' ⟨rfl, C⟩; have D := B.trans (C.mono B.size))
   go_ret
   exact ⟨by rw [hv.out] <;> rfl, D⟩
  ·have t1 : (o.kind == 1) = false := by simp [c]
   have t2 : (o.kind == 2) = true := by simp [c]
   clear c
   unfold OA.val
   go_enter Tryz.func131, Tryz.ntmps131
   go_wp2_with (go_at_call 124; refine (pleaf_any _ o h1 h6).mono ?_; rintro e w' ⟨rfl, C⟩; have D := B.trans (C.mono B.size))
   go_ret
   exact ⟨by rw [hv.out] <;> rfl, D⟩
  ·have t1 : (o.kind == 1) = false := by simp [c]
   have t2 : (o.kind == 2) = false := by simp [c]
   have t3 : (o.kind == 3) = true := by simp [c]
   clear c
   unfold OA.val
   go_enter Tryz.func131, Tryz.ntmps131
   go_wp2_with (go_at_call 124; refine (pleaf_any _ o h1 h6).mono ?_; rintro e w' ⟨rfl, C⟩; have D := B.trans (C.mono B.size))
   go_ret
   exact ⟨by rw [hv.out] <;> rfl, D⟩
  ·have t1 : (o.kind == 1) = false := by simp [c]
   have t2 : (o.kind == 2) = false := by simp [c]
   have t3 : (o.kind == 3) = false := by simp [c]
   have t4 : (o.kind == 4) = true := by simp [c]
   clear c
   unfold OA.val
   go_enter Tryz.func131, Tryz.ntmps131
   go_wp2_with (go_at_call 124; refine (pleaf_any _ o h1 h6).mono ?_; rintro e w' ⟨rfl, C⟩; have D := B.trans (C.mono B.size))
   go_ret
   exact ⟨by rw [hv.out] <;> rfl, D⟩
 ·have t1 : (o.kind == 1) = false := by simp; omega
  have t2 : (o.kind == 2) = false := by simp; omega
  have t3 : (o.kind == 3) = false := by simp; omega
  have t4 : (o.kind == 4) = false := by simp; omega
  have hv : Hid (partB o = false) := by
   show _ = _
   unfold partB
   rw [decide_eq_false c, Bool.false_and]
  clear c h1
  unfold OA.val
  go_enter Tryz.func131, Tryz.ntmps131
  go_wp2
  go_ret
  exact ⟨by rw [hv.out] <;> rfl, B⟩
def badP (row : ByteArray) (o : OA) : Bool := !(decide (o.row = row) && partB o)
set_option maxRecDepth 100000 in
set_option maxHeartbeats 4000000 in
theorem pbad_any (w : World) (o : OA) (h : o.ok w) (g : Nat) (row : ByteArray) (hg : w.cell? ⟨g, 0, none⟩ = some (.string row)) :
  Calls Tryz.prog 130 #[o.val, .pointer (some ⟨g, 0, none⟩)] w fun e w' => e = .returned (.bool (badP row o)) ∧ Below w.heap.size w w' := by
 have B : Below w.heap.size w (w.alloc (Obj.cells o.cells.toArray 58)) := (Below.refl _ w).alloc (Nat.le_refl _) _
 have h1 := h.below B
 have g1 : (w.alloc (Obj.cells o.cells.toArray 58)).cell? ⟨g, 0, none⟩ = some (.string row) := (B.cell (World.block_lt_of_cell? w _ hg)).trans hg
 clear h hg
 unfold OA.cells at B g1
 by_cases c : o.row = row
 ·have i : (o.row.toList == row.toList) = true := by rw [c]; exact beq_self_eq_true _
  have hv : Hid (badP row o = !(partB o)) := by
   show _ = _
   unfold badP
   rw [decide_eq_true c, Bool.true_and]
  clear c
  unfold OA.val
  go_enter Tryz.func130, Tryz.ntmps130
  go_wp2_with (go_at_call 131; refine (ppart_any _ o h1).mono ?_; rintro e w' ⟨rfl, C⟩; have D := B.trans (C.mono B.size))
  go_ret
  exact ⟨by rw [hv.out] <;> rfl, D⟩
 ·have i : (o.row.toList == row.toList) = false := toL_ne c
  have hv : Hid (badP row o = true) := by
   show _ = _
   unfold badP
   rw [decide_eq_false c, Bool.false_and]
   rfl
  clear c h1
  unfold OA.val
  go_enter Tryz.func130, Tryz.ntmps130
  go_wp2
  go_ret
  exact ⟨by rw [hv.out] <;> rfl, B⟩
set_option maxRecDepth 100000 in
set_option maxHeartbeats 4000000 in
theorem pindex_any (w : World) (ao : Option Addr) (n cap : Nat) (l : List OA) (h : OWL w 0 ao n cap l) (g : Nat) (row : ByteArray) (hg : w.cell? ⟨g, 0, none⟩ = some (.string row)) :
  Calls Tryz.prog 132 #[.slice ao n cap, .func (.func 130) #[] #[.pointer (some ⟨g, 0, none⟩)]] w fun e w' =>
   (∃ i : Int, e = .returned (.int .i64 i) ∧ decide (0 ≤ i) = l.any (badP row)) ∧ Below w.heap.size w w' := by
 have hl : l.length = n := h.len
 have hm := h.mx
 have hle := h.le
 simp only [maxLen] at hm
 go_enter Tryz.func132, Tryz.ntmps132
 go_wp2
 go_loopw [5, 8] (fun _ i wr => ∃ k : Nat, k ≤ n ∧ i = .int .i64 k ∧ Below w.heap.size w wr ∧ (l.take k).any (badP row) = false) (fun _ i _ => n - (intOf i).toNat)
 case atStart => exact ⟨0, Nat.zero_le _, rfl, Below.refl _ _, rfl⟩
 case round =>
  obtain ⟨k, hk, rfl, B, hall⟩ := hrel
  have HA : Hid ((l.take k).any (badP row) = false) := hall
  clear hall
  by_cases hlt : k < n
  ·obtain ⟨b, off, rfl, hc⟩ := h.at (by omega)
   have hkl : k < l.length := by omega
   have X := (hc k hkl).below B
   have hok : (l[k]).ok wr := (h.ok _ (List.getElem_mem hkl)).below B
   have g1 : wr.cell? ⟨g, 0, none⟩ = some (.string row) := (B.cell (World.block_lt_of_cell? w _ hg)).trans hg
   have i1 : (k : Int) < (n : Int) := by omega
   have HT : Hid ((l.take (k + 1)).any (badP row) = badP row l[k]) := by
    show _ = _
    rw [List.take_succ_eq_append_getElem hkl, List.any_append, HA.out]
    simp
   have HL : Hid (badP row l[k] = true → l.any (badP row) = true) := fun hb => List.any_eq_true.2 ⟨_, List.getElem_mem hkl, hb⟩
   obtain ⟨o, ho⟩ : ∃ o : OA, o = l[k] := ⟨_, rfl⟩
   have X : OX wr b (off + k * 10) o := by rw [ho]; exact X
   rw [← ho] at hok HT HL
   clear ho hc h HA
   obtain ⟨q0, q1, q2, q3, q4, q5, q6, q7, q8, q9⟩ := X
   cases hb : badP row o with
   | true =>
    go_wp2_with (go_at_call 130; refine (pbad_any _ o hok g row g1).mono ?_; rintro e w2 ⟨rfl, C⟩; have D := B.trans (C.mono B.size); rw [hb])
    go_ret
    exact ⟨⟨k, rfl, by rw [HL.out hb]; exact decide_eq_true (by omega)⟩, D⟩
   | false =>
    go_wp2_with (go_at_call 130; refine (pbad_any _ o hok g row g1).mono ?_; rintro e w2 ⟨rfl, C⟩; have D := B.trans (C.mono B.size); rw [hb])
    go_roundw
    case rel => exact ⟨k + 1, by omega, by go_num, D, by rw [HT.out, hb]⟩
    case measure => simp [intOf]; omega
  ·have i1 : (n : Int) ≤ (k : Int) := by omega
   have HL : Hid (l.any (badP row) = false) := by
    show _ = _
    rw [← HA.out, List.take_of_length_le (by omega)]
   go_wp2
   go_ret
   exact ⟨⟨-1, rfl, by rw [HL.out]; rfl⟩, B⟩
theorem pcontains_any (w : World) (ao : Option Addr) (n cap : Nat) (l : List OA) (h : OWL w 0 ao n cap l) (g : Nat) (row : ByteArray) (hg : w.cell? ⟨g, 0, none⟩ = some (.string row)) :
  Calls Tryz.prog 129 #[.slice ao n cap, .func (.func 130) #[] #[.pointer (some ⟨g, 0, none⟩)]] w fun e w' =>
   e = .returned (.bool (l.any (badP row))) ∧ Below w.heap.size w w' := by
 go_enter Tryz.func129, Tryz.ntmps129
 go_wp2_with fail
 refine (pindex_any _ ao n cap l h g row hg).mono ?_
 rintro e w' ⟨⟨i, rfl, hi⟩, C⟩
 have HI : Hid (decide (0 ≤ i) = l.any (badP row)) := hi
 clear hi
 go_wp2
 go_ret
 exact ⟨by rw [← HI.out] <;> rfl, C⟩
def partsB (row : ByteArray) (l : List OA) : Bool := decide (1 ≤ l.length ∧ l.length ≤ 8) && l.all fun o => decide (o.row = row) && partB o
theorem any_bad (row : ByteArray) (l : List OA) : (!(l.any (badP row))) = l.all fun o => decide (o.row = row) && partB o := by
 rw [List.not_any_eq_all_not]
 congr 1
 funext o
 unfold badP
 simp
set_option maxRecDepth 100000 in
set_option maxHeartbeats 4000000 in
theorem pparts_any (w : World) (ao : Option Addr) (n cap : Nat) (l : List OA) (h : OWL w 0 ao n cap l) (row : ByteArray) :
  Calls Tryz.prog 128 #[.slice ao n cap, .string row] w fun e w' => e = .returned (.bool (partsB row l)) ∧ Below w.heap.size w w' := by
 have hl : l.length = n := h.len
 have B : Below w.heap.size w (w.alloc (Obj.cells #[.string row] 9)) := (Below.refl _ w).alloc (Nat.le_refl _) _
 have h1 := h.below B
 have g1 : (w.alloc (Obj.cells #[.string row] 9)).cell? ⟨w.heap.size, 0, none⟩ = some (.string row) := cell_one_new _ _ _ 0 _ (by simp)
 by_cases c0 : n < 1
 ·have i0 : (n : Int) < 1 := by omega
  have hv : Hid (partsB row l = false) := by
   show _ = _
   unfold partsB
   rw [decide_eq_false (by omega), Bool.false_and]
  clear h h1 hl
  go_enter Tryz.func128, Tryz.ntmps128
  go_wp2
  go_ret
  exact ⟨by rw [hv.out] <;> rfl, B⟩
 have i0 : decide ((n : Int) < 1) = false := by simp; omega
 by_cases c1 : 8 < n
 ·have i1 : decide ((8 : Int) < (n : Int)) = true := by simp; omega
  have hv : Hid (partsB row l = false) := by
   show _ = _
   unfold partsB
   rw [decide_eq_false (by omega), Bool.false_and]
  clear h h1 hl
  go_enter Tryz.func128, Tryz.ntmps128
  go_wp2
  go_ret
  exact ⟨by rw [hv.out] <;> rfl, B⟩
 have i1 : decide ((8 : Int) < (n : Int)) = false := by simp; omega
 have hv : Hid (partsB row l = !(l.any (badP row))) := by
  show _ = _
  unfold partsB
  rw [decide_eq_true (by omega), Bool.true_and, any_bad]
 clear h hl c0 c1
 go_enter Tryz.func128, Tryz.ntmps128
 go_wp2_with (go_at_call 129; refine (pcontains_any _ ao n cap l h1 w.heap.size row g1).mono ?_; rintro e w' ⟨rfl, C⟩; have D := B.trans (C.mono B.size))
 go_ret
 exact ⟨by rw [hv.out] <;> rfl, D⟩
open Go.RowKit
def sn0 (o : OA) : SN := (o.s, o.sn)
theorem OWL.flat {w : World} {d : Nat} {ao : Option Addr} {n cap : Nat} {l : List (OD d)} (h : OWL w d ao n cap l) : OWL w 0 ao n cap (l.map (topD d)) := by
 refine ⟨by rw [← h.len]; exact List.length_map _, h.le, h.mx, h.nil, fun a ha i hi j v hv => ?_, fun y hy => ?_⟩
 ·have hi' : i < l.length := Nat.lt_of_lt_of_eq hi (List.length_map _)
  refine h.cell a ha i hi' j v ?_
  have e : (l.map (topD d))[i] = topD d l[i] := List.getElem_map _
  rw [← e]
  exact hv
 ·obtain ⟨x, hx, rfl⟩ := List.mem_map.1 hy
  exact (h.ok x hx).top
theorem map_flat (d : Nat) (l : List (OD d)) : (l.map (topD d)).map sn0 = l.map (snD d) := by
 rw [List.map_map]
 rfl
theorem right6 {o : OA} {l : List OA} (hk : o.kind = 6) (hn : l.length = o.sn) (hr : o.row.size ≠ 0) : rightO o.s (l.map sn0) = (partsB o.row l && isAlone o.noS) := by
 have e : (l.map sn0).all (partR o.s) = l.all fun x => decide (x.row = o.row) && partB x := by
  rw [List.all_map]
  congr 1
  funext x
  show partR o.s (sn0 x) = _
  unfold partR sn0 partB
  show (decide (1 ≤ x.kind ∧ x.kind ≤ 4) && leaf x.s x.sn && decide (x.row = o.row)) = (decide (x.row = o.row) && (decide (1 ≤ x.kind ∧ x.kind ≤ 4) && leaf x.s x.sn))
  rw [Bool.and_comm]
 unfold rightO partsB
 rw [e, List.length_map, hn, leaf6 hk hr, show o.s.kind = o.kind from rfl, hk]
 simp only [ne_eq, not_true_eq_false, decide_false, Bool.false_or]
 cases isAlone o.noS <;> simp
theorem right_not6 {o : OA} {l : List SN} (hk : o.kind ≠ 6) : rightO o.s l = leaf o.s l.length := by
 unfold rightO
 rw [show o.s.kind = o.kind from rfl, decide_eq_true hk, Bool.true_or, Bool.and_true]
theorem right_noRow {o : OA} {l : List SN} (hk : o.kind = 6) (hr : o.row.size = 0) : rightO o.s l = false := by
 unfold rightO
 rw [leaf_noRow (.inr hk) hr, Bool.false_and]
set_option maxRecDepth 100000 in
set_option maxHeartbeats 4000000 in
theorem pisright_6 (w : World) (o : OA) (l : List OA) (h : o.ok w) (hs : OWL w 0 o.so o.sn o.sc l) (hk : o.kind = 6) :
  Calls Tryz.prog 124 #[o.val] w fun e w' => e = .returned (.bool (rightO o.s (l.map sn0))) ∧ Below w.heap.size w w' := by
 have hl : l.length = o.sn := hs.len
 have t5 : (o.kind == 5) = false := by simp [hk]
 have t1 : (o.kind == 1) = false := by simp [hk]
 have t2 : (o.kind == 2) = false := by simp [hk]
 have t3 : (o.kind == 3) = false := by simp [hk]
 have t7 : (o.kind == 7) = false := by simp [hk]
 have t4 : (o.kind == 4) = false := by simp [hk]
 have t6 : (o.kind == 6) = true := by simp [hk]
 have B : Below w.heap.size w (w.alloc (Obj.cells o.cells.toArray 58)) := (Below.refl _ w).alloc (Nat.le_refl _) _
 have K : OC (w.alloc (Obj.cells o.cells.toArray 58)) w.heap.size o := OC.new w o
 have hs1 := hs.below B
 unfold OA.cells at B K
 by_cases hp : partsB o.row l = false
 ·have hv : Hid (rightO o.s (l.map sn0) = false) := by
   show _ = _
   by_cases hr : o.row.size = 0
   ·exact right_noRow hk hr
   ·rw [right6 hk hl hr, hp, Bool.false_and]
  clear h hs hk K hl
  unfold OA.val
  go_enter Tryz.func124, Tryz.ntmps124
  go_wp2_with (go_at_call 128; refine (pparts_any _ _ _ _ l hs1 o.row).mono ?_; rintro e w2 ⟨rfl, C⟩; have D := B.trans (C.mono B.size); rw [hp])
  go_ret
  exact ⟨by rw [hv.out] <;> rfl, D⟩
 have hp : partsB o.row l = true := by simpa using hp
 by_cases hr : o.row.size = 0
 ·have e0 : o.row.toList.isEmpty = true := by
   rw [toE]
   exact decide_eq_true hr
  have hv : Hid (rightO o.s (l.map sn0) = false) := right_noRow hk hr
  clear h hs hk hl hr
  unfold OA.val
  go_enter Tryz.func124, Tryz.ntmps124
  go_wp2_with (go_at_call 128; refine (pparts_any _ _ _ _ l hs1 o.row).mono ?_; rintro e w2 ⟨rfl, C⟩; have D : Below w.heap.size w w2 := B.trans (C.mono B.size); have K2 : OC w2 w.heap.size o := K.keep C; rw [hp]; obtain ⟨q0, q1, q2, q3, q4, q5, q6, q7, q8, q9⟩ := K2.cs; have f9 := K2.fz 9; have lt := K2.lt; clear K2 C K; have D3 : Below w.heap.size w (w2.setCell ⟨w.heap.size, 9, none⟩ (.slice none 0 0)) := D.setCell (Nat.le_refl _) _; clear D)
  go_ret
  exact ⟨by rw [hv.out] <;> rfl, D3⟩
 have e0 : o.row.toList.isEmpty = false := by
  rw [toE]
  exact decide_eq_false hr
 have hv : Hid (rightO o.s (l.map sn0) = isAlone o.noS) := by
  show _ = _
  rw [right6 hk hl hr, hp, Bool.true_and]
 clear hs hk hl hr
 unfold OA.val
 go_enter Tryz.func124, Tryz.ntmps124
 go_wp2_with (first
  | (go_at_call 128; refine (pparts_any _ _ _ _ l hs1 o.row).mono ?_; rintro e w2 ⟨rfl, C⟩; have D : Below w.heap.size w w2 := B.trans (C.mono B.size); have K2 : OC w2 w.heap.size o := K.keep C; rw [hp]; obtain ⟨q0, q1, q2, q3, q4, q5, q6, q7, q8, q9⟩ := K2.cs; have f9 := K2.fz 9; have lt := K2.lt; clear K2 C K; have D3 : Below w.heap.size w (w2.setCell ⟨w.heap.size, 9, none⟩ (.slice none 0 0)) := D.setCell (Nat.le_refl _) _; have h3 := (h.below D3).noS; clear D h)
  | (go_at_call 127; refine (palone_any _ o.noS h3).mono ?_; rintro e w4 ⟨rfl, C4⟩; have D4 := D3.trans (C4.mono D3.size); clear C4))
 go_ret
 exact ⟨by rw [hv.out] <;> rfl, D4⟩
theorem pisright_any (w : World) (o : OA) (l : List OA) (h : o.ok w) (hs : OWL w 0 o.so o.sn o.sc l) :
  Calls Tryz.prog 124 #[o.val] w fun e w' => e = .returned (.bool (rightO o.s (l.map sn0))) ∧ Below w.heap.size w w' := by
 by_cases hk : o.kind = 6
 ·exact pisright_6 w o l h hs hk
 ·rw [right_not6 hk, List.length_map, show l.length = o.sn from hs.len]
  exact pleaf_any w o h hk
def kindO (b : Bool) : Int := if b then 0 else 6
set_option maxRecDepth 100000 in
set_option maxHeartbeats 4000000 in
theorem pRight_any (w : World) (o : OA) (l : List OA) (h : o.ok w) (hs : OWL w 0 o.so o.sn o.sc l) :
  Calls Tryz.prog 114 #[o.val] w fun e w' => e = .returned (.int .i64 (kindO (rightO o.s (l.map sn0)))) ∧ Below w.heap.size w w' := by
 have B : Below w.heap.size w (w.alloc (Obj.cells o.cells.toArray 58)) := (Below.refl _ w).alloc (Nat.le_refl _) _
 have h1 := h.below B
 have hs1 := hs.below B
 clear h hs
 unfold OA.cells at B
 cases hb : rightO o.s (l.map sn0) with
 | true =>
  unfold OA.val
  go_enter Tryz.func114, Tryz.ntmps114
  go_wp2_with (go_at_call 124; refine (pisright_any _ o l h1 hs1).mono ?_; rintro e w2 ⟨rfl, C⟩; have D := B.trans (C.mono B.size); rw [hb])
  go_ret
  exact ⟨rfl, D⟩
 | false =>
  unfold OA.val
  go_enter Tryz.func114, Tryz.ntmps114
  go_wp2_with (go_at_call 124; refine (pisright_any _ o l h1 hs1).mono ?_; rintro e w2 ⟨rfl, C⟩; have D := B.trans (C.mono B.size); rw [hb])
  go_ret
  exact ⟨rfl, D⟩
open Go.RowKit
theorem putS_len {o : SO} (h : o.fits) {n : Nat} (hn : n ≤ 100) : (putS o n).length ≤ 800 := by
 have := txt_len h.row
 have := txt_len h.fam
 have := txt_len h.qual
 have := txt_len h.to
 have := enc_length h.time
 have := byts_len h.value.1
 have := byts_len h.want.1
 have := enb_len o.has
 have := enc_length (n := n) (by omega)
 have := enc_length (n := o.kind.toNat) (by have := h.kind; omega)
 unfold putS
 simp only [List.length_append]
 omega
set_option maxRecDepth 100000 in
set_option maxHeartbeats 8000000 in
theorem pput_gen (w : World) (ao : Option Addr) (n cap : Nat) (xs : List Int) (h : Sl w ao n cap xs) (M : Nat) (hM : M ≤ 850000) (hr : n ≤ M) (o : OA) (ho : o.ok w) (hf : o.s.fits) (l : List OA) (L : OWL w 0 o.so o.sn o.sc l) (hl8 : l.length ≤ 8) (hlf : ∀ x ∈ l, x.s.fits)
  (rec : ∀ (W : World) (bo : Option Addr) (m c : Nat) (ys : List Int) (x : OA), x ∈ l → Sl W bo m c ys → m ≤ M + 10000 → x.ok W → Calls Tryz.prog 89 #[.slice bo m c, x.val] W (PutPost W (ys ++ putS x.s 0))) :
  Calls Tryz.prog 89 #[.slice ao n cap, o.val] w (PutPost w (xs ++ (putS o.s l.length ++ (l.map fun x => putS x.s 0).flatten))) := by
 have hxl := h.len
 have hl : l.length = o.sn := L.len
 have B : Below w.heap.size w (w.alloc (Obj.cells o.cells.toArray 58)) := (Below.refl _ w).alloc (Nat.le_refl _) _
 have K : OC (w.alloc (Obj.cells o.cells.toArray 58)) w.heap.size o := OC.new w o
 unfold OA.cells at B K
 have h1 := h.below B
 have ho1 := ho.below B
 have L1 := L.below B
 clear h ho L
 obtain ⟨kd0, kd1⟩ : 0 ≤ o.kind ∧ o.kind ≤ 100 := hf.kind
 have hkf : KA.fits o.key := ⟨hf.row, hf.fam, hf.qual, hf.time⟩
 have lt : o.to.size ≤ 32 := hf.to
 have lv : o.va.xs.length ≤ 256 := hf.value.1
 have lw : o.wa.xs.length ≤ 256 := hf.want.1
 have g0 := enc_length (n := o.kind.toNat) (by omega)
 have g1 := putK_len hkf
 have g2 := txt_len lt
 have g3 := byts_len lv
 have g4 := byts_len lw
 have g5 := enb_len o.has
 have g6 := enc_length (n := o.sn) (by omega)
 unfold OA.val
 go_enter Tryz.func89, Tryz.ntmps89
 go_wp2_with fail
 obtain ⟨w1, hw1⟩ : ∃ W, W = w.alloc (Obj.cells #[.int .i64 o.kind, .string o.row, .string o.fam, .string o.qual, .int .u64 o.time, .string o.to, .slice o.va.ao o.va.n o.va.cap, .slice o.wa.ao o.wa.n o.wa.cap, .bool o.has, .slice o.so o.sn o.sc] 58) := ⟨_, rfl⟩
 obtain ⟨N, hN⟩ : ∃ N, N = w.heap.size := ⟨_, rfl⟩
 rw [← hw1] at B K h1 ho1 L1 ⊢
 rw [← hN] at B K ⊢
 have HN : Hid (N = w.heap.size) := hN
 clear hw1 hN
 have A1 : Below w1.heap.size w1 w1 := Below.refl _ _
 have S1 := h1
 have K1 := K
 have B1 := B
 clear h1 K B
 refine (fUintI w1 ao n cap o.kind _ S1 (by omega) kd0 (by omega)).mono ?_
 rintro e w2 ⟨b2, m2, c2, rfl, S2, C⟩
 have K2 := K1.keep C
 have B2 := B1.trans (C.mono (by have := B1.size; have := K1.lt; omega))
 have A2 := A1.trans (C.mono A1.size)
 have l2 := S2.len
 simp only [List.length_append] at l2
 clear C K1 B1 A1 S1
 obtain ⟨q0, q1, q2, q3, q4, q5, q6, q7, q8, q9⟩ := K2.cs
 go_wp2_with fail
 clear q0 q1 q2 q3 q4 q5 q6 q7 q8 q9
 refine (pkey_any w2 b2 m2 c2 _ S2 (by omega) o.key hkf).mono ?_
 rintro e w3 ⟨b3, m3, c3, rfl, S3, C⟩
 have K3 := K2.keep C
 have B3 := B2.trans (C.mono (by have := B2.size; have := K2.lt; omega))
 have A3 := A2.trans (C.mono A2.size)
 have l3 := S3.len
 simp only [List.length_append] at l3
 clear C K2 B2 A2 S2
 obtain ⟨q0, q1, q2, q3, q4, q5, q6, q7, q8, q9⟩ := K3.cs
 go_wp2_with fail
 clear q0 q1 q2 q3 q4 q5 q6 q7 q8 q9
 obtain ⟨g, hg⟩ : ∃ g, g = w3.heap.size := ⟨_, rfl⟩
 obtain ⟨v3, hv3⟩ : ∃ V, V = w3.alloc (.cells #[.string o.to] 9) := ⟨_, rfl⟩
 have U3 : Below w3.heap.size w3 v3 := by rw [hv3]; exact (Below.refl _ _).alloc (Nat.le_refl _) _
 have hc : ∀ i (hi : i < [o.to].length), v3.cell? ⟨g, i, none⟩ = some (.string [o.to][i]) := fun i hi => by
  rw [hv3, hg, cell_of_row _ w3.heap.size i #[.string o.to] 9 (0, 0) (heap_alloc_new w3 _)]
  have hi : i < 1 := hi
  obtain rfl : i = 0 := by omega
  rfl
 have T3 := S3.below U3
 have h32 : ∀ s ∈ [o.to], s.size ≤ 32 := by
  intro s hs
  rw [List.mem_singleton.1 hs]
  exact lt
 rw [← hv3, ← hg]
 clear hv3 hg
 refine (ptexts_any v3 b3 m3 c3 _ T3 (by omega) g [o.to] hc (by show 1 ≤ 3; omega) h32).mono ?_
 rintro e w4 ⟨b4, m4, c4, rfl, S4, C⟩
 rw [show ([o.to].map txt).flatten = txt o.to from by simp] at S4
 have C := U3.trans (C.mono U3.size)
 clear U3 T3 hc h32
 have K4 := K3.keep C
 have B4 := B3.trans (C.mono (by have := B3.size; have := K3.lt; omega))
 have A4 := A3.trans (C.mono A3.size)
 have l4 := S4.len
 simp only [List.length_append] at l4
 clear C K3 B3 A3 S3
 obtain ⟨q0, q1, q2, q3, q4, q5, q6, q7, q8, q9⟩ := K4.cs
 go_wp2_with fail
 clear q0 q1 q2 q3 q4 q5 q6 q7 q8 q9
 refine (fBytes w4 b4 _ m4 c4 _ _ _ _ S4 (ho1.below A4).va (by omega) (by have := ho1.va.len; omega)).mono ?_
 rintro e w5 ⟨b5, m5, c5, rfl, S5, C⟩
 have K5 := K4.keep C
 have B5 := B4.trans (C.mono (by have := B4.size; have := K4.lt; omega))
 have A5 := A4.trans (C.mono A4.size)
 have l5 := S5.len
 simp only [List.length_append] at l5
 clear C K4 B4 A4 S4
 obtain ⟨q0, q1, q2, q3, q4, q5, q6, q7, q8, q9⟩ := K5.cs
 go_wp2_with fail
 clear q0 q1 q2 q3 q4 q5 q6 q7 q8 q9
 refine (fBytes w5 b5 _ m5 c5 _ _ _ _ S5 (ho1.below A5).wa (by omega) (by have := ho1.wa.len; omega)).mono ?_
 rintro e w6 ⟨b6, m6, c6, rfl, S6, C⟩
 have K6 := K5.keep C
 have B6 := B5.trans (C.mono (by have := B5.size; have := K5.lt; omega))
 have A6 := A5.trans (C.mono A5.size)
 have l6 := S6.len
 simp only [List.length_append] at l6
 clear C K5 B5 A5 S5
 obtain ⟨q0, q1, q2, q3, q4, q5, q6, q7, q8, q9⟩ := K6.cs
 go_wp2_with fail
 clear q0 q1 q2 q3 q4 q5 q6 q7 q8 q9
 refine (fBool w6 b6 m6 c6 o.has _ S6 (by omega)).mono ?_
 rintro e w7 ⟨b7, m7, c7, rfl, S7, C⟩
 have K7 := K6.keep C
 have B7 := B6.trans (C.mono (by have := B6.size; have := K6.lt; omega))
 have A7 := A6.trans (C.mono A6.size)
 have l7 := S7.len
 simp only [List.length_append] at l7
 clear C K6 B6 A6 S6
 obtain ⟨q0, q1, q2, q3, q4, q5, q6, q7, q8, q9⟩ := K7.cs
 go_wp2_with fail
 clear q0 q1 q2 q3 q4 q5 q6 q7 q8 q9
 refine (fUint w7 b7 m7 c7 o.sn _ S7 (by omega) (by omega)).mono ?_
 rintro e w8 ⟨b8, m8, c8, rfl, S8, C⟩
 have K8 := K7.keep C
 have B8 := B7.trans (C.mono (by have := B7.size; have := K7.lt; omega))
 have A8 := A7.trans (C.mono A7.size)
 have l8 := S8.len
 simp only [List.length_append] at l8
 clear C K7 B7 A7 S7
 have hS : xs ++ enc o.kind.toNat ++ putK o.key ++ txt o.to ++ byts o.va.xs ++ byts o.wa.xs ++ enb o.has ++ enc o.sn = xs ++ putS o.s l.length := by
  unfold putS putK OA.key OA.s
  rw [hl]
  simp only [List.append_assoc]
 rw [hS] at S8
 have L8 := L1.below A8
 have m8b : m8 ≤ M + 2000 := by omega
 clear l2 l3 l4 l5 l6 l7 l8 g0 g1 g2 g3 g4 g5 g6 L1 ho1 A8 hS lv lw lt hkf kd0 kd1
 obtain ⟨q0, q1, q2, q3, q4, q5, q6, q7, q8, q9⟩ := K8.cs
 have hs8 := B8.size
 go_wp2_with fail
 clear q0 q1 q2 q3 q4 q5 q6 q7 q8 q9 K8
 go_loopw [0, 6, 42] (fun b _ i wr => ∃ (k : Nat) (bo : Option Addr) (m c : Nat), k ≤ o.sn ∧ i = .int .i64 k ∧ b = .slice bo m c ∧ Sl wr bo m c (xs ++ putS o.s l.length ++ ((l.take k).map fun x => putS x.s 0).flatten) ∧ m ≤ m8 + 800 * k ∧ Below N w wr ∧ Below w8.heap.size w8 wr) (fun _ _ i _ => o.sn - (intOf i).toNat)
 case atStart => exact ⟨0, b8, m8, c8, Nat.zero_le _, rfl, rfl, by simpa using S8, by omega, B8, Below.refl _ _⟩
 case round =>
  clear S8 B8
  obtain ⟨k, bo, m, c, hk, rfl, rfl, S, hm, B, C⟩ := hrel
  by_cases hlt : k < o.sn
  ·obtain ⟨b, off, ea, hc⟩ := L8.at (by omega)
   have hkl : k < l.length := by omega
   have X := (hc k hkl).below C
   have hok : (l[k]).ok wr := (L8.ok _ (List.getElem_mem hkl)).below C
   have hmem := List.getElem_mem hkl
   have i6 : (k : Int) < (o.sn : Int) := by omega
   have HT : Hid (((l.take (k + 1)).map fun x => putS x.s 0).flatten = ((l.take k).map fun x => putS x.s 0).flatten ++ putS l[k].s 0) := by
    show _ = _
    rw [List.take_succ_eq_append_getElem hkl, List.map_append, List.flatten_append]
    simp
   have HF := putS_len (n := 0) (hlf _ hmem) (by omega)
   have hrec := rec
   obtain ⟨x, hx⟩ : ∃ x : OA, x = l[k] := ⟨_, rfl⟩
   have X : OX wr b (off + k * 10) x := by rw [hx]; exact X
   obtain ⟨p, hp⟩ : ∃ p, p = ((l.take k).map fun x => putS x.s 0).flatten := ⟨_, rfl⟩
   rw [← hx] at hok HT HF hmem
   rw [← hp] at S HT
   have Bx : Below wr.heap.size wr (wr.alloc (Obj.cells x.cells.toArray 58)) := (Below.refl _ _).alloc (Nat.le_refl _) _
   have hm2 : m ≤ M + 10000 := by omega
   have CR := (hrec _ bo m c _ x hmem (S.below Bx) hm2 (hok.below Bx))
   clear hp hx hc hrec
   rw [ea]
   clear ea
   obtain ⟨q0, q1, q2, q3, q4, q5, q6, q7, q8, q9⟩ := X
   unfold OA.cells at Bx CR
   have lS := S.len
   clear S
   go_wp2_with (go_at_call 89; refine CR.mono ?_; rintro e w9 ⟨b9, m9, c9, rfl, S9, C9⟩; have E9 := Bx.trans (C9.mono Bx.size); have B9 := B.trans (E9.mono (by have := B.size; have := HN.out; omega)); have D9 := C.trans (E9.mono C.size); have l9 := S9.len)
   have hm9 : m9 ≤ m8 + 800 * (k + 1) := by
    simp only [List.length_append] at l9 lS
    omega
   go_roundw
   case rel => exact ⟨k + 1, b9, m9, c9, by omega, by go_num, rfl, by rw [HT.out, ← List.append_assoc]; exact S9, hm9, B9, D9⟩
   case measure => simp [intOf]; omega
  ·have i6 : (o.sn : Int) ≤ (k : Int) := by omega
   rw [List.take_of_length_le (by omega), List.append_assoc] at S
   go_wp2
   go_ret
   exact ⟨bo, m, c, rfl, S, by rw [← HN.out]; exact B⟩
open Go.RowKit
theorem OWL.none {w : World} {o : OA} (h : o.ok w) (hz : o.sn = 0) : OWL w 0 o.so o.sn o.sc [] :=
 ⟨by rw [hz]; rfl, h.le, h.mx, h.nil, fun _ _ i hi => by simp at hi, fun _ hy => by simp at hy⟩
theorem pput_leaf (w : World) (ao : Option Addr) (n cap : Nat) (xs : List Int) (h : Sl w ao n cap xs) (hr : n ≤ 800000) (o : OA) (ho : o.ok w) (hf : o.s.fits) (hz : o.sn = 0) :
  Calls Tryz.prog 89 #[.slice ao n cap, o.val] w (PutPost w (xs ++ putS o.s 0)) := by
 have := pput_gen w ao n cap xs h 800000 (by omega) hr o ho hf [] (OWL.none ho hz) (by decide) (fun x hx => by simp at hx) (fun _ _ _ _ _ x hx => by simp at hx)
 simpa using this
theorem pput_any (w : World) (ao : Option Addr) (n cap : Nat) (xs : List Int) (h : Sl w ao n cap xs) (hr : n ≤ 700000) (o : OA) (ho : o.ok w) (hf : o.s.fits) (l : List OA) (L : OWL w 0 o.so o.sn o.sc l) (hl8 : l.length ≤ 8) (hlf : ∀ x ∈ l, x.s.fits) (hlz : ∀ x ∈ l, x.sn = 0) :
  Calls Tryz.prog 89 #[.slice ao n cap, o.val] w (PutPost w (xs ++ (putS o.s l.length ++ (l.map fun x => putS x.s 0).flatten))) :=
 pput_gen w ao n cap xs h 700000 (by omega) hr o ho hf l L hl8 hlf (fun W bo m c ys x hx S hm hok => pput_leaf W bo m c ys S (by omega) x hok (hlf x hx) (hlz x hx))
def putA (o : OA) (l : List OA) : List Int := putS o.s l.length ++ (l.map fun x => putS x.s 0).flatten
theorem putA_P (o : OA) (l : List OA) : putA o l = putP (o.s, l.map OA.s) := by
 unfold putA putP
 simp [Function.comp_def]
theorem right_parts {o : OA} {l : List OA} {w : World} (h : rightO o.s (l.map sn0) = true) (ho : o.ok w) (hl : ∀ x ∈ l, x.ok w) : o.s.fits ∧ l.length ≤ 8 ∧ (∀ x ∈ l, x.s.fits) ∧ ∀ x ∈ l, x.sn = 0 := by
 have h1 := rightP_of h
 have h2 := rightP_fits h1 ho.wf (fun s hs => by
  obtain ⟨q, hq, rfl⟩ := List.mem_map.1 hs
  obtain ⟨x, hx, rfl⟩ := List.mem_map.1 hq
  exact (hl x hx).wf)
 obtain ⟨f1, f2, f3⟩ := h2
 simp only [List.length_map] at f2
 refine ⟨f1, f2, fun x hx => f3 x.s ?_, fun x hx => ?_⟩
 ·rw [List.map_map]
  exact List.mem_map.2 ⟨x, hx, rfl⟩
 ·have := right_flat h
  have h3 : ∀ s ∈ l.map sn0, s.2 = 0 := by
   rw [this]
   intro s hs
   obtain ⟨q, _, rfl⟩ := List.mem_map.1 hs
   rfl
  exact h3 (sn0 x) (List.mem_map.2 ⟨x, hx, rfl⟩)
end Go.Proofs.YtnbejckdhdbamaaGreat

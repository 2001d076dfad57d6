/-
  Texts in one: PParts, PRight.
-/
import Derived.Test.YtcgphdipfekccaaMessageBackQ8
import Derived.Test.YtcgphdipfekccaaMessageBackQ2
namespace Go.Proofs.Ytcgphdipfekccaa
open Go.RowKit
def partB (o : OA) : Bool := decide (1 ≤ o.kind ∧ o.kind ≤ 4) && leaf o.s o.sn
set_option maxRecDepth 100000 in
set_option maxHeartbeats 4000000 in
theorem ppart_any (w : World) (o : OA) (h : o.ok w) :
    Calls Try.prog 95 #[o.val] w fun e w' => e = .returned (.bool (partB o)) ∧ Below w.heap.size w w' := by
  have B : Below w.heap.size w (w.alloc (Obj.cells o.cells.toArray 57)) := (Below.refl _ w).alloc (Nat.le_refl _) _
  have h1 := h.below B
  clear h
  unfold OA.cells at B
  by_cases c : 1 ≤ o.kind ∧ o.kind ≤ 4
  · have h6 : o.kind ≠ 6 := by omega
    have hv : Hid (partB o = leaf o.s o.sn) := by
      show _ = _
      unfold partB
      rw [decide_eq_true c, Bool.true_and]
    have c : o.kind = 1 ∨ o.kind = 2 ∨ o.kind = 3 ∨ o.kind = 4 := by omega
    rcases c with c | c | c | c
    · have t1 : (o.kind == 1) = true := by simp [c]
      clear c
      unfold OA.val
      go_enter Try.func95, Try.ntmps95
      go_wp2_with (go_at_call 77; refine (pleaf_any _ o h1 h6).mono ?_; rintro e w' ⟨rfl, C⟩; have D := B.trans (C.mono B.size))
      go_ret
      exact ⟨by rw [hv.out] <;> rfl, D⟩
    · have t1 : (o.kind == 1) = false := by simp [c]
      have t2 : (o.kind == 2) = true := by simp [c]
      clear c
      unfold OA.val
      go_enter Try.func95, Try.ntmps95
      go_wp2_with (go_at_call 77; refine (pleaf_any _ o h1 h6).mono ?_; rintro e w' ⟨rfl, C⟩; have D := B.trans (C.mono B.size))
      go_ret
      exact ⟨by rw [hv.out] <;> rfl, D⟩
    · have t1 : (o.kind == 1) = false := by simp [c]
      have t2 : (o.kind == 2) = false := by simp [c]
      have t3 : (o.kind == 3) = true := by simp [c]
      clear c
      unfold OA.val
      go_enter Try.func95, Try.ntmps95
      go_wp2_with (go_at_call 77; refine (pleaf_any _ o h1 h6).mono ?_; rintro e w' ⟨rfl, C⟩; have D := B.trans (C.mono B.size))
      go_ret
      exact ⟨by rw [hv.out] <;> rfl, D⟩
    · have t1 : (o.kind == 1) = false := by simp [c]
      have t2 : (o.kind == 2) = false := by simp [c]
      have t3 : (o.kind == 3) = false := by simp [c]
      have t4 : (o.kind == 4) = true := by simp [c]
      clear c
      unfold OA.val
      go_enter Try.func95, Try.ntmps95
      go_wp2_with (go_at_call 77; refine (pleaf_any _ o h1 h6).mono ?_; rintro e w' ⟨rfl, C⟩; have D := B.trans (C.mono B.size))
      go_ret
      exact ⟨by rw [hv.out] <;> rfl, D⟩
  · have t1 : (o.kind == 1) = false := by simp; omega
    have t2 : (o.kind == 2) = false := by simp; omega
    have t3 : (o.kind == 3) = false := by simp; omega
    have t4 : (o.kind == 4) = false := by simp; omega
    have hv : Hid (partB o = false) := by
      show _ = _
      unfold partB
      rw [decide_eq_false c, Bool.false_and]
    clear c h1
    unfold OA.val
    go_enter Try.func95, Try.ntmps95
    go_wp2
    go_ret
    exact ⟨by rw [hv.out] <;> rfl, B⟩
def badP (row : ByteArray) (o : OA) : Bool := !(decide (o.row = row) && partB o)
set_option maxRecDepth 100000 in
set_option maxHeartbeats 4000000 in
theorem pbad_any (w : World) (o : OA) (h : o.ok w) (g : Nat) (row : ByteArray) (hg : w.cell? ⟨g, 0, none⟩ = some (.string row)) :
    Calls Try.prog 94 #[o.val, .pointer (some ⟨g, 0, none⟩)] w fun e w' => e = .returned (.bool (badP row o)) ∧ Below w.heap.size w w' := by
  have B : Below w.heap.size w (w.alloc (Obj.cells o.cells.toArray 57)) := (Below.refl _ w).alloc (Nat.le_refl _) _
  have h1 := h.below B
  have g1 : (w.alloc (Obj.cells o.cells.toArray 57)).cell? ⟨g, 0, none⟩ = some (.string row) := (B.cell (World.block_lt_of_cell? w _ hg)).trans hg
  clear h hg
  unfold OA.cells at B g1
  by_cases c : o.row = row
  · have i : (o.row.toList == row.toList) = true := by rw [c]; exact beq_self_eq_true _
    have hv : Hid (badP row o = !(partB o)) := by
      show _ = _
      unfold badP
      rw [decide_eq_true c, Bool.true_and]
    clear c
    unfold OA.val
    go_enter Try.func94, Try.ntmps94
    go_wp2_with (go_at_call 95; refine (ppart_any _ o h1).mono ?_; rintro e w' ⟨rfl, C⟩; have D := B.trans (C.mono B.size))
    go_ret
    exact ⟨by rw [hv.out] <;> rfl, D⟩
  · have i : (o.row.toList == row.toList) = false := toL_ne c
    have hv : Hid (badP row o = true) := by
      show _ = _
      unfold badP
      rw [decide_eq_false c, Bool.false_and]
      rfl
    clear c h1
    unfold OA.val
    go_enter Try.func94, Try.ntmps94
    go_wp2
    go_ret
    exact ⟨by rw [hv.out] <;> rfl, B⟩
set_option maxRecDepth 100000 in
set_option maxHeartbeats 4000000 in
theorem pindex_any (w : World) (ao : Option Addr) (n cap : Nat) (l : List OA) (h : OWL w 0 ao n cap l) (g : Nat) (row : ByteArray) (hg : w.cell? ⟨g, 0, none⟩ = some (.string row)) :
    Calls Try.prog 97 #[.slice ao n cap, .func (.func 94) #[] #[.pointer (some ⟨g, 0, none⟩)]] w fun e w' =>
      (∃ i : Int, e = .returned (.int .i64 i) ∧ decide (0 ≤ i) = l.any (badP row)) ∧ Below w.heap.size w w' := by
  have hl : l.length = n := h.len
  have hm := h.mx
  have hle := h.le
  simp only [maxLen] at hm
  go_enter Try.func97, Try.ntmps97
  go_wp2
  go_loopw [5, 8] (fun _ i wr => ∃ k : Nat, k ≤ n ∧ i = .int .i64 k ∧ Below w.heap.size w wr ∧ (l.take k).any (badP row) = false) (fun _ i _ => n - (intOf i).toNat)
  case atStart => exact ⟨0, Nat.zero_le _, rfl, Below.refl _ _, rfl⟩
  case round =>
    obtain ⟨k, hk, rfl, B, hall⟩ := hrel
    have HA : Hid ((l.take k).any (badP row) = false) := hall
    clear hall
    by_cases hlt : k < n
    · obtain ⟨b, off, rfl, hc⟩ := h.at (by omega)
      have hkl : k < l.length := by omega
      have X := (hc k hkl).below B
      have hok : (l[k]).ok wr := (h.ok _ (List.getElem_mem hkl)).below B
      have g1 : wr.cell? ⟨g, 0, none⟩ = some (.string row) := (B.cell (World.block_lt_of_cell? w _ hg)).trans hg
      have i1 : (k : Int) < (n : Int) := by omega
      have HT : Hid ((l.take (k + 1)).any (badP row) = badP row l[k]) := by
        show _ = _
        rw [List.take_succ_eq_append_getElem hkl, List.any_append, HA.out]
        simp
      have HL : Hid (badP row l[k] = true → l.any (badP row) = true) := fun hb => List.any_eq_true.2 ⟨_, List.getElem_mem hkl, hb⟩
      obtain ⟨o, ho⟩ : ∃ o : OA, o = l[k] := ⟨_, rfl⟩
      have X : OX wr b (off + k * 10) o := by rw [ho]; exact X
      rw [← ho] at hok HT HL
      clear ho hc h HA
      obtain ⟨q0, q1, q2, q3, q4, q5, q6, q7, q8, q9⟩ := X
      cases hb : badP row o with
      | true =>
        go_wp2_with (go_at_call 94; refine (pbad_any _ o hok g row g1).mono ?_; rintro e w2 ⟨rfl, C⟩; have D := B.trans (C.mono B.size); rw [hb])
        go_ret
        exact ⟨⟨k, rfl, by rw [HL.out hb]; exact decide_eq_true (by omega)⟩, D⟩
      | false =>
        go_wp2_with (go_at_call 94; refine (pbad_any _ o hok g row g1).mono ?_; rintro e w2 ⟨rfl, C⟩; have D := B.trans (C.mono B.size); rw [hb])
        go_roundw
        case rel => exact ⟨k + 1, by omega, by go_num, D, by rw [HT.out, hb]⟩
        case measure => simp [intOf]; omega
    · have i1 : (n : Int) ≤ (k : Int) := by omega
      have HL : Hid (l.any (badP row) = false) := by
        show _ = _
        rw [← HA.out, List.take_of_length_le (by omega)]
      go_wp2
      go_ret
      exact ⟨⟨-1, rfl, by rw [HL.out]; rfl⟩, B⟩
theorem pcontains_any (w : World) (ao : Option Addr) (n cap : Nat) (l : List OA) (h : OWL w 0 ao n cap l) (g : Nat) (row : ByteArray) (hg : w.cell? ⟨g, 0, none⟩ = some (.string row)) :
    Calls Try.prog 93 #[.slice ao n cap, .func (.func 94) #[] #[.pointer (some ⟨g, 0, none⟩)]] w fun e w' =>
      e = .returned (.bool (l.any (badP row))) ∧ Below w.heap.size w w' := by
  go_enter Try.func93, Try.ntmps93
  go_wp2_with fail
  refine (pindex_any _ ao n cap l h g row hg).mono ?_
  rintro e w' ⟨⟨i, rfl, hi⟩, C⟩
  have HI : Hid (decide (0 ≤ i) = l.any (badP row)) := hi
  clear hi
  go_wp2
  go_ret
  exact ⟨by rw [← HI.out] <;> rfl, C⟩
def partsB (row : ByteArray) (l : List OA) : Bool := decide (1 ≤ l.length ∧ l.length ≤ 8) && l.all fun o => decide (o.row = row) && partB o
theorem any_bad (row : ByteArray) (l : List OA) : (!(l.any (badP row))) = l.all fun o => decide (o.row = row) && partB o := by
  rw [List.not_any_eq_all_not]
  congr 1
  funext o
  unfold badP
  simp
set_option maxRecDepth 100000 in
set_option maxHeartbeats 4000000 in
theorem pparts_any (w : World) (ao : Option Addr) (n cap : Nat) (l : List OA) (h : OWL w 0 ao n cap l) (row : ByteArray) :
    Calls Try.prog 87 #[.slice ao n cap, .string row] w fun e w' => e = .returned (.bool (partsB row l)) ∧ Below w.heap.size w w' := by
  have hl : l.length = n := h.len
  have B : Below w.heap.size w (w.alloc (Obj.cells #[.string row] 9)) := (Below.refl _ w).alloc (Nat.le_refl _) _
  have h1 := h.below B
  have g1 : (w.alloc (Obj.cells #[.string row] 9)).cell? ⟨w.heap.size, 0, none⟩ = some (.string row) := cell_one_new _ _ _ 0 _ (by simp)
  by_cases c0 : n < 1
  · have i0 : (n : Int) < 1 := by omega
    have hv : Hid (partsB row l = false) := by
      show _ = _
      unfold partsB
      rw [decide_eq_false (by omega), Bool.false_and]
    clear h h1 hl
    go_enter Try.func87, Try.ntmps87
    go_wp2
    go_ret
    exact ⟨by rw [hv.out] <;> rfl, B⟩
  have i0 : decide ((n : Int) < 1) = false := by simp; omega
  by_cases c1 : 8 < n
  · have i1 : decide ((8 : Int) < (n : Int)) = true := by simp; omega
    have hv : Hid (partsB row l = false) := by
      show _ = _
      unfold partsB
      rw [decide_eq_false (by omega), Bool.false_and]
    clear h h1 hl
    go_enter Try.func87, Try.ntmps87
    go_wp2
    go_ret
    exact ⟨by rw [hv.out] <;> rfl, B⟩
  have i1 : decide ((8 : Int) < (n : Int)) = false := by simp; omega
  have hv : Hid (partsB row l = !(l.any (badP row))) := by
    show _ = _
    unfold partsB
    rw [decide_eq_true (by omega), Bool.true_and, any_bad]
  clear h hl c0 c1
  go_enter Try.func87, Try.ntmps87
  go_wp2_with (go_at_call 93; refine (pcontains_any _ ao n cap l h1 w.heap.size row g1).mono ?_; rintro e w' ⟨rfl, C⟩; have D := B.trans (C.mono B.size))
  go_ret
  exact ⟨by rw [hv.out] <;> rfl, D⟩
open Go.RowKit
def sn0 (o : OA) : SN := (o.s, o.sn)
theorem OWL.flat {w : World} {d : Nat} {ao : Option Addr} {n cap : Nat} {l : List (OD d)} (h : OWL w d ao n cap l) : OWL w 0 ao n cap (l.map (topD d)) := by
  refine ⟨by rw [← h.len]; exact List.length_map _, h.le, h.mx, h.nil, fun a ha i hi j v hv => ?_, fun y hy => ?_⟩
  · have hi' : i < l.length := Nat.lt_of_lt_of_eq hi (List.length_map _)
    refine h.cell a ha i hi' j v ?_
    have e : (l.map (topD d))[i] = topD d l[i] := List.getElem_map _
    rw [← e]
    exact hv
  · obtain ⟨x, hx, rfl⟩ := List.mem_map.1 hy
    exact (h.ok x hx).top
theorem right6 {o : OA} {l : List OA} (hk : o.kind = 6) (hn : l.length = o.sn) (hr : o.row.size ≠ 0) : rightO o.s (l.map sn0) = (partsB o.row l && isAlone o.noS) := by
  have e : (l.map sn0).all (partR o.s) = l.all fun x => decide (x.row = o.row) && partB x := by
    rw [List.all_map]
    congr 1
    funext x
    show partR o.s (sn0 x) = _
    unfold partR sn0 partB
    show (decide (1 ≤ x.kind ∧ x.kind ≤ 4) && leaf x.s x.sn && decide (x.row = o.row)) = (decide (x.row = o.row) && (decide (1 ≤ x.kind ∧ x.kind ≤ 4) && leaf x.s x.sn))
    rw [Bool.and_comm]
  unfold rightO partsB
  rw [e, List.length_map, hn, leaf6 hk hr, show o.s.kind = o.kind from rfl, hk]
  simp only [ne_eq, not_true_eq_false, decide_false, Bool.false_or]
  cases isAlone o.noS <;> simp
theorem right_not6 {o : OA} {l : List SN} (hk : o.kind ≠ 6) : rightO o.s l = leaf o.s l.length := by
  unfold rightO
  rw [show o.s.kind = o.kind from rfl, decide_eq_true hk, Bool.true_or, Bool.and_true]
theorem right_noRow {o : OA} {l : List SN} (hk : o.kind = 6) (hr : o.row.size = 0) : rightO o.s l = false := by
  unfold rightO
  rw [leaf_noRow (.inr hk) hr, Bool.false_and]
set_option maxRecDepth 100000 in
set_option maxHeartbeats 4000000 in
theorem pisright_6 (w : World) (o : OA) (l : List OA) (h : o.ok w) (hs : OWL w 0 o.so o.sn o.sc l) (hk : o.kind = 6) :
    Calls Try.prog 77 #[o.val] w fun e w' => e = .returned (.bool (rightO o.s (l.map sn0))) ∧ Below w.heap.size w w' := by
  have hl : l.length = o.sn := hs.len
  have t5 : (o.kind == 5) = false := by simp [hk]
  have t1 : (o.kind == 1) = false := by simp [hk]
  have t2 : (o.kind == 2) = false := by simp [hk]
  have t3 : (o.kind == 3) = false := by simp [hk]
  have t7 : (o.kind == 7) = false := by simp [hk]
  have t4 : (o.kind == 4) = false := by simp [hk]
  have t6 : (o.kind == 6) = true := by simp [hk]
  have B : Below w.heap.size w (w.alloc (Obj.cells o.cells.toArray 57)) := (Below.refl _ w).alloc (Nat.le_refl _) _
  have K : OC (w.alloc (Obj.cells o.cells.toArray 57)) w.heap.size o := OC.new w o
  have hs1 := hs.below B
  unfold OA.cells at B K
  by_cases hp : partsB o.row l = false
  · have hv : Hid (rightO o.s (l.map sn0) = false) := by
      show _ = _
      by_cases hr : o.row.size = 0
      · exact right_noRow hk hr
      · rw [right6 hk hl hr, hp, Bool.false_and]
    clear h hs hk K hl
    unfold OA.val
    go_enter Try.func77, Try.ntmps77
    go_wp2_with (go_at_call 87; refine (pparts_any _ _ _ _ l hs1 o.row).mono ?_; rintro e w2 ⟨rfl, C⟩; have D := B.trans (C.mono B.size); rw [hp])
    go_ret
    exact ⟨by rw [hv.out] <;> rfl, D⟩
  have hp : partsB o.row l = true := by simpa using hp
  by_cases hr : o.row.size = 0
  · have e0 : o.row.toList.isEmpty = true := by
      rw [toE]
      exact decide_eq_true hr
    have hv : Hid (rightO o.s (l.map sn0) = false) := right_noRow hk hr
    clear h hs hk hl hr
    unfold OA.val
    go_enter Try.func77, Try.ntmps77
    go_wp2_with (go_at_call 87; refine (pparts_any _ _ _ _ l hs1 o.row).mono ?_; rintro e w2 ⟨rfl, C⟩; have D : Below w.heap.size w w2 := B.trans (C.mono B.size); have K2 : OC w2 w.heap.size o := K.keep C; rw [hp]; obtain ⟨q0, q1, q2, q3, q4, q5, q6, q7, q8, q9⟩ := K2.cs; have f9 := K2.fz 9; have lt := K2.lt; clear K2 C K; have D3 : Below w.heap.size w (w2.setCell ⟨w.heap.size, 9, none⟩ (.slice none 0 0)) := D.setCell (Nat.le_refl _) _; clear D)
    go_ret
    exact ⟨by rw [hv.out] <;> rfl, D3⟩
  have e0 : o.row.toList.isEmpty = false := by
    rw [toE]
    exact decide_eq_false hr
  have hv : Hid (rightO o.s (l.map sn0) = isAlone o.noS) := by
    show _ = _
    rw [right6 hk hl hr, hp, Bool.true_and]
  clear hs hk hl hr
  unfold OA.val
  go_enter Try.func77, Try.ntmps77
  go_wp2_with (first
    | (go_at_call 87; refine (pparts_any _ _ _ _ l hs1 o.row).mono ?_; rintro e w2 ⟨rfl, C⟩; have D : Below w.heap.size w w2 := B.trans (C.mono B.size); have K2 : OC w2 w.heap.size o := K.keep C; rw [hp]; obtain ⟨q0, q1, q2, q3, q4, q5, q6, q7, q8, q9⟩ := K2.cs; have f9 := K2.fz 9; have lt := K2.lt; clear K2 C K; have D3 : Below w.heap.size w (w2.setCell ⟨w.heap.size, 9, none⟩ (.slice none 0 0)) := D.setCell (Nat.le_refl _) _; have h3 := (h.below D3).noS; clear D h)
    | (go_at_call 86; refine (palone_any _ o.noS h3).mono ?_; rintro e w4 ⟨rfl, C4⟩; have D4 := D3.trans (C4.mono D3.size); clear C4))
  go_ret
  exact ⟨by rw [hv.out] <;> rfl, D4⟩
theorem pisright_any (w : World) (o : OA) (l : List OA) (h : o.ok w) (hs : OWL w 0 o.so o.sn o.sc l) :
    Calls Try.prog 77 #[o.val] w fun e w' => e = .returned (.bool (rightO o.s (l.map sn0))) ∧ Below w.heap.size w w' := by
  by_cases hk : o.kind = 6
  · exact pisright_6 w o l h hs hk
  · rw [right_not6 hk, List.length_map, show l.length = o.sn from hs.len]
    exact pleaf_any w o h hk
def kindO (b : Bool) : Int := if b then 0 else 6
set_option maxRecDepth 100000 in
set_option maxHeartbeats 4000000 in
theorem pRight_any (w : World) (o : OA) (l : List OA) (h : o.ok w) (hs : OWL w 0 o.so o.sn o.sc l) :
    Calls Try.prog 58 #[o.val] w fun e w' => e = .returned (.int .i64 (kindO (rightO o.s (l.map sn0)))) ∧ Below w.heap.size w w' := by
  have B : Below w.heap.size w (w.alloc (Obj.cells o.cells.toArray 57)) := (Below.refl _ w).alloc (Nat.le_refl _) _
  have h1 := h.below B
  have hs1 := hs.below B
  clear h hs
  unfold OA.cells at B
  cases hb : rightO o.s (l.map sn0) with
  | true =>
    unfold OA.val
    go_enter Try.func58, Try.ntmps58
    go_wp2_with (go_at_call 77; refine (pisright_any _ o l h1 hs1).mono ?_; rintro e w2 ⟨rfl, C⟩; have D := B.trans (C.mono B.size); rw [hb])
    go_ret
    exact ⟨rfl, D⟩
  | false =>
    unfold OA.val
    go_enter Try.func58, Try.ntmps58
    go_wp2_with (go_at_call 77; refine (pisright_any _ o l h1 hs1).mono ?_; rintro e w2 ⟨rfl, C⟩; have D := B.trans (C.mono B.size); rw [hb])
    go_ret
    exact ⟨rfl, D⟩
end Go.Proofs.Ytcgphdipfekccaa

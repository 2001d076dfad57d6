/-
  OpBatch.
-/
import Derived.Test.YtbfcilfdeemnpaaLLight
import Derived.Test.YtbfcilfdeemnpaaPBytes6
namespace Go.Proofs.Ytbfcilfdeemnpaa
open Go.RowKit

/-- What a part must be. -/
def goodB (row : ByteArray) (x : OD 3) : Bool := rightO x.1.s ((x.2.map (topD 2)).map sn0) && (decide (x.1.kind ≠ 7 ∧ x.1.kind ≠ 8) && (decide (x.1.kind ≠ 6) && (decide (x.1.kind ≠ 5) && decide (x.1.row = row))))
theorem good_part {row : ByteArray} {x : OD 3} {w : World} (h : OW w 3 x) : goodB row x = (decide (x.1.row = row) && partB x.1) := by
  have hn : ((x.2.map (topD 2)).map sn0).length = x.1.sn := by
    rw [List.length_map]
    exact (List.length_map _).trans h.2.1
  unfold goodB partB
  by_cases k : 1 ≤ x.1.kind ∧ x.1.kind ≤ 4
  · rw [right_not6 (by omega), hn, decide_eq_true (show x.1.kind ≠ 7 ∧ x.1.kind ≠ 8 by omega), decide_eq_true (show x.1.kind ≠ 6 by omega), decide_eq_true (show x.1.kind ≠ 5 by omega), decide_eq_true k]
    cases leaf x.1.s x.1.sn <;> simp
  · rw [decide_eq_false k, Bool.false_and, Bool.and_false]
    by_cases k2 : x.1.kind < 1 ∨ 8 < x.1.kind
    · rw [right_not6 (by omega), leaf_noKind (o := x.1.s) k2]
      rfl
    · have : x.1.kind = 5 ∨ x.1.kind = 6 ∨ x.1.kind = 7 ∨ x.1.kind = 8 := by omega
      rcases this with k | k | k | k <;> simp [k]
def batchO (row : ByteArray) (ao : Option Addr) (n cap : Nat) : OA := ⟨6, row, noTxt, noTxt, 0, noTxt, noBs, noBs, false, ao, n, cap⟩
theorem batch_right {row : ByteArray} {ao : Option Addr} {n cap : Nat} {l : List OA} (hn : l.length = n) : rightO (batchO row ao n cap).s (l.map sn0) = (decide (1 ≤ n ∧ n ≤ 8 ∧ 1 ≤ row.size ∧ row.size ≤ 32) && l.all fun x => decide (x.row = row) && partB x) := by
  by_cases hr : row.size = 0
  · rw [right_noRow rfl hr, decide_eq_false (by omega), Bool.false_and]
  · rw [right6 rfl hn hr]
    unfold partsB
    rw [hn]
    have e : isAlone (batchO row ao n cap).noS = decide (row.size ≤ 32) := by
      unfold isAlone
      rw [show sameS (batchO row ao n cap).noS.s (aloneO (batchO row ao n cap).noS).s = true from sameS_self _]
      show (decide (row.size ≤ 32) && (true && decide ((0 : Nat) = 0))) = _
      simp
    rw [e]
    show (_ && (l.all fun x => decide (x.row = row) && partB x) && _) = _
    by_cases c1 : 1 ≤ n ∧ n ≤ 8
    · by_cases c2 : row.size ≤ 32
      · rw [decide_eq_true c1, decide_eq_true c2, decide_eq_true (by omega)]
        simp
      · rw [decide_eq_false c2, decide_eq_false (show ¬ (1 ≤ n ∧ n ≤ 8 ∧ 1 ≤ row.size ∧ row.size ≤ 32) by omega)]
        simp
    · rw [decide_eq_false c1, decide_eq_false (show ¬ (1 ≤ n ∧ n ≤ 8 ∧ 1 ≤ row.size ∧ row.size ≤ 32) by omega)]
      simp

theorem all_map' {α β : Type} (f : α → β) (p : β → Bool) (l : List α) : (l.map f).all p = l.all fun x => p (f x) := by
  rw [List.all_map]
  rfl

set_option maxRecDepth 100000 in
set_option maxHeartbeats 16000000 in
theorem opBatch_0 (w : World) (row : ByteArray) (ao : Option Addr) (n cap : Nat) (l : List (OD 3)) (L : OWL w 3 ao n cap l) (sm : ∀ y ∈ l, OSm 3 y) (j0 : row.size ≤ 100) (j1 : n ≤ 12)  (y0 : ¬ 1 ≤ n) :
    Calls Try.prog 8 #[.string row, .slice ao n cap] w fun e w' => e = .returned (.bool true) ∧ Below w.heap.size w w' := by
  have hl : l.length = n := L.len
  have i0 : decide ((100 : Int) < (row.size : Int)) = false := by simp; omega
  have i1 : decide ((12 : Int) < (n : Int)) = false := by simp; omega
  have hok9 : (batchO row ao n cap).ok w := ⟨by show (-9223372036854775808 : Int) ≤ 6 ∧ (6 : Int) ≤ 9223372036854775807; omega, by show row.size ≤ _; unfold maxLen; omega, Nat.zero_le _, Nat.zero_le _, by show 0 < _; decide, Nat.zero_le _, Sl.nothing w, Sl.nothing w, L.le, L.mx, L.nil⟩
  obtain ⟨fl, hfl⟩ : ∃ fl : List OA, fl = l.map (topD 3) := ⟨_, rfl⟩
  have LF : OWL w 0 (batchO row ao n cap).so (batchO row ao n cap).sn (batchO row ao n cap).sc fl := by rw [hfl]; exact L.flat
  have hr9 : rightO (batchO row ao n cap).s (fl.map sn0) = (decide (1 ≤ n ∧ n ≤ 8 ∧ 1 ≤ row.size ∧ row.size ≤ 32) && l.all (goodB row)) := by
    rw [batch_right (by rw [← hl, hfl]; exact List.length_map _), hfl]
    congr 1
    rw [all_map', Bool.eq_iff_iff, List.all_eq_true, List.all_eq_true]
    constructor
    · intro h x hx
      rw [good_part (L.ok x hx)]
      exact h x hx
    · intro h x hx
      have := h x hx
      rw [good_part (L.ok x hx)] at this
      exact this
  clear hfl
  have u0 : decide ((1 : Int) ≤ (n : Int)) = false := by simp; omega
  have HZ : Hid (decide (1 ≤ n ∧ n ≤ 8 ∧ 1 ≤ row.size ∧ row.size ≤ 32) = false) := decide_eq_false (by omega)
  go_enter Try.func8, Try.ntmps8
  go_wp2_with fail
  go_loopw [5, 6] (fun s i wr => ∃ k : Nat, k ≤ n ∧ i = .int .i64 k ∧ Below w.heap.size w wr ∧ s = .bool (false)) (fun _ i _ => n - (intOf i).toNat)
  case atStart => exact ⟨0, Nat.zero_le _, rfl, Below.refl _ _, rfl⟩
  case round =>
    obtain ⟨k, hk, rfl, B, rfl⟩ := hrel
    by_cases hlt : k < n
    · obtain ⟨b, off, rfl, hc⟩ := L.at (by omega)
      have hkl : k < l.length := by omega
      have X := (hc k hkl).below B
      have hok : OW wr 3 l[k] := (L.ok _ (List.getElem_mem hkl)).below B
      have hsm : OSm 3 l[k] := sm _ (List.getElem_mem hkl)
      have i6 : (k : Int) < (n : Int) := by omega
      have HT : Hid ((l.take (k + 1)).all (goodB row) = ((l.take k).all (goodB row) && goodB row l[k])) := by
        show _ = _
        rw [List.take_succ_eq_append_getElem hkl, List.all_append]
        simp
      obtain ⟨x, hx⟩ : ∃ x : OD 3, x = l[k] := ⟨_, rfl⟩
      rw [← hx] at hok HT X hsm
      clear hx hc L sm hok9 LF
      obtain ⟨o, pl⟩ := x
      have LC := light_any 3 wr (o, pl) hok hsm (by omega)
      rw [show (((3 : Nat) : Int) - 1) = 2 from rfl] at LC
      have X : OX wr b (off + k * 10) o := X
      have ho : o.ok wr := hok.1
      obtain ⟨ps, hps⟩ : ∃ ps : List OA, ps = pl.map (topD 2) := ⟨_, rfl⟩
      have hs : OWL wr 0 o.so o.sn o.sc ps := by rw [hps]; exact hok.subs.flat
      have HG : Hid (goodB row (o, pl) = (rightO o.s (ps.map sn0) && (decide (o.kind ≠ 7 ∧ o.kind ≠ 8) && (decide (o.kind ≠ 6) && (decide (o.kind ≠ 5) && decide (o.row = row)))))) := by rw [hps]; exact rfl
      clear hps
      have HX : Hid (∀ V, Below wr.heap.size wr V → OX V b (off + k * 10) o) := fun V hV => X.below hV
      obtain ⟨q0, q1, q2, q3, q4, q5, q6, q7, q8, q9⟩ := X
      cases hb : lightD 3 (o, pl) with
      | false =>
        go_wp2_with (first | (go_at_call 9; refine LC.mono ?_; rintro e w2 ⟨rfl, C⟩; have D : Below w.heap.size w w2 := B.trans (C.mono B.size); rw [hb]; clear LC) | (go_at_call 10; refine (alive6 _).mono ?_; rintro e wz ⟨rfl, Cz⟩; have Bz := D.trans (Cz.mono D.size)))
        go_ret
        exact ⟨rfl, Bz⟩
      | true =>
        go_wp2_with (go_at_call 9; refine LC.mono ?_; rintro e w2 ⟨rfl, C⟩; have D : Below w.heap.size w w2 := B.trans (C.mono B.size); rw [hb]; clear LC)
        go_roundw
        case rel => exact ⟨k + 1, by omega, by go_num, D, rfl⟩
        case measure => simp [intOf]; omega
    · have i6 : (n : Int) ≤ (k : Int) := by omega
      have hok9 := hok9.below B
      have LF := LF.below B
      rw [HZ.out, Bool.false_and] at hr9
      go_wp2_with (first | (go_at_call 27; refine (pRight_any _ (batchO row ao n cap) fl hok9 LF).mono ?_; rintro e w3 ⟨rfl, C⟩; have D3 : Below w.heap.size w w3 := B.trans (C.mono B.size); rw [hr9]; clear C) | (go_at_call 10; refine (alive6 _).mono ?_; rintro e wz ⟨rfl, Cz⟩; have Bz := D3.trans (Cz.mono D3.size)))
      go_ret
      exact ⟨rfl, Bz⟩

set_option maxRecDepth 100000 in
set_option maxHeartbeats 16000000 in
theorem opBatch_1 (w : World) (row : ByteArray) (ao : Option Addr) (n cap : Nat) (l : List (OD 3)) (L : OWL w 3 ao n cap l) (sm : ∀ y ∈ l, OSm 3 y) (j0 : row.size ≤ 100) (j1 : n ≤ 12) (y0 : 1 ≤ n) (y1 : ¬ n ≤ 8) :
    Calls Try.prog 8 #[.string row, .slice ao n cap] w fun e w' => e = .returned (.bool true) ∧ Below w.heap.size w w' := by
  have hl : l.length = n := L.len
  have i0 : decide ((100 : Int) < (row.size : Int)) = false := by simp; omega
  have i1 : decide ((12 : Int) < (n : Int)) = false := by simp; omega
  have hok9 : (batchO row ao n cap).ok w := ⟨by show (-9223372036854775808 : Int) ≤ 6 ∧ (6 : Int) ≤ 9223372036854775807; omega, by show row.size ≤ _; unfold maxLen; omega, Nat.zero_le _, Nat.zero_le _, by show 0 < _; decide, Nat.zero_le _, Sl.nothing w, Sl.nothing w, L.le, L.mx, L.nil⟩
  obtain ⟨fl, hfl⟩ : ∃ fl : List OA, fl = l.map (topD 3) := ⟨_, rfl⟩
  have LF : OWL w 0 (batchO row ao n cap).so (batchO row ao n cap).sn (batchO row ao n cap).sc fl := by rw [hfl]; exact L.flat
  have hr9 : rightO (batchO row ao n cap).s (fl.map sn0) = (decide (1 ≤ n ∧ n ≤ 8 ∧ 1 ≤ row.size ∧ row.size ≤ 32) && l.all (goodB row)) := by
    rw [batch_right (by rw [← hl, hfl]; exact List.length_map _), hfl]
    congr 1
    rw [all_map', Bool.eq_iff_iff, List.all_eq_true, List.all_eq_true]
    constructor
    · intro h x hx
      rw [good_part (L.ok x hx)]
      exact h x hx
    · intro h x hx
      have := h x hx
      rw [good_part (L.ok x hx)] at this
      exact this
  clear hfl
  have u0 : decide ((1 : Int) ≤ (n : Int)) = true := by simp; omega
  have u1 : decide ((n : Int) ≤ 8) = false := by simp; omega
  have HZ : Hid (decide (1 ≤ n ∧ n ≤ 8 ∧ 1 ≤ row.size ∧ row.size ≤ 32) = false) := decide_eq_false (by omega)
  go_enter Try.func8, Try.ntmps8
  go_wp2_with fail
  go_loopw [5, 6] (fun s i wr => ∃ k : Nat, k ≤ n ∧ i = .int .i64 k ∧ Below w.heap.size w wr ∧ s = .bool (false)) (fun _ i _ => n - (intOf i).toNat)
  case atStart => exact ⟨0, Nat.zero_le _, rfl, Below.refl _ _, rfl⟩
  case round =>
    obtain ⟨k, hk, rfl, B, rfl⟩ := hrel
    by_cases hlt : k < n
    · obtain ⟨b, off, rfl, hc⟩ := L.at (by omega)
      have hkl : k < l.length := by omega
      have X := (hc k hkl).below B
      have hok : OW wr 3 l[k] := (L.ok _ (List.getElem_mem hkl)).below B
      have hsm : OSm 3 l[k] := sm _ (List.getElem_mem hkl)
      have i6 : (k : Int) < (n : Int) := by omega
      have HT : Hid ((l.take (k + 1)).all (goodB row) = ((l.take k).all (goodB row) && goodB row l[k])) := by
        show _ = _
        rw [List.take_succ_eq_append_getElem hkl, List.all_append]
        simp
      obtain ⟨x, hx⟩ : ∃ x : OD 3, x = l[k] := ⟨_, rfl⟩
      rw [← hx] at hok HT X hsm
      clear hx hc L sm hok9 LF
      obtain ⟨o, pl⟩ := x
      have LC := light_any 3 wr (o, pl) hok hsm (by omega)
      rw [show (((3 : Nat) : Int) - 1) = 2 from rfl] at LC
      have X : OX wr b (off + k * 10) o := X
      have ho : o.ok wr := hok.1
      obtain ⟨ps, hps⟩ : ∃ ps : List OA, ps = pl.map (topD 2) := ⟨_, rfl⟩
      have hs : OWL wr 0 o.so o.sn o.sc ps := by rw [hps]; exact hok.subs.flat
      have HG : Hid (goodB row (o, pl) = (rightO o.s (ps.map sn0) && (decide (o.kind ≠ 7 ∧ o.kind ≠ 8) && (decide (o.kind ≠ 6) && (decide (o.kind ≠ 5) && decide (o.row = row)))))) := by rw [hps]; exact rfl
      clear hps
      have HX : Hid (∀ V, Below wr.heap.size wr V → OX V b (off + k * 10) o) := fun V hV => X.below hV
      obtain ⟨q0, q1, q2, q3, q4, q5, q6, q7, q8, q9⟩ := X
      cases hb : lightD 3 (o, pl) with
      | false =>
        go_wp2_with (first | (go_at_call 9; refine LC.mono ?_; rintro e w2 ⟨rfl, C⟩; have D : Below w.heap.size w w2 := B.trans (C.mono B.size); rw [hb]; clear LC) | (go_at_call 10; refine (alive6 _).mono ?_; rintro e wz ⟨rfl, Cz⟩; have Bz := D.trans (Cz.mono D.size)))
        go_ret
        exact ⟨rfl, Bz⟩
      | true =>
        go_wp2_with (go_at_call 9; refine LC.mono ?_; rintro e w2 ⟨rfl, C⟩; have D : Below w.heap.size w w2 := B.trans (C.mono B.size); rw [hb]; clear LC)
        go_roundw
        case rel => exact ⟨k + 1, by omega, by go_num, D, rfl⟩
        case measure => simp [intOf]; omega
    · have i6 : (n : Int) ≤ (k : Int) := by omega
      have hok9 := hok9.below B
      have LF := LF.below B
      rw [HZ.out, Bool.false_and] at hr9
      go_wp2_with (first | (go_at_call 27; refine (pRight_any _ (batchO row ao n cap) fl hok9 LF).mono ?_; rintro e w3 ⟨rfl, C⟩; have D3 : Below w.heap.size w w3 := B.trans (C.mono B.size); rw [hr9]; clear C) | (go_at_call 10; refine (alive6 _).mono ?_; rintro e wz ⟨rfl, Cz⟩; have Bz := D3.trans (Cz.mono D3.size)))
      go_ret
      exact ⟨rfl, Bz⟩

set_option maxRecDepth 100000 in
set_option maxHeartbeats 16000000 in
theorem opBatch_2 (w : World) (row : ByteArray) (ao : Option Addr) (n cap : Nat) (l : List (OD 3)) (L : OWL w 3 ao n cap l) (sm : ∀ y ∈ l, OSm 3 y) (j0 : row.size ≤ 100) (j1 : n ≤ 12) (y0 : 1 ≤ n) (y1 : n ≤ 8) (y2 : ¬ 1 ≤ row.size) :
    Calls Try.prog 8 #[.string row, .slice ao n cap] w fun e w' => e = .returned (.bool true) ∧ Below w.heap.size w w' := by
  have hl : l.length = n := L.len
  have i0 : decide ((100 : Int) < (row.size : Int)) = false := by simp; omega
  have i1 : decide ((12 : Int) < (n : Int)) = false := by simp; omega
  have hok9 : (batchO row ao n cap).ok w := ⟨by show (-9223372036854775808 : Int) ≤ 6 ∧ (6 : Int) ≤ 9223372036854775807; omega, by show row.size ≤ _; unfold maxLen; omega, Nat.zero_le _, Nat.zero_le _, by show 0 < _; decide, Nat.zero_le _, Sl.nothing w, Sl.nothing w, L.le, L.mx, L.nil⟩
  obtain ⟨fl, hfl⟩ : ∃ fl : List OA, fl = l.map (topD 3) := ⟨_, rfl⟩
  have LF : OWL w 0 (batchO row ao n cap).so (batchO row ao n cap).sn (batchO row ao n cap).sc fl := by rw [hfl]; exact L.flat
  have hr9 : rightO (batchO row ao n cap).s (fl.map sn0) = (decide (1 ≤ n ∧ n ≤ 8 ∧ 1 ≤ row.size ∧ row.size ≤ 32) && l.all (goodB row)) := by
    rw [batch_right (by rw [← hl, hfl]; exact List.length_map _), hfl]
    congr 1
    rw [all_map', Bool.eq_iff_iff, List.all_eq_true, List.all_eq_true]
    constructor
    · intro h x hx
      rw [good_part (L.ok x hx)]
      exact h x hx
    · intro h x hx
      have := h x hx
      rw [good_part (L.ok x hx)] at this
      exact this
  clear hfl
  have u0 : decide ((1 : Int) ≤ (n : Int)) = true := by simp; omega
  have u1 : decide ((n : Int) ≤ 8) = true := by simp; omega
  have u2 : decide ((1 : Int) ≤ (row.size : Int)) = false := by simp; omega
  have HZ : Hid (decide (1 ≤ n ∧ n ≤ 8 ∧ 1 ≤ row.size ∧ row.size ≤ 32) = false) := decide_eq_false (by omega)
  go_enter Try.func8, Try.ntmps8
  go_wp2_with fail
  go_loopw [5, 6] (fun s i wr => ∃ k : Nat, k ≤ n ∧ i = .int .i64 k ∧ Below w.heap.size w wr ∧ s = .bool (false)) (fun _ i _ => n - (intOf i).toNat)
  case atStart => exact ⟨0, Nat.zero_le _, rfl, Below.refl _ _, rfl⟩
  case round =>
    obtain ⟨k, hk, rfl, B, rfl⟩ := hrel
    by_cases hlt : k < n
    · obtain ⟨b, off, rfl, hc⟩ := L.at (by omega)
      have hkl : k < l.length := by omega
      have X := (hc k hkl).below B
      have hok : OW wr 3 l[k] := (L.ok _ (List.getElem_mem hkl)).below B
      have hsm : OSm 3 l[k] := sm _ (List.getElem_mem hkl)
      have i6 : (k : Int) < (n : Int) := by omega
      have HT : Hid ((l.take (k + 1)).all (goodB row) = ((l.take k).all (goodB row) && goodB row l[k])) := by
        show _ = _
        rw [List.take_succ_eq_append_getElem hkl, List.all_append]
        simp
      obtain ⟨x, hx⟩ : ∃ x : OD 3, x = l[k] := ⟨_, rfl⟩
      rw [← hx] at hok HT X hsm
      clear hx hc L sm hok9 LF
      obtain ⟨o, pl⟩ := x
      have LC := light_any 3 wr (o, pl) hok hsm (by omega)
      rw [show (((3 : Nat) : Int) - 1) = 2 from rfl] at LC
      have X : OX wr b (off + k * 10) o := X
      have ho : o.ok wr := hok.1
      obtain ⟨ps, hps⟩ : ∃ ps : List OA, ps = pl.map (topD 2) := ⟨_, rfl⟩
      have hs : OWL wr 0 o.so o.sn o.sc ps := by rw [hps]; exact hok.subs.flat
      have HG : Hid (goodB row (o, pl) = (rightO o.s (ps.map sn0) && (decide (o.kind ≠ 7 ∧ o.kind ≠ 8) && (decide (o.kind ≠ 6) && (decide (o.kind ≠ 5) && decide (o.row = row)))))) := by rw [hps]; exact rfl
      clear hps
      have HX : Hid (∀ V, Below wr.heap.size wr V → OX V b (off + k * 10) o) := fun V hV => X.below hV
      obtain ⟨q0, q1, q2, q3, q4, q5, q6, q7, q8, q9⟩ := X
      cases hb : lightD 3 (o, pl) with
      | false =>
        go_wp2_with (first | (go_at_call 9; refine LC.mono ?_; rintro e w2 ⟨rfl, C⟩; have D : Below w.heap.size w w2 := B.trans (C.mono B.size); rw [hb]; clear LC) | (go_at_call 10; refine (alive6 _).mono ?_; rintro e wz ⟨rfl, Cz⟩; have Bz := D.trans (Cz.mono D.size)))
        go_ret
        exact ⟨rfl, Bz⟩
      | true =>
        go_wp2_with (go_at_call 9; refine LC.mono ?_; rintro e w2 ⟨rfl, C⟩; have D : Below w.heap.size w w2 := B.trans (C.mono B.size); rw [hb]; clear LC)
        go_roundw
        case rel => exact ⟨k + 1, by omega, by go_num, D, rfl⟩
        case measure => simp [intOf]; omega
    · have i6 : (n : Int) ≤ (k : Int) := by omega
      have hok9 := hok9.below B
      have LF := LF.below B
      rw [HZ.out, Bool.false_and] at hr9
      go_wp2_with (first | (go_at_call 27; refine (pRight_any _ (batchO row ao n cap) fl hok9 LF).mono ?_; rintro e w3 ⟨rfl, C⟩; have D3 : Below w.heap.size w w3 := B.trans (C.mono B.size); rw [hr9]; clear C) | (go_at_call 10; refine (alive6 _).mono ?_; rintro e wz ⟨rfl, Cz⟩; have Bz := D3.trans (Cz.mono D3.size)))
      go_ret
      exact ⟨rfl, Bz⟩

set_option maxRecDepth 100000 in
set_option maxHeartbeats 16000000 in
theorem opBatch_3 (w : World) (row : ByteArray) (ao : Option Addr) (n cap : Nat) (l : List (OD 3)) (L : OWL w 3 ao n cap l) (sm : ∀ y ∈ l, OSm 3 y) (j0 : row.size ≤ 100) (j1 : n ≤ 12) (y0 : 1 ≤ n) (y1 : n ≤ 8) (y2 : 1 ≤ row.size) (y3 : ¬ row.size ≤ 32) :
    Calls Try.prog 8 #[.string row, .slice ao n cap] w fun e w' => e = .returned (.bool true) ∧ Below w.heap.size w w' := by
  have hl : l.length = n := L.len
  have i0 : decide ((100 : Int) < (row.size : Int)) = false := by simp; omega
  have i1 : decide ((12 : Int) < (n : Int)) = false := by simp; omega
  have hok9 : (batchO row ao n cap).ok w := ⟨by show (-9223372036854775808 : Int) ≤ 6 ∧ (6 : Int) ≤ 9223372036854775807; omega, by show row.size ≤ _; unfold maxLen; omega, Nat.zero_le _, Nat.zero_le _, by show 0 < _; decide, Nat.zero_le _, Sl.nothing w, Sl.nothing w, L.le, L.mx, L.nil⟩
  obtain ⟨fl, hfl⟩ : ∃ fl : List OA, fl = l.map (topD 3) := ⟨_, rfl⟩
  have LF : OWL w 0 (batchO row ao n cap).so (batchO row ao n cap).sn (batchO row ao n cap).sc fl := by rw [hfl]; exact L.flat
  have hr9 : rightO (batchO row ao n cap).s (fl.map sn0) = (decide (1 ≤ n ∧ n ≤ 8 ∧ 1 ≤ row.size ∧ row.size ≤ 32) && l.all (goodB row)) := by
    rw [batch_right (by rw [← hl, hfl]; exact List.length_map _), hfl]
    congr 1
    rw [all_map', Bool.eq_iff_iff, List.all_eq_true, List.all_eq_true]
    constructor
    · intro h x hx
      rw [good_part (L.ok x hx)]
      exact h x hx
    · intro h x hx
      have := h x hx
      rw [good_part (L.ok x hx)] at this
      exact this
  clear hfl
  have u0 : decide ((1 : Int) ≤ (n : Int)) = true := by simp; omega
  have u1 : decide ((n : Int) ≤ 8) = true := by simp; omega
  have u2 : decide ((1 : Int) ≤ (row.size : Int)) = true := by simp; omega
  have u3 : decide ((row.size : Int) ≤ 32) = false := by simp; omega
  have HZ : Hid (decide (1 ≤ n ∧ n ≤ 8 ∧ 1 ≤ row.size ∧ row.size ≤ 32) = false) := decide_eq_false (by omega)
  go_enter Try.func8, Try.ntmps8
  go_wp2_with fail
  go_loopw [5, 6] (fun s i wr => ∃ k : Nat, k ≤ n ∧ i = .int .i64 k ∧ Below w.heap.size w wr ∧ s = .bool (false)) (fun _ i _ => n - (intOf i).toNat)
  case atStart => exact ⟨0, Nat.zero_le _, rfl, Below.refl _ _, rfl⟩
  case round =>
    obtain ⟨k, hk, rfl, B, rfl⟩ := hrel
    by_cases hlt : k < n
    · obtain ⟨b, off, rfl, hc⟩ := L.at (by omega)
      have hkl : k < l.length := by omega
      have X := (hc k hkl).below B
      have hok : OW wr 3 l[k] := (L.ok _ (List.getElem_mem hkl)).below B
      have hsm : OSm 3 l[k] := sm _ (List.getElem_mem hkl)
      have i6 : (k : Int) < (n : Int) := by omega
      have HT : Hid ((l.take (k + 1)).all (goodB row) = ((l.take k).all (goodB row) && goodB row l[k])) := by
        show _ = _
        rw [List.take_succ_eq_append_getElem hkl, List.all_append]
        simp
      obtain ⟨x, hx⟩ : ∃ x : OD 3, x = l[k] := ⟨_, rfl⟩
      rw [← hx] at hok HT X hsm
      clear hx hc L sm hok9 LF
      obtain ⟨o, pl⟩ := x
      have LC := light_any 3 wr (o, pl) hok hsm (by omega)
      rw [show (((3 : Nat) : Int) - 1) = 2 from rfl] at LC
      have X : OX wr b (off + k * 10) o := X
      have ho : o.ok wr := hok.1
      obtain ⟨ps, hps⟩ : ∃ ps : List OA, ps = pl.map (topD 2) := ⟨_, rfl⟩
      have hs : OWL wr 0 o.so o.sn o.sc ps := by rw [hps]; exact hok.subs.flat
      have HG : Hid (goodB row (o, pl) = (rightO o.s (ps.map sn0) && (decide (o.kind ≠ 7 ∧ o.kind ≠ 8) && (decide (o.kind ≠ 6) && (decide (o.kind ≠ 5) && decide (o.row = row)))))) := by rw [hps]; exact rfl
      clear hps
      have HX : Hid (∀ V, Below wr.heap.size wr V → OX V b (off + k * 10) o) := fun V hV => X.below hV
      obtain ⟨q0, q1, q2, q3, q4, q5, q6, q7, q8, q9⟩ := X
      cases hb : lightD 3 (o, pl) with
      | false =>
        go_wp2_with (first | (go_at_call 9; refine LC.mono ?_; rintro e w2 ⟨rfl, C⟩; have D : Below w.heap.size w w2 := B.trans (C.mono B.size); rw [hb]; clear LC) | (go_at_call 10; refine (alive6 _).mono ?_; rintro e wz ⟨rfl, Cz⟩; have Bz := D.trans (Cz.mono D.size)))
        go_ret
        exact ⟨rfl, Bz⟩
      | true =>
        go_wp2_with (go_at_call 9; refine LC.mono ?_; rintro e w2 ⟨rfl, C⟩; have D : Below w.heap.size w w2 := B.trans (C.mono B.size); rw [hb]; clear LC)
        go_roundw
        case rel => exact ⟨k + 1, by omega, by go_num, D, rfl⟩
        case measure => simp [intOf]; omega
    · have i6 : (n : Int) ≤ (k : Int) := by omega
      have hok9 := hok9.below B
      have LF := LF.below B
      rw [HZ.out, Bool.false_and] at hr9
      go_wp2_with (first | (go_at_call 27; refine (pRight_any _ (batchO row ao n cap) fl hok9 LF).mono ?_; rintro e w3 ⟨rfl, C⟩; have D3 : Below w.heap.size w w3 := B.trans (C.mono B.size); rw [hr9]; clear C) | (go_at_call 10; refine (alive6 _).mono ?_; rintro e wz ⟨rfl, Cz⟩; have Bz := D3.trans (Cz.mono D3.size)))
      go_ret
      exact ⟨rfl, Bz⟩

set_option maxRecDepth 100000 in
set_option maxHeartbeats 16000000 in
theorem opBatch_4 (w : World) (row : ByteArray) (ao : Option Addr) (n cap : Nat) (l : List (OD 3)) (L : OWL w 3 ao n cap l) (sm : ∀ y ∈ l, OSm 3 y) (j0 : row.size ≤ 100) (j1 : n ≤ 12) (y0 : 1 ≤ n) (y1 : n ≤ 8) (y2 : 1 ≤ row.size) (y3 : row.size ≤ 32) :
    Calls Try.prog 8 #[.string row, .slice ao n cap] w fun e w' => e = .returned (.bool true) ∧ Below w.heap.size w w' := by
  have hl : l.length = n := L.len
  have i0 : decide ((100 : Int) < (row.size : Int)) = false := by simp; omega
  have i1 : decide ((12 : Int) < (n : Int)) = false := by simp; omega
  have hok9 : (batchO row ao n cap).ok w := ⟨by show (-9223372036854775808 : Int) ≤ 6 ∧ (6 : Int) ≤ 9223372036854775807; omega, by show row.size ≤ _; unfold maxLen; omega, Nat.zero_le _, Nat.zero_le _, by show 0 < _; decide, Nat.zero_le _, Sl.nothing w, Sl.nothing w, L.le, L.mx, L.nil⟩
  obtain ⟨fl, hfl⟩ : ∃ fl : List OA, fl = l.map (topD 3) := ⟨_, rfl⟩
  have LF : OWL w 0 (batchO row ao n cap).so (batchO row ao n cap).sn (batchO row ao n cap).sc fl := by rw [hfl]; exact L.flat
  have hr9 : rightO (batchO row ao n cap).s (fl.map sn0) = (decide (1 ≤ n ∧ n ≤ 8 ∧ 1 ≤ row.size ∧ row.size ≤ 32) && l.all (goodB row)) := by
    rw [batch_right (by rw [← hl, hfl]; exact List.length_map _), hfl]
    congr 1
    rw [all_map', Bool.eq_iff_iff, List.all_eq_true, List.all_eq_true]
    constructor
    · intro h x hx
      rw [good_part (L.ok x hx)]
      exact h x hx
    · intro h x hx
      have := h x hx
      rw [good_part (L.ok x hx)] at this
      exact this
  clear hfl
  have u0 : decide ((1 : Int) ≤ (n : Int)) = true := by simp; omega
  have u1 : decide ((n : Int) ≤ 8) = true := by simp; omega
  have u2 : decide ((1 : Int) ≤ (row.size : Int)) = true := by simp; omega
  have u3 : decide ((row.size : Int) ≤ 32) = true := by simp; omega
  have HZ : Hid (decide (1 ≤ n ∧ n ≤ 8 ∧ 1 ≤ row.size ∧ row.size ≤ 32) = true) := decide_eq_true (by omega)
  go_enter Try.func8, Try.ntmps8
  go_wp2_with fail
  go_loopw [5, 6] (fun s i wr => ∃ k : Nat, k ≤ n ∧ i = .int .i64 k ∧ Below w.heap.size w wr ∧ s = .bool ((l.take k).all (goodB row))) (fun _ i _ => n - (intOf i).toNat)
  case atStart => exact ⟨0, Nat.zero_le _, rfl, Below.refl _ _, rfl⟩
  case round =>
    obtain ⟨k, hk, rfl, B, rfl⟩ := hrel
    by_cases hlt : k < n
    · obtain ⟨b, off, rfl, hc⟩ := L.at (by omega)
      have hkl : k < l.length := by omega
      have X := (hc k hkl).below B
      have hok : OW wr 3 l[k] := (L.ok _ (List.getElem_mem hkl)).below B
      have hsm : OSm 3 l[k] := sm _ (List.getElem_mem hkl)
      have i6 : (k : Int) < (n : Int) := by omega
      have HT : Hid ((l.take (k + 1)).all (goodB row) = ((l.take k).all (goodB row) && goodB row l[k])) := by
        show _ = _
        rw [List.take_succ_eq_append_getElem hkl, List.all_append]
        simp
      obtain ⟨x, hx⟩ : ∃ x : OD 3, x = l[k] := ⟨_, rfl⟩
      rw [← hx] at hok HT X hsm
      clear hx hc L sm hok9 LF
      obtain ⟨o, pl⟩ := x
      have LC := light_any 3 wr (o, pl) hok hsm (by omega)
      rw [show (((3 : Nat) : Int) - 1) = 2 from rfl] at LC
      have X : OX wr b (off + k * 10) o := X
      have ho : o.ok wr := hok.1
      obtain ⟨ps, hps⟩ : ∃ ps : List OA, ps = pl.map (topD 2) := ⟨_, rfl⟩
      have hs : OWL wr 0 o.so o.sn o.sc ps := by rw [hps]; exact hok.subs.flat
      have HG : Hid (goodB row (o, pl) = (rightO o.s (ps.map sn0) && (decide (o.kind ≠ 7 ∧ o.kind ≠ 8) && (decide (o.kind ≠ 6) && (decide (o.kind ≠ 5) && decide (o.row = row)))))) := by rw [hps]; exact rfl
      clear hps
      have HX : Hid (∀ V, Below wr.heap.size wr V → OX V b (off + k * 10) o) := fun V hV => X.below hV
      obtain ⟨q0, q1, q2, q3, q4, q5, q6, q7, q8, q9⟩ := X
      cases hb : lightD 3 (o, pl) with
      | false =>
        go_wp2_with (first | (go_at_call 9; refine LC.mono ?_; rintro e w2 ⟨rfl, C⟩; have D : Below w.heap.size w w2 := B.trans (C.mono B.size); rw [hb]; clear LC) | (go_at_call 10; refine (alive6 _).mono ?_; rintro e wz ⟨rfl, Cz⟩; have Bz := D.trans (Cz.mono D.size)))
        go_ret
        exact ⟨rfl, Bz⟩
      | true =>
        cases ha : (l.take k).all (goodB row) with
        | false =>
          go_wp2_with (go_at_call 9; refine LC.mono ?_; rintro e w2 ⟨rfl, C⟩; have D : Below w.heap.size w w2 := B.trans (C.mono B.size); rw [hb]; clear LC; clear C)
          go_roundw
          case rel => exact ⟨k + 1, by omega, by go_num, D, by rw [HT.out, ha, Bool.false_and]⟩
          case measure => simp [intOf]; omega
        | true =>
          cases hr : rightO o.s (ps.map sn0) with
          | false =>
            go_wp2_with (first | (go_at_call 9; refine LC.mono ?_; rintro e w2 ⟨rfl, C⟩; have D : Below w.heap.size w w2 := B.trans (C.mono B.size); rw [hb]; clear LC; clear q0 q1 q2 q3 q4 q5 q6 q7 q8 q9; have X2 := HX.out w2 C; obtain ⟨q0, q1, q2, q3, q4, q5, q6, q7, q8, q9⟩ := X2; have ho2 := ho.below C; have hs2 := hs.below C; have E2 : Below wr.heap.size wr w2 := C; clear C ho hs) | (go_at_call 27; refine (pRight_any _ o ps ho2 hs2).mono ?_; rintro e w3 ⟨rfl, C⟩; have D3 : Below w.heap.size w w3 := D.trans (C.mono D.size); rw [hr]; clear q0 q1 q2 q3 q4 q5 q6 q7 q8 q9; have E3 := E2.trans (C.mono E2.size); have X3 := HX.out w3 E3; obtain ⟨q0, q1, q2, q3, q4, q5, q6, q7, q8, q9⟩ := X3; clear C ho2 hs2 E2))
            go_roundw
            case rel => exact ⟨k + 1, by omega, by go_num, D3, by rw [HT.out, ha, HG.out, hr] <;> rfl⟩
            case measure => simp [intOf]; omega
          | true =>
            cases hw : decide (o.kind ≠ 7 ∧ o.kind ≠ 8) with
            | false =>
              go_wp2_with (first | (go_at_call 9; refine LC.mono ?_; rintro e w2 ⟨rfl, C⟩; have D : Below w.heap.size w w2 := B.trans (C.mono B.size); rw [hb]; clear LC; clear q0 q1 q2 q3 q4 q5 q6 q7 q8 q9; have X2 := HX.out w2 C; obtain ⟨q0, q1, q2, q3, q4, q5, q6, q7, q8, q9⟩ := X2; have ho2 := ho.below C; have hs2 := hs.below C; have E2 : Below wr.heap.size wr w2 := C; clear C ho hs) | (go_at_call 27; refine (pRight_any _ o ps ho2 hs2).mono ?_; rintro e w3 ⟨rfl, C⟩; have D3 : Below w.heap.size w w3 := D.trans (C.mono D.size); rw [hr]; clear q0 q1 q2 q3 q4 q5 q6 q7 q8 q9; have E3 := E2.trans (C.mono E2.size); have X3 := HX.out w3 E3; obtain ⟨q0, q1, q2, q3, q4, q5, q6, q7, q8, q9⟩ := X3; clear C ho2 hs2 E2) | (go_at_call 28; refine (pwrites_any _ o).mono ?_; rintro e w4 ⟨rfl, C⟩; have D4 : Below w.heap.size w w4 := D3.trans (C.mono D3.size); rw [hw]; clear q0 q1 q2 q3 q4 q5 q6 q7 q8 q9; have E4 := E3.trans (C.mono E3.size); have X4 := HX.out w4 E4; obtain ⟨q0, q1, q2, q3, q4, q5, q6, q7, q8, q9⟩ := X4; clear C E3))
              go_roundw
              case rel => exact ⟨k + 1, by omega, by go_num, D4, by rw [HT.out, ha, HG.out, hr, hw] <;> rfl⟩
              case measure => simp [intOf]; omega
            | true =>
              by_cases k6 : o.kind = 6
              · have t6 : (o.kind != 6) = false := by simp [k6]
                have f6 : decide (o.kind ≠ 6) = false := by simp [k6]
                clear k6
                go_wp2_with (first | (go_at_call 9; refine LC.mono ?_; rintro e w2 ⟨rfl, C⟩; have D : Below w.heap.size w w2 := B.trans (C.mono B.size); rw [hb]; clear LC; clear q0 q1 q2 q3 q4 q5 q6 q7 q8 q9; have X2 := HX.out w2 C; obtain ⟨q0, q1, q2, q3, q4, q5, q6, q7, q8, q9⟩ := X2; have ho2 := ho.below C; have hs2 := hs.below C; have E2 : Below wr.heap.size wr w2 := C; clear C ho hs) | (go_at_call 27; refine (pRight_any _ o ps ho2 hs2).mono ?_; rintro e w3 ⟨rfl, C⟩; have D3 : Below w.heap.size w w3 := D.trans (C.mono D.size); rw [hr]; clear q0 q1 q2 q3 q4 q5 q6 q7 q8 q9; have E3 := E2.trans (C.mono E2.size); have X3 := HX.out w3 E3; obtain ⟨q0, q1, q2, q3, q4, q5, q6, q7, q8, q9⟩ := X3; clear C ho2 hs2 E2) | (go_at_call 28; refine (pwrites_any _ o).mono ?_; rintro e w4 ⟨rfl, C⟩; have D4 : Below w.heap.size w w4 := D3.trans (C.mono D3.size); rw [hw]; clear q0 q1 q2 q3 q4 q5 q6 q7 q8 q9; have E4 := E3.trans (C.mono E3.size); have X4 := HX.out w4 E4; obtain ⟨q0, q1, q2, q3, q4, q5, q6, q7, q8, q9⟩ := X4; clear C E3))
                go_roundw
                case rel => exact ⟨k + 1, by omega, by go_num, D4, by rw [HT.out, ha, HG.out, hr, hw, f6] <;> rfl⟩
                case measure => simp [intOf]; omega
              have t6 : (o.kind != 6) = true := by simp [k6]
              have f6 : decide (o.kind ≠ 6) = true := by simp [k6]
              by_cases k5 : o.kind = 5
              · have t5 : (o.kind != 5) = false := by simp [k5]
                have f5 : decide (o.kind ≠ 5) = false := by simp [k5]
                clear k6 k5
                go_wp2_with (first | (go_at_call 9; refine LC.mono ?_; rintro e w2 ⟨rfl, C⟩; have D : Below w.heap.size w w2 := B.trans (C.mono B.size); rw [hb]; clear LC; clear q0 q1 q2 q3 q4 q5 q6 q7 q8 q9; have X2 := HX.out w2 C; obtain ⟨q0, q1, q2, q3, q4, q5, q6, q7, q8, q9⟩ := X2; have ho2 := ho.below C; have hs2 := hs.below C; have E2 : Below wr.heap.size wr w2 := C; clear C ho hs) | (go_at_call 27; refine (pRight_any _ o ps ho2 hs2).mono ?_; rintro e w3 ⟨rfl, C⟩; have D3 : Below w.heap.size w w3 := D.trans (C.mono D.size); rw [hr]; clear q0 q1 q2 q3 q4 q5 q6 q7 q8 q9; have E3 := E2.trans (C.mono E2.size); have X3 := HX.out w3 E3; obtain ⟨q0, q1, q2, q3, q4, q5, q6, q7, q8, q9⟩ := X3; clear C ho2 hs2 E2) | (go_at_call 28; refine (pwrites_any _ o).mono ?_; rintro e w4 ⟨rfl, C⟩; have D4 : Below w.heap.size w w4 := D3.trans (C.mono D3.size); rw [hw]; clear q0 q1 q2 q3 q4 q5 q6 q7 q8 q9; have E4 := E3.trans (C.mono E3.size); have X4 := HX.out w4 E4; obtain ⟨q0, q1, q2, q3, q4, q5, q6, q7, q8, q9⟩ := X4; clear C E3))
                go_roundw
                case rel => exact ⟨k + 1, by omega, by go_num, D4, by rw [HT.out, ha, HG.out, hr, hw, f6, f5] <;> rfl⟩
                case measure => simp [intOf]; omega
              have t5 : (o.kind != 5) = true := by simp [k5]
              have f5 : decide (o.kind ≠ 5) = true := by simp [k5]
              clear k6 k5
              by_cases kr : o.row = row
              · have tr : (o.row.toList == row.toList) = true := by rw [kr]; exact beq_self_eq_true _
                have fr : decide (o.row = row) = true := decide_eq_true kr
                clear kr
                go_wp2_with (first | (go_at_call 9; refine LC.mono ?_; rintro e w2 ⟨rfl, C⟩; have D : Below w.heap.size w w2 := B.trans (C.mono B.size); rw [hb]; clear LC; clear q0 q1 q2 q3 q4 q5 q6 q7 q8 q9; have X2 := HX.out w2 C; obtain ⟨q0, q1, q2, q3, q4, q5, q6, q7, q8, q9⟩ := X2; have ho2 := ho.below C; have hs2 := hs.below C; have E2 : Below wr.heap.size wr w2 := C; clear C ho hs) | (go_at_call 27; refine (pRight_any _ o ps ho2 hs2).mono ?_; rintro e w3 ⟨rfl, C⟩; have D3 : Below w.heap.size w w3 := D.trans (C.mono D.size); rw [hr]; clear q0 q1 q2 q3 q4 q5 q6 q7 q8 q9; have E3 := E2.trans (C.mono E2.size); have X3 := HX.out w3 E3; obtain ⟨q0, q1, q2, q3, q4, q5, q6, q7, q8, q9⟩ := X3; clear C ho2 hs2 E2) | (go_at_call 28; refine (pwrites_any _ o).mono ?_; rintro e w4 ⟨rfl, C⟩; have D4 : Below w.heap.size w w4 := D3.trans (C.mono D3.size); rw [hw]; clear q0 q1 q2 q3 q4 q5 q6 q7 q8 q9; have E4 := E3.trans (C.mono E3.size); have X4 := HX.out w4 E4; obtain ⟨q0, q1, q2, q3, q4, q5, q6, q7, q8, q9⟩ := X4; clear C E3))
                go_roundw
                case rel => exact ⟨k + 1, by omega, by go_num, D4, by rw [HT.out, ha, HG.out, hr, hw, f6, f5, fr] <;> rfl⟩
                case measure => simp [intOf]; omega
              · have tr : (o.row.toList == row.toList) = false := toL_ne kr
                have fr : decide (o.row = row) = false := decide_eq_false kr
                clear kr
                go_wp2_with (first | (go_at_call 9; refine LC.mono ?_; rintro e w2 ⟨rfl, C⟩; have D : Below w.heap.size w w2 := B.trans (C.mono B.size); rw [hb]; clear LC; clear q0 q1 q2 q3 q4 q5 q6 q7 q8 q9; have X2 := HX.out w2 C; obtain ⟨q0, q1, q2, q3, q4, q5, q6, q7, q8, q9⟩ := X2; have ho2 := ho.below C; have hs2 := hs.below C; have E2 : Below wr.heap.size wr w2 := C; clear C ho hs) | (go_at_call 27; refine (pRight_any _ o ps ho2 hs2).mono ?_; rintro e w3 ⟨rfl, C⟩; have D3 : Below w.heap.size w w3 := D.trans (C.mono D.size); rw [hr]; clear q0 q1 q2 q3 q4 q5 q6 q7 q8 q9; have E3 := E2.trans (C.mono E2.size); have X3 := HX.out w3 E3; obtain ⟨q0, q1, q2, q3, q4, q5, q6, q7, q8, q9⟩ := X3; clear C ho2 hs2 E2) | (go_at_call 28; refine (pwrites_any _ o).mono ?_; rintro e w4 ⟨rfl, C⟩; have D4 : Below w.heap.size w w4 := D3.trans (C.mono D3.size); rw [hw]; clear q0 q1 q2 q3 q4 q5 q6 q7 q8 q9; have E4 := E3.trans (C.mono E3.size); have X4 := HX.out w4 E4; obtain ⟨q0, q1, q2, q3, q4, q5, q6, q7, q8, q9⟩ := X4; clear C E3))
                go_roundw
                case rel => exact ⟨k + 1, by omega, by go_num, D4, by rw [HT.out, ha, HG.out, hr, hw, f6, f5, fr] <;> rfl⟩
                case measure => simp [intOf]; omega
    · have i6 : (n : Int) ≤ (k : Int) := by omega
      have hok9 := hok9.below B
      have LF := LF.below B
      rw [List.take_of_length_le (by omega)]
      rw [HZ.out, Bool.true_and] at hr9
      cases ha : l.all (goodB row) with
      | true =>
        rw [ha] at hr9
        go_wp2_with (first | (go_at_call 27; refine (pRight_any _ (batchO row ao n cap) fl hok9 LF).mono ?_; rintro e w3 ⟨rfl, C⟩; have D3 : Below w.heap.size w w3 := B.trans (C.mono B.size); rw [hr9]; clear C) | (go_at_call 10; refine (alive6 _).mono ?_; rintro e wz ⟨rfl, Cz⟩; have Bz := D3.trans (Cz.mono D3.size)))
        go_ret
        exact ⟨rfl, Bz⟩
      | false =>
        rw [ha] at hr9
        go_wp2_with (first | (go_at_call 27; refine (pRight_any _ (batchO row ao n cap) fl hok9 LF).mono ?_; rintro e w3 ⟨rfl, C⟩; have D3 : Below w.heap.size w w3 := B.trans (C.mono B.size); rw [hr9]; clear C) | (go_at_call 10; refine (alive6 _).mono ?_; rintro e wz ⟨rfl, Cz⟩; have Bz := D3.trans (Cz.mono D3.size)))
        go_ret
        exact ⟨rfl, Bz⟩

set_option maxRecDepth 100000 in
set_option maxHeartbeats 4000000 in
theorem opBatch_any (w : World) (row : ByteArray) (ao : Option Addr) (n cap : Nat) (l : List (OD 3)) (_ : row.size ≤ maxLen) (L : OWL w 3 ao n cap l) (sm : ∀ y ∈ l, OSm 3 y) :
    Calls Try.prog 8 #[.string row, .slice ao n cap] w fun e w' => e = .returned (.bool true) ∧ Below w.heap.size w w' := by
  have R : Below w.heap.size w w := Below.refl _ _
  by_cases c0 : 100 < row.size
  · have i0 : decide ((100 : Int) < (row.size : Int)) = true := by simp; omega
    clear L sm
    go_enter Try.func8, Try.ntmps8
    go_wp2_with (go_at_call 10; refine (alive6 _).mono ?_; rintro e wz ⟨rfl, Cz⟩; have Bz := R.trans (Cz.mono R.size))
    go_ret
    exact ⟨rfl, Bz⟩
  by_cases c1 : 12 < n
  · have i0 : decide ((100 : Int) < (row.size : Int)) = false := by simp; omega
    have i1 : decide ((12 : Int) < (n : Int)) = true := by simp; omega
    clear L sm
    go_enter Try.func8, Try.ntmps8
    go_wp2_with (go_at_call 10; refine (alive6 _).mono ?_; rintro e wz ⟨rfl, Cz⟩; have Bz := R.trans (Cz.mono R.size))
    go_ret
    exact ⟨rfl, Bz⟩
  have j0 : row.size ≤ 100 := by omega
  have j1 : n ≤ 12 := by omega
  by_cases y0 : 1 ≤ n
  · by_cases y1 : n ≤ 8
    · by_cases y2 : 1 ≤ row.size
      · by_cases y3 : row.size ≤ 32
        · exact opBatch_4 w row ao n cap l L sm j0 j1 y0 y1 y2 y3
        · exact opBatch_3 w row ao n cap l L sm j0 j1 y0 y1 y2 y3
      · exact opBatch_2 w row ao n cap l L sm j0 j1 y0 y1 y2
    · exact opBatch_1 w row ao n cap l L sm j0 j1 y0 y1
  · exact opBatch_0 w row ao n cap l L sm j0 j1 y0
end Go.Proofs.Ytbfcilfdeemnpaa

/-
  The closure of Lay: items are gathered.
-/
import Derived.Test.YtkmkmekhodcioaaGreatDoorChunkLaysZ14
import Derived.Test.YtkmkmekhodcioaaGreatDoorChunkLaysZ8
import Derived.Test.YtkmkmekhodcioaaGreatDoorChunkLaysZ2
namespace Go.Proofs.YtkmkmekhodcioaaGreatDoor
open Go.RowKit

def GatPost (w0 : World) (A R base : Nat) (ps qs : List IP) (r : Bool) (e : Ending) (w' : World) : Prop := e = .returned (.tuple #[]) ∧ ∃ v', LyI w0 A R base w' v' (ps ++ qs) (r && joins (ps.map IP.it) (qs.map IP.it))
theorem joins_last {a l : List It} {x y : It} (ha : a.getLast? = some x) (hl : l.head? = some y) : joins a l = decide (cmpL x.k y.k < 0) := by
  cases l with
  | nil => simp at hl
  | cons z l =>
    obtain rfl : z = y := by simpa using hl
    simp [joins, ha]

set_option maxHeartbeats 8000000 in
set_option maxRecDepth 100000 in
theorem gather_any (w0 W : World) (A R base : Nat) (v : Value) (ps qs : List IP) (r : Bool) (bo : Option Addr) (m c : Nat) (h : LyI w0 A R base W v ps r) (hx : IL W bo m c qs) (hm : 0 < m) (hn : ps.length + m ≤ 1000000) (hfar : ∀ q ∈ qs, ∀ x, q.blk x → x ≠ A ∧ x ≠ R ∧ v.ownBlock ≠ some x) (hrow : ∀ a, bo = some a → a.block ≠ R) :
    Calls Tryz.prog 16 #[.slice bo m c, .pointer (some ⟨A, 0, none⟩), .pointer (some ⟨R, 0, none⟩)] W (GatPost w0 A R base ps qs r) := by
  have hl1 := Nat.le_of_eq hx.len
  have hl2 := Nat.le_of_eq hx.len.symm
  obtain ⟨b, off, rfl, hcx⟩ := hx.at hm
  have hbR : b ≠ R := hrow _ rfl
  have hmi : (0 : Int) < (m : Int) := by omega
  obtain ⟨ao, ac, rfl, hIL⟩ := h.row
  have ca : W.cell? ⟨A, 0, none⟩ = some (.slice ao ps.length ac) := cell_of_row _ _ 0 _ _ _ h.ba
  obtain ⟨d1, d2⟩ := hcx 0 (by omega)
  rw [Nat.zero_mul, Nat.add_zero] at d1 d2
  have SQ := hx.sl qs[0] (List.getElem_mem (by omega))
  have HQ0 : Hid ((qs.map IP.it).head? = some qs[0].it) := by
    show _ = _
    cases qs with
    | nil => simp at hl2; omega
    | cons a l => rfl
  obtain ⟨q, hq⟩ : ∃ q, q = qs[0] := ⟨_, rfl⟩
  rw [← hq] at d1 d2 SQ HQ0
  unfold Part.val at d1 d2
  clear hq hcx hrow
  by_cases h0 : ps.length = 0
  · have HJ : Hid ((r && joins (ps.map IP.it) (qs.map IP.it)) = r) := by
      show _ = _
      obtain rfl : ps = [] := List.eq_nil_of_length_eq_zero h0
      simp [joins]
    rw [h0] at ca
    have HH0 : Hid (ps.length = 0) := h0
    clear h0
    go_enter Tryz.func16, Tryz.ntmps16
    go_wp2_with fail
    have HS : Hid (∀ V, Below W.heap.size W V → V.cell? ⟨A, 0, none⟩ = some (.slice ao 0 ac)) := fun V hV => (hV.cell (World.block_lt_of_cell? _ _ ca)).trans ca
    have E0 : Below W.heap.size W W.drew := (Below.refl _ _).drew
    refine wp_region_noPanic ?_
    refine wp_region_held_drew (S := fun V => V.cell? ⟨A, 0, none⟩ = some (.slice ao 0 ac)) (by kernel_rfl) (HS.out _ E0) (fun H0 => ?_)
    obtain ⟨v0, hv0⟩ : ∃ v, v = W.drew := ⟨_, rfl⟩
    rw [← hv0] at H0 E0 ⊢
    clear hv0
    refine hr_take_w 0 (some 4) (.slice ao 0 ac) rfl rfl (by kernel_rfl) (by kernel_rfl) (by kernel_rfl) rfl (fun W hW => by go_simp) H0 ?_
    simp only [Act.put, List.setIfInBounds_toArray, List.set_cons_zero, List.set_cons_succ]
    refine hr_take_w 1 (some 5) (.int .i64 0) rfl rfl (by kernel_rfl) (by kernel_rfl) (by kernel_rfl) rfl (fun W hW => by go_simp) H0 ?_
    simp only [Act.put, List.setIfInBounds_toArray, List.set_cons_zero, List.set_cons_succ]
    refine hr_take_w 2 (some 6) (.bool false) rfl rfl (by kernel_rfl) (by kernel_rfl) (by kernel_rfl) rfl (fun W hW => by go_simp) H0 ?_
    simp only [Act.put, List.setIfInBounds_toArray, List.set_cons_zero, List.set_cons_succ]
    refine hr_take_w 3 (some 7) (.bool false) rfl rfl (by kernel_rfl) (by kernel_rfl) (by kernel_rfl) rfl (fun W hW => by go_simp) H0 ?_
    simp only [Act.put, List.setIfInBounds_toArray, List.set_cons_zero, List.set_cons_succ]
    refine hr_none 4 (some 8) rfl rfl (by kernel_rfl) (by kernel_rfl) (by kernel_rfl) rfl H0 ?_
    simp only [Act.put, List.setIfInBounds_toArray, List.set_cons_zero, List.set_cons_succ]
    refine hr_none 5 (some 9) rfl rfl (by kernel_rfl) (by kernel_rfl) (by kernel_rfl) rfl H0 ?_
    simp only [Act.put, List.setIfInBounds_toArray, List.set_cons_zero, List.set_cons_succ]
    refine hr_none 6 (some 10) rfl rfl (by kernel_rfl) (by kernel_rfl) (by kernel_rfl) rfl H0 ?_
    simp only [Act.put, List.setIfInBounds_toArray, List.set_cons_zero, List.set_cons_succ]
    refine hr_none 7 (some 11) rfl rfl (by kernel_rfl) (by kernel_rfl) (by kernel_rfl) rfl H0 ?_
    simp only [Act.put, List.setIfInBounds_toArray, List.set_cons_zero, List.set_cons_succ]
    refine hr_none 8 (some 12) rfl rfl (by kernel_rfl) (by kernel_rfl) (by kernel_rfl) rfl H0 ?_
    simp only [Act.put, List.setIfInBounds_toArray, List.set_cons_zero, List.set_cons_succ]
    refine hr_none 9 (some 13) rfl rfl (by kernel_rfl) (by kernel_rfl) (by kernel_rfl) rfl H0 ?_
    simp only [Act.put, List.setIfInBounds_toArray, List.set_cons_zero, List.set_cons_succ]
    refine hr_none 10 (some 14) rfl rfl (by kernel_rfl) (by kernel_rfl) (by kernel_rfl) rfl H0 ?_
    simp only [Act.put, List.setIfInBounds_toArray, List.set_cons_zero, List.set_cons_succ]
    refine hr_none 11 (some 15) rfl rfl (by kernel_rfl) (by kernel_rfl) (by kernel_rfl) rfl H0 ?_
    simp only [Act.put, List.setIfInBounds_toArray, List.set_cons_zero, List.set_cons_succ]
    refine hr_none 12 (some 16) rfl rfl (by kernel_rfl) (by kernel_rfl) (by kernel_rfl) rfl H0 ?_
    simp only [Act.put, List.setIfInBounds_toArray, List.set_cons_zero, List.set_cons_succ]
    refine hr_none 13 (some 17) rfl rfl (by kernel_rfl) (by kernel_rfl) (by kernel_rfl) rfl H0 ?_
    simp only [Act.put, List.setIfInBounds_toArray, List.set_cons_zero, List.set_cons_succ]
    refine hr_none 14 (some 18) rfl rfl (by kernel_rfl) (by kernel_rfl) (by kernel_rfl) rfl H0 ?_
    simp only [Act.put, List.setIfInBounds_toArray, List.set_cons_zero, List.set_cons_succ]
    refine hr_take_w 15 (some 19) (.bool false) rfl rfl (by kernel_rfl) (by kernel_rfl) (by kernel_rfl) rfl (fun W hW => by go_simp) H0 ?_
    simp only [Act.put, List.setIfInBounds_toArray, List.set_cons_zero, List.set_cons_succ]
    refine wpAnyH_done (by kernel_rfl) ?_ _
    refine NoPanic.normal ?_
    have KK := h.below E0
    obtain ⟨v', W1, ha, ⟨u1, cu⟩, fz, K1⟩ := KK.more (hx.below E0) hm hn hfar 30
    have ca2 : (v0).cell? ⟨A, 0, none⟩ = some (.slice ao 0 ac) := by have := cell_of_row _ _ 0 _ _ _ KK.ba; rw [HH0.out] at this; exact this
    obtain ⟨ao1, ac1, rfl⟩ := row_is K1.own
    rw [HH0.out] at ha
    obtain ⟨nn, hnn⟩ : ∃ n, n = (ps ++ qs).length := ⟨_, rfl⟩
    rw [← hnn] at ha K1
    have HK1 : Hid (LyI w0 A R base (W1.setCell ⟨A, 0, none⟩ (.slice ao1 nn ac1)) (.slice ao1 nn ac1) (ps ++ qs) (r && joins (ps.map IP.it) (qs.map IP.it))) := by show LyI _ _ _ _ _ _ _ _; rw [HJ.out]; exact K1
    have HRUN : Hid ((Builtin.append_ #[30, 30] 30 #[.slice ao 0 ac, .slice (some ⟨b, off, none⟩) m c]).run Tryz.prog (v0) = .ok (.slice ao1 nn ac1) W1) := ha
    clear K1 KK ha hnn hx hIL
    go_wp2_with (at_builtin; refine wpList_appR rfl _ _ _ _ rfl _ _ _ rfl rfl HRUN.out ?_)
    go_end0
    exact ⟨rfl, _, HK1.out⟩
  · obtain ⟨g, go, rfl, hcp⟩ := hIL.at (by omega)
    obtain ⟨j, hj⟩ : ∃ j, ps.length = j + 1 := ⟨ps.length - 1, by omega⟩
    obtain ⟨c1, c2⟩ := hcp j (by omega)
    have SP := hIL.sl ps[j] (List.getElem_mem (by omega))
    have HP0 : Hid ((ps.map IP.it).getLast? = some (ps[j]'(by omega)).it) := by
      show _ = _
      have hjj : ps.length - 1 = j := by omega
      rw [List.getLast?_eq_getElem?, List.length_map, hjj, List.getElem?_map, List.getElem?_eq_getElem (by omega)]
      rfl
    obtain ⟨p, hp⟩ : ∃ p, p = ps[j]'(by omega) := ⟨_, rfl⟩
    rw [← hp] at c1 c2 SP HP0
    unfold Part.val at c1 c2
    obtain ⟨k, hk⟩ : ∃ k, k = ps.length := ⟨_, rfl⟩
    have hk1 : (0 : Int) < (k : Int) := by omega
    have hji : (j : Int) < (k : Int) := by omega
    have hj0 : (0 : Int) ≤ (j : Int) := by omega
    have HK0 : Hid (k = ps.length) := hk
    have HWR : Hid (IntKind.i64.wrap ((k : Int) - 1) = (j : Int)) := by
      show _ = _
      rw [show (k : Int) - 1 = (j : Int) by omega]
      exact wrap_nat (by omega)
    rw [← hk] at ca
    have CB : ∀ V, Below W.heap.size W V → Calls Tryz.prog 17 #[.agg #[p.k.val, p.v.val], .agg #[q.k.val, q.v.val]] V fun e w' => e = .returned (.bool (decide (cmpL p.k.xs q.k.xs < 0))) ∧ Below V.heap.size V w' := fun V hV => ckbelow_any V p q (SP.below hV) (SQ.below hV)
    unfold Part.val at CB
    have HJN : Hid (joins (ps.map IP.it) (qs.map IP.it) = decide (cmpL p.k.xs q.k.xs < 0)) := joins_last HP0.out HQ0.out
    clear hp hcp hk h0 hj SP SQ
    by_cases hc : cmpL p.k.xs q.k.xs < 0
    · rw [decide_eq_true hc] at CB
      have HJ : Hid ((r && joins (ps.map IP.it) (qs.map IP.it)) = r) := by
        show _ = _
        rw [HJN.out, decide_eq_true hc, Bool.and_true]
      clear hc
      go_enter Tryz.func16, Tryz.ntmps16
      go_wp2_with fail
      have HS : Hid (∀ V, Below W.heap.size W V → V.cell? ⟨A, 0, none⟩ = some (.slice (some ⟨g, go, none⟩) k ac) ∧ V.cell? ⟨g, go + j * 2, none⟩ = some (.slice p.k.ao p.k.n p.k.cap) ∧ V.cell? ⟨g, go + j * 2 + 1, none⟩ = some (.slice p.v.ao p.v.n p.v.cap) ∧ V.cell? ⟨b, off, none⟩ = some (.slice q.k.ao q.k.n q.k.cap) ∧ V.cell? ⟨b, off + 1, none⟩ = some (.slice q.v.ao q.v.n q.v.cap)) := fun V hV => ⟨(hV.cell (World.block_lt_of_cell? _ _ ca)).trans ca, (hV.cell (World.block_lt_of_cell? _ _ c1)).trans c1, (hV.cell (World.block_lt_of_cell? _ _ c2)).trans c2, (hV.cell (World.block_lt_of_cell? _ _ d1)).trans d1, (hV.cell (World.block_lt_of_cell? _ _ d2)).trans d2⟩
      have E0 : Below W.heap.size W W.drew := (Below.refl _ _).drew
      refine wp_region_noPanic ?_
      refine wp_region_held_drew (S := fun V => V.cell? ⟨A, 0, none⟩ = some (.slice (some ⟨g, go, none⟩) k ac) ∧ V.cell? ⟨g, go + j * 2, none⟩ = some (.slice p.k.ao p.k.n p.k.cap) ∧ V.cell? ⟨g, go + j * 2 + 1, none⟩ = some (.slice p.v.ao p.v.n p.v.cap) ∧ V.cell? ⟨b, off, none⟩ = some (.slice q.k.ao q.k.n q.k.cap) ∧ V.cell? ⟨b, off + 1, none⟩ = some (.slice q.v.ao q.v.n q.v.cap)) (by kernel_rfl) (HS.out _ E0) (fun H0 => ?_)
      obtain ⟨v0, hv0⟩ : ∃ v, v = W.drew := ⟨_, rfl⟩
      rw [← hv0] at H0 E0 ⊢
      clear hv0
      refine hr_take_w 0 (some 4) (.slice (some ⟨g, go, none⟩) k ac) rfl rfl (by kernel_rfl) (by kernel_rfl) (by kernel_rfl) rfl (fun W hW => by obtain ⟨h0, h1, h2, h3, h4⟩ := hW; go_simp) H0 ?_
      simp only [Act.put, List.setIfInBounds_toArray, List.set_cons_zero, List.set_cons_succ]
      refine hr_take_w 1 (some 5) (.int .i64 k) rfl rfl (by kernel_rfl) (by kernel_rfl) (by kernel_rfl) rfl (fun W hW => by obtain ⟨h0, h1, h2, h3, h4⟩ := hW; go_simp) H0 ?_
      simp only [Act.put, List.setIfInBounds_toArray, List.set_cons_zero, List.set_cons_succ]
      refine hr_take_w 2 (some 6) (.bool true) rfl rfl (by kernel_rfl) (by kernel_rfl) (by kernel_rfl) rfl (fun W hW => by obtain ⟨h0, h1, h2, h3, h4⟩ := hW; go_simp; omega) H0 ?_
      simp only [Act.put, List.setIfInBounds_toArray, List.set_cons_zero, List.set_cons_succ]
      refine hr_take_w 3 (some 7) (.bool true) rfl rfl (by kernel_rfl) (by kernel_rfl) (by kernel_rfl) rfl (fun W hW => by obtain ⟨h0, h1, h2, h3, h4⟩ := hW; go_simp) H0 ?_
      simp only [Act.put, List.setIfInBounds_toArray, List.set_cons_zero, List.set_cons_succ]
      refine hr_take_w 4 (some 8) (.slice (some ⟨g, go, none⟩) k ac) rfl rfl (by kernel_rfl) (by kernel_rfl) (by kernel_rfl) rfl (fun W hW => by obtain ⟨h0, h1, h2, h3, h4⟩ := hW; go_simp) H0 ?_
      simp only [Act.put, List.setIfInBounds_toArray, List.set_cons_zero, List.set_cons_succ]
      refine hr_take_w 5 (some 9) (.slice (some ⟨g, go, none⟩) k ac) rfl rfl (by kernel_rfl) (by kernel_rfl) (by kernel_rfl) rfl (fun W hW => by obtain ⟨h0, h1, h2, h3, h4⟩ := hW; go_simp) H0 ?_
      simp only [Act.put, List.setIfInBounds_toArray, List.set_cons_zero, List.set_cons_succ]
      refine hr_take_w 6 (some 10) (.int .i64 k) rfl rfl (by kernel_rfl) (by kernel_rfl) (by kernel_rfl) rfl (fun W hW => by obtain ⟨h0, h1, h2, h3, h4⟩ := hW; go_simp) H0 ?_
      simp only [Act.put, List.setIfInBounds_toArray, List.set_cons_zero, List.set_cons_succ]
      refine hr_take_w 7 (some 11) (.int .i64 j) rfl rfl (by kernel_rfl) (by kernel_rfl) (by kernel_rfl) rfl (fun W hW => by obtain ⟨h0, h1, h2, h3, h4⟩ := hW; go_simp; exact HWR.out) H0 ?_
      simp only [Act.put, List.setIfInBounds_toArray, List.set_cons_zero, List.set_cons_succ]
      refine hr_take_w 8 (some 12) (.pointer (some ⟨g, go + j * 2, none⟩)) rfl rfl (by kernel_rfl) (by kernel_rfl) (by kernel_rfl) rfl (fun W hW => by obtain ⟨h0, h1, h2, h3, h4⟩ := hW; go_simp) H0 ?_
      simp only [Act.put, List.setIfInBounds_toArray, List.set_cons_zero, List.set_cons_succ]
      refine hr_take_w 9 (some 13) (.agg #[.slice p.k.ao p.k.n p.k.cap, .slice p.v.ao p.v.n p.v.cap]) rfl rfl (by kernel_rfl) (by kernel_rfl) (by kernel_rfl) rfl (fun W hW => by obtain ⟨h0, h1, h2, h3, h4⟩ := hW; go_simp) H0 ?_
      simp only [Act.put, List.setIfInBounds_toArray, List.set_cons_zero, List.set_cons_succ]
      refine hr_take_w 10 (some 14) (.slice (some ⟨b, off, none⟩) m c) rfl rfl (by kernel_rfl) (by kernel_rfl) (by kernel_rfl) rfl (fun W hW => by obtain ⟨h0, h1, h2, h3, h4⟩ := hW; go_simp) H0 ?_
      simp only [Act.put, List.setIfInBounds_toArray, List.set_cons_zero, List.set_cons_succ]
      refine hr_take_w 11 (some 15) (.pointer (some ⟨b, off, none⟩)) rfl rfl (by kernel_rfl) (by kernel_rfl) (by kernel_rfl) rfl (fun W hW => by obtain ⟨h0, h1, h2, h3, h4⟩ := hW; go_simp) H0 ?_
      simp only [Act.put, List.setIfInBounds_toArray, List.set_cons_zero, List.set_cons_succ]
      refine hr_take_w 12 (some 16) (.agg #[.slice q.k.ao q.k.n q.k.cap, .slice q.v.ao q.v.n q.v.cap]) rfl rfl (by kernel_rfl) (by kernel_rfl) (by kernel_rfl) rfl (fun W hW => by obtain ⟨h0, h1, h2, h3, h4⟩ := hW; go_simp) H0 ?_
      simp only [Act.put, List.setIfInBounds_toArray, List.set_cons_zero, List.set_cons_succ]
      refine hr_call_w 13 (some 17) 17 #[.agg #[.slice p.k.ao p.k.n p.k.cap, .slice p.v.ao p.v.n p.v.cap], .agg #[.slice q.k.ao q.k.n q.k.cap, .slice q.v.ao q.v.n q.v.cap]] rfl rfl (by kernel_rfl) rfl (by go_simp) (fun v w' => v = .bool true ∧ Below v0.heap.size v0 w') ((CB v0 E0).mono (by
        rintro e w' ⟨rfl, C⟩
        exact ⟨_, rfl, rfl, C⟩)) ?_
      rintro v v1 ⟨rfl, C0⟩
      have E1 := E0.trans (C0.mono E0.size)
      have H1 := HS.out v1 E1
      refine ⟨H1, ?_⟩
      simp only [Act.put, List.setIfInBounds_toArray, List.set_cons_zero, List.set_cons_succ]
      refine hr_take_w 14 (some 18) (.bool false) rfl rfl (by kernel_rfl) (by kernel_rfl) (by kernel_rfl) rfl (fun W hW => by obtain ⟨h0, h1, h2, h3, h4⟩ := hW; go_simp) H1 ?_
      simp only [Act.put, List.setIfInBounds_toArray, List.set_cons_zero, List.set_cons_succ]
      refine hr_take_w 15 (some 19) (.bool false) rfl rfl (by kernel_rfl) (by kernel_rfl) (by kernel_rfl) rfl (fun W hW => by obtain ⟨h0, h1, h2, h3, h4⟩ := hW; go_simp) H1 ?_
      simp only [Act.put, List.setIfInBounds_toArray, List.set_cons_zero, List.set_cons_succ]
      refine wpAnyH_done (by kernel_rfl) ?_ _
      refine NoPanic.normal ?_
      have KK := h.below E1
      obtain ⟨v', W1, ha, ⟨u1, cu⟩, fz, K1⟩ := KK.more (hx.below E1) hm hn hfar 30
      have ca2 : (v1).cell? ⟨A, 0, none⟩ = some (.slice (some ⟨g, go, none⟩) k ac) := by have := cell_of_row _ _ 0 _ _ _ KK.ba; rw [← HK0.out] at this; exact this
      obtain ⟨ao1, ac1, rfl⟩ := row_is K1.own
      rw [← HK0.out] at ha
      obtain ⟨nn, hnn⟩ : ∃ n, n = (ps ++ qs).length := ⟨_, rfl⟩
      rw [← hnn] at ha K1
      have HK1 : Hid (LyI w0 A R base (W1.setCell ⟨A, 0, none⟩ (.slice ao1 nn ac1)) (.slice ao1 nn ac1) (ps ++ qs) (r && joins (ps.map IP.it) (qs.map IP.it))) := by show LyI _ _ _ _ _ _ _ _; rw [HJ.out]; exact K1
      have HRUN : Hid ((Builtin.append_ #[30, 30] 30 #[.slice (some ⟨g, go, none⟩) k ac, .slice (some ⟨b, off, none⟩) m c]).run Tryz.prog (v1) = .ok (.slice ao1 nn ac1) W1) := ha
      clear K1 KK ha hnn hx hIL
      go_wp2_with (at_builtin; refine wpList_appR rfl _ _ _ _ rfl _ _ _ rfl rfl HRUN.out ?_)
      go_end0
      exact ⟨rfl, _, HK1.out⟩
    · rw [decide_eq_false hc] at CB
      have HJ : Hid ((r && joins (ps.map IP.it) (qs.map IP.it)) = false) := by
        show _ = _
        rw [HJN.out, decide_eq_false hc, Bool.and_false]
      clear hc
      go_enter Tryz.func16, Tryz.ntmps16
      go_wp2_with fail
      have HS : Hid (∀ V, Below W.heap.size W V → V.cell? ⟨A, 0, none⟩ = some (.slice (some ⟨g, go, none⟩) k ac) ∧ V.cell? ⟨g, go + j * 2, none⟩ = some (.slice p.k.ao p.k.n p.k.cap) ∧ V.cell? ⟨g, go + j * 2 + 1, none⟩ = some (.slice p.v.ao p.v.n p.v.cap) ∧ V.cell? ⟨b, off, none⟩ = some (.slice q.k.ao q.k.n q.k.cap) ∧ V.cell? ⟨b, off + 1, none⟩ = some (.slice q.v.ao q.v.n q.v.cap)) := fun V hV => ⟨(hV.cell (World.block_lt_of_cell? _ _ ca)).trans ca, (hV.cell (World.block_lt_of_cell? _ _ c1)).trans c1, (hV.cell (World.block_lt_of_cell? _ _ c2)).trans c2, (hV.cell (World.block_lt_of_cell? _ _ d1)).trans d1, (hV.cell (World.block_lt_of_cell? _ _ d2)).trans d2⟩
      have E0 : Below W.heap.size W W.drew := (Below.refl _ _).drew
      refine wp_region_noPanic ?_
      refine wp_region_held_drew (S := fun V => V.cell? ⟨A, 0, none⟩ = some (.slice (some ⟨g, go, none⟩) k ac) ∧ V.cell? ⟨g, go + j * 2, none⟩ = some (.slice p.k.ao p.k.n p.k.cap) ∧ V.cell? ⟨g, go + j * 2 + 1, none⟩ = some (.slice p.v.ao p.v.n p.v.cap) ∧ V.cell? ⟨b, off, none⟩ = some (.slice q.k.ao q.k.n q.k.cap) ∧ V.cell? ⟨b, off + 1, none⟩ = some (.slice q.v.ao q.v.n q.v.cap)) (by kernel_rfl) (HS.out _ E0) (fun H0 => ?_)
      obtain ⟨v0, hv0⟩ : ∃ v, v = W.drew := ⟨_, rfl⟩
      rw [← hv0] at H0 E0 ⊢
      clear hv0
      refine hr_take_w 0 (some 4) (.slice (some ⟨g, go, none⟩) k ac) rfl rfl (by kernel_rfl) (by kernel_rfl) (by kernel_rfl) rfl (fun W hW => by obtain ⟨h0, h1, h2, h3, h4⟩ := hW; go_simp) H0 ?_
      simp only [Act.put, List.setIfInBounds_toArray, List.set_cons_zero, List.set_cons_succ]
      refine hr_take_w 1 (some 5) (.int .i64 k) rfl rfl (by kernel_rfl) (by kernel_rfl) (by kernel_rfl) rfl (fun W hW => by obtain ⟨h0, h1, h2, h3, h4⟩ := hW; go_simp) H0 ?_
      simp only [Act.put, List.setIfInBounds_toArray, List.set_cons_zero, List.set_cons_succ]
      refine hr_take_w 2 (some 6) (.bool true) rfl rfl (by kernel_rfl) (by kernel_rfl) (by kernel_rfl) rfl (fun W hW => by obtain ⟨h0, h1, h2, h3, h4⟩ := hW; go_simp; omega) H0 ?_
      simp only [Act.put, List.setIfInBounds_toArray, List.set_cons_zero, List.set_cons_succ]
      refine hr_take_w 3 (some 7) (.bool true) rfl rfl (by kernel_rfl) (by kernel_rfl) (by kernel_rfl) rfl (fun W hW => by obtain ⟨h0, h1, h2, h3, h4⟩ := hW; go_simp) H0 ?_
      simp only [Act.put, List.setIfInBounds_toArray, List.set_cons_zero, List.set_cons_succ]
      refine hr_take_w 4 (some 8) (.slice (some ⟨g, go, none⟩) k ac) rfl rfl (by kernel_rfl) (by kernel_rfl) (by kernel_rfl) rfl (fun W hW => by obtain ⟨h0, h1, h2, h3, h4⟩ := hW; go_simp) H0 ?_
      simp only [Act.put, List.setIfInBounds_toArray, List.set_cons_zero, List.set_cons_succ]
      refine hr_take_w 5 (some 9) (.slice (some ⟨g, go, none⟩) k ac) rfl rfl (by kernel_rfl) (by kernel_rfl) (by kernel_rfl) rfl (fun W hW => by obtain ⟨h0, h1, h2, h3, h4⟩ := hW; go_simp) H0 ?_
      simp only [Act.put, List.setIfInBounds_toArray, List.set_cons_zero, List.set_cons_succ]
      refine hr_take_w 6 (some 10) (.int .i64 k) rfl rfl (by kernel_rfl) (by kernel_rfl) (by kernel_rfl) rfl (fun W hW => by obtain ⟨h0, h1, h2, h3, h4⟩ := hW; go_simp) H0 ?_
      simp only [Act.put, List.setIfInBounds_toArray, List.set_cons_zero, List.set_cons_succ]
      refine hr_take_w 7 (some 11) (.int .i64 j) rfl rfl (by kernel_rfl) (by kernel_rfl) (by kernel_rfl) rfl (fun W hW => by obtain ⟨h0, h1, h2, h3, h4⟩ := hW; go_simp; exact HWR.out) H0 ?_
      simp only [Act.put, List.setIfInBounds_toArray, List.set_cons_zero, List.set_cons_succ]
      refine hr_take_w 8 (some 12) (.pointer (some ⟨g, go + j * 2, none⟩)) rfl rfl (by kernel_rfl) (by kernel_rfl) (by kernel_rfl) rfl (fun W hW => by obtain ⟨h0, h1, h2, h3, h4⟩ := hW; go_simp) H0 ?_
      simp only [Act.put, List.setIfInBounds_toArray, List.set_cons_zero, List.set_cons_succ]
      refine hr_take_w 9 (some 13) (.agg #[.slice p.k.ao p.k.n p.k.cap, .slice p.v.ao p.v.n p.v.cap]) rfl rfl (by kernel_rfl) (by kernel_rfl) (by kernel_rfl) rfl (fun W hW => by obtain ⟨h0, h1, h2, h3, h4⟩ := hW; go_simp) H0 ?_
      simp only [Act.put, List.setIfInBounds_toArray, List.set_cons_zero, List.set_cons_succ]
      refine hr_take_w 10 (some 14) (.slice (some ⟨b, off, none⟩) m c) rfl rfl (by kernel_rfl) (by kernel_rfl) (by kernel_rfl) rfl (fun W hW => by obtain ⟨h0, h1, h2, h3, h4⟩ := hW; go_simp) H0 ?_
      simp only [Act.put, List.setIfInBounds_toArray, List.set_cons_zero, List.set_cons_succ]
      refine hr_take_w 11 (some 15) (.pointer (some ⟨b, off, none⟩)) rfl rfl (by kernel_rfl) (by kernel_rfl) (by kernel_rfl) rfl (fun W hW => by obtain ⟨h0, h1, h2, h3, h4⟩ := hW; go_simp) H0 ?_
      simp only [Act.put, List.setIfInBounds_toArray, List.set_cons_zero, List.set_cons_succ]
      refine hr_take_w 12 (some 16) (.agg #[.slice q.k.ao q.k.n q.k.cap, .slice q.v.ao q.v.n q.v.cap]) rfl rfl (by kernel_rfl) (by kernel_rfl) (by kernel_rfl) rfl (fun W hW => by obtain ⟨h0, h1, h2, h3, h4⟩ := hW; go_simp) H0 ?_
      simp only [Act.put, List.setIfInBounds_toArray, List.set_cons_zero, List.set_cons_succ]
      refine hr_call_w 13 (some 17) 17 #[.agg #[.slice p.k.ao p.k.n p.k.cap, .slice p.v.ao p.v.n p.v.cap], .agg #[.slice q.k.ao q.k.n q.k.cap, .slice q.v.ao q.v.n q.v.cap]] rfl rfl (by kernel_rfl) rfl (by go_simp) (fun v w' => v = .bool false ∧ Below v0.heap.size v0 w') ((CB v0 E0).mono (by
        rintro e w' ⟨rfl, C⟩
        exact ⟨_, rfl, rfl, C⟩)) ?_
      rintro v v1 ⟨rfl, C0⟩
      have E1 := E0.trans (C0.mono E0.size)
      have H1 := HS.out v1 E1
      refine ⟨H1, ?_⟩
      simp only [Act.put, List.setIfInBounds_toArray, List.set_cons_zero, List.set_cons_succ]
      refine hr_take_w 14 (some 18) (.bool true) rfl rfl (by kernel_rfl) (by kernel_rfl) (by kernel_rfl) rfl (fun W hW => by obtain ⟨h0, h1, h2, h3, h4⟩ := hW; go_simp) H1 ?_
      simp only [Act.put, List.setIfInBounds_toArray, List.set_cons_zero, List.set_cons_succ]
      refine hr_take_w 15 (some 19) (.bool true) rfl rfl (by kernel_rfl) (by kernel_rfl) (by kernel_rfl) rfl (fun W hW => by obtain ⟨h0, h1, h2, h3, h4⟩ := hW; go_simp) H1 ?_
      simp only [Act.put, List.setIfInBounds_toArray, List.set_cons_zero, List.set_cons_succ]
      refine wpAnyH_done (by kernel_rfl) ?_ _
      refine NoPanic.normal ?_
      have K0 := h.below E1
      have KK := K0.fall
      have cr : v1.cell? ⟨R, 0, none⟩ = some (.bool r) := cell_of_row _ _ 0 _ _ _ K0.br
      have fr : v1.frozen? ⟨R, 0, none⟩ = false := frozen_of_row _ _ 0 _ _ K0.br
      have IL2 : IL (v1.setCell ⟨R, 0, none⟩ (.bool false)) (some ⟨b, off, none⟩) m c qs := (hx.below E1).keptB fun x hxx => heap_setCell_other v1 ⟨R, 0, none⟩ x _ (by
        rcases hxx with ⟨a, ha, _, rfl⟩ | ⟨y, hy, hyx⟩
        · obtain rfl := Option.some.inj ha
          exact hbR
        · exact (hfar y hy x hyx).2.1)
      obtain ⟨v', W1, ha, ⟨u1, cu⟩, fz, K1⟩ := KK.more IL2 hm hn hfar 30
      have ca2 : (v1.setCell ⟨R, 0, none⟩ (.bool false)).cell? ⟨A, 0, none⟩ = some (.slice (some ⟨g, go, none⟩) k ac) := by have := cell_of_row _ _ 0 _ _ _ KK.ba; rw [← HK0.out] at this; exact this
      obtain ⟨ao1, ac1, rfl⟩ := row_is K1.own
      rw [← HK0.out] at ha
      obtain ⟨nn, hnn⟩ : ∃ n, n = (ps ++ qs).length := ⟨_, rfl⟩
      rw [← hnn] at ha K1
      have HK1 : Hid (LyI w0 A R base (W1.setCell ⟨A, 0, none⟩ (.slice ao1 nn ac1)) (.slice ao1 nn ac1) (ps ++ qs) (r && joins (ps.map IP.it) (qs.map IP.it))) := by show LyI _ _ _ _ _ _ _ _; rw [HJ.out]; exact K1
      have HRUN : Hid ((Builtin.append_ #[30, 30] 30 #[.slice (some ⟨g, go, none⟩) k ac, .slice (some ⟨b, off, none⟩) m c]).run Tryz.prog (v1.setCell ⟨R, 0, none⟩ (.bool false)) = .ok (.slice ao1 nn ac1) W1) := ha
      clear K1 KK ha hnn hx hIL
      go_wp2_with (at_builtin; refine wpList_appR rfl _ _ _ _ rfl _ _ _ rfl rfl HRUN.out ?_)
      go_end0
      exact ⟨rfl, _, HK1.out⟩
end Go.Proofs.YtkmkmekhodcioaaGreatDoor

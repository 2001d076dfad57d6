/-
  TreeOrder.
-/
import Derived.Test.YtiabdcejibeciaaDoorTreeOrderZ32
import Derived.BigRegion
namespace Go.Proofs.YtiabdcejibeciaaDoor
open Go.RowKit

set_option maxHeartbeats 16000000 in
set_option maxRecDepth 100000 in
theorem treeOrder_any (W : World) (a0 a1 : Option Addr) (n0 c0 n1 c1 : Nat) (its more : List IP) (x y : Int) (h0 : IL W a0 n0 c0 its) (h1 : IL W a1 n1 c1 more) (hT : Tabs W) :
    Calls Tryd.prog 3 #[.slice a0 n0 c0, .slice a1 n1 c1, .int .i64 x, .int .i64 y] W fun e w' => e = .returned (.bool true) ∧ Below W.heap.size W w' := by
  have t2 := hT.two
  have CL := light7_any W a0 n0 c0 its 16 h0
  have CL1 := light7_any W a1 n1 c1 more 8 h1
  have AL := alive7 W hT
  obtain ⟨lb, hlb⟩ : ∃ b, b = ligB its 16 := ⟨_, rfl⟩
  have HLB : Hid (lb = ligB its 16) := hlb
  rw [← hlb] at CL
  obtain ⟨lb1, hlb1⟩ : ∃ b, b = ligB more 8 := ⟨_, rfl⟩
  have HLB1 : Hid (lb1 = ligB more 8) := hlb1
  rw [← hlb1] at CL1
  have HT : Hid (Tabs W) := hT
  clear hlb hlb1 hT
  go_enter Tryd.func3, Tryd.ntmps3
  go_wp2_with fail
  refine CL.mono ?_
  rintro e w' ⟨rfl, hw⟩
  obtain rfl := hw.symm
  clear CL
  cases lb with
  | false =>
    go_wp2_with fail
    refine AL.mono ?_
    rintro e w2 ⟨rfl, B⟩
    go_wp2
    go_ret
    exact ⟨rfl, B⟩
  | true =>
  go_wp2_with fail
  refine CL1.mono ?_
  rintro e w' ⟨rfl, hw⟩
  obtain rfl := hw.symm
  clear CL1
  cases lb1 with
  | false =>
    go_wp2_with fail
    refine AL.mono ?_
    rintro e w2 ⟨rfl, B⟩
    go_wp2
    go_ret
    exact ⟨rfl, B⟩
  | true =>
  by_cases q1 : x < 0
  · go_wp2_with fail
    refine AL.mono ?_
    rintro e w2 ⟨rfl, B⟩
    go_wp2
    go_ret
    exact ⟨rfl, B⟩
  by_cases q2 : y < 0
  · go_wp2_with fail
    refine AL.mono ?_
    rintro e w2 ⟨rfl, B⟩
    go_wp2
    go_ret
    exact ⟨rfl, B⟩
  by_cases q3 : x ≥ (n0 : Int)
  · go_wp2_with fail
    refine AL.mono ?_
    rintro e w2 ⟨rfl, B⟩
    go_wp2
    go_ret
    exact ⟨rfl, B⟩
  by_cases q4 : y ≥ (n0 : Int)
  · go_wp2_with fail
    refine AL.mono ?_
    rintro e w2 ⟨rfl, B⟩
    go_wp2
    go_ret
    exact ⟨rfl, B⟩
  clear AL
  obtain ⟨i, rfl⟩ : ∃ i : Nat, x = i := ⟨x.toNat, by omega⟩
  obtain ⟨j, rfl⟩ : ∃ j : Nat, y = j := ⟨y.toNat, by omega⟩
  have hi : i < n0 := by omega
  have hj : j < n0 := by omega
  have hlig : its.length ≤ 16 ∧ ∀ q ∈ its, q.k.n ≤ 300 ∧ q.v.n ≤ 1100 := by
    have h := HLB.out.symm
    unfold ligB ligQ at h
    simp only [Bool.and_eq_true, decide_eq_true_eq, List.all_eq_true] at h
    exact ⟨by omega, h.2⟩
  have hlig1 : more.length ≤ 8 ∧ ∀ q ∈ more, q.k.n ≤ 300 ∧ q.v.n ≤ 1100 := by
    have h := HLB1.out.symm
    unfold ligB ligQ at h
    simp only [Bool.and_eq_true, decide_eq_true_eq, List.all_eq_true] at h
    exact ⟨by omega, h.2⟩
  have hn0 : n0 ≤ 16 := by have := hlig.1; have := h0.len; omega
  have hn1 : n1 ≤ 8 := by have := hlig1.1; have := h1.len; omega
  have HLG : Hid (∀ q ∈ its, q.k.n ≤ 300 ∧ q.v.n ≤ 1100) := hlig.2
  have HLG1 : Hid (∀ q ∈ more, q.k.n ≤ 300 ∧ q.v.n ≤ 1100) := hlig1.2
  have HLN : Hid (its.length = n0) := h0.len
  have HLN1 : Hid (more.length = n1) := h1.len
  clear hlig hlig1
  have O0 := own_none W
  have Ba : Below W.heap.size W (W.alloc (.cells #[] 28)) := (Below.refl _ W).alloc (Nat.le_refl _) _
  have Bas := Ba.size
  have I0 := h0.below Ba
  have hpos : 0 < its.length := by have := HLN.out; omega
  go_wp2_with (at_builtin; refine wpList_appIs rfl _ _ rfl W.heap.size _ [] rfl O0 a0 n0 c0 its rfl I0 (by simp; omega) Bas ?_; intro v1 u1 own1 B1; have BU := Ba.trans B1; obtain ⟨g, mc, e1, hg, IM, hfz⟩ := own_items_at (ps := its) (by simpa using own1) (fun q hq => (h0.sl q hq).below BU) hpos; subst e1; rw [HLN.out] at IM ⊢)
  clear own1 O0 I0 Ba Bas B1 hw
  have hil : i < its.length := by have := HLN.out; omega
  have hjl : j < its.length := by have := HLN.out; omega
  obtain ⟨b, off, rfl, hc⟩ := (h0.below BU).at (by omega)
  obtain ⟨d1, d2⟩ := hc j hjl
  obtain ⟨d3, d4⟩ := hc i hil
  have m1 := (IM.cell _ rfl i hil).1
  have m2 := (IM.cell _ rfl i hil).2
  have m3 := (IM.cell _ rfl j hjl).1
  have m4 := (IM.cell _ rfl j hjl).2
  have hblk : ∀ r ∈ its, ∀ z, r.blk z → z ≠ g := fun r hr z hz e => by
    have := (h0.sl r hr).lt hz
    omega
  rw [Addr.add_lit, Nat.zero_add] at m1 m2 m3 m4
  have HSW : ∀ V, Below W.heap.size W V → V.cell? ⟨b, off + j * 2, none⟩ = some (.slice its[j].k.ao its[j].k.n its[j].k.cap) ∧ V.cell? ⟨b, off + j * 2 + 1, none⟩ = some (.slice its[j].v.ao its[j].v.n its[j].v.cap) ∧ V.cell? ⟨b, off + i * 2, none⟩ = some (.slice its[i].k.ao its[i].k.n its[i].k.cap) ∧ V.cell? ⟨b, off + i * 2 + 1, none⟩ = some (.slice its[i].v.ao its[i].v.n its[i].v.cap) := fun V hV => by
    obtain ⟨b', off', e, hcell⟩ := (h0.below hV).at (by omega)
    cases e
    exact ⟨(hcell j hjl).1, (hcell j hjl).2, (hcell i hil).1, (hcell i hil).2⟩
  clear d1 d2 d3 d4
  have glt : g < u1.heap.size := World.block_lt_of_cell? _ _ m1
  have HS : Hid (∀ V, Below u1.heap.size u1 V → V.cell? ⟨b, off + j * 2, none⟩ = some (.slice its[j].k.ao its[j].k.n its[j].k.cap) ∧ V.cell? ⟨b, off + j * 2 + 1, none⟩ = some (.slice its[j].v.ao its[j].v.n its[j].v.cap) ∧ V.cell? ⟨b, off + i * 2, none⟩ = some (.slice its[i].k.ao its[i].k.n its[i].k.cap) ∧ V.cell? ⟨b, off + i * 2 + 1, none⟩ = some (.slice its[i].v.ao its[i].v.n its[i].v.cap)) := fun V hV => HSW V (BU.trans (hV.mono BU.size))
  have E0 : Below u1.heap.size u1 u1.drew := (Below.refl _ _).drew
  refine wp_region_noPanic ?_
  refine wp_region_held_drew (S := fun V => V.cell? ⟨b, off + j * 2, none⟩ = some (.slice its[j].k.ao its[j].k.n its[j].k.cap) ∧ V.cell? ⟨b, off + j * 2 + 1, none⟩ = some (.slice its[j].v.ao its[j].v.n its[j].v.cap) ∧ V.cell? ⟨b, off + i * 2, none⟩ = some (.slice its[i].k.ao its[i].k.n its[i].k.cap) ∧ V.cell? ⟨b, off + i * 2 + 1, none⟩ = some (.slice its[i].v.ao its[i].v.n its[i].v.cap)) (by kernel_rfl) (HS.out _ E0) (fun H0 => ?_)
  obtain ⟨v0, hv0⟩ : ∃ v, v = u1.drew := ⟨_, rfl⟩
  rw [← hv0] at H0 E0 ⊢
  clear hv0
  refine hr_take_w 0 (some 49) (.slice (some ⟨g, 0, none⟩) n0 mc) rfl rfl (by kernel_rfl) (by kernel_rfl) (by kernel_rfl) rfl (fun W hW => by obtain ⟨h0, h1, h2, h3⟩ := hW; go_simp) H0 ?_
  simp only [Act.put, List.setIfInBounds_toArray, List.set_cons_zero, List.set_cons_succ]
  refine hr_take_w 1 (some 50) (.int .i64 i) rfl rfl (by kernel_rfl) (by kernel_rfl) (by kernel_rfl) rfl (fun W hW => by obtain ⟨h0, h1, h2, h3⟩ := hW; go_simp) H0 ?_
  simp only [Act.put, List.setIfInBounds_toArray, List.set_cons_zero, List.set_cons_succ]
  refine hr_take_w 2 (some 51) (.slice (some ⟨g, 0, none⟩) n0 mc) rfl rfl (by kernel_rfl) (by kernel_rfl) (by kernel_rfl) rfl (fun W hW => by obtain ⟨h0, h1, h2, h3⟩ := hW; go_simp) H0 ?_
  simp only [Act.put, List.setIfInBounds_toArray, List.set_cons_zero, List.set_cons_succ]
  refine hr_take_w 3 (some 52) (.int .i64 j) rfl rfl (by kernel_rfl) (by kernel_rfl) (by kernel_rfl) rfl (fun W hW => by obtain ⟨h0, h1, h2, h3⟩ := hW; go_simp) H0 ?_
  simp only [Act.put, List.setIfInBounds_toArray, List.set_cons_zero, List.set_cons_succ]
  refine hr_take_w 4 (some 53) (.slice (some ⟨b, off, none⟩) n0 c0) rfl rfl (by kernel_rfl) (by kernel_rfl) (by kernel_rfl) rfl (fun W hW => by obtain ⟨h0, h1, h2, h3⟩ := hW; go_simp) H0 ?_
  simp only [Act.put, List.setIfInBounds_toArray, List.set_cons_zero, List.set_cons_succ]
  refine hr_take_w 5 (some 54) (.int .i64 j) rfl rfl (by kernel_rfl) (by kernel_rfl) (by kernel_rfl) rfl (fun W hW => by obtain ⟨h0, h1, h2, h3⟩ := hW; go_simp) H0 ?_
  simp only [Act.put, List.setIfInBounds_toArray, List.set_cons_zero, List.set_cons_succ]
  refine hr_take_w 6 (some 55) (.pointer (some ⟨b, off + j * 2, none⟩)) rfl rfl (by kernel_rfl) (by kernel_rfl) (by kernel_rfl) rfl (fun W hW => by obtain ⟨h0, h1, h2, h3⟩ := hW; go_simp) H0 ?_
  simp only [Act.put, List.setIfInBounds_toArray, List.set_cons_zero, List.set_cons_succ]
  refine hr_take_w 7 (some 56) (.agg #[.slice its[j].k.ao its[j].k.n its[j].k.cap, .slice its[j].v.ao its[j].v.n its[j].v.cap]) rfl rfl (by kernel_rfl) (by kernel_rfl) (by kernel_rfl) rfl (fun W hW => by obtain ⟨h0, h1, h2, h3⟩ := hW; go_simp) H0 ?_
  simp only [Act.put, List.setIfInBounds_toArray, List.set_cons_zero, List.set_cons_succ]
  refine hr_take_w 8 (some 57) (.slice (some ⟨b, off, none⟩) n0 c0) rfl rfl (by kernel_rfl) (by kernel_rfl) (by kernel_rfl) rfl (fun W hW => by obtain ⟨h0, h1, h2, h3⟩ := hW; go_simp) H0 ?_
  simp only [Act.put, List.setIfInBounds_toArray, List.set_cons_zero, List.set_cons_succ]
  refine hr_take_w 9 (some 58) (.int .i64 i) rfl rfl (by kernel_rfl) (by kernel_rfl) (by kernel_rfl) rfl (fun W hW => by obtain ⟨h0, h1, h2, h3⟩ := hW; go_simp) H0 ?_
  simp only [Act.put, List.setIfInBounds_toArray, List.set_cons_zero, List.set_cons_succ]
  refine hr_take_w 10 (some 59) (.pointer (some ⟨b, off + i * 2, none⟩)) rfl rfl (by kernel_rfl) (by kernel_rfl) (by kernel_rfl) rfl (fun W hW => by obtain ⟨h0, h1, h2, h3⟩ := hW; go_simp) H0 ?_
  simp only [Act.put, List.setIfInBounds_toArray, List.set_cons_zero, List.set_cons_succ]
  refine hr_take_w 11 (some 60) (.agg #[.slice its[i].k.ao its[i].k.n its[i].k.cap, .slice its[i].v.ao its[i].v.n its[i].v.cap]) rfl rfl (by kernel_rfl) (by kernel_rfl) (by kernel_rfl) rfl (fun W hW => by obtain ⟨h0, h1, h2, h3⟩ := hW; go_simp) H0 ?_
  simp only [Act.put, List.setIfInBounds_toArray, List.set_cons_zero, List.set_cons_succ]
  refine hr_take_w 12 (some 61) (.pointer (some ⟨g, i * 2, none⟩)) rfl rfl (by kernel_rfl) (by kernel_rfl) (by kernel_rfl) rfl (fun W hW => by obtain ⟨h0, h1, h2, h3⟩ := hW; go_simp) H0 ?_
  simp only [Act.put, List.setIfInBounds_toArray, List.set_cons_zero, List.set_cons_succ]
  have IM0 := IM.below E0
  have BV := BU.trans (E0.mono BU.size)
  have hfz0 : ∀ o, v0.frozen? ⟨g, o, none⟩ = false := fun o => (E0.frozen (p := ⟨g, o, none⟩) glt).trans (hfz o)
  have k1 := (E0.cell (p := ⟨g, i * 2, none⟩) glt).trans m1
  have k2 := (E0.cell (p := ⟨g, i * 2 + 1, none⟩) glt).trans m2
  have fz1 := hfz0 (i * 2)
  have fz2 := hfz0 (i * 2 + 1)
  obtain ⟨w1, hw1⟩ : ∃ w, w = (v0.setCell ⟨g, i * 2, none⟩ its[j].k.val).setCell ⟨g, i * 2 + 1, none⟩ its[j].v.val := ⟨_, rfl⟩
  have IM1 : IL w1 (some ⟨g, 0, none⟩) n0 mc (its.set i its[j]) := by rw [hw1]; exact IM0.store (IM0.sl _ (List.getElem_mem hjl)) hi hblk (hblk _ (List.getElem_mem hjl))
  have BW1 : Below W.heap.size W w1 := by rw [hw1]; exact (BV.setCell (p := ⟨g, i * 2, none⟩) hg its[j].k.val).setCell (p := ⟨g, i * 2 + 1, none⟩) hg its[j].v.val
  have hfz1 : ∀ o, w1.frozen? ⟨g, o, none⟩ = false := fun o => by rw [hw1]; simp [hfz0]
  refine hr_skip 13 none (w' := w1) rfl rfl (by kernel_rfl) rfl (by rw [hw1]; unfold Part.val at *; go_simp) (HSW w1 BW1) ?_
  simp only [Act.put]
  replace H0 := HSW w1 BW1
  clear k1 k2 fz1 fz2
  refine hr_take_w 14 (some 62) (.pointer (some ⟨g, j * 2, none⟩)) rfl rfl (by kernel_rfl) (by kernel_rfl) (by kernel_rfl) rfl (fun W hW => by obtain ⟨h0, h1, h2, h3⟩ := hW; go_simp) H0 ?_
  simp only [Act.put, List.setIfInBounds_toArray, List.set_cons_zero, List.set_cons_succ]
  obtain ⟨z1, k1⟩ : ∃ z, w1.cell? ⟨g, j * 2, none⟩ = some z := by
    have k1 := (IM1.cell _ rfl j (by simpa using hjl)).1
    rw [Addr.add_lit, Nat.zero_add] at k1
    exact ⟨_, k1⟩
  obtain ⟨z2, k2⟩ : ∃ z, w1.cell? ⟨g, j * 2 + 1, none⟩ = some z := by
    have k2 := (IM1.cell _ rfl j (by simpa using hjl)).2
    rw [Addr.add_lit, Nat.zero_add] at k2
    exact ⟨_, k2⟩
  have fz1 := hfz1 (j * 2)
  have fz2 := hfz1 (j * 2 + 1)
  obtain ⟨w2, hw2⟩ : ∃ w, w = (w1.setCell ⟨g, j * 2, none⟩ its[i].k.val).setCell ⟨g, j * 2 + 1, none⟩ its[i].v.val := ⟨_, rfl⟩
  have IM2 : IL w2 (some ⟨g, 0, none⟩) n0 mc ((its.set i its[j]).set j its[i]) := by rw [hw2, hw1]; exact IM0.swap hil hjl hblk
  have BW2 : Below W.heap.size W w2 := by rw [hw2]; exact (BW1.setCell (p := ⟨g, j * 2, none⟩) hg its[i].k.val).setCell (p := ⟨g, j * 2 + 1, none⟩) hg its[i].v.val
  clear hw1
  refine hr_skip 15 none (w' := w2) rfl rfl (by kernel_rfl) rfl (by rw [hw2]; unfold Part.val at *; go_simp) (HSW w2 BW2) ?_
  simp only [Act.put]
  refine wpAnyH_done (by kernel_rfl) ?_ _
  refine NoPanic.normal ?_
  have HP0 := List.set_set_perm hil hjl
  obtain ⟨ms, hms⟩ : ∃ ms, ms = (its.set i its[j]).set j its[i] := ⟨_, rfl⟩
  rw [← hms] at IM2 HP0
  have HP : Hid (ms.Perm its) := HP0
  clear hms HP0 hw2 k1 k2 fz1 fz2 hfz hfz0 hfz1 H0 IM0 IM1 IM BV BW1 HSW HS E0 m1 m2 m3 m4 hblk glt BU
  clear hc w1 z1 z2 u1 v0 q1 q2 q3 q4
  go_wp2_with fail
  obtain ⟨wo, rfl⟩ : ∃ W, W = w2 := ⟨w2, rfl⟩
  go_loopw [9, 11] (fun t i wr => ∃ (k : Nat) (po : Option Addr) (l : List It), k ≤ n0 ∧ i = .int .i64 k ∧ t = .pointer po ∧ TT wr (.pointer po) l ∧ Hid (Srt l) ∧ Hid (l.Perm ((its.take k).map IP.it)) ∧ Hid (Gd7 (its.take k)) ∧ Below wo.heap.size wo wr) (fun _ i _ => n0 - (intOf i).toNat)
  case atStart => exact ⟨0, none, [], Nat.zero_le _, rfl, rfl, TT.nil _, List.Pairwise.nil, List.Perm.nil, Gd7.nil, Below.refl _ _⟩
  case round =>
    obtain ⟨k, po, l, hkn, rfl, rfl, TT1, HS1, HP1, HG1, hBo⟩ := hrel
    have hB := BW2.trans (hBo.mono BW2.size)
    by_cases hlt : k < n0
    · have hki : (k : Int) < (n0 : Int) := by omega
      have hkl : k < its.length := by have := HLN.out; omega
      have hll : l.length = k := by have := HP1.out.length_eq; rw [List.length_map, List.length_take] at this; omega
      have ILq := h0.below hB
      have hcell : wr.cell? ⟨b, off + k * 2, none⟩ = some its[k].k.val ∧ wr.cell? ⟨b, off + k * 2 + 1, none⟩ = some its[k].v.val := by
        obtain ⟨b', off', e, hc⟩ := ILq.at (by omega)
        cases e
        exact hc k hkl
      obtain ⟨d1, d2⟩ := hcell
      have SQ : its[k].ok wr := ILq.sl its[k] (List.getElem_mem hkl)
      have HT2 : Hid (its.take (k + 1) = its.take k ++ [its[k]]) := by show _ = _; rw [List.take_succ_eq_append_getElem hkl]
      obtain ⟨q, hqe⟩ : ∃ q, q = its[k] := ⟨_, rfl⟩
      rw [← hqe] at d1 d2 SQ HT2
      unfold Part.val at d1 d2
      have FS : ∀ V : World, (Instr.sliceAt 22 (.slice (some ⟨b, off, none⟩) n0 c0) none (some (.int .i64 (k : Nat))) none).run Tryd.prog V = .ok (.slice (some ⟨b, off, none⟩) k c0) V := fun V => run_upto2 (by have := h0.le; omega)
      have CF : ∀ V, Below wr.heap.size wr V → Calls Tryd.prog 10 #[.slice (some ⟨b, off, none⟩) k c0, .slice q.k.ao q.k.n q.k.cap] V fun e w' => ∃ r, e = .returned (.int .i64 r) ∧ FindPost (its.take k) q.k.xs r ∧ Below V.heap.size V w' := fun V hV => rfind7_any V _ k c0 (its.take k) q.k.ao q.k.n q.k.cap q.k.xs ((ILq.below hV).front k (by omega)) (SQ.1.below hV)
      clear hqe
      by_cases hk0 : askK q.k.n q.v.n = 0
      · have CA : ∀ V, Below wr.heap.size wr V → Calls Tryd.prog 9 #[.slice q.k.ao q.k.n q.k.cap, .slice q.v.ao q.v.n q.v.cap] V fun e w' => e = .returned (.int .i64 0) ∧ Below V.heap.size V w' := fun V hV => by
          have := asked7_any V q.k.ao q.v.ao q.k.n q.k.cap q.v.n q.v.cap
          rw [hk0] at this
          exact this.mono fun e w' ⟨h1, h2⟩ => ⟨h1, by rw [h2]; exact Below.refl _ _⟩
        have hz := askK_ok hk0
        clear hk0
        go_wp2_with fail
        have HS : Hid (∀ V, Below wr.heap.size wr V → V.cell? ⟨b, off + k * 2, none⟩ = some (.slice q.k.ao q.k.n q.k.cap) ∧ V.cell? ⟨b, off + k * 2 + 1, none⟩ = some (.slice q.v.ao q.v.n q.v.cap)) := fun V hV => ⟨(hV.cell (World.block_lt_of_cell? _ _ d1)).trans d1, (hV.cell (World.block_lt_of_cell? _ _ d2)).trans d2⟩
        have E0 : Below wr.heap.size wr wr.drew := (Below.refl _ _).drew
        refine wp_region_noPanic ?_
        refine wp_region_held_drew (S := fun V => V.cell? ⟨b, off + k * 2, none⟩ = some (.slice q.k.ao q.k.n q.k.cap) ∧ V.cell? ⟨b, off + k * 2 + 1, none⟩ = some (.slice q.v.ao q.v.n q.v.cap)) (by kernel_rfl) (HS.out _ E0) (fun H0 => ?_)
        obtain ⟨v0, hv0⟩ : ∃ v, v = wr.drew := ⟨_, rfl⟩
        rw [← hv0] at H0 E0 ⊢
        clear hv0
        refine hr_take_w 0 (some 69) (.slice (some ⟨b, off, none⟩) n0 c0) rfl rfl (by kernel_rfl) (by kernel_rfl) (by kernel_rfl) rfl (fun W hW => by obtain ⟨h0, h1⟩ := hW; go_simp) H0 ?_
        simp only [Act.put, List.setIfInBounds_toArray, List.set_cons_zero, List.set_cons_succ]
        refine hr_take_w 1 (some 70) (.int .i64 k) rfl rfl (by kernel_rfl) (by kernel_rfl) (by kernel_rfl) rfl (fun W hW => by obtain ⟨h0, h1⟩ := hW; go_simp) H0 ?_
        simp only [Act.put, List.setIfInBounds_toArray, List.set_cons_zero, List.set_cons_succ]
        refine hr_take_w 2 (some 71) (.pointer (some ⟨b, off + k * 2, none⟩)) rfl rfl (by kernel_rfl) (by kernel_rfl) (by kernel_rfl) rfl (fun W hW => by obtain ⟨h0, h1⟩ := hW; go_simp) H0 ?_
        simp only [Act.put, List.setIfInBounds_toArray, List.set_cons_zero, List.set_cons_succ]
        refine hr_take_w 3 (some 72) (.pointer (some ⟨b, off + k * 2, none⟩)) rfl rfl (by kernel_rfl) (by kernel_rfl) (by kernel_rfl) rfl (fun W hW => by obtain ⟨h0, h1⟩ := hW; go_simp) H0 ?_
        simp only [Act.put, List.setIfInBounds_toArray, List.set_cons_zero, List.set_cons_succ]
        refine hr_take_w 4 (some 73) (.slice q.k.ao q.k.n q.k.cap) rfl rfl (by kernel_rfl) (by kernel_rfl) (by kernel_rfl) rfl (fun W hW => by obtain ⟨h0, h1⟩ := hW; go_simp) H0 ?_
        simp only [Act.put, List.setIfInBounds_toArray, List.set_cons_zero, List.set_cons_succ]
        refine hr_take_w 5 (some 74) (.slice (some ⟨b, off, none⟩) n0 c0) rfl rfl (by kernel_rfl) (by kernel_rfl) (by kernel_rfl) rfl (fun W hW => by obtain ⟨h0, h1⟩ := hW; go_simp) H0 ?_
        simp only [Act.put, List.setIfInBounds_toArray, List.set_cons_zero, List.set_cons_succ]
        refine hr_take_w 6 (some 75) (.int .i64 k) rfl rfl (by kernel_rfl) (by kernel_rfl) (by kernel_rfl) rfl (fun W hW => by obtain ⟨h0, h1⟩ := hW; go_simp) H0 ?_
        simp only [Act.put, List.setIfInBounds_toArray, List.set_cons_zero, List.set_cons_succ]
        refine hr_take_w 7 (some 76) (.pointer (some ⟨b, off + k * 2, none⟩)) rfl rfl (by kernel_rfl) (by kernel_rfl) (by kernel_rfl) rfl (fun W hW => by obtain ⟨h0, h1⟩ := hW; go_simp) H0 ?_
        simp only [Act.put, List.setIfInBounds_toArray, List.set_cons_zero, List.set_cons_succ]
        refine hr_take_w 8 (some 77) (.pointer (some ⟨b, off + k * 2 + 1, none⟩)) rfl rfl (by kernel_rfl) (by kernel_rfl) (by kernel_rfl) rfl (fun W hW => by obtain ⟨h0, h1⟩ := hW; go_simp) H0 ?_
        simp only [Act.put, List.setIfInBounds_toArray, List.set_cons_zero, List.set_cons_succ]
        refine hr_take_w 9 (some 78) (.slice q.v.ao q.v.n q.v.cap) rfl rfl (by kernel_rfl) (by kernel_rfl) (by kernel_rfl) rfl (fun W hW => by obtain ⟨h0, h1⟩ := hW; go_simp) H0 ?_
        simp only [Act.put, List.setIfInBounds_toArray, List.set_cons_zero, List.set_cons_succ]
        refine hr_call_w 10 (some 79) 9 #[.slice q.k.ao q.k.n q.k.cap, .slice q.v.ao q.v.n q.v.cap] rfl rfl (by kernel_rfl) rfl (by go_simp) (fun v w' => v = .int .i64 0 ∧ Below v0.heap.size v0 w') ((CA v0 E0).mono (by
          rintro e w' ⟨rfl, C⟩
          exact ⟨_, rfl, rfl, C⟩)) ?_
        rintro v v1 ⟨rfl, C0⟩
        have E1 := E0.trans (C0.mono E0.size)
        have H1 := HS.out v1 E1
        refine ⟨H1, ?_⟩
        simp only [Act.put, List.setIfInBounds_toArray, List.set_cons_zero, List.set_cons_succ]
        refine hr_take_w 11 (some 80) (.bool false) rfl rfl (by kernel_rfl) (by kernel_rfl) (by kernel_rfl) rfl (fun W hW => by obtain ⟨h0, h1⟩ := hW; go_simp) H1 ?_
        simp only [Act.put, List.setIfInBounds_toArray, List.set_cons_zero, List.set_cons_succ]
        refine hr_take_w 12 (some 81) (.bool false) rfl rfl (by kernel_rfl) (by kernel_rfl) (by kernel_rfl) rfl (fun W hW => by obtain ⟨h0, h1⟩ := hW; go_simp) H1 ?_
        simp only [Act.put, List.setIfInBounds_toArray, List.set_cons_zero, List.set_cons_succ]
        refine hr_take_w 13 (some 82) (.slice (some ⟨b, off, none⟩) n0 c0) rfl rfl (by kernel_rfl) (by kernel_rfl) (by kernel_rfl) rfl (fun W hW => by obtain ⟨h0, h1⟩ := hW; go_simp) H1 ?_
        simp only [Act.put, List.setIfInBounds_toArray, List.set_cons_zero, List.set_cons_succ]
        refine hr_take_w 14 (some 83) (.int .i64 k) rfl rfl (by kernel_rfl) (by kernel_rfl) (by kernel_rfl) rfl (fun W hW => by obtain ⟨h0, h1⟩ := hW; go_simp) H1 ?_
        simp only [Act.put, List.setIfInBounds_toArray, List.set_cons_zero, List.set_cons_succ]
        refine hr_take_w 15 (some 84) (.slice (some ⟨b, off, none⟩) k c0) rfl rfl (by kernel_rfl) (by kernel_rfl) (by kernel_rfl) rfl (fun W hW => by obtain ⟨h0, h1⟩ := hW; simp [execOp, Act.eval, FS W]) H1 ?_
        simp only [Act.put, List.setIfInBounds_toArray, List.set_cons_zero, List.set_cons_succ]
        refine hr_take_w 16 (some 85) (.slice (some ⟨b, off, none⟩) n0 c0) rfl rfl (by kernel_rfl) (by kernel_rfl) (by kernel_rfl) rfl (fun W hW => by obtain ⟨h0, h1⟩ := hW; go_simp) H1 ?_
        simp only [Act.put, List.setIfInBounds_toArray, List.set_cons_zero, List.set_cons_succ]
        refine hr_take_w 17 (some 86) (.int .i64 k) rfl rfl (by kernel_rfl) (by kernel_rfl) (by kernel_rfl) rfl (fun W hW => by obtain ⟨h0, h1⟩ := hW; go_simp) H1 ?_
        simp only [Act.put, List.setIfInBounds_toArray, List.set_cons_zero, List.set_cons_succ]
        refine hr_take_w 18 (some 87) (.pointer (some ⟨b, off + k * 2, none⟩)) rfl rfl (by kernel_rfl) (by kernel_rfl) (by kernel_rfl) rfl (fun W hW => by obtain ⟨h0, h1⟩ := hW; go_simp) H1 ?_
        simp only [Act.put, List.setIfInBounds_toArray, List.set_cons_zero, List.set_cons_succ]
        refine hr_take_w 19 (some 88) (.pointer (some ⟨b, off + k * 2, none⟩)) rfl rfl (by kernel_rfl) (by kernel_rfl) (by kernel_rfl) rfl (fun W hW => by obtain ⟨h0, h1⟩ := hW; go_simp) H1 ?_
        simp only [Act.put, List.setIfInBounds_toArray, List.set_cons_zero, List.set_cons_succ]
        refine hr_take_w 20 (some 89) (.slice q.k.ao q.k.n q.k.cap) rfl rfl (by kernel_rfl) (by kernel_rfl) (by kernel_rfl) rfl (fun W hW => by obtain ⟨h0, h1⟩ := hW; go_simp) H1 ?_
        simp only [Act.put, List.setIfInBounds_toArray, List.set_cons_zero, List.set_cons_succ]
        refine hr_call_w 21 (some 90) 10 #[.slice (some ⟨b, off, none⟩) k c0, .slice q.k.ao q.k.n q.k.cap] rfl rfl (by kernel_rfl) rfl (by go_simp) (fun v w' => ∃ r, v = .int .i64 r ∧ FindPost (its.take k) q.k.xs r ∧ Below v1.heap.size v1 w') ((CF v1 E1).mono (by
          rintro e w' ⟨r, rfl, F, C⟩
          exact ⟨_, rfl, r, rfl, F, C⟩)) ?_
        rintro v v2 ⟨r, rfl, F1, C1⟩
        have E2 := E1.trans (C1.mono E1.size)
        have H2 := HS.out v2 E2
        refine ⟨H2, ?_⟩
        simp only [Act.put, List.setIfInBounds_toArray, List.set_cons_zero, List.set_cons_succ]
        rcases F1 with ⟨rfl, hF⟩ | ⟨kk, hkk, rfl, -, -⟩
        · have HF : Hid (∀ p ∈ its.take k, p.k.xs ≠ q.k.xs) := hF
          clear hF
          refine hr_take_w 22 (some 91) (.bool false) rfl rfl (by kernel_rfl) (by kernel_rfl) (by kernel_rfl) rfl (fun W hW => by obtain ⟨h0, h1⟩ := hW; go_simp) H2 ?_
          simp only [Act.put, List.setIfInBounds_toArray, List.set_cons_zero, List.set_cons_succ]
          refine hr_take_w 23 (some 92) (.bool false) rfl rfl (by kernel_rfl) (by kernel_rfl) (by kernel_rfl) rfl (fun W hW => by obtain ⟨h0, h1⟩ := hW; go_simp) H2 ?_
          simp only [Act.put, List.setIfInBounds_toArray, List.set_cons_zero, List.set_cons_succ]
          refine wpAnyH_done (by kernel_rfl) ?_ _
          refine NoPanic.normal ?_
          have hB2 := hB.trans (E2.mono hB.size)
          have e1 := (E2.cell (World.block_lt_of_cell? _ _ d1)).trans d1
          have e2 := (E2.cell (World.block_lt_of_cell? _ _ d2)).trans d2
          have TT2 := TT1.below E2
          have SQ2 := SQ.below E2
          have xCP : ∀ V, Below v2.heap.size v2 V → Calls Tryd.prog 11 #[.pointer po, .slice q.k.ao q.k.n q.k.cap, .slice q.v.ao q.v.n q.v.cap] V fun e w' => ∃ pu, e = .returned (.tuple #[.pointer pu, .int .i64 0]) ∧ TT w' (.pointer pu) (ins l q.it) ∧ Below V.heap.size V w' := fun V hV => (tput_any V (.pointer po) l q.it q.k.ao q.v.ao q.k.n q.k.cap q.v.n q.v.cap (HT.out.below (hB2.trans (hV.mono hB2.size)) t2) (TT2.below hV) HS1.out (SQ2.1.below hV) (SQ2.2.below hV) (by omega) (by omega) (by omega) 0 (jL_one ⟨by show 1 ≤ q.k.n; omega, by show q.k.n ≤ 256; omega, by show q.v.n ≤ 1024; omega⟩)).mono fun e w' ⟨pu, h1, h2, _, h4⟩ => ⟨pu, h1, h2 rfl, h4⟩
          have hEo := hBo.trans (E2.mono hBo.size)
          clear CF CA FS
          go_wp2_with fail
          have xHS : Hid (∀ V, Below v2.heap.size v2 V → V.cell? ⟨b, off + k * 2, none⟩ = some (.slice q.k.ao q.k.n q.k.cap) ∧ V.cell? ⟨b, off + k * 2 + 1, none⟩ = some (.slice q.v.ao q.v.n q.v.cap)) := fun V hV => ⟨(hV.cell (World.block_lt_of_cell? _ _ e1)).trans e1, (hV.cell (World.block_lt_of_cell? _ _ e2)).trans e2⟩
          have xE0 : Below v2.heap.size v2 v2.drew := (Below.refl _ _).drew
          refine wp_region_noPanic ?_
          refine wp_region_held_drew (S := fun V => V.cell? ⟨b, off + k * 2, none⟩ = some (.slice q.k.ao q.k.n q.k.cap) ∧ V.cell? ⟨b, off + k * 2 + 1, none⟩ = some (.slice q.v.ao q.v.n q.v.cap)) (by kernel_rfl) (xHS.out _ xE0) (fun xH0 => ?_)
          obtain ⟨xv0, hv0⟩ : ∃ v, v = v2.drew := ⟨_, rfl⟩
          rw [← hv0] at xH0 xE0 ⊢
          clear hv0
          refine hr_take_w 0 (some 95) (.pointer po) rfl rfl (by kernel_rfl) (by kernel_rfl) (by kernel_rfl) rfl (fun W hW => by obtain ⟨h0, h1⟩ := hW; go_simp) xH0 ?_
          simp only [Act.put, List.setIfInBounds_toArray, List.set_cons_zero, List.set_cons_succ]
          refine hr_take_w 1 (some 96) (.slice (some ⟨b, off, none⟩) n0 c0) rfl rfl (by kernel_rfl) (by kernel_rfl) (by kernel_rfl) rfl (fun W hW => by obtain ⟨h0, h1⟩ := hW; go_simp) xH0 ?_
          simp only [Act.put, List.setIfInBounds_toArray, List.set_cons_zero, List.set_cons_succ]
          refine hr_take_w 2 (some 97) (.int .i64 k) rfl rfl (by kernel_rfl) (by kernel_rfl) (by kernel_rfl) rfl (fun W hW => by obtain ⟨h0, h1⟩ := hW; go_simp) xH0 ?_
          simp only [Act.put, List.setIfInBounds_toArray, List.set_cons_zero, List.set_cons_succ]
          refine hr_take_w 3 (some 98) (.pointer (some ⟨b, off + k * 2, none⟩)) rfl rfl (by kernel_rfl) (by kernel_rfl) (by kernel_rfl) rfl (fun W hW => by obtain ⟨h0, h1⟩ := hW; go_simp) xH0 ?_
          simp only [Act.put, List.setIfInBounds_toArray, List.set_cons_zero, List.set_cons_succ]
          refine hr_take_w 4 (some 99) (.pointer (some ⟨b, off + k * 2, none⟩)) rfl rfl (by kernel_rfl) (by kernel_rfl) (by kernel_rfl) rfl (fun W hW => by obtain ⟨h0, h1⟩ := hW; go_simp) xH0 ?_
          simp only [Act.put, List.setIfInBounds_toArray, List.set_cons_zero, List.set_cons_succ]
          refine hr_take_w 5 (some 100) (.slice q.k.ao q.k.n q.k.cap) rfl rfl (by kernel_rfl) (by kernel_rfl) (by kernel_rfl) rfl (fun W hW => by obtain ⟨h0, h1⟩ := hW; go_simp) xH0 ?_
          simp only [Act.put, List.setIfInBounds_toArray, List.set_cons_zero, List.set_cons_succ]
          refine hr_take_w 6 (some 101) (.slice (some ⟨b, off, none⟩) n0 c0) rfl rfl (by kernel_rfl) (by kernel_rfl) (by kernel_rfl) rfl (fun W hW => by obtain ⟨h0, h1⟩ := hW; go_simp) xH0 ?_
          simp only [Act.put, List.setIfInBounds_toArray, List.set_cons_zero, List.set_cons_succ]
          refine hr_take_w 7 (some 102) (.int .i64 k) rfl rfl (by kernel_rfl) (by kernel_rfl) (by kernel_rfl) rfl (fun W hW => by obtain ⟨h0, h1⟩ := hW; go_simp) xH0 ?_
          simp only [Act.put, List.setIfInBounds_toArray, List.set_cons_zero, List.set_cons_succ]
          refine hr_take_w 8 (some 103) (.pointer (some ⟨b, off + k * 2, none⟩)) rfl rfl (by kernel_rfl) (by kernel_rfl) (by kernel_rfl) rfl (fun W hW => by obtain ⟨h0, h1⟩ := hW; go_simp) xH0 ?_
          simp only [Act.put, List.setIfInBounds_toArray, List.set_cons_zero, List.set_cons_succ]
          refine hr_take_w 9 (some 104) (.pointer (some ⟨b, off + k * 2 + 1, none⟩)) rfl rfl (by kernel_rfl) (by kernel_rfl) (by kernel_rfl) rfl (fun W hW => by obtain ⟨h0, h1⟩ := hW; go_simp) xH0 ?_
          simp only [Act.put, List.setIfInBounds_toArray, List.set_cons_zero, List.set_cons_succ]
          refine hr_take_w 10 (some 105) (.slice q.v.ao q.v.n q.v.cap) rfl rfl (by kernel_rfl) (by kernel_rfl) (by kernel_rfl) rfl (fun W hW => by obtain ⟨h0, h1⟩ := hW; go_simp) xH0 ?_
          simp only [Act.put, List.setIfInBounds_toArray, List.set_cons_zero, List.set_cons_succ]
          refine hr_call_w 11 (some 106) 11 #[.pointer po, .slice q.k.ao q.k.n q.k.cap, .slice q.v.ao q.v.n q.v.cap] rfl rfl (by kernel_rfl) rfl (by go_simp) (fun v w' => ∃ pu, v = .tuple #[.pointer pu, .int .i64 0] ∧ TT w' (.pointer pu) (ins l q.it) ∧ Below xv0.heap.size xv0 w') ((xCP xv0 xE0).mono (by
            rintro e w' ⟨pu, rfl, F, C⟩
            exact ⟨_, rfl, pu, rfl, F, C⟩)) ?_
          rintro v xv1 ⟨pu, rfl, xF0, xC0⟩
          have xE1 := xE0.trans (xC0.mono xE0.size)
          have xH1 := xHS.out xv1 xE1
          refine ⟨xH1, ?_⟩
          simp only [Act.put, List.setIfInBounds_toArray, List.set_cons_zero, List.set_cons_succ]
          refine hr_take_w 12 (some 94) (.tuple #[.pointer pu, .int .i64 0]) rfl rfl (by kernel_rfl) (by kernel_rfl) (by kernel_rfl) rfl (fun W hW => by obtain ⟨h0, h1⟩ := hW; go_simp) xH1 ?_
          simp only [Act.put, List.setIfInBounds_toArray, List.set_cons_zero, List.set_cons_succ]
          refine hr_take_w 13 (some 107) (.pointer pu) rfl rfl (by kernel_rfl) (by kernel_rfl) (by kernel_rfl) rfl (fun W hW => by obtain ⟨h0, h1⟩ := hW; go_simp) xH1 ?_
          simp only [Act.put, List.setIfInBounds_toArray, List.set_cons_zero, List.set_cons_succ]
          refine hr_take_w 14 (some 108) (.int .i64 0) rfl rfl (by kernel_rfl) (by kernel_rfl) (by kernel_rfl) rfl (fun W hW => by obtain ⟨h0, h1⟩ := hW; go_simp) xH1 ?_
          simp only [Act.put, List.setIfInBounds_toArray, List.set_cons_zero, List.set_cons_succ]
          refine hr_take_w 15 (some 9) (.pointer pu) rfl rfl (by kernel_rfl) (by kernel_rfl) (by kernel_rfl) rfl (fun W hW => by obtain ⟨h0, h1⟩ := hW; go_simp) xH1 ?_
          simp only [Act.put, List.setIfInBounds_toArray, List.set_cons_zero, List.set_cons_succ]
          refine wpAnyH_done (by kernel_rfl) ?_ _
          refine NoPanic.normal ?_
          have hEo2 := hEo.trans (xE1.mono hEo.size)
          have HZ1 : Hid ((ins l q.it).Perm ((its.take (k + 1)).map IP.it)) := by rw [HT2.out]; exact perm_next HP1.out HF.out
          have HZ2 : Hid (Gd7 (its.take (k + 1))) := by rw [HT2.out]; exact HG1.out.snoc hz HF.out
          clear e1 e2 d1 d2
          go_wp2
          go_roundw
          case rel => exact ⟨k + 1, pu, ins l q.it, by omega, by go_num, rfl, xF0, HS1.out.ofIns q.it, HZ1, HZ2, hEo2⟩
          case measure => simp [intOf]; omega
        · skip
          refine hr_take_w 22 (some 91) (.bool true) rfl rfl (by kernel_rfl) (by kernel_rfl) (by kernel_rfl) rfl (fun W hW => by obtain ⟨h0, h1⟩ := hW; go_simp) H2 ?_
          simp only [Act.put, List.setIfInBounds_toArray, List.set_cons_zero, List.set_cons_succ]
          refine hr_take_w 23 (some 92) (.bool true) rfl rfl (by kernel_rfl) (by kernel_rfl) (by kernel_rfl) rfl (fun W hW => by obtain ⟨h0, h1⟩ := hW; go_simp) H2 ?_
          simp only [Act.put, List.setIfInBounds_toArray, List.set_cons_zero, List.set_cons_succ]
          refine wpAnyH_done (by kernel_rfl) ?_ _
          refine NoPanic.normal ?_
          have AL := alive7 v2 (HT.out.below (hB.trans (E2.mono hB.size)) t2)
          go_wp2_with fail
          refine AL.mono ?_
          rintro e wz ⟨rfl, CZ⟩
          have BZ := (hB.trans (E2.mono hB.size)).trans (CZ.mono (hB.trans (E2.mono hB.size)).size)
          go_wp2
          go_ret
          exact ⟨rfl, BZ⟩
      · obtain ⟨ka, hke⟩ : ∃ ka, ka = askK q.k.n q.v.n := ⟨_, rfl⟩
        have CA : ∀ V, Below wr.heap.size wr V → Calls Tryd.prog 9 #[.slice q.k.ao q.k.n q.k.cap, .slice q.v.ao q.v.n q.v.cap] V fun e w' => e = .returned (.int .i64 ka) ∧ Below V.heap.size V w' := fun V hV => by
          have := asked7_any V q.k.ao q.v.ao q.k.n q.k.cap q.v.n q.v.cap
          rw [← hke] at this
          exact this.mono fun e w' ⟨h1, h2⟩ => ⟨h1, by rw [h2]; exact Below.refl _ _⟩
        have hka : (ka != 0) = true := by rw [hke]; simpa using hk0
        clear hke hk0 FS CF
        go_wp2_with fail
        have HS : Hid (∀ V, Below wr.heap.size wr V → V.cell? ⟨b, off + k * 2, none⟩ = some (.slice q.k.ao q.k.n q.k.cap) ∧ V.cell? ⟨b, off + k * 2 + 1, none⟩ = some (.slice q.v.ao q.v.n q.v.cap)) := fun V hV => ⟨(hV.cell (World.block_lt_of_cell? _ _ d1)).trans d1, (hV.cell (World.block_lt_of_cell? _ _ d2)).trans d2⟩
        have E0 : Below wr.heap.size wr wr.drew := (Below.refl _ _).drew
        refine wp_region_noPanic ?_
        refine wp_region_held_drew (S := fun V => V.cell? ⟨b, off + k * 2, none⟩ = some (.slice q.k.ao q.k.n q.k.cap) ∧ V.cell? ⟨b, off + k * 2 + 1, none⟩ = some (.slice q.v.ao q.v.n q.v.cap)) (by kernel_rfl) (HS.out _ E0) (fun H0 => ?_)
        obtain ⟨v0, hv0⟩ : ∃ v, v = wr.drew := ⟨_, rfl⟩
        rw [← hv0] at H0 E0 ⊢
        clear hv0
        refine hr_take_w 0 (some 69) (.slice (some ⟨b, off, none⟩) n0 c0) rfl rfl (by kernel_rfl) (by kernel_rfl) (by kernel_rfl) rfl (fun W hW => by obtain ⟨h0, h1⟩ := hW; go_simp) H0 ?_
        simp only [Act.put, List.setIfInBounds_toArray, List.set_cons_zero, List.set_cons_succ]
        refine hr_take_w 1 (some 70) (.int .i64 k) rfl rfl (by kernel_rfl) (by kernel_rfl) (by kernel_rfl) rfl (fun W hW => by obtain ⟨h0, h1⟩ := hW; go_simp) H0 ?_
        simp only [Act.put, List.setIfInBounds_toArray, List.set_cons_zero, List.set_cons_succ]
        refine hr_take_w 2 (some 71) (.pointer (some ⟨b, off + k * 2, none⟩)) rfl rfl (by kernel_rfl) (by kernel_rfl) (by kernel_rfl) rfl (fun W hW => by obtain ⟨h0, h1⟩ := hW; go_simp) H0 ?_
        simp only [Act.put, List.setIfInBounds_toArray, List.set_cons_zero, List.set_cons_succ]
        refine hr_take_w 3 (some 72) (.pointer (some ⟨b, off + k * 2, none⟩)) rfl rfl (by kernel_rfl) (by kernel_rfl) (by kernel_rfl) rfl (fun W hW => by obtain ⟨h0, h1⟩ := hW; go_simp) H0 ?_
        simp only [Act.put, List.setIfInBounds_toArray, List.set_cons_zero, List.set_cons_succ]
        refine hr_take_w 4 (some 73) (.slice q.k.ao q.k.n q.k.cap) rfl rfl (by kernel_rfl) (by kernel_rfl) (by kernel_rfl) rfl (fun W hW => by obtain ⟨h0, h1⟩ := hW; go_simp) H0 ?_
        simp only [Act.put, List.setIfInBounds_toArray, List.set_cons_zero, List.set_cons_succ]
        refine hr_take_w 5 (some 74) (.slice (some ⟨b, off, none⟩) n0 c0) rfl rfl (by kernel_rfl) (by kernel_rfl) (by kernel_rfl) rfl (fun W hW => by obtain ⟨h0, h1⟩ := hW; go_simp) H0 ?_
        simp only [Act.put, List.setIfInBounds_toArray, List.set_cons_zero, List.set_cons_succ]
        refine hr_take_w 6 (some 75) (.int .i64 k) rfl rfl (by kernel_rfl) (by kernel_rfl) (by kernel_rfl) rfl (fun W hW => by obtain ⟨h0, h1⟩ := hW; go_simp) H0 ?_
        simp only [Act.put, List.setIfInBounds_toArray, List.set_cons_zero, List.set_cons_succ]
        refine hr_take_w 7 (some 76) (.pointer (some ⟨b, off + k * 2, none⟩)) rfl rfl (by kernel_rfl) (by kernel_rfl) (by kernel_rfl) rfl (fun W hW => by obtain ⟨h0, h1⟩ := hW; go_simp) H0 ?_
        simp only [Act.put, List.setIfInBounds_toArray, List.set_cons_zero, List.set_cons_succ]
        refine hr_take_w 8 (some 77) (.pointer (some ⟨b, off + k * 2 + 1, none⟩)) rfl rfl (by kernel_rfl) (by kernel_rfl) (by kernel_rfl) rfl (fun W hW => by obtain ⟨h0, h1⟩ := hW; go_simp) H0 ?_
        simp only [Act.put, List.setIfInBounds_toArray, List.set_cons_zero, List.set_cons_succ]
        refine hr_take_w 9 (some 78) (.slice q.v.ao q.v.n q.v.cap) rfl rfl (by kernel_rfl) (by kernel_rfl) (by kernel_rfl) rfl (fun W hW => by obtain ⟨h0, h1⟩ := hW; go_simp) H0 ?_
        simp only [Act.put, List.setIfInBounds_toArray, List.set_cons_zero, List.set_cons_succ]
        refine hr_call_w 10 (some 79) 9 #[.slice q.k.ao q.k.n q.k.cap, .slice q.v.ao q.v.n q.v.cap] rfl rfl (by kernel_rfl) rfl (by go_simp) (fun v w' => v = .int .i64 ka ∧ Below v0.heap.size v0 w') ((CA v0 E0).mono (by
          rintro e w' ⟨rfl, C⟩
          exact ⟨_, rfl, rfl, C⟩)) ?_
        rintro v v1 ⟨rfl, C0⟩
        have E1 := E0.trans (C0.mono E0.size)
        have H1 := HS.out v1 E1
        refine ⟨H1, ?_⟩
        simp only [Act.put, List.setIfInBounds_toArray, List.set_cons_zero, List.set_cons_succ]
        refine hr_take_w 11 (some 80) (.bool true) rfl rfl (by kernel_rfl) (by kernel_rfl) (by kernel_rfl) rfl (fun W hW => by obtain ⟨h0, h1⟩ := hW; go_simp) H1 ?_
        simp only [Act.put, List.setIfInBounds_toArray, List.set_cons_zero, List.set_cons_succ]
        refine hr_take_w 12 (some 81) (.bool true) rfl rfl (by kernel_rfl) (by kernel_rfl) (by kernel_rfl) rfl (fun W hW => by obtain ⟨h0, h1⟩ := hW; go_simp) H1 ?_
        simp only [Act.put, List.setIfInBounds_toArray, List.set_cons_zero, List.set_cons_succ]
        refine hr_none 13 (some 82) rfl rfl (by kernel_rfl) (by kernel_rfl) (by kernel_rfl) rfl H1 ?_
        simp only [Act.put, List.setIfInBounds_toArray, List.set_cons_zero, List.set_cons_succ]
        refine hr_none 14 (some 83) rfl rfl (by kernel_rfl) (by kernel_rfl) (by kernel_rfl) rfl H1 ?_
        simp only [Act.put, List.setIfInBounds_toArray, List.set_cons_zero, List.set_cons_succ]
        refine hr_none 15 (some 84) rfl rfl (by kernel_rfl) (by kernel_rfl) (by kernel_rfl) rfl H1 ?_
        simp only [Act.put, List.setIfInBounds_toArray, List.set_cons_zero, List.set_cons_succ]
        refine hr_none 16 (some 85) rfl rfl (by kernel_rfl) (by kernel_rfl) (by kernel_rfl) rfl H1 ?_
        simp only [Act.put, List.setIfInBounds_toArray, List.set_cons_zero, List.set_cons_succ]
        refine hr_none 17 (some 86) rfl rfl (by kernel_rfl) (by kernel_rfl) (by kernel_rfl) rfl H1 ?_
        simp only [Act.put, List.setIfInBounds_toArray, List.set_cons_zero, List.set_cons_succ]
        refine hr_none 18 (some 87) rfl rfl (by kernel_rfl) (by kernel_rfl) (by kernel_rfl) rfl H1 ?_
        simp only [Act.put, List.setIfInBounds_toArray, List.set_cons_zero, List.set_cons_succ]
        refine hr_none 19 (some 88) rfl rfl (by kernel_rfl) (by kernel_rfl) (by kernel_rfl) rfl H1 ?_
        simp only [Act.put, List.setIfInBounds_toArray, List.set_cons_zero, List.set_cons_succ]
        refine hr_none 20 (some 89) rfl rfl (by kernel_rfl) (by kernel_rfl) (by kernel_rfl) rfl H1 ?_
        simp only [Act.put, List.setIfInBounds_toArray, List.set_cons_zero, List.set_cons_succ]
        refine hr_none 21 (some 90) rfl rfl (by kernel_rfl) (by kernel_rfl) (by kernel_rfl) rfl H1 ?_
        simp only [Act.put, List.setIfInBounds_toArray, List.set_cons_zero, List.set_cons_succ]
        refine hr_none 22 (some 91) rfl rfl (by kernel_rfl) (by kernel_rfl) (by kernel_rfl) rfl H1 ?_
        simp only [Act.put, List.setIfInBounds_toArray, List.set_cons_zero, List.set_cons_succ]
        refine hr_take_w 23 (some 92) (.bool true) rfl rfl (by kernel_rfl) (by kernel_rfl) (by kernel_rfl) rfl (fun W hW => by obtain ⟨h0, h1⟩ := hW; go_simp) H1 ?_
        simp only [Act.put, List.setIfInBounds_toArray, List.set_cons_zero, List.set_cons_succ]
        refine wpAnyH_done (by kernel_rfl) ?_ _
        refine NoPanic.normal ?_
        have AL := alive7 v1 (HT.out.below (hB.trans (E1.mono hB.size)) t2)
        go_wp2_with fail
        refine AL.mono ?_
        rintro e wz ⟨rfl, CZ⟩
        have BZ := (hB.trans (E1.mono hB.size)).trans (CZ.mono (hB.trans (E1.mono hB.size)).size)
        go_wp2
        go_ret
        exact ⟨rfl, BZ⟩
    · have hge : ¬ (k : Int) < (n0 : Int) := by omega
      obtain rfl : k = n0 := by omega
      have hall : its.take k = its := List.take_of_length_le (by have := HLN.out; omega)
      have HPL : Hid (l.Perm (its.map IP.it)) := by have := HP1.out; rwa [hall] at this
      have HGD : Hid (Gd7 its) := by have := HG1.out; rwa [hall] at this
      have hll : l.length = k := by have := HPL.out.length_eq; rw [List.length_map] at this; have := HLN.out; omega
      have hmk : ms.length = k := IM2.len
      clear HP1 HG1 hall hkn
      go_wp2_with fail
      obtain ⟨wp, rfl⟩ : ∃ W, W = wr := ⟨wr, rfl⟩
      go_loopw [12, 13] (fun u i wr => ∃ (k' : Nat) (pv : Option Addr) (l2 : List It), k' ≤ k ∧ i = .int .i64 k' ∧ u = .pointer pv ∧ TT wr (.pointer pv) l2 ∧ Hid (Mix2 its ((ms.take k').map IP.it) (more.map fun p => p.k.xs) l2) ∧ l2.length ≤ 2 * k' ∧ Below wp.heap.size wp wr) (fun _ i _ => k - (intOf i).toNat)
      case atStart => exact ⟨0, none, [], Nat.zero_le _, rfl, rfl, TT.nil _, ⟨List.Pairwise.nil, fun _ h => by simp at h, fun _ h => by simp at h⟩, Nat.zero_le _, Below.refl _ _⟩
      case round =>
        obtain ⟨k', pv, l2, hkn, rfl, rfl, TU1, HM1, hl2, hBp⟩ := hrel
        have hBr := hB.trans (hBp.mono hB.size)
        by_cases hlt : k' < k
        · have hki : (k' : Int) < (k : Int) := by omega
          have hkm : k' < ms.length := by omega
          have IMr := (IM2.below hBo).below hBp
          have mm := IMr.cell _ rfl k' hkm
          rw [Addr.add_lit, Addr.add_lit, Nat.zero_add, Nat.zero_add] at mm
          have SR : ms[k'].ok wr := IMr.sl ms[k'] (List.getElem_mem hkm)
          have HT3 : Hid (ms.take (k' + 1) = ms.take k' ++ [ms[k']]) := by show _ = _; rw [List.take_succ_eq_append_getElem hkm]
          have HRM : Hid (ms[k'] ∈ its) := HP.out.mem_iff.1 (List.getElem_mem hkm)
          have HPI : Hid (∀ x ∈ (ms.take k').map IP.it, ∃ p ∈ its, p.it = x) := fun x hx => by
            obtain ⟨p, hp, rfl⟩ := List.mem_map.1 hx
            exact ⟨p, HP.out.mem_iff.1 (List.mem_of_mem_take hp), rfl⟩
          obtain ⟨r, hre⟩ : ∃ r, r = ms[k'] := ⟨_, rfl⟩
          rw [← hre] at mm SR HT3 HRM
          obtain ⟨mm1, mm2⟩ := mm
          unfold Part.val at mm1 mm2
          have hrz := HGD.out.sz r HRM.out
          clear hre IMr
          by_cases hk1 : k' < n1
          · have hki1 : (k' : Int) < (n1 : Int) := by omega
            have hkl : k' < more.length := by have := HLN1.out; omega
            have IL1 := h1.below hBr
            obtain ⟨b1, off1, rfl, hc⟩ := IL1.at (by omega)
            obtain ⟨d1, d2⟩ := hc k' hkl
            have SQ : more[k'].ok wr := IL1.sl more[k'] (List.getElem_mem hkl)
            have HQM : Hid (more[k'] ∈ more) := List.getElem_mem hkl
            obtain ⟨q, hqe⟩ : ∃ q, q = more[k'] := ⟨_, rfl⟩
            rw [← hqe] at d1 d2 SQ HQM
            unfold Part.val at d1 d2
            have IL0 := h0.below hBr
            have CF : ∀ V, Below wr.heap.size wr V → Calls Tryd.prog 10 #[.slice (some ⟨b, off, none⟩) k c0, .slice q.k.ao q.k.n q.k.cap] V fun e w' => ∃ r, e = .returned (.int .i64 r) ∧ FindPost its q.k.xs r ∧ Below V.heap.size V w' := fun V hV => rfind7_any V _ k c0 its q.k.ao q.k.n q.k.cap q.k.xs (IL0.below hV) (SQ.1.below hV)
            clear hqe hc
            by_cases hk0 : askK q.k.n q.v.n = 0
            · have CA : ∀ V, Below wr.heap.size wr V → Calls Tryd.prog 9 #[.slice q.k.ao q.k.n q.k.cap, .slice q.v.ao q.v.n q.v.cap] V fun e w' => e = .returned (.int .i64 0) ∧ Below V.heap.size V w' := fun V hV => by
                have := asked7_any V q.k.ao q.v.ao q.k.n q.k.cap q.v.n q.v.cap
                rw [hk0] at this
                exact this.mono fun e w' ⟨h1, h2⟩ => ⟨h1, by rw [h2]; exact Below.refl _ _⟩
              have hz := askK_ok hk0
              clear hk0
              go_wp2_with fail
              have HS : Hid (∀ V, Below wr.heap.size wr V → V.cell? ⟨b1, off1 + k' * 2, none⟩ = some (.slice q.k.ao q.k.n q.k.cap) ∧ V.cell? ⟨b1, off1 + k' * 2 + 1, none⟩ = some (.slice q.v.ao q.v.n q.v.cap)) := fun V hV => ⟨(hV.cell (World.block_lt_of_cell? _ _ d1)).trans d1, (hV.cell (World.block_lt_of_cell? _ _ d2)).trans d2⟩
              have E0 : Below wr.heap.size wr wr.drew := (Below.refl _ _).drew
              refine wp_region_noPanic ?_
              refine wp_region_held_drew (S := fun V => V.cell? ⟨b1, off1 + k' * 2, none⟩ = some (.slice q.k.ao q.k.n q.k.cap) ∧ V.cell? ⟨b1, off1 + k' * 2 + 1, none⟩ = some (.slice q.v.ao q.v.n q.v.cap)) (by kernel_rfl) (HS.out _ E0) (fun H0 => ?_)
              obtain ⟨v0, hv0⟩ : ∃ v, v = wr.drew := ⟨_, rfl⟩
              rw [← hv0] at H0 E0 ⊢
              clear hv0
              refine hr_take_w 0 (some 115) (.int .i64 k') rfl rfl (by kernel_rfl) (by kernel_rfl) (by kernel_rfl) rfl (fun W hW => by obtain ⟨h0, h1⟩ := hW; go_simp) H0 ?_
              simp only [Act.put, List.setIfInBounds_toArray, List.set_cons_zero, List.set_cons_succ]
              refine hr_take_w 1 (some 116) (.slice (some ⟨b1, off1, none⟩) n1 c1) rfl rfl (by kernel_rfl) (by kernel_rfl) (by kernel_rfl) rfl (fun W hW => by obtain ⟨h0, h1⟩ := hW; go_simp) H0 ?_
              simp only [Act.put, List.setIfInBounds_toArray, List.set_cons_zero, List.set_cons_succ]
              refine hr_take_w 2 (some 117) (.int .i64 n1) rfl rfl (by kernel_rfl) (by kernel_rfl) (by kernel_rfl) rfl (fun W hW => by obtain ⟨h0, h1⟩ := hW; go_simp) H0 ?_
              simp only [Act.put, List.setIfInBounds_toArray, List.set_cons_zero, List.set_cons_succ]
              refine hr_take_w 3 (some 118) (.bool true) rfl rfl (by kernel_rfl) (by kernel_rfl) (by kernel_rfl) rfl (fun W hW => by obtain ⟨h0, h1⟩ := hW; go_simp) H0 ?_
              simp only [Act.put, List.setIfInBounds_toArray, List.set_cons_zero, List.set_cons_succ]
              refine hr_take_w 4 (some 119) (.bool true) rfl rfl (by kernel_rfl) (by kernel_rfl) (by kernel_rfl) rfl (fun W hW => by obtain ⟨h0, h1⟩ := hW; go_simp) H0 ?_
              simp only [Act.put, List.setIfInBounds_toArray, List.set_cons_zero, List.set_cons_succ]
              refine hr_take_w 5 (some 120) (.slice (some ⟨b1, off1, none⟩) n1 c1) rfl rfl (by kernel_rfl) (by kernel_rfl) (by kernel_rfl) rfl (fun W hW => by obtain ⟨h0, h1⟩ := hW; go_simp) H0 ?_
              simp only [Act.put, List.setIfInBounds_toArray, List.set_cons_zero, List.set_cons_succ]
              refine hr_take_w 6 (some 121) (.int .i64 k') rfl rfl (by kernel_rfl) (by kernel_rfl) (by kernel_rfl) rfl (fun W hW => by obtain ⟨h0, h1⟩ := hW; go_simp) H0 ?_
              simp only [Act.put, List.setIfInBounds_toArray, List.set_cons_zero, List.set_cons_succ]
              refine hr_take_w 7 (some 122) (.pointer (some ⟨b1, off1 + k' * 2, none⟩)) rfl rfl (by kernel_rfl) (by kernel_rfl) (by kernel_rfl) rfl (fun W hW => by obtain ⟨h0, h1⟩ := hW; go_simp) H0 ?_
              simp only [Act.put, List.setIfInBounds_toArray, List.set_cons_zero, List.set_cons_succ]
              refine hr_take_w 8 (some 123) (.pointer (some ⟨b1, off1 + k' * 2, none⟩)) rfl rfl (by kernel_rfl) (by kernel_rfl) (by kernel_rfl) rfl (fun W hW => by obtain ⟨h0, h1⟩ := hW; go_simp) H0 ?_
              simp only [Act.put, List.setIfInBounds_toArray, List.set_cons_zero, List.set_cons_succ]
              refine hr_take_w 9 (some 124) (.slice q.k.ao q.k.n q.k.cap) rfl rfl (by kernel_rfl) (by kernel_rfl) (by kernel_rfl) rfl (fun W hW => by obtain ⟨h0, h1⟩ := hW; go_simp) H0 ?_
              simp only [Act.put, List.setIfInBounds_toArray, List.set_cons_zero, List.set_cons_succ]
              refine hr_take_w 10 (some 125) (.slice (some ⟨b1, off1, none⟩) n1 c1) rfl rfl (by kernel_rfl) (by kernel_rfl) (by kernel_rfl) rfl (fun W hW => by obtain ⟨h0, h1⟩ := hW; go_simp) H0 ?_
              simp only [Act.put, List.setIfInBounds_toArray, List.set_cons_zero, List.set_cons_succ]
              refine hr_take_w 11 (some 126) (.int .i64 k') rfl rfl (by kernel_rfl) (by kernel_rfl) (by kernel_rfl) rfl (fun W hW => by obtain ⟨h0, h1⟩ := hW; go_simp) H0 ?_
              simp only [Act.put, List.setIfInBounds_toArray, List.set_cons_zero, List.set_cons_succ]
              refine hr_take_w 12 (some 127) (.pointer (some ⟨b1, off1 + k' * 2, none⟩)) rfl rfl (by kernel_rfl) (by kernel_rfl) (by kernel_rfl) rfl (fun W hW => by obtain ⟨h0, h1⟩ := hW; go_simp) H0 ?_
              simp only [Act.put, List.setIfInBounds_toArray, List.set_cons_zero, List.set_cons_succ]
              refine hr_take_w 13 (some 128) (.pointer (some ⟨b1, off1 + k' * 2 + 1, none⟩)) rfl rfl (by kernel_rfl) (by kernel_rfl) (by kernel_rfl) rfl (fun W hW => by obtain ⟨h0, h1⟩ := hW; go_simp) H0 ?_
              simp only [Act.put, List.setIfInBounds_toArray, List.set_cons_zero, List.set_cons_succ]
              refine hr_take_w 14 (some 129) (.slice q.v.ao q.v.n q.v.cap) rfl rfl (by kernel_rfl) (by kernel_rfl) (by kernel_rfl) rfl (fun W hW => by obtain ⟨h0, h1⟩ := hW; go_simp) H0 ?_
              simp only [Act.put, List.setIfInBounds_toArray, List.set_cons_zero, List.set_cons_succ]
              refine hr_call_w 15 (some 130) 9 #[.slice q.k.ao q.k.n q.k.cap, .slice q.v.ao q.v.n q.v.cap] rfl rfl (by kernel_rfl) rfl (by go_simp) (fun v w' => v = .int .i64 0 ∧ Below v0.heap.size v0 w') ((CA v0 E0).mono (by
                rintro e w' ⟨rfl, C⟩
                exact ⟨_, rfl, rfl, C⟩)) ?_
              rintro v v1 ⟨rfl, C0⟩
              have E1 := E0.trans (C0.mono E0.size)
              have H1 := HS.out v1 E1
              refine ⟨H1, ?_⟩
              simp only [Act.put, List.setIfInBounds_toArray, List.set_cons_zero, List.set_cons_succ]
              refine hr_take_w 16 (some 131) (.bool true) rfl rfl (by kernel_rfl) (by kernel_rfl) (by kernel_rfl) rfl (fun W hW => by obtain ⟨h0, h1⟩ := hW; go_simp) H1 ?_
              simp only [Act.put, List.setIfInBounds_toArray, List.set_cons_zero, List.set_cons_succ]
              refine hr_take_w 17 (some 132) (.bool true) rfl rfl (by kernel_rfl) (by kernel_rfl) (by kernel_rfl) rfl (fun W hW => by obtain ⟨h0, h1⟩ := hW; go_simp) H1 ?_
              simp only [Act.put, List.setIfInBounds_toArray, List.set_cons_zero, List.set_cons_succ]
              refine hr_take_w 18 (some 133) (.bool true) rfl rfl (by kernel_rfl) (by kernel_rfl) (by kernel_rfl) rfl (fun W hW => by obtain ⟨h0, h1⟩ := hW; go_simp) H1 ?_
              simp only [Act.put, List.setIfInBounds_toArray, List.set_cons_zero, List.set_cons_succ]
              refine hr_take_w 19 (some 134) (.slice (some ⟨b, off, none⟩) k c0) rfl rfl (by kernel_rfl) (by kernel_rfl) (by kernel_rfl) rfl (fun W hW => by obtain ⟨h0, h1⟩ := hW; go_simp) H1 ?_
              simp only [Act.put, List.setIfInBounds_toArray, List.set_cons_zero, List.set_cons_succ]
              refine hr_take_w 20 (some 135) (.slice (some ⟨b1, off1, none⟩) n1 c1) rfl rfl (by kernel_rfl) (by kernel_rfl) (by kernel_rfl) rfl (fun W hW => by obtain ⟨h0, h1⟩ := hW; go_simp) H1 ?_
              simp only [Act.put, List.setIfInBounds_toArray, List.set_cons_zero, List.set_cons_succ]
              refine hr_take_w 21 (some 136) (.int .i64 k') rfl rfl (by kernel_rfl) (by kernel_rfl) (by kernel_rfl) rfl (fun W hW => by obtain ⟨h0, h1⟩ := hW; go_simp) H1 ?_
              simp only [Act.put, List.setIfInBounds_toArray, List.set_cons_zero, List.set_cons_succ]
              refine hr_take_w 22 (some 137) (.pointer (some ⟨b1, off1 + k' * 2, none⟩)) rfl rfl (by kernel_rfl) (by kernel_rfl) (by kernel_rfl) rfl (fun W hW => by obtain ⟨h0, h1⟩ := hW; go_simp) H1 ?_
              simp only [Act.put, List.setIfInBounds_toArray, List.set_cons_zero, List.set_cons_succ]
              refine hr_take_w 23 (some 138) (.pointer (some ⟨b1, off1 + k' * 2, none⟩)) rfl rfl (by kernel_rfl) (by kernel_rfl) (by kernel_rfl) rfl (fun W hW => by obtain ⟨h0, h1⟩ := hW; go_simp) H1 ?_
              simp only [Act.put, List.setIfInBounds_toArray, List.set_cons_zero, List.set_cons_succ]
              refine hr_take_w 24 (some 139) (.slice q.k.ao q.k.n q.k.cap) rfl rfl (by kernel_rfl) (by kernel_rfl) (by kernel_rfl) rfl (fun W hW => by obtain ⟨h0, h1⟩ := hW; go_simp) H1 ?_
              simp only [Act.put, List.setIfInBounds_toArray, List.set_cons_zero, List.set_cons_succ]
              refine hr_call_w 25 (some 140) 10 #[.slice (some ⟨b, off, none⟩) k c0, .slice q.k.ao q.k.n q.k.cap] rfl rfl (by kernel_rfl) rfl (by go_simp) (fun v w' => ∃ r0, v = .int .i64 r0 ∧ FindPost its q.k.xs r0 ∧ Below v1.heap.size v1 w') ((CF v1 E1).mono (by
                rintro e w' ⟨r0, rfl, F, C⟩
                exact ⟨_, rfl, r0, rfl, F, C⟩)) ?_
              rintro v v2 ⟨r0, rfl, F1, C1⟩
              have E2 := E1.trans (C1.mono E1.size)
              have H2 := HS.out v2 E2
              refine ⟨H2, ?_⟩
              simp only [Act.put, List.setIfInBounds_toArray, List.set_cons_zero, List.set_cons_succ]
              rcases F1 with ⟨rfl, hF⟩ | ⟨kk, hkk, rfl, -, -⟩
              · have HF : Hid (∀ p ∈ its, p.k.xs ≠ q.k.xs) := hF
                clear hF
                refine hr_take_w 26 (some 141) (.bool true) rfl rfl (by kernel_rfl) (by kernel_rfl) (by kernel_rfl) rfl (fun W hW => by obtain ⟨h0, h1⟩ := hW; go_simp) H2 ?_
                simp only [Act.put, List.setIfInBounds_toArray, List.set_cons_zero, List.set_cons_succ]
                refine hr_take_w 27 (some 142) (.bool true) rfl rfl (by kernel_rfl) (by kernel_rfl) (by kernel_rfl) rfl (fun W hW => by obtain ⟨h0, h1⟩ := hW; go_simp) H2 ?_
                simp only [Act.put, List.setIfInBounds_toArray, List.set_cons_zero, List.set_cons_succ]
                refine wpAnyH_done (by kernel_rfl) ?_ _
                refine NoPanic.normal ?_
                have hB2 := hBr.trans (E2.mono hBr.size)
                have e1 := (E2.cell (World.block_lt_of_cell? _ _ d1)).trans d1
                have e2 := (E2.cell (World.block_lt_of_cell? _ _ d2)).trans d2
                have TU2 := TU1.below E2
                have SQ2 := SQ.below E2
                have xCP : ∀ V, Below v2.heap.size v2 V → Calls Tryd.prog 11 #[.pointer pv, .slice q.k.ao q.k.n q.k.cap, .slice q.v.ao q.v.n q.v.cap] V fun e w' => ∃ pu, e = .returned (.tuple #[.pointer pu, .int .i64 0]) ∧ TT w' (.pointer pu) (ins l2 q.it) ∧ Below V.heap.size V w' := fun V hV => (tput_any V (.pointer pv) l2 q.it q.k.ao q.v.ao q.k.n q.k.cap q.v.n q.v.cap (HT.out.below (hB2.trans (hV.mono hB2.size)) t2) (TU2.below hV) HM1.out.srt (SQ2.1.below hV) (SQ2.2.below hV) (by omega) (by omega) (by omega) 0 (jL_one ⟨by show 1 ≤ q.k.n; omega, by show q.k.n ≤ 256; omega, by show q.v.n ≤ 1024; omega⟩)).mono fun e w' ⟨pu, h1, h2, _, h4⟩ => ⟨pu, h1, h2 rfl, h4⟩
                clear CF CA
                go_wp2_with fail
                have xHS : Hid (∀ V, Below v2.heap.size v2 V → V.cell? ⟨b1, off1 + k' * 2, none⟩ = some (.slice q.k.ao q.k.n q.k.cap) ∧ V.cell? ⟨b1, off1 + k' * 2 + 1, none⟩ = some (.slice q.v.ao q.v.n q.v.cap)) := fun V hV => ⟨(hV.cell (World.block_lt_of_cell? _ _ e1)).trans e1, (hV.cell (World.block_lt_of_cell? _ _ e2)).trans e2⟩
                have xE0 : Below v2.heap.size v2 v2.drew := (Below.refl _ _).drew
                refine wp_region_noPanic ?_
                refine wp_region_held_drew (S := fun V => V.cell? ⟨b1, off1 + k' * 2, none⟩ = some (.slice q.k.ao q.k.n q.k.cap) ∧ V.cell? ⟨b1, off1 + k' * 2 + 1, none⟩ = some (.slice q.v.ao q.v.n q.v.cap)) (by kernel_rfl) (xHS.out _ xE0) (fun xH0 => ?_)
                obtain ⟨xv0, hv0⟩ : ∃ v, v = v2.drew := ⟨_, rfl⟩
                rw [← hv0] at xH0 xE0 ⊢
                clear hv0
                refine hr_take_w 0 (some 144) (.pointer pv) rfl rfl (by kernel_rfl) (by kernel_rfl) (by kernel_rfl) rfl (fun W hW => by obtain ⟨h0, h1⟩ := hW; go_simp) xH0 ?_
                simp only [Act.put, List.setIfInBounds_toArray, List.set_cons_zero, List.set_cons_succ]
                refine hr_take_w 1 (some 145) (.slice (some ⟨b1, off1, none⟩) n1 c1) rfl rfl (by kernel_rfl) (by kernel_rfl) (by kernel_rfl) rfl (fun W hW => by obtain ⟨h0, h1⟩ := hW; go_simp) xH0 ?_
                simp only [Act.put, List.setIfInBounds_toArray, List.set_cons_zero, List.set_cons_succ]
                refine hr_take_w 2 (some 146) (.int .i64 k') rfl rfl (by kernel_rfl) (by kernel_rfl) (by kernel_rfl) rfl (fun W hW => by obtain ⟨h0, h1⟩ := hW; go_simp) xH0 ?_
                simp only [Act.put, List.setIfInBounds_toArray, List.set_cons_zero, List.set_cons_succ]
                refine hr_take_w 3 (some 147) (.pointer (some ⟨b1, off1 + k' * 2, none⟩)) rfl rfl (by kernel_rfl) (by kernel_rfl) (by kernel_rfl) rfl (fun W hW => by obtain ⟨h0, h1⟩ := hW; go_simp) xH0 ?_
                simp only [Act.put, List.setIfInBounds_toArray, List.set_cons_zero, List.set_cons_succ]
                refine hr_take_w 4 (some 148) (.pointer (some ⟨b1, off1 + k' * 2, none⟩)) rfl rfl (by kernel_rfl) (by kernel_rfl) (by kernel_rfl) rfl (fun W hW => by obtain ⟨h0, h1⟩ := hW; go_simp) xH0 ?_
                simp only [Act.put, List.setIfInBounds_toArray, List.set_cons_zero, List.set_cons_succ]
                refine hr_take_w 5 (some 149) (.slice q.k.ao q.k.n q.k.cap) rfl rfl (by kernel_rfl) (by kernel_rfl) (by kernel_rfl) rfl (fun W hW => by obtain ⟨h0, h1⟩ := hW; go_simp) xH0 ?_
                simp only [Act.put, List.setIfInBounds_toArray, List.set_cons_zero, List.set_cons_succ]
                refine hr_take_w 6 (some 150) (.slice (some ⟨b1, off1, none⟩) n1 c1) rfl rfl (by kernel_rfl) (by kernel_rfl) (by kernel_rfl) rfl (fun W hW => by obtain ⟨h0, h1⟩ := hW; go_simp) xH0 ?_
                simp only [Act.put, List.setIfInBounds_toArray, List.set_cons_zero, List.set_cons_succ]
                refine hr_take_w 7 (some 151) (.int .i64 k') rfl rfl (by kernel_rfl) (by kernel_rfl) (by kernel_rfl) rfl (fun W hW => by obtain ⟨h0, h1⟩ := hW; go_simp) xH0 ?_
                simp only [Act.put, List.setIfInBounds_toArray, List.set_cons_zero, List.set_cons_succ]
                refine hr_take_w 8 (some 152) (.pointer (some ⟨b1, off1 + k' * 2, none⟩)) rfl rfl (by kernel_rfl) (by kernel_rfl) (by kernel_rfl) rfl (fun W hW => by obtain ⟨h0, h1⟩ := hW; go_simp) xH0 ?_
                simp only [Act.put, List.setIfInBounds_toArray, List.set_cons_zero, List.set_cons_succ]
                refine hr_take_w 9 (some 153) (.pointer (some ⟨b1, off1 + k' * 2 + 1, none⟩)) rfl rfl (by kernel_rfl) (by kernel_rfl) (by kernel_rfl) rfl (fun W hW => by obtain ⟨h0, h1⟩ := hW; go_simp) xH0 ?_
                simp only [Act.put, List.setIfInBounds_toArray, List.set_cons_zero, List.set_cons_succ]
                refine hr_take_w 10 (some 154) (.slice q.v.ao q.v.n q.v.cap) rfl rfl (by kernel_rfl) (by kernel_rfl) (by kernel_rfl) rfl (fun W hW => by obtain ⟨h0, h1⟩ := hW; go_simp) xH0 ?_
                simp only [Act.put, List.setIfInBounds_toArray, List.set_cons_zero, List.set_cons_succ]
                refine hr_call_w 11 (some 155) 11 #[.pointer pv, .slice q.k.ao q.k.n q.k.cap, .slice q.v.ao q.v.n q.v.cap] rfl rfl (by kernel_rfl) rfl (by go_simp) (fun v w' => ∃ pu, v = .tuple #[.pointer pu, .int .i64 0] ∧ TT w' (.pointer pu) (ins l2 q.it) ∧ Below xv0.heap.size xv0 w') ((xCP xv0 xE0).mono (by
                  rintro e w' ⟨pu, rfl, F, C⟩
                  exact ⟨_, rfl, pu, rfl, F, C⟩)) ?_
                rintro v xv1 ⟨pu, rfl, xF0, xC0⟩
                have xE1 := xE0.trans (xC0.mono xE0.size)
                have xH1 := xHS.out xv1 xE1
                refine ⟨xH1, ?_⟩
                simp only [Act.put, List.setIfInBounds_toArray, List.set_cons_zero, List.set_cons_succ]
                refine hr_take_w 12 (some 143) (.tuple #[.pointer pu, .int .i64 0]) rfl rfl (by kernel_rfl) (by kernel_rfl) (by kernel_rfl) rfl (fun W hW => by obtain ⟨h0, h1⟩ := hW; go_simp) xH1 ?_
                simp only [Act.put, List.setIfInBounds_toArray, List.set_cons_zero, List.set_cons_succ]
                refine hr_take_w 13 (some 156) (.pointer pu) rfl rfl (by kernel_rfl) (by kernel_rfl) (by kernel_rfl) rfl (fun W hW => by obtain ⟨h0, h1⟩ := hW; go_simp) xH1 ?_
                simp only [Act.put, List.setIfInBounds_toArray, List.set_cons_zero, List.set_cons_succ]
                refine hr_take_w 14 (some 157) (.int .i64 0) rfl rfl (by kernel_rfl) (by kernel_rfl) (by kernel_rfl) rfl (fun W hW => by obtain ⟨h0, h1⟩ := hW; go_simp) xH1 ?_
                simp only [Act.put, List.setIfInBounds_toArray, List.set_cons_zero, List.set_cons_succ]
                refine hr_take_w 15 (some 12) (.pointer pu) rfl rfl (by kernel_rfl) (by kernel_rfl) (by kernel_rfl) rfl (fun W hW => by obtain ⟨h0, h1⟩ := hW; go_simp) xH1 ?_
                simp only [Act.put, List.setIfInBounds_toArray, List.set_cons_zero, List.set_cons_succ]
                refine wpAnyH_done (by kernel_rfl) ?_ _
                refine NoPanic.normal ?_
                have hEW := E2.trans (xE1.mono E2.size)
                have TUW := xF0
                have HMW : Hid (Mix2 its ((ms.take k').map IP.it) (more.map fun p => p.k.xs) (ins l2 q.it)) := HM1.out.other HPI.out (List.mem_map.2 ⟨q, HQM.out, rfl⟩) HF.out
                have hLW : (ins l2 q.it).length ≤ 2 * k' + 1 := by have := ins_len l2 q.it; omega
                clear e1 e2 d1 d2 xF0 TU1 TU2
                have hBW := hBr.trans (hEW.mono hBr.size)
                have x1 := (hEW.cell (World.block_lt_of_cell? _ _ mm1)).trans mm1
                have x2 := (hEW.cell (World.block_lt_of_cell? _ _ mm2)).trans mm2
                have SRW := SR.below hEW
                have yCP : ∀ V, Below xv1.heap.size xv1 V → Calls Tryd.prog 11 #[.pointer pu, .slice r.k.ao r.k.n r.k.cap, .slice r.v.ao r.v.n r.v.cap] V fun e w' => ∃ pz, e = .returned (.tuple #[.pointer pz, .int .i64 0]) ∧ TT w' (.pointer pz) (ins (ins l2 q.it) r.it) ∧ Below V.heap.size V w' := fun V hV => (tput_any V (.pointer pu) (ins l2 q.it) r.it r.k.ao r.v.ao r.k.n r.k.cap r.v.n r.v.cap (HT.out.below (hBW.trans (hV.mono hBW.size)) t2) (TUW.below hV) HMW.out.srt (SRW.1.below hV) (SRW.2.below hV) (by omega) (by omega) (by omega) 0 (jL_one ⟨by show 1 ≤ r.k.n; omega, by show r.k.n ≤ 256; omega, by show r.v.n ≤ 1024; omega⟩)).mono fun e w' ⟨pu, h1, h2, _, h4⟩ => ⟨pu, h1, h2 rfl, h4⟩
                have hEp := hBp.trans (hEW.mono hBp.size)
                clear mm1 mm2
                go_wp2_with fail
                have yHS : Hid (∀ V, Below xv1.heap.size xv1 V → V.cell? ⟨g, k' * 2, none⟩ = some (.slice r.k.ao r.k.n r.k.cap) ∧ V.cell? ⟨g, k' * 2 + 1, none⟩ = some (.slice r.v.ao r.v.n r.v.cap)) := fun V hV => ⟨(hV.cell (World.block_lt_of_cell? _ _ x1)).trans x1, (hV.cell (World.block_lt_of_cell? _ _ x2)).trans x2⟩
                have yE0 : Below xv1.heap.size xv1 xv1.drew := (Below.refl _ _).drew
                refine wp_region_noPanic ?_
                refine wp_region_held_drew (S := fun V => V.cell? ⟨g, k' * 2, none⟩ = some (.slice r.k.ao r.k.n r.k.cap) ∧ V.cell? ⟨g, k' * 2 + 1, none⟩ = some (.slice r.v.ao r.v.n r.v.cap)) (by kernel_rfl) (yHS.out _ yE0) (fun yH0 => ?_)
                obtain ⟨yv0, hv0⟩ : ∃ v, v = xv1.drew := ⟨_, rfl⟩
                rw [← hv0] at yH0 yE0 ⊢
                clear hv0
                refine hr_take_w 0 (some 159) (.pointer pu) rfl rfl (by kernel_rfl) (by kernel_rfl) (by kernel_rfl) rfl (fun W hW => by obtain ⟨h0, h1⟩ := hW; go_simp) yH0 ?_
                simp only [Act.put, List.setIfInBounds_toArray, List.set_cons_zero, List.set_cons_succ]
                refine hr_take_w 1 (some 160) (.slice (some ⟨g, 0, none⟩) k mc) rfl rfl (by kernel_rfl) (by kernel_rfl) (by kernel_rfl) rfl (fun W hW => by obtain ⟨h0, h1⟩ := hW; go_simp) yH0 ?_
                simp only [Act.put, List.setIfInBounds_toArray, List.set_cons_zero, List.set_cons_succ]
                refine hr_take_w 2 (some 161) (.int .i64 k') rfl rfl (by kernel_rfl) (by kernel_rfl) (by kernel_rfl) rfl (fun W hW => by obtain ⟨h0, h1⟩ := hW; go_simp) yH0 ?_
                simp only [Act.put, List.setIfInBounds_toArray, List.set_cons_zero, List.set_cons_succ]
                refine hr_take_w 3 (some 162) (.pointer (some ⟨g, k' * 2, none⟩)) rfl rfl (by kernel_rfl) (by kernel_rfl) (by kernel_rfl) rfl (fun W hW => by obtain ⟨h0, h1⟩ := hW; go_simp) yH0 ?_
                simp only [Act.put, List.setIfInBounds_toArray, List.set_cons_zero, List.set_cons_succ]
                refine hr_take_w 4 (some 163) (.pointer (some ⟨g, k' * 2, none⟩)) rfl rfl (by kernel_rfl) (by kernel_rfl) (by kernel_rfl) rfl (fun W hW => by obtain ⟨h0, h1⟩ := hW; go_simp) yH0 ?_
                simp only [Act.put, List.setIfInBounds_toArray, List.set_cons_zero, List.set_cons_succ]
                refine hr_take_w 5 (some 164) (.slice r.k.ao r.k.n r.k.cap) rfl rfl (by kernel_rfl) (by kernel_rfl) (by kernel_rfl) rfl (fun W hW => by obtain ⟨h0, h1⟩ := hW; go_simp) yH0 ?_
                simp only [Act.put, List.setIfInBounds_toArray, List.set_cons_zero, List.set_cons_succ]
                refine hr_take_w 6 (some 165) (.slice (some ⟨g, 0, none⟩) k mc) rfl rfl (by kernel_rfl) (by kernel_rfl) (by kernel_rfl) rfl (fun W hW => by obtain ⟨h0, h1⟩ := hW; go_simp) yH0 ?_
                simp only [Act.put, List.setIfInBounds_toArray, List.set_cons_zero, List.set_cons_succ]
                refine hr_take_w 7 (some 166) (.int .i64 k') rfl rfl (by kernel_rfl) (by kernel_rfl) (by kernel_rfl) rfl (fun W hW => by obtain ⟨h0, h1⟩ := hW; go_simp) yH0 ?_
                simp only [Act.put, List.setIfInBounds_toArray, List.set_cons_zero, List.set_cons_succ]
                refine hr_take_w 8 (some 167) (.pointer (some ⟨g, k' * 2, none⟩)) rfl rfl (by kernel_rfl) (by kernel_rfl) (by kernel_rfl) rfl (fun W hW => by obtain ⟨h0, h1⟩ := hW; go_simp) yH0 ?_
                simp only [Act.put, List.setIfInBounds_toArray, List.set_cons_zero, List.set_cons_succ]
                refine hr_take_w 9 (some 168) (.pointer (some ⟨g, k' * 2 + 1, none⟩)) rfl rfl (by kernel_rfl) (by kernel_rfl) (by kernel_rfl) rfl (fun W hW => by obtain ⟨h0, h1⟩ := hW; go_simp) yH0 ?_
                simp only [Act.put, List.setIfInBounds_toArray, List.set_cons_zero, List.set_cons_succ]
                refine hr_take_w 10 (some 169) (.slice r.v.ao r.v.n r.v.cap) rfl rfl (by kernel_rfl) (by kernel_rfl) (by kernel_rfl) rfl (fun W hW => by obtain ⟨h0, h1⟩ := hW; go_simp) yH0 ?_
                simp only [Act.put, List.setIfInBounds_toArray, List.set_cons_zero, List.set_cons_succ]
                refine hr_call_w 11 (some 170) 11 #[.pointer pu, .slice r.k.ao r.k.n r.k.cap, .slice r.v.ao r.v.n r.v.cap] rfl rfl (by kernel_rfl) rfl (by go_simp) (fun v w' => ∃ pz, v = .tuple #[.pointer pz, .int .i64 0] ∧ TT w' (.pointer pz) (ins (ins l2 q.it) r.it) ∧ Below yv0.heap.size yv0 w') ((yCP yv0 yE0).mono (by
                  rintro e w' ⟨pz, rfl, F, C⟩
                  exact ⟨_, rfl, pz, rfl, F, C⟩)) ?_
                rintro v yv1 ⟨pz, rfl, yF0, yC0⟩
                have yE1 := yE0.trans (yC0.mono yE0.size)
                have yH1 := yHS.out yv1 yE1
                refine ⟨yH1, ?_⟩
                simp only [Act.put, List.setIfInBounds_toArray, List.set_cons_zero, List.set_cons_succ]
                refine hr_take_w 12 (some 158) (.tuple #[.pointer pz, .int .i64 0]) rfl rfl (by kernel_rfl) (by kernel_rfl) (by kernel_rfl) rfl (fun W hW => by obtain ⟨h0, h1⟩ := hW; go_simp) yH1 ?_
                simp only [Act.put, List.setIfInBounds_toArray, List.set_cons_zero, List.set_cons_succ]
                refine hr_take_w 13 (some 171) (.pointer pz) rfl rfl (by kernel_rfl) (by kernel_rfl) (by kernel_rfl) rfl (fun W hW => by obtain ⟨h0, h1⟩ := hW; go_simp) yH1 ?_
                simp only [Act.put, List.setIfInBounds_toArray, List.set_cons_zero, List.set_cons_succ]
                refine hr_take_w 14 (some 172) (.int .i64 0) rfl rfl (by kernel_rfl) (by kernel_rfl) (by kernel_rfl) rfl (fun W hW => by obtain ⟨h0, h1⟩ := hW; go_simp) yH1 ?_
                simp only [Act.put, List.setIfInBounds_toArray, List.set_cons_zero, List.set_cons_succ]
                refine hr_take_w 15 (some 12) (.pointer pz) rfl rfl (by kernel_rfl) (by kernel_rfl) (by kernel_rfl) rfl (fun W hW => by obtain ⟨h0, h1⟩ := hW; go_simp) yH1 ?_
                simp only [Act.put, List.setIfInBounds_toArray, List.set_cons_zero, List.set_cons_succ]
                refine wpAnyH_done (by kernel_rfl) ?_ _
                refine NoPanic.normal ?_
                have hEp2 := hEp.trans (yE1.mono hEp.size)
                have HZ1 : Hid (Mix2 its ((ms.take (k' + 1)).map IP.it) (more.map fun p => p.k.xs) (ins (ins l2 q.it) r.it)) := by rw [HT3.out, List.map_append]; exact HMW.out.next HPI.out HGD.out HRM.out
                have hlz : (ins (ins l2 q.it) r.it).length ≤ 2 * (k' + 1) := by have := ins_len (ins l2 q.it) r.it; omega
                clear x1 x2
                go_wp2
                go_roundw
                case rel => exact ⟨k' + 1, pz, ins (ins l2 q.it) r.it, by omega, by go_num, rfl, yF0, HZ1, hlz, hEp2⟩
                case measure => simp [intOf]; omega
              · skip
                refine hr_take_w 26 (some 141) (.bool false) rfl rfl (by kernel_rfl) (by kernel_rfl) (by kernel_rfl) rfl (fun W hW => by obtain ⟨h0, h1⟩ := hW; go_simp) H2 ?_
                simp only [Act.put, List.setIfInBounds_toArray, List.set_cons_zero, List.set_cons_succ]
                refine hr_take_w 27 (some 142) (.bool false) rfl rfl (by kernel_rfl) (by kernel_rfl) (by kernel_rfl) rfl (fun W hW => by obtain ⟨h0, h1⟩ := hW; go_simp) H2 ?_
                simp only [Act.put, List.setIfInBounds_toArray, List.set_cons_zero, List.set_cons_succ]
                refine wpAnyH_done (by kernel_rfl) ?_ _
                refine NoPanic.normal ?_
                have hEW := E2
                have TUW := TU1.below E2
                have HMW := HM1
                have hLW : l2.length ≤ 2 * k' + 1 := by omega
                clear d1 d2 TU1 CF CA
                have hBW := hBr.trans (hEW.mono hBr.size)
                have x1 := (hEW.cell (World.block_lt_of_cell? _ _ mm1)).trans mm1
                have x2 := (hEW.cell (World.block_lt_of_cell? _ _ mm2)).trans mm2
                have SRW := SR.below hEW
                have yCP : ∀ V, Below v2.heap.size v2 V → Calls Tryd.prog 11 #[.pointer pv, .slice r.k.ao r.k.n r.k.cap, .slice r.v.ao r.v.n r.v.cap] V fun e w' => ∃ pz, e = .returned (.tuple #[.pointer pz, .int .i64 0]) ∧ TT w' (.pointer pz) (ins l2 r.it) ∧ Below V.heap.size V w' := fun V hV => (tput_any V (.pointer pv) l2 r.it r.k.ao r.v.ao r.k.n r.k.cap r.v.n r.v.cap (HT.out.below (hBW.trans (hV.mono hBW.size)) t2) (TUW.below hV) HMW.out.srt (SRW.1.below hV) (SRW.2.below hV) (by omega) (by omega) (by omega) 0 (jL_one ⟨by show 1 ≤ r.k.n; omega, by show r.k.n ≤ 256; omega, by show r.v.n ≤ 1024; omega⟩)).mono fun e w' ⟨pu, h1, h2, _, h4⟩ => ⟨pu, h1, h2 rfl, h4⟩
                have hEp := hBp.trans (hEW.mono hBp.size)
                clear mm1 mm2
                go_wp2_with fail
                have yHS : Hid (∀ V, Below v2.heap.size v2 V → V.cell? ⟨g, k' * 2, none⟩ = some (.slice r.k.ao r.k.n r.k.cap) ∧ V.cell? ⟨g, k' * 2 + 1, none⟩ = some (.slice r.v.ao r.v.n r.v.cap)) := fun V hV => ⟨(hV.cell (World.block_lt_of_cell? _ _ x1)).trans x1, (hV.cell (World.block_lt_of_cell? _ _ x2)).trans x2⟩
                have yE0 : Below v2.heap.size v2 v2.drew := (Below.refl _ _).drew
                refine wp_region_noPanic ?_
                refine wp_region_held_drew (S := fun V => V.cell? ⟨g, k' * 2, none⟩ = some (.slice r.k.ao r.k.n r.k.cap) ∧ V.cell? ⟨g, k' * 2 + 1, none⟩ = some (.slice r.v.ao r.v.n r.v.cap)) (by kernel_rfl) (yHS.out _ yE0) (fun yH0 => ?_)
                obtain ⟨yv0, hv0⟩ : ∃ v, v = v2.drew := ⟨_, rfl⟩
                rw [← hv0] at yH0 yE0 ⊢
                clear hv0
                refine hr_take_w 0 (some 159) (.pointer pv) rfl rfl (by kernel_rfl) (by kernel_rfl) (by kernel_rfl) rfl (fun W hW => by obtain ⟨h0, h1⟩ := hW; go_simp) yH0 ?_
                simp only [Act.put, List.setIfInBounds_toArray, List.set_cons_zero, List.set_cons_succ]
                refine hr_take_w 1 (some 160) (.slice (some ⟨g, 0, none⟩) k mc) rfl rfl (by kernel_rfl) (by kernel_rfl) (by kernel_rfl) rfl (fun W hW => by obtain ⟨h0, h1⟩ := hW; go_simp) yH0 ?_
                simp only [Act.put, List.setIfInBounds_toArray, List.set_cons_zero, List.set_cons_succ]
                refine hr_take_w 2 (some 161) (.int .i64 k') rfl rfl (by kernel_rfl) (by kernel_rfl) (by kernel_rfl) rfl (fun W hW => by obtain ⟨h0, h1⟩ := hW; go_simp) yH0 ?_
                simp only [Act.put, List.setIfInBounds_toArray, List.set_cons_zero, List.set_cons_succ]
                refine hr_take_w 3 (some 162) (.pointer (some ⟨g, k' * 2, none⟩)) rfl rfl (by kernel_rfl) (by kernel_rfl) (by kernel_rfl) rfl (fun W hW => by obtain ⟨h0, h1⟩ := hW; go_simp) yH0 ?_
                simp only [Act.put, List.setIfInBounds_toArray, List.set_cons_zero, List.set_cons_succ]
                refine hr_take_w 4 (some 163) (.pointer (some ⟨g, k' * 2, none⟩)) rfl rfl (by kernel_rfl) (by kernel_rfl) (by kernel_rfl) rfl (fun W hW => by obtain ⟨h0, h1⟩ := hW; go_simp) yH0 ?_
                simp only [Act.put, List.setIfInBounds_toArray, List.set_cons_zero, List.set_cons_succ]
                refine hr_take_w 5 (some 164) (.slice r.k.ao r.k.n r.k.cap) rfl rfl (by kernel_rfl) (by kernel_rfl) (by kernel_rfl) rfl (fun W hW => by obtain ⟨h0, h1⟩ := hW; go_simp) yH0 ?_
                simp only [Act.put, List.setIfInBounds_toArray, List.set_cons_zero, List.set_cons_succ]
                refine hr_take_w 6 (some 165) (.slice (some ⟨g, 0, none⟩) k mc) rfl rfl (by kernel_rfl) (by kernel_rfl) (by kernel_rfl) rfl (fun W hW => by obtain ⟨h0, h1⟩ := hW; go_simp) yH0 ?_
                simp only [Act.put, List.setIfInBounds_toArray, List.set_cons_zero, List.set_cons_succ]
                refine hr_take_w 7 (some 166) (.int .i64 k') rfl rfl (by kernel_rfl) (by kernel_rfl) (by kernel_rfl) rfl (fun W hW => by obtain ⟨h0, h1⟩ := hW; go_simp) yH0 ?_
                simp only [Act.put, List.setIfInBounds_toArray, List.set_cons_zero, List.set_cons_succ]
                refine hr_take_w 8 (some 167) (.pointer (some ⟨g, k' * 2, none⟩)) rfl rfl (by kernel_rfl) (by kernel_rfl) (by kernel_rfl) rfl (fun W hW => by obtain ⟨h0, h1⟩ := hW; go_simp) yH0 ?_
                simp only [Act.put, List.setIfInBounds_toArray, List.set_cons_zero, List.set_cons_succ]
                refine hr_take_w 9 (some 168) (.pointer (some ⟨g, k' * 2 + 1, none⟩)) rfl rfl (by kernel_rfl) (by kernel_rfl) (by kernel_rfl) rfl (fun W hW => by obtain ⟨h0, h1⟩ := hW; go_simp) yH0 ?_
                simp only [Act.put, List.setIfInBounds_toArray, List.set_cons_zero, List.set_cons_succ]
                refine hr_take_w 10 (some 169) (.slice r.v.ao r.v.n r.v.cap) rfl rfl (by kernel_rfl) (by kernel_rfl) (by kernel_rfl) rfl (fun W hW => by obtain ⟨h0, h1⟩ := hW; go_simp) yH0 ?_
                simp only [Act.put, List.setIfInBounds_toArray, List.set_cons_zero, List.set_cons_succ]
                refine hr_call_w 11 (some 170) 11 #[.pointer pv, .slice r.k.ao r.k.n r.k.cap, .slice r.v.ao r.v.n r.v.cap] rfl rfl (by kernel_rfl) rfl (by go_simp) (fun v w' => ∃ pz, v = .tuple #[.pointer pz, .int .i64 0] ∧ TT w' (.pointer pz) (ins l2 r.it) ∧ Below yv0.heap.size yv0 w') ((yCP yv0 yE0).mono (by
                  rintro e w' ⟨pz, rfl, F, C⟩
                  exact ⟨_, rfl, pz, rfl, F, C⟩)) ?_
                rintro v yv1 ⟨pz, rfl, yF0, yC0⟩
                have yE1 := yE0.trans (yC0.mono yE0.size)
                have yH1 := yHS.out yv1 yE1
                refine ⟨yH1, ?_⟩
                simp only [Act.put, List.setIfInBounds_toArray, List.set_cons_zero, List.set_cons_succ]
                refine hr_take_w 12 (some 158) (.tuple #[.pointer pz, .int .i64 0]) rfl rfl (by kernel_rfl) (by kernel_rfl) (by kernel_rfl) rfl (fun W hW => by obtain ⟨h0, h1⟩ := hW; go_simp) yH1 ?_
                simp only [Act.put, List.setIfInBounds_toArray, List.set_cons_zero, List.set_cons_succ]
                refine hr_take_w 13 (some 171) (.pointer pz) rfl rfl (by kernel_rfl) (by kernel_rfl) (by kernel_rfl) rfl (fun W hW => by obtain ⟨h0, h1⟩ := hW; go_simp) yH1 ?_
                simp only [Act.put, List.setIfInBounds_toArray, List.set_cons_zero, List.set_cons_succ]
                refine hr_take_w 14 (some 172) (.int .i64 0) rfl rfl (by kernel_rfl) (by kernel_rfl) (by kernel_rfl) rfl (fun W hW => by obtain ⟨h0, h1⟩ := hW; go_simp) yH1 ?_
                simp only [Act.put, List.setIfInBounds_toArray, List.set_cons_zero, List.set_cons_succ]
                refine hr_take_w 15 (some 12) (.pointer pz) rfl rfl (by kernel_rfl) (by kernel_rfl) (by kernel_rfl) rfl (fun W hW => by obtain ⟨h0, h1⟩ := hW; go_simp) yH1 ?_
                simp only [Act.put, List.setIfInBounds_toArray, List.set_cons_zero, List.set_cons_succ]
                refine wpAnyH_done (by kernel_rfl) ?_ _
                refine NoPanic.normal ?_
                have hEp2 := hEp.trans (yE1.mono hEp.size)
                have HZ1 : Hid (Mix2 its ((ms.take (k' + 1)).map IP.it) (more.map fun p => p.k.xs) (ins l2 r.it)) := by rw [HT3.out, List.map_append]; exact HMW.out.next HPI.out HGD.out HRM.out
                have hlz : (ins l2 r.it).length ≤ 2 * (k' + 1) := by have := ins_len l2 r.it; omega
                clear x1 x2
                go_wp2
                go_roundw
                case rel => exact ⟨k' + 1, pz, ins l2 r.it, by omega, by go_num, rfl, yF0, HZ1, hlz, hEp2⟩
                case measure => simp [intOf]; omega
            · obtain ⟨ka, hke⟩ : ∃ ka, ka = askK q.k.n q.v.n := ⟨_, rfl⟩
              have CA : ∀ V, Below wr.heap.size wr V → Calls Tryd.prog 9 #[.slice q.k.ao q.k.n q.k.cap, .slice q.v.ao q.v.n q.v.cap] V fun e w' => e = .returned (.int .i64 ka) ∧ Below V.heap.size V w' := fun V hV => by
                have := asked7_any V q.k.ao q.v.ao q.k.n q.k.cap q.v.n q.v.cap
                rw [← hke] at this
                exact this.mono fun e w' ⟨h1, h2⟩ => ⟨h1, by rw [h2]; exact Below.refl _ _⟩
              have hka : (ka == 0) = false := by rw [hke]; simpa using hk0
              clear hke hk0 CF
              go_wp2_with fail
              have HS : Hid (∀ V, Below wr.heap.size wr V → V.cell? ⟨b1, off1 + k' * 2, none⟩ = some (.slice q.k.ao q.k.n q.k.cap) ∧ V.cell? ⟨b1, off1 + k' * 2 + 1, none⟩ = some (.slice q.v.ao q.v.n q.v.cap)) := fun V hV => ⟨(hV.cell (World.block_lt_of_cell? _ _ d1)).trans d1, (hV.cell (World.block_lt_of_cell? _ _ d2)).trans d2⟩
              have E0 : Below wr.heap.size wr wr.drew := (Below.refl _ _).drew
              refine wp_region_noPanic ?_
              refine wp_region_held_drew (S := fun V => V.cell? ⟨b1, off1 + k' * 2, none⟩ = some (.slice q.k.ao q.k.n q.k.cap) ∧ V.cell? ⟨b1, off1 + k' * 2 + 1, none⟩ = some (.slice q.v.ao q.v.n q.v.cap)) (by kernel_rfl) (HS.out _ E0) (fun H0 => ?_)
              obtain ⟨v0, hv0⟩ : ∃ v, v = wr.drew := ⟨_, rfl⟩
              rw [← hv0] at H0 E0 ⊢
              clear hv0
              refine hr_take_w 0 (some 115) (.int .i64 k') rfl rfl (by kernel_rfl) (by kernel_rfl) (by kernel_rfl) rfl (fun W hW => by obtain ⟨h0, h1⟩ := hW; go_simp) H0 ?_
              simp only [Act.put, List.setIfInBounds_toArray, List.set_cons_zero, List.set_cons_succ]
              refine hr_take_w 1 (some 116) (.slice (some ⟨b1, off1, none⟩) n1 c1) rfl rfl (by kernel_rfl) (by kernel_rfl) (by kernel_rfl) rfl (fun W hW => by obtain ⟨h0, h1⟩ := hW; go_simp) H0 ?_
              simp only [Act.put, List.setIfInBounds_toArray, List.set_cons_zero, List.set_cons_succ]
              refine hr_take_w 2 (some 117) (.int .i64 n1) rfl rfl (by kernel_rfl) (by kernel_rfl) (by kernel_rfl) rfl (fun W hW => by obtain ⟨h0, h1⟩ := hW; go_simp) H0 ?_
              simp only [Act.put, List.setIfInBounds_toArray, List.set_cons_zero, List.set_cons_succ]
              refine hr_take_w 3 (some 118) (.bool true) rfl rfl (by kernel_rfl) (by kernel_rfl) (by kernel_rfl) rfl (fun W hW => by obtain ⟨h0, h1⟩ := hW; go_simp) H0 ?_
              simp only [Act.put, List.setIfInBounds_toArray, List.set_cons_zero, List.set_cons_succ]
              refine hr_take_w 4 (some 119) (.bool true) rfl rfl (by kernel_rfl) (by kernel_rfl) (by kernel_rfl) rfl (fun W hW => by obtain ⟨h0, h1⟩ := hW; go_simp) H0 ?_
              simp only [Act.put, List.setIfInBounds_toArray, List.set_cons_zero, List.set_cons_succ]
              refine hr_take_w 5 (some 120) (.slice (some ⟨b1, off1, none⟩) n1 c1) rfl rfl (by kernel_rfl) (by kernel_rfl) (by kernel_rfl) rfl (fun W hW => by obtain ⟨h0, h1⟩ := hW; go_simp) H0 ?_
              simp only [Act.put, List.setIfInBounds_toArray, List.set_cons_zero, List.set_cons_succ]
              refine hr_take_w 6 (some 121) (.int .i64 k') rfl rfl (by kernel_rfl) (by kernel_rfl) (by kernel_rfl) rfl (fun W hW => by obtain ⟨h0, h1⟩ := hW; go_simp) H0 ?_
              simp only [Act.put, List.setIfInBounds_toArray, List.set_cons_zero, List.set_cons_succ]
              refine hr_take_w 7 (some 122) (.pointer (some ⟨b1, off1 + k' * 2, none⟩)) rfl rfl (by kernel_rfl) (by kernel_rfl) (by kernel_rfl) rfl (fun W hW => by obtain ⟨h0, h1⟩ := hW; go_simp) H0 ?_
              simp only [Act.put, List.setIfInBounds_toArray, List.set_cons_zero, List.set_cons_succ]
              refine hr_take_w 8 (some 123) (.pointer (some ⟨b1, off1 + k' * 2, none⟩)) rfl rfl (by kernel_rfl) (by kernel_rfl) (by kernel_rfl) rfl (fun W hW => by obtain ⟨h0, h1⟩ := hW; go_simp) H0 ?_
              simp only [Act.put, List.setIfInBounds_toArray, List.set_cons_zero, List.set_cons_succ]
              refine hr_take_w 9 (some 124) (.slice q.k.ao q.k.n q.k.cap) rfl rfl (by kernel_rfl) (by kernel_rfl) (by kernel_rfl) rfl (fun W hW => by obtain ⟨h0, h1⟩ := hW; go_simp) H0 ?_
              simp only [Act.put, List.setIfInBounds_toArray, List.set_cons_zero, List.set_cons_succ]
              refine hr_take_w 10 (some 125) (.slice (some ⟨b1, off1, none⟩) n1 c1) rfl rfl (by kernel_rfl) (by kernel_rfl) (by kernel_rfl) rfl (fun W hW => by obtain ⟨h0, h1⟩ := hW; go_simp) H0 ?_
              simp only [Act.put, List.setIfInBounds_toArray, List.set_cons_zero, List.set_cons_succ]
              refine hr_take_w 11 (some 126) (.int .i64 k') rfl rfl (by kernel_rfl) (by kernel_rfl) (by kernel_rfl) rfl (fun W hW => by obtain ⟨h0, h1⟩ := hW; go_simp) H0 ?_
              simp only [Act.put, List.setIfInBounds_toArray, List.set_cons_zero, List.set_cons_succ]
              refine hr_take_w 12 (some 127) (.pointer (some ⟨b1, off1 + k' * 2, none⟩)) rfl rfl (by kernel_rfl) (by kernel_rfl) (by kernel_rfl) rfl (fun W hW => by obtain ⟨h0, h1⟩ := hW; go_simp) H0 ?_
              simp only [Act.put, List.setIfInBounds_toArray, List.set_cons_zero, List.set_cons_succ]
              refine hr_take_w 13 (some 128) (.pointer (some ⟨b1, off1 + k' * 2 + 1, none⟩)) rfl rfl (by kernel_rfl) (by kernel_rfl) (by kernel_rfl) rfl (fun W hW => by obtain ⟨h0, h1⟩ := hW; go_simp) H0 ?_
              simp only [Act.put, List.setIfInBounds_toArray, List.set_cons_zero, List.set_cons_succ]
              refine hr_take_w 14 (some 129) (.slice q.v.ao q.v.n q.v.cap) rfl rfl (by kernel_rfl) (by kernel_rfl) (by kernel_rfl) rfl (fun W hW => by obtain ⟨h0, h1⟩ := hW; go_simp) H0 ?_
              simp only [Act.put, List.setIfInBounds_toArray, List.set_cons_zero, List.set_cons_succ]
              refine hr_call_w 15 (some 130) 9 #[.slice q.k.ao q.k.n q.k.cap, .slice q.v.ao q.v.n q.v.cap] rfl rfl (by kernel_rfl) rfl (by go_simp) (fun v w' => v = .int .i64 ka ∧ Below v0.heap.size v0 w') ((CA v0 E0).mono (by
                rintro e w' ⟨rfl, C⟩
                exact ⟨_, rfl, rfl, C⟩)) ?_
              rintro v v1 ⟨rfl, C0⟩
              have E1 := E0.trans (C0.mono E0.size)
              have H1 := HS.out v1 E1
              refine ⟨H1, ?_⟩
              simp only [Act.put, List.setIfInBounds_toArray, List.set_cons_zero, List.set_cons_succ]
              refine hr_take_w 16 (some 131) (.bool false) rfl rfl (by kernel_rfl) (by kernel_rfl) (by kernel_rfl) rfl (fun W hW => by obtain ⟨h0, h1⟩ := hW; go_simp) H1 ?_
              simp only [Act.put, List.setIfInBounds_toArray, List.set_cons_zero, List.set_cons_succ]
              refine hr_take_w 17 (some 132) (.bool false) rfl rfl (by kernel_rfl) (by kernel_rfl) (by kernel_rfl) rfl (fun W hW => by obtain ⟨h0, h1⟩ := hW; go_simp) H1 ?_
              simp only [Act.put, List.setIfInBounds_toArray, List.set_cons_zero, List.set_cons_succ]
              refine hr_take_w 18 (some 133) (.bool false) rfl rfl (by kernel_rfl) (by kernel_rfl) (by kernel_rfl) rfl (fun W hW => by obtain ⟨h0, h1⟩ := hW; go_simp) H1 ?_
              simp only [Act.put, List.setIfInBounds_toArray, List.set_cons_zero, List.set_cons_succ]
              refine hr_none 19 (some 134) rfl rfl (by kernel_rfl) (by kernel_rfl) (by kernel_rfl) rfl H1 ?_
              simp only [Act.put, List.setIfInBounds_toArray, List.set_cons_zero, List.set_cons_succ]
              refine hr_none 20 (some 135) rfl rfl (by kernel_rfl) (by kernel_rfl) (by kernel_rfl) rfl H1 ?_
              simp only [Act.put, List.setIfInBounds_toArray, List.set_cons_zero, List.set_cons_succ]
              refine hr_none 21 (some 136) rfl rfl (by kernel_rfl) (by kernel_rfl) (by kernel_rfl) rfl H1 ?_
              simp only [Act.put, List.setIfInBounds_toArray, List.set_cons_zero, List.set_cons_succ]
              refine hr_none 22 (some 137) rfl rfl (by kernel_rfl) (by kernel_rfl) (by kernel_rfl) rfl H1 ?_
              simp only [Act.put, List.setIfInBounds_toArray, List.set_cons_zero, List.set_cons_succ]
              refine hr_none 23 (some 138) rfl rfl (by kernel_rfl) (by kernel_rfl) (by kernel_rfl) rfl H1 ?_
              simp only [Act.put, List.setIfInBounds_toArray, List.set_cons_zero, List.set_cons_succ]
              refine hr_none 24 (some 139) rfl rfl (by kernel_rfl) (by kernel_rfl) (by kernel_rfl) rfl H1 ?_
              simp only [Act.put, List.setIfInBounds_toArray, List.set_cons_zero, List.set_cons_succ]
              refine hr_none 25 (some 140) rfl rfl (by kernel_rfl) (by kernel_rfl) (by kernel_rfl) rfl H1 ?_
              simp only [Act.put, List.setIfInBounds_toArray, List.set_cons_zero, List.set_cons_succ]
              refine hr_none 26 (some 141) rfl rfl (by kernel_rfl) (by kernel_rfl) (by kernel_rfl) rfl H1 ?_
              simp only [Act.put, List.setIfInBounds_toArray, List.set_cons_zero, List.set_cons_succ]
              refine hr_take_w 27 (some 142) (.bool false) rfl rfl (by kernel_rfl) (by kernel_rfl) (by kernel_rfl) rfl (fun W hW => by obtain ⟨h0, h1⟩ := hW; go_simp) H1 ?_
              simp only [Act.put, List.setIfInBounds_toArray, List.set_cons_zero, List.set_cons_succ]
              refine wpAnyH_done (by kernel_rfl) ?_ _
              refine NoPanic.normal ?_
              have hEW := E1
              have TUW := TU1.below E1
              have HMW := HM1
              have hLW : l2.length ≤ 2 * k' + 1 := by omega
              clear d1 d2 TU1 CA
              have hBW := hBr.trans (hEW.mono hBr.size)
              have x1 := (hEW.cell (World.block_lt_of_cell? _ _ mm1)).trans mm1
              have x2 := (hEW.cell (World.block_lt_of_cell? _ _ mm2)).trans mm2
              have SRW := SR.below hEW
              have yCP : ∀ V, Below v1.heap.size v1 V → Calls Tryd.prog 11 #[.pointer pv, .slice r.k.ao r.k.n r.k.cap, .slice r.v.ao r.v.n r.v.cap] V fun e w' => ∃ pz, e = .returned (.tuple #[.pointer pz, .int .i64 0]) ∧ TT w' (.pointer pz) (ins l2 r.it) ∧ Below V.heap.size V w' := fun V hV => (tput_any V (.pointer pv) l2 r.it r.k.ao r.v.ao r.k.n r.k.cap r.v.n r.v.cap (HT.out.below (hBW.trans (hV.mono hBW.size)) t2) (TUW.below hV) HMW.out.srt (SRW.1.below hV) (SRW.2.below hV) (by omega) (by omega) (by omega) 0 (jL_one ⟨by show 1 ≤ r.k.n; omega, by show r.k.n ≤ 256; omega, by show r.v.n ≤ 1024; omega⟩)).mono fun e w' ⟨pu, h1, h2, _, h4⟩ => ⟨pu, h1, h2 rfl, h4⟩
              have hEp := hBp.trans (hEW.mono hBp.size)
              clear mm1 mm2
              go_wp2_with fail
              have yHS : Hid (∀ V, Below v1.heap.size v1 V → V.cell? ⟨g, k' * 2, none⟩ = some (.slice r.k.ao r.k.n r.k.cap) ∧ V.cell? ⟨g, k' * 2 + 1, none⟩ = some (.slice r.v.ao r.v.n r.v.cap)) := fun V hV => ⟨(hV.cell (World.block_lt_of_cell? _ _ x1)).trans x1, (hV.cell (World.block_lt_of_cell? _ _ x2)).trans x2⟩
              have yE0 : Below v1.heap.size v1 v1.drew := (Below.refl _ _).drew
              refine wp_region_noPanic ?_
              refine wp_region_held_drew (S := fun V => V.cell? ⟨g, k' * 2, none⟩ = some (.slice r.k.ao r.k.n r.k.cap) ∧ V.cell? ⟨g, k' * 2 + 1, none⟩ = some (.slice r.v.ao r.v.n r.v.cap)) (by kernel_rfl) (yHS.out _ yE0) (fun yH0 => ?_)
              obtain ⟨yv0, hv0⟩ : ∃ v, v = v1.drew := ⟨_, rfl⟩
              rw [← hv0] at yH0 yE0 ⊢
              clear hv0
              refine hr_take_w 0 (some 159) (.pointer pv) rfl rfl (by kernel_rfl) (by kernel_rfl) (by kernel_rfl) rfl (fun W hW => by obtain ⟨h0, h1⟩ := hW; go_simp) yH0 ?_
              simp only [Act.put, List.setIfInBounds_toArray, List.set_cons_zero, List.set_cons_succ]
              refine hr_take_w 1 (some 160) (.slice (some ⟨g, 0, none⟩) k mc) rfl rfl (by kernel_rfl) (by kernel_rfl) (by kernel_rfl) rfl (fun W hW => by obtain ⟨h0, h1⟩ := hW; go_simp) yH0 ?_
              simp only [Act.put, List.setIfInBounds_toArray, List.set_cons_zero, List.set_cons_succ]
              refine hr_take_w 2 (some 161) (.int .i64 k') rfl rfl (by kernel_rfl) (by kernel_rfl) (by kernel_rfl) rfl (fun W hW => by obtain ⟨h0, h1⟩ := hW; go_simp) yH0 ?_
              simp only [Act.put, List.setIfInBounds_toArray, List.set_cons_zero, List.set_cons_succ]
              refine hr_take_w 3 (some 162) (.pointer (some ⟨g, k' * 2, none⟩)) rfl rfl (by kernel_rfl) (by kernel_rfl) (by kernel_rfl) rfl (fun W hW => by obtain ⟨h0, h1⟩ := hW; go_simp) yH0 ?_
              simp only [Act.put, List.setIfInBounds_toArray, List.set_cons_zero, List.set_cons_succ]
              refine hr_take_w 4 (some 163) (.pointer (some ⟨g, k' * 2, none⟩)) rfl rfl (by kernel_rfl) (by kernel_rfl) (by kernel_rfl) rfl (fun W hW => by obtain ⟨h0, h1⟩ := hW; go_simp) yH0 ?_
              simp only [Act.put, List.setIfInBounds_toArray, List.set_cons_zero, List.set_cons_succ]
              refine hr_take_w 5 (some 164) (.slice r.k.ao r.k.n r.k.cap) rfl rfl (by kernel_rfl) (by kernel_rfl) (by kernel_rfl) rfl (fun W hW => by obtain ⟨h0, h1⟩ := hW; go_simp) yH0 ?_
              simp only [Act.put, List.setIfInBounds_toArray, List.set_cons_zero, List.set_cons_succ]
              refine hr_take_w 6 (some 165) (.slice (some ⟨g, 0, none⟩) k mc) rfl rfl (by kernel_rfl) (by kernel_rfl) (by kernel_rfl) rfl (fun W hW => by obtain ⟨h0, h1⟩ := hW; go_simp) yH0 ?_
              simp only [Act.put, List.setIfInBounds_toArray, List.set_cons_zero, List.set_cons_succ]
              refine hr_take_w 7 (some 166) (.int .i64 k') rfl rfl (by kernel_rfl) (by kernel_rfl) (by kernel_rfl) rfl (fun W hW => by obtain ⟨h0, h1⟩ := hW; go_simp) yH0 ?_
              simp only [Act.put, List.setIfInBounds_toArray, List.set_cons_zero, List.set_cons_succ]
              refine hr_take_w 8 (some 167) (.pointer (some ⟨g, k' * 2, none⟩)) rfl rfl (by kernel_rfl) (by kernel_rfl) (by kernel_rfl) rfl (fun W hW => by obtain ⟨h0, h1⟩ := hW; go_simp) yH0 ?_
              simp only [Act.put, List.setIfInBounds_toArray, List.set_cons_zero, List.set_cons_succ]
              refine hr_take_w 9 (some 168) (.pointer (some ⟨g, k' * 2 + 1, none⟩)) rfl rfl (by kernel_rfl) (by kernel_rfl) (by kernel_rfl) rfl (fun W hW => by obtain ⟨h0, h1⟩ := hW; go_simp) yH0 ?_
              simp only [Act.put, List.setIfInBounds_toArray, List.set_cons_zero, List.set_cons_succ]
              refine hr_take_w 10 (some 169) (.slice r.v.ao r.v.n r.v.cap) rfl rfl (by kernel_rfl) (by kernel_rfl) (by kernel_rfl) rfl (fun W hW => by obtain ⟨h0, h1⟩ := hW; go_simp) yH0 ?_
              simp only [Act.put, List.setIfInBounds_toArray, List.set_cons_zero, List.set_cons_succ]
              refine hr_call_w 11 (some 170) 11 #[.pointer pv, .slice r.k.ao r.k.n r.k.cap, .slice r.v.ao r.v.n r.v.cap] rfl rfl (by kernel_rfl) rfl (by go_simp) (fun v w' => ∃ pz, v = .tuple #[.pointer pz, .int .i64 0] ∧ TT w' (.pointer pz) (ins l2 r.it) ∧ Below yv0.heap.size yv0 w') ((yCP yv0 yE0).mono (by
                rintro e w' ⟨pz, rfl, F, C⟩
                exact ⟨_, rfl, pz, rfl, F, C⟩)) ?_
              rintro v yv1 ⟨pz, rfl, yF0, yC0⟩
              have yE1 := yE0.trans (yC0.mono yE0.size)
              have yH1 := yHS.out yv1 yE1
              refine ⟨yH1, ?_⟩
              simp only [Act.put, List.setIfInBounds_toArray, List.set_cons_zero, List.set_cons_succ]
              refine hr_take_w 12 (some 158) (.tuple #[.pointer pz, .int .i64 0]) rfl rfl (by kernel_rfl) (by kernel_rfl) (by kernel_rfl) rfl (fun W hW => by obtain ⟨h0, h1⟩ := hW; go_simp) yH1 ?_
              simp only [Act.put, List.setIfInBounds_toArray, List.set_cons_zero, List.set_cons_succ]
              refine hr_take_w 13 (some 171) (.pointer pz) rfl rfl (by kernel_rfl) (by kernel_rfl) (by kernel_rfl) rfl (fun W hW => by obtain ⟨h0, h1⟩ := hW; go_simp) yH1 ?_
              simp only [Act.put, List.setIfInBounds_toArray, List.set_cons_zero, List.set_cons_succ]
              refine hr_take_w 14 (some 172) (.int .i64 0) rfl rfl (by kernel_rfl) (by kernel_rfl) (by kernel_rfl) rfl (fun W hW => by obtain ⟨h0, h1⟩ := hW; go_simp) yH1 ?_
              simp only [Act.put, List.setIfInBounds_toArray, List.set_cons_zero, List.set_cons_succ]
              refine hr_take_w 15 (some 12) (.pointer pz) rfl rfl (by kernel_rfl) (by kernel_rfl) (by kernel_rfl) rfl (fun W hW => by obtain ⟨h0, h1⟩ := hW; go_simp) yH1 ?_
              simp only [Act.put, List.setIfInBounds_toArray, List.set_cons_zero, List.set_cons_succ]
              refine wpAnyH_done (by kernel_rfl) ?_ _
              refine NoPanic.normal ?_
              have hEp2 := hEp.trans (yE1.mono hEp.size)
              have HZ1 : Hid (Mix2 its ((ms.take (k' + 1)).map IP.it) (more.map fun p => p.k.xs) (ins l2 r.it)) := by rw [HT3.out, List.map_append]; exact HMW.out.next HPI.out HGD.out HRM.out
              have hlz : (ins l2 r.it).length ≤ 2 * (k' + 1) := by have := ins_len l2 r.it; omega
              clear x1 x2
              go_wp2
              go_roundw
              case rel => exact ⟨k' + 1, pz, ins l2 r.it, by omega, by go_num, rfl, yF0, HZ1, hlz, hEp2⟩
              case measure => simp [intOf]; omega
          · have hki1 : ¬ (k' : Int) < (n1 : Int) := by omega
            go_wp2_with fail
            have HS : Hid (∀ V, Below wr.heap.size wr V → True) := fun _ _ => trivial
            have E0 : Below wr.heap.size wr wr.drew := (Below.refl _ _).drew
            refine wp_region_noPanic ?_
            refine wp_region_held_drew (S := fun V => True) (by kernel_rfl) (HS.out _ E0) (fun H0 => ?_)
            obtain ⟨v0, hv0⟩ : ∃ v, v = wr.drew := ⟨_, rfl⟩
            rw [← hv0] at E0 ⊢
            clear hv0
            refine hr_take_w 0 (some 115) (.int .i64 k') rfl rfl (by kernel_rfl) (by kernel_rfl) (by kernel_rfl) rfl (fun W hW => by go_simp) H0 ?_
            simp only [Act.put, List.setIfInBounds_toArray, List.set_cons_zero, List.set_cons_succ]
            refine hr_take_w 1 (some 116) (.slice a1 n1 c1) rfl rfl (by kernel_rfl) (by kernel_rfl) (by kernel_rfl) rfl (fun W hW => by go_simp) H0 ?_
            simp only [Act.put, List.setIfInBounds_toArray, List.set_cons_zero, List.set_cons_succ]
            refine hr_take_w 2 (some 117) (.int .i64 n1) rfl rfl (by kernel_rfl) (by kernel_rfl) (by kernel_rfl) rfl (fun W hW => by go_simp) H0 ?_
            simp only [Act.put, List.setIfInBounds_toArray, List.set_cons_zero, List.set_cons_succ]
            refine hr_take_w 3 (some 118) (.bool false) rfl rfl (by kernel_rfl) (by kernel_rfl) (by kernel_rfl) rfl (fun W hW => by go_simp) H0 ?_
            simp only [Act.put, List.setIfInBounds_toArray, List.set_cons_zero, List.set_cons_succ]
            refine hr_take_w 4 (some 119) (.bool false) rfl rfl (by kernel_rfl) (by kernel_rfl) (by kernel_rfl) rfl (fun W hW => by go_simp) H0 ?_
            simp only [Act.put, List.setIfInBounds_toArray, List.set_cons_zero, List.set_cons_succ]
            refine hr_none 5 (some 120) rfl rfl (by kernel_rfl) (by kernel_rfl) (by kernel_rfl) rfl H0 ?_
            simp only [Act.put, List.setIfInBounds_toArray, List.set_cons_zero, List.set_cons_succ]
            refine hr_none 6 (some 121) rfl rfl (by kernel_rfl) (by kernel_rfl) (by kernel_rfl) rfl H0 ?_
            simp only [Act.put, List.setIfInBounds_toArray, List.set_cons_zero, List.set_cons_succ]
            refine hr_none 7 (some 122) rfl rfl (by kernel_rfl) (by kernel_rfl) (by kernel_rfl) rfl H0 ?_
            simp only [Act.put, List.setIfInBounds_toArray, List.set_cons_zero, List.set_cons_succ]
            refine hr_none 8 (some 123) rfl rfl (by kernel_rfl) (by kernel_rfl) (by kernel_rfl) rfl H0 ?_
            simp only [Act.put, List.setIfInBounds_toArray, List.set_cons_zero, List.set_cons_succ]
            refine hr_none 9 (some 124) rfl rfl (by kernel_rfl) (by kernel_rfl) (by kernel_rfl) rfl H0 ?_
            simp only [Act.put, List.setIfInBounds_toArray, List.set_cons_zero, List.set_cons_succ]
            refine hr_none 10 (some 125) rfl rfl (by kernel_rfl) (by kernel_rfl) (by kernel_rfl) rfl H0 ?_
            simp only [Act.put, List.setIfInBounds_toArray, List.set_cons_zero, List.set_cons_succ]
            refine hr_none 11 (some 126) rfl rfl (by kernel_rfl) (by kernel_rfl) (by kernel_rfl) rfl H0 ?_
            simp only [Act.put, List.setIfInBounds_toArray, List.set_cons_zero, List.set_cons_succ]
            refine hr_none 12 (some 127) rfl rfl (by kernel_rfl) (by kernel_rfl) (by kernel_rfl) rfl H0 ?_
            simp only [Act.put, List.setIfInBounds_toArray, List.set_cons_zero, List.set_cons_succ]
            refine hr_none 13 (some 128) rfl rfl (by kernel_rfl) (by kernel_rfl) (by kernel_rfl) rfl H0 ?_
            simp only [Act.put, List.setIfInBounds_toArray, List.set_cons_zero, List.set_cons_succ]
            refine hr_none 14 (some 129) rfl rfl (by kernel_rfl) (by kernel_rfl) (by kernel_rfl) rfl H0 ?_
            simp only [Act.put, List.setIfInBounds_toArray, List.set_cons_zero, List.set_cons_succ]
            refine hr_none 15 (some 130) rfl rfl (by kernel_rfl) (by kernel_rfl) (by kernel_rfl) rfl H0 ?_
            simp only [Act.put, List.setIfInBounds_toArray, List.set_cons_zero, List.set_cons_succ]
            refine hr_none 16 (some 131) rfl rfl (by kernel_rfl) (by kernel_rfl) (by kernel_rfl) rfl H0 ?_
            simp only [Act.put, List.setIfInBounds_toArray, List.set_cons_zero, List.set_cons_succ]
            refine hr_take_w 17 (some 132) (.bool false) rfl rfl (by kernel_rfl) (by kernel_rfl) (by kernel_rfl) rfl (fun W hW => by go_simp) H0 ?_
            simp only [Act.put, List.setIfInBounds_toArray, List.set_cons_zero, List.set_cons_succ]
            refine hr_take_w 18 (some 133) (.bool false) rfl rfl (by kernel_rfl) (by kernel_rfl) (by kernel_rfl) rfl (fun W hW => by go_simp) H0 ?_
            simp only [Act.put, List.setIfInBounds_toArray, List.set_cons_zero, List.set_cons_succ]
            refine hr_none 19 (some 134) rfl rfl (by kernel_rfl) (by kernel_rfl) (by kernel_rfl) rfl H0 ?_
            simp only [Act.put, List.setIfInBounds_toArray, List.set_cons_zero, List.set_cons_succ]
            refine hr_none 20 (some 135) rfl rfl (by kernel_rfl) (by kernel_rfl) (by kernel_rfl) rfl H0 ?_
            simp only [Act.put, List.setIfInBounds_toArray, List.set_cons_zero, List.set_cons_succ]
            refine hr_none 21 (some 136) rfl rfl (by kernel_rfl) (by kernel_rfl) (by kernel_rfl) rfl H0 ?_
            simp only [Act.put, List.setIfInBounds_toArray, List.set_cons_zero, List.set_cons_succ]
            refine hr_none 22 (some 137) rfl rfl (by kernel_rfl) (by kernel_rfl) (by kernel_rfl) rfl H0 ?_
            simp only [Act.put, List.setIfInBounds_toArray, List.set_cons_zero, List.set_cons_succ]
            refine hr_none 23 (some 138) rfl rfl (by kernel_rfl) (by kernel_rfl) (by kernel_rfl) rfl H0 ?_
            simp only [Act.put, List.setIfInBounds_toArray, List.set_cons_zero, List.set_cons_succ]
            refine hr_none 24 (some 139) rfl rfl (by kernel_rfl) (by kernel_rfl) (by kernel_rfl) rfl H0 ?_
            simp only [Act.put, List.setIfInBounds_toArray, List.set_cons_zero, List.set_cons_succ]
            refine hr_none 25 (some 140) rfl rfl (by kernel_rfl) (by kernel_rfl) (by kernel_rfl) rfl H0 ?_
            simp only [Act.put, List.setIfInBounds_toArray, List.set_cons_zero, List.set_cons_succ]
            refine hr_none 26 (some 141) rfl rfl (by kernel_rfl) (by kernel_rfl) (by kernel_rfl) rfl H0 ?_
            simp only [Act.put, List.setIfInBounds_toArray, List.set_cons_zero, List.set_cons_succ]
            refine hr_take_w 27 (some 142) (.bool false) rfl rfl (by kernel_rfl) (by kernel_rfl) (by kernel_rfl) rfl (fun W hW => by go_simp) H0 ?_
            simp only [Act.put, List.setIfInBounds_toArray, List.set_cons_zero, List.set_cons_succ]
            refine wpAnyH_done (by kernel_rfl) ?_ _
            refine NoPanic.normal ?_
            have hEW := E0
            have TUW := TU1.below E0
            have HMW := HM1
            have hLW : l2.length ≤ 2 * k' + 1 := by omega
            clear TU1
            have hBW := hBr.trans (hEW.mono hBr.size)
            have x1 := (hEW.cell (World.block_lt_of_cell? _ _ mm1)).trans mm1
            have x2 := (hEW.cell (World.block_lt_of_cell? _ _ mm2)).trans mm2
            have SRW := SR.below hEW
            have yCP : ∀ V, Below v0.heap.size v0 V → Calls Tryd.prog 11 #[.pointer pv, .slice r.k.ao r.k.n r.k.cap, .slice r.v.ao r.v.n r.v.cap] V fun e w' => ∃ pz, e = .returned (.tuple #[.pointer pz, .int .i64 0]) ∧ TT w' (.pointer pz) (ins l2 r.it) ∧ Below V.heap.size V w' := fun V hV => (tput_any V (.pointer pv) l2 r.it r.k.ao r.v.ao r.k.n r.k.cap r.v.n r.v.cap (HT.out.below (hBW.trans (hV.mono hBW.size)) t2) (TUW.below hV) HMW.out.srt (SRW.1.below hV) (SRW.2.below hV) (by omega) (by omega) (by omega) 0 (jL_one ⟨by show 1 ≤ r.k.n; omega, by show r.k.n ≤ 256; omega, by show r.v.n ≤ 1024; omega⟩)).mono fun e w' ⟨pu, h1, h2, _, h4⟩ => ⟨pu, h1, h2 rfl, h4⟩
            have hEp := hBp.trans (hEW.mono hBp.size)
            clear mm1 mm2
            go_wp2_with fail
            have yHS : Hid (∀ V, Below v0.heap.size v0 V → V.cell? ⟨g, k' * 2, none⟩ = some (.slice r.k.ao r.k.n r.k.cap) ∧ V.cell? ⟨g, k' * 2 + 1, none⟩ = some (.slice r.v.ao r.v.n r.v.cap)) := fun V hV => ⟨(hV.cell (World.block_lt_of_cell? _ _ x1)).trans x1, (hV.cell (World.block_lt_of_cell? _ _ x2)).trans x2⟩
            have yE0 : Below v0.heap.size v0 v0.drew := (Below.refl _ _).drew
            refine wp_region_noPanic ?_
            refine wp_region_held_drew (S := fun V => V.cell? ⟨g, k' * 2, none⟩ = some (.slice r.k.ao r.k.n r.k.cap) ∧ V.cell? ⟨g, k' * 2 + 1, none⟩ = some (.slice r.v.ao r.v.n r.v.cap)) (by kernel_rfl) (yHS.out _ yE0) (fun yH0 => ?_)
            obtain ⟨yv0, hv0⟩ : ∃ v, v = v0.drew := ⟨_, rfl⟩
            rw [← hv0] at yH0 yE0 ⊢
            clear hv0
            refine hr_take_w 0 (some 159) (.pointer pv) rfl rfl (by kernel_rfl) (by kernel_rfl) (by kernel_rfl) rfl (fun W hW => by obtain ⟨h0, h1⟩ := hW; go_simp) yH0 ?_
            simp only [Act.put, List.setIfInBounds_toArray, List.set_cons_zero, List.set_cons_succ]
            refine hr_take_w 1 (some 160) (.slice (some ⟨g, 0, none⟩) k mc) rfl rfl (by kernel_rfl) (by kernel_rfl) (by kernel_rfl) rfl (fun W hW => by obtain ⟨h0, h1⟩ := hW; go_simp) yH0 ?_
            simp only [Act.put, List.setIfInBounds_toArray, List.set_cons_zero, List.set_cons_succ]
            refine hr_take_w 2 (some 161) (.int .i64 k') rfl rfl (by kernel_rfl) (by kernel_rfl) (by kernel_rfl) rfl (fun W hW => by obtain ⟨h0, h1⟩ := hW; go_simp) yH0 ?_
            simp only [Act.put, List.setIfInBounds_toArray, List.set_cons_zero, List.set_cons_succ]
            refine hr_take_w 3 (some 162) (.pointer (some ⟨g, k' * 2, none⟩)) rfl rfl (by kernel_rfl) (by kernel_rfl) (by kernel_rfl) rfl (fun W hW => by obtain ⟨h0, h1⟩ := hW; go_simp) yH0 ?_
            simp only [Act.put, List.setIfInBounds_toArray, List.set_cons_zero, List.set_cons_succ]
            refine hr_take_w 4 (some 163) (.pointer (some ⟨g, k' * 2, none⟩)) rfl rfl (by kernel_rfl) (by kernel_rfl) (by kernel_rfl) rfl (fun W hW => by obtain ⟨h0, h1⟩ := hW; go_simp) yH0 ?_
            simp only [Act.put, List.setIfInBounds_toArray, List.set_cons_zero, List.set_cons_succ]
            refine hr_take_w 5 (some 164) (.slice r.k.ao r.k.n r.k.cap) rfl rfl (by kernel_rfl) (by kernel_rfl) (by kernel_rfl) rfl (fun W hW => by obtain ⟨h0, h1⟩ := hW; go_simp) yH0 ?_
            simp only [Act.put, List.setIfInBounds_toArray, List.set_cons_zero, List.set_cons_succ]
            refine hr_take_w 6 (some 165) (.slice (some ⟨g, 0, none⟩) k mc) rfl rfl (by kernel_rfl) (by kernel_rfl) (by kernel_rfl) rfl (fun W hW => by obtain ⟨h0, h1⟩ := hW; go_simp) yH0 ?_
            simp only [Act.put, List.setIfInBounds_toArray, List.set_cons_zero, List.set_cons_succ]
            refine hr_take_w 7 (some 166) (.int .i64 k') rfl rfl (by kernel_rfl) (by kernel_rfl) (by kernel_rfl) rfl (fun W hW => by obtain ⟨h0, h1⟩ := hW; go_simp) yH0 ?_
            simp only [Act.put, List.setIfInBounds_toArray, List.set_cons_zero, List.set_cons_succ]
            refine hr_take_w 8 (some 167) (.pointer (some ⟨g, k' * 2, none⟩)) rfl rfl (by kernel_rfl) (by kernel_rfl) (by kernel_rfl) rfl (fun W hW => by obtain ⟨h0, h1⟩ := hW; go_simp) yH0 ?_
            simp only [Act.put, List.setIfInBounds_toArray, List.set_cons_zero, List.set_cons_succ]
            refine hr_take_w 9 (some 168) (.pointer (some ⟨g, k' * 2 + 1, none⟩)) rfl rfl (by kernel_rfl) (by kernel_rfl) (by kernel_rfl) rfl (fun W hW => by obtain ⟨h0, h1⟩ := hW; go_simp) yH0 ?_
            simp only [Act.put, List.setIfInBounds_toArray, List.set_cons_zero, List.set_cons_succ]
            refine hr_take_w 10 (some 169) (.slice r.v.ao r.v.n r.v.cap) rfl rfl (by kernel_rfl) (by kernel_rfl) (by kernel_rfl) rfl (fun W hW => by obtain ⟨h0, h1⟩ := hW; go_simp) yH0 ?_
            simp only [Act.put, List.setIfInBounds_toArray, List.set_cons_zero, List.set_cons_succ]
            refine hr_call_w 11 (some 170) 11 #[.pointer pv, .slice r.k.ao r.k.n r.k.cap, .slice r.v.ao r.v.n r.v.cap] rfl rfl (by kernel_rfl) rfl (by go_simp) (fun v w' => ∃ pz, v = .tuple #[.pointer pz, .int .i64 0] ∧ TT w' (.pointer pz) (ins l2 r.it) ∧ Below yv0.heap.size yv0 w') ((yCP yv0 yE0).mono (by
              rintro e w' ⟨pz, rfl, F, C⟩
              exact ⟨_, rfl, pz, rfl, F, C⟩)) ?_
            rintro v yv1 ⟨pz, rfl, yF0, yC0⟩
            have yE1 := yE0.trans (yC0.mono yE0.size)
            have yH1 := yHS.out yv1 yE1
            refine ⟨yH1, ?_⟩
            simp only [Act.put, List.setIfInBounds_toArray, List.set_cons_zero, List.set_cons_succ]
            refine hr_take_w 12 (some 158) (.tuple #[.pointer pz, .int .i64 0]) rfl rfl (by kernel_rfl) (by kernel_rfl) (by kernel_rfl) rfl (fun W hW => by obtain ⟨h0, h1⟩ := hW; go_simp) yH1 ?_
            simp only [Act.put, List.setIfInBounds_toArray, List.set_cons_zero, List.set_cons_succ]
            refine hr_take_w 13 (some 171) (.pointer pz) rfl rfl (by kernel_rfl) (by kernel_rfl) (by kernel_rfl) rfl (fun W hW => by obtain ⟨h0, h1⟩ := hW; go_simp) yH1 ?_
            simp only [Act.put, List.setIfInBounds_toArray, List.set_cons_zero, List.set_cons_succ]
            refine hr_take_w 14 (some 172) (.int .i64 0) rfl rfl (by kernel_rfl) (by kernel_rfl) (by kernel_rfl) rfl (fun W hW => by obtain ⟨h0, h1⟩ := hW; go_simp) yH1 ?_
            simp only [Act.put, List.setIfInBounds_toArray, List.set_cons_zero, List.set_cons_succ]
            refine hr_take_w 15 (some 12) (.pointer pz) rfl rfl (by kernel_rfl) (by kernel_rfl) (by kernel_rfl) rfl (fun W hW => by obtain ⟨h0, h1⟩ := hW; go_simp) yH1 ?_
            simp only [Act.put, List.setIfInBounds_toArray, List.set_cons_zero, List.set_cons_succ]
            refine wpAnyH_done (by kernel_rfl) ?_ _
            refine NoPanic.normal ?_
            have hEp2 := hEp.trans (yE1.mono hEp.size)
            have HZ1 : Hid (Mix2 its ((ms.take (k' + 1)).map IP.it) (more.map fun p => p.k.xs) (ins l2 r.it)) := by rw [HT3.out, List.map_append]; exact HMW.out.next HPI.out HGD.out HRM.out
            have hlz : (ins l2 r.it).length ≤ 2 * (k' + 1) := by have := ins_len l2 r.it; omega
            clear x1 x2
            go_wp2
            go_roundw
            case rel => exact ⟨k' + 1, pz, ins l2 r.it, by omega, by go_num, rfl, yF0, HZ1, hlz, hEp2⟩
            case measure => simp [intOf]; omega
        · have hge2 : ¬ (k' : Int) < (k : Int) := by omega
          obtain rfl : k' = k := by omega
          have HM2 : Hid (Mix2 its (ms.map IP.it) (more.map fun p => p.k.xs) l2) := by have := HM1.out; rwa [List.take_of_length_le (by omega)] at this
          have HPI : Hid (∀ x ∈ ms.map IP.it, ∃ p ∈ its, p.it = x) := fun x hx => by
            obtain ⟨p, hp, rfl⟩ := List.mem_map.1 hx
            exact ⟨p, HP.out.mem_iff.1 hp, rfl⟩
          clear HM1
          go_wp2_with fail
          obtain ⟨wq, rfl⟩ : ∃ W, W = wr := ⟨wr, rfl⟩
          go_loopw [12, 14] (fun u i wr => ∃ (t : Nat) (pw : Option Addr) (l3 : List It), t ≤ n1 ∧ i = .int .i64 t ∧ u = .pointer pw ∧ TT wr (.pointer pw) l3 ∧ Hid (Mix2 its (ms.map IP.it) ((more.drop t).map fun p => p.k.xs) l3) ∧ l3.length ≤ 32 ∧ Below wq.heap.size wq wr) (fun _ i _ => n1 - (intOf i).toNat)
          case atStart => exact ⟨0, pv, l2, Nat.zero_le _, rfl, rfl, TU1, HM2, by omega, Below.refl _ _⟩
          case round =>
            obtain ⟨t, pw, l3, htn, rfl, rfl, TV1, HM3, hl3, hBq⟩ := hrel
            have hBs := hBr.trans (hBq.mono hBr.size)
            by_cases hlt : t < n1
            · have hki : (t : Int) < (n1 : Int) := by omega
              have hkl : t < more.length := by have := HLN1.out; omega
              have IL1 := h1.below hBs
              obtain ⟨b1, off1, rfl, hc⟩ := IL1.at (by omega)
              obtain ⟨d1, d2⟩ := hc t hkl
              have SQ : more[t].ok wr := IL1.sl more[t] (List.getElem_mem hkl)
              have HD : Hid (more.drop t = more[t] :: more.drop (t + 1)) := List.drop_eq_getElem_cons hkl
              obtain ⟨q, hqe⟩ : ∃ q, q = more[t] := ⟨_, rfl⟩
              rw [← hqe] at d1 SQ HD
              unfold Part.val at d1
              have HM4 : Hid (Mix2 its (ms.map IP.it) (q.k.xs :: (more.drop (t + 1)).map fun p => p.k.xs) l3) := by have := HM3.out; rwa [HD.out] at this
              have IL0 := h0.below hBs
              have CF := rfind7_any wr _ k' c0 its q.k.ao q.k.n q.k.cap q.k.xs IL0 SQ.1
              clear hc d2 hqe
              go_wp2_with fail
              refine CF.mono ?_
              rintro e w3 ⟨r0, rfl, F, C3⟩
              have B3 := hBs.trans (C3.mono hBs.size)
              have hE3 := hBq.trans (C3.mono hBq.size)
              rcases F with ⟨rfl, hF⟩ | ⟨kk, hkk, rfl, hF, -⟩
              · have HF : Hid (∀ p ∈ its, p.k.xs ≠ q.k.xs) := hF
                have e1 := (C3.cell (World.block_lt_of_cell? _ _ d1)).trans d1
                have CD := tdel_any w3 (.pointer pw) l3 q.k.xs q.k.ao q.k.n q.k.cap (TV1.below C3) HM4.out.srt (SQ.1.below C3) (by omega)
                clear hF d1 CF
                go_wp2_with fail
                refine CD.mono ?_
                rintro e w4 ⟨u4, is4, rfl, hy4, hn4, C4⟩
                have TV4 : TT w4 (.pointer u4) (del l3 q.k.xs) := by
                  cases is4 with
                  | true => exact (hy4 rfl).2
                  | false =>
                    obtain ⟨h5, h6⟩ := hn4 rfl
                    rw [del_none HM4.out.srt h5, ← h6]
                    exact (TV1.below C3).below C4
                have hE4 := hE3.trans (C4.mono hE3.size)
                have HM5 : Hid (Mix2 its (ms.map IP.it) ((more.drop (t + 1)).map fun p => p.k.xs) (del l3 q.k.xs)) := HM4.out.gone HPI.out HF.out
                have hl5 : (del l3 q.k.xs).length ≤ 32 := by have := del_len l3 q.k.xs; omega
                clear hy4 hn4 e1 CD
                go_wp2
                go_roundw
                case rel => exact ⟨t + 1, u4, del l3 q.k.xs, by omega, by go_num, rfl, TV4, HM5, hl5, hE4⟩
                case measure => simp [intOf]; omega
              · have HM5 : Hid (Mix2 its (ms.map IP.it) ((more.drop (t + 1)).map fun p => p.k.xs) l3) := HM4.out.skip (List.getElem_mem hkk) hF
                have TV4 := TV1.below C3
                clear hF d1 CF
                go_wp2
                go_roundw
                case rel => exact ⟨t + 1, pw, l3, by omega, by go_num, rfl, TV4, HM5, hl3, hE3⟩
                case measure => simp [intOf]; omega
            · have hge3 : ¬ (t : Int) < (n1 : Int) := by omega
              have HM4 : Hid (Mix2 its (ms.map IP.it) [] l3) := by have := HM3.out; rwa [List.drop_of_length_le (by have := HLN1.out; omega)] at this
              have hl3e : l3 = l := HM4.out.srt.same HS1.out fun x => (HM4.out.end x).trans ((HP.out.map IP.it).mem_iff.trans HPL.out.mem_iff.symm)
              rw [hl3e] at TV1
              have TL : TT wr (.pointer po) l := (TT1.below hBp).below hBq
              have HSZ : Hid (Szs l) := ⟨by omega, fun x hx => by
                obtain ⟨q, hq, rfl⟩ := List.mem_map.1 (HPL.out.mem_iff.1 hx)
                have h3 := HLG.out q hq
                have h5 := (h0.sl q hq).1.len
                have h6 := (h0.sl q hq).2.len
                exact ⟨by show q.k.xs.length ≤ _; omega, by show q.v.xs.length ≤ _; omega⟩⟩
              have IMs := ((IM2.below hBo).below hBp).below hBq
              have hGm := HGD.out.perm HP.out
              have HGM : Hid (Gd7 ms) := hGm
              have CM := tmake_any wr (some ⟨g, 0, none⟩) k' mc ms (HT.out.below hBs t2) IMs (by omega) (fun q hq => by have := hGm.sz q hq; omega)
              have HLL : Hid (l.length = k') := hll
              have hl50 : l.length ≤ 50000 := by omega
              clear hl3e HM3 HM2 hGm hll hl3 hl2 TU1 TT1
              go_wp2_with fail
              refine CM.mono ?_
              rintro e w3 ⟨u3, kd, rfl, C3, hp⟩
              rcases hp with ⟨rfl, -, l', hperm, hsrt, TW3⟩ | ⟨hkd, -, hbad⟩
              · have e' : l' = l := hsrt.perm HS1.out (hperm.trans ((HP.out.map IP.it).trans HPL.out.symm))
                rw [e'] at TW3
                have B3 := hBs.trans (C3.mono hBs.size)
                have T3 := TL.below C3
                have U3 := TV1.below C3
                clear hperm hsrt e' CM TL TV1
                have CR := root_any w3 (.pointer po) l T3 (HT.out.below B3 t2) HSZ.out
                go_wp2_with fail
                refine CR.mono ?_
                rintro e w4 ⟨r4, rc4, rfl, S4, C4⟩
                have B4 := B3.trans (C4.mono B3.size)
                clear CR
                have CR := root_any w4 (.pointer pw) l (U3.below C4) (HT.out.below B4 t2) HSZ.out
                go_wp2_with fail
                refine CR.mono ?_
                rintro e w5 ⟨r5, rc5, rfl, S5, C5⟩
                have B5 := B4.trans (C5.mono B4.size)
                clear CR
                have CE := same_roots S4 S5 C5
                go_wp2_with fail
                refine CE.mono ?_
                rintro e w6 ⟨rfl, C6⟩
                have B6 := B5.trans (C6.mono B5.size)
                have E6 : Below w3.heap.size w3 w6 := C4.trans ((C5.mono C4.size).trans (C6.mono (by have := C4.size; have := C5.size; omega)))
                have T6 := T3.below E6
                have U6 := U3.below E6
                have V6 := TW3.below E6
                clear CE S4 S5 C4 C5 C6 E6 T3 U3 TW3
                have CR := root_any w6 (.pointer po) l T6 (HT.out.below B6 t2) HSZ.out
                go_wp2_with fail
                refine CR.mono ?_
                rintro e w7 ⟨r7, rc7, rfl, S7, C7⟩
                have B7 := B6.trans (C7.mono B6.size)
                clear CR
                have CR := root_any w7 (.pointer u3) l (V6.below C7) (HT.out.below B7 t2) HSZ.out
                go_wp2_with fail
                refine CR.mono ?_
                rintro e w8 ⟨r8, rc8, rfl, S8, C8⟩
                have B8 := B7.trans (C8.mono B7.size)
                clear CR
                have CE := same_roots S7 S8 C8
                go_wp2_with fail
                refine CE.mono ?_
                rintro e w9 ⟨rfl, C9⟩
                have B9 := B8.trans (C9.mono B8.size)
                have E9 : Below w6.heap.size w6 w9 := C7.trans ((C8.mono C7.size).trans (C9.mono (by have := C7.size; have := C8.size; omega)))
                have T9 := T6.below E9
                have U9 := U6.below E9
                clear CE S7 S8 C7 C8 C9 E9 T6 U6 V6
                have CN := len_any w9 (.pointer po) l T9 HS1.out hl50
                rw [HLL.out] at CN
                go_wp2_with fail
                refine CN.mono ?_
                rintro e w10 ⟨rfl, C10⟩
                have B10 := B9.trans (C10.mono B9.size)
                have CN2 := len_any w10 (.pointer pw) l (U9.below C10) HS1.out hl50
                rw [HLL.out] at CN2
                clear CN
                go_wp2_with fail
                refine CN2.mono ?_
                rintro e w11 ⟨rfl, C11⟩
                have B11 := B10.trans (C11.mono B10.size)
                have AL := alive7 w11 (HT.out.below B11 t2)
                clear CN2
                go_wp2_with fail
                refine AL.mono ?_
                rintro e w12 ⟨rfl, C12⟩
                have B12 := B11.trans (C12.mono B11.size)
                go_wp2
                go_ret
                exact ⟨rfl, B12⟩
              · exact absurd HGM.out.nd (hbad (jL_all ms HGM.out.sz))
end Go.Proofs.YtiabdcejibeciaaDoor

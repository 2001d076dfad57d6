/-
  Check, Forged.
-/
import Derived.Test.YtkncfjokkojfpaaDoorSTagM
import Derived.Test.YtkncfjokkojfpaaDoorSame
import Derived.Stop.BytesEq
namespace Go.Proofs.YtkncfjokkojfpaaDoor
open Go.RowKit

theorem bv_cells (bs : List Int) (h : Byt bs) : (bs.map fun n => UInt8.ofNat n.toNat).map Extern.Stop.cell = bv bs := by
  unfold bv
  rw [List.map_map]
  refine List.map_congr_left fun x hx => ?_
  have := h x hx
  simp only [Function.comp, Extern.Stop.cell, Value.int.injEq, true_and]
  have h0 : x.toNat % 2 ^ 8 = x.toNat := Nat.mod_eq_of_lt (by omega)
  rw [UInt8.toNat_ofNat', h0]
  exact Int.toNat_of_nonneg this.1
theorem u8_inj (bs cs : List Int) (hb : Byt bs) (hc : Byt cs) (h : (bs.map fun n => UInt8.ofNat n.toNat) = cs.map fun n => UInt8.ofNat n.toNat) : bs = cs := by
  have := congrArg (List.map Extern.Stop.cell) h
  rw [bv_cells bs hb, bv_cells cs hc] at this
  unfold bv at this
  exact List.map_inj_right (fun a b e => by simpa using e) |>.1 this
theorem sz5 (w : World) : (sizeOf 5).run Tryd.prog w = .ok 1 w := by kernel_rfl
theorem run_eql60 (w : World) (bs cs : List Int) (hb : Byt bs) (hc : Byt cs) (h1 : bs.length = 32) (h2 : cs.length = 32) : (binOp .eql 60 (.agg (bv bs).toArray) (.agg (bv cs).toArray)).run Tryd.prog w = .ok (.bool (decide (bs = cs))) w := by
  have := run_eql_bytes (P := Tryd.prog) w 60 5 32 Tryd.underlying60 Tryd.underlying5 sz5 (bs.map fun n => UInt8.ofNat n.toNat) (cs.map fun n => UInt8.ofNat n.toNat) (by simpa using h1) (by simpa using h2)
  rw [bv_cells bs hb, bv_cells cs hc] at this
  rw [this]
  congr 2
  rw [Bool.eq_iff_iff]
  simp only [beq_iff_eq, decide_eq_true_eq]
  exact ⟨fun e => u8_inj bs cs hb hc e, fun e => by rw [e]⟩
theorem exec_eql60 {a : Act} {w : World} {o : Oper} {x y : Operand} {bs cs : List Int} (ho : o.op = .binOp .eql 60 x y 60) (hx : a.eval x = .agg (bv bs).toArray) (hy : a.eval y = .agg (bv cs).toArray) (hb : Byt bs) (hc : Byt cs) (h1 : bs.length = 32) (h2 : cs.length = 32) :
    (execOp a.eval o).run Tryd.prog w = .ok (.value (.bool (decide (bs = cs)))) w := by
  have hr := run_eql60 w bs cs hb hc h1 h2
  have hg : (eqGuard .eql 60 x y (.agg (bv bs).toArray) (.agg (bv cs).toArray)).run Tryd.prog w = .ok () w := by
    simp [eqGuard, run_program, Result.andThen]
  unfold execOp
  simp only [ho, hx, hy, Sem.run_bind, hg, hr, Result.andThen_ok, Sem.run_pure]

theorem wpList_load_cells_w {P : Program} {ops : Array Oper} {rest : List Oper} {o : Oper} {a : Act} {w : World} {Q : Exit → Act → World → Prop} (hw : Region.wanted o (yielded ops a.tmps) = true) (ty : TypeId) (x : Operand) (ho : o.op = .load ty x)
    (ad : Addr) (hx : a.eval x = .pointer (some ad)) (cs : List Value) (hc : ∀ j v, cs[j]? = some v → w.cell? (ad.add j) = some v)
    (hagg : ∀ w, (isAgg ty).run P w = .ok true w) (hi : (P.info? ty).map (·.size) = some cs.length)
    (h : wpList P ops Q rest (a.put o.dst (.agg cs.toArray)) w) : wpList P ops Q (o :: rest) a w := by
  refine wpList_step fun K hK => ?_
  simp only [hw, if_true]
  unfold Oper.wp execOp
  simp only [ho, hx, Instr.loadAt, Instr.sureAddr, Sem.run_bind, Sem.run_pure, Result.andThen_ok, run_loadVar_cells w ad ty cs hc (hagg w) hi]
  exact hK _ _ h

theorem check_unknown (w : World) (p mk ms : Nat) (real : Bool) (nk ns : Nat) (KF SF : Value → Option Value) (node : Nat) (v u : Value) (h : BK w p mk ms real nk ns KF SF) (hn : node < 18446744073709551616) (hk : (KF (.int .u64 node)).isSome = false) :
    Calls Tryd.prog 20 #[.pointer (some ⟨p, 0, none⟩), .int .u64 node, v, u] w fun e w' => e = .returned (.bool false) ∧ w' = w := by
  go_enter Tryd.func20, Tryd.ntmps20
  go_wp2_with (go_at_call 31; refine (knows_any w p mk ms real nk ns KF SF node h hn).mono ?_; rintro e w' ⟨rfl, rfl⟩; rw [hk])
  go_ret
  exact ⟨rfl, rfl⟩
theorem check_short (w : World) (p mk ms : Nat) (real : Bool) (nk ns : Nat) (KF SF : Value → Option Value) (node : Nat) (v : Value) (to : Option Addr) (tn tc : Nat) (h : BK w p mk ms real nk ns KF SF) (hn : node < 18446744073709551616) (hk : (KF (.int .u64 node)).isSome = true) (ht : tn ≠ 32) :
    Calls Tryd.prog 20 #[.pointer (some ⟨p, 0, none⟩), .int .u64 node, v, .slice to tn tc] w fun e w' => e = .returned (.bool false) ∧ w' = w := by
  have hd : ((tn : Int) != 32) = true := by simp; omega
  go_enter Tryd.func20, Tryd.ntmps20
  go_wp2_with (go_at_call 31; refine (knows_any w p mk ms real nk ns KF SF node h hn).mono ?_; rintro e w' ⟨rfl, rfl⟩; rw [hk])
  go_ret
  exact ⟨rfl, rfl⟩

set_option maxRecDepth 100000 in
set_option maxHeartbeats 4000000 in
theorem check_known (w : World) (p mk ms : Nat) (real : Bool) (nk ns : Nat) (KF SF : Value → Option Value) (mst : List Int) (kn : Nat → Bool) (node : Nat) (bo : Option Addr) (bn bc : Nat) (body : List Int) (to : Option Addr) (tc : Nat) (tag : List Int) (h : BK w p mk ms real nk ns KF SF) (hK : KN w real mst kn KF) (hT : Tabs w) (hn : node < 18446744073709551616) (hk : kn node = true) (hB : Sl w bo bn bc body) (hb : bn ≤ 1000000) (hG : Sl w to 32 tc tag) (hu : SU SF) :
    Calls Tryd.prog 20 #[.pointer (some ⟨p, 0, none⟩), .int .u64 node, .slice bo bn bc, .slice to 32 tc] w fun e w' => e = .returned (.bool ((real || (SF (sv node (dgL real node body))).isSome) && decide (tag = tgL real mst node body))) ∧ Below w.heap.size w w' := by
  have hks := (hK.isSome hn).trans hk
  have hp := h.lt
  obtain ⟨tb, tof, rfl, htc⟩ := hG.at (by omega)
  have htl := hG.len
  have htb := hG.byte
  have hbt : (bv tag).length = 32 := by rw [bv_length, htl]
  have htlt : tb < w.heap.size := World.block_lt_of_cell? w _ (htc 0 (by omega))
  obtain ⟨ds, hds⟩ : ∃ ds, ds = dgL real node body := ⟨_, rfl⟩
  have HD : Hid (ds = dgL real node body) := hds
  have hdl : ds.length = 32 := by rw [hds]; exact dgL_len _ _ _
  have hdb : Byt ds := by rw [hds]; exact dgL_byte _ _ _
  obtain ⟨cs, hcs⟩ : ∃ cs, cs = (Value.int .u64 node :: bv ds) := ⟨_, rfl⟩
  have hsv : sv node ds = .agg cs.toArray := by rw [hcs]; rfl
  have hcl : cs.length = 33 := by rw [hcs, svl_len _ _ hdl]
  have hc1 : ∀ u ∈ cs, u.oneCell' = true := by rw [hcs]; exact svl_one _ _
  have i62 : (Tryd.prog.info? 62).map (·.size) = some cs.length := by rw [hcl]; exact a62
  have i60 : (Tryd.prog.info? 60).map (·.size) = some (bv tag).length := by rw [hbt]; exact a60
  have u62 := Tryd.underlying62
  rw [← hds]
  clear hcs hds
  generalize hsa : (SF (sv node ds)).isSome = sa
  have HSA : Hid ((SF (sv node ds)).isSome = sa) := hsa
  clear hsa
  cases real with
  | true =>
    go_enter Tryd.func20, Tryd.ntmps20
    go_wp2_with (first
      | (go_at_call 31; refine (knows_any w p mk ms true nk ns KF SF node h hn).mono ?_; rintro e w' ⟨rfl, hw⟩; obtain rfl := hw.symm; clear hw; rw [hks])
      | (go_at_call 32; refine (sayingOf_any _ p mk ms true nk ns KF SF node bo bn bc body h hT hn hB hb).mono ?_; rintro e w1 ⟨rfl, B1⟩; rw [← HD.out, hsv]; have s1 := B1.size)
      | (refine wpList_alloc_named rfl 9 rfl 62 rfl w1.heap.size rfl _ 33 z62v ?_; intro w2 a2 s2 g2; have B2 := B1.grown g2 s1 (by simp); clear g2)
      | (refine wpList_store_named rfl 62 (.tmp 9) (.tmp 26) rfl w1.heap.size cs rfl rfl _ _ a2 _ s2 i62 (by rw [hcl]; rfl) hc1 ?_; intro w3 a3 s3 g3; have B3 := B2.grown g3 (by omega) (by intro k hk; cases hk; exact s1); have c3 := (h.below B3).c0; clear g3))
    have A3 : w3.heap[w1.heap.size]? = some (.cells cs.toArray 62) := a3
    have t3 := B3.size
    have HS : Hid (∀ W : World, Below w3.heap.size w3 W → W.rangeAt tb tof (bv tag) ∧ W.rangeAt w1.heap.size 0 cs) := by
      intro W hW
      refine ⟨fun j v hv => ?_, fun j v hv => ?_⟩
      · have hj : j < 32 := by have := (List.getElem?_eq_some_iff.1 hv).1; omega
        rw [bv_get tag j (by omega)] at hv
        rw [hW.cell (p := ⟨tb, tof + j, none⟩) (by show tb < w3.heap.size; omega), B3.cell (p := ⟨tb, tof + j, none⟩) htlt, htc j hj]
        exact hv
      · rw [Nat.zero_add, hW.cell (p := ⟨w1.heap.size, j, none⟩) (by show w1.heap.size < w3.heap.size; omega), cell_of_row w3 _ j _ _ _ A3]
        simpa using hv
    have T3 : Tabs w3.drew := hT.below B3.drew hT.two
    have BK3 := h.below B3.drew
    have KN3 := hK.below B3.drew
    go_wp2_with fail
    refine wp_region_noPanic ?_
    refine wp_region_held_drew (S := fun W => W.rangeAt tb tof (bv tag) ∧ W.rangeAt w1.heap.size 0 cs) (by kernel_rfl) (HS.out _ (Below.refl _ _).drew) (fun hH => ?_)
    refine hr_take 0 (some 38) (.slice (some ⟨tb, tof, none⟩) 32 tc) rfl rfl (by kernel_rfl) (by kernel_rfl) (by kernel_rfl) rfl (fun W hW => by obtain ⟨h1, h2⟩ := hW; go_simp) hH ?_
    simp only [Act.put, List.setIfInBounds_toArray, List.set_cons_zero, List.set_cons_succ]
    refine hr_take 1 (some 39) (.pointer (some ⟨tb, tof, none⟩)) rfl rfl (by kernel_rfl) (by kernel_rfl) (by kernel_rfl) rfl (fun W hW => by have hat := run_arrayAt (some ⟨tb, tof, none⟩) 32 tc (Nat.le_refl _); go_simp) hH ?_
    simp only [Act.put, List.setIfInBounds_toArray, List.set_cons_zero, List.set_cons_succ]
    refine hr_take 2 (some 40) (.agg (bv tag).toArray) rfl rfl (by kernel_rfl) (by kernel_rfl) (by kernel_rfl) rfl (fun W hW => by exact exec_load_mid rfl rfl hW.1 Tryd.underlying60 rfl i60) hH ?_
    simp only [Act.put, List.setIfInBounds_toArray, List.set_cons_zero, List.set_cons_succ]
    refine hr_take 3 (some 41) (.pointer (some ⟨p, 0, none⟩)) rfl rfl (by kernel_rfl) (by kernel_rfl) (by kernel_rfl) rfl (fun W hW => by obtain ⟨h1, h2⟩ := hW; go_simp) hH ?_
    simp only [Act.put, List.setIfInBounds_toArray, List.set_cons_zero, List.set_cons_succ]
    refine hr_take 4 (some 42) (.agg cs.toArray) rfl rfl (by kernel_rfl) (by kernel_rfl) (by kernel_rfl) rfl (fun W hW => by exact exec_load_mid rfl rfl hW.2 u62 rfl i62) hH ?_
    simp only [Act.put, List.setIfInBounds_toArray, List.set_cons_zero, List.set_cons_succ]
    refine hr_call 5 (some 43) 33 #[.pointer (some ⟨p, 0, none⟩), .agg cs.toArray] rfl rfl (by kernel_rfl) rfl (by go_simp) (fun v w' => v = .agg (bv (tgL true mst node body)).toArray ∧ Below w3.heap.size w3 w') (by
      rw [← hsv, HD.out]
      refine (tagOf_any w3.drew p mk ms true nk ns KF SF mst kn node body BK3 KN3 T3 hn hk).mono ?_
      rintro e w' ⟨rfl, C⟩
      exact ⟨_, rfl, rfl, (Below.refl w3.heap.size w3).drew.trans C⟩) ?_
    rintro v w5 ⟨rfl, B5⟩
    have hS5 := HS.out w5 B5
    refine ⟨hS5, ?_⟩
    simp only [Act.put, List.setIfInBounds_toArray, List.set_cons_zero, List.set_cons_succ]
    refine hr_do 6 (some 44) (.bool (decide (tag = tgL true mst node body))) rfl rfl (by kernel_rfl) rfl (w' := w5) (exec_eql60 rfl rfl rfl htb (tgL_byte _ _ _ _) htl (tgL_len _ _ _ _)) hS5 ?_
    simp only [Act.put, List.setIfInBounds_toArray, List.set_cons_zero, List.set_cons_succ]
    obtain ⟨dd, hdd⟩ : ∃ dd, dd = decide (tag = tgL true mst node body) := ⟨_, rfl⟩
    rw [← hdd]
    have HDD : Hid (dd = decide (tag = tgL true mst node body)) := hdd
    clear hdd
    refine hr_do 7 (some 8) (.bool dd) rfl rfl (by kernel_rfl) rfl (w' := w5) (by go_simp) hS5 ?_
    refine wpAnyH_done (by kernel_rfl) ?_ _
    refine NoPanic.normal ?_
    clear hH hS5
    go_frame
    go_wp2
    go_ret
    refine ⟨?_, B3.trans (B5.mono (by omega))⟩
    rw [← HDD.out]
    rfl
  | false =>
    cases sa with
    | false =>
      go_enter Tryd.func20, Tryd.ntmps20
      go_wp2_with (first
        | (go_at_call 31; refine (knows_any w p mk ms false nk ns KF SF node h hn).mono ?_; rintro e w' ⟨rfl, hw⟩; obtain rfl := hw.symm; clear hw; rw [hks])
        | (go_at_call 32; refine (sayingOf_any _ p mk ms false nk ns KF SF node bo bn bc body h hT hn hB hb).mono ?_; rintro e w1 ⟨rfl, B1⟩; rw [← HD.out, hsv]; have s1 := B1.size)
        | (refine wpList_alloc_named rfl 9 rfl 62 rfl w1.heap.size rfl _ 33 z62v ?_; intro w2 a2 s2 g2; have B2 := B1.grown g2 s1 (by simp); clear g2)
        | (refine wpList_store_named rfl 62 (.tmp 9) (.tmp 26) rfl w1.heap.size cs rfl rfl _ _ a2 _ s2 i62 (by rw [hcl]; rfl) hc1 ?_; intro w3 a3 s3 g3; have B3 := B2.grown g3 (by omega) (by intro k hk; cases hk; exact s1); have c3 := (h.below B3).c0; clear g3)
        | (refine wpList_load_cells_w rfl 62 (.tmp 9) rfl ⟨w1.heap.size, 0, none⟩ rfl cs (fun j v hv => by rw [add_at, Nat.zero_add, cell_of_row w3 _ j _ _ _ a3]; simpa using hv) g62 i62 ?_)
        | (go_at_call 36; rw [← hsv]; refine (has_any w3 p mk ms false nk ns KF SF node ds (h.below B3) hn hdl hdb hu).mono ?_; rintro e w4 ⟨rfl, C4⟩; rw [HSA.out]; have B4 : Below w.heap.size w w4 := B3.trans (C4.mono B3.size); have t4 := C4.size))
      go_ret
      exact ⟨rfl, B4⟩
    | true =>
      go_enter Tryd.func20, Tryd.ntmps20
      go_wp2_with (first
        | (go_at_call 31; refine (knows_any w p mk ms false nk ns KF SF node h hn).mono ?_; rintro e w' ⟨rfl, hw⟩; obtain rfl := hw.symm; clear hw; rw [hks])
        | (go_at_call 32; refine (sayingOf_any _ p mk ms false nk ns KF SF node bo bn bc body h hT hn hB hb).mono ?_; rintro e w1 ⟨rfl, B1⟩; rw [← HD.out, hsv]; have s1 := B1.size)
        | (refine wpList_alloc_named rfl 9 rfl 62 rfl w1.heap.size rfl _ 33 z62v ?_; intro w2 a2 s2 g2; have B2 := B1.grown g2 s1 (by simp); clear g2)
        | (refine wpList_store_named rfl 62 (.tmp 9) (.tmp 26) rfl w1.heap.size cs rfl rfl _ _ a2 _ s2 i62 (by rw [hcl]; rfl) hc1 ?_; intro w3 a3 s3 g3; have B3 := B2.grown g3 (by omega) (by intro k hk; cases hk; exact s1); have c3 := (h.below B3).c0; clear g3)
        | (refine wpList_load_cells_w rfl 62 (.tmp 9) rfl ⟨w1.heap.size, 0, none⟩ rfl cs (fun j v hv => by rw [add_at, Nat.zero_add, cell_of_row w3 _ j _ _ _ a3]; simpa using hv) g62 i62 ?_)
        | (go_at_call 36; rw [← hsv]; refine (has_any w3 p mk ms false nk ns KF SF node ds (h.below B3) hn hdl hdb hu).mono ?_; rintro e w4 ⟨rfl, C4⟩; rw [HSA.out]; have B4 : Below w.heap.size w w4 := B3.trans (C4.mono B3.size); have t4 := C4.size))
      have A3 : w4.heap[w1.heap.size]? = some (.cells cs.toArray 62) := (C4.block w1.heap.size (by omega)).trans a3
      have t3 := B3.size
      clear C4
      have HS : Hid (∀ W : World, Below w4.heap.size w4 W → W.rangeAt tb tof (bv tag) ∧ W.rangeAt w1.heap.size 0 cs) := by
        intro W hW
        refine ⟨fun j v hv => ?_, fun j v hv => ?_⟩
        · have hj : j < 32 := by have := (List.getElem?_eq_some_iff.1 hv).1; omega
          rw [bv_get tag j (by omega)] at hv
          rw [hW.cell (p := ⟨tb, tof + j, none⟩) (by show tb < w4.heap.size; omega), B4.cell (p := ⟨tb, tof + j, none⟩) htlt, htc j hj]
          exact hv
        · rw [Nat.zero_add, hW.cell (p := ⟨w1.heap.size, j, none⟩) (by show w1.heap.size < w4.heap.size; omega), cell_of_row w4 _ j _ _ _ A3]
          simpa using hv
      have T3 : Tabs w4.drew := hT.below B4.drew hT.two
      have BK3 := h.below B4.drew
      have KN3 := hK.below B4.drew
      go_wp2_with fail
      refine wp_region_noPanic ?_
      refine wp_region_held_drew (S := fun W => W.rangeAt tb tof (bv tag) ∧ W.rangeAt w1.heap.size 0 cs) (by kernel_rfl) (HS.out _ (Below.refl _ _).drew) (fun hH => ?_)
      refine hr_take 0 (some 38) (.slice (some ⟨tb, tof, none⟩) 32 tc) rfl rfl (by kernel_rfl) (by kernel_rfl) (by kernel_rfl) rfl (fun W hW => by obtain ⟨h1, h2⟩ := hW; go_simp) hH ?_
      simp only [Act.put, List.setIfInBounds_toArray, List.set_cons_zero, List.set_cons_succ]
      refine hr_take 1 (some 39) (.pointer (some ⟨tb, tof, none⟩)) rfl rfl (by kernel_rfl) (by kernel_rfl) (by kernel_rfl) rfl (fun W hW => by have hat := run_arrayAt (some ⟨tb, tof, none⟩) 32 tc (Nat.le_refl _); go_simp) hH ?_
      simp only [Act.put, List.setIfInBounds_toArray, List.set_cons_zero, List.set_cons_succ]
      refine hr_take 2 (some 40) (.agg (bv tag).toArray) rfl rfl (by kernel_rfl) (by kernel_rfl) (by kernel_rfl) rfl (fun W hW => by exact exec_load_mid rfl rfl hW.1 Tryd.underlying60 rfl i60) hH ?_
      simp only [Act.put, List.setIfInBounds_toArray, List.set_cons_zero, List.set_cons_succ]
      refine hr_take 3 (some 41) (.pointer (some ⟨p, 0, none⟩)) rfl rfl (by kernel_rfl) (by kernel_rfl) (by kernel_rfl) rfl (fun W hW => by obtain ⟨h1, h2⟩ := hW; go_simp) hH ?_
      simp only [Act.put, List.setIfInBounds_toArray, List.set_cons_zero, List.set_cons_succ]
      refine hr_take 4 (some 42) (.agg cs.toArray) rfl rfl (by kernel_rfl) (by kernel_rfl) (by kernel_rfl) rfl (fun W hW => by exact exec_load_mid rfl rfl hW.2 u62 rfl i62) hH ?_
      simp only [Act.put, List.setIfInBounds_toArray, List.set_cons_zero, List.set_cons_succ]
      refine hr_call 5 (some 43) 33 #[.pointer (some ⟨p, 0, none⟩), .agg cs.toArray] rfl rfl (by kernel_rfl) rfl (by go_simp) (fun v w' => v = .agg (bv (tgL false mst node body)).toArray ∧ Below w4.heap.size w4 w') (by
        rw [← hsv, HD.out]
        refine (tagOf_any w4.drew p mk ms false nk ns KF SF mst kn node body BK3 KN3 T3 hn hk).mono ?_
        rintro e w' ⟨rfl, C⟩
        exact ⟨_, rfl, rfl, (Below.refl w4.heap.size w4).drew.trans C⟩) ?_
      rintro v w5 ⟨rfl, B5⟩
      have hS5 := HS.out w5 B5
      refine ⟨hS5, ?_⟩
      simp only [Act.put, List.setIfInBounds_toArray, List.set_cons_zero, List.set_cons_succ]
      refine hr_do 6 (some 44) (.bool (decide (tag = tgL false mst node body))) rfl rfl (by kernel_rfl) rfl (w' := w5) (exec_eql60 rfl rfl rfl htb (tgL_byte _ _ _ _) htl (tgL_len _ _ _ _)) hS5 ?_
      simp only [Act.put, List.setIfInBounds_toArray, List.set_cons_zero, List.set_cons_succ]
      obtain ⟨dd, hdd⟩ : ∃ dd, dd = decide (tag = tgL false mst node body) := ⟨_, rfl⟩
      rw [← hdd]
      have HDD : Hid (dd = decide (tag = tgL false mst node body)) := hdd
      clear hdd
      refine hr_do 7 (some 8) (.bool dd) rfl rfl (by kernel_rfl) rfl (w' := w5) (by go_simp) hS5 ?_
      refine wpAnyH_done (by kernel_rfl) ?_ _
      refine NoPanic.normal ?_
      clear hH hS5
      go_frame
      go_wp2
      go_ret
      refine ⟨?_, B4.trans (B5.mono (by omega))⟩
      rw [← HDD.out]
      rfl

end Go.Proofs.YtkncfjokkojfpaaDoor

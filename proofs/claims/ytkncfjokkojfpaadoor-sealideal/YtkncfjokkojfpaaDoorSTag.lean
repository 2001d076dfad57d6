/-
  tagOf: the tag of a saying.
-/
import Derived.Test.YtkncfjokkojfpaaDoorSHas
namespace Go.Proofs.YtkncfjokkojfpaaDoor
open Go.RowKit

theorem cells_from1 {w : World} {N : Nat} {x : Value} {cs : List Value} {t : TypeId} (h : w.heap[N]? = some (.cells (x :: cs).toArray t)) : ∀ j v, cs[j]? = some v → w.cell? ((⟨N, 1, none⟩ : Addr).add j) = some v := by
  intro j v hv
  rw [add_at, cell_of_row w _ _ _ _ _ h, Nat.add_comm]
  simpa using hv

set_option maxRecDepth 100000 in
set_option maxHeartbeats 2000000 in
theorem tagOf_ideal (w : World) (p mk ms : Nat) (nk ns : Nat) (KF SF : Value → Option Value) (node : Nat) (ds : List Int) (h : BK w p mk ms false nk ns KF SF) (hl : ds.length = 32) :
    Calls Tryd.prog 33 #[.pointer (some ⟨p, 0, none⟩), sv node ds] w fun e w' => e = .returned (.agg (bv ds).toArray) ∧ Below w.heap.size w w' := by
  have hp := h.lt
  have hbl : (bv ds).length = 32 := by rw [bv_length, hl]
  go_enter Tryd.func33, Tryd.ntmps33
  go_wp2_with (first
    | (refine wpList_box_named rfl 3 rfl 62 _ rfl (sv node ds) rfl w.heap.size rfl ?_; intro w0 a0 s0 g0; have B0 : Below w.heap.size w w0 := (Below.refl _ w).grown g0 (Nat.le_refl _) (by simp); clear g0)
    | (refine wpList_alloc_named rfl 4 rfl 60 rfl (w.heap.size + 1) s0 _ 32 z60v ?_; intro w1 a1 s1 g1; have B1 : Below w.heap.size w w1 := B0.grown g1 (by omega) (by simp); have A0 : w1.heap[w.heap.size]? = some (.cells (.int .u64 node :: bv ds).toArray 62) := (g1.block w.heap.size (by omega) (by simp)).trans a0; have c0 := (h.below B1).c0; clear g1 a0)
    | (refine wpList_load_cells rfl 60 (.tmp 10) rfl ⟨w.heap.size, 1, none⟩ rfl (bv ds) (cells_from1 A0) g60 (a60.trans (by rw [hbl])) ?_)
    | (refine wpList_store_named rfl 60 (.tmp 4) (.tmp 11) rfl (w.heap.size + 1) (bv ds) rfl rfl _ _ a1 _ s1 (a60.trans (by rw [hbl])) (by rw [hbl]; rfl) (bv_one _) ?_; intro w2 a2 s2 g2))
  refine bodyPost_ret (v := .agg (bv ds).toArray) (results_cells rfl _ _ ⟨w.heap.size + 1, 0, none⟩ rfl (bv ds) (fun j v hv => by rw [add_at, Nat.zero_add, Arr.cell a2]; exact hv) (g60 _) (a60.trans (by rw [hbl]))) rfl ?_
  exact ⟨rfl, B1.grown g2 (by omega) (by intro k hk; cases hk; omega)⟩

set_option maxRecDepth 100000 in
set_option maxHeartbeats 2000000 in
theorem tagOf_real (w : World) (p mk ms : Nat) (nk ns : Nat) (KF SF : Value → Option Value) (node : Nat) (ds : List Int) (ko : Option Addr) (kn kc : Nat) (key : List Int) (h : BK w p mk ms true nk ns KF SF) (hT : Tabs w) (hn : node < 18446744073709551616) (hl : ds.length = 32) (hb : Byt ds)
    (hk : KF (.int .u64 node) = some (.slice ko kn kc)) (hS : Sl w ko kn kc key) :
    Calls Tryd.prog 33 #[.pointer (some ⟨p, 0, none⟩), sv node ds] w fun e w' => e = .returned (.agg (bv (macL key ds)).toArray) ∧ Below w.heap.size w w' := by
  have h2 := hT.two
  have hp := h.lt
  have hbl : (bv ds).length = 32 := by rw [bv_length, hl]
  have hml : (macL key ds).length = 32 := sumL_len _
  have hmb : (bv (macL key ds)).length = 32 := by rw [bv_length, hml]
  have look : ∀ W : World, Below w.heap.size w W → (Instr.lookup 53 (.map (some mk)) (.int .u64 node) false).run Tryd.prog W = .ok (.slice ko kn kc) W := by
    intro W hW
    have := ((h.below hW).keys).look1 k24 Tryd.underlying53 (z22 W) (key24 node hn)
    rw [hk] at this
    exact this
  go_enter Tryd.func33, Tryd.ntmps33
  go_wp2_with (first
    | (refine wpList_box_named rfl 3 rfl 62 _ rfl (sv node ds) rfl w.heap.size rfl ?_; intro w0 a0 s0 g0; have B0 : Below w.heap.size w w0 := (Below.refl _ w).grown g0 (Nat.le_refl _) (by simp); clear g0)
    | (refine wpList_alloc_named rfl 4 rfl 60 rfl (w.heap.size + 1) s0 _ 32 z60v ?_; intro w1 a1 s1 g1; have B1 : Below w.heap.size w w1 := B0.grown g1 (by omega) (by simp); have A0 : w1.heap[w.heap.size]? = some (.cells (.int .u64 node :: bv ds).toArray 62) := (g1.block w.heap.size (by omega) (by simp)).trans a0; have c0 := (h.below B1).c0; clear g1 a0))
  have HS : Hid (∀ W : World, Below (w.heap.size + 1) w1 W → W.cell? ⟨p, 1, none⟩ = some (.map (some mk)) ∧ W.cell? ⟨w.heap.size, 0, none⟩ = some (.int .u64 node) ∧ (Instr.lookup 53 (.map (some mk)) (.int .u64 node) false).run Tryd.prog W = .ok (.slice ko kn kc) W) := by
    intro W hW
    have hB : Below w.heap.size w W := B1.trans (hW.mono (by omega))
    refine ⟨(h.below hB).c1, ?_, look W hB⟩
    rw [hW.cell (p := ⟨w.heap.size, 0, none⟩) (by show w.heap.size < w.heap.size + 1; omega), cell_of_row w1 _ 0 _ _ _ A0]
    rfl
  have K1 := hS.below (B1.trans (Below.refl w.heap.size w1).drew)
  have D1 : Sl w1.drew (some ⟨w.heap.size, 1, none⟩) 32 32 ds := by
    refine ⟨hl, Nat.le_refl _, by decide, fun h => by simp at h, fun a ha i hi => ?_, hb⟩
    obtain rfl := Option.some.inj ha
    rw [add_at]
    show w1.cell? _ = _
    rw [cell_of_row w1 _ _ _ _ _ A0, Nat.add_comm]
    simpa using bv_get ds i (by omega)
  have T1 : Tabs w1.drew := hT.below B1.drew h2
  clear look
  go_wp2_with fail
  refine wp_region_noPanic ?_
  refine wp_region_held_drew (S := fun W => W.cell? ⟨p, 1, none⟩ = some (.map (some mk)) ∧ W.cell? ⟨w.heap.size, 0, none⟩ = some (.int .u64 node) ∧ (Instr.lookup 53 (.map (some mk)) (.int .u64 node) false).run Tryd.prog W = .ok (.slice ko kn kc) W) (by kernel_rfl) (HS.out _ (Below.refl _ _).drew) (fun hH => ?_)
  refine hr_take 0 (some 12) (.pointer (some ⟨p, 0, none⟩)) rfl rfl (by kernel_rfl) (by kernel_rfl) (by kernel_rfl) rfl (fun W hW => by obtain ⟨h1, h2, h3⟩ := hW; go_simp) hH ?_
  simp only [Act.put, List.setIfInBounds_toArray, List.set_cons_zero, List.set_cons_succ]
  refine hr_take 1 (some 13) (.pointer (some ⟨p, 0, none⟩)) rfl rfl (by kernel_rfl) (by kernel_rfl) (by kernel_rfl) rfl (fun W hW => by obtain ⟨h1, h2, h3⟩ := hW; go_simp) hH ?_
  simp only [Act.put, List.setIfInBounds_toArray, List.set_cons_zero, List.set_cons_succ]
  refine hr_take 2 (some 14) (.pointer (some ⟨p, 1, none⟩)) rfl rfl (by kernel_rfl) (by kernel_rfl) (by kernel_rfl) rfl (fun W hW => by obtain ⟨h1, h2, h3⟩ := hW; go_simp) hH ?_
  simp only [Act.put, List.setIfInBounds_toArray, List.set_cons_zero, List.set_cons_succ]
  refine hr_take 3 (some 15) (.map (some mk)) rfl rfl (by kernel_rfl) (by kernel_rfl) (by kernel_rfl) rfl (fun W hW => by obtain ⟨h1, h2, h3⟩ := hW; go_simp) hH ?_
  simp only [Act.put, List.setIfInBounds_toArray, List.set_cons_zero, List.set_cons_succ]
  refine hr_take 4 (some 16) (.pointer (some ⟨w.heap.size, 0, none⟩)) rfl rfl (by kernel_rfl) (by kernel_rfl) (by kernel_rfl) rfl (fun W hW => by obtain ⟨h1, h2, h3⟩ := hW; go_simp) hH ?_
  simp only [Act.put, List.setIfInBounds_toArray, List.set_cons_zero, List.set_cons_succ]
  refine hr_take 5 (some 17) (.int .u64 node) rfl rfl (by kernel_rfl) (by kernel_rfl) (by kernel_rfl) rfl (fun W hW => by obtain ⟨h1, h2, h3⟩ := hW; go_simp) hH ?_
  simp only [Act.put, List.setIfInBounds_toArray, List.set_cons_zero, List.set_cons_succ]
  refine hr_take 6 (some 18) (.slice ko kn kc) rfl rfl (by kernel_rfl) (by kernel_rfl) (by kernel_rfl) rfl (fun W hW => by exact exec_lookup rfl rfl rfl hW.2.2) hH ?_
  simp only [Act.put, List.setIfInBounds_toArray, List.set_cons_zero, List.set_cons_succ]
  refine hr_take 7 (some 19) (.pointer (some ⟨w.heap.size, 1, none⟩)) rfl rfl (by kernel_rfl) (by kernel_rfl) (by kernel_rfl) rfl (fun W hW => by obtain ⟨h1, h2, h3⟩ := hW; go_simp) hH ?_
  simp only [Act.put, List.setIfInBounds_toArray, List.set_cons_zero, List.set_cons_succ]
  refine hr_take 8 (some 20) (.slice (some ⟨w.heap.size, 1, none⟩) 32 32) rfl rfl (by kernel_rfl) (by kernel_rfl) (by kernel_rfl) rfl (fun W hW => by obtain ⟨h1, h2, h3⟩ := hW; go_simp) hH ?_
  simp only [Act.put, List.setIfInBounds_toArray, List.set_cons_zero, List.set_cons_succ]
  refine hr_call 9 (some 21) 46 #[.slice ko kn kc, .slice (some ⟨w.heap.size, 1, none⟩) 32 32] rfl rfl (by kernel_rfl) rfl (by go_simp) (fun v w' => w'.ownsRow w1.heap.size 5 1 v 32 (bv (macL key ds)) ∧ Below w1.heap.size w1 w') ((mac_any w1.drew ko kn kc key _ 32 32 ds T1 K1 D1).mono ?_) ?_
  · rintro e w' ⟨v, rfl, own, C⟩
    exact ⟨v, rfl, own, (Below.refl w1.heap.size w1).drew.trans C⟩
  rintro v w2 ⟨own2, B2⟩
  obtain ⟨g2, c2, rfl, hg2, -⟩ := own2.form (by omega)
  have cl := own2.cells (g := g2) rfl
  have hS2 := HS.out w2 (B2.mono (by omega))
  refine ⟨hS2, ?_⟩
  simp only [Act.put, List.setIfInBounds_toArray, List.set_cons_zero, List.set_cons_succ]
  refine hr_do 10 (some 22) (.pointer (some ⟨g2, 0, none⟩)) rfl rfl (by kernel_rfl) rfl (w' := w2) (by have hat := run_arrayAt (some ⟨g2, 0, none⟩) 32 c2 (Nat.le_refl _); go_simp) hS2 ?_
  simp only [Act.put, List.setIfInBounds_toArray, List.set_cons_zero, List.set_cons_succ]
  refine hr_do 11 (some 23) (.agg (bv (macL key ds)).toArray) rfl rfl (by kernel_rfl) rfl (w' := w2) (exec_load_mid rfl rfl (fun j v hv => by have := cl j v hv; rw [add_at] at this; exact this) Tryd.underlying60 rfl (a60.trans (by rw [hmb]))) hS2 ?_
  simp only [Act.put, List.setIfInBounds_toArray, List.set_cons_zero, List.set_cons_succ]
  have a2 := (B2.block (w.heap.size + 1) (by omega)).trans a1
  have ES : ∀ (a : Act) (o : Oper), o.op = .store 60 (.tmp 4) (.tmp 23) → a.eval (.tmp 4) = .pointer (some ⟨w.heap.size + 1, 0, none⟩) → a.eval (.tmp 23) = .agg (bv (macL key ds)).toArray → ∃ w', (execOp a.eval o).run Tryd.prog w2 = .ok .skip w' ∧ w'.heap[w.heap.size + 1]? = some (.cells (bv (macL key ds)).toArray 60) ∧ w2.grownBy w' (some (w.heap.size + 1)) :=
    fun a o ho hx hy => exec_store_row ho hx hy a2 (a60.trans (by rw [hmb])) (by rw [hmb]; rfl) (bv_one _)
  refine hr_skip_ex 12 none rfl rfl (by kernel_rfl) rfl (ES _ _ rfl rfl rfl) ?_
  rintro w3 ⟨a3, g3⟩
  have B3 : Below (w.heap.size + 1) w1 w3 := (B2.mono (by omega)).grown g3 (by have := B2.size; omega) (by intro k hk; cases hk; exact Nat.le_refl _)
  refine ⟨HS.out w3 B3, ?_⟩
  refine wpAnyH_done (by kernel_rfl) ?_ _
  refine NoPanic.normal ?_
  go_frame
  go_wp2
  refine bodyPost_ret (v := .agg (bv (macL key ds)).toArray) (results_cells rfl _ _ ⟨w.heap.size + 1, 0, none⟩ rfl (bv (macL key ds)) (fun j v hv => by rw [add_at, Nat.zero_add, Arr.cell a3]; exact hv) (g60 _) (a60.trans (by rw [hmb]))) rfl ?_
  exact ⟨rfl, B1.trans (B3.mono (by omega))⟩

end Go.Proofs.YtkncfjokkojfpaaDoor

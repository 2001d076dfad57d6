/-
  has: was it said?
-/
import Derived.Test.YtkncfjokkojfpaaDoorHReg
namespace Go
/-- A value boxed, the world behind it by a name. -/
theorem wpList_box_named {P : Program} {ops : Array Oper} {rest : List Oper} {o : Oper} {a : Act} {w : World} {Q : Exit → Act → World → Prop} (hgd : o.guard = none) (d : Tmp) (hd : o.dst = some d) (ty : TypeId) (x : Operand) (ho : o.op = .box ty x)
    (v : Value) (hx : a.eval x = v) (N : Nat) (hN : w.heap.size = N)
    (h : ∀ w', w'.heap[N]? = some (.cells v.cells ty) → w'.heap.size = N + 1 → w.grownBy w' none → wpList P ops Q rest (a.put (some d) (.pointer (some ⟨N, 0, none⟩))) w') : wpList P ops Q (o :: rest) a w := by
  refine wpList_plain hgd fun K hK => ?_
  rw [← hd] at h
  subst hN
  have hr : (execOp a.eval o).run P w = .ok (.value (.pointer (some ⟨w.heap.size, 0, none⟩))) (w.alloc (.cells v.cells ty)) := by
    unfold execOp
    simp [ho, hx, Instr.box, newVar, newRow]
  unfold Oper.wp
  rw [hr, Oper.upon_value]
  exact hK _ _ (h _ (heap_alloc_new _ _) (by simp) (World.grownBy_alloc _ _ _))
end Go

namespace Go.Proofs.YtkncfjokkojfpaaDoor
open Go.RowKit

set_option maxRecDepth 100000 in
set_option maxHeartbeats 2000000 in
theorem has_any (w : World) (p mk ms : Nat) (real : Bool) (nk ns : Nat) (KF SF : Value → Option Value) (node : Nat) (ds : List Int) (h : BK w p mk ms real nk ns KF SF) (hn : node < 18446744073709551616) (hl : ds.length = 32) (hb : Byt ds) (hu : ∀ v u, SF v = some u → u = .agg #[]) :
    Calls Tryd.prog 36 #[.pointer (some ⟨p, 0, none⟩), sv node ds] w fun e w' => e = .returned (.bool (SF (sv node ds)).isSome) ∧ Below w.heap.size w w' := by
  obtain ⟨kl, hkl⟩ := key62 node ds hn hl hb
  have hp := h.lt
  have hz : (SF (sv node ds)).getD (.agg #[]) = .agg #[] := by
    cases e : SF (sv node ds) with
    | none => rfl
    | some u => exact hu _ u e
  obtain ⟨b, hbb⟩ : ∃ b, b = (SF (sv node ds)).isSome := ⟨_, rfl⟩
  have look : ∀ W : World, Below w.heap.size w W → (Instr.lookup 54 (.map (some ms)) (.agg (.int .u64 node :: bv ds).toArray) true).run Tryd.prog W = .ok (.tuple #[.agg #[], .bool b]) W := by
    intro W hW
    have := ((h.below hW).said).look k62 Tryd.underlying54 (z64 W) hkl
    rw [hz, ← hbb] at this
    exact this
  rw [← hbb]
  clear hz hbb
  go_enter Tryd.func36, Tryd.ntmps36
  go_wp2_with (refine wpList_box_named rfl 3 rfl 62 _ rfl (sv node ds) rfl w.heap.size rfl ?_; intro w0 a0 s0 g0; have B0 : Below w.heap.size w w0 := (Below.refl _ w).grown g0 (Nat.le_refl _) (by simp); clear g0)
  have A0 : w0.heap[w.heap.size]? = some (.cells (.int .u64 node :: bv ds).toArray 62) := a0
  obtain ⟨cs, hcs⟩ : ∃ cs, cs = (Value.int .u64 node :: bv ds) := ⟨_, rfl⟩
  have i62 : (Tryd.prog.info? 62).map (·.size) = some cs.length := by rw [hcs, svl_len _ _ hl]; exact a62
  have hcl : cs.length = 33 := by rw [hcs, svl_len _ _ hl]
  have u62 := Tryd.underlying62
  rw [← hcs] at A0 look
  have HS : Hid (∀ W : World, Below w0.heap.size w0 W → W.cell? ⟨p, 2, none⟩ = some (.map (some ms)) ∧ W.rangeAt w.heap.size 0 cs ∧ (Instr.lookup 54 (.map (some ms)) (.agg cs.toArray) true).run Tryd.prog W = .ok (.tuple #[.agg #[], .bool b]) W) := by
    intro W hW
    have hB : Below w.heap.size w W := B0.trans (hW.mono (by omega))
    refine ⟨(h.below hB).c2, fun j v hv => ?_, look W hB⟩
    rw [Nat.zero_add, hW.cell (p := ⟨w.heap.size, j, none⟩) (by show w.heap.size < w0.heap.size; omega), cell_of_row w0 _ j _ _ _ A0]
    simpa using hv
  clear look a0 A0 hkl hcs
  go_wp2_with fail
  refine wp_region_noPanic ?_
  refine wp_region_held_drew (S := fun W => W.cell? ⟨p, 2, none⟩ = some (.map (some ms)) ∧ W.rangeAt w.heap.size 0 cs ∧ (Instr.lookup 54 (.map (some ms)) (.agg cs.toArray) true).run Tryd.prog W = .ok (.tuple #[.agg #[], .bool b]) W) (by kernel_rfl) (HS.out _ (Below.refl _ _).drew) (fun hH => ?_)
  refine hr_take 0 (some 8) (.pointer (some ⟨p, 0, none⟩)) rfl rfl (by kernel_rfl) (by kernel_rfl) (by kernel_rfl) rfl (fun W hW => by obtain ⟨h1, h2, h3⟩ := hW; go_simp) hH ?_
  refine hr_take 1 (some 9) (.pointer (some ⟨p, 0, none⟩)) rfl rfl (by kernel_rfl) (by kernel_rfl) (by kernel_rfl) rfl (fun W hW => by obtain ⟨h1, h2, h3⟩ := hW; go_simp) hH ?_
  refine hr_take 2 (some 10) (.pointer (some ⟨p, 2, none⟩)) rfl rfl (by kernel_rfl) (by kernel_rfl) (by kernel_rfl) rfl (fun W hW => by obtain ⟨h1, h2, h3⟩ := hW; go_simp) hH ?_
  refine hr_take 3 (some 11) (.map (some ms)) rfl rfl (by kernel_rfl) (by kernel_rfl) (by kernel_rfl) rfl (fun W hW => by obtain ⟨h1, h2, h3⟩ := hW; go_simp) hH ?_
  refine hr_take 4 (some 12) (.agg cs.toArray) rfl rfl (by kernel_rfl) (by kernel_rfl) (by kernel_rfl) rfl (fun W hW => by exact exec_load_mid rfl rfl hW.2.1 u62 rfl i62) hH ?_
  refine hr_take 5 (some 13) (.tuple #[.agg #[], .bool b]) rfl rfl (by kernel_rfl) (by kernel_rfl) (by kernel_rfl) rfl (fun W hW => by exact exec_lookup rfl rfl rfl hW.2.2) hH ?_
  refine hr_take 6 (some 7) (.tuple #[.agg #[], .bool b]) rfl rfl (by kernel_rfl) (by kernel_rfl) (by kernel_rfl) rfl (fun W hW => by obtain ⟨h1, h2, h3⟩ := hW; go_simp) hH ?_
  refine hr_take 7 (some 14) (.agg #[]) rfl rfl (by kernel_rfl) (by kernel_rfl) (by kernel_rfl) rfl (fun W hW => by obtain ⟨h1, h2, h3⟩ := hW; go_simp) hH ?_
  refine hr_take 8 (some 15) (.bool b) rfl rfl (by kernel_rfl) (by kernel_rfl) (by kernel_rfl) rfl (fun W hW => by obtain ⟨h1, h2, h3⟩ := hW; go_simp) hH ?_
  refine hr_do 9 (some 5) (.pointer (some ⟨w0.heap.size, 0, none⟩)) rfl rfl (by kernel_rfl) rfl (w' := w0.drew.alloc (.cells #[] 64)) (by go_simp) (HS.out _ ((Below.refl _ _).drew.alloc (Nat.le_refl _) _)) ?_
  refine hr_skip 10 none rfl rfl (by kernel_rfl) rfl (w' := w0.drew.alloc (.cells #[] 64)) (by go_simp) (HS.out _ ((Below.refl _ _).drew.alloc (Nat.le_refl _) _)) ?_
  refine hr_take 11 (some 6) (.bool b) rfl rfl (by kernel_rfl) (by kernel_rfl) (by kernel_rfl) rfl (fun W hW => by go_simp) (HS.out _ ((Below.refl _ _).drew.alloc (Nat.le_refl _) _)) ?_
  refine wpAnyH_done (by kernel_rfl) ?_ _
  refine NoPanic.normal ?_
  go_frame
  go_wp2
  go_ret
  exact ⟨rfl, (B0.drew.alloc (by show w.heap.size ≤ w0.heap.size; omega) _)⟩

end Go.Proofs.YtkncfjokkojfpaaDoor

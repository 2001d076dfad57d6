/-
  sayingOf: a node and the digest of it and of a body.
-/
import Derived.Test.YtkncfjokkojfpaaDoorSAgg
import Derived.Deep.AppendLies
namespace Go.Proofs.YtkncfjokkojfpaaDoor
open Go.RowKit

theorem sv_cells (node : Nat) (ds : List Int) : sv node ds = .agg (.int .u64 node :: bv ds).toArray := rfl
theorem svl_len (node : Nat) (ds : List Int) (h : ds.length = 32) : (Value.int .u64 node :: bv ds).length = 33 := by simp [bv, h]
theorem svl_one (node : Nat) (ds : List Int) : ∀ u ∈ (Value.int .u64 node :: bv ds), u.oneCell' = true := by
  intro u hu
  rcases List.mem_cons.1 hu with rfl | hu
  · rfl
  · exact bv_one ds u hu

/-- A saying, built. -/
theorem wpList_build62 {w : World} {ops : Array Oper} {rest : List Oper} {o : Oper} {a : Act} {Q : Exit → Act → World → Prop} (hgd : o.guard = none) (x y : Operand) (ho : o.op = .build 62 #[(0, x), (1, y)])
    (node : Nat) (ds : List Int) (hx : a.eval x = .int .u64 node) (hy : a.eval y = .agg (bv ds).toArray) (hl : ds.length = 32) (h : wpList Tryd.prog ops Q rest (a.put o.dst (sv node ds)) w) : wpList Tryd.prog ops Q (o :: rest) a w := by
  refine wpList_plain hgd fun K hK => ?_
  have hr := run_build62 w node ds hl
  unfold Oper.wp execOp
  simp only [ho, List.map_toArray, List.map_cons, List.map_nil, hx, hy, Sem.run_bind, hr, Result.andThen_ok, Sem.run_pure]
  exact hK _ _ h

set_option maxRecDepth 100000 in
set_option maxHeartbeats 2000000 in
theorem sayingOf_any (w : World) (p mk ms : Nat) (real : Bool) (nk ns : Nat) (KF SF : Value → Option Value) (node : Nat) (bo : Option Addr) (bn bc : Nat) (body : List Int) (h : BK w p mk ms real nk ns KF SF) (hT : Tabs w) (hn : node < 18446744073709551616) (hB : Sl w bo bn bc body) (hb : bn ≤ 1000000) :
    Calls Tryd.prog 32 #[.pointer (some ⟨p, 0, none⟩), .int .u64 node, .slice bo bn bc] w fun e w' => e = .returned (sv node (dgL real node body)) ∧ Below w.heap.size w w' := by
  have h2 := hT.two
  have en := enc_length hn
  have hp := h.lt
  cases real
  · skip
    go_enter Tryd.func32, Tryd.ntmps32
    go_wp2_with (first
      | (refine wpList_alloc_named rfl 6 rfl 62 rfl w.heap.size rfl _ 33 z62v ?_; intro w0 a0 s0 g0; have B0 : Below w.heap.size w w0 := (Below.refl _ w).grown g0 (Nat.le_refl _) (by simp); have c0 := (h.below B0).c0; have S0 := hB.below B0; clear g0)
      | (go_at_call 28; refine (wUint_any w0 none 0 0 node [] (Sl.nothing w0) (by omega) hn).mono ?_; rintro e w1 ⟨v1, rfl, own1, C1⟩; simp only [List.nil_append, Nat.zero_add] at own1; obtain ⟨uo, uc, rfl, S1, -⟩ := Sl.own own1 (enc_byte hn); have B1 : Below w.heap.size w w1 := B0.trans (C1.mono (by omega)); have s1 := C1.size; have M1 := S0.below C1; have a1 := (C1.block w.heap.size (by omega)).trans a0; clear own1 C1 S0 c0))
    have B2 : Below w.heap.size w (w1.alloc (.cells #[.slice uo (enc node).length uc, .slice bo bn bc] 22)) := B1.alloc (by omega) _
    have P2 : PL (w1.alloc (.cells #[.slice uo (enc node).length uc, .slice bo bn bc] 22)) (some ⟨w1.heap.size, 0, none⟩) 2 2 [⟨uo, (enc node).length, uc, enc node⟩, ⟨bo, bn, bc, body⟩] := PL.two w1 ⟨uo, (enc node).length, uc, enc node⟩ ⟨bo, bn, bc, body⟩ S1 M1 22
    have s2 : (w1.alloc (.cells #[.slice uo (enc node).length uc, .slice bo bn bc] 22)).heap.size = w1.heap.size + 1 := by simp
    refine (of_any _ wIdeal _ 2 2 _ P2 (hT.below B2 h2) (by decide) (by omega) (by intro q hq; simp only [List.mem_cons, List.not_mem_nil, or_false] at hq; rcases hq with rfl | rfl <;> simp only <;> omega)).mono ?_
    rintro e w3 ⟨v3, rfl, own3, C3⟩
    have B3 : Below w.heap.size w w3 := B2.trans (C3.mono (by omega))
    have a3 := (C3.block w.heap.size (by omega)).trans (((Below.refl w1.heap.size w1).alloc (Nat.le_refl _) _).block w.heap.size (by omega) |>.trans a1)
    have s3 := C3.size
    obtain ⟨g3, c3, rfl, hg3, -⟩ := own3.form (by omega)
    have hat := run_arrayAt (some ⟨g3, 0, none⟩) 32 c3 (Nat.le_refl _)
    have cl := own3.cells (g := g3) rfl
    rw [s2] at hg3
    rw [s2] at s3
    clear own3 C3 P2 B2 s2 S1 M1 B1 B0 a0 a1
    generalize hds : sumL (formL (sb wIdeal) (pxs [⟨uo, (enc node).length, uc, enc node⟩, ⟨bo, bn, bc, body⟩])) = ds at cl
    have HD : Hid (dgL false node body = ds) := hds
    have hdl : ds.length = 32 := by rw [← hds]; exact sumL_len _
    clear hds
    go_wp2_with (first
      | (refine wpList_load_cells rfl 60 (Operand.tmp 21) rfl ⟨g3, 0, none⟩ rfl (bv ds) cl g60 (a60.trans (by rw [bv_length, hdl])) ?_)
      | (refine wpList_build62 rfl (.tmp 19) (.tmp 22) rfl node ds rfl rfl hdl ?_)
      | (refine wpList_store_named rfl 62 (.tmp 6) (.tmp 23) rfl w.heap.size (.int .u64 node :: bv ds) rfl rfl _ _ a3 _ rfl (a62.trans (by rw [svl_len _ _ hdl])) (by rw [svl_len _ _ hdl]; rfl) (svl_one _ _) ?_; intro w4 a4 s4 g4))
    refine bodyPost_ret (v := sv node ds) (results_cells rfl _ _ ⟨w.heap.size, 0, none⟩ rfl (.int .u64 node :: bv ds) (fun j v hv => by rw [add_at, Nat.zero_add, Arr.cell a4]; exact hv) (g62 _) (a62.trans (by rw [svl_len _ _ hdl]))) rfl ?_
    refine ⟨by rw [HD.out], B3.grown g4 (by omega) (by intro k hk; cases hk; exact Nat.le_refl _)⟩
  · skip
    go_enter Tryd.func32, Tryd.ntmps32
    go_wp2_with (first
      | (refine wpList_alloc_named rfl 6 rfl 62 rfl w.heap.size rfl _ 33 z62v ?_; intro w0 a0 s0 g0; have B0 : Below w.heap.size w w0 := (Below.refl _ w).grown g0 (Nat.le_refl _) (by simp); have c0 := (h.below B0).c0; have S0 := hB.below B0; clear g0)
      | (go_at_call 28; refine (wUint_any w0 none 0 0 node [] (Sl.nothing w0) (by omega) hn).mono ?_; rintro e w1 ⟨v1, rfl, own1, C1⟩; simp only [List.nil_append, Nat.zero_add] at own1; obtain ⟨uo, uc, rfl, S1, -⟩ := Sl.own own1 (enc_byte hn); have B1 : Below w.heap.size w w1 := B0.trans (C1.mono (by omega)); have s1 := C1.size; have M1 := S0.below C1; have a1 := (C1.block w.heap.size (by omega)).trans a0; clear own1 C1 S0 c0))
    have B2 : Below w.heap.size w (w1.alloc (.cells #[.slice uo (enc node).length uc, .slice bo bn bc] 22)) := B1.alloc (by omega) _
    have P2 : PL (w1.alloc (.cells #[.slice uo (enc node).length uc, .slice bo bn bc] 22)) (some ⟨w1.heap.size, 0, none⟩) 2 2 [⟨uo, (enc node).length, uc, enc node⟩, ⟨bo, bn, bc, body⟩] := PL.two w1 ⟨uo, (enc node).length, uc, enc node⟩ ⟨bo, bn, bc, body⟩ S1 M1 22
    have s2 : (w1.alloc (.cells #[.slice uo (enc node).length uc, .slice bo bn bc] 22)).heap.size = w1.heap.size + 1 := by simp
    refine (of_any _ wSaid _ 2 2 _ P2 (hT.below B2 h2) (by decide) (by omega) (by intro q hq; simp only [List.mem_cons, List.not_mem_nil, or_false] at hq; rcases hq with rfl | rfl <;> simp only <;> omega)).mono ?_
    rintro e w3 ⟨v3, rfl, own3, C3⟩
    have B3 : Below w.heap.size w w3 := B2.trans (C3.mono (by omega))
    have a3 := (C3.block w.heap.size (by omega)).trans (((Below.refl w1.heap.size w1).alloc (Nat.le_refl _) _).block w.heap.size (by omega) |>.trans a1)
    have s3 := C3.size
    obtain ⟨g3, c3, rfl, hg3, -⟩ := own3.form (by omega)
    have hat := run_arrayAt (some ⟨g3, 0, none⟩) 32 c3 (Nat.le_refl _)
    have cl := own3.cells (g := g3) rfl
    rw [s2] at hg3
    rw [s2] at s3
    clear own3 C3 P2 B2 s2 S1 M1 B1 B0 a0 a1
    generalize hds : sumL (formL (sb wSaid) (pxs [⟨uo, (enc node).length, uc, enc node⟩, ⟨bo, bn, bc, body⟩])) = ds at cl
    have HD : Hid (dgL true node body = ds) := hds
    have hdl : ds.length = 32 := by rw [← hds]; exact sumL_len _
    clear hds
    go_wp2_with (first
      | (refine wpList_load_cells rfl 60 (Operand.tmp 21) rfl ⟨g3, 0, none⟩ rfl (bv ds) cl g60 (a60.trans (by rw [bv_length, hdl])) ?_)
      | (refine wpList_build62 rfl (.tmp 19) (.tmp 22) rfl node ds rfl rfl hdl ?_)
      | (refine wpList_store_named rfl 62 (.tmp 6) (.tmp 23) rfl w.heap.size (.int .u64 node :: bv ds) rfl rfl _ _ a3 _ rfl (a62.trans (by rw [svl_len _ _ hdl])) (by rw [svl_len _ _ hdl]; rfl) (svl_one _ _) ?_; intro w4 a4 s4 g4))
    refine bodyPost_ret (v := sv node ds) (results_cells rfl _ _ ⟨w.heap.size, 0, none⟩ rfl (.int .u64 node :: bv ds) (fun j v hv => by rw [add_at, Nat.zero_add, Arr.cell a4]; exact hv) (g62 _) (a62.trans (by rw [svl_len _ _ hdl]))) rfl ?_
    refine ⟨by rw [HD.out], B3.grown g4 (by omega) (by intro k hk; cases hk; exact Nat.le_refl _)⟩

end Go.Proofs.YtkncfjokkojfpaaDoor

/-
  Add: a replica's vote.
-/
import Derived.Test.YtghemebgkhopnaaQuCount
import Derived.Test.YtghemebgkhopnaaQuNum
namespace Go.Proofs.Ytghemebgkhopnaa
open Go.RowKit

theorem add_nil (w : World) (fr : Int) (ao bo co : Option Addr) (n1 cap n2 cap2 n3 cap3 : Nat) : Calls Try.prog 20 #[.pointer none, .agg #[.int .u64 fr, .slice ao n1 cap, .slice bo n2 cap2], .slice co n3 cap3] w fun x w' => x = .returned (.int .i64 17) ∧ Below w.heap.size w w' := by
  go_enter Try.func20, Try.ntmps20
  go_wp2
  go_ret
  exact ⟨rfl, (Below.refl _ w).alloc (Nat.le_refl _) _⟩
theorem n_nat (f n : Nat) (h1 : 1 ≤ f) (h4 : f ≤ 4) (hn : n = 3 * f + 1) (V : World) : Calls Try.prog 9 #[.int .i64 (f : Nat)] V fun e w' => e = .returned (.int .i64 (n : Nat)) ∧ Below V.heap.size V w' := by
  refine (n_any f V).mono ?_
  rintro e w' ⟨rfl, rfl⟩
  rw [nF_t 3 (okF_t (by omega) (by omega)), hn]
  exact ⟨by congr 2, Below.refl _ _⟩

set_option maxRecDepth 100000 in
set_option maxHeartbeats 4000000 in
theorem add_zero (w : World) (p f : Nat) (l : List VT) (h : QS w p f l) (ao bo co : Option Addr) (n1 cap n2 cap2 n3 cap3 : Nat) :
    Calls Try.prog 20 #[.pointer (some ⟨p, 0, none⟩), .agg #[.int .u64 0, .slice ao n1 cap, .slice bo n2 cap2], .slice co n3 cap3] w fun x w' => x = .returned (.int .i64 15) ∧ Below w.heap.size w w' := by
  have hN : QS (w.alloc (.cells #[.int .u64 0, .slice ao n1 cap, .slice bo n2 cap2] 40)) p f l := h.below ((Below.refl _ _).alloc (Nat.le_refl _) _)
  have B1 : Below w.heap.size w (w.alloc (.cells #[.int .u64 0, .slice ao n1 cap, .slice bo n2 cap2] 40)) := (Below.refl _ _).alloc (Nat.le_refl _) _
  have K1 : Arr (w.alloc (.cells #[.int .u64 0, .slice ao n1 cap, .slice bo n2 cap2] 40)) w.heap.size 40 [.int .u64 0, .slice ao n1 cap, .slice bo n2 cap2] := heap_alloc_new w _
  go_enter Try.func20, Try.ntmps20
  go_wp2_with fail
  obtain ⟨W1, hW1⟩ : ∃ V, V = w.alloc (.cells #[.int .u64 0, .slice ao n1 cap, .slice bo n2 cap2] 40) := ⟨_, rfl⟩
  obtain ⟨N, hNN⟩ : ∃ N, N = w.heap.size := ⟨_, rfl⟩
  rw [← hW1] at hN B1 K1 ⊢
  rw [← hNN] at K1 ⊢
  clear hW1 hNN
  have HC := fun (V : World) (hV : Below W1.heap.size W1 V) => (⟨(World.cell?_of_block (hV.block N K1.lt)).trans (K1.cell 0), (World.cell?_of_block (hV.block p hN.lt)).trans hN.f⟩ : V.cell? ⟨N, 0, none⟩ = some (.int .u64 0) ∧ V.cell? ⟨p, 0, none⟩ = some (.int .i64 (f : Nat)))
  have xHS : Hid (∀ V, Below W1.heap.size W1 V → V.cell? ⟨N, 0, none⟩ = some (.int .u64 0) ∧ V.cell? ⟨p, 0, none⟩ = some (.int .i64 (f : Nat))) := HC
  have xE0 : Below W1.heap.size W1 W1.drew := (Below.refl _ _).drew
  refine wp_region_noPanic ?_
  refine wp_region_held_drew (S := fun V => V.cell? ⟨N, 0, none⟩ = some (.int .u64 0) ∧ V.cell? ⟨p, 0, none⟩ = some (.int .i64 (f : Nat))) (by kernel_rfl) (xHS.out _ xE0) (fun xH0 => ?_)
  obtain ⟨xv0, hv0⟩ : ∃ v, v = W1.drew := ⟨_, rfl⟩
  rw [← hv0] at xH0 xE0 ⊢
  clear hv0
  refine hr_take_w 0 (some 10) (.pointer (some ⟨N, 0, none⟩)) rfl rfl (by kernel_rfl) (by kernel_rfl) (by kernel_rfl) rfl (fun W hW => by obtain ⟨h0, h1⟩ := hW; go_simp) xH0 ?_
  simp only [Act.put, List.setIfInBounds_toArray, List.set_cons_zero, List.set_cons_succ]
  refine hr_take_w 1 (some 11) (.int .u64 0) rfl rfl (by kernel_rfl) (by kernel_rfl) (by kernel_rfl) rfl (fun W hW => by obtain ⟨h0, h1⟩ := hW; go_simp) xH0 ?_
  simp only [Act.put, List.setIfInBounds_toArray, List.set_cons_zero, List.set_cons_succ]
  refine hr_take_w 2 (some 12) (.bool true) rfl rfl (by kernel_rfl) (by kernel_rfl) (by kernel_rfl) rfl (fun W hW => by obtain ⟨h0, h1⟩ := hW; go_simp) xH0 ?_
  simp only [Act.put, List.setIfInBounds_toArray, List.set_cons_zero, List.set_cons_succ]
  refine hr_take_w 3 (some 13) (.bool true) rfl rfl (by kernel_rfl) (by kernel_rfl) (by kernel_rfl) rfl (fun W hW => by obtain ⟨h0, h1⟩ := hW; go_simp) xH0 ?_
  simp only [Act.put, List.setIfInBounds_toArray, List.set_cons_zero, List.set_cons_succ]
  refine hr_none 4 (some 14) rfl rfl (by kernel_rfl) (by kernel_rfl) (by kernel_rfl) rfl xH0 ?_
  simp only [Act.put, List.setIfInBounds_toArray, List.set_cons_zero, List.set_cons_succ]
  refine hr_none 5 (some 15) rfl rfl (by kernel_rfl) (by kernel_rfl) (by kernel_rfl) rfl xH0 ?_
  simp only [Act.put, List.setIfInBounds_toArray, List.set_cons_zero, List.set_cons_succ]
  refine hr_none 6 (some 16) rfl rfl (by kernel_rfl) (by kernel_rfl) (by kernel_rfl) rfl xH0 ?_
  simp only [Act.put, List.setIfInBounds_toArray, List.set_cons_zero, List.set_cons_succ]
  refine hr_none 7 (some 17) rfl rfl (by kernel_rfl) (by kernel_rfl) (by kernel_rfl) rfl xH0 ?_
  simp only [Act.put, List.setIfInBounds_toArray, List.set_cons_zero, List.set_cons_succ]
  refine hr_none 8 (some 18) rfl rfl (by kernel_rfl) (by kernel_rfl) (by kernel_rfl) rfl xH0 ?_
  simp only [Act.put, List.setIfInBounds_toArray, List.set_cons_zero, List.set_cons_succ]
  refine hr_none 9 (some 19) rfl rfl (by kernel_rfl) (by kernel_rfl) (by kernel_rfl) rfl xH0 ?_
  simp only [Act.put, List.setIfInBounds_toArray, List.set_cons_zero, List.set_cons_succ]
  refine hr_none 10 (some 20) rfl rfl (by kernel_rfl) (by kernel_rfl) (by kernel_rfl) rfl xH0 ?_
  simp only [Act.put, List.setIfInBounds_toArray, List.set_cons_zero, List.set_cons_succ]
  refine hr_none 11 (some 21) rfl rfl (by kernel_rfl) (by kernel_rfl) (by kernel_rfl) rfl xH0 ?_
  simp only [Act.put, List.setIfInBounds_toArray, List.set_cons_zero, List.set_cons_succ]
  refine hr_none 12 (some 22) rfl rfl (by kernel_rfl) (by kernel_rfl) (by kernel_rfl) rfl xH0 ?_
  simp only [Act.put, List.setIfInBounds_toArray, List.set_cons_zero, List.set_cons_succ]
  refine hr_take_w 13 (some 23) (.bool true) rfl rfl (by kernel_rfl) (by kernel_rfl) (by kernel_rfl) rfl (fun W hW => by obtain ⟨h0, h1⟩ := hW; go_simp) xH0 ?_
  simp only [Act.put, List.setIfInBounds_toArray, List.set_cons_zero, List.set_cons_succ]
  refine wpAnyH_done (by kernel_rfl) ?_ _
  refine NoPanic.normal ?_
  have B2 := B1.trans (xE0.mono B1.size)
  clear HC xHS
  go_wp2
  go_ret
  exact ⟨rfl, B2⟩

set_option maxRecDepth 100000 in
set_option maxHeartbeats 4000000 in
theorem add_over (w : World) (p f : Nat) (l : List VT) (h : QS w p f l) (k n : Nat) (hn : n = 3 * f + 1) (hk : n ≤ k) (hk2 : k + 1 < 18446744073709551616) (ao bo co : Option Addr) (n1 cap n2 cap2 n3 cap3 : Nat) :
    Calls Try.prog 20 #[.pointer (some ⟨p, 0, none⟩), .agg #[.int .u64 ((k : Int) + 1), .slice ao n1 cap, .slice bo n2 cap2], .slice co n3 cap3] w fun x w' => x = .returned (.int .i64 15) ∧ Below w.heap.size w w' := by
  have hN : QS (w.alloc (.cells #[.int .u64 ((k : Int) + 1), .slice ao n1 cap, .slice bo n2 cap2] 40)) p f l := h.below ((Below.refl _ _).alloc (Nat.le_refl _) _)
  have B1 : Below w.heap.size w (w.alloc (.cells #[.int .u64 ((k : Int) + 1), .slice ao n1 cap, .slice bo n2 cap2] 40)) := (Below.refl _ _).alloc (Nat.le_refl _) _
  have K1 : Arr (w.alloc (.cells #[.int .u64 ((k : Int) + 1), .slice ao n1 cap, .slice bo n2 cap2] 40)) w.heap.size 40 [.int .u64 ((k : Int) + 1), .slice ao n1 cap, .slice bo n2 cap2] := heap_alloc_new w _
  go_enter Try.func20, Try.ntmps20
  go_wp2_with fail
  obtain ⟨W1, hW1⟩ : ∃ V, V = w.alloc (.cells #[.int .u64 ((k : Int) + 1), .slice ao n1 cap, .slice bo n2 cap2] 40) := ⟨_, rfl⟩
  obtain ⟨N, hNN⟩ : ∃ N, N = w.heap.size := ⟨_, rfl⟩
  rw [← hW1] at hN B1 K1 ⊢
  rw [← hNN] at K1 ⊢
  clear hW1 hNN
  have HC := fun (V : World) (hV : Below W1.heap.size W1 V) => (⟨(World.cell?_of_block (hV.block N K1.lt)).trans (K1.cell 0), (World.cell?_of_block (hV.block p hN.lt)).trans hN.f⟩ : V.cell? ⟨N, 0, none⟩ = some (.int .u64 ((k : Int) + 1)) ∧ V.cell? ⟨p, 0, none⟩ = some (.int .i64 (f : Nat)))
  have CN := fun (V : World) => n_nat f n h.f1 h.f4 hn V
  have f1 := h.f1
  have f4 := h.f4
  have i1 : (n : Int) ≤ (k : Int) := by omega
  have i2 : (n : Int) ≤ 13 := by omega
  have i3 : (k : Int) + 1 < 18446744073709551616 := by omega
  have i6 : (n : Int) < (k : Int) + 1 := by omega
  have iw : IntKind.u64.wrap (n : Int) = (n : Int) := by rw [IntKind.wrap_u64]; omega
  have i5 : (((k : Int) + 1) == 0) = false := by simp; omega
  clear hk2 hn
  have xHS : Hid (∀ V, Below W1.heap.size W1 V → V.cell? ⟨N, 0, none⟩ = some (.int .u64 ((k : Int) + 1)) ∧ V.cell? ⟨p, 0, none⟩ = some (.int .i64 (f : Nat))) := HC
  have xE0 : Below W1.heap.size W1 W1.drew := (Below.refl _ _).drew
  refine wp_region_noPanic ?_
  refine wp_region_held_drew (S := fun V => V.cell? ⟨N, 0, none⟩ = some (.int .u64 ((k : Int) + 1)) ∧ V.cell? ⟨p, 0, none⟩ = some (.int .i64 (f : Nat))) (by kernel_rfl) (xHS.out _ xE0) (fun xH0 => ?_)
  obtain ⟨xv0, hv0⟩ : ∃ v, v = W1.drew := ⟨_, rfl⟩
  rw [← hv0] at xH0 xE0 ⊢
  clear hv0
  refine hr_take_w 0 (some 10) (.pointer (some ⟨N, 0, none⟩)) rfl rfl (by kernel_rfl) (by kernel_rfl) (by kernel_rfl) rfl (fun W hW => by obtain ⟨h0, h1⟩ := hW; go_simp) xH0 ?_
  simp only [Act.put, List.setIfInBounds_toArray, List.set_cons_zero, List.set_cons_succ]
  refine hr_take_w 1 (some 11) (.int .u64 ((k : Int) + 1)) rfl rfl (by kernel_rfl) (by kernel_rfl) (by kernel_rfl) rfl (fun W hW => by obtain ⟨h0, h1⟩ := hW; go_simp) xH0 ?_
  simp only [Act.put, List.setIfInBounds_toArray, List.set_cons_zero, List.set_cons_succ]
  refine hr_take_w 2 (some 12) (.bool false) rfl rfl (by kernel_rfl) (by kernel_rfl) (by kernel_rfl) rfl (fun W hW => by obtain ⟨h0, h1⟩ := hW; go_simp) xH0 ?_
  simp only [Act.put, List.setIfInBounds_toArray, List.set_cons_zero, List.set_cons_succ]
  refine hr_take_w 3 (some 13) (.bool false) rfl rfl (by kernel_rfl) (by kernel_rfl) (by kernel_rfl) rfl (fun W hW => by obtain ⟨h0, h1⟩ := hW; go_simp) xH0 ?_
  simp only [Act.put, List.setIfInBounds_toArray, List.set_cons_zero, List.set_cons_succ]
  refine hr_take_w 4 (some 14) (.pointer (some ⟨N, 0, none⟩)) rfl rfl (by kernel_rfl) (by kernel_rfl) (by kernel_rfl) rfl (fun W hW => by obtain ⟨h0, h1⟩ := hW; go_simp) xH0 ?_
  simp only [Act.put, List.setIfInBounds_toArray, List.set_cons_zero, List.set_cons_succ]
  refine hr_take_w 5 (some 15) (.int .u64 ((k : Int) + 1)) rfl rfl (by kernel_rfl) (by kernel_rfl) (by kernel_rfl) rfl (fun W hW => by obtain ⟨h0, h1⟩ := hW; go_simp) xH0 ?_
  simp only [Act.put, List.setIfInBounds_toArray, List.set_cons_zero, List.set_cons_succ]
  refine hr_take_w 6 (some 16) (.pointer (some ⟨p, 0, none⟩)) rfl rfl (by kernel_rfl) (by kernel_rfl) (by kernel_rfl) rfl (fun W hW => by obtain ⟨h0, h1⟩ := hW; go_simp) xH0 ?_
  simp only [Act.put, List.setIfInBounds_toArray, List.set_cons_zero, List.set_cons_succ]
  refine hr_take_w 7 (some 17) (.pointer (some ⟨p, 0, none⟩)) rfl rfl (by kernel_rfl) (by kernel_rfl) (by kernel_rfl) rfl (fun W hW => by obtain ⟨h0, h1⟩ := hW; go_simp) xH0 ?_
  simp only [Act.put, List.setIfInBounds_toArray, List.set_cons_zero, List.set_cons_succ]
  refine hr_take_w 8 (some 18) (.pointer (some ⟨p, 0, none⟩)) rfl rfl (by kernel_rfl) (by kernel_rfl) (by kernel_rfl) rfl (fun W hW => by obtain ⟨h0, h1⟩ := hW; go_simp) xH0 ?_
  simp only [Act.put, List.setIfInBounds_toArray, List.set_cons_zero, List.set_cons_succ]
  refine hr_take_w 9 (some 19) (.int .i64 (f : Nat)) rfl rfl (by kernel_rfl) (by kernel_rfl) (by kernel_rfl) rfl (fun W hW => by obtain ⟨h0, h1⟩ := hW; go_simp) xH0 ?_
  simp only [Act.put, List.setIfInBounds_toArray, List.set_cons_zero, List.set_cons_succ]
  refine hr_call_w 10 (some 20) 9 #[.int .i64 (f : Nat)] rfl rfl (by kernel_rfl) rfl (by go_simp) (fun v w' => v = .int .i64 (n : Nat) ∧ Below xv0.heap.size xv0 w') ((CN xv0).mono (by
    rintro e w' ⟨rfl, C⟩
    exact ⟨_, rfl, rfl, C⟩)) ?_
  rintro v xv1 ⟨rfl, xC0⟩
  have xE1 := xE0.trans (xC0.mono xE0.size)
  have xH1 := xHS.out xv1 xE1
  refine ⟨xH1, ?_⟩
  simp only [Act.put, List.setIfInBounds_toArray, List.set_cons_zero, List.set_cons_succ]
  refine hr_take_w 11 (some 21) (.int .u64 (n : Nat)) rfl rfl (by kernel_rfl) (by kernel_rfl) (by kernel_rfl) rfl (fun W hW => by obtain ⟨h0, h1⟩ := hW; go_simp) xH1 ?_
  simp only [Act.put, List.setIfInBounds_toArray, List.set_cons_zero, List.set_cons_succ]
  refine hr_take_w 12 (some 22) (.bool true) rfl rfl (by kernel_rfl) (by kernel_rfl) (by kernel_rfl) rfl (fun W hW => by obtain ⟨h0, h1⟩ := hW; go_simp) xH1 ?_
  simp only [Act.put, List.setIfInBounds_toArray, List.set_cons_zero, List.set_cons_succ]
  refine hr_take_w 13 (some 23) (.bool true) rfl rfl (by kernel_rfl) (by kernel_rfl) (by kernel_rfl) rfl (fun W hW => by obtain ⟨h0, h1⟩ := hW; go_simp) xH1 ?_
  simp only [Act.put, List.setIfInBounds_toArray, List.set_cons_zero, List.set_cons_succ]
  refine wpAnyH_done (by kernel_rfl) ?_ _
  refine NoPanic.normal ?_
  have B2 := B1.trans (xE1.mono B1.size)
  clear HC xHS
  go_wp2
  go_ret
  exact ⟨rfl, B2⟩

set_option maxRecDepth 100000 in
set_option maxHeartbeats 4000000 in
theorem add_again (w : World) (p f : Nat) (l : List VT) (h : QS w p f l) (k n : Nat) (hn : n = 3 * f + 1) (hk : k < n) (his : ∀ hk : k < l.length, l[k].is = true) (ao bo co : Option Addr) (n1 cap n2 cap2 n3 cap3 : Nat) :
    Calls Try.prog 20 #[.pointer (some ⟨p, 0, none⟩), .agg #[.int .u64 ((k : Int) + 1), .slice ao n1 cap, .slice bo n2 cap2], .slice co n3 cap3] w fun x w' => x = .returned (.int .i64 18) ∧ Below w.heap.size w w' := by
  have hN : QS (w.alloc (.cells #[.int .u64 ((k : Int) + 1), .slice ao n1 cap, .slice bo n2 cap2] 40)) p f l := h.below ((Below.refl _ _).alloc (Nat.le_refl _) _)
  have B1 : Below w.heap.size w (w.alloc (.cells #[.int .u64 ((k : Int) + 1), .slice ao n1 cap, .slice bo n2 cap2] 40)) := (Below.refl _ _).alloc (Nat.le_refl _) _
  have K1 : Arr (w.alloc (.cells #[.int .u64 ((k : Int) + 1), .slice ao n1 cap, .slice bo n2 cap2] 40)) w.heap.size 40 [.int .u64 ((k : Int) + 1), .slice ao n1 cap, .slice bo n2 cap2] := heap_alloc_new w _
  go_enter Try.func20, Try.ntmps20
  go_wp2_with fail
  obtain ⟨W1, hW1⟩ : ∃ V, V = w.alloc (.cells #[.int .u64 ((k : Int) + 1), .slice ao n1 cap, .slice bo n2 cap2] 40) := ⟨_, rfl⟩
  obtain ⟨N, hNN⟩ : ∃ N, N = w.heap.size := ⟨_, rfl⟩
  rw [← hW1] at hN B1 K1 ⊢
  rw [← hNN] at K1 ⊢
  clear hW1 hNN
  have HC := fun (V : World) (hV : Below W1.heap.size W1 V) => (⟨(World.cell?_of_block (hV.block N K1.lt)).trans (K1.cell 0), (World.cell?_of_block (hV.block p hN.lt)).trans hN.f⟩ : V.cell? ⟨N, 0, none⟩ = some (.int .u64 ((k : Int) + 1)) ∧ V.cell? ⟨p, 0, none⟩ = some (.int .i64 (f : Nat)))
  have CN := fun (V : World) => n_nat f n h.f1 h.f4 hn V
  have f1 := h.f1
  have f4 := h.f4
  have i1 : (k : Int) < (n : Int) := by omega
  have i2 : (n : Int) ≤ 13 := by omega
  have i4 : (k : Int) ≤ 12 := by omega
  have i6 : (k : Int) + 1 ≤ (n : Int) := by omega
  have iw : IntKind.u64.wrap (n : Int) = (n : Int) := by rw [IntKind.wrap_u64]; omega
  have iv : IntKind.u64.wrap (k : Int) = (k : Int) := by rw [IntKind.wrap_u64]; omega
  have hkf : k < 3 * f + 1 := by omega
  have i5 : (((k : Int) + 1) == 0) = false := by simp; omega
  have hkl : k < l.length := by rw [h.len]; omega
  have i8 : ¬ (13 : Int) ≤ (k : Int) := by omega
  clear hn
  have xHS : Hid (∀ V, Below W1.heap.size W1 V → V.cell? ⟨N, 0, none⟩ = some (.int .u64 ((k : Int) + 1)) ∧ V.cell? ⟨p, 0, none⟩ = some (.int .i64 (f : Nat))) := HC
  have xE0 : Below W1.heap.size W1 W1.drew := (Below.refl _ _).drew
  refine wp_region_noPanic ?_
  refine wp_region_held_drew (S := fun V => V.cell? ⟨N, 0, none⟩ = some (.int .u64 ((k : Int) + 1)) ∧ V.cell? ⟨p, 0, none⟩ = some (.int .i64 (f : Nat))) (by kernel_rfl) (xHS.out _ xE0) (fun xH0 => ?_)
  obtain ⟨xv0, hv0⟩ : ∃ v, v = W1.drew := ⟨_, rfl⟩
  rw [← hv0] at xH0 xE0 ⊢
  clear hv0
  refine hr_take_w 0 (some 10) (.pointer (some ⟨N, 0, none⟩)) rfl rfl (by kernel_rfl) (by kernel_rfl) (by kernel_rfl) rfl (fun W hW => by obtain ⟨h0, h1⟩ := hW; go_simp) xH0 ?_
  simp only [Act.put, List.setIfInBounds_toArray, List.set_cons_zero, List.set_cons_succ]
  refine hr_take_w 1 (some 11) (.int .u64 ((k : Int) + 1)) rfl rfl (by kernel_rfl) (by kernel_rfl) (by kernel_rfl) rfl (fun W hW => by obtain ⟨h0, h1⟩ := hW; go_simp) xH0 ?_
  simp only [Act.put, List.setIfInBounds_toArray, List.set_cons_zero, List.set_cons_succ]
  refine hr_take_w 2 (some 12) (.bool false) rfl rfl (by kernel_rfl) (by kernel_rfl) (by kernel_rfl) rfl (fun W hW => by obtain ⟨h0, h1⟩ := hW; go_simp) xH0 ?_
  simp only [Act.put, List.setIfInBounds_toArray, List.set_cons_zero, List.set_cons_succ]
  refine hr_take_w 3 (some 13) (.bool false) rfl rfl (by kernel_rfl) (by kernel_rfl) (by kernel_rfl) rfl (fun W hW => by obtain ⟨h0, h1⟩ := hW; go_simp) xH0 ?_
  simp only [Act.put, List.setIfInBounds_toArray, List.set_cons_zero, List.set_cons_succ]
  refine hr_take_w 4 (some 14) (.pointer (some ⟨N, 0, none⟩)) rfl rfl (by kernel_rfl) (by kernel_rfl) (by kernel_rfl) rfl (fun W hW => by obtain ⟨h0, h1⟩ := hW; go_simp) xH0 ?_
  simp only [Act.put, List.setIfInBounds_toArray, List.set_cons_zero, List.set_cons_succ]
  refine hr_take_w 5 (some 15) (.int .u64 ((k : Int) + 1)) rfl rfl (by kernel_rfl) (by kernel_rfl) (by kernel_rfl) rfl (fun W hW => by obtain ⟨h0, h1⟩ := hW; go_simp) xH0 ?_
  simp only [Act.put, List.setIfInBounds_toArray, List.set_cons_zero, List.set_cons_succ]
  refine hr_take_w 6 (some 16) (.pointer (some ⟨p, 0, none⟩)) rfl rfl (by kernel_rfl) (by kernel_rfl) (by kernel_rfl) rfl (fun W hW => by obtain ⟨h0, h1⟩ := hW; go_simp) xH0 ?_
  simp only [Act.put, List.setIfInBounds_toArray, List.set_cons_zero, List.set_cons_succ]
  refine hr_take_w 7 (some 17) (.pointer (some ⟨p, 0, none⟩)) rfl rfl (by kernel_rfl) (by kernel_rfl) (by kernel_rfl) rfl (fun W hW => by obtain ⟨h0, h1⟩ := hW; go_simp) xH0 ?_
  simp only [Act.put, List.setIfInBounds_toArray, List.set_cons_zero, List.set_cons_succ]
  refine hr_take_w 8 (some 18) (.pointer (some ⟨p, 0, none⟩)) rfl rfl (by kernel_rfl) (by kernel_rfl) (by kernel_rfl) rfl (fun W hW => by obtain ⟨h0, h1⟩ := hW; go_simp) xH0 ?_
  simp only [Act.put, List.setIfInBounds_toArray, List.set_cons_zero, List.set_cons_succ]
  refine hr_take_w 9 (some 19) (.int .i64 (f : Nat)) rfl rfl (by kernel_rfl) (by kernel_rfl) (by kernel_rfl) rfl (fun W hW => by obtain ⟨h0, h1⟩ := hW; go_simp) xH0 ?_
  simp only [Act.put, List.setIfInBounds_toArray, List.set_cons_zero, List.set_cons_succ]
  refine hr_call_w 10 (some 20) 9 #[.int .i64 (f : Nat)] rfl rfl (by kernel_rfl) rfl (by go_simp) (fun v w' => v = .int .i64 (n : Nat) ∧ Below xv0.heap.size xv0 w') ((CN xv0).mono (by
    rintro e w' ⟨rfl, C⟩
    exact ⟨_, rfl, rfl, C⟩)) ?_
  rintro v xv1 ⟨rfl, xC0⟩
  have xE1 := xE0.trans (xC0.mono xE0.size)
  have xH1 := xHS.out xv1 xE1
  refine ⟨xH1, ?_⟩
  simp only [Act.put, List.setIfInBounds_toArray, List.set_cons_zero, List.set_cons_succ]
  refine hr_take_w 11 (some 21) (.int .u64 (n : Nat)) rfl rfl (by kernel_rfl) (by kernel_rfl) (by kernel_rfl) rfl (fun W hW => by obtain ⟨h0, h1⟩ := hW; go_simp) xH1 ?_
  simp only [Act.put, List.setIfInBounds_toArray, List.set_cons_zero, List.set_cons_succ]
  refine hr_take_w 12 (some 22) (.bool false) rfl rfl (by kernel_rfl) (by kernel_rfl) (by kernel_rfl) rfl (fun W hW => by obtain ⟨h0, h1⟩ := hW; go_simp) xH1 ?_
  simp only [Act.put, List.setIfInBounds_toArray, List.set_cons_zero, List.set_cons_succ]
  refine hr_take_w 13 (some 23) (.bool false) rfl rfl (by kernel_rfl) (by kernel_rfl) (by kernel_rfl) rfl (fun W hW => by obtain ⟨h0, h1⟩ := hW; go_simp) xH1 ?_
  simp only [Act.put, List.setIfInBounds_toArray, List.set_cons_zero, List.set_cons_succ]
  refine wpAnyH_done (by kernel_rfl) ?_ _
  refine NoPanic.normal ?_
  have B2 := B1.trans (xE1.mono B1.size)
  have Q2 := hN.below xE1
  have K2 := K1.below xE1 K1.lt
  clear HC xHS
  go_wp2_with fail
  have HC2 := fun (V : World) (hV : Below xv1.heap.size xv1 V) => (World.cell?_of_block (hV.block N K2.lt)).trans (K2.cell 0)
  have yHS : Hid (∀ V, Below xv1.heap.size xv1 V → V.cell? ⟨N, 0, none⟩ = some (.int .u64 ((k : Int) + 1))) := HC2
  have yE0 : Below xv1.heap.size xv1 xv1.drew := (Below.refl _ _).drew
  refine wp_region_noPanic ?_
  refine wp_region_held_drew (S := fun V => V.cell? ⟨N, 0, none⟩ = some (.int .u64 ((k : Int) + 1))) (by kernel_rfl) (yHS.out _ yE0) (fun yH0 => ?_)
  obtain ⟨yv0, hv0⟩ : ∃ v, v = xv1.drew := ⟨_, rfl⟩
  rw [← hv0] at yH0 yE0 ⊢
  clear hv0
  refine hr_take_w 0 (some 24) (.pointer (some ⟨p, 0, none⟩)) rfl rfl (by kernel_rfl) (by kernel_rfl) (by kernel_rfl) rfl (fun W hW => by go_simp) yH0 ?_
  simp only [Act.put, List.setIfInBounds_toArray, List.set_cons_zero, List.set_cons_succ]
  refine hr_take_w 1 (some 25) (.pointer (some ⟨N, 0, none⟩)) rfl rfl (by kernel_rfl) (by kernel_rfl) (by kernel_rfl) rfl (fun W hW => by go_simp) yH0 ?_
  simp only [Act.put, List.setIfInBounds_toArray, List.set_cons_zero, List.set_cons_succ]
  refine hr_take_w 2 (some 26) (.int .u64 ((k : Int) + 1)) rfl rfl (by kernel_rfl) (by kernel_rfl) (by kernel_rfl) rfl (fun W hW => by go_simp) yH0 ?_
  simp only [Act.put, List.setIfInBounds_toArray, List.set_cons_zero, List.set_cons_succ]
  refine hr_take_w 3 (some 27) (.int .u64 (k : Nat)) rfl rfl (by kernel_rfl) (by kernel_rfl) (by kernel_rfl) rfl (fun W hW => by go_simp) yH0 ?_
  simp only [Act.put, List.setIfInBounds_toArray, List.set_cons_zero, List.set_cons_succ]
  refine hr_take_w 4 (some 28) (.pointer (some ⟨p, 0, none⟩)) rfl rfl (by kernel_rfl) (by kernel_rfl) (by kernel_rfl) rfl (fun W hW => by go_simp) yH0 ?_
  simp only [Act.put, List.setIfInBounds_toArray, List.set_cons_zero, List.set_cons_succ]
  refine hr_take_w 5 (some 29) (.pointer (some ⟨p, 1, none⟩)) rfl rfl (by kernel_rfl) (by kernel_rfl) (by kernel_rfl) rfl (fun W hW => by go_simp) yH0 ?_
  simp only [Act.put, List.setIfInBounds_toArray, List.set_cons_zero, List.set_cons_succ]
  refine hr_take_w 6 (some 30) (.pointer (some ⟨p, 1 + k * 4, none⟩)) rfl rfl (by kernel_rfl) (by kernel_rfl) (by kernel_rfl) rfl (fun W hW => by go_simp) yH0 ?_
  simp only [Act.put, List.setIfInBounds_toArray, List.set_cons_zero, List.set_cons_succ]
  refine hr_take_w 7 (some 7) (.pointer (some ⟨p, 1 + k * 4, none⟩)) rfl rfl (by kernel_rfl) (by kernel_rfl) (by kernel_rfl) rfl (fun W hW => by go_simp) yH0 ?_
  simp only [Act.put, List.setIfInBounds_toArray, List.set_cons_zero, List.set_cons_succ]
  refine wpAnyH_done (by kernel_rfl) ?_ _
  refine NoPanic.normal ?_
  have B3 := B2.trans (yE0.mono B2.size)
  have Q3 := Q2.below yE0
  have K3 := K2.below yE0 K2.lt
  have q0 : yv0.cell? ⟨p, 1 + k * 4, none⟩ = some (.bool l[k].is) := Q3.cells k 0 hkl (by omega)
  clear HC2 yHS K2 Q2
  rw [his hkl] at q0
  clear his
  go_wp2
  go_ret
  exact ⟨rfl, B3⟩

set_option maxRecDepth 100000 in
set_option maxHeartbeats 4000000 in
theorem add_ok (w : World) (p f : Nat) (l : List VT) (h : QS w p f l) (k n : Nat) (hn : n = 3 * f + 1) (hk : k < n) (his : ∀ hk : k < l.length, l[k].is = false) (ao bo co : Option Addr) (n1 cap n2 cap2 n3 cap3 : Nat) (xs ys zs : List Int) (S1 : Sl w ao n1 cap xs) (S2 : Sl w bo n2 cap2 ys) (S3 : Sl w co n3 cap3 zs) (b1 : n1 ≤ 1000000) (b2 : n2 ≤ 1000000) (b3 : n3 ≤ 1000000) :
    Calls Try.prog 20 #[.pointer (some ⟨p, 0, none⟩), .agg #[.int .u64 ((k : Int) + 1), .slice ao n1 cap, .slice bo n2 cap2], .slice co n3 cap3] w fun x w' => x = .returned (.int .i64 0) ∧ QS w' p f (l.set k ⟨true, strOfNums zs, strOfNums xs, strOfNums ys⟩) ∧ w.grownBy w' (some p) := by
  have hN : QS (w.alloc (.cells #[.int .u64 ((k : Int) + 1), .slice ao n1 cap, .slice bo n2 cap2] 40)) p f l := h.below ((Below.refl _ _).alloc (Nat.le_refl _) _)
  have B1 : Below w.heap.size w (w.alloc (.cells #[.int .u64 ((k : Int) + 1), .slice ao n1 cap, .slice bo n2 cap2] 40)) := (Below.refl _ _).alloc (Nat.le_refl _) _
  have K1 : Arr (w.alloc (.cells #[.int .u64 ((k : Int) + 1), .slice ao n1 cap, .slice bo n2 cap2] 40)) w.heap.size 40 [.int .u64 ((k : Int) + 1), .slice ao n1 cap, .slice bo n2 cap2] := heap_alloc_new w _
  go_enter Try.func20, Try.ntmps20
  go_wp2_with fail
  obtain ⟨W1, hW1⟩ : ∃ V, V = w.alloc (.cells #[.int .u64 ((k : Int) + 1), .slice ao n1 cap, .slice bo n2 cap2] 40) := ⟨_, rfl⟩
  obtain ⟨N, hNN⟩ : ∃ N, N = w.heap.size := ⟨_, rfl⟩
  rw [← hW1] at hN B1 K1 ⊢
  rw [← hNN] at K1 ⊢
  clear hW1 hNN
  have HC := fun (V : World) (hV : Below W1.heap.size W1 V) => (⟨(World.cell?_of_block (hV.block N K1.lt)).trans (K1.cell 0), (World.cell?_of_block (hV.block p hN.lt)).trans hN.f⟩ : V.cell? ⟨N, 0, none⟩ = some (.int .u64 ((k : Int) + 1)) ∧ V.cell? ⟨p, 0, none⟩ = some (.int .i64 (f : Nat)))
  have CN := fun (V : World) => n_nat f n h.f1 h.f4 hn V
  have f1 := h.f1
  have f4 := h.f4
  have i1 : (k : Int) < (n : Int) := by omega
  have i2 : (n : Int) ≤ 13 := by omega
  have i4 : (k : Int) ≤ 12 := by omega
  have i6 : (k : Int) + 1 ≤ (n : Int) := by omega
  have iw : IntKind.u64.wrap (n : Int) = (n : Int) := by rw [IntKind.wrap_u64]; omega
  have iv : IntKind.u64.wrap (k : Int) = (k : Int) := by rw [IntKind.wrap_u64]; omega
  have hkf : k < 3 * f + 1 := by omega
  have i5 : (((k : Int) + 1) == 0) = false := by simp; omega
  have hkl : k < l.length := by rw [h.len]; omega
  have i8 : ¬ (13 : Int) ≤ (k : Int) := by omega
  clear hn
  have xHS : Hid (∀ V, Below W1.heap.size W1 V → V.cell? ⟨N, 0, none⟩ = some (.int .u64 ((k : Int) + 1)) ∧ V.cell? ⟨p, 0, none⟩ = some (.int .i64 (f : Nat))) := HC
  have xE0 : Below W1.heap.size W1 W1.drew := (Below.refl _ _).drew
  refine wp_region_noPanic ?_
  refine wp_region_held_drew (S := fun V => V.cell? ⟨N, 0, none⟩ = some (.int .u64 ((k : Int) + 1)) ∧ V.cell? ⟨p, 0, none⟩ = some (.int .i64 (f : Nat))) (by kernel_rfl) (xHS.out _ xE0) (fun xH0 => ?_)
  obtain ⟨xv0, hv0⟩ : ∃ v, v = W1.drew := ⟨_, rfl⟩
  rw [← hv0] at xH0 xE0 ⊢
  clear hv0
  refine hr_take_w 0 (some 10) (.pointer (some ⟨N, 0, none⟩)) rfl rfl (by kernel_rfl) (by kernel_rfl) (by kernel_rfl) rfl (fun W hW => by obtain ⟨h0, h1⟩ := hW; go_simp) xH0 ?_
  simp only [Act.put, List.setIfInBounds_toArray, List.set_cons_zero, List.set_cons_succ]
  refine hr_take_w 1 (some 11) (.int .u64 ((k : Int) + 1)) rfl rfl (by kernel_rfl) (by kernel_rfl) (by kernel_rfl) rfl (fun W hW => by obtain ⟨h0, h1⟩ := hW; go_simp) xH0 ?_
  simp only [Act.put, List.setIfInBounds_toArray, List.set_cons_zero, List.set_cons_succ]
  refine hr_take_w 2 (some 12) (.bool false) rfl rfl (by kernel_rfl) (by kernel_rfl) (by kernel_rfl) rfl (fun W hW => by obtain ⟨h0, h1⟩ := hW; go_simp) xH0 ?_
  simp only [Act.put, List.setIfInBounds_toArray, List.set_cons_zero, List.set_cons_succ]
  refine hr_take_w 3 (some 13) (.bool false) rfl rfl (by kernel_rfl) (by kernel_rfl) (by kernel_rfl) rfl (fun W hW => by obtain ⟨h0, h1⟩ := hW; go_simp) xH0 ?_
  simp only [Act.put, List.setIfInBounds_toArray, List.set_cons_zero, List.set_cons_succ]
  refine hr_take_w 4 (some 14) (.pointer (some ⟨N, 0, none⟩)) rfl rfl (by kernel_rfl) (by kernel_rfl) (by kernel_rfl) rfl (fun W hW => by obtain ⟨h0, h1⟩ := hW; go_simp) xH0 ?_
  simp only [Act.put, List.setIfInBounds_toArray, List.set_cons_zero, List.set_cons_succ]
  refine hr_take_w 5 (some 15) (.int .u64 ((k : Int) + 1)) rfl rfl (by kernel_rfl) (by kernel_rfl) (by kernel_rfl) rfl (fun W hW => by obtain ⟨h0, h1⟩ := hW; go_simp) xH0 ?_
  simp only [Act.put, List.setIfInBounds_toArray, List.set_cons_zero, List.set_cons_succ]
  refine hr_take_w 6 (some 16) (.pointer (some ⟨p, 0, none⟩)) rfl rfl (by kernel_rfl) (by kernel_rfl) (by kernel_rfl) rfl (fun W hW => by obtain ⟨h0, h1⟩ := hW; go_simp) xH0 ?_
  simp only [Act.put, List.setIfInBounds_toArray, List.set_cons_zero, List.set_cons_succ]
  refine hr_take_w 7 (some 17) (.pointer (some ⟨p, 0, none⟩)) rfl rfl (by kernel_rfl) (by kernel_rfl) (by kernel_rfl) rfl (fun W hW => by obtain ⟨h0, h1⟩ := hW; go_simp) xH0 ?_
  simp only [Act.put, List.setIfInBounds_toArray, List.set_cons_zero, List.set_cons_succ]
  refine hr_take_w 8 (some 18) (.pointer (some ⟨p, 0, none⟩)) rfl rfl (by kernel_rfl) (by kernel_rfl) (by kernel_rfl) rfl (fun W hW => by obtain ⟨h0, h1⟩ := hW; go_simp) xH0 ?_
  simp only [Act.put, List.setIfInBounds_toArray, List.set_cons_zero, List.set_cons_succ]
  refine hr_take_w 9 (some 19) (.int .i64 (f : Nat)) rfl rfl (by kernel_rfl) (by kernel_rfl) (by kernel_rfl) rfl (fun W hW => by obtain ⟨h0, h1⟩ := hW; go_simp) xH0 ?_
  simp only [Act.put, List.setIfInBounds_toArray, List.set_cons_zero, List.set_cons_succ]
  refine hr_call_w 10 (some 20) 9 #[.int .i64 (f : Nat)] rfl rfl (by kernel_rfl) rfl (by go_simp) (fun v w' => v = .int .i64 (n : Nat) ∧ Below xv0.heap.size xv0 w') ((CN xv0).mono (by
    rintro e w' ⟨rfl, C⟩
    exact ⟨_, rfl, rfl, C⟩)) ?_
  rintro v xv1 ⟨rfl, xC0⟩
  have xE1 := xE0.trans (xC0.mono xE0.size)
  have xH1 := xHS.out xv1 xE1
  refine ⟨xH1, ?_⟩
  simp only [Act.put, List.setIfInBounds_toArray, List.set_cons_zero, List.set_cons_succ]
  refine hr_take_w 11 (some 21) (.int .u64 (n : Nat)) rfl rfl (by kernel_rfl) (by kernel_rfl) (by kernel_rfl) rfl (fun W hW => by obtain ⟨h0, h1⟩ := hW; go_simp) xH1 ?_
  simp only [Act.put, List.setIfInBounds_toArray, List.set_cons_zero, List.set_cons_succ]
  refine hr_take_w 12 (some 22) (.bool false) rfl rfl (by kernel_rfl) (by kernel_rfl) (by kernel_rfl) rfl (fun W hW => by obtain ⟨h0, h1⟩ := hW; go_simp) xH1 ?_
  simp only [Act.put, List.setIfInBounds_toArray, List.set_cons_zero, List.set_cons_succ]
  refine hr_take_w 13 (some 23) (.bool false) rfl rfl (by kernel_rfl) (by kernel_rfl) (by kernel_rfl) rfl (fun W hW => by obtain ⟨h0, h1⟩ := hW; go_simp) xH1 ?_
  simp only [Act.put, List.setIfInBounds_toArray, List.set_cons_zero, List.set_cons_succ]
  refine wpAnyH_done (by kernel_rfl) ?_ _
  refine NoPanic.normal ?_
  have B2 := B1.trans (xE1.mono B1.size)
  have Q2 := hN.below xE1
  have K2 := K1.below xE1 K1.lt
  clear HC xHS
  go_wp2_with fail
  have HC2 := fun (V : World) (hV : Below xv1.heap.size xv1 V) => (World.cell?_of_block (hV.block N K2.lt)).trans (K2.cell 0)
  have yHS : Hid (∀ V, Below xv1.heap.size xv1 V → V.cell? ⟨N, 0, none⟩ = some (.int .u64 ((k : Int) + 1))) := HC2
  have yE0 : Below xv1.heap.size xv1 xv1.drew := (Below.refl _ _).drew
  refine wp_region_noPanic ?_
  refine wp_region_held_drew (S := fun V => V.cell? ⟨N, 0, none⟩ = some (.int .u64 ((k : Int) + 1))) (by kernel_rfl) (yHS.out _ yE0) (fun yH0 => ?_)
  obtain ⟨yv0, hv0⟩ : ∃ v, v = xv1.drew := ⟨_, rfl⟩
  rw [← hv0] at yH0 yE0 ⊢
  clear hv0
  refine hr_take_w 0 (some 24) (.pointer (some ⟨p, 0, none⟩)) rfl rfl (by kernel_rfl) (by kernel_rfl) (by kernel_rfl) rfl (fun W hW => by go_simp) yH0 ?_
  simp only [Act.put, List.setIfInBounds_toArray, List.set_cons_zero, List.set_cons_succ]
  refine hr_take_w 1 (some 25) (.pointer (some ⟨N, 0, none⟩)) rfl rfl (by kernel_rfl) (by kernel_rfl) (by kernel_rfl) rfl (fun W hW => by go_simp) yH0 ?_
  simp only [Act.put, List.setIfInBounds_toArray, List.set_cons_zero, List.set_cons_succ]
  refine hr_take_w 2 (some 26) (.int .u64 ((k : Int) + 1)) rfl rfl (by kernel_rfl) (by kernel_rfl) (by kernel_rfl) rfl (fun W hW => by go_simp) yH0 ?_
  simp only [Act.put, List.setIfInBounds_toArray, List.set_cons_zero, List.set_cons_succ]
  refine hr_take_w 3 (some 27) (.int .u64 (k : Nat)) rfl rfl (by kernel_rfl) (by kernel_rfl) (by kernel_rfl) rfl (fun W hW => by go_simp) yH0 ?_
  simp only [Act.put, List.setIfInBounds_toArray, List.set_cons_zero, List.set_cons_succ]
  refine hr_take_w 4 (some 28) (.pointer (some ⟨p, 0, none⟩)) rfl rfl (by kernel_rfl) (by kernel_rfl) (by kernel_rfl) rfl (fun W hW => by go_simp) yH0 ?_
  simp only [Act.put, List.setIfInBounds_toArray, List.set_cons_zero, List.set_cons_succ]
  refine hr_take_w 5 (some 29) (.pointer (some ⟨p, 1, none⟩)) rfl rfl (by kernel_rfl) (by kernel_rfl) (by kernel_rfl) rfl (fun W hW => by go_simp) yH0 ?_
  simp only [Act.put, List.setIfInBounds_toArray, List.set_cons_zero, List.set_cons_succ]
  refine hr_take_w 6 (some 30) (.pointer (some ⟨p, 1 + k * 4, none⟩)) rfl rfl (by kernel_rfl) (by kernel_rfl) (by kernel_rfl) rfl (fun W hW => by go_simp) yH0 ?_
  simp only [Act.put, List.setIfInBounds_toArray, List.set_cons_zero, List.set_cons_succ]
  refine hr_take_w 7 (some 7) (.pointer (some ⟨p, 1 + k * 4, none⟩)) rfl rfl (by kernel_rfl) (by kernel_rfl) (by kernel_rfl) rfl (fun W hW => by go_simp) yH0 ?_
  simp only [Act.put, List.setIfInBounds_toArray, List.set_cons_zero, List.set_cons_succ]
  refine wpAnyH_done (by kernel_rfl) ?_ _
  refine NoPanic.normal ?_
  have B3 := B2.trans (yE0.mono B2.size)
  have Q3 := Q2.below yE0
  have K3 := K2.below yE0 K2.lt
  have q0 : yv0.cell? ⟨p, 1 + k * 4, none⟩ = some (.bool l[k].is) := Q3.cells k 0 hkl (by omega)
  clear HC2 yHS K2 Q2
  rw [his hkl] at q0
  clear his
  have ca := conv_str (S1.below B3)
  have cb := conv_str (S2.below B3)
  have cc := conv_str (S3.below B3)
  have k1 := K3.cell 1
  have k2 := K3.cell 2
  have vok : VT.ok ⟨true, strOfNums zs, strOfNums xs, strOfNums ys⟩ := ⟨by rw [strOfNums_size, S3.len]; exact b3, by rw [strOfNums_size, S1.len]; exact b1, by rw [strOfNums_size, S2.len]; exact b2⟩
  have Q4 := Q3.set k hkf _ vok
  have G4 := gro_trans (bel_grown B3 (some p)) (grown_cells yv0 p (1 + k * 4) [.bool true, .string (strOfNums zs), .string (strOfNums xs), .string (strOfNums ys)])
  have HTH : Hid (yv0.there p (1 + k * 4) 4) := Q3.there k hkl
  clear S1 S2 S3 b1 b2 b3 Q3 K3 hN K1 B1 B2 B3 vok h CN
  go_wp2_with (refine stop_at (.store 63 (Operand.tmp 45) (Operand.tmp 44)) rfl ?_)
  refine ⟨?_⟩
  refine wpList_store_mid rfl 63 (Operand.tmp 45) (Operand.tmp 44) rfl p (1 + k * 4) #[.bool true, .string (strOfNums zs), .string (strOfNums xs), .string (strOfNums ys)] rfl rfl HTH.out size1 (all_oneCell_toArray (v_one ⟨true, strOfNums zs, strOfNums xs, strOfNums ys⟩)) ?_
  go_wp2
  go_ret
  exact ⟨rfl, Q4, G4⟩
end Go.Proofs.Ytghemebgkhopnaa

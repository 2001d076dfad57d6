/-
  Texts in one: LCells.
-/
import Derived.Test.YtnbejckdhdbamaaGreatMessageRightQFL
import Derived.Test.YtnbejckdhdbamaaGreatMessageRightQ1
import Derived.Test.YtnbejckdhdbamaaGreatMessageRightQ3
import Derived.Test.YtnbejckdhdbamaaGreatMessageRightQ17
import Derived.Test.YtnbejckdhdbamaaGreatMessageRightQ0
import Derived.Deep.Slices
import Derived.ArgAppend
import Derived.Deep.Upon
import Derived.DataElems
namespace Go.Proofs.YtnbejckdhdbamaaGreat
open Go.RowKit
def litC (c : CA) : Bool := decide (c.row.size + c.fam.size + c.qual.size ≤ 300 ∧ c.va.n ≤ 300)
def cellsB (l : List CA) (m : Int) : Bool := decide ((l.length : Int) ≤ m) && l.all litC
set_option maxHeartbeats 2000000 in
set_option maxRecDepth 100000 in
theorem lcells_any (w : World) (ao : Option Addr) (n cap : Nat) (l : List CA) (m : Int) (h : CL w ao n cap l) (hsm : ∀ c ∈ l, c.small) :
  Calls Tryz.prog 15 #[.slice ao n cap, .int .i64 m] w fun e w' => e = .returned (.bool (cellsB l m)) ∧ Below w.heap.size w w' := by
 have hl1 := Nat.le_of_eq h.len
 have hl2 := Nat.le_of_eq h.len.symm
 have hmx := h.mx
 have hle := h.le
 have hnx : (n : Int) ≤ 9223372036854775807 := by unfold maxLen at hmx; omega
 by_cases hm : (n : Int) > m
 ·have HR : Hid (cellsB l m = false) := by show _ = _; simp only [cellsB, Bool.and_eq_false_imp]; intro e; have := of_decide_eq_true e; omega
  go_enter Tryz.func15, Tryz.ntmps15
  go_wp2
  go_ret
  rw [HR.out]
  exact ⟨rfl, Below.refl _ _⟩
 have HSM : Hid (∀ c ∈ l, c.small) := hsm
 clear hsm
 go_enter Tryz.func15, Tryz.ntmps15
 go_wp2
 go_loopw [5] (fun i wr => ∃ k : Nat, k ≤ n ∧ i = .int .i64 k ∧ Hid ((l.take k).all litC = true) ∧ Below w.heap.size w wr) (fun i _ => n - (intOf i).toNat)
 case atStart => exact ⟨0, Nat.zero_le _, rfl, rfl, Below.refl _ _⟩
 case round =>
  obtain ⟨kk, hk, rfl, HA, B0⟩ := hrel
  by_cases hlt : kk < n
  ·have hki : (kk : Int) < (n : Int) := by omega
   have hkl : kk < l.length := by omega
   obtain ⟨b, off, rfl, hc⟩ := h.at (by omega)
   obtain ⟨q0, q1, q2, -, q4, -⟩ := (hc kk hkl).below B0
   have s0 := HSM.out _ (List.getElem_mem hkl)
   have HTK : Hid ((l.take (kk + 1)).all litC = litC l[kk]) := all_take_succ litC hkl HA.out
   have HBD : Hid (litC l[kk] = false → cellsB l m = false) := fun e => by
    simp only [cellsB, Bool.and_eq_false_imp]
    intro _
    exact List.all_eq_false.2 ⟨_, List.getElem_mem hkl, by rw [e]; simp⟩
   obtain ⟨c, hce⟩ : ∃ c, c = l[kk] := ⟨_, rfl⟩
   rw [← hce] at q0 q1 q2 q4 s0 HTK HBD
   have z0 := s0.row
   have z1 := s0.fam
   have z2 := s0.qual
   have z4 := s0.va
   have wa : IntKind.i64.wrap ((c.row.size : Int) + (c.fam.size : Int)) = (c.row.size : Int) + (c.fam.size : Int) := by simp [IntKind.wrap, IntKind.bits, IntKind.signed]; omega
   have wb : IntKind.i64.wrap ((c.row.size : Int) + (c.fam.size : Int) + (c.qual.size : Int)) = (c.row.size : Int) + (c.fam.size : Int) + (c.qual.size : Int) := by simp [IntKind.wrap, IntKind.bits, IntKind.signed]; omega
   clear hc hce s0
   go_wp2
   by_cases g1 : 300 < c.row.size + c.fam.size + c.qual.size
   ·have i1 : (300 : Int) < (c.row.size : Int) + (c.fam.size : Int) + (c.qual.size : Int) := by omega
    have HR : Hid (cellsB l m = false) := HBD.out (decide_eq_false fun h => by omega)
    have zHS : Hid (∀ V, Below wr.heap.size wr V → V.cell? ⟨b, off + kk * 6, none⟩ = some (.string c.row) ∧ V.cell? ⟨b, off + kk * 6 + 1, none⟩ = some (.string c.fam) ∧ V.cell? ⟨b, off + kk * 6 + 2, none⟩ = some (.string c.qual) ∧ V.cell? ⟨b, off + kk * 6 + 4, none⟩ = some (.slice c.va.ao c.va.n c.va.cap)) := fun V hV => ⟨(hV.cell (World.block_lt_of_cell? _ _ q0)).trans q0, (hV.cell (World.block_lt_of_cell? _ _ q1)).trans q1, (hV.cell (World.block_lt_of_cell? _ _ q2)).trans q2, (hV.cell (World.block_lt_of_cell? _ _ q4)).trans q4⟩
    refine zB (by kernel_rfl) zHS.out fun zv0 zE0 zH0 => ?_
    refine zT 0 (some 16) (.slice (some ⟨b, off, none⟩) n cap) rfl rfl (by kernel_rfl) rfl (fun W ⟨h0, h1, h2, h3⟩ => by go_simp) zH0 ?_
    simp only [FL]
    refine zT 1 (some 17) (.int .i64 kk) rfl rfl (by kernel_rfl) rfl (fun W ⟨h0, h1, h2, h3⟩ => by go_simp) zH0 ?_
    simp only [FL]
    refine zT 2 (some 18) (.pointer (some ⟨b, off + kk * 6, none⟩)) rfl rfl (by kernel_rfl) rfl (fun W ⟨h0, h1, h2, h3⟩ => by go_simp) zH0 ?_
    simp only [FL]
    refine zT 3 (some 19) (.pointer (some ⟨b, off + kk * 6, none⟩)) rfl rfl (by kernel_rfl) rfl (fun W ⟨h0, h1, h2, h3⟩ => by go_simp) zH0 ?_
    simp only [FL]
    refine zT 4 (some 20) (.pointer (some ⟨b, off + kk * 6, none⟩)) rfl rfl (by kernel_rfl) rfl (fun W ⟨h0, h1, h2, h3⟩ => by go_simp) zH0 ?_
    simp only [FL]
    refine zT 5 (some 21) (.string c.row) rfl rfl (by kernel_rfl) rfl (fun W ⟨h0, h1, h2, h3⟩ => by go_simp) zH0 ?_
    simp only [FL]
    refine zT 6 (some 22) (.int .i64 c.row.size) rfl rfl (by kernel_rfl) rfl (fun W ⟨h0, h1, h2, h3⟩ => by go_simp) zH0 ?_
    simp only [FL]
    refine zT 7 (some 23) (.slice (some ⟨b, off, none⟩) n cap) rfl rfl (by kernel_rfl) rfl (fun W ⟨h0, h1, h2, h3⟩ => by go_simp) zH0 ?_
    simp only [FL]
    refine zT 8 (some 24) (.int .i64 kk) rfl rfl (by kernel_rfl) rfl (fun W ⟨h0, h1, h2, h3⟩ => by go_simp) zH0 ?_
    simp only [FL]
    refine zT 9 (some 25) (.pointer (some ⟨b, off + kk * 6, none⟩)) rfl rfl (by kernel_rfl) rfl (fun W ⟨h0, h1, h2, h3⟩ => by go_simp) zH0 ?_
    simp only [FL]
    refine zT 10 (some 26) (.pointer (some ⟨b, off + kk * 6, none⟩)) rfl rfl (by kernel_rfl) rfl (fun W ⟨h0, h1, h2, h3⟩ => by go_simp) zH0 ?_
    simp only [FL]
    refine zT 11 (some 27) (.pointer (some ⟨b, off + kk * 6 + 1, none⟩)) rfl rfl (by kernel_rfl) rfl (fun W ⟨h0, h1, h2, h3⟩ => by go_simp) zH0 ?_
    simp only [FL]
    refine zT 12 (some 28) (.string c.fam) rfl rfl (by kernel_rfl) rfl (fun W ⟨h0, h1, h2, h3⟩ => by go_simp) zH0 ?_
    simp only [FL]
    refine zT 13 (some 29) (.int .i64 c.fam.size) rfl rfl (by kernel_rfl) rfl (fun W ⟨h0, h1, h2, h3⟩ => by go_simp) zH0 ?_
    simp only [FL]
    refine zT 14 (some 30) (.int .i64 ((c.row.size : Int) + c.fam.size)) rfl rfl (by kernel_rfl) rfl (fun W ⟨h0, h1, h2, h3⟩ => by go_simp) zH0 ?_
    simp only [FL]
    refine zT 15 (some 31) (.slice (some ⟨b, off, none⟩) n cap) rfl rfl (by kernel_rfl) rfl (fun W ⟨h0, h1, h2, h3⟩ => by go_simp) zH0 ?_
    simp only [FL]
    refine zT 16 (some 32) (.int .i64 kk) rfl rfl (by kernel_rfl) rfl (fun W ⟨h0, h1, h2, h3⟩ => by go_simp) zH0 ?_
    simp only [FL]
    refine zT 17 (some 33) (.pointer (some ⟨b, off + kk * 6, none⟩)) rfl rfl (by kernel_rfl) rfl (fun W ⟨h0, h1, h2, h3⟩ => by go_simp) zH0 ?_
    simp only [FL]
    refine zT 18 (some 34) (.pointer (some ⟨b, off + kk * 6, none⟩)) rfl rfl (by kernel_rfl) rfl (fun W ⟨h0, h1, h2, h3⟩ => by go_simp) zH0 ?_
    simp only [FL]
    refine zT 19 (some 35) (.pointer (some ⟨b, off + kk * 6 + 2, none⟩)) rfl rfl (by kernel_rfl) rfl (fun W ⟨h0, h1, h2, h3⟩ => by go_simp) zH0 ?_
    simp only [FL]
    refine zT 20 (some 36) (.string c.qual) rfl rfl (by kernel_rfl) rfl (fun W ⟨h0, h1, h2, h3⟩ => by go_simp) zH0 ?_
    simp only [FL]
    refine zT 21 (some 37) (.int .i64 c.qual.size) rfl rfl (by kernel_rfl) rfl (fun W ⟨h0, h1, h2, h3⟩ => by go_simp) zH0 ?_
    simp only [FL]
    refine zT 22 (some 38) (.int .i64 ((c.row.size : Int) + c.fam.size + c.qual.size)) rfl rfl (by kernel_rfl) rfl (fun W ⟨h0, h1, h2, h3⟩ => by go_simp) zH0 ?_
    simp only [FL]
    refine zT 23 (some 39) (.bool true) rfl rfl (by kernel_rfl) rfl (fun W ⟨h0, h1, h2, h3⟩ => by go_simp) zH0 ?_
    simp only [FL]
    refine zT 24 (some 40) (.bool true) rfl rfl (by kernel_rfl) rfl (fun W ⟨h0, h1, h2, h3⟩ => by go_simp) zH0 ?_
    simp only [FL]
    refine zN 25 (some 41) rfl rfl (by kernel_rfl) rfl zH0 ?_
    simp only [FL]
    refine zN 26 (some 42) rfl rfl (by kernel_rfl) rfl zH0 ?_
    simp only [FL]
    refine zN 27 (some 43) rfl rfl (by kernel_rfl) rfl zH0 ?_
    simp only [FL]
    refine zN 28 (some 44) rfl rfl (by kernel_rfl) rfl zH0 ?_
    simp only [FL]
    refine zN 29 (some 45) rfl rfl (by kernel_rfl) rfl zH0 ?_
    simp only [FL]
    refine zN 30 (some 46) rfl rfl (by kernel_rfl) rfl zH0 ?_
    simp only [FL]
    refine zN 31 (some 47) rfl rfl (by kernel_rfl) rfl zH0 ?_
    simp only [FL]
    refine zT 32 (some 48) (.bool true) rfl rfl (by kernel_rfl) rfl (fun W ⟨h0, h1, h2, h3⟩ => by go_simp) zH0 ?_
    simp only [FL]
    refine wpAnyH_done (by kernel_rfl) ?_ _
    refine NoPanic.normal ?_
    go_wp2
    go_ret
    rw [HR.out]
    exact ⟨rfl, B0.trans (zE0.mono B0.size)⟩
   have i1 : ¬ (300 : Int) < (c.row.size : Int) + (c.fam.size : Int) + (c.qual.size : Int) := by omega
   by_cases g2 : 300 < c.va.n
   ·have i2 : (300 : Int) < (c.va.n : Int) := by omega
    have HR : Hid (cellsB l m = false) := HBD.out (decide_eq_false fun h => by omega)
    have zHS : Hid (∀ V, Below wr.heap.size wr V → V.cell? ⟨b, off + kk * 6, none⟩ = some (.string c.row) ∧ V.cell? ⟨b, off + kk * 6 + 1, none⟩ = some (.string c.fam) ∧ V.cell? ⟨b, off + kk * 6 + 2, none⟩ = some (.string c.qual) ∧ V.cell? ⟨b, off + kk * 6 + 4, none⟩ = some (.slice c.va.ao c.va.n c.va.cap)) := fun V hV => ⟨(hV.cell (World.block_lt_of_cell? _ _ q0)).trans q0, (hV.cell (World.block_lt_of_cell? _ _ q1)).trans q1, (hV.cell (World.block_lt_of_cell? _ _ q2)).trans q2, (hV.cell (World.block_lt_of_cell? _ _ q4)).trans q4⟩
    refine zB (by kernel_rfl) zHS.out fun zv0 zE0 zH0 => ?_
    refine zT 0 (some 16) (.slice (some ⟨b, off, none⟩) n cap) rfl rfl (by kernel_rfl) rfl (fun W ⟨h0, h1, h2, h3⟩ => by go_simp) zH0 ?_
    simp only [FL]
    refine zT 1 (some 17) (.int .i64 kk) rfl rfl (by kernel_rfl) rfl (fun W ⟨h0, h1, h2, h3⟩ => by go_simp) zH0 ?_
    simp only [FL]
    refine zT 2 (some 18) (.pointer (some ⟨b, off + kk * 6, none⟩)) rfl rfl (by kernel_rfl) rfl (fun W ⟨h0, h1, h2, h3⟩ => by go_simp) zH0 ?_
    simp only [FL]
    refine zT 3 (some 19) (.pointer (some ⟨b, off + kk * 6, none⟩)) rfl rfl (by kernel_rfl) rfl (fun W ⟨h0, h1, h2, h3⟩ => by go_simp) zH0 ?_
    simp only [FL]
    refine zT 4 (some 20) (.pointer (some ⟨b, off + kk * 6, none⟩)) rfl rfl (by kernel_rfl) rfl (fun W ⟨h0, h1, h2, h3⟩ => by go_simp) zH0 ?_
    simp only [FL]
    refine zT 5 (some 21) (.string c.row) rfl rfl (by kernel_rfl) rfl (fun W ⟨h0, h1, h2, h3⟩ => by go_simp) zH0 ?_
    simp only [FL]
    refine zT 6 (some 22) (.int .i64 c.row.size) rfl rfl (by kernel_rfl) rfl (fun W ⟨h0, h1, h2, h3⟩ => by go_simp) zH0 ?_
    simp only [FL]
    refine zT 7 (some 23) (.slice (some ⟨b, off, none⟩) n cap) rfl rfl (by kernel_rfl) rfl (fun W ⟨h0, h1, h2, h3⟩ => by go_simp) zH0 ?_
    simp only [FL]
    refine zT 8 (some 24) (.int .i64 kk) rfl rfl (by kernel_rfl) rfl (fun W ⟨h0, h1, h2, h3⟩ => by go_simp) zH0 ?_
    simp only [FL]
    refine zT 9 (some 25) (.pointer (some ⟨b, off + kk * 6, none⟩)) rfl rfl (by kernel_rfl) rfl (fun W ⟨h0, h1, h2, h3⟩ => by go_simp) zH0 ?_
    simp only [FL]
    refine zT 10 (some 26) (.pointer (some ⟨b, off + kk * 6, none⟩)) rfl rfl (by kernel_rfl) rfl (fun W ⟨h0, h1, h2, h3⟩ => by go_simp) zH0 ?_
    simp only [FL]
    refine zT 11 (some 27) (.pointer (some ⟨b, off + kk * 6 + 1, none⟩)) rfl rfl (by kernel_rfl) rfl (fun W ⟨h0, h1, h2, h3⟩ => by go_simp) zH0 ?_
    simp only [FL]
    refine zT 12 (some 28) (.string c.fam) rfl rfl (by kernel_rfl) rfl (fun W ⟨h0, h1, h2, h3⟩ => by go_simp) zH0 ?_
    simp only [FL]
    refine zT 13 (some 29) (.int .i64 c.fam.size) rfl rfl (by kernel_rfl) rfl (fun W ⟨h0, h1, h2, h3⟩ => by go_simp) zH0 ?_
    simp only [FL]
    refine zT 14 (some 30) (.int .i64 ((c.row.size : Int) + c.fam.size)) rfl rfl (by kernel_rfl) rfl (fun W ⟨h0, h1, h2, h3⟩ => by go_simp) zH0 ?_
    simp only [FL]
    refine zT 15 (some 31) (.slice (some ⟨b, off, none⟩) n cap) rfl rfl (by kernel_rfl) rfl (fun W ⟨h0, h1, h2, h3⟩ => by go_simp) zH0 ?_
    simp only [FL]
    refine zT 16 (some 32) (.int .i64 kk) rfl rfl (by kernel_rfl) rfl (fun W ⟨h0, h1, h2, h3⟩ => by go_simp) zH0 ?_
    simp only [FL]
    refine zT 17 (some 33) (.pointer (some ⟨b, off + kk * 6, none⟩)) rfl rfl (by kernel_rfl) rfl (fun W ⟨h0, h1, h2, h3⟩ => by go_simp) zH0 ?_
    simp only [FL]
    refine zT 18 (some 34) (.pointer (some ⟨b, off + kk * 6, none⟩)) rfl rfl (by kernel_rfl) rfl (fun W ⟨h0, h1, h2, h3⟩ => by go_simp) zH0 ?_
    simp only [FL]
    refine zT 19 (some 35) (.pointer (some ⟨b, off + kk * 6 + 2, none⟩)) rfl rfl (by kernel_rfl) rfl (fun W ⟨h0, h1, h2, h3⟩ => by go_simp) zH0 ?_
    simp only [FL]
    refine zT 20 (some 36) (.string c.qual) rfl rfl (by kernel_rfl) rfl (fun W ⟨h0, h1, h2, h3⟩ => by go_simp) zH0 ?_
    simp only [FL]
    refine zT 21 (some 37) (.int .i64 c.qual.size) rfl rfl (by kernel_rfl) rfl (fun W ⟨h0, h1, h2, h3⟩ => by go_simp) zH0 ?_
    simp only [FL]
    refine zT 22 (some 38) (.int .i64 ((c.row.size : Int) + c.fam.size + c.qual.size)) rfl rfl (by kernel_rfl) rfl (fun W ⟨h0, h1, h2, h3⟩ => by go_simp) zH0 ?_
    simp only [FL]
    refine zT 23 (some 39) (.bool false) rfl rfl (by kernel_rfl) rfl (fun W ⟨h0, h1, h2, h3⟩ => by go_simp) zH0 ?_
    simp only [FL]
    refine zT 24 (some 40) (.bool false) rfl rfl (by kernel_rfl) rfl (fun W ⟨h0, h1, h2, h3⟩ => by go_simp) zH0 ?_
    simp only [FL]
    refine zT 25 (some 41) (.slice (some ⟨b, off, none⟩) n cap) rfl rfl (by kernel_rfl) rfl (fun W ⟨h0, h1, h2, h3⟩ => by go_simp) zH0 ?_
    simp only [FL]
    refine zT 26 (some 42) (.int .i64 kk) rfl rfl (by kernel_rfl) rfl (fun W ⟨h0, h1, h2, h3⟩ => by go_simp) zH0 ?_
    simp only [FL]
    refine zT 27 (some 43) (.pointer (some ⟨b, off + kk * 6, none⟩)) rfl rfl (by kernel_rfl) rfl (fun W ⟨h0, h1, h2, h3⟩ => by go_simp) zH0 ?_
    simp only [FL]
    refine zT 28 (some 44) (.pointer (some ⟨b, off + kk * 6 + 4, none⟩)) rfl rfl (by kernel_rfl) rfl (fun W ⟨h0, h1, h2, h3⟩ => by go_simp) zH0 ?_
    simp only [FL]
    refine zT 29 (some 45) (.slice c.va.ao c.va.n c.va.cap) rfl rfl (by kernel_rfl) rfl (fun W ⟨h0, h1, h2, h3⟩ => by go_simp) zH0 ?_
    simp only [FL]
    refine zT 30 (some 46) (.int .i64 c.va.n) rfl rfl (by kernel_rfl) rfl (fun W ⟨h0, h1, h2, h3⟩ => by go_simp) zH0 ?_
    simp only [FL]
    refine zT 31 (some 47) (.bool true) rfl rfl (by kernel_rfl) rfl (fun W ⟨h0, h1, h2, h3⟩ => by go_simp) zH0 ?_
    simp only [FL]
    refine zT 32 (some 48) (.bool true) rfl rfl (by kernel_rfl) rfl (fun W ⟨h0, h1, h2, h3⟩ => by go_simp) zH0 ?_
    simp only [FL]
    refine wpAnyH_done (by kernel_rfl) ?_ _
    refine NoPanic.normal ?_
    go_wp2
    go_ret
    rw [HR.out]
    exact ⟨rfl, B0.trans (zE0.mono B0.size)⟩
   ·have i2 : ¬ (300 : Int) < (c.va.n : Int) := by omega
    have HA2 : Hid ((l.take (kk + 1)).all litC = true) := by show _ = _; rw [HTK.out]; exact decide_eq_true ⟨by omega, by omega⟩
    have zHS : Hid (∀ V, Below wr.heap.size wr V → V.cell? ⟨b, off + kk * 6, none⟩ = some (.string c.row) ∧ V.cell? ⟨b, off + kk * 6 + 1, none⟩ = some (.string c.fam) ∧ V.cell? ⟨b, off + kk * 6 + 2, none⟩ = some (.string c.qual) ∧ V.cell? ⟨b, off + kk * 6 + 4, none⟩ = some (.slice c.va.ao c.va.n c.va.cap)) := fun V hV => ⟨(hV.cell (World.block_lt_of_cell? _ _ q0)).trans q0, (hV.cell (World.block_lt_of_cell? _ _ q1)).trans q1, (hV.cell (World.block_lt_of_cell? _ _ q2)).trans q2, (hV.cell (World.block_lt_of_cell? _ _ q4)).trans q4⟩
    refine zB (by kernel_rfl) zHS.out fun zv0 zE0 zH0 => ?_
    refine zT 0 (some 16) (.slice (some ⟨b, off, none⟩) n cap) rfl rfl (by kernel_rfl) rfl (fun W ⟨h0, h1, h2, h3⟩ => by go_simp) zH0 ?_
    simp only [FL]
    refine zT 1 (some 17) (.int .i64 kk) rfl rfl (by kernel_rfl) rfl (fun W ⟨h0, h1, h2, h3⟩ => by go_simp) zH0 ?_
    simp only [FL]
    refine zT 2 (some 18) (.pointer (some ⟨b, off + kk * 6, none⟩)) rfl rfl (by kernel_rfl) rfl (fun W ⟨h0, h1, h2, h3⟩ => by go_simp) zH0 ?_
    simp only [FL]
    refine zT 3 (some 19) (.pointer (some ⟨b, off + kk * 6, none⟩)) rfl rfl (by kernel_rfl) rfl (fun W ⟨h0, h1, h2, h3⟩ => by go_simp) zH0 ?_
    simp only [FL]
    refine zT 4 (some 20) (.pointer (some ⟨b, off + kk * 6, none⟩)) rfl rfl (by kernel_rfl) rfl (fun W ⟨h0, h1, h2, h3⟩ => by go_simp) zH0 ?_
    simp only [FL]
    refine zT 5 (some 21) (.string c.row) rfl rfl (by kernel_rfl) rfl (fun W ⟨h0, h1, h2, h3⟩ => by go_simp) zH0 ?_
    simp only [FL]
    refine zT 6 (some 22) (.int .i64 c.row.size) rfl rfl (by kernel_rfl) rfl (fun W ⟨h0, h1, h2, h3⟩ => by go_simp) zH0 ?_
    simp only [FL]
    refine zT 7 (some 23) (.slice (some ⟨b, off, none⟩) n cap) rfl rfl (by kernel_rfl) rfl (fun W ⟨h0, h1, h2, h3⟩ => by go_simp) zH0 ?_
    simp only [FL]
    refine zT 8 (some 24) (.int .i64 kk) rfl rfl (by kernel_rfl) rfl (fun W ⟨h0, h1, h2, h3⟩ => by go_simp) zH0 ?_
    simp only [FL]
    refine zT 9 (some 25) (.pointer (some ⟨b, off + kk * 6, none⟩)) rfl rfl (by kernel_rfl) rfl (fun W ⟨h0, h1, h2, h3⟩ => by go_simp) zH0 ?_
    simp only [FL]
    refine zT 10 (some 26) (.pointer (some ⟨b, off + kk * 6, none⟩)) rfl rfl (by kernel_rfl) rfl (fun W ⟨h0, h1, h2, h3⟩ => by go_simp) zH0 ?_
    simp only [FL]
    refine zT 11 (some 27) (.pointer (some ⟨b, off + kk * 6 + 1, none⟩)) rfl rfl (by kernel_rfl) rfl (fun W ⟨h0, h1, h2, h3⟩ => by go_simp) zH0 ?_
    simp only [FL]
    refine zT 12 (some 28) (.string c.fam) rfl rfl (by kernel_rfl) rfl (fun W ⟨h0, h1, h2, h3⟩ => by go_simp) zH0 ?_
    simp only [FL]
    refine zT 13 (some 29) (.int .i64 c.fam.size) rfl rfl (by kernel_rfl) rfl (fun W ⟨h0, h1, h2, h3⟩ => by go_simp) zH0 ?_
    simp only [FL]
    refine zT 14 (some 30) (.int .i64 ((c.row.size : Int) + c.fam.size)) rfl rfl (by kernel_rfl) rfl (fun W ⟨h0, h1, h2, h3⟩ => by go_simp) zH0 ?_
    simp only [FL]
    refine zT 15 (some 31) (.slice (some ⟨b, off, none⟩) n cap) rfl rfl (by kernel_rfl) rfl (fun W ⟨h0, h1, h2, h3⟩ => by go_simp) zH0 ?_
    simp only [FL]
    refine zT 16 (some 32) (.int .i64 kk) rfl rfl (by kernel_rfl) rfl (fun W ⟨h0, h1, h2, h3⟩ => by go_simp) zH0 ?_
    simp only [FL]
    refine zT 17 (some 33) (.pointer (some ⟨b, off + kk * 6, none⟩)) rfl rfl (by kernel_rfl) rfl (fun W ⟨h0, h1, h2, h3⟩ => by go_simp) zH0 ?_
    simp only [FL]
    refine zT 18 (some 34) (.pointer (some ⟨b, off + kk * 6, none⟩)) rfl rfl (by kernel_rfl) rfl (fun W ⟨h0, h1, h2, h3⟩ => by go_simp) zH0 ?_
    simp only [FL]
    refine zT 19 (some 35) (.pointer (some ⟨b, off + kk * 6 + 2, none⟩)) rfl rfl (by kernel_rfl) rfl (fun W ⟨h0, h1, h2, h3⟩ => by go_simp) zH0 ?_
    simp only [FL]
    refine zT 20 (some 36) (.string c.qual) rfl rfl (by kernel_rfl) rfl (fun W ⟨h0, h1, h2, h3⟩ => by go_simp) zH0 ?_
    simp only [FL]
    refine zT 21 (some 37) (.int .i64 c.qual.size) rfl rfl (by kernel_rfl) rfl (fun W ⟨h0, h1, h2, h3⟩ => by go_simp) zH0 ?_
    simp only [FL]
    refine zT 22 (some 38) (.int .i64 ((c.row.size : Int) + c.fam.size + c.qual.size)) rfl rfl (by kernel_rfl) rfl (fun W ⟨h0, h1, h2, h3⟩ => by go_simp) zH0 ?_
    simp only [FL]
    refine zT 23 (some 39) (.bool false) rfl rfl (by kernel_rfl) rfl (fun W ⟨h0, h1, h2, h3⟩ => by go_simp) zH0 ?_
    simp only [FL]
    refine zT 24 (some 40) (.bool false) rfl rfl (by kernel_rfl) rfl (fun W ⟨h0, h1, h2, h3⟩ => by go_simp) zH0 ?_
    simp only [FL]
    refine zT 25 (some 41) (.slice (some ⟨b, off, none⟩) n cap) rfl rfl (by kernel_rfl) rfl (fun W ⟨h0, h1, h2, h3⟩ => by go_simp) zH0 ?_
    simp only [FL]
    refine zT 26 (some 42) (.int .i64 kk) rfl rfl (by kernel_rfl) rfl (fun W ⟨h0, h1, h2, h3⟩ => by go_simp) zH0 ?_
    simp only [FL]
    refine zT 27 (some 43) (.pointer (some ⟨b, off + kk * 6, none⟩)) rfl rfl (by kernel_rfl) rfl (fun W ⟨h0, h1, h2, h3⟩ => by go_simp) zH0 ?_
    simp only [FL]
    refine zT 28 (some 44) (.pointer (some ⟨b, off + kk * 6 + 4, none⟩)) rfl rfl (by kernel_rfl) rfl (fun W ⟨h0, h1, h2, h3⟩ => by go_simp) zH0 ?_
    simp only [FL]
    refine zT 29 (some 45) (.slice c.va.ao c.va.n c.va.cap) rfl rfl (by kernel_rfl) rfl (fun W ⟨h0, h1, h2, h3⟩ => by go_simp) zH0 ?_
    simp only [FL]
    refine zT 30 (some 46) (.int .i64 c.va.n) rfl rfl (by kernel_rfl) rfl (fun W ⟨h0, h1, h2, h3⟩ => by go_simp) zH0 ?_
    simp only [FL]
    refine zT 31 (some 47) (.bool false) rfl rfl (by kernel_rfl) rfl (fun W ⟨h0, h1, h2, h3⟩ => by go_simp) zH0 ?_
    simp only [FL]
    refine zT 32 (some 48) (.bool false) rfl rfl (by kernel_rfl) rfl (fun W ⟨h0, h1, h2, h3⟩ => by go_simp) zH0 ?_
    simp only [FL]
    refine wpAnyH_done (by kernel_rfl) ?_ _
    refine NoPanic.normal ?_
    go_wp2
    go_roundw
    case rel => exact ⟨kk + 1, by omega, by go_num, HA2, B0.trans (zE0.mono B0.size)⟩
    case measure => simp [intOf]; omega
  ·have hge : ¬ (kk : Int) < (n : Int) := by omega
   have HR : Hid (cellsB l m = true) := by
    show _ = _
    have := HA.out
    rw [List.take_of_length_le (by omega)] at this
    simp only [cellsB, this, Bool.and_true]
    exact decide_eq_true (by omega)
   go_wp2
   go_ret
   rw [HR.out]
   exact ⟨rfl, B0⟩
end Go.Proofs.YtnbejckdhdbamaaGreat

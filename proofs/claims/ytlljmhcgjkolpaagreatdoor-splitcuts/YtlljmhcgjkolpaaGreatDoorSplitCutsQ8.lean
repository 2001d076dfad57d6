/-
  Texts in one: TbItem, Same, CutL, PCut, CKeys.
-/
import Derived.Test.YtlljmhcgjkolpaaGreatDoorSplitCutsQFL
import Derived.Test.YtlljmhcgjkolpaaGreatDoorSplitCutsQ7
import Derived.Test.YtlljmhcgjkolpaaGreatDoorSplitCutsQ0
import Derived.Deep.QuietTactic
import Derived.BigQuiet
import Derived.Test.YtlljmhcgjkolpaaGreatDoorSplitCutsQ4
import Derived.Test.YtlljmhcgjkolpaaGreatDoorSplitCutsQ3
import Derived.Deep.LoopGhost
namespace Go.Proofs.YtlljmhcgjkolpaaGreatDoor
open Go.RowKit
def CA.val (c : CA) : Value := .agg #[.string c.row, .string c.fam, .string c.qual, .int .u64 c.time, .slice c.va.ao c.va.n c.va.cap, .bool c.gone]
def itK (c : CA) : List Int := if c.key.isRight then keyL c.c.kv else []
set_option maxHeartbeats 2000000 in
set_option maxRecDepth 100000 in
theorem titem_any (w : World) (c : CA) (h : c.ok w) (hn : c.va.n ≤ 100000) :
    Calls Tryz.prog 69 #[c.val] w fun e w' => ∃ ko kn kc vo vn vc, e = .returned (.agg #[.slice ko kn kc, .slice vo vn vc]) ∧ Sl w' ko kn kc (itK c) ∧ Sl w' vo vn vc (itV c.c) ∧ Below w.heap.size w w' := by
  obtain ⟨W1, hW1⟩ : ∃ V, V = w.alloc (.cells #[.string c.row, .string c.fam, .string c.qual, .int .u64 c.time, .slice c.va.ao c.va.n c.va.cap, .bool c.gone] 33) := ⟨_, rfl⟩
  obtain ⟨W2, hW2⟩ : ∃ V, V = W1.alloc (.cells #[.slice none 0 0, .slice none 0 0] 105) := ⟨_, rfl⟩
  have B1 : Below w.heap.size w W1 := by rw [hW1]; exact (Below.refl _ _).alloc (Nat.le_refl _) _
  have C2 : Below W1.heap.size W1 W2 := by rw [hW2]; exact (Below.refl _ _).alloc (Nat.le_refl _) _
  have B2 := B1.trans (C2.mono B1.size)
  have s1 : W1.heap.size = w.heap.size + 1 := by rw [hW1]; exact Array.size_push ..
  have A1' : Arr W1 w.heap.size 33 (#[.string c.row, .string c.fam, .string c.qual, .int .u64 c.time, .slice c.va.ao c.va.n c.va.cap, .bool c.gone]).toList := by rw [hW1]; exact heap_alloc_new w _
  have A1 := arr_below A1' C2
  have A2 : Arr W2 (w.heap.size + 1) 105 [.slice none 0 0, .slice none 0 0] := by rw [hW2, ← s1]; exact heap_alloc_new W1 _
  clear A1'
  unfold CA.val
  by_cases hr : c.key.isRight = true
  · have HK : Hid (itK c = keyL c.key.kv) := by show _ = _; unfold itK; rw [hr]; rfl
    have CB := pbytes_any W2 c.key ⟨h.row, h.fam, h.qual, h.time⟩ hr
    rw [show c.key.val = .agg #[.string c.row, .string c.fam, .string c.qual, .int .u64 c.time] from rfl] at CB
    go_enter Tryz.func69, Tryz.ntmps69
    go_wp2_with fail
    rw [← hW1, ← hW2]
    refine CB.mono ?_
    rintro e w3 ⟨ko, kn, kc, rfl, S3, C3⟩
    have B3 := B2.trans (C3.mono B2.size)
    have A3 := arr_below A1 C3
    have R3 := arr_below A2 C3
    have c4 : w3.cell? ⟨w.heap.size, 4, none⟩ = some (.slice c.va.ao c.va.n c.va.cap) := A3.cell 4
    have c5 : w3.cell? ⟨w.heap.size, 5, none⟩ = some (.bool c.gone) := A3.cell 5
    have r0 : w3.cell? ⟨w.heap.size + 1, 0, none⟩ = some (.slice none 0 0) := R3.cell 0
    have r1 : w3.cell? ⟨w.heap.size + 1, 1, none⟩ = some (.slice none 0 0) := R3.cell 1
    have f0 := R3.free 0
    have f1 := R3.free 1
    have lt := R3.lt
    clear CB
    cases hg : c.gone with
    | true =>
      have HV : Hid (itV c.c = [1]) := by show (if c.gone then _ else _) = _; rw [hg]; rfl
      rw [hg] at c5
      have S4 := Sl.one w3 1 (by omega)
      have KW : Wr (w.heap.size + 1) w3 (((w3.setCell ⟨w.heap.size + 1, 0, none⟩ (.slice ko kn kc)).setCell ⟨w.heap.size + 1, 1, none⟩ (.slice (some ⟨w3.heap.size, 0, none⟩) 1 1)).alloc (.cells #[.int .u8 1] 5)) := (((Wr.refl _ _).set 0 _).set 1 _).alloc _
      have BX : Below w.heap.size w (((w3.setCell ⟨w.heap.size + 1, 0, none⟩ (.slice ko kn kc)).setCell ⟨w.heap.size + 1, 1, none⟩ (.slice (some ⟨w3.heap.size, 0, none⟩) 1 1)).alloc (.cells #[.int .u8 1] 5)) := KW.below B3 B3.size (Nat.le_succ _)
      have SK : Sl _ ko kn kc _ := (S3).wr R3 (by simp) KW
      have SV : Sl (((w3.setCell ⟨w.heap.size + 1, 0, none⟩ (.slice ko kn kc)).setCell ⟨w.heap.size + 1, 1, none⟩ (.slice (some ⟨w3.heap.size, 0, none⟩) 1 1)).alloc (.cells #[.int .u8 1] 5)) (some ⟨w3.heap.size, 0, none⟩) 1 1 [1] := by
        have := Sl.one ((w3.setCell ⟨w.heap.size + 1, 0, none⟩ (.slice ko kn kc)).setCell ⟨w.heap.size + 1, 1, none⟩ (.slice (some ⟨w3.heap.size, 0, none⟩) 1 1)) 1 (by omega)
        simpa using this
      clear S4
      go_wp2
      exact bodyPost_ret (v := .agg #[.slice ko kn kc, .slice (some ⟨w3.heap.size, 0, none⟩) 1 1]) (by simp [results, Tryz.results69, go_sem, r0, r1, lt]) rfl ⟨_, _, _, _, _, _, rfl, by rw [HK.out]; exact SK, by rw [HV.out]; exact SV, BX⟩
    | false =>
      have HV : Hid (itV c.c = 0 :: c.va.xs) := by show (if c.gone then _ else _) = _; rw [hg]; rfl
      rw [hg] at c5
      obtain ⟨W4, hW4⟩ : ∃ V, V = w3.alloc (.cells #[.int .u8 0] 5) := ⟨_, rfl⟩
      have C4 : Below w3.heap.size w3 W4 := by rw [hW4]; exact (Below.refl _ _).alloc (Nat.le_refl _) _
      have O4 : W4.ownsRow w3.heap.size 5 1 (.slice (some ⟨w3.heap.size, 0, none⟩) 1 1) 1 (bv [0]) := by rw [hW4]; exact ⟨rfl, .inr ⟨w3.heap.size, 1, #[.int .u8 0], rfl, Nat.le_refl _, heap_alloc_new w3 _, Nat.le_refl _, by decide, rfl, rfl⟩⟩
      have hva := h.va.below (B3.trans (C4.mono B3.size))
      have B4 := B3.trans (C4.mono B3.size)
      have c4' : (w3.alloc (.cells #[.int .u8 0] 5)).cell? ⟨w.heap.size, 4, none⟩ = some (.slice c.va.ao c.va.n c.va.cap) := by rw [← hW4]; exact (C4.cell (World.block_lt_of_cell? _ _ c4)).trans c4
      have s4 := C4.size
      have HBZ : Hid (Byt (0 :: c.va.xs)) := fun x hx => (List.mem_cons.1 hx).elim (fun e => by rw [e]; omega) (h.va.byte x)
      go_wp2_with (at_builtin; rw [← hW4]; refine wpList_app rfl (.tmp 17) (.tmp 19) rfl w3.heap.size _ _ _ rfl O4 _ _ _ _ rfl hva (by omega) s4 ?_; intro v5 w5 O5 D5; have O5' : w5.ownsRow w3.heap.size 5 1 v5 (1 + c.va.n) (bv (0 :: c.va.xs)) := O5; obtain ⟨vo, vc, rfl, S5, -⟩ := Sl.own O5' HBZ.out; have C5 := C4.trans D5; have B5 := B3.trans (C5.mono B3.size); have R5 := arr_below R3 C5; have r0 : w5.cell? ⟨w.heap.size + 1, 0, none⟩ = some (.slice none 0 0) := R5.cell 0; have r1 : w5.cell? ⟨w.heap.size + 1, 1, none⟩ = some (.slice none 0 0) := R5.cell 1; have f0 := R5.free 0; have f1 := R5.free 1; have lt := R5.lt; clear O5 O5' c4' O4)
      have KW : Wr (w.heap.size + 1) w5 ((w5.setCell ⟨w.heap.size + 1, 0, none⟩ (.slice ko kn kc)).setCell ⟨w.heap.size + 1, 1, none⟩ (.slice vo (1 + c.va.n) vc)) := ((Wr.refl _ _).set 0 _).set 1 _
      have BX := KW.below B5 B5.size (Nat.le_succ _)
      have SK : Sl _ ko kn kc _ := ((S3).below C5).wr R5 (by simp) KW
      have SV := S5.wr R5 (by simp) KW
      exact bodyPost_ret (v := .agg #[.slice ko kn kc, .slice vo (1 + c.va.n) vc]) (by simp [results, Tryz.results69, go_sem, r0, r1]) rfl ⟨_, _, _, _, _, _, rfl, by rw [HK.out]; exact SK, by rw [HV.out]; exact SV, BX⟩
  · have hr : c.key.isRight = false := by simpa using hr
    have HK : Hid (itK c = []) := by show _ = _; unfold itK; rw [hr]; rfl
    have CB := pbytes_bad W2 c.key hr
    rw [show c.key.val = .agg #[.string c.row, .string c.fam, .string c.qual, .int .u64 c.time] from rfl] at CB
    go_enter Tryz.func69, Tryz.ntmps69
    go_wp2_with fail
    rw [← hW1, ← hW2]
    refine CB.mono ?_
    rintro e w3 ⟨rfl, C3⟩
    have B3 := B2.trans (C3.mono B2.size)
    have A3 := arr_below A1 C3
    have R3 := arr_below A2 C3
    have c4 : w3.cell? ⟨w.heap.size, 4, none⟩ = some (.slice c.va.ao c.va.n c.va.cap) := A3.cell 4
    have c5 : w3.cell? ⟨w.heap.size, 5, none⟩ = some (.bool c.gone) := A3.cell 5
    have r0 : w3.cell? ⟨w.heap.size + 1, 0, none⟩ = some (.slice none 0 0) := R3.cell 0
    have r1 : w3.cell? ⟨w.heap.size + 1, 1, none⟩ = some (.slice none 0 0) := R3.cell 1
    have f0 := R3.free 0
    have f1 := R3.free 1
    have lt := R3.lt
    clear CB
    cases hg : c.gone with
    | true =>
      have HV : Hid (itV c.c = [1]) := by show (if c.gone then _ else _) = _; rw [hg]; rfl
      rw [hg] at c5
      have S4 := Sl.one w3 1 (by omega)
      have KW : Wr (w.heap.size + 1) w3 (((w3.setCell ⟨w.heap.size + 1, 0, none⟩ (.slice none 0 0)).setCell ⟨w.heap.size + 1, 1, none⟩ (.slice (some ⟨w3.heap.size, 0, none⟩) 1 1)).alloc (.cells #[.int .u8 1] 5)) := (((Wr.refl _ _).set 0 _).set 1 _).alloc _
      have BX : Below w.heap.size w (((w3.setCell ⟨w.heap.size + 1, 0, none⟩ (.slice none 0 0)).setCell ⟨w.heap.size + 1, 1, none⟩ (.slice (some ⟨w3.heap.size, 0, none⟩) 1 1)).alloc (.cells #[.int .u8 1] 5)) := KW.below B3 B3.size (Nat.le_succ _)
      have SK : Sl _ none 0 0 _ := ((Sl.nothing w3)).wr R3 (by simp) KW
      have SV : Sl (((w3.setCell ⟨w.heap.size + 1, 0, none⟩ (.slice none 0 0)).setCell ⟨w.heap.size + 1, 1, none⟩ (.slice (some ⟨w3.heap.size, 0, none⟩) 1 1)).alloc (.cells #[.int .u8 1] 5)) (some ⟨w3.heap.size, 0, none⟩) 1 1 [1] := by
        have := Sl.one ((w3.setCell ⟨w.heap.size + 1, 0, none⟩ (.slice none 0 0)).setCell ⟨w.heap.size + 1, 1, none⟩ (.slice (some ⟨w3.heap.size, 0, none⟩) 1 1)) 1 (by omega)
        simpa using this
      clear S4
      go_wp2
      exact bodyPost_ret (v := .agg #[.slice none 0 0, .slice (some ⟨w3.heap.size, 0, none⟩) 1 1]) (by simp [results, Tryz.results69, go_sem, r0, r1, lt]) rfl ⟨_, _, _, _, _, _, rfl, by rw [HK.out]; exact SK, by rw [HV.out]; exact SV, BX⟩
    | false =>
      have HV : Hid (itV c.c = 0 :: c.va.xs) := by show (if c.gone then _ else _) = _; rw [hg]; rfl
      rw [hg] at c5
      obtain ⟨W4, hW4⟩ : ∃ V, V = w3.alloc (.cells #[.int .u8 0] 5) := ⟨_, rfl⟩
      have C4 : Below w3.heap.size w3 W4 := by rw [hW4]; exact (Below.refl _ _).alloc (Nat.le_refl _) _
      have O4 : W4.ownsRow w3.heap.size 5 1 (.slice (some ⟨w3.heap.size, 0, none⟩) 1 1) 1 (bv [0]) := by rw [hW4]; exact ⟨rfl, .inr ⟨w3.heap.size, 1, #[.int .u8 0], rfl, Nat.le_refl _, heap_alloc_new w3 _, Nat.le_refl _, by decide, rfl, rfl⟩⟩
      have hva := h.va.below (B3.trans (C4.mono B3.size))
      have B4 := B3.trans (C4.mono B3.size)
      have c4' : (w3.alloc (.cells #[.int .u8 0] 5)).cell? ⟨w.heap.size, 4, none⟩ = some (.slice c.va.ao c.va.n c.va.cap) := by rw [← hW4]; exact (C4.cell (World.block_lt_of_cell? _ _ c4)).trans c4
      have s4 := C4.size
      have HBZ : Hid (Byt (0 :: c.va.xs)) := fun x hx => (List.mem_cons.1 hx).elim (fun e => by rw [e]; omega) (h.va.byte x)
      go_wp2_with (at_builtin; rw [← hW4]; refine wpList_app rfl (.tmp 17) (.tmp 19) rfl w3.heap.size _ _ _ rfl O4 _ _ _ _ rfl hva (by omega) s4 ?_; intro v5 w5 O5 D5; have O5' : w5.ownsRow w3.heap.size 5 1 v5 (1 + c.va.n) (bv (0 :: c.va.xs)) := O5; obtain ⟨vo, vc, rfl, S5, -⟩ := Sl.own O5' HBZ.out; have C5 := C4.trans D5; have B5 := B3.trans (C5.mono B3.size); have R5 := arr_below R3 C5; have r0 : w5.cell? ⟨w.heap.size + 1, 0, none⟩ = some (.slice none 0 0) := R5.cell 0; have r1 : w5.cell? ⟨w.heap.size + 1, 1, none⟩ = some (.slice none 0 0) := R5.cell 1; have f0 := R5.free 0; have f1 := R5.free 1; have lt := R5.lt; clear O5 O5' c4' O4)
      have KW : Wr (w.heap.size + 1) w5 ((w5.setCell ⟨w.heap.size + 1, 0, none⟩ (.slice none 0 0)).setCell ⟨w.heap.size + 1, 1, none⟩ (.slice vo (1 + c.va.n) vc)) := ((Wr.refl _ _).set 0 _).set 1 _
      have BX := KW.below B5 B5.size (Nat.le_succ _)
      have SK : Sl _ none 0 0 _ := (((Sl.nothing w3)).below C5).wr R5 (by simp) KW
      have SV := S5.wr R5 (by simp) KW
      exact bodyPost_ret (v := .agg #[.slice none 0 0, .slice vo (1 + c.va.n) vc]) (by simp [results, Tryz.results69, go_sem, r0, r1]) rfl ⟨_, _, _, _, _, _, rfl, by rw [HK.out]; exact SK, by rw [HV.out]; exact SV, BX⟩
open Go.RowKit
theorem lists_of (n : Nat) (xs ys : List Int) (h1 : xs.length = n) (h2 : ys.length = n) (h : ∀ j, j < n → xs.getD j 0 = ys.getD j 0) : xs = ys := by
  apply List.ext_getElem (by omega)
  intro j hj hj2
  have := h j (by omega)
  simpa [List.getD, hj, hj2] using this
theorem Sl.at {w : World} {ao : Option Addr} {n cap : Nat} {xs : List Int} (h : Sl w ao n cap xs) (hn : 0 < n) :
    ∃ b off, ao = some ⟨b, off, none⟩ ∧ ∀ i, i < n → w.cell? ⟨b, off + i, none⟩ = some (.int .u8 (xs.getD i 0)) := by
  cases ao with
  | none => have := (h.nil rfl).1; omega
  | some a =>
    obtain ⟨b, off, spot⟩ := a
    have hc := h.cell _ rfl 0 hn
    have hs : spot = none := by simpa [Addr.add] using World.cell?_spot hc
    subst hs
    exact ⟨b, off, rfl, fun i hi => by have := h.cell _ rfl i hi; rw [Addr.add_lit] at this; exact this⟩
set_option maxHeartbeats 800000 in
theorem same_any (w : World) (ao bo : Option Addr) (n cap m cap2 : Nat) (xs ys : List Int) (h : Sl w ao n cap xs) (h2 : Sl w bo m cap2 ys) :
    Calls Tryz.prog 27 #[.slice ao n cap, .slice bo m cap2] w fun e w' =>
      e = .returned (.bool (decide (xs = ys))) ∧ ∃ q, w' = w.drewN q := by
  have hl := h.len
  have hl2 := h2.len
  have hle := h.le
  have hmx := h.mx
  unfold maxLen at hmx
  by_cases hnm : n = m
  · subst hnm
    have hne : ((n : Int) != (n : Int)) = false := by simp
    go_enter Tryz.func27, Tryz.ntmps27
    go_wp2
    go_loopw [5] (fun i wr => ∃ k q : Nat, k ≤ n ∧ i = .int .i64 k ∧ wr = w.drewN q ∧ ∀ j, j < k → xs.getD j 0 = ys.getD j 0) (fun i _ => n - (intOf i).toNat)
    case atStart => exact ⟨0, 0, Nat.zero_le _, rfl, rfl, fun j hj => by omega⟩
    case round =>
      obtain ⟨k, q, hk, rfl, rfl, heq⟩ := hrel
      by_cases hlt : k < n
      · obtain ⟨b, off, rfl, hc⟩ := h.at (by omega)
        obtain ⟨b2, off2, rfl, hc2⟩ := h2.at (by omega)
        have c1 := hc k hlt
        have c2 := hc2 k hlt
        have hlt1 : (k : Int) < (n : Int) := by omega
        clear hc hc2
        have k1 : k < xs.length := by omega
        have k2 : k < ys.length := by omega
        by_cases he : xs[k] = ys[k]
        · have hb : (xs[k] != ys[k]) = false := by simp [he]
          have hE : Hid (xs[k] = ys[k]) := he
          clear he
          go_wp2
          go_quiet (fail)
          go_wp2
          go_roundw
          case rel =>
            refine ⟨k + 1, _, by omega, by go_num, rfl, fun j hj => ?_⟩
            by_cases hjk : j < k
            · exact heq j hjk
            · obtain rfl : j = k := by omega
              simpa [List.getD, k1, k2] using hE.out
          case measure => simp [intOf]; omega
        · have hb : (xs[k] != ys[k]) = true := by simp [he]
          have hE : Hid (¬ xs[k] = ys[k]) := he
          clear he
          go_wp2
          go_quiet (fail)
          go_wp2
          go_ret
          have hd : decide (xs = ys) = false := decide_eq_false (fun hx => by subst hx; exact hE.out rfl)
          rw [hd, World.drewN_drewN]
          exact ⟨rfl, _, rfl⟩
      · obtain rfl : k = n := by omega
        go_wp2
        go_ret
        have hd : decide (xs = ys) = true := decide_eq_true (lists_of k xs ys hl hl2 heq)
        rw [hd]
        exact ⟨rfl, _, rfl⟩
  · have hne : ((n : Int) != (m : Int)) = true := by simp; omega
    go_enter Tryz.func27, Tryz.ntmps27
    go_wp2
    go_ret
    have hd : decide (xs = ys) = false := decide_eq_false (fun hx => by subst hx; omega)
    rw [hd]
    exact ⟨rfl, 0, rfl⟩
open Go.RowKit
theorem cutL_ne {c : Int} (r : List Int) (h : c ≠ 0) : cutL (c :: r) = (cutL r).map fun p => (c :: p.1, p.2) := by
  cases r with
  | nil => simp [cutL]
  | cons d r => rw [cutL, if_neg h]
theorem cutL_one (r : List Int) : cutL (0 :: 1 :: r) = some ([], r) := by simp [cutL]
theorem cutL_255 (r : List Int) : cutL (0 :: 255 :: r) = (cutL r).map fun p => (0 :: p.1, p.2) := by simp [cutL]
theorem cutL_other {d : Int} (r : List Int) (h1 : d ≠ 1) (h2 : d ≠ 255) : cutL (0 :: d :: r) = none := by simp [cutL, h1, h2]
theorem drop_at (xs : List Int) (k : Nat) (h : k < xs.length) : xs.drop k = xs.getD k 0 :: xs.drop (k + 1) := by
  rw [List.drop_eq_getElem_cons h]
  simp [List.getD, h]
theorem map_more {α : Type} (o : Option (List Int × α)) (acc ys : List Int) : (o.map fun p => (ys ++ p.1, p.2)).map (fun p => (acc ++ p.1, p.2)) = o.map fun p => ((acc ++ ys) ++ p.1, p.2) := by
  cases o <;> simp
theorem cutC {w : World} {b off : Nat} {n cap : Nat} {xs : List Int} (h : Sl w (some ⟨b, off, none⟩) n cap xs) (u : Nat) (hu : u ≤ n) : Sl w (some (if cap = u then ⟨b, off, none⟩ else ⟨b, off + u, none⟩)) (n - u) (cap - u) (xs.drop u) := by
  refine ⟨by simp [h.len], by have := h.le; omega, by have := h.mx; omega, fun e => by simp at e, fun a ha i hi => ?_, h.byte.drop u⟩
  have hle := h.le
  rw [if_neg (by omega)] at ha
  obtain rfl := Option.some.inj ha
  have := h.cell _ rfl (u + i) (by omega)
  rw [Addr.add_lit] at this ⊢
  rw [Nat.add_assoc, this]
  simp [List.getD]
open Go.RowKit
def cutN : Nat → List Int → Option (List (List Int) × List Int)
  | 0, xs => some ([], xs)
  | n + 1, xs => (cutL xs).bind fun p => (cutN n p.2).map fun q => (p.1 :: q.1, q.2)
def namesV (ss : List ByteArray) : List Value := ss.map Value.string
def NamesPost (w' : World) (e : Ending) : Option (List (List Int) × List Int) → Prop
  | none => e = .returned (.tuple #[.agg (namesV [⟨#[]⟩, ⟨#[]⟩, ⟨#[]⟩]).toArray, .slice none 0 0])
  | some q => ∃ ss bo m c, e = .returned (.tuple #[.agg (namesV ss).toArray, .slice bo m c]) ∧ ss.length = 3 ∧ ss.map sb = q.1 ∧ Sl w' bo m c q.2
theorem hr_app {ops : Array Oper} {S : World → Prop} {Q : Exit → Act → World → Prop} {fuel : Nat} {listed : Array Bool} {a : Act} {w : World} (i : Nat) (d : Option Tmp) {oi : Oper} (hi : ops[i]? = some oi) (hd : oi.dst = d) (hr : Region.ready .any ops listed = [i]) (hg : oi.guard = none) (s x : Operand)
    (ho : oi.op = .call { callee := .builtin .append, args := #[s, x], argTypes := #[25, 25] })
    (base : Nat) (v : Value) (n : Nat) (xs : List Int) (hs : a.eval s = v) (hown : w.ownsRow base 5 1 v n (bv xs))
    (ad : Addr) (m c : Nat) (ys : List Int) (hx : a.eval x = .slice (some ad) m c) (hsl : Sl w (some ad) m c ys) (hb : n + m ≤ 140737488355328) (hbase : base ≤ w.heap.size)
    (h : ∀ v' w', w'.ownsRow base 5 1 v' (n + m) (bv (xs ++ ys)) → w.grownBy w' v.ownBlock → S w' ∧ wpAnyH Tryz.prog .any ops (NoPanic Q) S fuel (listed.setIfInBounds i true) (a.put d v') w') : wpAnyH Tryz.prog .any ops (NoPanic Q) S (fuel + 1) listed a w := by
  refine wpAnyH_all hr (by simp) fun j hj => ?_
  obtain rfl := List.mem_singleton.1 hj
  have hw : Region.wanted oi (yielded ops a.tmps) = true := by simp [Region.wanted, hg]
  obtain ⟨i0, hi0, hz0, hz1, hz2⟩ := info_parts u8info
  unfold wpOp
  simp only [hi, hw, if_true]
  refine .inl ?_
  refine wp_append_own w s x 25 ho base 5 i0 (.int .u8 0) 1 1 Tryz.underlying25 hi0 hz0 hz1 hz2 rfl (by decide) v n (bv xs) hs hown ad m c (bv ys) hx (by rw [bv_length, hsl.len, Nat.mul_one]) (hsl.cells ad rfl) (bv_one ys) (by unfold maxLen; omega) (by omega) hbase ?_
  intro v' w' h1 h2 _
  rw [← bv_append] at h1
  rw [hd]
  exact h v' w' h1 h2
set_option maxHeartbeats 4000000 in
set_option maxRecDepth 100000 in
theorem pcut_any (w : World) (ao : Option Addr) (n cap : Nat) (xs : List Int) (h : Sl w ao n cap xs) (hn : n ≤ 1000000) :
    Calls Tryz.prog 152 #[.slice ao n cap] w fun e w' => NamesPost w' e (cutN 3 xs) ∧ Below w.heap.size w w' := by
  have e1 : (w.alloc (.cells #[.string ⟨#[]⟩, .string ⟨#[]⟩, .string ⟨#[]⟩] 139)).heap[w.heap.size]? = some (.cells (namesV [⟨#[]⟩, ⟨#[]⟩, ⟨#[]⟩]).toArray 139) := heap_alloc_new w _
  have B1 : Below w.heap.size w (w.alloc (.cells #[.string ⟨#[]⟩, .string ⟨#[]⟩, .string ⟨#[]⟩] 139)) := (Below.refl _ w).alloc (Nat.le_refl _) _
  obtain ⟨p, hp⟩ : ∃ p, p = w.heap.size := ⟨_, rfl⟩
  go_enter Tryz.func152, Tryz.ntmps152
  go_wp2_with fail
  go_step3
  go_wp2_with fail
  go_step3
  obtain ⟨w1, hw1⟩ : ∃ W, W = (w.alloc (.cells #[.string ⟨#[]⟩, .string ⟨#[]⟩, .string ⟨#[]⟩] 139)) := ⟨_, rfl⟩
  rw [← hw1] at e1 B1 ⊢
  have z1 : w1.heap.size = w.heap.size + 1 := by rw [hw1]; simp
  rw [← hp] at e1 B1 z1 ⊢
  clear hw1
  have HP : Hid (p = w.heap.size) := hp
  clear hp
  have E1 : Hid (w1.heap[p]? = some (.cells (namesV [⟨#[]⟩, ⟨#[]⟩, ⟨#[]⟩]).toArray 139)) := e1
  clear e1
  go_wp2_with fail
  go_loopg [0, 4, 5, 6] 3 (fun g b _ _ i wr => ∃ (j : Nat) (ss : List ByteArray) (bo : Option Addr) (m c : Nat) (ys : List Int), j + g = 3 ∧ i = .int .i64 j ∧ b = .slice bo m c ∧ m ≤ n ∧ Sl w bo m c ys ∧ ss.length = 3 ∧ Hid (wr.heap[p]? = some (.cells (namesV ss).toArray 139)) ∧ Below p w wr ∧ Hid (cutN 3 xs = (cutN g ys).map fun q => ((ss.take j).map sb ++ q.1, q.2)))
  case atStart => exact ⟨0, _, _, _, _, xs, rfl, rfl, rfl, Nat.le_refl _, h, rfl, E1, B1, by show _ = _; simp⟩
  case round =>
    clear E1 B1
    obtain ⟨j, ss, bo, m, c, ys, hjg, rfl, rfl, hmn, S, hss, A, B, HC⟩ := hrel
    have bs := B.size
    cases gk with
    | zero =>
      obtain rfl : j = 3 := by omega
      obtain ⟨s0, s1, s2, rfl⟩ : ∃ s0 s1 s2, ss = [s0, s1, s2] := by
        match ss, hss with
        | [a, b, c], _ => exact ⟨a, b, c, rfl⟩
      have q0 : wr.cell? ⟨p, 0, none⟩ = some (.string s0) := cell_of_row wr p 0 _ _ _ A.out
      have q1 : wr.cell? ⟨p, 1, none⟩ = some (.string s1) := cell_of_row wr p 1 _ _ _ A.out
      have q2 : wr.cell? ⟨p, 2, none⟩ = some (.string s2) := cell_of_row wr p 2 _ _ _ A.out
      have f0 : wr.frozen? ⟨p, 0, none⟩ = false := frozen_of_row wr p 0 _ _ A.out
      have f1 : wr.frozen? ⟨p, 1, none⟩ = false := frozen_of_row wr p 1 _ _ A.out
      have f2 : wr.frozen? ⟨p, 2, none⟩ = false := frozen_of_row wr p 2 _ _ A.out
      have B2 : Below p w (((wr.setCell ⟨p, 0, none⟩ (.string s0)).setCell ⟨p, 1, none⟩ (.string s1)).setCell ⟨p, 2, none⟩ (.string s2)) := ((B.setCell (Nat.le_refl _) _).setCell (Nat.le_refl _) _).setCell (Nat.le_refl _) _
      rw [HP.out] at B2
      go_wp2
      refine bodyPost_ret (v := .tuple #[.agg #[.string s0, .string s1, .string s2], .slice bo m c]) (by simp [results, Tryz.results152, go_sem, q0, q1, q2]) rfl ⟨?_, ?_⟩
      · rw [HC.out]
        exact ⟨[s0, s1, s2], bo, m, c, rfl, rfl, by simp, S.below (by rw [HP.out]; exact B2)⟩
      · rw [HP.out]; exact B2
    | succ g =>
      have il : (j : Int) < 3 := by omega
      go_wp2_with fail
      go_loopg [0, 5] m (fun g2 b nv wx => ∃ (bo2 : Option Addr) (m2 c2 : Nat) (zs acc : List Int), b = .slice bo2 m2 c2 ∧ m2 = g2 ∧ Sl w bo2 m2 c2 zs ∧ wx.ownsRow (p + 1) 5 1 nv acc.length (bv acc) ∧ Byt acc ∧ acc.length + m2 ≤ n ∧ Hid (wx.heap[p]? = some (.cells (namesV ss).toArray 139)) ∧ Below p w wx ∧ Hid (cutL ys = (cutL zs).map fun q => (acc ++ q.1, q.2)))
      case atStart => exact ⟨bo, m, c, ys, [], rfl, rfl, S, World.ownsRow_nil _ _ _ _, fun x hx => by simp at hx, by simpa using hmn, A, B, by show _ = _; simp⟩
      case round =>
        clear A B bs
        obtain ⟨bo2, m2, c2, zs, acc, rfl, rfl, S2, O, hby, hle, A, B2, HC2⟩ := hrel
        have bs := B2.size
        have bp : p < wr.heap.size := (Array.getElem?_eq_some_iff.1 A.out).1
        have l2 := S2.len
        have lc := S2.le
        obtain ⟨s0, s1, s2, hs3⟩ : ∃ s0 s1 s2, ss = [s0, s1, s2] := by
          match ss, hss with
          | [a, b, c], _ => exact ⟨a, b, c, rfl⟩
        have AA := A.out
        rw [hs3] at AA
        have q0 : wr.cell? ⟨p, 0, none⟩ = some (.string s0) := cell_of_row wr p 0 _ _ _ AA
        have q1 : wr.cell? ⟨p, 1, none⟩ = some (.string s1) := cell_of_row wr p 1 _ _ _ AA
        have q2 : wr.cell? ⟨p, 2, none⟩ = some (.string s2) := cell_of_row wr p 2 _ _ _ AA
        have f0 : wr.frozen? ⟨p, 0, none⟩ = false := frozen_of_row wr p 0 _ _ AA
        have f1 : wr.frozen? ⟨p, 1, none⟩ = false := frozen_of_row wr p 1 _ _ AA
        have f2 : wr.frozen? ⟨p, 2, none⟩ = false := frozen_of_row wr p 2 _ _ AA
        have BZ : Below p w (((wr.setCell ⟨p, 0, none⟩ (.string ⟨#[]⟩)).setCell ⟨p, 1, none⟩ (.string ⟨#[]⟩)).setCell ⟨p, 2, none⟩ (.string ⟨#[]⟩)) := ((B2.setCell (Nat.le_refl _) _).setCell (Nat.le_refl _) _).setCell (Nat.le_refl _) _
        clear hs3 AA
        by_cases hm0 : m2 = 0
        · subst hm0
          have hzs : zs = [] := List.eq_nil_of_length_eq_zero l2
          have hnone : Hid (cutN 3 xs = none) := by
            have e1 : cutL ys = none := by rw [HC2.out, hzs]; simp [cutL]
            show _ = _
            rw [HC.out, cutN, e1]
            rfl
          clear O  hzs l2 S2 hle
          go_wp2
          rw [Exit.noGoto_ret]
          refine bodyPost_ret (v := .tuple #[.agg #[.string ⟨#[]⟩, .string ⟨#[]⟩, .string ⟨#[]⟩], .slice none 0 0]) (by simp [results, Tryz.results152, go_sem, q0, q1, q2]) rfl ⟨?_, ?_⟩
          · rw [hnone.out]; rfl
          · rw [← HP.out]; exact BZ
        · obtain ⟨b2, off2, rfl, hcell0⟩ := S2.at (by omega)
          have hcell : Hid (∀ i, i < m2 → w.cell? ⟨b2, off2 + i, none⟩ = some (.int .u8 (zs.getD i 0))) := hcell0
          clear hcell0
          have i0 : (0 : Int) < (m2 : Int) := by omega
          have i1 : (1 : Int) ≤ (m2 : Int) := by omega
          obtain ⟨z, hzz⟩ : ∃ z, z = zs.getD 0 0 := ⟨_, rfl⟩
          have hzs : Hid (zs = z :: zs.drop 1) := by
            show _ = _
            have := drop_at zs 0 (by omega)
            rw [List.drop_zero] at this
            rw [hzz]; exact this
          have hz8 : 0 ≤ z ∧ z ≤ 255 := by
            have := S2.byte.at 0
            rw [hzz]; simpa [List.getD] using this
          have CELL0 : ∀ V : World, Below p w V → V.cell? ⟨b2, off2, none⟩ = some (.int .u8 z) := fun V hV => by
            have h0 := hcell.out 0 (by omega)
            rw [Nat.add_zero, ← hzz] at h0
            have hb := World.block_lt_of_cell? w _ h0
            exact (hV.cell (by show b2 < p; rw [HP.out]; exact hb)).trans h0
          have HC0 : Hid (∀ V : World, Below p w V → V.cell? ⟨b2, off2, none⟩ = some (.int .u8 z)) := CELL0
          have c0 := CELL0 wr B2
          have c0d : wr.drew.cell? ⟨b2, off2, none⟩ = some (.int .u8 z) := c0
          clear CELL0 hzz
          by_cases hz : z ≠ 0
          · have gz : (z == 0) = false := by simp [hz]
            have gz2 : (z != 0) = true := by simp [hz]
            have HC3 : Hid (cutL ys = (cutL (zs.drop 1)).map fun q => ((acc ++ [z]) ++ q.1, q.2)) := by
              show _ = _
              rw [HC2.out, hzs.out, cutL_ne _ hz]
              exact map_more _ acc [z]
            obtain ⟨ad, had⟩ : ∃ ad : Addr, ad = (if c2 = 1 then ⟨b2, off2, none⟩ else ⟨b2, off2 + 1, none⟩) := ⟨_, rfl⟩
            have SC : Sl w (some ad) (m2 - 1) (c2 - 1) (zs.drop 1) := by rw [had]; exact cutC S2 1 (by omega)
            have HAD : Hid (ad = (if c2 = 1 then ⟨b2, off2, none⟩ else ⟨b2, off2 + 1, none⟩)) := had
            clear had
            go_wp2_with fail
            have E0 : Below wr.heap.size wr wr.drew := (Below.refl _ _).drew
            refine wp_region_noPanic ?_
            refine wp_region_held_drew (S := fun V => V.cell? ⟨b2, off2, none⟩ = some (.int .u8 z)) (by kernel_rfl) (c0d) (fun H0 => ?_)
            obtain ⟨v0, hv0⟩ : ∃ v, v = wr.drew := ⟨_, rfl⟩
            rw [← hv0] at H0 E0 ⊢
            have hv0h : v0.heap = wr.heap := by rw [hv0]; rfl
            clear hv0
            refine hr_take 0 (some 20) (u5) rfl rfl (by kernel_rfl) (by kernel_rfl) (by kernel_rfl) rfl (fun W hW => by go_simp) H0 ?_
            simp only [FL]
            refine hr_take 1 (some 21) (.slice (some ⟨b2, off2, none⟩) m2 c2) rfl rfl (by kernel_rfl) (by kernel_rfl) (by kernel_rfl) rfl (fun W hW => by go_simp) H0 ?_
            simp only [FL]
            refine hr_take 2 (some 22) (.pointer (some ⟨b2, off2, none⟩)) rfl rfl (by kernel_rfl) (by kernel_rfl) (by kernel_rfl) rfl (fun W hW => by go_simp) H0 ?_
            simp only [FL]
            refine hr_take 3 (some 23) (.int .u8 z) rfl rfl (by kernel_rfl) (by kernel_rfl) (by kernel_rfl) rfl (fun W hW => by go_simp) H0 ?_
            simp only [FL]
            refine hr_take 6 (some 26) (.slice (some ⟨b2, off2, none⟩) m2 c2) rfl rfl (by kernel_rfl) (by kernel_rfl) (by kernel_rfl) rfl (fun W hW => by go_simp) H0 ?_
            simp only [FL]
            refine hr_take 7 (some 27) (.slice (some ad) (m2 - 1) (c2 - 1)) rfl rfl (by kernel_rfl) (by kernel_rfl) (by kernel_rfl) rfl (fun W hW => by (go_simp <;> (rw [HAD.out]; by_cases hh : c2 = 1 <;> simp [hh]))) H0 ?_
            simp only [FL]
            obtain ⟨v1, hv1⟩ : ∃ v, v = v0.alloc (.cells #[.int .u8 z] 5) := ⟨_, rfl⟩
            obtain ⟨g1, hg1⟩ : ∃ g, g = v0.heap.size := ⟨_, rfl⟩
            have F1 : Below wr.heap.size wr v1 := by rw [hv1]; exact E0.alloc (E0.size) _
            have O1 : v1.ownsRow (p + 1) 5 1 u5 acc.length (bv acc) := by rw [hv1]; exact World.ownsRow.alloc (by unfold World.ownsRow; rw [hv0h]; exact O) _
            have X1 : Sl v1 (some ⟨g1, 0, none⟩) 1 1 [z] := by rw [hv1, hg1]; exact Sl.one v0 _ hz8
            have D1 : Below p w v1 := B2.trans (F1.mono (by omega))
            have H1 : v1.cell? ⟨b2, off2, none⟩ = some (.int .u8 z) := HC0.out _ D1
            have y1 := F1.size
            refine hr_do 4 (some 24) (.slice (some ⟨g1, 0, none⟩) 1 1) rfl rfl (by kernel_rfl) rfl (w' := v1) (by rw [hv1, hg1]; go_simp) H1 ?_
            simp only [FL]
            clear hv1 hg1
            refine hr_app 5 (some 25) rfl rfl (by kernel_rfl) rfl (.tmp 20) (.tmp 24) rfl (p + 1) u5 acc.length acc rfl O1 _ 1 1 [z] rfl X1 (by omega) (by omega) ?_
            intro nv2 v2 O2 G2
            have D2 : Below p w v2 := D1.grown G2 (by omega) (fun k hk => by have := (O1.lt k hk).1; omega)
            have H2 : v2.cell? ⟨b2, off2, none⟩ = some (.int .u8 z) := HC0.out _ D2
            have A2 : Hid (v2.heap[p]? = some (.cells (namesV ss).toArray 139)) := by
              show _ = _
              rw [G2.block p (by omega) (fun e => by have := (O1.lt p e.symm).1; omega), F1.block p (by omega)]
              exact A.out
            refine ⟨H2, ?_⟩
            simp only [FL]
            refine hr_take 8 (some 5) (nv2) rfl rfl (by kernel_rfl) (by kernel_rfl) (by kernel_rfl) rfl (fun W hW => by go_simp) H2 ?_
            simp only [FL]
            refine hr_take 9 (some 0) (.slice (some ad) (m2 - 1) (c2 - 1)) rfl rfl (by kernel_rfl) (by kernel_rfl) (by kernel_rfl) rfl (fun W hW => by go_simp) H2 ?_
            simp only [FL]
            refine wpAnyH_done (by kernel_rfl) ?_ _
            refine NoPanic.normal ?_
            have O3 : v2.ownsRow (p + 1) 5 1 nv2 (acc ++ [z]).length (bv (acc ++ [z])) := by simpa using O2
            clear O O1 O2 A G2 H0 H1 H2 E0 F1 X1 D1 hv0h c0 c0d
            go_wp2
            go_roundg (m2 - 1)
            case measure => omega
            case rel => exact ⟨some ad, m2 - 1, c2 - 1, zs.drop 1, acc ++ [z], rfl, rfl, SC, O3, hby.append (by intro y hy; simp at hy; omega), by simp; omega, A2, D2, HC3⟩
          · obtain rfl : z = 0 := by omega
            by_cases hm1 : m2 = 1
            · subst hm1
              have hzs2 : zs.drop 1 = [] := List.drop_eq_nil_of_le (by omega)
              have hnone : Hid (cutN 3 xs = none) := by
                have e1 : cutL ys = none := by rw [HC2.out, hzs.out, hzs2]; simp [cutL]
                show _ = _
                rw [HC.out, cutN, e1]
                rfl
              clear O HC0  hzs hzs2 l2 S2 hle
              go_wp2
              rw [Exit.noGoto_ret]
              refine bodyPost_ret (v := .tuple #[.agg #[.string ⟨#[]⟩, .string ⟨#[]⟩, .string ⟨#[]⟩], .slice none 0 0]) (by simp [results, Tryz.results152, go_sem, q0, q1, q2]) rfl ⟨?_, ?_⟩
              · rw [hnone.out]; rfl
              · rw [← HP.out]; exact BZ
            · have i2 : (1 : Int) < (m2 : Int) := by omega
              have i3 : (2 : Int) ≤ (m2 : Int) := by omega
              obtain ⟨d, hdd⟩ : ∃ d, d = zs.getD 1 0 := ⟨_, rfl⟩
              have hzs2 : Hid (zs = 0 :: d :: zs.drop 2) := by
                show _ = _
                have := drop_at zs 1 (by omega)
                rw [← hdd] at this
                rw [← this]
                exact hzs.out
              have c1 : wr.cell? ⟨b2, off2 + 1, none⟩ = some (.int .u8 d) := by
                have h0 := hcell.out 1 (by omega)
                rw [← hdd] at h0
                have hb := World.block_lt_of_cell? w _ h0
                exact (B2.cell (by show b2 < p; rw [HP.out]; exact hb)).trans h0
              clear hdd hzs
              by_cases d255 : d = 255
              · subst d255
                have HC3 : Hid (cutL ys = (cutL (zs.drop 2)).map fun q => ((acc ++ [0]) ++ q.1, q.2)) := by
                  show _ = _
                  rw [HC2.out, hzs2.out, cutL_255]
                  exact map_more _ acc [0]
                obtain ⟨ad, had⟩ : ∃ ad : Addr, ad = (if c2 = 2 then ⟨b2, off2, none⟩ else ⟨b2, off2 + 2, none⟩) := ⟨_, rfl⟩
                have SC : Sl w (some ad) (m2 - 2) (c2 - 2) (zs.drop 2) := by rw [had]; exact cutC S2 2 (by omega)
                have HAD : Hid (ad = (if c2 = 2 then ⟨b2, off2, none⟩ else ⟨b2, off2 + 2, none⟩)) := had
                clear had
                go_wp2_with fail
                have E0 : Below wr.heap.size wr wr.drew := (Below.refl _ _).drew
                refine wp_region_noPanic ?_
                refine wp_region_held_drew (S := fun _ => True) (by kernel_rfl) (trivial) (fun H0 => ?_)
                obtain ⟨v0, hv0⟩ : ∃ v, v = wr.drew := ⟨_, rfl⟩
                rw [← hv0] at E0 ⊢
                have hv0h : v0.heap = wr.heap := by rw [hv0]; rfl
                clear hv0
                refine hr_take 0 (some 38) (u5) rfl rfl (by kernel_rfl) (by kernel_rfl) (by kernel_rfl) rfl (fun W hW => by go_simp) H0 ?_
                simp only [FL]
                refine hr_take 3 (some 41) (.slice (some ⟨b2, off2, none⟩) m2 c2) rfl rfl (by kernel_rfl) (by kernel_rfl) (by kernel_rfl) rfl (fun W hW => by go_simp) H0 ?_
                simp only [FL]
                refine hr_take 4 (some 42) (.slice (some ad) (m2 - 2) (c2 - 2)) rfl rfl (by kernel_rfl) (by kernel_rfl) (by kernel_rfl) rfl (fun W hW => by (go_simp <;> (rw [HAD.out]; by_cases hh : c2 = 2 <;> simp [hh]))) H0 ?_
                simp only [FL]
                obtain ⟨v1, hv1⟩ : ∃ v, v = v0.alloc (.cells #[.int .u8 0] 5) := ⟨_, rfl⟩
                obtain ⟨g1, hg1⟩ : ∃ g, g = v0.heap.size := ⟨_, rfl⟩
                have F1 : Below wr.heap.size wr v1 := by rw [hv1]; exact E0.alloc (E0.size) _
                have O1 : v1.ownsRow (p + 1) 5 1 u5 acc.length (bv acc) := by rw [hv1]; exact World.ownsRow.alloc (by unfold World.ownsRow; rw [hv0h]; exact O) _
                have X1 : Sl v1 (some ⟨g1, 0, none⟩) 1 1 [0] := by rw [hv1, hg1]; exact Sl.one v0 _ (by omega)
                have D1 : Below p w v1 := B2.trans (F1.mono (by omega))
                have H1 : True := trivial
                have y1 := F1.size
                refine hr_do 1 (some 39) (.slice (some ⟨g1, 0, none⟩) 1 1) rfl rfl (by kernel_rfl) rfl (w' := v1) (by rw [hv1, hg1]; go_simp) H1 ?_
                simp only [FL]
                clear hv1 hg1
                refine hr_app 2 (some 40) rfl rfl (by kernel_rfl) rfl (.tmp 38) (.tmp 39) rfl (p + 1) u5 acc.length acc rfl O1 _ 1 1 [0] rfl X1 (by omega) (by omega) ?_
                intro nv2 v2 O2 G2
                have D2 : Below p w v2 := D1.grown G2 (by omega) (fun k hk => by have := (O1.lt k hk).1; omega)
                have H2 : True := trivial
                have A2 : Hid (v2.heap[p]? = some (.cells (namesV ss).toArray 139)) := by
                  show _ = _
                  rw [G2.block p (by omega) (fun e => by have := (O1.lt p e.symm).1; omega), F1.block p (by omega)]
                  exact A.out
                refine ⟨H2, ?_⟩
                simp only [FL]
                refine hr_take 5 (some 5) (nv2) rfl rfl (by kernel_rfl) (by kernel_rfl) (by kernel_rfl) rfl (fun W hW => by go_simp) H2 ?_
                simp only [FL]
                refine hr_take 6 (some 0) (.slice (some ad) (m2 - 2) (c2 - 2)) rfl rfl (by kernel_rfl) (by kernel_rfl) (by kernel_rfl) rfl (fun W hW => by go_simp) H2 ?_
                simp only [FL]
                refine wpAnyH_done (by kernel_rfl) ?_ _
                refine NoPanic.normal ?_
                have O3 : v2.ownsRow (p + 1) 5 1 nv2 (acc ++ [0]).length (bv (acc ++ [0])) := by simpa using O2
                clear O O1 O2 A G2 H0 H1 H2 E0 F1 X1 D1 hv0h c0 c0d
                go_wp2
                go_roundg (m2 - 2)
                case measure => omega
                case rel => exact ⟨some ad, m2 - 2, c2 - 2, zs.drop 2, acc ++ [0], rfl, rfl, SC, O3, hby.append (by intro y hy; simp at hy; omega), by simp; omega, A2, D2, HC3⟩
              · have g255 : (d == 255) = false := by simp [d255]
                by_cases d1 : d = 1
                · subst d1
                  have HC3 : Hid (cutL ys = some (acc, zs.drop 2)) := by
                    show _ = _
                    rw [HC2.out, hzs2.out, cutL_one]
                    simp
                  obtain ⟨so, sc, rfl, SS, -⟩ := Sl.own O hby
                  obtain ⟨ad, had⟩ : ∃ ad : Addr, ad = (if c2 = 2 then ⟨b2, off2, none⟩ else ⟨b2, off2 + 2, none⟩) := ⟨_, rfl⟩
                  have SC : Sl w (some ad) (m2 - 2) (c2 - 2) (zs.drop 2) := by rw [had]; exact cutC S2 2 (by omega)
                  have HAD : Hid (ad = (if c2 = 2 then ⟨b2, off2, none⟩ else ⟨b2, off2 + 2, none⟩)) := had
                  clear had
                  have CD : (convert 25 9 (.slice so acc.length sc)).run Tryz.prog wr.drew = .ok (.string (strOfNums acc)) wr.drew := conv_str (SS.below (Below.refl _ _).drew)
                  go_wp2_with fail
                  have E0 : Below wr.heap.size wr wr.drew := (Below.refl _ _).drew
                  refine wp_region_noPanic ?_
                  refine wp_region_held_drew (S := fun V => (convert 25 9 (.slice so acc.length sc)).run Tryz.prog V = .ok (.string (strOfNums acc)) V) (by kernel_rfl) (CD) (fun H0 => ?_)
                  obtain ⟨v0, hv0⟩ : ∃ v, v = wr.drew := ⟨_, rfl⟩
                  rw [← hv0] at H0 E0 ⊢
                  have hv0h : v0.heap = wr.heap := by rw [hv0]; rfl
                  clear hv0
                  refine hr_take 0 (some 53) (.int .i64 j) rfl rfl (by kernel_rfl) (by kernel_rfl) (by kernel_rfl) rfl (fun W hW => by go_simp) H0 ?_
                  simp only [FL]
                  refine hr_take 1 (some 54) (.slice so acc.length sc) rfl rfl (by kernel_rfl) (by kernel_rfl) (by kernel_rfl) rfl (fun W hW => by go_simp) H0 ?_
                  simp only [FL]
                  refine hr_take 2 (some 55) (.string (strOfNums acc)) rfl rfl (by kernel_rfl) (by kernel_rfl) (by kernel_rfl) rfl (fun W hW => by go_simp) H0 ?_
                  simp only [FL]
                  refine hr_take 3 (some 56) (.slice (some ⟨b2, off2, none⟩) m2 c2) rfl rfl (by kernel_rfl) (by kernel_rfl) (by kernel_rfl) rfl (fun W hW => by go_simp) H0 ?_
                  simp only [FL]
                  refine hr_take 4 (some 57) (.slice (some ad) (m2 - 2) (c2 - 2)) rfl rfl (by kernel_rfl) (by kernel_rfl) (by kernel_rfl) rfl (fun W hW => by (go_simp <;> (rw [HAD.out]; by_cases hh : c2 = 2 <;> simp [hh]))) H0 ?_
                  simp only [FL]
                  refine hr_take 5 (some 58) (.pointer (some ⟨p, j, none⟩)) rfl rfl (by kernel_rfl) (by kernel_rfl) (by kernel_rfl) rfl (fun W hW => by go_simp) H0 ?_
                  simp only [FL]
                  have A0 : v0.heap[p]? = some (.cells (namesV ss).toArray 139) := by rw [hv0h]; exact A.out
                  have kj : v0.cell? ⟨p, j, none⟩ = some (.string (ss.getD j ⟨#[]⟩)) := by
                    rw [cell_of_row v0 p j _ _ _ A0]
                    have hjl : j < ss.length := by omega
                    simp [namesV, hjl, List.getD]
                  have fj : v0.frozen? ⟨p, j, none⟩ = false := frozen_of_row v0 p j _ _ A0
                  obtain ⟨v1, hv1⟩ : ∃ v, v = v0.setCell ⟨p, j, none⟩ (.string (strOfNums acc)) := ⟨_, rfl⟩
                  have A1 : Hid (v1.heap[p]? = some (.cells (namesV (ss.set j (strOfNums acc))).toArray 139)) := by
                    show _ = _
                    rw [hv1, heap_setCell_same v0 p j _ _ _ A0]
                    simp [namesV, List.map_set]
                  have G1 : v0.grownBy v1 (some p) := by
                    rw [hv1]
                    exact ⟨rfl, rfl, rfl, by simp, fun k _ hk => heap_setCell_other v0 _ k _ (fun e => hk (by rw [e]))⟩
                  have O1 : v1.ownsRow (p + 1) 5 1 (.slice so acc.length sc) acc.length (bv acc) := by
                    refine World.ownsRow.kept (w := v0) (by unfold World.ownsRow; rw [hv0h]; exact O) G1 (.inr fun e => ?_)
                    have := (O.lt _ e).1
                    omega
                  have H1 : (convert 25 9 (.slice so acc.length sc)).run Tryz.prog v1 = .ok (.string (strOfNums acc)) v1 := by
                    obtain ⟨so', sc', e', SS', -⟩ := Sl.own O1 hby
                    simp only [Value.slice.injEq] at e'
                    rw [e'.1, e'.2.2]
                    exact conv_str SS'
                  refine hr_skip 6 none rfl rfl (by kernel_rfl) rfl (w' := v1) (by rw [hv1]; go_simp) H1 ?_
                  simp only [Act.put]
                  have D1 : Below p w v1 := (B2.trans (E0.mono (by omega))).grown G1 (by have := E0.size; omega) (fun k hk => by have := Option.some.inj hk; omega)
                  clear hv1
                  refine hr_take 7 (some 0) (.slice (some ad) (m2 - 2) (c2 - 2)) rfl rfl (by kernel_rfl) (by kernel_rfl) (by kernel_rfl) rfl (fun W hW => by go_simp) H1 ?_
                  simp only [FL]
                  refine wpAnyH_done (by kernel_rfl) ?_ _
                  refine NoPanic.normal ?_
                  have HC4 : Hid (cutN 3 xs = (cutN g (zs.drop 2)).map fun q => (((ss.set j (strOfNums acc)).take (j + 1)).map sb ++ q.1, q.2)) := by
                    show _ = _
                    rw [HC.out, cutN, HC3.out]
                    have hjl : j < ss.length := by omega
                    have ht : ((ss.set j (strOfNums acc)).take (j + 1)).map sb = (ss.take j).map sb ++ [acc] := by
                      rw [List.take_succ_eq_append_getElem (by simpa using hjl), List.map_append, List.take_set_of_le (Nat.le_refl _)]
                      simp [sb_str hby]
                    rw [ht, Option.bind_some]
                    generalize cutN g (zs.drop 2) = o
                    cases o <;> simp
                  clear O O1 A A0 G1 H0 H1 E0 hv0h CD kj fj SS c0 c0d
                  go_wp2
                  go_roundg g
                  case measure => omega
                  case rel => exact ⟨j + 1, ss.set j (strOfNums acc), some ad, m2 - 2, c2 - 2, zs.drop 2, by omega, by go_num, rfl, by omega, SC, by simpa using hss, A1, D1, HC4⟩
                · have g1 : (d == 1) = false := by simp [d1]
                  have hnone : Hid (cutN 3 xs = none) := by
                    have e1 : cutL ys = none := by rw [HC2.out, hzs2.out, cutL_other _ d1 d255]; rfl
                    show _ = _
                    rw [HC.out, cutN, e1]
                    rfl
                  clear O HC0  hzs2
                  go_wp2
                  rw [Exit.noGoto_ret]
                  refine bodyPost_ret (v := .tuple #[.agg #[.string ⟨#[]⟩, .string ⟨#[]⟩, .string ⟨#[]⟩], .slice none 0 0]) (by simp [results, Tryz.results152, go_sem, q0, q1, q2]) rfl ⟨?_, ?_⟩
                  · rw [hnone.out]; rfl
                  · rw [← HP.out]; exact BZ
open Go.RowKit
def KyC (V : World) (p : Nat) (k : KA) : Prop := V.heap[p]? = some (.cells #[.string k.row, .string k.fam, .string k.qual, .int .u64 k.time] 24)
theorem KyC.lt {V : World} {p : Nat} {k : KA} (h : KyC V p k) : p < V.heap.size := (Array.getElem?_eq_some_iff.1 h).1
theorem KyC.below {V V' : World} {p n : Nat} {k : KA} (h : KyC V p k) (hb : Below n V V') (hp : p < n) : KyC V' p k := (hb.block p hp).trans h
theorem KyC.keep {V V' : World} {p : Nat} {k : KA} (h : KyC V p k) (hb : Below V.heap.size V V') : KyC V' p k := h.below hb h.lt
theorem KyC.alloc {V : World} {p : Nat} {k : KA} (h : KyC V p k) (o : Obj) : KyC (V.alloc o) p k := (heap_alloc_old V o h.lt).trans h
theorem KyC.c0 {V : World} {p : Nat} {k : KA} (h : KyC V p k) : V.cell? ⟨p, 0, none⟩ = some (.string k.row) := cell_of_row V p 0 _ _ _ h
theorem KyC.c1 {V : World} {p : Nat} {k : KA} (h : KyC V p k) : V.cell? ⟨p, 1, none⟩ = some (.string k.fam) := cell_of_row V p 1 _ _ _ h
theorem KyC.c2 {V : World} {p : Nat} {k : KA} (h : KyC V p k) : V.cell? ⟨p, 2, none⟩ = some (.string k.qual) := cell_of_row V p 2 _ _ _ h
theorem KyC.c3 {V : World} {p : Nat} {k : KA} (h : KyC V p k) : V.cell? ⟨p, 3, none⟩ = some (.int .u64 k.time) := cell_of_row V p 3 _ _ _ h
end Go.Proofs.YtlljmhcgjkolpaaGreatDoor

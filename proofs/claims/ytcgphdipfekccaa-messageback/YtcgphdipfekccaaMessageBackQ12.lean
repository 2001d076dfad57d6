/-
  Texts in one: PTake.
-/
import Derived.Test.YtcgphdipfekccaaMessageBackQFL
import Derived.Test.YtcgphdipfekccaaMessageBackQ10
import Derived.Test.YtcgphdipfekccaaMessageBackQ11
namespace Go.Proofs.Ytcgphdipfekccaa
open Go.RowKit
def TakeJ (most : Nat) (w : World) (p L N : Nat) (xs : List Int) (k : Int) (a : Act) (V : World) : Prop :=
  ∃ (M : Nat) (o : OA) (parts : Nat) (v : Value) (l : List OA) (u7 u8 u9 u10 u11 u12 u13 u14 u15 u16 u17 u18 u19 u20 u21 u22 u23 u24 u25 u26 u27 u28 u29 u30 u31 u32 u33 u34 u35 u36 u37 u38 : Value), a = { tmps := #[.pointer (some ⟨p, 0, none⟩), .int .i64 most, undef, undef, .pointer (some ⟨N, 0, none⟩), .pointer (some ⟨M, 0, none⟩), .int .i64 parts, u7, u8, u9, u10, u11, u12, u13, u14, u15, u16, u17, u18, u19, u20, u21, u22, u23, u24, u25, u26, u27, u28, u29, u30, u31, u32, u33, u34, u35, u36, u37, u38], defers := [] } ∧ TakeInv 0 w p L N M parts o (sT most xs k).2.1 (sT most xs k).2.2 V v l ∧ o.s = (sT most xs k).1.1 ∧ parts = (sT most xs k).1.2
theorem y_one (y : OA) : ∀ u ∈ y.cells, u.oneCell' = true := by
  intro u hu
  unfold OA.cells at hu
  simp only [List.mem_cons, List.not_mem_nil, or_false] at hu
  rcases hu with rfl | rfl | rfl | rfl | rfl | rfl | rfl | rfl | rfl | rfl <;> rfl
theorem part_post {V : World} {p L : Nat} {ys : List Int} {q : Int} {e : Ending} {w' : World} (h : TakePost 0 V p L 0 ys q e w') : ∃ v, e = .returned v ∧ ∃ y : OA, v = y.val ∧ y.ok w' ∧ (∀ x, y.blks x → x < 0 ∨ V.heap.size ≤ x) ∧ sn0 y = (sT 0 ys q).1 ∧ R w' p L (sT 0 ys q).2.1 (sT 0 ys q).2.2 ∧ V.grownBy w' (some p) := by
  obtain ⟨o, l, e1, ok, OL, far, hs, hl, hr, hg⟩ := h
  have hz : (sT 0 ys q).1.2 = 0 := by
    have : (sT 0 ys q).1.2 ≤ 0 := intS_le _ _ 0
    omega
  rw [hz] at hl hr
  have hl0 : l = [] := by
    have hl : l.map sn0 = [] := hl
    simpa using hl
  have hsn : o.sn = 0 := by
    have : l.length = o.sn := OL.len
    rw [hl0] at this
    exact this.symm
  refine ⟨_, e1, o, rfl, ok, fun x hx => far x (.inl hx), ?_, hr, hg⟩
  unfold sn0
  rw [hs, hsn]
  exact Prod.ext rfl hz.symm
def TakeM (a : Act) (V : World) : Nat := (intOf (a.tmps.getD 6 undef)).toNat - lenAt (ptrOf (a.tmps.getD 5 undef)) V
set_option maxRecDepth 100000 in
set_option maxHeartbeats 16000000 in
theorem ttake_gen (most : Nat) (hm8 : most ≤ 8) (w : World) (p L : Nat) (xs : List Int) (k : Int) (h : R w p L xs k)
    (rec : most ≠ 0 → ∀ (V : World) (ys : List Int) (q : Int), R V p L ys q → Calls Try.prog 63 #[.pointer (some ⟨p, 0, none⟩), .int .i64 0] V (TakePost 0 V p L 0 ys q)) :
    Calls Try.prog 63 #[.pointer (some ⟨p, 0, none⟩), .int .i64 most] w (TakePost 0 w p L most xs k) := by
  have hpl := h.plt
  have K0 : (w.alloc (.cells #[.int .i64 0, .string ⟨#[]⟩, .string ⟨#[]⟩, .string ⟨#[]⟩, .int .u64 0, .string ⟨#[]⟩, .slice none 0 0, .slice none 0 0, .bool false, .slice none 0 0] 57)).heap[w.heap.size]? = some (.cells #[.int .i64 0, .string ⟨#[]⟩, .string ⟨#[]⟩, .string ⟨#[]⟩, .int .u64 0, .string ⟨#[]⟩, .slice none 0 0, .slice none 0 0, .bool false, .slice none 0 0] 57) := heap_alloc_new w _
  have B0 : Below w.heap.size w (w.alloc (.cells #[.int .i64 0, .string ⟨#[]⟩, .string ⟨#[]⟩, .string ⟨#[]⟩, .int .u64 0, .string ⟨#[]⟩, .slice none 0 0, .slice none 0 0, .bool false, .slice none 0 0] 57)) := (Below.refl _ w).alloc (Nat.le_refl _) _
  have R0 := h.below B0
  have G0 : w.grownBy _ (some p) := grown_below B0
  clear h
  go_enter Try.func63, Try.ntmps63
  go_wp2_with fail
  obtain ⟨w0, hw0⟩ : ∃ W, W = w.alloc (.cells #[.int .i64 0, .string ⟨#[]⟩, .string ⟨#[]⟩, .string ⟨#[]⟩, .int .u64 0, .string ⟨#[]⟩, .slice none 0 0, .slice none 0 0, .bool false, .slice none 0 0] 57) := ⟨_, rfl⟩
  obtain ⟨N, hN⟩ : ∃ N, N = w.heap.size := ⟨_, rfl⟩
  rw [← hw0] at K0 R0 G0 ⊢
  rw [← hN] at K0 ⊢
  have HN : Hid (N = w.heap.size) := hN
  have hpN : p < N ∧ L ≤ p := by omega
  clear hw0 hN B0
  refine wp_scope_mid 0 (TakeJ most w p L N xs k) TakeM (by simp [findLabel]) ?_ ?_
  · clear rec
    go_wp2_with fail
    refine (int_any w0 p L xs k 100 (by decide) R0.byte R0).mono ?_
    rintro e w1 ⟨rfl, R1, G1⟩
    obtain ⟨r1, e1⟩ : ∃ r, r = intS xs k 100 := ⟨_, rfl⟩
    have E1 : Hid (r1 = intS xs k 100) := e1
    have Z1 : r1.1 ≤ 100 := by rw [e1]; exact intS_le xs k 100
    rw [← e1] at R1 ⊢
    have K1 := (G1.block N (Array.getElem?_eq_some_iff.1 K0).1 (by simp; omega)).trans K0
    have G1 := grown_trans G0 G1
    clear e1 K0 R0 G0
    go_wp2_with fail
    refine (tkey_any w1 p L r1.2.1 r1.2.2 R1).mono ?_
    rintro e w2 ⟨rfl, R2, G2⟩
    obtain ⟨r2, e2⟩ : ∃ r, r = keyT r1.2.1 r1.2.2 := ⟨_, rfl⟩
    have E2 : Hid (r2 = keyT r1.2.1 r1.2.2) := e2
    have Z2 := keyT_ok R1.byte (k := r1.2.2)
    rw [← e2] at R2 Z2 ⊢
    have K2 := (G2.block N (Array.getElem?_eq_some_iff.1 K1).1 (by simp; omega)).trans K1
    have G2 := grown_trans G1 G2
    clear e2 K1 R1 G1
    unfold KA.val keyOf
    go_wp2_with fail
    refine (ttext_any w2 p L r2.2.1 r2.2.2 R2).mono ?_
    rintro e w3 ⟨rfl, R3, G3⟩
    obtain ⟨r3, e3⟩ : ∃ r, r = txT 32 r2.2.1 r2.2.2 := ⟨_, rfl⟩
    have E3 : Hid (r3 = txT 32 r2.2.1 r2.2.2) := e3
    have Z3 := txT_ok R2.byte (k := r2.2.2)
    rw [← e3] at R3 Z3 ⊢
    have K3 := (G3.block N (Array.getElem?_eq_some_iff.1 K2).1 (by simp; omega)).trans K2
    have G3 := grown_trans G2 G3
    clear e3 K2 R2 G2
    obtain ⟨oA, hoA⟩ : ∃ o : OA, o = ⟨r1.1, r2.1.1, r2.1.2.1, r2.1.2.2.1, r2.1.2.2.2, r3.1, noBs, noBs, false, none, 0, 0⟩ := ⟨_, rfl⟩
    obtain ⟨M, hM⟩ : ∃ M, M = w3.heap.size := ⟨_, rfl⟩
    obtain ⟨w4, hw4⟩ : ∃ W, W = w3.alloc (.cells #[.int .i64 r1.1, .string r2.1.1, .string r2.1.2.1, .string r2.1.2.2.1, .int .u64 r2.1.2.2.2, .string r3.1, .slice none 0 0, .slice none 0 0, .bool false, .slice none 0 0] 57) := ⟨_, rfl⟩
    have B4 : Below w3.heap.size w3 w4 := by rw [hw4]; exact (Below.refl _ _).alloc (Nat.le_refl _) _
    have O4 : OV w4 M oA (.slice none 0 0) := by rw [hw4, hM, hoA]; exact heap_alloc_new w3 _
    have R4 := R3.below B4
    have K4 := (B4.block N (Array.getElem?_eq_some_iff.1 K3).1).trans K3
    have hNM : N < M := by rw [hM]; exact (Array.getElem?_eq_some_iff.1 K3).1
    have G4 := grown_trans G3 (grown_below B4 (r := some p))
    go_wp2_with fail
    rw [← hw4, ← hM]
    have HM : Hid (M = w3.heap.size) := hM
    have HO : Hid (oA = ⟨r1.1, r2.1.1, r2.1.2.1, r2.1.2.2.1, r2.1.2.2.2, r3.1, noBs, noBs, false, none, 0, 0⟩) := hoA
    clear hw4 hM hoA K3 R3 G3 B4
    refine (bytes_any w4 p L r3.2.1 r3.2.2 256 (by decide) R4).mono ?_
    rintro e w5 ⟨ao5, n5, cap5, rfl, S5, F5, R5, G5⟩
    obtain ⟨r4, e4⟩ : ∃ r, r = bytesS r3.2.1 r3.2.2 256 := ⟨_, rfl⟩
    have E4 : Hid (r4 = bytesS r3.2.1 r3.2.2 256) := e4
    rw [← e4] at R5 S5
    have K5 := (G5.block N (Array.getElem?_eq_some_iff.1 K4).1 (by simp; omega)).trans K4
    have O5 := O4.grown G5 (by omega)
    have F5 : ∀ a, ao5 = some a → M < a.block := fun a ha => by have := F5 a ha; have := O4.lt; omega
    have G5 := grown_trans G4 G5
    clear e4 K4 R4 G4 O4
    obtain ⟨w6, hw6⟩ : ∃ W, W = w5.setCell ⟨M, 6, none⟩ (.slice ao5 n5 cap5) := ⟨_, rfl⟩
    have SB := same_set w5 M 6 (.slice ao5 n5 cap5)
    have O6 : OV w6 M { oA with va := ⟨ao5, n5, cap5, r4.1⟩ } (.slice none 0 0) := by rw [hw6]; exact O5.setV ⟨ao5, n5, cap5, r4.1⟩
    have R6 : R w6 p L r4.2.1 r4.2.2 := by rw [hw6]; exact R5.own (by omega) (by omega)
    have S6 : Sl w6 ao5 n5 cap5 r4.1 := Sl.kept (b := ⟨ao5, n5, cap5, r4.1⟩) S5 (fun x hx => by
      obtain ⟨a, ha, hn, rfl⟩ := hx
      rw [hw6]
      exact SB.2 _ (by have := F5 a ha; omega))
    have K6 : w6.heap[N]? = some (.cells #[.int .i64 0, .string ⟨#[]⟩, .string ⟨#[]⟩, .string ⟨#[]⟩, .int .u64 0, .string ⟨#[]⟩, .slice none 0 0, .slice none 0 0, .bool false, .slice none 0 0] 57) := by rw [hw6]; exact (SB.2 N (by omega)).trans K5
    have G6 : w.grownBy w6 (some p) := by rw [hw6]; exact grown_own G5 (by have := HN.out; omega)
    obtain ⟨q0, q1, q2, q3, q4, q5, q6, q7, q8, q9⟩ := O5.cs
    have f6 := O5.fz 6
    have lt5 := O5.lt
    go_wp2_with fail
    rw [← hw6]
    clear q0 q1 q2 q3 q4 q5 q6 q7 q8 q9 f6 lt5 hw6 SB O5 R5 S5 K5 G5
    refine (bytes_any w6 p L r4.2.1 r4.2.2 256 (by decide) R6).mono ?_
    rintro e w7 ⟨ao7, n7, cap7, rfl, S7, F7, R7, G7⟩
    obtain ⟨r5, e5⟩ : ∃ r, r = bytesS r4.2.1 r4.2.2 256 := ⟨_, rfl⟩
    have E5 : Hid (r5 = bytesS r4.2.1 r4.2.2 256) := e5
    rw [← e5] at R7 S7
    have K7 := (G7.block N (Array.getElem?_eq_some_iff.1 K6).1 (by simp; omega)).trans K6
    have O7 := O6.grown G7 (by omega)
    have F7 : ∀ a, ao7 = some a → M < a.block := fun a ha => by have := F7 a ha; have := O6.lt; omega
    have V7 : Sl w7 ao5 n5 cap5 r4.1 := Sl.kept (b := ⟨ao5, n5, cap5, r4.1⟩) S6 (fun x hx => by
      have hlt := Sl.blk_lt (b := ⟨ao5, n5, cap5, r4.1⟩) S6 hx
      obtain ⟨a, ha, hn, rfl⟩ := hx
      exact G7.block _ hlt (by have := F5 a ha; simp; omega))
    have G7 := grown_trans G6 G7
    clear e5 K6 R6 G6 O6 S6
    obtain ⟨w8, hw8⟩ : ∃ W, W = w7.setCell ⟨M, 7, none⟩ (.slice ao7 n7 cap7) := ⟨_, rfl⟩
    have SB := same_set w7 M 7 (.slice ao7 n7 cap7)
    have O8 : OV w8 M { oA with va := ⟨ao5, n5, cap5, r4.1⟩, wa := ⟨ao7, n7, cap7, r5.1⟩ } (.slice none 0 0) := by rw [hw8]; exact O7.setW ⟨ao7, n7, cap7, r5.1⟩
    have R8 : R w8 p L r5.2.1 r5.2.2 := by rw [hw8]; exact R7.own (by omega) (by omega)
    have V8 : Sl w8 ao5 n5 cap5 r4.1 := Sl.kept (b := ⟨ao5, n5, cap5, r4.1⟩) V7 (fun x hx => by
      obtain ⟨a, ha, hn, rfl⟩ := hx
      rw [hw8]
      exact SB.2 _ (by have := F5 a ha; omega))
    have W8 : Sl w8 ao7 n7 cap7 r5.1 := Sl.kept (b := ⟨ao7, n7, cap7, r5.1⟩) S7 (fun x hx => by
      obtain ⟨a, ha, hn, rfl⟩ := hx
      rw [hw8]
      exact SB.2 _ (by have := F7 a ha; omega))
    have K8 : w8.heap[N]? = some (.cells #[.int .i64 0, .string ⟨#[]⟩, .string ⟨#[]⟩, .string ⟨#[]⟩, .int .u64 0, .string ⟨#[]⟩, .slice none 0 0, .slice none 0 0, .bool false, .slice none 0 0] 57) := by rw [hw8]; exact (SB.2 N (by omega)).trans K7
    have G8 : w.grownBy w8 (some p) := by rw [hw8]; exact grown_own G7 (by have := HN.out; omega)
    obtain ⟨q0, q1, q2, q3, q4, q5, q6, q7, q8, q9⟩ := O7.cs
    have f6 := O7.fz 7
    have lt5 := O7.lt
    go_wp2_with fail
    rw [← hw8]
    clear q0 q1 q2 q3 q4 q5 q6 q7 q8 q9 f6 lt5 hw8 SB O7 R7 S7 K7 G7 V7
    refine (bool_any w8 p L r5.2.1 r5.2.2 R8).mono ?_
    rintro e w9 ⟨rfl, R9, G9⟩
    obtain ⟨r6, e6⟩ : ∃ r, r = boolS r5.2.1 r5.2.2 := ⟨_, rfl⟩
    have E6 : Hid (r6 = boolS r5.2.1 r5.2.2) := e6
    rw [← e6] at R9 ⊢
    have K9 := (G9.block N (Array.getElem?_eq_some_iff.1 K8).1 (by simp; omega)).trans K8
    have O9 := O8.grown G9 (by omega)
    have V9 : Sl w9 ao5 n5 cap5 r4.1 := Sl.kept (b := ⟨ao5, n5, cap5, r4.1⟩) V8 (fun x hx => by
      have hlt := Sl.blk_lt (b := ⟨ao5, n5, cap5, r4.1⟩) V8 hx
      obtain ⟨a, ha, hn, rfl⟩ := hx
      exact G9.block _ hlt (by have := F5 a ha; simp; omega))
    have W9 : Sl w9 ao7 n7 cap7 r5.1 := Sl.kept (b := ⟨ao7, n7, cap7, r5.1⟩) W8 (fun x hx => by
      have hlt := Sl.blk_lt (b := ⟨ao7, n7, cap7, r5.1⟩) W8 hx
      obtain ⟨a, ha, hn, rfl⟩ := hx
      exact G9.block _ hlt (by have := F7 a ha; simp; omega))
    have G9 := grown_trans G8 G9
    clear e6 K8 R8 G8 O8 V8 W8
    obtain ⟨x0, hx0⟩ : ∃ W, W = w9.setCell ⟨M, 8, none⟩ (.bool r6.1) := ⟨_, rfl⟩
    have SB := same_set w9 M 8 (.bool r6.1)
    have O10 : OV x0 M { oA with va := ⟨ao5, n5, cap5, r4.1⟩, wa := ⟨ao7, n7, cap7, r5.1⟩, has := r6.1 } (.slice none 0 0) := by rw [hx0]; exact O9.setH r6.1
    have R10 : R x0 p L r6.2.1 r6.2.2 := by rw [hx0]; exact R9.own (by omega) (by omega)
    have V10 : Sl x0 ao5 n5 cap5 r4.1 := Sl.kept (b := ⟨ao5, n5, cap5, r4.1⟩) V9 (fun x hx => by
      obtain ⟨a, ha, hn, rfl⟩ := hx
      rw [hx0]
      exact SB.2 _ (by have := F5 a ha; omega))
    have W10 : Sl x0 ao7 n7 cap7 r5.1 := Sl.kept (b := ⟨ao7, n7, cap7, r5.1⟩) W9 (fun x hx => by
      obtain ⟨a, ha, hn, rfl⟩ := hx
      rw [hx0]
      exact SB.2 _ (by have := F7 a ha; omega))
    have K10 : x0.heap[N]? = some (.cells #[.int .i64 0, .string ⟨#[]⟩, .string ⟨#[]⟩, .string ⟨#[]⟩, .int .u64 0, .string ⟨#[]⟩, .slice none 0 0, .slice none 0 0, .bool false, .slice none 0 0] 57) := by rw [hx0]; exact (SB.2 N (by omega)).trans K9
    have G10 : w.grownBy x0 (some p) := by rw [hx0]; exact grown_own G9 (by have := HN.out; omega)
    obtain ⟨q0, q1, q2, q3, q4, q5, q6, q7, q8, q9⟩ := O9.cs
    have f6 := O9.fz 8
    have lt5 := O9.lt
    go_wp2_with fail
    rw [← hx0]
    clear q0 q1 q2 q3 q4 q5 q6 q7 q8 q9 f6 lt5 hx0 SB O9 R9 K9 G9 V9 W9
    refine (int_any x0 p L r6.2.1 r6.2.2 most (by omega) R10.byte R10).mono ?_
    rintro e x1 ⟨rfl, R11, G11⟩
    obtain ⟨r7, e7⟩ : ∃ r, r = intS r6.2.1 r6.2.2 most := ⟨_, rfl⟩
    have E7 : Hid (r7 = intS r6.2.1 r6.2.2 most) := e7
    rw [← e7] at R11 ⊢
    have K11 := (G11.block N (Array.getElem?_eq_some_iff.1 K10).1 (by simp; omega)).trans K10
    have O11 := O10.grown G11 (by omega)
    have V11 : Sl x1 ao5 n5 cap5 r4.1 := Sl.kept (b := ⟨ao5, n5, cap5, r4.1⟩) V10 (fun x hx => by
      have hlt := Sl.blk_lt (b := ⟨ao5, n5, cap5, r4.1⟩) V10 hx
      obtain ⟨a, ha, hn, rfl⟩ := hx
      exact G11.block _ hlt (by have := F5 a ha; simp; omega))
    have W11 : Sl x1 ao7 n7 cap7 r5.1 := Sl.kept (b := ⟨ao7, n7, cap7, r5.1⟩) W10 (fun x hx => by
      have hlt := Sl.blk_lt (b := ⟨ao7, n7, cap7, r5.1⟩) W10 hx
      obtain ⟨a, ha, hn, rfl⟩ := hx
      exact G11.block _ hlt (by have := F7 a ha; simp; omega))
    have G11 := grown_trans G10 G11
    clear e7 K10 R10 G10 O10 V10 W10
    have HH : Hid (sT most xs k = ((⟨r1.1, r2.1.1, r2.1.2.1, r2.1.2.2.1, r2.1.2.2.2, r3.1, r4.1, r5.1, r6.1⟩, r7.1), r7.2)) := by
      have e1 := E1.out
      have e2 := E2.out
      have e3 := E3.out
      have e4 := E4.out
      have e5 := E5.out
      have e6 := E6.out
      have e7 := E7.out
      show _ = _
      subst e7 e6 e5 e4 e3 e2 e1
      rfl
    go_wp2
    have HNw := HN.out
    refine ⟨M, { oA with va := ⟨ao5, n5, cap5, r4.1⟩, wa := ⟨ao7, n7, cap7, r5.1⟩, has := r6.1 }, r7.1, .slice none 0 0, [], _, _, _, _, _, _, _, _, _, _, _, _, _, _, _, _, _, _, _, _, _, _, _, _, _, _, _, _, _, _, _, _, rfl, ?_, ?_, ?_⟩
    · rw [HH.out]
      refine ⟨R11, O11, K11, World.ownsRow_nil _ _ _ _, ?_, fun y hy => by simp at hy, ?_, rfl, G11, Nat.zero_le _, by omega⟩
      · rw [HO.out]
        exact ⟨⟨by show (-9223372036854775808 : Int) ≤ (r1.1 : Int); omega, by show (r1.1 : Int) ≤ 9223372036854775807; omega⟩, Nat.le_trans Z2.1 (by decide), Nat.le_trans Z2.2.1 (by decide), Nat.le_trans Z2.2.2.1 (by decide), Z2.2.2.2, Nat.le_trans Z3 (by decide), V11, W11, Nat.le_refl _, Nat.zero_le _, fun _ => ⟨rfl, rfl⟩⟩
      · intro x hx
        refine ⟨.inr ?_, by simp [Value.ownBlock]⟩
        rcases hx with (hx | hx) | ⟨y, hy, _⟩
        · obtain ⟨a, ha, _, rfl⟩ := hx
          exact F5 a ha
        · obtain ⟨a, ha, _, rfl⟩ := hx
          exact F7 a ha
        · simp at hy
    · rw [HH.out, HO.out]
      rfl
    · rw [HH.out]
  · rintro a' V ⟨M, o, parts, v, l, u7, u8, u9, u10, u11, u12, u13, u14, u15, u16, u17, u18, u19, u20, u21, u22, u23, u24, u25, u26, u27, u28, u29, u30, u31, u32, u33, u34, u35, u36, u37, u38, rfl, inv, hos, hparts⟩
    clear G0 R0 K0
    obtain ⟨ao, cap, rfl, OL⟩ := OWL.own inv.own inv.oks
    have hpos := inv.pos
    have hle := inv.le
    have hp8 : parts ≤ 8 := by
      rw [hparts]
      have : (sT most xs k).1.2 ≤ most := intS_le _ _ most
      omega
    have hpm : parts ≤ most := by
      rw [hparts]
      exact intS_le _ _ most
    have HOS : Hid (o.s = (sT most xs k).1.1) := hos
    have HPA : Hid (parts = (sT most xs k).1.2) := hparts
    clear hos hparts
    obtain ⟨q0, q1, q2, q3, q4, q5, q6, q7, q8, q9⟩ := inv.ov.cs
    by_cases hl : l.length = parts
    · have i1 : ((l.length : Int) == (parts : Int)) = true := by simp; omega
      have n0 : V.cell? ⟨N, 0, none⟩ = some (.int .i64 0) := cell_of_row V N 0 _ _ _ inv.res
      have n1 : V.cell? ⟨N, 1, none⟩ = some (.string ⟨#[]⟩) := cell_of_row V N 1 _ _ _ inv.res
      have n2 : V.cell? ⟨N, 2, none⟩ = some (.string ⟨#[]⟩) := cell_of_row V N 2 _ _ _ inv.res
      have n3 : V.cell? ⟨N, 3, none⟩ = some (.string ⟨#[]⟩) := cell_of_row V N 3 _ _ _ inv.res
      have n4 : V.cell? ⟨N, 4, none⟩ = some (.int .u64 0) := cell_of_row V N 4 _ _ _ inv.res
      have n5 : V.cell? ⟨N, 5, none⟩ = some (.string ⟨#[]⟩) := cell_of_row V N 5 _ _ _ inv.res
      have n6 : V.cell? ⟨N, 6, none⟩ = some (.slice none 0 0) := cell_of_row V N 6 _ _ _ inv.res
      have n7 : V.cell? ⟨N, 7, none⟩ = some (.slice none 0 0) := cell_of_row V N 7 _ _ _ inv.res
      have n8 : V.cell? ⟨N, 8, none⟩ = some (.bool false) := cell_of_row V N 8 _ _ _ inv.res
      have n9 : V.cell? ⟨N, 9, none⟩ = some (.slice none 0 0) := cell_of_row V N 9 _ _ _ inv.res
      have g0 : V.frozen? ⟨N, 0, none⟩ = false := frozen_of_row V N 0 _ _ inv.res
      have g1 : V.frozen? ⟨N, 1, none⟩ = false := frozen_of_row V N 1 _ _ inv.res
      have g2 : V.frozen? ⟨N, 2, none⟩ = false := frozen_of_row V N 2 _ _ inv.res
      have g3 : V.frozen? ⟨N, 3, none⟩ = false := frozen_of_row V N 3 _ _ inv.res
      have g4 : V.frozen? ⟨N, 4, none⟩ = false := frozen_of_row V N 4 _ _ inv.res
      have g5 : V.frozen? ⟨N, 5, none⟩ = false := frozen_of_row V N 5 _ _ inv.res
      have g6 : V.frozen? ⟨N, 6, none⟩ = false := frozen_of_row V N 6 _ _ inv.res
      have g7 : V.frozen? ⟨N, 7, none⟩ = false := frozen_of_row V N 7 _ _ inv.res
      have g8 : V.frozen? ⟨N, 8, none⟩ = false := frozen_of_row V N 8 _ _ inv.res
      have g9 : V.frozen? ⟨N, 9, none⟩ = false := frozen_of_row V N 9 _ _ inv.res
      have SB : ((((((((((V.setCell ⟨N, 0, none⟩ (.int .i64 o.kind)).setCell ⟨N, 1, none⟩ (.string o.row)).setCell ⟨N, 2, none⟩ (.string o.fam)).setCell ⟨N, 3, none⟩ (.string o.qual)).setCell ⟨N, 4, none⟩ (.int .u64 o.time)).setCell ⟨N, 5, none⟩ (.string o.to)).setCell ⟨N, 6, none⟩ (.slice o.va.ao o.va.n o.va.cap)).setCell ⟨N, 7, none⟩ (.slice o.wa.ao o.wa.n o.wa.cap)).setCell ⟨N, 8, none⟩ (.bool o.has)).setCell ⟨N, 9, none⟩ (.slice ao l.length cap)).heap.size = V.heap.size ∧ ∀ j, j ≠ N → ((((((((((V.setCell ⟨N, 0, none⟩ (.int .i64 o.kind)).setCell ⟨N, 1, none⟩ (.string o.row)).setCell ⟨N, 2, none⟩ (.string o.fam)).setCell ⟨N, 3, none⟩ (.string o.qual)).setCell ⟨N, 4, none⟩ (.int .u64 o.time)).setCell ⟨N, 5, none⟩ (.string o.to)).setCell ⟨N, 6, none⟩ (.slice o.va.ao o.va.n o.va.cap)).setCell ⟨N, 7, none⟩ (.slice o.wa.ao o.wa.n o.wa.cap)).setCell ⟨N, 8, none⟩ (.bool o.has)).setCell ⟨N, 9, none⟩ (.slice ao l.length cap)).heap[j]? = V.heap[j]? := (SameBut.trans (SameBut.trans (SameBut.trans (SameBut.trans (SameBut.trans (SameBut.trans (SameBut.trans (SameBut.trans (SameBut.trans (SameBut.trans ⟨rfl, fun _ _ => rfl⟩ (same_set V N 0 _)) (same_set _ N 1 _)) (same_set _ N 2 _)) (same_set _ N 3 _)) (same_set _ N 4 _)) (same_set _ N 5 _)) (same_set _ N 6 _)) (same_set _ N 7 _)) (same_set _ N 8 _)) (same_set _ N 9 _))
      have kp : ∀ x, (x < 0 ∨ M < x) → x ≠ N := fun x hx => by omega
      have okV : o.ok ((((((((((V.setCell ⟨N, 0, none⟩ (.int .i64 o.kind)).setCell ⟨N, 1, none⟩ (.string o.row)).setCell ⟨N, 2, none⟩ (.string o.fam)).setCell ⟨N, 3, none⟩ (.string o.qual)).setCell ⟨N, 4, none⟩ (.int .u64 o.time)).setCell ⟨N, 5, none⟩ (.string o.to)).setCell ⟨N, 6, none⟩ (.slice o.va.ao o.va.n o.va.cap)).setCell ⟨N, 7, none⟩ (.slice o.wa.ao o.wa.n o.wa.cap)).setCell ⟨N, 8, none⟩ (.bool o.has)).setCell ⟨N, 9, none⟩ (.slice ao l.length cap)) := inv.ok.kept fun x hx => SB.2 x (kp x (inv.far x (.inl hx)).1)
      have oksV : ∀ y ∈ l, y.ok ((((((((((V.setCell ⟨N, 0, none⟩ (.int .i64 o.kind)).setCell ⟨N, 1, none⟩ (.string o.row)).setCell ⟨N, 2, none⟩ (.string o.fam)).setCell ⟨N, 3, none⟩ (.string o.qual)).setCell ⟨N, 4, none⟩ (.int .u64 o.time)).setCell ⟨N, 5, none⟩ (.string o.to)).setCell ⟨N, 6, none⟩ (.slice o.va.ao o.va.n o.va.cap)).setCell ⟨N, 7, none⟩ (.slice o.wa.ao o.wa.n o.wa.cap)).setCell ⟨N, 8, none⟩ (.bool o.has)).setCell ⟨N, 9, none⟩ (.slice ao l.length cap)) := fun y hy => (inv.oks y hy).kept fun x hx => SB.2 x (kp x (inv.far x (.inr ⟨y, hy, hx⟩)).1)
      have ownV : ((((((((((V.setCell ⟨N, 0, none⟩ (.int .i64 o.kind)).setCell ⟨N, 1, none⟩ (.string o.row)).setCell ⟨N, 2, none⟩ (.string o.fam)).setCell ⟨N, 3, none⟩ (.string o.qual)).setCell ⟨N, 4, none⟩ (.int .u64 o.time)).setCell ⟨N, 5, none⟩ (.string o.to)).setCell ⟨N, 6, none⟩ (.slice o.va.ao o.va.n o.va.cap)).setCell ⟨N, 7, none⟩ (.slice o.wa.ao o.wa.n o.wa.cap)).setCell ⟨N, 8, none⟩ (.bool o.has)).setCell ⟨N, 9, none⟩ (.slice ao l.length cap)).ownsRow (M + 1) 57 10 (.slice ao l.length cap) l.length (cellsO l) := own_kept inv.own fun g hg => SB.2 g (by have := inv.ownlt hg; omega)
      have rdV : R ((((((((((V.setCell ⟨N, 0, none⟩ (.int .i64 o.kind)).setCell ⟨N, 1, none⟩ (.string o.row)).setCell ⟨N, 2, none⟩ (.string o.fam)).setCell ⟨N, 3, none⟩ (.string o.qual)).setCell ⟨N, 4, none⟩ (.int .u64 o.time)).setCell ⟨N, 5, none⟩ (.string o.to)).setCell ⟨N, 6, none⟩ (.slice o.va.ao o.va.n o.va.cap)).setCell ⟨N, 7, none⟩ (.slice o.wa.ao o.wa.n o.wa.cap)).setCell ⟨N, 8, none⟩ (.bool o.has)).setCell ⟨N, 9, none⟩ (.slice ao l.length cap)) p L (repT (sT 0) l.length (sT most xs k).2.1 (sT most xs k).2.2).2.1 (repT (sT 0) l.length (sT most xs k).2.1 (sT most xs k).2.2).2.2 := by
        have r := inv.rd
        have r := r.own (q := N) (i := 0) (v := .int .i64 o.kind) (by omega) (by omega)
        have r := r.own (q := N) (i := 1) (v := .string o.row) (by omega) (by omega)
        have r := r.own (q := N) (i := 2) (v := .string o.fam) (by omega) (by omega)
        have r := r.own (q := N) (i := 3) (v := .string o.qual) (by omega) (by omega)
        have r := r.own (q := N) (i := 4) (v := .int .u64 o.time) (by omega) (by omega)
        have r := r.own (q := N) (i := 5) (v := .string o.to) (by omega) (by omega)
        have r := r.own (q := N) (i := 6) (v := .slice o.va.ao o.va.n o.va.cap) (by omega) (by omega)
        have r := r.own (q := N) (i := 7) (v := .slice o.wa.ao o.wa.n o.wa.cap) (by omega) (by omega)
        have r := r.own (q := N) (i := 8) (v := .bool o.has) (by omega) (by omega)
        have r := r.own (q := N) (i := 9) (v := .slice ao l.length cap) (by omega) (by omega)
        exact r
      have grV : w.grownBy ((((((((((V.setCell ⟨N, 0, none⟩ (.int .i64 o.kind)).setCell ⟨N, 1, none⟩ (.string o.row)).setCell ⟨N, 2, none⟩ (.string o.fam)).setCell ⟨N, 3, none⟩ (.string o.qual)).setCell ⟨N, 4, none⟩ (.int .u64 o.time)).setCell ⟨N, 5, none⟩ (.string o.to)).setCell ⟨N, 6, none⟩ (.slice o.va.ao o.va.n o.va.cap)).setCell ⟨N, 7, none⟩ (.slice o.wa.ao o.wa.n o.wa.cap)).setCell ⟨N, 8, none⟩ (.bool o.has)).setCell ⟨N, 9, none⟩ (.slice ao l.length cap)) (some p) := by
        have r := inv.gr
        have r := grown_own (q := N) (i := 0) (v := .int .i64 o.kind) r hpos.2.2.2.1
        have r := grown_own (q := N) (i := 1) (v := .string o.row) r hpos.2.2.2.1
        have r := grown_own (q := N) (i := 2) (v := .string o.fam) r hpos.2.2.2.1
        have r := grown_own (q := N) (i := 3) (v := .string o.qual) r hpos.2.2.2.1
        have r := grown_own (q := N) (i := 4) (v := .int .u64 o.time) r hpos.2.2.2.1
        have r := grown_own (q := N) (i := 5) (v := .string o.to) r hpos.2.2.2.1
        have r := grown_own (q := N) (i := 6) (v := .slice o.va.ao o.va.n o.va.cap) r hpos.2.2.2.1
        have r := grown_own (q := N) (i := 7) (v := .slice o.wa.ao o.wa.n o.wa.cap) r hpos.2.2.2.1
        have r := grown_own (q := N) (i := 8) (v := .bool o.has) r hpos.2.2.2.1
        have r := grown_own (q := N) (i := 9) (v := .slice ao l.length cap) r hpos.2.2.2.1
        exact r
      have lN : N < V.heap.size := (Array.getElem?_eq_some_iff.1 inv.res).1
      have HI : Hid (TakeInv 0 w p L N M parts o (sT most xs k).2.1 (sT most xs k).2.2 V (.slice ao l.length cap) l) := inv
      obtain ⟨ao2, cap2, ee, OLV⟩ := OWL.own ownV oksV
      have HF : Hid (o.s = (sT most xs k).1.1 ∧ parts = (sT most xs k).1.2 ∧ l.length = parts) := ⟨HOS.out, HPA.out, hl⟩
      have okP : OA.ok ⟨o.kind, o.row, o.fam, o.qual, o.time, o.to, o.va, o.wa, o.has, ao, l.length, cap⟩ ((((((((((V.setCell ⟨N, 0, none⟩ (.int .i64 o.kind)).setCell ⟨N, 1, none⟩ (.string o.row)).setCell ⟨N, 2, none⟩ (.string o.fam)).setCell ⟨N, 3, none⟩ (.string o.qual)).setCell ⟨N, 4, none⟩ (.int .u64 o.time)).setCell ⟨N, 5, none⟩ (.string o.to)).setCell ⟨N, 6, none⟩ (.slice o.va.ao o.va.n o.va.cap)).setCell ⟨N, 7, none⟩ (.slice o.wa.ao o.wa.n o.wa.cap)).setCell ⟨N, 8, none⟩ (.bool o.has)).setCell ⟨N, 9, none⟩ (.slice ao l.length cap)) := ⟨okV.kind, okV.row, okV.fam, okV.qual, okV.time, okV.to, okV.va, okV.wa, OL.le, OL.mx, OL.nil⟩
      have OLW : OWL ((((((((((V.setCell ⟨N, 0, none⟩ (.int .i64 o.kind)).setCell ⟨N, 1, none⟩ (.string o.row)).setCell ⟨N, 2, none⟩ (.string o.fam)).setCell ⟨N, 3, none⟩ (.string o.qual)).setCell ⟨N, 4, none⟩ (.int .u64 o.time)).setCell ⟨N, 5, none⟩ (.string o.to)).setCell ⟨N, 6, none⟩ (.slice o.va.ao o.va.n o.va.cap)).setCell ⟨N, 7, none⟩ (.slice o.wa.ao o.wa.n o.wa.cap)).setCell ⟨N, 8, none⟩ (.bool o.has)).setCell ⟨N, 9, none⟩ (.slice ao l.length cap)) 0 ao l.length cap l := by
        simp only [Value.slice.injEq] at ee
        obtain ⟨rfl, _, rfl⟩ := ee
        exact OLV
      clear inv okV oksV ownV OLV ee SB hl
      go_wp2
      simp only [Exit.jump]
      refine bodyPost_ret (v := .agg #[.int .i64 o.kind, .string o.row, .string o.fam, .string o.qual, .int .u64 o.time, .string o.to, .slice o.va.ao o.va.n o.va.cap, .slice o.wa.ao o.wa.n o.wa.cap, .bool o.has, .slice ao l.length cap]) (by simp [results, Try.results63, go_sem, n0, n1, n2, n3, n4, n5, n6, n7, n8, n9]) rfl ?_
      refine ⟨⟨o.kind, o.row, o.fam, o.qual, o.time, o.to, o.va, o.wa, o.has, ao, l.length, cap⟩, l, rfl, okP, OLW, ?_, HF.out.1, ?_, ?_⟩
      · intro x hx
        have h0 := HI.out.pos
        rcases hx with hx | hx | hx
        · have := (HI.out.far x (.inl hx)).1
          omega
        · obtain ⟨a, ha, hn, rfl⟩ := hx
          have ha : ao = some a := ha
          have := HI.out.ownlt (g := a.block) (by rw [ha]; rfl)
          exact .inr (by omega)
        · have := (HI.out.far x (.inr hx)).1
          omega
      · rw [← HF.out.2.1, ← HF.out.2.2]
        exact HI.out.thr
      · rw [← HF.out.2.1, ← HF.out.2.2]
        exact ⟨rdV, grV⟩
    · have i1 : ((l.length : Int) == (parts : Int)) = false := by simp; omega
      obtain ⟨i0, hi, hz0, hz1, hz2⟩ := info_parts opInfo
      go_wp2_with fail
      have inv0 := inv.drew
      obtain ⟨T, hT⟩ : ∃ T, T = repT (sT 0) l.length (sT most xs k).2.1 (sT most xs k).2.2 := ⟨_, rfl⟩
      refine wp_region_noPanic ?_
      refine wp_region_held_drew (S := fun _ => True) (by kernel_rfl) trivial (fun _ => ?_)
      have HQ9 : Hid (V.cell? ⟨M, 9, none⟩ = some (.slice ao l.length cap)) := q9
      obtain ⟨v0, hv0⟩ : ∃ v, v = V.drew := ⟨_, rfl⟩
      rw [← hv0] at inv0 ⊢
      have RC0 := rec (by omega) v0 T.2.1 T.2.2 (by rw [hT]; exact inv0.rd)
      have HI : Hid (TakeInv 0 w p L N M parts o (sT most xs k).2.1 (sT most xs k).2.2 v0 (.slice ao l.length cap) l) := inv0
      have CC : Calls Try.prog 63 #[.pointer (some ⟨p, 0, none⟩), .int .i64 0] v0 fun e w' => ∃ v, e = .returned v ∧ (fun v w' => ∃ y : OA, v = y.val ∧ y.ok w' ∧ (∀ x, y.blks x → x < 0 ∨ v0.heap.size ≤ x) ∧ sn0 y = (sT 0 T.2.1 T.2.2).1 ∧ R w' p L (sT 0 T.2.1 T.2.2).2.1 (sT 0 T.2.1 T.2.2).2.2 ∧ v0.grownBy w' (some p)) v w' := RC0.mono fun e w' h => part_post h
      have HT : Hid (T = repT (sT 0) l.length (sT most xs k).2.1 (sT most xs k).2.2) := hT
      have HCC : Hid (Calls _ _ _ _ _) := CC
      clear hv0 inv inv0 RC0 hT CC q0 q1 q2 q3 q4 q5 q6 q7 q8 q9 rec OL
      refine hr_take 0 (some 32) (.pointer (some ⟨M, 9, none⟩)) rfl rfl (by kernel_rfl) (by kernel_rfl) (by kernel_rfl) rfl (fun W hW => by go_simp) trivial ?_
      simp only [FL]
      refine hr_take 2 (some 34) (.pointer (some ⟨p, 0, none⟩)) rfl rfl (by kernel_rfl) (by kernel_rfl) (by kernel_rfl) rfl (fun W hW => by go_simp) trivial ?_
      simp only [FL]
      refine hr_two (i := 1) (j := 3) (by kernel_rfl) ?_ ?_
      · have c9 : v0.cell? ⟨M, 9, none⟩ = some (.slice ao l.length cap) := HI.out.ov.cs.c9
        refine op_do 1 (some 33) (.slice ao l.length cap) rfl rfl rfl (w' := v0) (by go_simp) trivial ?_
        simp only [FL]
        clear c9
        refine hr_call 3 (some 35) 63 #[.pointer (some ⟨p, 0, none⟩), .int .i64 0] rfl rfl (by kernel_rfl) rfl (by go_simp) (fun v w' => ∃ y : OA, v = y.val ∧ y.ok w' ∧ (∀ x, y.blks x → x < 0 ∨ v0.heap.size ≤ x) ∧ sn0 y = (sT 0 T.2.1 T.2.2).1 ∧ R w' p L (sT 0 T.2.1 T.2.2).2.1 (sT 0 T.2.1 T.2.2).2.2 ∧ v0.grownBy w' (some p)) HCC.out ?_
        rintro vv V1 ⟨y, rfl, y1, y2, y3, y4, y5⟩
        rw [HT.out] at y3 y4
        refine ⟨trivial, ?_⟩
        unfold OA.val
        simp only [FL]
        obtain ⟨g, hg⟩ : ∃ g, g = V1.heap.size := ⟨_, rfl⟩
        obtain ⟨V2, hV2⟩ : ∃ W, W = V1.alloc (.cells #[.int .i64 y.kind, .string y.row, .string y.fam, .string y.qual, .int .u64 y.time, .string y.to, .slice y.va.ao y.va.n y.va.cap, .slice y.wa.ao y.wa.n y.wa.cap, .bool y.has, .slice y.so y.sn y.sc] 57) := ⟨_, rfl⟩
        have N2 : V2.heap[g]? = some (.cells #[.int .i64 y.kind, .string y.row, .string y.fam, .string y.qual, .int .u64 y.time, .string y.to, .slice y.va.ao y.va.n y.va.cap, .slice y.wa.ao y.wa.n y.wa.cap, .bool y.has, .slice y.so y.sn y.sc] 57) := by rw [hV2, hg]; exact heap_alloc_new V1 _
        have B2 : Below V1.heap.size V1 V2 := by rw [hV2]; exact (Below.refl _ _).alloc (Nat.le_refl _) _
        refine hr_do 4 (some 36) (.slice (some ⟨g, 0, none⟩) 1 1) rfl rfl (by kernel_rfl) rfl (w' := V2) (by rw [hV2, hg]; go_simp) trivial ?_
        simp only [FL]
        have HV2 : Hid (V2 = V1.alloc (.cells #[.int .i64 y.kind, .string y.row, .string y.fam, .string y.qual, .int .u64 y.time, .string y.to, .slice y.va.ao y.va.n y.va.cap, .slice y.wa.ao y.wa.n y.wa.cap, .bool y.has, .slice y.so y.sn y.sc] 57)) := hV2
        clear hV2 hg
        have ownV1 : V1.ownsRow (M + 1) 57 10 (.slice ao l.length cap) l.length (cellsO l) := own_kept HI.out.own fun x hx => y5.block x (HI.out.ownlt hx).2 (by have := HI.out.ownlt hx; simp; omega)
        have ownV2 : V2.ownsRow (M + 1) 57 10 (.slice ao l.length cap) l.length (cellsO l) := own_kept ownV1 fun x hx => B2.block x (by have := HI.out.ownlt hx; have := y5.size; omega)
        refine hr_own 5 (some 37) rfl rfl (by kernel_rfl) rfl (.tmp 33) (.tmp 36) 55 rfl (M + 1) 57 i0 _ 10 160 Try.underlying55 hi hz0 hz1 hz2 rfl (by decide) (.slice ao l.length cap) l.length (cellsO l) rfl ownV2 ⟨g, 0, none⟩ 1 1 y.cells rfl rfl (fun j u hu => by rw [Addr.add_lit, Nat.zero_add]; exact (cell_of_row V2 g j #[.int .i64 y.kind, .string y.row, .string y.fam, .string y.qual, .int .u64 y.time, .string y.to, .slice y.va.ao y.va.n y.va.cap, .slice y.wa.ao y.wa.n y.wa.cap, .bool y.has, .slice y.so y.sn y.sc] _ (0, 0) N2).trans (show (y.cells.toArray)[j]? = some u from by rw [List.getElem?_toArray]; exact hu)) (y_one y) (by unfold maxLen; omega) (by omega) (by have := HI.out.ov.lt; have := y5.size; have := B2.size; omega) ?_
        intro v' V3 O3 G3 H3
        refine ⟨trivial, ?_⟩
        simp only [FL]
        rw [HV2.out] at G3 H3
        have ST := HI.out.step (by have := HI.out.le; omega) y1 y2 y3 y4 y5 O3 G3 H3
        have ovm := HI.out.ov
        have m3 : V3.heap[M]? = _ := ((G3.block M (by have := ovm.lt; have := y5.size; simp; omega) (fun e => by have := HI.out.ownlt e.symm; omega)).trans (heap_alloc_old V1 _ (by have := ovm.lt; have := y5.size; omega))).trans ((y5.block M ovm.lt (by simp; omega)).trans ovm)
        have d9 : V3.cell? ⟨M, 9, none⟩ = some (.slice ao l.length cap) := cell_of_row V3 M 9 _ _ _ m3
        have z9 : V3.frozen? ⟨M, 9, none⟩ = false := frozen_of_row V3 M 9 _ _ m3
        refine hr_take 6 (some 38) (.pointer (some ⟨M, 9, none⟩)) rfl rfl (by kernel_rfl) (by kernel_rfl) (by kernel_rfl) rfl (fun W hW => by go_simp) trivial ?_
        simp only [FL]
        have mm := OWL.own ST.own ST.oks
        rw [List.length_append, List.length_singleton] at mm
        obtain ⟨ao3, cap3, rfl, _⟩ := mm
        refine hr_skip 7 none rfl rfl (by kernel_rfl) rfl (w' := V3.setCell ⟨M, 9, none⟩ (.slice ao3 (l.length + 1) cap3)) (by go_simp) trivial ?_
        simp only [Act.put]
        refine wpAnyH_done (by kernel_rfl) ?_ _
        refine NoPanic.normal ?_
        have c3 := ST.ov.cs.c9
        have HST : Hid _ := ST
        clear ST ownV1 ownV2 O3 G3 H3 d9 z9 m3 ovm HV2 N2 B2
        go_wp2
        go_step3
        refine ⟨rfl, ⟨M, o, parts, _, l ++ [y], _, _, _, _, _, _, _, _, _, _, _, _, _, _, _, _, _, _, _, _, _, _, _, _, _, _, _, _, _, _, _, _, rfl, HST.out, HOS.out, HPA.out⟩, ?_⟩
        unfold TakeM
        simp only [Array.getD, List.size_toArray, List.length_cons]
        simp [intOf, ptrOf, lenAt, c3, HQ9.out]
        omega
      · refine op_call 3 (some 35) 63 #[.pointer (some ⟨p, 0, none⟩), .int .i64 0] rfl rfl rfl (by go_simp) (fun v w' => ∃ y : OA, v = y.val ∧ y.ok w' ∧ (∀ x, y.blks x → x < 0 ∨ v0.heap.size ≤ x) ∧ sn0 y = (sT 0 T.2.1 T.2.2).1 ∧ R w' p L (sT 0 T.2.1 T.2.2).2.1 (sT 0 T.2.1 T.2.2).2.2 ∧ v0.grownBy w' (some p)) HCC.out ?_
        rintro vv V1 ⟨y, rfl, y1, y2, y3, y4, y5⟩
        rw [HT.out] at y3 y4
        refine ⟨trivial, ?_⟩
        unfold OA.val
        simp only [FL]
        refine hr_two (i := 1) (j := 4) (by kernel_rfl) ?_ ?_
        · have c9 : V1.cell? ⟨M, 9, none⟩ = some (.slice ao l.length cap) := (World.cell?_of_block (a := ⟨M, 9, none⟩) (y5.block M HI.out.ov.lt (by simp; omega))).trans HI.out.ov.cs.c9
          refine op_do 1 (some 33) (.slice ao l.length cap) rfl rfl rfl (w' := V1) (by go_simp) trivial ?_
          simp only [FL]
          clear c9
          obtain ⟨g, hg⟩ : ∃ g, g = V1.heap.size := ⟨_, rfl⟩
          obtain ⟨V2, hV2⟩ : ∃ W, W = V1.alloc (.cells #[.int .i64 y.kind, .string y.row, .string y.fam, .string y.qual, .int .u64 y.time, .string y.to, .slice y.va.ao y.va.n y.va.cap, .slice y.wa.ao y.wa.n y.wa.cap, .bool y.has, .slice y.so y.sn y.sc] 57) := ⟨_, rfl⟩
          have N2 : V2.heap[g]? = some (.cells #[.int .i64 y.kind, .string y.row, .string y.fam, .string y.qual, .int .u64 y.time, .string y.to, .slice y.va.ao y.va.n y.va.cap, .slice y.wa.ao y.wa.n y.wa.cap, .bool y.has, .slice y.so y.sn y.sc] 57) := by rw [hV2, hg]; exact heap_alloc_new V1 _
          have B2 : Below V1.heap.size V1 V2 := by rw [hV2]; exact (Below.refl _ _).alloc (Nat.le_refl _) _
          refine hr_do 4 (some 36) (.slice (some ⟨g, 0, none⟩) 1 1) rfl rfl (by kernel_rfl) rfl (w' := V2) (by rw [hV2, hg]; go_simp) trivial ?_
          simp only [FL]
          have HV2 : Hid (V2 = V1.alloc (.cells #[.int .i64 y.kind, .string y.row, .string y.fam, .string y.qual, .int .u64 y.time, .string y.to, .slice y.va.ao y.va.n y.va.cap, .slice y.wa.ao y.wa.n y.wa.cap, .bool y.has, .slice y.so y.sn y.sc] 57)) := hV2
          clear hV2 hg
          have ownV1 : V1.ownsRow (M + 1) 57 10 (.slice ao l.length cap) l.length (cellsO l) := own_kept HI.out.own fun x hx => y5.block x (HI.out.ownlt hx).2 (by have := HI.out.ownlt hx; simp; omega)
          have ownV2 : V2.ownsRow (M + 1) 57 10 (.slice ao l.length cap) l.length (cellsO l) := own_kept ownV1 fun x hx => B2.block x (by have := HI.out.ownlt hx; have := y5.size; omega)
          refine hr_own 5 (some 37) rfl rfl (by kernel_rfl) rfl (.tmp 33) (.tmp 36) 55 rfl (M + 1) 57 i0 _ 10 160 Try.underlying55 hi hz0 hz1 hz2 rfl (by decide) (.slice ao l.length cap) l.length (cellsO l) rfl ownV2 ⟨g, 0, none⟩ 1 1 y.cells rfl rfl (fun j u hu => by rw [Addr.add_lit, Nat.zero_add]; exact (cell_of_row V2 g j #[.int .i64 y.kind, .string y.row, .string y.fam, .string y.qual, .int .u64 y.time, .string y.to, .slice y.va.ao y.va.n y.va.cap, .slice y.wa.ao y.wa.n y.wa.cap, .bool y.has, .slice y.so y.sn y.sc] _ (0, 0) N2).trans (show (y.cells.toArray)[j]? = some u from by rw [List.getElem?_toArray]; exact hu)) (y_one y) (by unfold maxLen; omega) (by omega) (by have := HI.out.ov.lt; have := y5.size; have := B2.size; omega) ?_
          intro v' V3 O3 G3 H3
          refine ⟨trivial, ?_⟩
          simp only [FL]
          rw [HV2.out] at G3 H3
          have ST := HI.out.step (by have := HI.out.le; omega) y1 y2 y3 y4 y5 O3 G3 H3
          have ovm := HI.out.ov
          have m3 : V3.heap[M]? = _ := ((G3.block M (by have := ovm.lt; have := y5.size; simp; omega) (fun e => by have := HI.out.ownlt e.symm; omega)).trans (heap_alloc_old V1 _ (by have := ovm.lt; have := y5.size; omega))).trans ((y5.block M ovm.lt (by simp; omega)).trans ovm)
          have d9 : V3.cell? ⟨M, 9, none⟩ = some (.slice ao l.length cap) := cell_of_row V3 M 9 _ _ _ m3
          have z9 : V3.frozen? ⟨M, 9, none⟩ = false := frozen_of_row V3 M 9 _ _ m3
          refine hr_take 6 (some 38) (.pointer (some ⟨M, 9, none⟩)) rfl rfl (by kernel_rfl) (by kernel_rfl) (by kernel_rfl) rfl (fun W hW => by go_simp) trivial ?_
          simp only [FL]
          have mm := OWL.own ST.own ST.oks
          rw [List.length_append, List.length_singleton] at mm
          obtain ⟨ao3, cap3, rfl, _⟩ := mm
          refine hr_skip 7 none rfl rfl (by kernel_rfl) rfl (w' := V3.setCell ⟨M, 9, none⟩ (.slice ao3 (l.length + 1) cap3)) (by go_simp) trivial ?_
          simp only [Act.put]
          refine wpAnyH_done (by kernel_rfl) ?_ _
          refine NoPanic.normal ?_
          have c3 := ST.ov.cs.c9
          have HST : Hid _ := ST
          clear ST ownV1 ownV2 O3 G3 H3 d9 z9 m3 ovm HV2 N2 B2
          go_wp2
          go_step3
          refine ⟨rfl, ⟨M, o, parts, _, l ++ [y], _, _, _, _, _, _, _, _, _, _, _, _, _, _, _, _, _, _, _, _, _, _, _, _, _, _, _, _, _, _, _, _, rfl, HST.out, HOS.out, HPA.out⟩, ?_⟩
          unfold TakeM
          simp only [Array.getD, List.size_toArray, List.length_cons]
          simp [intOf, ptrOf, lenAt, c3, HQ9.out]
          omega
        · obtain ⟨g, hg⟩ : ∃ g, g = V1.heap.size := ⟨_, rfl⟩
          obtain ⟨V2, hV2⟩ : ∃ W, W = V1.alloc (.cells #[.int .i64 y.kind, .string y.row, .string y.fam, .string y.qual, .int .u64 y.time, .string y.to, .slice y.va.ao y.va.n y.va.cap, .slice y.wa.ao y.wa.n y.wa.cap, .bool y.has, .slice y.so y.sn y.sc] 57) := ⟨_, rfl⟩
          have N2 : V2.heap[g]? = some (.cells #[.int .i64 y.kind, .string y.row, .string y.fam, .string y.qual, .int .u64 y.time, .string y.to, .slice y.va.ao y.va.n y.va.cap, .slice y.wa.ao y.wa.n y.wa.cap, .bool y.has, .slice y.so y.sn y.sc] 57) := by rw [hV2, hg]; exact heap_alloc_new V1 _
          have B2 : Below V1.heap.size V1 V2 := by rw [hV2]; exact (Below.refl _ _).alloc (Nat.le_refl _) _
          refine op_do 4 (some 36) (.slice (some ⟨g, 0, none⟩) 1 1) rfl rfl rfl (w' := V2) (by rw [hV2, hg]; go_simp) trivial ?_
          simp only [FL]
          have HV2 : Hid (V2 = V1.alloc (.cells #[.int .i64 y.kind, .string y.row, .string y.fam, .string y.qual, .int .u64 y.time, .string y.to, .slice y.va.ao y.va.n y.va.cap, .slice y.wa.ao y.wa.n y.wa.cap, .bool y.has, .slice y.so y.sn y.sc] 57)) := hV2
          clear hV2 hg
          have c9 : V2.cell? ⟨M, 9, none⟩ = some (.slice ao l.length cap) := (B2.cell (World.block_lt_of_cell? V1 ⟨M, 9, none⟩ ((World.cell?_of_block (a := ⟨M, 9, none⟩) (y5.block M HI.out.ov.lt (by simp; omega))).trans HI.out.ov.cs.c9))).trans ((World.cell?_of_block (a := ⟨M, 9, none⟩) (y5.block M HI.out.ov.lt (by simp; omega))).trans HI.out.ov.cs.c9)
          refine hr_do 1 (some 33) (.slice ao l.length cap) rfl rfl (by kernel_rfl) rfl (w' := V2) (by go_simp) trivial ?_
          simp only [FL]
          clear c9
          have ownV1 : V1.ownsRow (M + 1) 57 10 (.slice ao l.length cap) l.length (cellsO l) := own_kept HI.out.own fun x hx => y5.block x (HI.out.ownlt hx).2 (by have := HI.out.ownlt hx; simp; omega)
          have ownV2 : V2.ownsRow (M + 1) 57 10 (.slice ao l.length cap) l.length (cellsO l) := own_kept ownV1 fun x hx => B2.block x (by have := HI.out.ownlt hx; have := y5.size; omega)
          refine hr_own 5 (some 37) rfl rfl (by kernel_rfl) rfl (.tmp 33) (.tmp 36) 55 rfl (M + 1) 57 i0 _ 10 160 Try.underlying55 hi hz0 hz1 hz2 rfl (by decide) (.slice ao l.length cap) l.length (cellsO l) rfl ownV2 ⟨g, 0, none⟩ 1 1 y.cells rfl rfl (fun j u hu => by rw [Addr.add_lit, Nat.zero_add]; exact (cell_of_row V2 g j #[.int .i64 y.kind, .string y.row, .string y.fam, .string y.qual, .int .u64 y.time, .string y.to, .slice y.va.ao y.va.n y.va.cap, .slice y.wa.ao y.wa.n y.wa.cap, .bool y.has, .slice y.so y.sn y.sc] _ (0, 0) N2).trans (show (y.cells.toArray)[j]? = some u from by rw [List.getElem?_toArray]; exact hu)) (y_one y) (by unfold maxLen; omega) (by omega) (by have := HI.out.ov.lt; have := y5.size; have := B2.size; omega) ?_
          intro v' V3 O3 G3 H3
          refine ⟨trivial, ?_⟩
          simp only [FL]
          rw [HV2.out] at G3 H3
          have ST := HI.out.step (by have := HI.out.le; omega) y1 y2 y3 y4 y5 O3 G3 H3
          have ovm := HI.out.ov
          have m3 : V3.heap[M]? = _ := ((G3.block M (by have := ovm.lt; have := y5.size; simp; omega) (fun e => by have := HI.out.ownlt e.symm; omega)).trans (heap_alloc_old V1 _ (by have := ovm.lt; have := y5.size; omega))).trans ((y5.block M ovm.lt (by simp; omega)).trans ovm)
          have d9 : V3.cell? ⟨M, 9, none⟩ = some (.slice ao l.length cap) := cell_of_row V3 M 9 _ _ _ m3
          have z9 : V3.frozen? ⟨M, 9, none⟩ = false := frozen_of_row V3 M 9 _ _ m3
          refine hr_take 6 (some 38) (.pointer (some ⟨M, 9, none⟩)) rfl rfl (by kernel_rfl) (by kernel_rfl) (by kernel_rfl) rfl (fun W hW => by go_simp) trivial ?_
          simp only [FL]
          have mm := OWL.own ST.own ST.oks
          rw [List.length_append, List.length_singleton] at mm
          obtain ⟨ao3, cap3, rfl, _⟩ := mm
          refine hr_skip 7 none rfl rfl (by kernel_rfl) rfl (w' := V3.setCell ⟨M, 9, none⟩ (.slice ao3 (l.length + 1) cap3)) (by go_simp) trivial ?_
          simp only [Act.put]
          refine wpAnyH_done (by kernel_rfl) ?_ _
          refine NoPanic.normal ?_
          have c3 := ST.ov.cs.c9
          have HST : Hid _ := ST
          clear ST ownV1 ownV2 O3 G3 H3 d9 z9 m3 ovm HV2 N2 B2
          go_wp2
          go_step3
          refine ⟨rfl, ⟨M, o, parts, _, l ++ [y], _, _, _, _, _, _, _, _, _, _, _, _, _, _, _, _, _, _, _, _, _, _, _, _, _, _, _, _, _, _, _, _, rfl, HST.out, HOS.out, HPA.out⟩, ?_⟩
          unfold TakeM
          simp only [Array.getD, List.size_toArray, List.length_cons]
          simp [intOf, ptrOf, lenAt, c3, HQ9.out]
          omega
end Go.Proofs.Ytcgphdipfekccaa

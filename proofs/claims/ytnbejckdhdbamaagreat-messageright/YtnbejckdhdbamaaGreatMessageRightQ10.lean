/-
  Texts in one: PTake, Read, PRd, MgMath, MgRd, MgMem, MgOpen.
-/
import Derived.Test.YtnbejckdhdbamaaGreatMessageRightQFL
import Derived.Test.YtnbejckdhdbamaaGreatMessageRightQ9
import Derived.Test.YtnbejckdhdbamaaGreatMessageRightQ3
import Derived.Test.YtnbejckdhdbamaaGreatMessageRightQ0
import Derived.Test.YtnbejckdhdbamaaGreatMessageRightQ1
namespace Go.Proofs.YtnbejckdhdbamaaGreat
open Go.RowKit
def TakeJ (most : Nat) (w : World) (p L N : Nat) (xs : List Int) (k : Int) (a : Act) (V : World) : Prop :=
 ∃ (M : Nat) (o : OA) (parts : Nat) (v : Value) (l : List OA) (u7 u8 u9 u10 u11 u12 u13 u14 u15 u16 u17 u18 u19 u20 u21 u22 u23 u24 u25 u26 u27 u28 u29 u30 u31 u32 u33 u34 u35 u36 u37 u38 : Value), a = { tmps := #[.pointer (some ⟨p, 0, none⟩), .int .i64 most, undef, undef, .pointer (some ⟨N, 0, none⟩), .pointer (some ⟨M, 0, none⟩), .int .i64 parts, u7, u8, u9, u10, u11, u12, u13, u14, u15, u16, u17, u18, u19, u20, u21, u22, u23, u24, u25, u26, u27, u28, u29, u30, u31, u32, u33, u34, u35, u36, u37, u38], defers := [] } ∧ TakeInv 0 w p L N M parts o (sT most xs k).2.1 (sT most xs k).2.2 V v l ∧ o.s = (sT most xs k).1.1 ∧ parts = (sT most xs k).1.2
theorem y_one (y : OA) : ∀ u ∈ y.cells, u.oneCell' = true := by
 intro u hu
 unfold OA.cells at hu
 simp only [List.mem_cons, List.not_mem_nil, or_false] at hu
 rcases hu with rfl | rfl | rfl | rfl | rfl | rfl | rfl | rfl | rfl | rfl <;> rfl
theorem part_post {V : World} {p L : Nat} {ys : List Int} {q : Int} {e : Ending} {w' : World} (h : TakePost 0 V p L 0 ys q e w') : ∃ v, e = .returned v ∧ ∃ y : OA, v = y.val ∧ y.ok w' ∧ (∀ x, y.blks x → x < 0 ∨ V.heap.size ≤ x) ∧ sn0 y = (sT 0 ys q).1 ∧ R w' p L (sT 0 ys q).2.1 (sT 0 ys q).2.2 ∧ V.grownBy w' (some p) := by
 obtain ⟨o, l, e1, ok, OL, far, hs, hl, hr, hg⟩ := h
 have hz : (sT 0 ys q).1.2 = 0 := by
  have : (sT 0 ys q).1.2 ≤ 0 := intS_le _ _ 0
  omega
 rw [hz] at hl hr
 have hl0 : l = [] := by
  have hl : l.map sn0 = [] := hl
  simpa using hl
 have hsn : o.sn = 0 := by
  have : l.length = o.sn := OL.len
  rw [hl0] at this
  exact this.symm
 refine ⟨_, e1, o, rfl, ok, fun x hx => far x (.inl hx), ?_, hr, hg⟩
 unfold sn0
 rw [hs, hsn]
 exact Prod.ext rfl hz.symm
def TakeM (a : Act) (V : World) : Nat := (intOf (a.tmps.getD 6 undef)).toNat - lenAt (ptrOf (a.tmps.getD 5 undef)) V
set_option maxRecDepth 100000 in
set_option maxHeartbeats 16000000 in
theorem ttake_gen (most : Nat) (hm8 : most ≤ 8) (w : World) (p L : Nat) (xs : List Int) (k : Int) (h : R w p L xs k)
  (rec : most ≠ 0 → ∀ (V : World) (ys : List Int) (q : Int), R V p L ys q → Calls Tryz.prog 108 #[.pointer (some ⟨p, 0, none⟩), .int .i64 0] V (TakePost 0 V p L 0 ys q)) :
  Calls Tryz.prog 108 #[.pointer (some ⟨p, 0, none⟩), .int .i64 most] w (TakePost 0 w p L most xs k) := by
 have hpl := h.plt
 have K0 : (w.alloc (.cells #[.int .i64 0, .string ⟨#[]⟩, .string ⟨#[]⟩, .string ⟨#[]⟩, .int .u64 0, .string ⟨#[]⟩, .slice none 0 0, .slice none 0 0, .bool false, .slice none 0 0] 58)).heap[w.heap.size]? = some (.cells #[.int .i64 0, .string ⟨#[]⟩, .string ⟨#[]⟩, .string ⟨#[]⟩, .int .u64 0, .string ⟨#[]⟩, .slice none 0 0, .slice none 0 0, .bool false, .slice none 0 0] 58) := heap_alloc_new w _
 have B0 : Below w.heap.size w (w.alloc (.cells #[.int .i64 0, .string ⟨#[]⟩, .string ⟨#[]⟩, .string ⟨#[]⟩, .int .u64 0, .string ⟨#[]⟩, .slice none 0 0, .slice none 0 0, .bool false, .slice none 0 0] 58)) := (Below.refl _ w).alloc (Nat.le_refl _) _
 have R0 := h.below B0
 have G0 : w.grownBy _ (some p) := grown_below B0
 clear h
 go_enter Tryz.func108, Tryz.ntmps108
 go_wp2_with fail
 obtain ⟨w0, hw0⟩ : ∃ W, W = w.alloc (.cells #[.int .i64 0, .string ⟨#[]⟩, .string ⟨#[]⟩, .string ⟨#[]⟩, .int .u64 0, .string ⟨#[]⟩, .slice none 0 0, .slice none 0 0, .bool false, .slice none 0 0] 58) := ⟨_, rfl⟩
 obtain ⟨N, hN⟩ : ∃ N, N = w.heap.size := ⟨_, rfl⟩
 rw [← hw0] at K0 R0 G0 ⊢
 rw [← hN] at K0 ⊢
 have HN : Hid (N = w.heap.size) := hN
 have hpN : p < N ∧ L ≤ p := by omega
 clear hw0 hN B0
 refine wp_scope_mid 0 (TakeJ most w p L N xs k) TakeM (by simp [findLabel]) ?_ ?_
 ·clear rec
  go_wp2_with fail
  refine (int_any w0 p L xs k 100 (by decide) R0.byte R0).mono ?_
  rintro e w1 ⟨rfl, R1, G1⟩
  obtain ⟨r1, e1⟩ : ∃ r, r = intS xs k 100 := ⟨_, rfl⟩
  have E1 : Hid (r1 = intS xs k 100) := e1
  have Z1 : r1.1 ≤ 100 := by rw [e1]; exact intS_le xs k 100
  rw [← e1] at R1 ⊢
  have K1 := (G1.block N (Array.getElem?_eq_some_iff.1 K0).1 (by simp; omega)).trans K0
  have G1 := grown_trans G0 G1
  clear e1 K0 R0 G0
  go_wp2_with fail
  refine (tkey_any w1 p L r1.2.1 r1.2.2 R1).mono ?_
  rintro e w2 ⟨rfl, R2, G2⟩
  obtain ⟨r2, e2⟩ : ∃ r, r = keyT r1.2.1 r1.2.2 := ⟨_, rfl⟩
  have E2 : Hid (r2 = keyT r1.2.1 r1.2.2) := e2
  have Z2 := keyT_ok R1.byte (k := r1.2.2)
  rw [← e2] at R2 Z2 ⊢
  have K2 := (G2.block N (Array.getElem?_eq_some_iff.1 K1).1 (by simp; omega)).trans K1
  have G2 := grown_trans G1 G2
  clear e2 K1 R1 G1
  unfold KA.val keyOf
  go_wp2_with fail
  refine (ttext_any w2 p L r2.2.1 r2.2.2 R2).mono ?_
  rintro e w3 ⟨rfl, R3, G3⟩
  obtain ⟨r3, e3⟩ : ∃ r, r = txT 32 r2.2.1 r2.2.2 := ⟨_, rfl⟩
  have E3 : Hid (r3 = txT 32 r2.2.1 r2.2.2) := e3
  have Z3 := txT_ok R2.byte (k := r2.2.2)
  rw [← e3] at R3 Z3 ⊢
  have K3 := (G3.block N (Array.getElem?_eq_some_iff.1 K2).1 (by simp; omega)).trans K2
  have G3 := grown_trans G2 G3
  clear e3 K2 R2 G2
  obtain ⟨oA, hoA⟩ : ∃ o : OA, o = ⟨r1.1, r2.1.1, r2.1.2.1, r2.1.2.2.1, r2.1.2.2.2, r3.1, noBs, noBs, false, none, 0, 0⟩ := ⟨_, rfl⟩
  obtain ⟨M, hM⟩ : ∃ M, M = w3.heap.size := ⟨_, rfl⟩
  obtain ⟨w4, hw4⟩ : ∃ W, W = w3.alloc (.cells #[.int .i64 r1.1, .string r2.1.1, .string r2.1.2.1, .string r2.1.2.2.1, .int .u64 r2.1.2.2.2, .string r3.1, .slice none 0 0, .slice none 0 0, .bool false, .slice none 0 0] 58) := ⟨_, rfl⟩
  have B4 : Below w3.heap.size w3 w4 := by rw [hw4]; exact (Below.refl _ _).alloc (Nat.le_refl _) _
  have O4 : OV w4 M oA (.slice none 0 0) := by rw [hw4, hM, hoA]; exact heap_alloc_new w3 _
  have R4 := R3.below B4
  have K4 := (B4.block N (Array.getElem?_eq_some_iff.1 K3).1).trans K3
  have hNM : N < M := by rw [hM]; exact (Array.getElem?_eq_some_iff.1 K3).1
  have G4 := grown_trans G3 (grown_below B4 (r := some p))
  go_wp2_with fail
  rw [← hw4, ← hM]
  have HM : Hid (M = w3.heap.size) := hM
  have HO : Hid (oA = ⟨r1.1, r2.1.1, r2.1.2.1, r2.1.2.2.1, r2.1.2.2.2, r3.1, noBs, noBs, false, none, 0, 0⟩) := hoA
  clear hw4 hM hoA K3 R3 G3 B4
  refine (bytes_any w4 p L r3.2.1 r3.2.2 256 (by decide) R4).mono ?_
  rintro e w5 ⟨ao5, n5, cap5, rfl, S5, F5, R5, G5⟩
  obtain ⟨r4, e4⟩ : ∃ r, r = bytesS r3.2.1 r3.2.2 256 := ⟨_, rfl⟩
  have E4 : Hid (r4 = bytesS r3.2.1 r3.2.2 256) := e4
  rw [← e4] at R5 S5
  have K5 := (G5.block N (Array.getElem?_eq_some_iff.1 K4).1 (by simp; omega)).trans K4
  have O5 := O4.grown G5 (by omega)
  have F5 : ∀ a, ao5 = some a → M < a.block := fun a ha => by have := F5 a ha; have := O4.lt; omega
  have G5 := grown_trans G4 G5
  clear e4 K4 R4 G4 O4
  obtain ⟨w6, hw6⟩ : ∃ W, W = w5.setCell ⟨M, 6, none⟩ (.slice ao5 n5 cap5) := ⟨_, rfl⟩
  have SB := same_set w5 M 6 (.slice ao5 n5 cap5)
  have O6 : OV w6 M { oA with va := ⟨ao5, n5, cap5, r4.1⟩ } (.slice none 0 0) := by rw [hw6]; exact O5.setV ⟨ao5, n5, cap5, r4.1⟩
  have R6 : R w6 p L r4.2.1 r4.2.2 := by rw [hw6]; exact R5.own (by omega) (by omega)
  have S6 : Sl w6 ao5 n5 cap5 r4.1 := Sl.kept (b := ⟨ao5, n5, cap5, r4.1⟩) S5 (fun x hx => by
   obtain ⟨a, ha, hn, rfl⟩ := hx
   rw [hw6]
   exact SB.2 _ (by have := F5 a ha; omega))
  have K6 : w6.heap[N]? = some (.cells #[.int .i64 0, .string ⟨#[]⟩, .string ⟨#[]⟩, .string ⟨#[]⟩, .int .u64 0, .string ⟨#[]⟩, .slice none 0 0, .slice none 0 0, .bool false, .slice none 0 0] 58) := by rw [hw6]; exact (SB.2 N (by omega)).trans K5
  have G6 : w.grownBy w6 (some p) := by rw [hw6]; exact grown_own G5 (by have := HN.out; omega)
  obtain ⟨q0, q1, q2, q3, q4, q5, q6, q7, q8, q9⟩ := O5.cs
  have f6 := O5.fz 6
  have lt5 := O5.lt
  go_wp2_with fail
  rw [← hw6]
  clear q0 q1 q2 q3 q4 q5 q6 q7 q8 q9 f6 lt5 hw6 SB O5 R5 S5 K5 G5
  refine (bytes_any w6 p L r4.2.1 r4.2.2 256 (by decide) R6).mono ?_
  rintro e w7 ⟨ao7, n7, cap7, rfl, S7, F7, R7, G7⟩
  obtain ⟨r5, e5⟩ : ∃ r, r = bytesS r4.2.1 r4.2.2 256 := ⟨_, rfl⟩
  have E5 : Hid (r5 = bytesS r4.2.1 r4.2.2 256) := e5
  rw [← e5] at R7 S7
  have K7 := (G7.block N (Array.getElem?_eq_some_iff.1 K6).1 (by simp; omega)).trans K6
  have O7 := O6.grown G7 (by omega)
  have F7 : ∀ a, ao7 = some a → M < a.block := fun a ha => by have := F7 a ha; have := O6.lt; omega
  have V7 : Sl w7 ao5 n5 cap5 r4.1 := Sl.kept (b := ⟨ao5, n5, cap5, r4.1⟩) S6 (fun x hx => by
   have hlt := Sl.blk_lt (b := ⟨ao5, n5, cap5, r4.1⟩) S6 hx
   obtain ⟨a, ha, hn, rfl⟩ := hx
   exact G7.block _ hlt (by have := F5 a ha; simp; omega))
  have G7 := grown_trans G6 G7
  clear e5 K6 R6 G6 O6 S6
  obtain ⟨w8, hw8⟩ : ∃ W, W = w7.setCell ⟨M, 7, none⟩ (.slice ao7 n7 cap7) := ⟨_, rfl⟩
  have SB := same_set w7 M 7 (.slice ao7 n7 cap7)
  have O8 : OV w8 M { oA with va := ⟨ao5, n5, cap5, r4.1⟩, wa := ⟨ao7, n7, cap7, r5.1⟩ } (.slice none 0 0) := by rw [hw8]; exact O7.setW ⟨ao7, n7, cap7, r5.1⟩
  have R8 : R w8 p L r5.2.1 r5.2.2 := by rw [hw8]; exact R7.own (by omega) (by omega)
  have V8 : Sl w8 ao5 n5 cap5 r4.1 := Sl.kept (b := ⟨ao5, n5, cap5, r4.1⟩) V7 (fun x hx => by
   obtain ⟨a, ha, hn, rfl⟩ := hx
   rw [hw8]
   exact SB.2 _ (by have := F5 a ha; omega))
  have W8 : Sl w8 ao7 n7 cap7 r5.1 := Sl.kept (b := ⟨ao7, n7, cap7, r5.1⟩) S7 (fun x hx => by
   obtain ⟨a, ha, hn, rfl⟩ := hx
   rw [hw8]
   exact SB.2 _ (by have := F7 a ha; omega))
  have K8 : w8.heap[N]? = some (.cells #[.int .i64 0, .string ⟨#[]⟩, .string ⟨#[]⟩, .string ⟨#[]⟩, .int .u64 0, .string ⟨#[]⟩, .slice none 0 0, .slice none 0 0, .bool false, .slice none 0 0] 58) := by rw [hw8]; exact (SB.2 N (by omega)).trans K7
  have G8 : w.grownBy w8 (some p) := by rw [hw8]; exact grown_own G7 (by have := HN.out; omega)
  obtain ⟨q0, q1, q2, q3, q4, q5, q6, q7, q8, q9⟩ := O7.cs
  have f6 := O7.fz 7
  have lt5 := O7.lt
  go_wp2_with fail
  rw [← hw8]
  clear q0 q1 q2 q3 q4 q5 q6 q7 q8 q9 f6 lt5 hw8 SB O7 R7 S7 K7 G7 V7
  refine (bool_any w8 p L r5.2.1 r5.2.2 R8).mono ?_
  rintro e w9 ⟨rfl, R9, G9⟩
  obtain ⟨r6, e6⟩ : ∃ r, r = boolS r5.2.1 r5.2.2 := ⟨_, rfl⟩
  have E6 : Hid (r6 = boolS r5.2.1 r5.2.2) := e6
  rw [← e6] at R9 ⊢
  have K9 := (G9.block N (Array.getElem?_eq_some_iff.1 K8).1 (by simp; omega)).trans K8
  have O9 := O8.grown G9 (by omega)
  have V9 : Sl w9 ao5 n5 cap5 r4.1 := Sl.kept (b := ⟨ao5, n5, cap5, r4.1⟩) V8 (fun x hx => by
   have hlt := Sl.blk_lt (b := ⟨ao5, n5, cap5, r4.1⟩) V8 hx
   obtain ⟨a, ha, hn, rfl⟩ := hx
   exact G9.block _ hlt (by have := F5 a ha; simp; omega))
  have W9 : Sl w9 ao7 n7 cap7 r5.1 := Sl.kept (b := ⟨ao7, n7, cap7, r5.1⟩) W8 (fun x hx => by
   have hlt := Sl.blk_lt (b := ⟨ao7, n7, cap7, r5.1⟩) W8 hx
   obtain ⟨a, ha, hn, rfl⟩ := hx
   exact G9.block _ hlt (by have := F7 a ha; simp; omega))
  have G9 := grown_trans G8 G9
  clear e6 K8 R8 G8 O8 V8 W8
  obtain ⟨x0, hx0⟩ : ∃ W, W = w9.setCell ⟨M, 8, none⟩ (.bool r6.1) := ⟨_, rfl⟩
  have SB := same_set w9 M 8 (.bool r6.1)
  have O10 : OV x0 M { oA with va := ⟨ao5, n5, cap5, r4.1⟩, wa := ⟨ao7, n7, cap7, r5.1⟩, has := r6.1 } (.slice none 0 0) := by rw [hx0]; exact O9.setH r6.1
  have R10 : R x0 p L r6.2.1 r6.2.2 := by rw [hx0]; exact R9.own (by omega) (by omega)
  have V10 : Sl x0 ao5 n5 cap5 r4.1 := Sl.kept (b := ⟨ao5, n5, cap5, r4.1⟩) V9 (fun x hx => by
   obtain ⟨a, ha, hn, rfl⟩ := hx
   rw [hx0]
   exact SB.2 _ (by have := F5 a ha; omega))
  have W10 : Sl x0 ao7 n7 cap7 r5.1 := Sl.kept (b := ⟨ao7, n7, cap7, r5.1⟩) W9 (fun x hx => by
   obtain ⟨a, ha, hn, rfl⟩ := hx
   rw [hx0]
   exact SB.2 _ (by have := F7 a ha; omega))
  have K10 : x0.heap[N]? = some (.cells #[.int .i64 0, .string ⟨#[]⟩, .string ⟨#[]⟩, .string ⟨#[]⟩, .int .u64 0, .string ⟨#[]⟩, .slice none 0 0, .slice none 0 0, .bool false, .slice none 0 0] 58) := by rw [hx0]; exact (SB.2 N (by omega)).trans K9
  have G10 : w.grownBy x0 (some p) := by rw [hx0]; exact grown_own G9 (by have := HN.out; omega)
  obtain ⟨q0, q1, q2, q3, q4, q5, q6, q7, q8, q9⟩ := O9.cs
  have f6 := O9.fz 8
  have lt5 := O9.lt
  go_wp2_with fail
  rw [← hx0]
  clear q0 q1 q2 q3 q4 q5 q6 q7 q8 q9 f6 lt5 hx0 SB O9 R9 K9 G9 V9 W9
  refine (int_any x0 p L r6.2.1 r6.2.2 most (by omega) R10.byte R10).mono ?_
  rintro e x1 ⟨rfl, R11, G11⟩
  obtain ⟨r7, e7⟩ : ∃ r, r = intS r6.2.1 r6.2.2 most := ⟨_, rfl⟩
  have E7 : Hid (r7 = intS r6.2.1 r6.2.2 most) := e7
  rw [← e7] at R11 ⊢
  have K11 := (G11.block N (Array.getElem?_eq_some_iff.1 K10).1 (by simp; omega)).trans K10
  have O11 := O10.grown G11 (by omega)
  have V11 : Sl x1 ao5 n5 cap5 r4.1 := Sl.kept (b := ⟨ao5, n5, cap5, r4.1⟩) V10 (fun x hx => by
   have hlt := Sl.blk_lt (b := ⟨ao5, n5, cap5, r4.1⟩) V10 hx
   obtain ⟨a, ha, hn, rfl⟩ := hx
   exact G11.block _ hlt (by have := F5 a ha; simp; omega))
  have W11 : Sl x1 ao7 n7 cap7 r5.1 := Sl.kept (b := ⟨ao7, n7, cap7, r5.1⟩) W10 (fun x hx => by
   have hlt := Sl.blk_lt (b := ⟨ao7, n7, cap7, r5.1⟩) W10 hx
   obtain ⟨a, ha, hn, rfl⟩ := hx
   exact G11.block _ hlt (by have := F7 a ha; simp; omega))
  have G11 := grown_trans G10 G11
  clear e7 K10 R10 G10 O10 V10 W10
  have HH : Hid (sT most xs k = ((⟨r1.1, r2.1.1, r2.1.2.1, r2.1.2.2.1, r2.1.2.2.2, r3.1, r4.1, r5.1, r6.1⟩, r7.1), r7.2)) := by
   have e1 := E1.out
   have e2 := E2.out
   have e3 := E3.out
   have e4 := E4.out
   have e5 := E5.out
   have e6 := E6.out
   have e7 := E7.out
   show _ = _
   subst e7 e6 e5 e4 e3 e2 e1
   rfl
  go_wp2
  have HNw := HN.out
  refine ⟨M, { oA with va := ⟨ao5, n5, cap5, r4.1⟩, wa := ⟨ao7, n7, cap7, r5.1⟩, has := r6.1 }, r7.1, .slice none 0 0, [], _, _, _, _, _, _, _, _, _, _, _, _, _, _, _, _, _, _, _, _, _, _, _, _, _, _, _, _, _, _, _, _, rfl, ?_, ?_, ?_⟩
  ·rw [HH.out]
   refine ⟨R11, O11, K11, World.ownsRow_nil _ _ _ _, ?_, fun y hy => by simp at hy, ?_, rfl, G11, Nat.zero_le _, by omega⟩
   ·rw [HO.out]
    exact ⟨⟨by show (-9223372036854775808 : Int) ≤ (r1.1 : Int); omega, by show (r1.1 : Int) ≤ 9223372036854775807; omega⟩, Nat.le_trans Z2.1 (by decide), Nat.le_trans Z2.2.1 (by decide), Nat.le_trans Z2.2.2.1 (by decide), Z2.2.2.2, Nat.le_trans Z3 (by decide), V11, W11, Nat.le_refl _, Nat.zero_le _, fun _ => ⟨rfl, rfl⟩⟩
   ·intro x hx
    refine ⟨.inr ?_, by simp [Value.ownBlock]⟩
    rcases hx with (hx | hx) | ⟨y, hy, _⟩
    ·obtain ⟨a, ha, _, rfl⟩ := hx
     exact F5 a ha
    ·obtain ⟨a, ha, _, rfl⟩ := hx
     exact F7 a ha
    ·simp at hy
  ·rw [HH.out, HO.out]
   rfl
  ·rw [HH.out]
 ·rintro a' V ⟨M, o, parts, v, l, u7, u8, u9, u10, u11, u12, u13, u14, u15, u16, u17, u18, u19, u20, u21, u22, u23, u24, u25, u26, u27, u28, u29, u30, u31, u32, u33, u34, u35, u36, u37, u38, rfl, inv, hos, hparts⟩
  clear G0 R0 K0
  obtain ⟨ao, cap, rfl, OL⟩ := OWL.own inv.own inv.oks
  have hpos := inv.pos
  have hle := inv.le
  have hp8 : parts ≤ 8 := by
   rw [hparts]
   have : (sT most xs k).1.2 ≤ most := intS_le _ _ most
   omega
  have hpm : parts ≤ most := by
   rw [hparts]
   exact intS_le _ _ most
  have HOS : Hid (o.s = (sT most xs k).1.1) := hos
  have HPA : Hid (parts = (sT most xs k).1.2) := hparts
  clear hos hparts
  obtain ⟨q0, q1, q2, q3, q4, q5, q6, q7, q8, q9⟩ := inv.ov.cs
  by_cases hl : l.length = parts
  ·have i1 : ((l.length : Int) == (parts : Int)) = true := by simp; omega
   have n0 : V.cell? ⟨N, 0, none⟩ = some (.int .i64 0) := cell_of_row V N 0 _ _ _ inv.res
   have n1 : V.cell? ⟨N, 1, none⟩ = some (.string ⟨#[]⟩) := cell_of_row V N 1 _ _ _ inv.res
   have n2 : V.cell? ⟨N, 2, none⟩ = some (.string ⟨#[]⟩) := cell_of_row V N 2 _ _ _ inv.res
   have n3 : V.cell? ⟨N, 3, none⟩ = some (.string ⟨#[]⟩) := cell_of_row V N 3 _ _ _ inv.res
   have n4 : V.cell? ⟨N, 4, none⟩ = some (.int .u64 0) := cell_of_row V N 4 _ _ _ inv.res
   have n5 : V.cell? ⟨N, 5, none⟩ = some (.string ⟨#[]⟩) := cell_of_row V N 5 _ _ _ inv.res
   have n6 : V.cell? ⟨N, 6, none⟩ = some (.slice none 0 0) := cell_of_row V N 6 _ _ _ inv.res
   have n7 : V.cell? ⟨N, 7, none⟩ = some (.slice none 0 0) := cell_of_row V N 7 _ _ _ inv.res
   have n8 : V.cell? ⟨N, 8, none⟩ = some (.bool false) := cell_of_row V N 8 _ _ _ inv.res
   have n9 : V.cell? ⟨N, 9, none⟩ = some (.slice none 0 0) := cell_of_row V N 9 _ _ _ inv.res
   have g0 : V.frozen? ⟨N, 0, none⟩ = false := frozen_of_row V N 0 _ _ inv.res
   have g1 : V.frozen? ⟨N, 1, none⟩ = false := frozen_of_row V N 1 _ _ inv.res
   have g2 : V.frozen? ⟨N, 2, none⟩ = false := frozen_of_row V N 2 _ _ inv.res
   have g3 : V.frozen? ⟨N, 3, none⟩ = false := frozen_of_row V N 3 _ _ inv.res
   have g4 : V.frozen? ⟨N, 4, none⟩ = false := frozen_of_row V N 4 _ _ inv.res
   have g5 : V.frozen? ⟨N, 5, none⟩ = false := frozen_of_row V N 5 _ _ inv.res
   have g6 : V.frozen? ⟨N, 6, none⟩ = false := frozen_of_row V N 6 _ _ inv.res
   have g7 : V.frozen? ⟨N, 7, none⟩ = false := frozen_of_row V N 7 _ _ inv.res
   have g8 : V.frozen? ⟨N, 8, none⟩ = false := frozen_of_row V N 8 _ _ inv.res
   have g9 : V.frozen? ⟨N, 9, none⟩ = false := frozen_of_row V N 9 _ _ inv.res
   have SB : ((((((((((V.setCell ⟨N, 0, none⟩ (.int .i64 o.kind)).setCell ⟨N, 1, none⟩ (.string o.row)).setCell ⟨N, 2, none⟩ (.string o.fam)).setCell ⟨N, 3, none⟩ (.string o.qual)).setCell ⟨N, 4, none⟩ (.int .u64 o.time)).setCell ⟨N, 5, none⟩ (.string o.to)).setCell ⟨N, 6, none⟩ (.slice o.va.ao o.va.n o.va.cap)).setCell ⟨N, 7, none⟩ (.slice o.wa.ao o.wa.n o.wa.cap)).setCell ⟨N, 8, none⟩ (.bool o.has)).setCell ⟨N, 9, none⟩ (.slice ao l.length cap)).heap.size = V.heap.size ∧ ∀ j, j ≠ N → ((((((((((V.setCell ⟨N, 0, none⟩ (.int .i64 o.kind)).setCell ⟨N, 1, none⟩ (.string o.row)).setCell ⟨N, 2, none⟩ (.string o.fam)).setCell ⟨N, 3, none⟩ (.string o.qual)).setCell ⟨N, 4, none⟩ (.int .u64 o.time)).setCell ⟨N, 5, none⟩ (.string o.to)).setCell ⟨N, 6, none⟩ (.slice o.va.ao o.va.n o.va.cap)).setCell ⟨N, 7, none⟩ (.slice o.wa.ao o.wa.n o.wa.cap)).setCell ⟨N, 8, none⟩ (.bool o.has)).setCell ⟨N, 9, none⟩ (.slice ao l.length cap)).heap[j]? = V.heap[j]? := (SameBut.trans (SameBut.trans (SameBut.trans (SameBut.trans (SameBut.trans (SameBut.trans (SameBut.trans (SameBut.trans (SameBut.trans (SameBut.trans ⟨rfl, fun _ _ => rfl⟩ (same_set V N 0 _)) (same_set _ N 1 _)) (same_set _ N 2 _)) (same_set _ N 3 _)) (same_set _ N 4 _)) (same_set _ N 5 _)) (same_set _ N 6 _)) (same_set _ N 7 _)) (same_set _ N 8 _)) (same_set _ N 9 _))
   have kp : ∀ x, (x < 0 ∨ M < x) → x ≠ N := fun x hx => by omega
   have okV : o.ok ((((((((((V.setCell ⟨N, 0, none⟩ (.int .i64 o.kind)).setCell ⟨N, 1, none⟩ (.string o.row)).setCell ⟨N, 2, none⟩ (.string o.fam)).setCell ⟨N, 3, none⟩ (.string o.qual)).setCell ⟨N, 4, none⟩ (.int .u64 o.time)).setCell ⟨N, 5, none⟩ (.string o.to)).setCell ⟨N, 6, none⟩ (.slice o.va.ao o.va.n o.va.cap)).setCell ⟨N, 7, none⟩ (.slice o.wa.ao o.wa.n o.wa.cap)).setCell ⟨N, 8, none⟩ (.bool o.has)).setCell ⟨N, 9, none⟩ (.slice ao l.length cap)) := inv.ok.kept fun x hx => SB.2 x (kp x (inv.far x (.inl hx)).1)
   have oksV : ∀ y ∈ l, y.ok ((((((((((V.setCell ⟨N, 0, none⟩ (.int .i64 o.kind)).setCell ⟨N, 1, none⟩ (.string o.row)).setCell ⟨N, 2, none⟩ (.string o.fam)).setCell ⟨N, 3, none⟩ (.string o.qual)).setCell ⟨N, 4, none⟩ (.int .u64 o.time)).setCell ⟨N, 5, none⟩ (.string o.to)).setCell ⟨N, 6, none⟩ (.slice o.va.ao o.va.n o.va.cap)).setCell ⟨N, 7, none⟩ (.slice o.wa.ao o.wa.n o.wa.cap)).setCell ⟨N, 8, none⟩ (.bool o.has)).setCell ⟨N, 9, none⟩ (.slice ao l.length cap)) := fun y hy => (inv.oks y hy).kept fun x hx => SB.2 x (kp x (inv.far x (.inr ⟨y, hy, hx⟩)).1)
   have ownV : ((((((((((V.setCell ⟨N, 0, none⟩ (.int .i64 o.kind)).setCell ⟨N, 1, none⟩ (.string o.row)).setCell ⟨N, 2, none⟩ (.string o.fam)).setCell ⟨N, 3, none⟩ (.string o.qual)).setCell ⟨N, 4, none⟩ (.int .u64 o.time)).setCell ⟨N, 5, none⟩ (.string o.to)).setCell ⟨N, 6, none⟩ (.slice o.va.ao o.va.n o.va.cap)).setCell ⟨N, 7, none⟩ (.slice o.wa.ao o.wa.n o.wa.cap)).setCell ⟨N, 8, none⟩ (.bool o.has)).setCell ⟨N, 9, none⟩ (.slice ao l.length cap)).ownsRow (M + 1) 58 10 (.slice ao l.length cap) l.length (cellsO l) := own_kept inv.own fun g hg => SB.2 g (by have := inv.ownlt hg; omega)
   have rdV : R ((((((((((V.setCell ⟨N, 0, none⟩ (.int .i64 o.kind)).setCell ⟨N, 1, none⟩ (.string o.row)).setCell ⟨N, 2, none⟩ (.string o.fam)).setCell ⟨N, 3, none⟩ (.string o.qual)).setCell ⟨N, 4, none⟩ (.int .u64 o.time)).setCell ⟨N, 5, none⟩ (.string o.to)).setCell ⟨N, 6, none⟩ (.slice o.va.ao o.va.n o.va.cap)).setCell ⟨N, 7, none⟩ (.slice o.wa.ao o.wa.n o.wa.cap)).setCell ⟨N, 8, none⟩ (.bool o.has)).setCell ⟨N, 9, none⟩ (.slice ao l.length cap)) p L (repT (sT 0) l.length (sT most xs k).2.1 (sT most xs k).2.2).2.1 (repT (sT 0) l.length (sT most xs k).2.1 (sT most xs k).2.2).2.2 := by
    have r := inv.rd
    have r := r.own (q := N) (i := 0) (v := .int .i64 o.kind) (by omega) (by omega)
    have r := r.own (q := N) (i := 1) (v := .string o.row) (by omega) (by omega)
    have r := r.own (q := N) (i := 2) (v := .string o.fam) (by omega) (by omega)
    have r := r.own (q := N) (i := 3) (v := .string o.qual) (by omega) (by omega)
    have r := r.own (q := N) (i := 4) (v := .int .u64 o.time) (by omega) (by omega)
    have r := r.own (q := N) (i := 5) (v := .string o.to) (by omega) (by omega)
    have r := r.own (q := N) (i := 6) (v := .slice o.va.ao o.va.n o.va.cap) (by omega) (by omega)
    have r := r.own (q := N) (i := 7) (v := .slice o.wa.ao o.wa.n o.wa.cap) (by omega) (by omega)
    have r := r.own (q := N) (i := 8) (v := .bool o.has) (by omega) (by omega)
    have r := r.own (q := N) (i := 9) (v := .slice ao l.length cap) (by omega) (by omega)
    exact r
   have grV : w.grownBy ((((((((((V.setCell ⟨N, 0, none⟩ (.int .i64 o.kind)).setCell ⟨N, 1, none⟩ (.string o.row)).setCell ⟨N, 2, none⟩ (.string o.fam)).setCell ⟨N, 3, none⟩ (.string o.qual)).setCell ⟨N, 4, none⟩ (.int .u64 o.time)).setCell ⟨N, 5, none⟩ (.string o.to)).setCell ⟨N, 6, none⟩ (.slice o.va.ao o.va.n o.va.cap)).setCell ⟨N, 7, none⟩ (.slice o.wa.ao o.wa.n o.wa.cap)).setCell ⟨N, 8, none⟩ (.bool o.has)).setCell ⟨N, 9, none⟩ (.slice ao l.length cap)) (some p) := by
    have r := inv.gr
    have r := grown_own (q := N) (i := 0) (v := .int .i64 o.kind) r hpos.2.2.2.1
    have r := grown_own (q := N) (i := 1) (v := .string o.row) r hpos.2.2.2.1
    have r := grown_own (q := N) (i := 2) (v := .string o.fam) r hpos.2.2.2.1
    have r := grown_own (q := N) (i := 3) (v := .string o.qual) r hpos.2.2.2.1
    have r := grown_own (q := N) (i := 4) (v := .int .u64 o.time) r hpos.2.2.2.1
    have r := grown_own (q := N) (i := 5) (v := .string o.to) r hpos.2.2.2.1
    have r := grown_own (q := N) (i := 6) (v := .slice o.va.ao o.va.n o.va.cap) r hpos.2.2.2.1
    have r := grown_own (q := N) (i := 7) (v := .slice o.wa.ao o.wa.n o.wa.cap) r hpos.2.2.2.1
    have r := grown_own (q := N) (i := 8) (v := .bool o.has) r hpos.2.2.2.1
    have r := grown_own (q := N) (i := 9) (v := .slice ao l.length cap) r hpos.2.2.2.1
    exact r
   have lN : N < V.heap.size := (Array.getElem?_eq_some_iff.1 inv.res).1
   have HI : Hid (TakeInv 0 w p L N M parts o (sT most xs k).2.1 (sT most xs k).2.2 V (.slice ao l.length cap) l) := inv
   obtain ⟨ao2, cap2, ee, OLV⟩ := OWL.own ownV oksV
   have HF : Hid (o.s = (sT most xs k).1.1 ∧ parts = (sT most xs k).1.2 ∧ l.length = parts) := ⟨HOS.out, HPA.out, hl⟩
   have okP : OA.ok ⟨o.kind, o.row, o.fam, o.qual, o.time, o.to, o.va, o.wa, o.has, ao, l.length, cap⟩ ((((((((((V.setCell ⟨N, 0, none⟩ (.int .i64 o.kind)).setCell ⟨N, 1, none⟩ (.string o.row)).setCell ⟨N, 2, none⟩ (.string o.fam)).setCell ⟨N, 3, none⟩ (.string o.qual)).setCell ⟨N, 4, none⟩ (.int .u64 o.time)).setCell ⟨N, 5, none⟩ (.string o.to)).setCell ⟨N, 6, none⟩ (.slice o.va.ao o.va.n o.va.cap)).setCell ⟨N, 7, none⟩ (.slice o.wa.ao o.wa.n o.wa.cap)).setCell ⟨N, 8, none⟩ (.bool o.has)).setCell ⟨N, 9, none⟩ (.slice ao l.length cap)) := ⟨okV.kind, okV.row, okV.fam, okV.qual, okV.time, okV.to, okV.va, okV.wa, OL.le, OL.mx, OL.nil⟩
   have OLW : OWL ((((((((((V.setCell ⟨N, 0, none⟩ (.int .i64 o.kind)).setCell ⟨N, 1, none⟩ (.string o.row)).setCell ⟨N, 2, none⟩ (.string o.fam)).setCell ⟨N, 3, none⟩ (.string o.qual)).setCell ⟨N, 4, none⟩ (.int .u64 o.time)).setCell ⟨N, 5, none⟩ (.string o.to)).setCell ⟨N, 6, none⟩ (.slice o.va.ao o.va.n o.va.cap)).setCell ⟨N, 7, none⟩ (.slice o.wa.ao o.wa.n o.wa.cap)).setCell ⟨N, 8, none⟩ (.bool o.has)).setCell ⟨N, 9, none⟩ (.slice ao l.length cap)) 0 ao l.length cap l := by
    simp only [Value.slice.injEq] at ee
    obtain ⟨rfl, _, rfl⟩ := ee
    exact OLV
   clear inv okV oksV ownV OLV ee SB hl
   go_wp2
   simp only [Exit.jump]
   refine bodyPost_ret (v := .agg #[.int .i64 o.kind, .string o.row, .string o.fam, .string o.qual, .int .u64 o.time, .string o.to, .slice o.va.ao o.va.n o.va.cap, .slice o.wa.ao o.wa.n o.wa.cap, .bool o.has, .slice ao l.length cap]) (by simp [results, Tryz.results108, go_sem, n0, n1, n2, n3, n4, n5, n6, n7, n8, n9]) rfl ?_
   refine ⟨⟨o.kind, o.row, o.fam, o.qual, o.time, o.to, o.va, o.wa, o.has, ao, l.length, cap⟩, l, rfl, okP, OLW, ?_, HF.out.1, ?_, ?_⟩
   ·intro x hx
    have h0 := HI.out.pos
    rcases hx with hx | hx | hx
    ·have := (HI.out.far x (.inl hx)).1
     omega
    ·obtain ⟨a, ha, hn, rfl⟩ := hx
     have ha : ao = some a := ha
     have := HI.out.ownlt (g := a.block) (by rw [ha]; rfl)
     exact .inr (by omega)
    ·have := (HI.out.far x (.inr hx)).1
     omega
   ·rw [← HF.out.2.1, ← HF.out.2.2]
    exact HI.out.thr
   ·rw [← HF.out.2.1, ← HF.out.2.2]
    exact ⟨rdV, grV⟩
  ·have i1 : ((l.length : Int) == (parts : Int)) = false := by simp; omega
   obtain ⟨i0, hi, hz0, hz1, hz2⟩ := info_parts opInfo
   go_wp2_with fail
   have inv0 := inv.drew
   obtain ⟨T, hT⟩ : ∃ T, T = repT (sT 0) l.length (sT most xs k).2.1 (sT most xs k).2.2 := ⟨_, rfl⟩
   refine wp_region_noPanic ?_
   refine wp_region_held_drew (S := fun _ => True) (by kernel_rfl) trivial (fun _ => ?_)
   have HQ9 : Hid (V.cell? ⟨M, 9, none⟩ = some (.slice ao l.length cap)) := q9
   obtain ⟨v0, hv0⟩ : ∃ v, v = V.drew := ⟨_, rfl⟩
   rw [← hv0] at inv0 ⊢
   have RC0 := rec (by omega) v0 T.2.1 T.2.2 (by rw [hT]; exact inv0.rd)
   have HI : Hid (TakeInv 0 w p L N M parts o (sT most xs k).2.1 (sT most xs k).2.2 v0 (.slice ao l.length cap) l) := inv0
   have CC : Calls Tryz.prog 108 #[.pointer (some ⟨p, 0, none⟩), .int .i64 0] v0 fun e w' => ∃ v, e = .returned v ∧ (fun v w' => ∃ y : OA, v = y.val ∧ y.ok w' ∧ (∀ x, y.blks x → x < 0 ∨ v0.heap.size ≤ x) ∧ sn0 y = (sT 0 T.2.1 T.2.2).1 ∧ R w' p L (sT 0 T.2.1 T.2.2).2.1 (sT 0 T.2.1 T.2.2).2.2 ∧ v0.grownBy w' (some p)) v w' := RC0.mono fun e w' h => part_post h
   have HT : Hid (T = repT (sT 0) l.length (sT most xs k).2.1 (sT most xs k).2.2) := hT
   have HCC : Hid (Calls _ _ _ _ _) := CC
   clear hv0 inv inv0 RC0 hT CC q0 q1 q2 q3 q4 q5 q6 q7 q8 q9 rec OL
   refine hr_take 0 (some 32) (.pointer (some ⟨M, 9, none⟩)) rfl rfl (by kernel_rfl) (by kernel_rfl) (by kernel_rfl) rfl (fun W hW => by go_simp) trivial ?_
   simp only [FL]
   refine hr_take 2 (some 34) (.pointer (some ⟨p, 0, none⟩)) rfl rfl (by kernel_rfl) (by kernel_rfl) (by kernel_rfl) rfl (fun W hW => by go_simp) trivial ?_
   simp only [FL]
   refine hr_two (i := 1) (j := 3) (by kernel_rfl) ?_ ?_
   ·have c9 : v0.cell? ⟨M, 9, none⟩ = some (.slice ao l.length cap) := HI.out.ov.cs.c9
    refine op_do 1 (some 33) (.slice ao l.length cap) rfl rfl rfl (w' := v0) (by go_simp) trivial ?_
    simp only [FL]
    clear c9
    refine hr_call 3 (some 35) 108 #[.pointer (some ⟨p, 0, none⟩), .int .i64 0] rfl rfl (by kernel_rfl) rfl (by go_simp) (fun v w' => ∃ y : OA, v = y.val ∧ y.ok w' ∧ (∀ x, y.blks x → x < 0 ∨ v0.heap.size ≤ x) ∧ sn0 y = (sT 0 T.2.1 T.2.2).1 ∧ R w' p L (sT 0 T.2.1 T.2.2).2.1 (sT 0 T.2.1 T.2.2).2.2 ∧ v0.grownBy w' (some p)) HCC.out ?_
    rintro vv V1 ⟨y, rfl, y1, y2, y3, y4, y5⟩
    rw [HT.out] at y3 y4
    refine ⟨trivial, ?_⟩
    unfold OA.val
    simp only [FL]
    obtain ⟨g, hg⟩ : ∃ g, g = V1.heap.size := ⟨_, rfl⟩
    obtain ⟨V2, hV2⟩ : ∃ W, W = V1.alloc (.cells #[.int .i64 y.kind, .string y.row, .string y.fam, .string y.qual, .int .u64 y.time, .string y.to, .slice y.va.ao y.va.n y.va.cap, .slice y.wa.ao y.wa.n y.wa.cap, .bool y.has, .slice y.so y.sn y.sc] 58) := ⟨_, rfl⟩
    have N2 : V2.heap[g]? = some (.cells #[.int .i64 y.kind, .string y.row, .string y.fam, .string y.qual, .int .u64 y.time, .string y.to, .slice y.va.ao y.va.n y.va.cap, .slice y.wa.ao y.wa.n y.wa.cap, .bool y.has, .slice y.so y.sn y.sc] 58) := by rw [hV2, hg]; exact heap_alloc_new V1 _
    have B2 : Below V1.heap.size V1 V2 := by rw [hV2]; exact (Below.refl _ _).alloc (Nat.le_refl _) _
    refine hr_do 4 (some 36) (.slice (some ⟨g, 0, none⟩) 1 1) rfl rfl (by kernel_rfl) rfl (w' := V2) (by rw [hV2, hg]; go_simp) trivial ?_
    simp only [FL]
    have HV2 : Hid (V2 = V1.alloc (.cells #[.int .i64 y.kind, .string y.row, .string y.fam, .string y.qual, .int .u64 y.time, .string y.to, .slice y.va.ao y.va.n y.va.cap, .slice y.wa.ao y.wa.n y.wa.cap, .bool y.has, .slice y.so y.sn y.sc] 58)) := hV2
    clear hV2 hg
    have ownV1 : V1.ownsRow (M + 1) 58 10 (.slice ao l.length cap) l.length (cellsO l) := own_kept HI.out.own fun x hx => y5.block x (HI.out.ownlt hx).2 (by have := HI.out.ownlt hx; simp; omega)
    have ownV2 : V2.ownsRow (M + 1) 58 10 (.slice ao l.length cap) l.length (cellsO l) := own_kept ownV1 fun x hx => B2.block x (by have := HI.out.ownlt hx; have := y5.size; omega)
    refine hr_own 5 (some 37) rfl rfl (by kernel_rfl) rfl (.tmp 33) (.tmp 36) 56 rfl (M + 1) 58 i0 _ 10 160 Tryz.underlying56 hi hz0 hz1 hz2 rfl (by decide) (.slice ao l.length cap) l.length (cellsO l) rfl ownV2 ⟨g, 0, none⟩ 1 1 y.cells rfl rfl (fun j u hu => by rw [Addr.add_lit, Nat.zero_add]; exact (cell_of_row V2 g j #[.int .i64 y.kind, .string y.row, .string y.fam, .string y.qual, .int .u64 y.time, .string y.to, .slice y.va.ao y.va.n y.va.cap, .slice y.wa.ao y.wa.n y.wa.cap, .bool y.has, .slice y.so y.sn y.sc] _ (0, 0) N2).trans (show (y.cells.toArray)[j]? = some u from by rw [List.getElem?_toArray]; exact hu)) (y_one y) (by unfold maxLen; omega) (by omega) (by have := HI.out.ov.lt; have := y5.size; have := B2.size; omega) ?_
    intro v' V3 O3 G3 H3
    refine ⟨trivial, ?_⟩
    simp only [FL]
    rw [HV2.out] at G3 H3
    have ST := HI.out.step (by have := HI.out.le; omega) y1 y2 y3 y4 y5 O3 G3 H3
    have ovm := HI.out.ov
    have m3 : V3.heap[M]? = _ := ((G3.block M (by have := ovm.lt; have := y5.size; simp; omega) (fun e => by have := HI.out.ownlt e.symm; omega)).trans (heap_alloc_old V1 _ (by have := ovm.lt; have := y5.size; omega))).trans ((y5.block M ovm.lt (by simp; omega)).trans ovm)
    have d9 : V3.cell? ⟨M, 9, none⟩ = some (.slice ao l.length cap) := cell_of_row V3 M 9 _ _ _ m3
    have z9 : V3.frozen? ⟨M, 9, none⟩ = false := frozen_of_row V3 M 9 _ _ m3
    refine hr_take 6 (some 38) (.pointer (some ⟨M, 9, none⟩)) rfl rfl (by kernel_rfl) (by kernel_rfl) (by kernel_rfl) rfl (fun W hW => by go_simp) trivial ?_
    simp only [FL]
    have mm := OWL.own ST.own ST.oks
    rw [List.length_append, List.length_singleton] at mm
    obtain ⟨ao3, cap3, rfl, _⟩ := mm
    refine hr_skip 7 none rfl rfl (by kernel_rfl) rfl (w' := V3.setCell ⟨M, 9, none⟩ (.slice ao3 (l.length + 1) cap3)) (by go_simp) trivial ?_
    simp only [Act.put]
    refine wpAnyH_done (by kernel_rfl) ?_ _
    refine NoPanic.normal ?_
    have c3 := ST.ov.cs.c9
    have HST : Hid _ := ST
    clear ST ownV1 ownV2 O3 G3 H3 d9 z9 m3 ovm HV2 N2 B2
    go_wp2
    go_step3
    refine ⟨rfl, ⟨M, o, parts, _, l ++ [y], _, _, _, _, _, _, _, _, _, _, _, _, _, _, _, _, _, _, _, _, _, _, _, _, _, _, _, _, _, _, _, _, rfl, HST.out, HOS.out, HPA.out⟩, ?_⟩
    unfold TakeM
    simp only [Array.getD, List.size_toArray, List.length_cons]
    simp [intOf, ptrOf, lenAt, c3, HQ9.out]
    omega
   ·refine op_call 3 (some 35) 108 #[.pointer (some ⟨p, 0, none⟩), .int .i64 0] rfl rfl rfl (by go_simp) (fun v w' => ∃ y : OA, v = y.val ∧ y.ok w' ∧ (∀ x, y.blks x → x < 0 ∨ v0.heap.size ≤ x) ∧ sn0 y = (sT 0 T.2.1 T.2.2).1 ∧ R w' p L (sT 0 T.2.1 T.2.2).2.1 (sT 0 T.2.1 T.2.2).2.2 ∧ v0.grownBy w' (some p)) HCC.out ?_
    rintro vv V1 ⟨y, rfl, y1, y2, y3, y4, y5⟩
    rw [HT.out] at y3 y4
    refine ⟨trivial, ?_⟩
    unfold OA.val
    simp only [FL]
    refine hr_two (i := 1) (j := 4) (by kernel_rfl) ?_ ?_
    ·have c9 : V1.cell? ⟨M, 9, none⟩ = some (.slice ao l.length cap) := (World.cell?_of_block (a := ⟨M, 9, none⟩) (y5.block M HI.out.ov.lt (by simp; omega))).trans HI.out.ov.cs.c9
     refine op_do 1 (some 33) (.slice ao l.length cap) rfl rfl rfl (w' := V1) (by go_simp) trivial ?_
     simp only [FL]
     clear c9
     obtain ⟨g, hg⟩ : ∃ g, g = V1.heap.size := ⟨_, rfl⟩
     obtain ⟨V2, hV2⟩ : ∃ W, W = V1.alloc (.cells #[.int .i64 y.kind, .string y.row, .string y.fam, .string y.qual, .int .u64 y.time, .string y.to, .slice y.va.ao y.va.n y.va.cap, .slice y.wa.ao y.wa.n y.wa.cap, .bool y.has, .slice y.so y.sn y.sc] 58) := ⟨_, rfl⟩
     have N2 : V2.heap[g]? = some (.cells #[.int .i64 y.kind, .string y.row, .string y.fam, .string y.qual, .int .u64 y.time, .string y.to, .slice y.va.ao y.va.n y.va.cap, .slice y.wa.ao y.wa.n y.wa.cap, .bool y.has, .slice y.so y.sn y.sc] 58) := by rw [hV2, hg]; exact heap_alloc_new V1 _
     have B2 : Below V1.heap.size V1 V2 := by rw [hV2]; exact (Below.refl _ _).alloc (Nat.le_refl _) _
     refine hr_do 4 (some 36) (.slice (some ⟨g, 0, none⟩) 1 1) rfl rfl (by kernel_rfl) rfl (w' := V2) (by rw [hV2, hg]; go_simp) trivial ?_
     simp only [FL]
     have HV2 : Hid (V2 = V1.alloc (.cells #[.int .i64 y.kind, .string y.row, .string y.fam, .string y.qual, .int .u64 y.time, .string y.to, .slice y.va.ao y.va.n y.va.cap, .slice y.wa.ao y.wa.n y.wa.cap, .bool y.has, .slice y.so y.sn y.sc] 58)) := hV2
     clear hV2 hg
     have ownV1 : V1.ownsRow (M + 1) 58 10 (.slice ao l.length cap) l.length (cellsO l) := own_kept HI.out.own fun x hx => y5.block x (HI.out.ownlt hx).2 (by have := HI.out.ownlt hx; simp; omega)
     have ownV2 : V2.ownsRow (M + 1) 58 10 (.slice ao l.length cap) l.length (cellsO l) := own_kept ownV1 fun x hx => B2.block x (by have := HI.out.ownlt hx; have := y5.size; omega)
     refine hr_own 5 (some 37) rfl rfl (by kernel_rfl) rfl (.tmp 33) (.tmp 36) 56 rfl (M + 1) 58 i0 _ 10 160 Tryz.underlying56 hi hz0 hz1 hz2 rfl (by decide) (.slice ao l.length cap) l.length (cellsO l) rfl ownV2 ⟨g, 0, none⟩ 1 1 y.cells rfl rfl (fun j u hu => by rw [Addr.add_lit, Nat.zero_add]; exact (cell_of_row V2 g j #[.int .i64 y.kind, .string y.row, .string y.fam, .string y.qual, .int .u64 y.time, .string y.to, .slice y.va.ao y.va.n y.va.cap, .slice y.wa.ao y.wa.n y.wa.cap, .bool y.has, .slice y.so y.sn y.sc] _ (0, 0) N2).trans (show (y.cells.toArray)[j]? = some u from by rw [List.getElem?_toArray]; exact hu)) (y_one y) (by unfold maxLen; omega) (by omega) (by have := HI.out.ov.lt; have := y5.size; have := B2.size; omega) ?_
     intro v' V3 O3 G3 H3
     refine ⟨trivial, ?_⟩
     simp only [FL]
     rw [HV2.out] at G3 H3
     have ST := HI.out.step (by have := HI.out.le; omega) y1 y2 y3 y4 y5 O3 G3 H3
     have ovm := HI.out.ov
     have m3 : V3.heap[M]? = _ := ((G3.block M (by have := ovm.lt; have := y5.size; simp; omega) (fun e => by have := HI.out.ownlt e.symm; omega)).trans (heap_alloc_old V1 _ (by have := ovm.lt; have := y5.size; omega))).trans ((y5.block M ovm.lt (by simp; omega)).trans ovm)
     have d9 : V3.cell? ⟨M, 9, none⟩ = some (.slice ao l.length cap) := cell_of_row V3 M 9 _ _ _ m3
     have z9 : V3.frozen? ⟨M, 9, none⟩ = false := frozen_of_row V3 M 9 _ _ m3
     refine hr_take 6 (some 38) (.pointer (some ⟨M, 9, none⟩)) rfl rfl (by kernel_rfl) (by kernel_rfl) (by kernel_rfl) rfl (fun W hW => by go_simp) trivial ?_
     simp only [FL]
     have mm := OWL.own ST.own ST.oks
     rw [List.length_append, List.length_singleton] at mm
     obtain ⟨ao3, cap3, rfl, _⟩ := mm
     refine hr_skip 7 none rfl rfl (by kernel_rfl) rfl (w' := V3.setCell ⟨M, 9, none⟩ (.slice ao3 (l.length + 1) cap3)) (by go_simp) trivial ?_
     simp only [Act.put]
     refine wpAnyH_done (by kernel_rfl) ?_ _
     refine NoPanic.normal ?_
     have c3 := ST.ov.cs.c9
     have HST : Hid _ := ST
     clear ST ownV1 ownV2 O3 G3 H3 d9 z9 m3 ovm HV2 N2 B2
     go_wp2
     go_step3
     refine ⟨rfl, ⟨M, o, parts, _, l ++ [y], _, _, _, _, _, _, _, _, _, _, _, _, _, _, _, _, _, _, _, _, _, _, _, _, _, _, _, _, _, _, _, _, rfl, HST.out, HOS.out, HPA.out⟩, ?_⟩
     unfold TakeM
     simp only [Array.getD, List.size_toArray, List.length_cons]
     simp [intOf, ptrOf, lenAt, c3, HQ9.out]
     omega
    ·obtain ⟨g, hg⟩ : ∃ g, g = V1.heap.size := ⟨_, rfl⟩
     obtain ⟨V2, hV2⟩ : ∃ W, W = V1.alloc (.cells #[.int .i64 y.kind, .string y.row, .string y.fam, .string y.qual, .int .u64 y.time, .string y.to, .slice y.va.ao y.va.n y.va.cap, .slice y.wa.ao y.wa.n y.wa.cap, .bool y.has, .slice y.so y.sn y.sc] 58) := ⟨_, rfl⟩
     have N2 : V2.heap[g]? = some (.cells #[.int .i64 y.kind, .string y.row, .string y.fam, .string y.qual, .int .u64 y.time, .string y.to, .slice y.va.ao y.va.n y.va.cap, .slice y.wa.ao y.wa.n y.wa.cap, .bool y.has, .slice y.so y.sn y.sc] 58) := by rw [hV2, hg]; exact heap_alloc_new V1 _
     have B2 : Below V1.heap.size V1 V2 := by rw [hV2]; exact (Below.refl _ _).alloc (Nat.le_refl _) _
     refine op_do 4 (some 36) (.slice (some ⟨g, 0, none⟩) 1 1) rfl rfl rfl (w' := V2) (by rw [hV2, hg]; go_simp) trivial ?_
     simp only [FL]
     have HV2 : Hid (V2 = V1.alloc (.cells #[.int .i64 y.kind, .string y.row, .string y.fam, .string y.qual, .int .u64 y.time, .string y.to, .slice y.va.ao y.va.n y.va.cap, .slice y.wa.ao y.wa.n y.wa.cap, .bool y.has, .slice y.so y.sn y.sc] 58)) := hV2
     clear hV2 hg
     have c9 : V2.cell? ⟨M, 9, none⟩ = some (.slice ao l.length cap) := (B2.cell (World.block_lt_of_cell? V1 ⟨M, 9, none⟩ ((World.cell?_of_block (a := ⟨M, 9, none⟩) (y5.block M HI.out.ov.lt (by simp; omega))).trans HI.out.ov.cs.c9))).trans ((World.cell?_of_block (a := ⟨M, 9, none⟩) (y5.block M HI.out.ov.lt (by simp; omega))).trans HI.out.ov.cs.c9)
     refine hr_do 1 (some 33) (.slice ao l.length cap) rfl rfl (by kernel_rfl) rfl (w' := V2) (by go_simp) trivial ?_
     simp only [FL]
     clear c9
     have ownV1 : V1.ownsRow (M + 1) 58 10 (.slice ao l.length cap) l.length (cellsO l) := own_kept HI.out.own fun x hx => y5.block x (HI.out.ownlt hx).2 (by have := HI.out.ownlt hx; simp; omega)
     have ownV2 : V2.ownsRow (M + 1) 58 10 (.slice ao l.length cap) l.length (cellsO l) := own_kept ownV1 fun x hx => B2.block x (by have := HI.out.ownlt hx; have := y5.size; omega)
     refine hr_own 5 (some 37) rfl rfl (by kernel_rfl) rfl (.tmp 33) (.tmp 36) 56 rfl (M + 1) 58 i0 _ 10 160 Tryz.underlying56 hi hz0 hz1 hz2 rfl (by decide) (.slice ao l.length cap) l.length (cellsO l) rfl ownV2 ⟨g, 0, none⟩ 1 1 y.cells rfl rfl (fun j u hu => by rw [Addr.add_lit, Nat.zero_add]; exact (cell_of_row V2 g j #[.int .i64 y.kind, .string y.row, .string y.fam, .string y.qual, .int .u64 y.time, .string y.to, .slice y.va.ao y.va.n y.va.cap, .slice y.wa.ao y.wa.n y.wa.cap, .bool y.has, .slice y.so y.sn y.sc] _ (0, 0) N2).trans (show (y.cells.toArray)[j]? = some u from by rw [List.getElem?_toArray]; exact hu)) (y_one y) (by unfold maxLen; omega) (by omega) (by have := HI.out.ov.lt; have := y5.size; have := B2.size; omega) ?_
     intro v' V3 O3 G3 H3
     refine ⟨trivial, ?_⟩
     simp only [FL]
     rw [HV2.out] at G3 H3
     have ST := HI.out.step (by have := HI.out.le; omega) y1 y2 y3 y4 y5 O3 G3 H3
     have ovm := HI.out.ov
     have m3 : V3.heap[M]? = _ := ((G3.block M (by have := ovm.lt; have := y5.size; simp; omega) (fun e => by have := HI.out.ownlt e.symm; omega)).trans (heap_alloc_old V1 _ (by have := ovm.lt; have := y5.size; omega))).trans ((y5.block M ovm.lt (by simp; omega)).trans ovm)
     have d9 : V3.cell? ⟨M, 9, none⟩ = some (.slice ao l.length cap) := cell_of_row V3 M 9 _ _ _ m3
     have z9 : V3.frozen? ⟨M, 9, none⟩ = false := frozen_of_row V3 M 9 _ _ m3
     refine hr_take 6 (some 38) (.pointer (some ⟨M, 9, none⟩)) rfl rfl (by kernel_rfl) (by kernel_rfl) (by kernel_rfl) rfl (fun W hW => by go_simp) trivial ?_
     simp only [FL]
     have mm := OWL.own ST.own ST.oks
     rw [List.length_append, List.length_singleton] at mm
     obtain ⟨ao3, cap3, rfl, _⟩ := mm
     refine hr_skip 7 none rfl rfl (by kernel_rfl) rfl (w' := V3.setCell ⟨M, 9, none⟩ (.slice ao3 (l.length + 1) cap3)) (by go_simp) trivial ?_
     simp only [Act.put]
     refine wpAnyH_done (by kernel_rfl) ?_ _
     refine NoPanic.normal ?_
     have c3 := ST.ov.cs.c9
     have HST : Hid _ := ST
     clear ST ownV1 ownV2 O3 G3 H3 d9 z9 m3 ovm HV2 N2 B2
     go_wp2
     go_step3
     refine ⟨rfl, ⟨M, o, parts, _, l ++ [y], _, _, _, _, _, _, _, _, _, _, _, _, _, _, _, _, _, _, _, _, _, _, _, _, _, _, _, _, _, _, _, _, rfl, HST.out, HOS.out, HPA.out⟩, ?_⟩
     unfold TakeM
     simp only [Array.getD, List.size_toArray, List.length_cons]
     simp [intOf, ptrOf, lenAt, c3, HQ9.out]
     omega
open Go.RowKit
set_option maxHeartbeats 400000 in
theorem clone_any (w : World) (ao : Option Addr) (n cap : Nat) (xs : List Int) (h : Sl w ao n cap xs) (hr : n ≤ 140737488355328) :
  Calls Tryz.prog 74 #[.slice ao n cap] w fun e w' => ∃ v, e = .returned v ∧ w'.ownsRow w.heap.size 5 1 v n (bv xs) ∧ Below w.heap.size w w' := by
 have hA := h.below ((Below.refl w.heap.size w).alloc (Nat.le_refl _) (.cells #[] 5))
 have hO := own_empty w
 have hq : ∀ W, (binOp .eql 23 (.slice ao n cap) (.slice none 0 0)).run Tryz.prog W = .ok (.bool ao.isNone) W := fun W => Lib.run_eql_slice_nil W _ _ ao n cap 0 0 Tryz.underlying23
 cases ao with
 | none =>
  obtain ⟨rfl, rfl⟩ := h.nil rfl
  obtain rfl : xs = [] := List.eq_nil_of_length_eq_zero h.len
  go_enter Tryz.func74, Tryz.ntmps74
  go_wp2
  go_ret
  exact ⟨_, rfl, World.ownsRow_nil _ _ _ _, Below.refl _ _⟩
 | some a =>
  go_enter Tryz.func74, Tryz.ntmps74
  go_wp2_with (at_builtin; refine wpList_app rfl _ _ rfl w.heap.size _ _ _ rfl hO _ _ _ _ rfl hA (by omega) (by simp) ?_; intro v1 w1 hown1 hb1)
  simp only [Nat.zero_add, List.nil_append] at hown1
  have hb2 := ((Below.refl w.heap.size w).alloc (Nat.le_refl _) _).trans hb1
  clear hb1 hO hA hq
  go_ret
  exact ⟨v1, rfl, hown1, hb2⟩
theorem new_reader (w : World) (t : TypeId) (bo : Option Addr) (n c : Nat) (xs : List Int) (hsl : Sl w bo n c xs) (hlt : ∀ a, bo = some a → 0 < n → a.block < w.heap.size) (hn : n ≤ 1000000) :
  R (w.alloc (.cells #[.slice bo n c, .int .i64 0] t)) w.heap.size w.heap.size xs 0 := by
 refine ⟨bo, n, c, ?_, ?_, ?_, ?_, hsl.below ((Below.refl _ w).alloc (Nat.le_refl _) _), hlt, Nat.le_refl _, hn⟩
 ·go_simp
 ·go_simp
 ·go_simp
 ·go_simp
set_option maxHeartbeats 400000 in
theorem read_any (w : World) (ao : Option Addr) (n cap : Nat) (xs : List Int) (h : Sl w ao n cap xs) (hr : n ≤ 1000000) :
  Calls Tryz.prog 36 #[.slice ao n cap] w fun e w' => ∃ p, e = .returned (.pointer (some ⟨p, 0, none⟩)) ∧ w.heap.size ≤ p ∧ R w' p p xs 0 ∧ Below w.heap.size w w' := by
 go_enter Tryz.func36, Tryz.ntmps36
 go_wp2_with fail
 refine (clone_any w ao n cap xs h (by omega)).mono ?_
 rintro e w1 ⟨v1, rfl, hown1, hb1⟩
 obtain ⟨bo, c2, rfl, hsl, hbo⟩ := Sl.own hown1 h.byte
 have hs := hb1.size
 have hfin := new_reader w1 123 bo n c2 xs hsl (fun a ha _ => (hbo a ha).2.1) hr
 have hb2 := hb1.alloc hs (.cells #[.slice bo n c2, .int .i64 0] 123)
 clear hown1 hsl hbo hb1
 go_wp2
 go_ret
 exact ⟨w1.heap.size, rfl, hs, hfin, hb2⟩
open Go.RowKit
theorem ttake_leaf (w : World) (p L : Nat) (xs : List Int) (k : Int) (h : R w p L xs k) : Calls Tryz.prog 108 #[.pointer (some ⟨p, 0, none⟩), .int .i64 0] w (TakePost 0 w p L 0 xs k) :=
 ttake_gen 0 (by omega) w p L xs k h (fun h => absurd rfl h)
theorem ttake_any (w : World) (p L : Nat) (xs : List Int) (k : Int) (h : R w p L xs k) : Calls Tryz.prog 108 #[.pointer (some ⟨p, 0, none⟩), .int .i64 8] w (TakePost 0 w p L 8 xs k) :=
 ttake_gen 8 (by omega) w p L xs k h (fun _ V ys q hR => ttake_leaf V p L ys q hR)
theorem OWL.kept {w w' : World} {o : OA} {l : List OA} (h : OWL w 0 o.so o.sn o.sc l) (hk : ∀ x, (o.sblk x ∨ ∃ y ∈ l, y.blks x) → w'.heap[x]? = w.heap[x]?) : OWL w' 0 o.so o.sn o.sc l := by
 refine ⟨h.len, h.le, h.mx, h.nil, fun a ha i hi j v hv => ?_, fun y hy => ?_⟩
 ·have hb : (a.add (i * 10 + j)).block = a.block := by unfold Addr.add; split <;> rfl
  rw [← h.cell a ha i hi j v hv]
  exact World.cell?_of_block (by rw [hb]; exact hk _ (.inl ⟨a, ha, by have := h.len; omega, rfl⟩))
 ·have hy1 : OA.ok y w := h.ok y hy
  exact hy1.kept fun x hx => hk x (.inr ⟨y, hy, hx⟩)
theorem repT_flat : ∀ (n : Nat) (xs : List Int) (k : Int), ∀ z ∈ (repT (sT 0) n xs k).1, z.2 = 0
 | 0, _, _, z, hz => by simp [repT] at hz
 | n + 1, xs, k, z, hz => by
  rcases List.mem_cons.1 hz with rfl | hz
  ·have : (sT 0 xs k).1.2 ≤ 0 := intS_le _ _ 0
   omega
  ·exact repT_flat n _ _ z hz
def OpRead (F s : Nat) (w' : World) (v : Value) (t : OP) : Prop :=
 ∃ (o : OA) (l : List OA), v = o.val ∧ o.ok w' ∧ OWL w' 0 o.so o.sn o.sc l ∧ (∀ x, (o.blks x ∨ o.sblk x ∨ ∃ y ∈ l, y.blks x) → x < F ∨ s ≤ x) ∧ t = (o.s, l.map OA.s) ∧ ∀ y ∈ l, y.sn = 0
theorem take_op {F : Nat} {w w' : World} {p L : Nat} {xs : List Int} {k : Int} {e : Ending} (h : TakePost F w p L 8 xs k e w') : ∃ v, e = .returned v ∧ OpRead F w.heap.size w' v (opTh xs k).1 ∧ Left w p L (opTh xs k).2 w' := by
 obtain ⟨o, l, e1, ok, OL, far, hs, hl, hle⟩ := h
 refine ⟨_, e1, ⟨o, l, rfl, ok, OL, far, ?_, ?_⟩, hle⟩
 ·show (((sT 8 xs k).1.1, (repT (sT 0) (sT 8 xs k).1.2 (sT 8 xs k).2.1 (sT 8 xs k).2.2).1.map Prod.fst) : OP) = _
  rw [← hl, ← hs, List.map_map]
  rfl
 ·intro y hy
  have := repT_flat (sT 8 xs k).1.2 (sT 8 xs k).2.1 (sT 8 xs k).2.2 (sn0 y) (by rw [← hl]; exact List.mem_map.2 ⟨y, hy, rfl⟩)
  exact this
theorem kind_read {o : OA} {l : List OA} (h : ∀ y ∈ l, y.sn = 0) : kindP (o.s, l.map OA.s) = kindO (rightO o.s (l.map sn0)) := by
 unfold kindP rightP kindO
 have e : (l.map OA.s).map (fun s => (s, 0)) = l.map sn0 := by
  rw [List.map_map]
  refine List.map_congr_left fun y hy => ?_
  show (y.s, 0) = (y.s, y.sn)
  rw [h y hy]
 rw [e]
theorem kindq_read {o : OA} {l : List OA} (cl st : Nat) (h : ∀ y ∈ l, y.sn = 0) : kindQ (cl, st, (o.s, l.map OA.s)) = kq cl st (rightO o.s (l.map sn0)) := by
 unfold kindQ kq
 simp only
 rw [kind_read h]
open Go.RowKit
structure Fair {α : Type} (P : List Int → Rs α) (f : α → List Int) (ok : α → Prop) : Prop where
 put : ∀ v rest, ok v → P (f v ++ rest) = .inr (v, rest)
 back : ∀ xs v rest, Byt xs → P xs = .inr (v, rest) → xs = f v ++ rest ∧ ok v
theorem Good.fair {α : Type} {P : List Int → Rs α} {f : α → List Int} {ok : α → Prop} (h : Good P f ok) : Fair P f ok := ⟨h.put, h.back⟩
theorem Fair.andThen {α β : Type} {P : List Int → Rs α} {Q : α → List Int → Rs β} {f : α → List Int} {g : α → β → List Int} {okP : α → Prop} {okQ : α → β → Prop} (h : Fair P f okP) (k : ∀ a, okP a → Fair (Q a) (g a) (okQ a)) :
  Fair (andThen P Q) (fun p => f p.1 ++ g p.1 p.2) (fun p => okP p.1 ∧ okQ p.1 p.2) := by
 refine ⟨?_, ?_⟩
 ·rintro ⟨a, b⟩ rest ⟨h1, h2⟩
  unfold Go.Proofs.YtnbejckdhdbamaaGreat.andThen
  simp only [List.append_assoc]
  rw [h.put a _ h1]
  simp only [then_]
  rw [(k a h1).put b _ h2]
 ·rintro xs ⟨a, b⟩ rest hb hx
  obtain ⟨a', r', e1, hx⟩ := then_good hx
  obtain ⟨b', r'', e2, hx⟩ := then_good hx
  simp only [Sum.inr.injEq, Prod.mk.injEq] at hx
  obtain ⟨⟨rfl, rfl⟩, rfl⟩ := hx
  obtain ⟨x1, o1⟩ := h.back xs _ _ hb e1
  subst x1
  obtain ⟨x2, o2⟩ := (k _ o1).back _ _ _ (byt_right hb) e2
  refine ⟨?_, o1, o2⟩
  rw [x2, List.append_assoc]
theorem Fair.map {α β : Type} {P : List Int → Rs α} {f : α → List Int} {ok : α → Prop} (h : Fair P f ok) (t : α → β) (u : β → α) (ok' : β → Prop) (h1 : ∀ b, ok' b → t (u b) = b ∧ ok (u b)) (h2 : ∀ a, ok a → u (t a) = a ∧ ok' (t a)) :
  Fair (fun xs => dress t (P xs)) (fun b => f (u b)) ok' := by
 refine ⟨?_, ?_⟩
 ·intro b rest hb
  simp only [h.put _ rest (h1 b hb).2, dress, (h1 b hb).1]
 ·intro xs b rest hx hb
  obtain ⟨a, e, rfl⟩ := dress_good hb
  obtain ⟨x1, o1⟩ := h.back xs a rest hx e
  rw [(h2 a o1).1]
  exact ⟨x1, (h2 a o1).2⟩
theorem Fair.only {α : Type} {P : List Int → Rs α} {f g : α → List Int} {ok ok' : α → Prop} (h : Fair P f ok) (hk : ∀ a, ok a ↔ ok' a) (hf : ∀ a, ok a → f a = g a) : Fair P g ok' := by
 refine ⟨?_, ?_⟩
 ·intro v rest hv
  rw [← hf v ((hk v).2 hv)]
  exact h.put v rest ((hk v).2 hv)
 ·intro xs v rest hb hx
  obtain ⟨e, o⟩ := h.back xs v rest hb hx
  rw [← hf v o]
  exact ⟨e, (hk v).1 o⟩
theorem Fair.rep {α : Type} {P : List Int → Rs α} {f : α → List Int} {ok : α → Prop} (h : Fair P f ok) : ∀ n, Fair (pRep P n) (fun l => (l.map f).flatten) (fun l => l.length = n ∧ ∀ a ∈ l, ok a)
 | 0 => by
  refine ⟨?_, ?_⟩
  ·rintro l rest ⟨h1, _⟩
   obtain rfl := List.eq_nil_of_length_eq_zero h1
   rfl
  ·rintro xs l rest _ hx
   simp only [pRep, Sum.inr.injEq, Prod.mk.injEq] at hx
   obtain ⟨rfl, rfl⟩ := hx
   simp
 | n + 1 => by
  have ih := h.rep n
  refine ⟨?_, ?_⟩
  ·rintro l rest ⟨h1, h2⟩
   cases l with
   | nil => simp at h1
   | cons a l =>
    simp only [List.map_cons, List.flatten_cons, List.append_assoc]
    unfold pRep
    rw [h.put a _ (h2 a (List.mem_cons_self ..))]
    simp only [then_]
    have := ih.put l rest ⟨by simpa using h1, fun x hx => h2 x (List.mem_cons_of_mem _ hx)⟩
    rw [this]
  ·rintro xs l rest hb hx
   obtain ⟨a, r', e1, hx⟩ := then_good hx
   obtain ⟨l', r'', e2, hx⟩ := then_good hx
   simp only [Sum.inr.injEq, Prod.mk.injEq] at hx
   obtain ⟨rfl, rfl⟩ := hx
   obtain ⟨x1, o1⟩ := h.back xs a r' hb e1
   subst x1
   obtain ⟨x2, o2, o3⟩ := ih.back _ _ _ (byt_right hb) e2
   refine ⟨?_, by simp [o2], ?_⟩
   ·rw [x2]; simp
   ·intro x hx
    rcases List.mem_cons.1 hx with rfl | hx
    ·exact o1
    ·exact o3 x hx
def pList {α : Type} (P : List Int → Rs α) (most : Nat) (xs : List Int) : Rs (List α) := dress Prod.snd (andThen (pInt most) (fun n => pRep P n) xs)
def putLs {α : Type} (f : α → List Int) (l : List α) : List Int := enc l.length ++ (l.map f).flatten
theorem Fair.list {α : Type} {P : List Int → Rs α} {f : α → List Int} {ok : α → Prop} (h : Fair P f ok) (most : Nat) (hm : most < 18446744073709551616) : Fair (pList P most) (putLs f) (fun l => l.length ≤ most ∧ ∀ a ∈ l, ok a) := by
 have h0 := (good_int most hm).fair.andThen (Q := fun n => pRep P n) (g := fun _ l => (l.map f).flatten) (okQ := fun n l => l.length = n ∧ ∀ a ∈ l, ok a) (fun n _ => h.rep n)
 refine (h0.map Prod.snd (fun l => (l.length, l)) _ ?_ ?_).only (fun _ => Iff.rfl) (fun _ _ => rfl)
 ·rintro l ⟨h1, h2⟩
  exact ⟨rfl, h1, rfl, h2⟩
 ·rintro ⟨n, l⟩ ⟨h1, h2, h3⟩
  simp only at h1 h2 h3
  subst h2
  exact ⟨rfl, h1, h3⟩
def listT {α : Type} (f : Th α) (most : Nat) : Th (List α) := mapT Prod.snd (andD (intT' most) fun n => repT f n)
theorem Thr.list {α : Type} {P : List Int → Rs α} {f : Th α} (h : Thr P f) (most : Nat) : Thr (pList P most) (listT f most) := ((thr_int most).dep fun n => h.rep n).map Prod.snd
theorem pBytes_put {most : Nat} {l : List Int} (rest : List Int) (h1 : l.length ≤ most) (h2 : l.length < 18446744073709551616) : pBytes most (byts l ++ rest) = .inr (l, rest) := by
 unfold pBytes pInt byts
 rw [List.append_assoc, good_uint.put _ _ h2]
 simp only [then_]
 rw [if_neg (by omega)]
 simp
theorem pBytes_back {most : Nat} {xs l rest : List Int} (hb : Byt xs) (h : pBytes most xs = .inr (l, rest)) : xs = byts l ++ rest ∧ Byt l ∧ l.length < 18446744073709551616 ∧ Byt rest := by
 obtain ⟨n, r, e1, h⟩ := then_good h
 obtain ⟨n', r', e2, e3⟩ := then_good e1
 by_cases c : most < n'
 ·rw [if_pos c] at e3; simp at e3
 rw [if_neg c] at e3
 simp only [Sum.inr.injEq, Prod.mk.injEq] at e3
 obtain ⟨rfl, rfl⟩ := e3
 obtain ⟨x1, o1⟩ := good_uint.back xs _ _ hb e2
 by_cases d : r'.length < n'
 ·rw [if_pos d] at h; simp at h
 rw [if_neg d] at h
 simp only [Sum.inr.injEq, Prod.mk.injEq] at h
 obtain ⟨rfl, rfl⟩ := h
 have e : (r'.take n').length = n' := by rw [List.length_take]; omega
 have b1 : Byt r' := by rw [x1] at hb; exact byt_right hb
 refine ⟨?_, b1.take n', by rw [e]; exact o1, b1.drop n'⟩
 unfold byts
 rw [e, List.append_assoc, List.take_append_drop]
 exact x1
def pNest {α : Type} (rd : List Int → Sum Int α) (xs : List Int) : Rs α := then_ (pBytes xs.length xs) fun bs r => match rd bs with
 | .inl k => .inl k
 | .inr v => .inr (v, r)
def okN {α : Type} (rd : List Int → Sum Int α) (g : α → List Int) (v : α) : Prop := rd (g v) = .inr v ∧ Byt (g v) ∧ (g v).length < 18446744073709551616
theorem fair_nest {α : Type} {rd : List Int → Sum Int α} {g : α → List Int} (hback : ∀ bs v, Byt bs → rd bs = .inr v → bs = g v) : Fair (pNest rd) (fun v => byts (g v)) (okN rd g) := by
 refine ⟨?_, ?_⟩
 ·rintro v rest ⟨h1, h2, h3⟩
  unfold pNest
  rw [pBytes_put rest (by unfold byts; simp only [List.length_append]; omega) h3]
  simp only [then_]
  rw [h1]
 ·intro xs v rest hb hx
  obtain ⟨bs, r, e1, hx⟩ := then_good hx
  obtain ⟨x1, b1, l1, b2⟩ := pBytes_back hb e1
  match e : rd bs, hx with
  | .inl k, hx => simp at hx
  | .inr u, hx =>
   simp only [Sum.inr.injEq, Prod.mk.injEq] at hx
   obtain ⟨rfl, rfl⟩ := hx
   have e2 := hback bs u b1 e
   subst e2
   exact ⟨x1, e, b1, l1⟩
def flS (xs : List Int) (k q : Int) : List Int × Int := if k = 0 then (if q = 0 then (xs, 0) else ([], q)) else (xs, k)
theorem flS_bad (xs : List Int) {q : Int} (h : q ≠ 0) : flS xs 0 q = ([], q) := by unfold flS; rw [if_pos rfl, if_neg h]
def kindN {α : Type} (t : Sum Int α) : Int := match t with
 | .inl k => k
 | .inr _ => 0
def valN {α : Type} (z : α) (t : Sum Int α) : α := match t with
 | .inl _ => z
 | .inr v => v
def nestT {α : Type} (z : α) (rd : List Int → Sum Int α) : Th α := fun xs k => (valN z (rd (bytesS xs k xs.length).1), flS (bytesS xs k xs.length).2.1 (bytesS xs k xs.length).2.2 (kindN (rd (bytesS xs k xs.length).1)))
theorem thr_nest {α : Type} (z : α) {rd : List Int → Sum Int α} (hrd : ∀ bs k, rd bs = .inl k → k ≠ 0) : Thr (pNest rd) (nestT z rd) := by
 refine ⟨?_, ?_, ?_⟩
 ·intro xs v r hx
  obtain ⟨bs, r', e1, hx⟩ := then_good hx
  have e2 := (bytesS_ok e1).1
  unfold nestT
  rw [e2]
  match e : rd bs, hx with
  | .inl k, hx => simp at hx
  | .inr u, hx =>
   simp only [Sum.inr.injEq, Prod.mk.injEq] at hx
   obtain ⟨rfl, rfl⟩ := hx
   simp only [valN, kindN, flS, if_true]
 ·intro xs q hx
  unfold nestT
  unfold pNest then_ at hx
  match e : pBytes xs.length xs, hx with
  | .inl q', hx =>
   obtain rfl := Sum.inl.inj hx
   obtain ⟨e1, e2⟩ := bytesS_bad e
   rw [e1]
   simp only [flS, if_neg e2]
   exact ⟨trivial, e2⟩
  | .inr (bs, r), hx =>
   rw [(bytesS_ok e).1]
   simp only at hx ⊢
   match e' : rd bs, hx with
   | .inl q', hx =>
    simp only [Sum.inl.injEq] at hx
    subst hx
    have hq := hrd bs q' e'
    show (flS r 0 q').2 = q' ∧ q' ≠ 0
    rw [flS_bad r hq]
    exact ⟨rfl, hq⟩
   | .inr u, hx => simp at hx
 ·intro xs k hk
  show (flS (bytesS xs k xs.length).2.1 (bytesS xs k xs.length).2.2 (kindN (rd (bytesS xs k xs.length).1))).2 = k
  rw [bytesS_stuck hk]
  simp only [flS, if_neg hk]
structure PV where
 cl : Nat
 st : Nat
 vw : Nat
 r : RV
structure BV where
 kind : Int
 view : Nat
 seq : Nat
 sum : List Int
 reqs : List QV
 rep : PV
 cert : List SV
 sets : List (List SV)
def zPV : PV := ⟨0, 0, 0, ⟨0, [], false⟩⟩
def putV (s : SV) : List Int := enc s.fr ++ (byts s.b ++ byts s.tag)
def putPV (p : PV) : List Int := enc p.cl ++ (enc p.st ++ (enc p.vw ++ byts (putR p.r)))
def putB (x : BV) : List Int := enc x.kind.toNat ++ (enc x.view ++ (enc x.seq ++ (byts x.sum ++ (putLs (fun q => byts (putQ q)) x.reqs ++ ((if x.kind = 5 then putPV x.rep else []) ++ (putLs putV x.cert ++ putLs (putLs putV) x.sets))))))
def okV (s : SV) : Prop := s.fr < 18446744073709551616 ∧ (s.b.length ≤ 65536 ∧ Byt s.b) ∧ (s.tag.length ≤ 32 ∧ Byt s.tag)
def toV (r : Nat × List Int × List Int) : SV := ⟨r.1, r.2.1, r.2.2⟩
def pV (xs : List Int) : Rs SV := dress toV (andThen pUint (fun _ => andThen (pBytes 65536) fun _ => pBytes 32) xs)
theorem fair_v : Fair pV putV okV := by
 have h := good_uint.fair.andThen fun _ _ => (good_bytes 65536 (by decide)).fair.andThen fun _ _ => (good_bytes 32 (by decide)).fair
 refine (h.map toV (fun s => (s.fr, s.b, s.tag)) okV ?_ ?_).only (fun _ => Iff.rfl) (fun _ _ => rfl)
 ·rintro ⟨a, b, c⟩ h
  exact ⟨rfl, h⟩
 ·rintro ⟨a, b, c⟩ h
  exact ⟨rfl, h⟩
def vT : Th SV := mapT toV (andT uintS (andT (byT 65536) (byT 32)))
theorem thr_v : Thr pV vT := (thr_uint.andThen ((thr_bytes 65536).andThen (thr_bytes 32))).map toV
def pVs : List Int → Rs (List SV) := pList pV 16
def vsT : Th (List SV) := listT vT 16
theorem thr_vs : Thr pVs vsT := thr_v.list 16
def okVs (l : List SV) : Prop := l.length ≤ 16 ∧ ∀ s ∈ l, okV s
theorem fair_vs : Fair pVs (putLs putV) okVs := fair_v.list 16 (by decide)
def toPV (r : Nat × Nat × Nat × RV) : PV := ⟨r.1, r.2.1, r.2.2.1, r.2.2.2⟩
def pPV1 (xs : List Int) : Rs PV := dress toPV (andThen pUint (fun _ => andThen pUint fun _ => andThen pUint fun _ => pNest rdR) xs)
def okPV1 (p : PV) : Prop := p.cl < 18446744073709551616 ∧ p.st < 18446744073709551616 ∧ p.vw < 18446744073709551616 ∧ okN rdR putR p.r
theorem rdR_back (bs : List Int) (v : RV) (hb : Byt bs) (h : rdR bs = .inr v) : bs = putR v := (rdAll_back good_r kindR hb h).1
theorem rdQ_back (bs : List Int) (v : QV) (hb : Byt bs) (h : rdQ bs = .inr v) : bs = putQ v := (rdAll_back good_q kindQ hb h).1
theorem fair_pv1 : Fair pPV1 putPV okPV1 := by
 have h := good_uint.fair.andThen fun _ _ => good_uint.fair.andThen fun _ _ => good_uint.fair.andThen fun _ _ => fair_nest rdR_back
 refine (h.map toPV (fun p => (p.cl, p.st, p.vw, p.r)) okPV1 ?_ ?_).only (fun _ => Iff.rfl) (fun _ _ => rfl)
 ·rintro ⟨a, b, c, d⟩ h
  exact ⟨rfl, h⟩
 ·rintro ⟨a, b, c, d⟩ h
  exact ⟨rfl, h⟩
theorem rdAll_ne {α : Type} {P : List Int → Rs α} {f : Th α} (h : Thr P f) {kind : α → Int} (bs : List Int) (k : Int) (e : rdAll P kind bs = .inl k) : k ≠ 0 := by
 rw [rd_thr h] at e
 unfold rdT at e
 by_cases c : doneS (f bs 0).2.1 (f bs 0).2.2 = 0
 ·rw [if_pos c] at e
  by_cases d : kind (f bs 0).1 = 0
  ·rw [if_pos d] at e; simp at e
  ·rw [if_neg d] at e
   rw [← Sum.inl.inj e]
   exact d
 ·rw [if_neg c] at e
  rw [← Sum.inl.inj e]
  exact c
open Go.RowKit
def zQV : QV := (0, 0, (⟨0, ⟨#[]⟩, ⟨#[]⟩, ⟨#[]⟩, 0, ⟨#[]⟩, [], [], false⟩, []))
def zR0 : RV := ⟨0, [], false⟩
def pPV (k : Nat) : List Int → Rs PV := if k = 5 then pPV1 else fun xs => .inr (zPV, xs)
def okPV (k : Nat) (p : PV) : Prop := if k = 5 then okPV1 p else p = zPV
theorem fair_pv (k : Nat) : Fair (pPV k) (fun p => if k = 5 then putPV p else []) (okPV k) := by
 unfold pPV okPV
 by_cases h : k = 5
 ·simp only [if_pos h]
  exact fair_pv1
 ·simp only [if_neg h]
  refine ⟨?_, ?_⟩
  ·rintro v rest rfl
   rfl
  ·intro xs v rest _ hx
   simp only [Sum.inr.injEq, Prod.mk.injEq] at hx
   obtain ⟨rfl, rfl⟩ := hx
   exact ⟨rfl, rfl⟩
def pvT1 : Th PV := mapT toPV (andT uintS (andT uintS (andT uintS (nestT zR0 rdR))))
def pvT (k : Nat) : Th PV := if k = 5 then pvT1 else fun xs q => (zPV, xs, q)
theorem thr_pv (hr : ∀ bs k, rdR bs = .inl k → k ≠ 0) (k : Nat) : Thr (pPV k) (pvT k) := by
 unfold pPV pvT
 by_cases h : k = 5
 ·simp only [if_pos h]
  exact (thr_uint.andThen (thr_uint.andThen (thr_uint.andThen (thr_nest zR0 hr)))).map toPV
 ·simp only [if_neg h]
  refine ⟨?_, ?_, ?_⟩
  ·intro xs v r hx
   simp only [Sum.inr.injEq, Prod.mk.injEq] at hx
   obtain ⟨rfl, rfl⟩ := hx
   rfl
  ·intro xs q hx
   simp at hx
  ·intro xs q _
   rfl
abbrev RawB := Nat × Nat × Nat × List Int × List QV × PV × List SV × List (List SV)
def toB (r : RawB) : BV := ⟨(r.1 : Int), r.2.1, r.2.2.1, r.2.2.2.1, r.2.2.2.2.1, r.2.2.2.2.2.1, r.2.2.2.2.2.2.1, r.2.2.2.2.2.2.2⟩
def ofB (x : BV) : RawB := (x.kind.toNat, x.view, x.seq, x.sum, x.reqs, x.rep, x.cert, x.sets)
def pQs : List Int → Rs (List QV) := pList (pNest rdQ) 1
def pSs : List Int → Rs (List (List SV)) := pList pVs 16
def pB (xs : List Int) : Rs BV := dress toB (andThen (pInt 14) (fun k => andThen pUint fun _ => andThen pUint fun _ => andThen (pBytes 32) fun _ => andThen pQs fun _ => andThen (pPV k) fun _ => andThen pVs fun _ => pSs) xs)
structure okB (x : BV) : Prop where
 kind : 0 ≤ x.kind ∧ x.kind ≤ 14
 view : x.view < 18446744073709551616
 seq : x.seq < 18446744073709551616
 sum : x.sum.length ≤ 32 ∧ Byt x.sum
 reqs : x.reqs.length ≤ 1 ∧ ∀ q ∈ x.reqs, okN rdQ putQ q
 rep : okPV x.kind.toNat x.rep
 cert : okVs x.cert
 sets : x.sets.length ≤ 16 ∧ ∀ l ∈ x.sets, okVs l
theorem fair_b : Fair pB putB okB := by
 have h := (good_int 14 (by decide)).fair.andThen (Q := fun k => andThen pUint fun _ => andThen pUint fun _ => andThen (pBytes 32) fun _ => andThen pQs fun _ => andThen (pPV k) fun _ => andThen pVs fun _ => pSs) fun k _ => good_uint.fair.andThen fun _ _ => good_uint.fair.andThen fun _ _ => (good_bytes 32 (by decide)).fair.andThen fun _ _ => ((fair_nest rdQ_back).list 1 (by decide)).andThen fun _ _ => (fair_pv k).andThen fun _ _ => fair_vs.andThen fun _ _ => fair_vs.list 16 (by decide)
 refine (h.map toB ofB okB ?_ ?_).only (fun _ => Iff.rfl) ?_
 ·rintro x hx
  have hk := hx.kind
  refine ⟨?_, by show x.kind.toNat ≤ 14; omega, hx.view, hx.seq, hx.sum, hx.reqs, hx.rep, hx.cert, hx.sets⟩
  unfold toB ofB
  simp only [Int.toNat_of_nonneg hk.1]
 ·rintro ⟨k, a, b, c, d, e, f, g⟩ ⟨h1, h2, h3, h4, h5, h6, h7, h8⟩
  refine ⟨?_, ⟨by show (0 : Int) ≤ (k : Int); omega, by show (k : Int) ≤ 14; simp only at h1; omega⟩, h2, h3, h4, h5, ?_, h7, h8⟩
  ·unfold toB ofB
   simp
  ·show okPV ((k : Int)).toNat e
   rw [Int.toNat_natCast]
   exact h6
 ·intro x hx
  have hk := hx.kind
  unfold putB ofB byts
  have : (x.kind.toNat = 5) = (x.kind = 5) := propext ⟨fun _ => by omega, fun _ => by omega⟩
  simp only [this]
def qsT : Th (List QV) := listT (nestT zQV rdQ) 1
def ssT : Th (List (List SV)) := listT vsT 16
def bT : Th BV := mapT toB (andD (intT' 14) fun k => andT uintS (andT uintS (andT (byT 32) (andT qsT (andT (pvT k) (andT vsT ssT))))))
theorem rdQ_ne (bs : List Int) (k : Int) (e : rdQ bs = .inl k) : k ≠ 0 := rdAll_ne thr_q bs k e
theorem thr_b (hr : ∀ bs k, rdR bs = .inl k → k ≠ 0) : Thr pB bT :=
 ((thr_int 14).dep fun k => thr_uint.andThen (thr_uint.andThen ((thr_bytes 32).andThen (((thr_nest zQV rdQ_ne).list 1).andThen ((thr_pv hr k).andThen (thr_vs.andThen (thr_vs.list 16))))))).map toB
structure HV where
 view : Nat
 seq : Nat
 sum : Nat
 reqs : Nat
 cert : Nat
 sets : Nat
 rep : Bool
def shpOk (k : Int) (h : HV) : Bool :=
 if k = 1 ∨ k = 13 then decide (h.view = 0 ∧ h.seq = 0 ∧ h.sum = 0 ∧ h.reqs = 1 ∧ h.cert = 0 ∧ h.sets = 0) && !h.rep
 else if k = 2 ∨ k = 3 ∨ k = 4 then decide (h.view ≤ 4611686018427387903 ∧ h.seq ≤ 4611686018427387903 ∧ h.sum = 32 ∧ h.reqs = 0 ∧ h.cert = 0 ∧ h.sets = 0) && !h.rep
 else if k = 5 then decide (h.view = 0 ∧ h.seq = 0 ∧ h.sum = 0 ∧ h.reqs = 0 ∧ h.cert = 0 ∧ h.sets = 0) && h.rep
 else if k = 6 then decide (h.view = 0 ∧ h.seq ≤ 4611686018427387903 ∧ h.sum = 32 ∧ h.reqs = 0 ∧ h.cert = 0 ∧ h.sets = 0) && !h.rep
 else if k = 7 then decide (h.view ≤ 4611686018427387903 ∧ h.seq ≤ 4611686018427387903 ∧ h.sum = 0 ∧ h.reqs = 0 ∧ h.cert ≤ 16 ∧ h.sets ≤ 16) && !h.rep
 else if k = 8 then decide (h.view ≤ 4611686018427387903 ∧ h.seq = 0 ∧ h.sum = 0 ∧ h.reqs = 0 ∧ h.cert ≤ 16 ∧ h.sets = 1) && !h.rep
 else if k = 9 then decide (h.view = 0 ∧ h.seq ≤ 4611686018427387903 ∧ h.sum = 0 ∧ h.reqs = 0 ∧ h.cert = 0 ∧ h.sets = 0) && !h.rep
 else if k = 10 then decide (h.view = 0 ∧ h.seq ≤ 4611686018427387903 ∧ h.sum = 32 ∧ h.reqs = 0 ∧ h.cert = 1 ∧ h.sets = 0) && !h.rep
 else if k = 11 then decide (h.view = 0 ∧ h.seq = 0 ∧ h.sum = 32 ∧ h.reqs = 0 ∧ h.cert = 0 ∧ h.sets = 0) && !h.rep
 else if k = 12 then decide (h.view = 0 ∧ h.seq = 0 ∧ h.sum = 0 ∧ h.reqs = 0 ∧ h.cert ≤ 4 ∧ h.sets = 0) && !h.rep
 else if k = 14 then decide (h.view = 0 ∧ h.seq ≤ 4611686018427387903 ∧ h.sum = 0 ∧ h.reqs = 0 ∧ h.cert = 3 ∧ h.sets = 0) && !h.rep
 else false
def sgnd (fr b tag : Nat) : Bool := decide (fr ≠ 0 ∧ b ≤ 16384 ∧ tag = 32)
def plain (fr b tag : Nat) : Bool := decide (fr = 0 ∧ b ≤ 65536 ∧ tag = 0)
def txOk (k : Int) (fr b tag : Nat) : Bool := if k = 10 ∨ k = 14 then plain fr b tag else sgnd fr b tag
theorem shp_kind {k : Int} {h : HV} (e : shpOk k h = true) : 1 ≤ k ∧ k ≤ 14 := by
 unfold shpOk at e
 by_cases c : 1 ≤ k ∧ k ≤ 14
 ·exact c
 ·simp only [show ¬ (k = 1 ∨ k = 13) by omega, show ¬ (k = 2 ∨ k = 3 ∨ k = 4) by omega, show ¬ k = 5 by omega, show ¬ k = 6 by omega, show ¬ k = 7 by omega, show ¬ k = 8 by omega, show ¬ k = 9 by omega, show ¬ k = 10 by omega, show ¬ k = 11 by omega, show ¬ k = 12 by omega, show ¬ k = 14 by omega, if_false] at e
  cases e
open Go.RowKit
structure QM where
 cl : Nat
 st : Nat
 o : OA
 l : List OA
def QM.cells (q : QM) : List Value := [.int .u64 q.cl, .int .u64 q.st, .int .i64 q.o.kind, .string q.o.row, .string q.o.fam, .string q.o.qual, .int .u64 q.o.time, .string q.o.to, .slice q.o.va.ao q.o.va.n q.o.va.cap, .slice q.o.wa.ao q.o.wa.n q.o.wa.cap, .bool q.o.has, .slice q.o.so q.o.sn q.o.sc]
structure QM.ok (q : QM) (w : World) : Prop where
 cl : q.cl < 18446744073709551616
 st : q.st < 18446744073709551616
 o : q.o.ok w
 l : OWL w 0 q.o.so q.o.sn q.o.sc q.l
def QM.blk (q : QM) (z : Nat) : Prop := q.o.blks z ∨ q.o.sblk z ∨ ∃ y ∈ q.l, y.blks z
def QM.v (q : QM) : QV := (q.cl, q.st, (q.o.s, q.l.map OA.s))
def elQ : El QM := ⟨QM.cells, 12, QM.ok, QM.blk⟩
theorem OA.ok.blks_lt {o : OA} {w : World} (h : o.ok w) {z : Nat} (hz : o.blks z) : z < w.heap.size := by
 rcases hz with hz | hz
 ·exact h.va.blk_lt hz
 ·exact h.wa.blk_lt hz
theorem elQ_fine : elQ.Fine := by
 refine ⟨fun _ => rfl, by decide, fun x u hu => ?_, fun x w w' h hk => ⟨h.cl, h.st, h.o.kept fun z hz => hk z (.inl hz), h.l.kept fun z hz => hk z (.inr hz)⟩, fun x w z h hz => ?_⟩
 ·have hu : u ∈ x.cells := hu
  unfold QM.cells at hu
  simp only [List.mem_cons, List.not_mem_nil, or_false] at hu
  rcases hu with rfl | rfl | rfl | rfl | rfl | rfl | rfl | rfl | rfl | rfl | rfl | rfl <;> rfl
 ·rcases hz with hz | hz | ⟨y, hy, hz⟩
  ·exact h.o.blks_lt hz
  ·obtain ⟨a, ha, hn, rfl⟩ := hz
   have hl := h.l.len
   have h0 := h.l.cell a ha 0 (by omega) 0 _ rfl
   have hlt := World.block_lt_of_cell? w _ h0
   have hb : (a.add (0 * 10 + 0)).block = a.block := by unfold Addr.add; split <;> rfl
   rw [hb] at hlt
   exact hlt
  ·have : OA.ok y w := h.l.ok y hy
   exact this.blks_lt hz
structure QX (V : World) (b p : Nat) (q : QM) : Prop where
 c0 : V.cell? ⟨b, p, none⟩ = some (.int .u64 q.cl)
 c1 : V.cell? ⟨b, p + 1, none⟩ = some (.int .u64 q.st)
 c2 : V.cell? ⟨b, p + 2, none⟩ = some (.int .i64 q.o.kind)
 c3 : V.cell? ⟨b, p + 3, none⟩ = some (.string q.o.row)
 c4 : V.cell? ⟨b, p + 4, none⟩ = some (.string q.o.fam)
 c5 : V.cell? ⟨b, p + 5, none⟩ = some (.string q.o.qual)
 c6 : V.cell? ⟨b, p + 6, none⟩ = some (.int .u64 q.o.time)
 c7 : V.cell? ⟨b, p + 7, none⟩ = some (.string q.o.to)
 c8 : V.cell? ⟨b, p + 8, none⟩ = some (.slice q.o.va.ao q.o.va.n q.o.va.cap)
 c9 : V.cell? ⟨b, p + 9, none⟩ = some (.slice q.o.wa.ao q.o.wa.n q.o.wa.cap)
 c10 : V.cell? ⟨b, p + 10, none⟩ = some (.bool q.o.has)
 c11 : V.cell? ⟨b, p + 11, none⟩ = some (.slice q.o.so q.o.sn q.o.sc)
theorem GL.atQ {w : World} {ao : Option Addr} {n cap : Nat} {l : List QM} (h : GL elQ w ao n cap l) (hn : 0 < n) :
  ∃ b off, ao = some ⟨b, off, none⟩ ∧ ∀ i (hi : i < l.length), QX w b (off + i * 12) l[i] := by
 obtain ⟨b, off, e, k⟩ := h.pl elQ_fine hn
 exact ⟨b, off, e, fun i hi => ⟨k i hi 0 _ rfl, k i hi 1 _ rfl, k i hi 2 _ rfl, k i hi 3 _ rfl, k i hi 4 _ rfl, k i hi 5 _ rfl, k i hi 6 _ rfl, k i hi 7 _ rfl, k i hi 8 _ rfl, k i hi 9 _ rfl, k i hi 10 _ rfl, k i hi 11 _ rfl⟩⟩
structure BM where
 kind : Int
 view : Nat
 seq : Nat
 sum : Bs
 q : LS QM
 cl : Nat
 st : Nat
 vw : Nat
 e : Int
 c : LS CA
 more : Bool
 s : LS SA
 t : LS (LS SA)
def BM.cells (x : BM) : List Value := [.int .i64 x.kind, .int .u64 x.view, .int .u64 x.seq, .slice x.sum.ao x.sum.n x.sum.cap, .slice x.q.ao x.q.n x.q.cap, .int .u64 x.cl, .int .u64 x.st, .int .u64 x.vw, .int .i64 x.e, .slice x.c.ao x.c.n x.c.cap, .bool x.more, .slice x.s.ao x.s.n x.s.cap, .slice x.t.ao x.t.n x.t.cap]
def BM.val (x : BM) : Value := .agg #[.int .i64 x.kind, .int .u64 x.view, .int .u64 x.seq, .slice x.sum.ao x.sum.n x.sum.cap, .slice x.q.ao x.q.n x.q.cap, .int .u64 x.cl, .int .u64 x.st, .int .u64 x.vw, .int .i64 x.e, .slice x.c.ao x.c.n x.c.cap, .bool x.more, .slice x.s.ao x.s.n x.s.cap, .slice x.t.ao x.t.n x.t.cap]
structure BM.ok (x : BM) (w : World) : Prop where
 kind : -9223372036854775808 ≤ x.kind ∧ x.kind ≤ 9223372036854775807
 view : x.view < 18446744073709551616
 seq : x.seq < 18446744073709551616
 sum : Sl w x.sum.ao x.sum.n x.sum.cap x.sum.xs
 q : GL elQ w x.q.ao x.q.n x.q.cap x.q.l
 cl : x.cl < 18446744073709551616
 st : x.st < 18446744073709551616
 vw : x.vw < 18446744073709551616
 e : -9223372036854775808 ≤ x.e ∧ x.e ≤ 9223372036854775807
 c : CL w x.c.ao x.c.n x.c.cap x.c.l
 s : GL elS w x.s.ao x.s.n x.s.cap x.s.l
 t : GL elS.lists w x.t.ao x.t.n x.t.cap x.t.l
theorem BM.ok.below {x : BM} {w w' : World} (h : x.ok w) (hb : Below w.heap.size w w') : x.ok w' :=
 ⟨h.kind, h.view, h.seq, h.sum.below hb, h.q.below elQ_fine hb, h.cl, h.st, h.vw, h.e, h.c.below hb, h.s.below elS_fine hb, h.t.below elS_fine.lists hb⟩
def BM.v (x : BM) : BV := ⟨x.kind, x.view, x.seq, x.sum.xs, x.q.l.map QM.v, ⟨x.cl, x.st, x.vw, resR x.e x.c.l x.more⟩, x.s.l.map SA.v, x.t.l.map fun s => s.l.map SA.v⟩
def BC (V : World) (p : Nat) (x : BM) : Prop := V.heap[p]? = some (.cells #[.int .i64 x.kind, .int .u64 x.view, .int .u64 x.seq, .slice x.sum.ao x.sum.n x.sum.cap, .slice x.q.ao x.q.n x.q.cap, .int .u64 x.cl, .int .u64 x.st, .int .u64 x.vw, .int .i64 x.e, .slice x.c.ao x.c.n x.c.cap, .bool x.more, .slice x.s.ao x.s.n x.s.cap, .slice x.t.ao x.t.n x.t.cap] 41)
theorem BC.lt {V : World} {p : Nat} {x : BM} (h : BC V p x) : p < V.heap.size := (Array.getElem?_eq_some_iff.1 h).1
theorem BC.keep {V V' : World} {p : Nat} {x : BM} (h : BC V p x) (hb : Below V.heap.size V V') : BC V' p x := (hb.block p h.lt).trans h
structure BCs (V : World) (p : Nat) (x : BM) : Prop where
 c0 : V.cell? ⟨p, 0, none⟩ = some (.int .i64 x.kind)
 c1 : V.cell? ⟨p, 1, none⟩ = some (.int .u64 x.view)
 c2 : V.cell? ⟨p, 2, none⟩ = some (.int .u64 x.seq)
 c3 : V.cell? ⟨p, 3, none⟩ = some (.slice x.sum.ao x.sum.n x.sum.cap)
 c4 : V.cell? ⟨p, 4, none⟩ = some (.slice x.q.ao x.q.n x.q.cap)
 c5 : V.cell? ⟨p, 5, none⟩ = some (.int .u64 x.cl)
 c6 : V.cell? ⟨p, 6, none⟩ = some (.int .u64 x.st)
 c7 : V.cell? ⟨p, 7, none⟩ = some (.int .u64 x.vw)
 c8 : V.cell? ⟨p, 8, none⟩ = some (.int .i64 x.e)
 c9 : V.cell? ⟨p, 9, none⟩ = some (.slice x.c.ao x.c.n x.c.cap)
 c10 : V.cell? ⟨p, 10, none⟩ = some (.bool x.more)
 c11 : V.cell? ⟨p, 11, none⟩ = some (.slice x.s.ao x.s.n x.s.cap)
 c12 : V.cell? ⟨p, 12, none⟩ = some (.slice x.t.ao x.t.n x.t.cap)
theorem BC.cs {V : World} {p : Nat} {x : BM} (h : BC V p x) : BCs V p x :=
 ⟨cell_of_row V p 0 _ _ _ h, cell_of_row V p 1 _ _ _ h, cell_of_row V p 2 _ _ _ h, cell_of_row V p 3 _ _ _ h, cell_of_row V p 4 _ _ _ h, cell_of_row V p 5 _ _ _ h, cell_of_row V p 6 _ _ _ h, cell_of_row V p 7 _ _ _ h, cell_of_row V p 8 _ _ _ h, cell_of_row V p 9 _ _ _ h, cell_of_row V p 10 _ _ _ h, cell_of_row V p 11 _ _ _ h, cell_of_row V p 12 _ _ _ h⟩
def BM.rz (x : BM) : Bool := decide (x.cl = 0 ∧ x.st = 0 ∧ x.vw = 0 ∧ x.e = 0 ∧ x.c.n = 0) && !x.more
def BM.hv (x : BM) : HV := ⟨x.view, x.seq, x.sum.n, x.q.n, x.s.n, x.t.n, !x.rz⟩
def reqBad (k : Int) (q : QM) : Bool := decide (kq q.cl q.st (rightO q.o.s (q.l.map sn0)) ≠ 0) || (decide (k = 13) && decide (q.o.kind ≠ 7 ∧ q.o.kind ≠ 8))
def SA.sg (s : SA) : Bool := sgnd s.fr s.b.n s.tag.n
def SA.pl (s : SA) : Bool := plain s.fr s.b.n s.tag.n
def SA.tx (k : Int) (s : SA) : Bool := txOk k s.fr s.b.n s.tag.n
def setBad (s : LS SA) : Bool := decide (16 < s.n) || s.l.any fun x => !x.sg
def repOk (x : BM) : Bool := decide (x.kind ≠ 5) || (rightR (resR x.e x.c.l x.more) && decide (x.cl ≠ 0 ∧ x.st ≠ 0 ∧ x.vw ≤ 4611686018427387903))
def rightM (x : BM) : Bool := shpOk x.kind x.hv && (!(x.q.l.any (reqBad x.kind)) && (repOk x && (!(x.s.l.any fun s => !s.tx x.kind) && !(x.t.l.any setBad))))
end Go.Proofs.YtnbejckdhdbamaaGreat
namespace Go.Proofs.YtnbejckdhdbamaaGreat
open Go.RowKit Go.ChangeShapes Go.WideShapes
structure QE where
 cl : Nat
 st : Nat
 x : OD 3
def QE.m (y : QE) : QM := ⟨y.cl, y.st, topD 3 y.x, (show OA × List (OD 2) from y.x).2.map (topD 2)⟩
theorem QE.ok {y : QE} {w : World} (h1 : y.cl < 18446744073709551616) (h2 : y.st < 18446744073709551616) (h : OW w 3 y.x) : y.m.ok w :=
 ⟨h1, h2, h.top, (OW.subs (d := 2) (x := y.x) h).flat⟩
theorem QE.m_cells (y : QE) : y.m.cells = .int .u64 y.cl :: .int .u64 y.st :: (topD 3 y.x).cells := rfl
section
variable {H : Type} {enc : TypeId × Value → H} {P : Program} {w : World} {base : Nat} {spare : Nat → Bool} {held : Bool}
theorem open_reqC (T : OpTypes P) (C : CellTypes P T) (M : MoreTypes P T C) {fuel : Nat} {l : List Value} {x : DataW H × List MemPlace} (hf : DataW.trod enc P w base spare held fuel M.req l = some x) :
  ∃ y : QE, l = y.m.cells ∧ (y.cl < 18446744073709551616 ∧ y.st < 18446744073709551616 ∧ OW w 3 y.x) ∧ (Wt P x.1 M.req → OSm 3 y.x) := by
 obtain ⟨xs, k, _, hx, hl, hlen, hfl⟩ := DataW.trod_struct M.hreq hf
 rw [M.creq] at hl
 obtain ⟨x0, x1, x2, rfl⟩ : ∃ x0 x1 x2, xs = [x0, x1, x2] := by
  match xs, hlen with
  | [x0, x1, x2], _ => exact ⟨_, _, _, rfl⟩
 have e0 := hfl 0 M.f0 rfl
 have e1 := hfl 1 M.f1 rfl
 have e2 := hfl 2 M.f2 rfl
 rw [M.o0.1, M.o0.2, T.cu64] at e0
 rw [M.o1.1, M.o1.2, T.cu64] at e1
 rw [M.o2.1, M.o2.2, T.cop] at e2
 obtain ⟨a, b, m, rfl, hm⟩ : ∃ a b m, l = a :: b :: m ∧ m.length = 10 := by
  match l, hl with
  | a :: b :: m, h => exact ⟨a, b, m, rfl, by simpa using h⟩
 simp only [List.drop_succ_cons, List.drop_zero, List.take_succ_cons, List.take_zero, List.getElem?_cons_zero, List.getElem?_cons_succ] at e0 e1 e2
 rw [List.take_of_length_le (by omega)] at e2
 obtain ⟨z0, q0, _, w0⟩ := DataW.trod_int T.hu64 e0
 obtain ⟨z1, q1, _, w1⟩ := DataW.trod_int T.hu64 e1
 obtain rfl : a = .int .u64 z0 := by simpa using q0
 obtain rfl : b = .int .u64 z1 := by simpa using q1
 obtain ⟨y, ey, k, sm⟩ := open_deep T 3 e2
 have g0 : 0 ≤ z0 ∧ z0 < 18446744073709551616 := by
  simp [Lit.wf, IntKind.min, IntKind.max, IntKind.signed, IntKind.bits] at w0
  omega
 have g1 : 0 ≤ z1 ∧ z1 < 18446744073709551616 := by
  simp [Lit.wf, IntKind.min, IntKind.max, IntKind.signed, IntKind.bits] at w1
  omega
 refine ⟨⟨z0.toNat, z1.toNat, y⟩, ?_, ⟨by show z0.toNat < _; omega, by show z1.toNat < _; omega, k⟩, fun hwt => ?_⟩
 ·rw [QE.m_cells]
  simp only
  rw [Int.toNat_of_nonneg g0.1, Int.toNat_of_nonneg g1.1, ← ey]
 ·rw [hx] at hwt
  exact sm (hwt.field M.hreq 2 (u := T.op) (by simp [M.o2.1]) rfl)
theorem open_reqs (T : OpTypes P) (C : CellTypes P T) (M : MoreTypes P T C) {sl : TypeId} (hsl : P.underlying sl = some (.slice M.req)) {fuel : Nat} {v : Value} {x : DataW H × List MemPlace} (h : DataW.trod enc P w base spare held fuel sl [v] = some x) :
  ∃ (ao : Option Addr) (n cap : Nat) (l : List QE), v = .slice ao n cap ∧ (GL elQ w ao n cap (l.map QE.m) ∧ ∀ y ∈ l, OW w 3 y.x) ∧ (Wt P x.1 sl → ∀ y ∈ l, OSm 3 y.x) := by
 rcases Deep.open_slice hsl h with ⟨hcs, _⟩ | ⟨a, l, c, m, n, D, Pl, hcs, _, hl, hm, hmm, hy0, hx⟩
 ·exact ⟨none, 0, 0, [], by simpa using hcs, ⟨GL.nothing _ _, fun _ h => by cases h⟩, fun _ _ h => by cases h⟩
 ·have hlm : l ≤ m := by rw [hmm]; split <;> omega
  obtain ⟨z, hz1, hz2⟩ := gather_list (p := fun i (y : QE) => ((∀ j v, y.m.cells[j]? = some v → w.cell? (a.add (i * 12 + j)) = some v) ∧ (y.cl < 18446744073709551616 ∧ y.st < 18446744073709551616 ∧ OW w 3 y.x)) ∧ (Wt P (D i) M.req → OSm 3 y.x)) l (fun i hi => by
   obtain ⟨cs', h1, h2⟩ := hx i (by omega)
   rw [M.creq] at h1
   obtain ⟨_, hlen, hcell⟩ := World.cells?_some h1
   obtain ⟨y, e1, w1, sm1⟩ := open_reqC T C M h2
   refine ⟨y, ⟨fun j v hv => ?_, w1⟩, sm1⟩
   rw [← e1] at hv
   have hj : j < cs'.length := (List.getElem?_eq_some_iff.1 hv).1
   have := hcell j (by omega)
   rw [Deep.add_add, hv] at this
   exact this)
  refine ⟨some a, l, c, z, by simpa using hcs, ⟨⟨by rw [List.length_map]; exact hz1, hl, hm, fun h => by simp at h, fun b hb i hi => ?_, fun q hq => ?_⟩, fun y hy => ?_⟩, fun hwt y hy => ?_⟩
  ·obtain rfl := Option.some.inj hb
   rw [List.length_map] at hi
   rw [List.getElem_map]
   exact (hz2 i hi).1.1
  ·obtain ⟨y, hy, rfl⟩ := List.mem_map.1 hq
   obtain ⟨i, hi, rfl⟩ := List.getElem_of_mem hy
   have h1 := (hz2 i hi).1.2
   exact QE.ok h1.1 h1.2.1 h1.2.2
  ·obtain ⟨i, hi, rfl⟩ := List.getElem_of_mem hy
   exact (hz2 i hi).1.2.2.2
  ·obtain ⟨i, hi, rfl⟩ := List.getElem_of_mem hy
   refine (hz2 i hi).2 fun n hn2 => hwt n ?_
   rw [hy0]
   simp only [DataW.weights, hsl]
   refine List.mem_cons_of_mem _ (List.mem_append_left _ (weights_mem_all (j := i) ?_ n hn2))
   rw [List.getElem?_map, List.getElem?_range (by omega)]
   rfl
end
end Go.Proofs.YtnbejckdhdbamaaGreat

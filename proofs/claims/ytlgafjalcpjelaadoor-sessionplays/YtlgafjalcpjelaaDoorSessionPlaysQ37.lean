/-
  Texts in one: SeAlive.
-/
import Derived.Test.YtlgafjalcpjelaaDoorSessionPlaysQ20
import Derived.Test.YtlgafjalcpjelaaDoorSessionPlaysQ15
namespace Go.Proofs.YtlgafjalcpjelaaDoor
open Go.RowKit
theorem belowG {a b c : World} {g : Nat} (h : Below a.heap.size a b) (k : b.grownBy c (some g)) (hg : a.heap.size ≤ g) : Below a.heap.size a c := h.grown k h.size (fun _ e => by cases e; exact hg)
def r7 : RV := ⟨7, [], false⟩
theorem putE_a : putE (newT [1]) 1 5 r7 = ([⟨1, 5, r7⟩], 0) := by rfl
theorem askE_a5 : askE [⟨1, 5, r7⟩] 1 5 = (r7, 0) := by rfl
theorem askE_a4 : askE [⟨1, 5, r7⟩] 1 4 = (zRV, 16) := by rfl
theorem askE_a6 : askE [⟨1, 5, r7⟩] 1 6 = (zRV, 7) := by rfl
set_option maxRecDepth 100000 in
set_option maxHeartbeats 4000000 in
theorem alive12 (w : World) : Calls Tryd.prog 5 #[] w fun e w' => e = .returned (.bool true) ∧ Below w.heap.size w w' := by
  have B0 : Below w.heap.size w (w.alloc (.cells #[.int .u64 1] 34)) := (Below.refl _ w).alloc (Nat.le_refl _) _
  have N0 : NL (w.alloc (.cells #[.int .u64 1] 34)) (some ⟨w.heap.size, 0, none⟩) 1 1 [1] := NL.new w [1] 34 (by decide) (by decide)
  have CN := cNew_good _ _ _ _ _ N0 (by decide)
  go_enter Tryd.func5, Tryd.ntmps5
  go_wp2_with fail
  refine CN.mono ?_
  rintro x w1 ⟨p, g, rfl, T1, hp, hg, C1⟩
  have B1 := B0.trans (C1.mono B0.size)
  have hg1 : w.heap.size ≤ g := Nat.le_trans B0.size hg
  clear CN N0 B0 C1 hp hg
  have CP := cPut_any w1 p g 1 5 _ T1 (by decide) (by decide) 7 none 0 0 [] false (CL.nothing _)
  go_wp2_with fail
  refine CP.mono ?_
  rintro x w2 ⟨rfl, T2, G2⟩
  have e2 : putE (newT [1]) 1 5 (resR 7 [] false) = ([⟨1, 5, r7⟩], 0) := putE_a
  rw [e2] at T2
  rw [e2]
  have B2 := belowG B1 G2 hg1
  clear CP T1 G2 B1 e2 hg1
  simp only at T2
  have C5 := cAsk_any w2 p g 1 5 _ T2
  rw [askE_a5] at C5
  go_wp2_with fail
  refine C5.mono ?_
  rintro x w3 ⟨q, ao, n, cap, cs, m, rfl, -, hq, D3⟩
  have hq7 : q = 7 := by
    have := congrArg RV.e hq
    simpa [r7, resR] using this.symm
  subst hq7
  have T3 := T2.below D3
  have B3 := B2.trans (D3.mono B2.size)
  clear C5 T2 B2 D3 hq
  have A3 : Below w3.heap.size w3 (w3.alloc (.cells #[.int .i64 7, .slice ao n cap, .bool m] 37)) := (Below.refl _ _).alloc (Nat.le_refl _) _
  have K3 : RW (w3.alloc (.cells #[.int .i64 7, .slice ao n cap, .bool m] 37)) w3.heap.size 7 (.slice ao n cap) m := heap_alloc_new _ _
  have C4 := cAsk_any _ p g 1 4 _ (T3.below A3)
  rw [askE_a4] at C4
  have T4 := T3.below A3
  have B4 := B3.trans (A3.mono B3.size)
  unfold resV
  go_wp2_with fail
  obtain ⟨w4, hw4⟩ : ∃ W, W = w3.alloc (.cells #[.int .i64 7, .slice ao n cap, .bool m] 37) := ⟨_, rfl⟩
  obtain ⟨M, hM⟩ : ∃ M, M = w3.heap.size := ⟨_, rfl⟩
  rw [← hw4] at K3 C4 T4 B4 ⊢
  rw [← hM] at K3 ⊢
  clear hw4 hM A3 T3 B3
  refine C4.mono ?_
  rintro x w5 ⟨q5, ao5, n5, cap5, cs5, m5, rfl, -, -, D5⟩
  have T5 := T4.below D5
  have B5 := B4.trans (D5.mono B4.size)
  have K5 : RW w5 M 7 (.slice ao n cap) m := K3.kept (D5.block _ K3.lt)
  clear C4 T4 B4 D5 K3
  have A5 : Below w5.heap.size w5 (w5.alloc (.cells #[.int .i64 q5, .slice ao5 n5 cap5, .bool m5] 37)) := (Below.refl _ _).alloc (Nat.le_refl _) _
  have K6 : RW (w5.alloc (.cells #[.int .i64 q5, .slice ao5 n5 cap5, .bool m5] 37)) M 7 (.slice ao n cap) m := K5.kept (A5.block _ K5.lt)
  have C6 := cAsk_any _ p g 1 6 _ (T5.below A5)
  rw [askE_a6] at C6
  have B6 := B5.trans (A5.mono B5.size)
  unfold resV
  go_wp2_with fail
  obtain ⟨w6, hw6⟩ : ∃ W, W = w5.alloc (.cells #[.int .i64 q5, .slice ao5 n5 cap5, .bool m5] 37) := ⟨_, rfl⟩
  obtain ⟨M2, hM2⟩ : ∃ M, M = w5.heap.size := ⟨_, rfl⟩
  rw [← hw6] at K6 C6 B6 ⊢
  rw [← hM2]
  clear hw6 hM2 A5 T5 B5 K5
  refine C6.mono ?_
  rintro x w7 ⟨q7, ao7, n7, cap7, cs7, m7, rfl, -, -, D7⟩
  have B7 := B6.trans (D7.mono B6.size)
  have K7 : RW w7 M 7 (.slice ao n cap) m := K6.kept (D7.block _ K6.lt)
  clear C6 B6 D7 K6
  have hlt := K7.lt
  have A7 : Below w7.heap.size w7 (w7.alloc (.cells #[.int .i64 q7, .slice ao7 n7 cap7, .bool m7] 37)) := (Below.refl _ _).alloc (Nat.le_refl _) _
  have r0 := K7.c0
  have B8 : Hid (Below w.heap.size w (w7.alloc (.cells #[.int .i64 q7, .slice ao7 n7 cap7, .bool m7] 37))) := B7.trans (A7.mono B7.size)
  clear K7 A7 B7
  unfold resV
  go_wp2
  go_ret
  exact ⟨rfl, B8.out⟩
end Go.Proofs.YtlgafjalcpjelaaDoor

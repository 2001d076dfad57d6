/-
  The program's takeText, takeKey.
-/
import Derived.Test.YtbfcilfdeemnpaaFar
import Derived.Test.YtbfcilfdeemnpaaMB
import Derived.Test.YtbfcilfdeemnpaaMC
import Derived.Test.YtbfcilfdeemnpaaMD
namespace Go.Proofs.Ytbfcilfdeemnpaa
open Go.RowKit

/-- What a step of a reader leaves. -/
def Left (w : World) (p L : Nat) (t : List Int × Int) (w' : World) : Prop := R w' p L t.1 t.2 ∧ w.grownBy w' (some p)

set_option maxRecDepth 100000 in
set_option maxHeartbeats 1000000 in
theorem ttext_any (w : World) (p L : Nat) (xs : List Int) (k : Int) (h : R w p L xs k) :
    Calls Try.prog 67 #[.pointer (some ⟨p, 0, none⟩)] w fun e w' => e = .returned (.string (txT 32 xs k).1) ∧ Left w p L (txT 32 xs k).2 w' := by
  go_enter Try.func67, Try.ntmps67
  go_wp2_with fail
  refine (bytes_any w p L xs k 32 (by decide) h).mono ?_
  rintro e w1 ⟨ao, n, cap, rfl, S1, _, R1, G1⟩
  have c1 := conv_str S1
  obtain ⟨y, hy⟩ : ∃ y, y = strOfNums (bytesS xs k 32).1 := ⟨_, rfl⟩
  have HY : Hid (y = strOfNums (bytesS xs k 32).1) := hy
  rw [← hy] at c1
  have HR : Hid (R w1 p L (bytesS xs k 32).2.1 (bytesS xs k 32).2.2) := R1
  clear hy S1 R1 h
  go_wp2
  go_ret
  exact ⟨by show Ending.returned (Value.string y) = _; rw [HY.out]; exact rfl, HR.out, G1⟩

theorem grown_own {w W : World} {p q i : Nat} {v : Value} (h : w.grownBy W (some p)) (hq : w.heap.size ≤ q) : w.grownBy (W.setCell ⟨q, i, none⟩ v) (some p) :=
  ⟨h.os, h.tape, h.output, by rw [World.size_setCell]; exact h.size, fun j hj hne => (Below.heap_setCell W ⟨q, i, none⟩ v j (by show j ≠ q; omega)).trans (h.block j hj hne)⟩
theorem grown_alloc {w W : World} {p : Nat} (h : w.grownBy W (some p)) (o : Obj) : w.grownBy (W.alloc o) (some p) :=
  grown_trans h (grown_below ((Below.refl _ W).alloc (Nat.le_refl _) o))
theorem R.own {W : World} {p L q i : Nat} {v : Value} {xs : List Int} {k : Int} (h : R W p L xs k) (hp : p < q) (hL : L ≤ q) : R (W.setCell ⟨q, i, none⟩ v) p L xs k := h.keep (by omega) hL (grown_setCell W q i v)
theorem R.plt {W : World} {p L : Nat} {xs : List Int} {k : Int} (h : R W p L xs k) : p < W.heap.size ∧ L ≤ p := by
  obtain ⟨ao, n, cap, h⟩ := h
  exact ⟨h.plt, h.le⟩
def zeroKA : KA := ⟨⟨#[]⟩, ⟨#[]⟩, ⟨#[]⟩, 0⟩
def keyOf (q : ByteArray × ByteArray × ByteArray × Nat) : KA := ⟨q.1, q.2.1, q.2.2.1, q.2.2.2⟩
theorem KC.grown {V V' : World} {q p : Nat} {k : KA} (h : KC V q k) (hg : V.grownBy V' (some p)) (hne : q ≠ p) : KC V' q k := (hg.block q h.lt (by simp; omega)).trans h
theorem KC.four {V : World} {q : Nat} {k : KA} (h : KC V q k) (r f g : ByteArray) (t : Nat) : KC ((((V.setCell ⟨q, 0, none⟩ (.string r)).setCell ⟨q, 1, none⟩ (.string f)).setCell ⟨q, 2, none⟩ (.string g)).setCell ⟨q, 3, none⟩ (.int .u64 t)) q ⟨r, f, g, t⟩ := by
  have h1 := heap_setCell_same V q 0 _ _ (.string r) h
  have h2 := heap_setCell_same _ q 1 _ _ (.string f) h1
  have h3 := heap_setCell_same _ q 2 _ _ (.string g) h2
  exact heap_setCell_same _ q 3 _ _ (.int .u64 t) h3

set_option maxRecDepth 100000 in
set_option maxHeartbeats 4000000 in
theorem tkey_any (w : World) (p L : Nat) (xs : List Int) (k : Int) (h : R w p L xs k) :
    Calls Try.prog 44 #[.pointer (some ⟨p, 0, none⟩)] w fun e w' => e = .returned (keyOf (keyT xs k).1).val ∧ Left w p L (keyT xs k).2 w' := by
  have hpl := h.plt
  have K0 : KC (w.alloc (.cells #[.string ⟨#[]⟩, .string ⟨#[]⟩, .string ⟨#[]⟩, .int .u64 0] 24)) w.heap.size zeroKA := heap_alloc_new w _
  have B0 : Below w.heap.size w (w.alloc (.cells #[.string ⟨#[]⟩, .string ⟨#[]⟩, .string ⟨#[]⟩, .int .u64 0] 24)) := (Below.refl _ w).alloc (Nat.le_refl _) _
  have R0 := h.below B0
  have G0 : w.grownBy _ (some p) := grown_below B0
  clear h
  go_enter Try.func44, Try.ntmps44
  go_wp2_with fail
  obtain ⟨w0, hw0⟩ : ∃ W, W = w.alloc (.cells #[.string ⟨#[]⟩, .string ⟨#[]⟩, .string ⟨#[]⟩, .int .u64 0] 24) := ⟨_, rfl⟩
  obtain ⟨N, hN⟩ : ∃ N, N = w.heap.size := ⟨_, rfl⟩
  rw [← hw0] at K0 R0 G0 ⊢
  rw [← hN] at K0 ⊢
  have HN : Hid (N = w.heap.size) := hN
  have hne : N ≠ p := by omega
  have hpN : p < N ∧ L ≤ N := by omega
  clear hw0 hN B0
  refine (ttext_any w0 p L xs k R0).mono ?_
  rintro e w1 ⟨rfl, R1, G1⟩
  obtain ⟨r1, e1⟩ : ∃ r, r = txT 32 xs k := ⟨_, rfl⟩
  have E1 : Hid (r1 = txT 32 xs k) := e1
  rw [← e1] at R1 ⊢
  clear e1
  have K1 := K0.grown G1 hne
  have G1 := grown_trans G0 G1
  clear K0 R0 G0
  go_wp2_with fail
  refine (ttext_any w1 p L r1.2.1 r1.2.2 R1).mono ?_
  rintro e w2 ⟨rfl, R2, G2⟩
  obtain ⟨r2, e2⟩ : ∃ r, r = txT 32 r1.2.1 r1.2.2 := ⟨_, rfl⟩
  have E2 : Hid (r2 = txT 32 r1.2.1 r1.2.2) := e2
  rw [← e2] at R2 ⊢
  clear e2
  have K2 := K1.grown G2 hne
  have G2 := grown_trans G1 G2
  clear K1 R1 G1
  go_wp2_with fail
  refine (ttext_any w2 p L r2.2.1 r2.2.2 R2).mono ?_
  rintro e w3 ⟨rfl, R3, G3⟩
  obtain ⟨r3, e3⟩ : ∃ r, r = txT 32 r2.2.1 r2.2.2 := ⟨_, rfl⟩
  have E3 : Hid (r3 = txT 32 r2.2.1 r2.2.2) := e3
  rw [← e3] at R3 ⊢
  clear e3
  have K3 := K2.grown G3 hne
  have G3 := grown_trans G2 G3
  clear K2 R2 G2
  go_wp2_with fail
  refine (uint_any w3 p L r3.2.1 r3.2.2 R3).mono ?_
  rintro e w4 ⟨rfl, R4, G4⟩
  obtain ⟨r4, e4⟩ : ∃ r, r = uintS r3.2.1 r3.2.2 := ⟨_, rfl⟩
  have E4 : Hid (r4 = uintS r3.2.1 r3.2.2) := e4
  rw [← e4] at R4 ⊢
  clear e4
  have K4 := K3.grown G4 hne
  have G4 := grown_trans G3 G4
  clear K3 R3 G3
  have q0 := K4.c0
  have q1 := K4.c1
  have q2 := K4.c2
  have q3 := K4.c3
  have f0 : w4.frozen? ⟨N, 0, none⟩ = false := frozen_of_row w4 N 0 _ _ K4
  have f1 : w4.frozen? ⟨N, 1, none⟩ = false := frozen_of_row w4 N 1 _ _ K4
  have f2 : w4.frozen? ⟨N, 2, none⟩ = false := frozen_of_row w4 N 2 _ _ K4
  have f3 : w4.frozen? ⟨N, 3, none⟩ = false := frozen_of_row w4 N 3 _ _ K4
  have lt := K4.lt
  have hwN : w.heap.size ≤ N := by rw [HN.out]; exact Nat.le_refl _
  have RF : R ((((w4.setCell ⟨N, 0, none⟩ (.string r1.1)).setCell ⟨N, 1, none⟩ (.string r2.1)).setCell ⟨N, 2, none⟩ (.string r3.1)).setCell ⟨N, 3, none⟩ (.int .u64 r4.1)) p L r4.2.1 r4.2.2 := (((R4.own hpN.1 hpN.2).own hpN.1 hpN.2).own hpN.1 hpN.2).own hpN.1 hpN.2
  have GF : w.grownBy ((((w4.setCell ⟨N, 0, none⟩ (.string r1.1)).setCell ⟨N, 1, none⟩ (.string r2.1)).setCell ⟨N, 2, none⟩ (.string r3.1)).setCell ⟨N, 3, none⟩ (.int .u64 r4.1)) (some p) := grown_own (grown_own (grown_own (grown_own G4 hwN) hwN) hwN) hwN
  have HK : Hid (keyT xs k = ((r1.1, r2.1, r3.1, r4.1), r4.2)) := by
    show _ = _
    unfold keyT andT
    rw [← E1.out, ← E2.out, ← E3.out, ← E4.out]
  clear hne hpN G4 R4 K4
  go_wp2
  refine bodyPost_ret (v := .agg #[.string r1.1, .string r2.1, .string r3.1, .int .u64 r4.1]) (by simp [results, Try.results44, go_sem, q0, q1, q2, q3]) rfl ⟨?_, ?_⟩
  · rw [HK.out]
    rfl
  · rw [HK.out]
    exact ⟨RF, GF⟩
end Go.Proofs.Ytbfcilfdeemnpaa

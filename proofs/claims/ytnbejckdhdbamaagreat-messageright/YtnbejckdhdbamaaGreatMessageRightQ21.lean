/-
  Texts in one: RgSig, CRight.
-/
import Derived.Test.YtnbejckdhdbamaaGreatMessageRightQ0
import Derived.Test.YtnbejckdhdbamaaGreatMessageRightQ19
import Derived.Test.YtnbejckdhdbamaaGreatMessageRightQ1
namespace Go.Proofs.YtnbejckdhdbamaaGreat
open Go.RowKit
set_option maxRecDepth 100000 in
set_option maxHeartbeats 4000000 in
theorem rsigned_any (w : World) (ao : Option Addr) (n cap : Nat) (l : List SA) (L : GL elS w ao n cap l) :
  Calls Tryz.prog 22 #[.slice ao n cap] w fun e w' => e = .returned (.bool (tOk (⟨ao, n, cap, l⟩ : LS SA))) ∧ Below w.heap.size w w' := by
 obtain ⟨rb, hrb⟩ : ∃ b, b = (tOk (⟨ao, n, cap, l⟩ : LS SA)) := ⟨_, rfl⟩
 rw [← hrb]
 have HRB : Hid (rb = (decide (n ≤ 16) && l.all SA.sg)) := hrb
 clear hrb
 have hl := L.len
 have hm := L.mx
 have hle := L.le
 simp only [maxLen] at hm
 go_enter Tryz.func22, Tryz.ntmps22
 go_wp2_with fail
 go_loopw [3] (fun i wr => ∃ k : Nat, k ≤ n ∧ i = .int .i64 k ∧ Below w.heap.size w wr ∧ Hid (∀ s ∈ l.take k, s.sg = true)) (fun i _ => n - (intOf i).toNat)
 case atStart => exact ⟨0, Nat.zero_le _, rfl, Below.refl _ _, fun y hy => by simp at hy⟩
 case round =>
  obtain ⟨k, hk, rfl, B, HA⟩ := hrel
  by_cases hlt : k < n
  ·have hki : (k : Int) < (n : Int) := by omega
   have hkl : k < l.length := by omega
   obtain ⟨b, off, rfl, hc⟩ := (L.below elS_fine B).atS (by omega)
   have X := hc k hkl
   have HT : Hid (∀ s ∈ l.take (k + 1), s ∈ l.take k ∨ s = l[k]) := fun s hs => by
    rw [List.take_succ_eq_append_getElem hkl, List.mem_append, List.mem_singleton] at hs
    exact hs
   have HF : Hid ((l[k]).sg = false → rb = false) := fun h => by
    have : (l.all SA.sg) = false := by
     cases e : l.all SA.sg with
     | false => rfl
     | true => rw [List.all_eq_true] at e; rw [e _ (List.getElem_mem hkl)] at h; cases h
    rw [HRB.out, this, Bool.and_false]
   obtain ⟨s, hs⟩ : ∃ s, s = l[k] := ⟨_, rfl⟩
   rw [← hs] at X HT HF
   clear hs hc
   obtain ⟨x0, x1, x2⟩ := X
   by_cases c0 : s.fr = 0
   ·have j0 : ((s.fr : Int) == 0) = true := by simp; omega
    have hv : Hid (rb = false) := HF.out (by unfold SA.sg sgnd; exact decide_eq_false (by omega))
    clear HA HT HF c0
    go_wp2
    go_ret
    exact ⟨by rw [hv.out] <;> rfl, B⟩
   have j0 : ((s.fr : Int) == 0) = false := by simp; omega
   by_cases c1 : 16384 < s.b.n
   ·have j1 : (16384 : Int) < (s.b.n : Int) := by omega
    have hv : Hid (rb = false) := HF.out (by unfold SA.sg sgnd; exact decide_eq_false (by omega))
    clear HA HT HF c1
    go_wp2
    go_ret
    exact ⟨by rw [hv.out] <;> rfl, B⟩
   have j1 : ¬ (16384 : Int) < (s.b.n : Int) := by omega
   by_cases c2 : s.tag.n ≠ 32
   ·have j2 : ((s.tag.n : Int) != 32) = true := by simp; omega
    have hv : Hid (rb = false) := HF.out (by unfold SA.sg sgnd; exact decide_eq_false (by omega))
    clear HA HT HF c2
    go_wp2
    go_ret
    exact ⟨by rw [hv.out] <;> rfl, B⟩
   have j2 : ((s.tag.n : Int) != 32) = false := by simp; omega
   have hp : s.sg = true := by unfold SA.sg sgnd; exact decide_eq_true (by omega)
   have HA2 : Hid (∀ s ∈ l.take (k + 1), s.sg = true) := fun u hu => by
    rcases HT.out u hu with h | h
    ·exact HA.out u h
    ·rw [h]; exact hp
   clear HA HT HF hp c0 c1 c2
   go_wp2
   go_roundw
   case rel => exact ⟨k + 1, by omega, by go_num, B, HA2⟩
   case measure => simp [intOf]; omega
  ·have hge : ¬ (k : Int) < (n : Int) := by omega
   have HL : l.all SA.sg = true := List.all_eq_true.2 fun s hs => HA.out s (by rw [List.take_of_length_le (by omega)]; exact hs)
   have hv : Hid (rb = decide (n ≤ 16)) := by
    show _ = _
    rw [HRB.out, HL, Bool.and_true]
   clear HA HL
   by_cases c16 : n ≤ 16
   ·have j16 : decide ((n : Int) ≤ 16) = true := by simp; omega
    have j17 : (n : Int) ≤ 16 := by omega
    go_wp2
    go_ret
    exact ⟨by rw [hv.out, decide_eq_true c16] <;> rfl, B⟩
   ·have j16 : decide ((n : Int) ≤ 16) = false := by simp; omega
    have j17 : ¬ (n : Int) ≤ 16 := by omega
    go_wp2
    go_ret
    exact ⟨by rw [hv.out, decide_eq_false c16] <;> rfl, B⟩
set_option maxRecDepth 100000 in
set_option maxHeartbeats 4000000 in
theorem rbare_any (w : World) (ao : Option Addr) (n cap : Nat) (l : List SA) (L : GL elS w ao n cap l) :
  Calls Tryz.prog 25 #[.slice ao n cap] w fun e w' => e = .returned (.bool (l.all SA.pl)) ∧ Below w.heap.size w w' := by
 obtain ⟨rb, hrb⟩ : ∃ b, b = (l.all SA.pl) := ⟨_, rfl⟩
 rw [← hrb]
 have HRB : Hid (rb = (l.all SA.pl)) := hrb
 clear hrb
 have hl := L.len
 have hm := L.mx
 have hle := L.le
 simp only [maxLen] at hm
 go_enter Tryz.func25, Tryz.ntmps25
 go_wp2_with fail
 go_loopw [3] (fun i wr => ∃ k : Nat, k ≤ n ∧ i = .int .i64 k ∧ Below w.heap.size w wr ∧ Hid (∀ s ∈ l.take k, s.pl = true)) (fun i _ => n - (intOf i).toNat)
 case atStart => exact ⟨0, Nat.zero_le _, rfl, Below.refl _ _, fun y hy => by simp at hy⟩
 case round =>
  obtain ⟨k, hk, rfl, B, HA⟩ := hrel
  by_cases hlt : k < n
  ·have hki : (k : Int) < (n : Int) := by omega
   have hkl : k < l.length := by omega
   obtain ⟨b, off, rfl, hc⟩ := (L.below elS_fine B).atS (by omega)
   have X := hc k hkl
   have HT : Hid (∀ s ∈ l.take (k + 1), s ∈ l.take k ∨ s = l[k]) := fun s hs => by
    rw [List.take_succ_eq_append_getElem hkl, List.mem_append, List.mem_singleton] at hs
    exact hs
   have HF : Hid ((l[k]).pl = false → rb = false) := fun h => by
    have : (l.all SA.pl) = false := by
     cases e : l.all SA.pl with
     | false => rfl
     | true => rw [List.all_eq_true] at e; rw [e _ (List.getElem_mem hkl)] at h; cases h
    rw [HRB.out, this]
   obtain ⟨s, hs⟩ : ∃ s, s = l[k] := ⟨_, rfl⟩
   rw [← hs] at X HT HF
   clear hs hc
   obtain ⟨x0, x1, x2⟩ := X
   by_cases c0 : s.fr ≠ 0
   ·have j0 : ((s.fr : Int) != 0) = true := by simp; omega
    have hv : Hid (rb = false) := HF.out (by unfold SA.pl plain; exact decide_eq_false (by omega))
    clear HA HT HF c0
    go_wp2
    go_ret
    exact ⟨by rw [hv.out] <;> rfl, B⟩
   have j0 : ((s.fr : Int) != 0) = false := by simp; omega
   by_cases c1 : s.tag.n ≠ 0
   ·have j1 : ((s.tag.n : Int) != 0) = true := by simp; omega
    have hv : Hid (rb = false) := HF.out (by unfold SA.pl plain; exact decide_eq_false (by omega))
    clear HA HT HF c1
    go_wp2
    go_ret
    exact ⟨by rw [hv.out] <;> rfl, B⟩
   have j1 : ((s.tag.n : Int) != 0) = false := by simp; omega
   by_cases c2 : 65536 < s.b.n
   ·have j2 : (65536 : Int) < (s.b.n : Int) := by omega
    have hv : Hid (rb = false) := HF.out (by unfold SA.pl plain; exact decide_eq_false (by omega))
    clear HA HT HF c2
    go_wp2
    go_ret
    exact ⟨by rw [hv.out] <;> rfl, B⟩
   have j2 : ¬ (65536 : Int) < (s.b.n : Int) := by omega
   have hp : s.pl = true := by unfold SA.pl plain; exact decide_eq_true (by omega)
   have HA2 : Hid (∀ s ∈ l.take (k + 1), s.pl = true) := fun u hu => by
    rcases HT.out u hu with h | h
    ·exact HA.out u h
    ·rw [h]; exact hp
   clear HA HT HF hp c0 c1 c2
   go_wp2
   go_roundw
   case rel => exact ⟨k + 1, by omega, by go_num, B, HA2⟩
   case measure => simp [intOf]; omega
  ·have hge : ¬ (k : Int) < (n : Int) := by omega
   have HL : l.all SA.pl = true := List.all_eq_true.2 fun s hs => HA.out s (by rw [List.take_of_length_le (by omega)]; exact hs)
   have hv : Hid (rb = true) := by
    show _ = _
    rw [HRB.out, HL]
   clear HA HL
   go_wp2
   go_ret
   exact ⟨by rw [hv.out] <;> rfl, B⟩
open Go.RowKit
set_option maxRecDepth 100000 in
set_option maxHeartbeats 2000000 in
theorem rright_any (w : World) (k : KA) :
  Calls Tryz.prog 67 #[k.val] w fun e w' => e = .returned (.int .i64 k.kind) ∧ Below w.heap.size w w' := by
 have B : Below w.heap.size w (w.alloc (Obj.cells #[.string k.row, .string k.fam, .string k.qual, .int .u64 k.time] 55)) := (Below.refl _ w).alloc (Nat.le_refl _) _
 have no : ∀ (_ : ¬ (1 ≤ k.row.size ∧ k.row.size ≤ 32 ∧ 1 ≤ k.fam.size ∧ k.fam.size ≤ 32 ∧ k.qual.size ≤ 32)), Hid (k.kind = 5) := fun h => by
  show _ = _
  unfold KA.kind KA.isRight
  rw [decide_eq_false h]
  rfl
 unfold KA.val
 by_cases r0 : k.row.size < 1
 ·have i0 : (k.row.size : Int) < 1 := by omega
  have hv := no (by omega)
  clear no
  go_enter Tryz.func67, Tryz.ntmps67
  go_wp2
  go_ret
  exact ⟨by rw [hv.out] <;> rfl, B⟩
 have i0 : (1 : Int) ≤ (k.row.size : Int) := by omega
 by_cases r1 : 32 < k.row.size
 ·have i1 : (32 : Int) < (k.row.size : Int) := by omega
  have hv := no (by omega)
  clear no
  go_enter Tryz.func67, Tryz.ntmps67
  go_wp2
  go_ret
  exact ⟨by rw [hv.out] <;> rfl, B⟩
 have i1 : (k.row.size : Int) ≤ 32 := by omega
 by_cases r2 : k.fam.size < 1
 ·have i2 : (k.fam.size : Int) < 1 := by omega
  have hv := no (by omega)
  clear no
  go_enter Tryz.func67, Tryz.ntmps67
  go_wp2
  go_ret
  exact ⟨by rw [hv.out] <;> rfl, B⟩
 have i2 : (1 : Int) ≤ (k.fam.size : Int) := by omega
 by_cases r3 : 32 < k.fam.size
 ·have i3 : (32 : Int) < (k.fam.size : Int) := by omega
  have hv := no (by omega)
  clear no
  go_enter Tryz.func67, Tryz.ntmps67
  go_wp2
  go_ret
  exact ⟨by rw [hv.out] <;> rfl, B⟩
 have i3 : (k.fam.size : Int) ≤ 32 := by omega
 by_cases r4 : 32 < k.qual.size
 ·have i4 : (32 : Int) < (k.qual.size : Int) := by omega
  have hv := no (by omega)
  clear no
  go_enter Tryz.func67, Tryz.ntmps67
  go_wp2
  go_ret
  exact ⟨by rw [hv.out] <;> rfl, B⟩
 have i4 : (k.qual.size : Int) ≤ 32 := by omega
 have hv : Hid (k.kind = 0) := by
  show _ = _
  unfold KA.kind KA.isRight
  rw [decide_eq_true (by omega)]
  rfl
 clear no
 go_enter Tryz.func67, Tryz.ntmps67
 go_wp2
 go_ret
 exact ⟨by rw [hv.out] <;> rfl, B⟩
end Go.Proofs.YtnbejckdhdbamaaGreat

/-
  Texts in one: MgTx.
-/
import Derived.Test.YtnbejckdhdbamaaGreatMessageRightQ10
namespace Go.Proofs.YtnbejckdhdbamaaGreat
open Go.RowKit
set_option maxRecDepth 100000 in
set_option maxHeartbeats 4000000 in
theorem isSigned_any (w : World) (s : SA) :
  Calls Tryz.prog 97 #[s.val] w fun e w' => e = .returned (.bool s.sg) ∧ Below w.heap.size w w' := by
 have B : Below w.heap.size w (w.alloc (Obj.cells #[.int .u64 s.fr, .slice s.b.ao s.b.n s.b.cap, .slice s.tag.ao s.tag.n s.tag.cap] 112)) := (Below.refl _ w).alloc (Nat.le_refl _) _
 unfold SA.val
 by_cases c0 : s.fr = 0
 ·have i0 : ((s.fr : Int) != 0) = false := by first | omega | (simp; omega)
  have hv : Hid (s.sg = false) := by
   show _ = _
   unfold SA.sg sgnd
   exact decide_eq_false (by omega)
  clear c0
  go_enter Tryz.func97, Tryz.ntmps97
  go_wp2
  go_ret
  exact ⟨by rw [hv.out] <;> rfl, B⟩
 have i0 : ((s.fr : Int) != 0) = true := by first | omega | (simp; omega)
 by_cases c1 : 16384 < s.b.n
 ·have i1 : (16384 : Int) < (s.b.n : Int) := by first | omega | (simp; omega)
  have hv : Hid (s.sg = false) := by
   show _ = _
   unfold SA.sg sgnd
   exact decide_eq_false (by omega)
  clear c0 c1
  go_enter Tryz.func97, Tryz.ntmps97
  go_wp2
  go_ret
  exact ⟨by rw [hv.out] <;> rfl, B⟩
 have i1 : (s.b.n : Int) ≤ 16384 := by first | omega | (simp; omega)
 by_cases c2 : s.tag.n ≠ 32
 ·have i2 : ((s.tag.n : Int) == 32) = false := by first | omega | (simp; omega)
  have hv : Hid (s.sg = false) := by
   show _ = _
   unfold SA.sg sgnd
   exact decide_eq_false (by omega)
  clear c0 c1 c2
  go_enter Tryz.func97, Tryz.ntmps97
  go_wp2
  go_ret
  exact ⟨by rw [hv.out] <;> rfl, B⟩
 have i2 : ((s.tag.n : Int) == 32) = true := by first | omega | (simp; omega)
 have hv : Hid (s.sg = true) := by
  show _ = _
  unfold SA.sg sgnd
  exact decide_eq_true (by omega)
 clear c0 c1 c2
 go_enter Tryz.func97, Tryz.ntmps97
 go_wp2
 go_ret
 exact ⟨by rw [hv.out] <;> rfl, B⟩
set_option maxRecDepth 100000 in
set_option maxHeartbeats 4000000 in
theorem isPlain_any (w : World) (s : SA) :
  Calls Tryz.prog 96 #[s.val] w fun e w' => e = .returned (.bool s.pl) ∧ Below w.heap.size w w' := by
 have B : Below w.heap.size w (w.alloc (Obj.cells #[.int .u64 s.fr, .slice s.b.ao s.b.n s.b.cap, .slice s.tag.ao s.tag.n s.tag.cap] 112)) := (Below.refl _ w).alloc (Nat.le_refl _) _
 unfold SA.val
 by_cases c0 : s.fr ≠ 0
 ·have i0 : ((s.fr : Int) == 0) = false := by first | omega | (simp; omega)
  have hv : Hid (s.pl = false) := by
   show _ = _
   unfold SA.pl plain
   exact decide_eq_false (by omega)
  clear c0
  go_enter Tryz.func96, Tryz.ntmps96
  go_wp2
  go_ret
  exact ⟨by rw [hv.out] <;> rfl, B⟩
 have i0 : ((s.fr : Int) == 0) = true := by first | omega | (simp; omega)
 by_cases c1 : 65536 < s.b.n
 ·have i1 : (65536 : Int) < (s.b.n : Int) := by first | omega | (simp; omega)
  have hv : Hid (s.pl = false) := by
   show _ = _
   unfold SA.pl plain
   exact decide_eq_false (by omega)
  clear c0 c1
  go_enter Tryz.func96, Tryz.ntmps96
  go_wp2
  go_ret
  exact ⟨by rw [hv.out] <;> rfl, B⟩
 have i1 : (s.b.n : Int) ≤ 65536 := by first | omega | (simp; omega)
 by_cases c2 : s.tag.n ≠ 0
 ·have i2 : ((s.tag.n : Int) == 0) = false := by first | omega | (simp; omega)
  have hv : Hid (s.pl = false) := by
   show _ = _
   unfold SA.pl plain
   exact decide_eq_false (by omega)
  clear c0 c1 c2
  go_enter Tryz.func96, Tryz.ntmps96
  go_wp2
  go_ret
  exact ⟨by rw [hv.out] <;> rfl, B⟩
 have i2 : ((s.tag.n : Int) == 0) = true := by first | omega | (simp; omega)
 have hv : Hid (s.pl = true) := by
  show _ = _
  unfold SA.pl plain
  exact decide_eq_true (by omega)
 clear c0 c1 c2
 go_enter Tryz.func96, Tryz.ntmps96
 go_wp2
 go_ret
 exact ⟨by rw [hv.out] <;> rfl, B⟩
def txF (k : Int) : Value := if k = 10 ∨ k = 14 then .func (.func 96) #[] #[] else .func (.func 97) #[] #[]
set_option maxRecDepth 100000 in
set_option maxHeartbeats 4000000 in
theorem textFor_any (w : World) (k : Int) : Calls Tryz.prog 62 #[.int .i64 k] w fun e w' => e = .returned (txF k) ∧ w' = w := by
 by_cases c0 : k = 10
 ·have i0 : (k == 10) = true := by simp [c0]
  have hv : Hid (txF k = .func (.func 96) #[] #[]) := if_pos (.inl c0)
  clear c0
  go_enter Tryz.func62, Tryz.ntmps62
  go_wp2
  go_ret
  exact ⟨by rw [hv.out] <;> rfl, rfl⟩
 have i0 : (k == 10) = false := by simp [c0]
 by_cases c1 : k = 14
 ·have i1 : (k == 14) = true := by simp [c1]
  have hv : Hid (txF k = .func (.func 96) #[] #[]) := if_pos (.inr c1)
  clear c0 c1
  go_enter Tryz.func62, Tryz.ntmps62
  go_wp2
  go_ret
  exact ⟨by rw [hv.out] <;> rfl, rfl⟩
 have i1 : (k == 14) = false := by simp [c1]
 have hv : Hid (txF k = .func (.func 97) #[] #[]) := if_neg (by omega)
 clear c0 c1
 go_enter Tryz.func62, Tryz.ntmps62
 go_wp2
 go_ret
 exact ⟨by rw [hv.out] <;> rfl, rfl⟩
set_option maxRecDepth 100000 in
set_option maxHeartbeats 4000000 in
theorem notTextS (w : World) (s : SA) (g : Nat) (hg : w.cell? ⟨g, 0, none⟩ = some (.func (.func 97) #[] #[])) :
  Calls Tryz.prog 95 #[s.val, .pointer (some ⟨g, 0, none⟩)] w fun e w' => e = .returned (.bool (!s.sg)) ∧ Below w.heap.size w w' := by
 have B : Below w.heap.size w (w.alloc (Obj.cells #[.int .u64 s.fr, .slice s.b.ao s.b.n s.b.cap, .slice s.tag.ao s.tag.n s.tag.cap] 112)) := (Below.refl _ w).alloc (Nat.le_refl _) _
 have g1 := (B.cell (World.block_lt_of_cell? w _ hg)).trans hg
 have CC := isSigned_any (w.alloc (Obj.cells #[.int .u64 s.fr, .slice s.b.ao s.b.n s.b.cap, .slice s.tag.ao s.tag.n s.tag.cap] 112)) s
 clear hg
 unfold SA.val at CC ⊢
 go_enter Tryz.func95, Tryz.ntmps95
 go_wp2_with (go_at_call 97; refine CC.mono ?_; rintro e w' ⟨rfl, C⟩; have D := B.trans (C.mono B.size))
 go_ret
 exact ⟨rfl, D⟩
set_option maxRecDepth 100000 in
set_option maxHeartbeats 4000000 in
theorem textIxS (w : World) (ao : Option Addr) (n cap : Nat) (l : List SA) (h : GL elS w ao n cap l) (g : Nat) (hg : w.cell? ⟨g, 0, none⟩ = some (.func (.func 97) #[] #[])) :
  Calls Tryz.prog 119 #[.slice ao n cap, .func (.func 95) #[] #[.pointer (some ⟨g, 0, none⟩)]] w fun e w' =>
   (∃ i : Int, e = .returned (.int .i64 i) ∧ decide (0 ≤ i) = l.any (fun s : SA => !s.sg)) ∧ Below w.heap.size w w' := by
 have hl : l.length = n := h.len
 have hm := h.mx
 have hle := h.le
 simp only [maxLen] at hm
 go_enter Tryz.func119, Tryz.ntmps119
 go_wp2
 go_loopw [5, 8] (fun _ i wr => ∃ k : Nat, k ≤ n ∧ i = .int .i64 k ∧ Below w.heap.size w wr ∧ (l.take k).any (fun s : SA => !s.sg) = false) (fun _ i _ => n - (intOf i).toNat)
 case atStart => exact ⟨0, Nat.zero_le _, rfl, Below.refl _ _, rfl⟩
 case round =>
  obtain ⟨k, hk, rfl, B, hall⟩ := hrel
  have HA : Hid ((l.take k).any (fun s : SA => !s.sg) = false) := hall
  clear hall
  by_cases hlt : k < n
  ·have hB := h.below elS_fine B
   obtain ⟨b, off, rfl, hc⟩ := hB.atS (by omega)
   have hkl : k < l.length := by omega
   have X := hc k hkl
   have hok := hB.ok _ (List.getElem_mem hkl)
   have g1 := (B.cell (World.block_lt_of_cell? w _ hg)).trans hg
   have i1 : (k : Int) < (n : Int) := by omega
   have HT : Hid ((l.take (k + 1)).any (fun s : SA => !s.sg) = (fun s : SA => !s.sg) l[k]) := by
    show _ = _
    rw [List.take_succ_eq_append_getElem hkl, List.any_append, HA.out]
    simp
   have HL : Hid ((fun s : SA => !s.sg) l[k] = true → l.any (fun s : SA => !s.sg) = true) := fun hb => List.any_eq_true.2 ⟨_, List.getElem_mem hkl, hb⟩
   obtain ⟨o, ho⟩ : ∃ o, o = l[k] := ⟨_, rfl⟩
   rw [← ho] at X hok HT HL
   clear ho hc h hB HA
   obtain ⟨q0, q1, q2⟩ := X
   have CC := notTextS wr o g g1
   unfold SA.val at CC
   cases hb : (fun s : SA => !s.sg) o with
   | true =>
    simp only [] at hb
    go_wp2_with (go_at_call 95; refine CC.mono ?_; rintro e w2 ⟨rfl, C⟩; have D := B.trans (C.mono B.size); rw [hb])
    go_ret
    exact ⟨⟨k, rfl, by rw [HL.out hb]; exact decide_eq_true (by omega)⟩, D⟩
   | false =>
    simp only [] at hb
    go_wp2_with (go_at_call 95; refine CC.mono ?_; rintro e w2 ⟨rfl, C⟩; have D := B.trans (C.mono B.size); rw [hb])
    go_roundw
    case rel => exact ⟨k + 1, by omega, by go_num, D, by rw [HT.out, hb]⟩
    case measure => simp [intOf]; omega
  ·have i1 : (n : Int) ≤ (k : Int) := by omega
   have HL : Hid (l.any (fun s : SA => !s.sg) = false) := by
    show _ = _
    rw [← HA.out, List.take_of_length_le (by omega)]
   go_wp2
   go_ret
   exact ⟨⟨-1, rfl, by rw [HL.out]; rfl⟩, B⟩
set_option maxRecDepth 100000 in
set_option maxHeartbeats 4000000 in
theorem textCfS (w : World) (ao : Option Addr) (n cap : Nat) (l : List SA) (h : GL elS w ao n cap l) (g : Nat) (hg : w.cell? ⟨g, 0, none⟩ = some (.func (.func 97) #[] #[])) :
  Calls Tryz.prog 94 #[.slice ao n cap, .func (.func 95) #[] #[.pointer (some ⟨g, 0, none⟩)]] w fun e w' => e = .returned (.bool (l.any (fun s : SA => !s.sg))) ∧ Below w.heap.size w w' := by
 go_enter Tryz.func94, Tryz.ntmps94
 go_wp2_with fail
 refine (textIxS _ ao n cap l h g hg).mono ?_
 rintro e w' ⟨⟨i, rfl, hi⟩, C⟩
 have HI : Hid (decide (0 ≤ i) = l.any (fun s : SA => !s.sg)) := hi
 clear hi
 go_wp2
 go_ret
 exact ⟨by rw [← HI.out] <;> rfl, C⟩
set_option maxRecDepth 100000 in
set_option maxHeartbeats 4000000 in
theorem areTextsS (w : World) (ao : Option Addr) (n cap : Nat) (l : List SA) (h : GL elS w ao n cap l) :
  Calls Tryz.prog 61 #[.slice ao n cap, .func (.func 97) #[] #[]] w fun e w' => e = .returned (.bool (!(l.any (fun s : SA => !s.sg)))) ∧ Below w.heap.size w w' := by
 have B : Below w.heap.size w (w.alloc (Obj.cells #[.func (.func 97) #[] #[]] 109)) := (Below.refl _ w).alloc (Nat.le_refl _) _
 have h1 := h.below elS_fine B
 have g1 : (w.alloc (Obj.cells #[.func (.func 97) #[] #[]] 109)).cell? ⟨w.heap.size, 0, none⟩ = some (.func (.func 97) #[] #[]) := cell_one_new _ _ _ 0 _ (by simp)
 have CC := textCfS _ ao n cap l h1 w.heap.size g1
 clear h h1
 go_enter Tryz.func61, Tryz.ntmps61
 go_wp2_with (go_at_call 94; refine CC.mono ?_; rintro e w' ⟨rfl, C⟩; have D := B.trans (C.mono B.size))
 go_ret
 exact ⟨rfl, D⟩
set_option maxRecDepth 100000 in
set_option maxHeartbeats 4000000 in
theorem notTextP (w : World) (s : SA) (g : Nat) (hg : w.cell? ⟨g, 0, none⟩ = some (.func (.func 96) #[] #[])) :
  Calls Tryz.prog 95 #[s.val, .pointer (some ⟨g, 0, none⟩)] w fun e w' => e = .returned (.bool (!s.pl)) ∧ Below w.heap.size w w' := by
 have B : Below w.heap.size w (w.alloc (Obj.cells #[.int .u64 s.fr, .slice s.b.ao s.b.n s.b.cap, .slice s.tag.ao s.tag.n s.tag.cap] 112)) := (Below.refl _ w).alloc (Nat.le_refl _) _
 have g1 := (B.cell (World.block_lt_of_cell? w _ hg)).trans hg
 have CC := isPlain_any (w.alloc (Obj.cells #[.int .u64 s.fr, .slice s.b.ao s.b.n s.b.cap, .slice s.tag.ao s.tag.n s.tag.cap] 112)) s
 clear hg
 unfold SA.val at CC ⊢
 go_enter Tryz.func95, Tryz.ntmps95
 go_wp2_with (go_at_call 96; refine CC.mono ?_; rintro e w' ⟨rfl, C⟩; have D := B.trans (C.mono B.size))
 go_ret
 exact ⟨rfl, D⟩
set_option maxRecDepth 100000 in
set_option maxHeartbeats 4000000 in
theorem textIxP (w : World) (ao : Option Addr) (n cap : Nat) (l : List SA) (h : GL elS w ao n cap l) (g : Nat) (hg : w.cell? ⟨g, 0, none⟩ = some (.func (.func 96) #[] #[])) :
  Calls Tryz.prog 119 #[.slice ao n cap, .func (.func 95) #[] #[.pointer (some ⟨g, 0, none⟩)]] w fun e w' =>
   (∃ i : Int, e = .returned (.int .i64 i) ∧ decide (0 ≤ i) = l.any (fun s : SA => !s.pl)) ∧ Below w.heap.size w w' := by
 have hl : l.length = n := h.len
 have hm := h.mx
 have hle := h.le
 simp only [maxLen] at hm
 go_enter Tryz.func119, Tryz.ntmps119
 go_wp2
 go_loopw [5, 8] (fun _ i wr => ∃ k : Nat, k ≤ n ∧ i = .int .i64 k ∧ Below w.heap.size w wr ∧ (l.take k).any (fun s : SA => !s.pl) = false) (fun _ i _ => n - (intOf i).toNat)
 case atStart => exact ⟨0, Nat.zero_le _, rfl, Below.refl _ _, rfl⟩
 case round =>
  obtain ⟨k, hk, rfl, B, hall⟩ := hrel
  have HA : Hid ((l.take k).any (fun s : SA => !s.pl) = false) := hall
  clear hall
  by_cases hlt : k < n
  ·have hB := h.below elS_fine B
   obtain ⟨b, off, rfl, hc⟩ := hB.atS (by omega)
   have hkl : k < l.length := by omega
   have X := hc k hkl
   have hok := hB.ok _ (List.getElem_mem hkl)
   have g1 := (B.cell (World.block_lt_of_cell? w _ hg)).trans hg
   have i1 : (k : Int) < (n : Int) := by omega
   have HT : Hid ((l.take (k + 1)).any (fun s : SA => !s.pl) = (fun s : SA => !s.pl) l[k]) := by
    show _ = _
    rw [List.take_succ_eq_append_getElem hkl, List.any_append, HA.out]
    simp
   have HL : Hid ((fun s : SA => !s.pl) l[k] = true → l.any (fun s : SA => !s.pl) = true) := fun hb => List.any_eq_true.2 ⟨_, List.getElem_mem hkl, hb⟩
   obtain ⟨o, ho⟩ : ∃ o, o = l[k] := ⟨_, rfl⟩
   rw [← ho] at X hok HT HL
   clear ho hc h hB HA
   obtain ⟨q0, q1, q2⟩ := X
   have CC := notTextP wr o g g1
   unfold SA.val at CC
   cases hb : (fun s : SA => !s.pl) o with
   | true =>
    simp only [] at hb
    go_wp2_with (go_at_call 95; refine CC.mono ?_; rintro e w2 ⟨rfl, C⟩; have D := B.trans (C.mono B.size); rw [hb])
    go_ret
    exact ⟨⟨k, rfl, by rw [HL.out hb]; exact decide_eq_true (by omega)⟩, D⟩
   | false =>
    simp only [] at hb
    go_wp2_with (go_at_call 95; refine CC.mono ?_; rintro e w2 ⟨rfl, C⟩; have D := B.trans (C.mono B.size); rw [hb])
    go_roundw
    case rel => exact ⟨k + 1, by omega, by go_num, D, by rw [HT.out, hb]⟩
    case measure => simp [intOf]; omega
  ·have i1 : (n : Int) ≤ (k : Int) := by omega
   have HL : Hid (l.any (fun s : SA => !s.pl) = false) := by
    show _ = _
    rw [← HA.out, List.take_of_length_le (by omega)]
   go_wp2
   go_ret
   exact ⟨⟨-1, rfl, by rw [HL.out]; rfl⟩, B⟩
set_option maxRecDepth 100000 in
set_option maxHeartbeats 4000000 in
theorem textCfP (w : World) (ao : Option Addr) (n cap : Nat) (l : List SA) (h : GL elS w ao n cap l) (g : Nat) (hg : w.cell? ⟨g, 0, none⟩ = some (.func (.func 96) #[] #[])) :
  Calls Tryz.prog 94 #[.slice ao n cap, .func (.func 95) #[] #[.pointer (some ⟨g, 0, none⟩)]] w fun e w' => e = .returned (.bool (l.any (fun s : SA => !s.pl))) ∧ Below w.heap.size w w' := by
 go_enter Tryz.func94, Tryz.ntmps94
 go_wp2_with fail
 refine (textIxP _ ao n cap l h g hg).mono ?_
 rintro e w' ⟨⟨i, rfl, hi⟩, C⟩
 have HI : Hid (decide (0 ≤ i) = l.any (fun s : SA => !s.pl)) := hi
 clear hi
 go_wp2
 go_ret
 exact ⟨by rw [← HI.out] <;> rfl, C⟩
set_option maxRecDepth 100000 in
set_option maxHeartbeats 4000000 in
theorem areTextsP (w : World) (ao : Option Addr) (n cap : Nat) (l : List SA) (h : GL elS w ao n cap l) :
  Calls Tryz.prog 61 #[.slice ao n cap, .func (.func 96) #[] #[]] w fun e w' => e = .returned (.bool (!(l.any (fun s : SA => !s.pl)))) ∧ Below w.heap.size w w' := by
 have B : Below w.heap.size w (w.alloc (Obj.cells #[.func (.func 96) #[] #[]] 109)) := (Below.refl _ w).alloc (Nat.le_refl _) _
 have h1 := h.below elS_fine B
 have g1 : (w.alloc (Obj.cells #[.func (.func 96) #[] #[]] 109)).cell? ⟨w.heap.size, 0, none⟩ = some (.func (.func 96) #[] #[]) := cell_one_new _ _ _ 0 _ (by simp)
 have CC := textCfP _ ao n cap l h1 w.heap.size g1
 clear h h1
 go_enter Tryz.func61, Tryz.ntmps61
 go_wp2_with (go_at_call 94; refine CC.mono ?_; rintro e w' ⟨rfl, C⟩; have D := B.trans (C.mono B.size))
 go_ret
 exact ⟨rfl, D⟩
set_option maxRecDepth 100000 in
set_option maxHeartbeats 4000000 in
theorem setBad_any (w : World) (s : LS SA) (h : GL elS w s.ao s.n s.cap s.l) :
  Calls Tryz.prog 99 #[.slice s.ao s.n s.cap] w fun e w' => e = .returned (.bool (setBad s)) ∧ Below w.heap.size w w' := by
 have CC := areTextsS w s.ao s.n s.cap s.l h
 have hm := h.mx
 have hle := h.le
 clear h
 by_cases c : 16 < s.n
 ·have i : (16 : Int) < (s.n : Int) := by omega
  have hv : Hid (setBad s = true) := by
   show _ = _
   unfold setBad
   rw [decide_eq_true c, Bool.true_or]
  clear c CC
  go_enter Tryz.func99, Tryz.ntmps99
  go_wp2
  go_ret
  exact ⟨by rw [hv.out] <;> rfl, Below.refl _ _⟩
 have i : decide ((16 : Int) < (s.n : Int)) = false := by simp; omega
 have hv : Hid (setBad s = s.l.any fun s : SA => !s.sg) := by
  show _ = _
  unfold setBad
  rw [decide_eq_false c, Bool.false_or]
 clear c
 go_enter Tryz.func99, Tryz.ntmps99
 go_wp2_with (go_at_call 61; refine CC.mono ?_; rintro e w' ⟨rfl, C⟩)
 go_ret
 exact ⟨by rw [hv.out] <;> rfl, C⟩
abbrev elL : El (LS SA) := elS.lists
theorem elL_fine : elL.Fine := elS_fine.lists
set_option maxRecDepth 100000 in
set_option maxHeartbeats 4000000 in
theorem setIx (w : World) (ao : Option Addr) (n cap : Nat) (l : List (LS SA)) (h : GL elL w ao n cap l) :
  Calls Tryz.prog 120 #[.slice ao n cap, .func (.func 99) #[] #[]] w fun e w' =>
   (∃ i : Int, e = .returned (.int .i64 i) ∧ decide (0 ≤ i) = l.any (setBad)) ∧ Below w.heap.size w w' := by
 have hl : l.length = n := h.len
 have hm := h.mx
 have hle := h.le
 simp only [maxLen] at hm
 go_enter Tryz.func120, Tryz.ntmps120
 go_wp2
 go_loopw [5, 8] (fun _ i wr => ∃ k : Nat, k ≤ n ∧ i = .int .i64 k ∧ Below w.heap.size w wr ∧ (l.take k).any (setBad) = false) (fun _ i _ => n - (intOf i).toNat)
 case atStart => exact ⟨0, Nat.zero_le _, rfl, Below.refl _ _, rfl⟩
 case round =>
  obtain ⟨k, hk, rfl, B, hall⟩ := hrel
  have HA : Hid ((l.take k).any (setBad) = false) := hall
  clear hall
  by_cases hlt : k < n
  ·have hB := h.below elL_fine B
   obtain ⟨b, off, rfl, hc⟩ := hB.atL (by omega)
   have hkl : k < l.length := by omega
   have X := hc k hkl
   have hok := hB.ok _ (List.getElem_mem hkl)
   have i1 : (k : Int) < (n : Int) := by omega
   have HT : Hid ((l.take (k + 1)).any (setBad) = (setBad) l[k]) := by
    show _ = _
    rw [List.take_succ_eq_append_getElem hkl, List.any_append, HA.out]
    simp
   have HL : Hid ((setBad) l[k] = true → l.any (setBad) = true) := fun hb => List.any_eq_true.2 ⟨_, List.getElem_mem hkl, hb⟩
   obtain ⟨o, ho⟩ : ∃ o, o = l[k] := ⟨_, rfl⟩
   rw [← ho] at X hok HT HL
   clear ho hc h hB HA
   have CC := setBad_any wr o hok
   cases hb : (setBad) o with
   | true =>
    go_wp2_with (go_at_call 99; refine CC.mono ?_; rintro e w2 ⟨rfl, C⟩; have D := B.trans (C.mono B.size); rw [hb])
    go_ret
    exact ⟨⟨k, rfl, by rw [HL.out hb]; exact decide_eq_true (by omega)⟩, D⟩
   | false =>
    go_wp2_with (go_at_call 99; refine CC.mono ?_; rintro e w2 ⟨rfl, C⟩; have D := B.trans (C.mono B.size); rw [hb])
    go_roundw
    case rel => exact ⟨k + 1, by omega, by go_num, D, by rw [HT.out, hb]⟩
    case measure => simp [intOf]; omega
  ·have i1 : (n : Int) ≤ (k : Int) := by omega
   have HL : Hid (l.any (setBad) = false) := by
    show _ = _
    rw [← HA.out, List.take_of_length_le (by omega)]
   go_wp2
   go_ret
   exact ⟨⟨-1, rfl, by rw [HL.out]; rfl⟩, B⟩
set_option maxRecDepth 100000 in
set_option maxHeartbeats 4000000 in
theorem setCf (w : World) (ao : Option Addr) (n cap : Nat) (l : List (LS SA)) (h : GL elL w ao n cap l) :
  Calls Tryz.prog 98 #[.slice ao n cap, .func (.func 99) #[] #[]] w fun e w' => e = .returned (.bool (l.any (setBad))) ∧ Below w.heap.size w w' := by
 go_enter Tryz.func98, Tryz.ntmps98
 go_wp2_with fail
 refine (setIx _ ao n cap l h).mono ?_
 rintro e w' ⟨⟨i, rfl, hi⟩, C⟩
 have HI : Hid (decide (0 ≤ i) = l.any (setBad)) := hi
 clear hi
 go_wp2
 go_ret
 exact ⟨by rw [← HI.out] <;> rfl, C⟩
set_option maxRecDepth 100000 in
set_option maxHeartbeats 4000000 in
theorem areSets_any (w : World) (ao : Option Addr) (n cap : Nat) (l : List (LS SA)) (h : GL elL w ao n cap l) :
  Calls Tryz.prog 63 #[.slice ao n cap] w fun e w' => e = .returned (.bool (!(l.any setBad))) ∧ Below w.heap.size w w' := by
 have CC := setCf w ao n cap l h
 clear h
 go_enter Tryz.func63, Tryz.ntmps63
 go_wp2_with (go_at_call 98; refine CC.mono ?_; rintro e w' ⟨rfl, C⟩)
 go_ret
 exact ⟨rfl, C⟩
end Go.Proofs.YtnbejckdhdbamaaGreat

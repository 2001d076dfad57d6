/-
  How many have voted for each word.
-/
import Derived.Test.YtghemebgkhopnaaQuMem
import Derived.Test.YtghemebgkhopnaaCConv
import Derived.Test.YtghemebgkhopnaaHRegA
namespace Go.Proofs.Ytghemebgkhopnaa
open Go.RowKit

set_option maxRecDepth 100000 in
set_option maxHeartbeats 4000000 in
theorem counts_any (w : World) (p f : Nat) (l : List VT) (h : QS w p f l) : Calls Try.prog 33 #[.pointer (some ⟨p, 0, none⟩)] w fun x w' =>
    ∃ (n : Nat) (F : Value → Option Value), x = .returned (.map (some w.heap.size)) ∧ MF w' 9 w.heap.size n F ∧ Hid (CntS F l) ∧ Below w.heap.size w w' := by
  have hlen := h.len
  have HC := h.row
  have hcl : (Try.prog.info? 64).map (·.size) = some (cellsV l).length := by rw [cellsV_len, hlen]; exact sizeV
  obtain ⟨W1, hW1⟩ : ∃ V, V = w.alloc (.map #[] 0) := ⟨_, rfl⟩
  have C1 : Below w.heap.size w W1 := by rw [hW1]; exact (Below.refl _ _).alloc (Nat.le_refl _) _
  have M1 : MF W1 9 w.heap.size 0 (fun _ => none) := by rw [hW1]; exact MF.made w _
  have HR := (h.below C1).row
  have hmm := @run_makeMap Try.prog
  go_enter Try.func33, Try.ntmps33
  go_wp2_with (refine wpList_load_named rfl 64 (Operand.tmp 9) rfl ⟨p, 1, none⟩ rfl (cellsV l) (by rw [← hW1]; exact HR) aggV hcl ?_; rintro AV hAV0; have hAV : Hid (AV = _) := hAV0; clear hAV0)
  rw [← hW1]
  have HIX : Hid (∀ k (hk : k < l.length) W, (Instr.index 64 AV (.int .i64 k)).run Try.prog W = .ok (.agg #[.bool l[k].is, .string l[k].word, .string l[k].body, .string l[k].tag]) W) := fun k hk W => by rw [hAV.out]; exact indexV l hlen k hk W
  clear hW1 hmm HR HC hcl hAV
  go_loopw [11] (fun i wr => ∃ (j mn : Nat) (F : Value → Option Value), j ≤ 13 ∧ i = .int .i64 j ∧ MF wr 9 w.heap.size mn F ∧ mn ≤ j ∧ Hid (CntS F (l.take j)) ∧ Below w.heap.size w wr) (fun i _ => 13 - (intOf i).toNat)
  case atStart => exact ⟨0, 0, _, Nat.zero_le _, rfl, M1, Nat.le_refl _, fun _ => rfl, C1⟩
  case round =>
    obtain ⟨j, mn, F, hj, rfl, M, hmn, HF, B⟩ := hrel
    by_cases hlt : j < 13
    · have hji : (j : Int) < 13 := by omega
      have hjl : j < l.length := by omega
      have HT : Hid (l.take (j + 1) = l.take j ++ [l[j]]) := List.take_succ_eq_append_getElem hjl
      have r1 := HIX.out j hjl
      have vok := h.ok _ (List.getElem_mem hjl)
      obtain ⟨v, hv⟩ : ∃ v, v = l[j] := ⟨_, rfl⟩
      rw [← hv] at r1 vok HT
      clear hv HIX hjl
      have C2 : Below wr.heap.size wr (wr.alloc (.cells #[.bool v.is, .string v.word, .string v.body, .string v.tag] 63)) := (Below.refl _ _).alloc (Nat.le_refl _) _
      have M2 := M.below C2 M.lt
      have B2 := B.trans (C2.mono B.size)
      clear C2 M B
      cases hvi : v.is with
      | false =>
        have HF2 : Hid (CntS F (l.take (j + 1))) := by
          show CntS _ _
          rw [HT.out]
          exact HF.out.skip hvi
        rw [hvi] at r1 M2 B2
        clear HF HT
        go_wp2
        go_roundw
        case rel => exact ⟨j + 1, mn, F, by omega, by go_num, M2, by omega, HF2, B2⟩
        case measure => simp [intOf]; omega
      | true =>
        rw [hvi] at r1 M2 B2
        obtain ⟨li, hli⟩ := keyS v.word (by have := vok.word; unfold maxLen; omega)
        have hlk := look_c M2 HF.out v.word (by have := vok.word; unfold maxLen; omega)
        have hc13 : cntV v.word (l.take j) ≤ 13 := Nat.le_trans (cntV_le _ _) (by rw [List.length_take]; omega)
        obtain ⟨w3, F', n', hup, M3, g3, f1, f2, f3, f4⟩ := M2.update keyedS Try.underlying68 (by unfold maxLen; omega) hli (val := .int .i64 ((cntV v.word (l.take j) : Nat) + 1 : Int))
        have hn' : n' ≤ mn + 1 := by
          cases hf : F (.string v.word) with
          | none => exact Nat.le_of_eq (f3 hf)
          | some u => have := f4 (by rw [hf]; simp); omega
        have HF2 : Hid (CntS F' (l.take (j + 1))) := by
          show CntS _ _
          rw [HT.out]
          exact HF.out.step hvi f1 f2
        have B3 : Below w.heap.size w w3 := B2.grown g3 B2.size (fun i hi => by cases hi; exact Nat.le_refl _)
        generalize cntV v.word (l.take j) = c at hlk hc13 hup
        have hci : (c : Int) ≤ 13 := by omega
        clear f1 f2 f3 f4 g3 M2 HF HT hli hc13
        go_wp2
        go_roundw
        case rel => exact ⟨j + 1, n', F', by omega, by go_num, M3, by omega, HF2, B3⟩
        case measure => simp [intOf]; omega
    · have hge : ¬ (j : Int) < 13 := by omega
      have HT : Hid (l.take j = l) := List.take_of_length_le (by omega)
      rw [HT.out] at HF
      go_wp2
      go_ret
      exact ⟨rfl, mn, F, M, HF, B⟩
end Go.Proofs.Ytghemebgkhopnaa

/-
  Enough: the first word that so many have voted for.
-/
import Derived.Test.YtghemebgkhopnaaQuCount2
import Derived.Test.YtghemebgkhopnaaConv
namespace Go.Proofs.Ytghemebgkhopnaa
open Go.RowKit

/-- Is that the vote? -/
def VT.en (v : VT) (n : Int) (l : List VT) : Bool := v.is && decide (n ≤ cntV v.word l)
theorem enV_none {l : List VT} {n : Int} (h : ∀ v ∈ l, v.en n l = false) : enV l n = none := by
  unfold enV
  rw [List.find?_eq_none.2 (fun v hv => by have := h v hv; unfold VT.en at this; rw [this]; simp)]
  rfl
theorem enV_some {l : List VT} {n : Int} (j : Nat) (hj : j < l.length) (h : l[j].en n l = true) (hb : ∀ v ∈ l.take j, v.en n l = false) : enV l n = some l[j].word := by
  unfold enV
  have e : l.find? (fun v => v.is && decide (n ≤ cntV v.word l)) = some l[j] := by
    rw [List.find?_eq_some_iff_getElem]
    refine ⟨h, j, hj, rfl, fun i hi => ?_⟩
    have := hb l[i] (List.mem_take_iff_getElem.2 ⟨i, by omega, rfl⟩)
    unfold VT.en at this
    rw [this]
    rfl
  rw [e]
  rfl
theorem enough_nil (w : World) (n : Int) : Calls Try.prog 23 #[.pointer none, .int .i64 n] w fun x w' => x = .returned (.tuple #[.slice none 0 0, .bool false]) ∧ w' = w := by
  go_enter Try.func23, Try.ntmps23
  go_wp2
  go_ret2
  exact ⟨rfl, rfl⟩
theorem enough_low (w : World) (p : Nat) (n : Int) (hn : n < 1) : Calls Try.prog 23 #[.pointer (some ⟨p, 0, none⟩), .int .i64 n] w fun x w' => x = .returned (.tuple #[.slice none 0 0, .bool false]) ∧ w' = w := by
  go_enter Try.func23, Try.ntmps23
  go_wp2
  go_ret2
  exact ⟨rfl, rfl⟩
/-- What Enough answers. -/
def EnPost (w : World) (l : List VT) (n : Int) (x : Ending) (w' : World) : Prop :=
  ∃ ao m cap ys b, x = .returned (.tuple #[.slice ao m cap, .bool b]) ∧ Sl w' ao m cap ys ∧ Below w.heap.size w w' ∧ Hid ((b = false ∧ ys = [] ∧ enV l n = none) ∨ ∃ s, b = true ∧ ys = sb s ∧ enV l n = some s)
set_option maxRecDepth 100000 in
set_option maxHeartbeats 4000000 in
theorem enough_any (w : World) (p f : Nat) (l : List VT) (h : QS w p f l) (n : Int) (hn : 1 ≤ n) : Calls Try.prog 23 #[.pointer (some ⟨p, 0, none⟩), .int .i64 n] w (EnPost w l n) := by
  have hlen := h.len
  have hcl : (Try.prog.info? 64).map (·.size) = some (cellsV l).length := by rw [cellsV_len, hlen]; exact sizeV
  have CC := counts_any w p f l h
  go_enter Try.func23, Try.ntmps23
  go_wp2_with fail
  refine CC.mono ?_
  rintro x w1 ⟨m, F, rfl, M, HF, C1⟩
  have HR := (h.below C1).row
  have lt1 := M.lt
  clear CC
  go_wp2_with (refine wpList_load_named rfl 64 (Operand.tmp 19) rfl ⟨p, 1, none⟩ rfl (cellsV l) HR aggV hcl ?_; rintro AV hAV0; have hAV : Hid (AV = _) := hAV0; clear hAV0)
  have HIX : Hid (∀ k (hk : k < l.length) W, (Instr.index 64 AV (.int .i64 k)).run Try.prog W = .ok (.agg #[.bool l[k].is, .string l[k].word, .string l[k].body, .string l[k].tag]) W) := fun k hk W => by rw [hAV.out]; exact indexV l hlen k hk W
  clear HR hcl hAV
  go_loopw [21] (fun i wr => ∃ j : Nat, j ≤ 13 ∧ i = .int .i64 j ∧ Below w1.heap.size w1 wr ∧ Hid (∀ v ∈ l.take j, v.en n l = false)) (fun i _ => 13 - (intOf i).toNat)
  case atStart => exact ⟨0, Nat.zero_le _, rfl, Below.refl _ _, fun v hv => by simp at hv⟩
  case round =>
    obtain ⟨j, hj, rfl, B, HB⟩ := hrel
    by_cases hlt : j < 13
    · have hji : (j : Int) < 13 := by omega
      have hjl : j < l.length := by omega
      have HT : Hid (l.take (j + 1) = l.take j ++ [l[j]]) := List.take_succ_eq_append_getElem hjl
      have r1 := HIX.out j hjl
      have vok := h.ok _ (List.getElem_mem hjl)
      have HS : Hid (l[j].en n l = true → enV l n = some l[j].word) := fun q => enV_some j hjl q HB.out
      have HN : Hid (l[j].en n l = false → ∀ v ∈ l.take (j + 1), v.en n l = false) := fun q v hv => by
        rw [HT.out] at hv
        rcases List.mem_append.1 hv with hv | hv
        · exact HB.out v hv
        · rw [List.mem_singleton.1 hv]; exact q
      obtain ⟨v, hv⟩ : ∃ v, v = l[j] := ⟨_, rfl⟩
      rw [← hv] at r1 vok HS HN
      clear hv HIX hjl HB HT
      have C2 : Below wr.heap.size wr (wr.alloc (.cells #[.bool v.is, .string v.word, .string v.body, .string v.tag] 63)) := (Below.refl _ _).alloc (Nat.le_refl _) _
      have B2 := B.trans (C2.mono B.size)
      have M2 := M.below B2 lt1
      have hlk := look_c M2 HF.out v.word (by have := vok.word; unfold maxLen; omega)
      have HEN : Hid (v.en n l = (v.is && decide (n ≤ cntV v.word l))) := rfl
      have vsz := vok.word
      clear M2 C2 B vok
      cases hvi : v.is with
      | false =>
        have HB2 : Hid (∀ v ∈ l.take (j + 1), v.en n l = false) := HN.out (by rw [HEN.out, hvi]; rfl)
        rw [hvi] at r1 B2 hlk
        clear HS HN HEN hlk
        go_wp2
        go_roundw
        case rel => exact ⟨j + 1, by omega, by go_num, B2, HB2⟩
        case measure => simp [intOf]; omega
      | true =>
        rw [hvi] at r1 B2 hlk
        have HEN2 : Hid (v.en n l = decide (n ≤ cntV v.word l)) := by show _ = _; rw [HEN.out, hvi]; rfl
        clear HEN
        generalize cntV v.word l = c at hlk HEN2
        by_cases hc : n ≤ (c : Int)
        · have HW : Hid (enV l n = some v.word) := HS.out (by rw [HEN2.out]; simpa using hc)
          clear HS HN HEN2
          go_wp2_with (refine stop_at (.convert 9 28 (Operand.tmp 35)) rfl ?_)
          refine ⟨?_⟩
          refine wpList_conv_bytes rfl (Operand.tmp 35) rfl v.word rfl (by omega) ?_
          rintro g c2 w3 - S3 C3
          go_wp2
          have B3 := (C1.trans (B2.mono C1.size)).trans (C3.mono (C1.trans (B2.mono C1.size)).size)
          go_ret2
          exact ⟨_, _, _, _, _, rfl, S3, B3, .inr ⟨_, rfl, rfl, HW.out⟩⟩
        · have HB2 : Hid (∀ v ∈ l.take (j + 1), v.en n l = false) := HN.out (by rw [HEN2.out]; simpa using hc)
          have hc2 : (c : Int) < n := by omega
          clear HS HN HEN2 hc
          go_wp2
          go_roundw
          case rel => exact ⟨j + 1, by omega, by go_num, B2, HB2⟩
          case measure => simp [intOf]; omega
    · have hge : ¬ (j : Int) < 13 := by omega
      have HT : Hid (l.take j = l) := List.take_of_length_le (by omega)
      rw [HT.out] at HB
      have B2 := C1.trans (B.mono C1.size)
      go_wp2
      go_ret2
      exact ⟨none, 0, 0, [], false, rfl, Sl.nothing _, B2, .inl ⟨rfl, rfl, enV_none HB.out⟩⟩
end Go.Proofs.Ytghemebgkhopnaa

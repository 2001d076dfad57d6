/-
  The reference's Text: the order of texts.
-/
import Derived.Test.YtepkjnklapamjaaCMath
import Derived.Test.YtepkjnklapamjaaConv
import Derived.BigQuiet
namespace Go.Proofs.Ytepkjnklapamjaa
open Go.RowKit

theorem sb_at (s : ByteArray) (k : Nat) (h : k < s.size) : (sb s).drop k = (s[k].toNat : Int) :: (sb s).drop (k + 1) := by
  have hl : k < (sb s).length := by rw [sb_len]; exact h
  rw [List.drop_eq_getElem_cons hl]
  simp [sb, ByteArray.getElem_eq_getElem_data]
theorem cmpL_cons (a b : Int) (s t : List Int) : cmpL (a :: s) (b :: t) = if a = b then cmpL s t else if a < b then -1 else 1 := by rw [cmpL]
theorem sb_end (s : ByteArray) (k : Nat) (h : s.size ≤ k) : (sb s).drop k = [] := List.drop_eq_nil_of_le (by rw [sb_len]; exact h)

theorem belN {n : Nat} {a w : World} (h : Below n a w) (q : Nat) : Below n a (w.drewN q) := by
  have e0 : (w.drewN q).heap = w.heap := by simp
  exact ⟨by rw [← h.os]; rfl, by rw [← h.tape]; rfl, by rw [← h.output]; rfl, by rw [e0]; exact h.size, fun k hk => by rw [e0]; exact h.block k hk⟩

set_option maxRecDepth 100000 in
set_option maxHeartbeats 2000000 in
theorem text_any (w : World) (s t : ByteArray) (hs : s.size ≤ maxLen) (ht : t.size ≤ maxLen) :
    Calls Try.prog 22 #[.string s, .string t] w fun e w' => e = .returned (.int .i64 (cmpL (sb s) (sb t))) ∧ Below w.heap.size w w' := by
  simp only [maxLen] at hs ht
  go_enter Try.func22, Try.ntmps22
  go_wp2_with fail
  go_loopw [5] (fun i wr => ∃ k : Nat, k ≤ s.size ∧ k ≤ t.size ∧ i = .int .i64 k ∧ Below w.heap.size w wr ∧ cmpL (sb s) (sb t) = cmpL ((sb s).drop k) ((sb t).drop k)) (fun i _ => s.size - (intOf i).toNat)
  case atStart => exact ⟨0, by omega, by omega, rfl, Below.refl _ _, rfl⟩
  case round =>
    obtain ⟨k, h1, h2, rfl, B, hc⟩ := hrel
    by_cases l1 : k < s.size
    · have i1 : (k : Int) < (s.size : Int) := by omega
      by_cases l2 : k < t.size
      · have i2 : (k : Int) < (t.size : Int) := by omega
        rw [sb_at s k l1, sb_at t k l2] at hc
        obtain ⟨x, hx⟩ : ∃ x : Nat, x = s[k].toNat := ⟨_, rfl⟩
        obtain ⟨y, hy⟩ : ∃ y : Nat, y = t[k].toNat := ⟨_, rfl⟩
        rw [← hx, ← hy] at hc
        have r1 : ∀ W : World, (Instr.index 9 (.string s) (.int .i64 k)).run Try.prog W = .ok (.int .u8 x) W := fun W => by
          rw [run_index_string W _ s _ _ Try.underlying9, dif_pos ⟨by omega, i1⟩, hx]
          rfl
        have r2 : ∀ W : World, (Instr.index 9 (.string t) (.int .i64 k)).run Try.prog W = .ok (.int .u8 y) W := fun W => by
          rw [run_index_string W _ t _ _ Try.underlying9, dif_pos ⟨by omega, i2⟩, hy]
          rfl
        clear hx hy
        by_cases e : x = y
        · subst e
          have hc' : Hid (cmpL (sb s) (sb t) = cmpL ((sb s).drop (k + 1)) ((sb t).drop (k + 1))) := by
            show _ = _
            rw [hc]
            rw [cmpL_cons, if_pos rfl]
          clear hc
          go_wp2_with fail
          go_quiet (fail)
          rename Nat => q
          go_wp2
          go_roundw
          case rel => exact ⟨k + 1, by omega, by omega, by go_num, belN B q, hc'.out⟩
          case measure => simp [intOf]; omega
        · have ne : ((x : Int) == (y : Int)) = false := by simp; omega
          have nn : ((x : Int) != (y : Int)) = true := by simp; omega
          by_cases l : x < y
          · have li : (x : Int) < (y : Int) := by omega
            have hc' : Hid (cmpL (sb s) (sb t) = -1) := by
              show _ = _
              rw [hc, cmpL_cons, if_neg (by omega), if_pos li]
            clear hc
            go_wp2_with fail
            go_quiet (fail)
            rename Nat => q
            go_wp2_with fail
            go_quiet (fail)
            rename Nat => q2
            go_wp2
            go_ret
            exact ⟨by rw [hc'.out] <;> rfl, belN (belN B q) q2⟩
          · have li : ¬ (x : Int) < (y : Int) := by omega
            have hc' : Hid (cmpL (sb s) (sb t) = 1) := by
              show _ = _
              rw [hc, cmpL_cons, if_neg (by omega), if_neg li]
            clear hc
            go_wp2_with fail
            go_quiet (fail)
            rename Nat => q
            go_wp2_with fail
            go_quiet (fail)
            rename Nat => q2
            go_wp2
            go_ret
            exact ⟨by rw [hc'.out] <;> rfl, belN (belN B q) q2⟩
      · have i2 : (t.size : Int) ≤ (k : Int) := by omega
        rw [sb_at s k l1, sb_end t k (by omega)] at hc
        have hc' : Hid (cmpL (sb s) (sb t) = 1) := hc
        clear hc
        have f1 : ((s.size : Int) == (t.size : Int)) = false := by simp; omega
        have f2 : ¬ (s.size : Int) < (t.size : Int) := by omega
        go_wp2
        go_ret
        exact ⟨by rw [hc'.out] <;> rfl, B⟩
    · have i1 : (s.size : Int) ≤ (k : Int) := by omega
      rw [sb_end s k (by omega)] at hc
      by_cases l2 : k < t.size
      · rw [sb_at t k l2] at hc
        have hc' : Hid (cmpL (sb s) (sb t) = -1) := hc
        clear hc
        have f1 : ((s.size : Int) == (t.size : Int)) = false := by simp; omega
        have f2 : (s.size : Int) < (t.size : Int) := by omega
        go_wp2
        go_ret
        exact ⟨by rw [hc'.out] <;> rfl, B⟩
      · rw [sb_end t k (by omega)] at hc
        have hc' : Hid (cmpL (sb s) (sb t) = 0) := hc
        clear hc
        have f1 : ((s.size : Int) == (t.size : Int)) = true := by simp; omega
        go_wp2
        go_ret
        exact ⟨by rw [hc'.out] <;> rfl, B⟩
end Go.Proofs.Ytepkjnklapamjaa

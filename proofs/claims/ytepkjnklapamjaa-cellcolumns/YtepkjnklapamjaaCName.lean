/-
  The reference's name.
-/
import Derived.Test.YtepkjnklapamjaaCRight
namespace Go.Proofs.Ytepkjnklapamjaa
open Go.RowKit

/-- A name's bytes without its end. -/
def esc : List Int → List Int
  | [] => []
  | c :: t => (if c = 0 then [0, 255] else [c]) ++ esc t
theorem esc_append : ∀ s t, esc (s ++ t) = esc s ++ esc t
  | [], t => rfl
  | c :: s, t => by simp [esc, esc_append s t]
theorem nm_esc : ∀ s, nm s = esc s ++ [0, 1]
  | [] => rfl
  | c :: t => by
    unfold nm esc
    rw [nm_esc t]
    split <;> simp
theorem esc_len : ∀ s, (esc s).length ≤ 2 * s.length
  | [] => by simp [esc]
  | c :: t => by
    have := esc_len t
    unfold esc
    rw [List.length_append, List.length_cons]
    split <;> simp <;> omega
theorem sb_take (s : ByteArray) (k : Nat) (h : k < s.size) : (sb s).take (k + 1) = (sb s).take k ++ [(s[k].toNat : Int)] := by
  have hl : k < (sb s).length := by rw [sb_len]; exact h
  rw [List.take_succ_eq_append_getElem hl]
  simp [sb, ByteArray.getElem_eq_getElem_data]

theorem sb_nil {s : ByteArray} (h : s.size = 0) : sb s = [] := List.eq_nil_of_length_eq_zero (by rw [sb_len]; exact h)
theorem empty_of {s : ByteArray} (h : s.size = 0) : s = ⟨#[]⟩ := by
  apply sb_inj
  rw [sb_nil h]
  rfl

set_option maxHeartbeats 2000000 in
set_option maxRecDepth 100000 in
theorem rname_any (w : World) (base : Nat) (v : Value) (n : Nat) (xs : List Int) (s : ByteArray) (hown : w.ownsRow base 5 1 v n (bv xs)) (hbase : base ≤ w.heap.size) (hn : n ≤ 1000000) (hs : s.size ≤ 1000000) :
    Calls Try.prog 27 #[v, .string s] w fun e w' =>
      ∃ v', e = .returned v' ∧ w'.ownsRow base 5 1 v' (n + (nm (sb s)).length) (bv (xs ++ nm (sb s))) ∧ Below base w w' := by
  go_enter Try.func27, Try.ntmps27
  go_wp2_with fail
  go_loopw [0, 5] (fun b i wr => ∃ k : Nat, k ≤ s.size ∧ i = .int .i64 k ∧ wr.ownsRow base 5 1 b (n + (esc ((sb s).take k)).length) (bv (xs ++ esc ((sb s).take k))) ∧ Below base w wr) (fun _ i _ => s.size - (intOf i).toNat)
  case atStart => exact ⟨0, by omega, rfl, by simpa [esc] using hown, Below.refl _ _⟩
  case round =>
    clear hown
    obtain ⟨k, hk, rfl, O, B⟩ := hrel
    have hsz := B.size
    have hl : (esc ((sb s).take k)).length ≤ 2 * k := by
      have h1 := esc_len ((sb s).take k)
      have h2 : ((sb s).take k).length ≤ k := by simp; omega
      omega
    by_cases l1 : k < s.size
    · have i1 : (k : Int) < (s.size : Int) := by omega
      obtain ⟨x, hx⟩ : ∃ x : Nat, x = s[k].toNat := ⟨_, rfl⟩
      have hx8 : x < 256 := by rw [hx]; exact s[k].toNat_lt
      have r1 : ∀ W : World, (Instr.index 9 (.string s) (.int .i64 k)).run Try.prog W = .ok (.int .u8 x) W := fun W => by
        rw [run_index_string W _ s _ _ Try.underlying9, dif_pos ⟨by omega, i1⟩, hx]
        rfl
      have ht : Hid (esc ((sb s).take (k + 1)) = esc ((sb s).take k) ++ (if (x : Int) = 0 then [0, 255] else [(x : Int)])) := by
        show _ = _
        rw [sb_take s k l1, esc_append, ← hx]
        simp [esc]
      clear hx
      obtain ⟨p, hp⟩ : ∃ p, p = esc ((sb s).take k) := ⟨_, rfl⟩
      rw [← hp] at O hl ht
      clear hp
      by_cases hz : x = 0
      · subst hz
        go_wp2_with (first
          | (at_builtin; refine wpList_app rfl (.tmp 12) (.tmp 16) rfl base _ _ _ rfl (O.alloc _) _ 1 1 [0] rfl (Sl.one wr _ (by omega)) (by omega) (by simp; omega) ?_; intro v2 w2 O2 C2; have D2 : Below base w w2 := (B.alloc (by omega) _).trans C2; have s2 := D2.size; clear C2 O)
          | (at_builtin; refine wpList_app rfl (.tmp 22) (.tmp 23) rfl base _ _ _ rfl (O2.alloc _) _ 1 1 [255] rfl (Sl.one w2 _ (by omega)) (by omega) (by simp; omega) ?_; intro v3 w3 O3 C3; have D3 : Below base w w3 := (D2.alloc (by omega) _).trans C3; clear C3 O2))
        have O4 : w3.ownsRow base 5 1 v3 (n + (esc ((sb s).take (k + 1))).length) (bv (xs ++ esc ((sb s).take (k + 1)))) := by
          rw [ht.out]
          simpa [Nat.add_assoc] using O3
        go_roundw
        case rel => exact ⟨k + 1, by omega, by go_num, O4, D3⟩
        case measure => simp [intOf]; omega
      · have f1 : ((x : Int) == 0) = false := by simp; omega
        have hz' : ¬ (x : Int) = 0 := by omega
        go_wp2_with (at_builtin; refine wpList_app rfl (.tmp 12) (.tmp 16) rfl base _ _ _ rfl (O.alloc _) _ 1 1 [(x : Int)] rfl (Sl.one wr _ (by omega)) (by omega) (by simp; omega) ?_; intro v2 w2 O2 C2; have D2 : Below base w w2 := (B.alloc (by omega) _).trans C2; clear C2 O)
        have O4 : w2.ownsRow base 5 1 v2 (n + (esc ((sb s).take (k + 1))).length) (bv (xs ++ esc ((sb s).take (k + 1)))) := by
          rw [ht.out, if_neg hz']
          simpa [Nat.add_assoc] using O2
        go_roundw
        case rel => exact ⟨k + 1, by omega, by go_num, O4, D2⟩
        case measure => simp [intOf]; omega
    · have i1 : (s.size : Int) ≤ (k : Int) := by omega
      have ht : (sb s).take k = sb s := List.take_of_length_le (by rw [sb_len]; omega)
      rw [ht] at O hl
      clear ht
      go_wp2_with (at_builtin; refine wpList_app rfl (.tmp 25) (.tmp 26) rfl base _ _ _ rfl (O.alloc _) _ 2 2 [0, 1] rfl (Sl.new wr [0, 1] (by intro y hy; simp at hy; omega) (by simp [maxLen])) (by omega) (by simp; omega) ?_; intro v2 w2 O2 C2; have D2 : Below base w w2 := (B.alloc (by omega) _).trans C2; clear C2 O)
      have O3 : w2.ownsRow base 5 1 v2 (n + (nm (sb s)).length) (bv (xs ++ nm (sb s))) := by
        rw [nm_esc]
        simpa [Nat.add_assoc] using O2
      clear O2
      go_ret
      exact ⟨v2, rfl, O3, D2⟩
end Go.Proofs.Ytepkjnklapamjaa

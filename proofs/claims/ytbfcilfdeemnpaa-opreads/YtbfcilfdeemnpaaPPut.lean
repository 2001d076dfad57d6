/-
  The program's putTexts, putKey, putOp.
-/
import Derived.Test.YtbfcilfdeemnpaaPRight
import Derived.Test.YtbfcilfdeemnpaaMC
namespace Go.Proofs.Ytbfcilfdeemnpaa
open Go.RowKit

theorem sl_of_own {w w' : World} {v : Value} {n : Nat} {xs : List Int} (h : w'.ownsRow w.heap.size 5 1 v n (bv xs)) (hb : Byt xs) : ∃ ao m cap, v = .slice ao m cap ∧ Sl w' ao m cap xs := by
  obtain ⟨ao, cap, e, s, _⟩ := Sl.own h hb
  exact ⟨ao, n, cap, e, s⟩

theorem fUint (w : World) (ao : Option Addr) (n cap m : Nat) (xs : List Int) (h : Sl w ao n cap xs) (hr : n ≤ 1000000) (hm : m < 18446744073709551616) :
    Calls Try.prog 33 #[.slice ao n cap, .int .u64 m] w fun e w' => ∃ bo k c, e = .returned (.slice bo k c) ∧ Sl w' bo k c (xs ++ enc m) ∧ Below w.heap.size w w' := by
  refine (wUint_any w ao n cap m xs h (by omega) hm).mono ?_
  rintro e w' ⟨v, rfl, O, B⟩
  obtain ⟨bo, k, c, rfl, s⟩ := sl_of_own O (h.byte.append (enc_byte hm))
  exact ⟨bo, k, c, rfl, s, B⟩
theorem fBytes (w : World) (ao bo : Option Addr) (n cap m cap2 : Nat) (xs ys : List Int) (h : Sl w ao n cap xs) (h2 : Sl w bo m cap2 ys) (hr : n ≤ 1000000) (hr2 : m ≤ 1000000) :
    Calls Try.prog 54 #[.slice ao n cap, .slice bo m cap2] w fun e w' => ∃ bo k c, e = .returned (.slice bo k c) ∧ Sl w' bo k c (xs ++ byts ys) ∧ Below w.heap.size w w' := by
  refine (wBytes_any w ao bo n cap m cap2 xs ys h h2 (by omega)).mono ?_
  rintro e w' ⟨v, rfl, O, B⟩
  have e1 : xs ++ enc m ++ ys = xs ++ byts ys := by unfold byts; rw [h2.len, List.append_assoc]
  rw [e1] at O
  obtain ⟨bo, k, c, rfl, s⟩ := sl_of_own O (h.byte.append (by unfold byts; rw [h2.len]; exact Byt.append (enc_byte (n := m) (by omega)) h2.byte))
  exact ⟨bo, k, c, rfl, s, B⟩
theorem fBool (w : World) (ao : Option Addr) (n cap : Nat) (b : Bool) (xs : List Int) (h : Sl w ao n cap xs) (hr : n ≤ 1000000) :
    Calls Try.prog 55 #[.slice ao n cap, .bool b] w fun e w' => ∃ bo k c, e = .returned (.slice bo k c) ∧ Sl w' bo k c (xs ++ enb b) ∧ Below w.heap.size w w' := by
  refine (wBool_any w ao n cap b xs h (by omega)).mono ?_
  rintro e w' ⟨v, rfl, O, B⟩
  obtain ⟨bo, k, c, rfl, s⟩ := sl_of_own O (h.byte.append (enb_byte b))
  exact ⟨bo, k, c, rfl, s, B⟩

theorem txt_len {s : ByteArray} (h : s.size ≤ 32) : (txt s).length ≤ 42 := by
  have := enc_length (n := s.size) (by omega)
  unfold txt
  rw [List.length_append, sb_len]
  omega
theorem txt_byts (s : ByteArray) : byts (sb s) = txt s := by unfold byts txt; rw [sb_len]

set_option maxRecDepth 100000 in
set_option maxHeartbeats 1000000 in
theorem ptexts_any (w : World) (ao : Option Addr) (n cap : Nat) (xs : List Int) (h : Sl w ao n cap xs) (hr : n ≤ 900000) (g : Nat) (ss : List ByteArray) (hs : ∀ i (hi : i < ss.length), w.cell? ⟨g, i, none⟩ = some (.string ss[i])) (hl : ss.length ≤ 3) (h32 : ∀ s ∈ ss, s.size ≤ 32) :
    Calls Try.prog 60 #[.slice ao n cap, .slice (some ⟨g, 0, none⟩) ss.length ss.length] w fun e w' => ∃ bo k c, e = .returned (.slice bo k c) ∧ Sl w' bo k c (xs ++ (ss.map txt).flatten) ∧ Below w.heap.size w w' := by
  have hxl := h.len
  go_enter Try.func60, Try.ntmps60
  go_wp2
  go_loopw [0, 6, 9] (fun b _ i wr => ∃ (k : Nat) (bo : Option Addr) (m c : Nat), k ≤ ss.length ∧ i = .int .i64 k ∧ b = .slice bo m c ∧ Sl wr bo m c (xs ++ ((ss.take k).map txt).flatten) ∧ m ≤ n + 42 * k ∧ Below w.heap.size w wr) (fun _ _ i _ => ss.length - (intOf i).toNat)
  case atStart => exact ⟨0, ao, n, cap, Nat.zero_le _, rfl, rfl, by simpa using h, by omega, Below.refl _ _⟩
  case round =>
    obtain ⟨k, bo, m, c, hk, rfl, rfl, S, hm, B⟩ := hrel
    by_cases hlt : k < ss.length
    · have i1 : (k : Int) < (ss.length : Int) := by omega
      have q1 : wr.cell? ⟨g, k, none⟩ = some (.string ss[k]) := (B.cell (World.block_lt_of_cell? w _ (hs k hlt))).trans (hs k hlt)
      have z1 := h32 _ (List.getElem_mem hlt)
      have HT : Hid (((ss.take (k + 1)).map txt).flatten = ((ss.take k).map txt).flatten ++ txt ss[k]) := by
        show _ = _
        rw [List.take_succ_eq_append_getElem hlt, List.map_append, List.flatten_append]
        simp
      obtain ⟨s, hs1⟩ : ∃ s, s = ss[k] := ⟨_, rfl⟩
      obtain ⟨p, hp⟩ : ∃ p, p = ((ss.take k).map txt).flatten := ⟨_, rfl⟩
      rw [← hs1] at q1 z1 HT
      rw [← hp] at S HT
      clear hs1 hp hs h32
      have hm1 : m ≤ 1000000 := by omega
      have hm2 : s.size ≤ 1000000 := by omega
      go_wp2_with (refine wpList_conv_bytes rfl (.tmp 14) rfl s rfl (by omega) ?_; intro g1 c1 w1 hg1 S1 B1; have D1 : Below w.heap.size w w1 := B.trans (B1.mono B.size); have T1 := S.below B1; have hl1 := S.len; clear B1 S hg1)
      refine (fBytes w1 bo (some ⟨g1, 0, none⟩) m c s.size c1 (xs ++ p) (sb s) T1 S1 hm1 hm2).mono ?_
      rintro e w2 ⟨bo2, m2, c2, rfl, S2, B2⟩
      have D2 := D1.trans (B2.mono D1.size)
      have l2 := S2.len
      rw [txt_byts] at S2 l2
      clear B2 T1 S1
      go_wp2
      have hl2 := txt_len z1
      go_roundw
      case rel => exact ⟨k + 1, bo2, m2, c2, by omega, by go_num, rfl, by rw [HT.out, ← List.append_assoc]; exact S2, by simp only [List.length_append] at l2 hl1; omega, D2⟩
      case measure => simp [intOf]; omega
    · have i1 : (ss.length : Int) ≤ (k : Int) := by omega
      rw [List.take_of_length_le (by omega)] at S
      go_wp2
      go_ret
      exact ⟨bo, m, c, rfl, S, B⟩
end Go.Proofs.Ytbfcilfdeemnpaa

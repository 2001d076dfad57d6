/-
  The walk of WireNumbers: for every number and all bytes behind its form the statement's function answers true.
-/
import Derived.Test.YtmaoophlfpffbaaOneLaw
import Derived.Test.YtmaoophlfpffbaaRLaws
namespace Go.Proofs.Ytmaoophlfpffbaa
open Go.RowKit

set_option maxHeartbeats 1000000 in
theorem wireNumbers_any (w : World) (k : Nat) (ao : Option Addr) (n cap : Nat) (xs : List Int) (hk : k < 18446744073709551616) (h : Sl w ao n cap xs) :
    Calls Try.prog 4 #[.int .u64 k, .slice ao n cap] w fun e w' => e = .returned (.bool true) ∧ Below w.heap.size w w' := by
  by_cases hn : 1000 < n
  · go_enter Try.func4, Try.ntmps4
    go_wp2_with fail
    refine (alive_any _).mono ?_
    rintro e w1 ⟨rfl, hb1⟩
    go_wp2_with fail
    go_ret
    exact ⟨rfl, hb1⟩
  · have hl := h.len
    have hn' : n ≤ 1000 := by omega
    have hel := enc_length hk
    have hep := enc_pos k
    have HL : Hid ((enc k).length = 1 + ln (k / 128)) := enc_ln hk
    clear hn
    go_enter Try.func4, Try.ntmps4
    go_wp2_with fail
    refine (wUint_any _ none 0 0 k [] (Sl.nothing _) (by decide) hk).mono ?_
    rintro e w1 ⟨v1, rfl, hown1, hb1⟩
    obtain ⟨o1, c1, rfl, s1, _⟩ := Sl.own hown1 (nil_byte.append (enc_byt hk))
    simp only [Nat.zero_add, List.nil_append] at s1
    have h1 := h.below hb1
    clear hown1 h
    go_wp2_with fail
    go_loop [6, 7] (fun j x => ∃ (i y : Nat), j = .int .i64 i ∧ x = .int .u64 y ∧ y < 18446744073709551616 ∧ i + ln y = (enc k).length) (fun _ x => (intOf x).toNat)
    case atStart => exact ⟨1, k / 128, rfl, by go_num, by omega, by rw [HL.out]⟩
    case round =>
      obtain ⟨i, y, rfl, rfl, hy, hiy⟩ := hrel
      by_cases hy0 : 0 < y
      · have HI : Hid (i + ln y = (enc k).length) := hiy
        have hi : i ≤ 10 := by omega
        clear hiy
        go_wp2
        go_round
        case rel => exact ⟨i + 1, y / 128, by go_num, by go_num, by omega, by have := ln_step hy0 hy; have := HI.out; omega⟩
        case measure => simp [intOf]; omega
      · have hi : i = (enc k).length := by
          have : y = 0 := by omega
          subst this
          simpa [ln] using hiy
        subst hi
        clear hiy
        have hO := own_empty w1
        have hE1 : Below w1.heap.size w1 (w1.alloc (.cells #[] 5)) := (Below.refl w1.heap.size w1).alloc (Nat.le_refl _) _
        have sA := s1.below hE1
        go_wp2_with (first | (at_builtin; refine wpList_app rfl (.tmp 23) (.tmp 24) rfl w1.heap.size _ _ _ rfl hO _ _ _ _ rfl sA (by omega) (by simp) ?_; intro v2 w2 hown2 hb2; simp only [Nat.zero_add, List.nil_append] at hown2; have hb2' := hE1.trans hb2; have hs2 := hb2'.size; have h2 := h1.below hb2'; clear hb2 hO sA) | (at_builtin; refine wpList_app rfl (.tmp 25) (.tmp 26) rfl w1.heap.size _ _ _ rfl hown2 _ _ _ _ rfl h2 (by omega) hs2 ?_; intro v3 w3 hown3 hb3) | fail)
        obtain ⟨o3, c3, rfl, s3, _⟩ := Sl.own hown3 ((enc_byt hk).append h1.byte)
        have hb3' := hb2'.trans hb3
        have hB3 := hb1.trans (hb3'.mono hb1.size)
        clear hown3 hown2 hb3 hb2' hE1 h2 hs2 s1 h1 hb1 hb3'
        refine (read_any _ _ _ _ _ s3 (by omega)).mono ?_
        rintro e w4 ⟨p, rfl, hp, hR4, hb4⟩
        have hB4 := hB3.trans (hb4.mono hB3.size)
        have hpw := hB3.size
        clear s3 hb4 hB3
        go_wp2_with fail
        refine (uint_any _ _ _ _ _ hR4).mono ?_
        rintro e w5 ⟨rfl, hR5, hg5⟩
        rw [uintS_enc hk xs] at hR5 ⊢
        simp only at hR5 ⊢
        have hB5 := hB4.trans (below_grown hg5 hB4.size (by omega))
        clear hR4 hB4 hg5
        go_wp2_with fail
        refine (left_any _ _ _ _ _ hR5).mono ?_
        rintro e w6 ⟨rfl, hw6⟩
        rw [if_pos rfl, hl, hw6]
        clear hw6
        go_wp2_with fail
        refine (done_any _ _ _ _ _ hR5).mono ?_
        rintro e w7 ⟨rfl, hw7⟩
        rw [hw7]
        clear hw7 hR5
        by_cases hn0 : n = 0
        · subst hn0
          obtain rfl : xs = [] := List.eq_nil_of_length_eq_zero hl
          rw [show doneS [] 0 = 0 from by decide]
          go_wp2_with fail
          refine (alive_any w5).mono ?_
          rintro e w6 ⟨rfl, hb6⟩
          have hB6 := hB5.trans (hb6.mono hB5.size)
          clear hB5 hb6
          go_wp2_with fail
          go_ret
          exact ⟨rfl, hB6⟩
        · have hx : xs ≠ [] := by
            rintro rfl
            simp at hl
            omega
          rw [show doneS xs 0 = 3 from by simp [doneS, hx]]
          have hnb : ((n : Int) == 0) = false := by simp; omega
          clear hn0 hx
          go_wp2_with fail
          refine (alive_any w5).mono ?_
          rintro e w6 ⟨rfl, hb6⟩
          have hB6 := hB5.trans (hb6.mono hB5.size)
          clear hB5 hb6
          go_wp2_with fail
          go_ret
          exact ⟨rfl, hB6⟩
end Go.Proofs.Ytmaoophlfpffbaa

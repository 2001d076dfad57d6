/-
  The walk of WireCut: for every bytes, every place to cut and every bound the statement's function answers true.
-/
import Derived.Test.YtmaoophlfpffbaaNumsLaw
import Derived.Test.YtmaoophlfpffbaaRBytes
namespace Go.Proofs.Ytmaoophlfpffbaa
open Go.RowKit

theorem tk_shortF (f : Nat) : ∀ (i acc n c : Nat), n < 128 ^ (f + 1) → i + f ≤ 9 → c < (encF f n).length → tk i acc ((encF f n).take c) = (0, 0, 2) := by
  induction f with
  | zero =>
    intro i acc n c hn hi hc
    simp [encF] at hc
    subst hc
    rfl
  | succ f ih =>
    intro i acc n c hn hi hc
    rw [encF_succ] at hc ⊢
    by_cases h : n < 128
    · rw [if_pos h] at hc ⊢
      simp at hc
      subst hc
      rfl
    · rw [if_neg h] at hc ⊢
      cases c with
      | zero => rfl
      | succ c =>
        rw [List.take_succ_cons, tk_cons', if_neg (by omega), if_neg (by omega), if_pos (by omega)]
        exact ih (i + 1) _ (n / 128) c (by rw [Nat.div_lt_iff_lt_mul (by decide)]; rw [Nat.pow_succ] at hn; exact hn) (by omega) (by simpa using hc)
theorem tk_short {n : Nat} (h : n < 18446744073709551616) (c : Nat) (hc : c < (enc n).length) : tk 0 0 ((enc n).take c) = (0, 0, 2) := by
  rw [enc9 h] at hc ⊢
  exact tk_shortF 9 0 0 n c (by omega) (by omega) hc

theorem bytesS_cut {xs : List Int} {n : Nat} (hl : xs.length = n) (hn : n ≤ 500) (c : Nat) (hc : c < (enc n).length + n) : bytesS ((enc n ++ xs).take c) 0 500 = ([], [], 2) := by
  by_cases h : c < (enc n).length
  · rw [List.take_append_of_le_length (by omega)]
    unfold bytesS intS uintS
    rw [tk_short (by omega) c h]
    simp
  · rw [List.take_append, List.take_of_length_le (by omega)]
    unfold bytesS intS
    rw [uintS_enc (by omega)]
    simp only [if_true]
    have h1 : ¬ ((500 : Int) < 0 ∨ (500 : Int) < (n : Int)) := by omega
    simp only [h1, if_false, if_true]
    rw [if_pos (by simp; omega)]

set_option maxHeartbeats 4000000 in
theorem wireCut_any (w : World) (ao : Option Addr) (n cap : Nat) (xs : List Int) (cut most : Int) (hcut : -9223372036854775808 ≤ cut ∧ cut ≤ 9223372036854775807) (hmost : -9223372036854775808 ≤ most ∧ most ≤ 9223372036854775807) (h : Sl w ao n cap xs) :
    Calls Try.prog 6 #[.slice ao n cap, .int .i64 cut, .int .i64 most] w fun e w' => e = .returned (.bool true) ∧ Below w.heap.size w w' := by
  by_cases hn : 500 < n
  · go_enter Try.func6, Try.ntmps6
    go_wp2_with fail
    refine (alive_any _).mono ?_
    rintro e w1 ⟨rfl, hb1⟩
    go_wp2_with fail
    go_ret
    exact ⟨rfl, hb1⟩
  · have hl := h.len
    have hn' : n ≤ 500 := by omega
    have hel := enc_length (n := n) (by omega)
    have hep := enc_pos n
    clear hn
    go_enter Try.func6, Try.ntmps6
    go_wp2_with fail
    refine (wBytes_any _ _ _ _ _ _ _ [] xs (Sl.nothing _) h (by omega)).mono ?_
    rintro e w1 ⟨v1, rfl, hown1, hb1⟩
    obtain ⟨o1, c1, rfl, s1, _⟩ := Sl.own hown1 ((nil_byte.append (enc_byt (by omega))).append h.byte)
    simp only [Nat.zero_add, List.nil_append] at s1
    have s1le := s1.le
    have s1mx := s1.mx
    unfold maxLen at s1mx
    have h1 := h.below hb1
    clear hown1 h
    by_cases hc : 0 ≤ cut ∧ cut < (((enc n).length + n : Nat) : Int)
    · obtain ⟨hc0, hc1⟩ := hc
      obtain ⟨c, rfl⟩ := Int.eq_ofNat_of_zero_le hc0
      have hcn : c < (enc n).length + n := by omega
      have s2 := s1.take c (by omega)
      have HB : Hid (bytesS ((enc n ++ xs).take c) 0 500 = ([], [], 2)) := bytesS_cut hl hn' c hcn
      have hc2 : (c : Int) < ((enc n).length : Int) + (n : Int) := by omega
      go_wp2_with fail
      refine (read_any _ _ _ _ _ s2 (by omega)).mono ?_
      rintro e w2 ⟨p, rfl, hp, hR2, hb2⟩
      go_wp2_with fail
      refine (bytes_any _ _ _ _ _ 500 (by omega) hR2).mono ?_
      rintro e w3 ⟨ro, rn, rc, rfl, hrs, _, hR3, hg3⟩
      rw [HB.out] at hrs hR3
      obtain rfl : 0 = rn := hrs.len
      simp only at hR3
      clear HB hrs hR2 s2
      go_wp2_with fail
      refine (done_any _ _ _ _ _ hR3).mono ?_
      rintro e w4 ⟨rfl, hw4⟩
      rw [hw4, show doneS [] 2 = 2 from by decide]
      clear hw4
      go_wp2_with fail
      refine (uint_any _ _ _ _ _ hR3).mono ?_
      rintro e w5 ⟨rfl, hR5, hg5⟩
      rw [show uintS [] 2 = (0, [], 2) from by decide] at hR5 ⊢
      simp only at hR5 ⊢
      clear hR3
      go_wp2_with fail
      refine (bool_any _ _ _ _ _ hR5).mono ?_
      rintro e w6 ⟨rfl, hR6, hg6⟩
      rw [show boolS [] 2 = (false, [], 2) from by decide]
      simp only
      have hg := grown_trans hg3 (grown_trans hg5 hg6)
      have hw1 := hb1.size
      have hb6 : Below w1.heap.size w1 w6 := hb2.trans (below_grown hg hb2.size hp)
      have hB6 := hb1.trans (hb6.mono hw1)
      have s6 := s1.below hb6
      have h6 := h1.below hb6
      clear hR5 hR6 hg3 hg5 hg6 hg hb2 hb6 s1 h1 hb1 s1le hc0 hc1 hc2 hcn hp
      by_cases hm0 : most < 0
      · have HM : Hid (bytesS (enc n ++ xs) 0 most = ([], [], 4)) := by have := bytesS_put hl (by omega) [] most; rw [List.append_nil, if_pos (.inl hm0)] at this; exact this
        go_wp2_with fail
        refine (read_any _ _ _ _ _ s6 (by omega)).mono ?_
        rintro e w7 ⟨p7, rfl, hp7, hR7, hb7⟩
        have hB7 := hB6.trans (hb7.mono hB6.size)
        have hw6 := hB6.size
        have h7 := h6.below hb7
        clear s6 h6 hB6 hb7
        go_wp2_with fail
        refine (bytes_any _ _ _ _ _ most hmost.2 hR7).mono ?_
        rintro e w8 ⟨ro8, rn8, rc8, rfl, hrs8, hro8, hR8, hg8⟩
        rw [HM.out] at hrs8 hR8
        simp only at hrs8 hR8
        have hB8 := hB7.trans (below_grown hg8 hB7.size (by omega))
        obtain rfl : 0 = rn8 := hrs8.len
        clear hrs8 hR7 hg8 hB7 HM h7
        go_wp2_with fail
        refine (done_any _ _ _ _ _ hR8).mono ?_
        rintro e w10 ⟨rfl, hw10⟩
        rw [hw10, show doneS [] 4 = 4 from by decide]
        clear hw10 hR8
        go_wp2_with fail
        refine (alive_any _).mono ?_
        rintro e w9 ⟨rfl, hb9⟩
        have hB9 := hB8.trans (hb9.mono hB8.size)
        clear hB8 hb9
        go_wp2_with fail
        go_ret
        exact ⟨rfl, hB9⟩
      · by_cases hm1 : most < (n : Int)
        · have HM : Hid (bytesS (enc n ++ xs) 0 most = ([], [], 4)) := by have := bytesS_put hl (by omega) [] most; rw [List.append_nil, if_pos (.inr hm1)] at this; exact this
          go_wp2_with fail
          refine (read_any _ _ _ _ _ s6 (by omega)).mono ?_
          rintro e w7 ⟨p7, rfl, hp7, hR7, hb7⟩
          have hB7 := hB6.trans (hb7.mono hB6.size)
          have hw6 := hB6.size
          have h7 := h6.below hb7
          clear s6 h6 hB6 hb7
          go_wp2_with fail
          refine (bytes_any _ _ _ _ _ most hmost.2 hR7).mono ?_
          rintro e w8 ⟨ro8, rn8, rc8, rfl, hrs8, hro8, hR8, hg8⟩
          rw [HM.out] at hrs8 hR8
          simp only at hrs8 hR8
          have hB8 := hB7.trans (below_grown hg8 hB7.size (by omega))
          obtain rfl : 0 = rn8 := hrs8.len
          clear hrs8 hR7 hg8 hB7 HM h7
          go_wp2_with fail
          refine (done_any _ _ _ _ _ hR8).mono ?_
          rintro e w10 ⟨rfl, hw10⟩
          rw [hw10, show doneS [] 4 = 4 from by decide]
          clear hw10 hR8
          go_wp2_with fail
          refine (alive_any _).mono ?_
          rintro e w9 ⟨rfl, hb9⟩
          have hB9 := hB8.trans (hb9.mono hB8.size)
          clear hB8 hb9
          go_wp2_with fail
          go_ret
          exact ⟨rfl, hB9⟩
        · have HM : Hid (bytesS (enc n ++ xs) 0 most = (xs, [], 0)) := by have := bytesS_put hl (by omega) [] most; rw [List.append_nil, if_neg (by omega)] at this; exact this
          go_wp2_with fail
          refine (read_any _ _ _ _ _ s6 (by omega)).mono ?_
          rintro e w7 ⟨p7, rfl, hp7, hR7, hb7⟩
          have hB7 := hB6.trans (hb7.mono hB6.size)
          have hw6 := hB6.size
          have h7 := h6.below hb7
          have h7lt : ∀ a, ao = some a → 0 < n → a.block < w6.heap.size := h6.lt
          clear s6 h6 hB6 hb7
          go_wp2_with fail
          refine (bytes_any _ _ _ _ _ most hmost.2 hR7).mono ?_
          rintro e w8 ⟨ro8, rn8, rc8, rfl, hrs8, hro8, hR8, hg8⟩
          rw [HM.out] at hrs8 hR8
          simp only at hrs8 hR8
          have hB8 := hB7.trans (below_grown hg8 hB7.size (by omega))
          have h8 := h7.keepNe (q := p7) (fun a ha hp => by have := h7lt a ha hp; omega) hg8
          clear hR7 hg8 hB7 HM h7
          go_wp2_with fail
          refine (same_any _ _ _ _ _ _ _ _ _ hrs8 h8).mono ?_
          rintro e w10 ⟨rfl, q10, hw10⟩
          rw [show decide (xs = xs) = true from decide_eq_true rfl]
          have hb10 : Below w8.heap.size w8 w10 := by rw [hw10]; exact below_drewN _ _ _
          have hR10 := hR8.below hb10
          have hB10 := hB8.trans (hb10.mono hB8.size)
          clear hw10 hb10 hR8 hB8 hrs8 h8
          go_wp2_with fail
          refine (done_any _ _ _ _ _ hR10).mono ?_
          rintro e w11 ⟨rfl, hw11⟩
          rw [hw11, show doneS [] 0 = 0 from by decide]
          clear hw11 hR10
          have hB8 := hB10
          clear hB10
          go_wp2_with fail
          refine (alive_any _).mono ?_
          rintro e w9 ⟨rfl, hb9⟩
          have hB9 := hB8.trans (hb9.mono hB8.size)
          clear hB8 hb9
          go_wp2_with fail
          go_ret
          exact ⟨rfl, hB9⟩
    · have s6 := s1
      have h6 := h1
      have hB6 := hb1
      clear s1 h1 hb1 s1le
      generalize w1 = w6 at s6 h6 hB6
      by_cases hc0 : 0 ≤ cut
      · have hc1 : ((enc n).length : Int) + (n : Int) ≤ cut := by omega
        clear hc
        by_cases hm0 : most < 0
        · have HM : Hid (bytesS (enc n ++ xs) 0 most = ([], [], 4)) := by have := bytesS_put hl (by omega) [] most; rw [List.append_nil, if_pos (.inl hm0)] at this; exact this
          go_wp2_with fail
          refine (read_any _ _ _ _ _ s6 (by omega)).mono ?_
          rintro e w7 ⟨p7, rfl, hp7, hR7, hb7⟩
          have hB7 := hB6.trans (hb7.mono hB6.size)
          have hw6 := hB6.size
          have h7 := h6.below hb7
          clear s6 h6 hB6 hb7
          go_wp2_with fail
          refine (bytes_any _ _ _ _ _ most hmost.2 hR7).mono ?_
          rintro e w8 ⟨ro8, rn8, rc8, rfl, hrs8, hro8, hR8, hg8⟩
          rw [HM.out] at hrs8 hR8
          simp only at hrs8 hR8
          have hB8 := hB7.trans (below_grown hg8 hB7.size (by omega))
          obtain rfl : 0 = rn8 := hrs8.len
          clear hrs8 hR7 hg8 hB7 HM h7
          go_wp2_with fail
          refine (done_any _ _ _ _ _ hR8).mono ?_
          rintro e w10 ⟨rfl, hw10⟩
          rw [hw10, show doneS [] 4 = 4 from by decide]
          clear hw10 hR8
          go_wp2_with fail
          refine (alive_any _).mono ?_
          rintro e w9 ⟨rfl, hb9⟩
          have hB9 := hB8.trans (hb9.mono hB8.size)
          clear hB8 hb9
          go_wp2_with fail
          go_ret
          exact ⟨rfl, hB9⟩
        · by_cases hm1 : most < (n : Int)
          · have HM : Hid (bytesS (enc n ++ xs) 0 most = ([], [], 4)) := by have := bytesS_put hl (by omega) [] most; rw [List.append_nil, if_pos (.inr hm1)] at this; exact this
            go_wp2_with fail
            refine (read_any _ _ _ _ _ s6 (by omega)).mono ?_
            rintro e w7 ⟨p7, rfl, hp7, hR7, hb7⟩
            have hB7 := hB6.trans (hb7.mono hB6.size)
            have hw6 := hB6.size
            have h7 := h6.below hb7
            clear s6 h6 hB6 hb7
            go_wp2_with fail
            refine (bytes_any _ _ _ _ _ most hmost.2 hR7).mono ?_
            rintro e w8 ⟨ro8, rn8, rc8, rfl, hrs8, hro8, hR8, hg8⟩
            rw [HM.out] at hrs8 hR8
            simp only at hrs8 hR8
            have hB8 := hB7.trans (below_grown hg8 hB7.size (by omega))
            obtain rfl : 0 = rn8 := hrs8.len
            clear hrs8 hR7 hg8 hB7 HM h7
            go_wp2_with fail
            refine (done_any _ _ _ _ _ hR8).mono ?_
            rintro e w10 ⟨rfl, hw10⟩
            rw [hw10, show doneS [] 4 = 4 from by decide]
            clear hw10 hR8
            go_wp2_with fail
            refine (alive_any _).mono ?_
            rintro e w9 ⟨rfl, hb9⟩
            have hB9 := hB8.trans (hb9.mono hB8.size)
            clear hB8 hb9
            go_wp2_with fail
            go_ret
            exact ⟨rfl, hB9⟩
          · have HM : Hid (bytesS (enc n ++ xs) 0 most = (xs, [], 0)) := by have := bytesS_put hl (by omega) [] most; rw [List.append_nil, if_neg (by omega)] at this; exact this
            go_wp2_with fail
            refine (read_any _ _ _ _ _ s6 (by omega)).mono ?_
            rintro e w7 ⟨p7, rfl, hp7, hR7, hb7⟩
            have hB7 := hB6.trans (hb7.mono hB6.size)
            have hw6 := hB6.size
            have h7 := h6.below hb7
            have h7lt : ∀ a, ao = some a → 0 < n → a.block < w6.heap.size := h6.lt
            clear s6 h6 hB6 hb7
            go_wp2_with fail
            refine (bytes_any _ _ _ _ _ most hmost.2 hR7).mono ?_
            rintro e w8 ⟨ro8, rn8, rc8, rfl, hrs8, hro8, hR8, hg8⟩
            rw [HM.out] at hrs8 hR8
            simp only at hrs8 hR8
            have hB8 := hB7.trans (below_grown hg8 hB7.size (by omega))
            have h8 := h7.keepNe (q := p7) (fun a ha hp => by have := h7lt a ha hp; omega) hg8
            clear hR7 hg8 hB7 HM h7
            go_wp2_with fail
            refine (same_any _ _ _ _ _ _ _ _ _ hrs8 h8).mono ?_
            rintro e w10 ⟨rfl, q10, hw10⟩
            rw [show decide (xs = xs) = true from decide_eq_true rfl]
            have hb10 : Below w8.heap.size w8 w10 := by rw [hw10]; exact below_drewN _ _ _
            have hR10 := hR8.below hb10
            have hB10 := hB8.trans (hb10.mono hB8.size)
            clear hw10 hb10 hR8 hB8 hrs8 h8
            go_wp2_with fail
            refine (done_any _ _ _ _ _ hR10).mono ?_
            rintro e w11 ⟨rfl, hw11⟩
            rw [hw11, show doneS [] 0 = 0 from by decide]
            clear hw11 hR10
            have hB8 := hB10
            clear hB10
            go_wp2_with fail
            refine (alive_any _).mono ?_
            rintro e w9 ⟨rfl, hb9⟩
            have hB9 := hB8.trans (hb9.mono hB8.size)
            clear hB8 hb9
            go_wp2_with fail
            go_ret
            exact ⟨rfl, hB9⟩
      · clear hc
        by_cases hm0 : most < 0
        · have HM : Hid (bytesS (enc n ++ xs) 0 most = ([], [], 4)) := by have := bytesS_put hl (by omega) [] most; rw [List.append_nil, if_pos (.inl hm0)] at this; exact this
          go_wp2_with fail
          refine (read_any _ _ _ _ _ s6 (by omega)).mono ?_
          rintro e w7 ⟨p7, rfl, hp7, hR7, hb7⟩
          have hB7 := hB6.trans (hb7.mono hB6.size)
          have hw6 := hB6.size
          have h7 := h6.below hb7
          clear s6 h6 hB6 hb7
          go_wp2_with fail
          refine (bytes_any _ _ _ _ _ most hmost.2 hR7).mono ?_
          rintro e w8 ⟨ro8, rn8, rc8, rfl, hrs8, hro8, hR8, hg8⟩
          rw [HM.out] at hrs8 hR8
          simp only at hrs8 hR8
          have hB8 := hB7.trans (below_grown hg8 hB7.size (by omega))
          obtain rfl : 0 = rn8 := hrs8.len
          clear hrs8 hR7 hg8 hB7 HM h7
          go_wp2_with fail
          refine (done_any _ _ _ _ _ hR8).mono ?_
          rintro e w10 ⟨rfl, hw10⟩
          rw [hw10, show doneS [] 4 = 4 from by decide]
          clear hw10 hR8
          go_wp2_with fail
          refine (alive_any _).mono ?_
          rintro e w9 ⟨rfl, hb9⟩
          have hB9 := hB8.trans (hb9.mono hB8.size)
          clear hB8 hb9
          go_wp2_with fail
          go_ret
          exact ⟨rfl, hB9⟩
        · by_cases hm1 : most < (n : Int)
          · have HM : Hid (bytesS (enc n ++ xs) 0 most = ([], [], 4)) := by have := bytesS_put hl (by omega) [] most; rw [List.append_nil, if_pos (.inr hm1)] at this; exact this
            go_wp2_with fail
            refine (read_any _ _ _ _ _ s6 (by omega)).mono ?_
            rintro e w7 ⟨p7, rfl, hp7, hR7, hb7⟩
            have hB7 := hB6.trans (hb7.mono hB6.size)
            have hw6 := hB6.size
            have h7 := h6.below hb7
            clear s6 h6 hB6 hb7
            go_wp2_with fail
            refine (bytes_any _ _ _ _ _ most hmost.2 hR7).mono ?_
            rintro e w8 ⟨ro8, rn8, rc8, rfl, hrs8, hro8, hR8, hg8⟩
            rw [HM.out] at hrs8 hR8
            simp only at hrs8 hR8
            have hB8 := hB7.trans (below_grown hg8 hB7.size (by omega))
            obtain rfl : 0 = rn8 := hrs8.len
            clear hrs8 hR7 hg8 hB7 HM h7
            go_wp2_with fail
            refine (done_any _ _ _ _ _ hR8).mono ?_
            rintro e w10 ⟨rfl, hw10⟩
            rw [hw10, show doneS [] 4 = 4 from by decide]
            clear hw10 hR8
            go_wp2_with fail
            refine (alive_any _).mono ?_
            rintro e w9 ⟨rfl, hb9⟩
            have hB9 := hB8.trans (hb9.mono hB8.size)
            clear hB8 hb9
            go_wp2_with fail
            go_ret
            exact ⟨rfl, hB9⟩
          · have HM : Hid (bytesS (enc n ++ xs) 0 most = (xs, [], 0)) := by have := bytesS_put hl (by omega) [] most; rw [List.append_nil, if_neg (by omega)] at this; exact this
            go_wp2_with fail
            refine (read_any _ _ _ _ _ s6 (by omega)).mono ?_
            rintro e w7 ⟨p7, rfl, hp7, hR7, hb7⟩
            have hB7 := hB6.trans (hb7.mono hB6.size)
            have hw6 := hB6.size
            have h7 := h6.below hb7
            have h7lt : ∀ a, ao = some a → 0 < n → a.block < w6.heap.size := h6.lt
            clear s6 h6 hB6 hb7
            go_wp2_with fail
            refine (bytes_any _ _ _ _ _ most hmost.2 hR7).mono ?_
            rintro e w8 ⟨ro8, rn8, rc8, rfl, hrs8, hro8, hR8, hg8⟩
            rw [HM.out] at hrs8 hR8
            simp only at hrs8 hR8
            have hB8 := hB7.trans (below_grown hg8 hB7.size (by omega))
            have h8 := h7.keepNe (q := p7) (fun a ha hp => by have := h7lt a ha hp; omega) hg8
            clear hR7 hg8 hB7 HM h7
            go_wp2_with fail
            refine (same_any _ _ _ _ _ _ _ _ _ hrs8 h8).mono ?_
            rintro e w10 ⟨rfl, q10, hw10⟩
            rw [show decide (xs = xs) = true from decide_eq_true rfl]
            have hb10 : Below w8.heap.size w8 w10 := by rw [hw10]; exact below_drewN _ _ _
            have hR10 := hR8.below hb10
            have hB10 := hB8.trans (hb10.mono hB8.size)
            clear hw10 hb10 hR8 hB8 hrs8 h8
            go_wp2_with fail
            refine (done_any _ _ _ _ _ hR10).mono ?_
            rintro e w11 ⟨rfl, hw11⟩
            rw [hw11, show doneS [] 0 = 0 from by decide]
            clear hw11 hR10
            have hB8 := hB10
            clear hB10
            go_wp2_with fail
            refine (alive_any _).mono ?_
            rintro e w9 ⟨rfl, hb9⟩
            have hB9 := hB8.trans (hb9.mono hB8.size)
            clear hB8 hb9
            go_wp2_with fail
            go_ret
            exact ⟨rfl, hB9⟩
end Go.Proofs.Ytmaoophlfpffbaa

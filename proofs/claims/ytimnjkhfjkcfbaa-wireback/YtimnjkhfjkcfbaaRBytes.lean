/-
  Contracts: a reader's Bytes and Bool.
-/
import Derived.Test.YtimnjkhfjkcfbaaRMore
import Derived.Test.YtimnjkhfjkcfbaaTake2
namespace Go.Proofs.Ytimnjkhfjkcfbaa
open Go.RowKit

theorem R.byte {w : World} {p L : Nat} {xs : List Int} {k : Int} (h : R w p L xs k) : Byt xs := by
  obtain ⟨ao, n, cap, hr⟩ := h
  exact hr.sl.byte

theorem Sl.keepNe {w w' : World} {q : Nat} {ao : Option Addr} {n cap : Nat} {xs : List Int} (h : Sl w ao n cap xs) (hne : ∀ a, ao = some a → 0 < n → a.block ≠ q) (hg : w.grownBy w' (some q)) : Sl w' ao n cap xs := by
  refine ⟨h.len, h.le, h.mx, h.nil, fun a ha i hi => hg.cell (h.cell a ha i hi) ?_, h.byte⟩
  have := hne a ha (by omega)
  have e : (a.add i).block = a.block := by unfold Addr.add; split <;> rfl
  rw [e]
  simp
  exact this
theorem Sl.ofOwn {w : World} {base : Nat} {ao : Option Addr} {n cap : Nat} {xs : List Int} (h : w.ownsRow base 5 1 (.slice ao n cap) n (bv xs)) (hb : Byt xs) : Sl w ao n cap xs := by
  obtain ⟨bo, c, he, hs, _⟩ := Sl.own h hb
  simp only [Value.slice.injEq] at he
  obtain ⟨rfl, _, rfl⟩ := he
  exact hs

/-- The end of Bytes where there are enough: the copy, and the reader behind it. -/
theorem bytes_end {w w' w2 : World} {p L m n cap : Nat} {ao bo : Option Addr} {c : Nat} {rs : List Int} {k : Int} (hg1 : w.grownBy w' (some p)) (hr : Rd w' p L ao n cap rs k) (hb2 : Below w'.heap.size w' w2)
    (hown : w2.ownsRow w'.heap.size 5 1 (.slice (some ⟨w'.heap.size, 0, none⟩) m (m + 0)) m (bv (rs.take m))) (hs : Sl w2 bo (n - m) c (rs.drop m)) (hlow : ∀ a, bo = some a → 0 < n - m → a.block < L) :
    Sl (w2.setCell ⟨p, 0, none⟩ (.slice bo (n - m) c)) (some ⟨w'.heap.size, 0, none⟩) m m (rs.take m) ∧ (∀ a, some (⟨w'.heap.size, 0, none⟩ : Addr) = some a → w.heap.size ≤ a.block) ∧
      R (w2.setCell ⟨p, 0, none⟩ (.slice bo (n - m) c)) p L (rs.drop m) k ∧ w.grownBy (w2.setCell ⟨p, 0, none⟩ (.slice bo (n - m) c)) (some p) := by
  have hp := hr.plt
  refine ⟨(Sl.ofOwn hown (hr.sl.byte.take m)).keepNe ?_ (grown_setCell _ _ _ _), ?_, ⟨_, _, _, (hr.below hb2).rest hs hlow (by omega)⟩, grown_trans hg1 (grown_trans (grown_below hb2) (grown_setCell _ _ _ _))⟩
  · intro a ha _
    obtain rfl := Option.some.inj ha
    show w'.heap.size ≠ p
    omega
  · intro a ha
    obtain rfl := Option.some.inj ha
    exact hg1.size

set_option maxHeartbeats 800000 in
theorem bytes_any (w : World) (p L : Nat) (xs : List Int) (k most : Int) (hmost : most ≤ 9223372036854775807) (h : R w p L xs k) : Calls Try.prog 12 #[.pointer (some ⟨p, 0, none⟩), .int .i64 most] w fun e w' =>
    ∃ ao n cap, e = .returned (.slice ao n cap) ∧ Sl w' ao n cap (bytesS xs k most).1 ∧ (∀ a, ao = some a → w.heap.size ≤ a.block) ∧ R w' p L (bytesS xs k most).2.1 (bytesS xs k most).2.2 ∧ w.grownBy w' (some p) := by
  have hU := int_any w p L xs k most hmost h.byte h
  unfold bytesS
  generalize intS xs k most = T at *
  obtain ⟨m, rs, q⟩ := T
  simp only at hU ⊢
  have HU : Hid (Calls _ _ _ _ _) := hU
  clear hU h
  by_cases hq : q = 0
  · subst hq
    rw [if_pos rfl]
    by_cases hbad : rs.length < m
    · rw [if_pos hbad]
      go_enter Try.func12, Try.ntmps12
      go_wp2_with fail
      refine HU.out.mono ?_
      rintro e w1 ⟨rfl, hR1, hg1⟩
      clear HU
      have hR1' := hR1
      obtain ⟨ao, n, cap, hr⟩ := hR1'
      have hc0 := hr.c0
      have hc1 := hr.c1
      have hl := hr.sl.len
      have hlt : (n : Int) < (m : Int) := by omega
      clear hr hl hbad
      go_wp2_with (first | (go_at_call 26; refine (failed_any _ p 0 hc1).mono ?_; rintro e w' ⟨rfl, rfl⟩) | (go_at_call 16; refine (fail_any _ p L rs 2 hR1 (by decide)).mono ?_; rintro e w2 ⟨rfl, hr2, hg2⟩))
      have hg := grown_trans hg1 hg2
      go_ret
      exact ⟨none, 0, 0, rfl, Sl.nothing _, fun a ha => by simp at ha, hr2, hg⟩
    · rw [if_neg hbad]
      go_enter Try.func12, Try.ntmps12
      go_wp2_with fail
      refine HU.out.mono ?_
      rintro e w1 ⟨rfl, hR1, hg1⟩
      clear HU
      obtain ⟨ao, n, cap, hr⟩ := hR1
      have hc0 := hr.c0
      have hc1 := hr.c1
      have hl := hr.sl.len
      have hle := hr.sl.le
      have hmx := hr.sl.mx
      unfold maxLen at hmx
      have hsm := hr.sm
      have hmn : m ≤ n := by omega
      have hsl := hr.sl.take m hmn
      clear hbad
      go_wp2_with (first | (go_at_call 26; refine (failed_any _ p 0 hc1).mono ?_; rintro e w' ⟨rfl, rfl⟩) | fail)
      refine (withRoom_any _ _ _ _ 0 _ hsl (by omega)).mono ?_
      rintro e w2 ⟨rfl, hown2, hb2⟩
      have hr2 := hr.below hb2
      have hd0 := hr2.c0
      have hf0 := hr2.f0
      by_cases hcm : cap = m
      · subst hcm
        have hfin := bytes_end hg1 hr hb2 hown2 (hr2.sl.dropAll hmn) (fun a ha hp => by omega)
        rw [show n - cap = 0 from by omega] at hfin
        go_wp2_with fail
        go_ret
        exact ⟨_, _, _, rfl, hfin⟩
      · have hfin := bytes_end hg1 hr hb2 hown2 (hr2.sl.drop m hmn) (low_drop hr.low (by omega))
        go_wp2_with fail
        go_ret
        exact ⟨_, _, _, rfl, hfin⟩
  · rw [if_neg hq]
    have hqb : (q != 0) = true := by simp [hq]
    clear hq
    go_enter Try.func12, Try.ntmps12
    go_wp2_with fail
    refine HU.out.mono ?_
    rintro e w1 ⟨rfl, hR1, hg1⟩
    clear HU
    have hc1 := hR1.kind
    go_wp2_with (go_at_call 26; refine (failed_any _ p q hc1).mono ?_; rintro e w' ⟨rfl, rfl⟩)
    go_ret
    exact ⟨none, 0, 0, rfl, Sl.nothing _, fun a ha => by simp at ha, hR1, hg1⟩

set_option maxHeartbeats 800000 in
theorem bool_any (w : World) (p L : Nat) (xs : List Int) (k : Int) (h : R w p L xs k) : Calls Try.prog 14 #[.pointer (some ⟨p, 0, none⟩)] w fun e w' =>
    e = .returned (.bool (boolS xs k).1) ∧ R w' p L (boolS xs k).2.1 (boolS xs k).2.2 ∧ w.grownBy w' (some p) := by
  have hR := h
  obtain ⟨ao, n, cap, hr⟩ := h
  have hc0 := hr.c0
  have hc1 := hr.c1
  have hf0 := hr.f0
  have hl := hr.sl.len
  by_cases hk : k = 0
  · subst hk
    cases xs with
    | nil =>
      obtain rfl : n = 0 := by simpa using hl.symm
      rw [show boolS [] 0 = (false, [], 2) from rfl]
      clear hr hl
      go_enter Try.func14, Try.ntmps14
      go_wp2_with (first | (go_at_call 26; refine (failed_any _ p 0 hc1).mono ?_; rintro e w' ⟨rfl, rfl⟩) | (go_at_call 16; refine (fail_any _ p L [] 2 hR (by decide)).mono ?_; rintro e w2 ⟨rfl, hr2, hg2⟩))
      go_ret
      exact ⟨rfl, hr2, hg2⟩
    | cons c r =>
      have hn : 0 < n := by rw [← hl]; simp
      have hnb : ((n : Int) == 0) = false := by simp; omega
      have hn1 : (0 : Int) < (n : Int) := by omega
      have hn2 : (1 : Int) ≤ (n : Int) := by omega
      have hby := hr.sl.byte c (by simp)
      obtain ⟨b, off, rfl, hcell⟩ := hr.sl.at hn
      have c0 := hcell 0 hn
      rw [Nat.add_zero, show (c :: r).getD 0 0 = c from rfl] at c0
      have hle := hr.sl.le
      have hmx := hr.sl.mx
      unfold maxLen at hmx
      clear hcell
      by_cases hbig : 1 < c
      · rw [show boolS (c :: r) 0 = (false, [], 3) from by simp [boolS, hbig]]
        clear hr
        go_enter Try.func14, Try.ntmps14
        go_wp2_with (first | (go_at_call 26; refine (failed_any _ p 0 hc1).mono ?_; rintro e w' ⟨rfl, rfl⟩) | (go_at_call 16; refine (fail_any _ p L (c :: r) 3 hR (by decide)).mono ?_; rintro e w2 ⟨rfl, hr2, hg2⟩))
        go_ret
        exact ⟨rfl, hr2, hg2⟩
      · have hc1' : c ≤ 1 := by omega
        rw [show boolS (c :: r) 0 = (c == 1, r, 0) from by simp [boolS, hbig]]
        have hsd := hr.sl.drop 1 hn
        rw [show (c :: r).drop 1 = r from rfl] at hsd
        have hsa : cap = 1 → Sl w (some ⟨b, off, none⟩) (n - 1) 0 r := by
          intro hc
          subst hc
          exact hr.sl.dropAll hn
        clear hbig
        go_enter Try.func14, Try.ntmps14
        go_wp2_with (first | (go_at_call 26; refine (failed_any _ p 0 hc1).mono ?_; rintro e w' ⟨rfl, rfl⟩) | fail)
        · have hcap : cap = 1 := by assumption
          have hfin : R (w'.setCell ⟨p, 0, none⟩ (.slice (some ⟨b, off, none⟩) (n - 1) 0)) p L r 0 := ⟨_, _, _, hr.rest (hsa hcap) (fun a ha hp => by omega) (by omega)⟩
          go_ret
          exact ⟨rfl, hfin, grown_setCell _ _ _ _⟩
        · have hfin := hr.rest hsd (low_drop hr.low (by omega)) (by omega)
          rw [show Option.map (fun x => x.add 1) (some (⟨b, off, none⟩ : Addr)) = some ⟨b, off + 1, none⟩ from by rw [Option.map_some, Addr.add_lit]] at hfin
          go_ret
          exact ⟨rfl, ⟨_, _, _, hfin⟩, grown_setCell _ _ _ _⟩
  · have hb : (k != 0) = true := by simp [hk]
    have hs : boolS xs k = (false, xs, k) := by simp [boolS, hk]
    rw [hs]
    clear hr hk hs
    go_enter Try.func14, Try.ntmps14
    go_wp2_with (go_at_call 26; refine (failed_any _ p k hc1).mono ?_; rintro e w' ⟨rfl, rfl⟩)
    go_ret
    exact ⟨rfl, hR, World.grownBy.refl _ _⟩
end Go.Proofs.Ytimnjkhfjkcfbaa

/-
  Contracts: a reader's Int, Bytes and Bool.
-/
import Derived.Test.YtmaoophlfpffbaaRUint
import Derived.Test.YtmaoophlfpffbaaRoom
namespace Go.Proofs.Ytmaoophlfpffbaa
open Go.RowKit

/-- What Int tells, and the reader behind it. -/
def intS (xs : List Int) (k most : Int) : Nat × List Int × Int :=
  if (uintS xs k).2.2 = 0 then (if most < 0 ∨ most < (uintS xs k).1 then (0, [], 4) else uintS xs k) else (0, (uintS xs k).2)
/-- What Bytes tells, and the reader behind it. -/
def bytesS (xs : List Int) (k most : Int) : List Int × List Int × Int :=
  if (intS xs k most).2.2 = 0 then (if (intS xs k most).2.1.length < (intS xs k most).1 then ([], [], 2) else ((intS xs k most).2.1.take (intS xs k most).1, (intS xs k most).2.1.drop (intS xs k most).1, 0)) else ([], (intS xs k most).2)
/-- What Bool tells, and the reader behind it. -/
def boolS (xs : List Int) (k : Int) : Bool × List Int × Int :=
  if k = 0 then (match xs with
    | [] => (false, [], 2)
    | c :: r => if 1 < c then (false, [], 3) else (c == 1, r, 0)) else (false, xs, k)

theorem R.kind {w : World} {p L : Nat} {xs : List Int} {k : Int} (h : R w p L xs k) : w.cell? ⟨p, 1, none⟩ = some (.int .i64 k) := by
  obtain ⟨ao, n, cap, hr⟩ := h
  exact hr.c1

theorem uintS_lt {xs : List Int} {k : Int} (hb : Byt xs) : (uintS xs k).1 < 18446744073709551616 := by
  unfold uintS
  split
  · split
    · exact tk_lt xs 0 0 hb (by omega) (by decide)
    · simp
  · simp

theorem int_nil (w : World) (most : Int) : Calls Try.prog 24 #[.pointer none, .int .i64 most] w fun e w' => e = .returned (.int .i64 0) ∧ w' = w := by
  go_enter Try.func24, Try.ntmps24
  go_wp2_with (first | (go_at_call 18; refine (uint_nil _).mono ?_; rintro e w' ⟨rfl, rfl⟩) | (go_at_call 28; refine (failed_nil _).mono ?_; rintro e w' ⟨rfl, rfl⟩))
  go_ret
  exact ⟨rfl, rfl⟩

set_option maxHeartbeats 400000 in
theorem int_any (w : World) (p L : Nat) (xs : List Int) (k most : Int) (hmost : most ≤ 9223372036854775807) (hb : Byt xs) (h : R w p L xs k) : Calls Try.prog 24 #[.pointer (some ⟨p, 0, none⟩), .int .i64 most] w fun e w' =>
    e = .returned (.int .i64 ((intS xs k most).1 : Nat)) ∧ R w' p L (intS xs k most).2.1 (intS xs k most).2.2 ∧ w.grownBy w' (some p) := by
  have hU := uint_any w p L xs k h
  have hlt := uintS_lt (k := k) hb
  unfold intS
  generalize uintS xs k = T at *
  obtain ⟨m, rs, q⟩ := T
  simp only at hU hlt ⊢
  have HU : Hid (Calls _ _ _ _ _) := hU
  clear hU h hb
  by_cases hq : q = 0
  · subst hq
    rw [if_pos rfl]
    by_cases hbad : most < 0 ∨ most < (m : Int)
    · rw [if_pos hbad]
      by_cases hneg : most < 0
      · clear hbad
        go_enter Try.func24, Try.ntmps24
        go_wp2_with fail
        refine HU.out.mono ?_
        rintro e w1 ⟨rfl, hR1, hg1⟩
        clear HU
        have hc1 := hR1.kind
        go_wp2_with (first | (go_at_call 28; refine (failed_any _ p 0 hc1).mono ?_; rintro e w' ⟨rfl, rfl⟩) | (go_at_call 23; refine (fail_any _ p L rs 4 hR1 (by decide)).mono ?_; rintro e w2 ⟨rfl, hr2, hg2⟩))
        have hg := grown_trans hg1 hg2
        go_ret
        exact ⟨rfl, hr2, hg⟩
      · have hlt2 : most < (m : Int) := by omega
        clear hbad
        go_enter Try.func24, Try.ntmps24
        go_wp2_with fail
        refine HU.out.mono ?_
        rintro e w1 ⟨rfl, hR1, hg1⟩
        clear HU
        have hc1 := hR1.kind
        go_wp2_with (first | (go_at_call 28; refine (failed_any _ p 0 hc1).mono ?_; rintro e w' ⟨rfl, rfl⟩) | (go_at_call 23; refine (fail_any _ p L rs 4 hR1 (by decide)).mono ?_; rintro e w2 ⟨rfl, hr2, hg2⟩))
        have hg := grown_trans hg1 hg2
        go_ret
        exact ⟨rfl, hr2, hg⟩
    · rw [if_neg hbad]
      have h1 : 0 ≤ most := by omega
      have h2 : (m : Int) ≤ most := by omega
      clear hbad
      go_enter Try.func24, Try.ntmps24
      go_wp2_with fail
      refine HU.out.mono ?_
      rintro e w1 ⟨rfl, hR1, hg1⟩
      clear HU
      have hc1 := hR1.kind
      go_wp2_with (go_at_call 28; refine (failed_any _ p 0 hc1).mono ?_; rintro e w' ⟨rfl, rfl⟩)
      go_ret
      exact ⟨rfl, hR1, hg1⟩
  · rw [if_neg hq]
    have hqb : (q != 0) = true := by simp [hq]
    clear hq
    go_enter Try.func24, Try.ntmps24
    go_wp2_with fail
    refine HU.out.mono ?_
    rintro e w1 ⟨rfl, hR1, hg1⟩
    clear HU
    have hc1 := hR1.kind
    go_wp2_with (go_at_call 28; refine (failed_any _ p q hc1).mono ?_; rintro e w' ⟨rfl, rfl⟩)
    go_ret
    exact ⟨rfl, hR1, hg1⟩

theorem bool_nil (w : World) : Calls Try.prog 22 #[.pointer none] w fun e w' => e = .returned (.bool false) ∧ w' = w := by
  go_enter Try.func22, Try.ntmps22
  go_wp2_with (go_at_call 28; refine (failed_nil _).mono ?_; rintro e w' ⟨rfl, rfl⟩)
  go_ret
  exact ⟨rfl, rfl⟩

theorem bytes_nil (w : World) (most : Int) : Calls Try.prog 21 #[.pointer none, .int .i64 most] w fun e w' => e = .returned (.slice none 0 0) ∧ w' = w := by
  go_enter Try.func21, Try.ntmps21
  go_wp2_with (first | (go_at_call 24; refine (int_nil _ _).mono ?_; rintro e w' ⟨rfl, rfl⟩) | (go_at_call 28; refine (failed_nil _).mono ?_; rintro e w' ⟨rfl, rfl⟩))
  go_ret
  exact ⟨rfl, rfl⟩
end Go.Proofs.Ytmaoophlfpffbaa

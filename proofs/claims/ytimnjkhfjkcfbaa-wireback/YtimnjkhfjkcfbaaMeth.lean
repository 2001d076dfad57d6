/-
  Contracts: a reader's failed, Fail, Left and Done.
-/
import Derived.Test.YtimnjkhfjkcfbaaState
namespace Go.Proofs.Ytimnjkhfjkcfbaa
open Go.RowKit

theorem failed_nil (w : World) : Calls Try.prog 26 #[.pointer none] w fun e w' => e = .returned (.bool true) ∧ w' = w := by
  go_enter Try.func26, Try.ntmps26
  go_wp2
  go_ret
  exact ⟨rfl, rfl⟩
theorem failed_any (w : World) (p : Nat) (k : Int) (h : w.cell? ⟨p, 1, none⟩ = some (.int .i64 k)) : Calls Try.prog 26 #[.pointer (some ⟨p, 0, none⟩)] w fun e w' => e = .returned (.bool (k != 0)) ∧ w' = w := by
  go_enter Try.func26, Try.ntmps26
  go_wp2
  go_ret
  exact ⟨rfl, rfl⟩

theorem fail_nil (w : World) (q : Int) : Calls Try.prog 16 #[.pointer none, .int .i64 q] w fun e w' => e = .returned (.tuple #[]) ∧ w' = w := by
  go_enter Try.func16, Try.ntmps16
  go_wp2_with (go_at_call 26; refine (failed_nil _).mono ?_; rintro e w' ⟨rfl, rfl⟩)
  (try simp only [Exit.inBlock, Exit.then]); refine bodyPost_ret (results_none rfl _ _ _) rfl ?_
  exact ⟨rfl, rfl⟩

/-- Fail where it has failed, or with nothing that is wrong. -/
theorem fail_not (w : World) (p : Nat) (k q : Int) (h : w.cell? ⟨p, 1, none⟩ = some (.int .i64 k)) (hq : k ≠ 0 ∨ q = 0) : Calls Try.prog 16 #[.pointer (some ⟨p, 0, none⟩), .int .i64 q] w fun e w' => e = .returned (.tuple #[]) ∧ w' = w := by
  by_cases hk : k = 0
  · have hb : (k != 0) = false := by simp [hk]
    have hq0 : (q == 0) = true := by simp; omega
    clear hk hq
    go_enter Try.func16, Try.ntmps16
    go_wp2_with (go_at_call 26; refine (failed_any _ p k h).mono ?_; rintro e w' ⟨rfl, rfl⟩)
    (try simp only [Exit.inBlock, Exit.then]); refine bodyPost_ret (results_none rfl _ _ _) rfl ?_
    exact ⟨rfl, rfl⟩
  · have hb : (k != 0) = true := by simp [hk]
    clear hk hq
    go_enter Try.func16, Try.ntmps16
    go_wp2_with (go_at_call 26; refine (failed_any _ p k h).mono ?_; rintro e w' ⟨rfl, rfl⟩)
    (try simp only [Exit.inBlock, Exit.then]); refine bodyPost_ret (results_none rfl _ _ _) rfl ?_
    exact ⟨rfl, rfl⟩

theorem fail_any (w : World) (p L : Nat) (xs : List Int) (q : Int) (h : R w p L xs 0) (hq : q ≠ 0) : Calls Try.prog 16 #[.pointer (some ⟨p, 0, none⟩), .int .i64 q] w fun e w' => e = .returned (.tuple #[]) ∧ R w' p L [] q ∧ w.grownBy w' (some p) := by
  obtain ⟨ao, n, cap, hr⟩ := h
  have h0 := hr.c0
  have h1 := hr.c1
  have f0 := hr.f0
  have f1 := hr.f1
  have hb : (q == 0) = false := by simp [hq]
  have hfin : R ((w.setCell ⟨p, 1, none⟩ (.int .i64 q)).setCell ⟨p, 0, none⟩ (.slice none 0 0)) p L [] q :=
    ⟨none, 0, 0, (hr.wrong q).rest (Sl.nothing _) (fun a ha => by simp at ha) (Nat.zero_le _)⟩
  have hgr := grown_trans (grown_setCell w p 1 (.int .i64 q)) (grown_setCell (w.setCell ⟨p, 1, none⟩ (.int .i64 q)) p 0 (.slice none 0 0))
  clear hr hq
  go_enter Try.func16, Try.ntmps16
  go_wp2_with (go_at_call 26; refine (failed_any _ p 0 h1).mono ?_; rintro e w' ⟨rfl, rfl⟩)
  go_end0
  exact ⟨rfl, hfin, hgr⟩

theorem left_nil (w : World) : Calls Try.prog 18 #[.pointer none] w fun e w' => e = .returned (.int .i64 0) ∧ w' = w := by
  go_enter Try.func18, Try.ntmps18
  go_wp2_with (go_at_call 26; refine (failed_nil _).mono ?_; rintro e w' ⟨rfl, rfl⟩)
  go_ret
  exact ⟨rfl, rfl⟩
theorem left_any (w : World) (p L : Nat) (xs : List Int) (k : Int) (h : R w p L xs k) : Calls Try.prog 18 #[.pointer (some ⟨p, 0, none⟩)] w fun e w' => e = .returned (.int .i64 (if k = 0 then (xs.length : Int) else 0)) ∧ w' = w := by
  obtain ⟨ao, n, cap, hr⟩ := h
  have h0 := hr.c0
  have h1 := hr.c1
  have hl := hr.sl.len
  clear hr
  by_cases hk : k = 0
  · rw [if_pos hk]
    subst hl hk
    go_enter Try.func18, Try.ntmps18
    go_wp2_with (go_at_call 26; refine (failed_any _ p 0 h1).mono ?_; rintro e w' ⟨rfl, rfl⟩)
    go_ret
    exact ⟨rfl, rfl⟩
  · rw [if_neg hk]
    have hb : (k != 0) = true := by simp [hk]
    clear hk
    go_enter Try.func18, Try.ntmps18
    go_wp2_with (go_at_call 26; refine (failed_any _ p k h1).mono ?_; rintro e w' ⟨rfl, rfl⟩)
    go_ret
    exact ⟨rfl, rfl⟩

theorem done_nil (w : World) : Calls Try.prog 20 #[.pointer none] w fun e w' => e = .returned (.int .i64 17) ∧ w' = w := by
  go_enter Try.func20, Try.ntmps20
  go_wp2
  go_ret
  exact ⟨rfl, rfl⟩
/-- What Done tells. -/
def doneS (xs : List Int) (k : Int) : Int := if k = 0 then (if xs = [] then 0 else 3) else k
theorem done_any (w : World) (p L : Nat) (xs : List Int) (k : Int) (h : R w p L xs k) : Calls Try.prog 20 #[.pointer (some ⟨p, 0, none⟩)] w fun e w' => e = .returned (.int .i64 (doneS xs k)) ∧ w' = w := by
  obtain ⟨ao, n, cap, hr⟩ := h
  have h0 := hr.c0
  have h1 := hr.c1
  have hl := hr.sl.len
  clear hr
  by_cases hk : k = 0
  · subst hk
    cases xs with
    | nil =>
      have hn : n = 0 := by simpa using hl.symm
      subst hn
      clear hl
      go_enter Try.func20, Try.ntmps20
      go_wp2
      go_ret
      exact ⟨rfl, rfl⟩
    | cons c r =>
      have hn : 0 < n := by rw [← hl]; simp
      clear hl
      go_enter Try.func20, Try.ntmps20
      go_wp2
      go_ret
      exact ⟨rfl, rfl⟩
  · have hb : (k == 0) = false := by simp [hk]
    have hd : doneS xs k = k := by simp [doneS, hk]
    rw [hd]
    clear hk hd
    go_enter Try.func20, Try.ntmps20
    go_wp2
    go_ret
    exact ⟨rfl, rfl⟩
end Go.Proofs.Ytimnjkhfjkcfbaa

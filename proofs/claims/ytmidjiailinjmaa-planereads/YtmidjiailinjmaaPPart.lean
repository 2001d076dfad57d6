/-
  math.Trunc, isPart, Right at whole numbers.
-/
import Derived.Test.YtmidjiailinjmaaFV
import Derived.Test.YtmidjiailinjmaaBase
namespace Go.Proofs.Ytmidjiailinjmaa
open Go.RowKit Ieee

theorem integral_run (nm : String) (way : Toward) (b : Nat) (s : Bool) (m : Nat) (e : Int) (hd : FloatKind.f64.decode b = .number s m e) :
    Extern.MathFloor.toIntegral nm way #[.float .f64 b] = pure (.float .f64 (FloatKind.f64.encode ((Datum.number s m e).integral way))) := by
  delta Extern.MathFloor.toIntegral Extern.MathFloor.toIntegral.match_2
  dsimp only
  rw [dif_pos (show #[Value.float FloatKind.f64 b].size = 1 from rfl)]
  delta Extern.MathFloor.toIntegral._sparseCasesOn_2 Extern.MathFloor.toIntegral._sparseCasesOn_3
  dsimp only [Array.getLit, List.getElem_toArray, List.getElem_cons_zero]
  rw [hd]

set_option maxRecDepth 100000 in
theorem ptrunc_any (w : World) (b : Nat) (s : Bool) (n : Int) (h : FV b s n) :
    Calls Try.prog 16 #[.float .f64 b] w fun e w' => e = .returned (.float .f64 b) ∧ w' = w := by
  obtain ⟨s', m, e, hd⟩ := h.nan
  have hi := h.integral .zero
  rw [hd] at hi
  have hcall : (callFunc 17 #[.float .f64 b]).run Try.prog w = .ok (.value (.float .f64 b)) w := by
    rw [run_callFunc_extern Try.func17 (by kernel_rfl) (by kernel_rfl) (by kernel_rfl) (e := Extern.MathFloor.toIntegral "math.archTrunc" .zero) (by kernel_rfl)]
    rw [integral_run "math.archTrunc" .zero b s' m e hd, hi]
    rfl
  clear hd hi
  go_enter Try.func16, Try.ntmps16
  go_wp2
  all_goals (go_ret; exact ⟨rfl, rfl⟩)

/-- May a whole number be a part? -/
def inP (n : Int) : Bool := decide (-1048576 ≤ n ∧ n ≤ 1048576)

set_option maxRecDepth 100000 in
set_option maxHeartbeats 2000000 in
theorem ppart_any (w : World) (b : Nat) (s : Bool) (n : Int) (h : FV b s n) :
    Calls Try.prog 15 #[.float .f64 b] w fun e w' => e = .returned (.bool (inP n)) ∧ w' = w := by
  have c1 : FV 13920626448202203136 (decide ((-1048576 : Int) < 0)) (-1048576) := by rw [← fw_min]; exact fv _ (by decide)
  have c2 : FV 4697254411347427328 (decide ((1048576 : Int) < 0)) 1048576 := by rw [← fw_max]; exact fv _ (by decide)
  have l1 := c1.leq h
  have l2 := h.leq c2
  have l3 := h.eql h
  rw [decide_eq_true rfl] at l3
  clear c1 c2
  by_cases a : -1048576 ≤ n
  · rw [decide_eq_true a] at l1
    by_cases c : n ≤ 1048576
    · rw [decide_eq_true c] at l2
      have hp : inP n = true := decide_eq_true ⟨a, c⟩
      rw [hp]
      clear hp
      go_enter Try.func15, Try.ntmps15
      go_wp2_with fail
      refine (ptrunc_any w b s n h).mono ?_
      rintro e w' ⟨rfl, hw⟩
      obtain rfl := hw.symm
      go_wp2
      go_ret
      exact ⟨rfl, rfl⟩
    · rw [decide_eq_false c] at l2
      have hp : inP n = false := decide_eq_false (fun x => c x.2)
      rw [hp]
      clear hp
      go_enter Try.func15, Try.ntmps15
      go_wp2
      go_ret
      exact ⟨rfl, rfl⟩
  · rw [decide_eq_false a] at l1
    have hp : inP n = false := decide_eq_false (fun x => a x.1)
    rw [hp]
    clear hp
    go_enter Try.func15, Try.ntmps15
    go_wp2
    go_ret
    exact ⟨rfl, rfl⟩

set_option maxRecDepth 100000 in
set_option maxHeartbeats 2000000 in
theorem pright_any (w : World) (a b : Nat) (s t : Bool) (m n : Int) (h : FV a s m) (k : FV b t n) :
    Calls Try.prog 13 #[.complex .f64 a b] w fun e w' => e = .returned (.int .i64 (if (inP m && inP n) = true then 0 else 1)) ∧ w' = w := by
  cases c1 : inP m
  · go_enter Try.func13, Try.ntmps13
    go_wp2_with fail
    refine (ppart_any w a s m h).mono ?_
    rintro e w' ⟨rfl, hw⟩
    obtain rfl := hw.symm
    rw [c1]
    clear c1
    go_wp2
    go_ret
    exact ⟨rfl, rfl⟩
  · cases c2 : inP n
    · go_enter Try.func13, Try.ntmps13
      go_wp2_with fail
      refine (ppart_any w a s m h).mono ?_
      rintro e w' ⟨rfl, hw⟩
      obtain rfl := hw.symm
      rw [c1]
      clear c1
      go_wp2_with fail
      refine (ppart_any w b t n k).mono ?_
      rintro e w' ⟨rfl, hw⟩
      obtain rfl := hw.symm
      rw [c2]
      clear c2
      go_wp2
      go_ret
      exact ⟨rfl, rfl⟩
    · go_enter Try.func13, Try.ntmps13
      go_wp2_with fail
      refine (ppart_any w a s m h).mono ?_
      rintro e w' ⟨rfl, hw⟩
      obtain rfl := hw.symm
      rw [c1]
      clear c1
      go_wp2_with fail
      refine (ppart_any w b t n k).mono ?_
      rintro e w' ⟨rfl, hw⟩
      obtain rfl := hw.symm
      rw [c2]
      clear c2
      go_wp2
      go_ret
      exact ⟨rfl, rfl⟩
end Go.Proofs.Ytmidjiailinjmaa

/-
  Small functions of the reference and of the laws: Light, Asked, Find.
-/
import Derived.Test.YtiabdcejibeciaaGreatDoorChunkReadsZ5
import Derived.Test.YtiabdcejibeciaaGreatDoorChunkReadsZ7
namespace Go.Proofs.YtiabdcejibeciaaGreatDoor
open Go.RowKit

/-- Few and short. -/
def ligQ (q : IP) : Bool := decide (q.k.n ≤ 300) && decide (q.v.n ≤ 1100)
def ligB (its : List IP) (m : Int) : Bool := decide ((its.length : Int) ≤ m) && its.all ligQ

set_option maxHeartbeats 1000000 in
set_option maxRecDepth 100000 in
theorem light7_any (w : World) (ao : Option Addr) (n cap : Nat) (its : List IP) (m : Int) (h : IL w ao n cap its) :
    Calls Tryz.prog 5 #[.slice ao n cap, .int .i64 m] w fun e w' => e = .returned (.bool (ligB its m)) ∧ w' = w := by
  have hl1 := Nat.le_of_eq h.len
  have hl2 := Nat.le_of_eq h.len.symm
  have hmx := h.mx
  have hle := h.le
  have hnx : (n : Int) ≤ 9223372036854775807 := by unfold maxLen at hmx; omega
  by_cases hm : (n : Int) > m
  · have HR : Hid (ligB its m = false) := by show _ = _; simp only [ligB, Bool.and_eq_false_imp]; intro e; have := of_decide_eq_true e; omega
    go_enter Tryz.func5, Tryz.ntmps5
    go_wp2
    go_ret
    rw [HR.out]
    exact ⟨rfl, rfl⟩
  go_enter Tryz.func5, Tryz.ntmps5
  go_wp2
  go_loopw [5] (fun i wr => ∃ k : Nat, k ≤ n ∧ i = .int .i64 k ∧ (∀ q ∈ its.take k, ligQ q = true) ∧ w = wr) (fun i _ => n - (intOf i).toNat)
  case atStart => exact ⟨0, Nat.zero_le _, rfl, by simp, rfl⟩
  case round =>
    obtain ⟨k, hk, rfl, hj, rfl⟩ := hrel
    have HJ : Hid (∀ q ∈ its.take k, ligQ q = true) := hj
    clear hj
    by_cases hlt : k < n
    · have hki : (k : Int) < (n : Int) := by omega
      have hkl : k < its.length := by omega
      obtain ⟨b, off, rfl, hc⟩ := h.at (by omega)
      obtain ⟨c1, c2⟩ := hc k hkl
      have HM : Hid (its[k] ∈ its) := List.getElem_mem hkl
      have HT : Hid (its.take (k + 1) = its.take k ++ [its[k]]) := List.take_succ_eq_append_getElem hkl
      obtain ⟨q, hqe⟩ : ∃ q, q = its[k] := ⟨_, rfl⟩
      rw [← hqe] at c1 c2 HM HT
      unfold Part.val at c1 c2
      clear hc hqe
      have bad : ligQ q = false → ligB its m = false := fun e => by
        simp only [ligB, Bool.and_eq_false_imp]
        intro _
        rw [List.all_eq_false]
        exact ⟨q, HM.out, by simp [e]⟩
      have BAD : Hid (ligQ q = false → ligB its m = false) := bad
      clear bad
      by_cases h1 : 300 < q.k.n
      · have h1' : (q.k.n : Int) > 300 := by omega
        have HR : Hid (ligB its m = false) := BAD.out (by simp [ligQ]; omega)
        go_wp2
        go_ret
        rw [HR.out]
        exact ⟨rfl, rfl⟩
      have h1' : ¬ (q.k.n : Int) > 300 := by omega
      by_cases h2 : 1100 < q.v.n
      · have h2' : (q.v.n : Int) > 1100 := by omega
        have HR : Hid (ligB its m = false) := BAD.out (by simp [ligQ]; omega)
        go_wp2
        go_ret
        rw [HR.out]
        exact ⟨rfl, rfl⟩
      have h2' : ¬ (q.v.n : Int) > 1100 := by omega
      go_wp2
      go_roundw
      case rel =>
        refine ⟨k + 1, by omega, by go_num, fun r hr => ?_, by first | rfl | trivial⟩
        rw [HT.out] at hr
        rcases List.mem_append.1 hr with hr | hr
        · exact HJ.out r hr
        · rw [List.mem_singleton.1 hr]
          simp [ligQ]
          omega
      case measure => simp [intOf]; omega
    · have hge : ¬ (k : Int) < (n : Int) := by omega
      have HR : Hid (ligB its m = true) := by
        show _ = _
        simp only [ligB, Bool.and_eq_true]
        refine ⟨decide_eq_true (by omega), List.all_eq_true.2 fun q hq => HJ.out q ?_⟩
        rw [List.take_of_length_le (by omega)]
        exact hq
      go_wp2
      go_ret
      rw [HR.out]
      exact ⟨rfl, rfl⟩

end Go.Proofs.YtiabdcejibeciaaGreatDoor

/-
  Are operations few, and small? (bulwarklaw10.Light)
-/
import Derived.Test.YthlpccajnmkbjaaGreatDoorY48
namespace Go.Proofs.YthlpccajnmkbjaaGreatDoor
open Go.RowKit

def light10 (l : List (OD 3)) (m : Nat) : Bool := decide (l.length ≤ m) && l.all (lightD 3)

set_option maxRecDepth 100000 in
set_option maxHeartbeats 8000000 in
theorem light10_any (w : World) (ao : Option Addr) (n cap m : Nat) (l : List (OD 3)) (L : OWL w 3 ao n cap l) (sl : ∀ y ∈ l, OSm 3 y) (hm : m ≤ 1000) :
    Calls Tryz.prog 9 #[.slice ao n cap, .int .i64 m] w fun e w' => e = .returned (.bool (light10 l m)) ∧ Below w.heap.size w w' := by
  have hl1 : @List.length (OD 3) l ≤ n := Nat.le_of_eq L.len
  have hl2 : n ≤ @List.length (OD 3) l := Nat.le_of_eq L.len.symm
  by_cases c0 : m < n
  · have i0 : (m : Int) < (n : Int) := by omega
    have hv : Hid (light10 l m = false) := by
      show (decide _ && _) = false
      rw [decide_eq_false (by omega), Bool.false_and]
    clear L sl c0 hl1 hl2
    go_enter Tryz.func9, Tryz.ntmps9
    go_wp2
    go_ret
    exact ⟨by rw [hv.out] <;> rfl, Below.refl _ _⟩
  have i0 : ¬ (m : Int) < (n : Int) := by omega
  have hv : Hid (light10 l m = l.all (lightD 3)) := by
    show (decide _ && _) = _
    rw [decide_eq_true (by omega), Bool.true_and]
  have hn : n ≤ 1000 := by omega
  clear c0
  go_enter Tryz.func9, Tryz.ntmps9
  go_wp2
  go_loopw [5] (fun i wr => ∃ k : Nat, k ≤ n ∧ i = .int .i64 k ∧ Below w.heap.size w wr ∧ (l.take k).all (lightD 3) = true) (fun i _ => n - (intOf i).toNat)
  case atStart => exact ⟨0, Nat.zero_le _, rfl, Below.refl _ _, rfl⟩
  case round =>
    obtain ⟨k, hk, rfl, B1, hall⟩ := hrel
    have HA : Hid ((l.take k).all (lightD 3) = true) := hall
    clear hall
    by_cases hlt : k < n
    · obtain ⟨b, off, ea, hc⟩ := L.at (by omega)
      have hkl : k < l.length := by omega
      have X := (hc k hkl).below B1
      have hok : OW wr 3 l[k] := (L.ok _ (List.getElem_mem hkl)).below B1
      have hsm : OSm 3 l[k] := sl _ (List.getElem_mem hkl)
      have i6 : (k : Int) < (n : Int) := by omega
      have HT : Hid ((l.take (k + 1)).all (lightD 3) = lightD 3 l[k]) := light_step hkl HA.out
      have HL : Hid (lightD 3 l[k] = false → l.all (lightD 3) = false) := fun hb => by
        rw [List.all_eq_false]
        exact ⟨_, List.getElem_mem hkl, by rw [hb]; simp⟩
      obtain ⟨y, hy⟩ : ∃ y : OD 3, y = l[k] := ⟨_, rfl⟩
      rw [← hy] at hok HT HL X hsm
      clear hy hc HA sl L
      subst ea
      obtain ⟨q0, q1, q2, q3, q4, q5, q6, q7, q8, q10⟩ := X
      have CL := light_any 3 wr y hok hsm (by omega)
      rw [show (((3 : Nat) : Int) - 1) = 2 from rfl] at CL
      unfold OA.val at CL
      clear hok hsm
      cases hb : lightD 3 y with
      | false =>
        rw [hb] at CL
        go_wp2_with fail
        refine CL.mono ?_
        rintro e w2 ⟨rfl, C⟩
        have D := B1.trans (C.mono B1.size)
        clear CL q0 q1 q2 q3 q4 q5 q6 q7 q8 q10
        go_wp2
        go_ret
        exact ⟨by rw [hv.out, HL.out hb] <;> rfl, D⟩
      | true =>
        rw [hb] at CL
        go_wp2_with fail
        refine CL.mono ?_
        rintro e w2 ⟨rfl, C⟩
        have D := B1.trans (C.mono B1.size)
        clear CL q0 q1 q2 q3 q4 q5 q6 q7 q8 q10
        go_wp2
        go_roundw
        case rel => exact ⟨k + 1, by omega, by go_num, D, by rw [HT.out, hb]⟩
        case measure => simp [intOf]; omega
    · have i6 : (n : Int) ≤ (k : Int) := by omega
      have HL : Hid (l.all (lightD 3) = true) := by
        show _ = _
        rw [← HA.out, List.take_of_length_le (by omega)]
      go_wp2
      go_ret
      exact ⟨by rw [hv.out, HL.out] <;> rfl, B1⟩
theorem light10_at {l : List (OD 3)} {m : Nat} (h : light10 l m = true) : l.length ≤ m ∧ ∀ y ∈ l, lightD 3 y = true :=
  ⟨of_decide_eq_true (Bool.and_eq_true_iff.1 h).1, List.all_eq_true.1 (Bool.and_eq_true_iff.1 h).2⟩
end Go.Proofs.YthlpccajnmkbjaaGreatDoor

/-
  The law's alive: the chapter's example.
-/
import Derived.Test.YtghemebgkhopnaaQuAddV
import Derived.Test.YtghemebgkhopnaaQuCount2
import Derived.Lib.SmallJoins
namespace Go.Proofs.Ytghemebgkhopnaa
open Go.RowKit

def v2 : VT := ⟨true, strOfNums [120], strOfNums [], strOfNums []⟩
def v3 : VT := ⟨true, strOfNums [121], strOfNums [], strOfNums []⟩
theorem addV_a : addV 1 noVotes 2 v2 = (noVotes.set 1 v2, 0) := by rfl
theorem addV_b : addV 1 (noVotes.set 1 v2) 2 v3 = (noVotes.set 1 v2, 18) := by rfl
theorem cntV_a : cntV (strOfNums [120]) (noVotes.set 1 v2) = 1 := by decide
theorem grow_below {a b c : World} {p : Nat} (h : Below a.heap.size a b) (k : b.grownBy c (some p)) (hp : a.heap.size ≤ p) : Below a.heap.size a c := h.grown k h.size (fun _ e => by cases e; exact hp)
theorem sl_mark (w : World) (c : Int) (h : 0 ≤ c ∧ c ≤ 255) : Sl (w.alloc (.cells #[.int .u8 c] 5 (1, 2))) (some ⟨w.heap.size, 0, none⟩) 1 1 [c] := by
  refine ⟨rfl, Nat.le_refl _, by decide, fun h => by simp at h, fun a ha i hi => ?_, fun x hx => by simp at hx; omega⟩
  obtain rfl := Option.some.inj ha
  obtain rfl : i = 0 := by omega
  rw [Addr.add_lit, World.cell?_alloc_mark]
  rfl
set_option maxRecDepth 100000 in
set_option maxHeartbeats 4000000 in
theorem alive14 (w : World) : Calls Try.prog 17 #[] w fun e w' => e = .returned (.bool true) ∧ Below w.heap.size w w' := by
  have kc := fun (w : World) (C : Array Value) (n c g : Nat) (hg : g = w.heap.size) => Joins.run_convert_bytes_const_at (P := Try.prog) w 28 5 C n c g hg Try.underlying28 Try.underlying5
  have CN := new_good w 1 (by omega) (by omega)
  go_enter Try.func17, Try.ntmps17
  go_wp2_with fail
  refine CN.mono ?_
  rintro x w1 ⟨p, rfl, hp, Q1, C1⟩
  clear CN
  have D2 : Below w1.heap.size w1 (w1.alloc (.cells #[.int .u8 120] 5 (1, 2))) := (Below.refl _ _).alloc (Nat.le_refl _) _
  have S2 : Sl (w1.alloc (.cells #[.int .u8 120] 5 (1, 2))) (some ⟨w1.heap.size, 0, none⟩) 1 1 [120] := sl_mark w1 120 (by omega)
  have CA := add_any _ p 1 noVotes (Q1.below D2) 2 (by omega) none none (some ⟨w1.heap.size, 0, none⟩) 0 0 0 0 1 1 [] [] [120] (Sl.nothing _) (Sl.nothing _) S2 (by omega) (by omega) (by omega)
  rw [show (⟨true, strOfNums [120], strOfNums [], strOfNums []⟩ : VT) = v2 from rfl, addV_a] at CA
  have B2 := C1.trans (D2.mono C1.size)
  go_wp2_with fail
  refine CA.mono ?_
  rintro x w2 ⟨rfl, Q2, G2⟩
  have B3 := grow_below B2 G2 hp
  clear CA Q1 C1 D2 S2 B2 G2
  have D3 : Below w2.heap.size w2 (w2.alloc (.cells #[.int .u8 121] 5 (1, 2))) := (Below.refl _ _).alloc (Nat.le_refl _) _
  have S3 : Sl (w2.alloc (.cells #[.int .u8 121] 5 (1, 2))) (some ⟨w2.heap.size, 0, none⟩) 1 1 [121] := sl_mark w2 121 (by omega)
  have CA := add_any _ p 1 (noVotes.set 1 v2) (Q2.below D3) 2 (by omega) none none (some ⟨w2.heap.size, 0, none⟩) 0 0 0 0 1 1 [] [] [121] (Sl.nothing _) (Sl.nothing _) S3 (by omega) (by omega) (by omega)
  rw [show (⟨true, strOfNums [121], strOfNums [], strOfNums []⟩ : VT) = v3 from rfl, addV_b] at CA
  have B4 := B3.trans (D3.mono B3.size)
  go_wp2_with fail
  refine CA.mono ?_
  rintro x w3 ⟨rfl, Q3, G3⟩
  have B5 := grow_below B4 G3 hp
  clear CA Q2 D3 S3 B3 B4 G3
  have E1 := n_any 1 w3
  have E2 := most_any 1 w3
  have E3 := weak_any 1 w3
  have E4 := prim_any 5 1 (by omega) w3
  rw [show nF 1 3 = 4 from rfl] at E1
  rw [show nF 1 2 = 3 from rfl] at E2
  rw [show nF 1 1 = 2 from rfl] at E3
  rw [show prF 5 1 = 2 from rfl] at E4
  have D4 : Below w3.heap.size w3 (w3.alloc (.cells #[.int .u8 120] 5 (1, 2))) := (Below.refl _ _).alloc (Nat.le_refl _) _
  have S4 : Sl (w3.alloc (.cells #[.int .u8 120] 5 (1, 2))) (some ⟨w3.heap.size, 0, none⟩) 1 1 [120] := sl_mark w3 120 (by omega)
  have CC := count_any _ p 1 (noVotes.set 1 v2) (Q3.below D4) (some ⟨w3.heap.size, 0, none⟩) 1 1 [120] S4
  rw [cntV_a] at CC
  have B6 := B5.trans (D4.mono B5.size)
  clear Q3 D4 S4 B5
  go_wp2_with (first
    | (go_at_call 9; refine E1.mono ?_; rintro e w' ⟨rfl, hw⟩; obtain rfl := hw.symm; clear hw)
    | (go_at_call 11; refine E2.mono ?_; rintro e w' ⟨rfl, hw⟩; obtain rfl := hw.symm; clear hw)
    | (go_at_call 13; refine E3.mono ?_; rintro e w' ⟨rfl, hw⟩; obtain rfl := hw.symm; clear hw)
    | (go_at_call 15; refine E4.mono ?_; rintro e w' ⟨rfl, hw⟩; obtain rfl := hw.symm; clear hw)
    | (go_at_call 21; refine CC.mono ?_; rintro e w5 ⟨rfl, C5⟩))
  go_ret
  exact ⟨rfl, B6.trans (C5.mono B6.size)⟩
end Go.Proofs.Ytghemebgkhopnaa

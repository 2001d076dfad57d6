/-
  The chapter's example: the sum of three bytes.
-/
import Derived.Test.YtihcgapecacneaaDoorSumOf
import Derived.Test.YtihcgapecacneaaDoorHex
import Derived.Lib.SlBytesConst
namespace Go.Proofs.YtihcgapecacneaaDoor
open Go.RowKit

def abcHex : List Int := [98, 97, 55, 56, 49, 54, 98, 102, 56, 102, 48, 49, 99, 102, 101, 97, 52, 49, 52, 49, 52, 48, 100, 101, 53, 100, 97, 101, 50, 50, 50, 51, 98, 48, 48, 51, 54, 49, 97, 51, 57, 54, 49, 55, 55, 97, 57, 99, 98, 52, 49, 48, 102, 102, 54, 49, 102, 50, 48, 48, 49, 53, 97, 100]

set_option maxRecDepth 100000 in
theorem abc_sum : hexL (sumL [97, 98, 99]) = abcHex := by kernel_rfl

theorem abc_str : strOfNums (hexL (sumL [97, 98, 99])) = strOfNums abcHex := by rw [abc_sum]

set_option maxRecDepth 100000 in
set_option maxHeartbeats 1000000 in
theorem alive_any (w : World) (hT : Tabs w) : Calls Tryd.prog 6 #[] w fun e w' => e = .returned (.bool true) ∧ Below w.heap.size w w' := by
  have h2 := hT.two
  have hcv := Lib.run_convert_bytes_const (P := Tryd.prog) w 26 5 #[.int .u8 97, .int .u8 98, .int .u8 99] 3 3 Tryd.underlying26 Tryd.underlying5
  have B1 : Below w.heap.size w (w.alloc (.cells #[.int .u8 97, .int .u8 98, .int .u8 99] 5 ((#[.int .u8 97, .int .u8 98, .int .u8 99] : Array Value).size, (#[.int .u8 97, .int .u8 98, .int .u8 99] : Array Value).size + 1))) := (Below.refl _ w).alloc (Nat.le_refl _) _
  have S1 : Sl (w.alloc (.cells #[.int .u8 97, .int .u8 98, .int .u8 99] 5 ((#[.int .u8 97, .int .u8 98, .int .u8 99] : Array Value).size, (#[.int .u8 97, .int .u8 98, .int .u8 99] : Array Value).size + 1))) (some ⟨w.heap.size, 0, none⟩) 3 3 [97, 98, 99] := by
    refine ⟨rfl, Nat.le_refl _, by decide, fun h => by simp at h, fun a ha i hi => ?_, fun x hx => ?_⟩
    · obtain rfl := Option.some.inj ha
      rw [add_at, Nat.zero_add, cell_of_row _ _ i _ _ _ (heap_alloc_new w _)]
      have : i = 0 ∨ i = 1 ∨ i = 2 := by omega
      rcases this with rfl | rfl | rfl <;> rfl
    · simp only [List.mem_cons, List.not_mem_nil, or_false] at hx
      omega
  have T1 := hT.below B1 h2
  generalize w.alloc (.cells #[.int .u8 97, .int .u8 98, .int .u8 99] 5 ((#[.int .u8 97, .int .u8 98, .int .u8 99] : Array Value).size, (#[.int .u8 97, .int .u8 98, .int .u8 99] : Array Value).size + 1)) = w1 at hcv B1 S1 T1
  have s1 := B1.size
  go_enter Tryd.func6, Tryd.ntmps6
  go_wp2_with (first
    | (go_at_call 12; refine (sum_any _ _ _ _ _ T1 S1).mono ?_; rintro e w2 ⟨v, rfl, own2, C2⟩; obtain ⟨ao, cap, rfl, S2, -⟩ := Sl.own own2 (sumL_byte _); have B2 : Below w.heap.size w w2 := B1.trans (C2.mono s1); have s2 := B2.size; clear own2 C2)
    | (go_at_call 11; refine (hex_any _ _ _ _ _ S2 (by decide)).mono ?_; rintro e w3 ⟨rfl, C3⟩; have B3 : Below w.heap.size w w3 := B2.trans (C3.mono s2); rw [abc_str]))
  go_ret
  refine ⟨?_, B3⟩
  have e : (strOfNums abcHex).toList = abcHex.map fun n => UInt8.ofNat n.toNat := by simp [strOfNums]
  show Ending.returned (Value.bool ((strOfNums abcHex).toList == _)) = _
  rw [e]
  rfl
end Go.Proofs.YtihcgapecacneaaDoor

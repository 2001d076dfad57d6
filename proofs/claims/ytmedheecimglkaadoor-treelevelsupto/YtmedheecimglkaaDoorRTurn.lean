/-
  The reference's turn and its tables.
-/
import Derived.Test.YtmedheecimglkaaDoorMix
import Derived.Test.YtmedheecimglkaaDoorTake2
import Derived.Deep.RegionHeld3
namespace Go.Proofs.YtmedheecimglkaaDoor
open Go.RowKit

theorem bor_comm (x y : Int) : bits .or .u32 x y = bits .or .u32 y x := by
  show IntKind.u32.wrap _ = IntKind.u32.wrap _
  rw [BitVec.or_comm]

set_option maxRecDepth 100000 in
set_option maxHeartbeats 1000000 in
theorem turn_2 (x : Int) (w : World) :
    Calls Tryd.prog 93 #[.int .u32 x, .int .u64 2] w fun e w' => e = .returned (.int .u32 (rl (-2) x)) ∧ w' = w := by
  go_enter Tryd.func93, Tryd.ntmps93
  go_wp2
  go_ret
  refine ⟨?_, rfl⟩
  show _ = Ending.returned (Value.int .u32 (bits .or .u32 (IntKind.u32.wrap (x * 2 ^ 30)) (x / 2 ^ 2)))
  rw [bor_comm]
  rfl

set_option maxRecDepth 100000 in
set_option maxHeartbeats 1000000 in
theorem turn_6 (x : Int) (w : World) :
    Calls Tryd.prog 93 #[.int .u32 x, .int .u64 6] w fun e w' => e = .returned (.int .u32 (rl (-6) x)) ∧ w' = w := by
  go_enter Tryd.func93, Tryd.ntmps93
  go_wp2
  go_ret
  refine ⟨?_, rfl⟩
  show _ = Ending.returned (Value.int .u32 (bits .or .u32 (IntKind.u32.wrap (x * 2 ^ 26)) (x / 2 ^ 6)))
  rw [bor_comm]
  rfl

set_option maxRecDepth 100000 in
set_option maxHeartbeats 1000000 in
theorem turn_7 (x : Int) (w : World) :
    Calls Tryd.prog 93 #[.int .u32 x, .int .u64 7] w fun e w' => e = .returned (.int .u32 (rl (-7) x)) ∧ w' = w := by
  go_enter Tryd.func93, Tryd.ntmps93
  go_wp2
  go_ret
  refine ⟨?_, rfl⟩
  show _ = Ending.returned (Value.int .u32 (bits .or .u32 (IntKind.u32.wrap (x * 2 ^ 25)) (x / 2 ^ 7)))
  rw [bor_comm]
  rfl

set_option maxRecDepth 100000 in
set_option maxHeartbeats 1000000 in
theorem turn_11 (x : Int) (w : World) :
    Calls Tryd.prog 93 #[.int .u32 x, .int .u64 11] w fun e w' => e = .returned (.int .u32 (rl (-11) x)) ∧ w' = w := by
  go_enter Tryd.func93, Tryd.ntmps93
  go_wp2
  go_ret
  refine ⟨?_, rfl⟩
  show _ = Ending.returned (Value.int .u32 (bits .or .u32 (IntKind.u32.wrap (x * 2 ^ 21)) (x / 2 ^ 11)))
  rw [bor_comm]
  rfl

set_option maxRecDepth 100000 in
set_option maxHeartbeats 1000000 in
theorem turn_13 (x : Int) (w : World) :
    Calls Tryd.prog 93 #[.int .u32 x, .int .u64 13] w fun e w' => e = .returned (.int .u32 (rl (-13) x)) ∧ w' = w := by
  go_enter Tryd.func93, Tryd.ntmps93
  go_wp2
  go_ret
  refine ⟨?_, rfl⟩
  show _ = Ending.returned (Value.int .u32 (bits .or .u32 (IntKind.u32.wrap (x * 2 ^ 19)) (x / 2 ^ 13)))
  rw [bor_comm]
  rfl

set_option maxRecDepth 100000 in
set_option maxHeartbeats 1000000 in
theorem turn_17 (x : Int) (w : World) :
    Calls Tryd.prog 93 #[.int .u32 x, .int .u64 17] w fun e w' => e = .returned (.int .u32 (rl (-17) x)) ∧ w' = w := by
  go_enter Tryd.func93, Tryd.ntmps93
  go_wp2
  go_ret
  refine ⟨?_, rfl⟩
  show _ = Ending.returned (Value.int .u32 (bits .or .u32 (IntKind.u32.wrap (x * 2 ^ 15)) (x / 2 ^ 17)))
  rw [bor_comm]
  rfl

set_option maxRecDepth 100000 in
set_option maxHeartbeats 1000000 in
theorem turn_18 (x : Int) (w : World) :
    Calls Tryd.prog 93 #[.int .u32 x, .int .u64 18] w fun e w' => e = .returned (.int .u32 (rl (-18) x)) ∧ w' = w := by
  go_enter Tryd.func93, Tryd.ntmps93
  go_wp2
  go_ret
  refine ⟨?_, rfl⟩
  show _ = Ending.returned (Value.int .u32 (bits .or .u32 (IntKind.u32.wrap (x * 2 ^ 14)) (x / 2 ^ 18)))
  rw [bor_comm]
  rfl

set_option maxRecDepth 100000 in
set_option maxHeartbeats 1000000 in
theorem turn_19 (x : Int) (w : World) :
    Calls Tryd.prog 93 #[.int .u32 x, .int .u64 19] w fun e w' => e = .returned (.int .u32 (rl (-19) x)) ∧ w' = w := by
  go_enter Tryd.func93, Tryd.ntmps93
  go_wp2
  go_ret
  refine ⟨?_, rfl⟩
  show _ = Ending.returned (Value.int .u32 (bits .or .u32 (IntKind.u32.wrap (x * 2 ^ 13)) (x / 2 ^ 19)))
  rw [bor_comm]
  rfl

set_option maxRecDepth 100000 in
set_option maxHeartbeats 1000000 in
theorem turn_22 (x : Int) (w : World) :
    Calls Tryd.prog 93 #[.int .u32 x, .int .u64 22] w fun e w' => e = .returned (.int .u32 (rl (-22) x)) ∧ w' = w := by
  go_enter Tryd.func93, Tryd.ntmps93
  go_wp2
  go_ret
  refine ⟨?_, rfl⟩
  show _ = Ending.returned (Value.int .u32 (bits .or .u32 (IntKind.u32.wrap (x * 2 ^ 10)) (x / 2 ^ 22)))
  rw [bor_comm]
  rfl

set_option maxRecDepth 100000 in
set_option maxHeartbeats 1000000 in
theorem turn_25 (x : Int) (w : World) :
    Calls Tryd.prog 93 #[.int .u32 x, .int .u64 25] w fun e w' => e = .returned (.int .u32 (rl (-25) x)) ∧ w' = w := by
  go_enter Tryd.func93, Tryd.ntmps93
  go_wp2
  go_ret
  refine ⟨?_, rfl⟩
  show _ = Ending.returned (Value.int .u32 (bits .or .u32 (IntKind.u32.wrap (x * 2 ^ 7)) (x / 2 ^ 25)))
  rw [bor_comm]
  rfl

/-- turn, by its count. -/
def tl2 (k : Int) (x : Int) : Int := rl (-k) x
theorem turn_at (x k : Int) (w : World) (hk : k = 2 ∨ k = 6 ∨ k = 7 ∨ k = 11 ∨ k = 13 ∨ k = 17 ∨ k = 18 ∨ k = 19 ∨ k = 22 ∨ k = 25) :
    Calls Tryd.prog 93 #[.int .u32 x, .int .u64 k] w fun e w' => e = .returned (.int .u32 (tl2 k x)) ∧ w' = w := by
  rcases hk with rfl | rfl | rfl | rfl | rfl | rfl | rfl | rfl | rfl | rfl
  · exact turn_2 x w
  · exact turn_6 x w
  · exact turn_7 x w
  · exact turn_11 x w
  · exact turn_13 x w
  · exact turn_17 x w
  · exact turn_18 x w
  · exact turn_19 x w
  · exact turn_22 x w
  · exact turn_25 x w

end Go.Proofs.YtmedheecimglkaaDoor

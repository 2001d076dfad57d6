/-
  For every key the call of the law CellBytes returns true, and the key reads afterwards as before; no condition.
-/
import Derived.Test.YtepkjnklapamjaaRows
import Derived.Test.YtepkjnklapamjaaBytesLaw
import Derived.Test.YtepkjnklapamjaaRowIn
import Derived.WalkKit
import Derived.ProofKit
import Derived.OpenShut
import Derived.ShutString
import Derived.ChangeOld
import Derived.Below
import Derived.Deep.Slices
import Derived.Lib.SmallJoins
namespace Go.Proofs.Ytepkjnklapamjaa.cellBytes
open Go.ChangeShapes Go.WideShapes Go.ChangeAt Go.RowKit
open Go.ChangeMaps (open_string shut_string)
set_option linter.unusedVariables false

theorem own : ownKnob Try.prog.godebug = none := by kernel_rfl
theorem laidOut : laidOutB Try.prog = true := by kernel_rfl

set_option maxRecDepth 100000 in
set_option maxHeartbeats 1000000 in
theorem lifted (os : Os) (started : os.Started) (H : Type) (enc : TypeId × Value → H) :
    ReturnsInHanded {} Try.checked os 3 .any (Rows.cellBytesSpec.pre6 enc Try.prog Try.f3 Rows.cellBytesRow.domain false) (Rows.cellBytesSpec.post enc Try.prog Try.f3 false true false false) := by
  refine returnsInHanded_of_change (C := Try.checked) own started (by kernel_rfl) Try.func3
    (ChangeSpec.witness6 (enc := enc) (C := Try.checked) false ⟨#[], #[.agg #[.string ByteArray.empty, .string ByteArray.empty, .string ByteArray.empty, .int .u64 0]], []⟩ 8 (by kernel_rfl) (by kernel_rfl) (by kernel_rfl) (by kernel_rfl)) ?_
  intro W base args ds gs before hval0 hW hcnd _
  have hval : ∀ (j : Nat) t v, Try.f3.params[j]? = some t → args[j]? = some v → Value.okWide Try.prog W .any base t v := hval0
  have hW' := hW
  obtain ⟨p, q, hA0, hV, rfl, hfz, hnd⟩ := hW
  have hA : DataW.TrodAll enc Try.prog W 0 (fun _ => true) true Try.f3.params.toList args.toList ds p := hA0
  rw [Try.params3] at hA hval
  obtain ⟨v0, vs0, d0, ds0, p0, q0, hargs, rfl, rfl, h0, r0⟩ := trodAll_cons hA
  obtain ⟨rfl, rfl, rfl⟩ := trodAll_nil r0
  obtain rfl : args = #[v0] := by cases args; simp_all
  obtain ⟨rfl, rfl⟩ := trodVars_none hV
  have k0 := h0
  have lt0 : ∀ x ∈ p0, x.block < W.heap.size := by obtain ⟨m, hm⟩ := k0; exact DataW.trod_lt m _ _ _ hm
  obtain ⟨e00, e01, e02, e03, y00, y01, y02, y03, m0, rfl, rfl, rfl, t00, t01, t02, t03⟩ := Joins.open_agg4 Try.underlying24 (by kernel_rfl) (by kernel_rfl) (hval 0 24 v0 rfl rfl) h0
  obtain ⟨kr0, g00, rfl, w00⟩ := DataW.trod_string Try.underlying9 t00
  obtain ⟨kf0, g01, rfl, w01⟩ := DataW.trod_string Try.underlying9 t01
  obtain ⟨kq0, g02, rfl, w02⟩ := DataW.trod_string Try.underlying9 t02
  obtain ⟨z0, g03, rfl, w03⟩ := DataW.trod_int Try.underlying22 t03
  obtain rfl : e00 = .string kr0 := by simpa using g00
  obtain rfl : e01 = .string kf0 := by simpa using g01
  obtain rfl : e02 = .string kq0 := by simpa using g02
  obtain rfl : e03 = .int .u64 z0 := by simpa using g03
  have n0 : 0 ≤ z0 ∧ z0 < 18446744073709551616 := by
    have := w03
    simp [Lit.wf, IntKind.min, IntKind.max, IntKind.signed, IntKind.bits] at this
    omega
  obtain ⟨kt0, rfl⟩ : ∃ t : Nat, z0 = t := ⟨z0.toNat, by omega⟩
  have ok0 : KA.ok ⟨kr0, kf0, kq0, kt0⟩ := ⟨w00, w01, w02, by show kt0 < _; omega⟩
  clear hA0 hval0
  refine (cellBytes_any W ⟨kr0, kf0, kq0, kt0⟩ ok0).mono fun e W' ⟨he, bel⟩ => ?_
  subst he
  exact ⟨_, rfl, _, _, _, [], _, [], hW', trodAll_mk1 (shut_bool Try.underlying4 _), (trodAll_cons_mk (Below.trod laidOut (by kernel_rfl) (of_decide_eq_true (by kernel_rfl)) k0 bel lt0) trodAll_mk0), rfl, bel.frame _, fun h => by cases h⟩

theorem over : Rows.cellBytesRow.holds Try.pinned (OpenSpec.ofChange Rows.cellBytesSpec) :=
  OpenClaim.holds_of_wide 3 Try.f3 rfl rfl rfl rfl rfl rfl rfl ⟨rfl, rfl, rfl, rfl, rfl⟩ rfl rfl rfl rfl rfl (by kernel_rfl) Try.func3 (by kernel_rfl)
    (of_decide_eq_true (by kernel_rfl)) (by unfold Func.isWrapper; first | (rw [if_pos (by decide +kernel)]; kernel_rfl) | (rw [if_neg (by decide +kernel)]; exact ⟨rfl, rfl⟩))
    (fun os started H enc _ => lifted os started H enc)

theorem proved : Rows.CellBytesSaid := over
end Go.Proofs.Ytepkjnklapamjaa.cellBytes

namespace Go.Proofs.Ytepkjnklapamjaa
open Go
theorem cellBytes_holds : Rows.CellBytesSaid := cellBytes.proved
end Go.Proofs.Ytepkjnklapamjaa
#print axioms Go.Proofs.Ytepkjnklapamjaa.cellBytes_holds

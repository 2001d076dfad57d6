/-
  For every three keys the call of the law CellColumns returns true, and the keys read afterwards as before; no condition.
-/
import Derived.Test.YtepkjnklapamjaaRows
import Derived.Test.YtepkjnklapamjaaColumnsLaw
import Derived.Test.YtepkjnklapamjaaRowIn
import Derived.WalkKit
import Derived.ProofKit
import Derived.OpenShut
import Derived.ShutString
import Derived.ChangeOld
import Derived.Below
import Derived.Deep.Slices
import Derived.Lib.SmallJoins
namespace Go.Proofs.Ytepkjnklapamjaa.cellColumns
open Go.ChangeShapes Go.WideShapes Go.ChangeAt Go.RowKit
open Go.ChangeMaps (open_string shut_string)
set_option linter.unusedVariables false

theorem own : ownKnob Try.prog.godebug = none := by kernel_rfl
theorem laidOut : laidOutB Try.prog = true := by kernel_rfl

set_option maxRecDepth 100000 in
set_option maxHeartbeats 1000000 in
theorem lifted (os : Os) (started : os.Started) (H : Type) (enc : TypeId × Value → H) :
    ReturnsInHanded {} Try.checked os 8 .any (Rows.cellColumnsSpec.pre6 enc Try.prog Try.f8 Rows.cellColumnsRow.domain false) (Rows.cellColumnsSpec.post enc Try.prog Try.f8 false true false false) := by
  refine returnsInHanded_of_change (C := Try.checked) own started (by kernel_rfl) Try.func8
    (ChangeSpec.witness6 (enc := enc) (C := Try.checked) false ⟨#[], #[.agg #[.string ByteArray.empty, .string ByteArray.empty, .string ByteArray.empty, .int .u64 0], .agg #[.string ByteArray.empty, .string ByteArray.empty, .string ByteArray.empty, .int .u64 0], .agg #[.string ByteArray.empty, .string ByteArray.empty, .string ByteArray.empty, .int .u64 0]], []⟩ 8 (by kernel_rfl) (by kernel_rfl) (by kernel_rfl) (by kernel_rfl)) ?_
  intro W base args ds gs before hval0 hW hcnd _
  have hval : ∀ (j : Nat) t v, Try.f8.params[j]? = some t → args[j]? = some v → Value.okWide Try.prog W .any base t v := hval0
  have hW' := hW
  obtain ⟨p, q, hA0, hV, rfl, hfz, hnd⟩ := hW
  have hA : DataW.TrodAll enc Try.prog W 0 (fun _ => true) true Try.f8.params.toList args.toList ds p := hA0
  rw [Try.params8] at hA hval
  obtain ⟨v0, vs0, d0, ds0, p0, q0, hargs, rfl, rfl, h0, r0⟩ := trodAll_cons hA
  obtain ⟨v1, vs1, d1, ds1, p1, q1, rfl, rfl, rfl, h1, r1⟩ := trodAll_cons r0
  obtain ⟨v2, vs2, d2, ds2, p2, q2, rfl, rfl, rfl, h2, r2⟩ := trodAll_cons r1
  obtain ⟨rfl, rfl, rfl⟩ := trodAll_nil r2
  obtain rfl : args = #[v0, v1, v2] := by cases args; simp_all
  obtain ⟨rfl, rfl⟩ := trodVars_none hV
  have k0 := h0
  have lt0 : ∀ x ∈ p0, x.block < W.heap.size := by obtain ⟨m, hm⟩ := k0; exact DataW.trod_lt m _ _ _ hm
  obtain ⟨e00, e01, e02, e03, y00, y01, y02, y03, m0, rfl, rfl, rfl, t00, t01, t02, t03⟩ := Joins.open_agg4 Try.underlying24 (by kernel_rfl) (by kernel_rfl) (hval 0 24 v0 rfl rfl) h0
  obtain ⟨kr0, g00, rfl, w00⟩ := DataW.trod_string Try.underlying9 t00
  obtain ⟨kf0, g01, rfl, w01⟩ := DataW.trod_string Try.underlying9 t01
  obtain ⟨kq0, g02, rfl, w02⟩ := DataW.trod_string Try.underlying9 t02
  obtain ⟨z0, g03, rfl, w03⟩ := DataW.trod_int Try.underlying22 t03
  obtain rfl : e00 = .string kr0 := by simpa using g00
  obtain rfl : e01 = .string kf0 := by simpa using g01
  obtain rfl : e02 = .string kq0 := by simpa using g02
  obtain rfl : e03 = .int .u64 z0 := by simpa using g03
  have n0 : 0 ≤ z0 ∧ z0 < 18446744073709551616 := by
    have := w03
    simp [Lit.wf, IntKind.min, IntKind.max, IntKind.signed, IntKind.bits] at this
    omega
  obtain ⟨kt0, rfl⟩ : ∃ t : Nat, z0 = t := ⟨z0.toNat, by omega⟩
  have ok0 : KA.ok ⟨kr0, kf0, kq0, kt0⟩ := ⟨w00, w01, w02, by show kt0 < _; omega⟩
  have k1 := h1
  have lt1 : ∀ x ∈ p1, x.block < W.heap.size := by obtain ⟨m, hm⟩ := k1; exact DataW.trod_lt m _ _ _ hm
  obtain ⟨e10, e11, e12, e13, y10, y11, y12, y13, m1, rfl, rfl, rfl, t10, t11, t12, t13⟩ := Joins.open_agg4 Try.underlying24 (by kernel_rfl) (by kernel_rfl) (hval 1 24 v1 rfl rfl) h1
  obtain ⟨kr1, g10, rfl, w10⟩ := DataW.trod_string Try.underlying9 t10
  obtain ⟨kf1, g11, rfl, w11⟩ := DataW.trod_string Try.underlying9 t11
  obtain ⟨kq1, g12, rfl, w12⟩ := DataW.trod_string Try.underlying9 t12
  obtain ⟨z1, g13, rfl, w13⟩ := DataW.trod_int Try.underlying22 t13
  obtain rfl : e10 = .string kr1 := by simpa using g10
  obtain rfl : e11 = .string kf1 := by simpa using g11
  obtain rfl : e12 = .string kq1 := by simpa using g12
  obtain rfl : e13 = .int .u64 z1 := by simpa using g13
  have n1 : 0 ≤ z1 ∧ z1 < 18446744073709551616 := by
    have := w13
    simp [Lit.wf, IntKind.min, IntKind.max, IntKind.signed, IntKind.bits] at this
    omega
  obtain ⟨kt1, rfl⟩ : ∃ t : Nat, z1 = t := ⟨z1.toNat, by omega⟩
  have ok1 : KA.ok ⟨kr1, kf1, kq1, kt1⟩ := ⟨w10, w11, w12, by show kt1 < _; omega⟩
  have k2 := h2
  have lt2 : ∀ x ∈ p2, x.block < W.heap.size := by obtain ⟨m, hm⟩ := k2; exact DataW.trod_lt m _ _ _ hm
  obtain ⟨e20, e21, e22, e23, y20, y21, y22, y23, m2, rfl, rfl, rfl, t20, t21, t22, t23⟩ := Joins.open_agg4 Try.underlying24 (by kernel_rfl) (by kernel_rfl) (hval 2 24 v2 rfl rfl) h2
  obtain ⟨kr2, g20, rfl, w20⟩ := DataW.trod_string Try.underlying9 t20
  obtain ⟨kf2, g21, rfl, w21⟩ := DataW.trod_string Try.underlying9 t21
  obtain ⟨kq2, g22, rfl, w22⟩ := DataW.trod_string Try.underlying9 t22
  obtain ⟨z2, g23, rfl, w23⟩ := DataW.trod_int Try.underlying22 t23
  obtain rfl : e20 = .string kr2 := by simpa using g20
  obtain rfl : e21 = .string kf2 := by simpa using g21
  obtain rfl : e22 = .string kq2 := by simpa using g22
  obtain rfl : e23 = .int .u64 z2 := by simpa using g23
  have n2 : 0 ≤ z2 ∧ z2 < 18446744073709551616 := by
    have := w23
    simp [Lit.wf, IntKind.min, IntKind.max, IntKind.signed, IntKind.bits] at this
    omega
  obtain ⟨kt2, rfl⟩ : ∃ t : Nat, z2 = t := ⟨z2.toNat, by omega⟩
  have ok2 : KA.ok ⟨kr2, kf2, kq2, kt2⟩ := ⟨w20, w21, w22, by show kt2 < _; omega⟩
  clear hA0 hval0
  refine (cellColumns_any W ⟨kr0, kf0, kq0, kt0⟩ ⟨kr1, kf1, kq1, kt1⟩ ⟨kr2, kf2, kq2, kt2⟩ ok0 ok1 ok2).mono fun e W' ⟨he, bel⟩ => ?_
  subst he
  exact ⟨_, rfl, _, _, _, [], _, [], hW', trodAll_mk1 (shut_bool Try.underlying4 _), (trodAll_cons_mk (Below.trod laidOut (by kernel_rfl) (of_decide_eq_true (by kernel_rfl)) k0 bel lt0) (trodAll_cons_mk (Below.trod laidOut (by kernel_rfl) (of_decide_eq_true (by kernel_rfl)) k1 bel lt1) (trodAll_cons_mk (Below.trod laidOut (by kernel_rfl) (of_decide_eq_true (by kernel_rfl)) k2 bel lt2) trodAll_mk0))), rfl, bel.frame _, fun h => by cases h⟩

theorem over : Rows.cellColumnsRow.holds Try.pinned (OpenSpec.ofChange Rows.cellColumnsSpec) :=
  OpenClaim.holds_of_wide 8 Try.f8 rfl rfl rfl rfl rfl rfl rfl ⟨rfl, rfl, rfl, rfl, rfl⟩ rfl rfl rfl rfl rfl (by kernel_rfl) Try.func8 (by kernel_rfl)
    (of_decide_eq_true (by kernel_rfl)) (by unfold Func.isWrapper; first | (rw [if_pos (by decide +kernel)]; kernel_rfl) | (rw [if_neg (by decide +kernel)]; exact ⟨rfl, rfl⟩))
    (fun os started H enc _ => lifted os started H enc)

theorem proved : Rows.CellColumnsSaid := over
end Go.Proofs.Ytepkjnklapamjaa.cellColumns

namespace Go.Proofs.Ytepkjnklapamjaa
open Go
theorem cellColumns_holds : Rows.CellColumnsSaid := cellColumns.proved
end Go.Proofs.Ytepkjnklapamjaa
#print axioms Go.Proofs.Ytepkjnklapamjaa.cellColumns_holds

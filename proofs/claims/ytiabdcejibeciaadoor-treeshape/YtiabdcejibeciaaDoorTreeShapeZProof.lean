/-
  For every items: in the tree of them a node's keys rise and are of its level, kids' levels are below it, all keys stand between those about them, and as many are there as the tree has (TreeShape). No condition.
-/
import Derived.Test.YtiabdcejibeciaaDoorRows
import Derived.Test.YtiabdcejibeciaaDoorTreeShapeZ30
import Derived.Test.YtiabdcejibeciaaDoorTie
import Derived.Test.YtiabdcejibeciaaDoorCards
import Derived.LaidMore
import Derived.Stop.Joined
import Derived.SevenTiedAt
import Derived.WalkKit
import Derived.ProofKit
import Derived.OpenShut
import Derived.ShutString
import Derived.ChangeOld
import Derived.Below
import Derived.Deep.Slices
import Derived.Deep.DeepHandedRow
import Derived.Lib.SmallJoins
namespace Go.Proofs.YtiabdcejibeciaaDoor.treeShape
open Go.ChangeShapes Go.WideShapes Go.ChangeAt Go.RowKit
set_option linter.unusedVariables false

theorem own : ownKnob Tryd.prog.godebug = none := by kernel_rfl
theorem laidOut : laidOutB Tryd.prog = true := by kernel_rfl

set_option maxRecDepth 100000 in
set_option maxHeartbeats 1000000 in
theorem contract (H : Type) (enc : TypeId × Value → H) (W : World) (base : Nat) (args : Array Value) (ds gs : List (DataW H)) (before : List MemPlace)
    (hval : ∀ (j : Nat) t v, Tryd.f5.params[j]? = some t → args[j]? = some v → Value.okWide Tryd.prog W .any base t v)
    (hW : DataW.Whole enc Tryd.prog Tryd.f5.params.toList Rows.treeShapeSpec.vars false W args.toList ds gs before) (hL : laidMetH Tryd.prog laidL W) :
    Calls Tryd.prog 5 args W fun e W' => ∃ v, e = .returned v ∧ Rows.treeShapeSpec.post enc Tryd.prog Tryd.f5 false true false false W args v W' := by
  have hW' := hW
  obtain ⟨p, q, hA0, hV, rfl, hfz, hnd⟩ := hW
  have hA : DataW.TrodAll enc Tryd.prog W 0 (fun _ => true) true Tryd.f5.params.toList args.toList ds p := hA0
  rw [Tryd.params5] at hA hval
  obtain ⟨v0, vs0, d0, ds0, p0, q0, hargs, rfl, rfl, h0, r0⟩ := trodAll_cons hA
  obtain ⟨rfl, rfl, rfl⟩ := trodAll_nil r0
  obtain rfl : args = #[v0] := by cases args; simp_all
  obtain ⟨rfl, rfl⟩ := trodVars_none hV
  obtain ⟨a0, len0, cap0, rfl⟩ := okWide_slice Tryd.underlying22 (hval 0 22 v0 rfl rfl)
  have k0 := h0
  have lt0 : ∀ x ∈ p0, x.block < W.heap.size := by obtain ⟨m, hm⟩ := k0; exact DataW.trod_lt m _ _ _ hm
  obtain ⟨x0, s0⟩ : ∃ its, IL W a0 len0 cap0 its := by
    obtain ⟨fuel, hf⟩ := h0
    rcases Deep.open_slice_struct Tryd.underlying22 Tryd.underlying28 (by kernel_rfl) (by
      intro i f hf
      rcases i with _ | _ | i
      · obtain rfl := Option.some.inj hf; exact ⟨rfl, by kernel_rfl⟩
      · obtain rfl := Option.some.inj hf; exact ⟨rfl, by kernel_rfl⟩
      · simp at hf) hf with hcs | ⟨x, l, c, m, k, hcs, hl, hm, hlm, hcell⟩
    · simp [Value.cells] at hcs
      obtain ⟨rfl, rfl, rfl⟩ := hcs
      exact ⟨[], IL.nothing W⟩
    · simp [Value.cells] at hcs
      obtain ⟨rfl, rfl, rfl⟩ := hcs
      refine IL.make hl hm fun i hi => ?_
      obtain ⟨v0, y0, e0, t0⟩ := hcell i (by omega) 0 _ rfl
      obtain ⟨v1, y1, e1, t1⟩ := hcell i (by omega) 1 _ rfl
      obtain ⟨P0, c0, s0⟩ : ∃ q : Part, v0 = q.val ∧ Sl W q.ao q.n q.cap q.xs := by
        rcases open_ints Tryd.underlying26 Tryd.underlying5 (by kernel_rfl) t0 with ⟨hcs, _⟩ | ⟨y, l, c, zs, hcs, _, hl, hm, hz, _, hc, hwz⟩
        · simp at hcs
          exact ⟨⟨none, 0, 0, []⟩, by rw [hcs]; rfl, Sl.nothing W⟩
        · simp at hcs
          exact ⟨⟨some y, l, c, zs.take l⟩, by rw [hcs]; rfl, Sl.row (zs := zs) (.inr ⟨_, rfl, hl, hm, by simpa using hz, hc, hwz⟩)⟩
      obtain ⟨P1, c1, s1⟩ : ∃ q : Part, v1 = q.val ∧ Sl W q.ao q.n q.cap q.xs := by
        rcases open_ints Tryd.underlying26 Tryd.underlying5 (by kernel_rfl) t1 with ⟨hcs, _⟩ | ⟨y, l, c, zs, hcs, _, hl, hm, hz, _, hc, hwz⟩
        · simp at hcs
          exact ⟨⟨none, 0, 0, []⟩, by rw [hcs]; rfl, Sl.nothing W⟩
        · simp at hcs
          exact ⟨⟨some y, l, c, zs.take l⟩, by rw [hcs]; rfl, Sl.row (zs := zs) (.inr ⟨_, rfl, hl, hm, by simpa using hz, hc, hwz⟩)⟩
      exact ⟨⟨P0, P1⟩, ⟨by rw [← c0]; exact e0, by rw [← c1]; exact e1⟩, s0, s1⟩
  clear hA0
  refine (treeShape_any W a0 len0 cap0 x0 s0 (tabs_of hL)).mono fun e W' ⟨he, bel⟩ => ?_
  subst he
  exact ⟨_, rfl, _, _, _, [], _, [], hW', trodAll_mk1 (shut_bool Tryd.underlying4 _), (trodAll_cons_mk (Below.trod laidOut (by kernel_rfl) (of_decide_eq_true (by kernel_rfl)) k0 bel lt0) trodAll_mk0), rfl, bel.frame _, fun h => by cases h⟩

theorem reads (os : Os) {H : Type} (enc : TypeId × Value → H) : ∃ places, DataW.whole enc Tryd.prog ((World.laidAll Tryd.prog os laidL).forCall (fun _ _ => 0) ⟨#[], #[.slice none 0 0], []⟩).memory Tryd.f5.params.toList Rows.treeShapeSpec.vars false (#[.slice none 0 0] : Array Value).toList 8 = some ([.nil], [], places) :=
  ⟨[], by kernel_rfl⟩

set_option maxRecDepth 100000 in
theorem lifted (os : Os) (started : os.Started) (H : Type) (enc : TypeId × Value → H) (F : Stop.Interp) :
    ReturnsInHanded {} Tryd.checked os 5 .any ((OpenSpec.ofChange Rows.treeShapeSpec).preRow enc Tryd.prog Tryd.f5 Rows.treeShapeRow.domain false Rows.treeShapeRow.laid) (((OpenSpec.ofChange Rows.treeShapeSpec).at F).post enc Tryd.prog Tryd.f5 false true false false) := by
  obtain ⟨places, hx⟩ := reads os enc
  have hok : Input.okWideB Tryd.prog ((World.laidAll Tryd.prog os laidL).forCall (fun _ _ => 0) ⟨#[], #[.slice none 0 0], []⟩) 5 ⟨#[], #[.slice none 0 0], []⟩ = true := by kernel_rfl
  refine returnsInHanded_of_row (C := Tryd.checked) (s := (OpenSpec.ofChange Rows.treeShapeSpec)) own started (by kernel_rfl) Tryd.func5
    ⟨World.laidAll Tryd.prog os laidL, fun _ _ => 0, ⟨#[], #[.slice none 0 0], []⟩, World.laidAll_os _ _ _, World.shaped_of_ZipB (by kernel_rfl) (by kernel_rfl), (Input.okWide_of_okWideB (base := 0) hok).1, (Input.okWide_of_okWideB hok).2,
      OpenSpec.preRow_of_cond 8 hx (by kernel_rfl) (fun k hk => by cases hk) (by kernel_rfl) (all_met os _), by
        simp only [Assume.holds]
        exact ⟨by simp, by simp, fun _ => Modest.zero, by simp, by simp⟩⟩ ?_
  intro W base args ds gs before hval hW _ hc _ hL _ _
  exact contract H enc W base args ds gs before hval hW hL

theorem proved : Rows.TreeShapeSaid :=
  OpenClaim.holds_of_cond 5 Tryd.f5 rfl rfl rfl rfl rfl rfl rfl ⟨rfl, rfl, rfl, rfl, rfl⟩ rfl rfl rfl rfl rfl (by kernel_rfl) Tryd.func5 (by kernel_rfl)
    (of_decide_eq_true (by kernel_rfl)) (by unfold Func.isWrapper; first | (rw [if_pos (by decide +kernel)]; kernel_rfl) | (rw [if_neg (by decide +kernel)]; exact ⟨rfl, rfl⟩))
    (fun os started H enc _ F => by rw [OpenClaim.pre_eq_preRow]; exact lifted os started H enc F)

theorem plain (f : FuncId) (fn : Func) (hf : Tryd.pinned.checked.prog.funcNamed "bulwark/bulwarklaw07.TreeShape" = some f) (hfn : Tryd.pinned.checked.prog.funcs[f]? = some fn) :
    false = Tryd.pinned.checked.prog.looks [] ∧ ∀ (j : Nat) t, fn.params[j]? = some t → Tryd.pinned.checked.prog.wantsStandIn t = false := by
  obtain rfl : f = 5 := Option.some.inj ((show Tryd.prog.funcNamed "bulwark/bulwarklaw07.TreeShape" = some 5 by kernel_rfl).symm.trans hf) |>.symm
  obtain rfl : fn = Tryd.f5 := (Option.some.inj (Tryd.func5.symm.trans hfn)).symm
  refine ⟨by kernel_rfl, fun j t ht => ?_⟩
  rw [Tryd.params5] at ht
  have hm : t ∈ [22] := by simpa using Array.mem_of_getElem? ht
  have hall : ([22].all fun u => !Tryd.prog.wantsStandIn u) = true := by kernel_rfl
  exact (show Tryd.prog.wantsStandIn t = false by simpa using List.all_eq_true.1 hall t hm)
end Go.Proofs.YtiabdcejibeciaaDoor.treeShape

namespace Go.Proofs.YtiabdcejibeciaaDoor
open Go
theorem treeShape_holds : Rows.TreeShapeCardSaid :=
  Claim7.holds_tied_plain_at .later [] _ _ _ _ treeShape.proved (fun _ h => by cases h) (by kernel_rfl) (fun _ h => by cases h) treeShape_row_tie rfl ⟨rfl, rfl⟩ (by kernel_rfl) rfl treeShape.plain (by kernel_rfl)
end Go.Proofs.YtiabdcejibeciaaDoor
#print axioms Go.Proofs.YtiabdcejibeciaaDoor.treeShape_holds

/-
  SealIdeal: of a book that is not real nothing is ever forged.
-/
import Derived.Test.YtkncfjokkojfpaaDoorRows
import Derived.Test.YtkncfjokkojfpaaDoorIdealS
import Derived.Test.YtkncfjokkojfpaaDoorLaid
import Derived.Test.YtkncfjokkojfpaaDoorTie
import Derived.Test.YtkncfjokkojfpaaDoorCards
import Derived.LaidMore
import Derived.Stop.Joined
import Derived.SevenTiedAt
import Derived.Test.YtkncfjokkojfpaaDoorRowIn
import Derived.WalkKit
import Derived.ProofKit
import Derived.OpenShut
import Derived.ShutString
import Derived.ChangeOld
import Derived.Below
import Derived.Deep.Slices
namespace Go.Proofs.YtkncfjokkojfpaaDoor.sealIdeal
open Go.ChangeShapes Go.WideShapes Go.ChangeAt Go.RowKit
open Go.ChangeMaps (open_string shut_string)
set_option linter.unusedVariables false

theorem own : ownKnob Tryd.prog.godebug = none := by kernel_rfl
theorem laidOut : laidOutB Tryd.prog = true := by kernel_rfl

set_option maxRecDepth 100000 in
theorem lifted (os : Os) (started : os.Started) (H : Type) (enc : TypeId × Value → H) :
    ReturnsInHanded {} Tryd.checked os 5 .any (fun w args => (Rows.sealIdealSpec.pre enc Tryd.prog Tryd.f5 [] false w args ∧ laidMetH Tryd.prog laidL w) ∧ sizedMet enc Tryd.prog Tryd.f5 (OpenSpec.ofChange Rows.sealIdealSpec) false w args) (Rows.sealIdealSpec.post enc Tryd.prog Tryd.f5 false true false false) := by
  refine returnsInHanded_of_change_and (C := Tryd.checked) (X := fun w _ => laidMetH Tryd.prog laidL w) (fun _ _ _ hh h => h.of_heap hh) own started (by kernel_rfl) Tryd.func5
    (ChangeSpec.witness_shaped (enc := enc) (C := Tryd.checked) (os := os) (X := fun w _ => laidMetH Tryd.prog laidL w) false (World.doorLaid Tryd.prog 400 os) #[.slice none 0 0, .slice none 0 0] 8 rfl (World.shaped_of_RefB (by kernel_rfl) (by kernel_rfl)) (by kernel_rfl) (by kernel_rfl) (by kernel_rfl) (door_met os _)) ?_
  intro W base args ds gs before hval0 hW _ _ hL _
  have hval : ∀ (j : Nat) t v, Tryd.f5.params[j]? = some t → args[j]? = some v → Value.okWide Tryd.prog W .any base t v := hval0
  have hW' := hW
  obtain ⟨p, q, hA0, hV, rfl, hfz, hnd⟩ := hW
  have hA : DataW.TrodAll enc Tryd.prog W 0 (fun _ => true) true Tryd.f5.params.toList args.toList ds p := hA0
  rw [Tryd.params5] at hA hval
  obtain ⟨v0, vs0, d0, ds0, p0, q0, hargs, rfl, rfl, h0, r0⟩ := trodAll_cons hA
  obtain ⟨v1, vs1, d1, ds1, p1, q1, rfl, rfl, rfl, h1, r1⟩ := trodAll_cons r0
  obtain ⟨rfl, rfl, rfl⟩ := trodAll_nil r1
  obtain rfl : args = #[v0, v1] := by cases args; simp_all
  obtain ⟨rfl, rfl⟩ := trodVars_none hV
  obtain ⟨a0, len0, cap0, rfl⟩ := okWide_slice Tryd.underlying23 (hval 0 23 v0 rfl rfl)
  have k0 := h0
  have lt0 : ∀ x ∈ p0, x.block < W.heap.size := by obtain ⟨m, hm⟩ := k0; exact DataW.trod_lt m _ _ _ hm
  obtain ⟨x0, s0⟩ : ∃ ns, NL W a0 len0 cap0 ns := by
    obtain ⟨fuel, hf⟩ := h0
    rcases open_ints Tryd.underlying23 Tryd.underlying24 (by kernel_rfl) hf with ⟨hcs, _⟩ | ⟨x, l, c, zs, hcs, _, hl, hm, hz, _, hcell, hwz⟩
    · simp [Value.cells] at hcs
      obtain ⟨rfl, rfl, rfl⟩ := hcs
      exact ⟨[], NL.nothing W⟩
    · simp [Value.cells] at hcs
      obtain ⟨rfl, rfl, rfl⟩ := hcs
      exact ⟨_, NL.row hl hm (by simpa using hz) hcell hwz⟩
  obtain ⟨a1, len1, cap1, rfl⟩ := okWide_slice Tryd.underlying35 (hval 1 35 v1 rfl rfl)
  have k1 := h1
  have lt1 : ∀ x ∈ p1, x.block < W.heap.size := by obtain ⟨m, hm⟩ := k1; exact DataW.trod_lt m _ _ _ hm
  obtain ⟨x1, s1⟩ : ∃ os, OL W a1 len1 cap1 os := by
    obtain ⟨fuel, hf⟩ := h1
    rcases Deep.open_slice_struct Tryd.underlying35 Tryd.underlying38 (by kernel_rfl) (by
      intro i f hf
      rcases i with _ | _ | _ | _ | i
      · obtain rfl := Option.some.inj hf; exact ⟨rfl, by kernel_rfl⟩
      · obtain rfl := Option.some.inj hf; exact ⟨rfl, by kernel_rfl⟩
      · obtain rfl := Option.some.inj hf; exact ⟨rfl, by kernel_rfl⟩
      · obtain rfl := Option.some.inj hf; exact ⟨rfl, by kernel_rfl⟩
      · simp at hf) hf with hcs | ⟨x, l, c, m, k, hcs, hl, hm, hlm, hcell⟩
    · simp [Value.cells] at hcs
      obtain ⟨rfl, rfl, rfl⟩ := hcs
      exact ⟨[], OL.nothing W⟩
    · simp [Value.cells] at hcs
      obtain ⟨rfl, rfl, rfl⟩ := hcs
      refine OL.make hl hm fun i hi => ?_
      obtain ⟨v0, y0, e0, t0⟩ := hcell i (by omega) 0 _ rfl
      obtain ⟨v1, y1, e1, t1⟩ := hcell i (by omega) 1 _ rfl
      obtain ⟨v2, y2, e2, t2⟩ := hcell i (by omega) 2 _ rfl
      obtain ⟨v3, y3, e3, t3⟩ := hcell i (by omega) 3 _ rfl
      obtain ⟨z0, q0, _, _⟩ := DataW.trod_int Tryd.underlying3 t0
      obtain ⟨z1, q1, _, g1⟩ := DataW.trod_int Tryd.underlying24 t1
      obtain rfl : v0 = .int .i64 z0 := by simpa using q0
      obtain rfl : v1 = .int .u64 z1 := by simpa using q1
      obtain ⟨P2, c2, s2⟩ : ∃ q : Part, v2 = q.val ∧ Sl W q.ao q.n q.cap q.xs := by
        rcases open_ints Tryd.underlying22 Tryd.underlying5 (by kernel_rfl) t2 with ⟨hcs, _⟩ | ⟨y, l, c, zs, hcs, _, hl, hm, hz, _, hc, hwz⟩
        · simp at hcs
          exact ⟨⟨none, 0, 0, []⟩, by rw [hcs]; rfl, Sl.nothing W⟩
        · simp at hcs
          exact ⟨⟨some y, l, c, zs.take l⟩, by rw [hcs]; rfl, Sl.row (zs := zs) (.inr ⟨_, rfl, hl, hm, by simpa using hz, hc, hwz⟩)⟩
      obtain ⟨P3, c3, s3⟩ : ∃ q : Part, v3 = q.val ∧ Sl W q.ao q.n q.cap q.xs := by
        rcases open_ints Tryd.underlying22 Tryd.underlying5 (by kernel_rfl) t3 with ⟨hcs, _⟩ | ⟨y, l, c, zs, hcs, _, hl, hm, hz, _, hc, hwz⟩
        · simp at hcs
          exact ⟨⟨none, 0, 0, []⟩, by rw [hcs]; rfl, Sl.nothing W⟩
        · simp at hcs
          exact ⟨⟨some y, l, c, zs.take l⟩, by rw [hcs]; rfl, Sl.row (zs := zs) (.inr ⟨_, rfl, hl, hm, by simpa using hz, hc, hwz⟩)⟩
      have gn : 0 ≤ z1 ∧ z1 < 18446744073709551616 := by
        have := g1
        simp [Lit.wf, IntKind.min, IntKind.max, IntKind.signed, IntKind.bits] at this
        omega
      have ez : ((z1.toNat : Nat) : Int) = z1 := Int.toNat_of_nonneg gn.1
      exact ⟨⟨z0, z1.toNat, P2, P3⟩, ⟨e0, by rw [ez]; exact e1, by rw [← c2]; exact e2, by rw [← c3]; exact e3⟩, s2, s3, by show z1.toNat < _; omega⟩
  clear hA0 hval0
  refine (sealIdeal_any W a0 len0 cap0 x0 a1 len1 cap1 x1 s0 s1 (tabs_of hL)).mono fun e W' ⟨he, bel⟩ => ?_
  subst he
  exact ⟨_, rfl, _, _, _, [], _, [], hW', trodAll_mk1 (shut_bool Tryd.underlying4 _), (trodAll_cons_mk (Below.trod laidOut (by kernel_rfl) (of_decide_eq_true (by kernel_rfl)) k0 bel lt0) (trodAll_cons_mk (Below.trod laidOut (by kernel_rfl) (of_decide_eq_true (by kernel_rfl)) k1 bel lt1) trodAll_mk0)), rfl, bel.frame _, fun h => by cases h⟩

theorem over : Rows.sealIdealRow.holds Tryd.pinned (OpenSpec.ofChange Rows.sealIdealSpec) :=
  OpenClaim.holds_of_wide 5 Tryd.f5 rfl rfl rfl rfl rfl rfl rfl ⟨rfl, rfl, rfl, rfl, rfl⟩ rfl rfl rfl rfl rfl (by kernel_rfl) Tryd.func5 (by kernel_rfl)
    (of_decide_eq_true (by kernel_rfl)) (by unfold Func.isWrapper; first | (rw [if_pos (by decide +kernel)]; kernel_rfl) | (rw [if_neg (by decide +kernel)]; exact ⟨rfl, rfl⟩))
    (fun os started H enc _ => lifted os started H enc)

theorem proved : Rows.SealIdealSaid := over
end Go.Proofs.YtkncfjokkojfpaaDoor.sealIdeal

namespace Go.Proofs.YtkncfjokkojfpaaDoor
open Go
theorem sealIdeal_holds : Rows.SealIdealCardSaid :=
  Claim7.holds_tied_plain_at .later [] [.data, .data] true (true, "b054c303349e397ada8bde4229f34308b4da8ca227cf870fc1bb28bc765006fd") false
    sealIdeal.proved (fun _ h => by cases h) (by kernel_rfl) (fun _ h => by cases h) sealIdeal_row_tie rfl ⟨rfl, rfl⟩ (by kernel_rfl) rfl
    (fun f fn hf hfn => by
      obtain rfl : f = 5 := Option.some.inj ((show Tryd.prog.funcNamed "bulwark/bulwarklaw03.SealIdeal" = some 5 by kernel_rfl).symm.trans hf) |>.symm
      obtain rfl : fn = Tryd.f5 := (Option.some.inj (Tryd.func5.symm.trans hfn)).symm
      exact ⟨by kernel_rfl, fun j t ht => by
        rw [Tryd.params5] at ht
        have hm : t ∈ [23, 35] := by simpa using Array.mem_of_getElem? ht
        have hall : ([23, 35].all fun u => !Tryd.prog.wantsStandIn u) = true := by kernel_rfl
        exact (show Tryd.prog.wantsStandIn t = false by simpa using List.all_eq_true.1 hall t hm)⟩)
    (by kernel_rfl)
end Go.Proofs.YtkncfjokkojfpaaDoor
#print axioms Go.Proofs.YtkncfjokkojfpaaDoor.sealIdeal_holds

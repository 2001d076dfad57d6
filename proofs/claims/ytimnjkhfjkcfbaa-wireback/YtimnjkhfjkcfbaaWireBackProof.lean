/-
  For every slice of numbers of 64 bits, every slice of slices of bytes and every slice of truths the function WireBack answers true, and changes nothing that was there; no condition.
-/
import Derived.Test.YtimnjkhfjkcfbaaRows
import Derived.Test.YtimnjkhfjkcfbaaBackLaw
import Derived.Test.YtimnjkhfjkcfbaaRowIn
import Derived.WalkKit
import Derived.ProofKit
import Derived.OpenShut
import Derived.ShutString
import Derived.ChangeOld
import Derived.Below
import Derived.Deep.Slices
namespace Go.Proofs.Ytimnjkhfjkcfbaa.wireBack
open Go.ChangeShapes Go.WideShapes Go.ChangeAt Go.RowKit
set_option linter.unusedVariables false

theorem own : ownKnob Try.prog.godebug = none := by kernel_rfl
theorem laidOut : laidOutB Try.prog = true := by kernel_rfl

set_option maxRecDepth 100000 in
theorem lifted (os : Os) (started : os.Started) (H : Type) (enc : TypeId × Value → H) :
    ReturnsInHanded {} Try.checked os 4 .any (Rows.wireBackSpec.pre6 enc Try.prog Try.f4 Rows.wireBackRow.domain false) (Rows.wireBackSpec.post enc Try.prog Try.f4 false true false false) := by
  refine returnsInHanded_of_change (C := Try.checked) own started (by kernel_rfl) Try.func4
    (ChangeSpec.witness6 (enc := enc) (C := Try.checked) false ⟨#[], #[.slice none 0 0, .slice none 0 0, .slice none 0 0], []⟩ 8 (by kernel_rfl) (by kernel_rfl) (by kernel_rfl) (by kernel_rfl)) ?_
  intro W base args ds gs before hval0 hW hcnd _
  have hval : ∀ (j : Nat) t v, Try.f4.params[j]? = some t → args[j]? = some v → Value.okWide Try.prog W .any base t v := hval0
  have hW' := hW
  obtain ⟨p, q, hA0, hV, rfl, hfz, hnd⟩ := hW
  have hA : DataW.TrodAll enc Try.prog W 0 (fun _ => true) true Try.f4.params.toList args.toList ds p := hA0
  rw [Try.params4] at hA hval
  obtain ⟨v0, vs0, d0, ds0, p0, q0, hargs, rfl, rfl, h0, r0⟩ := trodAll_cons hA
  obtain ⟨v1, vs1, d1, ds1, p1, q1, rfl, rfl, rfl, h1, r1⟩ := trodAll_cons r0
  obtain ⟨v2, vs2, d2, ds2, p2, q2, rfl, rfl, rfl, h2, r2⟩ := trodAll_cons r1
  obtain ⟨rfl, rfl, rfl⟩ := trodAll_nil r2
  obtain rfl : args = #[v0, v1, v2] := by cases args; simp_all
  obtain ⟨rfl, rfl⟩ := trodVars_none hV
  obtain ⟨a0, len0, cap0, rfl⟩ := okWide_slice Try.underlying42 (hval 0 42 v0 rfl rfl)
  have k0 := h0
  have lt0 : ∀ x ∈ p0, x.block < W.heap.size := by obtain ⟨m, hm⟩ := k0; exact DataW.trod_lt m _ _ _ hm
  obtain ⟨ns, hn, hN, hNs⟩ : ∃ ns : List Nat, ns.length = len0 ∧ (RowC W a0 len0 fun i => .int .u64 ((ns.getD i 0 : Nat) : Int)) ∧ ∀ x ∈ ns, x < 18446744073709551616 := by
    obtain ⟨fuel, hf⟩ := h0
    rcases Deep.open_slice1 Try.underlying42 (by kernel_rfl) hf with ⟨hcs, _⟩ | ⟨x, l, c, m, k, V, D, Pl, hcs, _, hl, hm, hmm, _, hcell⟩
    · simp [Value.cells] at hcs
      obtain ⟨rfl, rfl, rfl⟩ := hcs
      exact ⟨[], rfl, ⟨fun _ => rfl, fun a ha => by simp at ha⟩, fun x hx => by simp at hx⟩
    · simp [Value.cells] at hcs
      obtain ⟨rfl, rfl, rfl⟩ := hcs
      have hlm : len0 ≤ m := by rw [hmm]; split <;> omega
      have key : ∀ i, i < len0 → W.cell? (x.add i) = some (.int .u64 (((intOf (V i)).toNat : Nat) : Int)) ∧ (intOf (V i)).toNat < 18446744073709551616 := by
        intro i hi
        obtain ⟨e0, t0⟩ := hcell i (by omega)
        obtain ⟨n0, g0, _, wf0⟩ := DataW.trod_int Try.underlying33 t0
        simp at g0
        have hb := bounds_u64 wf0
        rw [e0, g0]
        simp only [intOf]
        exact ⟨by rw [Int.toNat_of_nonneg hb.1], by omega⟩
      refine ⟨(List.range len0).map fun i => (intOf (V i)).toNat, by simp, ⟨fun h => by simp at h, fun a ha i hi => ?_⟩, fun y hy => ?_⟩
      · obtain rfl := Option.some.inj ha
        rw [(key i hi).1]
        simp [List.getD, hi]
      · simp only [List.mem_map, List.mem_range] at hy
        obtain ⟨i, hi, rfl⟩ := hy
        exact (key i hi).2
  obtain ⟨a1, len1, cap1, rfl⟩ := okWide_slice Try.underlying43 (hval 1 43 v1 rfl rfl)
  have k1 := h1
  have lt1 : ∀ x ∈ p1, x.block < W.heap.size := by obtain ⟨m, hm⟩ := k1; exact DataW.trod_lt m _ _ _ hm
  obtain ⟨ps, O, L, C, hl, hP, hPs⟩ : ∃ (ps : List (List Int)) (O : Nat → Option Addr) (L C : Nat → Nat), ps.length = len1 ∧ (RowC W a1 len1 fun i => .slice (O i) (L i) (C i)) ∧ ∀ i, i < len1 → Sl W (O i) (L i) (C i) (ps.getD i []) := by
    obtain ⟨fuel, hf⟩ := h1
    rcases Deep.open_slice1 Try.underlying43 (by kernel_rfl) hf with ⟨hcs, _⟩ | ⟨x, l, c, m, k, V, D, Pl, hcs, _, hl, hm, hmm, _, hcell⟩
    · simp [Value.cells] at hcs
      obtain ⟨rfl, rfl, rfl⟩ := hcs
      exact ⟨[], fun _ => none, fun _ => 0, fun _ => 0, rfl, ⟨fun _ => rfl, fun a ha => by simp at ha⟩, fun i hi => by omega⟩
    · simp [Value.cells] at hcs
      obtain ⟨rfl, rfl, rfl⟩ := hcs
      have hlm : len1 ≤ m := by rw [hmm]; split <;> omega
      have key : ∀ i, i < len1 → ∃ z : Option Addr × Nat × Nat × List Int, W.cell? (x.add i) = some (.slice z.1 z.2.1 z.2.2.1) ∧ Sl W z.1 z.2.1 z.2.2.1 z.2.2.2 := by
        intro i hi
        obtain ⟨e0, t0⟩ := hcell i (by omega)
        rcases open_ints Try.underlying22 Try.underlying5 (by kernel_rfl) t0 with ⟨hcs, _⟩ | ⟨y, l, c, zs, hcs, _, hl, hm, hz, _, hc, hwz⟩
        · simp at hcs
          exact ⟨(none, 0, 0, []), by rw [e0, hcs], Sl.nothing W⟩
        · simp at hcs
          exact ⟨(some y, l, c, zs.take l), by rw [e0, hcs], Sl.row (zs := zs) (.inr ⟨_, rfl, hl, hm, by simpa using hz, hc, hwz⟩)⟩
      obtain ⟨z, hz⟩ := Deep.choose_lt key
      refine ⟨(List.range len1).map fun i => (z i).2.2.2, fun i => (z i).1, fun i => (z i).2.1, fun i => (z i).2.2.1, by simp, ⟨fun h => by simp at h, fun a ha i hi => ?_⟩, fun i hi => ?_⟩
      · obtain rfl := Option.some.inj ha
        exact (hz i hi).1
      · have := (hz i hi).2
        simpa [List.getD, hi] using this
  obtain ⟨a2, len2, cap2, rfl⟩ := okWide_slice Try.underlying44 (hval 2 44 v2 rfl rfl)
  have k2 := h2
  have lt2 : ∀ x ∈ p2, x.block < W.heap.size := by obtain ⟨m, hm⟩ := k2; exact DataW.trod_lt m _ _ _ hm
  obtain ⟨ts, ht, hT⟩ : ∃ ts : List Bool, ts.length = len2 ∧ RowC W a2 len2 fun i => .bool (ts.getD i false) := by
    obtain ⟨fuel, hf⟩ := h2
    rcases Deep.open_slice1 Try.underlying44 (by kernel_rfl) hf with ⟨hcs, _⟩ | ⟨x, l, c, m, k, V, D, Pl, hcs, _, hl, hm, hmm, _, hcell⟩
    · simp [Value.cells] at hcs
      obtain ⟨rfl, rfl, rfl⟩ := hcs
      exact ⟨[], rfl, ⟨fun _ => rfl, fun a ha => by simp at ha⟩⟩
    · simp [Value.cells] at hcs
      obtain ⟨rfl, rfl, rfl⟩ := hcs
      have hlm : len2 ≤ m := by rw [hmm]; split <;> omega
      have key : ∀ i, i < len2 → ∃ z : Bool, W.cell? (x.add i) = some (.bool z) := by
        intro i hi
        obtain ⟨e0, t0⟩ := hcell i (by omega)
        obtain ⟨z, g0, _⟩ := DataW.trod_bool Try.underlying4 t0
        simp at g0
        exact ⟨z, by rw [e0, g0]⟩
      obtain ⟨z, hz⟩ := Deep.choose_lt key
      refine ⟨(List.range len2).map z, by simp, ⟨fun h => by simp at h, fun a ha i hi => ?_⟩⟩
      obtain rfl := Option.some.inj ha
      rw [hz i hi]
      simp [List.getD, hi]
  clear hA0 hval0
  refine (wireBack_any W a0 a1 a2 len0 cap0 len1 cap1 len2 cap2 ns ps ts O L C hn hl ht hN hNs hP hPs hT).mono fun e W' ⟨he, bel⟩ => ?_
  subst he
  exact ⟨_, rfl, _, _, _, [], _, [], hW', trodAll_mk1 (shut_bool Try.underlying4 _), (trodAll_cons_mk (Below.trod laidOut (by kernel_rfl) (of_decide_eq_true (by kernel_rfl)) k0 bel lt0) (trodAll_cons_mk (Below.trod laidOut (by kernel_rfl) (of_decide_eq_true (by kernel_rfl)) k1 bel lt1) (trodAll_cons_mk (Below.trod laidOut (by kernel_rfl) (of_decide_eq_true (by kernel_rfl)) k2 bel lt2) trodAll_mk0))), rfl, bel.frame _, fun h => by cases h⟩

theorem over : Rows.wireBackRow.holds Try.pinned (OpenSpec.ofChange Rows.wireBackSpec) :=
  OpenClaim.holds_of_wide 4 Try.f4 rfl rfl rfl rfl rfl rfl rfl ⟨rfl, rfl, rfl, rfl, rfl⟩ rfl rfl rfl rfl rfl (by kernel_rfl) Try.func4 (by kernel_rfl)
    (of_decide_eq_true (by kernel_rfl)) (by unfold Func.isWrapper; first | (rw [if_pos (by decide +kernel)]; kernel_rfl) | (rw [if_neg (by decide +kernel)]; exact ⟨rfl, rfl⟩))
    (fun os started H enc _ => lifted os started H enc)

theorem proved : Rows.WireBackSaid := over
end Go.Proofs.Ytimnjkhfjkcfbaa.wireBack

namespace Go.Proofs.Ytimnjkhfjkcfbaa
theorem wireBack_holds : Rows.WireBackSaid := wireBack.proved
end Go.Proofs.Ytimnjkhfjkcfbaa
#print axioms Go.Proofs.Ytimnjkhfjkcfbaa.wireBack_holds

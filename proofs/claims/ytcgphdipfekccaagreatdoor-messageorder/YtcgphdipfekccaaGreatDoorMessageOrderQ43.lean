/-
  Texts in one: Laid2.
-/
import Derived.Test.YtcgphdipfekccaaGreatDoorRows
import Derived.Test.YtcgphdipfekccaaGreatDoorMessageOrderQ13
import Derived.ProofKit
import Derived.LaidMore
import Derived.Lay
import Derived.OpenShut
import Derived.Lib.LaidU8
import Derived.Stop.Joined
namespace Go.Proofs.YtcgphdipfekccaaGreatDoor
open Go.RowKit
abbrev laidL : List (String × DataW Unit) := [("bulwark/digest.firstWords", Rows.laid_bulwark_digest_firstWords), ("bulwark/digest.roundWords", Rows.laid_bulwark_digest_roundWords)]
theorem gFirst : Tryz.prog.globalNamed "bulwark/digest.firstWords" = some 1 := by kernel_rfl
theorem gRound : Tryz.prog.globalNamed "bulwark/digest.roundWords" = some 0 := by kernel_rfl
theorem tFirst : (Tryz.prog.globals[1]?).map (·.type) = some 111 := by kernel_rfl
theorem tRound : (Tryz.prog.globals[0]?).map (·.type) = some 130 := by kernel_rfl
theorem laidL_plain : (laidL.all fun x => x.2.handleName?.isNone) = true := by kernel_rfl
theorem all_met (os : Os) (args : Array Value) : laidMetH Tryz.prog laidL ((World.laidAll Tryz.prog os laidL).forCall (fun _ _ => 0) ⟨#[], args, []⟩).memory := by
  rw [MakeChecks.laidMetH_plain _ _ _ laidL_plain]
  exact laidMet_laidAll _ (by kernel_rfl) (by kernel_rfl)
theorem words_of {H : Type} {enc : TypeId × Value → H} {w : World} {base : Nat} {sp : Nat → Bool} {held : Bool} {fuel n : Nat} {t : TypeId} {cs : List Value} {zs : List Int} {p : List MemPlace}
    (ht : Tryz.prog.underlying t = some (.array n 110)) (h : DataW.trod enc Tryz.prog w base sp held fuel t cs = some (.agg (zs.map fun z => .lit (.int .u32 z)), p)) (hz : zs.length = n) :
    ∀ (j : Nat) (v : Value), (wv zs)[j]? = some v → cs[j]? = some v := by
  intro j v hv
  have hj : j < zs.length := by have := (List.getElem?_eq_some_iff.1 hv).1; rwa [wv_length] at this
  rw [wv_get zs j hj] at hv
  obtain rfl := Option.some.inj hv
  obtain ⟨f', d, q, hd, he⟩ := Lib.array_elem ht h j (by omega)
  have c1 : Tryz.prog.cellsOf 110 = 1 := by kernel_rfl
  rw [c1, Nat.mul_one] at he
  obtain ⟨k, e1, e2, _⟩ := DataW.trod_int Tryz.underlying110 he
  simp only [Prod.mk.injEq] at e2
  rw [e2.1] at hd
  simp only [List.getElem?_map, List.getElem?_eq_getElem hj, Option.map_some, Option.some.injEq, DataW.lit.injEq, Lit.int.injEq, true_and] at hd
  have : (cs.drop j)[0]? = some (.int .u32 k) := by
    have := congrArg (fun l : List Value => l[0]?) e1
    simpa [List.getElem?_take] using this
  rw [List.getElem?_drop, Nat.add_zero] at this
  rw [this, ← hd]
  simp [List.getD, hj]
theorem tabs_of {W : World} (h : laidMetH Tryz.prog laidL W) : Tabs W := by
  rw [MakeChecks.laidMetH_plain _ _ _ laidL_plain] at h
  obtain ⟨ps, ⟨g0, t0, cs0, f0, p0, q0, hg0, ht0, hv0, hd0, ⟨g1, t1, cs1, f1, p1, q1, hg1, ht1, hv1, hd1, _, _⟩, _⟩, _, _⟩ := h
  obtain rfl := Option.some.inj (gFirst.symm.trans hg0)
  obtain rfl := Option.some.inj (gRound.symm.trans hg1)
  obtain rfl := Option.some.inj (tFirst.symm.trans ht0)
  obtain rfl := Option.some.inj (tRound.symm.trans ht1)
  have hA := words_of (zs := H0) Tryz.underlying111 hd0 rfl
  have hB := words_of (zs := K0) Tryz.underlying130 hd1 rfl
  have cA : ∀ j v, (wv H0)[j]? = some v → W.cell? ⟨1, j, none⟩ = some v := fun j v hv => by
    rw [World.var?_cell hg0 hv0 j]
    simpa using hA j v hv
  refine ⟨cA, fun j v hv => ?_, ?_⟩
  · rw [World.var?_cell hg1 hv1 j]
    simpa using hB j v hv
  · have := block_lt_of_cell (cA 0 _ rfl)
    exact this
end Go.Proofs.YtcgphdipfekccaaGreatDoor

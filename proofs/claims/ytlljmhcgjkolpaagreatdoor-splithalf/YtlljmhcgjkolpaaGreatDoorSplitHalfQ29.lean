/-
  Texts in one: OTypO, OTypC, Laid7.
-/
import Derived.Test.YtlljmhcgjkolpaaGreatDoorSplitHalfQ4
import Derived.Test.YtlljmhcgjkolpaaGreatDoorRows
import Derived.Test.YtlljmhcgjkolpaaGreatDoorSplitHalfQ0
import Derived.ProofKit
import Derived.LaidMore
import Derived.Lay
import Derived.OpenShut
import Derived.Lib.LaidU8
import Derived.Stop.Joined
namespace Go.Proofs.YtlljmhcgjkolpaaGreatDoor
open Go.RowKit
def opT : OpTypes Tryz.prog where
  op := 28
  key := 24
  int := 3
  str := 9
  u64 := 22
  bys := 25
  u8 := 5
  bool := 4
  subs := 26
  f0 := { name := "Kind", type := 3, offset := 0, embedded := false, tag := "", pkgPath := "", byteOffset := 0 }
  f1 := { name := "K", type := 24, offset := 1, embedded := false, tag := "", pkgPath := "", byteOffset := 8 }
  f2 := { name := "To", type := 9, offset := 5, embedded := false, tag := "", pkgPath := "", byteOffset := 64 }
  f3 := { name := "Value", type := 25, offset := 6, embedded := false, tag := "", pkgPath := "", byteOffset := 80 }
  f4 := { name := "Want", type := 25, offset := 7, embedded := false, tag := "", pkgPath := "", byteOffset := 104 }
  f5 := { name := "Has", type := 4, offset := 8, embedded := false, tag := "", pkgPath := "", byteOffset := 128 }
  f6 := { name := "Sub", type := 26, offset := 9, embedded := false, tag := "", pkgPath := "", byteOffset := 136 }
  g0 := { name := "Row", type := 9, offset := 0, embedded := false, tag := "", pkgPath := "", byteOffset := 0 }
  g1 := { name := "Family", type := 9, offset := 1, embedded := false, tag := "", pkgPath := "", byteOffset := 16 }
  g2 := { name := "Qual", type := 9, offset := 2, embedded := false, tag := "", pkgPath := "", byteOffset := 32 }
  g3 := { name := "Time", type := 22, offset := 3, embedded := false, tag := "", pkgPath := "", byteOffset := 48 }
  hop := Tryz.underlying28
  hkey := Tryz.underlying24
  hint := Tryz.underlying3
  hstr := Tryz.underlying9
  hu64 := Tryz.underlying22
  hbys := Tryz.underlying25
  hu8 := Tryz.underlying5
  hbool := Tryz.underlying4
  hsubs := Tryz.underlying26
  cop := by kernel_rfl
  ckey := by kernel_rfl
  cint := by kernel_rfl
  cstr := by kernel_rfl
  cu64 := by kernel_rfl
  cbys := by kernel_rfl
  cu8 := by kernel_rfl
  bu8 := by kernel_rfl
  cbool := by kernel_rfl
  csubs := by kernel_rfl
  o0 := ⟨rfl, rfl⟩
  o1 := ⟨rfl, rfl⟩
  o2 := ⟨rfl, rfl⟩
  o3 := ⟨rfl, rfl⟩
  o4 := ⟨rfl, rfl⟩
  o5 := ⟨rfl, rfl⟩
  o6 := ⟨rfl, rfl⟩
  p0 := ⟨rfl, rfl⟩
  p1 := ⟨rfl, rfl⟩
  p2 := ⟨rfl, rfl⟩
  p3 := ⟨rfl, rfl⟩
open Go.RowKit
def cellT : CellTypes Tryz.prog opT where
  cel := 33
  cels := 31
  f0 := { name := "K", type := 24, offset := 0, embedded := false, tag := "", pkgPath := "", byteOffset := 0 }
  f1 := { name := "Value", type := 25, offset := 4, embedded := false, tag := "", pkgPath := "", byteOffset := 56 }
  f2 := { name := "Gone", type := 4, offset := 5, embedded := false, tag := "", pkgPath := "", byteOffset := 80 }
  hcel := Tryz.underlying33
  hcels := Tryz.underlying31
  ccel := by kernel_rfl
  o0 := ⟨rfl, rfl⟩
  o1 := ⟨rfl, rfl⟩
  o2 := ⟨rfl, rfl⟩
open Go.RowKit
abbrev laidL : List (String × DataW Unit) := [("unicode/utf8.acceptRanges", Rows.laid_unicode_utf8_acceptRanges), ("bulwark/digest.firstWords", Rows.laid_bulwark_digest_firstWords), ("bulwark/digest.roundWords", Rows.laid_bulwark_digest_roundWords), ("unicode/utf8.first", Rows.laid_unicode_utf8_first)]
theorem gFirst : Tryz.prog.globalNamed "bulwark/digest.firstWords" = some 1 := by kernel_rfl
theorem gRound : Tryz.prog.globalNamed "bulwark/digest.roundWords" = some 0 := by kernel_rfl
theorem tFirst : (Tryz.prog.globals[1]?).map (·.type) = some 163 := by kernel_rfl
theorem tRound : (Tryz.prog.globals[0]?).map (·.type) = some 194 := by kernel_rfl
theorem laidL_plain : (laidL.all fun x => x.2.handleName?.isNone) = true := by kernel_rfl
theorem all_met (os : Os) (args : Array Value) : laidMetH Tryz.prog laidL ((World.laidAll Tryz.prog os laidL).forCall (fun _ _ => 0) ⟨#[], args, []⟩).memory := by
  rw [MakeChecks.laidMetH_plain _ _ _ laidL_plain]
  exact laidMet_laidAll _ (by kernel_rfl) (by kernel_rfl)
theorem words_of {H : Type} {enc : TypeId × Value → H} {w : World} {base : Nat} {sp : Nat → Bool} {held : Bool} {fuel n : Nat} {t : TypeId} {cs : List Value} {zs : List Int} {p : List MemPlace}
    (ht : Tryz.prog.underlying t = some (.array n 162)) (h : DataW.trod enc Tryz.prog w base sp held fuel t cs = some (.agg (zs.map fun z => .lit (.int .u32 z)), p)) (hz : zs.length = n) :
    ∀ (j : Nat) (v : Value), (wv zs)[j]? = some v → cs[j]? = some v := by
  intro j v hv
  have hj : j < zs.length := by have := (List.getElem?_eq_some_iff.1 hv).1; rwa [wv_length] at this
  rw [wv_get zs j hj] at hv
  obtain rfl := Option.some.inj hv
  obtain ⟨f', d, q, hd, he⟩ := Lib.array_elem ht h j (by omega)
  have c1 : Tryz.prog.cellsOf 162 = 1 := by kernel_rfl
  rw [c1, Nat.mul_one] at he
  obtain ⟨k, e1, e2, _⟩ := DataW.trod_int Tryz.underlying162 he
  simp only [Prod.mk.injEq] at e2
  rw [e2.1] at hd
  simp only [List.getElem?_map, List.getElem?_eq_getElem hj, Option.map_some, Option.some.injEq, DataW.lit.injEq, Lit.int.injEq, true_and] at hd
  have : (cs.drop j)[0]? = some (.int .u32 k) := by
    have := congrArg (fun l : List Value => l[0]?) e1
    simpa [List.getElem?_take] using this
  rw [List.getElem?_drop, Nat.add_zero] at this
  rw [this, ← hd]
  simp [List.getD, hj]
theorem tabs_of {W : World} (h : laidMetH Tryz.prog laidL W) : Tabs W := by
  rw [MakeChecks.laidMetH_plain _ _ _ laidL_plain] at h
  obtain ⟨ps, ⟨gx, tx, csx, fx, px, qx, _, _, _, _, ⟨g0, t0, cs0, f0, p0, q0, hg0, ht0, hv0, hd0, ⟨g1, t1, cs1, f1, p1, q1, hg1, ht1, hv1, hd1, _, _⟩, _⟩, _⟩, _, _⟩ := h
  obtain rfl := Option.some.inj (gFirst.symm.trans hg0)
  obtain rfl := Option.some.inj (gRound.symm.trans hg1)
  obtain rfl := Option.some.inj (tFirst.symm.trans ht0)
  obtain rfl := Option.some.inj (tRound.symm.trans ht1)
  have hA := words_of (zs := H0) Tryz.underlying163 hd0 rfl
  have hB := words_of (zs := K0) Tryz.underlying194 hd1 rfl
  have cA : ∀ j v, (wv H0)[j]? = some v → W.cell? ⟨1, j, none⟩ = some v := fun j v hv => by
    rw [World.var?_cell hg0 hv0 j]
    simpa using hA j v hv
  refine ⟨cA, fun j v hv => ?_, ?_⟩
  · rw [World.var?_cell hg1 hv1 j]
    simpa using hB j v hv
  · have := block_lt_of_cell (cA 0 _ rfl)
    exact this
end Go.Proofs.YtlljmhcgjkolpaaGreatDoor

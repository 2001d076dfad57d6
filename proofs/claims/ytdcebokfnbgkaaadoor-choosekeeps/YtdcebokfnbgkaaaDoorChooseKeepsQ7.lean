/-
  Texts in one: OWt, GOpen, ChOpen, Laid2.
-/
import Derived.Test.YtdcebokfnbgkaaaDoorChooseKeepsQ0
import Derived.Deep.Slices
import Derived.ChangeSame
import Derived.ChangeSlices
import Derived.SizedLaws
import Derived.Test.YtdcebokfnbgkaaaDoorRows
import Derived.ProofKit
import Derived.LaidMore
import Derived.Lay
import Derived.OpenShut
import Derived.Lib.LaidU8
import Derived.Stop.Joined
namespace Go.Proofs.YtdcebokfnbgkaaaDoor
open Go.RowKit Go.ChangeShapes Go.WideShapes
variable {H : Type} {enc : TypeId × Value → H} {P : Program} {w : World} {base : Nat} {spare : Nat → Bool} {held : Bool}
def Wt (P : Program) (d : DataW H) (t : TypeId) : Prop := ∀ n ∈ d.weights P t, n ≤ reachBytes
theorem weights_mem_all : ∀ {e : TypeId} {ds : List (DataW H)} {j : Nat} {d : DataW H}, ds[j]? = some d → ∀ n ∈ d.weights P e, n ∈ DataW.weightsAll P e ds
  | e, d0 :: ds, 0, d, hd, n, hn => by
    simp only [List.getElem?_cons_zero, Option.some.injEq] at hd
    subst hd
    simp only [DataW.weightsAll, List.mem_append]
    exact Or.inl hn
  | e, d0 :: ds, j + 1, d, hd, n, hn => by
    simp only [List.getElem?_cons_succ] at hd
    simp only [DataW.weightsAll, List.mem_append]
    exact Or.inr (weights_mem_all hd n hn)
  | _, [], _, _, hd, _, _ => by simp at hd
theorem Sl.of_ints {tB tE : TypeId} {fuel : Nat} {v : Value} {x : DataW H × List MemPlace} (ht : P.underlying tB = some (.slice tE)) (he : P.underlying tE = some (.int .u8)) (hc : P.cellsOf tE = 1)
    (hb8 : P.bytesOf tE = 1) (h : DataW.trod enc P w base spare held fuel tB [v] = some x) : ∃ b : Bs, v = .slice b.ao b.n b.cap ∧ Sl w b.ao b.n b.cap b.xs ∧ (Wt P x.1 tB → b.n ≤ 140737488351232) := by
  rcases open_ints ht he hc h with ⟨hcs, _⟩ | ⟨a, l, c, zs, hcs, _, hl, hm, hz, hx, hcell, hwz⟩
  · simp at hcs
    exact ⟨⟨none, 0, 0, []⟩, hcs, Sl.nothing w, fun _ => Nat.zero_le _⟩
  · simp at hcs
    have hlz : l ≤ zs.length := by rw [hz]; split <;> omega
    refine ⟨⟨some a, l, c, zs.take l⟩, hcs, ⟨by simp; omega, hl, hm, fun h => by simp at h, fun b hb i hi => ?_, fun z hz => ?_⟩, fun hwt => ?_⟩
    · obtain rfl := Option.some.inj hb
      have hi : i < l := hi
      rw [hcell i (by omega)]
      simp [List.getD, hi]
    · have := hwz z (List.mem_of_mem_take hz)
      simp [Lit.wf, IntKind.min, IntKind.max, IntKind.signed, IntKind.bits] at this
      omega
    · rw [hx] at hwt
      have := hwt (zs.length * 1) (by simp only [DataW.weights, ht, hb8]; simp [ChangeShapes.lits]; omega)
      simp only [reachBytes] at this
      show l ≤ _
      omega
theorem gather_list {α : Type} {p : Nat → α → Prop} : ∀ l : Nat, (∀ i, i < l → ∃ y, p i y) → ∃ z : List α, z.length = l ∧ ∀ i (h : i < z.length), p i z[i]
  | 0, _ => ⟨[], rfl, fun i h => by simp at h⟩
  | l + 1, key => by
    obtain ⟨z, hz1, hz2⟩ := gather_list l (fun i hi => key i (by omega))
    obtain ⟨y, hy⟩ := key l (by omega)
    refine ⟨z ++ [y], by simp [hz1], fun i h => ?_⟩
    by_cases c : i < z.length
    · rw [List.getElem_append_left c]
      exact hz2 i c
    · have hi : i = z.length := by simp at h; omega
      subst hi
      rw [List.getElem_append_right (Nat.le_refl _)]
      simp only [Nat.sub_self, List.getElem_singleton]
      rw [hz1]
      exact hy
end Go.Proofs.YtdcebokfnbgkaaaDoor
namespace Go.Proofs.YtdcebokfnbgkaaaDoor
open Go.RowKit Go.ChangeShapes Go.WideShapes
variable {H : Type} {enc : TypeId × Value → H} {P : Program} {w : World} {base : Nat} {spare : Nat → Bool} {held : Bool}
theorem open_gl {α : Type} (E : El α) (N : α → Prop) {sl t : TypeId} (hsl : P.underlying sl = some (.slice t)) (ct : P.cellsOf t = E.sz)
    (one : ∀ {fuel : Nat} {l : List Value} {x : DataW H × List MemPlace}, DataW.trod enc P w base spare held fuel t l = some x → ∃ y, l = E.c y ∧ E.ok y w ∧ (Wt P x.1 t → N y))
    {fuel : Nat} {v : Value} {x : DataW H × List MemPlace} (h : DataW.trod enc P w base spare held fuel sl [v] = some x) :
    ∃ (ao : Option Addr) (n cap : Nat) (l : List α), v = .slice ao n cap ∧ GL E w ao n cap l ∧ (Wt P x.1 sl → ∀ y ∈ l, N y) := by
  rcases Deep.open_slice hsl h with ⟨hcs, _⟩ | ⟨a, l, c, m, n, D, Pl, hcs, _, hl, hm, hmm, hy0, hx⟩
  · exact ⟨none, 0, 0, [], by simpa using hcs, GL.nothing _ _, fun _ _ h => absurd h List.not_mem_nil⟩
  · have hlm : l ≤ m := by rw [hmm]; split <;> omega
    obtain ⟨z, hz1, hz2⟩ := gather_list (p := fun i (y : α) => (∀ j v, (E.c y)[j]? = some v → w.cell? (a.add (i * E.sz + j)) = some v) ∧ E.ok y w ∧ (Wt P (D i) t → N y)) l (fun i hi => by
      obtain ⟨cs', h1, h2⟩ := hx i (by omega)
      rw [ct] at h1
      obtain ⟨_, hlen, hcell⟩ := World.cells?_some h1
      obtain ⟨y, e1, w1, n1⟩ := one h2
      refine ⟨y, fun j v hv => ?_, w1, n1⟩
      rw [← e1] at hv
      have hj : j < cs'.length := (List.getElem?_eq_some_iff.1 hv).1
      have := hcell j (by omega)
      rw [Deep.add_add, hv] at this
      exact this)
    refine ⟨some a, l, c, z, by simpa using hcs, ⟨hz1, hl, hm, fun h => by simp at h, fun b hb i hi => ?_, fun q hq => ?_⟩, fun hwt y hy => ?_⟩
    · obtain rfl := Option.some.inj hb
      exact (hz2 i hi).1
    · obtain ⟨i, hi, rfl⟩ := List.getElem_of_mem hq
      exact (hz2 i hi).2.1
    · obtain ⟨i, hi, rfl⟩ := List.getElem_of_mem hy
      refine (hz2 i hi).2.2 fun n hn2 => hwt n ?_
      rw [hy0]
      simp only [DataW.weights, hsl]
      refine List.mem_cons_of_mem _ (List.mem_append_left _ (weights_mem_all (j := i) ?_ n hn2))
      rw [List.getElem?_map, List.getElem?_range (by omega)]
      rfl
end Go.Proofs.YtdcebokfnbgkaaaDoor
namespace Go.Proofs.YtdcebokfnbgkaaaDoor
open Go.RowKit Go.ChangeShapes Go.WideShapes
structure P16 (P : Program) where
  u64 : TypeId
  bys : TypeId
  u8 : TypeId
  pr : TypeId
  prs : TypeId
  f0 : Field
  f1 : Field
  f2 : Field
  hu64 : P.underlying u64 = some (.int .u64)
  hbys : P.underlying bys = some (.slice u8)
  hu8 : P.underlying u8 = some (.int .u8)
  hpr : P.underlying pr = some (.struct #[f0, f1, f2])
  hprs : P.underlying prs = some (.slice pr)
  cu64 : P.cellsOf u64 = 1
  cbys : P.cellsOf bys = 1
  cu8 : P.cellsOf u8 = 1
  bu8 : P.bytesOf u8 = 1
  cpr : P.cellsOf pr = 3
  cprs : P.cellsOf prs = 1
  o0 : f0.type = u64 ∧ f0.offset = 0
  o1 : f1.type = u64 ∧ f1.offset = 1
  o2 : f2.type = bys ∧ f2.offset = 2
structure C16 (P : Program) (T : P16 P) where
  cl : TypeId
  cls : TypeId
  g0 : Field
  g1 : Field
  g2 : Field
  g3 : Field
  hcl : P.underlying cl = some (.struct #[g0, g1, g2, g3])
  hcls : P.underlying cls = some (.slice cl)
  ccl : P.cellsOf cl = 4
  p0 : g0.type = T.u64 ∧ g0.offset = 0
  p1 : g1.type = T.u64 ∧ g1.offset = 1
  p2 : g2.type = T.bys ∧ g2.offset = 2
  p3 : g3.type = T.prs ∧ g3.offset = 3
variable {H : Type} {enc : TypeId × Value → H} {P : Program} {w : World} {base : Nat} {spare : Nat → Bool} {held : Bool}
theorem nat64 {z : Int} (h : (Lit.int .u64 z).wf = true) : 0 ≤ z ∧ z < 18446744073709551616 := by
  simp [Lit.wf, IntKind.min, IntKind.max, IntKind.signed, IntKind.bits] at h
  omega
theorem open_pre16 (T : P16 P) {fuel : Nat} {l : List Value} {x : DataW H × List MemPlace} (h : DataW.trod enc P w base spare held fuel T.pr l = some x) : ∃ y : PA, l = elP.c y ∧ elP.ok y w ∧ (Wt P x.1 T.pr → True) := by
  obtain ⟨xs, k, _, hx, hl, hlen, hf⟩ := DataW.trod_struct T.hpr h
  rw [T.cpr] at hl
  obtain ⟨c0, c1, c2, rfl⟩ : ∃ c0 c1 c2, l = [c0, c1, c2] := by
    match l, hl with
    | [c0, c1, c2], _ => exact ⟨_, _, _, rfl⟩
  obtain ⟨x0, x1, x2, rfl⟩ : ∃ x0 x1 x2, xs = [x0, x1, x2] := by
    match xs, hlen with
    | [x0, x1, x2], _ => exact ⟨_, _, _, rfl⟩
  have e0 := hf 0 T.f0 rfl
  have e1 := hf 1 T.f1 rfl
  have e2 := hf 2 T.f2 rfl
  rw [T.o0.1, T.o0.2, T.cu64] at e0
  rw [T.o1.1, T.o1.2, T.cu64] at e1
  rw [T.o2.1, T.o2.2, T.cbys] at e2
  simp only [List.drop_succ_cons, List.drop_zero, List.take_succ_cons, List.take_zero, List.getElem?_cons_zero, List.getElem?_cons_succ] at e0 e1 e2
  obtain ⟨z0, q0, _, w0⟩ := DataW.trod_int T.hu64 e0
  obtain rfl : c0 = .int .u64 z0 := by simpa using q0
  obtain ⟨z1, q1, _, w1⟩ := DataW.trod_int T.hu64 e1
  obtain rfl : c1 = .int .u64 z1 := by simpa using q1
  obtain ⟨b, rfl, s1, _⟩ := Sl.of_ints T.hbys T.hu8 T.cu8 T.bu8 e2
  have g0 := nat64 w0
  have g1 := nat64 w1
  refine ⟨⟨z0.toNat, z1.toNat, b⟩, ?_, ⟨by show z0.toNat < _; omega, by show z1.toNat < _; omega, s1⟩, fun _ => trivial⟩
  show _ = PA.cells _
  unfold PA.cells
  simp only
  rw [Int.toNat_of_nonneg g0.1, Int.toNat_of_nonneg g1.1]
theorem open_claim16 (T : P16 P) (U : C16 P T) {fuel : Nat} {l : List Value} {x : DataW H × List MemPlace} (h : DataW.trod enc P w base spare held fuel U.cl l = some x) : ∃ y : CA, l = elC.c y ∧ elC.ok y w ∧ (Wt P x.1 U.cl → True) := by
  obtain ⟨xs, k, _, hx, hl, hlen, hf⟩ := DataW.trod_struct U.hcl h
  rw [U.ccl] at hl
  obtain ⟨c0, c1, c2, c3, rfl⟩ : ∃ c0 c1 c2 c3, l = [c0, c1, c2, c3] := by
    match l, hl with
    | [c0, c1, c2, c3], _ => exact ⟨_, _, _, _, rfl⟩
  obtain ⟨x0, x1, x2, x3, rfl⟩ : ∃ x0 x1 x2 x3, xs = [x0, x1, x2, x3] := by
    match xs, hlen with
    | [x0, x1, x2, x3], _ => exact ⟨_, _, _, _, rfl⟩
  have e0 := hf 0 U.g0 rfl
  have e1 := hf 1 U.g1 rfl
  have e2 := hf 2 U.g2 rfl
  have e3 := hf 3 U.g3 rfl
  rw [U.p0.1, U.p0.2, T.cu64] at e0
  rw [U.p1.1, U.p1.2, T.cu64] at e1
  rw [U.p2.1, U.p2.2, T.cbys] at e2
  rw [U.p3.1, U.p3.2, T.cprs] at e3
  simp only [List.drop_succ_cons, List.drop_zero, List.take_succ_cons, List.take_zero, List.getElem?_cons_zero, List.getElem?_cons_succ] at e0 e1 e2 e3
  obtain ⟨z0, q0, _, w0⟩ := DataW.trod_int T.hu64 e0
  obtain rfl : c0 = .int .u64 z0 := by simpa using q0
  obtain ⟨z1, q1, _, w1⟩ := DataW.trod_int T.hu64 e1
  obtain rfl : c1 = .int .u64 z1 := by simpa using q1
  obtain ⟨b, rfl, s1, _⟩ := Sl.of_ints T.hbys T.hu8 T.cu8 T.bu8 e2
  obtain ⟨so, sn, sc, sl, rfl, sg, _⟩ := open_gl elP (fun _ => True) T.hprs T.cpr (fun h => open_pre16 T h) e3
  have g0 := nat64 w0
  have g1 := nat64 w1
  refine ⟨⟨z0.toNat, z1.toNat, b, ⟨so, sn, sc, sl⟩⟩, ?_, ⟨by show z0.toNat < _; omega, by show z1.toNat < _; omega, s1, sg⟩, fun _ => trivial⟩
  show _ = CA.cells _
  unfold CA.cells
  simp only
  rw [Int.toNat_of_nonneg g0.1, Int.toNat_of_nonneg g1.1]
def preT16 : P16 Tryd.prog where
  u64 := 25
  bys := 38
  u8 := 5
  pr := 42
  prs := 32
  f0 := { name := "Seq", type := 25, offset := 0, embedded := false, tag := "", pkgPath := "", byteOffset := 0 }
  f1 := { name := "View", type := 25, offset := 1, embedded := false, tag := "", pkgPath := "", byteOffset := 8 }
  f2 := { name := "Sum", type := 38, offset := 2, embedded := false, tag := "", pkgPath := "", byteOffset := 16 }
  hu64 := Tryd.underlying25
  hbys := Tryd.underlying38
  hu8 := Tryd.underlying5
  hpr := Tryd.underlying42
  hprs := Tryd.underlying32
  cu64 := by kernel_rfl
  cbys := by kernel_rfl
  cu8 := by kernel_rfl
  bu8 := by kernel_rfl
  cpr := by kernel_rfl
  cprs := by kernel_rfl
  o0 := ⟨rfl, rfl⟩
  o1 := ⟨rfl, rfl⟩
  o2 := ⟨rfl, rfl⟩
def claimT16 : C16 Tryd.prog preT16 where
  cl := 44
  cls := 22
  g0 := { name := "From", type := 25, offset := 0, embedded := false, tag := "", pkgPath := "", byteOffset := 0 }
  g1 := { name := "Low", type := 25, offset := 1, embedded := false, tag := "", pkgPath := "", byteOffset := 8 }
  g2 := { name := "Low0", type := 38, offset := 2, embedded := false, tag := "", pkgPath := "", byteOffset := 16 }
  g3 := { name := "Pres", type := 32, offset := 3, embedded := false, tag := "", pkgPath := "", byteOffset := 40 }
  hcl := Tryd.underlying44
  hcls := Tryd.underlying22
  ccl := by kernel_rfl
  p0 := ⟨rfl, rfl⟩
  p1 := ⟨rfl, rfl⟩
  p2 := ⟨rfl, rfl⟩
  p3 := ⟨rfl, rfl⟩
theorem open_claims16 {fuel : Nat} {v : Value} {x : DataW H × List MemPlace} {w : World} (h : DataW.trod enc Tryd.prog w base spare held fuel 22 [v] = some x) : ∃ (ao : Option Addr) (n cap : Nat) (l : List CA), v = .slice ao n cap ∧ GL elC w ao n cap l := by
  obtain ⟨ao, n, cap, l, e, g, _⟩ := open_gl elC (fun _ => True) (t := 44) Tryd.underlying22 claimT16.ccl (fun h => open_claim16 preT16 claimT16 h) h
  exact ⟨ao, n, cap, l, e, g⟩
end Go.Proofs.YtdcebokfnbgkaaaDoor
namespace Go.Proofs.YtdcebokfnbgkaaaDoor
open Go.RowKit
abbrev laidL : List (String × DataW Unit) := [("bulwark/digest.firstWords", Rows.laid_bulwark_digest_firstWords), ("bulwark/digest.roundWords", Rows.laid_bulwark_digest_roundWords)]
theorem gFirst : Tryd.prog.globalNamed "bulwark/digest.firstWords" = some 1 := by kernel_rfl
theorem gRound : Tryd.prog.globalNamed "bulwark/digest.roundWords" = some 0 := by kernel_rfl
theorem tFirst : (Tryd.prog.globals[1]?).map (·.type) = some 86 := by kernel_rfl
theorem tRound : (Tryd.prog.globals[0]?).map (·.type) = some 101 := by kernel_rfl
theorem laidL_plain : (laidL.all fun x => x.2.handleName?.isNone) = true := by kernel_rfl
theorem all_met (os : Os) (args : Array Value) : laidMetH Tryd.prog laidL ((World.laidAll Tryd.prog os laidL).forCall (fun _ _ => 0) ⟨#[], args, []⟩).memory := by
  rw [MakeChecks.laidMetH_plain _ _ _ laidL_plain]
  exact laidMet_laidAll _ (by kernel_rfl) (by kernel_rfl)
theorem words_of {H : Type} {enc : TypeId × Value → H} {w : World} {base : Nat} {sp : Nat → Bool} {held : Bool} {fuel n : Nat} {t : TypeId} {cs : List Value} {zs : List Int} {p : List MemPlace}
    (ht : Tryd.prog.underlying t = some (.array n 85)) (h : DataW.trod enc Tryd.prog w base sp held fuel t cs = some (.agg (zs.map fun z => .lit (.int .u32 z)), p)) (hz : zs.length = n) :
    ∀ (j : Nat) (v : Value), (wv zs)[j]? = some v → cs[j]? = some v := by
  intro j v hv
  have hj : j < zs.length := by have := (List.getElem?_eq_some_iff.1 hv).1; rwa [wv_length] at this
  rw [wv_get zs j hj] at hv
  obtain rfl := Option.some.inj hv
  obtain ⟨f', d, q, hd, he⟩ := Lib.array_elem ht h j (by omega)
  have c1 : Tryd.prog.cellsOf 85 = 1 := by kernel_rfl
  rw [c1, Nat.mul_one] at he
  obtain ⟨k, e1, e2, _⟩ := DataW.trod_int Tryd.underlying85 he
  simp only [Prod.mk.injEq] at e2
  rw [e2.1] at hd
  simp only [List.getElem?_map, List.getElem?_eq_getElem hj, Option.map_some, Option.some.injEq, DataW.lit.injEq, Lit.int.injEq, true_and] at hd
  have : (cs.drop j)[0]? = some (.int .u32 k) := by
    have := congrArg (fun l : List Value => l[0]?) e1
    simpa [List.getElem?_take] using this
  rw [List.getElem?_drop, Nat.add_zero] at this
  rw [this, ← hd]
  simp [List.getD, hj]
theorem tabs_of {W : World} (h : laidMetH Tryd.prog laidL W) : Tabs W := by
  rw [MakeChecks.laidMetH_plain _ _ _ laidL_plain] at h
  obtain ⟨ps, ⟨g0, t0, cs0, f0, p0, q0, hg0, ht0, hv0, hd0, ⟨g1, t1, cs1, f1, p1, q1, hg1, ht1, hv1, hd1, _, _⟩, _⟩, _, _⟩ := h
  obtain rfl := Option.some.inj (gFirst.symm.trans hg0)
  obtain rfl := Option.some.inj (gRound.symm.trans hg1)
  obtain rfl := Option.some.inj (tFirst.symm.trans ht0)
  obtain rfl := Option.some.inj (tRound.symm.trans ht1)
  have hA := words_of (zs := H0) Tryd.underlying86 hd0 rfl
  have hB := words_of (zs := K0) Tryd.underlying101 hd1 rfl
  have cA : ∀ j v, (wv H0)[j]? = some v → W.cell? ⟨1, j, none⟩ = some v := fun j v hv => by
    rw [World.var?_cell hg0 hv0 j]
    simpa using hA j v hv
  refine ⟨cA, fun j v hv => ?_, ?_⟩
  · rw [World.var?_cell hg1 hv1 j]
    simpa using hB j v hv
  · have := block_lt_of_cell (cA 0 _ rfl)
    exact this
end Go.Proofs.YtdcebokfnbgkaaaDoor

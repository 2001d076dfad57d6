/-
  Slices of whatever elements that come in; signed texts, and lists of them.
-/
import Derived.Test.YtghemebgkhopnaaOWt
import Derived.Test.YtghemebgkhopnaaSgMem
namespace Go.Proofs.Ytghemebgkhopnaa
open Go.RowKit Go.ChangeShapes Go.WideShapes

variable {H : Type} {enc : TypeId × Value → H} {P : Program} {w : World} {base : Nat} {spare : Nat → Bool} {held : Bool}
theorem open_gl {α : Type} (E : El α) (N : α → Prop) {sl t : TypeId} (hsl : P.underlying sl = some (.slice t)) (ct : P.cellsOf t = E.sz)
    (one : ∀ {fuel : Nat} {l : List Value} {x : DataW H × List MemPlace}, DataW.trod enc P w base spare held fuel t l = some x → ∃ y, l = E.c y ∧ E.ok y w ∧ (Wt P x.1 t → N y))
    {fuel : Nat} {v : Value} {x : DataW H × List MemPlace} (h : DataW.trod enc P w base spare held fuel sl [v] = some x) :
    ∃ (ao : Option Addr) (n cap : Nat) (l : List α), v = .slice ao n cap ∧ GL E w ao n cap l ∧ (Wt P x.1 sl → ∀ y ∈ l, N y) := by
  rcases Deep.open_slice hsl h with ⟨hcs, _⟩ | ⟨a, l, c, m, n, D, Pl, hcs, _, hl, hm, hmm, hy0, hx⟩
  · exact ⟨none, 0, 0, [], by simpa using hcs, GL.nothing _ _, fun _ _ h => absurd h List.not_mem_nil⟩
  · have hlm : l ≤ m := by rw [hmm]; split <;> omega
    obtain ⟨z, hz1, hz2⟩ := gather_list (p := fun i (y : α) => (∀ j v, (E.c y)[j]? = some v → w.cell? (a.add (i * E.sz + j)) = some v) ∧ E.ok y w ∧ (Wt P (D i) t → N y)) l (fun i hi => by
      obtain ⟨cs', h1, h2⟩ := hx i (by omega)
      rw [ct] at h1
      obtain ⟨_, hlen, hcell⟩ := World.cells?_some h1
      obtain ⟨y, e1, w1, n1⟩ := one h2
      refine ⟨y, fun j v hv => ?_, w1, n1⟩
      rw [← e1] at hv
      have hj : j < cs'.length := (List.getElem?_eq_some_iff.1 hv).1
      have := hcell j (by omega)
      rw [Deep.add_add, hv] at this
      exact this)
    refine ⟨some a, l, c, z, by simpa using hcs, ⟨hz1, hl, hm, fun h => by simp at h, fun b hb i hi => ?_, fun q hq => ?_⟩, fun hwt y hy => ?_⟩
    · obtain rfl := Option.some.inj hb
      exact (hz2 i hi).1
    · obtain ⟨i, hi, rfl⟩ := List.getElem_of_mem hq
      exact (hz2 i hi).2.1
    · obtain ⟨i, hi, rfl⟩ := List.getElem_of_mem hy
      refine (hz2 i hi).2.2 fun n hn2 => hwt n ?_
      rw [hy0]
      simp only [DataW.weights, hsl]
      refine List.mem_cons_of_mem _ (List.mem_append_left _ (weights_mem_all (j := i) ?_ n hn2))
      rw [List.getElem?_map, List.getElem?_range (by omega)]
      rfl
/-- The types of signed texts, as a program has them. -/
structure SgTypes (P : Program) where
  u64 : TypeId
  bys : TypeId
  u8 : TypeId
  sg : TypeId
  f0 : Field
  f1 : Field
  f2 : Field
  hu64 : P.underlying u64 = some (.int .u64)
  hbys : P.underlying bys = some (.slice u8)
  hu8 : P.underlying u8 = some (.int .u8)
  hsg : P.underlying sg = some (.struct #[f0, f1, f2])
  cu64 : P.cellsOf u64 = 1
  cbys : P.cellsOf bys = 1
  cu8 : P.cellsOf u8 = 1
  bu8 : P.bytesOf u8 = 1
  csg : P.cellsOf sg = 3
  o0 : f0.type = u64 ∧ f0.offset = 0
  o1 : f1.type = bys ∧ f1.offset = 1
  o2 : f2.type = bys ∧ f2.offset = 2
theorem open_sa (T : SgTypes P) {fuel : Nat} {l : List Value} {x : DataW H × List MemPlace} (h : DataW.trod enc P w base spare held fuel T.sg l = some x) : ∃ y : SA, l = y.cells ∧ y.ok w := by
  obtain ⟨xs, k, _, hx, hl, hlen, hf⟩ := DataW.trod_struct T.hsg h
  rw [T.csg] at hl
  obtain ⟨c0, c1, c2, rfl⟩ : ∃ c0 c1 c2, l = [c0, c1, c2] := by
    match l, hl with
    | [c0, c1, c2], _ => exact ⟨_, _, _, rfl⟩
  obtain ⟨x0, x1, x2, rfl⟩ : ∃ x0 x1 x2, xs = [x0, x1, x2] := by
    match xs, hlen with
    | [x0, x1, x2], _ => exact ⟨_, _, _, rfl⟩
  have e0 := hf 0 T.f0 rfl
  have e1 := hf 1 T.f1 rfl
  have e2 := hf 2 T.f2 rfl
  rw [T.o0.1, T.o0.2, T.cu64] at e0
  rw [T.o1.1, T.o1.2, T.cbys] at e1
  rw [T.o2.1, T.o2.2, T.cbys] at e2
  simp only [List.drop_succ_cons, List.drop_zero, List.take_succ_cons, List.take_zero, List.getElem?_cons_zero, List.getElem?_cons_succ] at e0 e1 e2
  obtain ⟨z0, q0, _, w0⟩ := DataW.trod_int T.hu64 e0
  obtain rfl : c0 = .int .u64 z0 := by simpa using q0
  obtain ⟨b1, rfl, s1, _⟩ := Sl.of_ints T.hbys T.hu8 T.cu8 T.bu8 e1
  obtain ⟨b2, rfl, s2, _⟩ := Sl.of_ints T.hbys T.hu8 T.cu8 T.bu8 e2
  have g0 : 0 ≤ z0 ∧ z0 < 18446744073709551616 := by
    simp [Lit.wf, IntKind.min, IntKind.max, IntKind.signed, IntKind.bits] at w0
    omega
  refine ⟨⟨z0.toNat, b1, b2⟩, ?_, ⟨by show z0.toNat < _; omega, s1, s2⟩⟩
  unfold SA.cells
  simp only
  rw [Int.toNat_of_nonneg g0.1]
end Go.Proofs.Ytghemebgkhopnaa

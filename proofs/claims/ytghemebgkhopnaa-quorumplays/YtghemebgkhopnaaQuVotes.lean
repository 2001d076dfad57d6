/-
  The reference's votes, that come in.
-/
import Derived.Test.YtghemebgkhopnaaGOpen
namespace Go.Proofs.Ytghemebgkhopnaa
open Go.RowKit Go.ChangeShapes Go.WideShapes

/-- A vote as it comes. -/
structure VA where
  s : SA
  word : Bs
def VA.cells (v : VA) : List Value := [.int .u64 v.s.fr, .slice v.s.b.ao v.s.b.n v.s.b.cap, .slice v.s.tag.ao v.s.tag.n v.s.tag.cap, .slice v.word.ao v.word.n v.word.cap]
structure VA.ok (v : VA) (w : World) : Prop where
  s : v.s.ok w
  word : Sl w v.word.ao v.word.n v.word.cap v.word.xs
def VA.blk (v : VA) (z : Nat) : Prop := elS.blk v.s z ∨ v.word.blk z
def elV : El VA := ⟨VA.cells, 4, VA.ok, VA.blk⟩
theorem elV_fine : elV.Fine := by
  refine ⟨fun _ => rfl, by decide, fun x u hu => ?_, fun x w w' h hk => ⟨elS_fine.kept x.s w w' h.s fun z hz => hk z (.inl hz), h.word.kept fun z hz => hk z (.inr hz)⟩, fun x w z h hz => ?_⟩
  · have hu : u ∈ x.cells := hu
    unfold VA.cells at hu
    simp only [List.mem_cons, List.not_mem_nil, or_false] at hu
    rcases hu with rfl | rfl | rfl | rfl <;> rfl
  · rcases hz with hz | hz
    · exact elS_fine.lt x.s w z h.s hz
    · exact h.word.blk_lt hz
structure VX (V : World) (b p : Nat) (v : VA) : Prop where
  c0 : V.cell? ⟨b, p, none⟩ = some (.int .u64 v.s.fr)
  c1 : V.cell? ⟨b, p + 1, none⟩ = some (.slice v.s.b.ao v.s.b.n v.s.b.cap)
  c2 : V.cell? ⟨b, p + 2, none⟩ = some (.slice v.s.tag.ao v.s.tag.n v.s.tag.cap)
  c3 : V.cell? ⟨b, p + 3, none⟩ = some (.slice v.word.ao v.word.n v.word.cap)
theorem GL.atV {w : World} {ao : Option Addr} {n cap : Nat} {l : List VA} (h : GL elV w ao n cap l) (hn : 0 < n) :
    ∃ b off, ao = some ⟨b, off, none⟩ ∧ ∀ i (hi : i < l.length), VX w b (off + i * 4) l[i] := by
  obtain ⟨b, off, e, k⟩ := h.pl elV_fine hn
  exact ⟨b, off, e, fun i hi => ⟨k i hi 0 _ rfl, k i hi 1 _ rfl, k i hi 2 _ rfl, k i hi 3 _ rfl⟩⟩
structure VtTypes (P : Program) (T : SgTypes P) where
  vt : TypeId
  v0 : Field
  v1 : Field
  hvt : P.underlying vt = some (.struct #[v0, v1])
  cvt : P.cellsOf vt = 4
  p0 : v0.type = T.sg ∧ v0.offset = 0
  p1 : v1.type = T.bys ∧ v1.offset = 3
variable {H : Type} {enc : TypeId × Value → H} {P : Program} {w : World} {base : Nat} {spare : Nat → Bool} {held : Bool}
theorem open_va (T : SgTypes P) (U : VtTypes P T) {fuel : Nat} {l : List Value} {x : DataW H × List MemPlace} (h : DataW.trod enc P w base spare held fuel U.vt l = some x) : ∃ y : VA, l = elV.c y ∧ elV.ok y w ∧ (Wt P x.1 U.vt → True) := by
  obtain ⟨xs, k, _, hx, hl, hlen, hf⟩ := DataW.trod_struct U.hvt h
  rw [U.cvt] at hl
  obtain ⟨c0, c1, c2, c3, rfl⟩ : ∃ c0 c1 c2 c3, l = [c0, c1, c2, c3] := by
    match l, hl with
    | [c0, c1, c2, c3], _ => exact ⟨_, _, _, _, rfl⟩
  obtain ⟨x0, x1, rfl⟩ : ∃ x0 x1, xs = [x0, x1] := by
    match xs, hlen with
    | [x0, x1], _ => exact ⟨_, _, rfl⟩
  have e0 := hf 0 U.v0 rfl
  have e1 := hf 1 U.v1 rfl
  rw [U.p0.1, U.p0.2, T.csg] at e0
  rw [U.p1.1, U.p1.2, T.cbys] at e1
  simp only [List.drop_succ_cons, List.drop_zero, List.take_succ_cons, List.take_zero, List.getElem?_cons_zero, List.getElem?_cons_succ] at e0 e1
  obtain ⟨y, ey, oy⟩ := open_sa T e0
  obtain ⟨b, rfl, s1, _⟩ := Sl.of_ints T.hbys T.hu8 T.cu8 T.bu8 e1
  unfold SA.cells at ey
  simp only [List.cons.injEq, and_true] at ey
  obtain ⟨rfl, rfl, rfl⟩ := ey
  exact ⟨⟨y, b⟩, rfl, ⟨oy, s1⟩, fun _ => trivial⟩
def sgT : SgTypes Try.prog where
  u64 := 22
  bys := 28
  u8 := 5
  sg := 34
  f0 := { name := "From", type := 22, offset := 0, embedded := false, tag := "", pkgPath := "", byteOffset := 0 }
  f1 := { name := "B", type := 28, offset := 1, embedded := false, tag := "", pkgPath := "", byteOffset := 8 }
  f2 := { name := "Tag", type := 28, offset := 2, embedded := false, tag := "", pkgPath := "", byteOffset := 32 }
  hu64 := Try.underlying22
  hbys := Try.underlying28
  hu8 := Try.underlying5
  hsg := Try.underlying34
  cu64 := by kernel_rfl
  cbys := by kernel_rfl
  cu8 := by kernel_rfl
  bu8 := by kernel_rfl
  csg := by kernel_rfl
  o0 := ⟨rfl, rfl⟩
  o1 := ⟨rfl, rfl⟩
  o2 := ⟨rfl, rfl⟩
def vtT : VtTypes Try.prog sgT where
  vt := 36
  v0 := { name := "S", type := 34, offset := 0, embedded := false, tag := "", pkgPath := "", byteOffset := 0 }
  v1 := { name := "Word", type := 28, offset := 3, embedded := false, tag := "", pkgPath := "", byteOffset := 56 }
  hvt := Try.underlying36
  cvt := by kernel_rfl
  p0 := ⟨rfl, rfl⟩
  p1 := ⟨rfl, rfl⟩
theorem open_votes {fuel : Nat} {v : Value} {x : DataW H × List MemPlace} {w : World} (h : DataW.trod enc Try.prog w base spare held fuel 27 [v] = some x) : ∃ (ao : Option Addr) (n cap : Nat) (l : List VA), v = .slice ao n cap ∧ GL elV w ao n cap l := by
  obtain ⟨ao, n, cap, l, e, g, _⟩ := open_gl elV (fun _ => True) (t := 36) Try.underlying27 vtT.cvt (fun h => open_va sgT vtT h) h
  exact ⟨ao, n, cap, l, e, g⟩
end Go.Proofs.Ytghemebgkhopnaa

/-
  Texts in one: RMem, SeOpen, CKA.
-/
import Derived.Test.YtlgafjalcpjelaaDoorSessionPlaysQ0
import Derived.Lib.SmallJoins
namespace Go.Proofs.YtlgafjalcpjelaaDoor
open Go.RowKit Go.ChangeShapes Go.WideShapes
structure CA where
  row : ByteArray
  fam : ByteArray
  qual : ByteArray
  time : Nat
  va : Bs
  gone : Bool
def CA.cells (c : CA) : List Value := [.string c.row, .string c.fam, .string c.qual, .int .u64 c.time, .slice c.va.ao c.va.n c.va.cap, .bool c.gone]
def CA.c (c : CA) : CV := ⟨c.row, c.fam, c.qual, c.time, c.va.xs, c.gone⟩
structure CA.ok (c : CA) (w : World) : Prop where
  row : c.row.size ≤ maxLen
  fam : c.fam.size ≤ maxLen
  qual : c.qual.size ≤ maxLen
  time : c.time < 18446744073709551616
  va : Sl w c.va.ao c.va.n c.va.cap c.va.xs
structure CA.small (c : CA) : Prop where
  row : c.row.size ≤ 140737488351232
  fam : c.fam.size ≤ 140737488351232
  qual : c.qual.size ≤ 140737488351232
  va : c.va.n ≤ 140737488351232
theorem CA.ok.below {c : CA} {w w' : World} (h : c.ok w) (hb : Below w.heap.size w w') : c.ok w' := ⟨h.row, h.fam, h.qual, h.time, h.va.below hb⟩
theorem CA.ok.wf {c : CA} {w : World} (h : c.ok w) : c.c.wf := ⟨h.time, h.va.byte⟩
structure CL (w : World) (ao : Option Addr) (n cap : Nat) (l : List CA) : Prop where
  len : l.length = n
  le : n ≤ cap
  mx : cap ≤ maxLen
  nil : ao = none → n = 0 ∧ cap = 0
  cell : ∀ a, ao = some a → ∀ i (h : i < l.length), ∀ j v, l[i].cells[j]? = some v → w.cell? (a.add (i * 6 + j)) = some v
  ok : ∀ c ∈ l, c.ok w
theorem CL.nothing (w : World) : CL w none 0 0 [] := ⟨rfl, Nat.le_refl _, Nat.zero_le _, fun _ => ⟨rfl, rfl⟩, fun _ h => by simp at h, fun _ h => by simp at h⟩
theorem CL.below {w w' : World} {ao : Option Addr} {n cap : Nat} {l : List CA} (h : CL w ao n cap l) (hb : Below w.heap.size w w') : CL w' ao n cap l :=
  ⟨h.len, h.le, h.mx, h.nil, fun a ha i hi j v hv => (hb.cell (World.block_lt_of_cell? w _ (h.cell a ha i hi j v hv))).trans (h.cell a ha i hi j v hv), fun c hc => (h.ok c hc).below hb⟩
variable {H : Type} {enc : TypeId × Value → H} {P : Program} {w : World} {base : Nat} {spare : Nat → Bool} {held : Bool}
open Go.RowKit Go.ChangeShapes Go.WideShapes
structure ResTypes (P : Program) where
  key : TypeId
  str : TypeId
  u64 : TypeId
  bys : TypeId
  u8 : TypeId
  bool : TypeId
  cel : TypeId
  cels : TypeId
  knd : TypeId
  res : TypeId
  g0 : Field
  g1 : Field
  g2 : Field
  g3 : Field
  f0 : Field
  f1 : Field
  f2 : Field
  r0 : Field
  r1 : Field
  r2 : Field
  hkey : P.underlying key = some (.struct #[g0, g1, g2, g3])
  hstr : P.underlying str = some .string
  hu64 : P.underlying u64 = some (.int .u64)
  hbys : P.underlying bys = some (.slice u8)
  hu8 : P.underlying u8 = some (.int .u8)
  hbool : P.underlying bool = some .bool
  hcel : P.underlying cel = some (.struct #[f0, f1, f2])
  hcels : P.underlying cels = some (.slice cel)
  hknd : P.underlying knd = some (.int .i64)
  hres : P.underlying res = some (.struct #[r0, r1, r2])
  ckey : P.cellsOf key = 4
  cstr : P.cellsOf str = 1
  cu64 : P.cellsOf u64 = 1
  cbys : P.cellsOf bys = 1
  cu8 : P.cellsOf u8 = 1
  bu8 : P.bytesOf u8 = 1
  cbool : P.cellsOf bool = 1
  ccel : P.cellsOf cel = 6
  ccels : P.cellsOf cels = 1
  cknd : P.cellsOf knd = 1
  cres : P.cellsOf res = 3
  p0 : g0.type = str ∧ g0.offset = 0
  p1 : g1.type = str ∧ g1.offset = 1
  p2 : g2.type = str ∧ g2.offset = 2
  p3 : g3.type = u64 ∧ g3.offset = 3
  o0 : f0.type = key ∧ f0.offset = 0
  o1 : f1.type = bys ∧ f1.offset = 4
  o2 : f2.type = bool ∧ f2.offset = 5
  q0 : r0.type = knd ∧ r0.offset = 0
  q1 : r1.type = cels ∧ r1.offset = 1
  q2 : r2.type = bool ∧ r2.offset = 2
variable {H : Type} {enc : TypeId × Value → H} {P : Program} {w : World} {base : Nat} {spare : Nat → Bool} {held : Bool}
set_option maxHeartbeats 1000000 in
theorem open_cellS (T : ResTypes P) {fuel : Nat} {cs : List Value} {x : DataW H × List MemPlace} (h : DataW.trod enc P w base spare held fuel T.cel cs = some x) : ∃ c : CA, cs = c.cells ∧ c.ok w ∧ (Wt P x.1 T.cel → c.small) := by
  obtain ⟨xs, k, _, hx, hl, hlen, hf⟩ := DataW.trod_struct T.hcel h
  rw [T.ccel] at hl
  obtain ⟨c0, c1, c2, c3, c4, c5, rfl⟩ : ∃ c0 c1 c2 c3 c4 c5, cs = [c0, c1, c2, c3, c4, c5] := by
    match cs, hl with
    | [c0, c1, c2, c3, c4, c5], _ => exact ⟨_, _, _, _, _, _, rfl⟩
  obtain ⟨x0, x1, x2, rfl⟩ : ∃ x0 x1 x2, xs = [x0, x1, x2] := by
    match xs, hlen with
    | [x0, x1, x2], _ => exact ⟨_, _, _, rfl⟩
  have e0 := hf 0 T.f0 rfl
  have e1 := hf 1 T.f1 rfl
  have e2 := hf 2 T.f2 rfl
  rw [T.o0.1, T.o0.2, T.ckey] at e0
  rw [T.o1.1, T.o1.2, T.cbys] at e1
  rw [T.o2.1, T.o2.2, T.cbool] at e2
  simp only [List.drop_succ_cons, List.drop_zero, List.take_succ_cons, List.take_zero, List.getElem?_cons_zero, List.getElem?_cons_succ] at e0 e1 e2
  obtain ⟨ys, k2, _, hx2, _, hlen2, hf2⟩ := DataW.trod_struct T.hkey e0
  obtain ⟨y0, y1, y2, y3, rfl⟩ : ∃ y0 y1 y2 y3, ys = [y0, y1, y2, y3] := by
    match ys, hlen2 with
    | [y0, y1, y2, y3], _ => exact ⟨_, _, _, _, rfl⟩
  have d0 := hf2 0 T.g0 rfl
  have d1 := hf2 1 T.g1 rfl
  have d2 := hf2 2 T.g2 rfl
  have d3 := hf2 3 T.g3 rfl
  rw [T.p0.1, T.p0.2, T.cstr] at d0
  rw [T.p1.1, T.p1.2, T.cstr] at d1
  rw [T.p2.1, T.p2.2, T.cstr] at d2
  rw [T.p3.1, T.p3.2, T.cu64] at d3
  simp only [List.drop_succ_cons, List.drop_zero, List.take_succ_cons, List.take_zero, List.getElem?_cons_zero, List.getElem?_cons_succ] at d0 d1 d2 d3
  obtain ⟨rw_, q1, r1, w1⟩ := DataW.trod_string T.hstr d0
  obtain rfl : c0 = .string rw_ := by simpa using q1
  obtain ⟨fm, q2, r2, w2⟩ := DataW.trod_string T.hstr d1
  obtain rfl : c1 = .string fm := by simpa using q2
  obtain ⟨ql, q3, r3, w3⟩ := DataW.trod_string T.hstr d2
  obtain rfl : c2 = .string ql := by simpa using q3
  obtain ⟨tm, q4, _, w4⟩ := DataW.trod_int T.hu64 d3
  obtain rfl : c3 = .int .u64 tm := by simpa using q4
  obtain ⟨va, q6, s6, sv⟩ := Sl.of_ints T.hbys T.hu8 T.cu8 T.bu8 e1
  obtain ⟨gn, q8, _⟩ := DataW.trod_bool T.hbool e2
  obtain rfl : c5 = .bool gn := by simpa using q8
  have gt : 0 ≤ tm ∧ tm < 18446744073709551616 := by
    simp [Lit.wf, IntKind.min, IntKind.max, IntKind.signed, IntKind.bits] at w4
    omega
  have ez : ((tm.toNat : Nat) : Int) = tm := Int.toNat_of_nonneg gt.1
  subst q6
  refine ⟨⟨rw_, fm, ql, tm.toNat, va, gn⟩, ?_, ⟨w1, w2, w3, by show tm.toNat < _; omega, s6⟩, fun hwt => ?_⟩
  · simp [CA.cells, ez]
  · rw [hx] at hwt
    have hk := hwt.field T.hcel 0 (u := T.key) (by simp [T.o0.1]) rfl
    rw [hx2] at hk
    have g0 := hk.field T.hkey 0 (u := T.str) (by simp [T.p0.1]) rfl
    have g1 := hk.field T.hkey 1 (u := T.str) (by simp [T.p1.1]) rfl
    have g2 := hk.field T.hkey 2 (u := T.str) (by simp [T.p2.1]) rfl
    rw [r1] at g0
    rw [r2] at g1
    rw [r3] at g2
    exact ⟨g0.text, g1.text, g2.text, sv (hwt.field T.hcel 1 (u := T.bys) (by simp [T.o1.1]) rfl)⟩
theorem open_cellsS (T : ResTypes P) {fuel : Nat} {v : Value} {x : DataW H × List MemPlace} (h : DataW.trod enc P w base spare held fuel T.cels [v] = some x) : ∃ ao n cap l, v = .slice ao n cap ∧ CL w ao n cap l ∧ (Wt P x.1 T.cels → ∀ c ∈ l, c.small) := by
  rcases Deep.open_slice T.hcels h with ⟨hcs, _⟩ | ⟨a, l, c, m, n, D, Pl, hcs, _, hl, hm, hmm, hy0, hx⟩
  · exact ⟨none, 0, 0, [], by simpa using hcs, CL.nothing w, fun _ _ h => by simp at h⟩
  · have hlm : l ≤ m := by rw [hmm]; split <;> omega
    obtain ⟨z, hz1, hz2⟩ := gather_list (p := fun i y => ((∀ j v, (CA.cells y)[j]? = some v → w.cell? (a.add (i * 6 + j)) = some v) ∧ CA.ok y w) ∧ (Wt P (D i) T.cel → CA.small y)) l (fun i hi => by
      obtain ⟨cs', h1, h2⟩ := hx i (by omega)
      rw [T.ccel] at h1
      obtain ⟨_, hlen, hcell⟩ := World.cells?_some h1
      obtain ⟨y, e1, w1, sm1⟩ := open_cellS T h2
      refine ⟨y, ⟨fun j v hv => ?_, w1⟩, sm1⟩
      rw [← e1] at hv
      have hj : j < cs'.length := (List.getElem?_eq_some_iff.1 hv).1
      have := hcell j (by omega)
      rw [Deep.add_add, hv] at this
      exact this)
    refine ⟨some a, l, c, z, by simpa using hcs, ⟨hz1, hl, hm, fun h => by simp at h, fun b hb i hi => ?_, fun y hy => ?_⟩, fun hwt y hy => ?_⟩
    · obtain rfl := Option.some.inj hb
      exact (hz2 i hi).1.1
    · obtain ⟨i, hi, rfl⟩ := List.getElem_of_mem hy
      exact (hz2 i hi).1.2
    · obtain ⟨i, hi, rfl⟩ := List.getElem_of_mem hy
      refine (hz2 i hi).2 fun n hn2 => hwt n ?_
      rw [hy0]
      simp only [DataW.weights, T.hcels]
      refine List.mem_cons_of_mem _ (List.mem_append_left _ (weights_mem_all (j := i) ?_ n hn2))
      rw [List.getElem?_map, List.getElem?_range (by omega)]
      rfl
theorem open_resS (T : ResTypes P) {fuel : Nat} {l : List Value} {x : DataW H × List MemPlace} (h : DataW.trod enc P w base spare held fuel T.res l = some x) :
    ∃ (e : Int) (ao : Option Addr) (n cap : Nat) (cs : List CA) (m : Bool), l = [.int .i64 e, .slice ao n cap, .bool m] ∧ CL w ao n cap cs ∧ (Wt P x.1 T.res → ∀ c ∈ cs, c.small) := by
  obtain ⟨xs, k, _, hx, hl, hlen, hfl⟩ := DataW.trod_struct T.hres h
  rw [T.cres] at hl
  obtain ⟨x0, x1, x2, rfl⟩ : ∃ x0 x1 x2, xs = [x0, x1, x2] := by
    match xs, hlen with
    | [x0, x1, x2], _ => exact ⟨_, _, _, rfl⟩
  have e0 := hfl 0 T.r0 rfl
  have e1 := hfl 1 T.r1 rfl
  have e2 := hfl 2 T.r2 rfl
  rw [T.q0.1, T.q0.2, T.cknd] at e0
  rw [T.q1.1, T.q1.2, T.ccels] at e1
  rw [T.q2.1, T.q2.2, T.cbool] at e2
  obtain ⟨a, b, c, rfl⟩ : ∃ a b c, l = [a, b, c] := by
    match l, hl with
    | [a, b, c], _ => exact ⟨_, _, _, rfl⟩
  simp only [List.drop_succ_cons, List.drop_zero, List.take_succ_cons, List.take_zero, List.getElem?_cons_zero, List.getElem?_cons_succ] at e0 e1 e2
  obtain ⟨z0, q0, _, w0⟩ := DataW.trod_int T.hknd e0
  obtain rfl : a = .int .i64 z0 := by simpa using q0
  obtain ⟨ao, n, cap, cl, rfl, hcl, sm⟩ := open_cellsS T e1
  obtain ⟨m, q2, _⟩ := DataW.trod_bool T.hbool e2
  obtain rfl : c = .bool m := by simpa using q2
  refine ⟨z0, ao, n, cap, cl, m, rfl, hcl, fun hwt => ?_⟩
  rw [hx] at hwt
  exact sm (hwt.field T.hres 1 (u := T.cels) (by simp [T.q1.1]) rfl)
structure LA where
  cl : Nat
  st : Nat
  e : Int
  ao : Option Addr
  n : Nat
  cap : Nat
  cs : List CA
  m : Bool
def LA.cells (y : LA) : List Value := [.int .u64 y.cl, .int .u64 y.st, .int .i64 y.e, .slice y.ao y.n y.cap, .bool y.m]
structure LA.ok (y : LA) (w : World) : Prop where
  cl : y.cl < 18446744073709551616
  st : y.st < 18446744073709551616
  cs : CL w y.ao y.n y.cap y.cs
def LA.small (y : LA) : Prop := ∀ c ∈ y.cs, c.small
theorem LA.ok.below {y : LA} {w w' : World} (h : y.ok w) (hb : Below w.heap.size w w') : y.ok w' := ⟨h.cl, h.st, h.cs.below hb⟩
structure LL12 (w : World) (ao : Option Addr) (n cap : Nat) (l : List LA) : Prop where
  len : l.length = n
  le : n ≤ cap
  mx : cap ≤ maxLen
  nil : ao = none → n = 0 ∧ cap = 0
  cell : ∀ a, ao = some a → ∀ i (h : i < l.length), ∀ j v, l[i].cells[j]? = some v → w.cell? (a.add (i * 5 + j)) = some v
  ok : ∀ y ∈ l, y.ok w
theorem LL12.nothing (w : World) : LL12 w none 0 0 [] := ⟨rfl, Nat.le_refl _, Nat.zero_le _, fun _ => ⟨rfl, rfl⟩, fun _ h => by simp at h, fun _ h => by simp at h⟩
theorem LL12.below {w w' : World} {ao : Option Addr} {n cap : Nat} {l : List LA} (h : LL12 w ao n cap l) (hb : Below w.heap.size w w') : LL12 w' ao n cap l :=
  ⟨h.len, h.le, h.mx, h.nil, fun a ha i hi j v hv => (hb.cell (World.block_lt_of_cell? w _ (h.cell a ha i hi j v hv))).trans (h.cell a ha i hi j v hv), fun y hy => (h.ok y hy).below hb⟩
structure LastTypes (P : Program) (T : ResTypes P) where
  last : TypeId
  lasts : TypeId
  f0 : Field
  f1 : Field
  f2 : Field
  hlast : P.underlying last = some (.struct #[f0, f1, f2])
  hlasts : P.underlying lasts = some (.slice last)
  clast : P.cellsOf last = 5
  o0 : f0.type = T.u64 ∧ f0.offset = 0
  o1 : f1.type = T.u64 ∧ f1.offset = 1
  o2 : f2.type = T.res ∧ f2.offset = 2
theorem open_last (T : ResTypes P) (M : LastTypes P T) {fuel : Nat} {l : List Value} {x : DataW H × List MemPlace} (h : DataW.trod enc P w base spare held fuel M.last l = some x) : ∃ y : LA, l = y.cells ∧ y.ok w ∧ (Wt P x.1 M.last → y.small) := by
  obtain ⟨xs, k, _, hx, hl, hlen, hfl⟩ := DataW.trod_struct M.hlast h
  rw [M.clast] at hl
  obtain ⟨x0, x1, x2, rfl⟩ : ∃ x0 x1 x2, xs = [x0, x1, x2] := by
    match xs, hlen with
    | [x0, x1, x2], _ => exact ⟨_, _, _, rfl⟩
  have e0 := hfl 0 M.f0 rfl
  have e1 := hfl 1 M.f1 rfl
  have e2 := hfl 2 M.f2 rfl
  rw [M.o0.1, M.o0.2, T.cu64] at e0
  rw [M.o1.1, M.o1.2, T.cu64] at e1
  rw [M.o2.1, M.o2.2, T.cres] at e2
  obtain ⟨a, b, c, d, e, rfl⟩ : ∃ a b c d e, l = [a, b, c, d, e] := by
    match l, hl with
    | [a, b, c, d, e], _ => exact ⟨_, _, _, _, _, rfl⟩
  simp only [List.drop_succ_cons, List.drop_zero, List.take_succ_cons, List.take_zero, List.getElem?_cons_zero, List.getElem?_cons_succ] at e0 e1 e2
  obtain ⟨z0, q0, _, w0⟩ := DataW.trod_int T.hu64 e0
  obtain ⟨z1, q1, _, w1⟩ := DataW.trod_int T.hu64 e1
  obtain rfl : a = .int .u64 z0 := by simpa using q0
  obtain rfl : b = .int .u64 z1 := by simpa using q1
  obtain ⟨k, ao, n, cap, cl, m, e3, L, sm⟩ := open_resS T e2
  simp only [List.cons.injEq, and_true] at e3
  obtain ⟨rfl, rfl, rfl⟩ := e3
  have g0 : 0 ≤ z0 ∧ z0 < 18446744073709551616 := by
    simp [Lit.wf, IntKind.min, IntKind.max, IntKind.signed, IntKind.bits] at w0
    omega
  have g1 : 0 ≤ z1 ∧ z1 < 18446744073709551616 := by
    simp [Lit.wf, IntKind.min, IntKind.max, IntKind.signed, IntKind.bits] at w1
    omega
  have n0 : ((z0.toNat : Nat) : Int) = z0 := Int.toNat_of_nonneg g0.1
  have n1 : ((z1.toNat : Nat) : Int) = z1 := Int.toNat_of_nonneg g1.1
  refine ⟨⟨z0.toNat, z1.toNat, k, ao, n, cap, cl, m⟩, ?_, ⟨by show z0.toNat < _; omega, by show z1.toNat < _; omega, L⟩, fun hwt => ?_⟩
  · simp [LA.cells, n0, n1]
  · rw [hx] at hwt
    exact sm (hwt.field M.hlast 2 (u := T.res) (by simp [M.o2.1]) rfl)
theorem open_lasts (T : ResTypes P) (M : LastTypes P T) {fuel : Nat} {v : Value} {x : DataW H × List MemPlace} (h : DataW.trod enc P w base spare held fuel M.lasts [v] = some x) : ∃ ao n cap l, v = .slice ao n cap ∧ LL12 w ao n cap l ∧ (Wt P x.1 M.lasts → ∀ y ∈ l, y.small) := by
  rcases Deep.open_slice M.hlasts h with ⟨hcs, _⟩ | ⟨a, l, c, m, n, D, Pl, hcs, _, hl, hm, hmm, hy0, hx⟩
  · exact ⟨none, 0, 0, [], by simpa using hcs, LL12.nothing w, fun _ _ h => by simp at h⟩
  · have hlm : l ≤ m := by rw [hmm]; split <;> omega
    obtain ⟨z, hz1, hz2⟩ := gather_list (p := fun i y => ((∀ j v, (LA.cells y)[j]? = some v → w.cell? (a.add (i * 5 + j)) = some v) ∧ LA.ok y w) ∧ (Wt P (D i) M.last → LA.small y)) l (fun i hi => by
      obtain ⟨cs', h1, h2⟩ := hx i (by omega)
      rw [M.clast] at h1
      obtain ⟨_, hlen, hcell⟩ := World.cells?_some h1
      obtain ⟨y, e1, w1, sm1⟩ := open_last T M h2
      refine ⟨y, ⟨fun j v hv => ?_, w1⟩, sm1⟩
      rw [← e1] at hv
      have hj : j < cs'.length := (List.getElem?_eq_some_iff.1 hv).1
      have := hcell j (by omega)
      rw [Deep.add_add, hv] at this
      exact this)
    refine ⟨some a, l, c, z, by simpa using hcs, ⟨hz1, hl, hm, fun h => by simp at h, fun b hb i hi => ?_, fun y hy => ?_⟩, fun hwt y hy => ?_⟩
    · obtain rfl := Option.some.inj hb
      exact (hz2 i hi).1.1
    · obtain ⟨i, hi, rfl⟩ := List.getElem_of_mem hy
      exact (hz2 i hi).1.2
    · obtain ⟨i, hi, rfl⟩ := List.getElem_of_mem hy
      refine (hz2 i hi).2 fun n hn2 => hwt n ?_
      rw [hy0]
      simp only [DataW.weights, M.hlasts]
      refine List.mem_cons_of_mem _ (List.mem_append_left _ (weights_mem_all (j := i) ?_ n hn2))
      rw [List.getElem?_map, List.getElem?_range (by omega)]
      rfl
open Go.RowKit
structure KA where
  row : ByteArray
  fam : ByteArray
  qual : ByteArray
  time : Nat
def KA.val (k : KA) : Value := .agg #[.string k.row, .string k.fam, .string k.qual, .int .u64 k.time]
end Go.Proofs.YtlgafjalcpjelaaDoor

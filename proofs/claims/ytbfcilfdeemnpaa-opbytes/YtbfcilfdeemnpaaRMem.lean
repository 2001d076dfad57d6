/-
  Results that come in: a list of cells, opened. No program is named here.
-/
import Derived.Test.YtbfcilfdeemnpaaOOpen
import Derived.Lib.SmallJoins
namespace Go.Proofs.Ytbfcilfdeemnpaa
open Go.RowKit Go.ChangeShapes Go.WideShapes

/-- A cell of a result as it comes: its six cells. -/
structure CA where
  row : ByteArray
  fam : ByteArray
  qual : ByteArray
  time : Nat
  va : Bs
  gone : Bool
def CA.cells (c : CA) : List Value := [.string c.row, .string c.fam, .string c.qual, .int .u64 c.time, .slice c.va.ao c.va.n c.va.cap, .bool c.gone]
def CA.c (c : CA) : CV := ⟨c.row, c.fam, c.qual, c.time, c.va.xs, c.gone⟩
structure CA.ok (c : CA) (w : World) : Prop where
  row : c.row.size ≤ maxLen
  fam : c.fam.size ≤ maxLen
  qual : c.qual.size ≤ maxLen
  time : c.time < 18446744073709551616
  va : Sl w c.va.ao c.va.n c.va.cap c.va.xs
/-- Its texts and its value are no longer than what a process can have. -/
structure CA.small (c : CA) : Prop where
  row : c.row.size ≤ 140737488351232
  fam : c.fam.size ≤ 140737488351232
  qual : c.qual.size ≤ 140737488351232
  va : c.va.n ≤ 140737488351232
theorem CA.ok.below {c : CA} {w w' : World} (h : c.ok w) (hb : Below w.heap.size w w') : c.ok w' := ⟨h.row, h.fam, h.qual, h.time, h.va.below hb⟩
theorem CA.ok.wf {c : CA} {w : World} (h : c.ok w) : c.c.wf := ⟨h.time, h.va.byte⟩
/-- The slice at ao, of n cells, reads as l. -/
structure CL (w : World) (ao : Option Addr) (n cap : Nat) (l : List CA) : Prop where
  len : l.length = n
  le : n ≤ cap
  mx : cap ≤ maxLen
  nil : ao = none → n = 0 ∧ cap = 0
  cell : ∀ a, ao = some a → ∀ i (h : i < l.length), ∀ j v, l[i].cells[j]? = some v → w.cell? (a.add (i * 6 + j)) = some v
  ok : ∀ c ∈ l, c.ok w
theorem CL.nothing (w : World) : CL w none 0 0 [] := ⟨rfl, Nat.le_refl _, Nat.zero_le _, fun _ => ⟨rfl, rfl⟩, fun _ h => by simp at h, fun _ h => by simp at h⟩
theorem CL.below {w w' : World} {ao : Option Addr} {n cap : Nat} {l : List CA} (h : CL w ao n cap l) (hb : Below w.heap.size w w') : CL w' ao n cap l :=
  ⟨h.len, h.le, h.mx, h.nil, fun a ha i hi j v hv => (hb.cell (World.block_lt_of_cell? w _ (h.cell a ha i hi j v hv))).trans (h.cell a ha i hi j v hv), fun c hc => (h.ok c hc).below hb⟩

/-- The types of cells, beside those of operations. -/
structure CellTypes (P : Program) (T : OpTypes P) where
  cel : TypeId
  cels : TypeId
  f0 : Field
  f1 : Field
  f2 : Field
  hcel : P.underlying cel = some (.struct #[f0, f1, f2])
  hcels : P.underlying cels = some (.slice cel)
  ccel : P.cellsOf cel = 6
  o0 : f0.type = T.key ∧ f0.offset = 0
  o1 : f1.type = T.bys ∧ f1.offset = 4
  o2 : f2.type = T.bool ∧ f2.offset = 5

variable {H : Type} {enc : TypeId × Value → H} {P : Program} {w : World} {base : Nat} {spare : Nat → Bool} {held : Bool}

set_option maxHeartbeats 1000000 in
theorem open_cell (T : OpTypes P) (C : CellTypes P T) {fuel : Nat} {cs : List Value} {x : DataW H × List MemPlace} (h : DataW.trod enc P w base spare held fuel C.cel cs = some x) : ∃ c : CA, cs = c.cells ∧ c.ok w ∧ (Wt P x.1 C.cel → c.small) := by
  obtain ⟨xs, k, _, hx, hl, hlen, hf⟩ := DataW.trod_struct C.hcel h
  rw [C.ccel] at hl
  obtain ⟨c0, c1, c2, c3, c4, c5, rfl⟩ : ∃ c0 c1 c2 c3 c4 c5, cs = [c0, c1, c2, c3, c4, c5] := by
    match cs, hl with
    | [c0, c1, c2, c3, c4, c5], _ => exact ⟨_, _, _, _, _, _, rfl⟩
  obtain ⟨x0, x1, x2, rfl⟩ : ∃ x0 x1 x2, xs = [x0, x1, x2] := by
    match xs, hlen with
    | [x0, x1, x2], _ => exact ⟨_, _, _, rfl⟩
  have e0 := hf 0 C.f0 rfl
  have e1 := hf 1 C.f1 rfl
  have e2 := hf 2 C.f2 rfl
  rw [C.o0.1, C.o0.2, T.ckey] at e0
  rw [C.o1.1, C.o1.2, T.cbys] at e1
  rw [C.o2.1, C.o2.2, T.cbool] at e2
  simp only [List.drop_succ_cons, List.drop_zero, List.take_succ_cons, List.take_zero, List.getElem?_cons_zero, List.getElem?_cons_succ] at e0 e1 e2
  obtain ⟨ys, k2, _, hx2, _, hlen2, hf2⟩ := DataW.trod_struct T.hkey e0
  obtain ⟨y0, y1, y2, y3, rfl⟩ : ∃ y0 y1 y2 y3, ys = [y0, y1, y2, y3] := by
    match ys, hlen2 with
    | [y0, y1, y2, y3], _ => exact ⟨_, _, _, _, rfl⟩
  have d0 := hf2 0 T.g0 rfl
  have d1 := hf2 1 T.g1 rfl
  have d2 := hf2 2 T.g2 rfl
  have d3 := hf2 3 T.g3 rfl
  rw [T.p0.1, T.p0.2, T.cstr] at d0
  rw [T.p1.1, T.p1.2, T.cstr] at d1
  rw [T.p2.1, T.p2.2, T.cstr] at d2
  rw [T.p3.1, T.p3.2, T.cu64] at d3
  simp only [List.drop_succ_cons, List.drop_zero, List.take_succ_cons, List.take_zero, List.getElem?_cons_zero, List.getElem?_cons_succ] at d0 d1 d2 d3
  obtain ⟨rw_, q1, r1, w1⟩ := DataW.trod_string T.hstr d0
  obtain rfl : c0 = .string rw_ := by simpa using q1
  obtain ⟨fm, q2, r2, w2⟩ := DataW.trod_string T.hstr d1
  obtain rfl : c1 = .string fm := by simpa using q2
  obtain ⟨ql, q3, r3, w3⟩ := DataW.trod_string T.hstr d2
  obtain rfl : c2 = .string ql := by simpa using q3
  obtain ⟨tm, q4, _, w4⟩ := DataW.trod_int T.hu64 d3
  obtain rfl : c3 = .int .u64 tm := by simpa using q4
  obtain ⟨va, q6, s6, sv⟩ := Sl.of_ints T.hbys T.hu8 T.cu8 T.bu8 e1
  obtain ⟨gn, q8, _⟩ := DataW.trod_bool T.hbool e2
  obtain rfl : c5 = .bool gn := by simpa using q8
  have gt : 0 ≤ tm ∧ tm < 18446744073709551616 := by
    simp [Lit.wf, IntKind.min, IntKind.max, IntKind.signed, IntKind.bits] at w4
    omega
  have ez : ((tm.toNat : Nat) : Int) = tm := Int.toNat_of_nonneg gt.1
  subst q6
  refine ⟨⟨rw_, fm, ql, tm.toNat, va, gn⟩, ?_, ⟨w1, w2, w3, by show tm.toNat < _; omega, s6⟩, fun hwt => ?_⟩
  · simp [CA.cells, ez]
  · rw [hx] at hwt
    have hk := hwt.field C.hcel 0 (u := T.key) (by simp [C.o0.1]) rfl
    rw [hx2] at hk
    have g0 := hk.field T.hkey 0 (u := T.str) (by simp [T.p0.1]) rfl
    have g1 := hk.field T.hkey 1 (u := T.str) (by simp [T.p1.1]) rfl
    have g2 := hk.field T.hkey 2 (u := T.str) (by simp [T.p2.1]) rfl
    rw [r1] at g0
    rw [r2] at g1
    rw [r3] at g2
    exact ⟨g0.text, g1.text, g2.text, sv (hwt.field C.hcel 1 (u := T.bys) (by simp [C.o1.1]) rfl)⟩

theorem open_cells (T : OpTypes P) (C : CellTypes P T) {fuel : Nat} {v : Value} {x : DataW H × List MemPlace} (h : DataW.trod enc P w base spare held fuel C.cels [v] = some x) : ∃ ao n cap l, v = .slice ao n cap ∧ CL w ao n cap l ∧ (Wt P x.1 C.cels → ∀ c ∈ l, c.small) := by
  rcases Deep.open_slice C.hcels h with ⟨hcs, _⟩ | ⟨a, l, c, m, n, D, Pl, hcs, _, hl, hm, hmm, hy0, hx⟩
  · exact ⟨none, 0, 0, [], by simpa using hcs, CL.nothing w, fun _ _ h => by simp at h⟩
  · have hlm : l ≤ m := by rw [hmm]; split <;> omega
    obtain ⟨z, hz1, hz2⟩ := gather_list (p := fun i y => ((∀ j v, (CA.cells y)[j]? = some v → w.cell? (a.add (i * 6 + j)) = some v) ∧ CA.ok y w) ∧ (Wt P (D i) C.cel → CA.small y)) l (fun i hi => by
      obtain ⟨cs', h1, h2⟩ := hx i (by omega)
      rw [C.ccel] at h1
      obtain ⟨_, hlen, hcell⟩ := World.cells?_some h1
      obtain ⟨y, e1, w1, sm1⟩ := open_cell T C h2
      refine ⟨y, ⟨fun j v hv => ?_, w1⟩, sm1⟩
      rw [← e1] at hv
      have hj : j < cs'.length := (List.getElem?_eq_some_iff.1 hv).1
      have := hcell j (by omega)
      rw [Deep.add_add, hv] at this
      exact this)
    refine ⟨some a, l, c, z, by simpa using hcs, ⟨hz1, hl, hm, fun h => by simp at h, fun b hb i hi => ?_, fun y hy => ?_⟩, fun hwt y hy => ?_⟩
    · obtain rfl := Option.some.inj hb
      exact (hz2 i hi).1.1
    · obtain ⟨i, hi, rfl⟩ := List.getElem_of_mem hy
      exact (hz2 i hi).1.2
    · obtain ⟨i, hi, rfl⟩ := List.getElem_of_mem hy
      refine (hz2 i hi).2 fun n hn2 => hwt n ?_
      rw [hy0]
      simp only [DataW.weights, C.hcels]
      refine List.mem_cons_of_mem _ (List.mem_append_left _ (weights_mem_all (j := i) ?_ n hn2))
      rw [List.getElem?_map, List.getElem?_range (by omega)]
      rfl

/-- An operation that comes in by value. -/
theorem open_opV (T : OpTypes P) (d : Nat) {r : Reach} {b0 : Nat} {v : Value} {x : DataW H} {p : List MemPlace} (hv : Value.okWide P w r b0 T.op v) (h : DataW.Trod enc P w base spare held T.op v x p) : ∃ y : OD d, v = (topD d y).val ∧ OW w d y ∧ (Wt P x T.op → OSm d y) := by
  obtain ⟨cs, rfl, hsz⟩ := okWide_struct T.hop hv
  obtain ⟨fuel, hf⟩ := h
  obtain ⟨y, e, k, sm⟩ := open_deep T d hf
  refine ⟨y, ?_, k, sm⟩
  have e2 : cs.toList = (topD d y).cells := e
  show Value.agg cs = Value.agg _
  congr 1
  exact Array.toList_inj.1 e2
/-- The types of requests and results. -/
structure MoreTypes (P : Program) (T : OpTypes P) (C : CellTypes P T) where
  req : TypeId
  res : TypeId
  knd : TypeId
  f0 : Field
  f1 : Field
  f2 : Field
  g0 : Field
  g1 : Field
  g2 : Field
  hreq : P.underlying req = some (.struct #[f0, f1, f2])
  hres : P.underlying res = some (.struct #[g0, g1, g2])
  hknd : P.underlying knd = some (.int .i64)
  creq : P.cellsOf req = 12
  cres : P.cellsOf res = 3
  cknd : P.cellsOf knd = 1
  ccels : P.cellsOf C.cels = 1
  o0 : f0.type = T.u64 ∧ f0.offset = 0
  o1 : f1.type = T.u64 ∧ f1.offset = 1
  o2 : f2.type = T.op ∧ f2.offset = 2
  p0 : g0.type = knd ∧ g0.offset = 0
  p1 : g1.type = C.cels ∧ g1.offset = 1
  p2 : g2.type = T.bool ∧ g2.offset = 2
/-- A request as it comes. -/
def qVal (c t : Nat) (o : OA) : Value := .agg (.int .u64 c :: .int .u64 t :: o.cells).toArray
theorem open_reqV (T : OpTypes P) (C : CellTypes P T) (M : MoreTypes P T C) (d : Nat) {r : Reach} {b0 : Nat} {v : Value} {x : DataW H} {p : List MemPlace} (hv : Value.okWide P w r b0 M.req v) (h : DataW.Trod enc P w base spare held M.req v x p) :
    ∃ (c t : Nat) (y : OD d), v = qVal c t (topD d y) ∧ c < 18446744073709551616 ∧ t < 18446744073709551616 ∧ OW w d y ∧ (Wt P x M.req → OSm d y) := by
  obtain ⟨cs, rfl, hsz⟩ := okWide_struct M.hreq hv
  obtain ⟨fuel, hf⟩ := h
  obtain ⟨xs, k, _, hx, hl, hlen, hfl⟩ := DataW.trod_struct M.hreq hf
  rw [M.creq] at hl
  obtain ⟨x0, x1, x2, rfl⟩ : ∃ x0 x1 x2, xs = [x0, x1, x2] := by
    match xs, hlen with
    | [x0, x1, x2], _ => exact ⟨_, _, _, rfl⟩
  have e0 := hfl 0 M.f0 rfl
  have e1 := hfl 1 M.f1 rfl
  have e2 := hfl 2 M.f2 rfl
  rw [M.o0.1, M.o0.2, T.cu64] at e0
  rw [M.o1.1, M.o1.2, T.cu64] at e1
  rw [M.o2.1, M.o2.2, T.cop] at e2
  have hl2 : cs.toList.length = 12 := hl
  obtain ⟨l, hcs⟩ : ∃ l, l = cs.toList := ⟨_, rfl⟩
  have ec : (Value.agg cs).cells.toList = l := hcs.symm
  rw [ec] at e0 e1 e2
  rw [← hcs] at hl2
  obtain ⟨a, b, m, rfl, hm⟩ : ∃ a b m, l = a :: b :: m ∧ m.length = 10 := by
    match l, hl2 with
    | a :: b :: m, h => exact ⟨a, b, m, rfl, by simpa using h⟩
  simp only [List.drop_succ_cons, List.drop_zero, List.take_succ_cons, List.take_zero, List.getElem?_cons_zero, List.getElem?_cons_succ] at e0 e1 e2
  rw [List.take_of_length_le (by omega)] at e2
  obtain ⟨z0, q0, _, w0⟩ := DataW.trod_int T.hu64 e0
  obtain ⟨z1, q1, _, w1⟩ := DataW.trod_int T.hu64 e1
  obtain rfl : a = .int .u64 z0 := by simpa using q0
  obtain rfl : b = .int .u64 z1 := by simpa using q1
  obtain ⟨y, ey, k, sm⟩ := open_deep T d e2
  have g0 : 0 ≤ z0 ∧ z0 < 18446744073709551616 := by
    simp [Lit.wf, IntKind.min, IntKind.max, IntKind.signed, IntKind.bits] at w0
    omega
  have g1 : 0 ≤ z1 ∧ z1 < 18446744073709551616 := by
    simp [Lit.wf, IntKind.min, IntKind.max, IntKind.signed, IntKind.bits] at w1
    omega
  refine ⟨z0.toNat, z1.toNat, y, ?_, by omega, by omega, k, fun hwt => ?_⟩
  · unfold qVal
    rw [Int.toNat_of_nonneg g0.1, Int.toNat_of_nonneg g1.1, ← ey]
    congr 1
    apply Array.toList_inj.1
    rw [← hcs]
  · rw [(Prod.mk.inj hx).1] at hwt
    exact sm (hwt.field M.hreq 2 (u := T.op) (by simp [M.o2.1]) rfl)
theorem open_resV (T : OpTypes P) (C : CellTypes P T) (M : MoreTypes P T C) {r : Reach} {b0 : Nat} {v : Value} {x : DataW H} {p : List MemPlace} (hv : Value.okWide P w r b0 M.res v) (h : DataW.Trod enc P w base spare held M.res v x p) :
    ∃ (e : Int) (ao : Option Addr) (n cap : Nat) (l : List CA) (m : Bool), v = .agg #[.int .i64 e, .slice ao n cap, .bool m] ∧ (-9223372036854775808 ≤ e ∧ e ≤ 9223372036854775807) ∧ CL w ao n cap l ∧ (Wt P x M.res → ∀ c ∈ l, c.small) := by
  obtain ⟨cs, rfl, hsz⟩ := okWide_struct M.hres hv
  obtain ⟨fuel, hf⟩ := h
  obtain ⟨xs, k, _, hx, hl, hlen, hfl⟩ := DataW.trod_struct M.hres hf
  rw [M.cres] at hl
  obtain ⟨x0, x1, x2, rfl⟩ : ∃ x0 x1 x2, xs = [x0, x1, x2] := by
    match xs, hlen with
    | [x0, x1, x2], _ => exact ⟨_, _, _, rfl⟩
  have e0 := hfl 0 M.g0 rfl
  have e1 := hfl 1 M.g1 rfl
  have e2 := hfl 2 M.g2 rfl
  rw [M.p0.1, M.p0.2, M.cknd] at e0
  rw [M.p1.1, M.p1.2, M.ccels] at e1
  rw [M.p2.1, M.p2.2, T.cbool] at e2
  have hl2 : cs.toList.length = 3 := hl
  obtain ⟨l, hcs⟩ : ∃ l, l = cs.toList := ⟨_, rfl⟩
  have ec : (Value.agg cs).cells.toList = l := hcs.symm
  rw [ec] at e0 e1 e2
  rw [← hcs] at hl2
  obtain ⟨a, b, c, rfl⟩ : ∃ a b c, l = [a, b, c] := by
    match l, hl2 with
    | [a, b, c], _ => exact ⟨_, _, _, rfl⟩
  simp only [List.drop_succ_cons, List.drop_zero, List.take_succ_cons, List.take_zero, List.getElem?_cons_zero, List.getElem?_cons_succ] at e0 e1 e2
  obtain ⟨z0, q0, _, w0⟩ := DataW.trod_int M.hknd e0
  obtain rfl : a = .int .i64 z0 := by simpa using q0
  obtain ⟨ao, n, cap, cl, rfl, hcl, sm⟩ := open_cells T C e1
  obtain ⟨m, q2, _⟩ := DataW.trod_bool T.hbool e2
  obtain rfl : c = .bool m := by simpa using q2
  have g0 : -9223372036854775808 ≤ z0 ∧ z0 ≤ 9223372036854775807 := by
    simp [Lit.wf, IntKind.min, IntKind.max, IntKind.signed, IntKind.bits] at w0
    omega
  refine ⟨z0, ao, n, cap, cl, m, ?_, g0, hcl, fun hwt => ?_⟩
  · congr 1
    apply Array.toList_inj.1
    rw [← hcs]
  · rw [(Prod.mk.inj hx).1] at hwt
    exact sm (hwt.field M.hres 1 (u := C.cels) (by simp [M.p1.1]) rfl)

/-- The slice at ao, of n operations, each d deep, reads as l. -/
structure OWL (w : World) (d : Nat) (ao : Option Addr) (n cap : Nat) (l : List (OD d)) : Prop where
  len : l.length = n
  le : n ≤ cap
  mx : cap ≤ maxLen
  nil : ao = none → n = 0 ∧ cap = 0
  cell : ∀ a, ao = some a → ∀ i (h : i < l.length), ∀ j v, (topD d l[i]).cells[j]? = some v → w.cell? (a.add (i * 10 + j)) = some v
  ok : ∀ y ∈ l, OW w d y
theorem OWL.below {w w' : World} {d : Nat} {ao : Option Addr} {n cap : Nat} {l : List (OD d)} (h : OWL w d ao n cap l) (hb : Below w.heap.size w w') : OWL w' d ao n cap l :=
  ⟨h.len, h.le, h.mx, h.nil, fun a ha i hi j v hv => (hb.cell (World.block_lt_of_cell? w _ (h.cell a ha i hi j v hv))).trans (h.cell a ha i hi j v hv), fun y hy => OW.below hb (h.ok y hy)⟩
theorem open_ops (T : OpTypes P) (d : Nat) {fuel : Nat} {v : Value} {x : DataW H × List MemPlace} (h : DataW.trod enc P w base spare held fuel T.subs [v] = some x) : ∃ ao n cap l, v = .slice ao n cap ∧ OWL w d ao n cap l ∧ (Wt P x.1 T.subs → ∀ y ∈ l, OSm d y) := by
  rcases Deep.open_slice T.hsubs h with ⟨hcs, _⟩ | ⟨a, l, c, m, n, D, Pl, hcs, _, hl, hm, hmm, hy0, hx⟩
  · exact ⟨none, 0, 0, [], by simpa using hcs, ⟨rfl, Nat.le_refl _, Nat.zero_le _, fun _ => ⟨rfl, rfl⟩, fun _ h => by simp at h, fun _ h => by simp at h⟩, fun _ _ h => by simp at h⟩
  · have hlm : l ≤ m := by rw [hmm]; split <;> omega
    obtain ⟨z, hz1, hz2⟩ := gather_list (p := fun i y => ((∀ j v, (topD d y).cells[j]? = some v → w.cell? (a.add (i * 10 + j)) = some v) ∧ OW w d y) ∧ (Wt P (D i) T.op → OSm d y)) l (fun i hi => by
      obtain ⟨cs', h1, h2⟩ := hx i (by omega)
      rw [T.cop] at h1
      obtain ⟨_, hlen, hcell⟩ := World.cells?_some h1
      obtain ⟨y, e1, w1, sm1⟩ := open_deep T d h2
      refine ⟨y, ⟨fun j v hv => ?_, w1⟩, sm1⟩
      rw [← e1] at hv
      have hj : j < cs'.length := (List.getElem?_eq_some_iff.1 hv).1
      have := hcell j (by omega)
      rw [Deep.add_add, hv] at this
      exact this)
    refine ⟨some a, l, c, z, by simpa using hcs, ⟨hz1, hl, hm, fun h => by simp at h, fun b hb i hi => ?_, fun y hy => ?_⟩, fun hwt y hy => ?_⟩
    · obtain rfl := Option.some.inj hb
      exact (hz2 i hi).1.1
    · obtain ⟨i, hi, rfl⟩ := List.getElem_of_mem hy
      exact (hz2 i hi).1.2
    · obtain ⟨i, hi, rfl⟩ := List.getElem_of_mem hy
      refine (hz2 i hi).2 fun n hn2 => hwt n ?_
      rw [hy0]
      simp only [DataW.weights, T.hsubs]
      refine List.mem_cons_of_mem _ (List.mem_append_left _ (weights_mem_all (j := i) ?_ n hn2))
      rw [List.getElem?_map, List.getElem?_range (by omega)]
      rfl
end Go.Proofs.Ytbfcilfdeemnpaa

/-
  Texts in one: OOpen, RMem, OAt, RowL, CRight, CEsc, PWalk, HRegF, PLen, PJudge, PItemM, PItem, PItems, TbMem, PNames, PVal, CCells.
-/
import Derived.Test.YtnicnfjickknjaaGreatDoorTabletItemsZ1
import Derived.Deep.Slices
import Derived.ChangeSame
import Derived.ChangeSlices
import Derived.SizedLaws
import Derived.Lib.SmallJoins
import Derived.Test.YtnicnfjickknjaaGreatDoorTabletItemsZ0
namespace Go.Proofs.YtnicnfjickknjaaGreatDoor
open Go.RowKit Go.ChangeShapes Go.WideShapes

/-- The types of operations, as a program has them. -/
structure OpTypes (P : Program) where
  op : TypeId
  key : TypeId
  int : TypeId
  str : TypeId
  u64 : TypeId
  bys : TypeId
  u8 : TypeId
  bool : TypeId
  subs : TypeId
  f0 : Field
  f1 : Field
  f2 : Field
  f3 : Field
  f4 : Field
  f5 : Field
  f6 : Field
  g0 : Field
  g1 : Field
  g2 : Field
  g3 : Field
  hop : P.underlying op = some (.struct #[f0, f1, f2, f3, f4, f5, f6])
  hkey : P.underlying key = some (.struct #[g0, g1, g2, g3])
  hint : P.underlying int = some (.int .i64)
  hstr : P.underlying str = some .string
  hu64 : P.underlying u64 = some (.int .u64)
  hbys : P.underlying bys = some (.slice u8)
  hu8 : P.underlying u8 = some (.int .u8)
  hbool : P.underlying bool = some .bool
  hsubs : P.underlying subs = some (.slice op)
  cop : P.cellsOf op = 10
  ckey : P.cellsOf key = 4
  cint : P.cellsOf int = 1
  cstr : P.cellsOf str = 1
  cu64 : P.cellsOf u64 = 1
  cbys : P.cellsOf bys = 1
  cu8 : P.cellsOf u8 = 1
  bu8 : P.bytesOf u8 = 1
  cbool : P.cellsOf bool = 1
  csubs : P.cellsOf subs = 1
  o0 : f0.type = int ∧ f0.offset = 0
  o1 : f1.type = key ∧ f1.offset = 1
  o2 : f2.type = str ∧ f2.offset = 5
  o3 : f3.type = bys ∧ f3.offset = 6
  o4 : f4.type = bys ∧ f4.offset = 7
  o5 : f5.type = bool ∧ f5.offset = 8
  o6 : f6.type = subs ∧ f6.offset = 9
  p0 : g0.type = str ∧ g0.offset = 0
  p1 : g1.type = str ∧ g1.offset = 1
  p2 : g2.type = str ∧ g2.offset = 2
  p3 : g3.type = u64 ∧ g3.offset = 3

variable {H : Type} {enc : TypeId × Value → H} {P : Program} {w : World} {base : Nat} {spare : Nat → Bool} {held : Bool}

/-- All that is weighed in it is within the reach. -/
def Wt (P : Program) (d : DataW H) (t : TypeId) : Prop := ∀ n ∈ d.weights P t, n ≤ reachBytes
theorem weights_mem_all : ∀ {e : TypeId} {ds : List (DataW H)} {j : Nat} {d : DataW H}, ds[j]? = some d → ∀ n ∈ d.weights P e, n ∈ DataW.weightsAll P e ds
  | e, d0 :: ds, 0, d, hd, n, hn => by
    simp only [List.getElem?_cons_zero, Option.some.injEq] at hd
    subst hd
    simp only [DataW.weightsAll, List.mem_append]
    exact Or.inl hn
  | e, d0 :: ds, j + 1, d, hd, n, hn => by
    simp only [List.getElem?_cons_succ] at hd
    simp only [DataW.weightsAll, List.mem_append]
    exact Or.inr (weights_mem_all hd n hn)
  | _, [], _, _, hd, _, _ => by simp at hd
theorem Wt.field {t : TypeId} {fs : Array Field} {xs : List (DataW H × List MemPlace)} (ht : P.underlying t = some (.struct fs)) (h : Wt P (.agg (xs.map (·.1))) t) (j : Nat) {u : TypeId} {y : DataW H × List MemPlace} (hu : (fs.toList.map (·.type))[j]? = some u) (hy : xs[j]? = some y) : Wt P y.1 u := fun n hn =>
  h n (by
    simp only [DataW.weights, ht]
    exact DataW.weights_mem_each hu (by rw [List.getElem?_map, hy]; rfl) n hn)
theorem Wt.text {s : ByteArray} {t : TypeId} (h : Wt P (.lit (.string s.data.toList) : DataW H) t) : s.size ≤ 140737488351232 := by
  have := h s.data.toList.length (by simp [DataW.weights])
  simp only [reachBytes] at this
  have e : s.data.toList.length = s.size := by simp
  omega

theorem Sl.of_ints {tB tE : TypeId} {fuel : Nat} {v : Value} {x : DataW H × List MemPlace} (ht : P.underlying tB = some (.slice tE)) (he : P.underlying tE = some (.int .u8)) (hc : P.cellsOf tE = 1)
    (hb8 : P.bytesOf tE = 1) (h : DataW.trod enc P w base spare held fuel tB [v] = some x) : ∃ b : Bs, v = .slice b.ao b.n b.cap ∧ Sl w b.ao b.n b.cap b.xs ∧ (Wt P x.1 tB → b.n ≤ 140737488351232) := by
  rcases open_ints ht he hc h with ⟨hcs, _⟩ | ⟨a, l, c, zs, hcs, _, hl, hm, hz, hx, hcell, hwz⟩
  · simp at hcs
    exact ⟨⟨none, 0, 0, []⟩, hcs, Sl.nothing w, fun _ => Nat.zero_le _⟩
  · simp at hcs
    have hlz : l ≤ zs.length := by rw [hz]; split <;> omega
    refine ⟨⟨some a, l, c, zs.take l⟩, hcs, ⟨by simp; omega, hl, hm, fun h => by simp at h, fun b hb i hi => ?_, fun z hz => ?_⟩, fun hwt => ?_⟩
    · obtain rfl := Option.some.inj hb
      have hi : i < l := hi
      rw [hcell i (by omega)]
      simp [List.getD, hi]
    · have := hwz z (List.mem_of_mem_take hz)
      simp [Lit.wf, IntKind.min, IntKind.max, IntKind.signed, IntKind.bits] at this
      omega
    · rw [hx] at hwt
      have := hwt (zs.length * 1) (by simp only [DataW.weights, ht, hb8]; simp [ChangeShapes.lits]; omega)
      simp only [reachBytes] at this
      show l ≤ _
      omega

theorem gather_list {α : Type} {p : Nat → α → Prop} : ∀ l : Nat, (∀ i, i < l → ∃ y, p i y) → ∃ z : List α, z.length = l ∧ ∀ i (h : i < z.length), p i z[i]
  | 0, _ => ⟨[], rfl, fun i h => by simp at h⟩
  | l + 1, key => by
    obtain ⟨z, hz1, hz2⟩ := gather_list l (fun i hi => key i (by omega))
    obtain ⟨y, hy⟩ := key l (by omega)
    refine ⟨z ++ [y], by simp [hz1], fun i h => ?_⟩
    by_cases c : i < z.length
    · rw [List.getElem_append_left c]
      exact hz2 i c
    · have hi : i = z.length := by simp at h; omega
      subst hi
      rw [List.getElem_append_right (Nat.le_refl _)]
      simp only [Nat.sub_self, List.getElem_singleton]
      rw [hz1]
      exact hy

set_option maxHeartbeats 1000000 in
theorem open_op (T : OpTypes P) {fuel : Nat} {cs : List Value} {x : DataW H × List MemPlace} (h : DataW.trod enc P w base spare held fuel T.op cs = some x) :
    ∃ o : OA, cs = o.cells ∧ o.ok w ∧ ∃ n y, DataW.trod enc P w base spare held n T.subs [.slice o.so o.sn o.sc] = some y ∧ (Wt P x.1 T.op → o.small ∧ Wt P y.1 T.subs) := by
  obtain ⟨xs, k, _, hx, hl, hlen, hf⟩ := DataW.trod_struct T.hop h
  rw [T.cop] at hl
  obtain ⟨c0, c1, c2, c3, c4, c5, c6, c7, c8, c9, rfl⟩ : ∃ c0 c1 c2 c3 c4 c5 c6 c7 c8 c9, cs = [c0, c1, c2, c3, c4, c5, c6, c7, c8, c9] := by
    match cs, hl with
    | [c0, c1, c2, c3, c4, c5, c6, c7, c8, c9], _ => exact ⟨_, _, _, _, _, _, _, _, _, _, rfl⟩
  obtain ⟨x0, x1, x2, x3, x4, x5, x6, rfl⟩ : ∃ x0 x1 x2 x3 x4 x5 x6, xs = [x0, x1, x2, x3, x4, x5, x6] := by
    match xs, hlen with
    | [x0, x1, x2, x3, x4, x5, x6], _ => exact ⟨_, _, _, _, _, _, _, rfl⟩
  have e0 := hf 0 T.f0 rfl
  have e1 := hf 1 T.f1 rfl
  have e2 := hf 2 T.f2 rfl
  have e3 := hf 3 T.f3 rfl
  have e4 := hf 4 T.f4 rfl
  have e5 := hf 5 T.f5 rfl
  have e6 := hf 6 T.f6 rfl
  rw [T.o0.1, T.o0.2, T.cint] at e0
  rw [T.o1.1, T.o1.2, T.ckey] at e1
  rw [T.o2.1, T.o2.2, T.cstr] at e2
  rw [T.o3.1, T.o3.2, T.cbys] at e3
  rw [T.o4.1, T.o4.2, T.cbys] at e4
  rw [T.o5.1, T.o5.2, T.cbool] at e5
  rw [T.o6.1, T.o6.2, T.csubs] at e6
  simp only [List.drop_succ_cons, List.drop_zero, List.take_succ_cons, List.take_zero, List.getElem?_cons_zero, List.getElem?_cons_succ] at e0 e1 e2 e3 e4 e5 e6
  obtain ⟨ys, k2, _, hx2, _, hlen2, hf2⟩ := DataW.trod_struct T.hkey e1
  obtain ⟨y0, y1, y2, y3, rfl⟩ : ∃ y0 y1 y2 y3, ys = [y0, y1, y2, y3] := by
    match ys, hlen2 with
    | [y0, y1, y2, y3], _ => exact ⟨_, _, _, _, rfl⟩
  have d0 := hf2 0 T.g0 rfl
  have d1 := hf2 1 T.g1 rfl
  have d2 := hf2 2 T.g2 rfl
  have d3 := hf2 3 T.g3 rfl
  rw [T.p0.1, T.p0.2, T.cstr] at d0
  rw [T.p1.1, T.p1.2, T.cstr] at d1
  rw [T.p2.1, T.p2.2, T.cstr] at d2
  rw [T.p3.1, T.p3.2, T.cu64] at d3
  simp only [List.drop_succ_cons, List.drop_zero, List.take_succ_cons, List.take_zero, List.getElem?_cons_zero, List.getElem?_cons_succ] at d0 d1 d2 d3
  obtain ⟨kd, q0, _, w0⟩ := DataW.trod_int T.hint e0
  obtain rfl : c0 = .int .i64 kd := by simpa using q0
  obtain ⟨rw_, q1, r1, w1⟩ := DataW.trod_string T.hstr d0
  obtain rfl : c1 = .string rw_ := by simpa using q1
  obtain ⟨fm, q2, r2, w2⟩ := DataW.trod_string T.hstr d1
  obtain rfl : c2 = .string fm := by simpa using q2
  obtain ⟨ql, q3, r3, w3⟩ := DataW.trod_string T.hstr d2
  obtain rfl : c3 = .string ql := by simpa using q3
  obtain ⟨tm, q4, _, w4⟩ := DataW.trod_int T.hu64 d3
  obtain rfl : c4 = .int .u64 tm := by simpa using q4
  obtain ⟨tt, q5, r5, w5⟩ := DataW.trod_string T.hstr e2
  obtain rfl : c5 = .string tt := by simpa using q5
  obtain ⟨va, q6, s6, _⟩ := Sl.of_ints T.hbys T.hu8 T.cu8 T.bu8 e3
  obtain ⟨wa, q7, s7, _⟩ := Sl.of_ints T.hbys T.hu8 T.cu8 T.bu8 e4
  obtain ⟨hs, q8, _⟩ := DataW.trod_bool T.hbool e5
  obtain rfl : c8 = .bool hs := by simpa using q8
  have gt : 0 ≤ tm ∧ tm < 18446744073709551616 := by
    simp [Lit.wf, IntKind.min, IntKind.max, IntKind.signed, IntKind.bits] at w4
    omega
  have gk : -9223372036854775808 ≤ kd ∧ kd ≤ 9223372036854775807 := by
    simp [Lit.wf, IntKind.min, IntKind.max, IntKind.signed, IntKind.bits] at w0
    omega
  have ez : ((tm.toNat : Nat) : Int) = tm := Int.toNat_of_nonneg gt.1
  obtain ⟨so, sn, sc, q9, hle, hmx, hnil⟩ : ∃ so sn sc, c9 = .slice so sn sc ∧ sn ≤ sc ∧ sc ≤ maxLen ∧ (so = none → sn = 0 ∧ sc = 0) := by
    rcases Deep.open_slice T.hsubs e6 with ⟨hcs, _⟩ | ⟨a, l, c, m, n, D, Pl, hcs, _, hl, hm, _, _, _⟩
    · exact ⟨none, 0, 0, by simpa using hcs, Nat.le_refl _, Nat.zero_le _, fun _ => ⟨rfl, rfl⟩⟩
    · exact ⟨some a, l, c, by simpa using hcs, hl, hm, fun h => by simp at h⟩
  subst q6 q7 q9
  refine ⟨⟨kd, rw_, fm, ql, tm.toNat, tt, va, wa, hs, so, sn, sc⟩, ?_, ⟨gk, w1, w2, w3, by show tm.toNat < _; omega, w5, s6, s7, hle, hmx, hnil⟩, _, _, e6, fun hwt => ?_⟩
  · simp [OA.cells, ez]
  · rw [hx] at hwt
    have hk := hwt.field T.hop 1 (u := T.key) (by simp [T.o1.1]) rfl
    rw [hx2] at hk
    have ht := hwt.field T.hop 2 (u := T.str) (by simp [T.o2.1]) rfl
    have g0 := hk.field T.hkey 0 (u := T.str) (by simp [T.p0.1]) rfl
    have g1 := hk.field T.hkey 1 (u := T.str) (by simp [T.p1.1]) rfl
    have g2 := hk.field T.hkey 2 (u := T.str) (by simp [T.p2.1]) rfl
    rw [r5] at ht
    rw [r1] at g0
    rw [r2] at g1
    rw [r3] at g2
    exact ⟨⟨g0.text, g1.text, g2.text, ht.text⟩, hwt.field T.hop 6 (u := T.subs) (by simp [T.o6.1]) rfl⟩

theorem open_deep (T : OpTypes P) : ∀ (d : Nat) {fuel : Nat} {cs : List Value} {x : DataW H × List MemPlace}, DataW.trod enc P w base spare held fuel T.op cs = some x → ∃ y : OD d, cs = (topD d y).cells ∧ OW w d y ∧ (Wt P x.1 T.op → OSm d y)
  | 0, _, _, _, h => by
    obtain ⟨o, e, k, _, _, _, sm⟩ := open_op T h
    exact ⟨o, e, k, fun hwt => (sm hwt).1⟩
  | d + 1, _, _, _, h => by
    obtain ⟨o, e, k, n, y, hs, sm⟩ := open_op T h
    rcases Deep.open_slice T.hsubs hs with ⟨hcs, _⟩ | ⟨a, l, c, m, n, D, Pl, hcs, _, hl, hm, hmm, hy0, hx⟩
    · have hn : o.so = none ∧ o.sn = 0 := by simp at hcs; exact ⟨hcs.1, hcs.2.1⟩
      exact ⟨(o, []), e, ⟨k, hn.2.symm, fun a ha => by rw [hn.1] at ha; simp at ha, fun y hy => by simp at hy⟩, fun hwt => ⟨(sm hwt).1, fun y hy => by simp at hy⟩⟩
    · have hn : o.so = some a ∧ o.sn = l := by simp at hcs; exact ⟨hcs.1, hcs.2.1⟩
      have hlm : l ≤ m := by rw [hmm]; split <;> omega
      have key : ∀ i, i < l → ∃ y : OD d, ((∀ j v, (topD d y).cells[j]? = some v → w.cell? (a.add (i * 10 + j)) = some v) ∧ OW w d y) ∧ (Wt P (D i) T.op → OSm d y) := by
        intro i hi
        obtain ⟨cs', h1, h2⟩ := hx i (by omega)
        rw [T.cop] at h1
        obtain ⟨_, hlen, hcell⟩ := World.cells?_some h1
        obtain ⟨y, e1, w1, sm1⟩ := open_deep T d h2
        refine ⟨y, ⟨fun j v hv => ?_, w1⟩, sm1⟩
        rw [← e1] at hv
        have hj : j < cs'.length := (List.getElem?_eq_some_iff.1 hv).1
        have := hcell j (by omega)
        rw [Deep.add_add, hv] at this
        exact this
      obtain ⟨z, hz1, hz2⟩ := gather_list l key
      refine ⟨(o, z), e, ⟨k, by rw [hn.2]; exact hz1, fun b hb i hi => ?_, fun y hy => ?_⟩, fun hwt => ⟨(sm hwt).1, fun y hy => ?_⟩⟩
      · rw [hn.1] at hb
        obtain rfl := Option.some.inj hb
        exact (hz2 i hi).1.1
      · obtain ⟨i, hi, rfl⟩ := List.getElem_of_mem hy
        exact (hz2 i hi).1.2
      · obtain ⟨i, hi, rfl⟩ := List.getElem_of_mem hy
        have hi' : i < z.length := hi
        refine (hz2 i hi).2 fun n hn2 => (sm hwt).2 n ?_
        rw [hy0]
        simp only [DataW.weights, T.hsubs]
        refine List.mem_cons_of_mem _ (List.mem_append_left _ (weights_mem_all (j := i) ?_ n hn2))
        rw [List.getElem?_map, List.getElem?_range (by omega)]
        rfl
end Go.Proofs.YtnicnfjickknjaaGreatDoor

namespace Go.Proofs.YtnicnfjickknjaaGreatDoor
open Go.RowKit Go.ChangeShapes Go.WideShapes

/-- A cell of a result as it comes: its six cells. -/
structure CA where
  row : ByteArray
  fam : ByteArray
  qual : ByteArray
  time : Nat
  va : Bs
  gone : Bool
def CA.cells (c : CA) : List Value := [.string c.row, .string c.fam, .string c.qual, .int .u64 c.time, .slice c.va.ao c.va.n c.va.cap, .bool c.gone]
def CA.c (c : CA) : CV := ⟨c.row, c.fam, c.qual, c.time, c.va.xs, c.gone⟩
structure CA.ok (c : CA) (w : World) : Prop where
  row : c.row.size ≤ maxLen
  fam : c.fam.size ≤ maxLen
  qual : c.qual.size ≤ maxLen
  time : c.time < 18446744073709551616
  va : Sl w c.va.ao c.va.n c.va.cap c.va.xs
/-- Its texts and its value are no longer than what a process can have. -/
structure CA.small (c : CA) : Prop where
  row : c.row.size ≤ 140737488351232
  fam : c.fam.size ≤ 140737488351232
  qual : c.qual.size ≤ 140737488351232
  va : c.va.n ≤ 140737488351232
theorem CA.ok.below {c : CA} {w w' : World} (h : c.ok w) (hb : Below w.heap.size w w') : c.ok w' := ⟨h.row, h.fam, h.qual, h.time, h.va.below hb⟩
theorem CA.ok.wf {c : CA} {w : World} (h : c.ok w) : c.c.wf := ⟨h.time, h.va.byte⟩
/-- The slice at ao, of n cells, reads as l. -/
structure CL (w : World) (ao : Option Addr) (n cap : Nat) (l : List CA) : Prop where
  len : l.length = n
  le : n ≤ cap
  mx : cap ≤ maxLen
  nil : ao = none → n = 0 ∧ cap = 0
  cell : ∀ a, ao = some a → ∀ i (h : i < l.length), ∀ j v, l[i].cells[j]? = some v → w.cell? (a.add (i * 6 + j)) = some v
  ok : ∀ c ∈ l, c.ok w
theorem CL.nothing (w : World) : CL w none 0 0 [] := ⟨rfl, Nat.le_refl _, Nat.zero_le _, fun _ => ⟨rfl, rfl⟩, fun _ h => by simp at h, fun _ h => by simp at h⟩
theorem CL.below {w w' : World} {ao : Option Addr} {n cap : Nat} {l : List CA} (h : CL w ao n cap l) (hb : Below w.heap.size w w') : CL w' ao n cap l :=
  ⟨h.len, h.le, h.mx, h.nil, fun a ha i hi j v hv => (hb.cell (World.block_lt_of_cell? w _ (h.cell a ha i hi j v hv))).trans (h.cell a ha i hi j v hv), fun c hc => (h.ok c hc).below hb⟩

/-- The types of cells, beside those of operations. -/
structure CellTypes (P : Program) (T : OpTypes P) where
  cel : TypeId
  cels : TypeId
  f0 : Field
  f1 : Field
  f2 : Field
  hcel : P.underlying cel = some (.struct #[f0, f1, f2])
  hcels : P.underlying cels = some (.slice cel)
  ccel : P.cellsOf cel = 6
  o0 : f0.type = T.key ∧ f0.offset = 0
  o1 : f1.type = T.bys ∧ f1.offset = 4
  o2 : f2.type = T.bool ∧ f2.offset = 5

variable {H : Type} {enc : TypeId × Value → H} {P : Program} {w : World} {base : Nat} {spare : Nat → Bool} {held : Bool}

set_option maxHeartbeats 1000000 in
theorem open_cell (T : OpTypes P) (C : CellTypes P T) {fuel : Nat} {cs : List Value} {x : DataW H × List MemPlace} (h : DataW.trod enc P w base spare held fuel C.cel cs = some x) : ∃ c : CA, cs = c.cells ∧ c.ok w ∧ (Wt P x.1 C.cel → c.small) := by
  obtain ⟨xs, k, _, hx, hl, hlen, hf⟩ := DataW.trod_struct C.hcel h
  rw [C.ccel] at hl
  obtain ⟨c0, c1, c2, c3, c4, c5, rfl⟩ : ∃ c0 c1 c2 c3 c4 c5, cs = [c0, c1, c2, c3, c4, c5] := by
    match cs, hl with
    | [c0, c1, c2, c3, c4, c5], _ => exact ⟨_, _, _, _, _, _, rfl⟩
  obtain ⟨x0, x1, x2, rfl⟩ : ∃ x0 x1 x2, xs = [x0, x1, x2] := by
    match xs, hlen with
    | [x0, x1, x2], _ => exact ⟨_, _, _, rfl⟩
  have e0 := hf 0 C.f0 rfl
  have e1 := hf 1 C.f1 rfl
  have e2 := hf 2 C.f2 rfl
  rw [C.o0.1, C.o0.2, T.ckey] at e0
  rw [C.o1.1, C.o1.2, T.cbys] at e1
  rw [C.o2.1, C.o2.2, T.cbool] at e2
  simp only [List.drop_succ_cons, List.drop_zero, List.take_succ_cons, List.take_zero, List.getElem?_cons_zero, List.getElem?_cons_succ] at e0 e1 e2
  obtain ⟨ys, k2, _, hx2, _, hlen2, hf2⟩ := DataW.trod_struct T.hkey e0
  obtain ⟨y0, y1, y2, y3, rfl⟩ : ∃ y0 y1 y2 y3, ys = [y0, y1, y2, y3] := by
    match ys, hlen2 with
    | [y0, y1, y2, y3], _ => exact ⟨_, _, _, _, rfl⟩
  have d0 := hf2 0 T.g0 rfl
  have d1 := hf2 1 T.g1 rfl
  have d2 := hf2 2 T.g2 rfl
  have d3 := hf2 3 T.g3 rfl
  rw [T.p0.1, T.p0.2, T.cstr] at d0
  rw [T.p1.1, T.p1.2, T.cstr] at d1
  rw [T.p2.1, T.p2.2, T.cstr] at d2
  rw [T.p3.1, T.p3.2, T.cu64] at d3
  simp only [List.drop_succ_cons, List.drop_zero, List.take_succ_cons, List.take_zero, List.getElem?_cons_zero, List.getElem?_cons_succ] at d0 d1 d2 d3
  obtain ⟨rw_, q1, r1, w1⟩ := DataW.trod_string T.hstr d0
  obtain rfl : c0 = .string rw_ := by simpa using q1
  obtain ⟨fm, q2, r2, w2⟩ := DataW.trod_string T.hstr d1
  obtain rfl : c1 = .string fm := by simpa using q2
  obtain ⟨ql, q3, r3, w3⟩ := DataW.trod_string T.hstr d2
  obtain rfl : c2 = .string ql := by simpa using q3
  obtain ⟨tm, q4, _, w4⟩ := DataW.trod_int T.hu64 d3
  obtain rfl : c3 = .int .u64 tm := by simpa using q4
  obtain ⟨va, q6, s6, sv⟩ := Sl.of_ints T.hbys T.hu8 T.cu8 T.bu8 e1
  obtain ⟨gn, q8, _⟩ := DataW.trod_bool T.hbool e2
  obtain rfl : c5 = .bool gn := by simpa using q8
  have gt : 0 ≤ tm ∧ tm < 18446744073709551616 := by
    simp [Lit.wf, IntKind.min, IntKind.max, IntKind.signed, IntKind.bits] at w4
    omega
  have ez : ((tm.toNat : Nat) : Int) = tm := Int.toNat_of_nonneg gt.1
  subst q6
  refine ⟨⟨rw_, fm, ql, tm.toNat, va, gn⟩, ?_, ⟨w1, w2, w3, by show tm.toNat < _; omega, s6⟩, fun hwt => ?_⟩
  · simp [CA.cells, ez]
  · rw [hx] at hwt
    have hk := hwt.field C.hcel 0 (u := T.key) (by simp [C.o0.1]) rfl
    rw [hx2] at hk
    have g0 := hk.field T.hkey 0 (u := T.str) (by simp [T.p0.1]) rfl
    have g1 := hk.field T.hkey 1 (u := T.str) (by simp [T.p1.1]) rfl
    have g2 := hk.field T.hkey 2 (u := T.str) (by simp [T.p2.1]) rfl
    rw [r1] at g0
    rw [r2] at g1
    rw [r3] at g2
    exact ⟨g0.text, g1.text, g2.text, sv (hwt.field C.hcel 1 (u := T.bys) (by simp [C.o1.1]) rfl)⟩

theorem open_cells (T : OpTypes P) (C : CellTypes P T) {fuel : Nat} {v : Value} {x : DataW H × List MemPlace} (h : DataW.trod enc P w base spare held fuel C.cels [v] = some x) : ∃ ao n cap l, v = .slice ao n cap ∧ CL w ao n cap l ∧ (Wt P x.1 C.cels → ∀ c ∈ l, c.small) := by
  rcases Deep.open_slice C.hcels h with ⟨hcs, _⟩ | ⟨a, l, c, m, n, D, Pl, hcs, _, hl, hm, hmm, hy0, hx⟩
  · exact ⟨none, 0, 0, [], by simpa using hcs, CL.nothing w, fun _ _ h => by simp at h⟩
  · have hlm : l ≤ m := by rw [hmm]; split <;> omega
    obtain ⟨z, hz1, hz2⟩ := gather_list (p := fun i y => ((∀ j v, (CA.cells y)[j]? = some v → w.cell? (a.add (i * 6 + j)) = some v) ∧ CA.ok y w) ∧ (Wt P (D i) C.cel → CA.small y)) l (fun i hi => by
      obtain ⟨cs', h1, h2⟩ := hx i (by omega)
      rw [C.ccel] at h1
      obtain ⟨_, hlen, hcell⟩ := World.cells?_some h1
      obtain ⟨y, e1, w1, sm1⟩ := open_cell T C h2
      refine ⟨y, ⟨fun j v hv => ?_, w1⟩, sm1⟩
      rw [← e1] at hv
      have hj : j < cs'.length := (List.getElem?_eq_some_iff.1 hv).1
      have := hcell j (by omega)
      rw [Deep.add_add, hv] at this
      exact this)
    refine ⟨some a, l, c, z, by simpa using hcs, ⟨hz1, hl, hm, fun h => by simp at h, fun b hb i hi => ?_, fun y hy => ?_⟩, fun hwt y hy => ?_⟩
    · obtain rfl := Option.some.inj hb
      exact (hz2 i hi).1.1
    · obtain ⟨i, hi, rfl⟩ := List.getElem_of_mem hy
      exact (hz2 i hi).1.2
    · obtain ⟨i, hi, rfl⟩ := List.getElem_of_mem hy
      refine (hz2 i hi).2 fun n hn2 => hwt n ?_
      rw [hy0]
      simp only [DataW.weights, C.hcels]
      refine List.mem_cons_of_mem _ (List.mem_append_left _ (weights_mem_all (j := i) ?_ n hn2))
      rw [List.getElem?_map, List.getElem?_range (by omega)]
      rfl

/-- An operation that comes in by value. -/
theorem open_opV (T : OpTypes P) (d : Nat) {r : Reach} {b0 : Nat} {v : Value} {x : DataW H} {p : List MemPlace} (hv : Value.okWide P w r b0 T.op v) (h : DataW.Trod enc P w base spare held T.op v x p) : ∃ y : OD d, v = (topD d y).val ∧ OW w d y ∧ (Wt P x T.op → OSm d y) := by
  obtain ⟨cs, rfl, hsz⟩ := okWide_struct T.hop hv
  obtain ⟨fuel, hf⟩ := h
  obtain ⟨y, e, k, sm⟩ := open_deep T d hf
  refine ⟨y, ?_, k, sm⟩
  have e2 : cs.toList = (topD d y).cells := e
  show Value.agg cs = Value.agg _
  congr 1
  exact Array.toList_inj.1 e2
/-- The types of requests and results. -/
structure MoreTypes (P : Program) (T : OpTypes P) (C : CellTypes P T) where
  req : TypeId
  res : TypeId
  knd : TypeId
  f0 : Field
  f1 : Field
  f2 : Field
  g0 : Field
  g1 : Field
  g2 : Field
  hreq : P.underlying req = some (.struct #[f0, f1, f2])
  hres : P.underlying res = some (.struct #[g0, g1, g2])
  hknd : P.underlying knd = some (.int .i64)
  creq : P.cellsOf req = 12
  cres : P.cellsOf res = 3
  cknd : P.cellsOf knd = 1
  ccels : P.cellsOf C.cels = 1
  o0 : f0.type = T.u64 ∧ f0.offset = 0
  o1 : f1.type = T.u64 ∧ f1.offset = 1
  o2 : f2.type = T.op ∧ f2.offset = 2
  p0 : g0.type = knd ∧ g0.offset = 0
  p1 : g1.type = C.cels ∧ g1.offset = 1
  p2 : g2.type = T.bool ∧ g2.offset = 2
/-- A request as it comes. -/
def qVal (c t : Nat) (o : OA) : Value := .agg (.int .u64 c :: .int .u64 t :: o.cells).toArray
theorem open_reqV (T : OpTypes P) (C : CellTypes P T) (M : MoreTypes P T C) (d : Nat) {r : Reach} {b0 : Nat} {v : Value} {x : DataW H} {p : List MemPlace} (hv : Value.okWide P w r b0 M.req v) (h : DataW.Trod enc P w base spare held M.req v x p) :
    ∃ (c t : Nat) (y : OD d), v = qVal c t (topD d y) ∧ c < 18446744073709551616 ∧ t < 18446744073709551616 ∧ OW w d y ∧ (Wt P x M.req → OSm d y) := by
  obtain ⟨cs, rfl, hsz⟩ := okWide_struct M.hreq hv
  obtain ⟨fuel, hf⟩ := h
  obtain ⟨xs, k, _, hx, hl, hlen, hfl⟩ := DataW.trod_struct M.hreq hf
  rw [M.creq] at hl
  obtain ⟨x0, x1, x2, rfl⟩ : ∃ x0 x1 x2, xs = [x0, x1, x2] := by
    match xs, hlen with
    | [x0, x1, x2], _ => exact ⟨_, _, _, rfl⟩
  have e0 := hfl 0 M.f0 rfl
  have e1 := hfl 1 M.f1 rfl
  have e2 := hfl 2 M.f2 rfl
  rw [M.o0.1, M.o0.2, T.cu64] at e0
  rw [M.o1.1, M.o1.2, T.cu64] at e1
  rw [M.o2.1, M.o2.2, T.cop] at e2
  have hl2 : cs.toList.length = 12 := hl
  obtain ⟨l, hcs⟩ : ∃ l, l = cs.toList := ⟨_, rfl⟩
  have ec : (Value.agg cs).cells.toList = l := hcs.symm
  rw [ec] at e0 e1 e2
  rw [← hcs] at hl2
  obtain ⟨a, b, m, rfl, hm⟩ : ∃ a b m, l = a :: b :: m ∧ m.length = 10 := by
    match l, hl2 with
    | a :: b :: m, h => exact ⟨a, b, m, rfl, by simpa using h⟩
  simp only [List.drop_succ_cons, List.drop_zero, List.take_succ_cons, List.take_zero, List.getElem?_cons_zero, List.getElem?_cons_succ] at e0 e1 e2
  rw [List.take_of_length_le (by omega)] at e2
  obtain ⟨z0, q0, _, w0⟩ := DataW.trod_int T.hu64 e0
  obtain ⟨z1, q1, _, w1⟩ := DataW.trod_int T.hu64 e1
  obtain rfl : a = .int .u64 z0 := by simpa using q0
  obtain rfl : b = .int .u64 z1 := by simpa using q1
  obtain ⟨y, ey, k, sm⟩ := open_deep T d e2
  have g0 : 0 ≤ z0 ∧ z0 < 18446744073709551616 := by
    simp [Lit.wf, IntKind.min, IntKind.max, IntKind.signed, IntKind.bits] at w0
    omega
  have g1 : 0 ≤ z1 ∧ z1 < 18446744073709551616 := by
    simp [Lit.wf, IntKind.min, IntKind.max, IntKind.signed, IntKind.bits] at w1
    omega
  refine ⟨z0.toNat, z1.toNat, y, ?_, by omega, by omega, k, fun hwt => ?_⟩
  · unfold qVal
    rw [Int.toNat_of_nonneg g0.1, Int.toNat_of_nonneg g1.1, ← ey]
    congr 1
    apply Array.toList_inj.1
    rw [← hcs]
  · rw [(Prod.mk.inj hx).1] at hwt
    exact sm (hwt.field M.hreq 2 (u := T.op) (by simp [M.o2.1]) rfl)
theorem open_resV (T : OpTypes P) (C : CellTypes P T) (M : MoreTypes P T C) {r : Reach} {b0 : Nat} {v : Value} {x : DataW H} {p : List MemPlace} (hv : Value.okWide P w r b0 M.res v) (h : DataW.Trod enc P w base spare held M.res v x p) :
    ∃ (e : Int) (ao : Option Addr) (n cap : Nat) (l : List CA) (m : Bool), v = .agg #[.int .i64 e, .slice ao n cap, .bool m] ∧ (-9223372036854775808 ≤ e ∧ e ≤ 9223372036854775807) ∧ CL w ao n cap l ∧ (Wt P x M.res → ∀ c ∈ l, c.small) := by
  obtain ⟨cs, rfl, hsz⟩ := okWide_struct M.hres hv
  obtain ⟨fuel, hf⟩ := h
  obtain ⟨xs, k, _, hx, hl, hlen, hfl⟩ := DataW.trod_struct M.hres hf
  rw [M.cres] at hl
  obtain ⟨x0, x1, x2, rfl⟩ : ∃ x0 x1 x2, xs = [x0, x1, x2] := by
    match xs, hlen with
    | [x0, x1, x2], _ => exact ⟨_, _, _, rfl⟩
  have e0 := hfl 0 M.g0 rfl
  have e1 := hfl 1 M.g1 rfl
  have e2 := hfl 2 M.g2 rfl
  rw [M.p0.1, M.p0.2, M.cknd] at e0
  rw [M.p1.1, M.p1.2, M.ccels] at e1
  rw [M.p2.1, M.p2.2, T.cbool] at e2
  have hl2 : cs.toList.length = 3 := hl
  obtain ⟨l, hcs⟩ : ∃ l, l = cs.toList := ⟨_, rfl⟩
  have ec : (Value.agg cs).cells.toList = l := hcs.symm
  rw [ec] at e0 e1 e2
  rw [← hcs] at hl2
  obtain ⟨a, b, c, rfl⟩ : ∃ a b c, l = [a, b, c] := by
    match l, hl2 with
    | [a, b, c], _ => exact ⟨_, _, _, rfl⟩
  simp only [List.drop_succ_cons, List.drop_zero, List.take_succ_cons, List.take_zero, List.getElem?_cons_zero, List.getElem?_cons_succ] at e0 e1 e2
  obtain ⟨z0, q0, _, w0⟩ := DataW.trod_int M.hknd e0
  obtain rfl : a = .int .i64 z0 := by simpa using q0
  obtain ⟨ao, n, cap, cl, rfl, hcl, sm⟩ := open_cells T C e1
  obtain ⟨m, q2, _⟩ := DataW.trod_bool T.hbool e2
  obtain rfl : c = .bool m := by simpa using q2
  have g0 : -9223372036854775808 ≤ z0 ∧ z0 ≤ 9223372036854775807 := by
    simp [Lit.wf, IntKind.min, IntKind.max, IntKind.signed, IntKind.bits] at w0
    omega
  refine ⟨z0, ao, n, cap, cl, m, ?_, g0, hcl, fun hwt => ?_⟩
  · congr 1
    apply Array.toList_inj.1
    rw [← hcs]
  · rw [(Prod.mk.inj hx).1] at hwt
    exact sm (hwt.field M.hres 1 (u := C.cels) (by simp [M.p1.1]) rfl)

/-- The slice at ao, of n operations, each d deep, reads as l. -/
structure OWL (w : World) (d : Nat) (ao : Option Addr) (n cap : Nat) (l : List (OD d)) : Prop where
  len : l.length = n
  le : n ≤ cap
  mx : cap ≤ maxLen
  nil : ao = none → n = 0 ∧ cap = 0
  cell : ∀ a, ao = some a → ∀ i (h : i < l.length), ∀ j v, (topD d l[i]).cells[j]? = some v → w.cell? (a.add (i * 10 + j)) = some v
  ok : ∀ y ∈ l, OW w d y
theorem OWL.below {w w' : World} {d : Nat} {ao : Option Addr} {n cap : Nat} {l : List (OD d)} (h : OWL w d ao n cap l) (hb : Below w.heap.size w w') : OWL w' d ao n cap l :=
  ⟨h.len, h.le, h.mx, h.nil, fun a ha i hi j v hv => (hb.cell (World.block_lt_of_cell? w _ (h.cell a ha i hi j v hv))).trans (h.cell a ha i hi j v hv), fun y hy => OW.below hb (h.ok y hy)⟩
theorem open_ops (T : OpTypes P) (d : Nat) {fuel : Nat} {v : Value} {x : DataW H × List MemPlace} (h : DataW.trod enc P w base spare held fuel T.subs [v] = some x) : ∃ ao n cap l, v = .slice ao n cap ∧ OWL w d ao n cap l ∧ (Wt P x.1 T.subs → ∀ y ∈ l, OSm d y) := by
  rcases Deep.open_slice T.hsubs h with ⟨hcs, _⟩ | ⟨a, l, c, m, n, D, Pl, hcs, _, hl, hm, hmm, hy0, hx⟩
  · exact ⟨none, 0, 0, [], by simpa using hcs, ⟨rfl, Nat.le_refl _, Nat.zero_le _, fun _ => ⟨rfl, rfl⟩, fun _ h => by simp at h, fun _ h => by simp at h⟩, fun _ _ h => by simp at h⟩
  · have hlm : l ≤ m := by rw [hmm]; split <;> omega
    obtain ⟨z, hz1, hz2⟩ := gather_list (p := fun i y => ((∀ j v, (topD d y).cells[j]? = some v → w.cell? (a.add (i * 10 + j)) = some v) ∧ OW w d y) ∧ (Wt P (D i) T.op → OSm d y)) l (fun i hi => by
      obtain ⟨cs', h1, h2⟩ := hx i (by omega)
      rw [T.cop] at h1
      obtain ⟨_, hlen, hcell⟩ := World.cells?_some h1
      obtain ⟨y, e1, w1, sm1⟩ := open_deep T d h2
      refine ⟨y, ⟨fun j v hv => ?_, w1⟩, sm1⟩
      rw [← e1] at hv
      have hj : j < cs'.length := (List.getElem?_eq_some_iff.1 hv).1
      have := hcell j (by omega)
      rw [Deep.add_add, hv] at this
      exact this)
    refine ⟨some a, l, c, z, by simpa using hcs, ⟨hz1, hl, hm, fun h => by simp at h, fun b hb i hi => ?_, fun y hy => ?_⟩, fun hwt y hy => ?_⟩
    · obtain rfl := Option.some.inj hb
      exact (hz2 i hi).1.1
    · obtain ⟨i, hi, rfl⟩ := List.getElem_of_mem hy
      exact (hz2 i hi).1.2
    · obtain ⟨i, hi, rfl⟩ := List.getElem_of_mem hy
      refine (hz2 i hi).2 fun n hn2 => hwt n ?_
      rw [hy0]
      simp only [DataW.weights, T.hsubs]
      refine List.mem_cons_of_mem _ (List.mem_append_left _ (weights_mem_all (j := i) ?_ n hn2))
      rw [List.getElem?_map, List.getElem?_range (by omega)]
      rfl
end Go.Proofs.YtnicnfjickknjaaGreatDoor

namespace Go.Proofs.YtnicnfjickknjaaGreatDoor
open Go.RowKit

/-- An operation's cells, from a place on. -/
structure OX (V : World) (b p : Nat) (o : OA) : Prop where
  c0 : V.cell? ⟨b, p, none⟩ = some (.int .i64 o.kind)
  c1 : V.cell? ⟨b, p + 1, none⟩ = some (.string o.row)
  c2 : V.cell? ⟨b, p + 2, none⟩ = some (.string o.fam)
  c3 : V.cell? ⟨b, p + 3, none⟩ = some (.string o.qual)
  c4 : V.cell? ⟨b, p + 4, none⟩ = some (.int .u64 o.time)
  c5 : V.cell? ⟨b, p + 5, none⟩ = some (.string o.to)
  c6 : V.cell? ⟨b, p + 6, none⟩ = some (.slice o.va.ao o.va.n o.va.cap)
  c7 : V.cell? ⟨b, p + 7, none⟩ = some (.slice o.wa.ao o.wa.n o.wa.cap)
  c8 : V.cell? ⟨b, p + 8, none⟩ = some (.bool o.has)
  c9 : V.cell? ⟨b, p + 9, none⟩ = some (.slice o.so o.sn o.sc)
theorem OX.below {V V' : World} {b p : Nat} {o : OA} (h : OX V b p o) (hb : Below V.heap.size V V') : OX V' b p o :=
  have k : ∀ a v, V.cell? a = some v → V'.cell? a = some v := fun _ _ hc => (hb.cell (World.block_lt_of_cell? V _ hc)).trans hc
  ⟨k _ _ h.c0, k _ _ h.c1, k _ _ h.c2, k _ _ h.c3, k _ _ h.c4, k _ _ h.c5, k _ _ h.c6, k _ _ h.c7, k _ _ h.c8, k _ _ h.c9⟩
theorem OWL.at {w : World} {d : Nat} {ao : Option Addr} {n cap : Nat} {l : List (OD d)} (h : OWL w d ao n cap l) (hn : 0 < n) :
    ∃ b off, ao = some ⟨b, off, none⟩ ∧ ∀ i (hi : i < l.length), OX w b (off + i * 10) (topD d l[i]) := by
  have hl := h.len
  cases ao with
  | none => have := (h.nil rfl).1; omega
  | some a =>
    obtain ⟨b, off, spot⟩ := a
    have hc := h.cell _ rfl 0 (by omega) 0 _ rfl
    have hs : spot = none := by simpa [Addr.add] using World.cell?_spot hc
    subst hs
    refine ⟨b, off, rfl, fun i hi => ?_⟩
    have k : ∀ j v, (topD d l[i]).cells[j]? = some v → w.cell? ⟨b, off + i * 10 + j, none⟩ = some v := fun j v hv => by
      have := h.cell _ rfl i hi j v hv
      rw [Addr.add_lit] at this
      rw [Nat.add_assoc]
      exact this
    exact ⟨k 0 _ rfl, k 1 _ rfl, k 2 _ rfl, k 3 _ rfl, k 4 _ rfl, k 5 _ rfl, k 6 _ rfl, k 7 _ rfl, k 8 _ rfl, k 9 _ rfl⟩
/-- The parts of an operation that lies d + 1 deep. -/
theorem OW.subs {w : World} {d : Nat} {x : OD (d + 1)} (h : OW w (d + 1) x) : OWL w d x.1.so x.1.sn x.1.sc x.2 :=
  ⟨h.2.1, h.1.le, h.1.mx, h.1.nil, h.2.2.1, h.2.2.2⟩
end Go.Proofs.YtnicnfjickknjaaGreatDoor

namespace Go.Proofs.YtnicnfjickknjaaGreatDoor

/-- The upper end: of an empty text 33 bytes of 255. -/
def hiL (t : List Int) : List Int := if t = [] then List.replicate 33 255 else nm t
end Go.Proofs.YtnicnfjickknjaaGreatDoor

namespace Go.Proofs.YtnicnfjickknjaaGreatDoor
open Go.RowKit

theorem toL_ne {s t : ByteArray} (h : s ≠ t) : (s.toList == t.toList) = false := by
  rw [beq_eq_false_iff_ne]
  intro e
  apply h
  rw [ByteArray.toList_eq, ByteArray.toList_eq] at e
  exact ByteArray.ext (Array.toList_inj.1 e)

/-- Is it right? -/
def KA.isRight (k : KA) : Bool := decide (1 ≤ k.row.size ∧ k.row.size ≤ 32 ∧ 1 ≤ k.fam.size ∧ k.fam.size ≤ 32 ∧ k.qual.size ≤ 32)
theorem KA.isRight_kv (k : KA) : k.isRight = decide k.kv.right := by
  unfold KA.isRight KV.right KA.kv
  simp only [sb_len]
def KA.kind (k : KA) : Int := if k.isRight then 0 else 5

set_option maxRecDepth 100000 in
set_option maxHeartbeats 2000000 in
theorem rright_any (w : World) (k : KA) :
    Calls Tryz.prog 26 #[k.val] w fun e w' => e = .returned (.int .i64 k.kind) ∧ Below w.heap.size w w' := by
  have B : Below w.heap.size w (w.alloc (Obj.cells #[.string k.row, .string k.fam, .string k.qual, .int .u64 k.time] 24)) := (Below.refl _ w).alloc (Nat.le_refl _) _
  have no : ∀ (_ : ¬ (1 ≤ k.row.size ∧ k.row.size ≤ 32 ∧ 1 ≤ k.fam.size ∧ k.fam.size ≤ 32 ∧ k.qual.size ≤ 32)), Hid (k.kind = 5) := fun h => by
    show _ = _
    unfold KA.kind KA.isRight
    rw [decide_eq_false h]
    rfl
  unfold KA.val
  by_cases r0 : k.row.size < 1
  · have i0 : (k.row.size : Int) < 1 := by omega
    have hv := no (by omega)
    clear no
    go_enter Tryz.func26, Tryz.ntmps26
    go_wp2
    go_ret
    exact ⟨by rw [hv.out] <;> rfl, B⟩
  have i0 : (1 : Int) ≤ (k.row.size : Int) := by omega
  by_cases r1 : 32 < k.row.size
  · have i1 : (32 : Int) < (k.row.size : Int) := by omega
    have hv := no (by omega)
    clear no
    go_enter Tryz.func26, Tryz.ntmps26
    go_wp2
    go_ret
    exact ⟨by rw [hv.out] <;> rfl, B⟩
  have i1 : (k.row.size : Int) ≤ 32 := by omega
  by_cases r2 : k.fam.size < 1
  · have i2 : (k.fam.size : Int) < 1 := by omega
    have hv := no (by omega)
    clear no
    go_enter Tryz.func26, Tryz.ntmps26
    go_wp2
    go_ret
    exact ⟨by rw [hv.out] <;> rfl, B⟩
  have i2 : (1 : Int) ≤ (k.fam.size : Int) := by omega
  by_cases r3 : 32 < k.fam.size
  · have i3 : (32 : Int) < (k.fam.size : Int) := by omega
    have hv := no (by omega)
    clear no
    go_enter Tryz.func26, Tryz.ntmps26
    go_wp2
    go_ret
    exact ⟨by rw [hv.out] <;> rfl, B⟩
  have i3 : (k.fam.size : Int) ≤ 32 := by omega
  by_cases r4 : 32 < k.qual.size
  · have i4 : (32 : Int) < (k.qual.size : Int) := by omega
    have hv := no (by omega)
    clear no
    go_enter Tryz.func26, Tryz.ntmps26
    go_wp2
    go_ret
    exact ⟨by rw [hv.out] <;> rfl, B⟩
  have i4 : (k.qual.size : Int) ≤ 32 := by omega
  have hv : Hid (k.kind = 0) := by
    show _ = _
    unfold KA.kind KA.isRight
    rw [decide_eq_true (by omega)]
    rfl
  clear no
  go_enter Tryz.func26, Tryz.ntmps26
  go_wp2
  go_ret
  exact ⟨by rw [hv.out] <;> rfl, B⟩

/-- Are two keys of one column? -/
def KA.col (a b : KA) : Bool := decide (a.row = b.row ∧ a.fam = b.fam ∧ a.qual = b.qual)
end Go.Proofs.YtnicnfjickknjaaGreatDoor

namespace Go.Proofs.YtnicnfjickknjaaGreatDoor
open Go.RowKit

/-- A name's bytes without its end. -/
def esc : List Int → List Int
  | [] => []
  | c :: t => (if c = 0 then [0, 255] else [c]) ++ esc t
theorem esc_append : ∀ s t, esc (s ++ t) = esc s ++ esc t
  | [], t => rfl
  | c :: s, t => by simp [esc, esc_append s t]
theorem nm_esc : ∀ s, nm s = esc s ++ [0, 1]
  | [] => rfl
  | c :: t => by
    unfold nm esc
    rw [nm_esc t]
    split <;> simp
theorem esc_len : ∀ s, (esc s).length ≤ 2 * s.length
  | [] => by simp [esc]
  | c :: t => by
    have := esc_len t
    unfold esc
    rw [List.length_append, List.length_cons]
    split <;> simp <;> omega
theorem sb_take (s : ByteArray) (k : Nat) (h : k < s.size) : (sb s).take (k + 1) = (sb s).take k ++ [(s[k].toNat : Int)] := by
  have hl : k < (sb s).length := by rw [sb_len]; exact h
  rw [List.take_succ_eq_append_getElem hl]
  simp [sb, ByteArray.getElem_eq_getElem_data]

theorem sb_nil {s : ByteArray} (h : s.size = 0) : sb s = [] := List.eq_nil_of_length_eq_zero (by rw [sb_len]; exact h)
theorem empty_of {s : ByteArray} (h : s.size = 0) : s = ⟨#[]⟩ := by
  apply sb_inj
  rw [sb_nil h]
  rfl
end Go.Proofs.YtnicnfjickknjaaGreatDoor

namespace Go.Proofs.YtnicnfjickknjaaGreatDoor
open Go.RowKit

/-- The items whose keys are not below lo. -/
def ge (lo : List Int) (l : List It) : List It := l.filter fun x => decide (¬ cmpL x.k lo < 0)
theorem ge_append (lo : List Int) (a b : List It) : ge lo (a ++ b) = ge lo a ++ ge lo b := by simp [ge]
theorem ge_none {lo : List Int} {l : List It} (h : ∀ x ∈ l, cmpL x.k lo < 0) : ge lo l = [] := List.filter_eq_nil_iff.2 fun x hx => by simpa using h x hx
theorem ge_one {lo : List Int} {x : It} (h : ¬ cmpL x.k lo < 0) : ge lo [x] = [x] := by simp only [ge, List.filter_cons, decide_eq_true h, if_true, List.filter_nil]
/-- Went on, or was told to stop. -/
def BPost (b : Bool) (Q R : World → Prop) (w : World) : Prop := (b = true ∧ Q w) ∨ (b = false ∧ R w)
def WPost (Q R : World → Prop) (e : Ending) (w : World) : Prop := (e = .returned (.bool true) ∧ Q w) ∨ (e = .returned (.bool false) ∧ R w)

set_option maxHeartbeats 4000000 in
set_option maxRecDepth 100000 in
theorem walk_fuel (w0 : World) (g : Nat) (lb : Array Value) (eg : ∀ args w, (callFunc g args).run Tryz.prog w = .ok (.enter g args) w) (Iv : List It → World → Prop) (St : World → Prop) (ok : It → Prop) (F : List It)
    (hIb : ∀ pre W, Iv pre W → Below w0.heap.size w0 W) (hSb : ∀ W, St W → Below w0.heap.size w0 W) (hgr : ∀ pre W W', Iv pre W → Below W.heap.size W W' → Iv pre W')
    (lo : List Int) (xo : Option Addr) (m xc : Nat) (hx : Sl w0 xo m xc lo)
    (hand : ∀ pre W (k y : Part) (x : It), Iv pre W → ok x → (∃ post, pre ++ x :: post = F) → ¬ cmpL x.k lo < 0 → k.xs = x.k → y.xs = x.v → Sl W k.ao k.n k.cap k.xs → Sl W y.ao y.n y.cap y.xs → Calls Tryz.prog g (#[k.val, y.val] ++ lb) W (WPost (Iv (pre ++ [x])) St)) :
    ∀ (N : Nat) (l : List It) (v : Value) (pre post : List It) (W : World), l.length ≤ N → pre ++ (ge lo l ++ post) = F → T w0 v l → Srt l → (∀ x ∈ l, ok x) → l.length ≤ 100000 → Iv pre W → Calls Tryz.prog 49 #[v, .slice xo m xc, .func (.func g) #[] lb] W (WPost (Iv (pre ++ ge lo l)) St) := by
  intro N
  induction N with
  | zero =>
    intro l v pre post W hN hF hT hs hok hn hI
    rcases hT.is with ⟨rfl, rfl⟩ | ⟨d, segs, xs, rfl, h⟩
    · go_enter Tryz.func49, Tryz.ntmps49
      go_wp2
      go_ret
      exact .inl ⟨rfl, by simpa [ge] using hI⟩
    · have h1 := h.shp.pos
      have h2 := h.many
      omega
  | succ N ih =>
    intro l v pre post W hN hF hT hs hok hn hI
    rcases hT.is with ⟨rfl, rfl⟩ | ⟨d, segs, xs, rfl, h⟩
    · go_enter Tryz.func49, Tryz.ntmps49
      go_wp2
      go_ret
      exact .inl ⟨rfl, by simpa [ge] using hI⟩
    have HF : Hid (pre ++ (ge lo l ++ post) = F) := hF
    clear hF
    have hb := hIb _ _ hI
    have hm := h.many
    have hnk1 := Nat.le_of_eq h.nk
    have hnk2 := Nat.le_of_eq h.nk.symm
    have hnv1 := Nat.le_of_eq h.nv
    have hnv2 := Nat.le_of_eq h.nv.symm
    have hnc1 := Nat.le_of_eq h.nc
    have hnc2 := Nat.le_of_eq h.nc.symm
    have hpos := h.shp.pos
    have CP := place_any W d (h.ok.below hb) xo m xc lo (hx.below hb) (h.rise hs) (by omega)
    unfold Nd.ptr at CP ⊢
    go_enter Tryz.func49, Tryz.ntmps49
    go_wp2_with fail
    refine CP.mono ?_
    rintro e W1 ⟨i, b0, rfl, hat, B1⟩
    have hI := hgr _ _ _ hI B1
    obtain ⟨s0, A, B, c, hA, hB, -, -⟩ := h.found hs hat
    have hle := c.le
    have HI0 : Hid (ge lo (wvA (segs.take i) (xs.take i)) = []) := by show _ = _; rw [← c.eA]; exact ge_none hA
    have HHi : Hid (∀ j (hj : j < xs.length), i ≤ j → ¬ cmpL xs[j].k lo < 0) := fun j hj hij => by rw [← h.keyAt j (by omega) hj]; exact hat.hi j (by omega) hij
    clear CP hat c hA hB B1
    go_wp2_with fail
    go_loopw [7] (fun a wr => ∃ j : Nat, a = .int .i64 j ∧ i ≤ j ∧ j ≤ xs.length ∧ Iv (pre ++ ge lo (wvA (segs.take j) (xs.take j))) wr) (fun a _ => xs.length - (intOf a).toNat)
    case atStart => exact ⟨i, rfl, Nat.le_refl _, hle, by rw [HI0.out, List.append_nil]; exact hI⟩
    case round =>
      clear hI hb
      obtain ⟨j, rfl, hij, hj, hI⟩ := hrel
      have hb := hIb _ _ hI
      have Nr := h.below hb
      obtain ⟨cb, cf, s, u, eco, hs1, hs2, hcell, hTk, hlen⟩ := h.kidAt j hj
      obtain ⟨q, rfl⟩ := hTk.ptr
      have hsm : s ∈ segs := List.mem_of_getElem? hs1
      obtain ⟨ss, Aj, Bj, cj⟩ := h.shp.cut j hj
      obtain rfl : ss = s := Option.some.inj (cj.seg.symm.trans hs1)
      have hss : Srt ss := by
        have h1 := hs
        rw [cj.el] at h1
        exact h1.app.2.1.app.1
      have HFk : Hid (pre ++ ge lo (wvA (segs.take j) (xs.take j)) ++ (ge lo ss ++ (ge lo Bj ++ post)) = F) := by
        show _ = _
        rw [← HF.out, cj.el, cj.eA]
        simp only [ge_append, List.append_assoc]
      have CI : Hid (∀ V, Iv (pre ++ ge lo (wvA (segs.take j) (xs.take j))) V → Calls Tryz.prog 49 #[.pointer q, .slice xo m xc, .func (.func g) #[] lb] V (WPost (Iv (pre ++ ge lo (wvA (segs.take j) (xs.take j)) ++ ge lo ss)) St)) := fun V hV => ih ss (.pointer q) _ (ge lo Bj ++ post) V (by omega) HFk.out hTk hss (fun x hx => hok x (h.shp.seg _ hsm x hx)) (by omega) hV
      have hji : (j : Int) < (d.cs.length : Int) := by omega
      by_cases hlt : j < d.ks.length
      · have hlt' : (j : Int) < (d.ks.length : Int) := by omega
        have hlv : (j : Int) < (d.vs.length : Int) := by omega
        have hjx : j < xs.length := by omega
        have hjv : j < d.vs.length := by omega
        obtain ⟨ab, af, eak, hck⟩ := h.ok.kl.vl.at (by omega)
        obtain ⟨vb, vf, eav, hcv⟩ := h.ok.vl.vl.at (by omega)
        have ck := hck j (by simpa using hlt)
        have cv := hcv j (by simpa using hjv)
        have SK := h.ok.kl.sl d.ks[j] (List.getElem_mem hlt)
        have SV := h.ok.vl.sl d.vs[j] (List.getElem_mem hjv)
        have ek := h.keyAt j hlt hjx
        have ev := h.valAt j hjv hjx
        simp only [List.getElem_map] at ck cv
        obtain ⟨k, hk⟩ : ∃ k, k = d.ks[j] := ⟨_, rfl⟩
        obtain ⟨y, hy⟩ : ∃ y, y = d.vs[j] := ⟨_, rfl⟩
        rw [← hk] at ck SK ek
        rw [← hy] at cv SV ev
        have c1 := h.ok.c1
        have c2 := h.ok.c2
        have c3 := h.ok.c3
        rw [eak] at c1
        rw [eav] at c2
        rw [eco] at c3
        have c1r : wr.cell? ⟨d.b, 1, none⟩ = some (.slice (some ⟨ab, af, none⟩) d.ks.length d.kc) := (hb.cell (p := ⟨d.b, 1, none⟩) h.ok.lt).trans c1
        have HW : Hid (ge lo (wvA (segs.take (j + 1)) (xs.take (j + 1))) = ge lo (wvA (segs.take j) (xs.take j)) ++ ge lo ss ++ [xs[j]]) := by
          show _ = _
          have hjs : j < segs.length := by have := h.shp.len; omega
          have e1 : segs[j] = ss := by
            have := cj.seg
            rw [List.getElem?_eq_getElem hjs] at this
            exact Option.some.inj this
          have e2 : ge lo [xs[j]] = [xs[j]] := ge_one (by have := HHi.out j hjx hij; omega)
          rw [List.take_add_one, List.take_add_one, List.getElem?_eq_getElem hjs, List.getElem?_eq_getElem hjx, wvA_app _ _ _ _ (by simp; omega), e1]
          simp only [Option.toList_some, wvA, ge_append]
          have e3 : ge lo (xs[j] :: []) = [xs[j]] := e2
          rw [e3, List.append_assoc]
        have HFx : Hid (∃ p2, pre ++ ge lo (wvA (segs.take j) (xs.take j)) ++ ge lo ss ++ xs[j] :: p2 = F) := by
          obtain ⟨t, Q, -, -, -, -, hBe⟩ := cj.next hjx
          refine ⟨ge lo (t ++ weave ([] :: Q) (xs.drop (j + 1))) ++ post, ?_⟩
          have e2 : ge lo Bj = xs[j] :: ge lo (t ++ weave ([] :: Q) (xs.drop (j + 1))) := by
            rw [hBe, show xs[j] :: (t ++ weave ([] :: Q) (xs.drop (j + 1))) = [xs[j]] ++ (t ++ weave ([] :: Q) (xs.drop (j + 1))) from rfl, ge_append, ge_one (by have := HHi.out j hjx hij; omega)]
            rfl
          rw [← HFk.out, e2]
          simp
        have CH : Hid (∀ V, Iv (pre ++ ge lo (wvA (segs.take j) (xs.take j)) ++ ge lo ss) V → Calls Tryz.prog g ((#[Value.slice k.ao k.n k.cap, Value.slice y.ao y.n y.cap] : Array Value) ++ lb) V (WPost (Iv (pre ++ ge lo (wvA (segs.take (j + 1)) (xs.take (j + 1))))) St)) := by
          intro V hV
          rw [HW.out, ← List.append_assoc, ← List.append_assoc]
          exact hand _ V k y xs[j] hV (hok _ (h.shp.key _ (List.getElem_mem hjx))) HFx.out (by have := HHi.out j hjx hij; omega) ek ev (SK.below (hIb _ _ hV)) (SV.below (hIb _ _ hV))
        have CS : Hid (∀ V, Below w0.heap.size w0 V → V.cell? ⟨d.b, 1, none⟩ = some (.slice (some ⟨ab, af, none⟩) d.ks.length d.kc) ∧ V.cell? ⟨d.b, 2, none⟩ = some (.slice (some ⟨vb, vf, none⟩) d.vs.length d.vc) ∧ V.cell? ⟨d.b, 3, none⟩ = some (.slice (some ⟨cb, cf, none⟩) d.cs.length d.cc) ∧ V.cell? ⟨cb, cf + j, none⟩ = some (.pointer q) ∧ V.cell? ⟨ab, af + j, none⟩ = some (.slice k.ao k.n k.cap) ∧ V.cell? ⟨vb, vf + j, none⟩ = some (.slice y.ao y.n y.cap)) := by
          intro V hV
          unfold Part.val at ck cv
          exact ⟨(hV.cell (World.block_lt_of_cell? _ _ c1)).trans c1, (hV.cell (World.block_lt_of_cell? _ _ c2)).trans c2, (hV.cell (World.block_lt_of_cell? _ _ c3)).trans c3, (hV.cell (World.block_lt_of_cell? _ _ hcell)).trans hcell, (hV.cell (World.block_lt_of_cell? _ _ ck)).trans ck, (hV.cell (World.block_lt_of_cell? _ _ cv)).trans cv⟩
        clear hk hy ck cv SK SV ek ev c1 c2 c3 hck hcv eak eav eco hs1 hs2 hcell hTk cj hss HW ih hand
        go_wp2_with fail
        have hb0 : Below w0.heap.size w0 wr.drew := (hIb _ _ hI).drew
        have hI0 := hgr _ _ _ hI (Below.refl _ wr).drew
        refine wp_region_noPanic ?_
        refine wp_region_held_drew (S := fun V => V.cell? ⟨d.b, 1, none⟩ = some (.slice (some ⟨ab, af, none⟩) d.ks.length d.kc) ∧ V.cell? ⟨d.b, 2, none⟩ = some (.slice (some ⟨vb, vf, none⟩) d.vs.length d.vc) ∧ V.cell? ⟨d.b, 3, none⟩ = some (.slice (some ⟨cb, cf, none⟩) d.cs.length d.cc) ∧ V.cell? ⟨cb, cf + j, none⟩ = some (.pointer q) ∧ V.cell? ⟨ab, af + j, none⟩ = some (.slice k.ao k.n k.cap) ∧ V.cell? ⟨vb, vf + j, none⟩ = some (.slice y.ao y.n y.cap)) (by kernel_rfl) (CS.out _ hb0) (fun aH0 => ?_)
        obtain ⟨v0, hv0⟩ : ∃ v, v = wr.drew := ⟨_, rfl⟩
        rw [← hv0] at aH0 hI0 ⊢
        clear hv0 hI hb0
        refine hr_take_w 0 (some 26) (.pointer (some ⟨d.b, 0, none⟩)) rfl rfl (by kernel_rfl) (by kernel_rfl) (by kernel_rfl) rfl (fun W hW => by obtain ⟨h0, h1, h2, h3, h4, h5⟩ := hW; go_simp) aH0 ?_
        simp only [Act.put, List.setIfInBounds_toArray, List.set_cons_zero, List.set_cons_succ]
        refine hr_take_w 1 (some 27) (.pointer (some ⟨d.b, 0, none⟩)) rfl rfl (by kernel_rfl) (by kernel_rfl) (by kernel_rfl) rfl (fun W hW => by obtain ⟨h0, h1, h2, h3, h4, h5⟩ := hW; go_simp) aH0 ?_
        simp only [Act.put, List.setIfInBounds_toArray, List.set_cons_zero, List.set_cons_succ]
        refine hr_take_w 2 (some 28) (.pointer (some ⟨d.b, 3, none⟩)) rfl rfl (by kernel_rfl) (by kernel_rfl) (by kernel_rfl) rfl (fun W hW => by obtain ⟨h0, h1, h2, h3, h4, h5⟩ := hW; go_simp) aH0 ?_
        simp only [Act.put, List.setIfInBounds_toArray, List.set_cons_zero, List.set_cons_succ]
        refine hr_take_w 3 (some 29) (.slice (some ⟨cb, cf, none⟩) d.cs.length d.cc) rfl rfl (by kernel_rfl) (by kernel_rfl) (by kernel_rfl) rfl (fun W hW => by obtain ⟨h0, h1, h2, h3, h4, h5⟩ := hW; go_simp) aH0 ?_
        simp only [Act.put, List.setIfInBounds_toArray, List.set_cons_zero, List.set_cons_succ]
        refine hr_take_w 4 (some 30) (.int .i64 j) rfl rfl (by kernel_rfl) (by kernel_rfl) (by kernel_rfl) rfl (fun W hW => by obtain ⟨h0, h1, h2, h3, h4, h5⟩ := hW; go_simp) aH0 ?_
        simp only [Act.put, List.setIfInBounds_toArray, List.set_cons_zero, List.set_cons_succ]
        refine hr_take_w 5 (some 31) (.pointer (some ⟨cb, cf + j, none⟩)) rfl rfl (by kernel_rfl) (by kernel_rfl) (by kernel_rfl) rfl (fun W hW => by obtain ⟨h0, h1, h2, h3, h4, h5⟩ := hW; go_simp) aH0 ?_
        simp only [Act.put, List.setIfInBounds_toArray, List.set_cons_zero, List.set_cons_succ]
        refine hr_take_w 6 (some 32) (.pointer q) rfl rfl (by kernel_rfl) (by kernel_rfl) (by kernel_rfl) rfl (fun W hW => by obtain ⟨h0, h1, h2, h3, h4, h5⟩ := hW; go_simp) aH0 ?_
        simp only [Act.put, List.setIfInBounds_toArray, List.set_cons_zero, List.set_cons_succ]
        refine hr_take_w 7 (some 33) (.slice xo m xc) rfl rfl (by kernel_rfl) (by kernel_rfl) (by kernel_rfl) rfl (fun W hW => by obtain ⟨h0, h1, h2, h3, h4, h5⟩ := hW; go_simp) aH0 ?_
        simp only [Act.put, List.setIfInBounds_toArray, List.set_cons_zero, List.set_cons_succ]
        refine hr_take_w 8 (some 34) (.func (.func g) #[] lb) rfl rfl (by kernel_rfl) (by kernel_rfl) (by kernel_rfl) rfl (fun W hW => by obtain ⟨h0, h1, h2, h3, h4, h5⟩ := hW; go_simp) aH0 ?_
        simp only [Act.put, List.setIfInBounds_toArray, List.set_cons_zero, List.set_cons_succ]
        refine hr_call_w 9 (some 35) 49 #[.pointer q, .slice xo m xc, .func (.func g) #[] lb] rfl rfl (by kernel_rfl) rfl (by go_simp) (fun v w' => ∃ b, v = .bool b ∧ BPost b (Iv (pre ++ ge lo (wvA (segs.take j) (xs.take j)) ++ ge lo ss)) St w') ((CI.out v0 hI0).mono (by
          rintro e w' (⟨rfl, h⟩ | ⟨rfl, h⟩)
          · exact ⟨_, rfl, true, rfl, .inl ⟨rfl, h⟩⟩
          · exact ⟨_, rfl, false, rfl, .inr ⟨rfl, h⟩⟩)) ?_
        rintro v v1 ⟨b, rfl, hP⟩
        have hb1 : Below w0.heap.size w0 v1 := by
          rcases hP with ⟨-, h⟩ | ⟨-, h⟩
          · exact hIb _ _ h
          · exact hSb _ h
        have aH1 := CS.out v1 hb1
        refine ⟨aH1, ?_⟩
        simp only [Act.put, List.setIfInBounds_toArray, List.set_cons_zero, List.set_cons_succ]
        clear hI0 CI
        cases b with
        | false =>
          refine hr_take_w 10 (some 36) (.bool true) rfl rfl (by kernel_rfl) (by kernel_rfl) (by kernel_rfl) rfl (fun W hW => by obtain ⟨h0, h1, h2, h3, h4, h5⟩ := hW; go_simp) aH1 ?_
          simp only [Act.put, List.setIfInBounds_toArray, List.set_cons_zero, List.set_cons_succ]
          refine hr_take_w 11 (some 37) (.bool true) rfl rfl (by kernel_rfl) (by kernel_rfl) (by kernel_rfl) rfl (fun W hW => by obtain ⟨h0, h1, h2, h3, h4, h5⟩ := hW; go_simp) aH1 ?_
          simp only [Act.put, List.setIfInBounds_toArray, List.set_cons_zero, List.set_cons_succ]
          refine hr_none 12 (some 38) rfl rfl (by kernel_rfl) (by kernel_rfl) (by kernel_rfl) rfl aH1 ?_
          simp only [Act.put, List.setIfInBounds_toArray, List.set_cons_zero, List.set_cons_succ]
          refine hr_none 13 (some 39) rfl rfl (by kernel_rfl) (by kernel_rfl) (by kernel_rfl) rfl aH1 ?_
          simp only [Act.put, List.setIfInBounds_toArray, List.set_cons_zero, List.set_cons_succ]
          refine hr_none 14 (some 40) rfl rfl (by kernel_rfl) (by kernel_rfl) (by kernel_rfl) rfl aH1 ?_
          simp only [Act.put, List.setIfInBounds_toArray, List.set_cons_zero, List.set_cons_succ]
          refine hr_none 15 (some 41) rfl rfl (by kernel_rfl) (by kernel_rfl) (by kernel_rfl) rfl aH1 ?_
          simp only [Act.put, List.setIfInBounds_toArray, List.set_cons_zero, List.set_cons_succ]
          refine hr_none 16 (some 42) rfl rfl (by kernel_rfl) (by kernel_rfl) (by kernel_rfl) rfl aH1 ?_
          simp only [Act.put, List.setIfInBounds_toArray, List.set_cons_zero, List.set_cons_succ]
          refine hr_none 17 (some 43) rfl rfl (by kernel_rfl) (by kernel_rfl) (by kernel_rfl) rfl aH1 ?_
          simp only [Act.put, List.setIfInBounds_toArray, List.set_cons_zero, List.set_cons_succ]
          refine hr_none 18 (some 44) rfl rfl (by kernel_rfl) (by kernel_rfl) (by kernel_rfl) rfl aH1 ?_
          simp only [Act.put, List.setIfInBounds_toArray, List.set_cons_zero, List.set_cons_succ]
          refine hr_none 19 (some 45) rfl rfl (by kernel_rfl) (by kernel_rfl) (by kernel_rfl) rfl aH1 ?_
          simp only [Act.put, List.setIfInBounds_toArray, List.set_cons_zero, List.set_cons_succ]
          refine hr_none 20 (some 46) rfl rfl (by kernel_rfl) (by kernel_rfl) (by kernel_rfl) rfl aH1 ?_
          simp only [Act.put, List.setIfInBounds_toArray, List.set_cons_zero, List.set_cons_succ]
          refine hr_none 21 (some 47) rfl rfl (by kernel_rfl) (by kernel_rfl) (by kernel_rfl) rfl aH1 ?_
          simp only [Act.put, List.setIfInBounds_toArray, List.set_cons_zero, List.set_cons_succ]
          refine hr_none 22 (some 48) rfl rfl (by kernel_rfl) (by kernel_rfl) (by kernel_rfl) rfl aH1 ?_
          simp only [Act.put, List.setIfInBounds_toArray, List.set_cons_zero, List.set_cons_succ]
          refine hr_none 23 (some 49) rfl rfl (by kernel_rfl) (by kernel_rfl) (by kernel_rfl) rfl aH1 ?_
          simp only [Act.put, List.setIfInBounds_toArray, List.set_cons_zero, List.set_cons_succ]
          refine hr_none 24 (some 50) rfl rfl (by kernel_rfl) (by kernel_rfl) (by kernel_rfl) rfl aH1 ?_
          simp only [Act.put, List.setIfInBounds_toArray, List.set_cons_zero, List.set_cons_succ]
          refine hr_none 25 (some 51) rfl rfl (by kernel_rfl) (by kernel_rfl) (by kernel_rfl) rfl aH1 ?_
          simp only [Act.put, List.setIfInBounds_toArray, List.set_cons_zero, List.set_cons_succ]
          refine hr_none 26 (some 52) rfl rfl (by kernel_rfl) (by kernel_rfl) (by kernel_rfl) rfl aH1 ?_
          simp only [Act.put, List.setIfInBounds_toArray, List.set_cons_zero, List.set_cons_succ]
          refine hr_none 27 (some 53) rfl rfl (by kernel_rfl) (by kernel_rfl) (by kernel_rfl) rfl aH1 ?_
          simp only [Act.put, List.setIfInBounds_toArray, List.set_cons_zero, List.set_cons_succ]
          refine hr_none 28 (some 54) rfl rfl (by kernel_rfl) (by kernel_rfl) (by kernel_rfl) rfl aH1 ?_
          simp only [Act.put, List.setIfInBounds_toArray, List.set_cons_zero, List.set_cons_succ]
          refine hr_take_w 29 (some 55) (.bool true) rfl rfl (by kernel_rfl) (by kernel_rfl) (by kernel_rfl) rfl (fun W hW => by obtain ⟨h0, h1, h2, h3, h4, h5⟩ := hW; go_simp) aH1 ?_
          simp only [Act.put, List.setIfInBounds_toArray, List.set_cons_zero, List.set_cons_succ]
          refine wpAnyH_done (by kernel_rfl) ?_ _
          refine NoPanic.normal ?_
          have hS1 : St v1 := by
            rcases hP with ⟨h, -⟩ | ⟨-, h⟩
            · simp at h
            · exact h
          clear hP CH
          go_wp2
          go_ret
          exact .inr ⟨rfl, hS1⟩
        | true =>
          refine hr_take_w 10 (some 36) (.bool false) rfl rfl (by kernel_rfl) (by kernel_rfl) (by kernel_rfl) rfl (fun W hW => by obtain ⟨h0, h1, h2, h3, h4, h5⟩ := hW; go_simp) aH1 ?_
          simp only [Act.put, List.setIfInBounds_toArray, List.set_cons_zero, List.set_cons_succ]
          refine hr_take_w 11 (some 37) (.bool false) rfl rfl (by kernel_rfl) (by kernel_rfl) (by kernel_rfl) rfl (fun W hW => by obtain ⟨h0, h1, h2, h3, h4, h5⟩ := hW; go_simp) aH1 ?_
          simp only [Act.put, List.setIfInBounds_toArray, List.set_cons_zero, List.set_cons_succ]
          refine hr_take_w 12 (some 38) (.func (.func g) #[] lb) rfl rfl (by kernel_rfl) (by kernel_rfl) (by kernel_rfl) rfl (fun W hW => by obtain ⟨h0, h1, h2, h3, h4, h5⟩ := hW; go_simp) aH1 ?_
          simp only [Act.put, List.setIfInBounds_toArray, List.set_cons_zero, List.set_cons_succ]
          refine hr_take_w 13 (some 39) (.pointer (some ⟨d.b, 0, none⟩)) rfl rfl (by kernel_rfl) (by kernel_rfl) (by kernel_rfl) rfl (fun W hW => by obtain ⟨h0, h1, h2, h3, h4, h5⟩ := hW; go_simp) aH1 ?_
          simp only [Act.put, List.setIfInBounds_toArray, List.set_cons_zero, List.set_cons_succ]
          refine hr_take_w 14 (some 40) (.pointer (some ⟨d.b, 0, none⟩)) rfl rfl (by kernel_rfl) (by kernel_rfl) (by kernel_rfl) rfl (fun W hW => by obtain ⟨h0, h1, h2, h3, h4, h5⟩ := hW; go_simp) aH1 ?_
          simp only [Act.put, List.setIfInBounds_toArray, List.set_cons_zero, List.set_cons_succ]
          refine hr_take_w 15 (some 41) (.pointer (some ⟨d.b, 1, none⟩)) rfl rfl (by kernel_rfl) (by kernel_rfl) (by kernel_rfl) rfl (fun W hW => by obtain ⟨h0, h1, h2, h3, h4, h5⟩ := hW; go_simp) aH1 ?_
          simp only [Act.put, List.setIfInBounds_toArray, List.set_cons_zero, List.set_cons_succ]
          refine hr_take_w 16 (some 42) (.slice (some ⟨ab, af, none⟩) d.ks.length d.kc) rfl rfl (by kernel_rfl) (by kernel_rfl) (by kernel_rfl) rfl (fun W hW => by obtain ⟨h0, h1, h2, h3, h4, h5⟩ := hW; go_simp) aH1 ?_
          simp only [Act.put, List.setIfInBounds_toArray, List.set_cons_zero, List.set_cons_succ]
          refine hr_take_w 17 (some 43) (.int .i64 j) rfl rfl (by kernel_rfl) (by kernel_rfl) (by kernel_rfl) rfl (fun W hW => by obtain ⟨h0, h1, h2, h3, h4, h5⟩ := hW; go_simp) aH1 ?_
          simp only [Act.put, List.setIfInBounds_toArray, List.set_cons_zero, List.set_cons_succ]
          refine hr_take_w 18 (some 44) (.pointer (some ⟨ab, af + j, none⟩)) rfl rfl (by kernel_rfl) (by kernel_rfl) (by kernel_rfl) rfl (fun W hW => by obtain ⟨h0, h1, h2, h3, h4, h5⟩ := hW; go_simp) aH1 ?_
          simp only [Act.put, List.setIfInBounds_toArray, List.set_cons_zero, List.set_cons_succ]
          refine hr_take_w 19 (some 45) (.slice k.ao k.n k.cap) rfl rfl (by kernel_rfl) (by kernel_rfl) (by kernel_rfl) rfl (fun W hW => by obtain ⟨h0, h1, h2, h3, h4, h5⟩ := hW; go_simp) aH1 ?_
          simp only [Act.put, List.setIfInBounds_toArray, List.set_cons_zero, List.set_cons_succ]
          refine hr_take_w 20 (some 46) (.pointer (some ⟨d.b, 0, none⟩)) rfl rfl (by kernel_rfl) (by kernel_rfl) (by kernel_rfl) rfl (fun W hW => by obtain ⟨h0, h1, h2, h3, h4, h5⟩ := hW; go_simp) aH1 ?_
          simp only [Act.put, List.setIfInBounds_toArray, List.set_cons_zero, List.set_cons_succ]
          refine hr_take_w 21 (some 47) (.pointer (some ⟨d.b, 0, none⟩)) rfl rfl (by kernel_rfl) (by kernel_rfl) (by kernel_rfl) rfl (fun W hW => by obtain ⟨h0, h1, h2, h3, h4, h5⟩ := hW; go_simp) aH1 ?_
          simp only [Act.put, List.setIfInBounds_toArray, List.set_cons_zero, List.set_cons_succ]
          refine hr_take_w 22 (some 48) (.pointer (some ⟨d.b, 2, none⟩)) rfl rfl (by kernel_rfl) (by kernel_rfl) (by kernel_rfl) rfl (fun W hW => by obtain ⟨h0, h1, h2, h3, h4, h5⟩ := hW; go_simp) aH1 ?_
          simp only [Act.put, List.setIfInBounds_toArray, List.set_cons_zero, List.set_cons_succ]
          refine hr_take_w 23 (some 49) (.slice (some ⟨vb, vf, none⟩) d.vs.length d.vc) rfl rfl (by kernel_rfl) (by kernel_rfl) (by kernel_rfl) rfl (fun W hW => by obtain ⟨h0, h1, h2, h3, h4, h5⟩ := hW; go_simp) aH1 ?_
          simp only [Act.put, List.setIfInBounds_toArray, List.set_cons_zero, List.set_cons_succ]
          refine hr_take_w 24 (some 50) (.int .i64 j) rfl rfl (by kernel_rfl) (by kernel_rfl) (by kernel_rfl) rfl (fun W hW => by obtain ⟨h0, h1, h2, h3, h4, h5⟩ := hW; go_simp) aH1 ?_
          simp only [Act.put, List.setIfInBounds_toArray, List.set_cons_zero, List.set_cons_succ]
          refine hr_take_w 25 (some 51) (.pointer (some ⟨vb, vf + j, none⟩)) rfl rfl (by kernel_rfl) (by kernel_rfl) (by kernel_rfl) rfl (fun W hW => by obtain ⟨h0, h1, h2, h3, h4, h5⟩ := hW; go_simp) aH1 ?_
          simp only [Act.put, List.setIfInBounds_toArray, List.set_cons_zero, List.set_cons_succ]
          refine hr_take_w 26 (some 52) (.slice y.ao y.n y.cap) rfl rfl (by kernel_rfl) (by kernel_rfl) (by kernel_rfl) rfl (fun W hW => by obtain ⟨h0, h1, h2, h3, h4, h5⟩ := hW; go_simp) aH1 ?_
          simp only [Act.put, List.setIfInBounds_toArray, List.set_cons_zero, List.set_cons_succ]
          have hI1 : Iv (pre ++ ge lo (wvA (segs.take j) (xs.take j)) ++ ge lo ss) v1 := by
            rcases hP with ⟨-, h⟩ | ⟨h, -⟩
            · exact h
            · simp at h
          refine hr_call_w 27 (some 53) g ((#[Value.slice k.ao k.n k.cap, Value.slice y.ao y.n y.cap] : Array Value) ++ lb) rfl rfl (by kernel_rfl) rfl (by go_simp) (fun v w' => ∃ b, v = .bool b ∧ BPost b (Iv (pre ++ ge lo (wvA (segs.take (j + 1)) (xs.take (j + 1))))) St w') ((CH.out v1 hI1).mono (by
            rintro e w' (⟨rfl, h⟩ | ⟨rfl, h⟩)
            · exact ⟨_, rfl, true, rfl, .inl ⟨rfl, h⟩⟩
            · exact ⟨_, rfl, false, rfl, .inr ⟨rfl, h⟩⟩)) ?_
          rintro v v2 ⟨b, rfl, hP2⟩
          have hb2 : Below w0.heap.size w0 v2 := by
            rcases hP2 with ⟨-, h⟩ | ⟨-, h⟩
            · exact hIb _ _ h
            · exact hSb _ h
          have aH2 := CS.out v2 hb2
          refine ⟨aH2, ?_⟩
          simp only [Act.put, List.setIfInBounds_toArray, List.set_cons_zero, List.set_cons_succ]
          clear hI1 CH hP
          cases b with
          | false =>
            refine hr_take_w 28 (some 54) (.bool true) rfl rfl (by kernel_rfl) (by kernel_rfl) (by kernel_rfl) rfl (fun W hW => by obtain ⟨h0, h1, h2, h3, h4, h5⟩ := hW; go_simp) aH2 ?_
            simp only [Act.put, List.setIfInBounds_toArray, List.set_cons_zero, List.set_cons_succ]
            refine hr_take_w 29 (some 55) (.bool true) rfl rfl (by kernel_rfl) (by kernel_rfl) (by kernel_rfl) rfl (fun W hW => by obtain ⟨h0, h1, h2, h3, h4, h5⟩ := hW; go_simp) aH2 ?_
            simp only [Act.put, List.setIfInBounds_toArray, List.set_cons_zero, List.set_cons_succ]
            refine wpAnyH_done (by kernel_rfl) ?_ _
            refine NoPanic.normal ?_
            have hS1 : St v2 := by
              rcases hP2 with ⟨h, -⟩ | ⟨-, h⟩
              · simp at h
              · exact h
            clear hP2
            go_wp2
            go_ret
            exact .inr ⟨rfl, hS1⟩
          | true =>
            refine hr_take_w 28 (some 54) (.bool false) rfl rfl (by kernel_rfl) (by kernel_rfl) (by kernel_rfl) rfl (fun W hW => by obtain ⟨h0, h1, h2, h3, h4, h5⟩ := hW; go_simp) aH2 ?_
            simp only [Act.put, List.setIfInBounds_toArray, List.set_cons_zero, List.set_cons_succ]
            refine hr_take_w 29 (some 55) (.bool false) rfl rfl (by kernel_rfl) (by kernel_rfl) (by kernel_rfl) rfl (fun W hW => by obtain ⟨h0, h1, h2, h3, h4, h5⟩ := hW; go_simp) aH2 ?_
            simp only [Act.put, List.setIfInBounds_toArray, List.set_cons_zero, List.set_cons_succ]
            refine wpAnyH_done (by kernel_rfl) ?_ _
            refine NoPanic.normal ?_
            have hI2 : Iv (pre ++ ge lo (wvA (segs.take (j + 1)) (xs.take (j + 1)))) v2 := by
              rcases hP2 with ⟨-, h⟩ | ⟨h, -⟩
              · exact h
              · simp at h
            clear hP2
            go_wp2
            go_roundw
            case rel => exact ⟨j + 1, by go_num, by omega, by omega, hI2⟩
            case measure => simp [intOf]; omega
      · have hlt' : ¬ (j : Int) < (d.ks.length : Int) := by omega
        have c1 := Nr.ok.c1
        have c3 := Nr.ok.c3
        rw [eco] at c3
        have cc : wr.cell? ⟨cb, cf + j, none⟩ = some (.pointer q) := (hb.cell (World.block_lt_of_cell? _ _ hcell)).trans hcell
        have HX : Hid (pre ++ ge lo (wvA (segs.take j) (xs.take j)) ++ ge lo ss = pre ++ ge lo l) := by
          show _ = _
          have hd : xs.drop j = [] := List.drop_eq_nil_of_le (by omega)
          have e1 : Bj = [] := by rw [cj.eB, hd]; rfl
          rw [List.append_assoc, ← ge_append, ← cj.eA, cj.el, e1, List.append_nil]
        have CF := CI.out wr hI
        rw [HX.out] at CF
        clear hcell hTk cj ih hand CI HX eco hs1 hs2
        go_wp2_with fail
        refine CF.mono ?_
        rintro e W' (⟨rfl, h⟩ | ⟨rfl, h⟩)
        · go_wp2
          go_ret
          exact .inl ⟨rfl, h⟩
        · go_wp2
          go_ret
          exact .inr ⟨rfl, h⟩
end Go.Proofs.YtnicnfjickknjaaGreatDoor

namespace Go.Proofs.YtnicnfjickknjaaGreatDoor
open Go.RowKit

theorem arr_not_row {w : World} {p : Nat} {t e : TypeId} {cs : List Value} (h : Arr w p t cs) (hte : t ≠ e) {base size k : Nat} {v : Value} {xs : List Value} (hr : w.ownsRow base e size v k xs) : v.ownBlock ≠ some p := by
  rcases hr.2 with ⟨rfl, _⟩ | ⟨g, cap, cur, rfl, _, hgb, _⟩
  · simp [Value.ownBlock]
  · intro e'
    obtain rfl : g = p := by simpa [Value.ownBlock] using e'
    have := (show w.heap[g]? = _ from h).symm.trans hgb
    simp at this
    exact hte this.2
theorem own_below {w w' : World} {base : Nat} {e : TypeId} {size : Nat} {v : Value} {n : Nat} {xs : List Value} (h : w.ownsRow base e size v n xs) (hb : Below w.heap.size w w') : w'.ownsRow base e size v n xs :=
  h.kept (row := none) ⟨hb.os, hb.tape, hb.output, hb.size, fun k hk _ => hb.block k hk⟩ (by cases v.ownBlock <;> simp)
theorem arr_below {w w' : World} {p : Nat} {t : TypeId} {cs : List Value} (h : Arr w p t cs) (hb : Below w.heap.size w w') : Arr w' p t cs := (hb.block p h.lt).trans h
/-- Behind an append to a row of a field's own, and the store of what it yields. -/
theorem arr_put {w w1 : World} {p base : Nat} {t e : TypeId} {cs : List Value} {size k m : Nat} {v v' : Value} {xs ys : List Value} (h : Arr w p t cs) (hte : t ≠ e) (hr : w.ownsRow base e size v k xs) (hb : base ≤ w.heap.size) (hp : base ≤ p)
    (hr' : w1.ownsRow base e size v' m ys) (hg : w.grownBy w1 v.ownBlock) (j : Nat) :
    Arr w1 p t cs ∧ Arr (w1.setCell ⟨p, j, none⟩ v') p t (cs.set j v') ∧ (w1.setCell ⟨p, j, none⟩ v').ownsRow base e size v' m ys ∧ Below base w (w1.setCell ⟨p, j, none⟩ v') := by
  have hne := arr_not_row h hte hr
  have h1 : Arr w1 p t cs := h.grown hg (fun e => hne e.symm)
  refine ⟨h1, h1.set j v', ?_, ?_⟩
  · refine hr'.kept (row := some p) (grown_set (a := w1) (b := w1) ⟨rfl, rfl, rfl, Nat.le_refl _, fun _ _ _ => rfl⟩ j v') (.inr (arr_not_row h1 hte hr'))
  · refine ((Below.refl base w).grown hg hb (fun k hk => (hr.lt k hk).1)).setCell hp v'
end Go.Proofs.YtnicnfjickknjaaGreatDoor

namespace Go.Proofs.YtnicnfjickknjaaGreatDoor
open Go.RowKit

theorem ge_nil (l : List It) : ge [] l = l := List.filter_eq_self.2 fun x _ => decide_eq_true (by have := cmpL_nil x.k; omega)
set_option maxHeartbeats 400000 in
set_option maxRecDepth 100000 in
theorem shared_at (w W : World) (v : Value) (l : List It) (h : TT w v l) (hb : Below w.heap.size w W) : Calls Tryz.prog 50 #[v] W fun e w' => ∃ po, e = .returned (.pointer po) ∧ T w (.pointer po) l ∧ w' = W := by
  rcases h with ⟨rfl, rfl⟩ | ⟨b, u, rfl, hc, ht, hl⟩
  · go_enter Tryz.func50, Tryz.ntmps50
    go_wp2
    go_ret
    exact ⟨_, rfl, T.nil _, rfl⟩
  · obtain ⟨po, rfl⟩ := ht.ptr
    have hc2 := (hb.cell (World.block_lt_of_cell? _ _ hc)).trans hc
    go_enter Tryz.func50, Tryz.ntmps50
    go_wp2
    go_ret
    exact ⟨_, rfl, ht, rfl⟩
/-- The count. -/
def CntI (w : World) (p : Nat) (pre : List It) (W : World) : Prop := Below w.heap.size w W ∧ Arr W p 3 [.int .i64 pre.length] ∧ pre.length ≤ 100000 ∧ w.heap.size ≤ p

set_option maxHeartbeats 1000000 in
set_option maxRecDepth 100000 in
theorem cnt_any (w : World) (p : Nat) (pre : List It) (W : World) (k y : Value) (x : It) (h : CntI w p pre W) (hl : pre.length + 1 ≤ 100000) :
    Calls Tryz.prog 51 (#[k, y] ++ #[.pointer (some ⟨p, 0, none⟩)]) W (WPost (CntI w p (pre ++ [x])) fun _ => False) := by
  obtain ⟨hb, ha, -, hp⟩ := h
  have c0 := ha.cell 0
  have f0 := ha.free 0
  have hli : (pre.length : Int) + 1 ≤ 100000 := by omega
  have hs := ha.set 0 (.int .i64 ((pre.length : Int) + 1))
  have hB := hb.setCell (p := ⟨p, 0, none⟩) hp (.int .i64 ((pre.length : Int) + 1))
  go_enter Tryz.func51, Tryz.ntmps51
  go_wp2
  go_ret
  refine .inl ⟨rfl, hB, ?_, by simpa using hl, hp⟩
  rw [List.length_append, List.length_singleton, Int.natCast_add]
  exact hs

set_option maxHeartbeats 1000000 in
set_option maxRecDepth 100000 in
theorem len_any (w : World) (v : Value) (l : List It) (h : TT w v l) (hs : Srt l) (hn : l.length ≤ 50000) :
    Calls Tryz.prog 31 #[v] w fun e w' => e = .returned (.int .i64 l.length) ∧ Below w.heap.size w w' := by
  obtain ⟨W0, hW0⟩ : ∃ W, W = w.alloc (.cells #[.int .i64 0] 3) := ⟨_, rfl⟩
  have B0 : Below w.heap.size w W0 := by rw [hW0]; exact (Below.refl _ w).alloc (Nat.le_refl _) _
  have A0 : Arr W0 w.heap.size 3 [.int .i64 0] := by rw [hW0]; exact heap_alloc_new w _
  have CS := shared_at w W0 v l h B0
  obtain ⟨po, rfl⟩ := h.ptr
  go_enter Tryz.func31, Tryz.ntmps31
  go_wp2_with fail
  rw [← hW0]
  clear hW0
  refine CS.mono ?_
  rintro e w1 ⟨q, rfl, hT, hw1⟩
  obtain rfl := hw1.symm
  have CW := walk_fuel w 51 #[.pointer (some ⟨w.heap.size, 0, none⟩)] (enters_of Tryz.func51 (by kernel_rfl) rfl) (CntI w w.heap.size) (fun _ => False) (fun _ => True) l
    (fun _ _ h => h.1) (fun _ h => h.elim) (fun pre W W' h hb => ⟨h.1.trans (hb.mono h.1.size), arr_below h.2.1 hb, h.2.2⟩) [] none 0 0 (Sl.nothing w)
    (fun pre W k y x hI _ hF _ _ _ _ _ => cnt_any w w.heap.size pre W k.val y.val x hI (by
      obtain ⟨post, e⟩ := hF
      have := congrArg List.length e
      simp only [List.length_append, List.length_cons] at this
      omega))
    l.length l (.pointer q) [] [] W0 (Nat.le_refl _) (by rw [ge_nil]; simp) hT hs (fun _ _ => trivial) (by omega) ⟨B0, A0, by simp, Nat.le_refl _⟩
  rw [List.nil_append, ge_nil] at CW
  clear CS hT
  go_wp2_with fail
  refine CW.mono ?_
  rintro e w2 (⟨rfl, hb, ha, -, -⟩ | ⟨-, hf⟩)
  · have c0 := ha.cell 0
    go_wp2
    go_ret
    exact ⟨rfl, hb⟩
  · exact hf.elim
end Go.Proofs.YtnicnfjickknjaaGreatDoor

namespace Go.Proofs.YtnicnfjickknjaaGreatDoor
open Go.RowKit

/-- An item in memory. -/
structure IP where
  k : Part
  v : Part
def IP.it (q : IP) : It := ⟨q.k.xs, q.v.xs⟩
def IP.ok (w : World) (q : IP) : Prop := Sl w q.k.ao q.k.n q.k.cap q.k.xs ∧ Sl w q.v.ao q.v.n q.v.cap q.v.xs
theorem IP.ok.below {w w' : World} {q : IP} (h : q.ok w) (hb : Below w.heap.size w w') : q.ok w' := ⟨h.1.below hb, h.2.below hb⟩
/-- The slice at ao, of n items, up to cap, holds its. -/
structure IL (w : World) (ao : Option Addr) (n cap : Nat) (its : List IP) : Prop where
  len : its.length = n
  le : n ≤ cap
  mx : cap ≤ maxLen
  nil : ao = none → n = 0 ∧ cap = 0
  cell : ∀ a, ao = some a → ∀ i (h : i < its.length), w.cell? (a.add (i * 2)) = some its[i].k.val ∧ w.cell? (a.add (i * 2 + 1)) = some its[i].v.val
  sl : ∀ q ∈ its, q.ok w
theorem IL.below {w w' : World} {ao : Option Addr} {n cap : Nat} {its : List IP} (h : IL w ao n cap its) (hb : Below w.heap.size w w') : IL w' ao n cap its :=
  ⟨h.len, h.le, h.mx, h.nil, fun a ha i hi => by
    obtain ⟨h1, h2⟩ := h.cell a ha i hi
    exact ⟨(hb.cell (World.block_lt_of_cell? w _ h1)).trans h1, (hb.cell (World.block_lt_of_cell? w _ h2)).trans h2⟩, fun q hq => (h.sl q hq).below hb⟩
theorem IL.at {w : World} {ao : Option Addr} {n cap : Nat} {its : List IP} (h : IL w ao n cap its) (hn : 0 < n) :
    ∃ b off, ao = some ⟨b, off, none⟩ ∧ ∀ i (hi : i < its.length), w.cell? ⟨b, off + i * 2, none⟩ = some its[i].k.val ∧ w.cell? ⟨b, off + i * 2 + 1, none⟩ = some its[i].v.val := by
  have hl := h.len
  cases ao with
  | none => have := (h.nil rfl).1; omega
  | some a =>
    obtain ⟨b, off, spot⟩ := a
    have hc := (h.cell _ rfl 0 (by omega)).1
    have hs : spot = none := by simpa [Addr.add] using World.cell?_spot hc
    subst hs
    exact ⟨b, off, rfl, fun i hi => by have := h.cell _ rfl i hi; rw [Addr.add_lit, Addr.add_lit, ← Nat.add_assoc] at this; exact this⟩
theorem IL.nothing (w : World) : IL w none 0 0 [] := ⟨rfl, Nat.le_refl _, Nat.zero_le _, fun _ => ⟨rfl, rfl⟩, fun _ h => by simp at h, fun _ h => by simp at h⟩
theorem IL.one (w : World) (q : IP) (h : q.ok w) (t : TypeId) : IL (w.alloc (.cells #[q.k.val, q.v.val] t)) (some ⟨w.heap.size, 0, none⟩) 1 1 [q] := by
  refine ⟨rfl, Nat.le_refl _, by simp [maxLen], fun h => by simp at h, fun a ha i hi => ?_, fun r hr => ?_⟩
  · obtain rfl := Option.some.inj ha
    obtain rfl : i = 0 := by simpa using hi
    rw [Addr.add_lit, Addr.add_lit]
    exact ⟨cell_of_row _ _ 0 _ _ _ (heap_alloc_new w _), cell_of_row _ _ 1 _ _ _ (heap_alloc_new w _)⟩
  · rw [List.mem_singleton.1 hr]
    exact h.below ((Below.refl _ w).alloc (Nat.le_refl _) _)

/-- What stands against some items. -/
def badK (n : Nat) : Bool := decide (n < 1 ∨ 256 < n)
def jL : List IP → Int → Int
  | [], acc => acc
  | q :: qs, acc => if badK q.k.n then 5 else jL qs (if 1024 < q.v.n then 4 else acc)

set_option maxHeartbeats 4000000 in
set_option maxRecDepth 100000 in
theorem judge_any (w : World) (ao : Option Addr) (n cap : Nat) (its : List IP) (h : IL w ao n cap its) (hn : n ≤ 1000000) (hb : ∀ q ∈ its, q.k.n ≤ 1000000 ∧ q.v.n ≤ 1000000) :
    Calls Tryz.prog 122 #[.slice ao n cap] w fun e w' => e = .returned (.int .i64 (jL its 0)) ∧ Below w.heap.size w w' := by
  have hl := h.len
  have hni : (n : Int) ≤ 1000000 := by omega
  go_enter Tryz.func122, Tryz.ntmps122
  go_wp2
  go_loopw [3, 8] (fun a i wr => ∃ (k : Nat) (acc : Int), k ≤ n ∧ i = .int .i64 k ∧ a = .int .i64 acc ∧ jL (its.drop k) acc = jL its 0 ∧ Below w.heap.size w wr) (fun _ i _ => n - (intOf i).toNat)
  case atStart => exact ⟨0, 0, Nat.zero_le _, rfl, rfl, rfl, Below.refl _ _⟩
  case round =>
    obtain ⟨k, acc, hk, rfl, rfl, hj, hB⟩ := hrel
    have HJ : Hid (jL (its.drop k) acc = jL its 0) := hj
    clear hj
    by_cases hlt : k < n
    · have hki : (k : Int) < (n : Int) := by omega
      have hkl : k < its.length := by omega
      obtain ⟨b, off, rfl, hc⟩ := (h.below hB).at (by omega)
      obtain ⟨c1, c2⟩ := hc k hkl
      have hq := hb its[k] (List.getElem_mem hkl)
      have HD : Hid (its.drop k = its[k] :: its.drop (k + 1)) := List.drop_eq_getElem_cons hkl
      obtain ⟨q, hqe⟩ : ∃ q, q = its[k] := ⟨_, rfl⟩
      rw [← hqe] at c1 c2 hq HD
      obtain ⟨q1, q2⟩ := hq
      unfold Part.val at c1 c2
      clear hc hqe
      by_cases h1 : q.k.n < 1
      · have h1' : (q.k.n : Int) < 1 := by omega
        have HR : Hid (jL its 0 = 5) := by
          show _ = _
          rw [← HJ.out, HD.out, jL, if_pos (by simp [badK]; omega)]
        go_wp2
        go_ret
        refine ⟨?_, hB.alloc hB.size _⟩
        rw [HR.out]
        rfl
      have h1' : ¬ (q.k.n : Int) < 1 := by omega
      by_cases h2 : 256 < q.k.n
      · have h2' : (256 : Int) < (q.k.n : Int) := by omega
        have HR : Hid (jL its 0 = 5) := by
          show _ = _
          rw [← HJ.out, HD.out, jL, if_pos (by simp [badK]; omega)]
        go_wp2
        go_ret
        refine ⟨?_, hB.alloc hB.size _⟩
        rw [HR.out]
        rfl
      have h2' : ¬ (256 : Int) < (q.k.n : Int) := by omega
      have HB : Hid (badK q.k.n = false) := by show _ = _; simp [badK]; omega
      by_cases h3 : 1024 < q.v.n
      · have h3' : (1024 : Int) < (q.v.n : Int) := by omega
        go_wp2
        go_roundw
        case rel =>
          refine ⟨k + 1, 4, by omega, by go_num, rfl, ?_, hB.alloc hB.size _⟩
          rw [← HJ.out, HD.out, jL, HB.out, if_pos h3]
          rfl
        case measure => simp [intOf]; omega
      · have h3' : ¬ (1024 : Int) < (q.v.n : Int) := by omega
        go_wp2
        go_roundw
        case rel =>
          refine ⟨k + 1, acc, by omega, by go_num, rfl, ?_, hB.alloc hB.size _⟩
          rw [← HJ.out, HD.out, jL, HB.out, if_neg h3]
          rfl
        case measure => simp [intOf]; omega
    · have hge : ¬ (k : Int) < (n : Int) := by omega
      have HR : Hid (jL its 0 = acc) := by
        show _ = _
        rw [← HJ.out, List.drop_eq_nil_of_le (by omega)]
        rfl
      go_wp2
      go_ret
      refine ⟨?_, hB⟩
      rw [HR.out]
      rfl
end Go.Proofs.YtnicnfjickknjaaGreatDoor

namespace Go.Proofs.YtnicnfjickknjaaGreatDoor
open Go.RowKit

/-- All blocks of bytes are as they were. -/
def KpB (w w' : World) : Prop := ∀ (b : Nat) (cur : Array Value), w.heap[b]? = some (Obj.cells cur 5) → w'.heap[b]? = some (Obj.cells cur 5)
theorem KpB.refl (w : World) : KpB w w := fun _ _ h => h
theorem KpB.trans {a b c : World} (h : KpB a b) (k : KpB b c) : KpB a c := fun p cur e => k p cur (h p cur e)
theorem KpB.below {w w' : World} (h : Below w.heap.size w w') : KpB w w' := fun b _ e => (h.block b (Array.getElem?_eq_some_iff.1 e).1).trans e
theorem KpB.row {w w' : World} {base : Nat} {e : TypeId} {size : Nat} {v : Value} {n : Nat} {xs : List Value} (hr : w.ownsRow base e size v n xs) (he : e ≠ 5) (hg : w.grownBy w' v.ownBlock) : KpB w w' := fun b cur h => by
  refine (hg.block b (Array.getElem?_eq_some_iff.1 h).1 fun ev => ?_).trans h
  rcases hr.2 with ⟨rfl, _⟩ | ⟨g, cap, cur', rfl, _, hgb, _⟩
  · simp [Value.ownBlock] at ev
  · obtain rfl : b = g := by simpa [Value.ownBlock] using ev
    rw [hgb] at h
    simp only [Option.some.injEq, Obj.cells.injEq] at h
    exact he h.2.1
theorem KpB.set {w : World} {p : Nat} {t : TypeId} {cs : List Value} (ha : Arr w p t cs) (ht : t ≠ 5) (j : Nat) (v : Value) : KpB w (w.setCell ⟨p, j, none⟩ v) := fun b cur h => by
  refine (heap_setCell_other w ⟨p, j, none⟩ b v fun e => ?_).trans h
  have e' : b = p := e
  subst e'
  have := (show w.heap[b]? = _ from ha).symm.trans h
  simp only [Option.some.injEq, Obj.cells.injEq] at this
  exact ht this.2.1
/-- Bytes in a block of bytes. -/
def SlT (w : World) (q : Part) : Prop := Sl w q.ao q.n q.cap q.xs ∧ ∀ a, q.ao = some a → ∃ cur : Array Value, w.heap[a.block]? = some (Obj.cells cur 5)
theorem SlT.kp {w w' : World} {q : Part} (h : SlT w q) (k : KpB w w') : SlT w' q := by
  refine ⟨⟨h.1.len, h.1.le, h.1.mx, h.1.nil, fun a ha i hi => ?_, h.1.byte⟩, fun a ha => ?_⟩
  · obtain ⟨cur, hc⟩ := h.2 a ha
    have hb : (a.add i).block = a.block := by unfold Addr.add; split <;> rfl
    rw [← h.1.cell a ha i hi]
    exact World.cell?_of_block (by rw [hb, k _ _ hc, hc])
  · obtain ⟨cur, hc⟩ := h.2 a ha
    exact ⟨cur, k _ _ hc⟩
theorem SlT.own {w : World} {base : Nat} {v : Value} {n : Nat} {xs : List Int} (h : w.ownsRow base 5 1 v n (bv xs)) (hb : Byt xs) : ∃ ao cap, v = .slice ao n cap ∧ SlT w ⟨ao, n, cap, xs⟩ := by
  obtain ⟨ao, cap, rfl, S, -⟩ := Sl.own h hb
  refine ⟨ao, cap, rfl, S, fun a ha => ?_⟩
  rcases h.2 with ⟨e, -⟩ | ⟨g, cap', cur, e, -, hh, -⟩
  · have ha' : ao = some a := ha
    simp only [Value.slice.injEq] at e
    rw [e.1] at ha'
    simp at ha'
  · have ha' : ao = some a := ha
    simp only [Value.slice.injEq] at e
    rw [e.1] at ha'
    obtain rfl := Option.some.inj ha'
    exact ⟨cur, hh⟩

set_option maxHeartbeats 400000 in
set_option maxRecDepth 100000 in
theorem ownT_any (w : World) (ao : Option Addr) (n cap : Nat) (xs : List Int) (h : Sl w ao n cap xs) (hn : n ≤ 1000000) :
    Calls Tryz.prog 96 #[.slice ao n cap] w fun e w' => ∃ ro rc, e = .returned (.slice ro n rc) ∧ SlT w' ⟨ro, n, rc, xs⟩ ∧ Below w.heap.size w w' := by
  have B0 : Below w.heap.size w (w.alloc (.cells #[] 5)) := (Below.refl _ w).alloc (Nat.le_refl _) _
  have h0 := h.below B0
  have o0 := own_nothing w
  have hb := h.byte
  go_enter Tryz.func96, Tryz.ntmps96
  go_wp2_with (at_builtin; refine wpList_app rfl _ _ rfl w.heap.size _ _ _ rfl o0 _ _ _ _ rfl h0 (by omega) (by simp) ?_; intro v1 w1 own1 B1)
  simp only [Nat.zero_add, List.nil_append] at own1
  obtain ⟨ro, rc, rfl, S⟩ := SlT.own own1 hb
  go_wp2
  go_ret
  exact ⟨ro, rc, rfl, S, B0.trans B1⟩

/-- The cells of some items. -/
def flatI (ps : List IP) : List Value := ps.flatMap fun q => [q.k.val, q.v.val]
theorem flatI_length (ps : List IP) : (flatI ps).length = ps.length * 2 := by
  induction ps with
  | nil => rfl
  | cons q ps ih =>
    have e : flatI (q :: ps) = q.k.val :: q.v.val :: flatI ps := rfl
    rw [e, List.length_cons, List.length_cons, ih, List.length_cons]
    omega
theorem flatI_get : ∀ (ps : List IP) (i : Nat) (hi : i < ps.length), (flatI ps)[i * 2]? = some ps[i].k.val ∧ (flatI ps)[i * 2 + 1]? = some ps[i].v.val
  | q :: ps, 0, _ => ⟨rfl, rfl⟩
  | q :: ps, i + 1, hi => by
    have e : flatI (q :: ps) = q.k.val :: q.v.val :: flatI ps := rfl
    have := flatI_get ps i (by simpa using hi)
    rw [e, show (i + 1) * 2 = i * 2 + 1 + 1 by omega]
    simpa using this
theorem flatI_one (ps : List IP) : ∀ u ∈ flatI ps, u.oneCell' = true := fun u hu => by
  obtain ⟨q, -, hq⟩ := List.mem_flatMap.1 hu
  simp only [List.mem_cons, List.not_mem_nil, or_false] at hq
  rcases hq with rfl | rfl <;> rfl
/-- The block p holds a list of the items l, made by the call. -/
structure LI (W : World) (p base : Nat) (l : List It) (v : Value) (ps : List IP) : Prop where
  arr : Arr W p 38 [v]
  row : W.ownsRow base 29 2 v ps.length (flatI ps)
  its : ps.map IP.it = l
  sl : ∀ q ∈ ps, SlT W q.k ∧ SlT W q.v
theorem LI.below {w w' : World} {p base : Nat} {l : List It} {v : Value} {ps : List IP} (h : LI w p base l v ps) (hb : Below w.heap.size w w') : LI w' p base l v ps :=
  ⟨arr_below h.arr hb, own_below h.row hb, h.its, fun q hq => ⟨(h.sl q hq).1.kp (KpB.below hb), (h.sl q hq).2.kp (KpB.below hb)⟩⟩
theorem LI.len {w : World} {p base : Nat} {l : List It} {v : Value} {ps : List IP} (h : LI w p base l v ps) : ps.length = l.length := by rw [← h.its, List.length_map]
theorem LI.slice {w : World} {p base : Nat} {l : List It} {v : Value} {ps : List IP} (h : LI w p base l v ps) : ∃ ao cap, v = .slice ao ps.length cap ∧ IL w ao ps.length cap ps := by
  have sl : ∀ q ∈ ps, q.ok w := fun q hq => ⟨(h.sl q hq).1.1, (h.sl q hq).2.1⟩
  rcases h.row.2 with ⟨rfl, e⟩ | ⟨g, cap, cur, rfl, hg, hh, hle, hmx, hcs, htk⟩
  · obtain rfl : ps = [] := List.eq_nil_of_length_eq_zero e
    exact ⟨none, 0, rfl, IL.nothing w⟩
  · refine ⟨some ⟨g, 0, none⟩, cap, rfl, rfl, hle, hmx, fun h => by simp at h, fun a ha i hi => ?_, sl⟩
    obtain rfl := Option.some.inj ha
    obtain ⟨e1, e2⟩ := flatI_get ps i hi
    exact ⟨h.row.cells (g := g) rfl _ _ e1, h.row.cells (g := g) rfl _ _ e2⟩
/-- append of an item, and the store of what it yields. -/
theorem LI.put {w w1 : World} {p base : Nat} {l : List It} {v v' : Value} {ps : List IP} {q : IP} (h : LI w p base l v ps) (hb : base ≤ w.heap.size) (hp : base ≤ p) (hk : SlT w q.k) (hv : SlT w q.v)
    (hr' : w1.ownsRow base 29 2 v' (ps.length + 1) (flatI ps ++ [q.k.val, q.v.val])) (hg : w.grownBy w1 v.ownBlock) :
    LI (w1.setCell ⟨p, 0, none⟩ v') p base (l ++ [q.it]) v' (ps ++ [q]) ∧ Below base w (w1.setCell ⟨p, 0, none⟩ v') ∧ ∀ b t cs, Arr w b t cs → t ≠ 29 → b ≠ p → Arr (w1.setCell ⟨p, 0, none⟩ v') b t cs := by
  obtain ⟨a1, a2, a3, a4⟩ := arr_put h.arr (by decide) h.row hb hp hr' hg 0
  have kp : KpB w (w1.setCell ⟨p, 0, none⟩ v') := (KpB.row h.row (by decide) hg).trans (KpB.set a1 (by decide) 0 v')
  have e : flatI (ps ++ [q]) = flatI ps ++ [q.k.val, q.v.val] := by simp [flatI]
  refine ⟨⟨a2, by rw [e, List.length_append]; exact a3, by rw [List.map_append, h.its]; rfl, fun r hr => ?_⟩, a4, fun b t cs hb ht hne => ?_⟩
  · rcases List.mem_append.1 hr with hr | hr
    · exact ⟨(h.sl r hr).1.kp kp, (h.sl r hr).2.kp kp⟩
    · rw [List.mem_singleton.1 hr]
      exact ⟨hk.kp kp, hv.kp kp⟩
  · exact (hb.grown hg (fun e => arr_not_row hb ht h.row e.symm)).other _ v' hne
theorem itemInfo : (Tryz.prog.info? 29).map (fun i => (i.zero, i.size, i.bytes)) = some (some (.agg #[.slice none 0 0, .slice none 0 0]), 2, 48) := by kernel_rfl
/-- append of one item to a list of the call's own. -/
theorem LI.app {w : World} {p base : Nat} {l : List It} {v : Value} {ps : List IP} {q : IP} (h : LI w p base l v ps) (hb : base ≤ w.heap.size) (hn : l.length ≤ 100000) {g : Nat} {c : Nat} (ty : TypeId)
    (hx : w.heap[g]? = some (.cells #[q.k.val, q.v.val] 29)) :
    ∃ v' w1, (Builtin.append_ #[38, 38] ty #[v, .slice (some ⟨g, 0, none⟩) 1 c]).run Tryz.prog w = .ok v' w1 ∧ w1.ownsRow base 29 2 v' (ps.length + 1) (flatI ps ++ [q.k.val, q.v.val]) ∧ w.grownBy w1 v.ownBlock := by
  have hl := h.len
  have hI := itemInfo
  cases hi : Tryz.prog.info? 29 with
  | none => rw [hi] at hI; simp at hI
  | some i =>
    rw [hi] at hI
    simp only [Option.map_some, Option.some.injEq, Prod.mk.injEq] at hI
    obtain ⟨e1, e2, e3⟩ := hI
    obtain ⟨v', w1, h1, h2, h3, -⟩ := run_append_own (P := Tryz.prog) w base 38 ty 29 i _ 2 48 Tryz.underlying38 hi e1 e2 e3 rfl (by decide) v ps.length (flatI ps) h.row ⟨g, 0, none⟩ 1 c [q.k.val, q.v.val] rfl
      (fun j u hu => by
        rw [Addr.add_lit, Nat.zero_add, cell_of_row w g j _ _ _ hx]
        simpa using hu) (fun u hu => by
        simp only [List.mem_cons, List.not_mem_nil, or_false] at hu
        rcases hu with rfl | rfl <;> rfl) (by unfold maxLen; omega) (by omega) hb
    exact ⟨v', w1, h1, h2, h3⟩
end Go.Proofs.YtnicnfjickknjaaGreatDoor

namespace Go.Proofs.YtnicnfjickknjaaGreatDoor
open Go.RowKit

/-- While items are handed over. -/
structure ItF (w : World) (n0 : Nat) (hv : Value) (m : Int) (hi : List Int) (pre : List It) (v : Value) (ps : List IP) (k y : Part) (W : World) : Prop where
  b : Below w.heap.size w W
  ahi : Arr W n0 25 [hv]
  amost : Arr W (n0 + 1) 3 [.int .i64 m]
  amore : Arr W (n0 + 3) 4 [.bool false]
  li : LI W (n0 + 2) n0 pre v ps
  sk : Sl W k.ao k.n k.cap k.xs
  sy : Sl W y.ao y.n y.cap y.xs
  low : ∀ x ∈ pre, cmpL x.k hi < 0
theorem ItF.below {w : World} {n0 : Nat} {hv : Value} {m : Int} {hi : List Int} {pre : List It} {v : Value} {ps : List IP} {k y : Part} {W W' : World} (h : ItF w n0 hv m hi pre v ps k y W) (hb : Below W.heap.size W W') : ItF w n0 hv m hi pre v ps k y W' :=
  ⟨h.b.trans (hb.mono h.b.size), arr_below h.ahi hb, arr_below h.amost hb, arr_below h.amore hb, h.li.below hb, h.sk.below hb, h.sy.below hb, h.low⟩
theorem ItF.base {w : World} {n0 : Nat} {hv : Value} {m : Int} {hi : List Int} {pre : List It} {v : Value} {ps : List IP} {k y : Part} {W : World} (h : ItF w n0 hv m hi pre v ps k y W) (hN : n0 = w.heap.size) : n0 ≤ W.heap.size := by
  have := h.b.size
  omega
/-- Between two of them. -/
def ItI (w : World) (n0 : Nat) (hv : Value) (m : Int) (hi : List Int) (pre : List It) (W : World) : Prop :=
  Below w.heap.size w W ∧ Arr W n0 25 [hv] ∧ Arr W (n0 + 1) 3 [.int .i64 m] ∧ Arr W (n0 + 3) 4 [.bool false] ∧ (∃ v ps, LI W (n0 + 2) n0 pre v ps) ∧ (∀ x ∈ pre, cmpL x.k hi < 0) ∧ pre.length ≤ m.toNat ∧ pre.length ≤ 100000
theorem ItI.below {w : World} {n0 : Nat} {hv : Value} {m : Int} {hi : List Int} {pre : List It} {W W' : World} (h : ItI w n0 hv m hi pre W) (hb : Below W.heap.size W W') : ItI w n0 hv m hi pre W' := by
  obtain ⟨h1, h2, h3, h4, ⟨v, ps, h5⟩, h6⟩ := h
  exact ⟨h1.trans (hb.mono h1.size), arr_below h2 hb, arr_below h3 hb, arr_below h4 hb, ⟨v, ps, h5.below hb⟩, h6⟩
theorem ItI.step {w : World} {n0 : Nat} {hv : Value} {m : Int} {hi : List Int} {pre : List It} {v v' : Value} {ps qs : List IP} {k y : Part} {W W' : World} {x : It} (hN : n0 = w.heap.size) (h : ItF w n0 hv m hi pre v ps k y W)
    (hL : LI W' (n0 + 2) n0 (pre ++ [x]) v' qs) (hB : Below n0 W W') (hO : ∀ b t cs, Arr W b t cs → t ≠ 29 → b ≠ n0 + 2 → Arr W' b t cs) (hx : cmpL x.k hi < 0) (hm : ¬ m ≤ (pre.length : Int)) (hl : pre.length + 1 ≤ 100000) :
    ItI w n0 hv m hi (pre ++ [x]) W' := by
  subst hN
  refine ⟨h.b.trans hB, hO _ _ _ h.ahi (by decide) (by omega), hO _ _ _ h.amost (by decide) (by omega), hO _ _ _ h.amore (by decide) (by omega), ⟨v', qs, hL⟩, fun z hz => ?_, by simp; omega, by simpa using hl⟩
  rcases List.mem_append.1 hz with hz | hz
  · exact h.low z hz
  · rw [List.mem_singleton.1 hz]
    exact hx
/-- It was told to stop. -/
def ItS (w : World) (n0 : Nat) (m : Int) (hi : List Int) (F : List It) (W : World) : Prop :=
  Below w.heap.size w W ∧ ∃ b pre x post, pre ++ x :: post = F ∧ Arr W (n0 + 3) 4 [.bool b] ∧ (∃ v ps, LI W (n0 + 2) n0 pre v ps) ∧ (∀ z ∈ pre, cmpL z.k hi < 0) ∧ pre.length ≤ m.toNat ∧ ((b = false ∧ ¬ cmpL x.k hi < 0) ∨ (b = true ∧ cmpL x.k hi < 0 ∧ m.toNat ≤ pre.length))
theorem LI.other {w : World} {p base q : Nat} {l : List It} {v u : Value} {ps : List IP} {t : TypeId} {cs : List Value} (h : LI w p base l v ps) (ha : Arr w q t cs) (ht : t ≠ 29) (ht2 : t ≠ 5) (hne : p ≠ q) : LI (w.setCell ⟨q, 0, none⟩ u) p base l v ps :=
  ⟨h.arr.other _ u hne, h.row.kept (row := some q) (grown_set (a := w) (b := w) ⟨rfl, rfl, rfl, Nat.le_refl _, fun _ _ _ => rfl⟩ 0 u) (.inr (arr_not_row ha ht h.row)), h.its, fun r hr => ⟨(h.sl r hr).1.kp (KpB.set ha ht2 0 u), (h.sl r hr).2.kp (KpB.set ha ht2 0 u)⟩⟩

set_option maxHeartbeats 4000000 in
set_option maxRecDepth 100000 in
theorem itm_any (w : World) (n0 : Nat) (ho : Option Addr) (hn hc : Nat) (m : Int) (hi : List Int) (F pre : List It) (W : World) (k y : Part) (x : It) (HN : Hid (n0 = w.heap.size)) (hH : Sl w ho hn hc hi) (h : ItI w n0 (.slice ho hn hc) m hi pre W) (hF : ∃ post, pre ++ x :: post = F) (hk : k.xs = x.k) (hy : y.xs = x.v)
    (sk : Sl W k.ao k.n k.cap k.xs) (sy : Sl W y.ao y.n y.cap y.xs) (hkn : k.n ≤ 1000000) (hyn : y.n ≤ 1000000) (hlen : pre.length + 1 ≤ 100000) :
    Calls Tryz.prog 94 #[.slice k.ao k.n k.cap, .slice y.ao y.n y.cap, .pointer (some ⟨n0, 0, none⟩), .pointer (some ⟨n0 + 2, 0, none⟩), .pointer (some ⟨n0 + 1, 0, none⟩), .pointer (some ⟨n0 + 3, 0, none⟩)] W (WPost (ItI w n0 (.slice ho hn hc) m hi (pre ++ [x])) (ItS w n0 m hi F)) := by
  have hN1 : n0 ≤ w.heap.size := Nat.le_of_eq HN.out
  have hN2 : w.heap.size ≤ n0 := Nat.le_of_eq HN.out.symm
  obtain ⟨hb, a1, a2, a4, ⟨v, ps, L⟩, hlow, hpm, hpl⟩ := h
  obtain ⟨ao, cap, rfl, IL⟩ := L.slice
  have hpsl1 := Nat.le_of_eq L.len
  have hpsl2 := Nat.le_of_eq L.len.symm
  have X : ItF w n0 (.slice ho hn hc) m hi pre (.slice ao ps.length cap) ps k y W := ⟨hb, a1, a2, a4, L, sk, sy, hlow⟩
  have c1 := a1.cell 0
  have c2 := a2.cell 0
  have c3 := L.arr.cell 0
  have f4 := a4.free 0
  have c4 := a4.cell 0
  have CB := bcmp_any W k.ao ho k.n k.cap hn hc k.xs hi sk (hH.below hb)
  have HIT : Hid ((⟨k.xs, y.xs⟩ : It) = x) := by show _ = _; rw [hk, hy]
  have HF : Hid (∃ post, pre ++ x :: post = F) := hF
  have HK : Hid (k.xs = x.k) := hk
  clear hF hk hy IL
  obtain ⟨c, hcq⟩ : ∃ c, c = cmpL k.xs hi := ⟨_, rfl⟩
  rw [← hcq] at CB
  have HC : Hid (c = cmpL x.k hi) := by show _ = _; rw [hcq, HK.out]
  clear hcq HK
  go_enter Tryz.func94, Tryz.ntmps94
  go_wp2_with fail
  refine CB.mono ?_
  rintro e w2 ⟨rfl, hw⟩
  obtain rfl := hw.symm
  clear CB
  by_cases hc0 : c ≥ 0
  · go_wp2
    go_ret
    obtain ⟨post, hp⟩ := HF.out
    exact .inr ⟨rfl, hb, false, pre, x, post, hp, a4, ⟨_, ps, L⟩, hlow, hpm, .inl ⟨rfl, by have := HC.out; omega⟩⟩
  have HLT : Hid (cmpL x.k hi < 0) := by have := HC.out; show _ < _; omega
  by_cases hmore : m ≤ (pre.length : Int)
  · have hge : (ps.length : Int) ≥ m := by omega
    have A4 := a4.set 0 (.bool true)
    have L4 := L.other (u := .bool true) a4 (by decide) (by decide) (by omega)
    have B4 := hb.setCell (p := ⟨n0 + 3, 0, none⟩) (by show w.heap.size ≤ n0 + 3; omega) (.bool true)
    go_wp2
    go_ret
    obtain ⟨post, hp⟩ := HF.out
    exact .inr ⟨rfl, B4, true, pre, x, post, hp, A4, ⟨_, ps, L4⟩, hlow, hpm, .inr ⟨rfl, HLT.out, by omega⟩⟩
  have hge : ¬ (ps.length : Int) ≥ m := by omega
  go_wp2
  refine wp_region_noPanic ?_
  refine wp_region_held_drew (S := fun _ => True) (by kernel_rfl) trivial (fun _ => ?_)
  obtain ⟨v0, hv0⟩ : ∃ v, v = W.drew := ⟨_, rfl⟩
  rw [← hv0]
  have X0 : ItF w n0 (.slice ho hn hc) m hi pre (.slice ao ps.length cap) ps k y v0 := by rw [hv0]; exact X.below (Below.refl _ _).drew
  clear hv0 X
  refine hr_take_w 1 (some 18) (.slice k.ao k.n k.cap) rfl rfl (by kernel_rfl) (by kernel_rfl) (by kernel_rfl) rfl (fun W hW => by go_simp) trivial ?_
  simp only [Act.put, List.setIfInBounds_toArray, List.set_cons_zero, List.set_cons_succ]
  refine hr_take_w 3 (some 20) (.slice y.ao y.n y.cap) rfl rfl (by kernel_rfl) (by kernel_rfl) (by kernel_rfl) rfl (fun W hW => by go_simp) trivial ?_
  simp only [Act.put, List.setIfInBounds_toArray, List.set_cons_zero, List.set_cons_succ]
  refine hr_any (rs := [0, 2]) (by kernel_rfl) (by simp) ?_
  intro i hi
  simp only [List.mem_cons, List.not_mem_nil, or_false] at hi
  rcases hi with rfl | rfl
  · have lc : v0.cell? ⟨n0 + 2, 0, none⟩ = some (.slice ao ps.length cap) := X0.li.arr.cell 0
    refine op_ex 0 (some 17) rfl rfl rfl (R := fun v w' => v = .slice ao ps.length cap ∧ v0 = w') ⟨_, _, by go_simp, rfl, rfl⟩ ?_
    rintro v w' ⟨rfl, rfl⟩
    clear lc
    refine ⟨trivial, ?_⟩
    simp only [Act.put, List.setIfInBounds_toArray, List.set_cons_zero, List.set_cons_succ]
    refine hr_any (rs := [2]) (by kernel_rfl) (by simp) ?_
    intro i hi
    obtain rfl := List.mem_singleton.1 hi
    clear hi
    refine op_calls 2 (some 19) 96 #[.slice k.ao k.n k.cap] rfl rfl rfl (by go_simp) (fun v w' => ∃ ro rc, v = .slice ro k.n rc ∧ SlT w' ⟨ro, k.n, rc, k.xs⟩ ∧ Below v0.heap.size v0 w') ((ownT_any v0 k.ao k.n k.cap k.xs X0.sk hkn).mono (by
      rintro e w' ⟨ro, rc, rfl, F, C⟩
      exact ⟨_, rfl, ro, rc, rfl, F, C⟩)) ?_
    rintro v v1 ⟨ko, kc, rfl, SK, C⟩
    have X1 := X0.below C
    clear C
    refine ⟨trivial, ?_⟩
    simp only [Act.put, List.setIfInBounds_toArray, List.set_cons_zero, List.set_cons_succ]
    refine hr_any (rs := [4]) (by kernel_rfl) (by simp) ?_
    intro i hi
    obtain rfl := List.mem_singleton.1 hi
    clear hi
    refine op_calls 4 (some 21) 96 #[.slice y.ao y.n y.cap] rfl rfl rfl (by go_simp) (fun v w' => ∃ ro rc, v = .slice ro y.n rc ∧ SlT w' ⟨ro, y.n, rc, y.xs⟩ ∧ Below v1.heap.size v1 w') ((ownT_any v1 y.ao y.n y.cap y.xs X1.sy hyn).mono (by
      rintro e w' ⟨ro, rc, rfl, F, C⟩
      exact ⟨_, rfl, ro, rc, rfl, F, C⟩)) ?_
    rintro v v2 ⟨yo, yc, rfl, SY, C⟩
    have X2 := X1.below C
    have SK := SK.kp (KpB.below C)
    clear C
    refine ⟨trivial, ?_⟩
    simp only [Act.put, List.setIfInBounds_toArray, List.set_cons_zero, List.set_cons_succ]
    refine hr_take_w 5 (some 22) (.agg #[.slice ko k.n kc, .slice yo y.n yc]) rfl rfl (by kernel_rfl) (by kernel_rfl) (by kernel_rfl) rfl (fun W hW => by go_simp) trivial ?_
    simp only [Act.put, List.setIfInBounds_toArray, List.set_cons_zero, List.set_cons_succ]
    refine hr_any (rs := [6]) (by kernel_rfl) (by simp) ?_
    intro i hi
    obtain rfl := List.mem_singleton.1 hi
    clear hi
    refine op_ex 6 (some 23) rfl rfl rfl (R := fun v w' => ∃ g, v = .slice (some ⟨g, 0, none⟩) 1 1 ∧ w'.heap[g]? = some (.cells #[.slice ko k.n kc, .slice yo y.n yc] 29) ∧ Below v2.heap.size v2 w') ⟨_, _, by go_simp, _, rfl, heap_alloc_new v2 _, (Below.refl _ _).alloc (Nat.le_refl _) _⟩ ?_
    rintro v v3 ⟨g, rfl, G, C⟩
    have X3 := X2.below C
    have SK := SK.kp (KpB.below C)
    have SY := SY.kp (KpB.below C)
    clear C
    refine ⟨trivial, ?_⟩
    simp only [Act.put, List.setIfInBounds_toArray, List.set_cons_zero, List.set_cons_succ]
    refine hr_any (rs := [7]) (by kernel_rfl) (by simp) ?_
    intro i hi
    obtain rfl := List.mem_singleton.1 hi
    clear hi
    obtain ⟨nv, nw, ha, hr, hg⟩ := X3.li.app (q := ⟨⟨ko, k.n, kc, k.xs⟩, ⟨yo, y.n, yc, y.xs⟩⟩) (c := 1) (X3.base HN.out) (by omega) 38 G
    obtain ⟨L2, B2, O2⟩ := X3.li.put (X3.base HN.out) (by omega) SK SY hr hg
    have A2 := (arr_put X3.li.arr (by decide) X3.li.row (X3.base HN.out) (by omega) hr hg 0).1
    obtain ⟨ao2, cap2, hv2, -⟩ := L2.slice
    simp only [List.length_append, List.length_cons, List.length_nil, Nat.zero_add] at hv2
    subst hv2
    refine op_ex 7 (some 24) rfl rfl rfl (R := fun v w' => v = .slice ao2 (ps.length + 1) cap2 ∧ nw = w') ⟨_, nw, by simp [execOp, Act.eval, resolve, invoke, builtin, ha], rfl, rfl⟩ ?_
    rintro v w' ⟨rfl, rfl⟩
    refine ⟨trivial, ?_⟩
    simp only [Act.put, List.setIfInBounds_toArray, List.set_cons_zero, List.set_cons_succ]
    have f2 := A2.free 0
    have c2 := A2.cell 0
    refine hr_skip 8 none (w' := nw.setCell ⟨n0 + 2, 0, none⟩ (.slice ao2 (ps.length + 1) cap2)) rfl rfl (by kernel_rfl) rfl (by go_simp) trivial ?_
    simp only [Act.put]
    clear f2 c2
    refine wpAnyH_done (by kernel_rfl) ?_ _
    refine NoPanic.normal ?_
    go_wp2
    go_ret
    refine .inl ⟨rfl, ?_⟩
    have hit : (IP.it ⟨⟨ko, k.n, kc, k.xs⟩, ⟨yo, y.n, yc, y.xs⟩⟩) = x := HIT.out
    rw [hit] at L2
    exact ItI.step HN.out X3 L2 B2 O2 HLT.out (by omega) hlen
  · refine op_calls 2 (some 19) 96 #[.slice k.ao k.n k.cap] rfl rfl rfl (by go_simp) (fun v w' => ∃ ro rc, v = .slice ro k.n rc ∧ SlT w' ⟨ro, k.n, rc, k.xs⟩ ∧ Below v0.heap.size v0 w') ((ownT_any v0 k.ao k.n k.cap k.xs X0.sk hkn).mono (by
      rintro e w' ⟨ro, rc, rfl, F, C⟩
      exact ⟨_, rfl, ro, rc, rfl, F, C⟩)) ?_
    rintro v v1 ⟨ko, kc, rfl, SK, C⟩
    have X1 := X0.below C
    clear C
    refine ⟨trivial, ?_⟩
    simp only [Act.put, List.setIfInBounds_toArray, List.set_cons_zero, List.set_cons_succ]
    refine hr_any (rs := [0, 4]) (by kernel_rfl) (by simp) ?_
    intro i hi
    simp only [List.mem_cons, List.not_mem_nil, or_false] at hi
    rcases hi with rfl | rfl
    · have lc : v1.cell? ⟨n0 + 2, 0, none⟩ = some (.slice ao ps.length cap) := X1.li.arr.cell 0
      refine op_ex 0 (some 17) rfl rfl rfl (R := fun v w' => v = .slice ao ps.length cap ∧ v1 = w') ⟨_, _, by go_simp, rfl, rfl⟩ ?_
      rintro v w' ⟨rfl, rfl⟩
      clear lc
      refine ⟨trivial, ?_⟩
      simp only [Act.put, List.setIfInBounds_toArray, List.set_cons_zero, List.set_cons_succ]
      refine hr_any (rs := [4]) (by kernel_rfl) (by simp) ?_
      intro i hi
      obtain rfl := List.mem_singleton.1 hi
      clear hi
      refine op_calls 4 (some 21) 96 #[.slice y.ao y.n y.cap] rfl rfl rfl (by go_simp) (fun v w' => ∃ ro rc, v = .slice ro y.n rc ∧ SlT w' ⟨ro, y.n, rc, y.xs⟩ ∧ Below v1.heap.size v1 w') ((ownT_any v1 y.ao y.n y.cap y.xs X1.sy hyn).mono (by
        rintro e w' ⟨ro, rc, rfl, F, C⟩
        exact ⟨_, rfl, ro, rc, rfl, F, C⟩)) ?_
      rintro v v2 ⟨yo, yc, rfl, SY, C⟩
      have X2 := X1.below C
      have SK := SK.kp (KpB.below C)
      clear C
      refine ⟨trivial, ?_⟩
      simp only [Act.put, List.setIfInBounds_toArray, List.set_cons_zero, List.set_cons_succ]
      refine hr_take_w 5 (some 22) (.agg #[.slice ko k.n kc, .slice yo y.n yc]) rfl rfl (by kernel_rfl) (by kernel_rfl) (by kernel_rfl) rfl (fun W hW => by go_simp) trivial ?_
      simp only [Act.put, List.setIfInBounds_toArray, List.set_cons_zero, List.set_cons_succ]
      refine hr_any (rs := [6]) (by kernel_rfl) (by simp) ?_
      intro i hi
      obtain rfl := List.mem_singleton.1 hi
      clear hi
      refine op_ex 6 (some 23) rfl rfl rfl (R := fun v w' => ∃ g, v = .slice (some ⟨g, 0, none⟩) 1 1 ∧ w'.heap[g]? = some (.cells #[.slice ko k.n kc, .slice yo y.n yc] 29) ∧ Below v2.heap.size v2 w') ⟨_, _, by go_simp, _, rfl, heap_alloc_new v2 _, (Below.refl _ _).alloc (Nat.le_refl _) _⟩ ?_
      rintro v v3 ⟨g, rfl, G, C⟩
      have X3 := X2.below C
      have SK := SK.kp (KpB.below C)
      have SY := SY.kp (KpB.below C)
      clear C
      refine ⟨trivial, ?_⟩
      simp only [Act.put, List.setIfInBounds_toArray, List.set_cons_zero, List.set_cons_succ]
      refine hr_any (rs := [7]) (by kernel_rfl) (by simp) ?_
      intro i hi
      obtain rfl := List.mem_singleton.1 hi
      clear hi
      obtain ⟨nv, nw, ha, hr, hg⟩ := X3.li.app (q := ⟨⟨ko, k.n, kc, k.xs⟩, ⟨yo, y.n, yc, y.xs⟩⟩) (c := 1) (X3.base HN.out) (by omega) 38 G
      obtain ⟨L2, B2, O2⟩ := X3.li.put (X3.base HN.out) (by omega) SK SY hr hg
      have A2 := (arr_put X3.li.arr (by decide) X3.li.row (X3.base HN.out) (by omega) hr hg 0).1
      obtain ⟨ao2, cap2, hv2, -⟩ := L2.slice
      simp only [List.length_append, List.length_cons, List.length_nil, Nat.zero_add] at hv2
      subst hv2
      refine op_ex 7 (some 24) rfl rfl rfl (R := fun v w' => v = .slice ao2 (ps.length + 1) cap2 ∧ nw = w') ⟨_, nw, by simp [execOp, Act.eval, resolve, invoke, builtin, ha], rfl, rfl⟩ ?_
      rintro v w' ⟨rfl, rfl⟩
      refine ⟨trivial, ?_⟩
      simp only [Act.put, List.setIfInBounds_toArray, List.set_cons_zero, List.set_cons_succ]
      have f2 := A2.free 0
      have c2 := A2.cell 0
      refine hr_skip 8 none (w' := nw.setCell ⟨n0 + 2, 0, none⟩ (.slice ao2 (ps.length + 1) cap2)) rfl rfl (by kernel_rfl) rfl (by go_simp) trivial ?_
      simp only [Act.put]
      clear f2 c2
      refine wpAnyH_done (by kernel_rfl) ?_ _
      refine NoPanic.normal ?_
      go_wp2
      go_ret
      refine .inl ⟨rfl, ?_⟩
      have hit : (IP.it ⟨⟨ko, k.n, kc, k.xs⟩, ⟨yo, y.n, yc, y.xs⟩⟩) = x := HIT.out
      rw [hit] at L2
      exact ItI.step HN.out X3 L2 B2 O2 HLT.out (by omega) hlen
    · refine op_calls 4 (some 21) 96 #[.slice y.ao y.n y.cap] rfl rfl rfl (by go_simp) (fun v w' => ∃ ro rc, v = .slice ro y.n rc ∧ SlT w' ⟨ro, y.n, rc, y.xs⟩ ∧ Below v1.heap.size v1 w') ((ownT_any v1 y.ao y.n y.cap y.xs X1.sy hyn).mono (by
        rintro e w' ⟨ro, rc, rfl, F, C⟩
        exact ⟨_, rfl, ro, rc, rfl, F, C⟩)) ?_
      rintro v v2 ⟨yo, yc, rfl, SY, C⟩
      have X2 := X1.below C
      have SK := SK.kp (KpB.below C)
      clear C
      refine ⟨trivial, ?_⟩
      simp only [Act.put, List.setIfInBounds_toArray, List.set_cons_zero, List.set_cons_succ]
      refine hr_take_w 5 (some 22) (.agg #[.slice ko k.n kc, .slice yo y.n yc]) rfl rfl (by kernel_rfl) (by kernel_rfl) (by kernel_rfl) rfl (fun W hW => by go_simp) trivial ?_
      simp only [Act.put, List.setIfInBounds_toArray, List.set_cons_zero, List.set_cons_succ]
      refine hr_any (rs := [0, 6]) (by kernel_rfl) (by simp) ?_
      intro i hi
      simp only [List.mem_cons, List.not_mem_nil, or_false] at hi
      rcases hi with rfl | rfl
      · have lc : v2.cell? ⟨n0 + 2, 0, none⟩ = some (.slice ao ps.length cap) := X2.li.arr.cell 0
        refine op_ex 0 (some 17) rfl rfl rfl (R := fun v w' => v = .slice ao ps.length cap ∧ v2 = w') ⟨_, _, by go_simp, rfl, rfl⟩ ?_
        rintro v w' ⟨rfl, rfl⟩
        clear lc
        refine ⟨trivial, ?_⟩
        simp only [Act.put, List.setIfInBounds_toArray, List.set_cons_zero, List.set_cons_succ]
        refine hr_any (rs := [6]) (by kernel_rfl) (by simp) ?_
        intro i hi
        obtain rfl := List.mem_singleton.1 hi
        clear hi
        refine op_ex 6 (some 23) rfl rfl rfl (R := fun v w' => ∃ g, v = .slice (some ⟨g, 0, none⟩) 1 1 ∧ w'.heap[g]? = some (.cells #[.slice ko k.n kc, .slice yo y.n yc] 29) ∧ Below v2.heap.size v2 w') ⟨_, _, by go_simp, _, rfl, heap_alloc_new v2 _, (Below.refl _ _).alloc (Nat.le_refl _) _⟩ ?_
        rintro v v3 ⟨g, rfl, G, C⟩
        have X3 := X2.below C
        have SK := SK.kp (KpB.below C)
        have SY := SY.kp (KpB.below C)
        clear C
        refine ⟨trivial, ?_⟩
        simp only [Act.put, List.setIfInBounds_toArray, List.set_cons_zero, List.set_cons_succ]
        refine hr_any (rs := [7]) (by kernel_rfl) (by simp) ?_
        intro i hi
        obtain rfl := List.mem_singleton.1 hi
        clear hi
        obtain ⟨nv, nw, ha, hr, hg⟩ := X3.li.app (q := ⟨⟨ko, k.n, kc, k.xs⟩, ⟨yo, y.n, yc, y.xs⟩⟩) (c := 1) (X3.base HN.out) (by omega) 38 G
        obtain ⟨L2, B2, O2⟩ := X3.li.put (X3.base HN.out) (by omega) SK SY hr hg
        have A2 := (arr_put X3.li.arr (by decide) X3.li.row (X3.base HN.out) (by omega) hr hg 0).1
        obtain ⟨ao2, cap2, hv2, -⟩ := L2.slice
        simp only [List.length_append, List.length_cons, List.length_nil, Nat.zero_add] at hv2
        subst hv2
        refine op_ex 7 (some 24) rfl rfl rfl (R := fun v w' => v = .slice ao2 (ps.length + 1) cap2 ∧ nw = w') ⟨_, nw, by simp [execOp, Act.eval, resolve, invoke, builtin, ha], rfl, rfl⟩ ?_
        rintro v w' ⟨rfl, rfl⟩
        refine ⟨trivial, ?_⟩
        simp only [Act.put, List.setIfInBounds_toArray, List.set_cons_zero, List.set_cons_succ]
        have f2 := A2.free 0
        have c2 := A2.cell 0
        refine hr_skip 8 none (w' := nw.setCell ⟨n0 + 2, 0, none⟩ (.slice ao2 (ps.length + 1) cap2)) rfl rfl (by kernel_rfl) rfl (by go_simp) trivial ?_
        simp only [Act.put]
        clear f2 c2
        refine wpAnyH_done (by kernel_rfl) ?_ _
        refine NoPanic.normal ?_
        go_wp2
        go_ret
        refine .inl ⟨rfl, ?_⟩
        have hit : (IP.it ⟨⟨ko, k.n, kc, k.xs⟩, ⟨yo, y.n, yc, y.xs⟩⟩) = x := HIT.out
        rw [hit] at L2
        exact ItI.step HN.out X3 L2 B2 O2 HLT.out (by omega) hlen
      · refine op_ex 6 (some 23) rfl rfl rfl (R := fun v w' => ∃ g, v = .slice (some ⟨g, 0, none⟩) 1 1 ∧ w'.heap[g]? = some (.cells #[.slice ko k.n kc, .slice yo y.n yc] 29) ∧ Below v2.heap.size v2 w') ⟨_, _, by go_simp, _, rfl, heap_alloc_new v2 _, (Below.refl _ _).alloc (Nat.le_refl _) _⟩ ?_
        rintro v v3 ⟨g, rfl, G, C⟩
        have X3 := X2.below C
        have SK := SK.kp (KpB.below C)
        have SY := SY.kp (KpB.below C)
        clear C
        refine ⟨trivial, ?_⟩
        simp only [Act.put, List.setIfInBounds_toArray, List.set_cons_zero, List.set_cons_succ]
        refine hr_any (rs := [0]) (by kernel_rfl) (by simp) ?_
        intro i hi
        obtain rfl := List.mem_singleton.1 hi
        clear hi
        have lc : v3.cell? ⟨n0 + 2, 0, none⟩ = some (.slice ao ps.length cap) := X3.li.arr.cell 0
        refine op_ex 0 (some 17) rfl rfl rfl (R := fun v w' => v = .slice ao ps.length cap ∧ v3 = w') ⟨_, _, by go_simp, rfl, rfl⟩ ?_
        rintro v w' ⟨rfl, rfl⟩
        clear lc
        refine ⟨trivial, ?_⟩
        simp only [Act.put, List.setIfInBounds_toArray, List.set_cons_zero, List.set_cons_succ]
        refine hr_any (rs := [7]) (by kernel_rfl) (by simp) ?_
        intro i hi
        obtain rfl := List.mem_singleton.1 hi
        clear hi
        obtain ⟨nv, nw, ha, hr, hg⟩ := X3.li.app (q := ⟨⟨ko, k.n, kc, k.xs⟩, ⟨yo, y.n, yc, y.xs⟩⟩) (c := 1) (X3.base HN.out) (by omega) 38 G
        obtain ⟨L2, B2, O2⟩ := X3.li.put (X3.base HN.out) (by omega) SK SY hr hg
        have A2 := (arr_put X3.li.arr (by decide) X3.li.row (X3.base HN.out) (by omega) hr hg 0).1
        obtain ⟨ao2, cap2, hv2, -⟩ := L2.slice
        simp only [List.length_append, List.length_cons, List.length_nil, Nat.zero_add] at hv2
        subst hv2
        refine op_ex 7 (some 24) rfl rfl rfl (R := fun v w' => v = .slice ao2 (ps.length + 1) cap2 ∧ nw = w') ⟨_, nw, by simp [execOp, Act.eval, resolve, invoke, builtin, ha], rfl, rfl⟩ ?_
        rintro v w' ⟨rfl, rfl⟩
        refine ⟨trivial, ?_⟩
        simp only [Act.put, List.setIfInBounds_toArray, List.set_cons_zero, List.set_cons_succ]
        have f2 := A2.free 0
        have c2 := A2.cell 0
        refine hr_skip 8 none (w' := nw.setCell ⟨n0 + 2, 0, none⟩ (.slice ao2 (ps.length + 1) cap2)) rfl rfl (by kernel_rfl) rfl (by go_simp) trivial ?_
        simp only [Act.put]
        clear f2 c2
        refine wpAnyH_done (by kernel_rfl) ?_ _
        refine NoPanic.normal ?_
        go_wp2
        go_ret
        refine .inl ⟨rfl, ?_⟩
        have hit : (IP.it ⟨⟨ko, k.n, kc, k.xs⟩, ⟨yo, y.n, yc, y.xs⟩⟩) = x := HIT.out
        rw [hit] at L2
        exact ItI.step HN.out X3 L2 B2 O2 HLT.out (by omega) hlen
end Go.Proofs.YtnicnfjickknjaaGreatDoor

namespace Go.Proofs.YtnicnfjickknjaaGreatDoor
open Go.RowKit

/-- The items from a key on, below another one. -/
def btw (a b : List Int) (l : List It) : List It := (ge a l).filter fun x => decide (cmpL x.k b < 0)
theorem Srt.ofGe {l : List It} (h : Srt l) (k : List Int) : Srt (ge k l) := List.Pairwise.filter _ h
theorem low_all {F : List It} {b : List Int} (h : ∀ x ∈ F, cmpL x.k b < 0) : (F.filter fun x => decide (cmpL x.k b < 0)) = F := List.filter_eq_self.2 fun x hx => decide_eq_true (h x hx)
theorem low_stop {F pre post : List It} {x : It} {b : List Int} (hs : Srt F) (e : pre ++ x :: post = F) (h : ∀ z ∈ pre, cmpL z.k b < 0) (hx : ¬ cmpL x.k b < 0) : (F.filter fun x => decide (cmpL x.k b < 0)) = pre := by
  subst e
  have h2 : ∀ z ∈ x :: post, ¬ cmpL z.k b < 0 := fun z hz => by
    rcases List.mem_cons.1 hz with rfl | hz
    · exact hx
    · intro hlt
      exact hx (cmpL_lt_trans _ _ _ (hs.app.2.1.cons.1 z hz) hlt)
  rw [List.filter_append, low_all h, List.filter_eq_nil_iff.2 fun z hz => by simpa using h2 z hz, List.append_nil]
theorem low_go {F pre post : List It} {x : It} {b : List Int} (e : pre ++ x :: post = F) (h : ∀ z ∈ pre, cmpL z.k b < 0) (hx : cmpL x.k b < 0) : ∃ r, (F.filter fun x => decide (cmpL x.k b < 0)) = pre ++ x :: r := by
  subst e
  refine ⟨post.filter fun x => decide (cmpL x.k b < 0), ?_⟩
  rw [List.filter_append, low_all h, List.filter_cons, if_pos (by simpa using hx)]

theorem belowDrewN {B : Nat} {a w : World} (h : Below B a w) (q : Nat) : Below B a (w.drewN q) := ⟨h.os, h.tape, h.output, h.size, h.block⟩
/-- What Items answers. -/
def ItemsPost (w : World) (l : List It) (a b : List Int) (m : Int) (e : Ending) (w' : World) : Prop := ∃ ao n cap ps t, e = .returned (.tuple #[.slice ao n cap, .bool t]) ∧ IL w' ao n cap ps ∧ ps.map IP.it = (btw a b l).take m.toNat ∧ t = decide (m.toNat < (btw a b l).length) ∧ Below w.heap.size w w'

set_option maxHeartbeats 4000000 in
set_option maxRecDepth 100000 in
theorem titems_any (w : World) (v : Value) (l : List It) (lo hi : List Int) (xo ho : Option Addr) (xn xc hn hc : Nat) (m : Int) (h : TT w v l) (hs : Srt l) (hx : Sl w xo xn xc lo) (hh : Sl w ho hn hc hi) (hl : l.length ≤ 50000) (hsz : ∀ x ∈ l, x.k.length ≤ 1000000 ∧ x.v.length ≤ 1000000) :
    Calls Tryz.prog 72 #[v, .slice xo xn xc, .slice ho hn hc, .int .i64 m] w (ItemsPost w l lo hi m) := by
  obtain ⟨Wa, hWa⟩ : ∃ W, W = w.alloc (.cells #[.slice ho hn hc] 25) := ⟨_, rfl⟩
  obtain ⟨Wb, hWb⟩ : ∃ W, W = Wa.alloc (.cells #[.int .i64 m] 3) := ⟨_, rfl⟩
  obtain ⟨Wc, hWc⟩ : ∃ W, W = Wb.alloc (.cells #[.slice none 0 0] 38) := ⟨_, rfl⟩
  obtain ⟨Wd, hWd⟩ : ∃ W, W = Wc.alloc (.cells #[.bool false] 4) := ⟨_, rfl⟩
  have Ba : Below w.heap.size w Wa := by rw [hWa]; exact (Below.refl _ w).alloc (Nat.le_refl _) _
  have Bb : Below Wa.heap.size Wa Wb := by rw [hWb]; exact (Below.refl _ Wa).alloc (Nat.le_refl _) _
  have Bc : Below Wb.heap.size Wb Wc := by rw [hWc]; exact (Below.refl _ Wb).alloc (Nat.le_refl _) _
  have Bd : Below Wc.heap.size Wc Wd := by rw [hWd]; exact (Below.refl _ Wc).alloc (Nat.le_refl _) _
  have sa : Wa.heap.size = w.heap.size + 1 := by rw [hWa]; exact Array.size_push ..
  have sb : Wb.heap.size = w.heap.size + 2 := by rw [hWb]; exact (Array.size_push ..).trans (by rw [sa])
  have sc : Wc.heap.size = w.heap.size + 3 := by rw [hWc]; exact (Array.size_push ..).trans (by rw [sb])
  have A1 : Arr Wa w.heap.size 25 [.slice ho hn hc] := by rw [hWa]; exact heap_alloc_new w _
  have A2 : Arr Wb (w.heap.size + 1) 3 [.int .i64 m] := by rw [hWb, ← sa]; exact heap_alloc_new Wa _
  have A3 : Arr Wc (w.heap.size + 2) 38 [.slice none 0 0] := by rw [hWc, ← sb]; exact heap_alloc_new Wb _
  have A4 : Arr Wd (w.heap.size + 3) 4 [.bool false] := by rw [hWd, ← sc]; exact heap_alloc_new Wc _
  have A3 := arr_below A3 Bd
  have A2 := arr_below (arr_below A2 Bc) Bd
  have A1 := arr_below (arr_below (arr_below A1 Bb) Bc) Bd
  have B0 : Below w.heap.size w Wd := ((Ba.trans (Bb.mono Ba.size)).trans (Bc.mono (by omega))).trans (Bd.mono (by omega))
  have L0 : LI Wd (w.heap.size + 2) w.heap.size [] (.slice none 0 0) [] := ⟨A3, World.ownsRow_nil Wd _ _ 2, rfl, fun _ h => by simp at h⟩
  have CS := shared_at w Wd v l h B0
  obtain ⟨po, rfl⟩ := h.ptr
  clear Ba Bb Bc Bd sa sb sc A3
  go_enter Tryz.func72, Tryz.ntmps72
  go_wp2_with fail
  rw [← hWa, ← hWb, ← hWc, ← hWd]
  clear hWa hWb hWc hWd
  refine CS.mono ?_
  rintro e w1 ⟨q, rfl, hT, hw1⟩
  obtain rfl := hw1.symm
  clear CS
  have CW := walk_fuel w 94 #[.pointer (some ⟨w.heap.size, 0, none⟩), .pointer (some ⟨w.heap.size + 2, 0, none⟩), .pointer (some ⟨w.heap.size + 1, 0, none⟩), .pointer (some ⟨w.heap.size + 3, 0, none⟩)] (enters_of Tryz.func94 (by kernel_rfl) rfl)
    (ItI w w.heap.size (.slice ho hn hc) m hi) (ItS w w.heap.size m hi (ge lo l)) (fun x => x.k.length ≤ 1000000 ∧ x.v.length ≤ 1000000) (ge lo l)
    (fun _ _ h => h.1) (fun _ h => h.1) (fun pre W W' h hb => h.below hb) lo xo xn xc hx
    (fun pre W k y x hI hok hF _ hk hy sk sy => itm_any w w.heap.size ho hn hc m hi (ge lo l) pre W k y x rfl hh hI hF hk hy sk sy (by rw [← sk.len, hk]; exact hok.1) (by rw [← sy.len, hy]; exact hok.2) (by
      obtain ⟨post, e⟩ := hF
      have := congrArg List.length e
      have h2 := List.length_filter_le (fun x : It => decide (¬ cmpL x.k lo < 0)) l
      have h3 : (ge lo l).length ≤ l.length := h2
      simp only [List.length_append, List.length_cons] at this
      omega))
    l.length l (.pointer q) [] [] Wd (Nat.le_refl _) (by simp) hT hs hsz (by omega) ⟨B0, A1, A2, A4, ⟨_, _, L0⟩, fun _ h => by simp at h, Nat.zero_le _, Nat.zero_le _⟩
  rw [List.nil_append] at CW
  clear hT A1 A2 A4 L0
  go_wp2_with fail
  refine CW.mono ?_
  clear CW
  rintro e w2 (⟨rfl, hb, -, -, a4, ⟨u, ps, L⟩, hlow, hlen, -⟩ | ⟨rfl, hb, t, pre, x, post, e, a4, ⟨u, ps, L⟩, hlow, hlen, hd⟩)
  · obtain ⟨ao, cap, rfl, hI⟩ := L.slice
    have c3 : w2.cell? ⟨w.heap.size + 1 + 1, 0, none⟩ = some (.slice ao ps.length cap) := L.arr.cell 0
    have c4 : w2.cell? ⟨w.heap.size + 1 + 1 + 1, 0, none⟩ = some (.bool false) := a4.cell 0
    have E := low_all hlow
    have HE : Hid (btw lo hi l = ge lo l) := E
    clear E
    go_wp2_with fail
    go_quiet (fail)
    go_wp2
    go_ret2
    refine ⟨ao, ps.length, cap, ps, false, rfl, hI.below (belowDrewN (Below.refl _ w2) _), ?_, ?_, belowDrewN hb _⟩
    · rw [L.its, HE.out, List.take_of_length_le hlen]
    · rw [HE.out]
      exact (decide_eq_false (by omega)).symm
  · obtain ⟨ao, cap, rfl, hI⟩ := L.slice
    have c3 : w2.cell? ⟨w.heap.size + 1 + 1, 0, none⟩ = some (.slice ao ps.length cap) := L.arr.cell 0
    have c4 : w2.cell? ⟨w.heap.size + 1 + 1 + 1, 0, none⟩ = some (.bool t) := a4.cell 0
    have HE : Hid ((btw lo hi l).take m.toNat = pre ∧ t = decide (m.toNat < (btw lo hi l).length)) := by
      rcases hd with ⟨rfl, hx⟩ | ⟨rfl, hx, hm⟩
      · have E : btw lo hi l = pre := low_stop (hs.ofGe lo) e hlow hx
        exact ⟨by rw [E, List.take_of_length_le hlen], by rw [E]; exact (decide_eq_false (by omega)).symm⟩
      · obtain ⟨r, E⟩ := low_go e hlow hx
        have E : btw lo hi l = pre ++ x :: r := E
        have hml : m.toNat = pre.length := by omega
        exact ⟨by rw [E, hml, List.take_left'  rfl], by rw [E, hml]; exact (decide_eq_true (by simp)).symm⟩
    clear hd e hlow
    go_wp2_with fail
    go_quiet (fail)
    go_wp2
    go_ret2
    exact ⟨ao, ps.length, cap, ps, t, rfl, hI.below (belowDrewN (Below.refl _ w2) _), by rw [L.its]; exact HE.out.1.symm, HE.out.2, belowDrewN hb _⟩
end Go.Proofs.YtnicnfjickknjaaGreatDoor

namespace Go.Proofs.YtnicnfjickknjaaGreatDoor
open Go.RowKit

/-- The tablet in block p: its bounds, its tree. -/
def TbC (w : World) (p : Nat) (f t : ByteArray) (u : Option Addr) : Prop := Arr w p 76 [.string f, .string t, .pointer u]
/-- Only block p may have changed, and new ones were made. -/
def Wr (p : Nat) (w w' : World) : Prop := w.grownBy w' (some p)
theorem Wr.refl (p : Nat) (w : World) : Wr p w w := World.grownBy.refl w _
theorem Wr.of {p : Nat} {w w' : World} (h : Below w.heap.size w w') : Wr p w w' := ⟨h.os, h.tape, h.output, h.size, fun b hb _ => h.block b hb⟩
theorem Wr.size {p : Nat} {w w' : World} (h : Wr p w w') : w.heap.size ≤ w'.heap.size := World.grownBy.size h
theorem Wr.trans {p : Nat} {a b c : World} (h : Wr p a b) (k : Wr p b c) : Wr p a c :=
  ⟨k.os.trans h.os, k.tape.trans h.tape, k.output.trans h.output, Nat.le_trans h.size k.size, fun i hi hn => (World.grownBy.block k i (Nat.lt_of_lt_of_le hi h.size) hn).trans (World.grownBy.block h i hi hn)⟩
theorem Wr.set {p : Nat} {a b : World} (h : Wr p a b) (j : Nat) (v : Value) : Wr p a (b.setCell ⟨p, j, none⟩ v) := grown_set h j v
theorem Wr.below {p B : Nat} {a w w' : World} (h : Below B a w) (k : Wr p w w') (hB : B ≤ w.heap.size) (hp : B ≤ p) : Below B a w' := h.grown k hB (fun i hi => by cases hi; exact hp)
theorem Wr.block {p : Nat} {w w' : World} (h : Wr p w w') (b : Nat) (hb : b < w.heap.size) (hne : b ≠ p) : w'.heap[b]? = w.heap[b]? := World.grownBy.block h b hb (fun e => hne (by cases e; rfl))
theorem Wr.alloc {p : Nat} {a b : World} (h : Wr p a b) (o : Obj) : Wr p a (b.alloc o) := h.trans (Wr.of ((Below.refl _ b).alloc (Nat.le_refl _) o))
/-- Bytes stand while a block without bytes is written. -/
theorem Sl.wr {w w' : World} {p : Nat} {t : TypeId} {cs : List Value} (h : Arr w p t cs) (hc : ∀ v ∈ cs, ∀ n, v ≠ .int .u8 n) (k : Wr p w w') {ao : Option Addr} {n cap : Nat} {xs : List Int} (S : Sl w ao n cap xs) : Sl w' ao n cap xs := by
  refine ⟨S.len, S.le, S.mx, S.nil, fun a ha i hi => ?_, S.byte⟩
  have h0 := S.cell a ha i hi
  have hne : (a.add i).block ≠ p := fun e => by
    generalize a.add i = ad at h0 e
    obtain ⟨b, off, spot⟩ := ad
    obtain rfl : b = p := e
    have hs : spot = none := World.cell?_spot h0
    subst hs
    rw [Arr.cell h off] at h0
    exact hc _ (List.mem_of_getElem? h0) _ rfl
  rw [← h0]
  exact World.cell?_of_block (k.block _ (World.block_lt_of_cell? w _ h0) hne)
section
variable {w w' : World} {p : Nat} {f t : ByteArray} {u : Option Addr}
theorem add_block (a : Addr) (i : Nat) : (a.add i).block = a.block := by unfold Addr.add; split <;> rfl
/-- A cell that is neither a text nor a pointer lies in another block. -/
theorem TbC.ne (h : TbC w p f t u) {a : Addr} {v : Value} (hc : w.cell? a = some v) (h1 : ∀ s, v ≠ .string s) (h2 : ∀ q, v ≠ .pointer q) : a.block ≠ p := fun e => by
  obtain ⟨b, off, spot⟩ := a
  obtain rfl : b = p := e
  have hs : spot = none := World.cell?_spot hc
  subst hs
  rw [Arr.cell h off] at hc
  match off, hc with
  | 0, hc => exact h1 f (by simpa using hc.symm)
  | 1, hc => exact h1 t (by simpa using hc.symm)
  | 2, hc => exact h2 u (by simpa using hc.symm)
  | _ + 3, hc => simp at hc
theorem Wr.cell (k : Wr p w w') {a : Addr} {v : Value} (hc : w.cell? a = some v) (hne : a.block ≠ p) : w'.cell? a = some v := by
  rw [← hc]
  exact World.cell?_of_block (k.block _ (World.block_lt_of_cell? w _ hc) hne)
theorem Sl.tb (h : TbC w p f t u) (k : Wr p w w') {ao : Option Addr} {n cap : Nat} {xs : List Int} (S : Sl w ao n cap xs) : Sl w' ao n cap xs :=
  ⟨S.len, S.le, S.mx, S.nil, fun a ha i hi => k.cell (S.cell a ha i hi) (h.ne (S.cell a ha i hi) (by simp) (by simp)), S.byte⟩
theorem KL.tb (h : TbC w p f t u) (k : Wr p w w') {ao : Option Addr} {n cap : Nat} {ps : List Part} (S : KL w ao n cap ps) : KL w' ao n cap ps :=
  ⟨⟨S.vl.len, S.vl.le, S.vl.mx, S.vl.nil, fun a ha i hi => by
    have hc := S.vl.cell a ha i hi
    refine k.cell hc (h.ne hc ?_ ?_) <;> · rw [List.getElem_map]; simp [Part.val]⟩, fun q hq => (S.sl q hq).tb h k⟩
/-- Pointers, two at least. -/
theorem VL.tb (h : TbC w p f t u) (k : Wr p w w') {ao : Option Addr} {n cap : Nat} {vs : List Value} (S : VL w ao n cap vs) (hn : 2 ≤ n) (hp : ∀ v ∈ vs, ∃ q, v = .pointer q) : VL w' ao n cap vs := by
  have hl := S.len
  obtain ⟨b, off, rfl, hc⟩ := S.at (by omega)
  have hne : b ≠ p := fun e => by
    subst e
    have c0 := hc 0 (by omega)
    have c1 := hc 1 (by omega)
    rw [Arr.cell h] at c0 c1
    obtain ⟨q0, e0⟩ := hp vs[0] (List.getElem_mem _)
    rw [e0] at c0
    match off, c0, c1 with
    | 0, c0, _ => simp at c0
    | 1, c0, _ => simp at c0
    | 2, _, c1 => simp at c1
    | _ + 3, c0, _ => simp at c0
  exact ⟨S.len, S.le, S.mx, S.nil, fun a ha i hi => k.cell (S.cell a ha i hi) (by rw [add_block]; cases ha; exact hne)⟩
theorem Nd.ok.tb (h : TbC w p f t u) (k : Wr p w w') {d : Nd} (S : d.ok w) (hn : 2 ≤ d.cs.length) (hp : ∀ v ∈ d.cs, ∃ q, v = .pointer q) : d.ok w' := by
  have hne : d.b ≠ p := h.ne S.c0 (by simp) (by simp)
  have hb := k.block d.b S.lt hne
  exact ⟨k.cell S.c0 hne, k.cell S.c1 hne, k.cell S.c2 hne, k.cell S.c3 hne, S.kl.tb h k, S.vl.tb h k, S.cl.tb h k hn hp, by obtain ⟨c, t, e⟩ := S.uf; exact ⟨c, t, hb.trans e⟩⟩
theorem TN.ptr' {w : World} : ∀ (n : Nat) (v : Value) (l : List It), TN w n v l → ∃ q, v = .pointer q
  | 0, _, _, hT => ⟨_, hT.2⟩
  | _ + 1, _, _, hT => by
    rcases hT with hT | ⟨d, segs, xs, rfl, _⟩
    · exact ⟨_, hT.2⟩
    · exact ⟨_, rfl⟩
theorem TN.tb (h : TbC w p f t u) (k : Wr p w w') : ∀ (n : Nat) (v : Value) (l : List It), TN w n v l → TN w' n v l
  | 0, _, _, hT => hT
  | n + 1, v, l, hT => by
    rcases hT with hT | ⟨d, segs, xs, rfl, hok, hs, e1, e2, e3, hk⟩
    · exact .inl hT
    · have h1 := hs.pos
      have h2 := hs.len
      refine .inr ⟨d, segs, xs, rfl, hok.tb h k (by omega) (fun v hv => ?_), hs, e1, e2, e3, fun i s hi => ?_⟩
      · obtain ⟨i, hi, rfl⟩ := List.mem_iff_getElem.1 hv
        obtain ⟨y, hy, hT⟩ := hk i segs[i] (List.getElem?_eq_getElem (by omega))
        rw [List.getElem?_eq_getElem hi] at hy
        rw [Option.some.inj hy]
        exact TN.ptr' n _ _ hT
      · obtain ⟨y, hy, ht⟩ := hk i s hi
        exact ⟨y, hy, TN.tb h k n y s ht⟩
theorem T.tb (h : TbC w p f t u) (k : Wr p w w') {v : Value} {l : List It} (hT : T w v l) : T w' v l := TN.tb h k _ v l hT
theorem TT.tb (h : TbC w p f t u) (k : Wr p w w') {v : Value} {l : List It} (hT : TT w v l) : TT w' v l := by
  rcases hT with hT | ⟨b, y, rfl, hc, ht, hl⟩
  · exact .inl hT
  · refine .inr ⟨b, y, rfl, k.cell hc (fun e => ?_), ht.tb h k, hl⟩
    obtain rfl : b = p := e
    rw [Arr.cell h] at hc
    obtain ⟨q, rfl⟩ := TN.ptr' _ _ _ ht
    simp at hc
theorem CA.ok.tb (h : TbC w p f t u) (k : Wr p w w') {c : CA} (S : c.ok w) : c.ok w' := ⟨S.row, S.fam, S.qual, S.time, S.va.tb h k⟩
theorem CL.tb (h : TbC w p f t u) (k : Wr p w w') {ao : Option Addr} {n cap : Nat} {l : List CA} (S : CL w ao n cap l) : CL w' ao n cap l := by
  refine ⟨S.len, S.le, S.mx, S.nil, fun a ha i hi j v hv => ?_, fun c hc => (S.ok c hc).tb h k⟩
  have h3 := S.cell a ha i hi 3 _ rfl
  have hne := h.ne h3 (by simp) (by simp)
  rw [add_block] at hne
  exact k.cell (S.cell a ha i hi j v hv) (by rw [add_block]; exact hne)
theorem OA.ok.tb (h : TbC w p f t u) (k : Wr p w w') {o : OA} (S : o.ok w) : o.ok w' := ⟨S.kind, S.row, S.fam, S.qual, S.time, S.to, S.va.tb h k, S.wa.tb h k, S.le, S.mx, S.nil⟩
theorem OW.tb (h : TbC w p f t u) (k : Wr p w w') : ∀ {d : Nat} {x : OD d}, OW w d x → OW w' d x
  | 0, _, S => OA.ok.tb h k S
  | d + 1, x, S => by
    refine ⟨S.1.tb h k, S.2.1, fun a ha i hi j v hv => ?_, fun y hy => OW.tb h k (S.2.2.2 y hy)⟩
    have h0 := S.2.2.1 a ha i hi 0 _ rfl
    have hne := h.ne h0 (by simp) (by simp)
    rw [add_block] at hne
    exact k.cell (S.2.2.1 a ha i hi j v hv) (by rw [add_block]; exact hne)
theorem OWL.tb (h : TbC w p f t u) (k : Wr p w w') {d : Nat} {ao : Option Addr} {n cap : Nat} {l : List (OD d)} (S : OWL w d ao n cap l) : OWL w' d ao n cap l := by
  refine ⟨S.len, S.le, S.mx, S.nil, fun a ha i hi j v hv => ?_, fun y hy => (S.ok y hy).tb h k⟩
  have h0 := S.cell a ha i hi 0 _ rfl
  have hne := h.ne h0 (by simp) (by simp)
  rw [add_block] at hne
  exact k.cell (S.cell a ha i hi j v hv) (by rw [add_block]; exact hne)
end
/-- The tablet in block p has the cells cs. -/
def TB (w : World) (p : Nat) (f t : ByteArray) (cs : List CV) : Prop := ∃ u, TbC w p f t u ∧ TT w (.pointer u) (cs.map itm)
theorem TB.below {w w' : World} {p : Nat} {f t : ByteArray} {cs : List CV} (h : TB w p f t cs) (hb : Below w.heap.size w w') : TB w' p f t cs := by
  obtain ⟨u, h1, h2⟩ := h
  exact ⟨u, arr_below h1 hb, h2.below hb⟩
theorem TB.lt {w : World} {p : Nat} {f t : ByteArray} {cs : List CV} (h : TB w p f t cs) : p < w.heap.size := by
  obtain ⟨u, h1, h2⟩ := h
  exact Arr.lt h1
/-- Two tablets: while the one is written the other stands. -/
theorem TB.other {w w' : World} {p q : Nat} {f t f2 t2 : ByteArray} {cs ds : List CV} (h : TB w p f t cs) (k : Wr p w w') (hne : q ≠ p) (h2 : TB w q f2 t2 ds) : TB w' q f2 t2 ds := by
  obtain ⟨u, h1, -⟩ := h
  obtain ⟨u2, a1, a2⟩ := h2
  exact ⟨u2, (k.block q (Arr.lt a1) hne).trans a1, a2.tb h1 k⟩
/-- Rows between bounds: a stretch of keys. -/
theorem btw_rows (a b : ByteArray) (cs : List CV) (hg : CGood cs) : btw (nm (sb a)) (hiL (sb b)) (cs.map itm) = (cs.filter fun c => inRows a b c.row).map itm := by
  unfold btw ge
  rw [List.filter_filter, List.filter_map]
  congr 1
  refine List.filter_congr fun c hc => ?_
  have hk := CV.kvByt (hg c hc).time
  show (decide (cmpL (keyL c.kv) (hiL (sb b)) < 0) && decide (¬ cmpL (keyL c.kv) (nm (sb a)) < 0)) = inRows a b c.row
  have e1 : (cmpL (keyL c.kv) (nm (sb a)) < 0) ↔ cmpL (sb c.row) (sb a) < 0 := keyL_below c.kv (sb a) hk (sb_byte a)
  have e2 : (cmpL (keyL c.kv) (hiL (sb b)) < 0) ↔ (b.size = 0 ∨ cmpL (sb c.row) (sb b) < 0) := by
    unfold hiL
    by_cases hz : b.size = 0
    · rw [if_pos (sb_nil hz)]
      refine ⟨fun _ => .inl hz, fun _ => ?_⟩
      have hr : (sb c.row).length ≤ 32 := (hg c hc).right.2.1
      have := nm_top (sb c.row) (nm (sb c.fam) ++ (nm (sb c.qual) ++ beL 8 c.time)) 32 (sb_byte _) hr
      have e : keyL c.kv = nm (sb c.row) ++ (nm (sb c.fam) ++ (nm (sb c.qual) ++ beL 8 c.time)) := rfl
      rw [e, this]
      decide
    · rw [if_neg (fun h => hz (by rw [← sb_len, h]; rfl)), keyL_below c.kv (sb b) hk (sb_byte b)]
      exact ⟨.inr, fun h => h.resolve_left hz⟩
  unfold inRows
  rw [Bool.eq_iff_iff]
  simp only [Bool.and_eq_true, decide_eq_true_eq, e1, e2]
  exact And.comm
/-! ## While a block of the call's own is written, without bytes, pointers, or lists -/
/-- What such a block has. -/
structure Dull (cs : List Value) : Prop where
  u8 : ∀ n, Value.int .u8 n ∉ cs
  ptr : ∀ x, Value.pointer x ∉ cs
  sl : ∀ a n c, Value.slice a n c ∈ cs → n = 0
  node : ∀ L, cs[0]? = some (.int .i64 L) → ∀ a n c, cs[2]? ≠ some (.slice a n c)
section
variable {w w' : World} {q : Nat} {ty : TypeId} {cs : List Value}
theorem Wr.off (h : Arr w q ty cs) (k : Wr q w w') {a : Addr} {v : Value} (hc : w.cell? a = some v) (hv : v ∉ cs) : w'.cell? a = some v ∧ a.block ≠ q := by
  have hne : a.block ≠ q := fun e => by
    obtain ⟨b, off, spot⟩ := a
    obtain rfl : b = q := e
    have hs : spot = none := World.cell?_spot hc
    subst hs
    rw [Arr.cell h off] at hc
    exact hv (List.mem_of_getElem? hc)
  exact ⟨k.cell hc hne, hne⟩
theorem Sl.dull (h : Arr w q ty cs) (D : Dull cs) (k : Wr q w w') {ao : Option Addr} {n cap : Nat} {xs : List Int} (S : Sl w ao n cap xs) : Sl w' ao n cap xs :=
  ⟨S.len, S.le, S.mx, S.nil, fun a ha i hi => (k.off h (S.cell a ha i hi) (D.u8 _)).1, S.byte⟩
theorem KL.dull (h : Arr w q ty cs) (D : Dull cs) (k : Wr q w w') {ao : Option Addr} {n cap : Nat} {ps : List Part} (S : KL w ao n cap ps) (hne : ∀ y ∈ ps, y.xs ≠ []) : KL w' ao n cap ps :=
  ⟨⟨S.vl.len, S.vl.le, S.vl.mx, S.vl.nil, fun a ha i hi => by
    have hc := S.vl.cell a ha i hi
    refine (k.off h hc fun hm => ?_).1
    have hi' : i < ps.length := by simpa using hi
    rw [List.getElem_map] at hm
    have h0 := D.sl _ _ _ hm
    have h1 := (S.sl _ (List.getElem_mem hi')).len
    exact hne _ (List.getElem_mem hi') (List.eq_nil_of_length_eq_zero (h1.trans h0))⟩, fun y hy => (S.sl y hy).dull h D k⟩
theorem VL.dull (h : Arr w q ty cs) (D : Dull cs) (k : Wr q w w') {ao : Option Addr} {n cap : Nat} {vs : List Value} (S : VL w ao n cap vs) (hp : ∀ v ∈ vs, ∃ x, v = .pointer x) : VL w' ao n cap vs :=
  ⟨S.len, S.le, S.mx, S.nil, fun a ha i hi => (k.off h (S.cell a ha i hi) (by obtain ⟨x, e⟩ := hp _ (List.getElem_mem hi); rw [e]; exact D.ptr x)).1⟩
theorem TN.dull (h : Arr w q ty cs) (D : Dull cs) (k : Wr q w w') : ∀ (n : Nat) (v : Value) (l : List It), (∀ x ∈ l, x.k ≠ [] ∧ x.v ≠ []) → TN w n v l → TN w' n v l
  | 0, _, _, _, hT => hT
  | n + 1, v, l, hne, hT => by
    rcases hT with hT | ⟨d, segs, xs, rfl, hok, hs, e1, e2, e3, hk⟩
    · exact .inl hT
    · have hkp : ∀ y ∈ d.ks, y.xs ≠ [] := fun y hy => by
        have : y.xs ∈ xs.map It.k := by rw [← e1]; exact List.mem_map.2 ⟨y, hy, rfl⟩
        obtain ⟨x, hx, ex⟩ := List.mem_map.1 this
        rw [← ex]
        exact (hne x (hs.key x hx)).1
      have hvp : ∀ y ∈ d.vs, y.xs ≠ [] := fun y hy => by
        have : y.xs ∈ xs.map It.v := by rw [← e2]; exact List.mem_map.2 ⟨y, hy, rfl⟩
        obtain ⟨x, hx, ex⟩ := List.mem_map.1 this
        rw [← ex]
        exact (hne x (hs.key x hx)).2
      have hnb : d.b ≠ q := fun e => by
        have c0 := hok.c0
        have c2 := hok.c2
        rw [e, Arr.cell h] at c0 c2
        exact D.node _ c0 _ _ _ c2
      have hcp : ∀ v ∈ d.cs, ∃ x, v = .pointer x := fun v hv => by
        obtain ⟨i, hi, rfl⟩ := List.mem_iff_getElem.1 hv
        obtain ⟨y, hy, hT⟩ := hk i segs[i] (List.getElem?_eq_getElem (by omega))
        rw [List.getElem?_eq_getElem hi] at hy
        rw [Option.some.inj hy]
        exact TN.ptr' n _ _ hT
      have hb := k.block d.b hok.lt hnb
      refine .inr ⟨d, segs, xs, rfl, ⟨k.cell hok.c0 hnb, k.cell hok.c1 hnb, k.cell hok.c2 hnb, k.cell hok.c3 hnb, hok.kl.dull h D k hkp, hok.vl.dull h D k hvp, hok.cl.dull h D k hcp, by obtain ⟨c, t, e⟩ := hok.uf; exact ⟨c, t, hb.trans e⟩⟩, hs, e1, e2, e3, fun i s hi => ?_⟩
      obtain ⟨y, hy, ht⟩ := hk i s hi
      exact ⟨y, hy, TN.dull h D k n y s (fun x hx => hne x (hs.seg s (List.mem_of_getElem? hi) x hx)) ht⟩
theorem TT.dull (h : Arr w q ty cs) (D : Dull cs) (k : Wr q w w') {v : Value} {l : List It} (hne : ∀ x ∈ l, x.k ≠ [] ∧ x.v ≠ []) (hT : TT w v l) : TT w' v l := by
  rcases hT with hT | ⟨b, y, rfl, hc, ht, hl⟩
  · exact .inl hT
  · obtain ⟨x, rfl⟩ := TN.ptr' _ _ _ ht
    exact .inr ⟨b, _, rfl, (k.off h hc (D.ptr x)).1, TN.dull h D k _ _ l hne ht, hl⟩
end
theorem itm_ne (c : CV) : (itm c).k ≠ [] ∧ (itm c).v ≠ [] := by
  constructor
  · intro e
    have := keyL_len c.kv
    rw [show keyL c.kv = (itm c).k from rfl, e] at this
    simp at this
  · show itV c ≠ []
    unfold itV
    split <;> simp
theorem Dull.res (e : Int) (b : Bool) : Dull [.int .i64 e, .slice none 0 0, .bool b] :=
  ⟨fun n h => by simp at h, fun x h => by simp at h, fun a n c h => by simp at h; exact h.2.1, fun L _ a n c h => by simp at h⟩
/-- A tablet stands while such a block is written. -/
theorem TB.dull {w w' : World} {p q : Nat} {f t : ByteArray} {ds : List CV} {ty : TypeId} {cs : List Value} (h : Arr w q ty cs) (D : Dull cs) (k : Wr q w w') (hne : p ≠ q) (hT : TB w p f t ds) : TB w' p f t ds := by
  obtain ⟨u, a1, a2⟩ := hT
  refine ⟨u, (k.block p (Arr.lt a1) hne).trans a1, a2.dull h D k fun x hx => ?_⟩
  obtain ⟨c, -, rfl⟩ := List.mem_map.1 hx
  exact itm_ne c
theorem Wr.new {p q : Nat} {w a b : World} (h : Wr p w a) (k : Wr q a b) (hq : w.heap.size ≤ q) : Wr p w b :=
  ⟨k.os.trans h.os, k.tape.trans h.tape, k.output.trans h.output, Nat.le_trans h.size k.size, fun i hi hn => (k.block i (Nat.lt_of_lt_of_le hi h.size) (by omega)).trans (World.grownBy.block h i hi hn)⟩
end Go.Proofs.YtnicnfjickknjaaGreatDoor

namespace Go.Proofs.YtnicnfjickknjaaGreatDoor
open Go.RowKit

theorem toE (s : ByteArray) : s.toList.isEmpty = decide (s.size = 0) := by
  rw [ByteArray.toList_eq]
  unfold ByteArray.size
  cases h : s.data.toList with
  | nil =>
    have h2 := congrArg List.length h
    have h3 : s.data.size = 0 := by simpa using h2
    simp [h3]
  | cons a t =>
    have h2 := congrArg List.length h
    have h3 : s.data.size ≠ 0 := by
      intro h4
      rw [Array.length_toList, h4, List.length_cons] at h2
      omega
    exact (decide_eq_false h3).symm

/-- A key's cells, and its names. -/
def KA.cs (k : KA) : Array Value := #[.string k.row, .string k.fam, .string k.qual, .int .u64 k.time]
def KA.nv (k : KA) : Value := .agg #[.string k.row, .string k.fam, .string k.qual]

set_option maxRecDepth 100000 in
set_option maxHeartbeats 2000000 in
theorem pnames_any (w : World) (k : KA) :
    Calls Tryz.prog 53 #[k.val] w fun e w' => e = .returned k.nv ∧ Below w.heap.size w w' := by
  have B : Below w.heap.size w ((w.alloc (Obj.cells #[.string k.row, .string k.fam, .string k.qual, .int .u64 k.time] 24)).alloc (Obj.cells #[.string k.row, .string k.fam, .string k.qual] 88)) := ((Below.refl _ w).alloc (Nat.le_refl _) _).alloc (by simp) _
  unfold KA.val KA.nv
  go_enter Tryz.func53, Tryz.ntmps53
  go_wp2
  exact bodyPost_ret (v := .agg #[.string k.row, .string k.fam, .string k.qual]) (by simp [results, Tryz.results53, go_sem]) rfl ⟨rfl, B⟩

set_option maxRecDepth 100000 in
set_option maxHeartbeats 2000000 in
theorem pright_any (w : World) (k : KA) :
    Calls Tryz.prog 52 #[k.val] w fun e w' => e = .returned (.int .i64 k.kind) ∧ Below w.heap.size w w' := by
  have B0 : Below w.heap.size w (w.alloc (Obj.cells #[.string k.row, .string k.fam, .string k.qual, .int .u64 k.time] 24)) := (Below.refl _ w).alloc (Nat.le_refl _) _
  have K0 : ∀ i, (w.alloc (Obj.cells #[.string k.row, .string k.fam, .string k.qual, .int .u64 k.time] 24)).cell? ⟨w.heap.size, i, none⟩ = #[Value.string k.row, .string k.fam, .string k.qual, .int .u64 k.time][i]? := fun i => World.cell?_alloc_at _ _ _ _ rfl
  have no : Hid (∀ (_ : ¬ (1 ≤ k.row.size ∧ k.row.size ≤ 32 ∧ 1 ≤ k.fam.size ∧ k.fam.size ≤ 32 ∧ k.qual.size ≤ 32)), k.kind = 5) := fun h => by
    unfold KA.kind KA.isRight
    rw [decide_eq_false h]
    rfl
  have yes : Hid (∀ (_ : (1 ≤ k.row.size ∧ k.row.size ≤ 32 ∧ 1 ≤ k.fam.size ∧ k.fam.size ≤ 32 ∧ k.qual.size ≤ 32)), k.kind = 0) := fun h => by
    unfold KA.kind KA.isRight
    rw [decide_eq_true h]
    rfl
  obtain ⟨N, hN⟩ : ∃ N, N = w.heap.size := ⟨_, rfl⟩
  unfold KA.val
  go_enter Tryz.func52, Tryz.ntmps52
  go_wp2_with fail
  obtain ⟨w1, hw1⟩ : ∃ W, W = (w.alloc (Obj.cells #[.string k.row, .string k.fam, .string k.qual, .int .u64 k.time] 24)) := ⟨_, rfl⟩
  have z1 : w1.heap.size = w.heap.size + 1 := by rw [hw1]; simp
  rw [← hw1] at B0 K0 ⊢
  refine (pnames_any w1 k).mono ?_
  rintro e w2 ⟨rfl, C2⟩
  have B2 := B0.trans (C2.mono B0.size)
  have q0 : w2.cell? ⟨N, 0, none⟩ = some (.string k.row) := (C2.cell (by show N < _; omega)).trans ((hN ▸ K0 0 :))
  have q1 : w2.cell? ⟨N, 1, none⟩ = some (.string k.fam) := (C2.cell (by show N < _; omega)).trans ((hN ▸ K0 1 :))
  unfold KA.nv
  rw [← hN]
  have i0 : ∀ w, (Instr.index 88 (.agg #[.string k.row, .string k.fam, .string k.qual]) (.int .i64 0)).run Tryz.prog w = .ok (.string k.row) w := fun _ => by kernel_rfl
  have i1 : ∀ w, (Instr.index 88 (.agg #[.string k.row, .string k.fam, .string k.qual]) (.int .i64 1)).run Tryz.prog w = .ok (.string k.fam) w := fun _ => by kernel_rfl
  have i2 : ∀ w, (Instr.index 88 (.agg #[.string k.row, .string k.fam, .string k.qual]) (.int .i64 2)).run Tryz.prog w = .ok (.string k.qual) w := fun _ => by kernel_rfl
  clear hN z1 hw1 K0 B0 C2
  go_wp2_with fail
  go_loopw [4, 7] (fun s i wr => wr = w2 ∧ ∃ j : Nat, i = .int .i64 j ∧ j ≤ 3 ∧ (0 < j → k.row.size ≤ 32) ∧ (1 < j → k.fam.size ≤ 32) ∧ (2 < j → k.qual.size ≤ 32)) (fun _ i _ => 3 - (intOf i).toNat)
  case atStart => exact ⟨rfl, 0, rfl, by omega, by omega, by omega, by omega⟩
  case round =>
    obtain ⟨rfl, j, rfl, hj, h1, h2, h3⟩ := hrel
    obtain rfl | rfl | rfl | rfl : j = 0 ∨ j = 1 ∨ j = 2 ∨ j = 3 := by omega
    · by_cases l : 32 < k.row.size
      · have il : (32 : Int) < (k.row.size : Int) := by omega
        have hv : Hid (k.kind = 5) := no.out (by omega)
        go_wp2
        go_ret
        exact ⟨by rw [hv.out] <;> rfl, B2⟩
      · have il : (k.row.size : Int) ≤ 32 := by omega
        go_wp2
        go_roundw
        case rel => exact ⟨trivial, 1, rfl, by omega, by omega, by omega, by omega⟩
        case measure => simp [intOf]
    · by_cases l : 32 < k.fam.size
      · have il : (32 : Int) < (k.fam.size : Int) := by omega
        have hv : Hid (k.kind = 5) := no.out (by omega)
        go_wp2
        go_ret
        exact ⟨by rw [hv.out] <;> rfl, B2⟩
      · have il : (k.fam.size : Int) ≤ 32 := by omega
        go_wp2
        go_roundw
        case rel => exact ⟨trivial, 2, rfl, by omega, by omega, by omega, by omega⟩
        case measure => simp [intOf]
    · by_cases l : 32 < k.qual.size
      · have il : (32 : Int) < (k.qual.size : Int) := by omega
        have hv : Hid (k.kind = 5) := no.out (by omega)
        go_wp2
        go_ret
        exact ⟨by rw [hv.out] <;> rfl, B2⟩
      · have il : (k.qual.size : Int) ≤ 32 := by omega
        go_wp2
        go_roundw
        case rel => exact ⟨trivial, 3, rfl, by omega, by omega, by omega, by omega⟩
        case measure => simp [intOf]
    · by_cases r0 : k.row.size = 0
      · have e0 : k.row.toList.isEmpty = true := by rw [toE]; exact decide_eq_true r0
        have hv : Hid (k.kind = 5) := no.out (by omega)
        go_wp2
        go_ret
        exact ⟨by rw [hv.out] <;> rfl, B2⟩
      · have e0 : k.row.toList.isEmpty = false := by rw [toE]; exact decide_eq_false r0
        by_cases f0 : k.fam.size = 0
        · have e2 : k.fam.toList.isEmpty = true := by rw [toE]; exact decide_eq_true f0
          have hv : Hid (k.kind = 5) := no.out (by omega)
          go_wp2
          go_ret
          exact ⟨by rw [hv.out] <;> rfl, B2⟩
        · have e2 : k.fam.toList.isEmpty = false := by rw [toE]; exact decide_eq_false f0
          have hv : Hid (k.kind = 0) := yes.out (by omega)
          go_wp2
          go_ret
          exact ⟨by rw [hv.out] <;> rfl, B2⟩
end Go.Proofs.YtnicnfjickknjaaGreatDoor

namespace Go.Proofs.YtnicnfjickknjaaGreatDoor
open Go.RowKit

theorem pvalue_any (w : World) (ao : Option Addr) (n cap : Nat) :
    Calls Tryz.prog 81 #[.slice ao n cap] w fun e w' => e = .returned (.bool (decide (n ≤ 256))) ∧ w' = w := by
  by_cases l : n ≤ 256
  · have i : (n : Int) ≤ 256 := by omega
    rw [decide_eq_true l]
    go_enter Tryz.func81, Tryz.ntmps81
    go_wp2
    go_ret
    exact ⟨rfl, rfl⟩
  · have i : decide ((n : Int) ≤ 256) = false := by simp; omega
    rw [decide_eq_false l]
    go_enter Tryz.func81, Tryz.ntmps81
    go_wp2
    go_ret
    exact ⟨rfl, rfl⟩

theorem pwant_any (w : World) (ao : Option Addr) (n cap : Nat) (b : Bool) :
    Calls Tryz.prog 80 #[.slice ao n cap, .bool b] w fun e w' => e = .returned (.bool (decide (n ≤ 256 ∧ (b = true ∨ n = 0)))) ∧ w' = w := by
  by_cases l : n ≤ 256
  · have hv : decide (n ≤ 256) = true := decide_eq_true l
    cases b with
    | true =>
      rw [decide_eq_true ⟨l, .inl rfl⟩]
      go_enter Tryz.func80, Tryz.ntmps80
      go_wp2_with (go_at_call 81; refine (pvalue_any _ ao n cap).mono ?_; rintro e w' ⟨rfl, rfl⟩; rw [hv])
      go_ret
      exact ⟨rfl, rfl⟩
    | false =>
      by_cases z : n = 0
      · subst z
        rw [decide_eq_true ⟨by omega, .inr rfl⟩]
        go_enter Tryz.func80, Tryz.ntmps80
        go_wp2_with (go_at_call 81; refine (pvalue_any _ ao 0 cap).mono ?_; rintro e w' ⟨rfl, rfl⟩; rw [hv])
        go_ret
        exact ⟨rfl, rfl⟩
      · have i : ((n : Int) == 0) = false := by simp; omega
        rw [decide_eq_false (by simp; omega)]
        go_enter Tryz.func80, Tryz.ntmps80
        go_wp2_with (go_at_call 81; refine (pvalue_any _ ao n cap).mono ?_; rintro e w' ⟨rfl, rfl⟩; rw [hv])
        go_ret
        exact ⟨rfl, rfl⟩
  · have hv : decide (n ≤ 256) = false := decide_eq_false l
    rw [decide_eq_false (fun h => l h.1)]
    go_enter Tryz.func80, Tryz.ntmps80
    go_wp2_with (go_at_call 81; refine (pvalue_any _ ao n cap).mono ?_; rintro e w' ⟨rfl, rfl⟩; rw [hv])
    go_ret
    exact ⟨rfl, rfl⟩

theorem pequal_any (w : World) (ao bo : Option Addr) (n cap m cap2 : Nat) (xs ys : List Int) (h : Sl w ao n cap xs) (h2 : Sl w bo m cap2 ys) :
    Calls Tryz.prog 35 #[.slice ao n cap, .slice bo m cap2] w fun e w' => e = .returned (.bool (decide (xs = ys))) ∧ w' = w := by
  have c1 := conv_str h
  have c2 := conv_str h2
  by_cases e : xs = ys
  · subst e
    rw [decide_eq_true rfl]
    go_enter Tryz.func35, Tryz.ntmps35
    go_wp2
    go_ret
    exact ⟨rfl, rfl⟩
  · have i : ((strOfNums xs).toList == (strOfNums ys).toList) = false := toL_ne fun q => e (by rw [← sb_str h.byte, q, sb_str h2.byte])
    rw [decide_eq_false e]
    go_enter Tryz.func35, Tryz.ntmps35
    go_wp2
    go_ret
    exact ⟨rfl, rfl⟩

set_option maxRecDepth 100000 in
set_option maxHeartbeats 2000000 in
theorem pwrites_any (w : World) (o : OA) :
    Calls Tryz.prog 23 #[o.val] w fun e w' => e = .returned (.bool (decide (o.kind ≠ 7 ∧ o.kind ≠ 8))) ∧ Below w.heap.size w w' := by
  have B : Below w.heap.size w (w.alloc (Obj.cells o.cells.toArray 43)) := (Below.refl _ w).alloc (Nat.le_refl _) _
  unfold OA.cells at B
  unfold OA.val
  by_cases e7 : o.kind = 7
  · have i : (o.kind != 7) = false := by simp [e7]
    have hv : Hid (decide (o.kind ≠ 7 ∧ o.kind ≠ 8) = false) := decide_eq_false (by omega)
    clear e7
    go_enter Tryz.func23, Tryz.ntmps23
    go_wp2
    go_ret
    exact ⟨by rw [hv.out] <;> rfl, B⟩
  · have i : (o.kind != 7) = true := by simp [e7]
    by_cases e8 : o.kind = 8
    · have j : (o.kind != 8) = false := by simp [e8]
      have hv : Hid (decide (o.kind ≠ 7 ∧ o.kind ≠ 8) = false) := decide_eq_false (by omega)
      clear e7 e8
      go_enter Tryz.func23, Tryz.ntmps23
      go_wp2
      go_ret
      exact ⟨by rw [hv.out] <;> rfl, B⟩
    · have j : (o.kind != 8) = true := by simp [e8]
      have hv : Hid (decide (o.kind ≠ 7 ∧ o.kind ≠ 8) = true) := decide_eq_true ⟨e7, e8⟩
      clear e7 e8
      go_enter Tryz.func23, Tryz.ntmps23
      go_wp2
      go_ret
      exact ⟨by rw [hv.out] <;> rfl, B⟩
end Go.Proofs.YtnicnfjickknjaaGreatDoor

namespace Go.Proofs.YtnicnfjickknjaaGreatDoor
open Go.RowKit

/-- A cell's cells, from a place on. -/
structure CX (V : World) (b p : Nat) (c : CA) : Prop where
  c0 : V.cell? ⟨b, p, none⟩ = some (.string c.row)
  c1 : V.cell? ⟨b, p + 1, none⟩ = some (.string c.fam)
  c2 : V.cell? ⟨b, p + 2, none⟩ = some (.string c.qual)
  c3 : V.cell? ⟨b, p + 3, none⟩ = some (.int .u64 c.time)
  c4 : V.cell? ⟨b, p + 4, none⟩ = some (.slice c.va.ao c.va.n c.va.cap)
  c5 : V.cell? ⟨b, p + 5, none⟩ = some (.bool c.gone)
theorem CX.below {V V' : World} {b p : Nat} {c : CA} (h : CX V b p c) (hb : Below V.heap.size V V') : CX V' b p c :=
  have k : ∀ a v, V.cell? a = some v → V'.cell? a = some v := fun _ _ hc => (hb.cell (World.block_lt_of_cell? V _ hc)).trans hc
  ⟨k _ _ h.c0, k _ _ h.c1, k _ _ h.c2, k _ _ h.c3, k _ _ h.c4, k _ _ h.c5⟩
theorem CL.at {w : World} {ao : Option Addr} {n cap : Nat} {l : List CA} (h : CL w ao n cap l) (hn : 0 < n) :
    ∃ b off, ao = some ⟨b, off, none⟩ ∧ ∀ i (hi : i < l.length), CX w b (off + i * 6) l[i] := by
  have hl := h.len
  cases ao with
  | none => have := (h.nil rfl).1; omega
  | some a =>
    obtain ⟨b, off, spot⟩ := a
    have hc := h.cell _ rfl 0 (by omega) 0 _ rfl
    have hs : spot = none := by simpa [Addr.add] using World.cell?_spot hc
    subst hs
    refine ⟨b, off, rfl, fun i hi => ?_⟩
    have k : ∀ j v, l[i].cells[j]? = some v → w.cell? ⟨b, off + i * 6 + j, none⟩ = some v := fun j v hv => by
      have := h.cell _ rfl i hi j v hv
      rw [Addr.add_lit] at this
      rw [Nat.add_assoc]
      exact this
    exact ⟨k 0 _ rfl, k 1 _ rfl, k 2 _ rfl, k 3 _ rfl, k 4 _ rfl, k 5 _ rfl⟩
/-- A result's value, and what it is. -/
def resV (e : Int) (ao : Option Addr) (n cap : Nat) (m : Bool) : Value := .agg #[.int .i64 e, .slice ao n cap, .bool m]
def resR (e : Int) (l : List CA) (m : Bool) : RV := ⟨e, l.map CA.c, m⟩
def CA.key (c : CA) : KA := ⟨c.row, c.fam, c.qual, c.time⟩
/-- The result lies in block p. -/
def RC (V : World) (p : Nat) (e : Int) (ao : Option Addr) (n cap : Nat) (m : Bool) : Prop := V.heap[p]? = some (.cells #[.int .i64 e, .slice ao n cap, .bool m] 50)
theorem RC.lt {V : World} {p : Nat} {e : Int} {ao : Option Addr} {n cap : Nat} {m : Bool} (h : RC V p e ao n cap m) : p < V.heap.size := (Array.getElem?_eq_some_iff.1 h).1
theorem RC.keep {V V' : World} {p : Nat} {e : Int} {ao : Option Addr} {n cap : Nat} {m : Bool} (h : RC V p e ao n cap m) (hb : Below V.heap.size V V') : RC V' p e ao n cap m := (hb.block p h.lt).trans h
theorem RC.c0 {V : World} {p : Nat} {e : Int} {ao : Option Addr} {n cap : Nat} {m : Bool} (h : RC V p e ao n cap m) : V.cell? ⟨p, 0, none⟩ = some (.int .i64 e) := cell_of_row V p 0 _ _ _ h
theorem RC.c1 {V : World} {p : Nat} {e : Int} {ao : Option Addr} {n cap : Nat} {m : Bool} (h : RC V p e ao n cap m) : V.cell? ⟨p, 1, none⟩ = some (.slice ao n cap) := cell_of_row V p 1 _ _ _ h
theorem RC.c2 {V : World} {p : Nat} {e : Int} {ao : Option Addr} {n cap : Nat} {m : Bool} (h : RC V p e ao n cap m) : V.cell? ⟨p, 2, none⟩ = some (.bool m) := cell_of_row V p 2 _ _ _ h
theorem cellR_ok {c : CA} {w : World} (h : c.ok w) : cellR c.c = (c.key.isRight && decide (c.va.n ≤ 256)) := by
  have := h.va.len
  unfold cellR KA.isRight CA.c CA.key
  simp only [this]
  rw [Bool.eq_iff_iff]
  simp only [decide_eq_true_eq, Bool.and_eq_true]
  omega
theorem resR_all (e : Int) (l : List CA) (m : Bool) (h : 0 ≤ e ∧ e ≤ 18 ∧ l.length ≤ 16) : rightR (resR e l m) = l.all fun c => cellR c.c := by
  unfold rightR resR
  simp only [List.length_map]
  rw [decide_eq_true h, Bool.true_and, List.all_map]
  rfl
theorem resR_no (e : Int) (l : List CA) (m : Bool) (h : ¬ (0 ≤ e ∧ e ≤ 18 ∧ l.length ≤ 16)) : rightR (resR e l m) = false := by
  unfold rightR resR
  simp only [List.length_map]
  rw [decide_eq_false h, Bool.false_and]
theorem all_take_succ {α : Type} (p : α → Bool) {l : List α} {k : Nat} (hk : k < l.length) (h : (l.take k).all p = true) : (l.take (k + 1)).all p = p l[k] := by
  rw [List.take_succ_eq_append_getElem hk, List.all_append, h]
  simp
end Go.Proofs.YtnicnfjickknjaaGreatDoor

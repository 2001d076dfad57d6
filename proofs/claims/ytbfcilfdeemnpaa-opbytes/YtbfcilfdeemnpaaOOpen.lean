/-
  Operations that come in are opened, as deep as one likes. No program is named here.
-/
import Derived.Test.YtbfcilfdeemnpaaOMem
import Derived.Deep.Slices
import Derived.ChangeSame
import Derived.ChangeSlices
import Derived.SizedLaws
namespace Go.Proofs.Ytbfcilfdeemnpaa
open Go.RowKit Go.ChangeShapes Go.WideShapes

/-- The types of operations, as a program has them. -/
structure OpTypes (P : Program) where
  op : TypeId
  key : TypeId
  int : TypeId
  str : TypeId
  u64 : TypeId
  bys : TypeId
  u8 : TypeId
  bool : TypeId
  subs : TypeId
  f0 : Field
  f1 : Field
  f2 : Field
  f3 : Field
  f4 : Field
  f5 : Field
  f6 : Field
  g0 : Field
  g1 : Field
  g2 : Field
  g3 : Field
  hop : P.underlying op = some (.struct #[f0, f1, f2, f3, f4, f5, f6])
  hkey : P.underlying key = some (.struct #[g0, g1, g2, g3])
  hint : P.underlying int = some (.int .i64)
  hstr : P.underlying str = some .string
  hu64 : P.underlying u64 = some (.int .u64)
  hbys : P.underlying bys = some (.slice u8)
  hu8 : P.underlying u8 = some (.int .u8)
  hbool : P.underlying bool = some .bool
  hsubs : P.underlying subs = some (.slice op)
  cop : P.cellsOf op = 10
  ckey : P.cellsOf key = 4
  cint : P.cellsOf int = 1
  cstr : P.cellsOf str = 1
  cu64 : P.cellsOf u64 = 1
  cbys : P.cellsOf bys = 1
  cu8 : P.cellsOf u8 = 1
  bu8 : P.bytesOf u8 = 1
  cbool : P.cellsOf bool = 1
  csubs : P.cellsOf subs = 1
  o0 : f0.type = int ∧ f0.offset = 0
  o1 : f1.type = key ∧ f1.offset = 1
  o2 : f2.type = str ∧ f2.offset = 5
  o3 : f3.type = bys ∧ f3.offset = 6
  o4 : f4.type = bys ∧ f4.offset = 7
  o5 : f5.type = bool ∧ f5.offset = 8
  o6 : f6.type = subs ∧ f6.offset = 9
  p0 : g0.type = str ∧ g0.offset = 0
  p1 : g1.type = str ∧ g1.offset = 1
  p2 : g2.type = str ∧ g2.offset = 2
  p3 : g3.type = u64 ∧ g3.offset = 3

variable {H : Type} {enc : TypeId × Value → H} {P : Program} {w : World} {base : Nat} {spare : Nat → Bool} {held : Bool}

/-- All that is weighed in it is within the reach. -/
def Wt (P : Program) (d : DataW H) (t : TypeId) : Prop := ∀ n ∈ d.weights P t, n ≤ reachBytes
theorem weights_mem_all : ∀ {e : TypeId} {ds : List (DataW H)} {j : Nat} {d : DataW H}, ds[j]? = some d → ∀ n ∈ d.weights P e, n ∈ DataW.weightsAll P e ds
  | e, d0 :: ds, 0, d, hd, n, hn => by
    simp only [List.getElem?_cons_zero, Option.some.injEq] at hd
    subst hd
    simp only [DataW.weightsAll, List.mem_append]
    exact Or.inl hn
  | e, d0 :: ds, j + 1, d, hd, n, hn => by
    simp only [List.getElem?_cons_succ] at hd
    simp only [DataW.weightsAll, List.mem_append]
    exact Or.inr (weights_mem_all hd n hn)
  | _, [], _, _, hd, _, _ => by simp at hd
theorem Wt.field {t : TypeId} {fs : Array Field} {xs : List (DataW H × List MemPlace)} (ht : P.underlying t = some (.struct fs)) (h : Wt P (.agg (xs.map (·.1))) t) (j : Nat) {u : TypeId} {y : DataW H × List MemPlace} (hu : (fs.toList.map (·.type))[j]? = some u) (hy : xs[j]? = some y) : Wt P y.1 u := fun n hn =>
  h n (by
    simp only [DataW.weights, ht]
    exact DataW.weights_mem_each hu (by rw [List.getElem?_map, hy]; rfl) n hn)
theorem Wt.text {s : ByteArray} {t : TypeId} (h : Wt P (.lit (.string s.data.toList) : DataW H) t) : s.size ≤ 140737488351232 := by
  have := h s.data.toList.length (by simp [DataW.weights])
  simp only [reachBytes] at this
  have e : s.data.toList.length = s.size := by simp
  omega

theorem Sl.of_ints {tB tE : TypeId} {fuel : Nat} {v : Value} {x : DataW H × List MemPlace} (ht : P.underlying tB = some (.slice tE)) (he : P.underlying tE = some (.int .u8)) (hc : P.cellsOf tE = 1)
    (hb8 : P.bytesOf tE = 1) (h : DataW.trod enc P w base spare held fuel tB [v] = some x) : ∃ b : Bs, v = .slice b.ao b.n b.cap ∧ Sl w b.ao b.n b.cap b.xs ∧ (Wt P x.1 tB → b.n ≤ 140737488351232) := by
  rcases open_ints ht he hc h with ⟨hcs, _⟩ | ⟨a, l, c, zs, hcs, _, hl, hm, hz, hx, hcell, hwz⟩
  · simp at hcs
    exact ⟨⟨none, 0, 0, []⟩, hcs, Sl.nothing w, fun _ => Nat.zero_le _⟩
  · simp at hcs
    have hlz : l ≤ zs.length := by rw [hz]; split <;> omega
    refine ⟨⟨some a, l, c, zs.take l⟩, hcs, ⟨by simp; omega, hl, hm, fun h => by simp at h, fun b hb i hi => ?_, fun z hz => ?_⟩, fun hwt => ?_⟩
    · obtain rfl := Option.some.inj hb
      have hi : i < l := hi
      rw [hcell i (by omega)]
      simp [List.getD, hi]
    · have := hwz z (List.mem_of_mem_take hz)
      simp [Lit.wf, IntKind.min, IntKind.max, IntKind.signed, IntKind.bits] at this
      omega
    · rw [hx] at hwt
      have := hwt (zs.length * 1) (by simp only [DataW.weights, ht, hb8]; simp [ChangeShapes.lits]; omega)
      simp only [reachBytes] at this
      show l ≤ _
      omega

theorem gather_list {α : Type} {p : Nat → α → Prop} : ∀ l : Nat, (∀ i, i < l → ∃ y, p i y) → ∃ z : List α, z.length = l ∧ ∀ i (h : i < z.length), p i z[i]
  | 0, _ => ⟨[], rfl, fun i h => by simp at h⟩
  | l + 1, key => by
    obtain ⟨z, hz1, hz2⟩ := gather_list l (fun i hi => key i (by omega))
    obtain ⟨y, hy⟩ := key l (by omega)
    refine ⟨z ++ [y], by simp [hz1], fun i h => ?_⟩
    by_cases c : i < z.length
    · rw [List.getElem_append_left c]
      exact hz2 i c
    · have hi : i = z.length := by simp at h; omega
      subst hi
      rw [List.getElem_append_right (Nat.le_refl _)]
      simp only [Nat.sub_self, List.getElem_singleton]
      rw [hz1]
      exact hy

set_option maxHeartbeats 1000000 in
theorem open_op (T : OpTypes P) {fuel : Nat} {cs : List Value} {x : DataW H × List MemPlace} (h : DataW.trod enc P w base spare held fuel T.op cs = some x) :
    ∃ o : OA, cs = o.cells ∧ o.ok w ∧ ∃ n y, DataW.trod enc P w base spare held n T.subs [.slice o.so o.sn o.sc] = some y ∧ (Wt P x.1 T.op → o.small ∧ Wt P y.1 T.subs) := by
  obtain ⟨xs, k, _, hx, hl, hlen, hf⟩ := DataW.trod_struct T.hop h
  rw [T.cop] at hl
  obtain ⟨c0, c1, c2, c3, c4, c5, c6, c7, c8, c9, rfl⟩ : ∃ c0 c1 c2 c3 c4 c5 c6 c7 c8 c9, cs = [c0, c1, c2, c3, c4, c5, c6, c7, c8, c9] := by
    match cs, hl with
    | [c0, c1, c2, c3, c4, c5, c6, c7, c8, c9], _ => exact ⟨_, _, _, _, _, _, _, _, _, _, rfl⟩
  obtain ⟨x0, x1, x2, x3, x4, x5, x6, rfl⟩ : ∃ x0 x1 x2 x3 x4 x5 x6, xs = [x0, x1, x2, x3, x4, x5, x6] := by
    match xs, hlen with
    | [x0, x1, x2, x3, x4, x5, x6], _ => exact ⟨_, _, _, _, _, _, _, rfl⟩
  have e0 := hf 0 T.f0 rfl
  have e1 := hf 1 T.f1 rfl
  have e2 := hf 2 T.f2 rfl
  have e3 := hf 3 T.f3 rfl
  have e4 := hf 4 T.f4 rfl
  have e5 := hf 5 T.f5 rfl
  have e6 := hf 6 T.f6 rfl
  rw [T.o0.1, T.o0.2, T.cint] at e0
  rw [T.o1.1, T.o1.2, T.ckey] at e1
  rw [T.o2.1, T.o2.2, T.cstr] at e2
  rw [T.o3.1, T.o3.2, T.cbys] at e3
  rw [T.o4.1, T.o4.2, T.cbys] at e4
  rw [T.o5.1, T.o5.2, T.cbool] at e5
  rw [T.o6.1, T.o6.2, T.csubs] at e6
  simp only [List.drop_succ_cons, List.drop_zero, List.take_succ_cons, List.take_zero, List.getElem?_cons_zero, List.getElem?_cons_succ] at e0 e1 e2 e3 e4 e5 e6
  obtain ⟨ys, k2, _, hx2, _, hlen2, hf2⟩ := DataW.trod_struct T.hkey e1
  obtain ⟨y0, y1, y2, y3, rfl⟩ : ∃ y0 y1 y2 y3, ys = [y0, y1, y2, y3] := by
    match ys, hlen2 with
    | [y0, y1, y2, y3], _ => exact ⟨_, _, _, _, rfl⟩
  have d0 := hf2 0 T.g0 rfl
  have d1 := hf2 1 T.g1 rfl
  have d2 := hf2 2 T.g2 rfl
  have d3 := hf2 3 T.g3 rfl
  rw [T.p0.1, T.p0.2, T.cstr] at d0
  rw [T.p1.1, T.p1.2, T.cstr] at d1
  rw [T.p2.1, T.p2.2, T.cstr] at d2
  rw [T.p3.1, T.p3.2, T.cu64] at d3
  simp only [List.drop_succ_cons, List.drop_zero, List.take_succ_cons, List.take_zero, List.getElem?_cons_zero, List.getElem?_cons_succ] at d0 d1 d2 d3
  obtain ⟨kd, q0, _, w0⟩ := DataW.trod_int T.hint e0
  obtain rfl : c0 = .int .i64 kd := by simpa using q0
  obtain ⟨rw_, q1, r1, w1⟩ := DataW.trod_string T.hstr d0
  obtain rfl : c1 = .string rw_ := by simpa using q1
  obtain ⟨fm, q2, r2, w2⟩ := DataW.trod_string T.hstr d1
  obtain rfl : c2 = .string fm := by simpa using q2
  obtain ⟨ql, q3, r3, w3⟩ := DataW.trod_string T.hstr d2
  obtain rfl : c3 = .string ql := by simpa using q3
  obtain ⟨tm, q4, _, w4⟩ := DataW.trod_int T.hu64 d3
  obtain rfl : c4 = .int .u64 tm := by simpa using q4
  obtain ⟨tt, q5, r5, w5⟩ := DataW.trod_string T.hstr e2
  obtain rfl : c5 = .string tt := by simpa using q5
  obtain ⟨va, q6, s6, _⟩ := Sl.of_ints T.hbys T.hu8 T.cu8 T.bu8 e3
  obtain ⟨wa, q7, s7, _⟩ := Sl.of_ints T.hbys T.hu8 T.cu8 T.bu8 e4
  obtain ⟨hs, q8, _⟩ := DataW.trod_bool T.hbool e5
  obtain rfl : c8 = .bool hs := by simpa using q8
  have gt : 0 ≤ tm ∧ tm < 18446744073709551616 := by
    simp [Lit.wf, IntKind.min, IntKind.max, IntKind.signed, IntKind.bits] at w4
    omega
  have gk : -9223372036854775808 ≤ kd ∧ kd ≤ 9223372036854775807 := by
    simp [Lit.wf, IntKind.min, IntKind.max, IntKind.signed, IntKind.bits] at w0
    omega
  have ez : ((tm.toNat : Nat) : Int) = tm := Int.toNat_of_nonneg gt.1
  obtain ⟨so, sn, sc, q9, hle, hmx, hnil⟩ : ∃ so sn sc, c9 = .slice so sn sc ∧ sn ≤ sc ∧ sc ≤ maxLen ∧ (so = none → sn = 0 ∧ sc = 0) := by
    rcases Deep.open_slice T.hsubs e6 with ⟨hcs, _⟩ | ⟨a, l, c, m, n, D, Pl, hcs, _, hl, hm, _, _, _⟩
    · exact ⟨none, 0, 0, by simpa using hcs, Nat.le_refl _, Nat.zero_le _, fun _ => ⟨rfl, rfl⟩⟩
    · exact ⟨some a, l, c, by simpa using hcs, hl, hm, fun h => by simp at h⟩
  subst q6 q7 q9
  refine ⟨⟨kd, rw_, fm, ql, tm.toNat, tt, va, wa, hs, so, sn, sc⟩, ?_, ⟨gk, w1, w2, w3, by show tm.toNat < _; omega, w5, s6, s7, hle, hmx, hnil⟩, _, _, e6, fun hwt => ?_⟩
  · simp [OA.cells, ez]
  · rw [hx] at hwt
    have hk := hwt.field T.hop 1 (u := T.key) (by simp [T.o1.1]) rfl
    rw [hx2] at hk
    have ht := hwt.field T.hop 2 (u := T.str) (by simp [T.o2.1]) rfl
    have g0 := hk.field T.hkey 0 (u := T.str) (by simp [T.p0.1]) rfl
    have g1 := hk.field T.hkey 1 (u := T.str) (by simp [T.p1.1]) rfl
    have g2 := hk.field T.hkey 2 (u := T.str) (by simp [T.p2.1]) rfl
    rw [r5] at ht
    rw [r1] at g0
    rw [r2] at g1
    rw [r3] at g2
    exact ⟨⟨g0.text, g1.text, g2.text, ht.text⟩, hwt.field T.hop 6 (u := T.subs) (by simp [T.o6.1]) rfl⟩

theorem open_deep (T : OpTypes P) : ∀ (d : Nat) {fuel : Nat} {cs : List Value} {x : DataW H × List MemPlace}, DataW.trod enc P w base spare held fuel T.op cs = some x → ∃ y : OD d, cs = (topD d y).cells ∧ OW w d y ∧ (Wt P x.1 T.op → OSm d y)
  | 0, _, _, _, h => by
    obtain ⟨o, e, k, _, _, _, sm⟩ := open_op T h
    exact ⟨o, e, k, fun hwt => (sm hwt).1⟩
  | d + 1, _, _, _, h => by
    obtain ⟨o, e, k, n, y, hs, sm⟩ := open_op T h
    rcases Deep.open_slice T.hsubs hs with ⟨hcs, _⟩ | ⟨a, l, c, m, n, D, Pl, hcs, _, hl, hm, hmm, hy0, hx⟩
    · have hn : o.so = none ∧ o.sn = 0 := by simp at hcs; exact ⟨hcs.1, hcs.2.1⟩
      exact ⟨(o, []), e, ⟨k, hn.2.symm, fun a ha => by rw [hn.1] at ha; simp at ha, fun y hy => by simp at hy⟩, fun hwt => ⟨(sm hwt).1, fun y hy => by simp at hy⟩⟩
    · have hn : o.so = some a ∧ o.sn = l := by simp at hcs; exact ⟨hcs.1, hcs.2.1⟩
      have hlm : l ≤ m := by rw [hmm]; split <;> omega
      have key : ∀ i, i < l → ∃ y : OD d, ((∀ j v, (topD d y).cells[j]? = some v → w.cell? (a.add (i * 10 + j)) = some v) ∧ OW w d y) ∧ (Wt P (D i) T.op → OSm d y) := by
        intro i hi
        obtain ⟨cs', h1, h2⟩ := hx i (by omega)
        rw [T.cop] at h1
        obtain ⟨_, hlen, hcell⟩ := World.cells?_some h1
        obtain ⟨y, e1, w1, sm1⟩ := open_deep T d h2
        refine ⟨y, ⟨fun j v hv => ?_, w1⟩, sm1⟩
        rw [← e1] at hv
        have hj : j < cs'.length := (List.getElem?_eq_some_iff.1 hv).1
        have := hcell j (by omega)
        rw [Deep.add_add, hv] at this
        exact this
      obtain ⟨z, hz1, hz2⟩ := gather_list l key
      refine ⟨(o, z), e, ⟨k, by rw [hn.2]; exact hz1, fun b hb i hi => ?_, fun y hy => ?_⟩, fun hwt => ⟨(sm hwt).1, fun y hy => ?_⟩⟩
      · rw [hn.1] at hb
        obtain rfl := Option.some.inj hb
        exact (hz2 i hi).1.1
      · obtain ⟨i, hi, rfl⟩ := List.getElem_of_mem hy
        exact (hz2 i hi).1.2
      · obtain ⟨i, hi, rfl⟩ := List.getElem_of_mem hy
        have hi' : i < z.length := hi
        refine (hz2 i hi).2 fun n hn2 => (sm hwt).2 n ?_
        rw [hy0]
        simp only [DataW.weights, T.hsubs]
        refine List.mem_cons_of_mem _ (List.mem_append_left _ (weights_mem_all (j := i) ?_ n hn2))
        rw [List.getElem?_map, List.getElem?_range (by omega)]
        rfl
end Go.Proofs.Ytbfcilfdeemnpaa

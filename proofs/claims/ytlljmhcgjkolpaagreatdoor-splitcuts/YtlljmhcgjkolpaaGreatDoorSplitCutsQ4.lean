/-
  Texts in one: OOpen, RMem, RowL, CRight, CEsc.
-/
import Derived.Test.YtlljmhcgjkolpaaGreatDoorSplitCutsQ3
import Derived.Deep.Slices
import Derived.ChangeSame
import Derived.ChangeSlices
import Derived.SizedLaws
import Derived.Lib.SmallJoins
import Derived.Test.YtlljmhcgjkolpaaGreatDoorSplitCutsQ0
namespace Go.Proofs.YtlljmhcgjkolpaaGreatDoor
open Go.RowKit Go.ChangeShapes Go.WideShapes
structure OpTypes (P : Program) where
  op : TypeId
  key : TypeId
  int : TypeId
  str : TypeId
  u64 : TypeId
  bys : TypeId
  u8 : TypeId
  bool : TypeId
  subs : TypeId
  f0 : Field
  f1 : Field
  f2 : Field
  f3 : Field
  f4 : Field
  f5 : Field
  f6 : Field
  g0 : Field
  g1 : Field
  g2 : Field
  g3 : Field
  hop : P.underlying op = some (.struct #[f0, f1, f2, f3, f4, f5, f6])
  hkey : P.underlying key = some (.struct #[g0, g1, g2, g3])
  hint : P.underlying int = some (.int .i64)
  hstr : P.underlying str = some .string
  hu64 : P.underlying u64 = some (.int .u64)
  hbys : P.underlying bys = some (.slice u8)
  hu8 : P.underlying u8 = some (.int .u8)
  hbool : P.underlying bool = some .bool
  hsubs : P.underlying subs = some (.slice op)
  cop : P.cellsOf op = 10
  ckey : P.cellsOf key = 4
  cint : P.cellsOf int = 1
  cstr : P.cellsOf str = 1
  cu64 : P.cellsOf u64 = 1
  cbys : P.cellsOf bys = 1
  cu8 : P.cellsOf u8 = 1
  bu8 : P.bytesOf u8 = 1
  cbool : P.cellsOf bool = 1
  csubs : P.cellsOf subs = 1
  o0 : f0.type = int ∧ f0.offset = 0
  o1 : f1.type = key ∧ f1.offset = 1
  o2 : f2.type = str ∧ f2.offset = 5
  o3 : f3.type = bys ∧ f3.offset = 6
  o4 : f4.type = bys ∧ f4.offset = 7
  o5 : f5.type = bool ∧ f5.offset = 8
  o6 : f6.type = subs ∧ f6.offset = 9
  p0 : g0.type = str ∧ g0.offset = 0
  p1 : g1.type = str ∧ g1.offset = 1
  p2 : g2.type = str ∧ g2.offset = 2
  p3 : g3.type = u64 ∧ g3.offset = 3
variable {H : Type} {enc : TypeId × Value → H} {P : Program} {w : World} {base : Nat} {spare : Nat → Bool} {held : Bool}
def Wt (P : Program) (d : DataW H) (t : TypeId) : Prop := ∀ n ∈ d.weights P t, n ≤ reachBytes
theorem weights_mem_all : ∀ {e : TypeId} {ds : List (DataW H)} {j : Nat} {d : DataW H}, ds[j]? = some d → ∀ n ∈ d.weights P e, n ∈ DataW.weightsAll P e ds
  | e, d0 :: ds, 0, d, hd, n, hn => by
    simp only [List.getElem?_cons_zero, Option.some.injEq] at hd
    subst hd
    simp only [DataW.weightsAll, List.mem_append]
    exact Or.inl hn
  | e, d0 :: ds, j + 1, d, hd, n, hn => by
    simp only [List.getElem?_cons_succ] at hd
    simp only [DataW.weightsAll, List.mem_append]
    exact Or.inr (weights_mem_all hd n hn)
  | _, [], _, _, hd, _, _ => by simp at hd
theorem Wt.field {t : TypeId} {fs : Array Field} {xs : List (DataW H × List MemPlace)} (ht : P.underlying t = some (.struct fs)) (h : Wt P (.agg (xs.map (·.1))) t) (j : Nat) {u : TypeId} {y : DataW H × List MemPlace} (hu : (fs.toList.map (·.type))[j]? = some u) (hy : xs[j]? = some y) : Wt P y.1 u := fun n hn =>
  h n (by
    simp only [DataW.weights, ht]
    exact DataW.weights_mem_each hu (by rw [List.getElem?_map, hy]; rfl) n hn)
theorem Wt.text {s : ByteArray} {t : TypeId} (h : Wt P (.lit (.string s.data.toList) : DataW H) t) : s.size ≤ 140737488351232 := by
  have := h s.data.toList.length (by simp [DataW.weights])
  simp only [reachBytes] at this
  have e : s.data.toList.length = s.size := by simp
  omega
theorem Sl.of_ints {tB tE : TypeId} {fuel : Nat} {v : Value} {x : DataW H × List MemPlace} (ht : P.underlying tB = some (.slice tE)) (he : P.underlying tE = some (.int .u8)) (hc : P.cellsOf tE = 1)
    (hb8 : P.bytesOf tE = 1) (h : DataW.trod enc P w base spare held fuel tB [v] = some x) : ∃ b : Bs, v = .slice b.ao b.n b.cap ∧ Sl w b.ao b.n b.cap b.xs ∧ (Wt P x.1 tB → b.n ≤ 140737488351232) := by
  rcases open_ints ht he hc h with ⟨hcs, _⟩ | ⟨a, l, c, zs, hcs, _, hl, hm, hz, hx, hcell, hwz⟩
  · simp at hcs
    exact ⟨⟨none, 0, 0, []⟩, hcs, Sl.nothing w, fun _ => Nat.zero_le _⟩
  · simp at hcs
    have hlz : l ≤ zs.length := by rw [hz]; split <;> omega
    refine ⟨⟨some a, l, c, zs.take l⟩, hcs, ⟨by simp; omega, hl, hm, fun h => by simp at h, fun b hb i hi => ?_, fun z hz => ?_⟩, fun hwt => ?_⟩
    · obtain rfl := Option.some.inj hb
      have hi : i < l := hi
      rw [hcell i (by omega)]
      simp [List.getD, hi]
    · have := hwz z (List.mem_of_mem_take hz)
      simp [Lit.wf, IntKind.min, IntKind.max, IntKind.signed, IntKind.bits] at this
      omega
    · rw [hx] at hwt
      have := hwt (zs.length * 1) (by simp only [DataW.weights, ht, hb8]; simp [ChangeShapes.lits]; omega)
      simp only [reachBytes] at this
      show l ≤ _
      omega
theorem gather_list {α : Type} {p : Nat → α → Prop} : ∀ l : Nat, (∀ i, i < l → ∃ y, p i y) → ∃ z : List α, z.length = l ∧ ∀ i (h : i < z.length), p i z[i]
  | 0, _ => ⟨[], rfl, fun i h => by simp at h⟩
  | l + 1, key => by
    obtain ⟨z, hz1, hz2⟩ := gather_list l (fun i hi => key i (by omega))
    obtain ⟨y, hy⟩ := key l (by omega)
    refine ⟨z ++ [y], by simp [hz1], fun i h => ?_⟩
    by_cases c : i < z.length
    · rw [List.getElem_append_left c]
      exact hz2 i c
    · have hi : i = z.length := by simp at h; omega
      subst hi
      rw [List.getElem_append_right (Nat.le_refl _)]
      simp only [Nat.sub_self, List.getElem_singleton]
      rw [hz1]
      exact hy
open Go.RowKit Go.ChangeShapes Go.WideShapes
structure CA where
  row : ByteArray
  fam : ByteArray
  qual : ByteArray
  time : Nat
  va : Bs
  gone : Bool
def CA.cells (c : CA) : List Value := [.string c.row, .string c.fam, .string c.qual, .int .u64 c.time, .slice c.va.ao c.va.n c.va.cap, .bool c.gone]
def CA.c (c : CA) : CV := ⟨c.row, c.fam, c.qual, c.time, c.va.xs, c.gone⟩
structure CA.ok (c : CA) (w : World) : Prop where
  row : c.row.size ≤ maxLen
  fam : c.fam.size ≤ maxLen
  qual : c.qual.size ≤ maxLen
  time : c.time < 18446744073709551616
  va : Sl w c.va.ao c.va.n c.va.cap c.va.xs
structure CA.small (c : CA) : Prop where
  row : c.row.size ≤ 140737488351232
  fam : c.fam.size ≤ 140737488351232
  qual : c.qual.size ≤ 140737488351232
  va : c.va.n ≤ 140737488351232
theorem CA.ok.below {c : CA} {w w' : World} (h : c.ok w) (hb : Below w.heap.size w w') : c.ok w' := ⟨h.row, h.fam, h.qual, h.time, h.va.below hb⟩
structure CL (w : World) (ao : Option Addr) (n cap : Nat) (l : List CA) : Prop where
  len : l.length = n
  le : n ≤ cap
  mx : cap ≤ maxLen
  nil : ao = none → n = 0 ∧ cap = 0
  cell : ∀ a, ao = some a → ∀ i (h : i < l.length), ∀ j v, l[i].cells[j]? = some v → w.cell? (a.add (i * 6 + j)) = some v
  ok : ∀ c ∈ l, c.ok w
theorem CL.nothing (w : World) : CL w none 0 0 [] := ⟨rfl, Nat.le_refl _, Nat.zero_le _, fun _ => ⟨rfl, rfl⟩, fun _ h => by simp at h, fun _ h => by simp at h⟩
theorem CL.below {w w' : World} {ao : Option Addr} {n cap : Nat} {l : List CA} (h : CL w ao n cap l) (hb : Below w.heap.size w w') : CL w' ao n cap l :=
  ⟨h.len, h.le, h.mx, h.nil, fun a ha i hi j v hv => (hb.cell (World.block_lt_of_cell? w _ (h.cell a ha i hi j v hv))).trans (h.cell a ha i hi j v hv), fun c hc => (h.ok c hc).below hb⟩
structure CellTypes (P : Program) (T : OpTypes P) where
  cel : TypeId
  cels : TypeId
  f0 : Field
  f1 : Field
  f2 : Field
  hcel : P.underlying cel = some (.struct #[f0, f1, f2])
  hcels : P.underlying cels = some (.slice cel)
  ccel : P.cellsOf cel = 6
  o0 : f0.type = T.key ∧ f0.offset = 0
  o1 : f1.type = T.bys ∧ f1.offset = 4
  o2 : f2.type = T.bool ∧ f2.offset = 5
variable {H : Type} {enc : TypeId × Value → H} {P : Program} {w : World} {base : Nat} {spare : Nat → Bool} {held : Bool}
set_option maxHeartbeats 1000000 in
theorem open_cell (T : OpTypes P) (C : CellTypes P T) {fuel : Nat} {cs : List Value} {x : DataW H × List MemPlace} (h : DataW.trod enc P w base spare held fuel C.cel cs = some x) : ∃ c : CA, cs = c.cells ∧ c.ok w ∧ (Wt P x.1 C.cel → c.small) := by
  obtain ⟨xs, k, _, hx, hl, hlen, hf⟩ := DataW.trod_struct C.hcel h
  rw [C.ccel] at hl
  obtain ⟨c0, c1, c2, c3, c4, c5, rfl⟩ : ∃ c0 c1 c2 c3 c4 c5, cs = [c0, c1, c2, c3, c4, c5] := by
    match cs, hl with
    | [c0, c1, c2, c3, c4, c5], _ => exact ⟨_, _, _, _, _, _, rfl⟩
  obtain ⟨x0, x1, x2, rfl⟩ : ∃ x0 x1 x2, xs = [x0, x1, x2] := by
    match xs, hlen with
    | [x0, x1, x2], _ => exact ⟨_, _, _, rfl⟩
  have e0 := hf 0 C.f0 rfl
  have e1 := hf 1 C.f1 rfl
  have e2 := hf 2 C.f2 rfl
  rw [C.o0.1, C.o0.2, T.ckey] at e0
  rw [C.o1.1, C.o1.2, T.cbys] at e1
  rw [C.o2.1, C.o2.2, T.cbool] at e2
  simp only [List.drop_succ_cons, List.drop_zero, List.take_succ_cons, List.take_zero, List.getElem?_cons_zero, List.getElem?_cons_succ] at e0 e1 e2
  obtain ⟨ys, k2, _, hx2, _, hlen2, hf2⟩ := DataW.trod_struct T.hkey e0
  obtain ⟨y0, y1, y2, y3, rfl⟩ : ∃ y0 y1 y2 y3, ys = [y0, y1, y2, y3] := by
    match ys, hlen2 with
    | [y0, y1, y2, y3], _ => exact ⟨_, _, _, _, rfl⟩
  have d0 := hf2 0 T.g0 rfl
  have d1 := hf2 1 T.g1 rfl
  have d2 := hf2 2 T.g2 rfl
  have d3 := hf2 3 T.g3 rfl
  rw [T.p0.1, T.p0.2, T.cstr] at d0
  rw [T.p1.1, T.p1.2, T.cstr] at d1
  rw [T.p2.1, T.p2.2, T.cstr] at d2
  rw [T.p3.1, T.p3.2, T.cu64] at d3
  simp only [List.drop_succ_cons, List.drop_zero, List.take_succ_cons, List.take_zero, List.getElem?_cons_zero, List.getElem?_cons_succ] at d0 d1 d2 d3
  obtain ⟨rw_, q1, r1, w1⟩ := DataW.trod_string T.hstr d0
  obtain rfl : c0 = .string rw_ := by simpa using q1
  obtain ⟨fm, q2, r2, w2⟩ := DataW.trod_string T.hstr d1
  obtain rfl : c1 = .string fm := by simpa using q2
  obtain ⟨ql, q3, r3, w3⟩ := DataW.trod_string T.hstr d2
  obtain rfl : c2 = .string ql := by simpa using q3
  obtain ⟨tm, q4, _, w4⟩ := DataW.trod_int T.hu64 d3
  obtain rfl : c3 = .int .u64 tm := by simpa using q4
  obtain ⟨va, q6, s6, sv⟩ := Sl.of_ints T.hbys T.hu8 T.cu8 T.bu8 e1
  obtain ⟨gn, q8, _⟩ := DataW.trod_bool T.hbool e2
  obtain rfl : c5 = .bool gn := by simpa using q8
  have gt : 0 ≤ tm ∧ tm < 18446744073709551616 := by
    simp [Lit.wf, IntKind.min, IntKind.max, IntKind.signed, IntKind.bits] at w4
    omega
  have ez : ((tm.toNat : Nat) : Int) = tm := Int.toNat_of_nonneg gt.1
  subst q6
  refine ⟨⟨rw_, fm, ql, tm.toNat, va, gn⟩, ?_, ⟨w1, w2, w3, by show tm.toNat < _; omega, s6⟩, fun hwt => ?_⟩
  · simp [CA.cells, ez]
  · rw [hx] at hwt
    have hk := hwt.field C.hcel 0 (u := T.key) (by simp [C.o0.1]) rfl
    rw [hx2] at hk
    have g0 := hk.field T.hkey 0 (u := T.str) (by simp [T.p0.1]) rfl
    have g1 := hk.field T.hkey 1 (u := T.str) (by simp [T.p1.1]) rfl
    have g2 := hk.field T.hkey 2 (u := T.str) (by simp [T.p2.1]) rfl
    rw [r1] at g0
    rw [r2] at g1
    rw [r3] at g2
    exact ⟨g0.text, g1.text, g2.text, sv (hwt.field C.hcel 1 (u := T.bys) (by simp [C.o1.1]) rfl)⟩
theorem open_cells (T : OpTypes P) (C : CellTypes P T) {fuel : Nat} {v : Value} {x : DataW H × List MemPlace} (h : DataW.trod enc P w base spare held fuel C.cels [v] = some x) : ∃ ao n cap l, v = .slice ao n cap ∧ CL w ao n cap l ∧ (Wt P x.1 C.cels → ∀ c ∈ l, c.small) := by
  rcases Deep.open_slice C.hcels h with ⟨hcs, _⟩ | ⟨a, l, c, m, n, D, Pl, hcs, _, hl, hm, hmm, hy0, hx⟩
  · exact ⟨none, 0, 0, [], by simpa using hcs, CL.nothing w, fun _ _ h => by simp at h⟩
  · have hlm : l ≤ m := by rw [hmm]; split <;> omega
    obtain ⟨z, hz1, hz2⟩ := gather_list (p := fun i y => ((∀ j v, (CA.cells y)[j]? = some v → w.cell? (a.add (i * 6 + j)) = some v) ∧ CA.ok y w) ∧ (Wt P (D i) C.cel → CA.small y)) l (fun i hi => by
      obtain ⟨cs', h1, h2⟩ := hx i (by omega)
      rw [C.ccel] at h1
      obtain ⟨_, hlen, hcell⟩ := World.cells?_some h1
      obtain ⟨y, e1, w1, sm1⟩ := open_cell T C h2
      refine ⟨y, ⟨fun j v hv => ?_, w1⟩, sm1⟩
      rw [← e1] at hv
      have hj : j < cs'.length := (List.getElem?_eq_some_iff.1 hv).1
      have := hcell j (by omega)
      rw [Deep.add_add, hv] at this
      exact this)
    refine ⟨some a, l, c, z, by simpa using hcs, ⟨hz1, hl, hm, fun h => by simp at h, fun b hb i hi => ?_, fun y hy => ?_⟩, fun hwt y hy => ?_⟩
    · obtain rfl := Option.some.inj hb
      exact (hz2 i hi).1.1
    · obtain ⟨i, hi, rfl⟩ := List.getElem_of_mem hy
      exact (hz2 i hi).1.2
    · obtain ⟨i, hi, rfl⟩ := List.getElem_of_mem hy
      refine (hz2 i hi).2 fun n hn2 => hwt n ?_
      rw [hy0]
      simp only [DataW.weights, C.hcels]
      refine List.mem_cons_of_mem _ (List.mem_append_left _ (weights_mem_all (j := i) ?_ n hn2))
      rw [List.getElem?_map, List.getElem?_range (by omega)]
      rfl
def hiL (t : List Int) : List Int := if t = [] then List.replicate 33 255 else nm t
open Go.RowKit
theorem toL_ne {s t : ByteArray} (h : s ≠ t) : (s.toList == t.toList) = false := by
  rw [beq_eq_false_iff_ne]
  intro e
  apply h
  rw [ByteArray.toList_eq, ByteArray.toList_eq] at e
  exact ByteArray.ext (Array.toList_inj.1 e)
def KA.isRight (k : KA) : Bool := decide (1 ≤ k.row.size ∧ k.row.size ≤ 32 ∧ 1 ≤ k.fam.size ∧ k.fam.size ≤ 32 ∧ k.qual.size ≤ 32)
theorem KA.isRight_kv (k : KA) : k.isRight = decide k.kv.right := by
  unfold KA.isRight KV.right KA.kv
  simp only [sb_len]
def KA.kind (k : KA) : Int := if k.isRight then 0 else 5
set_option maxRecDepth 100000 in
set_option maxHeartbeats 2000000 in
theorem rright_any (w : World) (k : KA) :
    Calls Tryz.prog 33 #[k.val] w fun e w' => e = .returned (.int .i64 k.kind) ∧ Below w.heap.size w w' := by
  have B : Below w.heap.size w (w.alloc (Obj.cells #[.string k.row, .string k.fam, .string k.qual, .int .u64 k.time] 24)) := (Below.refl _ w).alloc (Nat.le_refl _) _
  have no : ∀ (_ : ¬ (1 ≤ k.row.size ∧ k.row.size ≤ 32 ∧ 1 ≤ k.fam.size ∧ k.fam.size ≤ 32 ∧ k.qual.size ≤ 32)), Hid (k.kind = 5) := fun h => by
    show _ = _
    unfold KA.kind KA.isRight
    rw [decide_eq_false h]
    rfl
  unfold KA.val
  by_cases r0 : k.row.size < 1
  · have i0 : (k.row.size : Int) < 1 := by omega
    have hv := no (by omega)
    clear no
    go_enter Tryz.func33, Tryz.ntmps33
    go_wp2
    go_ret
    exact ⟨by rw [hv.out] <;> rfl, B⟩
  have i0 : (1 : Int) ≤ (k.row.size : Int) := by omega
  by_cases r1 : 32 < k.row.size
  · have i1 : (32 : Int) < (k.row.size : Int) := by omega
    have hv := no (by omega)
    clear no
    go_enter Tryz.func33, Tryz.ntmps33
    go_wp2
    go_ret
    exact ⟨by rw [hv.out] <;> rfl, B⟩
  have i1 : (k.row.size : Int) ≤ 32 := by omega
  by_cases r2 : k.fam.size < 1
  · have i2 : (k.fam.size : Int) < 1 := by omega
    have hv := no (by omega)
    clear no
    go_enter Tryz.func33, Tryz.ntmps33
    go_wp2
    go_ret
    exact ⟨by rw [hv.out] <;> rfl, B⟩
  have i2 : (1 : Int) ≤ (k.fam.size : Int) := by omega
  by_cases r3 : 32 < k.fam.size
  · have i3 : (32 : Int) < (k.fam.size : Int) := by omega
    have hv := no (by omega)
    clear no
    go_enter Tryz.func33, Tryz.ntmps33
    go_wp2
    go_ret
    exact ⟨by rw [hv.out] <;> rfl, B⟩
  have i3 : (k.fam.size : Int) ≤ 32 := by omega
  by_cases r4 : 32 < k.qual.size
  · have i4 : (32 : Int) < (k.qual.size : Int) := by omega
    have hv := no (by omega)
    clear no
    go_enter Tryz.func33, Tryz.ntmps33
    go_wp2
    go_ret
    exact ⟨by rw [hv.out] <;> rfl, B⟩
  have i4 : (k.qual.size : Int) ≤ 32 := by omega
  have hv : Hid (k.kind = 0) := by
    show _ = _
    unfold KA.kind KA.isRight
    rw [decide_eq_true (by omega)]
    rfl
  clear no
  go_enter Tryz.func33, Tryz.ntmps33
  go_wp2
  go_ret
  exact ⟨by rw [hv.out] <;> rfl, B⟩
def KA.col (a b : KA) : Bool := decide (a.row = b.row ∧ a.fam = b.fam ∧ a.qual = b.qual)
open Go.RowKit
def esc : List Int → List Int
  | [] => []
  | c :: t => (if c = 0 then [0, 255] else [c]) ++ esc t
theorem esc_append : ∀ s t, esc (s ++ t) = esc s ++ esc t
  | [], t => rfl
  | c :: s, t => by simp [esc, esc_append s t]
theorem nm_esc : ∀ s, nm s = esc s ++ [0, 1]
  | [] => rfl
  | c :: t => by
    unfold nm esc
    rw [nm_esc t]
    split <;> simp
theorem esc_len : ∀ s, (esc s).length ≤ 2 * s.length
  | [] => by simp [esc]
  | c :: t => by
    have := esc_len t
    unfold esc
    rw [List.length_append, List.length_cons]
    split <;> simp <;> omega
theorem sb_take (s : ByteArray) (k : Nat) (h : k < s.size) : (sb s).take (k + 1) = (sb s).take k ++ [(s[k].toNat : Int)] := by
  have hl : k < (sb s).length := by rw [sb_len]; exact h
  rw [List.take_succ_eq_append_getElem hl]
  simp [sb, ByteArray.getElem_eq_getElem_data]
theorem sb_nil {s : ByteArray} (h : s.size = 0) : sb s = [] := List.eq_nil_of_length_eq_zero (by rw [sb_len]; exact h)
theorem empty_of {s : ByteArray} (h : s.size = 0) : s = ⟨#[]⟩ := by
  apply sb_inj
  rw [sb_nil h]
  rfl
end Go.Proofs.YtlljmhcgjkolpaaGreatDoor

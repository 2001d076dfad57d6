/-
  Texts in one: OOpen, RMem, CKA, CKind, PNames, PValue, CCells, MgEqC, OTypO, OTypC, OTypes, CellRow, OAt, Same.
-/
import Derived.Test.YtnbejckdhdbamaaGreatMessageRightQ0
import Derived.Deep.Slices
import Derived.ChangeSame
import Derived.ChangeSlices
import Derived.SizedLaws
import Derived.Lib.SmallJoins
import Derived.Deep.QuietTactic
import Derived.BigQuiet
namespace Go.Proofs.YtnbejckdhdbamaaGreat
open Go.RowKit Go.ChangeShapes Go.WideShapes
structure OpTypes (P : Program) where
 op : TypeId
 key : TypeId
 int : TypeId
 str : TypeId
 u64 : TypeId
 bys : TypeId
 u8 : TypeId
 bool : TypeId
 subs : TypeId
 f0 : Field
 f1 : Field
 f2 : Field
 f3 : Field
 f4 : Field
 f5 : Field
 f6 : Field
 g0 : Field
 g1 : Field
 g2 : Field
 g3 : Field
 hop : P.underlying op = some (.struct #[f0, f1, f2, f3, f4, f5, f6])
 hkey : P.underlying key = some (.struct #[g0, g1, g2, g3])
 hint : P.underlying int = some (.int .i64)
 hstr : P.underlying str = some .string
 hu64 : P.underlying u64 = some (.int .u64)
 hbys : P.underlying bys = some (.slice u8)
 hu8 : P.underlying u8 = some (.int .u8)
 hbool : P.underlying bool = some .bool
 hsubs : P.underlying subs = some (.slice op)
 cop : P.cellsOf op = 10
 ckey : P.cellsOf key = 4
 cint : P.cellsOf int = 1
 cstr : P.cellsOf str = 1
 cu64 : P.cellsOf u64 = 1
 cbys : P.cellsOf bys = 1
 cu8 : P.cellsOf u8 = 1
 bu8 : P.bytesOf u8 = 1
 cbool : P.cellsOf bool = 1
 csubs : P.cellsOf subs = 1
 o0 : f0.type = int ∧ f0.offset = 0
 o1 : f1.type = key ∧ f1.offset = 1
 o2 : f2.type = str ∧ f2.offset = 5
 o3 : f3.type = bys ∧ f3.offset = 6
 o4 : f4.type = bys ∧ f4.offset = 7
 o5 : f5.type = bool ∧ f5.offset = 8
 o6 : f6.type = subs ∧ f6.offset = 9
 p0 : g0.type = str ∧ g0.offset = 0
 p1 : g1.type = str ∧ g1.offset = 1
 p2 : g2.type = str ∧ g2.offset = 2
 p3 : g3.type = u64 ∧ g3.offset = 3
variable {H : Type} {enc : TypeId × Value → H} {P : Program} {w : World} {base : Nat} {spare : Nat → Bool} {held : Bool}
set_option maxHeartbeats 1000000 in
theorem open_op (T : OpTypes P) {fuel : Nat} {cs : List Value} {x : DataW H × List MemPlace} (h : DataW.trod enc P w base spare held fuel T.op cs = some x) :
  ∃ o : OA, cs = o.cells ∧ o.ok w ∧ ∃ n y, DataW.trod enc P w base spare held n T.subs [.slice o.so o.sn o.sc] = some y ∧ (Wt P x.1 T.op → o.small ∧ Wt P y.1 T.subs) := by
 obtain ⟨xs, k, _, hx, hl, hlen, hf⟩ := DataW.trod_struct T.hop h
 rw [T.cop] at hl
 obtain ⟨c0, c1, c2, c3, c4, c5, c6, c7, c8, c9, rfl⟩ : ∃ c0 c1 c2 c3 c4 c5 c6 c7 c8 c9, cs = [c0, c1, c2, c3, c4, c5, c6, c7, c8, c9] := by
  match cs, hl with
  | [c0, c1, c2, c3, c4, c5, c6, c7, c8, c9], _ => exact ⟨_, _, _, _, _, _, _, _, _, _, rfl⟩
 obtain ⟨x0, x1, x2, x3, x4, x5, x6, rfl⟩ : ∃ x0 x1 x2 x3 x4 x5 x6, xs = [x0, x1, x2, x3, x4, x5, x6] := by
  match xs, hlen with
  | [x0, x1, x2, x3, x4, x5, x6], _ => exact ⟨_, _, _, _, _, _, _, rfl⟩
 have e0 := hf 0 T.f0 rfl
 have e1 := hf 1 T.f1 rfl
 have e2 := hf 2 T.f2 rfl
 have e3 := hf 3 T.f3 rfl
 have e4 := hf 4 T.f4 rfl
 have e5 := hf 5 T.f5 rfl
 have e6 := hf 6 T.f6 rfl
 rw [T.o0.1, T.o0.2, T.cint] at e0
 rw [T.o1.1, T.o1.2, T.ckey] at e1
 rw [T.o2.1, T.o2.2, T.cstr] at e2
 rw [T.o3.1, T.o3.2, T.cbys] at e3
 rw [T.o4.1, T.o4.2, T.cbys] at e4
 rw [T.o5.1, T.o5.2, T.cbool] at e5
 rw [T.o6.1, T.o6.2, T.csubs] at e6
 simp only [List.drop_succ_cons, List.drop_zero, List.take_succ_cons, List.take_zero, List.getElem?_cons_zero, List.getElem?_cons_succ] at e0 e1 e2 e3 e4 e5 e6
 obtain ⟨ys, k2, _, hx2, _, hlen2, hf2⟩ := DataW.trod_struct T.hkey e1
 obtain ⟨y0, y1, y2, y3, rfl⟩ : ∃ y0 y1 y2 y3, ys = [y0, y1, y2, y3] := by
  match ys, hlen2 with
  | [y0, y1, y2, y3], _ => exact ⟨_, _, _, _, rfl⟩
 have d0 := hf2 0 T.g0 rfl
 have d1 := hf2 1 T.g1 rfl
 have d2 := hf2 2 T.g2 rfl
 have d3 := hf2 3 T.g3 rfl
 rw [T.p0.1, T.p0.2, T.cstr] at d0
 rw [T.p1.1, T.p1.2, T.cstr] at d1
 rw [T.p2.1, T.p2.2, T.cstr] at d2
 rw [T.p3.1, T.p3.2, T.cu64] at d3
 simp only [List.drop_succ_cons, List.drop_zero, List.take_succ_cons, List.take_zero, List.getElem?_cons_zero, List.getElem?_cons_succ] at d0 d1 d2 d3
 obtain ⟨kd, q0, _, w0⟩ := DataW.trod_int T.hint e0
 obtain rfl : c0 = .int .i64 kd := by simpa using q0
 obtain ⟨rw_, q1, r1, w1⟩ := DataW.trod_string T.hstr d0
 obtain rfl : c1 = .string rw_ := by simpa using q1
 obtain ⟨fm, q2, r2, w2⟩ := DataW.trod_string T.hstr d1
 obtain rfl : c2 = .string fm := by simpa using q2
 obtain ⟨ql, q3, r3, w3⟩ := DataW.trod_string T.hstr d2
 obtain rfl : c3 = .string ql := by simpa using q3
 obtain ⟨tm, q4, _, w4⟩ := DataW.trod_int T.hu64 d3
 obtain rfl : c4 = .int .u64 tm := by simpa using q4
 obtain ⟨tt, q5, r5, w5⟩ := DataW.trod_string T.hstr e2
 obtain rfl : c5 = .string tt := by simpa using q5
 obtain ⟨va, q6, s6, _⟩ := Sl.of_ints T.hbys T.hu8 T.cu8 T.bu8 e3
 obtain ⟨wa, q7, s7, _⟩ := Sl.of_ints T.hbys T.hu8 T.cu8 T.bu8 e4
 obtain ⟨hs, q8, _⟩ := DataW.trod_bool T.hbool e5
 obtain rfl : c8 = .bool hs := by simpa using q8
 have gt : 0 ≤ tm ∧ tm < 18446744073709551616 := by
  simp [Lit.wf, IntKind.min, IntKind.max, IntKind.signed, IntKind.bits] at w4
  omega
 have gk : -9223372036854775808 ≤ kd ∧ kd ≤ 9223372036854775807 := by
  simp [Lit.wf, IntKind.min, IntKind.max, IntKind.signed, IntKind.bits] at w0
  omega
 have ez : ((tm.toNat : Nat) : Int) = tm := Int.toNat_of_nonneg gt.1
 obtain ⟨so, sn, sc, q9, hle, hmx, hnil⟩ : ∃ so sn sc, c9 = .slice so sn sc ∧ sn ≤ sc ∧ sc ≤ maxLen ∧ (so = none → sn = 0 ∧ sc = 0) := by
  rcases Deep.open_slice T.hsubs e6 with ⟨hcs, _⟩ | ⟨a, l, c, m, n, D, Pl, hcs, _, hl, hm, _, _, _⟩
  ·exact ⟨none, 0, 0, by simpa using hcs, Nat.le_refl _, Nat.zero_le _, fun _ => ⟨rfl, rfl⟩⟩
  ·exact ⟨some a, l, c, by simpa using hcs, hl, hm, fun h => by simp at h⟩
 subst q6 q7 q9
 refine ⟨⟨kd, rw_, fm, ql, tm.toNat, tt, va, wa, hs, so, sn, sc⟩, ?_, ⟨gk, w1, w2, w3, by show tm.toNat < _; omega, w5, s6, s7, hle, hmx, hnil⟩, _, _, e6, fun hwt => ?_⟩
 ·simp [OA.cells, ez]
 ·rw [hx] at hwt
  have hk := hwt.field T.hop 1 (u := T.key) (by simp [T.o1.1]) rfl
  rw [hx2] at hk
  have ht := hwt.field T.hop 2 (u := T.str) (by simp [T.o2.1]) rfl
  have g0 := hk.field T.hkey 0 (u := T.str) (by simp [T.p0.1]) rfl
  have g1 := hk.field T.hkey 1 (u := T.str) (by simp [T.p1.1]) rfl
  have g2 := hk.field T.hkey 2 (u := T.str) (by simp [T.p2.1]) rfl
  rw [r5] at ht
  rw [r1] at g0
  rw [r2] at g1
  rw [r3] at g2
  exact ⟨⟨g0.text, g1.text, g2.text, ht.text⟩, hwt.field T.hop 6 (u := T.subs) (by simp [T.o6.1]) rfl⟩
theorem open_deep (T : OpTypes P) : ∀ (d : Nat) {fuel : Nat} {cs : List Value} {x : DataW H × List MemPlace}, DataW.trod enc P w base spare held fuel T.op cs = some x → ∃ y : OD d, cs = (topD d y).cells ∧ OW w d y ∧ (Wt P x.1 T.op → OSm d y)
 | 0, _, _, _, h => by
  obtain ⟨o, e, k, _, _, _, sm⟩ := open_op T h
  exact ⟨o, e, k, fun hwt => (sm hwt).1⟩
 | d + 1, _, _, _, h => by
  obtain ⟨o, e, k, n, y, hs, sm⟩ := open_op T h
  rcases Deep.open_slice T.hsubs hs with ⟨hcs, _⟩ | ⟨a, l, c, m, n, D, Pl, hcs, _, hl, hm, hmm, hy0, hx⟩
  ·have hn : o.so = none ∧ o.sn = 0 := by simp at hcs; exact ⟨hcs.1, hcs.2.1⟩
   exact ⟨(o, []), e, ⟨k, hn.2.symm, fun a ha => by rw [hn.1] at ha; simp at ha, fun y hy => by simp at hy⟩, fun hwt => ⟨(sm hwt).1, fun y hy => by simp at hy⟩⟩
  ·have hn : o.so = some a ∧ o.sn = l := by simp at hcs; exact ⟨hcs.1, hcs.2.1⟩
   have hlm : l ≤ m := by rw [hmm]; split <;> omega
   have key : ∀ i, i < l → ∃ y : OD d, ((∀ j v, (topD d y).cells[j]? = some v → w.cell? (a.add (i * 10 + j)) = some v) ∧ OW w d y) ∧ (Wt P (D i) T.op → OSm d y) := by
    intro i hi
    obtain ⟨cs', h1, h2⟩ := hx i (by omega)
    rw [T.cop] at h1
    obtain ⟨_, hlen, hcell⟩ := World.cells?_some h1
    obtain ⟨y, e1, w1, sm1⟩ := open_deep T d h2
    refine ⟨y, ⟨fun j v hv => ?_, w1⟩, sm1⟩
    rw [← e1] at hv
    have hj : j < cs'.length := (List.getElem?_eq_some_iff.1 hv).1
    have := hcell j (by omega)
    rw [Deep.add_add, hv] at this
    exact this
   obtain ⟨z, hz1, hz2⟩ := gather_list l key
   refine ⟨(o, z), e, ⟨k, by rw [hn.2]; exact hz1, fun b hb i hi => ?_, fun y hy => ?_⟩, fun hwt => ⟨(sm hwt).1, fun y hy => ?_⟩⟩
   ·rw [hn.1] at hb
    obtain rfl := Option.some.inj hb
    exact (hz2 i hi).1.1
   ·obtain ⟨i, hi, rfl⟩ := List.getElem_of_mem hy
    exact (hz2 i hi).1.2
   ·obtain ⟨i, hi, rfl⟩ := List.getElem_of_mem hy
    have hi' : i < z.length := hi
    refine (hz2 i hi).2 fun n hn2 => (sm hwt).2 n ?_
    rw [hy0]
    simp only [DataW.weights, T.hsubs]
    refine List.mem_cons_of_mem _ (List.mem_append_left _ (weights_mem_all (j := i) ?_ n hn2))
    rw [List.getElem?_map, List.getElem?_range (by omega)]
    rfl
end Go.Proofs.YtnbejckdhdbamaaGreat
namespace Go.Proofs.YtnbejckdhdbamaaGreat
open Go.RowKit Go.ChangeShapes Go.WideShapes
structure CA where
 row : ByteArray
 fam : ByteArray
 qual : ByteArray
 time : Nat
 va : Bs
 gone : Bool
def CA.cells (c : CA) : List Value := [.string c.row, .string c.fam, .string c.qual, .int .u64 c.time, .slice c.va.ao c.va.n c.va.cap, .bool c.gone]
def CA.c (c : CA) : CV := ⟨c.row, c.fam, c.qual, c.time, c.va.xs, c.gone⟩
structure CA.ok (c : CA) (w : World) : Prop where
 row : c.row.size ≤ maxLen
 fam : c.fam.size ≤ maxLen
 qual : c.qual.size ≤ maxLen
 time : c.time < 18446744073709551616
 va : Sl w c.va.ao c.va.n c.va.cap c.va.xs
structure CA.small (c : CA) : Prop where
 row : c.row.size ≤ 140737488351232
 fam : c.fam.size ≤ 140737488351232
 qual : c.qual.size ≤ 140737488351232
 va : c.va.n ≤ 140737488351232
theorem CA.ok.below {c : CA} {w w' : World} (h : c.ok w) (hb : Below w.heap.size w w') : c.ok w' := ⟨h.row, h.fam, h.qual, h.time, h.va.below hb⟩
theorem CA.ok.wf {c : CA} {w : World} (h : c.ok w) : c.c.wf := ⟨h.time, h.va.byte⟩
structure CL (w : World) (ao : Option Addr) (n cap : Nat) (l : List CA) : Prop where
 len : l.length = n
 le : n ≤ cap
 mx : cap ≤ maxLen
 nil : ao = none → n = 0 ∧ cap = 0
 cell : ∀ a, ao = some a → ∀ i (h : i < l.length), ∀ j v, l[i].cells[j]? = some v → w.cell? (a.add (i * 6 + j)) = some v
 ok : ∀ c ∈ l, c.ok w
theorem CL.nothing (w : World) : CL w none 0 0 [] := ⟨rfl, Nat.le_refl _, Nat.zero_le _, fun _ => ⟨rfl, rfl⟩, fun _ h => by simp at h, fun _ h => by simp at h⟩
theorem CL.below {w w' : World} {ao : Option Addr} {n cap : Nat} {l : List CA} (h : CL w ao n cap l) (hb : Below w.heap.size w w') : CL w' ao n cap l :=
 ⟨h.len, h.le, h.mx, h.nil, fun a ha i hi j v hv => (hb.cell (World.block_lt_of_cell? w _ (h.cell a ha i hi j v hv))).trans (h.cell a ha i hi j v hv), fun c hc => (h.ok c hc).below hb⟩
structure CellTypes (P : Program) (T : OpTypes P) where
 cel : TypeId
 cels : TypeId
 f0 : Field
 f1 : Field
 f2 : Field
 hcel : P.underlying cel = some (.struct #[f0, f1, f2])
 hcels : P.underlying cels = some (.slice cel)
 ccel : P.cellsOf cel = 6
 o0 : f0.type = T.key ∧ f0.offset = 0
 o1 : f1.type = T.bys ∧ f1.offset = 4
 o2 : f2.type = T.bool ∧ f2.offset = 5
variable {H : Type} {enc : TypeId × Value → H} {P : Program} {w : World} {base : Nat} {spare : Nat → Bool} {held : Bool}
set_option maxHeartbeats 1000000 in
theorem open_cell (T : OpTypes P) (C : CellTypes P T) {fuel : Nat} {cs : List Value} {x : DataW H × List MemPlace} (h : DataW.trod enc P w base spare held fuel C.cel cs = some x) : ∃ c : CA, cs = c.cells ∧ c.ok w ∧ (Wt P x.1 C.cel → c.small) := by
 obtain ⟨xs, k, _, hx, hl, hlen, hf⟩ := DataW.trod_struct C.hcel h
 rw [C.ccel] at hl
 obtain ⟨c0, c1, c2, c3, c4, c5, rfl⟩ : ∃ c0 c1 c2 c3 c4 c5, cs = [c0, c1, c2, c3, c4, c5] := by
  match cs, hl with
  | [c0, c1, c2, c3, c4, c5], _ => exact ⟨_, _, _, _, _, _, rfl⟩
 obtain ⟨x0, x1, x2, rfl⟩ : ∃ x0 x1 x2, xs = [x0, x1, x2] := by
  match xs, hlen with
  | [x0, x1, x2], _ => exact ⟨_, _, _, rfl⟩
 have e0 := hf 0 C.f0 rfl
 have e1 := hf 1 C.f1 rfl
 have e2 := hf 2 C.f2 rfl
 rw [C.o0.1, C.o0.2, T.ckey] at e0
 rw [C.o1.1, C.o1.2, T.cbys] at e1
 rw [C.o2.1, C.o2.2, T.cbool] at e2
 simp only [List.drop_succ_cons, List.drop_zero, List.take_succ_cons, List.take_zero, List.getElem?_cons_zero, List.getElem?_cons_succ] at e0 e1 e2
 obtain ⟨ys, k2, _, hx2, _, hlen2, hf2⟩ := DataW.trod_struct T.hkey e0
 obtain ⟨y0, y1, y2, y3, rfl⟩ : ∃ y0 y1 y2 y3, ys = [y0, y1, y2, y3] := by
  match ys, hlen2 with
  | [y0, y1, y2, y3], _ => exact ⟨_, _, _, _, rfl⟩
 have d0 := hf2 0 T.g0 rfl
 have d1 := hf2 1 T.g1 rfl
 have d2 := hf2 2 T.g2 rfl
 have d3 := hf2 3 T.g3 rfl
 rw [T.p0.1, T.p0.2, T.cstr] at d0
 rw [T.p1.1, T.p1.2, T.cstr] at d1
 rw [T.p2.1, T.p2.2, T.cstr] at d2
 rw [T.p3.1, T.p3.2, T.cu64] at d3
 simp only [List.drop_succ_cons, List.drop_zero, List.take_succ_cons, List.take_zero, List.getElem?_cons_zero, List.getElem?_cons_succ] at d0 d1 d2 d3
 obtain ⟨rw_, q1, r1, w1⟩ := DataW.trod_string T.hstr d0
 obtain rfl : c0 = .string rw_ := by simpa using q1
 obtain ⟨fm, q2, r2, w2⟩ := DataW.trod_string T.hstr d1
 obtain rfl : c1 = .string fm := by simpa using q2
 obtain ⟨ql, q3, r3, w3⟩ := DataW.trod_string T.hstr d2
 obtain rfl : c2 = .string ql := by simpa using q3
 obtain ⟨tm, q4, _, w4⟩ := DataW.trod_int T.hu64 d3
 obtain rfl : c3 = .int .u64 tm := by simpa using q4
 obtain ⟨va, q6, s6, sv⟩ := Sl.of_ints T.hbys T.hu8 T.cu8 T.bu8 e1
 obtain ⟨gn, q8, _⟩ := DataW.trod_bool T.hbool e2
 obtain rfl : c5 = .bool gn := by simpa using q8
 have gt : 0 ≤ tm ∧ tm < 18446744073709551616 := by
  simp [Lit.wf, IntKind.min, IntKind.max, IntKind.signed, IntKind.bits] at w4
  omega
 have ez : ((tm.toNat : Nat) : Int) = tm := Int.toNat_of_nonneg gt.1
 subst q6
 refine ⟨⟨rw_, fm, ql, tm.toNat, va, gn⟩, ?_, ⟨w1, w2, w3, by show tm.toNat < _; omega, s6⟩, fun hwt => ?_⟩
 ·simp [CA.cells, ez]
 ·rw [hx] at hwt
  have hk := hwt.field C.hcel 0 (u := T.key) (by simp [C.o0.1]) rfl
  rw [hx2] at hk
  have g0 := hk.field T.hkey 0 (u := T.str) (by simp [T.p0.1]) rfl
  have g1 := hk.field T.hkey 1 (u := T.str) (by simp [T.p1.1]) rfl
  have g2 := hk.field T.hkey 2 (u := T.str) (by simp [T.p2.1]) rfl
  rw [r1] at g0
  rw [r2] at g1
  rw [r3] at g2
  exact ⟨g0.text, g1.text, g2.text, sv (hwt.field C.hcel 1 (u := T.bys) (by simp [C.o1.1]) rfl)⟩
theorem open_cells (T : OpTypes P) (C : CellTypes P T) {fuel : Nat} {v : Value} {x : DataW H × List MemPlace} (h : DataW.trod enc P w base spare held fuel C.cels [v] = some x) : ∃ ao n cap l, v = .slice ao n cap ∧ CL w ao n cap l ∧ (Wt P x.1 C.cels → ∀ c ∈ l, c.small) := by
 rcases Deep.open_slice C.hcels h with ⟨hcs, _⟩ | ⟨a, l, c, m, n, D, Pl, hcs, _, hl, hm, hmm, hy0, hx⟩
 ·exact ⟨none, 0, 0, [], by simpa using hcs, CL.nothing w, fun _ _ h => by simp at h⟩
 ·have hlm : l ≤ m := by rw [hmm]; split <;> omega
  obtain ⟨z, hz1, hz2⟩ := gather_list (p := fun i y => ((∀ j v, (CA.cells y)[j]? = some v → w.cell? (a.add (i * 6 + j)) = some v) ∧ CA.ok y w) ∧ (Wt P (D i) C.cel → CA.small y)) l (fun i hi => by
   obtain ⟨cs', h1, h2⟩ := hx i (by omega)
   rw [C.ccel] at h1
   obtain ⟨_, hlen, hcell⟩ := World.cells?_some h1
   obtain ⟨y, e1, w1, sm1⟩ := open_cell T C h2
   refine ⟨y, ⟨fun j v hv => ?_, w1⟩, sm1⟩
   rw [← e1] at hv
   have hj : j < cs'.length := (List.getElem?_eq_some_iff.1 hv).1
   have := hcell j (by omega)
   rw [Deep.add_add, hv] at this
   exact this)
  refine ⟨some a, l, c, z, by simpa using hcs, ⟨hz1, hl, hm, fun h => by simp at h, fun b hb i hi => ?_, fun y hy => ?_⟩, fun hwt y hy => ?_⟩
  ·obtain rfl := Option.some.inj hb
   exact (hz2 i hi).1.1
  ·obtain ⟨i, hi, rfl⟩ := List.getElem_of_mem hy
   exact (hz2 i hi).1.2
  ·obtain ⟨i, hi, rfl⟩ := List.getElem_of_mem hy
   refine (hz2 i hi).2 fun n hn2 => hwt n ?_
   rw [hy0]
   simp only [DataW.weights, C.hcels]
   refine List.mem_cons_of_mem _ (List.mem_append_left _ (weights_mem_all (j := i) ?_ n hn2))
   rw [List.getElem?_map, List.getElem?_range (by omega)]
   rfl
structure MoreTypes (P : Program) (T : OpTypes P) (C : CellTypes P T) where
 req : TypeId
 res : TypeId
 knd : TypeId
 f0 : Field
 f1 : Field
 f2 : Field
 g0 : Field
 g1 : Field
 g2 : Field
 hreq : P.underlying req = some (.struct #[f0, f1, f2])
 hres : P.underlying res = some (.struct #[g0, g1, g2])
 hknd : P.underlying knd = some (.int .i64)
 creq : P.cellsOf req = 12
 cres : P.cellsOf res = 3
 cknd : P.cellsOf knd = 1
 ccels : P.cellsOf C.cels = 1
 o0 : f0.type = T.u64 ∧ f0.offset = 0
 o1 : f1.type = T.u64 ∧ f1.offset = 1
 o2 : f2.type = T.op ∧ f2.offset = 2
 p0 : g0.type = knd ∧ g0.offset = 0
 p1 : g1.type = C.cels ∧ g1.offset = 1
 p2 : g2.type = T.bool ∧ g2.offset = 2
def qVal (c t : Nat) (o : OA) : Value := .agg (.int .u64 c :: .int .u64 t :: o.cells).toArray
structure OWL (w : World) (d : Nat) (ao : Option Addr) (n cap : Nat) (l : List (OD d)) : Prop where
 len : l.length = n
 le : n ≤ cap
 mx : cap ≤ maxLen
 nil : ao = none → n = 0 ∧ cap = 0
 cell : ∀ a, ao = some a → ∀ i (h : i < l.length), ∀ j v, (topD d l[i]).cells[j]? = some v → w.cell? (a.add (i * 10 + j)) = some v
 ok : ∀ y ∈ l, OW w d y
theorem OWL.below {w w' : World} {d : Nat} {ao : Option Addr} {n cap : Nat} {l : List (OD d)} (h : OWL w d ao n cap l) (hb : Below w.heap.size w w') : OWL w' d ao n cap l :=
 ⟨h.len, h.le, h.mx, h.nil, fun a ha i hi j v hv => (hb.cell (World.block_lt_of_cell? w _ (h.cell a ha i hi j v hv))).trans (h.cell a ha i hi j v hv), fun y hy => OW.below hb (h.ok y hy)⟩
end Go.Proofs.YtnbejckdhdbamaaGreat
namespace Go.Proofs.YtnbejckdhdbamaaGreat
open Go.RowKit
structure KA where
 row : ByteArray
 fam : ByteArray
 qual : ByteArray
 time : Nat
def KA.val (k : KA) : Value := .agg #[.string k.row, .string k.fam, .string k.qual, .int .u64 k.time]
open Go.RowKit
theorem toL_ne {s t : ByteArray} (h : s ≠ t) : (s.toList == t.toList) = false := by
 rw [beq_eq_false_iff_ne]
 intro e
 apply h
 rw [ByteArray.toList_eq, ByteArray.toList_eq] at e
 exact ByteArray.ext (Array.toList_inj.1 e)
def KA.isRight (k : KA) : Bool := decide (1 ≤ k.row.size ∧ k.row.size ≤ 32 ∧ 1 ≤ k.fam.size ∧ k.fam.size ≤ 32 ∧ k.qual.size ≤ 32)
def KA.kind (k : KA) : Int := if k.isRight then 0 else 5
open Go.RowKit
theorem toE (s : ByteArray) : s.toList.isEmpty = decide (s.size = 0) := by
 rw [ByteArray.toList_eq]
 unfold ByteArray.size
 cases h : s.data.toList with
 | nil =>
  have h2 := congrArg List.length h
  have h3 : s.data.size = 0 := by simpa using h2
  simp [h3]
 | cons a t =>
  have h2 := congrArg List.length h
  have h3 : s.data.size ≠ 0 := by
   intro h4
   rw [Array.length_toList, h4, List.length_cons] at h2
   omega
  exact (decide_eq_false h3).symm
def KA.nv (k : KA) : Value := .agg #[.string k.row, .string k.fam, .string k.qual]
set_option maxRecDepth 100000 in
set_option maxHeartbeats 2000000 in
theorem pnames_any (w : World) (k : KA) :
  Calls Tryz.prog 125 #[k.val] w fun e w' => e = .returned k.nv ∧ Below w.heap.size w w' := by
 have B : Below w.heap.size w ((w.alloc (Obj.cells #[.string k.row, .string k.fam, .string k.qual, .int .u64 k.time] 55)).alloc (Obj.cells #[.string k.row, .string k.fam, .string k.qual] 158)) := ((Below.refl _ w).alloc (Nat.le_refl _) _).alloc (by simp) _
 unfold KA.val KA.nv
 go_enter Tryz.func125, Tryz.ntmps125
 go_wp2
 exact bodyPost_ret (v := .agg #[.string k.row, .string k.fam, .string k.qual]) (by simp [results, Tryz.results125, go_sem]) rfl ⟨rfl, B⟩
set_option maxRecDepth 100000 in
set_option maxHeartbeats 2000000 in
theorem pright_any (w : World) (k : KA) :
  Calls Tryz.prog 122 #[k.val] w fun e w' => e = .returned (.int .i64 k.kind) ∧ Below w.heap.size w w' := by
 have B0 : Below w.heap.size w (w.alloc (Obj.cells #[.string k.row, .string k.fam, .string k.qual, .int .u64 k.time] 55)) := (Below.refl _ w).alloc (Nat.le_refl _) _
 have K0 : ∀ i, (w.alloc (Obj.cells #[.string k.row, .string k.fam, .string k.qual, .int .u64 k.time] 55)).cell? ⟨w.heap.size, i, none⟩ = #[Value.string k.row, .string k.fam, .string k.qual, .int .u64 k.time][i]? := fun i => World.cell?_alloc_at _ _ _ _ rfl
 have no : Hid (∀ (_ : ¬ (1 ≤ k.row.size ∧ k.row.size ≤ 32 ∧ 1 ≤ k.fam.size ∧ k.fam.size ≤ 32 ∧ k.qual.size ≤ 32)), k.kind = 5) := fun h => by
  unfold KA.kind KA.isRight
  rw [decide_eq_false h]
  rfl
 have yes : Hid (∀ (_ : (1 ≤ k.row.size ∧ k.row.size ≤ 32 ∧ 1 ≤ k.fam.size ∧ k.fam.size ≤ 32 ∧ k.qual.size ≤ 32)), k.kind = 0) := fun h => by
  unfold KA.kind KA.isRight
  rw [decide_eq_true h]
  rfl
 obtain ⟨N, hN⟩ : ∃ N, N = w.heap.size := ⟨_, rfl⟩
 unfold KA.val
 go_enter Tryz.func122, Tryz.ntmps122
 go_wp2_with fail
 obtain ⟨w1, hw1⟩ : ∃ W, W = (w.alloc (Obj.cells #[.string k.row, .string k.fam, .string k.qual, .int .u64 k.time] 55)) := ⟨_, rfl⟩
 have z1 : w1.heap.size = w.heap.size + 1 := by rw [hw1]; simp
 rw [← hw1] at B0 K0 ⊢
 refine (pnames_any w1 k).mono ?_
 rintro e w2 ⟨rfl, C2⟩
 have B2 := B0.trans (C2.mono B0.size)
 have q0 : w2.cell? ⟨N, 0, none⟩ = some (.string k.row) := (C2.cell (by show N < _; omega)).trans ((hN ▸ K0 0 :))
 have q1 : w2.cell? ⟨N, 1, none⟩ = some (.string k.fam) := (C2.cell (by show N < _; omega)).trans ((hN ▸ K0 1 :))
 unfold KA.nv
 rw [← hN]
 have i0 : ∀ w, (Instr.index 158 (.agg #[.string k.row, .string k.fam, .string k.qual]) (.int .i64 0)).run Tryz.prog w = .ok (.string k.row) w := fun _ => by kernel_rfl
 have i1 : ∀ w, (Instr.index 158 (.agg #[.string k.row, .string k.fam, .string k.qual]) (.int .i64 1)).run Tryz.prog w = .ok (.string k.fam) w := fun _ => by kernel_rfl
 have i2 : ∀ w, (Instr.index 158 (.agg #[.string k.row, .string k.fam, .string k.qual]) (.int .i64 2)).run Tryz.prog w = .ok (.string k.qual) w := fun _ => by kernel_rfl
 clear hN z1 hw1 K0 B0 C2
 go_wp2_with fail
 go_loopw [4, 7] (fun s i wr => wr = w2 ∧ ∃ j : Nat, i = .int .i64 j ∧ j ≤ 3 ∧ (0 < j → k.row.size ≤ 32) ∧ (1 < j → k.fam.size ≤ 32) ∧ (2 < j → k.qual.size ≤ 32)) (fun _ i _ => 3 - (intOf i).toNat)
 case atStart => exact ⟨rfl, 0, rfl, by omega, by omega, by omega, by omega⟩
 case round =>
  obtain ⟨rfl, j, rfl, hj, h1, h2, h3⟩ := hrel
  obtain rfl | rfl | rfl | rfl : j = 0 ∨ j = 1 ∨ j = 2 ∨ j = 3 := by omega
  ·by_cases l : 32 < k.row.size
   ·have il : (32 : Int) < (k.row.size : Int) := by omega
    have hv : Hid (k.kind = 5) := no.out (by omega)
    go_wp2
    go_ret
    exact ⟨by rw [hv.out] <;> rfl, B2⟩
   ·have il : (k.row.size : Int) ≤ 32 := by omega
    go_wp2
    go_roundw
    case rel => exact ⟨trivial, 1, rfl, by omega, by omega, by omega, by omega⟩
    case measure => simp [intOf]
  ·by_cases l : 32 < k.fam.size
   ·have il : (32 : Int) < (k.fam.size : Int) := by omega
    have hv : Hid (k.kind = 5) := no.out (by omega)
    go_wp2
    go_ret
    exact ⟨by rw [hv.out] <;> rfl, B2⟩
   ·have il : (k.fam.size : Int) ≤ 32 := by omega
    go_wp2
    go_roundw
    case rel => exact ⟨trivial, 2, rfl, by omega, by omega, by omega, by omega⟩
    case measure => simp [intOf]
  ·by_cases l : 32 < k.qual.size
   ·have il : (32 : Int) < (k.qual.size : Int) := by omega
    have hv : Hid (k.kind = 5) := no.out (by omega)
    go_wp2
    go_ret
    exact ⟨by rw [hv.out] <;> rfl, B2⟩
   ·have il : (k.qual.size : Int) ≤ 32 := by omega
    go_wp2
    go_roundw
    case rel => exact ⟨trivial, 3, rfl, by omega, by omega, by omega, by omega⟩
    case measure => simp [intOf]
  ·by_cases r0 : k.row.size = 0
   ·have e0 : k.row.toList.isEmpty = true := by rw [toE]; exact decide_eq_true r0
    have hv : Hid (k.kind = 5) := no.out (by omega)
    go_wp2
    go_ret
    exact ⟨by rw [hv.out] <;> rfl, B2⟩
   ·have e0 : k.row.toList.isEmpty = false := by rw [toE]; exact decide_eq_false r0
    by_cases f0 : k.fam.size = 0
    ·have e2 : k.fam.toList.isEmpty = true := by rw [toE]; exact decide_eq_true f0
     have hv : Hid (k.kind = 5) := no.out (by omega)
     go_wp2
     go_ret
     exact ⟨by rw [hv.out] <;> rfl, B2⟩
    ·have e2 : k.fam.toList.isEmpty = false := by rw [toE]; exact decide_eq_false f0
     have hv : Hid (k.kind = 0) := yes.out (by omega)
     go_wp2
     go_ret
     exact ⟨by rw [hv.out] <;> rfl, B2⟩
open Go.RowKit
theorem pvalue_any (w : World) (ao : Option Addr) (n cap : Nat) :
  Calls Tryz.prog 123 #[.slice ao n cap] w fun e w' => e = .returned (.bool (decide (n ≤ 256))) ∧ w' = w := by
 by_cases l : n ≤ 256
 ·have i : (n : Int) ≤ 256 := by omega
  rw [decide_eq_true l]
  go_enter Tryz.func123, Tryz.ntmps123
  go_wp2
  go_ret
  exact ⟨rfl, rfl⟩
 ·have i : decide ((n : Int) ≤ 256) = false := by simp; omega
  rw [decide_eq_false l]
  go_enter Tryz.func123, Tryz.ntmps123
  go_wp2
  go_ret
  exact ⟨rfl, rfl⟩
open Go.RowKit
structure CX (V : World) (b p : Nat) (c : CA) : Prop where
 c0 : V.cell? ⟨b, p, none⟩ = some (.string c.row)
 c1 : V.cell? ⟨b, p + 1, none⟩ = some (.string c.fam)
 c2 : V.cell? ⟨b, p + 2, none⟩ = some (.string c.qual)
 c3 : V.cell? ⟨b, p + 3, none⟩ = some (.int .u64 c.time)
 c4 : V.cell? ⟨b, p + 4, none⟩ = some (.slice c.va.ao c.va.n c.va.cap)
 c5 : V.cell? ⟨b, p + 5, none⟩ = some (.bool c.gone)
theorem CX.below {V V' : World} {b p : Nat} {c : CA} (h : CX V b p c) (hb : Below V.heap.size V V') : CX V' b p c :=
 have k : ∀ a v, V.cell? a = some v → V'.cell? a = some v := fun _ _ hc => (hb.cell (World.block_lt_of_cell? V _ hc)).trans hc
 ⟨k _ _ h.c0, k _ _ h.c1, k _ _ h.c2, k _ _ h.c3, k _ _ h.c4, k _ _ h.c5⟩
theorem CL.at {w : World} {ao : Option Addr} {n cap : Nat} {l : List CA} (h : CL w ao n cap l) (hn : 0 < n) :
  ∃ b off, ao = some ⟨b, off, none⟩ ∧ ∀ i (hi : i < l.length), CX w b (off + i * 6) l[i] := by
 have hl := h.len
 cases ao with
 | none => have := (h.nil rfl).1; omega
 | some a =>
  obtain ⟨b, off, spot⟩ := a
  have hc := h.cell _ rfl 0 (by omega) 0 _ rfl
  have hs : spot = none := by simpa [Addr.add] using World.cell?_spot hc
  subst hs
  refine ⟨b, off, rfl, fun i hi => ?_⟩
  have k : ∀ j v, l[i].cells[j]? = some v → w.cell? ⟨b, off + i * 6 + j, none⟩ = some v := fun j v hv => by
   have := h.cell _ rfl i hi j v hv
   rw [Addr.add_lit] at this
   rw [Nat.add_assoc]
   exact this
  exact ⟨k 0 _ rfl, k 1 _ rfl, k 2 _ rfl, k 3 _ rfl, k 4 _ rfl, k 5 _ rfl⟩
def resV (e : Int) (ao : Option Addr) (n cap : Nat) (m : Bool) : Value := .agg #[.int .i64 e, .slice ao n cap, .bool m]
def resR (e : Int) (l : List CA) (m : Bool) : RV := ⟨e, l.map CA.c, m⟩
def CA.key (c : CA) : KA := ⟨c.row, c.fam, c.qual, c.time⟩
def RC (V : World) (p : Nat) (e : Int) (ao : Option Addr) (n cap : Nat) (m : Bool) : Prop := V.heap[p]? = some (.cells #[.int .i64 e, .slice ao n cap, .bool m] 28)
theorem RC.lt {V : World} {p : Nat} {e : Int} {ao : Option Addr} {n cap : Nat} {m : Bool} (h : RC V p e ao n cap m) : p < V.heap.size := (Array.getElem?_eq_some_iff.1 h).1
theorem RC.keep {V V' : World} {p : Nat} {e : Int} {ao : Option Addr} {n cap : Nat} {m : Bool} (h : RC V p e ao n cap m) (hb : Below V.heap.size V V') : RC V' p e ao n cap m := (hb.block p h.lt).trans h
theorem RC.c0 {V : World} {p : Nat} {e : Int} {ao : Option Addr} {n cap : Nat} {m : Bool} (h : RC V p e ao n cap m) : V.cell? ⟨p, 0, none⟩ = some (.int .i64 e) := cell_of_row V p 0 _ _ _ h
theorem RC.c1 {V : World} {p : Nat} {e : Int} {ao : Option Addr} {n cap : Nat} {m : Bool} (h : RC V p e ao n cap m) : V.cell? ⟨p, 1, none⟩ = some (.slice ao n cap) := cell_of_row V p 1 _ _ _ h
theorem RC.c2 {V : World} {p : Nat} {e : Int} {ao : Option Addr} {n cap : Nat} {m : Bool} (h : RC V p e ao n cap m) : V.cell? ⟨p, 2, none⟩ = some (.bool m) := cell_of_row V p 2 _ _ _ h
theorem cellR_ok {c : CA} {w : World} (h : c.ok w) : cellR c.c = (c.key.isRight && decide (c.va.n ≤ 256)) := by
 have := h.va.len
 unfold cellR KA.isRight CA.c CA.key
 simp only [this]
 rw [Bool.eq_iff_iff]
 simp only [decide_eq_true_eq, Bool.and_eq_true]
 omega
theorem resR_all (e : Int) (l : List CA) (m : Bool) (h : 0 ≤ e ∧ e ≤ 18 ∧ l.length ≤ 16) : rightR (resR e l m) = l.all fun c => cellR c.c := by
 unfold rightR resR
 simp only [List.length_map]
 rw [decide_eq_true h, Bool.true_and, List.all_map]
 rfl
theorem resR_no (e : Int) (l : List CA) (m : Bool) (h : ¬ (0 ≤ e ∧ e ≤ 18 ∧ l.length ≤ 16)) : rightR (resR e l m) = false := by
 unfold rightR resR
 simp only [List.length_map]
 rw [decide_eq_false h, Bool.false_and]
theorem all_take_succ {α : Type} (p : α → Bool) {l : List α} {k : Nat} (hk : k < l.length) (h : (l.take k).all p = true) : (l.take (k + 1)).all p = p l[k] := by
 rw [List.take_succ_eq_append_getElem hk, List.all_append, h]
 simp
open Go.RowKit
set_option maxRecDepth 100000 in
set_option maxHeartbeats 4000000 in
theorem eqfC_any (w : World) (ao bo : Option Addr) (n cap m cap2 : Nat) (xs ys : List (CA)) (hx : CL w ao n cap xs) (hy : CL w bo m cap2 ys) (f : CA → CA → Bool) (hn : n ≤ 1000000)
  (hcb : ∀ V, Below w.heap.size w V → ∀ x ∈ xs, ∀ y ∈ ys, Calls Tryz.prog 107 #[.agg #[.string x.row, .string x.fam, .string x.qual, .int .u64 x.time, .slice x.va.ao x.va.n x.va.cap, .bool x.gone], .agg #[.string y.row, .string y.fam, .string y.qual, .int .u64 y.time, .slice y.va.ao y.va.n y.va.cap, .bool y.gone]] V fun e w' => e = .returned (.bool (f x y)) ∧ Below V.heap.size V w') :
  Calls Tryz.prog 106 #[.slice ao n cap, .slice bo m cap2, .func (.func 107) #[] #[]] w fun e w' => e = .returned (.bool (sameL f xs ys)) ∧ Below w.heap.size w w' := by
 have hxl := hx.len
 have hyl := hy.len
 obtain ⟨R, hR⟩ : ∃ R, R = sameL f xs ys := ⟨_, rfl⟩
 rw [← hR]
 by_cases hnm : n = m
 ·subst hnm
  have E0 : EF w f xs ys R (.int .i64 0) w := ⟨0, Nat.zero_le _, rfl, hR, Below.refl _ _⟩
  clear hR
  go_enter Tryz.func106, Tryz.ntmps106
  go_wp2_with fail
  go_loopw [17] (fun i wr => EF w f xs ys R i wr) (fun i _ => n - (intOf i).toNat)
  case atStart => exact E0
  case round =>
   clear E0
   obtain ⟨k, hk, rfl, hR, E⟩ := hrel
   have HR : Hid (R = sameL f (xs.drop k) (ys.drop k)) := hR
   clear hR
   by_cases hkl : k < n
   ·have hki : (k : Int) < (n : Int) := by omega
    have h1 : k < xs.length := by omega
    have h2 : k < ys.length := by omega
    have hst := sameL_drop f h1 h2
    obtain ⟨ab, aoff, rfl, hA⟩ := (hx.below E).at (by omega)
    have hA := hA k h1
    obtain ⟨x, hxe⟩ : ∃ x, x = xs[k] := ⟨_, rfl⟩
    obtain ⟨y, hye⟩ : ∃ y, y = ys[k] := ⟨_, rfl⟩
    have mx : x ∈ xs := by rw [hxe]; exact List.getElem_mem h1
    have my : y ∈ ys := by rw [hye]; exact List.getElem_mem h2
    rw [← hxe] at hA
    have E1 : Below w.heap.size w (wr.alloc (.cells #[.string x.row, .string x.fam, .string x.qual, .int .u64 x.time, .slice x.va.ao x.va.n x.va.cap, .bool x.gone] 98)) := E.alloc E.size _
    have EC : Below w.heap.size w ((wr.alloc (.cells #[.string x.row, .string x.fam, .string x.qual, .int .u64 x.time, .slice x.va.ao x.va.n x.va.cap, .bool x.gone] 98)).alloc (.cells #[.string y.row, .string y.fam, .string y.qual, .int .u64 y.time, .slice y.va.ao y.va.n y.va.cap, .bool y.gone] 98)) := E1.alloc E1.size _
    obtain ⟨bb, boff, rfl, hB⟩ := (hy.below E1).at (by omega)
    have hB := hB k h2
    rw [← hye] at hB
    have hc := hcb _ EC x mx y my
    rw [← hxe, ← hye] at hst
    have HST : Hid (R = (f x y && sameL f (xs.drop (k + 1)) (ys.drop (k + 1)))) := by show _ = _; rw [HR.out, hst]
    obtain ⟨p0, p1, p2, p3, p4, p5⟩ := hA
    obtain ⟨q0, q1, q2, q3, q4, q5⟩ := hB
    clear mx my E1
    clear hst hxe hye
    cases hf : f x y with
    | true =>
     have HR2 : Hid (R = sameL f (xs.drop (k + 1)) (ys.drop (k + 1))) := by show _ = _; rw [HST.out, hf, Bool.true_and]
     rw [hf] at hc
     clear hf
     go_wp2_with (go_at_call 107; refine hc.mono ?_; rintro e w2 ⟨rfl, E2⟩)
     have RL : ∀ i : Value, i = .int .i64 ((k + 1 : Nat) : Int) → EF w f xs ys R i w2 := fun i hi => ⟨k + 1, by omega, hi, HR2.out, EC.trans (E2.mono EC.size)⟩
     all_goals (try go_big_round)
     all_goals refine ⟨?_, ?_⟩
     all_goals first
      | exact RL _ (by go_num)
      | (simp [intOf]; omega)
    | false =>
     have HR2 : Hid (R = false) := by show _ = _; rw [HST.out, hf, Bool.false_and]
     rw [hf] at hc
     clear hf
     go_wp2_with (go_at_call 107; refine hc.mono ?_; rintro e w2 ⟨rfl, E2⟩)
     go_ret
     exact ⟨by rw [HR2.out] <;> rfl, EC.trans (E2.mono EC.size)⟩
   ·have hki : ¬ (k : Int) < (n : Int) := by omega
    have HR2 : Hid (R = true) := by show _ = _; rw [HR.out, List.drop_of_length_le (by omega), List.drop_of_length_le (by omega)]; rfl
    go_wp2
    go_ret
    exact ⟨by rw [HR2.out] <;> rfl, E⟩
 ·have HR2 : Hid (R = false) := by
   show _ = _
   rw [hR]
   cases hs : sameL f xs ys with
   | false => rfl
   | true => have := sameL_len3 hs; omega
  have i0 : ((n : Int) != m) = true := by simp; omega
  clear hR
  go_enter Tryz.func106, Tryz.ntmps106
  go_wp2
  go_ret
  exact ⟨by rw [HR2.out] <;> rfl, Below.refl _ _⟩
open Go.RowKit
def opT : OpTypes Tryz.prog where
 op := 58
 key := 55
 int := 3
 str := 9
 u64 := 22
 bys := 23
 u8 := 5
 bool := 4
 subs := 56
 f0 := { name := "Kind", type := 3, offset := 0, embedded := false, tag := "", pkgPath := "", byteOffset := 0 }
 f1 := { name := "K", type := 55, offset := 1, embedded := false, tag := "", pkgPath := "", byteOffset := 8 }
 f2 := { name := "To", type := 9, offset := 5, embedded := false, tag := "", pkgPath := "", byteOffset := 64 }
 f3 := { name := "Value", type := 23, offset := 6, embedded := false, tag := "", pkgPath := "", byteOffset := 80 }
 f4 := { name := "Want", type := 23, offset := 7, embedded := false, tag := "", pkgPath := "", byteOffset := 104 }
 f5 := { name := "Has", type := 4, offset := 8, embedded := false, tag := "", pkgPath := "", byteOffset := 128 }
 f6 := { name := "Sub", type := 56, offset := 9, embedded := false, tag := "", pkgPath := "", byteOffset := 136 }
 g0 := { name := "Row", type := 9, offset := 0, embedded := false, tag := "", pkgPath := "", byteOffset := 0 }
 g1 := { name := "Family", type := 9, offset := 1, embedded := false, tag := "", pkgPath := "", byteOffset := 16 }
 g2 := { name := "Qual", type := 9, offset := 2, embedded := false, tag := "", pkgPath := "", byteOffset := 32 }
 g3 := { name := "Time", type := 22, offset := 3, embedded := false, tag := "", pkgPath := "", byteOffset := 48 }
 hop := Tryz.underlying58
 hkey := Tryz.underlying55
 hint := Tryz.underlying3
 hstr := Tryz.underlying9
 hu64 := Tryz.underlying22
 hbys := Tryz.underlying23
 hu8 := Tryz.underlying5
 hbool := Tryz.underlying4
 hsubs := Tryz.underlying56
 cop := by kernel_rfl
 ckey := by kernel_rfl
 cint := by kernel_rfl
 cstr := by kernel_rfl
 cu64 := by kernel_rfl
 cbys := by kernel_rfl
 cu8 := by kernel_rfl
 bu8 := by kernel_rfl
 cbool := by kernel_rfl
 csubs := by kernel_rfl
 o0 := ⟨rfl, rfl⟩
 o1 := ⟨rfl, rfl⟩
 o2 := ⟨rfl, rfl⟩
 o3 := ⟨rfl, rfl⟩
 o4 := ⟨rfl, rfl⟩
 o5 := ⟨rfl, rfl⟩
 o6 := ⟨rfl, rfl⟩
 p0 := ⟨rfl, rfl⟩
 p1 := ⟨rfl, rfl⟩
 p2 := ⟨rfl, rfl⟩
 p3 := ⟨rfl, rfl⟩
open Go.RowKit
def cellT : CellTypes Tryz.prog opT where
 cel := 98
 cels := 26
 f0 := { name := "K", type := 55, offset := 0, embedded := false, tag := "", pkgPath := "", byteOffset := 0 }
 f1 := { name := "Value", type := 23, offset := 4, embedded := false, tag := "", pkgPath := "", byteOffset := 56 }
 f2 := { name := "Gone", type := 4, offset := 5, embedded := false, tag := "", pkgPath := "", byteOffset := 80 }
 hcel := Tryz.underlying98
 hcels := Tryz.underlying26
 ccel := by kernel_rfl
 o0 := ⟨rfl, rfl⟩
 o1 := ⟨rfl, rfl⟩
 o2 := ⟨rfl, rfl⟩
open Go.RowKit
def moreT : MoreTypes Tryz.prog opT cellT where
 req := 60
 res := 28
 knd := 25
 f0 := { name := "Client", type := 22, offset := 0, embedded := false, tag := "", pkgPath := "", byteOffset := 0 }
 f1 := { name := "Stamp", type := 22, offset := 1, embedded := false, tag := "", pkgPath := "", byteOffset := 8 }
 f2 := { name := "O", type := 58, offset := 2, embedded := false, tag := "", pkgPath := "", byteOffset := 16 }
 g0 := { name := "E", type := 25, offset := 0, embedded := false, tag := "", pkgPath := "", byteOffset := 0 }
 g1 := { name := "Cells", type := 26, offset := 1, embedded := false, tag := "", pkgPath := "", byteOffset := 8 }
 g2 := { name := "More", type := 4, offset := 2, embedded := false, tag := "", pkgPath := "", byteOffset := 32 }
 hreq := Tryz.underlying60
 hres := Tryz.underlying28
 hknd := Tryz.underlying25
 creq := by kernel_rfl
 cres := by kernel_rfl
 cknd := by kernel_rfl
 ccels := by kernel_rfl
 o0 := ⟨rfl, rfl⟩
 o1 := ⟨rfl, rfl⟩
 o2 := ⟨rfl, rfl⟩
 p0 := ⟨rfl, rfl⟩
 p1 := ⟨rfl, rfl⟩
 p2 := ⟨rfl, rfl⟩
open Go.RowKit
theorem cellInfo : (Tryz.prog.info? 98).map (fun i => (i.zero, i.size, i.bytes)) = some (some (.agg #[.string ⟨#[]⟩, .string ⟨#[]⟩, .string ⟨#[]⟩, .int .u64 0, .slice none 0 0, .bool false]), 6, 88) := by kernel_rfl
def cellsC (l : List CA) : List Value := (l.map CA.cells).flatten
theorem CL.own {w : World} {base : Nat} {v : Value} {n : Nat} {l : List CA} (h : w.ownsRow base 98 6 v n (cellsC l)) (hok : ∀ o ∈ l, o.ok w) : ∃ ao cap, v = .slice ao n cap ∧ CL w ao n cap l := by
 have hl : l.length = n := by
  have := h.1
  unfold cellsC at this
  rw [flat_len CA.cells 6 (fun _ => rfl)] at this
  omega
 rcases h.2 with ⟨rfl, rfl⟩ | ⟨g, cap, cur, rfl, a1, a2, a3, a4, a5, a6⟩
 ·exact ⟨none, 0, rfl, hl, Nat.le_refl _, Nat.zero_le _, fun _ => ⟨rfl, rfl⟩, fun _ h => by simp at h, fun y hy => hok y hy⟩
 ·refine ⟨some ⟨g, 0, none⟩, cap, rfl, hl, a3, a4, fun h => by simp at h, fun a ha i hi j u hu => ?_, fun y hy => hok y hy⟩
  obtain rfl := Option.some.inj ha
  have hj : j < 6 := (List.getElem?_eq_some_iff.1 hu).1
  refine h.cells (g := g) rfl (i * 6 + j) u ?_
  unfold cellsC
  rw [flat_get CA.cells 6 (fun _ => rfl) l i j hi hj]
  exact hu
theorem c_one (y : CA) : ∀ u ∈ y.cells, u.oneCell' = true := by
 intro u hu
 unfold CA.cells at hu
 simp only [List.mem_cons, List.not_mem_nil, or_false] at hu
 rcases hu with rfl | rfl | rfl | rfl | rfl | rfl <;> rfl
open Go.RowKit
structure OX (V : World) (b p : Nat) (o : OA) : Prop where
 c0 : V.cell? ⟨b, p, none⟩ = some (.int .i64 o.kind)
 c1 : V.cell? ⟨b, p + 1, none⟩ = some (.string o.row)
 c2 : V.cell? ⟨b, p + 2, none⟩ = some (.string o.fam)
 c3 : V.cell? ⟨b, p + 3, none⟩ = some (.string o.qual)
 c4 : V.cell? ⟨b, p + 4, none⟩ = some (.int .u64 o.time)
 c5 : V.cell? ⟨b, p + 5, none⟩ = some (.string o.to)
 c6 : V.cell? ⟨b, p + 6, none⟩ = some (.slice o.va.ao o.va.n o.va.cap)
 c7 : V.cell? ⟨b, p + 7, none⟩ = some (.slice o.wa.ao o.wa.n o.wa.cap)
 c8 : V.cell? ⟨b, p + 8, none⟩ = some (.bool o.has)
 c9 : V.cell? ⟨b, p + 9, none⟩ = some (.slice o.so o.sn o.sc)
theorem OX.below {V V' : World} {b p : Nat} {o : OA} (h : OX V b p o) (hb : Below V.heap.size V V') : OX V' b p o :=
 have k : ∀ a v, V.cell? a = some v → V'.cell? a = some v := fun _ _ hc => (hb.cell (World.block_lt_of_cell? V _ hc)).trans hc
 ⟨k _ _ h.c0, k _ _ h.c1, k _ _ h.c2, k _ _ h.c3, k _ _ h.c4, k _ _ h.c5, k _ _ h.c6, k _ _ h.c7, k _ _ h.c8, k _ _ h.c9⟩
theorem OWL.at {w : World} {d : Nat} {ao : Option Addr} {n cap : Nat} {l : List (OD d)} (h : OWL w d ao n cap l) (hn : 0 < n) :
  ∃ b off, ao = some ⟨b, off, none⟩ ∧ ∀ i (hi : i < l.length), OX w b (off + i * 10) (topD d l[i]) := by
 have hl := h.len
 cases ao with
 | none => have := (h.nil rfl).1; omega
 | some a =>
  obtain ⟨b, off, spot⟩ := a
  have hc := h.cell _ rfl 0 (by omega) 0 _ rfl
  have hs : spot = none := by simpa [Addr.add] using World.cell?_spot hc
  subst hs
  refine ⟨b, off, rfl, fun i hi => ?_⟩
  have k : ∀ j v, (topD d l[i]).cells[j]? = some v → w.cell? ⟨b, off + i * 10 + j, none⟩ = some v := fun j v hv => by
   have := h.cell _ rfl i hi j v hv
   rw [Addr.add_lit] at this
   rw [Nat.add_assoc]
   exact this
  exact ⟨k 0 _ rfl, k 1 _ rfl, k 2 _ rfl, k 3 _ rfl, k 4 _ rfl, k 5 _ rfl, k 6 _ rfl, k 7 _ rfl, k 8 _ rfl, k 9 _ rfl⟩
theorem OW.subs {w : World} {d : Nat} {x : OD (d + 1)} (h : OW w (d + 1) x) : OWL w d x.1.so x.1.sn x.1.sc x.2 :=
 ⟨h.2.1, h.1.le, h.1.mx, h.1.nil, h.2.2.1, h.2.2.2⟩
open Go.RowKit
theorem lists_of (n : Nat) (xs ys : List Int) (h1 : xs.length = n) (h2 : ys.length = n) (h : ∀ j, j < n → xs.getD j 0 = ys.getD j 0) : xs = ys := by
 apply List.ext_getElem (by omega)
 intro j hj hj2
 have := h j (by omega)
 simpa [List.getD, hj, hj2] using this
theorem Sl.at {w : World} {ao : Option Addr} {n cap : Nat} {xs : List Int} (h : Sl w ao n cap xs) (hn : 0 < n) :
  ∃ b off, ao = some ⟨b, off, none⟩ ∧ ∀ i, i < n → w.cell? ⟨b, off + i, none⟩ = some (.int .u8 (xs.getD i 0)) := by
 cases ao with
 | none => have := (h.nil rfl).1; omega
 | some a =>
  obtain ⟨b, off, spot⟩ := a
  have hc := h.cell _ rfl 0 hn
  have hs : spot = none := by simpa [Addr.add] using World.cell?_spot hc
  subst hs
  exact ⟨b, off, rfl, fun i hi => by have := h.cell _ rfl i hi; rw [Addr.add_lit] at this; exact this⟩
set_option maxHeartbeats 800000 in
theorem same_any (w : World) (ao bo : Option Addr) (n cap m cap2 : Nat) (xs ys : List Int) (h : Sl w ao n cap xs) (h2 : Sl w bo m cap2 ys) :
  Calls Tryz.prog 32 #[.slice ao n cap, .slice bo m cap2] w fun e w' =>
   e = .returned (.bool (decide (xs = ys))) ∧ ∃ q, w' = w.drewN q := by
 have hl := h.len
 have hl2 := h2.len
 have hle := h.le
 have hmx := h.mx
 unfold maxLen at hmx
 by_cases hnm : n = m
 ·subst hnm
  have hne : ((n : Int) != (n : Int)) = false := by simp
  go_enter Tryz.func32, Tryz.ntmps32
  go_wp2
  go_loopw [5] (fun i wr => ∃ k q : Nat, k ≤ n ∧ i = .int .i64 k ∧ wr = w.drewN q ∧ ∀ j, j < k → xs.getD j 0 = ys.getD j 0) (fun i _ => n - (intOf i).toNat)
  case atStart => exact ⟨0, 0, Nat.zero_le _, rfl, rfl, fun j hj => by omega⟩
  case round =>
   obtain ⟨k, q, hk, rfl, rfl, heq⟩ := hrel
   by_cases hlt : k < n
   ·obtain ⟨b, off, rfl, hc⟩ := h.at (by omega)
    obtain ⟨b2, off2, rfl, hc2⟩ := h2.at (by omega)
    have c1 := hc k hlt
    have c2 := hc2 k hlt
    have hlt1 : (k : Int) < (n : Int) := by omega
    clear hc hc2
    have k1 : k < xs.length := by omega
    have k2 : k < ys.length := by omega
    by_cases he : xs[k] = ys[k]
    ·have hb : (xs[k] != ys[k]) = false := by simp [he]
     have hE : Hid (xs[k] = ys[k]) := he
     clear he
     go_wp2
     go_quiet (fail)
     go_wp2
     go_roundw
     case rel =>
      refine ⟨k + 1, _, by omega, by go_num, rfl, fun j hj => ?_⟩
      by_cases hjk : j < k
      ·exact heq j hjk
      ·obtain rfl : j = k := by omega
       simpa [List.getD, k1, k2] using hE.out
     case measure => simp [intOf]; omega
    ·have hb : (xs[k] != ys[k]) = true := by simp [he]
     have hE : Hid (¬ xs[k] = ys[k]) := he
     clear he
     go_wp2
     go_quiet (fail)
     go_wp2
     go_ret
     have hd : decide (xs = ys) = false := decide_eq_false (fun hx => by subst hx; exact hE.out rfl)
     rw [hd, World.drewN_drewN]
     exact ⟨rfl, _, rfl⟩
   ·obtain rfl : k = n := by omega
    go_wp2
    go_ret
    have hd : decide (xs = ys) = true := decide_eq_true (lists_of k xs ys hl hl2 heq)
    rw [hd]
    exact ⟨rfl, _, rfl⟩
 ·have hne : ((n : Int) != (m : Int)) = true := by simp; omega
  go_enter Tryz.func32, Tryz.ntmps32
  go_wp2
  go_ret
  have hd : decide (xs = ys) = false := decide_eq_false (fun hx => by subst hx; omega)
  rw [hd]
  exact ⟨rfl, 0, rfl⟩
end Go.Proofs.YtnbejckdhdbamaaGreat

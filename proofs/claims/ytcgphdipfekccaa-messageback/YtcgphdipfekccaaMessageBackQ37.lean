/-
  Texts in one: RReqs, OTypO, OTypC, OTypes, MgOpen, MgSm.
-/
import Derived.Test.YtcgphdipfekccaaMessageBackQ36
import Derived.Test.YtcgphdipfekccaaMessageBackQ10
import Derived.Test.YtcgphdipfekccaaMessageBackQ1
import Derived.Test.YtcgphdipfekccaaMessageBackQ13
namespace Go.Proofs.Ytcgphdipfekccaa
open Go.RowKit
set_option maxRecDepth 100000 in
set_option maxHeartbeats 4000000 in
theorem rreqs_any (d : Nat) (w : World) (c1 t1 c2 t2 : Nat) (x y : OD d) (hx : OW w d x) (hy : OW w d y) (lx : lightD d x = true) (ly : lightD d y = true) :
    Calls Try.prog 33 #[qVal c1 t1 (topD d x), qVal c2 t2 (topD d y)] w fun e w' => e = .returned (.bool (decide (c1 = c2) && (decide (t1 = t2) && sameD d x y))) ∧ Below w.heap.size w w' := by
  obtain ⟨a, ha⟩ : ∃ a, a = topD d x := ⟨_, rfl⟩
  obtain ⟨b, hb⟩ : ∃ b, b = topD d y := ⟨_, rfl⟩
  have B : Below w.heap.size w ((w.alloc (Obj.cells #[.int .u64 c1, .int .u64 t1, .int .i64 a.kind, .string a.row, .string a.fam, .string a.qual, .int .u64 a.time, .string a.to, .slice a.va.ao a.va.n a.va.cap, .slice a.wa.ao a.wa.n a.wa.cap, .bool a.has, .slice a.so a.sn a.sc] 59)).alloc (Obj.cells #[.int .u64 c2, .int .u64 t2, .int .i64 b.kind, .string b.row, .string b.fam, .string b.qual, .int .u64 b.time, .string b.to, .slice b.va.ao b.va.n b.va.cap, .slice b.wa.ao b.wa.n b.wa.cap, .bool b.has, .slice b.so b.sn b.sc] 59)) := ((Below.refl _ w).alloc (Nat.le_refl _) _).alloc (by simp) _
  have CR := rsame6 d ((w.alloc (Obj.cells #[.int .u64 c1, .int .u64 t1, .int .i64 a.kind, .string a.row, .string a.fam, .string a.qual, .int .u64 a.time, .string a.to, .slice a.va.ao a.va.n a.va.cap, .slice a.wa.ao a.wa.n a.wa.cap, .bool a.has, .slice a.so a.sn a.sc] 59)).alloc (Obj.cells #[.int .u64 c2, .int .u64 t2, .int .i64 b.kind, .string b.row, .string b.fam, .string b.qual, .int .u64 b.time, .string b.to, .slice b.va.ao b.va.n b.va.cap, .slice b.wa.ao b.wa.n b.wa.cap, .bool b.has, .slice b.so b.sn b.sc] 59)) x y (hx.below B) (hy.below B) lx ly
  rw [← ha, ← hb] at CR ⊢
  clear hx hy lx ly ha hb
  rw [show qVal c1 t1 a = .agg #[.int .u64 c1, .int .u64 t1, .int .i64 a.kind, .string a.row, .string a.fam, .string a.qual, .int .u64 a.time, .string a.to, .slice a.va.ao a.va.n a.va.cap, .slice a.wa.ao a.wa.n a.wa.cap, .bool a.has, .slice a.so a.sn a.sc] from rfl, show qVal c2 t2 b = .agg #[.int .u64 c2, .int .u64 t2, .int .i64 b.kind, .string b.row, .string b.fam, .string b.qual, .int .u64 b.time, .string b.to, .slice b.va.ao b.va.n b.va.cap, .slice b.wa.ao b.wa.n b.wa.cap, .bool b.has, .slice b.so b.sn b.sc] from rfl]
  unfold OA.val at CR
  by_cases z1 : c1 = c2
  case neg =>
    have i1 : ((c1 : Int) == (c2 : Int)) = false := by simp; omega
    have hv : Hid ((decide (c1 = c2) && (decide (t1 = t2) && sameD d x y)) = false) := by show _ = _; simp [z1]
    clear CR z1
    go_enter Try.func33, Try.ntmps33
    go_wp2
    go_ret
    exact ⟨by rw [hv.out] <;> rfl, B⟩
  by_cases z2 : t1 = t2
  case neg =>
    have i1 : ((c1 : Int) == (c2 : Int)) = true := by simp; omega
    have i2 : ((t1 : Int) == (t2 : Int)) = false := by simp; omega
    have hv : Hid ((decide (c1 = c2) && (decide (t1 = t2) && sameD d x y)) = false) := by show _ = _; simp [z2]
    clear CR z1 z2
    go_enter Try.func33, Try.ntmps33
    go_wp2
    go_ret
    exact ⟨by rw [hv.out] <;> rfl, B⟩
  have i1 : ((c1 : Int) == (c2 : Int)) = true := by simp; omega
  have i2 : ((t1 : Int) == (t2 : Int)) = true := by simp; omega
  have hv : Hid ((decide (c1 = c2) && (decide (t1 = t2) && sameD d x y)) = sameD d x y) := by show _ = _; simp [z1, z2]
  clear z1 z2
  go_enter Try.func33, Try.ntmps33
  go_wp2_with (go_at_call 56; refine CR.mono ?_; rintro e w2 ⟨rfl, C⟩; have D := B.trans (C.mono B.size))
  go_ret
  exact ⟨by rw [hv.out] <;> rfl, D⟩
open Go.RowKit
def opT : OpTypes Try.prog where
  op := 57
  key := 54
  int := 3
  str := 9
  u64 := 22
  bys := 23
  u8 := 5
  bool := 4
  subs := 55
  f0 := { name := "Kind", type := 3, offset := 0, embedded := false, tag := "", pkgPath := "", byteOffset := 0 }
  f1 := { name := "K", type := 54, offset := 1, embedded := false, tag := "", pkgPath := "", byteOffset := 8 }
  f2 := { name := "To", type := 9, offset := 5, embedded := false, tag := "", pkgPath := "", byteOffset := 64 }
  f3 := { name := "Value", type := 23, offset := 6, embedded := false, tag := "", pkgPath := "", byteOffset := 80 }
  f4 := { name := "Want", type := 23, offset := 7, embedded := false, tag := "", pkgPath := "", byteOffset := 104 }
  f5 := { name := "Has", type := 4, offset := 8, embedded := false, tag := "", pkgPath := "", byteOffset := 128 }
  f6 := { name := "Sub", type := 55, offset := 9, embedded := false, tag := "", pkgPath := "", byteOffset := 136 }
  g0 := { name := "Row", type := 9, offset := 0, embedded := false, tag := "", pkgPath := "", byteOffset := 0 }
  g1 := { name := "Family", type := 9, offset := 1, embedded := false, tag := "", pkgPath := "", byteOffset := 16 }
  g2 := { name := "Qual", type := 9, offset := 2, embedded := false, tag := "", pkgPath := "", byteOffset := 32 }
  g3 := { name := "Time", type := 22, offset := 3, embedded := false, tag := "", pkgPath := "", byteOffset := 48 }
  hop := Try.underlying57
  hkey := Try.underlying54
  hint := Try.underlying3
  hstr := Try.underlying9
  hu64 := Try.underlying22
  hbys := Try.underlying23
  hu8 := Try.underlying5
  hbool := Try.underlying4
  hsubs := Try.underlying55
  cop := by kernel_rfl
  ckey := by kernel_rfl
  cint := by kernel_rfl
  cstr := by kernel_rfl
  cu64 := by kernel_rfl
  cbys := by kernel_rfl
  cu8 := by kernel_rfl
  bu8 := by kernel_rfl
  cbool := by kernel_rfl
  csubs := by kernel_rfl
  o0 := ⟨rfl, rfl⟩
  o1 := ⟨rfl, rfl⟩
  o2 := ⟨rfl, rfl⟩
  o3 := ⟨rfl, rfl⟩
  o4 := ⟨rfl, rfl⟩
  o5 := ⟨rfl, rfl⟩
  o6 := ⟨rfl, rfl⟩
  p0 := ⟨rfl, rfl⟩
  p1 := ⟨rfl, rfl⟩
  p2 := ⟨rfl, rfl⟩
  p3 := ⟨rfl, rfl⟩
open Go.RowKit
def cellT : CellTypes Try.prog opT where
  cel := 83
  cels := 26
  f0 := { name := "K", type := 54, offset := 0, embedded := false, tag := "", pkgPath := "", byteOffset := 0 }
  f1 := { name := "Value", type := 23, offset := 4, embedded := false, tag := "", pkgPath := "", byteOffset := 56 }
  f2 := { name := "Gone", type := 4, offset := 5, embedded := false, tag := "", pkgPath := "", byteOffset := 80 }
  hcel := Try.underlying83
  hcels := Try.underlying26
  ccel := by kernel_rfl
  o0 := ⟨rfl, rfl⟩
  o1 := ⟨rfl, rfl⟩
  o2 := ⟨rfl, rfl⟩
open Go.RowKit
def moreT : MoreTypes Try.prog opT cellT where
  req := 59
  res := 28
  knd := 25
  f0 := { name := "Client", type := 22, offset := 0, embedded := false, tag := "", pkgPath := "", byteOffset := 0 }
  f1 := { name := "Stamp", type := 22, offset := 1, embedded := false, tag := "", pkgPath := "", byteOffset := 8 }
  f2 := { name := "O", type := 57, offset := 2, embedded := false, tag := "", pkgPath := "", byteOffset := 16 }
  g0 := { name := "E", type := 25, offset := 0, embedded := false, tag := "", pkgPath := "", byteOffset := 0 }
  g1 := { name := "Cells", type := 26, offset := 1, embedded := false, tag := "", pkgPath := "", byteOffset := 8 }
  g2 := { name := "More", type := 4, offset := 2, embedded := false, tag := "", pkgPath := "", byteOffset := 32 }
  hreq := Try.underlying59
  hres := Try.underlying28
  hknd := Try.underlying25
  creq := by kernel_rfl
  cres := by kernel_rfl
  cknd := by kernel_rfl
  ccels := by kernel_rfl
  o0 := ⟨rfl, rfl⟩
  o1 := ⟨rfl, rfl⟩
  o2 := ⟨rfl, rfl⟩
  p0 := ⟨rfl, rfl⟩
  p1 := ⟨rfl, rfl⟩
  p2 := ⟨rfl, rfl⟩
end Go.Proofs.Ytcgphdipfekccaa
namespace Go.Proofs.Ytcgphdipfekccaa
open Go.RowKit Go.ChangeShapes Go.WideShapes
structure QE where
  cl : Nat
  st : Nat
  x : OD 3
def QE.m (y : QE) : QM := ⟨y.cl, y.st, topD 3 y.x, (show OA × List (OD 2) from y.x).2.map (topD 2)⟩
theorem QE.ok {y : QE} {w : World} (h1 : y.cl < 18446744073709551616) (h2 : y.st < 18446744073709551616) (h : OW w 3 y.x) : y.m.ok w :=
  ⟨h1, h2, h.top, (OW.subs (d := 2) (x := y.x) h).flat⟩
theorem QE.m_cells (y : QE) : y.m.cells = .int .u64 y.cl :: .int .u64 y.st :: (topD 3 y.x).cells := rfl
section
variable {H : Type} {enc : TypeId × Value → H} {P : Program} {w : World} {base : Nat} {spare : Nat → Bool} {held : Bool}
theorem open_reqC (T : OpTypes P) (C : CellTypes P T) (M : MoreTypes P T C) {fuel : Nat} {l : List Value} {x : DataW H × List MemPlace} (hf : DataW.trod enc P w base spare held fuel M.req l = some x) :
    ∃ y : QE, l = y.m.cells ∧ (y.cl < 18446744073709551616 ∧ y.st < 18446744073709551616 ∧ OW w 3 y.x) ∧ (Wt P x.1 M.req → OSm 3 y.x) := by
  obtain ⟨xs, k, _, hx, hl, hlen, hfl⟩ := DataW.trod_struct M.hreq hf
  rw [M.creq] at hl
  obtain ⟨x0, x1, x2, rfl⟩ : ∃ x0 x1 x2, xs = [x0, x1, x2] := by
    match xs, hlen with
    | [x0, x1, x2], _ => exact ⟨_, _, _, rfl⟩
  have e0 := hfl 0 M.f0 rfl
  have e1 := hfl 1 M.f1 rfl
  have e2 := hfl 2 M.f2 rfl
  rw [M.o0.1, M.o0.2, T.cu64] at e0
  rw [M.o1.1, M.o1.2, T.cu64] at e1
  rw [M.o2.1, M.o2.2, T.cop] at e2
  obtain ⟨a, b, m, rfl, hm⟩ : ∃ a b m, l = a :: b :: m ∧ m.length = 10 := by
    match l, hl with
    | a :: b :: m, h => exact ⟨a, b, m, rfl, by simpa using h⟩
  simp only [List.drop_succ_cons, List.drop_zero, List.take_succ_cons, List.take_zero, List.getElem?_cons_zero, List.getElem?_cons_succ] at e0 e1 e2
  rw [List.take_of_length_le (by omega)] at e2
  obtain ⟨z0, q0, _, w0⟩ := DataW.trod_int T.hu64 e0
  obtain ⟨z1, q1, _, w1⟩ := DataW.trod_int T.hu64 e1
  obtain rfl : a = .int .u64 z0 := by simpa using q0
  obtain rfl : b = .int .u64 z1 := by simpa using q1
  obtain ⟨y, ey, k, sm⟩ := open_deep T 3 e2
  have g0 : 0 ≤ z0 ∧ z0 < 18446744073709551616 := by
    simp [Lit.wf, IntKind.min, IntKind.max, IntKind.signed, IntKind.bits] at w0
    omega
  have g1 : 0 ≤ z1 ∧ z1 < 18446744073709551616 := by
    simp [Lit.wf, IntKind.min, IntKind.max, IntKind.signed, IntKind.bits] at w1
    omega
  refine ⟨⟨z0.toNat, z1.toNat, y⟩, ?_, ⟨by show z0.toNat < _; omega, by show z1.toNat < _; omega, k⟩, fun hwt => ?_⟩
  · rw [QE.m_cells]
    simp only
    rw [Int.toNat_of_nonneg g0.1, Int.toNat_of_nonneg g1.1, ← ey]
  · rw [hx] at hwt
    exact sm (hwt.field M.hreq 2 (u := T.op) (by simp [M.o2.1]) rfl)
theorem open_reqs (T : OpTypes P) (C : CellTypes P T) (M : MoreTypes P T C) {sl : TypeId} (hsl : P.underlying sl = some (.slice M.req)) {fuel : Nat} {v : Value} {x : DataW H × List MemPlace} (h : DataW.trod enc P w base spare held fuel sl [v] = some x) :
    ∃ (ao : Option Addr) (n cap : Nat) (l : List QE), v = .slice ao n cap ∧ (GL elQ w ao n cap (l.map QE.m) ∧ ∀ y ∈ l, OW w 3 y.x) ∧ (Wt P x.1 sl → ∀ y ∈ l, OSm 3 y.x) := by
  rcases Deep.open_slice hsl h with ⟨hcs, _⟩ | ⟨a, l, c, m, n, D, Pl, hcs, _, hl, hm, hmm, hy0, hx⟩
  · exact ⟨none, 0, 0, [], by simpa using hcs, ⟨GL.nothing _ _, fun _ h => by cases h⟩, fun _ _ h => by cases h⟩
  · have hlm : l ≤ m := by rw [hmm]; split <;> omega
    obtain ⟨z, hz1, hz2⟩ := gather_list (p := fun i (y : QE) => ((∀ j v, y.m.cells[j]? = some v → w.cell? (a.add (i * 12 + j)) = some v) ∧ (y.cl < 18446744073709551616 ∧ y.st < 18446744073709551616 ∧ OW w 3 y.x)) ∧ (Wt P (D i) M.req → OSm 3 y.x)) l (fun i hi => by
      obtain ⟨cs', h1, h2⟩ := hx i (by omega)
      rw [M.creq] at h1
      obtain ⟨_, hlen, hcell⟩ := World.cells?_some h1
      obtain ⟨y, e1, w1, sm1⟩ := open_reqC T C M h2
      refine ⟨y, ⟨fun j v hv => ?_, w1⟩, sm1⟩
      rw [← e1] at hv
      have hj : j < cs'.length := (List.getElem?_eq_some_iff.1 hv).1
      have := hcell j (by omega)
      rw [Deep.add_add, hv] at this
      exact this)
    refine ⟨some a, l, c, z, by simpa using hcs, ⟨⟨by rw [List.length_map]; exact hz1, hl, hm, fun h => by simp at h, fun b hb i hi => ?_, fun q hq => ?_⟩, fun y hy => ?_⟩, fun hwt y hy => ?_⟩
    · obtain rfl := Option.some.inj hb
      rw [List.length_map] at hi
      rw [List.getElem_map]
      exact (hz2 i hi).1.1
    · obtain ⟨y, hy, rfl⟩ := List.mem_map.1 hq
      obtain ⟨i, hi, rfl⟩ := List.getElem_of_mem hy
      have h1 := (hz2 i hi).1.2
      exact QE.ok h1.1 h1.2.1 h1.2.2
    · obtain ⟨i, hi, rfl⟩ := List.getElem_of_mem hy
      exact (hz2 i hi).1.2.2.2
    · obtain ⟨i, hi, rfl⟩ := List.getElem_of_mem hy
      refine (hz2 i hi).2 fun n hn2 => hwt n ?_
      rw [hy0]
      simp only [DataW.weights, hsl]
      refine List.mem_cons_of_mem _ (List.mem_append_left _ (weights_mem_all (j := i) ?_ n hn2))
      rw [List.getElem?_map, List.getElem?_range (by omega)]
      rfl
end
end Go.Proofs.Ytcgphdipfekccaa
namespace Go.Proofs.Ytcgphdipfekccaa
open Go.RowKit
theorem sameL_map {α : Type} (f : α → α → Bool) (h : α → SO) (hf : ∀ x y, f x y = true → h x = h y) : ∀ l m : List α, sameL f l m = true → l.map h = m.map h
  | [], [], _ => rfl
  | [], _ :: _, h => by simp [sameL] at h
  | _ :: _, [], h => by simp [sameL] at h
  | a :: l, b :: m, q => by
    rw [sameL, Bool.and_eq_true] at q
    rw [List.map_cons, List.map_cons, hf a b q.1, sameL_map f h hf l m q.2]
theorem sameD_top : ∀ (d : Nat) (x y : OD d), sameD d x y = true → (topD d x).s = (topD d y).s
  | 0, x, y, h => (sameS_iff _ _).1 h
  | d + 1, x, y, h => by
    have h : (sameS x.1.s y.1.s && sameL (sameD d) x.2 y.2) = true := h
    rw [Bool.and_eq_true] at h
    exact (sameS_iff _ _).1 h.1
theorem sameD_parts (d : Nat) (x y : OD (d + 1)) (h : sameD (d + 1) x y = true) : ((show OA × List (OD d) from x).2.map (topD d)).map OA.s = ((show OA × List (OD d) from y).2.map (topD d)).map OA.s := by
  have h : (sameS (show OA × List (OD d) from x).1.s (show OA × List (OD d) from y).1.s && sameL (sameD d) (show OA × List (OD d) from x).2 (show OA × List (OD d) from y).2) = true := h
  rw [Bool.and_eq_true] at h
  rw [List.map_map, List.map_map]
  exact sameL_map (sameD d) (fun z => (topD d z).s) (sameD_top d) _ _ h.2
theorem same_v (x y : QE) (h : (decide (x.cl = y.cl) && (decide (x.st = y.st) && sameD 3 x.x y.x)) = true) : x.m.v = y.m.v := by
  simp only [Bool.and_eq_true, decide_eq_true_eq] at h
  obtain ⟨h1, h2, h3⟩ := h
  unfold QM.v QE.m
  simp only
  rw [h1, h2, sameD_top 3 _ _ h3, sameD_parts 2 _ _ h3]
theorem same_none : ∀ (l m : List (OD 2)), (∀ z ∈ l, (show OA × List (OD 1) from z).2 = []) → (∀ z ∈ m, (show OA × List (OD 1) from z).2 = []) → l.map (fun z => (topD 2 z).s) = m.map (fun z => (topD 2 z).s) → sameL (sameD 2) l m = true
  | [], [], _, _, _ => rfl
  | [], _ :: _, _, _, h => by simp at h
  | _ :: _, [], _, _, h => by simp at h
  | a :: l, b :: m, ha, hb, h => by
    simp only [List.map_cons, List.cons.injEq] at h
    have ih := same_none l m (fun z hz => ha z (List.mem_cons_of_mem _ hz)) (fun z hz => hb z (List.mem_cons_of_mem _ hz)) h.2
    have e1 := ha a (List.mem_cons_self ..)
    have e2 := hb b (List.mem_cons_self ..)
    have e1 : (show OA × List (OD 1) from a).2 = [] := e1
    have e2 : (show OA × List (OD 1) from b).2 = [] := e2
    have h1 : (show OA × List (OD 1) from a).1.s = (show OA × List (OD 1) from b).1.s := h.1
    show ((sameS (show OA × List (OD 1) from a).1.s (show OA × List (OD 1) from b).1.s && sameL (sameD 1) (show OA × List (OD 1) from a).2 (show OA × List (OD 1) from b).2) && sameL (sameD 2) l m) = true
    rw [e1, e2]
    rw [ih, h1, sameS_self]
    rfl
theorem parts_none {w : World} {y : QE} (h : OW w 3 y.x) (hk : kq y.m.cl y.m.st (rightO y.m.o.s (y.m.l.map sn0)) = 0) : ∀ z ∈ (show OA × List (OD 2) from y.x).2, (show OA × List (OD 1) from z).2 = [] := fun z hz => by
  obtain ⟨_, _, hr⟩ := kq_zero hk
  have hok : ∀ x ∈ y.m.l, OA.ok x w := fun x hx => by
    obtain ⟨u, hu, rfl⟩ := List.mem_map.1 (show x ∈ (show OA × List (OD 2) from y.x).2.map (topD 2) from hx)
    exact (h.2.2.2 u hu).top
  obtain ⟨_, _, _, f4⟩ := right_parts hr h.top hok
  have h1 : (topD 2 z).sn = 0 := f4 _ (List.mem_map.2 ⟨z, hz, rfl⟩)
  have h2 := (h.2.2.2 z hz).2.1
  exact List.length_eq_zero_iff.1 (h2.trans h1)
theorem same_of_v {w w2 : World} {x y : QE} (hx : OW w 3 x.x) (hy : OW w2 3 y.x) (kx : kq x.m.cl x.m.st (rightO x.m.o.s (x.m.l.map sn0)) = 0) (ky : kq y.m.cl y.m.st (rightO y.m.o.s (y.m.l.map sn0)) = 0) (h : x.m.v = y.m.v) : (decide (x.cl = y.cl) && (decide (x.st = y.st) && sameD 3 x.x y.x)) = true := by
  unfold QM.v QE.m at h
  simp only [Prod.mk.injEq] at h
  obtain ⟨h1, h2, h3, h4⟩ := h
  rw [decide_eq_true h1, decide_eq_true h2]
  have e1 : sameL (sameD 2) (show OA × List (OD 2) from x.x).2 (show OA × List (OD 2) from y.x).2 = true := same_none _ _ (parts_none hx kx) (parts_none hy ky) (by
    rw [List.map_map, List.map_map] at h4
    exact h4)
  have e2 : (show OA × List (OD 2) from x.x).1.s = (show OA × List (OD 2) from y.x).1.s := h3
  show (sameS (show OA × List (OD 2) from x.x).1.s (show OA × List (OD 2) from y.x).1.s && sameL (sameD 2) (show OA × List (OD 2) from x.x).2 (show OA × List (OD 2) from y.x).2) = true
  rw [e1, e2, sameS_self]
  rfl
end Go.Proofs.Ytcgphdipfekccaa

/-
  Texts in one: PLen, PItemM, SortP, PSort, PLf.
-/
import Derived.Test.YtiabdcejibeciaaDoorTreeShapeZ10
import Derived.Test.YtiabdcejibeciaaDoorTreeShapeZ6
import Derived.Shelf.SlGeneric
import Derived.Shelf.SlSortCmp.WholeK
import Derived.Ground.SlsfProg
import Derived.Test.YtiabdcejibeciaaDoorProg
namespace Go.Proofs.YtiabdcejibeciaaDoor
open Go.RowKit

theorem ge_nil (l : List It) : ge [] l = l := List.filter_eq_self.2 fun x _ => decide_eq_true (by have := cmpL_nil x.k; omega)
set_option maxHeartbeats 400000 in
set_option maxRecDepth 100000 in
theorem shared_at (w W : World) (v : Value) (l : List It) (h : TT w v l) (hb : Below w.heap.size w W) : Calls Tryd.prog 27 #[v] W fun e w' => ∃ po, e = .returned (.pointer po) ∧ T w (.pointer po) l ∧ w' = W := by
  rcases h with ⟨rfl, rfl⟩ | ⟨b, u, rfl, hc, ht, hl⟩
  · go_enter Tryd.func27, Tryd.ntmps27
    go_wp2
    go_ret
    exact ⟨_, rfl, T.nil _, rfl⟩
  · obtain ⟨po, rfl⟩ := ht.ptr
    have hc2 := (hb.cell (World.block_lt_of_cell? _ _ hc)).trans hc
    go_enter Tryd.func27, Tryd.ntmps27
    go_wp2
    go_ret
    exact ⟨_, rfl, ht, rfl⟩
/-- The count. -/
def CntI (w : World) (p : Nat) (pre : List It) (W : World) : Prop := Below w.heap.size w W ∧ Arr W p 3 [.int .i64 pre.length] ∧ pre.length ≤ 100000 ∧ w.heap.size ≤ p

set_option maxHeartbeats 1000000 in
set_option maxRecDepth 100000 in
theorem cnt_any (w : World) (p : Nat) (pre : List It) (W : World) (k y : Value) (x : It) (h : CntI w p pre W) (hl : pre.length + 1 ≤ 100000) :
    Calls Tryd.prog 39 (#[k, y] ++ #[.pointer (some ⟨p, 0, none⟩)]) W (WPost (CntI w p (pre ++ [x])) fun _ => False) := by
  obtain ⟨hb, ha, -, hp⟩ := h
  have c0 := ha.cell 0
  have f0 := ha.free 0
  have hli : (pre.length : Int) + 1 ≤ 100000 := by omega
  have hs := ha.set 0 (.int .i64 ((pre.length : Int) + 1))
  have hB := hb.setCell (p := ⟨p, 0, none⟩) hp (.int .i64 ((pre.length : Int) + 1))
  go_enter Tryd.func39, Tryd.ntmps39
  go_wp2
  go_ret
  refine .inl ⟨rfl, hB, ?_, by simpa using hl, hp⟩
  rw [List.length_append, List.length_singleton, Int.natCast_add]
  exact hs

set_option maxHeartbeats 1000000 in
set_option maxRecDepth 100000 in
theorem len_any (w : World) (v : Value) (l : List It) (h : TT w v l) (hs : Srt l) (hn : l.length ≤ 50000) :
    Calls Tryd.prog 16 #[v] w fun e w' => e = .returned (.int .i64 l.length) ∧ Below w.heap.size w w' := by
  obtain ⟨W0, hW0⟩ : ∃ W, W = w.alloc (.cells #[.int .i64 0] 3) := ⟨_, rfl⟩
  have B0 : Below w.heap.size w W0 := by rw [hW0]; exact (Below.refl _ w).alloc (Nat.le_refl _) _
  have A0 : Arr W0 w.heap.size 3 [.int .i64 0] := by rw [hW0]; exact heap_alloc_new w _
  have CS := shared_at w W0 v l h B0
  obtain ⟨po, rfl⟩ := h.ptr
  go_enter Tryd.func16, Tryd.ntmps16
  go_wp2_with fail
  rw [← hW0]
  clear hW0
  refine CS.mono ?_
  rintro e w1 ⟨q, rfl, hT, hw1⟩
  obtain rfl := hw1.symm
  have CW := walk_fuel w 39 #[.pointer (some ⟨w.heap.size, 0, none⟩)] (enters_of Tryd.func39 (by kernel_rfl) rfl) (CntI w w.heap.size) (fun _ => False) (fun _ => True) l
    (fun _ _ h => h.1) (fun _ h => h.elim) (fun pre W W' h hb => ⟨h.1.trans (hb.mono h.1.size), arr_below h.2.1 hb, h.2.2⟩) [] none 0 0 (Sl.nothing w)
    (fun pre W k y x hI _ hF _ _ _ _ _ => cnt_any w w.heap.size pre W k.val y.val x hI (by
      obtain ⟨post, e⟩ := hF
      have := congrArg List.length e
      simp only [List.length_append, List.length_cons] at this
      omega))
    l.length l (.pointer q) [] [] W0 (Nat.le_refl _) (by rw [ge_nil]; simp) hT hs (fun _ _ => trivial) (by omega) ⟨B0, A0, by simp, Nat.le_refl _⟩
  rw [List.nil_append, ge_nil] at CW
  clear CS hT
  go_wp2_with fail
  refine CW.mono ?_
  rintro e w2 (⟨rfl, hb, ha, -, -⟩ | ⟨-, hf⟩)
  · have c0 := ha.cell 0
    go_wp2
    go_ret
    exact ⟨rfl, hb⟩
  · exact hf.elim
end Go.Proofs.YtiabdcejibeciaaDoor

namespace Go.Proofs.YtiabdcejibeciaaDoor
open Go.RowKit

/-- All blocks of bytes are as they were. -/
def KpB (w w' : World) : Prop := ∀ (b : Nat) (cur : Array Value), w.heap[b]? = some (Obj.cells cur 5) → w'.heap[b]? = some (Obj.cells cur 5)
theorem KpB.refl (w : World) : KpB w w := fun _ _ h => h
theorem KpB.trans {a b c : World} (h : KpB a b) (k : KpB b c) : KpB a c := fun p cur e => k p cur (h p cur e)
theorem KpB.below {w w' : World} (h : Below w.heap.size w w') : KpB w w' := fun b _ e => (h.block b (Array.getElem?_eq_some_iff.1 e).1).trans e
theorem KpB.row {w w' : World} {base : Nat} {e : TypeId} {size : Nat} {v : Value} {n : Nat} {xs : List Value} (hr : w.ownsRow base e size v n xs) (he : e ≠ 5) (hg : w.grownBy w' v.ownBlock) : KpB w w' := fun b cur h => by
  refine (hg.block b (Array.getElem?_eq_some_iff.1 h).1 fun ev => ?_).trans h
  rcases hr.2 with ⟨rfl, _⟩ | ⟨g, cap, cur', rfl, _, hgb, _⟩
  · simp [Value.ownBlock] at ev
  · obtain rfl : b = g := by simpa [Value.ownBlock] using ev
    rw [hgb] at h
    simp only [Option.some.injEq, Obj.cells.injEq] at h
    exact he h.2.1
theorem KpB.set {w : World} {p : Nat} {t : TypeId} {cs : List Value} (ha : Arr w p t cs) (ht : t ≠ 5) (j : Nat) (v : Value) : KpB w (w.setCell ⟨p, j, none⟩ v) := fun b cur h => by
  refine (heap_setCell_other w ⟨p, j, none⟩ b v fun e => ?_).trans h
  have e' : b = p := e
  subst e'
  have := (show w.heap[b]? = _ from ha).symm.trans h
  simp only [Option.some.injEq, Obj.cells.injEq] at this
  exact ht this.2.1
/-- Bytes in a block of bytes. -/
def SlT (w : World) (q : Part) : Prop := Sl w q.ao q.n q.cap q.xs ∧ ∀ a, q.ao = some a → ∃ cur : Array Value, w.heap[a.block]? = some (Obj.cells cur 5)
theorem SlT.kp {w w' : World} {q : Part} (h : SlT w q) (k : KpB w w') : SlT w' q := by
  refine ⟨⟨h.1.len, h.1.le, h.1.mx, h.1.nil, fun a ha i hi => ?_, h.1.byte⟩, fun a ha => ?_⟩
  · obtain ⟨cur, hc⟩ := h.2 a ha
    have hb : (a.add i).block = a.block := by unfold Addr.add; split <;> rfl
    rw [← h.1.cell a ha i hi]
    exact World.cell?_of_block (by rw [hb, k _ _ hc, hc])
  · obtain ⟨cur, hc⟩ := h.2 a ha
    exact ⟨cur, k _ _ hc⟩
theorem SlT.own {w : World} {base : Nat} {v : Value} {n : Nat} {xs : List Int} (h : w.ownsRow base 5 1 v n (bv xs)) (hb : Byt xs) : ∃ ao cap, v = .slice ao n cap ∧ SlT w ⟨ao, n, cap, xs⟩ := by
  obtain ⟨ao, cap, rfl, S, -⟩ := Sl.own h hb
  refine ⟨ao, cap, rfl, S, fun a ha => ?_⟩
  rcases h.2 with ⟨e, -⟩ | ⟨g, cap', cur, e, -, hh, -⟩
  · have ha' : ao = some a := ha
    simp only [Value.slice.injEq] at e
    rw [e.1] at ha'
    simp at ha'
  · have ha' : ao = some a := ha
    simp only [Value.slice.injEq] at e
    rw [e.1] at ha'
    obtain rfl := Option.some.inj ha'
    exact ⟨cur, hh⟩

set_option maxHeartbeats 400000 in
set_option maxRecDepth 100000 in
theorem ownT_any (w : World) (ao : Option Addr) (n cap : Nat) (xs : List Int) (h : Sl w ao n cap xs) (hn : n ≤ 1000000) :
    Calls Tryd.prog 29 #[.slice ao n cap] w fun e w' => ∃ ro rc, e = .returned (.slice ro n rc) ∧ SlT w' ⟨ro, n, rc, xs⟩ ∧ Below w.heap.size w w' := by
  have B0 : Below w.heap.size w (w.alloc (.cells #[] 5)) := (Below.refl _ w).alloc (Nat.le_refl _) _
  have h0 := h.below B0
  have o0 := own_nothing w
  have hb := h.byte
  go_enter Tryd.func29, Tryd.ntmps29
  go_wp2_with (at_builtin; refine wpList_app rfl _ _ rfl w.heap.size _ _ _ rfl o0 _ _ _ _ rfl h0 (by omega) (by simp) ?_; intro v1 w1 own1 B1)
  simp only [Nat.zero_add, List.nil_append] at own1
  obtain ⟨ro, rc, rfl, S⟩ := SlT.own own1 hb
  go_wp2
  go_ret
  exact ⟨ro, rc, rfl, S, B0.trans B1⟩

/-- The cells of some items. -/
def flatI (ps : List IP) : List Value := ps.flatMap fun q => [q.k.val, q.v.val]
theorem flatI_length (ps : List IP) : (flatI ps).length = ps.length * 2 := by
  induction ps with
  | nil => rfl
  | cons q ps ih =>
    have e : flatI (q :: ps) = q.k.val :: q.v.val :: flatI ps := rfl
    rw [e, List.length_cons, List.length_cons, ih, List.length_cons]
    omega
theorem flatI_get : ∀ (ps : List IP) (i : Nat) (hi : i < ps.length), (flatI ps)[i * 2]? = some ps[i].k.val ∧ (flatI ps)[i * 2 + 1]? = some ps[i].v.val
  | q :: ps, 0, _ => ⟨rfl, rfl⟩
  | q :: ps, i + 1, hi => by
    have e : flatI (q :: ps) = q.k.val :: q.v.val :: flatI ps := rfl
    have := flatI_get ps i (by simpa using hi)
    rw [e, show (i + 1) * 2 = i * 2 + 1 + 1 by omega]
    simpa using this
theorem flatI_one (ps : List IP) : ∀ u ∈ flatI ps, u.oneCell' = true := fun u hu => by
  obtain ⟨q, -, hq⟩ := List.mem_flatMap.1 hu
  simp only [List.mem_cons, List.not_mem_nil, or_false] at hq
  rcases hq with rfl | rfl <;> rfl
/-- The block p holds a list of the items l, made by the call. -/
structure LI (W : World) (p base : Nat) (l : List It) (v : Value) (ps : List IP) : Prop where
  arr : Arr W p 22 [v]
  row : W.ownsRow base 28 2 v ps.length (flatI ps)
  its : ps.map IP.it = l
  sl : ∀ q ∈ ps, SlT W q.k ∧ SlT W q.v
theorem LI.below {w w' : World} {p base : Nat} {l : List It} {v : Value} {ps : List IP} (h : LI w p base l v ps) (hb : Below w.heap.size w w') : LI w' p base l v ps :=
  ⟨arr_below h.arr hb, own_below h.row hb, h.its, fun q hq => ⟨(h.sl q hq).1.kp (KpB.below hb), (h.sl q hq).2.kp (KpB.below hb)⟩⟩
theorem LI.len {w : World} {p base : Nat} {l : List It} {v : Value} {ps : List IP} (h : LI w p base l v ps) : ps.length = l.length := by rw [← h.its, List.length_map]
theorem LI.slice {w : World} {p base : Nat} {l : List It} {v : Value} {ps : List IP} (h : LI w p base l v ps) : ∃ ao cap, v = .slice ao ps.length cap ∧ IL w ao ps.length cap ps := by
  have sl : ∀ q ∈ ps, q.ok w := fun q hq => ⟨(h.sl q hq).1.1, (h.sl q hq).2.1⟩
  rcases h.row.2 with ⟨rfl, e⟩ | ⟨g, cap, cur, rfl, hg, hh, hle, hmx, hcs, htk⟩
  · obtain rfl : ps = [] := List.eq_nil_of_length_eq_zero e
    exact ⟨none, 0, rfl, IL.nothing w⟩
  · refine ⟨some ⟨g, 0, none⟩, cap, rfl, rfl, hle, hmx, fun h => by simp at h, fun a ha i hi => ?_, sl⟩
    obtain rfl := Option.some.inj ha
    obtain ⟨e1, e2⟩ := flatI_get ps i hi
    exact ⟨h.row.cells (g := g) rfl _ _ e1, h.row.cells (g := g) rfl _ _ e2⟩
/-- append of an item, and the store of what it yields. -/
theorem LI.put {w w1 : World} {p base : Nat} {l : List It} {v v' : Value} {ps : List IP} {q : IP} (h : LI w p base l v ps) (hb : base ≤ w.heap.size) (hp : base ≤ p) (hk : SlT w q.k) (hv : SlT w q.v)
    (hr' : w1.ownsRow base 28 2 v' (ps.length + 1) (flatI ps ++ [q.k.val, q.v.val])) (hg : w.grownBy w1 v.ownBlock) :
    LI (w1.setCell ⟨p, 0, none⟩ v') p base (l ++ [q.it]) v' (ps ++ [q]) ∧ Below base w (w1.setCell ⟨p, 0, none⟩ v') ∧ ∀ b t cs, Arr w b t cs → t ≠ 28 → b ≠ p → Arr (w1.setCell ⟨p, 0, none⟩ v') b t cs := by
  obtain ⟨a1, a2, a3, a4⟩ := arr_put h.arr (by decide) h.row hb hp hr' hg 0
  have kp : KpB w (w1.setCell ⟨p, 0, none⟩ v') := (KpB.row h.row (by decide) hg).trans (KpB.set a1 (by decide) 0 v')
  have e : flatI (ps ++ [q]) = flatI ps ++ [q.k.val, q.v.val] := by simp [flatI]
  refine ⟨⟨a2, by rw [e, List.length_append]; exact a3, by rw [List.map_append, h.its]; rfl, fun r hr => ?_⟩, a4, fun b t cs hb ht hne => ?_⟩
  · rcases List.mem_append.1 hr with hr | hr
    · exact ⟨(h.sl r hr).1.kp kp, (h.sl r hr).2.kp kp⟩
    · rw [List.mem_singleton.1 hr]
      exact ⟨hk.kp kp, hv.kp kp⟩
  · exact (hb.grown hg (fun e => arr_not_row hb ht h.row e.symm)).other _ v' hne
theorem itemInfo : (Tryd.prog.info? 28).map (fun i => (i.zero, i.size, i.bytes)) = some (some (.agg #[.slice none 0 0, .slice none 0 0]), 2, 48) := by kernel_rfl
/-- append of one item to a list of the call's own. -/
theorem LI.app {w : World} {p base : Nat} {l : List It} {v : Value} {ps : List IP} {q : IP} (h : LI w p base l v ps) (hb : base ≤ w.heap.size) (hn : l.length ≤ 100000) {g : Nat} {c : Nat} (ty : TypeId)
    (hx : w.heap[g]? = some (.cells #[q.k.val, q.v.val] 28)) :
    ∃ v' w1, (Builtin.append_ #[22, 22] ty #[v, .slice (some ⟨g, 0, none⟩) 1 c]).run Tryd.prog w = .ok v' w1 ∧ w1.ownsRow base 28 2 v' (ps.length + 1) (flatI ps ++ [q.k.val, q.v.val]) ∧ w.grownBy w1 v.ownBlock := by
  have hl := h.len
  have hI := itemInfo
  cases hi : Tryd.prog.info? 28 with
  | none => rw [hi] at hI; simp at hI
  | some i =>
    rw [hi] at hI
    simp only [Option.map_some, Option.some.injEq, Prod.mk.injEq] at hI
    obtain ⟨e1, e2, e3⟩ := hI
    obtain ⟨v', w1, h1, h2, h3, -⟩ := run_append_own (P := Tryd.prog) w base 22 ty 28 i _ 2 48 Tryd.underlying22 hi e1 e2 e3 rfl (by decide) v ps.length (flatI ps) h.row ⟨g, 0, none⟩ 1 c [q.k.val, q.v.val] rfl
      (fun j u hu => by
        rw [Addr.add_lit, Nat.zero_add, cell_of_row w g j _ _ _ hx]
        simpa using hu) (fun u hu => by
        simp only [List.mem_cons, List.not_mem_nil, or_false] at hu
        rcases hu with rfl | rfl <;> rfl) (by unfold maxLen; omega) (by omega) hb
    exact ⟨v', w1, h1, h2, h3⟩
end Go.Proofs.YtiabdcejibeciaaDoor

namespace Go.Proofs
open Go.Shelf
def Tryd.sortLeaf_ren : Go.Shelf.Ren := ⟨fun | 6 => 32 | 15 => 65 | 14 => 64 | 28 => 98 | 29 => 99 | 20 => 90 | 21 => 91 | 22 => 92 | 23 => 93 | 24 => 94 | 25 => 95 | 26 => 96 | 27 => 97 | 46 => 114 | 47 => 115 | 48 => 116 | 49 => 117 | 50 => 118 | 57 => 127 | n => n, fun | 22 => 64 | 24 => 61 | 25 => 67 | 3 => 3 | 39 => 91 | 0 => 0 | 53 => 93 | 55 => 90 | 4 => 4 | 46 => 139 | 45 => 138 | 50 => 44 | 5 => 5 | 9 => 9 | 66 => 159 | 70 => 162 | 76 => 175 | 77 => 176 | n => n, fun | n => n⟩
theorem Tryd.sortLeaf : Go.Proofs.SlLaysF0.n6 Tryd.prog Tryd.sortLeaf_ren := {
  mixed := by kernel_rfl
  f6 := ⟨Tryd.f32.name, by decide, Tryd.func32.trans (congrArg some (by kernel_rfl))⟩
  f14 := ⟨Tryd.f64.name, by decide, Tryd.func64.trans (congrArg some (by kernel_rfl))⟩
  f15 := Tryd.func65.trans (congrArg some (by kernel_rfl))
  f20 := ⟨Tryd.f90.name, by decide, Tryd.func90.trans (congrArg some (by kernel_rfl))⟩
  f21 := ⟨Tryd.f91.name, by decide, Tryd.func91.trans (congrArg some (by kernel_rfl))⟩
  f22 := ⟨Tryd.f92.name, by decide, Tryd.func92.trans (congrArg some (by kernel_rfl))⟩
  f23 := ⟨Tryd.f93.name, by decide, Tryd.func93.trans (congrArg some (by kernel_rfl))⟩
  f24 := ⟨Tryd.f94.name, by decide, Tryd.func94.trans (congrArg some (by kernel_rfl))⟩
  f25 := ⟨Tryd.f95.name, by decide, Tryd.func95.trans (congrArg some (by kernel_rfl))⟩
  f26 := ⟨Tryd.f96.name, by decide, Tryd.func96.trans (congrArg some (by kernel_rfl))⟩
  f27 := ⟨Tryd.f97.name, by decide, Tryd.func97.trans (congrArg some (by kernel_rfl))⟩
  f28 := Tryd.func98.trans (congrArg some (by kernel_rfl))
  f29 := Tryd.func99.trans (congrArg some (by kernel_rfl))
  f46 := ⟨Tryd.f114.name, by decide, Tryd.func114.trans (congrArg some (by kernel_rfl))⟩
  f47 := Tryd.func115.trans (congrArg some (by kernel_rfl))
  f48 := Tryd.func116.trans (congrArg some (by kernel_rfl))
  f49 := ⟨Tryd.f117.name, by decide, Tryd.func117.trans (congrArg some (by kernel_rfl))⟩
  f50 := ⟨Tryd.f118.name, by decide, Tryd.func118.trans (congrArg some (by kernel_rfl))⟩
  f57 := ⟨Tryd.f127.name, by decide, Tryd.func127.trans (congrArg some (by kernel_rfl))⟩
  t0 := Tryd.underlying0
  a0 := Tryd.isAgg0
  z0 := Tryd.sizeOf0
  v0 := Tryd.zeroValue0
  t3 := Tryd.underlying3
  a3 := Tryd.isAgg3
  z3 := Tryd.sizeOf3
  v3 := Tryd.zeroValue3
  t4 := Tryd.underlying4
  a4 := Tryd.isAgg4
  z4 := Tryd.sizeOf4
  v4 := Tryd.zeroValue4
  t5 := Tryd.underlying5
  a5 := Tryd.isAgg5
  z5 := Tryd.sizeOf5
  v5 := Tryd.zeroValue5
  t9 := Tryd.underlying9
  a9 := Tryd.isAgg9
  z9 := Tryd.sizeOf9
  v9 := Tryd.zeroValue9
  t22 := Tryd.underlying64
  a22 := Tryd.isAgg64
  z22 := Tryd.sizeOf64
  v22 := Tryd.zeroValue64
  t25 := Tryd.underlying67
  a25 := Tryd.isAgg67
  z25 := Tryd.sizeOf67
  v25 := Tryd.zeroValue67
  t39 := Tryd.underlying91
  a39 := Tryd.isAgg91
  z39 := Tryd.sizeOf91
  v39 := Tryd.zeroValue91
  t45 := Tryd.underlying138
  a45 := Tryd.isAgg138
  z45 := Tryd.sizeOf138
  v45 := Tryd.zeroValue138
  t46 := Tryd.underlying139
  a46 := Tryd.isAgg139
  z46 := Tryd.sizeOf139
  v46 := Tryd.zeroValue139
  t50 := Tryd.underlying44
  a50 := Tryd.isAgg44
  z50 := Tryd.sizeOf44
  v50 := Tryd.zeroValue44
  t53 := Tryd.underlying93
  a53 := Tryd.isAgg93
  z53 := Tryd.sizeOf93
  v53 := Tryd.zeroValue93
  t55 := Tryd.underlying90
  a55 := Tryd.isAgg90
  z55 := Tryd.sizeOf90
  v55 := Tryd.zeroValue90
  t66 := Tryd.underlying159
  a66 := Tryd.isAgg159
  z66 := Tryd.sizeOf159
  v66 := Tryd.zeroValue159
  t70 := Tryd.underlying162
  a70 := Tryd.isAgg162
  z70 := Tryd.sizeOf162
  v70 := Tryd.zeroValue162
  t76 := Tryd.underlying175
  a76 := Tryd.isAgg175
  z76 := Tryd.sizeOf175
  v76 := Tryd.zeroValue175
  t77 := Tryd.underlying176
  a77 := Tryd.isAgg176
  z77 := Tryd.sizeOf176
  v77 := Tryd.zeroValue176 }
end Go.Proofs

namespace Go.Proofs.YtiabdcejibeciaaDoor
open Go.RowKit

/-- The cells of some leaves. -/
def encL (q : LP) : List Value := [.int .i64 q.L, q.k.val, q.v.val]
def flatL (ls : List LP) : List Value := ls.flatMap encL
theorem flatL_cons (q : LP) (ls : List LP) : flatL (q :: ls) = .int .i64 q.L :: q.k.val :: q.v.val :: flatL ls := rfl
theorem flatL_app (a b : List LP) : flatL (a ++ b) = flatL a ++ flatL b := by simp [flatL]
theorem flatL_length (ls : List LP) : (flatL ls).length = ls.length * 3 := by
  induction ls with
  | nil => rfl
  | cons q ls ih =>
    rw [flatL_cons, List.length_cons, List.length_cons, List.length_cons, ih, List.length_cons]
    omega
theorem flatL_get : ∀ (ls : List LP) (i : Nat) (hi : i < ls.length) (j : Nat), j < 3 → (flatL ls)[i * 3 + j]? = (encL ls[i])[j]?
  | q :: ls, 0, _, j, hj => by
    match j, hj with
    | 0, _ => rfl
    | 1, _ => rfl
    | 2, _ => rfl
  | q :: ls, i + 1, hi, j, hj => by
    have := flatL_get ls i (by simpa using hi) j hj
    rw [flatL_cons, show (i + 1) * 3 + j = (i * 3 + j) + 1 + 1 + 1 by omega]
    simpa using this
theorem flatL_one (ls : List LP) : ∀ u ∈ flatL ls, u.oneCell' = true := fun u hu => by
  obtain ⟨q, -, hq⟩ := List.mem_flatMap.1 hu
  simp only [encL, List.mem_cons, List.not_mem_nil, or_false] at hq
  rcases hq with rfl | rfl | rfl <;> rfl
/-- A leaf whose bytes stand in w. -/
structure LW (w : World) where
  q : LP
  hk : SlT w q.k
  hv : SlT w q.v
def LW.enc {w : World} (x : LW w) : List Value := encL x.q
def LW.cf {w : World} (x y : LW w) : Int := cmpL x.q.k.xs y.q.k.xs
theorem slT_none (w : World) : SlT w ⟨none, 0, 0, []⟩ := ⟨Sl.nothing w, fun a h => by simp at h⟩
theorem swoL (w : World) : Sort.SWO (ltOf (LW.cf (w := w))) := by
  refine ⟨fun x => decide_eq_false (cmpL_irr x.q.k.xs), fun x y z h1 h2 => decide_eq_true (cmpL_lt_trans _ _ _ (of_decide_eq_true h1) (of_decide_eq_true h2)), fun x y z h1 h2 => ?_⟩
  · replace h1 := of_decide_eq_false h1
    replace h2 := of_decide_eq_false h2
    refine decide_eq_false fun h => ?_
    unfold LW.cf at h h1 h2
    rcases cmpL_total x.q.k.xs y.q.k.xs with h3 | h3 | h3
    · exact h1 h3
    · rw [h3] at h
      exact h2 h
    · exact h2 (cmpL_lt_trans _ _ _ h3 h)
/-- Blocks behind the sort: all but the row's. -/
theorem sortW_block {α : Type} [Inhabited α] (enc : α → List Value) (k : Nat) (w : World) (blk off m : Nat) (dk : Array α) (os : Array Obj) (b : Nat) (hb : b < w.heap.size) (hne : b ≠ blk) : (sortWorldK enc k w blk off m dk os).heap[b]? = w.heap[b]? := by
  unfold sortWorldK
  rw [Sort.heap_grow_old _ _ (by rw [Sort.size_putRowK]; exact hb)]
  simp only [Sort.putRowK, Sort.putRow, Sort.mapBlock, Array.getElem?_modify]
  rw [if_neg (fun e => hne e.symm)]
  rfl
theorem sortW_size {α : Type} [Inhabited α] (enc : α → List Value) (k : Nat) (w : World) (blk off m : Nat) (dk : Array α) (os : Array Obj) : w.heap.size ≤ (sortWorldK enc k w blk off m dk os).heap.size := by
  unfold sortWorldK
  rw [Sort.size_grow, Sort.size_putRowK]
  exact Nat.le_add_right _ _
theorem sortW_kp {α : Type} [Inhabited α] (enc : α → List Value) (k : Nat) (w : World) (blk off m : Nat) (dk : Array α) (os : Array Obj) {t : TypeId} {cur : Array Value} {z : Nat × Nat} (hg : w.heap[blk]? = some (.cells cur t z)) (ht : t ≠ 5) : KpB w (sortWorldK enc k w blk off m dk os) := fun b c hbc => by
  have hne : b ≠ blk := fun e => by
    subst e
    rw [hg] at hbc
    simp only [Option.some.injEq, Obj.cells.injEq] at hbc
    exact ht hbc.2.1
  rw [sortW_block enc k w blk off m dk os b (Array.getElem?_eq_some_iff.1 hbc).1 hne]
  exact hbc
theorem sortW_below {α : Type} [Inhabited α] (enc : α → List Value) (k : Nat) (w : World) (blk off m : Nat) (dk : Array α) (os : Array Obj) (base : Nat) (hb : base ≤ blk) (hblk : blk < w.heap.size) : Below base w (sortWorldK enc k w blk off m dk os) :=
  ⟨rfl, rfl, rfl, sortW_size enc k w blk off m dk os, fun b h => sortW_block enc k w blk off m dk os b (by omega) (by omega)⟩

set_option maxHeartbeats 1000000 in
set_option maxRecDepth 100000 in
/-- The comparison. -/
theorem cmpLeaf (W : World) (x y : LP) (hx : Sl W x.k.ao x.k.n x.k.cap x.k.xs) (hy : Sl W y.k.ao y.k.n y.k.cap y.k.xs) :
    Calls Tryd.prog 33 #[.agg (encL x).toArray, .agg (encL y).toArray] W fun e w' => e = .returned (.int .i64 (cmpL x.k.xs y.k.xs)) ∧ ∃ q os', w' = Sort.grow (W.drewN q) os' := by
  obtain ⟨W1, hW1⟩ : ∃ V, V = W.alloc (.cells #[.int .i64 x.L, .slice x.k.ao x.k.n x.k.cap, .slice x.v.ao x.v.n x.v.cap] 61) := ⟨_, rfl⟩
  obtain ⟨W2, hW2⟩ : ∃ V, V = W1.alloc (.cells #[.int .i64 y.L, .slice y.k.ao y.k.n y.k.cap, .slice y.v.ao y.v.n y.v.cap] 61) := ⟨_, rfl⟩
  have B1 : Below W.heap.size W W1 := by rw [hW1]; exact (Below.refl _ _).alloc (Nat.le_refl _) _
  have C2 : Below W1.heap.size W1 W2 := by rw [hW2]; exact (Below.refl _ _).alloc (Nat.le_refl _) _
  have B2 := B1.trans (C2.mono B1.size)
  have CB := bcmp_any W2 x.k.ao y.k.ao x.k.n x.k.cap y.k.n y.k.cap x.k.xs y.k.xs (hx.below B2) (hy.below B2)
  have hg : W2 = Sort.grow (W.drewN 0) #[.cells #[.int .i64 x.L, .slice x.k.ao x.k.n x.k.cap, .slice x.v.ao x.v.n x.v.cap] 61, .cells #[.int .i64 y.L, .slice y.k.ao y.k.n y.k.cap, .slice y.v.ao y.v.n y.v.cap] 61] := by
    rw [hW2, hW1, Sort.alloc_eq_grow, Sort.alloc_eq_grow, Sort.grow_grow]
    rfl
  have HG : Hid (W2 = Sort.grow (W.drewN 0) #[.cells #[.int .i64 x.L, .slice x.k.ao x.k.n x.k.cap, .slice x.v.ao x.v.n x.v.cap] 61, .cells #[.int .i64 y.L, .slice y.k.ao y.k.n y.k.cap, .slice y.v.ao y.v.n y.v.cap] 61]) := hg
  clear hg
  unfold encL Part.val
  go_enter Tryd.func33, Tryd.ntmps33
  go_wp2_with fail
  rw [← hW1, ← hW2]
  clear hW1 hW2
  refine CB.mono ?_
  rintro e w' ⟨rfl, hw⟩
  obtain rfl := hw.symm
  go_wp2
  go_ret
  exact ⟨rfl, 0, _, HG.out⟩

/-- No key stands ahead of a lesser one. -/
def RiseL (ls : List LP) : Prop := ls.Pairwise fun a b => ¬ cmpL b.k.xs a.k.xs < 0
/-- What the sort leaves. -/
def SortPost (w : World) (base g n cap : Nat) (ls : List LP) (e : Ending) (w' : World) : Prop := e = .returned (.tuple #[]) ∧
  ∃ ls', ls'.Perm ls ∧ RiseL ls' ∧ LL w' (some ⟨g, 0, none⟩) n cap ls' ∧ KpB w w' ∧ Below base w w'

set_option maxHeartbeats 1000000 in
/-- slices.SortFunc of leaves. -/
theorem sortL_any (w : World) (base g n cap : Nat) (ls : List LP) (own : w.ownsRow base 61 3 (.slice (some ⟨g, 0, none⟩) n cap) n (flatL ls)) (hsl : ∀ q ∈ ls, SlT w q.k ∧ SlT w q.v) (hn : n ≤ 1000000) :
    Calls Tryd.prog 32 #[.slice (some ⟨g, 0, none⟩) n cap, .func (.func 33) #[] #[]] w (SortPost w base g n cap ls) := by
  haveI : Inhabited (LW w) := ⟨⟨⟨0, ⟨none, 0, 0, []⟩, ⟨none, 0, 0, []⟩⟩, slT_none w, slT_none w⟩⟩
  have hlen : ls.length = n := by
    have h1 := own.1
    rw [flatL_length] at h1
    omega
  obtain ⟨cur, hgb, hbg, hle, hmx, hcs, htk⟩ : ∃ cur, w.heap[g]? = some (.cells cur 61 (0, 0)) ∧ base ≤ g ∧ n ≤ cap ∧ cap ≤ maxLen ∧ cur.size = cap * 3 ∧ cur.toList.take (n * 3) = flatL ls := by
    rcases own.2 with ⟨e, -⟩ | ⟨g', cap', cur, e, h1, h2, h3, h4, h5, h6⟩
    · simp at e
    · simp only [Value.slice.injEq, Option.some.injEq, Addr.mk.injEq, true_and, and_true] at e
      obtain ⟨rfl, rfl⟩ := e
      exact ⟨cur, h2, h1, h3, h4, h5, h6⟩
  have hglt : g < w.heap.size := (Array.getElem?_eq_some_iff.1 hgb).1
  obtain ⟨xs, hxs⟩ : ∃ xs : List (LW w), xs.map LW.q = ls := by
    have : ∀ (l : List LP), (∀ q ∈ l, SlT w q.k ∧ SlT w q.v) → ∃ xs : List (LW w), xs.map LW.q = l := by
      intro l
      induction l with
      | nil => exact fun _ => ⟨[], rfl⟩
      | cons q l ih =>
        intro h
        obtain ⟨xs, h1⟩ := ih fun y hy => h y (List.mem_cons_of_mem _ hy)
        have h2 := h q (List.mem_cons_self ..)
        exact ⟨⟨q, h2.1, h2.2⟩ :: xs, by rw [List.map_cons, h1]⟩
    exact this ls hsl
  have hxl : xs.length = n := by rw [← hlen, ← hxs, List.length_map]
  have hcell : ∀ i (hi : i < ls.length) j, j < 3 → ∀ u, (encL ls[i])[j]? = some u → w.cell? ⟨g, 0 + (i * 3 + j), none⟩ = some u := fun i hi j hj u hu => by
    have h1 := flatL_get ls i hi j hj
    rw [hu] at h1
    have h2 := own.cells (g := g) rfl (i * 3 + j) u h1
    rw [Addr.add_lit] at h2
    exact h2
  have hH : Sort.HoldsK LW.enc 3 w g 0 xs.toArray := fun t ht => by
    have ht' : t < xs.length * 3 := by simpa using ht
    have hi : t / 3 < xs.length := by omega
    have hi2 : t / 3 < ls.length := by omega
    refine ⟨?_, frozen_of_row w g (0 + t) _ _ hgb⟩
    rw [Sort.get_flatK _ _ _ _ (by simpa using ht')]
    have hx : xs.toArray[t / 3]! = xs[t / 3] := by simp [hi]
    have hq : xs[t / 3].q = ls[t / 3] := by
      have := congrArg (·[t / 3]?) hxs
      simpa [hi, hi2] using this
    rw [hx]
    have hj : t % 3 < 3 := Nat.mod_lt _ (by decide)
    have hl3 : (encL ls[t / 3]).length = 3 := rfl
    have := hcell (t / 3) hi2 (t % 3) hj (encL ls[t / 3])[t % 3] (List.getElem?_eq_getElem (by rw [hl3]; exact hj))
    rw [show t / 3 * 3 + t % 3 = t by omega] at this
    rw [this]
    unfold LW.enc
    rw [hq, getElem!_pos _ _ (by rw [hl3]; exact hj)]
    rfl
  have hcmp : CmpLays Tryd.prog 33 #[] LW.enc 3 (LW.cf (w := w)) g 0 xs.toArray.size w := fun m os dk _ x y => by
    have kp := sortW_kp (LW.enc (w := w)) 3 w g 0 m dk os hgb (by decide)
    exact cmpLeaf _ x.q y.q (x.hk.kp kp).1 (y.hk.kp kp).1
  have eg : ∀ args w, (callFunc 33 args).run Tryd.prog w = .ok (.enter 33 args) w := enters_of Tryd.func33 (by kernel_rfl) rfl
  have hsize3 : ∀ w, (Go.sizeOf 61).run Tryd.prog w = .ok 3 w := size3
  have hagg : ∀ w, (isAgg 61).run Tryd.prog w = .ok true w := fun w => by
    simp [isAgg, run_underlying Tryd.underlying61]
  have hcon := AnyQ.slices_SortFunc (P := Tryd.prog) Tryd.sortLeaf 3 hagg hsize3 (LW.enc (w := w)) (fun _ => rfl) (fun x v hv => by
    simp only [LW.enc, encL, List.mem_cons, List.not_mem_nil, or_false] at hv
    rcases hv with rfl | rfl | rfl <;> rfl) (LW.cf (w := w)) (swoL w) 33 #[] g 0 cap xs.toArray w eg hcmp hH hglt (by simp; omega)
  have hsz : xs.toArray.size = n := by simpa using hxl
  rw [hsz] at hcon
  refine Calls.mono (show Calls Tryd.prog 32 _ _ _ from hcon) ?_
  rintro e w' ⟨rfl, d', m, os, hp, hs, rfl⟩
  have hd : d'.size = n := hp.1.trans hsz
  refine ⟨rfl, d'.toList.map LW.q, ?_, ?_, ?_, sortW_kp _ 3 w g 0 m d' os hgb (by decide), sortW_below _ 3 w g 0 m d' os base hbg hglt⟩
  · have h1 := hp.2.2
    rw [Array.extract_eq_self_of_le (by omega), Array.extract_eq_self_of_le (by omega)] at h1
    have h2 := h1.map LW.q
    rw [hxs] at h2
    exact h2
  · refine List.pairwise_map.2 (List.pairwise_iff_getElem.2 fun i j hi hj hij => ?_)
    have hi' : i < d'.size := by simpa using hi
    have hj' : j < d'.size := by simpa using hj
    have h1 := hs i j (Nat.zero_le _) hij (by omega)
    rw [getElem!_pos d' i hi', getElem!_pos d' j hj'] at h1
    have h2 := of_decide_eq_false h1
    unfold LW.cf at h2
    simpa using h2
  · have hH' := holdsK_sortWorldK (LW.enc (w := w)) 3 w g 0 m xs.toArray d' os hglt hH (by omega)
    refine ⟨by simpa using hd, hle, hmx, fun h => by simp at h, fun a ha i hi => ?_⟩
    obtain rfl := Option.some.inj ha
    have hi' : i < d'.size := by simpa using hi
    have hc := HoldsK.cells hH' (fun _ => rfl) hi'
    rw [getElem!_pos d' i hi'] at hc
    have e : (d'.toList.map LW.q)[i] = d'[i].q := by simp
    rw [e]
    have h0 := hc 0 _ rfl
    have h1 := hc 1 _ rfl
    have h2 := hc 2 _ rfl
    simp only [Addr.add_lit, Nat.zero_add, Nat.add_zero] at h0 h1 h2 ⊢
    exact ⟨h0, h1, h2⟩
end Go.Proofs.YtiabdcejibeciaaDoor

namespace Go.Proofs.YtiabdcejibeciaaDoor
open Go.RowKit

/-- A leaf in a block of its own. -/
structure Lf (w : World) (g : Nat) (lv : Nat) (a b : Value) : Prop where
  c0 : w.cell? ⟨g, 0, none⟩ = some (.int .i64 lv)
  c1 : w.cell? ⟨g, 1, none⟩ = some a
  c2 : w.cell? ⟨g, 2, none⟩ = some b
theorem Lf.below {w w' : World} {g lv : Nat} {a b : Value} (h : Lf w g lv a b) (hb : Below w.heap.size w w') : Lf w' g lv a b :=
  ⟨(hb.cell (World.block_lt_of_cell? _ _ h.c0)).trans h.c0, (hb.cell (World.block_lt_of_cell? _ _ h.c1)).trans h.c1, (hb.cell (World.block_lt_of_cell? _ _ h.c2)).trans h.c2⟩
theorem Lf.new (w : World) (lv : Nat) (a b : Value) (t : TypeId) : Lf (w.alloc (.cells #[.int .i64 lv, a, b] t)) w.heap.size lv a b :=
  ⟨cell_of_row _ _ 0 _ _ _ (heap_alloc_new w _), cell_of_row _ _ 1 _ _ _ (heap_alloc_new w _), cell_of_row _ _ 2 _ _ _ (heap_alloc_new w _)⟩
end Go.Proofs.YtiabdcejibeciaaDoor

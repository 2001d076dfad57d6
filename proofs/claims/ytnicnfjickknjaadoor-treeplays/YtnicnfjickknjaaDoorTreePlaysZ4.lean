/-
  Texts in one: PItemM, PItem, PItems, HRegG, NMem, SMem, PCopy, PtrMap, KCells, SlConst, PPut7.
-/
import Derived.Test.YtnicnfjickknjaaDoorTreePlaysZ3
import Derived.Test.YtnicnfjickknjaaDoorTreePlaysZ1
import Derived.Test.YtnicnfjickknjaaDoorTreePlaysZ2
import Derived.LaidEql
import Derived.MapKept
import Derived.Laws.AppendOwn
import Derived.Test.YtnicnfjickknjaaDoorTreePlaysZ0
import Derived.Lib.SlBytesConst
namespace Go.Proofs.YtnicnfjickknjaaDoor
open Go.RowKit

/-- All blocks of bytes are as they were. -/
def KpB (w w' : World) : Prop := ∀ (b : Nat) (cur : Array Value), w.heap[b]? = some (Obj.cells cur 5) → w'.heap[b]? = some (Obj.cells cur 5)
theorem KpB.refl (w : World) : KpB w w := fun _ _ h => h
theorem KpB.trans {a b c : World} (h : KpB a b) (k : KpB b c) : KpB a c := fun p cur e => k p cur (h p cur e)
theorem KpB.below {w w' : World} (h : Below w.heap.size w w') : KpB w w' := fun b _ e => (h.block b (Array.getElem?_eq_some_iff.1 e).1).trans e
theorem KpB.row {w w' : World} {base : Nat} {e : TypeId} {size : Nat} {v : Value} {n : Nat} {xs : List Value} (hr : w.ownsRow base e size v n xs) (he : e ≠ 5) (hg : w.grownBy w' v.ownBlock) : KpB w w' := fun b cur h => by
  refine (hg.block b (Array.getElem?_eq_some_iff.1 h).1 fun ev => ?_).trans h
  rcases hr.2 with ⟨rfl, _⟩ | ⟨g, cap, cur', rfl, _, hgb, _⟩
  · simp [Value.ownBlock] at ev
  · obtain rfl : b = g := by simpa [Value.ownBlock] using ev
    rw [hgb] at h
    simp only [Option.some.injEq, Obj.cells.injEq] at h
    exact he h.2.1
theorem KpB.set {w : World} {p : Nat} {t : TypeId} {cs : List Value} (ha : Arr w p t cs) (ht : t ≠ 5) (j : Nat) (v : Value) : KpB w (w.setCell ⟨p, j, none⟩ v) := fun b cur h => by
  refine (heap_setCell_other w ⟨p, j, none⟩ b v fun e => ?_).trans h
  have e' : b = p := e
  subst e'
  have := (show w.heap[b]? = _ from ha).symm.trans h
  simp only [Option.some.injEq, Obj.cells.injEq] at this
  exact ht this.2.1
/-- Bytes in a block of bytes. -/
def SlT (w : World) (q : Part) : Prop := Sl w q.ao q.n q.cap q.xs ∧ ∀ a, q.ao = some a → ∃ cur : Array Value, w.heap[a.block]? = some (Obj.cells cur 5)
theorem SlT.kp {w w' : World} {q : Part} (h : SlT w q) (k : KpB w w') : SlT w' q := by
  refine ⟨⟨h.1.len, h.1.le, h.1.mx, h.1.nil, fun a ha i hi => ?_, h.1.byte⟩, fun a ha => ?_⟩
  · obtain ⟨cur, hc⟩ := h.2 a ha
    have hb : (a.add i).block = a.block := by unfold Addr.add; split <;> rfl
    rw [← h.1.cell a ha i hi]
    exact World.cell?_of_block (by rw [hb, k _ _ hc, hc])
  · obtain ⟨cur, hc⟩ := h.2 a ha
    exact ⟨cur, k _ _ hc⟩
theorem SlT.own {w : World} {base : Nat} {v : Value} {n : Nat} {xs : List Int} (h : w.ownsRow base 5 1 v n (bv xs)) (hb : Byt xs) : ∃ ao cap, v = .slice ao n cap ∧ SlT w ⟨ao, n, cap, xs⟩ := by
  obtain ⟨ao, cap, rfl, S, -⟩ := Sl.own h hb
  refine ⟨ao, cap, rfl, S, fun a ha => ?_⟩
  rcases h.2 with ⟨e, -⟩ | ⟨g, cap', cur, e, -, hh, -⟩
  · have ha' : ao = some a := ha
    simp only [Value.slice.injEq] at e
    rw [e.1] at ha'
    simp at ha'
  · have ha' : ao = some a := ha
    simp only [Value.slice.injEq] at e
    rw [e.1] at ha'
    obtain rfl := Option.some.inj ha'
    exact ⟨cur, hh⟩

set_option maxHeartbeats 400000 in
set_option maxRecDepth 100000 in
theorem ownT_any (w : World) (ao : Option Addr) (n cap : Nat) (xs : List Int) (h : Sl w ao n cap xs) (hn : n ≤ 1000000) :
    Calls Tryd.prog 29 #[.slice ao n cap] w fun e w' => ∃ ro rc, e = .returned (.slice ro n rc) ∧ SlT w' ⟨ro, n, rc, xs⟩ ∧ Below w.heap.size w w' := by
  have B0 : Below w.heap.size w (w.alloc (.cells #[] 5)) := (Below.refl _ w).alloc (Nat.le_refl _) _
  have h0 := h.below B0
  have o0 := own_nothing w
  have hb := h.byte
  go_enter Tryd.func29, Tryd.ntmps29
  go_wp2_with (at_builtin; refine wpList_app rfl _ _ rfl w.heap.size _ _ _ rfl o0 _ _ _ _ rfl h0 (by omega) (by simp) ?_; intro v1 w1 own1 B1)
  simp only [Nat.zero_add, List.nil_append] at own1
  obtain ⟨ro, rc, rfl, S⟩ := SlT.own own1 hb
  go_wp2
  go_ret
  exact ⟨ro, rc, rfl, S, B0.trans B1⟩

/-- The cells of some items. -/
def flatI (ps : List IP) : List Value := ps.flatMap fun q => [q.k.val, q.v.val]
theorem flatI_length (ps : List IP) : (flatI ps).length = ps.length * 2 := by
  induction ps with
  | nil => rfl
  | cons q ps ih =>
    have e : flatI (q :: ps) = q.k.val :: q.v.val :: flatI ps := rfl
    rw [e, List.length_cons, List.length_cons, ih, List.length_cons]
    omega
theorem flatI_get : ∀ (ps : List IP) (i : Nat) (hi : i < ps.length), (flatI ps)[i * 2]? = some ps[i].k.val ∧ (flatI ps)[i * 2 + 1]? = some ps[i].v.val
  | q :: ps, 0, _ => ⟨rfl, rfl⟩
  | q :: ps, i + 1, hi => by
    have e : flatI (q :: ps) = q.k.val :: q.v.val :: flatI ps := rfl
    have := flatI_get ps i (by simpa using hi)
    rw [e, show (i + 1) * 2 = i * 2 + 1 + 1 by omega]
    simpa using this
theorem flatI_one (ps : List IP) : ∀ u ∈ flatI ps, u.oneCell' = true := fun u hu => by
  obtain ⟨q, -, hq⟩ := List.mem_flatMap.1 hu
  simp only [List.mem_cons, List.not_mem_nil, or_false] at hq
  rcases hq with rfl | rfl <;> rfl
/-- The block p holds a list of the items l, made by the call. -/
structure LI (W : World) (p base : Nat) (l : List It) (v : Value) (ps : List IP) : Prop where
  arr : Arr W p 26 [v]
  row : W.ownsRow base 43 2 v ps.length (flatI ps)
  its : ps.map IP.it = l
  sl : ∀ q ∈ ps, SlT W q.k ∧ SlT W q.v
theorem LI.below {w w' : World} {p base : Nat} {l : List It} {v : Value} {ps : List IP} (h : LI w p base l v ps) (hb : Below w.heap.size w w') : LI w' p base l v ps :=
  ⟨arr_below h.arr hb, own_below h.row hb, h.its, fun q hq => ⟨(h.sl q hq).1.kp (KpB.below hb), (h.sl q hq).2.kp (KpB.below hb)⟩⟩
theorem LI.len {w : World} {p base : Nat} {l : List It} {v : Value} {ps : List IP} (h : LI w p base l v ps) : ps.length = l.length := by rw [← h.its, List.length_map]
theorem LI.slice {w : World} {p base : Nat} {l : List It} {v : Value} {ps : List IP} (h : LI w p base l v ps) : ∃ ao cap, v = .slice ao ps.length cap ∧ IL w ao ps.length cap ps := by
  have sl : ∀ q ∈ ps, q.ok w := fun q hq => ⟨(h.sl q hq).1.1, (h.sl q hq).2.1⟩
  rcases h.row.2 with ⟨rfl, e⟩ | ⟨g, cap, cur, rfl, hg, hh, hle, hmx, hcs, htk⟩
  · obtain rfl : ps = [] := List.eq_nil_of_length_eq_zero e
    exact ⟨none, 0, rfl, IL.nothing w⟩
  · refine ⟨some ⟨g, 0, none⟩, cap, rfl, rfl, hle, hmx, fun h => by simp at h, fun a ha i hi => ?_, sl⟩
    obtain rfl := Option.some.inj ha
    obtain ⟨e1, e2⟩ := flatI_get ps i hi
    exact ⟨h.row.cells (g := g) rfl _ _ e1, h.row.cells (g := g) rfl _ _ e2⟩
/-- append of an item, and the store of what it yields. -/
theorem LI.put {w w1 : World} {p base : Nat} {l : List It} {v v' : Value} {ps : List IP} {q : IP} (h : LI w p base l v ps) (hb : base ≤ w.heap.size) (hp : base ≤ p) (hk : SlT w q.k) (hv : SlT w q.v)
    (hr' : w1.ownsRow base 43 2 v' (ps.length + 1) (flatI ps ++ [q.k.val, q.v.val])) (hg : w.grownBy w1 v.ownBlock) :
    LI (w1.setCell ⟨p, 0, none⟩ v') p base (l ++ [q.it]) v' (ps ++ [q]) ∧ Below base w (w1.setCell ⟨p, 0, none⟩ v') ∧ ∀ b t cs, Arr w b t cs → t ≠ 43 → b ≠ p → Arr (w1.setCell ⟨p, 0, none⟩ v') b t cs := by
  obtain ⟨a1, a2, a3, a4⟩ := arr_put h.arr (by decide) h.row hb hp hr' hg 0
  have kp : KpB w (w1.setCell ⟨p, 0, none⟩ v') := (KpB.row h.row (by decide) hg).trans (KpB.set a1 (by decide) 0 v')
  have e : flatI (ps ++ [q]) = flatI ps ++ [q.k.val, q.v.val] := by simp [flatI]
  refine ⟨⟨a2, by rw [e, List.length_append]; exact a3, by rw [List.map_append, h.its]; rfl, fun r hr => ?_⟩, a4, fun b t cs hb ht hne => ?_⟩
  · rcases List.mem_append.1 hr with hr | hr
    · exact ⟨(h.sl r hr).1.kp kp, (h.sl r hr).2.kp kp⟩
    · rw [List.mem_singleton.1 hr]
      exact ⟨hk.kp kp, hv.kp kp⟩
  · exact (hb.grown hg (fun e => arr_not_row hb ht h.row e.symm)).other _ v' hne
theorem itemInfo : (Tryd.prog.info? 43).map (fun i => (i.zero, i.size, i.bytes)) = some (some (.agg #[.slice none 0 0, .slice none 0 0]), 2, 48) := by kernel_rfl
/-- append of one item to a list of the call's own. -/
theorem LI.app {w : World} {p base : Nat} {l : List It} {v : Value} {ps : List IP} {q : IP} (h : LI w p base l v ps) (hb : base ≤ w.heap.size) (hn : l.length ≤ 100000) {g : Nat} {c : Nat} (ty : TypeId)
    (hx : w.heap[g]? = some (.cells #[q.k.val, q.v.val] 43)) :
    ∃ v' w1, (Builtin.append_ #[26, 26] ty #[v, .slice (some ⟨g, 0, none⟩) 1 c]).run Tryd.prog w = .ok v' w1 ∧ w1.ownsRow base 43 2 v' (ps.length + 1) (flatI ps ++ [q.k.val, q.v.val]) ∧ w.grownBy w1 v.ownBlock := by
  have hl := h.len
  have hI := itemInfo
  cases hi : Tryd.prog.info? 43 with
  | none => rw [hi] at hI; simp at hI
  | some i =>
    rw [hi] at hI
    simp only [Option.map_some, Option.some.injEq, Prod.mk.injEq] at hI
    obtain ⟨e1, e2, e3⟩ := hI
    obtain ⟨v', w1, h1, h2, h3, -⟩ := run_append_own (P := Tryd.prog) w base 26 ty 43 i _ 2 48 Tryd.underlying26 hi e1 e2 e3 rfl (by decide) v ps.length (flatI ps) h.row ⟨g, 0, none⟩ 1 c [q.k.val, q.v.val] rfl
      (fun j u hu => by
        rw [Addr.add_lit, Nat.zero_add, cell_of_row w g j _ _ _ hx]
        simpa using hu) (fun u hu => by
        simp only [List.mem_cons, List.not_mem_nil, or_false] at hu
        rcases hu with rfl | rfl <;> rfl) (by unfold maxLen; omega) (by omega) hb
    exact ⟨v', w1, h1, h2, h3⟩
end Go.Proofs.YtnicnfjickknjaaDoor

namespace Go.Proofs.YtnicnfjickknjaaDoor
open Go.RowKit

/-- While items are handed over. -/
structure ItF (w : World) (n0 : Nat) (hv : Value) (m : Int) (hi : List Int) (pre : List It) (v : Value) (ps : List IP) (k y : Part) (W : World) : Prop where
  b : Below w.heap.size w W
  ahi : Arr W n0 23 [hv]
  amost : Arr W (n0 + 1) 3 [.int .i64 m]
  amore : Arr W (n0 + 3) 4 [.bool false]
  li : LI W (n0 + 2) n0 pre v ps
  sk : Sl W k.ao k.n k.cap k.xs
  sy : Sl W y.ao y.n y.cap y.xs
  low : ∀ x ∈ pre, cmpL x.k hi < 0
theorem ItF.below {w : World} {n0 : Nat} {hv : Value} {m : Int} {hi : List Int} {pre : List It} {v : Value} {ps : List IP} {k y : Part} {W W' : World} (h : ItF w n0 hv m hi pre v ps k y W) (hb : Below W.heap.size W W') : ItF w n0 hv m hi pre v ps k y W' :=
  ⟨h.b.trans (hb.mono h.b.size), arr_below h.ahi hb, arr_below h.amost hb, arr_below h.amore hb, h.li.below hb, h.sk.below hb, h.sy.below hb, h.low⟩
theorem ItF.base {w : World} {n0 : Nat} {hv : Value} {m : Int} {hi : List Int} {pre : List It} {v : Value} {ps : List IP} {k y : Part} {W : World} (h : ItF w n0 hv m hi pre v ps k y W) (hN : n0 = w.heap.size) : n0 ≤ W.heap.size := by
  have := h.b.size
  omega
/-- Between two of them. -/
def ItI (w : World) (n0 : Nat) (hv : Value) (m : Int) (hi : List Int) (pre : List It) (W : World) : Prop :=
  Below w.heap.size w W ∧ Arr W n0 23 [hv] ∧ Arr W (n0 + 1) 3 [.int .i64 m] ∧ Arr W (n0 + 3) 4 [.bool false] ∧ (∃ v ps, LI W (n0 + 2) n0 pre v ps) ∧ (∀ x ∈ pre, cmpL x.k hi < 0) ∧ pre.length ≤ m.toNat ∧ pre.length ≤ 100000
theorem ItI.below {w : World} {n0 : Nat} {hv : Value} {m : Int} {hi : List Int} {pre : List It} {W W' : World} (h : ItI w n0 hv m hi pre W) (hb : Below W.heap.size W W') : ItI w n0 hv m hi pre W' := by
  obtain ⟨h1, h2, h3, h4, ⟨v, ps, h5⟩, h6⟩ := h
  exact ⟨h1.trans (hb.mono h1.size), arr_below h2 hb, arr_below h3 hb, arr_below h4 hb, ⟨v, ps, h5.below hb⟩, h6⟩
theorem ItI.step {w : World} {n0 : Nat} {hv : Value} {m : Int} {hi : List Int} {pre : List It} {v v' : Value} {ps qs : List IP} {k y : Part} {W W' : World} {x : It} (hN : n0 = w.heap.size) (h : ItF w n0 hv m hi pre v ps k y W)
    (hL : LI W' (n0 + 2) n0 (pre ++ [x]) v' qs) (hB : Below n0 W W') (hO : ∀ b t cs, Arr W b t cs → t ≠ 43 → b ≠ n0 + 2 → Arr W' b t cs) (hx : cmpL x.k hi < 0) (hm : ¬ m ≤ (pre.length : Int)) (hl : pre.length + 1 ≤ 100000) :
    ItI w n0 hv m hi (pre ++ [x]) W' := by
  subst hN
  refine ⟨h.b.trans hB, hO _ _ _ h.ahi (by decide) (by omega), hO _ _ _ h.amost (by decide) (by omega), hO _ _ _ h.amore (by decide) (by omega), ⟨v', qs, hL⟩, fun z hz => ?_, by simp; omega, by simpa using hl⟩
  rcases List.mem_append.1 hz with hz | hz
  · exact h.low z hz
  · rw [List.mem_singleton.1 hz]
    exact hx
/-- It was told to stop. -/
def ItS (w : World) (n0 : Nat) (m : Int) (hi : List Int) (F : List It) (W : World) : Prop :=
  Below w.heap.size w W ∧ ∃ b pre x post, pre ++ x :: post = F ∧ Arr W (n0 + 3) 4 [.bool b] ∧ (∃ v ps, LI W (n0 + 2) n0 pre v ps) ∧ (∀ z ∈ pre, cmpL z.k hi < 0) ∧ pre.length ≤ m.toNat ∧ ((b = false ∧ ¬ cmpL x.k hi < 0) ∨ (b = true ∧ cmpL x.k hi < 0 ∧ m.toNat ≤ pre.length))
theorem LI.other {w : World} {p base q : Nat} {l : List It} {v u : Value} {ps : List IP} {t : TypeId} {cs : List Value} (h : LI w p base l v ps) (ha : Arr w q t cs) (ht : t ≠ 43) (ht2 : t ≠ 5) (hne : p ≠ q) : LI (w.setCell ⟨q, 0, none⟩ u) p base l v ps :=
  ⟨h.arr.other _ u hne, h.row.kept (row := some q) (grown_set (a := w) (b := w) ⟨rfl, rfl, rfl, Nat.le_refl _, fun _ _ _ => rfl⟩ 0 u) (.inr (arr_not_row ha ht h.row)), h.its, fun r hr => ⟨(h.sl r hr).1.kp (KpB.set ha ht2 0 u), (h.sl r hr).2.kp (KpB.set ha ht2 0 u)⟩⟩

set_option maxHeartbeats 4000000 in
set_option maxRecDepth 100000 in
theorem itm_any (w : World) (n0 : Nat) (ho : Option Addr) (hn hc : Nat) (m : Int) (hi : List Int) (F pre : List It) (W : World) (k y : Part) (x : It) (HN : Hid (n0 = w.heap.size)) (hH : Sl w ho hn hc hi) (h : ItI w n0 (.slice ho hn hc) m hi pre W) (hF : ∃ post, pre ++ x :: post = F) (hk : k.xs = x.k) (hy : y.xs = x.v)
    (sk : Sl W k.ao k.n k.cap k.xs) (sy : Sl W y.ao y.n y.cap y.xs) (hkn : k.n ≤ 1000000) (hyn : y.n ≤ 1000000) (hlen : pre.length + 1 ≤ 100000) :
    Calls Tryd.prog 36 #[.slice k.ao k.n k.cap, .slice y.ao y.n y.cap, .pointer (some ⟨n0, 0, none⟩), .pointer (some ⟨n0 + 2, 0, none⟩), .pointer (some ⟨n0 + 1, 0, none⟩), .pointer (some ⟨n0 + 3, 0, none⟩)] W (WPost (ItI w n0 (.slice ho hn hc) m hi (pre ++ [x])) (ItS w n0 m hi F)) := by
  have hN1 : n0 ≤ w.heap.size := Nat.le_of_eq HN.out
  have hN2 : w.heap.size ≤ n0 := Nat.le_of_eq HN.out.symm
  obtain ⟨hb, a1, a2, a4, ⟨v, ps, L⟩, hlow, hpm, hpl⟩ := h
  obtain ⟨ao, cap, rfl, IL⟩ := L.slice
  have hpsl1 := Nat.le_of_eq L.len
  have hpsl2 := Nat.le_of_eq L.len.symm
  have X : ItF w n0 (.slice ho hn hc) m hi pre (.slice ao ps.length cap) ps k y W := ⟨hb, a1, a2, a4, L, sk, sy, hlow⟩
  have c1 := a1.cell 0
  have c2 := a2.cell 0
  have c3 := L.arr.cell 0
  have f4 := a4.free 0
  have c4 := a4.cell 0
  have CB := bcmp_any W k.ao ho k.n k.cap hn hc k.xs hi sk (hH.below hb)
  have HIT : Hid ((⟨k.xs, y.xs⟩ : It) = x) := by show _ = _; rw [hk, hy]
  have HF : Hid (∃ post, pre ++ x :: post = F) := hF
  have HK : Hid (k.xs = x.k) := hk
  clear hF hk hy IL
  obtain ⟨c, hcq⟩ : ∃ c, c = cmpL k.xs hi := ⟨_, rfl⟩
  rw [← hcq] at CB
  have HC : Hid (c = cmpL x.k hi) := by show _ = _; rw [hcq, HK.out]
  clear hcq HK
  go_enter Tryd.func36, Tryd.ntmps36
  go_wp2_with fail
  refine CB.mono ?_
  rintro e w2 ⟨rfl, hw⟩
  obtain rfl := hw.symm
  clear CB
  by_cases hc0 : c ≥ 0
  · go_wp2
    go_ret
    obtain ⟨post, hp⟩ := HF.out
    exact .inr ⟨rfl, hb, false, pre, x, post, hp, a4, ⟨_, ps, L⟩, hlow, hpm, .inl ⟨rfl, by have := HC.out; omega⟩⟩
  have HLT : Hid (cmpL x.k hi < 0) := by have := HC.out; show _ < _; omega
  by_cases hmore : m ≤ (pre.length : Int)
  · have hge : (ps.length : Int) ≥ m := by omega
    have A4 := a4.set 0 (.bool true)
    have L4 := L.other (u := .bool true) a4 (by decide) (by decide) (by omega)
    have B4 := hb.setCell (p := ⟨n0 + 3, 0, none⟩) (by show w.heap.size ≤ n0 + 3; omega) (.bool true)
    go_wp2
    go_ret
    obtain ⟨post, hp⟩ := HF.out
    exact .inr ⟨rfl, B4, true, pre, x, post, hp, A4, ⟨_, ps, L4⟩, hlow, hpm, .inr ⟨rfl, HLT.out, by omega⟩⟩
  have hge : ¬ (ps.length : Int) ≥ m := by omega
  go_wp2
  refine wp_region_noPanic ?_
  refine wp_region_held_drew (S := fun _ => True) (by kernel_rfl) trivial (fun _ => ?_)
  obtain ⟨v0, hv0⟩ : ∃ v, v = W.drew := ⟨_, rfl⟩
  rw [← hv0]
  have X0 : ItF w n0 (.slice ho hn hc) m hi pre (.slice ao ps.length cap) ps k y v0 := by rw [hv0]; exact X.below (Below.refl _ _).drew
  clear hv0 X
  refine hr_take_w 1 (some 18) (.slice k.ao k.n k.cap) rfl rfl (by kernel_rfl) (by kernel_rfl) (by kernel_rfl) rfl (fun W hW => by go_simp) trivial ?_
  simp only [Act.put, List.setIfInBounds_toArray, List.set_cons_zero, List.set_cons_succ]
  refine hr_take_w 3 (some 20) (.slice y.ao y.n y.cap) rfl rfl (by kernel_rfl) (by kernel_rfl) (by kernel_rfl) rfl (fun W hW => by go_simp) trivial ?_
  simp only [Act.put, List.setIfInBounds_toArray, List.set_cons_zero, List.set_cons_succ]
  refine hr_any (rs := [0, 2]) (by kernel_rfl) (by simp) ?_
  intro i hi
  simp only [List.mem_cons, List.not_mem_nil, or_false] at hi
  rcases hi with rfl | rfl
  · have lc : v0.cell? ⟨n0 + 2, 0, none⟩ = some (.slice ao ps.length cap) := X0.li.arr.cell 0
    refine op_ex 0 (some 17) rfl rfl rfl (R := fun v w' => v = .slice ao ps.length cap ∧ v0 = w') ⟨_, _, by go_simp, rfl, rfl⟩ ?_
    rintro v w' ⟨rfl, rfl⟩
    clear lc
    refine ⟨trivial, ?_⟩
    simp only [Act.put, List.setIfInBounds_toArray, List.set_cons_zero, List.set_cons_succ]
    refine hr_any (rs := [2]) (by kernel_rfl) (by simp) ?_
    intro i hi
    obtain rfl := List.mem_singleton.1 hi
    clear hi
    refine op_calls 2 (some 19) 29 #[.slice k.ao k.n k.cap] rfl rfl rfl (by go_simp) (fun v w' => ∃ ro rc, v = .slice ro k.n rc ∧ SlT w' ⟨ro, k.n, rc, k.xs⟩ ∧ Below v0.heap.size v0 w') ((ownT_any v0 k.ao k.n k.cap k.xs X0.sk hkn).mono (by
      rintro e w' ⟨ro, rc, rfl, F, C⟩
      exact ⟨_, rfl, ro, rc, rfl, F, C⟩)) ?_
    rintro v v1 ⟨ko, kc, rfl, SK, C⟩
    have X1 := X0.below C
    clear C
    refine ⟨trivial, ?_⟩
    simp only [Act.put, List.setIfInBounds_toArray, List.set_cons_zero, List.set_cons_succ]
    refine hr_any (rs := [4]) (by kernel_rfl) (by simp) ?_
    intro i hi
    obtain rfl := List.mem_singleton.1 hi
    clear hi
    refine op_calls 4 (some 21) 29 #[.slice y.ao y.n y.cap] rfl rfl rfl (by go_simp) (fun v w' => ∃ ro rc, v = .slice ro y.n rc ∧ SlT w' ⟨ro, y.n, rc, y.xs⟩ ∧ Below v1.heap.size v1 w') ((ownT_any v1 y.ao y.n y.cap y.xs X1.sy hyn).mono (by
      rintro e w' ⟨ro, rc, rfl, F, C⟩
      exact ⟨_, rfl, ro, rc, rfl, F, C⟩)) ?_
    rintro v v2 ⟨yo, yc, rfl, SY, C⟩
    have X2 := X1.below C
    have SK := SK.kp (KpB.below C)
    clear C
    refine ⟨trivial, ?_⟩
    simp only [Act.put, List.setIfInBounds_toArray, List.set_cons_zero, List.set_cons_succ]
    refine hr_take_w 5 (some 22) (.agg #[.slice ko k.n kc, .slice yo y.n yc]) rfl rfl (by kernel_rfl) (by kernel_rfl) (by kernel_rfl) rfl (fun W hW => by go_simp) trivial ?_
    simp only [Act.put, List.setIfInBounds_toArray, List.set_cons_zero, List.set_cons_succ]
    refine hr_any (rs := [6]) (by kernel_rfl) (by simp) ?_
    intro i hi
    obtain rfl := List.mem_singleton.1 hi
    clear hi
    refine op_ex 6 (some 23) rfl rfl rfl (R := fun v w' => ∃ g, v = .slice (some ⟨g, 0, none⟩) 1 1 ∧ w'.heap[g]? = some (.cells #[.slice ko k.n kc, .slice yo y.n yc] 43) ∧ Below v2.heap.size v2 w') ⟨_, _, by go_simp, _, rfl, heap_alloc_new v2 _, (Below.refl _ _).alloc (Nat.le_refl _) _⟩ ?_
    rintro v v3 ⟨g, rfl, G, C⟩
    have X3 := X2.below C
    have SK := SK.kp (KpB.below C)
    have SY := SY.kp (KpB.below C)
    clear C
    refine ⟨trivial, ?_⟩
    simp only [Act.put, List.setIfInBounds_toArray, List.set_cons_zero, List.set_cons_succ]
    refine hr_any (rs := [7]) (by kernel_rfl) (by simp) ?_
    intro i hi
    obtain rfl := List.mem_singleton.1 hi
    clear hi
    obtain ⟨nv, nw, ha, hr, hg⟩ := X3.li.app (q := ⟨⟨ko, k.n, kc, k.xs⟩, ⟨yo, y.n, yc, y.xs⟩⟩) (c := 1) (X3.base HN.out) (by omega) 26 G
    obtain ⟨L2, B2, O2⟩ := X3.li.put (X3.base HN.out) (by omega) SK SY hr hg
    have A2 := (arr_put X3.li.arr (by decide) X3.li.row (X3.base HN.out) (by omega) hr hg 0).1
    obtain ⟨ao2, cap2, hv2, -⟩ := L2.slice
    simp only [List.length_append, List.length_cons, List.length_nil, Nat.zero_add] at hv2
    subst hv2
    refine op_ex 7 (some 24) rfl rfl rfl (R := fun v w' => v = .slice ao2 (ps.length + 1) cap2 ∧ nw = w') ⟨_, nw, by simp [execOp, Act.eval, resolve, invoke, builtin, ha], rfl, rfl⟩ ?_
    rintro v w' ⟨rfl, rfl⟩
    refine ⟨trivial, ?_⟩
    simp only [Act.put, List.setIfInBounds_toArray, List.set_cons_zero, List.set_cons_succ]
    have f2 := A2.free 0
    have c2 := A2.cell 0
    refine hr_skip 8 none (w' := nw.setCell ⟨n0 + 2, 0, none⟩ (.slice ao2 (ps.length + 1) cap2)) rfl rfl (by kernel_rfl) rfl (by go_simp) trivial ?_
    simp only [Act.put]
    clear f2 c2
    refine wpAnyH_done (by kernel_rfl) ?_ _
    refine NoPanic.normal ?_
    go_wp2
    go_ret
    refine .inl ⟨rfl, ?_⟩
    have hit : (IP.it ⟨⟨ko, k.n, kc, k.xs⟩, ⟨yo, y.n, yc, y.xs⟩⟩) = x := HIT.out
    rw [hit] at L2
    exact ItI.step HN.out X3 L2 B2 O2 HLT.out (by omega) hlen
  · refine op_calls 2 (some 19) 29 #[.slice k.ao k.n k.cap] rfl rfl rfl (by go_simp) (fun v w' => ∃ ro rc, v = .slice ro k.n rc ∧ SlT w' ⟨ro, k.n, rc, k.xs⟩ ∧ Below v0.heap.size v0 w') ((ownT_any v0 k.ao k.n k.cap k.xs X0.sk hkn).mono (by
      rintro e w' ⟨ro, rc, rfl, F, C⟩
      exact ⟨_, rfl, ro, rc, rfl, F, C⟩)) ?_
    rintro v v1 ⟨ko, kc, rfl, SK, C⟩
    have X1 := X0.below C
    clear C
    refine ⟨trivial, ?_⟩
    simp only [Act.put, List.setIfInBounds_toArray, List.set_cons_zero, List.set_cons_succ]
    refine hr_any (rs := [0, 4]) (by kernel_rfl) (by simp) ?_
    intro i hi
    simp only [List.mem_cons, List.not_mem_nil, or_false] at hi
    rcases hi with rfl | rfl
    · have lc : v1.cell? ⟨n0 + 2, 0, none⟩ = some (.slice ao ps.length cap) := X1.li.arr.cell 0
      refine op_ex 0 (some 17) rfl rfl rfl (R := fun v w' => v = .slice ao ps.length cap ∧ v1 = w') ⟨_, _, by go_simp, rfl, rfl⟩ ?_
      rintro v w' ⟨rfl, rfl⟩
      clear lc
      refine ⟨trivial, ?_⟩
      simp only [Act.put, List.setIfInBounds_toArray, List.set_cons_zero, List.set_cons_succ]
      refine hr_any (rs := [4]) (by kernel_rfl) (by simp) ?_
      intro i hi
      obtain rfl := List.mem_singleton.1 hi
      clear hi
      refine op_calls 4 (some 21) 29 #[.slice y.ao y.n y.cap] rfl rfl rfl (by go_simp) (fun v w' => ∃ ro rc, v = .slice ro y.n rc ∧ SlT w' ⟨ro, y.n, rc, y.xs⟩ ∧ Below v1.heap.size v1 w') ((ownT_any v1 y.ao y.n y.cap y.xs X1.sy hyn).mono (by
        rintro e w' ⟨ro, rc, rfl, F, C⟩
        exact ⟨_, rfl, ro, rc, rfl, F, C⟩)) ?_
      rintro v v2 ⟨yo, yc, rfl, SY, C⟩
      have X2 := X1.below C
      have SK := SK.kp (KpB.below C)
      clear C
      refine ⟨trivial, ?_⟩
      simp only [Act.put, List.setIfInBounds_toArray, List.set_cons_zero, List.set_cons_succ]
      refine hr_take_w 5 (some 22) (.agg #[.slice ko k.n kc, .slice yo y.n yc]) rfl rfl (by kernel_rfl) (by kernel_rfl) (by kernel_rfl) rfl (fun W hW => by go_simp) trivial ?_
      simp only [Act.put, List.setIfInBounds_toArray, List.set_cons_zero, List.set_cons_succ]
      refine hr_any (rs := [6]) (by kernel_rfl) (by simp) ?_
      intro i hi
      obtain rfl := List.mem_singleton.1 hi
      clear hi
      refine op_ex 6 (some 23) rfl rfl rfl (R := fun v w' => ∃ g, v = .slice (some ⟨g, 0, none⟩) 1 1 ∧ w'.heap[g]? = some (.cells #[.slice ko k.n kc, .slice yo y.n yc] 43) ∧ Below v2.heap.size v2 w') ⟨_, _, by go_simp, _, rfl, heap_alloc_new v2 _, (Below.refl _ _).alloc (Nat.le_refl _) _⟩ ?_
      rintro v v3 ⟨g, rfl, G, C⟩
      have X3 := X2.below C
      have SK := SK.kp (KpB.below C)
      have SY := SY.kp (KpB.below C)
      clear C
      refine ⟨trivial, ?_⟩
      simp only [Act.put, List.setIfInBounds_toArray, List.set_cons_zero, List.set_cons_succ]
      refine hr_any (rs := [7]) (by kernel_rfl) (by simp) ?_
      intro i hi
      obtain rfl := List.mem_singleton.1 hi
      clear hi
      obtain ⟨nv, nw, ha, hr, hg⟩ := X3.li.app (q := ⟨⟨ko, k.n, kc, k.xs⟩, ⟨yo, y.n, yc, y.xs⟩⟩) (c := 1) (X3.base HN.out) (by omega) 26 G
      obtain ⟨L2, B2, O2⟩ := X3.li.put (X3.base HN.out) (by omega) SK SY hr hg
      have A2 := (arr_put X3.li.arr (by decide) X3.li.row (X3.base HN.out) (by omega) hr hg 0).1
      obtain ⟨ao2, cap2, hv2, -⟩ := L2.slice
      simp only [List.length_append, List.length_cons, List.length_nil, Nat.zero_add] at hv2
      subst hv2
      refine op_ex 7 (some 24) rfl rfl rfl (R := fun v w' => v = .slice ao2 (ps.length + 1) cap2 ∧ nw = w') ⟨_, nw, by simp [execOp, Act.eval, resolve, invoke, builtin, ha], rfl, rfl⟩ ?_
      rintro v w' ⟨rfl, rfl⟩
      refine ⟨trivial, ?_⟩
      simp only [Act.put, List.setIfInBounds_toArray, List.set_cons_zero, List.set_cons_succ]
      have f2 := A2.free 0
      have c2 := A2.cell 0
      refine hr_skip 8 none (w' := nw.setCell ⟨n0 + 2, 0, none⟩ (.slice ao2 (ps.length + 1) cap2)) rfl rfl (by kernel_rfl) rfl (by go_simp) trivial ?_
      simp only [Act.put]
      clear f2 c2
      refine wpAnyH_done (by kernel_rfl) ?_ _
      refine NoPanic.normal ?_
      go_wp2
      go_ret
      refine .inl ⟨rfl, ?_⟩
      have hit : (IP.it ⟨⟨ko, k.n, kc, k.xs⟩, ⟨yo, y.n, yc, y.xs⟩⟩) = x := HIT.out
      rw [hit] at L2
      exact ItI.step HN.out X3 L2 B2 O2 HLT.out (by omega) hlen
    · refine op_calls 4 (some 21) 29 #[.slice y.ao y.n y.cap] rfl rfl rfl (by go_simp) (fun v w' => ∃ ro rc, v = .slice ro y.n rc ∧ SlT w' ⟨ro, y.n, rc, y.xs⟩ ∧ Below v1.heap.size v1 w') ((ownT_any v1 y.ao y.n y.cap y.xs X1.sy hyn).mono (by
        rintro e w' ⟨ro, rc, rfl, F, C⟩
        exact ⟨_, rfl, ro, rc, rfl, F, C⟩)) ?_
      rintro v v2 ⟨yo, yc, rfl, SY, C⟩
      have X2 := X1.below C
      have SK := SK.kp (KpB.below C)
      clear C
      refine ⟨trivial, ?_⟩
      simp only [Act.put, List.setIfInBounds_toArray, List.set_cons_zero, List.set_cons_succ]
      refine hr_take_w 5 (some 22) (.agg #[.slice ko k.n kc, .slice yo y.n yc]) rfl rfl (by kernel_rfl) (by kernel_rfl) (by kernel_rfl) rfl (fun W hW => by go_simp) trivial ?_
      simp only [Act.put, List.setIfInBounds_toArray, List.set_cons_zero, List.set_cons_succ]
      refine hr_any (rs := [0, 6]) (by kernel_rfl) (by simp) ?_
      intro i hi
      simp only [List.mem_cons, List.not_mem_nil, or_false] at hi
      rcases hi with rfl | rfl
      · have lc : v2.cell? ⟨n0 + 2, 0, none⟩ = some (.slice ao ps.length cap) := X2.li.arr.cell 0
        refine op_ex 0 (some 17) rfl rfl rfl (R := fun v w' => v = .slice ao ps.length cap ∧ v2 = w') ⟨_, _, by go_simp, rfl, rfl⟩ ?_
        rintro v w' ⟨rfl, rfl⟩
        clear lc
        refine ⟨trivial, ?_⟩
        simp only [Act.put, List.setIfInBounds_toArray, List.set_cons_zero, List.set_cons_succ]
        refine hr_any (rs := [6]) (by kernel_rfl) (by simp) ?_
        intro i hi
        obtain rfl := List.mem_singleton.1 hi
        clear hi
        refine op_ex 6 (some 23) rfl rfl rfl (R := fun v w' => ∃ g, v = .slice (some ⟨g, 0, none⟩) 1 1 ∧ w'.heap[g]? = some (.cells #[.slice ko k.n kc, .slice yo y.n yc] 43) ∧ Below v2.heap.size v2 w') ⟨_, _, by go_simp, _, rfl, heap_alloc_new v2 _, (Below.refl _ _).alloc (Nat.le_refl _) _⟩ ?_
        rintro v v3 ⟨g, rfl, G, C⟩
        have X3 := X2.below C
        have SK := SK.kp (KpB.below C)
        have SY := SY.kp (KpB.below C)
        clear C
        refine ⟨trivial, ?_⟩
        simp only [Act.put, List.setIfInBounds_toArray, List.set_cons_zero, List.set_cons_succ]
        refine hr_any (rs := [7]) (by kernel_rfl) (by simp) ?_
        intro i hi
        obtain rfl := List.mem_singleton.1 hi
        clear hi
        obtain ⟨nv, nw, ha, hr, hg⟩ := X3.li.app (q := ⟨⟨ko, k.n, kc, k.xs⟩, ⟨yo, y.n, yc, y.xs⟩⟩) (c := 1) (X3.base HN.out) (by omega) 26 G
        obtain ⟨L2, B2, O2⟩ := X3.li.put (X3.base HN.out) (by omega) SK SY hr hg
        have A2 := (arr_put X3.li.arr (by decide) X3.li.row (X3.base HN.out) (by omega) hr hg 0).1
        obtain ⟨ao2, cap2, hv2, -⟩ := L2.slice
        simp only [List.length_append, List.length_cons, List.length_nil, Nat.zero_add] at hv2
        subst hv2
        refine op_ex 7 (some 24) rfl rfl rfl (R := fun v w' => v = .slice ao2 (ps.length + 1) cap2 ∧ nw = w') ⟨_, nw, by simp [execOp, Act.eval, resolve, invoke, builtin, ha], rfl, rfl⟩ ?_
        rintro v w' ⟨rfl, rfl⟩
        refine ⟨trivial, ?_⟩
        simp only [Act.put, List.setIfInBounds_toArray, List.set_cons_zero, List.set_cons_succ]
        have f2 := A2.free 0
        have c2 := A2.cell 0
        refine hr_skip 8 none (w' := nw.setCell ⟨n0 + 2, 0, none⟩ (.slice ao2 (ps.length + 1) cap2)) rfl rfl (by kernel_rfl) rfl (by go_simp) trivial ?_
        simp only [Act.put]
        clear f2 c2
        refine wpAnyH_done (by kernel_rfl) ?_ _
        refine NoPanic.normal ?_
        go_wp2
        go_ret
        refine .inl ⟨rfl, ?_⟩
        have hit : (IP.it ⟨⟨ko, k.n, kc, k.xs⟩, ⟨yo, y.n, yc, y.xs⟩⟩) = x := HIT.out
        rw [hit] at L2
        exact ItI.step HN.out X3 L2 B2 O2 HLT.out (by omega) hlen
      · refine op_ex 6 (some 23) rfl rfl rfl (R := fun v w' => ∃ g, v = .slice (some ⟨g, 0, none⟩) 1 1 ∧ w'.heap[g]? = some (.cells #[.slice ko k.n kc, .slice yo y.n yc] 43) ∧ Below v2.heap.size v2 w') ⟨_, _, by go_simp, _, rfl, heap_alloc_new v2 _, (Below.refl _ _).alloc (Nat.le_refl _) _⟩ ?_
        rintro v v3 ⟨g, rfl, G, C⟩
        have X3 := X2.below C
        have SK := SK.kp (KpB.below C)
        have SY := SY.kp (KpB.below C)
        clear C
        refine ⟨trivial, ?_⟩
        simp only [Act.put, List.setIfInBounds_toArray, List.set_cons_zero, List.set_cons_succ]
        refine hr_any (rs := [0]) (by kernel_rfl) (by simp) ?_
        intro i hi
        obtain rfl := List.mem_singleton.1 hi
        clear hi
        have lc : v3.cell? ⟨n0 + 2, 0, none⟩ = some (.slice ao ps.length cap) := X3.li.arr.cell 0
        refine op_ex 0 (some 17) rfl rfl rfl (R := fun v w' => v = .slice ao ps.length cap ∧ v3 = w') ⟨_, _, by go_simp, rfl, rfl⟩ ?_
        rintro v w' ⟨rfl, rfl⟩
        clear lc
        refine ⟨trivial, ?_⟩
        simp only [Act.put, List.setIfInBounds_toArray, List.set_cons_zero, List.set_cons_succ]
        refine hr_any (rs := [7]) (by kernel_rfl) (by simp) ?_
        intro i hi
        obtain rfl := List.mem_singleton.1 hi
        clear hi
        obtain ⟨nv, nw, ha, hr, hg⟩ := X3.li.app (q := ⟨⟨ko, k.n, kc, k.xs⟩, ⟨yo, y.n, yc, y.xs⟩⟩) (c := 1) (X3.base HN.out) (by omega) 26 G
        obtain ⟨L2, B2, O2⟩ := X3.li.put (X3.base HN.out) (by omega) SK SY hr hg
        have A2 := (arr_put X3.li.arr (by decide) X3.li.row (X3.base HN.out) (by omega) hr hg 0).1
        obtain ⟨ao2, cap2, hv2, -⟩ := L2.slice
        simp only [List.length_append, List.length_cons, List.length_nil, Nat.zero_add] at hv2
        subst hv2
        refine op_ex 7 (some 24) rfl rfl rfl (R := fun v w' => v = .slice ao2 (ps.length + 1) cap2 ∧ nw = w') ⟨_, nw, by simp [execOp, Act.eval, resolve, invoke, builtin, ha], rfl, rfl⟩ ?_
        rintro v w' ⟨rfl, rfl⟩
        refine ⟨trivial, ?_⟩
        simp only [Act.put, List.setIfInBounds_toArray, List.set_cons_zero, List.set_cons_succ]
        have f2 := A2.free 0
        have c2 := A2.cell 0
        refine hr_skip 8 none (w' := nw.setCell ⟨n0 + 2, 0, none⟩ (.slice ao2 (ps.length + 1) cap2)) rfl rfl (by kernel_rfl) rfl (by go_simp) trivial ?_
        simp only [Act.put]
        clear f2 c2
        refine wpAnyH_done (by kernel_rfl) ?_ _
        refine NoPanic.normal ?_
        go_wp2
        go_ret
        refine .inl ⟨rfl, ?_⟩
        have hit : (IP.it ⟨⟨ko, k.n, kc, k.xs⟩, ⟨yo, y.n, yc, y.xs⟩⟩) = x := HIT.out
        rw [hit] at L2
        exact ItI.step HN.out X3 L2 B2 O2 HLT.out (by omega) hlen
end Go.Proofs.YtnicnfjickknjaaDoor

namespace Go.Proofs.YtnicnfjickknjaaDoor
open Go.RowKit

/-- The items from a key on, below another one. -/
def btw (a b : List Int) (l : List It) : List It := (ge a l).filter fun x => decide (cmpL x.k b < 0)
theorem Srt.ofGe {l : List It} (h : Srt l) (k : List Int) : Srt (ge k l) := List.Pairwise.filter _ h
theorem low_all {F : List It} {b : List Int} (h : ∀ x ∈ F, cmpL x.k b < 0) : (F.filter fun x => decide (cmpL x.k b < 0)) = F := List.filter_eq_self.2 fun x hx => decide_eq_true (h x hx)
theorem low_stop {F pre post : List It} {x : It} {b : List Int} (hs : Srt F) (e : pre ++ x :: post = F) (h : ∀ z ∈ pre, cmpL z.k b < 0) (hx : ¬ cmpL x.k b < 0) : (F.filter fun x => decide (cmpL x.k b < 0)) = pre := by
  subst e
  have h2 : ∀ z ∈ x :: post, ¬ cmpL z.k b < 0 := fun z hz => by
    rcases List.mem_cons.1 hz with rfl | hz
    · exact hx
    · intro hlt
      exact hx (cmpL_lt_trans _ _ _ (hs.app.2.1.cons.1 z hz) hlt)
  rw [List.filter_append, low_all h, List.filter_eq_nil_iff.2 fun z hz => by simpa using h2 z hz, List.append_nil]
theorem low_go {F pre post : List It} {x : It} {b : List Int} (e : pre ++ x :: post = F) (h : ∀ z ∈ pre, cmpL z.k b < 0) (hx : cmpL x.k b < 0) : ∃ r, (F.filter fun x => decide (cmpL x.k b < 0)) = pre ++ x :: r := by
  subst e
  refine ⟨post.filter fun x => decide (cmpL x.k b < 0), ?_⟩
  rw [List.filter_append, low_all h, List.filter_cons, if_pos (by simpa using hx)]

theorem belowDrewN {B : Nat} {a w : World} (h : Below B a w) (q : Nat) : Below B a (w.drewN q) := ⟨h.os, h.tape, h.output, h.size, h.block⟩
/-- What Items answers. -/
def ItemsPost (w : World) (l : List It) (a b : List Int) (m : Int) (e : Ending) (w' : World) : Prop := ∃ ao n cap ps t, e = .returned (.tuple #[.slice ao n cap, .bool t]) ∧ IL w' ao n cap ps ∧ ps.map IP.it = (btw a b l).take m.toNat ∧ t = decide (m.toNat < (btw a b l).length) ∧ Below w.heap.size w w'

set_option maxHeartbeats 4000000 in
set_option maxRecDepth 100000 in
theorem titems_any (w : World) (v : Value) (l : List It) (lo hi : List Int) (xo ho : Option Addr) (xn xc hn hc : Nat) (m : Int) (h : TT w v l) (hs : Srt l) (hx : Sl w xo xn xc lo) (hh : Sl w ho hn hc hi) (hl : l.length ≤ 50000) (hsz : ∀ x ∈ l, x.k.length ≤ 1000000 ∧ x.v.length ≤ 1000000) :
    Calls Tryd.prog 14 #[v, .slice xo xn xc, .slice ho hn hc, .int .i64 m] w (ItemsPost w l lo hi m) := by
  obtain ⟨Wa, hWa⟩ : ∃ W, W = w.alloc (.cells #[.slice ho hn hc] 23) := ⟨_, rfl⟩
  obtain ⟨Wb, hWb⟩ : ∃ W, W = Wa.alloc (.cells #[.int .i64 m] 3) := ⟨_, rfl⟩
  obtain ⟨Wc, hWc⟩ : ∃ W, W = Wb.alloc (.cells #[.slice none 0 0] 26) := ⟨_, rfl⟩
  obtain ⟨Wd, hWd⟩ : ∃ W, W = Wc.alloc (.cells #[.bool false] 4) := ⟨_, rfl⟩
  have Ba : Below w.heap.size w Wa := by rw [hWa]; exact (Below.refl _ w).alloc (Nat.le_refl _) _
  have Bb : Below Wa.heap.size Wa Wb := by rw [hWb]; exact (Below.refl _ Wa).alloc (Nat.le_refl _) _
  have Bc : Below Wb.heap.size Wb Wc := by rw [hWc]; exact (Below.refl _ Wb).alloc (Nat.le_refl _) _
  have Bd : Below Wc.heap.size Wc Wd := by rw [hWd]; exact (Below.refl _ Wc).alloc (Nat.le_refl _) _
  have sa : Wa.heap.size = w.heap.size + 1 := by rw [hWa]; exact Array.size_push ..
  have sb : Wb.heap.size = w.heap.size + 2 := by rw [hWb]; exact (Array.size_push ..).trans (by rw [sa])
  have sc : Wc.heap.size = w.heap.size + 3 := by rw [hWc]; exact (Array.size_push ..).trans (by rw [sb])
  have A1 : Arr Wa w.heap.size 23 [.slice ho hn hc] := by rw [hWa]; exact heap_alloc_new w _
  have A2 : Arr Wb (w.heap.size + 1) 3 [.int .i64 m] := by rw [hWb, ← sa]; exact heap_alloc_new Wa _
  have A3 : Arr Wc (w.heap.size + 2) 26 [.slice none 0 0] := by rw [hWc, ← sb]; exact heap_alloc_new Wb _
  have A4 : Arr Wd (w.heap.size + 3) 4 [.bool false] := by rw [hWd, ← sc]; exact heap_alloc_new Wc _
  have A3 := arr_below A3 Bd
  have A2 := arr_below (arr_below A2 Bc) Bd
  have A1 := arr_below (arr_below (arr_below A1 Bb) Bc) Bd
  have B0 : Below w.heap.size w Wd := ((Ba.trans (Bb.mono Ba.size)).trans (Bc.mono (by omega))).trans (Bd.mono (by omega))
  have L0 : LI Wd (w.heap.size + 2) w.heap.size [] (.slice none 0 0) [] := ⟨A3, World.ownsRow_nil Wd _ _ 2, rfl, fun _ h => by simp at h⟩
  have CS := shared_at w Wd v l h B0
  obtain ⟨po, rfl⟩ := h.ptr
  clear Ba Bb Bc Bd sa sb sc A3
  go_enter Tryd.func14, Tryd.ntmps14
  go_wp2_with fail
  rw [← hWa, ← hWb, ← hWc, ← hWd]
  clear hWa hWb hWc hWd
  refine CS.mono ?_
  rintro e w1 ⟨q, rfl, hT, hw1⟩
  obtain rfl := hw1.symm
  clear CS
  have CW := walk_fuel w 36 #[.pointer (some ⟨w.heap.size, 0, none⟩), .pointer (some ⟨w.heap.size + 2, 0, none⟩), .pointer (some ⟨w.heap.size + 1, 0, none⟩), .pointer (some ⟨w.heap.size + 3, 0, none⟩)] (enters_of Tryd.func36 (by kernel_rfl) rfl)
    (ItI w w.heap.size (.slice ho hn hc) m hi) (ItS w w.heap.size m hi (ge lo l)) (fun x => x.k.length ≤ 1000000 ∧ x.v.length ≤ 1000000) (ge lo l)
    (fun _ _ h => h.1) (fun _ h => h.1) (fun pre W W' h hb => h.below hb) lo xo xn xc hx
    (fun pre W k y x hI hok hF _ hk hy sk sy => itm_any w w.heap.size ho hn hc m hi (ge lo l) pre W k y x rfl hh hI hF hk hy sk sy (by rw [← sk.len, hk]; exact hok.1) (by rw [← sy.len, hy]; exact hok.2) (by
      obtain ⟨post, e⟩ := hF
      have := congrArg List.length e
      have h2 := List.length_filter_le (fun x : It => decide (¬ cmpL x.k lo < 0)) l
      have h3 : (ge lo l).length ≤ l.length := h2
      simp only [List.length_append, List.length_cons] at this
      omega))
    l.length l (.pointer q) [] [] Wd (Nat.le_refl _) (by simp) hT hs hsz (by omega) ⟨B0, A1, A2, A4, ⟨_, _, L0⟩, fun _ h => by simp at h, Nat.zero_le _, Nat.zero_le _⟩
  rw [List.nil_append] at CW
  clear hT A1 A2 A4 L0
  go_wp2_with fail
  refine CW.mono ?_
  clear CW
  rintro e w2 (⟨rfl, hb, -, -, a4, ⟨u, ps, L⟩, hlow, hlen, -⟩ | ⟨rfl, hb, t, pre, x, post, e, a4, ⟨u, ps, L⟩, hlow, hlen, hd⟩)
  · obtain ⟨ao, cap, rfl, hI⟩ := L.slice
    have c3 : w2.cell? ⟨w.heap.size + 1 + 1, 0, none⟩ = some (.slice ao ps.length cap) := L.arr.cell 0
    have c4 : w2.cell? ⟨w.heap.size + 1 + 1 + 1, 0, none⟩ = some (.bool false) := a4.cell 0
    have E := low_all hlow
    have HE : Hid (btw lo hi l = ge lo l) := E
    clear E
    go_wp2_with fail
    go_quiet (fail)
    go_wp2
    go_ret2
    refine ⟨ao, ps.length, cap, ps, false, rfl, hI.below (belowDrewN (Below.refl _ w2) _), ?_, ?_, belowDrewN hb _⟩
    · rw [L.its, HE.out, List.take_of_length_le hlen]
    · rw [HE.out]
      exact (decide_eq_false (by omega)).symm
  · obtain ⟨ao, cap, rfl, hI⟩ := L.slice
    have c3 : w2.cell? ⟨w.heap.size + 1 + 1, 0, none⟩ = some (.slice ao ps.length cap) := L.arr.cell 0
    have c4 : w2.cell? ⟨w.heap.size + 1 + 1 + 1, 0, none⟩ = some (.bool t) := a4.cell 0
    have HE : Hid ((btw lo hi l).take m.toNat = pre ∧ t = decide (m.toNat < (btw lo hi l).length)) := by
      rcases hd with ⟨rfl, hx⟩ | ⟨rfl, hx, hm⟩
      · have E : btw lo hi l = pre := low_stop (hs.ofGe lo) e hlow hx
        exact ⟨by rw [E, List.take_of_length_le hlen], by rw [E]; exact (decide_eq_false (by omega)).symm⟩
      · obtain ⟨r, E⟩ := low_go e hlow hx
        have E : btw lo hi l = pre ++ x :: r := E
        have hml : m.toNat = pre.length := by omega
        exact ⟨by rw [E, hml, List.take_left'  rfl], by rw [E, hml]; exact (decide_eq_true (by simp)).symm⟩
    clear hd e hlow
    go_wp2_with fail
    go_quiet (fail)
    go_wp2
    go_ret2
    exact ⟨ao, ps.length, cap, ps, t, rfl, hI.below (belowDrewN (Below.refl _ w2) _), by rw [L.its]; exact HE.out.1.symm, HE.out.2, belowDrewN hb _⟩
end Go.Proofs.YtnicnfjickknjaaDoor

namespace Go
open Go.RowKit
/-- Listed, besides. -/
def setL (L : Array Bool) (is : List Nat) : Array Bool := is.foldl (fun L i => L.setIfInBounds i true) L
theorem setL_size (is : List Nat) : ∀ L : Array Bool, (setL L is).size = L.size := by
  induction is with
  | nil => intro L; rfl
  | cons i is ih => intro L; exact (ih _).trans (by simp)
theorem setL_get (is : List Nat) : ∀ (L : Array Bool) (j : Nat), j < L.size → (setL L is).getD j true = (L.getD j true || is.contains j) := by
  induction is with
  | nil => intro L j _; simp [setL]
  | cons i is ih =>
    intro L j hj
    have h := ih (L.setIfInBounds i true) j (by simpa using hj)
    show (setL (L.setIfInBounds i true) is).getD j true = _
    rw [h]
    by_cases hij : i = j
    · subst hij
      have : (L.setIfInBounds i true).getD i true = true := by simp [hj]
      rw [this]
      simp
    · rw [getD_set_ne true hij]
      have : (i :: is).contains j = is.contains j := by
        rw [List.contains_cons, show (j == i) = false by simpa using fun e => hij e.symm, Bool.false_or]
      rw [this]
theorem arr_ext {A B : Array Bool} (hs : A.size = B.size) (h : ∀ j, j < A.size → A.getD j true = B.getD j true) : A = B := by
  refine Array.ext hs fun j h1 h2 => ?_
  have := h j h1
  simpa [h1, h2] using this
/-- What operation i waits for has come up. -/
def depOk (ops : Array Oper) (L : Array Bool) (i : Nat) : Bool := ((ops[i]?).map (·.after.all fun e => !Region.binds .any e || L.getD e.on false)).getD false
theorem depOk_of {ops : Array Oper} {L : Array Bool} {i : Nat} {o : Oper} (ho : ops[i]? = some o) (h : ∀ e ∈ o.after, Region.binds .any e = true → L.getD e.on false = true) : depOk ops L i = true := by
  simp only [depOk, ho, Option.map_some, Option.getD_some]
  refine Array.all_eq_true_iff_forall_mem.2 fun e he => ?_
  by_cases hb : Region.binds .any e = true
  · rw [h e he hb, Bool.or_true]
  · simp [hb]
theorem getD_set_on {L : Array Bool} {i j : Nat} (h : L.getD j false = true) : (L.setIfInBounds i true).getD j false = true := by
  by_cases hij : i = j
  · subst hij
    by_cases hlt : i < L.size
    · simp [hlt]
    · simp [hlt] at h
  · simp only [Array.getD_eq_getD_getElem?] at h ⊢
    rw [Array.getElem?_setIfInBounds_ne hij]
    exact h
theorem depOk_set {ops : Array Oper} {L : Array Bool} {i j : Nat} (h : depOk ops L i = true) : depOk ops (L.setIfInBounds j true) i = true := by
  cases ho : ops[i]? with
  | none => simp [depOk, ho] at h
  | some o =>
    refine depOk_of ho fun e he hb => ?_
    simp only [depOk, ho, Option.map_some, Option.getD_some] at h
    have := Array.all_eq_true_iff_forall_mem.1 h e he
    rw [hb, Bool.not_true, Bool.false_or] at this
    exact getD_set_on this
/-- Whichever of them have come up, as long as some have not: one of them may come up, and no other. -/
def effChk (ops : Array Oper) (all : List Nat) : List Nat → Array Bool → Bool → Bool
  | [], L, sk => !sk || !(all.all fun i => !L.getD i true || depOk ops L i) || (!(Region.ready .any ops L).isEmpty && (Region.ready .any ops L).all fun j => all.contains j)
  | i :: is, L, sk => effChk ops all is (L.setIfInBounds i true) sk && effChk ops all is L true
theorem effChk_spec {ops : Array Oper} {all : List Nat} (c : Nat → Bool) : ∀ (is : List Nat) (L : Array Bool) (sk : Bool), effChk ops all is L sk = true → (sk = true ∨ ∃ i ∈ is, c i = false) → (∀ i ∈ all, (setL L (is.filter c)).getD i true = true → depOk ops (setL L (is.filter c)) i = true) →
    Region.ready .any ops (setL L (is.filter c)) ≠ [] ∧ ∀ j ∈ Region.ready .any ops (setL L (is.filter c)), j ∈ all
  | [], L, sk, h, hs, hcl => by
    rcases hs with rfl | ⟨i, hi, _⟩
    · have hcl' : (all.all fun i => !L.getD i true || depOk ops L i) = true := List.all_eq_true.2 fun i hi => by
        by_cases hL : L.getD i true = true
        · have := hcl i hi hL
          have h2 : depOk ops L i = true := this
          rw [h2, Bool.or_true]
        · have h2 : L.getD i true = false := by simpa using hL
          rw [h2]
          rfl
      simp only [effChk, hcl', Bool.not_true, Bool.false_or, Bool.and_eq_true] at h
      refine ⟨fun e => ?_, fun j hj => ?_⟩
      · have : Region.ready .any ops L = [] := e
        rw [this] at h
        simp at h
      · have := List.all_eq_true.1 h.2 j hj
        simpa using this
    · simp at hi
  | i :: is, L, sk, h, hs, hcl => by
    simp only [effChk, Bool.and_eq_true] at h
    by_cases hc : c i = true
    · rw [List.filter_cons, if_pos hc] at hcl ⊢
      refine effChk_spec c is (L.setIfInBounds i true) sk h.1 ?_ hcl
      rcases hs with hs | ⟨j, hj, hf⟩
      · exact .inl hs
      · rcases List.mem_cons.1 hj with rfl | hj
        · rw [hc] at hf; simp at hf
        · exact .inr ⟨j, hj, hf⟩
    · rw [List.filter_cons, if_neg hc] at hcl ⊢
      exact effChk_spec c is L true h.2 (.inl rfl) hcl
/-- How many have not come up. -/
def unC (c : Nat → Bool) : List Nat → Nat
  | [] => 0
  | i :: is => unC c is + (if c i then 0 else 1)
theorem unC_same {c d : Nat → Bool} : ∀ (is : List Nat), (∀ i ∈ is, c i = d i) → unC c is = unC d is
  | [], _ => rfl
  | i :: is, h => by rw [unC, unC, unC_same is (fun j hj => h j (List.mem_cons_of_mem _ hj)), h i (List.mem_cons_self ..)]
theorem unC_set {c : Nat → Bool} {i : Nat} (hc : c i = false) : ∀ (is : List Nat), is.Nodup → i ∈ is → unC c is = unC (fun j => c j || j == i) is + 1
  | [], _, h => by simp at h
  | j :: is, hn, h => by
    have hn' := List.nodup_cons.1 hn
    rw [unC, unC]
    by_cases hji : j = i
    · subst hji
      have := unC_same (c := c) (d := fun k => c k || k == j) is (fun k hk => by
        have hne : k ≠ j := fun e => hn'.1 (e ▸ hk)
        have : (k == j) = false := by simpa using hne
        simp [this])
      rw [← this, hc]
      simp
    · have hi : i ∈ is := by
        rcases List.mem_cons.1 h with h | h
        · exact absurd h.symm hji
        · exact h
      have ih := unC_set hc is hn'.2 hi
      have : (j == i) = false := by simpa using hji
      rw [ih]
      simp only [this, Bool.or_false]
      omega
theorem unC_zero {c : Nat → Bool} : ∀ (is : List Nat), unC c is = 0 → ∀ i ∈ is, c i = true
  | [], _, i, h => by simp at h
  | j :: is, h0, i, h => by
    rw [unC] at h0
    rcases List.mem_cons.1 h with rfl | h
    · by_cases hc : c i = true
      · exact hc
      · rw [if_neg hc] at h0; omega
    · exact unC_zero is (by omega) i h
theorem unC_none : ∀ (is : List Nat), unC (fun _ => false) is = is.length
  | [] => rfl
  | i :: is => by rw [unC, unC_none is]; simp
/-- The slots of those that came up. -/
def putL (a : Act) (f : Nat → Value) (ids : List (Nat × Nat)) : Act := ids.foldl (fun a p => a.put (some p.2) (f p.1)) a
theorem putL_size (f : Nat → Value) (ids : List (Nat × Nat)) : ∀ a : Act, (putL a f ids).tmps.size = a.tmps.size := by
  induction ids with
  | nil => intro a; rfl
  | cons p ids ih => intro a; exact (ih _).trans (by simp [Act.put])
theorem putL_defers (f : Nat → Value) (ids : List (Nat × Nat)) : ∀ a : Act, (putL a f ids).defers = a.defers := by
  induction ids with
  | nil => intro a; rfl
  | cons p ids ih => intro a; exact (ih _).trans rfl
theorem putL_other (f : Nat → Value) (k : Nat) (ids : List (Nat × Nat)) : ∀ a : Act, (∀ p ∈ ids, p.2 ≠ k) → (putL a f ids).tmps[k]? = a.tmps[k]? := by
  induction ids with
  | nil => intro a _; rfl
  | cons p ids ih =>
    intro a h
    have h1 := ih (a.put (some p.2) (f p.1)) (fun q hq => h q (List.mem_cons_of_mem _ hq))
    refine h1.trans ?_
    have hne := h p (List.mem_cons_self ..)
    simp [Act.put, Array.getElem?_setIfInBounds_ne hne]
theorem putL_at (f : Nat → Value) : ∀ (ids : List (Nat × Nat)) (a : Act), (ids.map (·.2)).Nodup → ∀ p ∈ ids, p.2 < a.tmps.size → (putL a f ids).tmps[p.2]? = some (f p.1)
  | [], a, _, p, h, _ => by simp at h
  | q :: ids, a, hn, p, h, hlt => by
    have hn' := List.nodup_cons.1 hn
    rcases List.mem_cons.1 h with rfl | h
    · have h1 := putL_other f p.2 ids (a.put (some p.2) (f p.1)) (fun q hq e => hn'.1 (List.mem_map.2 ⟨q, hq, e⟩))
      refine h1.trans ?_
      simp [Act.put, hlt]
    · exact putL_at f ids (a.put (some q.2) (f q.1)) hn'.2 p h (by simpa [Act.put] using hlt)
/-- The test of the whole. -/
def effTo (ops : Array Oper) (L0 : Array Bool) (ids : List (Nat × Nat)) (n : Nat) : Bool :=
  ids.all (fun p => decide (p.2 < n) && !L0.getD p.1 true && (match ops[p.1]? with | some o => o.dst == some p.2 && o.guard.isNone | none => false)) &&
  effChk ops (ids.map (·.1)) (ids.map (·.1)) L0 false && decide (L0.size = ops.size)
/-- What has come up of what an operation waits for. -/
def EffGot (ids : List (Nat × Nat)) (F : Nat → Value → World → Prop) (a : Act) (w : World) (j : Nat) : Prop := ∀ p ∈ ids, p.1 = j → ∃ v, a.tmps[p.2]? = some v ∧ F j v w
structure EffKeep (ids : List (Nat × Nat)) (a0 a : Act) : Prop where
  defers : a.defers = a0.defers
  size : a.tmps.size = a0.tmps.size
  same : ∀ k, (∀ p ∈ ids, p.2 ≠ k) → a.tmps[k]? = a0.tmps[k]?
theorem EffKeep.get {ids : List (Nat × Nat)} {a0 a : Act} (h : EffKeep ids a0 a) (k : Nat) {v : Value} (hk : ids.all (fun p => p.2 != k) = true) (h0 : a0.tmps[k]? = some v) : a.tmps[k]? = some v := by
  rw [h.same k (fun p hp => by simpa using List.all_eq_true.1 hk p hp)]
  exact h0
theorem EffGot.at {ids : List (Nat × Nat)} {F : Nat → Value → World → Prop} {a : Act} {w : World} {j : Nat} (h : EffGot ids F a w j) (d : Nat) (hd : ids.contains (j, d) = true) : ∃ v, a.tmps[d]? = some v ∧ F j v w :=
  h (j, d) (by simpa using hd) rfl

theorem wpAnyH_effto {P : Program} {ops : Array Oper} {S : World → Prop} {Q : Exit → Act → World → Prop} {a0 : Act} {W0 : World} {L0 : Array Bool} (m : Nat) (F : Nat → Value → World → Prop) (ids : List (Nat × Nat)) (n : Nat)
    (hok : effTo ops L0 ids n = true) (hn1 : (ids.map (·.1)).Nodup) (hn2 : (ids.map (·.2)).Nodup) (hn : n = a0.tmps.size)
    (mono : ∀ i v w w', F i v w → Below w.heap.size w w' → F i v w')
    (hS : ∀ w, Below W0.heap.size W0 w → S w)
    (step : ∀ p ∈ ids, ∀ o a w, ops[p.1]? = some o → EffKeep ids a0 a → Below W0.heap.size W0 w → (∀ j, o.after.any (fun e => Region.binds .any e && e.on == j) = true → EffGot ids F a w j) → EffRun P o a w (fun v w' => F p.1 v w' ∧ Below w.heap.size w w'))
    (fin : ∀ (f : Nat → Value) w, Below W0.heap.size W0 w → (∀ p ∈ ids, F p.1 (f p.1) w) → wpAnyH P .any ops (NoPanic Q) S m (setL L0 (ids.map (·.1))) (putL a0 f ids) w) :
    wpAnyH P .any ops (NoPanic Q) S (ids.length + m) L0 a0 W0 := by
  simp only [effTo, Bool.and_eq_true, decide_eq_true_eq] at hok
  obtain ⟨⟨hok1, hok2⟩, hLs⟩ := hok
  have hat : ∀ p ∈ ids, p.2 < a0.tmps.size ∧ L0.getD p.1 true = false ∧ ∃ o, ops[p.1]? = some o ∧ o.dst = some p.2 ∧ o.guard = none := fun p hp => by
    have h := List.all_eq_true.1 hok1 p hp
    simp only [Bool.and_eq_true, decide_eq_true_eq, Bool.not_eq_true'] at h
    obtain ⟨⟨h1, h2⟩, h3⟩ := h
    refine ⟨hn ▸ h1, h2, ?_⟩
    cases ho : ops[p.1]? with
    | none => rw [ho] at h3; simp at h3
    | some o =>
      rw [ho] at h3
      simp only [Bool.and_eq_true, beq_iff_eq] at h3
      exact ⟨o, rfl, h3.1, Option.isNone_iff_eq_none.1 h3.2⟩
  have main : ∀ (k : Nat) (c : Nat → Bool) (a : Act) (w : World), unC c (ids.map (·.1)) = k → EffKeep ids a0 a → Below W0.heap.size W0 w → (∀ p ∈ ids, c p.1 = true → ∃ v, a.tmps[p.2]? = some v ∧ F p.1 v w) →
      (∀ i ∈ ids.map (·.1), (setL L0 ((ids.map (·.1)).filter c)).getD i true = true → depOk ops (setL L0 ((ids.map (·.1)).filter c)) i = true) →
      wpAnyH P .any ops (NoPanic Q) S (k + m) (setL L0 ((ids.map (·.1)).filter c)) a w := by
    intro k
    induction k with
    | zero =>
      intro c a w hu hs hb hh _
      have hz := unC_zero _ hu
      have hall : ∀ p ∈ ids, ∃ v, a.tmps[p.2]? = some v ∧ F p.1 v w := fun p hp => hh p hp (hz p.1 (List.mem_map_of_mem hp))
      have hLeq : setL L0 ((ids.map (·.1)).filter c) = setL L0 (ids.map (·.1)) := by rw [List.filter_eq_self.2 hz]
      obtain ⟨f, hf⟩ : ∃ f : Nat → Value, ∀ p ∈ ids, a.tmps[p.2]? = some (f p.1) ∧ F p.1 (f p.1) w := by
        have hch : ∀ j, ∃ v, ∀ p ∈ ids, p.1 = j → a.tmps[p.2]? = some v ∧ F p.1 v w := fun j => by
          by_cases hj : ∃ p ∈ ids, p.1 = j
          · obtain ⟨p, hp, rfl⟩ := hj
            obtain ⟨v, h1, h2⟩ := hall p hp
            refine ⟨v, fun q hq e => ?_⟩
            obtain ⟨-, -, o, ho, hd, -⟩ := hat p hp
            obtain ⟨-, -, o', ho', hd', -⟩ := hat q hq
            rw [e, ho] at ho'
            obtain rfl := Option.some.inj ho'
            have : p.2 = q.2 := Option.some.inj (hd.symm.trans hd')
            rw [← this, e]
            exact ⟨h1, h2⟩
          · exact ⟨undef, fun q hq e => absurd ⟨q, hq, e⟩ hj⟩
        exact ⟨fun j => Classical.choose (hch j), fun p hp => Classical.choose_spec (hch p.1) p hp rfl⟩
      have ha : a = putL a0 f ids := by
        have ht : a.tmps = (putL a0 f ids).tmps := by
          refine Array.ext (by rw [putL_size]; exact hs.size) fun j h1 h2 => ?_
          have : a.tmps[j]? = (putL a0 f ids).tmps[j]? := by
            by_cases hj : ∃ p ∈ ids, p.2 = j
            · obtain ⟨p, hp, rfl⟩ := hj
              rw [(hf p hp).1, putL_at f ids a0 hn2 p hp (hat p hp).1]
            · have hj' : ∀ p ∈ ids, p.2 ≠ j := fun p hp e => hj ⟨p, hp, e⟩
              rw [hs.same j hj', putL_other f j ids a0 hj']
          simpa [h1, h2] using this
        have hd : a.defers = (putL a0 f ids).defers := by rw [putL_defers]; exact hs.defers
        cases a
        cases hp : putL a0 f ids
        rw [hp] at ht hd
        simp only at ht hd
        rw [ht, hd]
      rw [hLeq, ha, Nat.zero_add]
      exact fin f w hb (fun p hp => (hf p hp).2)
    | succ k ih =>
      intro c a w hu hs hb hh hcl
      have hex : ∃ i ∈ ids.map (·.1), c i = false := by
        by_cases h : ∃ i ∈ ids.map (·.1), c i = false
        · exact h
        · exfalso
          have hz : ∀ i ∈ ids.map (·.1), c i = true := fun i hi => by
            by_cases hc : c i = true
            · exact hc
            · exact absurd ⟨i, hi, by simpa using hc⟩ h
          have : unC c (ids.map (·.1)) = unC (fun _ => true) (ids.map (·.1)) := unC_same _ (fun i hi => hz i hi)
          have h0 : ∀ l : List Nat, unC (fun _ => true) l = 0 := fun l => by
            induction l with
            | nil => rfl
            | cons x l ih => rw [unC, ih]; rfl
          rw [hu, h0] at this
          omega
      obtain ⟨hne, hsub⟩ := effChk_spec (ops := ops) (all := ids.map (·.1)) c (ids.map (·.1)) L0 false hok2 (.inr hex) hcl
      have hsz : (setL L0 ((ids.map (·.1)).filter c)).size = ops.size := by rw [setL_size]; exact hLs
      rw [show k + 1 + m = (k + m) + 1 by omega]
      refine ⟨fun h => absurd h hne, fun i hi => ?_⟩
      obtain ⟨p, hp, rfl⟩ := List.mem_map.1 (hsub i hi)
      obtain ⟨h1, o, ho, hdep⟩ := mem_ready.1 hi
      obtain ⟨hdl, hL0, o', ho', hdo, hg⟩ := hat p hp
      rw [ho] at ho'
      obtain rfl := Option.some.inj ho'
      have hlt := (Array.getElem?_eq_some_iff.1 ho).1
      have hci : c p.1 = false := by
        by_cases hc : c p.1 = true
        · exfalso
          rw [setL_get _ _ _ (by omega)] at h1
          have : ((ids.map (·.1)).filter c).contains p.1 = true := by
            simpa using ⟨⟨p.2, hp⟩, hc⟩
          rw [this] at h1
          simp at h1
        · simpa using hc
      have hw : Region.wanted o (yielded ops a.tmps) = true := by simp [Region.wanted, hg]
      have hrun := step p hp o a w ho hs hb (fun j hj q hq hqj => by
        obtain ⟨e, hem, hbj⟩ := Array.any_eq_true'.1 hj
        simp only [Bool.and_eq_true, beq_iff_eq] at hbj
        obtain ⟨hbi, rfl⟩ := hbj
        have h2 := hdep e hem hbi
        obtain ⟨-, hq0, oq, hoq, -⟩ := hat q hq
        have hqlt := (Array.getElem?_eq_some_iff.1 hoq).1
        have h4 : (setL L0 ((ids.map (·.1)).filter c)).getD q.1 true = true := by
          rw [hqj]
          have : e.on < (setL L0 ((ids.map (·.1)).filter c)).size := by rw [hsz, ← hqj]; exact hqlt
          simpa [this] using h2
        rw [setL_get _ _ _ (by omega), hq0, Bool.false_or] at h4
        have h5 : c q.1 = true := by
          have h6 : q.1 ∈ (ids.map (·.1)).filter c := by simpa using h4
          exact (List.mem_filter.1 h6).2
        have := hh q hq h5
        rw [hqj] at this
        exact this)
      have next : ∀ v w', F p.1 v w' ∧ Below w.heap.size w w' → S w' ∧ wpAnyH P .any ops (NoPanic Q) S (k + m) ((setL L0 ((ids.map (·.1)).filter c)).setIfInBounds p.1 true) (a.put (some p.2) v) w' := by
        rintro v w' ⟨hF, hb'⟩
        have hbw := hb.trans (hb'.mono hb.size)
        have htm : (a.put (some p.2) v).tmps = a.tmps.setIfInBounds p.2 v := rfl
        refine ⟨hS w' hbw, ?_⟩
        have hLq : (setL L0 ((ids.map (·.1)).filter c)).setIfInBounds p.1 true = setL L0 ((ids.map (·.1)).filter fun j => c j || j == p.1) := by
          refine arr_ext (by simp [setL_size]) fun j hj => ?_
          have hj' : j < L0.size := by simpa [setL_size] using hj
          rw [setL_get _ _ _ hj']
          by_cases hji : p.1 = j
          · subst hji
            have h7 : ((setL L0 ((ids.map (·.1)).filter c)).setIfInBounds p.1 true).getD p.1 true = true := by
              have : p.1 < (setL L0 ((ids.map (·.1)).filter c)).size := by rw [setL_size]; exact hj'
              simp [this]
            have h8 : ((ids.map (·.1)).filter fun j => c j || j == p.1).contains p.1 = true := by
              rw [List.contains_iff_mem]
              exact List.mem_filter.2 ⟨List.mem_map_of_mem hp, by simp⟩
            rw [h7, h8]
            simp
          · rw [getD_set_ne true hji, setL_get _ _ _ hj']
            congr 1
            have hbe : (j == p.1) = false := by simpa using fun e => hji e.symm
            rw [Bool.eq_iff_iff, List.contains_iff_mem, List.contains_iff_mem, List.mem_filter, List.mem_filter, hbe, Bool.or_false]
        rw [hLq]
        refine ih _ _ _ ?_ ⟨hs.defers, by rw [htm, Array.size_setIfInBounds]; exact hs.size, fun q hq => ?_⟩ hbw (fun q hq hcq => ?_) ?_
        · have := unC_set hci (ids.map (·.1)) hn1 (List.mem_map_of_mem hp)
          omega
        · rw [htm, Array.getElem?_setIfInBounds_ne (hq p hp)]
          exact hs.same q hq
        · by_cases hqp : q.1 = p.1
          · have h9 : q.2 = p.2 := by
              obtain ⟨-, -, oq, hoq, hdq, -⟩ := hat q hq
              rw [hqp, ho] at hoq
              obtain rfl := Option.some.inj hoq
              exact Option.some.inj (hdq.symm.trans hdo)
            rw [hqp, h9]
            refine ⟨v, ?_, hF⟩
            rw [htm, Array.getElem?_setIfInBounds_self_of_lt (by rw [hs.size]; exact hdl)]
          · have hbe : (q.1 == p.1) = false := by simpa using hqp
            have hcq' : c q.1 = true := by simpa [hbe] using hcq
            obtain ⟨v', h1', h2'⟩ := hh q hq hcq'
            refine ⟨v', ?_, mono _ _ _ _ h2' hb'⟩
            have hne : p.2 ≠ q.2 := fun e => hqp (by
              have hinj : ∀ (l : List (Nat × Nat)), (l.map (·.2)).Nodup → ∀ x ∈ l, ∀ y ∈ l, x.2 = y.2 → x = y := by
                intro l
                induction l with
                | nil => intro _ x hx; simp at hx
                | cons z l ihl =>
                  intro hnd x hx y hy exy
                  have hnd' := List.nodup_cons.1 hnd
                  rcases List.mem_cons.1 hx with rfl | hxl
                  · rcases List.mem_cons.1 hy with rfl | hyl
                    · rfl
                    · exact absurd (List.mem_map.2 ⟨y, hyl, exy.symm⟩) hnd'.1
                  · rcases List.mem_cons.1 hy with rfl | hyl
                    · exact absurd (List.mem_map.2 ⟨x, hxl, exy⟩) hnd'.1
                    · exact ihl hnd'.2 x hxl y hyl exy
              rw [hinj ids hn2 q hq p hp e.symm])
            rw [htm, Array.getElem?_setIfInBounds_ne hne]
            exact h1'
        · rw [← hLq]
          intro i hi hiL
          by_cases hip : p.1 = i
          · subst hip
            exact depOk_set (depOk_of ho hdep)
          · rw [getD_set_ne true hip] at hiL
            exact depOk_set (hcl i hi hiL)
      rcases hrun with ⟨v, w', hr, hR⟩ | ⟨f, args, hr, hc⟩
      · unfold wpOp
        simp only [ho, hw, if_true, Oper.wp, hr, Oper.upon, hdo]
        exact .inl (next v w' hR)
      · unfold wpOp
        simp only [ho, hw, if_true, Oper.wp, hr, Oper.upon, hdo]
        refine .inl (hc.mono ?_)
        rintro e w' ⟨v, rfl, hR⟩
        exact next v w' hR
  have h := main (ids.length) (fun _ => false) a0 W0 (by rw [unC_none]; simp) ⟨rfl, rfl, fun _ _ => rfl⟩ (Below.refl _ _) (fun p hp h => by simp at h) (fun i hi hL => by
    exfalso
    obtain ⟨p, hp, rfl⟩ := List.mem_map.1 hi
    rw [List.filter_eq_nil_iff.2 (by simp)] at hL
    have := (hat p hp).2.1
    have h2 : L0.getD p.1 true = true := hL
    rw [this] at h2
    simp at h2)
  have he : setL L0 ((ids.map (·.1)).filter fun _ => false) = L0 := by
    rw [List.filter_eq_nil_iff.2 (by simp)]
    rfl
  rw [he] at h
  exact h
end Go

namespace Go.Proofs.YtnicnfjickknjaaDoor
open Go.RowKit

/-- Two rows of the call's own are not one. -/
def Sp (v u : Value) : Prop := v.ownBlock = none ∨ v.ownBlock ≠ u.ownBlock
theorem Sp.symm {v u : Value} (h : Sp v u) : Sp u v := by
  unfold Sp at *
  rcases h with h | h
  · cases hu : u.ownBlock with
    | none => exact .inl rfl
    | some g => exact .inr (by rw [h]; simp)
  · exact .inr (Ne.symm h)
theorem Sp.nil (v : Value) : Sp (.slice none 0 0) v := .inl rfl
/-- append to a row of the call's own: where the row lies behind it. -/
theorem run_append_at {P : Program} (w : World) (base : Nat) (t ty e : TypeId) (i : TypeInfo) (z : Value) (size bytes : Nat) (ht : P.underlying t = some (.slice e)) (hi : P.info? e = some i) (hz : i.zero = some z)
    (hsize : i.size = size) (hby : i.bytes = bytes) (hzs : z.cells.size = size) (hsz : 0 < size)
    (v : Value) (n : Nat) (xs : List Value) (hown : w.ownsRow base e size v n xs)
    (a : Addr) (m c : Nat) (news : List Value) (hl : news.length = m * size) (hnews : ∀ j u, news[j]? = some u → w.cell? (a.add j) = some u) (h1 : ∀ u ∈ news, u.oneCell' = true)
    (h63 : n + m ≤ maxLen) (hbytes : (n + m) * bytes ≤ 140737488355328) (hbase : base ≤ w.heap.size) :
    ∃ v' w', (Builtin.append_ #[t, t] ty #[v, .slice (some a) m c]).run P w = .ok v' w' ∧ w'.ownsRow base e size v' (n + m) (xs ++ news) ∧ w.grownBy w' v.ownBlock ∧
      ∀ g, v'.ownBlock = some g → v.ownBlock = some g ∨ w.heap.size ≤ g := by
  obtain ⟨v', w', hr, ho, hg, _⟩ := run_append_own (P := P) w base t ty e i z size bytes ht hi hz hsize hby hzs hsz v n xs hown a m c news hl hnews h1 h63 hbytes hbase
  refine ⟨v', w', hr, ho, hg, ?_⟩
  have hsmall : n + m ≤ 9223372036854775807 := by simp only [maxLen] at h63; omega
  subst hsize
  subst hby
  rcases hown.2 with ⟨rfl, rfl⟩ | ⟨g, cap, cur, rfl, hbg, hgc, hnc, hcm, hcs, htake⟩
  · have hown2 : w.ownsRow w.heap.size e i.size (.slice none 0 0) 0 xs := ⟨hown.1, .inl ⟨rfl, rfl⟩⟩
    obtain ⟨v2, w2, hr2, ho2, _, _⟩ := run_append_own (P := P) w w.heap.size t ty e i z i.size i.bytes ht hi hz rfl rfl hzs hsz _ 0 xs hown2 a m c news hl hnews h1 h63 hbytes (Nat.le_refl _)
    rw [hr] at hr2
    simp only [Result.ok.injEq] at hr2
    obtain ⟨rfl, rfl⟩ := hr2
    intro g hgv
    exact .inr (ho2.lt g hgv).1
  · by_cases hroom : n + m ≤ cap
    · have hfit : n * i.size + news.length ≤ cur.size := by rw [hl, hcs, ← Nat.add_mul]; exact Nat.mul_le_mul_right _ hroom
      have hr2 := run_append_room (P := P) w t ty e i ht hi g n cap cur hgc a m c news hl hnews h1 hroom hfit
      rw [hr] at hr2
      simp only [Result.ok.injEq] at hr2
      obtain ⟨rfl, rfl⟩ := hr2
      intro g' hg'
      exact .inl hg'
    · have holds : ∀ j u, xs[j]? = some u → w.cell? ((⟨g, 0, none⟩ : Addr).add j) = some u := hown.cells (g := g) rfl
      have hr2 := run_append_grow (P := P) w t ty e i z ht hi hz ⟨g, 0, none⟩ n cap xs hown.1 holds a m c news hl hnews (by omega) (by omega) (growslice_fits (by omega) hbytes)
      rw [hr] at hr2
      simp only [Result.ok.injEq] at hr2
      obtain ⟨rfl, rfl⟩ := hr2
      intro g' hg'
      simp only [Value.ownBlock, Option.some.injEq] at hg'
      exact .inr (by omega)
theorem row_kept {w w' : World} {base : Nat} {e : TypeId} {size : Nat} {v : Value} {n : Nat} {xs : List Value} (h : w.ownsRow base e size v n xs) (hb : ∀ g, v.ownBlock = some g → w'.heap[g]? = w.heap[g]?) : w'.ownsRow base e size v n xs := by
  refine ⟨h.1, ?_⟩
  rcases h.2 with c | ⟨g, cap, cur, rfl, a1, a2, a3, a4, a5, a6⟩
  · exact .inl c
  · exact .inr ⟨g, cap, cur, rfl, a1, (hb g rfl).trans a2, a3, a4, a5, a6⟩

theorem row_slice {w : World} {base : Nat} {e : TypeId} {size : Nat} {v : Value} {n : Nat} {xs : List Value} (h : w.ownsRow base e size v n xs) : ∃ a m c, v = .slice a m c := by
  rcases h.2 with ⟨rfl, _⟩ | ⟨g, cap, cur, rfl, _⟩
  · exact ⟨_, _, _, rfl⟩
  · exact ⟨_, _, _, rfl⟩
/-- A block apart from a node's own four. -/
def Off (g : Nat) (k v c : Value) (b : Nat) : Prop := b ≠ g ∧ k.ownBlock ≠ some b ∧ v.ownBlock ≠ some b ∧ c.ownBlock ≠ some b
/-- Only the node's own four blocks have changed, and new ones were made. -/
structure Chg (W W' : World) (g : Nat) (k v c k' v' c' : Value) : Prop where
  size : W.heap.size ≤ W'.heap.size
  off : ∀ b, b < W.heap.size → Off g k v c b → W'.heap[b]? = W.heap[b]? ∧ Off g k' v' c' b
theorem Chg.trans {W W' W'' : World} {g : Nat} {k v c k' v' c' k2 v2 c2 : Value} (h : Chg W W' g k v c k' v' c') (h' : Chg W' W'' g k' v' c' k2 v2 c2) : Chg W W'' g k v c k2 v2 c2 :=
  ⟨Nat.le_trans h.size h'.size, fun b hb ho => by
    obtain ⟨h1, h2⟩ := h.off b hb ho
    obtain ⟨h3, h4⟩ := h'.off b (Nat.lt_of_lt_of_le hb h.size) h2
    exact ⟨h3.trans h1, h4⟩⟩
theorem Chg.below {W W' : World} {g : Nat} {k v c : Value} (h : Below W.heap.size W W') : Chg W W' g k v c k v c := ⟨h.size, fun b hb ho => ⟨h.block b hb, ho⟩⟩
/-- A fact that hangs on blocks apart from the node's own: of those below m, or from n on. -/
def Far (W : World) (m n g : Nat) (k v c : Value) (φ : World → Prop) : Prop :=
  ∃ A : Nat → Prop, (∀ b, A b → b < W.heap.size ∧ (b < m ∨ n ≤ b) ∧ Off g k v c b) ∧ ∀ W', (∀ b, A b → W'.heap[b]? = W.heap[b]?) → φ W'
theorem Far.chg {W W' : World} {m n g : Nat} {k v c k' v' c' : Value} {φ : World → Prop} (h : Far W m n g k v c φ) (hc : Chg W W' g k v c k' v' c') : Far W' m n g k' v' c' φ := by
  obtain ⟨A, h1, h2⟩ := h
  refine ⟨A, fun b hb => ?_, fun w hw => h2 w fun b hb => ?_⟩
  · obtain ⟨a1, a2, a3⟩ := h1 b hb
    exact ⟨Nat.lt_of_lt_of_le a1 hc.size, a2, (hc.off b a1 a3).2⟩
  · obtain ⟨a1, a2, a3⟩ := h1 b hb
    exact (hw b hb).trans (hc.off b a1 a3).1
theorem Far.now {W : World} {m n g : Nat} {k v c : Value} {φ : World → Prop} (h : Far W m n g k v c φ) : φ W := by
  obtain ⟨A, h1, h2⟩ := h
  exact h2 W fun _ _ => rfl
theorem Far.end {W : World} {m n g : Nat} {k v c : Value} {φ : World → Prop} (h : Far W m n g k v c φ) {w : World} (hw : ∀ b, (b < m ∨ n ≤ b) → b < W.heap.size → w.heap[b]? = W.heap[b]?) : φ w := by
  obtain ⟨A, h1, h2⟩ := h
  exact h2 w fun b hb => hw b (h1 b hb).2.1 (h1 b hb).1
/-- What hangs on a part of memory: below m, or from n on. -/
def On (w' : World) (m n : Nat) (φ : World → Prop) : Prop := ∀ W, (∀ b, (b < m ∨ n ≤ b) → b < w'.heap.size → W.heap[b]? = w'.heap[b]?) → φ W
theorem On.now {w' : World} {m n : Nat} {φ : World → Prop} (h : On w' m n φ) : φ w' := h w' fun _ _ _ => rfl
/-- Behind a call that was made while a node is being made. -/
theorem On.far {W W' : World} {m n g : Nat} {k v c : Value} {φ : World → Prop} (h : On W' m W.heap.size φ) (hn : n ≤ W.heap.size) (ho : ∀ b, b < m → Off g k v c b) (hg : ∀ b, W.heap.size ≤ b → Off g k v c b) : Far W' m n g k v c φ :=
  ⟨fun b => (b < m ∨ W.heap.size ≤ b) ∧ b < W'.heap.size, fun b hb' => ⟨hb'.2, by omega, by
    rcases hb'.1 with h1 | h1
    · exact ho b h1
    · exact hg b h1⟩, fun w hw => h w fun b h1 h2 => hw b ⟨h1, h2⟩⟩

/-- A node that is being made. -/
structure NB (W : World) (base g : Nat) (t pe : TypeId) (L : Int) (k v c : Value) (ks vs us : List Value) : Prop where
  arr : Arr W g t [.int .i64 L, k, v, c]
  bg : base ≤ g
  ok : W.ownsRow base 23 1 k ks.length ks
  ov : W.ownsRow base 23 1 v vs.length vs
  oc : W.ownsRow base pe 1 c us.length us
  s1 : Sp k v
  s2 : Sp k c
  s3 : Sp v c
section
variable {W W' : World} {base g : Nat} {t pe : TypeId} {L : Int} {k v c : Value} {ks vs us : List Value}
theorem NB.le (h : NB W base g t pe L k v c ks vs us) : base ≤ W.heap.size := Nat.le_trans h.bg (Nat.le_of_lt h.arr.lt)
theorem NB.below (h : NB W base g t pe L k v c ks vs us) (hb : Below W.heap.size W W') : NB W' base g t pe L k v c ks vs us :=
  ⟨arr_below h.arr hb, h.bg, own_below h.ok hb, own_below h.ov hb, own_below h.oc hb, h.s1, h.s2, h.s3⟩
theorem NB.new (W : World) (t pe : TypeId) (L : Int) : NB (W.alloc (.cells #[.int .i64 L, .slice none 0 0, .slice none 0 0, .slice none 0 0] t)) W.heap.size W.heap.size t pe L (.slice none 0 0) (.slice none 0 0) (.slice none 0 0) [] [] [] :=
  ⟨heap_alloc_new W _, Nat.le_refl _, World.ownsRow_nil _ _ _ _, World.ownsRow_nil _ _ _ _, World.ownsRow_nil _ _ _ _, Sp.nil _, Sp.nil _, Sp.nil _⟩
/-- What lies below the call's own memory, and what is new, is apart from the node. -/
theorem NB.offLow (h : NB W base g t pe L k v c ks vs us) {b : Nat} (hb : b < base) : Off g k v c b := by
  have h1 := h.bg
  refine ⟨by omega, fun e => ?_, fun e => ?_, fun e => ?_⟩
  · have := (h.ok.lt b e).1; omega
  · have := (h.ov.lt b e).1; omega
  · have := (h.oc.lt b e).1; omega
theorem NB.offNew (h : NB W base g t pe L k v c ks vs us) {b : Nat} (hb : W.heap.size ≤ b) : Off g k v c b := by
  have h1 := h.arr.lt
  refine ⟨by omega, fun e => ?_, fun e => ?_, fun e => ?_⟩
  · have := (h.ok.lt b e).2; omega
  · have := (h.ov.lt b e).2; omega
  · have := (h.oc.lt b e).2; omega
/-- A new level. -/
theorem NB.level (h : NB W base g t pe L k v c ks vs us) (hk : t ≠ 23) (hp : t ≠ pe) (M : Int) : NB (W.setCell ⟨g, 0, none⟩ (.int .i64 M)) base g t pe M k v c ks vs us ∧ Chg W (W.setCell ⟨g, 0, none⟩ (.int .i64 M)) g k v c k v c ∧ Below base W (W.setCell ⟨g, 0, none⟩ (.int .i64 M)) := by
  have hg : W.grownBy (W.setCell ⟨g, 0, none⟩ (.int .i64 M)) (some g) := grown_set (a := W) (b := W) ⟨rfl, rfl, rfl, Nat.le_refl _, fun _ _ _ => rfl⟩ 0 _
  refine ⟨⟨h.arr.set 0 _, h.bg, h.ok.kept hg (.inr (arr_not_row h.arr hk h.ok)), h.ov.kept hg (.inr (arr_not_row h.arr hk h.ov)), h.oc.kept hg (.inr (arr_not_row h.arr hp h.oc)), h.s1, h.s2, h.s3⟩, ⟨hg.size, fun b hb ho => ⟨hg.block b hb (by simpa using ho.1), ho⟩⟩, (Below.refl _ _).setCell h.bg _⟩
end
/-- Of two rows one was grown. -/
theorem Sp.grown {W : World} {base : Nat} {e : TypeId} {v v' u : Value} {m : Nat} {ys : List Value} (h : Sp v u) (hu : W.ownsRow base e 1 u m ys) (hv : ∀ g, v'.ownBlock = some g → v.ownBlock = some g ∨ W.heap.size ≤ g) : Sp v' u := by
  unfold Sp at *
  cases hv' : v'.ownBlock with
  | none => exact .inl rfl
  | some g =>
    refine .inr fun e => ?_
    rcases hv g hv' with h1 | h1
    · rcases h with h | h
      · rw [h] at h1; simp at h1
      · exact h (h1.trans e)
    · have := (hu.lt g e.symm).2
      omega
theorem Sp.keeps {W W' : World} {base : Nat} {e : TypeId} {v u : Value} {m : Nat} {ys : List Value} (h : Sp v u) (hu : W.ownsRow base e 1 u m ys) (hg : W.grownBy W' v.ownBlock) : W'.ownsRow base e 1 u m ys :=
  row_kept hu fun g hgu => hg.block g (hu.lt g hgu).2 (fun e => by
    unfold Sp at h
    rcases h with h | h
    · rw [h] at e; simp at e
    · exact h (by rw [← e, hgu]))
/-- What an append to a field of the node comes to, and the store behind it. -/
structure NApp (W : World) (base g : Nat) (t pe : TypeId) (L : Int) (k v c : Value) (W1 W2 : World) (k' v' c' : Value) (ks vs us : List Value) : Prop where
  arr : Arr W1 g t [.int .i64 L, k, v, c]
  nb : NB W2 base g t pe L k' v' c' ks vs us
  chg : Chg W W2 g k v c k' v' c'
  below : Below base W W2
section
variable {W : World} {base g : Nat} {t pe : TypeId} {L : Int} {k v c : Value} {ks vs us : List Value}
theorem NB.appK (h : NB W base g t pe L k v c ks vs us) (hk : t ≠ 23) (hp : t ≠ pe) {ty : TypeId} {bo : Addr} {cap : Nat} {u : Value} (hx : VL W (some bo) 1 cap [u]) (hu : u.oneCell' = true) (hn : ks.length ≤ 1000000) :
    ∃ k' W1, (Builtin.append_ #[68, 68] ty #[k, .slice (some bo) 1 cap]).run Tryd.prog W = .ok k' W1 ∧ NApp W base g t pe L k v c W1 (W1.setCell ⟨g, 1, none⟩ k') k' v c (ks ++ [u]) vs us := by
  obtain ⟨i0, hi, hz0, hz1, hz2⟩ := info_parts kinfo
  obtain ⟨k', W1, hr, ho, hg, ha⟩ := run_append_at (P := Tryd.prog) W base 68 ty 23 i0 (.slice none 0 0) 1 24 Tryd.underlying68 hi hz0 hz1 hz2 rfl (by decide) k ks.length ks h.ok bo 1 cap [u] rfl (hx.cells bo rfl) (by intro y hy; rw [List.mem_singleton.1 hy]; exact hu) (by simp [maxLen]; omega) (by omega) h.le
  obtain ⟨a1, a2, a3, a4⟩ := arr_put h.arr hk h.ok h.le h.bg ho hg 1
  have hs : W1.grownBy (W1.setCell ⟨g, 1, none⟩ k') (some g) := grown_set (a := W1) (b := W1) ⟨rfl, rfl, rfl, Nat.le_refl _, fun _ _ _ => rfl⟩ 1 _
  have ov1 := h.s1.keeps h.ov hg
  have oc1 := h.s2.keeps h.oc hg
  refine ⟨k', W1, hr, a1, ⟨a2, h.bg, by simpa using a3, ov1.kept hs (.inr (arr_not_row a1 hk ov1)), oc1.kept hs (.inr (arr_not_row a1 hp oc1)), h.s1.grown h.ov ha, h.s2.grown h.oc ha, h.s3⟩, ⟨Nat.le_trans hg.size hs.size, fun b hb hf => ⟨?_, hf.1, fun e => ?_, hf.2.2⟩⟩, a4⟩
  · rw [hs.block b (Nat.lt_of_lt_of_le hb hg.size) (by simpa using hf.1)]
    exact hg.block b hb (fun e => hf.2.1 e.symm)
  · rcases ha b e with h1 | h1
    · exact hf.2.1 h1
    · omega
theorem NB.appV (h : NB W base g t pe L k v c ks vs us) (hk : t ≠ 23) (hp : t ≠ pe) {ty : TypeId} {bo : Addr} {cap : Nat} {u : Value} (hx : VL W (some bo) 1 cap [u]) (hu : u.oneCell' = true) (hn : vs.length ≤ 1000000) :
    ∃ v' W1, (Builtin.append_ #[68, 68] ty #[v, .slice (some bo) 1 cap]).run Tryd.prog W = .ok v' W1 ∧ NApp W base g t pe L k v c W1 (W1.setCell ⟨g, 2, none⟩ v') k v' c ks (vs ++ [u]) us := by
  obtain ⟨i0, hi, hz0, hz1, hz2⟩ := info_parts kinfo
  obtain ⟨v', W1, hr, ho, hg, ha⟩ := run_append_at (P := Tryd.prog) W base 68 ty 23 i0 (.slice none 0 0) 1 24 Tryd.underlying68 hi hz0 hz1 hz2 rfl (by decide) v vs.length vs h.ov bo 1 cap [u] rfl (hx.cells bo rfl) (by intro y hy; rw [List.mem_singleton.1 hy]; exact hu) (by simp [maxLen]; omega) (by omega) h.le
  obtain ⟨a1, a2, a3, a4⟩ := arr_put h.arr hk h.ov h.le h.bg ho hg 2
  have hs : W1.grownBy (W1.setCell ⟨g, 2, none⟩ v') (some g) := grown_set (a := W1) (b := W1) ⟨rfl, rfl, rfl, Nat.le_refl _, fun _ _ _ => rfl⟩ 2 _
  have ok1 := h.s1.symm.keeps h.ok hg
  have oc1 := h.s3.keeps h.oc hg
  refine ⟨v', W1, hr, a1, ⟨a2, h.bg, ok1.kept hs (.inr (arr_not_row a1 hk ok1)), by simpa using a3, oc1.kept hs (.inr (arr_not_row a1 hp oc1)), (h.s1.symm.grown h.ok ha).symm, h.s2, h.s3.grown h.oc ha⟩, ⟨Nat.le_trans hg.size hs.size, fun b hb hf => ⟨?_, hf.1, hf.2.1, fun e => ?_, hf.2.2.2⟩⟩, a4⟩
  · rw [hs.block b (Nat.lt_of_lt_of_le hb hg.size) (by simpa using hf.1)]
    exact hg.block b hb (fun e => hf.2.2.1 e.symm)
  · rcases ha b e with h1 | h1
    · exact hf.2.2.1 h1
    · omega
theorem NB.appC (h : NB W base g t pe L k v c ks vs us) (hk : t ≠ 23) (hp : t ≠ pe) {ps : TypeId} (hps : Tryd.prog.underlying ps = some (.slice pe)) (hinfo : (Tryd.prog.info? pe).map (fun i => (i.zero, i.size, i.bytes)) = some (some (.pointer none), 1, 8)) {ty : TypeId} {bo : Addr} {cap : Nat} {u : Value} (hx : VL W (some bo) 1 cap [u]) (hu : u.oneCell' = true) (hn : us.length ≤ 1000000) :
    ∃ c' W1, (Builtin.append_ #[ps, ps] ty #[c, .slice (some bo) 1 cap]).run Tryd.prog W = .ok c' W1 ∧ NApp W base g t pe L k v c W1 (W1.setCell ⟨g, 3, none⟩ c') k v c' ks vs (us ++ [u]) := by
  obtain ⟨i0, hi, hz0, hz1, hz2⟩ := info_parts hinfo
  obtain ⟨c', W1, hr, ho, hg, ha⟩ := run_append_at (P := Tryd.prog) W base ps ty pe i0 (.pointer none) 1 8 hps hi hz0 hz1 hz2 rfl (by decide) c us.length us h.oc bo 1 cap [u] rfl (hx.cells bo rfl) (by intro y hy; rw [List.mem_singleton.1 hy]; exact hu) (by simp [maxLen]; omega) (by omega) h.le
  obtain ⟨a1, a2, a3, a4⟩ := arr_put h.arr hp h.oc h.le h.bg ho hg 3
  have hs : W1.grownBy (W1.setCell ⟨g, 3, none⟩ c') (some g) := grown_set (a := W1) (b := W1) ⟨rfl, rfl, rfl, Nat.le_refl _, fun _ _ _ => rfl⟩ 3 _
  have ok1 := h.s2.symm.keeps h.ok hg
  have ov1 := h.s3.symm.keeps h.ov hg
  refine ⟨c', W1, hr, a1, ⟨a2, h.bg, ok1.kept hs (.inr (arr_not_row a1 hk ok1)), ov1.kept hs (.inr (arr_not_row a1 hk ov1)), by simpa using a3, h.s1, (h.s2.symm.grown h.ok ha).symm, (h.s3.symm.grown h.ov ha).symm⟩, ⟨Nat.le_trans hg.size hs.size, fun b hb hf => ⟨?_, hf.1, hf.2.1, hf.2.2.1, fun e => ?_⟩⟩, a4⟩
  · rw [hs.block b (Nat.lt_of_lt_of_le hb hg.size) (by simpa using hf.1)]
    exact hg.block b hb (fun e => hf.2.2.2 e.symm)
  · rcases ha b e with h1 | h1
    · exact hf.2.2.2 h1
    · omega
/-- The node's own blocks are as they were. -/
theorem NB.on {w : World} (h : NB W base g t pe L k v c ks vs us) (hw : ∀ b, base ≤ b → b < W.heap.size → w.heap[b]? = W.heap[b]?) : NB w base g t pe L k v c ks vs us :=
  ⟨(hw g h.bg h.arr.lt).trans h.arr, h.bg, row_kept h.ok fun b hb => hw b (h.ok.lt b hb).1 (h.ok.lt b hb).2, row_kept h.ov fun b hb => hw b (h.ov.lt b hb).1 (h.ov.lt b hb).2, row_kept h.oc fun b hb => hw b (h.oc.lt b hb).1 (h.oc.lt b hb).2, h.s1, h.s2, h.s3⟩
/-- It is made. -/
theorem NB.tree {W : World} {L : Nat} {ks vs : List Part} {l : List It} {segs : List (List It)} {xs : List It} (h : NB W base g t pe L k v c (ks.map Part.val) (vs.map Part.val) us) (hks : ∀ q ∈ ks, Sl W q.ao q.n q.cap q.xs) (hvs : ∀ q ∈ vs, Sl W q.ao q.n q.cap q.xs)
    (hs : Shp lev l L segs xs) (ek : ks.map Part.xs = xs.map It.k) (ev : vs.map Part.xs = xs.map It.v) (kid : Kids W us segs) : T W (.pointer (some ⟨g, 0, none⟩)) l := by
  obtain ⟨ko, kc, rfl, K, -⟩ := VL.own h.ok
  obtain ⟨vo, vc, rfl, V, -⟩ := VL.own h.ov
  obtain ⟨co, cc, rfl, C, -⟩ := VL.own h.oc
  exact T.make h.arr ⟨K, hks⟩ ⟨V, hvs⟩ C hs ek ev kid
end
end Go.Proofs.YtnicnfjickknjaaDoor

namespace Go.Proofs.YtnicnfjickknjaaDoor
open Go.RowKit

/-- Items of which i are gone through, the last segment not closed yet. -/
structure Prt (lv : List Int → Nat) (L : Nat) (l : List It) (i fr : Nat) (segs : List (List It)) (xs : List It) : Prop where
  le : fr ≤ i
  hi : i ≤ l.length
  len : segs.length = xs.length
  eq : l.take fr = wvA segs xs
  top : ∀ x ∈ xs, lv x.k = L
  low : ∀ s ∈ segs, ∀ x ∈ s, lv x.k < L
  cur : ∀ j (h : j < l.length), fr ≤ j → j < i → lv l[j].k < L
section
variable {lv : List Int → Nat} {L : Nat} {l : List It} {i fr : Nat} {segs : List (List It)} {xs : List It}
theorem Prt.start (lv : List Int → Nat) (L : Nat) (l : List It) : Prt lv L l 0 0 [] [] :=
  ⟨Nat.le_refl _, Nat.zero_le _, rfl, rfl, fun x h => by simp at h, fun s h => by simp at h, fun j h _ h' => by omega⟩
theorem wvA_many : ∀ (P : List (List It)) (xs : List It), P.length = xs.length → P.length ≤ (wvA P xs).length
  | [], _, _ => by simp
  | _ :: _, [], h => by simp at h
  | s :: P, x :: xs, h => by
    have := wvA_many P xs (by simpa using h)
    simp only [wvA, List.length_append, List.length_cons]
    omega
theorem Prt.many (h : Prt lv L l i fr segs xs) : segs.length ≤ i := by
  have h1 := wvA_many segs xs h.len
  have h2 := h.le
  rw [← h.eq, List.length_take] at h1
  omega
theorem Prt.skip (h : Prt lv L l i fr segs xs) (hi : i < l.length) (hl : lv l[i].k < L) : Prt lv L l (i + 1) fr segs xs :=
  ⟨by have := h.le; omega, hi, h.len, h.eq, h.top, h.low, fun j hj h1 h2 => by
    by_cases hji : j = i
    · subst hji; exact hl
    · exact h.cur j hj h1 (by omega)⟩
theorem Prt.seg (h : Prt lv L l i fr segs xs) : ∀ x ∈ (l.take i).drop fr, lv x.k < L := fun x hx => by
  obtain ⟨j, hj, rfl⟩ := List.mem_iff_getElem.1 hx
  simp only [List.length_drop, List.length_take] at hj
  rw [List.getElem_drop, List.getElem_take]
  exact h.cur (fr + j) (by omega) (by omega) (by omega)
theorem Prt.take (h : Prt lv L l i fr segs xs) (hi : i < l.length) (hl : lv l[i].k = L) : Prt lv L l (i + 1) (i + 1) (segs ++ [(l.take i).drop fr]) (xs ++ [l[i]]) := by
  refine ⟨Nat.le_refl _, hi, by simp [h.len], ?_, fun x hx => ?_, fun s hs x hx => ?_, fun j hj h1 h2 => by omega⟩
  · rw [wvA_app _ _ _ _ h.len, ← h.eq]
    simp only [wvA]
    rw [List.take_succ_eq_append_getElem hi, ← List.append_assoc]
    congr 1
    have hle := h.le
    have : l.take fr = (l.take i).take fr := by rw [List.take_take, Nat.min_eq_left hle]
    rw [this, List.take_append_drop]
  · rcases List.mem_append.1 hx with hx | hx
    · exact h.top x hx
    · rw [List.mem_singleton.1 hx]; exact hl
  · rcases List.mem_append.1 hs with hs | hs
    · exact h.low s hs x hx
    · rw [List.mem_singleton.1 hs] at hx
      exact h.seg x hx
theorem Prt.pos (h : Prt lv L l l.length fr segs xs) (ha : ∃ x ∈ l, lv x.k = L) : 0 < fr := by
  cases fr with
  | succ n => omega
  | zero =>
    exfalso
    obtain ⟨x, hx, hxl⟩ := ha
    obtain ⟨j, hj, rfl⟩ := List.mem_iff_getElem.1 hx
    have := h.cur j hj (Nat.zero_le _) hj
    omega
theorem Prt.done (h : Prt lv L l l.length fr segs xs) (ha : ∃ x ∈ l, lv x.k = L) : Shp lv l L (segs ++ [l.drop fr]) xs := by
  have hlast : ∀ x ∈ l.drop fr, lv x.k < L := by
    have := h.seg
    rwa [List.take_length] at this
  have heq : l = weave (segs ++ [l.drop fr]) xs := by
    have := weave_app segs [l.drop fr] xs [] h.len
    rw [List.append_nil] at this
    rw [this, ← h.eq]
    simp only [weave]
    rw [List.take_append_drop]
  refine ⟨by simp [h.len], ?_, heq, h.top, fun s hs x hx => ?_⟩
  · obtain ⟨x, hx, hxl⟩ := ha
    cases xs with
    | cons y ys => simp
    | nil =>
      exfalso
      have hs0 : segs = [] := List.eq_nil_of_length_eq_zero h.len
      subst hs0
      have h0 := h.eq
      simp only [wvA] at h0
      rw [← List.take_append_drop fr l, h0, List.nil_append] at hx
      have := hlast x hx
      omega
  · rcases List.mem_append.1 hs with hs | hs
    · exact h.low s hs x hx
    · rw [List.mem_singleton.1 hs] at hx
      exact hlast x hx
end

/-- Bytes hang on the blocks that stood. -/
theorem Sl.on {w w' : World} {ao : Option Addr} {n cap : Nat} {xs : List Int} (h : Sl w ao n cap xs) (hb : ∀ b, b < w.heap.size → w'.heap[b]? = w.heap[b]?) : Sl w' ao n cap xs := by
  refine ⟨h.len, h.le, h.mx, h.nil, fun a ha i hi => ?_, h.byte⟩
  have hc := h.cell a ha i hi
  rw [← hc]
  exact World.cell?_of_block (hb _ (World.block_lt_of_cell? w _ hc))

/-- Kids of a node that is being made. -/
structure KidsF (W : World) (m n g : Nat) (k v c : Value) (us : List Value) (segs : List (List It)) : Prop where
  len : us.length = segs.length
  kid : ∀ (i : Nat) (s : List It), segs[i]? = some s → ∃ u, us[i]? = some u ∧ Far W m n g k v c fun w => T w u s
section
variable {W W' : World} {m n g : Nat} {k v c k' v' c' : Value} {us : List Value} {segs : List (List It)}
theorem KidsF.nil (W : World) (m n g : Nat) (k v c : Value) : KidsF W m n g k v c [] [] := ⟨rfl, fun i s h => by simp at h⟩
theorem KidsF.chg (h : KidsF W m n g k v c us segs) (hc : Chg W W' g k v c k' v' c') : KidsF W' m n g k' v' c' us segs :=
  ⟨h.len, fun i s hi => by obtain ⟨u, hu, hf⟩ := h.kid i s hi; exact ⟨u, hu, hf.chg hc⟩⟩
theorem KidsF.app (h : KidsF W m n g k v c us segs) {u : Value} {s : List It} (hu : Far W m n g k v c fun w => T w u s) : KidsF W m n g k v c (us ++ [u]) (segs ++ [s]) := by
  refine ⟨by simp [h.len], fun i t hi => ?_⟩
  have hl := h.len
  by_cases hlt : i < segs.length
  · rw [List.getElem?_append_left hlt] at hi
    rw [List.getElem?_append_left (by omega)]
    exact h.kid i t hi
  · rw [List.getElem?_append_right (by omega)] at hi
    rw [List.getElem?_append_right (by omega)]
    cases hj : i - segs.length with
    | zero =>
      rw [hj] at hi
      rw [hl, hj]
      simp only [List.getElem?_cons_zero, Option.some.injEq] at hi ⊢
      subst hi
      exact ⟨u, rfl, hu⟩
    | succ j => rw [hj] at hi; simp at hi
theorem KidsF.end (h : KidsF W m n g k v c us segs) {w : World} (hw : ∀ b, (b < m ∨ n ≤ b) → b < W.heap.size → w.heap[b]? = W.heap[b]?) : Kids w us segs :=
  ⟨h.len, fun i s hi => by obtain ⟨u, hu, hf⟩ := h.kid i s hi; exact ⟨u, hu, hf.end hw⟩⟩
end

/-- What shape answers: a tree that hangs on the bytes' blocks and on new ones alone. -/
def OnT (m : Nat) (w : World) (l : List It) (e : Ending) (w' : World) : Prop := ∃ v, e = .returned (.pointer v) ∧ On w' m w.heap.size (fun W => T W (.pointer v) l) ∧ Below w.heap.size w w'
theorem OnT.nil (m : Nat) (w : World) : OnT m w [] (.returned (.pointer none)) w := ⟨none, rfl, fun W _ => T.nil W, Below.refl _ _⟩
/-- All is made. -/
theorem NB.onT {W w0 : World} {base g : Nat} {t pe : TypeId} {k v c : Value} {us : List Value} {L : Nat} {ks vs : List Part} {l : List It} {segs : List (List It)} {xs : List It} (h : NB W base g t pe L k v c (ks.map Part.val) (vs.map Part.val) us)
    (hm : w0.heap.size ≤ W.heap.size) (h0 : ∀ b, b < w0.heap.size → W.heap[b]? = w0.heap[b]?) (hks : ∀ q ∈ ks, Sl w0 q.ao q.n q.cap q.xs) (hvs : ∀ q ∈ vs, Sl w0 q.ao q.n q.cap q.xs)
    (hs : Shp lev l L segs xs) (ek : ks.map Part.xs = xs.map It.k) (ev : vs.map Part.xs = xs.map It.v) (kid : KidsF W w0.heap.size base g k v c us segs) : On W w0.heap.size base fun w => T w (.pointer (some ⟨g, 0, none⟩)) l := fun w hw => by
  have hw0 : ∀ b, b < w0.heap.size → w.heap[b]? = w0.heap[b]? := fun b hb => (hw b (.inl hb) (by omega)).trans (h0 b hb)
  exact (h.on (fun b h1 h2 => hw b (.inr h1) h2)).tree (fun q hq => (hks q hq).on hw0) (fun q hq => (hvs q hq).on hw0) hs ek ev (kid.end hw)
end Go.Proofs.YtnicnfjickknjaaDoor

namespace Go.Proofs.YtnicnfjickknjaaDoor
open Go.RowKit

set_option maxHeartbeats 400000 in
set_option maxRecDepth 100000 in
/-- own: bytes that hang on new memory alone. -/
theorem own_on (w : World) (ao : Option Addr) (n cap : Nat) (xs : List Int) (h : Sl w ao n cap xs) (hn : n ≤ 1000000) :
    Calls Tryd.prog 29 #[.slice ao n cap] w fun e w' => ∃ ro rc, e = .returned (.slice ro n rc) ∧ On w' 0 w.heap.size (fun W => Sl W ro n rc xs) ∧ Below w.heap.size w w' := by
  have B0 : Below w.heap.size w (w.alloc (.cells #[] 5)) := (Below.refl _ w).alloc (Nat.le_refl _) _
  have h0 := h.below B0
  have o0 := own_nothing w
  have hb := h.byte
  go_enter Tryd.func29, Tryd.ntmps29
  go_wp2_with (at_builtin; refine wpList_app rfl _ _ rfl w.heap.size _ _ _ rfl o0 _ _ _ _ rfl h0 (by omega) (by simp) ?_; intro v1 w1 own1 B1)
  simp only [Nat.zero_add, List.nil_append] at own1
  obtain ⟨ro, rc, rfl, S, -⟩ := Sl.own own1 hb
  go_wp2
  go_ret
  refine ⟨ro, rc, rfl, fun W hW => ?_, B0.trans B1⟩
  have own2 := row_kept own1 (w' := W) (fun g hg => hW g (.inr (own1.lt g hg).1) (own1.lt g hg).2)
  obtain ⟨ro', rc', e, S', -⟩ := Sl.own own2 hb
  simp only [Value.slice.injEq, true_and] at e
  obtain ⟨rfl, rfl⟩ := e
  exact S'
/-- Parts apart from a node that is being made. -/
def PartsF (W : World) (n g : Nat) (k v c : Value) (ps : List Part) : Prop := ∀ q ∈ ps, Far W 0 n g k v c fun x => Sl x q.ao q.n q.cap q.xs
theorem PartsF.chg {W W' : World} {n g : Nat} {k v c k' v' c' : Value} {ps : List Part} (h : PartsF W n g k v c ps) (hc : Chg W W' g k v c k' v' c') : PartsF W' n g k' v' c' ps := fun q hq => (h q hq).chg hc
theorem PartsF.app {W : World} {n g : Nat} {k v c : Value} {ps : List Part} (h : PartsF W n g k v c ps) {q : Part} (hq : Far W 0 n g k v c fun x => Sl x q.ao q.n q.cap q.xs) : PartsF W n g k v c (ps ++ [q]) := fun y hy => by
  rcases List.mem_append.1 hy with hy | hy
  · exact h y hy
  · rw [List.mem_singleton.1 hy]
    exact hq
theorem PartsF.nil (W : World) (n g : Nat) (k v c : Value) : PartsF W n g k v c [] := fun _ h => by simp at h
/-- The copy of a node's keys and values. -/
structure CpI (wI wr : World) (d : Nd) (kk : Nat) (k v : Value) (ks vs : List Part) : Prop where
  nb : NB wr wI.heap.size wI.heap.size 74 52 (d.L : Int) k v (.slice none 0 0) (ks.map Part.val) (vs.map Part.val) []
  b : Below wI.heap.size wI wr
  ek : ks.map Part.xs = (d.ks.take kk).map Part.xs
  ev : vs.map Part.xs = (d.vs.take kk).map Part.xs
  fk : PartsF wr wI.heap.size wI.heap.size k v (.slice none 0 0) ks
  fv : PartsF wr wI.heap.size wI.heap.size k v (.slice none 0 0) vs
/-- And of its kids. -/
structure CkI (wI wr : World) (d : Nd) (segs : List (List It)) (kk : Nat) (k v c : Value) (ks vs : List Part) (us : List Value) : Prop where
  nb : NB wr wI.heap.size wI.heap.size 74 52 (d.L : Int) k v c (ks.map Part.val) (vs.map Part.val) us
  b : Below wI.heap.size wI wr
  ek : ks.map Part.xs = d.ks.map Part.xs
  ev : vs.map Part.xs = d.vs.map Part.xs
  fk : PartsF wr wI.heap.size wI.heap.size k v c ks
  fv : PartsF wr wI.heap.size wI.heap.size k v c vs
  kf : KidsF wr 0 wI.heap.size wI.heap.size k v c us (segs.take kk)
/-- Keys and values are of a size. -/
def Szd (l : List It) : Prop := ∀ x ∈ l, x.k.length ≤ 1000000 ∧ x.v.length ≤ 1000000

set_option maxHeartbeats 8000000 in
set_option maxRecDepth 100000 in
theorem copy_fuel : ∀ (N : Nat) (wI : World) (v : Value) (l : List It) (_ : T wI v l) (_ : l.length ≤ 50000) (_ : Szd l) (_ : l.length ≤ N), Calls Tryd.prog 39 #[v] wI (OnT 0 wI l) := by
  intro N
  induction N using Nat.strongRecOn with | _ N ih => ?_
  intro wI v l hT hn hsz hN
  rcases hT.is with ⟨rfl, rfl⟩ | ⟨d, segs, xs, rfl, hN1⟩
  · go_enter Tryd.func39, Tryd.ntmps39
    go_wp2
    go_ret
    exact OnT.nil _ _
  have hmany := hN1.many
  have nk := hN1.nk
  have nv := hN1.nv
  have nc := hN1.nc
  have c0 := hN1.ok.c0
  have c1 := hN1.ok.c1
  have hpos := hN1.shp.pos
  have hkn : d.ks.length ≤ 50000 := by omega
  have hkni : (d.ks.length : Int) ≤ 50000 := by omega
  have HNK : Hid (d.ks.length = xs.length ∧ d.vs.length = xs.length ∧ d.cs.length = xs.length + 1) := ⟨nk, nv, nc⟩
  obtain ⟨kb, ko, hko, hkc⟩ := hN1.ok.kl.vl.at (by omega)
  obtain ⟨vb, vo, hvo, hvc⟩ := hN1.ok.vl.vl.at (by omega)
  have cv0 := hN1.ok.c2
  rw [hvo] at cv0
  rw [hko] at c1
  have HKC : Hid (∀ i (hi : i < (d.ks.map Part.val).length), wI.cell? ⟨kb, ko + i, none⟩ = some (d.ks.map Part.val)[i]) := hkc
  have HVC : Hid (∀ i (hi : i < (d.vs.map Part.val).length), wI.cell? ⟨vb, vo + i, none⟩ = some (d.vs.map Part.val)[i]) := hvc
  have HSZ : Hid (Szd l) := hsz
  clear hkc hvc hko hvo nk nv nc hsz
  have BN : Below wI.heap.size wI (wI.alloc (.cells #[.int .i64 (d.L : Int), .slice none 0 0, .slice none 0 0, .slice none 0 0] 74)) := (Below.refl _ _).alloc (Nat.le_refl _) _
  have c1' := (BN.cell (World.block_lt_of_cell? _ _ c1)).trans c1
  unfold Nd.ptr
  go_enter Tryd.func39, Tryd.ntmps39
  go_wp2
  clear c0 c1 c1' BN
  go_loopw [21] (fun i wr => ∃ (kk : Nat) (k v : Value) (ks vs : List Part), kk ≤ d.ks.length ∧ i = .int .i64 kk ∧ CpI wI wr d kk k v ks vs) (fun i _ => d.ks.length - (intOf i).toNat)
  case atStart => exact ⟨0, _, _, [], [], Nat.zero_le _, rfl, NB.new wI 74 52 (d.L : Int), (Below.refl _ _).alloc (Nat.le_refl _) _, rfl, rfl, PartsF.nil _ _ _ _ _ _, PartsF.nil _ _ _ _ _ _⟩
  case round =>
    obtain ⟨kk, k, v, ks, vs, hkk, rfl, H⟩ := hrel
    by_cases hlt : kk < d.ks.length
    · have hki : (kk : Int) < (d.ks.length : Int) := by omega
      have hkv : kk < d.vs.length := by have := HNK.out; omega
      have hkvi : (kk : Int) < (d.vs.length : Int) := by omega
      obtain ⟨qk, hqk⟩ : ∃ q, q = d.ks[kk] := ⟨_, rfl⟩
      obtain ⟨qv, hqv⟩ : ∃ q, q = d.vs[kk] := ⟨_, rfl⟩
      have ck0 := HKC.out kk (by simpa using hlt)
      have cv1 := HVC.out kk (by simpa using hkv)
      rw [List.getElem_map, ← hqk] at ck0
      rw [List.getElem_map, ← hqv] at cv1
      have sqk := hN1.ok.kl.sl qk (by rw [hqk]; exact List.getElem_mem _)
      have sqv := hN1.ok.vl.sl qv (by rw [hqv]; exact List.getElem_mem _)
      have hx : kk < xs.length := by have := HNK.out; omega
      have hsq := HSZ.out xs[kk] (hN1.shp.key _ (List.getElem_mem hx))
      have hqkn : qk.n ≤ 1000000 := by rw [← sqk.len, hqk, hN1.keyAt kk hlt hx]; exact hsq.1
      have hqvn : qv.n ≤ 1000000 := by rw [← sqv.len, hqv, hN1.valAt kk hkv hx]; exact hsq.2
      have HTK : Hid (d.ks.take (kk + 1) = d.ks.take kk ++ [qk]) := by show _ = _; rw [hqk, List.take_succ_eq_append_getElem hlt]
      have HTV : Hid (d.vs.take (kk + 1) = d.vs.take kk ++ [qv]) := by show _ = _; rw [hqv, List.take_succ_eq_append_getElem hkv]
      clear hqk hqv hsq
      unfold Part.val at ck0 cv1
      have ck1 := (H.b.cell (World.block_lt_of_cell? _ _ ck0)).trans ck0
      clear ck0
      have N := H.nb
      have B := H.b
      have HEK : Hid (ks.map Part.xs = (d.ks.take kk).map Part.xs) := H.ek
      have HEV : Hid (vs.map Part.xs = (d.vs.take kk).map Part.xs) := H.ev
      have FK := H.fk
      have FV := H.fv
      have HXL : Hid (ks.length ≤ 50000 ∧ vs.length ≤ 50000) := by
        have e1 := congrArg List.length H.ek
        have e2 := congrArg List.length H.ev
        simp only [List.length_map, List.length_take] at e1 e2
        exact ⟨by omega, by omega⟩
      clear H
      go_wp2
      clear ck1
      have pE0 : Below wr.heap.size wr wr.drew := (Below.refl _ _).drew
      refine wp_region_noPanic ?_
      refine wp_region_held_drew (S := fun _ => True) (by kernel_rfl) trivial (fun _ => ?_)
      obtain ⟨pv0, hv0⟩ : ∃ v, v = wr.drew := ⟨_, rfl⟩
      rw [← hv0] at pE0 ⊢
      clear hv0
      refine hr_take_w 0 (some 26) (.pointer (some ⟨wI.heap.size, 0, none⟩)) rfl rfl (by kernel_rfl) (by kernel_rfl) (by kernel_rfl) rfl (fun W hW => by go_simp) trivial ?_
      simp only [Act.put, List.setIfInBounds_toArray, List.set_cons_zero, List.set_cons_succ]
      refine hr_take_w 1 (some 27) (.pointer (some ⟨wI.heap.size, 0, none⟩)) rfl rfl (by kernel_rfl) (by kernel_rfl) (by kernel_rfl) rfl (fun W hW => by go_simp) trivial ?_
      simp only [Act.put, List.setIfInBounds_toArray, List.set_cons_zero, List.set_cons_succ]
      refine hr_take_w 2 (some 28) (.pointer (some ⟨wI.heap.size, 0, none⟩)) rfl rfl (by kernel_rfl) (by kernel_rfl) (by kernel_rfl) rfl (fun W hW => by go_simp) trivial ?_
      simp only [Act.put, List.setIfInBounds_toArray, List.set_cons_zero, List.set_cons_succ]
      refine hr_take_w 3 (some 29) (.pointer (some ⟨wI.heap.size, 1, none⟩)) rfl rfl (by kernel_rfl) (by kernel_rfl) (by kernel_rfl) rfl (fun W hW => by go_simp) trivial ?_
      simp only [Act.put, List.setIfInBounds_toArray, List.set_cons_zero, List.set_cons_succ]
      refine hr_take_w 5 (some 31) (.slice qk.ao qk.n qk.cap) rfl rfl (by kernel_rfl) (by kernel_rfl) (by kernel_rfl) rfl (fun W hW => by go_simp) trivial ?_
      simp only [Act.put, List.setIfInBounds_toArray, List.set_cons_zero, List.set_cons_succ]
      refine wpAnyH_effto 4 (fun zi zv zw => (zi = 4 → zv = k) ∧ (zi = 6 → ∃ ro rc, zv = .slice ro qk.n rc ∧ Far zw 0 wI.heap.size wI.heap.size k v (.slice none 0 0) fun x => Sl x ro qk.n rc qk.xs) ∧ (zi = 7 → ∃ ro rc g1, zv = .slice (some ⟨g1, 0, none⟩) 1 1 ∧ VL zw (some ⟨g1, 0, none⟩) 1 1 [.slice ro qk.n rc] ∧ Far zw 0 wI.heap.size wI.heap.size k v (.slice none 0 0) fun x => Sl x ro qk.n rc qk.xs)) [(4, 30), (6, 32), (7, 33)] 77 (by kernel_rfl) (by decide) (by decide) rfl ?_ (fun _ _ => trivial) ?_ ?_
      · intro zi v w w' h hb
        refine ⟨fun e => ?_, fun e => ?_, fun e => ?_⟩
        · have h := h.1 e
          exact h
        · have h := h.2.1 e
          obtain ⟨ro, rc, h1, h2⟩ := h
          exact ⟨ro, rc, h1, h2.chg (Chg.below hb)⟩
        · have h := h.2.2 e
          obtain ⟨ro, rc, g1, h1, h2, h3⟩ := h
          exact ⟨ro, rc, g1, h1, h2.below hb, h3.chg (Chg.below hb)⟩
      · intro zp zhi o a w ho hs hb hdep
        have pEB := pE0.trans (hb.mono pE0.size)
        simp only [List.mem_cons, List.not_mem_nil, or_false] at zhi
        rcases zhi with rfl | rfl | rfl
        · obtain rfl : _ = o := Option.some.inj (show some _ = some o from ho)
          have t29 : a.tmps[29]? = some (.pointer (some ⟨wI.heap.size, 1, none⟩)) := hs.get 29 (by kernel_rfl) rfl
          have lc := (N.below pEB).arr.cell 1
          exact .inl ⟨k, w, by go_simp, ⟨fun _ => rfl, fun e => absurd e (by decide), fun e => absurd e (by decide)⟩, Below.refl _ _⟩
        · obtain rfl : _ = o := Option.some.inj (show some _ = some o from ho)
          have t31 : a.tmps[31]? = some (.slice qk.ao qk.n qk.cap) := hs.get 31 (by kernel_rfl) rfl
          have BB := B.trans (pEB.mono B.size)
          have N' := N.below pEB
          have CO := own_on w qk.ao qk.n qk.cap qk.xs (sqk.below BB) hqkn
          refine .inr ⟨29, #[.slice qk.ao qk.n qk.cap], by go_simp, CO.mono ?_⟩
          rintro e w' ⟨ro, rc, rfl, O, C⟩
          exact ⟨_, rfl, ⟨fun e => absurd e (by decide), fun _ => ⟨ro, rc, rfl, O.far BB.size (fun x hx => absurd hx (Nat.not_lt_zero x)) (fun x hx => N'.offNew hx)⟩, fun e => absurd e (by decide)⟩, C⟩
        · obtain rfl : _ = o := Option.some.inj (show some _ = some o from ho)
          obtain ⟨x32, t32, f32⟩ := (hdep 6 (by kernel_rfl)).at 32 (by kernel_rfl)
          replace f32 := f32.2.1 rfl
          obtain ⟨ro, rc, rfl, O⟩ := f32
          have CA : Below w.heap.size w (w.alloc (.cells #[.slice ro qk.n rc] 23)) := (Below.refl _ _).alloc (Nat.le_refl _) _
          exact .inl ⟨_, _, by go_simp, ⟨fun e => absurd e (by decide), fun e => absurd e (by decide), fun _ => ⟨ro, rc, _, rfl, VL.new w [.slice ro qk.n rc] 23 (by simp [maxLen]), O.chg (Chg.below CA)⟩⟩, CA⟩
      intro zf pv1 hb hh
      have pE1 := pE0.trans (hb.mono pE0.size)
      obtain e4 := (hh (4, 30) (by simp)).1 rfl
      obtain ⟨ro1, rc1, g1, e7, G1, O1⟩ := (hh (7, 33) (by simp)).2.2 rfl
      clear hh hb
      simp only [putL, List.foldl_cons, List.foldl_nil, e4, e7]
      clear e4 e7
      simp only [Act.put, List.setIfInBounds_toArray, List.set_cons_zero, List.set_cons_succ]
      have N1 := N.below pE1
      obtain ⟨x2, W1, ha, P1⟩ := N1.appK (by decide) (by decide) (ty := 68) (u := .slice ro1 qk.n rc1) G1 rfl (by rw [List.length_map]; have := HXL.out; omega)
      obtain ⟨ko2, kn2, kc2, rfl⟩ := row_slice P1.nb.ok
      refine hr_ex 8 (some 34) rfl rfl (by kernel_rfl) rfl (R := fun v w' => (.slice ko2 kn2 kc2) = v ∧ W1 = w') ⟨_, W1, by simp [execOp, Act.eval, resolve, invoke, builtin, ha], rfl, rfl⟩ ?_
      rintro v w' ⟨rfl, rfl⟩
      refine ⟨trivial, ?_⟩
      simp only [Act.put, List.setIfInBounds_toArray, List.set_cons_zero, List.set_cons_succ]
      refine hr_take_w 9 (some 35) (.pointer (some ⟨wI.heap.size, 0, none⟩)) rfl rfl (by kernel_rfl) (by kernel_rfl) (by kernel_rfl) rfl (fun W hW => by go_simp) trivial ?_
      simp only [Act.put, List.setIfInBounds_toArray, List.set_cons_zero, List.set_cons_succ]
      refine hr_take_w 10 (some 36) (.pointer (some ⟨wI.heap.size, 1, none⟩)) rfl rfl (by kernel_rfl) (by kernel_rfl) (by kernel_rfl) rfl (fun W hW => by go_simp) trivial ?_
      simp only [Act.put, List.setIfInBounds_toArray, List.set_cons_zero, List.set_cons_succ]
      have lc := P1.arr.cell 1
      have lf := P1.arr.free 1
      refine hr_skip 11 none (w' := W1.setCell ⟨wI.heap.size, 1, none⟩ (.slice ko2 kn2 kc2)) rfl rfl (by kernel_rfl) rfl (by go_simp) trivial ?_
      simp only [Act.put]
      refine wpAnyH_done (by kernel_rfl) ?_ _
      refine NoPanic.normal ?_
      clear lc lf ha
      have D3 := (Chg.below (g := wI.heap.size) (k := k) (v := v) (c := .slice none 0 0) pE1).trans P1.chg
      have N3 := P1.nb
      have O3 := O1.chg P1.chg
      have B3 := B.trans ((pE1.mono B.size).trans P1.below)
      obtain ⟨W3, hW2⟩ : ∃ W2, W2 = W1.setCell ⟨wI.heap.size, 1, none⟩ (.slice ko2 kn2 kc2) := ⟨_, rfl⟩
      rw [← hW2] at N3 O3 B3 D3 ⊢
      clear hW2 P1 N1 O1 G1 pE1 pE0
      clear N B
      go_wp2
      have rE0 : Below W3.heap.size W3 W3.drew := (Below.refl _ _).drew
      refine wp_region_noPanic ?_
      refine wp_region_held_drew (S := fun _ => True) (by kernel_rfl) trivial (fun _ => ?_)
      obtain ⟨rv0, hv0⟩ : ∃ v, v = W3.drew := ⟨_, rfl⟩
      rw [← hv0] at rE0 ⊢
      clear hv0
      refine hr_take_w 0 (some 37) (.pointer (some ⟨wI.heap.size, 0, none⟩)) rfl rfl (by kernel_rfl) (by kernel_rfl) (by kernel_rfl) rfl (fun W hW => by go_simp) trivial ?_
      simp only [Act.put, List.setIfInBounds_toArray, List.set_cons_zero, List.set_cons_succ]
      refine hr_take_w 1 (some 38) (.pointer (some ⟨wI.heap.size, 0, none⟩)) rfl rfl (by kernel_rfl) (by kernel_rfl) (by kernel_rfl) rfl (fun W hW => by go_simp) trivial ?_
      simp only [Act.put, List.setIfInBounds_toArray, List.set_cons_zero, List.set_cons_succ]
      refine hr_take_w 2 (some 39) (.pointer (some ⟨wI.heap.size, 0, none⟩)) rfl rfl (by kernel_rfl) (by kernel_rfl) (by kernel_rfl) rfl (fun W hW => by go_simp) trivial ?_
      simp only [Act.put, List.setIfInBounds_toArray, List.set_cons_zero, List.set_cons_succ]
      refine hr_take_w 3 (some 40) (.pointer (some ⟨wI.heap.size, 2, none⟩)) rfl rfl (by kernel_rfl) (by kernel_rfl) (by kernel_rfl) rfl (fun W hW => by go_simp) trivial ?_
      simp only [Act.put, List.setIfInBounds_toArray, List.set_cons_zero, List.set_cons_succ]
      refine hr_take_w 5 (some 42) (.pointer (some ⟨d.b, 0, none⟩)) rfl rfl (by kernel_rfl) (by kernel_rfl) (by kernel_rfl) rfl (fun W hW => by go_simp) trivial ?_
      simp only [Act.put, List.setIfInBounds_toArray, List.set_cons_zero, List.set_cons_succ]
      refine hr_take_w 6 (some 43) (.pointer (some ⟨d.b, 0, none⟩)) rfl rfl (by kernel_rfl) (by kernel_rfl) (by kernel_rfl) rfl (fun W hW => by go_simp) trivial ?_
      simp only [Act.put, List.setIfInBounds_toArray, List.set_cons_zero, List.set_cons_succ]
      refine hr_take_w 7 (some 44) (.pointer (some ⟨d.b, 2, none⟩)) rfl rfl (by kernel_rfl) (by kernel_rfl) (by kernel_rfl) rfl (fun W hW => by go_simp) trivial ?_
      simp only [Act.put, List.setIfInBounds_toArray, List.set_cons_zero, List.set_cons_succ]
      refine hr_take_w 9 (some 46) (.int .i64 (kk : Nat)) rfl rfl (by kernel_rfl) (by kernel_rfl) (by kernel_rfl) rfl (fun W hW => by go_simp) trivial ?_
      simp only [Act.put, List.setIfInBounds_toArray, List.set_cons_zero, List.set_cons_succ]
      refine wpAnyH_effto 4 (fun zi zv zw => (zi = 4 → zv = v) ∧ (zi = 8 → zv = .slice (some ⟨vb, vo, none⟩) d.vs.length d.vc) ∧ (zi = 10 → zv = .pointer (some ⟨vb, vo + kk, none⟩)) ∧ (zi = 11 → zv = .slice qv.ao qv.n qv.cap) ∧ (zi = 12 → ∃ ro rc, zv = .slice ro qv.n rc ∧ Far zw 0 wI.heap.size wI.heap.size (.slice ko2 kn2 kc2) v (.slice none 0 0) fun x => Sl x ro qv.n rc qv.xs) ∧ (zi = 13 → ∃ ro rc g1, zv = .slice (some ⟨g1, 0, none⟩) 1 1 ∧ VL zw (some ⟨g1, 0, none⟩) 1 1 [.slice ro qv.n rc] ∧ Far zw 0 wI.heap.size wI.heap.size (.slice ko2 kn2 kc2) v (.slice none 0 0) fun x => Sl x ro qv.n rc qv.xs)) [(4, 41), (8, 45), (10, 47), (11, 48), (12, 49), (13, 50)] 77 (by kernel_rfl) (by decide) (by decide) rfl ?_ (fun _ _ => trivial) ?_ ?_
      · intro zi v w w' h hb
        refine ⟨fun e => ?_, fun e => ?_, fun e => ?_, fun e => ?_, fun e => ?_, fun e => ?_⟩
        · have h := h.1 e
          exact h
        · have h := h.2.1 e
          exact h
        · have h := h.2.2.1 e
          exact h
        · have h := h.2.2.2.1 e
          exact h
        · have h := h.2.2.2.2.1 e
          obtain ⟨ro, rc, h1, h2⟩ := h
          exact ⟨ro, rc, h1, h2.chg (Chg.below hb)⟩
        · have h := h.2.2.2.2.2 e
          obtain ⟨ro, rc, g1, h1, h2, h3⟩ := h
          exact ⟨ro, rc, g1, h1, h2.below hb, h3.chg (Chg.below hb)⟩
      · intro zp zhi o a w ho hs hb hdep
        have rEB := rE0.trans (hb.mono rE0.size)
        simp only [List.mem_cons, List.not_mem_nil, or_false] at zhi
        rcases zhi with rfl | rfl | rfl | rfl | rfl | rfl
        · obtain rfl : _ = o := Option.some.inj (show some _ = some o from ho)
          have t40 : a.tmps[40]? = some (.pointer (some ⟨wI.heap.size, 2, none⟩)) := hs.get 40 (by kernel_rfl) rfl
          have lc := (N3.below rEB).arr.cell 2
          exact .inl ⟨v, w, by go_simp, ⟨fun _ => rfl, fun e => absurd e (by decide), fun e => absurd e (by decide), fun e => absurd e (by decide), fun e => absurd e (by decide), fun e => absurd e (by decide)⟩, Below.refl _ _⟩
        · obtain rfl : _ = o := Option.some.inj (show some _ = some o from ho)
          have t44 : a.tmps[44]? = some (.pointer (some ⟨d.b, 2, none⟩)) := hs.get 44 (by kernel_rfl) rfl
          have lc := ((B3.trans (rEB.mono B3.size)).cell (World.block_lt_of_cell? _ _ cv0)).trans cv0
          exact .inl ⟨.slice (some ⟨vb, vo, none⟩) d.vs.length d.vc, w, by go_simp, ⟨fun e => absurd e (by decide), fun _ => rfl, fun e => absurd e (by decide), fun e => absurd e (by decide), fun e => absurd e (by decide), fun e => absurd e (by decide)⟩, Below.refl _ _⟩
        · obtain rfl : _ = o := Option.some.inj (show some _ = some o from ho)
          obtain ⟨x45, t45, f45⟩ := (hdep 8 (by kernel_rfl)).at 45 (by kernel_rfl)
          replace f45 := f45.2.1 rfl
          have t46 : a.tmps[46]? = some (.int .i64 (kk : Nat)) := hs.get 46 (by kernel_rfl) rfl
          subst f45
          exact .inl ⟨.pointer (some ⟨vb, vo + kk, none⟩), w, by go_simp, ⟨fun e => absurd e (by decide), fun e => absurd e (by decide), fun _ => rfl, fun e => absurd e (by decide), fun e => absurd e (by decide), fun e => absurd e (by decide)⟩, Below.refl _ _⟩
        · obtain rfl : _ = o := Option.some.inj (show some _ = some o from ho)
          obtain ⟨x47, t47, f47⟩ := (hdep 10 (by kernel_rfl)).at 47 (by kernel_rfl)
          replace f47 := f47.2.2.1 rfl
          subst f47
          have lc := ((B3.trans (rEB.mono B3.size)).cell (World.block_lt_of_cell? _ _ cv1)).trans cv1
          exact .inl ⟨.slice qv.ao qv.n qv.cap, w, by go_simp, ⟨fun e => absurd e (by decide), fun e => absurd e (by decide), fun e => absurd e (by decide), fun _ => rfl, fun e => absurd e (by decide), fun e => absurd e (by decide)⟩, Below.refl _ _⟩
        · obtain rfl : _ = o := Option.some.inj (show some _ = some o from ho)
          obtain ⟨x48, t48, f48⟩ := (hdep 11 (by kernel_rfl)).at 48 (by kernel_rfl)
          replace f48 := f48.2.2.2.1 rfl
          subst f48
          have BB := B3.trans (rEB.mono B3.size)
          have N' := N3.below rEB
          have CO := own_on w qv.ao qv.n qv.cap qv.xs (sqv.below BB) hqvn
          refine .inr ⟨29, #[.slice qv.ao qv.n qv.cap], by go_simp, CO.mono ?_⟩
          rintro e w' ⟨ro, rc, rfl, O, C⟩
          exact ⟨_, rfl, ⟨fun e => absurd e (by decide), fun e => absurd e (by decide), fun e => absurd e (by decide), fun e => absurd e (by decide), fun _ => ⟨ro, rc, rfl, O.far BB.size (fun x hx => absurd hx (Nat.not_lt_zero x)) (fun x hx => N'.offNew hx)⟩, fun e => absurd e (by decide)⟩, C⟩
        · obtain rfl : _ = o := Option.some.inj (show some _ = some o from ho)
          obtain ⟨x49, t49, f49⟩ := (hdep 12 (by kernel_rfl)).at 49 (by kernel_rfl)
          replace f49 := f49.2.2.2.2.1 rfl
          obtain ⟨ro, rc, rfl, O⟩ := f49
          have CA : Below w.heap.size w (w.alloc (.cells #[.slice ro qv.n rc] 23)) := (Below.refl _ _).alloc (Nat.le_refl _) _
          exact .inl ⟨_, _, by go_simp, ⟨fun e => absurd e (by decide), fun e => absurd e (by decide), fun e => absurd e (by decide), fun e => absurd e (by decide), fun e => absurd e (by decide), fun _ => ⟨ro, rc, _, rfl, VL.new w [.slice ro qv.n rc] 23 (by simp [maxLen]), O.chg (Chg.below CA)⟩⟩, CA⟩
      intro zf rv1 hb hh
      have rE1 := rE0.trans (hb.mono rE0.size)
      obtain e4 := (hh (4, 41) (by simp)).1 rfl
      obtain e8 := (hh (8, 45) (by simp)).2.1 rfl
      obtain e10 := (hh (10, 47) (by simp)).2.2.1 rfl
      obtain e11 := (hh (11, 48) (by simp)).2.2.2.1 rfl
      obtain ⟨ro2, rc2, g1, e13, G1, O1⟩ := (hh (13, 50) (by simp)).2.2.2.2.2 rfl
      clear hh hb
      simp only [putL, List.foldl_cons, List.foldl_nil, e4, e8, e10, e11, e13]
      clear e4 e8 e10 e11 e13
      simp only [Act.put, List.setIfInBounds_toArray, List.set_cons_zero, List.set_cons_succ]
      have N1 := N3.below rE1
      obtain ⟨x2, W1, ha, P1⟩ := N1.appV (by decide) (by decide) (ty := 68) (u := .slice ro2 qv.n rc2) G1 rfl (by rw [List.length_map]; have := HXL.out; omega)
      obtain ⟨vo2, vn2, vc2, rfl⟩ := row_slice P1.nb.ov
      refine hr_ex 14 (some 51) rfl rfl (by kernel_rfl) rfl (R := fun v w' => (.slice vo2 vn2 vc2) = v ∧ W1 = w') ⟨_, W1, by simp [execOp, Act.eval, resolve, invoke, builtin, ha], rfl, rfl⟩ ?_
      rintro v w' ⟨rfl, rfl⟩
      refine ⟨trivial, ?_⟩
      simp only [Act.put, List.setIfInBounds_toArray, List.set_cons_zero, List.set_cons_succ]
      refine hr_take_w 15 (some 52) (.pointer (some ⟨wI.heap.size, 0, none⟩)) rfl rfl (by kernel_rfl) (by kernel_rfl) (by kernel_rfl) rfl (fun W hW => by go_simp) trivial ?_
      simp only [Act.put, List.setIfInBounds_toArray, List.set_cons_zero, List.set_cons_succ]
      refine hr_take_w 16 (some 53) (.pointer (some ⟨wI.heap.size, 2, none⟩)) rfl rfl (by kernel_rfl) (by kernel_rfl) (by kernel_rfl) rfl (fun W hW => by go_simp) trivial ?_
      simp only [Act.put, List.setIfInBounds_toArray, List.set_cons_zero, List.set_cons_succ]
      have lc := P1.arr.cell 2
      have lf := P1.arr.free 2
      refine hr_skip 17 none (w' := W1.setCell ⟨wI.heap.size, 2, none⟩ (.slice vo2 vn2 vc2)) rfl rfl (by kernel_rfl) rfl (by go_simp) trivial ?_
      simp only [Act.put]
      refine wpAnyH_done (by kernel_rfl) ?_ _
      refine NoPanic.normal ?_
      clear lc lf ha
      have D4 := (Chg.below (g := wI.heap.size) (k := (.slice ko2 kn2 kc2)) (v := v) (c := .slice none 0 0) rE1).trans P1.chg
      have N4 := P1.nb
      have O4 := O1.chg P1.chg
      have B4 := B3.trans ((rE1.mono B3.size).trans P1.below)
      obtain ⟨W4, hW2⟩ : ∃ W2, W2 = W1.setCell ⟨wI.heap.size, 2, none⟩ (.slice vo2 vn2 vc2) := ⟨_, rfl⟩
      rw [← hW2] at N4 O4 B4 D4 ⊢
      clear hW2 P1 N1 O1 G1 rE1 rE0
      clear N3 B3
      go_wp2
      go_roundw
      case rel =>
        refine ⟨kk + 1, .slice ko2 kn2 kc2, .slice vo2 vn2 vc2, ks ++ [⟨ro1, qk.n, rc1, qk.xs⟩], vs ++ [⟨ro2, qv.n, rc2, qv.xs⟩], by omega, by go_num, ?_, B4, ?_, ?_, ?_, ?_⟩
        · rw [List.map_append, List.map_append]
          exact N4
        · rw [List.map_append, HEK.out, HTK.out, List.map_append]
          rfl
        · rw [List.map_append, HEV.out, HTV.out, List.map_append]
          rfl
        · exact ((FK.chg D3).app O3).chg D4
        · exact ((FV.chg D3).chg D4).app O4
      case measure => simp [intOf]; omega
    · have hge : ¬ (kk : Int) < (d.ks.length : Int) := by omega
      have c3 := hN1.ok.c3
      obtain ⟨cb, co, hco, hcc⟩ := hN1.ok.cl.at (by have := HNK.out; omega)
      rw [hco] at c3
      have c3' := (H.b.cell (World.block_lt_of_cell? _ _ c3)).trans c3
      have HCC : Hid (∀ i (hi : i < d.cs.length), wI.cell? ⟨cb, co + i, none⟩ = some d.cs[i]) := hcc
      clear hco hcc c3
      have hcn : d.cs.length ≤ 50001 := by have := HNK.out; omega
      have hcni : (d.cs.length : Int) ≤ 50001 := by omega
      go_wp2
      clear c3'
      go_loopw [60] (fun i wr => ∃ (kk : Nat) (c : Value) (us : List Value), kk ≤ d.cs.length ∧ i = .int .i64 kk ∧ CkI wI wr d segs kk k v c ks vs us) (fun i _ => d.cs.length - (intOf i).toNat)
      case atStart =>
        have hkd : d.ks.take kk = d.ks := List.take_of_length_le (by omega)
        have hvd : d.vs.take kk = d.vs := List.take_of_length_le (by have := HNK.out; omega)
        exact ⟨0, _, [], Nat.zero_le _, rfl, H.nb, H.b, by rw [H.ek, hkd], by rw [H.ev, hvd], H.fk, H.fv, KidsF.nil _ _ _ _ _ _ _⟩
      case round =>
        clear H
        obtain ⟨kk2, c, us, hkk2, rfl, H⟩ := hrel
        by_cases hlt2 : kk2 < d.cs.length
        · have hki2 : (kk2 : Int) < (d.cs.length : Int) := by omega
          have hsg : kk2 < segs.length := by rw [← hN1.ec]; exact hlt2
          obtain ⟨s, hs⟩ : ∃ s, s = segs[kk2] := ⟨_, rfl⟩
          obtain ⟨u, hu, Tu⟩ := hN1.kid kk2 s (by rw [hs]; exact List.getElem?_eq_getElem hsg)
          obtain ⟨pu, rfl⟩ := Tu.ptr
          have hu' : d.cs[kk2] = .pointer pu := by rw [List.getElem?_eq_getElem hlt2] at hu; exact Option.some.inj hu
          have cu := HCC.out kk2 hlt2
          rw [hu'] at cu
          have cu' := (H.b.cell (World.block_lt_of_cell? _ _ cu)).trans cu
          have hsl := hN1.shp.shorter s (by rw [hs]; exact List.getElem_mem _)
          have hslt : s.length < N := by omega
          have HSS : Hid (Szd s) := fun x hx => HSZ.out x (hN1.shp.seg s (by rw [hs]; exact List.getElem_mem _) x hx)
          have HTS : Hid (segs.take (kk2 + 1) = segs.take kk2 ++ [s]) := by show _ = _; rw [hs, List.take_succ_eq_append_getElem hsg]
          clear hu hu' cu hs
          have N := H.nb
          have B := H.b
          have KF := H.kf
          have HXL : Hid ((segs.take kk2).length ≤ 50001) := by show _ ≤ _; rw [List.length_take]; omega
          have FK := H.fk
          have FV := H.fv
          have HEK : Hid (ks.map Part.xs = d.ks.map Part.xs) := H.ek
          have HEV : Hid (vs.map Part.xs = d.vs.map Part.xs) := H.ev
          clear H
          go_wp2
          clear cu'
          have E0 : Below wr.heap.size wr wr.drew := (Below.refl _ _).drew
          refine wp_region_noPanic ?_
          refine wp_region_held_drew (S := fun _ => True) (by kernel_rfl) trivial (fun _ => ?_)
          obtain ⟨v0, hv0⟩ : ∃ v, v = wr.drew := ⟨_, rfl⟩
          rw [← hv0] at E0 ⊢
          clear hv0
          refine hr_take_w 0 (some 64) (.pointer (some ⟨wI.heap.size, 0, none⟩)) rfl rfl (by kernel_rfl) (by kernel_rfl) (by kernel_rfl) rfl (fun W hW => by go_simp) trivial ?_
          simp only [Act.put, List.setIfInBounds_toArray, List.set_cons_zero, List.set_cons_succ]
          refine hr_take_w 1 (some 65) (.pointer (some ⟨wI.heap.size, 0, none⟩)) rfl rfl (by kernel_rfl) (by kernel_rfl) (by kernel_rfl) rfl (fun W hW => by go_simp) trivial ?_
          simp only [Act.put, List.setIfInBounds_toArray, List.set_cons_zero, List.set_cons_succ]
          refine hr_take_w 2 (some 66) (.pointer (some ⟨wI.heap.size, 0, none⟩)) rfl rfl (by kernel_rfl) (by kernel_rfl) (by kernel_rfl) rfl (fun W hW => by go_simp) trivial ?_
          simp only [Act.put, List.setIfInBounds_toArray, List.set_cons_zero, List.set_cons_succ]
          refine hr_take_w 3 (some 67) (.pointer (some ⟨wI.heap.size, 3, none⟩)) rfl rfl (by kernel_rfl) (by kernel_rfl) (by kernel_rfl) rfl (fun W hW => by go_simp) trivial ?_
          simp only [Act.put, List.setIfInBounds_toArray, List.set_cons_zero, List.set_cons_succ]
          refine hr_take_w 5 (some 69) (.pointer pu) rfl rfl (by kernel_rfl) (by kernel_rfl) (by kernel_rfl) rfl (fun W hW => by go_simp) trivial ?_
          simp only [Act.put, List.setIfInBounds_toArray, List.set_cons_zero, List.set_cons_succ]
          refine wpAnyH_effto 4 (fun zi zv zw => (zi = 4 → zv = c) ∧ (zi = 6 → ∃ po, zv = .pointer po ∧ Far zw 0 wI.heap.size wI.heap.size k v c fun x => T x (.pointer po) s) ∧ (zi = 7 → ∃ po g1, zv = .slice (some ⟨g1, 0, none⟩) 1 1 ∧ VL zw (some ⟨g1, 0, none⟩) 1 1 [.pointer po] ∧ Far zw 0 wI.heap.size wI.heap.size k v c fun x => T x (.pointer po) s)) [(4, 68), (6, 70), (7, 71)] 77 (by kernel_rfl) (by decide) (by decide) rfl ?_ (fun _ _ => trivial) ?_ ?_
          · intro zi v w w' h hb
            refine ⟨fun e => ?_, fun e => ?_, fun e => ?_⟩
            · have h := h.1 e
              exact h
            · have h := h.2.1 e
              obtain ⟨po, h1, h2⟩ := h
              exact ⟨po, h1, h2.chg (Chg.below hb)⟩
            · have h := h.2.2 e
              obtain ⟨po, g1, h1, h2, h3⟩ := h
              exact ⟨po, g1, h1, h2.below hb, h3.chg (Chg.below hb)⟩
          · intro zp zhi o a w ho hs hb hdep
            have EB := E0.trans (hb.mono E0.size)
            simp only [List.mem_cons, List.not_mem_nil, or_false] at zhi
            rcases zhi with rfl | rfl | rfl
            · obtain rfl : _ = o := Option.some.inj (show some _ = some o from ho)
              have t67 : a.tmps[67]? = some (.pointer (some ⟨wI.heap.size, 3, none⟩)) := hs.get 67 (by kernel_rfl) rfl
              have lc := (N.below EB).arr.cell 3
              exact .inl ⟨c, w, by go_simp, ⟨fun _ => rfl, fun e => absurd e (by decide), fun e => absurd e (by decide)⟩, Below.refl _ _⟩
            · obtain rfl : _ = o := Option.some.inj (show some _ = some o from ho)
              have t69 : a.tmps[69]? = some (.pointer pu) := hs.get 69 (by kernel_rfl) rfl
              have N' := N.below EB
              have BB := B.trans (EB.mono B.size)
              have CS := ih s.length hslt w (.pointer pu) s (Tu.below BB) (by omega) HSS.out (Nat.le_refl _)
              refine .inr ⟨39, #[.pointer pu], by go_simp, CS.mono ?_⟩
              rintro e w' ⟨po, rfl, O, C⟩
              exact ⟨_, rfl, ⟨fun e => absurd e (by decide), fun _ => ⟨po, rfl, O.far BB.size (fun x hx => absurd hx (Nat.not_lt_zero x)) (fun x hx => N'.offNew hx)⟩, fun e => absurd e (by decide)⟩, C⟩
            · obtain rfl : _ = o := Option.some.inj (show some _ = some o from ho)
              obtain ⟨x70, t70, f70⟩ := (hdep 6 (by kernel_rfl)).at 70 (by kernel_rfl)
              replace f70 := f70.2.1 rfl
              obtain ⟨po, rfl, T1⟩ := f70
              have CA : Below w.heap.size w (w.alloc (.cells #[.pointer po] 52)) := (Below.refl _ _).alloc (Nat.le_refl _) _
              exact .inl ⟨_, _, by go_simp, ⟨fun e => absurd e (by decide), fun e => absurd e (by decide), fun _ => ⟨po, _, rfl, VL.new w [.pointer po] 52 (by simp [maxLen]), T1.chg (Chg.below CA)⟩⟩, CA⟩
          intro zf v1 hb hh
          have E1 := E0.trans (hb.mono E0.size)
          obtain e4 := (hh (4, 68) (by simp)).1 rfl
          obtain ⟨po, g1, e7, G1, T1⟩ := (hh (7, 71) (by simp)).2.2 rfl
          clear hh hb
          simp only [putL, List.foldl_cons, List.foldl_nil, e4, e7]
          clear e4 e7
          simp only [Act.put, List.setIfInBounds_toArray, List.set_cons_zero, List.set_cons_succ]
          have N1 := N.below E1
          have D1 : Chg wr v1 wI.heap.size k v c k v c := Chg.below E1
          have KF1 := (KF.chg D1).app T1
          obtain ⟨c2, W1, ha, P1⟩ := N1.appC (by decide) (by decide) (ps := 72) (ty := 72) Tryd.underlying72 ninfo G1 rfl (by rw [KF.len]; have := HXL.out; omega)
          obtain ⟨co2, cn2, cc2, rfl⟩ := row_slice P1.nb.oc
          refine hr_ex 8 (some 72) rfl rfl (by kernel_rfl) rfl (R := fun v w' => (.slice co2 cn2 cc2) = v ∧ W1 = w') ⟨_, W1, by simp [execOp, Act.eval, resolve, invoke, builtin, ha], rfl, rfl⟩ ?_
          rintro v w' ⟨rfl, rfl⟩
          refine ⟨trivial, ?_⟩
          simp only [Act.put, List.setIfInBounds_toArray, List.set_cons_zero, List.set_cons_succ]
          refine hr_take_w 9 (some 73) (.pointer (some ⟨wI.heap.size, 0, none⟩)) rfl rfl (by kernel_rfl) (by kernel_rfl) (by kernel_rfl) rfl (fun W hW => by go_simp) trivial ?_
          simp only [Act.put, List.setIfInBounds_toArray, List.set_cons_zero, List.set_cons_succ]
          refine hr_take_w 10 (some 74) (.pointer (some ⟨wI.heap.size, 3, none⟩)) rfl rfl (by kernel_rfl) (by kernel_rfl) (by kernel_rfl) rfl (fun W hW => by go_simp) trivial ?_
          simp only [Act.put, List.setIfInBounds_toArray, List.set_cons_zero, List.set_cons_succ]
          have lc := P1.arr.cell 3
          have lf := P1.arr.free 3
          refine hr_skip 11 none (w' := W1.setCell ⟨wI.heap.size, 3, none⟩ (.slice co2 cn2 cc2)) rfl rfl (by kernel_rfl) rfl (by go_simp) trivial ?_
          simp only [Act.put]
          refine wpAnyH_done (by kernel_rfl) ?_ _
          refine NoPanic.normal ?_
          clear lc lf ha
          have N2 := P1.nb
          have KF2 := KF1.chg P1.chg
          have D2 := D1.trans P1.chg
          have B2 := B.trans ((E1.mono B.size).trans P1.below)
          obtain ⟨W2, hW2⟩ : ∃ W2, W2 = W1.setCell ⟨wI.heap.size, 3, none⟩ (.slice co2 cn2 cc2) := ⟨_, rfl⟩
          rw [← hW2] at N2 KF2 D2 B2 ⊢
          clear hW2
          go_wp2
          go_roundw
          case rel =>
            refine ⟨kk2 + 1, (.slice co2 cn2 cc2), us ++ [.pointer po], by omega, by go_num, N2, B2, HEK.out, HEV.out, FK.chg D2, FV.chg D2, ?_⟩
            rw [HTS.out]
            exact KF2
          case measure => simp [intOf]; omega
        · have hge2 : ¬ (kk2 : Int) < (d.cs.length : Int) := by omega
          go_wp2
          go_ret
          refine ⟨_, rfl, fun W hW => ?_, H.b⟩
          have hseg : segs.take kk2 = segs := List.take_of_length_le (by rw [← hN1.ec]; omega)
          have KF := H.kf
          rw [hseg] at KF
          exact (H.nb.on (fun b h1 h2 => hW b (.inr h1) h2)).tree (fun q hq => (H.fk q hq).end hW) (fun q hq => (H.fv q hq).end hW) hN1.shp (H.ek.trans hN1.ek) (H.ev.trans hN1.ev) (KF.end hW)

set_option maxHeartbeats 400000 in
set_option maxRecDepth 100000 in
/-- Top. -/
theorem top_any (w : World) (v : Value) (l : List It) (h : TT w v l) (hn : l.length ≤ 50000) (hsz : Szd l) : Calls Tryd.prog 20 #[v] w (OnT 0 w l) := by
  have CS := shared_any w v l h
  obtain ⟨po, rfl⟩ := h.ptr
  go_enter Tryd.func20, Tryd.ntmps20
  go_wp2_with fail
  refine CS.mono ?_
  rintro e w2 ⟨q, rfl, hq, hw2⟩
  obtain rfl := hw2.symm
  have CC := copy_fuel l.length w (.pointer q) l hq hn hsz (Nat.le_refl _)
  clear CS
  go_wp2_with fail
  refine CC.mono ?_
  rintro e w3 ⟨u, rfl, O, C⟩
  go_wp2
  go_ret
  exact ⟨u, rfl, O, C⟩
end Go.Proofs.YtnicnfjickknjaaDoor

namespace Go.Proofs.YtnicnfjickknjaaDoor

/-- What an entry is: its key's block, its value. -/
def entryIs (e : MapEntry) (p : Nat × Value) : Prop := e.key = .pointer (some ⟨p.1, 0, none⟩) ∧ e.val = p.2
/-- The block holds cells, and no string's bytes. -/
def Ordi (w : World) (b : Nat) : Prop := ∃ (c : Array Value) (t : TypeId), w.heap[b]? = some (.cells c t (0, 0))
theorem Ordi.lt {w : World} {b : Nat} (h : Ordi w b) : b < w.heap.size := by
  obtain ⟨c, t, e⟩ := h
  exact (Array.getElem?_eq_some_iff.1 e).1
/-- Block m is a map with these entries. -/
def PM (w : World) (m : Nat) (F : List (Nat × Value)) : Prop :=
  ∃ (es : Array MapEntry) (clock : Nat), w.heap[m]? = some (.map es clock) ∧ es.toList.length = F.length ∧ (∀ i (h : i < es.toList.length) (k : i < F.length), entryIs es.toList[i] F[i]) ∧ ∀ p ∈ F, Ordi w p.1
def findB (b : Nat) : List (Nat × Value) → Nat → Option (Nat × Value)
  | [], _ => none
  | p :: F, i => if p.1 = b then some (i, p.2) else findB b F (i + 1)
section
variable {P : Program} {w : World} {kt te : TypeId} {j : TypeInfo}
theorem run_ptr_same (hp : P.underlying kt = some (.pointer te)) (hte : P.info? te = some j) (b : Nat) : (Op.equal kt (.pointer (some ⟨b, 0, none⟩)) (.pointer (some ⟨b, 0, none⟩))).run P w = .ok true w := by
  have h : ∀ d : Nat, (Op.equalIn (d + 1) kt (.pointer (some ⟨b, 0, none⟩)) (.pointer (some ⟨b, 0, none⟩))).run P w = .ok true w := fun d => by simp [Op.equalIn, run_underlying hp, sizeOf, typeInfo, hte, run_sameAddr_same]
  simp only [Op.equal, Op.maxDepth]
  exact h 9999
theorem run_ptr_other (hp : P.underlying kt = some (.pointer te)) (hte : P.info? te = some j) (hsz : j.size ≠ 0) {b c : Nat} (hne : b ≠ c) (hb : Ordi w b) (hc : Ordi w c) : (Op.equal kt (.pointer (some ⟨b, 0, none⟩)) (.pointer (some ⟨c, 0, none⟩))).run P w = .ok false w := by
  obtain ⟨cb, tb, eb⟩ := hb
  obtain ⟨cc, tc, ec⟩ := hc
  have h : ∀ d : Nat, (Op.equalIn (d + 1) kt (.pointer (some ⟨b, 0, none⟩)) (.pointer (some ⟨c, 0, none⟩))).run P w = .ok false w := fun d => by simp [Op.equalIn, run_underlying hp, sizeOf, typeInfo, hte, hsz, run_sameAddr_other w (a := ⟨b, 0, none⟩) (b := ⟨c, 0, none⟩) (fun e => hne (congrArg Addr.block e)) eb ec]
  simp only [Op.equal, Op.maxDepth]
  exact h 9999
theorem run_findAsking (hp : P.underlying kt = some (.pointer te)) (hte : P.info? te = some j) (hsz : j.size ≠ 0) (b : Nat) (hb : Ordi w b) : ∀ (es : List MapEntry) (F : List (Nat × Value)) (i : Nat), es.length = F.length → (∀ i (h : i < es.length) (k : i < F.length), entryIs es[i] F[i]) → (∀ p ∈ F, Ordi w p.1) →
    (Instr.findAsking kt (.pointer (some ⟨b, 0, none⟩)) es i).run P w = .ok (findB b F i) w
  | [], [], i, _, _, _ => by simp [Instr.findAsking, findB]
  | [], _ :: _, _, h, _, _ => by simp at h
  | _ :: _, [], _, h, _, _ => by simp at h
  | e :: es, p :: F, i, hl, he, ho => by
    obtain ⟨e1, e2⟩ := he 0 (by simp) (by simp)
    simp only [List.getElem_cons_zero] at e1 e2
    have ih := run_findAsking hp hte hsz b hb es F (i + 1) (by simpa using hl) (fun i h k => he (i + 1) (by simpa using h) (by simpa using k)) (fun q hq => ho q (List.mem_cons_of_mem _ hq))
    unfold Instr.findAsking findB
    rw [e1]
    by_cases c : p.1 = b
    · rw [if_pos c, c]
      simp [run_ptr_same hp hte, e2]
    · rw [if_neg c]
      simp [run_ptr_other hp hte hsz (fun h => c h.symm) hb (ho p (List.mem_cons_self ..)), ih]
theorem findB_nil (b : Nat) (i : Nat) : findB b [] i = none := rfl
theorem run_findKey (hp : P.underlying kt = some (.pointer te)) (hte : P.info? te = some j) (hsz : j.size ≠ 0) (b : Nat) (hb : Ordi w b) (es : List MapEntry) (F : List (Nat × Value)) (hl : es.length = F.length) (he : ∀ i (h : i < es.length) (k : i < F.length), entryIs es[i] F[i]) (ho : ∀ p ∈ F, Ordi w p.1) :
    (Instr.findKey kt (.pointer (some ⟨b, 0, none⟩)) es).run P w = .ok (findB b F 0) w := by
  have hA := run_findAsking hp hte hsz b hb es F 0 hl he ho
  unfold Instr.findKey
  cases es with
  | nil =>
    obtain rfl : F = [] := List.eq_nil_of_length_eq_zero (by simpa using hl.symm)
    simp [run_underlying hp, Instr.findNow, findB]
  | cons e es =>
    have hN : Instr.findNow (.pointer te) (.pointer (some ⟨b, 0, none⟩)) (e :: es) 0 = none := by
      unfold Instr.findNow Instr.sameNow
      rfl
    simp only [run_underlying hp, Sem.run_bind, Result.andThen_ok, hN, hA]
theorem run_checkPtr (hp : P.underlying kt = some (.pointer te)) (em : Bool) (b : Nat) : (Instr.checkKey em 10000 kt (.pointer (some ⟨b, 0, none⟩))).run P w = .ok () w := by
  rw [show (10000 : Nat) = 9999 + 1 from rfl]
  unfold Instr.checkKey
  simp [run_underlying hp]
theorem findB_at (b : Nat) : ∀ (F : List (Nat × Value)) (i : Nat), (findB b F i = none ∧ ∀ p ∈ F, p.1 ≠ b) ∨ ∃ (k : Nat) (v : Value) (h : k < F.length), findB b F i = some (i + k, v) ∧ F[k] = (b, v)
  | [], i => .inl ⟨rfl, fun _ h => by simp at h⟩
  | p :: F, i => by
    unfold findB
    by_cases c : p.1 = b
    · rw [if_pos c]
      exact .inr ⟨0, p.2, by simp, rfl, by simp [← c]⟩
    · rw [if_neg c]
      rcases findB_at b F (i + 1) with ⟨e, h⟩ | ⟨k, v, hk, e, h⟩
      · refine .inl ⟨e, fun q hq => ?_⟩
        rcases List.mem_cons.1 hq with rfl | hq
        · exact c
        · exact h q hq
      · exact .inr ⟨k + 1, v, by simpa using hk, by rw [e]; simp only [Option.some.injEq, Prod.mk.injEq, and_true]; omega, by simpa using h⟩
theorem PM.look {m : Nat} {F : List (Nat × Value)} (h : PM w m F) {t e : TypeId} {z : Value} (ht : P.underlying t = some (.map kt e)) (hp : P.underlying kt = some (.pointer te)) (hte : P.info? te = some j) (hsz : j.size ≠ 0) (hz : (zeroValue e).run P w = .ok z w) (b : Nat) (hb : Ordi w b) (ok : Bool) :
    (Instr.lookup t (.map (some m)) (.pointer (some ⟨b, 0, none⟩)) ok).run P w = .ok (if ok then .tuple #[((findB b F 0).map Prod.snd).getD z, .bool (findB b F 0).isSome] else ((findB b F 0).map Prod.snd).getD z) w := by
  obtain ⟨es, clock, h1, h2, h3, h4⟩ := h
  have hk := run_findKey hp hte hsz b hb es.toList F h2 h3 h4
  unfold Instr.lookup
  cases hf : findB b F 0 with
  | none =>
    rw [hf] at hk
    simp [run_underlying ht, MapKept.run_getObj_map h1, run_checkPtr hp, hk, hz]
  | some p =>
    rw [hf] at hk
    simp [run_underlying ht, MapKept.run_getObj_map h1, run_checkPtr hp, hk]
/-- Writes of block m alone. -/
theorem PM.grown {m : Nat} {o : Obj} : w.grownBy { w with heap := w.heap.setIfInBounds m o } (some m) :=
  ⟨rfl, rfl, rfl, by simp, fun i hi hne => by
    have : m ≠ i := fun e => hne (by rw [e])
    simp [this]⟩
theorem Ordi.set {m b : Nat} {o : Obj} (h : Ordi w b) (hne : b ≠ m) : Ordi { w with heap := w.heap.setIfInBounds m o } b := by
  obtain ⟨c, t, e⟩ := h
  exact ⟨c, t, by simp [Ne.symm hne, e]⟩
theorem PM.ne {m b : Nat} {F : List (Nat × Value)} (h : PM w m F) (hb : Ordi w b) : b ≠ m := by
  obtain ⟨es, clock, h1, -⟩ := h
  obtain ⟨c, t, e⟩ := hb
  rintro rfl
  rw [e] at h1
  simp at h1
theorem PM.new {m : Nat} {F : List (Nat × Value)} (h : PM w m F) {t e : TypeId} (ht : P.underlying t = some (.map kt e)) (hp : P.underlying kt = some (.pointer te)) (hte : P.info? te = some j) (hsz : j.size ≠ 0) (b : Nat) (hb : Ordi w b) (v : Value) (hN : ∀ p ∈ F, p.1 ≠ b) :
    ∃ w', (Instr.mapUpdate t (.map (some m)) (.pointer (some ⟨b, 0, none⟩)) v).run P w = .ok () w' ∧ PM w' m (F ++ [(b, v)]) ∧ w.grownBy w' (some m) := by
  have hm := h
  obtain ⟨es, clock, h1, h2, h3, h4⟩ := h
  have hk := run_findKey hp hte hsz b hb es.toList F h2 h3 h4
  have hf : findB b F 0 = none := by
    rcases findB_at b F 0 with ⟨e, -⟩ | ⟨k, u, hk, -, hF⟩
    · exact e
    · exact absurd (by rw [hF]) (hN F[k] (List.getElem_mem hk))
  rw [hf] at hk
  refine ⟨{ w with heap := w.heap.setIfInBounds m (.map (es.push { key := .pointer (some ⟨b, 0, none⟩), val := v, born := clock }) (clock + 1)) }, ?_, ⟨es.push { key := .pointer (some ⟨b, 0, none⟩), val := v, born := clock }, clock + 1, ?_, ?_, ?_, ?_⟩, PM.grown⟩
  · unfold Instr.mapUpdate
    simp [run_underlying ht, MapKept.run_getObj_map h1, run_checkPtr hp, hk, MapKept.run_setObj_map _ h1]
  · have := (Array.getElem?_eq_some_iff.1 h1).1
    simp [this]
  · simp [h2]
  · intro i hi hj
    simp only [Array.toList_push] at hi ⊢
    by_cases c : i < F.length
    · have c' : i < es.toList.length := by omega
      rw [List.getElem_append_left c', List.getElem_append_left c]
      exact h3 i c' c
    · have e1 : i = F.length := by simp only [List.length_append, List.length_cons, List.length_nil] at hj; omega
      have e2 : i = es.toList.length := by omega
      subst e1
      rw [List.getElem_append_right (by omega), List.getElem_append_right (by omega)]
      simp only [Nat.sub_self, List.getElem_cons_zero]
      have e3 : F.length - es.toList.length = 0 := by omega
      simp only [e3, List.getElem_cons_zero]
      exact ⟨rfl, rfl⟩
  · intro p hp
    rcases List.mem_append.1 hp with hp | hp
    · exact (h4 p hp).set (hm.ne (h4 p hp))
    · rw [List.mem_singleton.1 hp]
      exact hb.set (hm.ne hb)
theorem PM.old {m : Nat} {F : List (Nat × Value)} (h : PM w m F) {t e : TypeId} (ht : P.underlying t = some (.map kt e)) (hp : P.underlying kt = some (.pointer te)) (hte : P.info? te = some j) (hsz : j.size ≠ 0) (b : Nat) (hb : Ordi w b) (v : Value) (k : Nat) (u : Value) (hf : findB b F 0 = some (k, u)) (hkl : k < F.length) (hkF : F[k].1 = b) :
    ∃ w', (Instr.mapUpdate t (.map (some m)) (.pointer (some ⟨b, 0, none⟩)) v).run P w = .ok () w' ∧ PM w' m (F.set k (b, v)) ∧ w.grownBy w' (some m) := by
  have hm := h
  obtain ⟨es, clock, h1, h2, h3, h4⟩ := h
  have hk := run_findKey hp hte hsz b hb es.toList F h2 h3 h4
  rw [hf] at hk
  have hke : k < es.toList.length := by omega
  have hkk : ((es[k]?).map (·.key)).getD (.pointer (some ⟨b, 0, none⟩)) = .pointer (some ⟨b, 0, none⟩) := by
    obtain ⟨e1, -⟩ := h3 k hke hkl
    have : es[k]? = some es.toList[k] := by simp
    rw [this]
    simp only [Option.map_some, Option.getD_some]
    rw [e1, hkF]
  refine ⟨{ w with heap := w.heap.setIfInBounds m (.map (es.modify k fun e => { e with key := .pointer (some ⟨b, 0, none⟩), val := v }) clock) }, ?_, ⟨es.modify k fun e => { e with key := .pointer (some ⟨b, 0, none⟩), val := v }, clock, ?_, ?_, ?_, ?_⟩, PM.grown⟩
  · unfold Instr.mapUpdate
    simp only [run_underlying ht, Sem.run_bind, Result.andThen_ok, MapKept.run_getObj_map h1, run_checkPtr hp, hk]
    rw [hkk]
    have hs : (Instr.keyThatStays (.pointer (some ⟨b, 0, none⟩)) (.pointer (some ⟨b, 0, none⟩))).run P w = .ok (.pointer (some ⟨b, 0, none⟩)) w := by
      unfold Instr.keyThatStays
      have : Instr.sameBits 10000 (.pointer (some ⟨b, 0, none⟩)) (.pointer (some ⟨b, 0, none⟩)) = true := by simp [Instr.sameBits]
      simp [this]
    rw [hs]
    simp only [Result.andThen_ok]
    exact MapKept.run_setObj_map _ h1
  · have := (Array.getElem?_eq_some_iff.1 h1).1
    simp [this]
  · simp [h2]
  · intro i hi hj
    have hi' : i < es.toList.length := by simpa using hi
    have hj' : i < F.length := by simpa using hj
    simp only [Array.toList_modify, List.getElem_modify, List.getElem_set]
    by_cases c : k = i
    · rw [if_pos c, if_pos c]
      exact ⟨rfl, rfl⟩
    · rw [if_neg c, if_neg c]
      exact h3 i hi' hj'
  · intro p hp
    rcases List.mem_or_eq_of_mem_set hp with hp | hp
    · exact (h4 p hp).set (hm.ne (h4 p hp))
    · rw [hp]
      exact hb.set (hm.ne hb)
end
end Go.Proofs.YtnicnfjickknjaaDoor

namespace Go.Proofs.YtnicnfjickknjaaDoor
open Go.RowKit

/-- All blocks of cells are as they were. -/
structure KC (w w' : World) : Prop where
  cells : ∀ (b : Nat) (c : Array Value) (t : TypeId) (u : Nat × Nat), w.heap[b]? = some (.cells c t u) → w'.heap[b]? = some (.cells c t u)
  size : w.heap.size ≤ w'.heap.size
theorem KC.refl (w : World) : KC w w := ⟨fun _ _ _ _ h => h, Nat.le_refl _⟩
theorem KC.trans {a b c : World} (h : KC a b) (k : KC b c) : KC a c := ⟨fun x d t u e => k.cells x d t u (h.cells x d t u e), Nat.le_trans h.size k.size⟩
theorem KC.below {w w' : World} (h : Below w.heap.size w w') : KC w w' := ⟨fun b _ _ _ e => (h.block b (Array.getElem?_eq_some_iff.1 e).1).trans e, h.size⟩
theorem KC.grown {w w' : World} {m : Nat} {F : List (Nat × Value)} (h : PM w m F) (hg : w.grownBy w' (some m)) : KC w w' := by
  obtain ⟨es, ck, hm, -⟩ := h
  refine ⟨fun b c t u e => (hg.block b (Array.getElem?_eq_some_iff.1 e).1 fun eb => ?_).trans e, hg.size⟩
  have := Option.some.inj eb
  subst this
  rw [hm] at e
  simp at e
theorem KC.cell {w w' : World} (h : KC w w') {a : Addr} {v : Value} (hc : w.cell? a = some v) : w'.cell? a = some v := by
  unfold World.cell? at hc ⊢
  cases hb : w.heap[a.block]? with
  | none => rw [hb] at hc; simp at hc
  | some o =>
    rw [hb] at hc
    cases o with
    | cells c t u =>
      rw [h.cells _ c t u hb]
      exact hc
    | _ => simp at hc
theorem KC.kpB {w w' : World} (h : KC w w') : KpB w w' := fun b c e => h.cells b c _ _ e
theorem Sl.kc {w w' : World} {ao : Option Addr} {n cap : Nat} {xs : List Int} (h : Sl w ao n cap xs) (k : KC w w') : Sl w' ao n cap xs := ⟨h.len, h.le, h.mx, h.nil, fun a ha i hi => k.cell (h.cell a ha i hi), h.byte⟩
theorem VL.kc {w w' : World} {ao : Option Addr} {n cap : Nat} {vs : List Value} (h : VL w ao n cap vs) (k : KC w w') : VL w' ao n cap vs := ⟨h.len, h.le, h.mx, h.nil, fun a ha i hi => k.cell (h.cell a ha i hi)⟩
theorem KL.kc {w w' : World} {ao : Option Addr} {n cap : Nat} {ps : List Part} (h : KL w ao n cap ps) (k : KC w w') : KL w' ao n cap ps := ⟨h.vl.kc k, fun q hq => (h.sl q hq).kc k⟩
theorem Nd.ok.kc {w w' : World} {d : Nd} (h : d.ok w) (k : KC w w') : d.ok w' :=
  ⟨k.cell h.c0, k.cell h.c1, k.cell h.c2, k.cell h.c3, h.kl.kc k, h.vl.kc k, h.cl.kc k, by obtain ⟨c, t, e⟩ := h.uf; exact ⟨c, t, k.cells _ _ _ _ e⟩⟩
theorem TN.kc {w w' : World} (k : KC w w') : ∀ (n : Nat) (v : Value) (l : List It), TN w n v l → TN w' n v l
  | 0, _, _, h => h
  | n + 1, v, l, h => by
    rcases h with h | ⟨d, segs, xs, rfl, hok, hs, e1, e2, e3, hk⟩
    · exact .inl h
    · refine .inr ⟨d, segs, xs, rfl, hok.kc k, hs, e1, e2, e3, fun i s hi => ?_⟩
      obtain ⟨u, hu, ht⟩ := hk i s hi
      exact ⟨u, hu, TN.kc k n u s ht⟩
theorem T.kc {w w' : World} {v : Value} {l : List It} (h : T w v l) (k : KC w w') : T w' v l := TN.kc k _ v l h
theorem Nod.kc {w w' : World} {l : List It} {d : Nd} {segs : List (List It)} {xs : List It} (h : Nod w l d segs xs) (k : KC w w') : Nod w' l d segs xs :=
  ⟨h.ok.kc k, h.shp, h.ek, h.ev, h.ec, fun i s hi => by obtain ⟨u, hu, ht⟩ := h.kid i s hi; exact ⟨u, hu, ht.kc k⟩⟩
theorem Tabs.kc {w w' : World} (h : Tabs w) (k : KC w w') : Tabs w' := ⟨fun j v hv => k.cell (h.first j v hv), fun j v hv => k.cell (h.cubes j v hv), Nat.le_trans h.two k.size⟩
theorem SlT.kc {w w' : World} {q : Part} (h : SlT w q) (k : KC w w') : SlT w' q := h.kp k.kpB
theorem Ordi.kc {w w' : World} {b : Nat} (h : Ordi w b) (k : KC w w') : Ordi w' b := by
  obtain ⟨c, t, e⟩ := h
  exact ⟨c, t, k.cells _ _ _ _ e⟩
theorem PM.below {w w' : World} {m : Nat} {F : List (Nat × Value)} (h : PM w m F) (hb : Below w.heap.size w w') : PM w' m F := by
  obtain ⟨es, ck, h1, h2, h3, h4⟩ := h
  exact ⟨es, ck, (hb.block m (Array.getElem?_eq_some_iff.1 h1).1).trans h1, h2, h3, fun p hp => (h4 p hp).kc (KC.below hb)⟩
/-- A row of bytes of the call's own. -/
structure RwI (base : Nat) (W : World) (v : Value) (qs : List Part) : Prop where
  own : W.ownsRow base 23 1 v qs.length (qs.map Part.val)
  sl : ∀ q ∈ qs, SlT W q
  le : base ≤ W.heap.size
theorem RwI.kc {base : Nat} {W W' : World} {v : Value} {qs : List Part} (h : RwI base W v qs) (k : KC W W') : RwI base W' v qs := by
  refine ⟨⟨h.own.1, ?_⟩, fun q hq => (h.sl q hq).kc k, Nat.le_trans h.le k.size⟩
  rcases h.own.2 with c | ⟨g, cap, cur, rfl, a1, a2, a3, a4, a5, a6⟩
  · exact .inl c
  · exact .inr ⟨g, cap, cur, rfl, a1, k.cells _ _ _ _ a2, a3, a4, a5, a6⟩
theorem RwI.nil (W : World) : RwI W.heap.size W (.slice none 0 0) [] := ⟨⟨rfl, .inl ⟨rfl, rfl⟩⟩, fun _ h => by simp at h, Nat.le_refl _⟩
theorem RwI.kl {base : Nat} {W : World} {v : Value} {qs : List Part} (h : RwI base W v qs) : ∃ ao cap, v = .slice ao qs.length cap ∧ KL W ao qs.length cap qs := by
  obtain ⟨ao, cap, e, V, -⟩ := VL.own h.own
  exact ⟨ao, cap, e, V, fun q hq => (h.sl q hq).1⟩
end Go.Proofs.YtnicnfjickknjaaDoor

namespace Go.Proofs.YtnicnfjickknjaaDoor
open Go.RowKit

/-- Bytes that are written out, marked. -/
theorem Sl.const (w : World) (xs : List Int) (fr : Nat × Nat) (h : Byt xs) (hn : xs.length ≤ maxLen) : Sl (w.alloc (.cells (bv xs).toArray 5 fr)) (some ⟨w.heap.size, 0, none⟩) xs.length xs.length xs := by
  refine ⟨rfl, Nat.le_refl _, hn, fun h => by simp at h, fun a ha i hi => ?_, h⟩
  obtain rfl := Option.some.inj ha
  rw [Addr.add_lit, Nat.zero_add, cell_of_row _ w.heap.size i (bv xs).toArray 5 fr (heap_alloc_new w _)]
  simpa using bv_get xs i hi
end Go.Proofs.YtnicnfjickknjaaDoor

namespace Go.Proofs.YtnicnfjickknjaaDoor
open Go.RowKit

/-- A part out of a list, or nothing. -/
theorem at_any (w : World) (ao : Option Addr) (n cap i : Nat) (ps : List Part) (h : PL w ao n cap ps) (hn : n ≤ 1000000) (hi : i ≤ 1000000) :
    Calls Tryd.prog 94 #[.slice ao n cap, .int .i64 i] w fun e w' => ∃ qo qn qc, e = .returned (.slice qo qn qc) ∧ Sl w qo qn qc ((ps.map Part.xs).getD i []) ∧ (qn = 0 ∨ ∃ q ∈ ps, qn = q.n) ∧ w' = w := by
  have hl := h.len
  by_cases hlt : i < n
  · have hlt' : (i : Int) < (n : Int) := by omega
    obtain ⟨b, off, rfl, hc⟩ := h.at (by omega)
    have hil : i < ps.length := by omega
    have c1 := hc i hil
    have S1 := h.sl ps[i] (List.getElem_mem hil)
    have hm := List.getElem_mem hil
    have HG : Hid ((ps.map Part.xs).getD i [] = ps[i].xs) := by show _ = _; simp [List.getD, hil]
    obtain ⟨q, hq⟩ : ∃ q, q = ps[i] := ⟨_, rfl⟩
    rw [← hq] at c1 S1 HG hm
    clear hq hc
    unfold Part.val at c1
    go_enter Tryd.func94, Tryd.ntmps94
    go_wp2
    go_ret
    exact ⟨q.ao, q.n, q.cap, rfl, by first | exact S1 | (rw [HG.out]; exact S1), .inr ⟨q, hm, rfl⟩, rfl⟩
  · have hlt' : ¬ (i : Int) < (n : Int) := by omega
    have HG : Hid ((ps.map Part.xs).getD i [] = []) := by show _ = _; rw [List.getD, List.getElem?_eq_none (by simp; omega)]; rfl
    go_enter Tryd.func94, Tryd.ntmps94
    go_wp2
    go_ret
    exact ⟨none, 0, 0, rfl, by first | exact Sl.nothing w | (rw [HG.out]; exact Sl.nothing w), .inl rfl, rfl⟩

set_option maxHeartbeats 1000000 in
set_option maxRecDepth 100000 in
theorem put_any (w : World) (p base : Nat) (v : Value) (k : Nat) (xs : List Int) (ha : Arr w p 23 [v]) (own : w.ownsRow base 5 1 v k (bv xs)) (hp : base ≤ p) (hb : base ≤ w.heap.size) (ao : Option Addr) (n cap : Nat) (ys : List Int) (h : Sl w ao n cap ys) (hk : k + n + 100 ≤ 140737488355328) (hxb : Byt xs) :
    Calls Tryd.prog 93 #[.slice ao n cap, .pointer (some ⟨p, 0, none⟩)] w fun e w' => (∃ u, e = .returned u) ∧ ∃ v', Arr w' p 23 [v'] ∧ w'.ownsRow base 5 1 v' (k + ((enc n).length + n)) (bv (xs ++ (enc n ++ ys))) ∧ Below base w w' := by
  obtain ⟨i0, hi, hz0, hz1, hz2⟩ := info_parts u8info
  have hl := h.len
  have hen := enc_length (n := n) (by omega)
  have hep := enc_pos n
  have heb : Byt (enc n) := enc_byte (by omega)
  have hbyt : Byt (xs ++ (enc n ++ ys)) := hxb.append (heb.append h.byte)
  obtain ⟨vo, vc, rfl, -, -⟩ := Sl.own own hxb
  go_enter Tryd.func93, Tryd.ntmps93
  go_wp2_with fail
  have HS : Hid (∀ V, Below w.heap.size w V → True) := fun _ _ => trivial
  have E0 : Below w.heap.size w w.drew := (Below.refl _ _).drew
  refine wp_region_noPanic ?_
  refine wp_region_held_drew (S := fun V => True) (by kernel_rfl) (HS.out _ E0) (fun H0 => ?_)
  obtain ⟨v0, hv0⟩ : ∃ v, v = w.drew := ⟨_, rfl⟩
  rw [← hv0] at E0 ⊢
  clear hv0
  refine hr_take_w 1 (some 4) (.slice ao n cap) rfl rfl (by kernel_rfl) (by kernel_rfl) (by kernel_rfl) rfl (fun W hW => by go_simp) H0 ?_
  simp only [Act.put, List.setIfInBounds_toArray, List.set_cons_zero, List.set_cons_succ]
  have hv0 := ha.cell 0
  have ha0 := arr_below ha E0
  have own0 := own_below own E0
  have h0 := h.below E0
  have c0 := ha0.cell 0
  have s0 := E0.size
  refine hr_any (rs := [0, 2]) (by kernel_rfl) (by simp) (fun i hi' => ?_)
  simp only [List.mem_cons, List.not_mem_nil, or_false] at hi'
  rcases hi' with rfl | rfl
  · refine op_ex 0 (some 3) rfl rfl rfl (R := fun u w' => u = .slice vo k vc ∧ v0 = w') ⟨_, _, by go_simp, rfl, rfl⟩ ?_
    rintro u w' ⟨rfl, rfl⟩
    refine ⟨trivial, ?_⟩
    simp only [Act.put, List.setIfInBounds_toArray, List.set_cons_zero, List.set_cons_succ]
    refine hr_call_w 2 (some 5) 67 #[.slice none 0 0, .slice ao n cap] rfl rfl (by kernel_rfl) rfl (by go_simp) (fun u w' => w'.ownsRow v0.heap.size 5 1 u (0 + (enc n).length + n) (bv ([] ++ enc n ++ ys)) ∧ Below v0.heap.size v0 w') ((wBytes_any v0 none ao 0 0 n cap [] ys (Sl.nothing v0) h0 (by omega)).mono (by
      rintro e w' ⟨u, rfl, o, C⟩
      exact ⟨_, rfl, o, C⟩)) ?_
    rintro u w1 ⟨o1, C1⟩
    simp only [Nat.zero_add, List.nil_append] at o1
    obtain ⟨fo', fc, rfl, S1, hS1⟩ := Sl.own o1 (heb.append h.byte)
    obtain ⟨fo, rfl⟩ : ∃ fo, fo' = some fo := by
      cases fo' with
      | none => have := (S1.nil rfl).1; omega
      | some a => exact ⟨a, rfl⟩
    have s1 := C1.size
    have own1 := own_below own0 C1
    have ha1 := arr_below ha0 C1
    refine ⟨trivial, ?_⟩
    simp only [Act.put, List.setIfInBounds_toArray, List.set_cons_zero, List.set_cons_succ]
    obtain ⟨v', w2, hrun, own2, g2, -⟩ := run_append_own (P := Tryd.prog) w1 base 23 23 5 i0 (.int .u8 0) 1 1 Tryd.underlying23 hi hz0 hz1 hz2 rfl (by decide) (.slice vo k vc) k (bv xs) own1 fo ((enc n).length + n) fc (bv (enc n ++ ys)) (by rw [bv_length, Nat.mul_one]; exact S1.len) (S1.cells fo rfl) (bv_one _) (by unfold maxLen; omega) (by omega) (by omega)
    obtain ⟨a1, a2, own3, B3⟩ := arr_put ha1 (by decide) own1 (by omega) hp own2 g2 0
    have e1 : bv xs ++ bv (enc n ++ ys) = bv (xs ++ (enc n ++ ys)) := (bv_append _ _).symm
    rw [e1] at own2 own3
    obtain ⟨ro, rc, rfl, -, -⟩ := Sl.own own2 hbyt
    have fz := a1.free 0
    have fc0 := a1.cell 0
    refine hr_ex 3 (some 6) rfl rfl (by kernel_rfl) rfl (R := fun u w' => u = .slice ro (k + ((enc n).length + n)) rc ∧ w2 = w') ⟨_, _, by simp [execOp, Act.eval, resolve, invoke, builtin, hrun], rfl, rfl⟩ ?_
    rintro u w' ⟨rfl, rfl⟩
    refine ⟨trivial, ?_⟩
    simp only [Act.put, List.setIfInBounds_toArray, List.set_cons_zero, List.set_cons_succ]
    refine hr_skip 4 none (w' := w2.setCell ⟨p, 0, none⟩ (.slice ro (k + ((enc n).length + n)) rc)) rfl rfl (by kernel_rfl) rfl (by go_simp) trivial ?_
    simp only [Act.put]
    refine wpAnyH_done (by kernel_rfl) ?_ _
    refine NoPanic.normal ?_
    go_wp2
    go_end0
    exact ⟨⟨_, rfl⟩, _, a2, own3, (E0.mono hb).trans ((C1.mono (by omega)).trans B3)⟩
  · refine op_calls 2 (some 5) 67 #[.slice none 0 0, .slice ao n cap] rfl rfl rfl (by go_simp) (fun u w' => w'.ownsRow v0.heap.size 5 1 u (0 + (enc n).length + n) (bv ([] ++ enc n ++ ys)) ∧ Below v0.heap.size v0 w') ((wBytes_any v0 none ao 0 0 n cap [] ys (Sl.nothing v0) h0 (by omega)).mono (by
      rintro e w' ⟨u, rfl, o, C⟩
      exact ⟨_, rfl, o, C⟩)) ?_
    rintro u w1 ⟨o1, C1⟩
    simp only [Nat.zero_add, List.nil_append] at o1
    obtain ⟨fo', fc, rfl, S1, hS1⟩ := Sl.own o1 (heb.append h.byte)
    obtain ⟨fo, rfl⟩ : ∃ fo, fo' = some fo := by
      cases fo' with
      | none => have := (S1.nil rfl).1; omega
      | some a => exact ⟨a, rfl⟩
    have s1 := C1.size
    have own1 := own_below own0 C1
    have ha1 := arr_below ha0 C1
    have c1 := ha1.cell 0
    refine ⟨trivial, ?_⟩
    simp only [Act.put, List.setIfInBounds_toArray, List.set_cons_zero, List.set_cons_succ]
    refine hr_ex 0 (some 3) rfl rfl (by kernel_rfl) rfl (R := fun u w' => u = .slice vo k vc ∧ w1 = w') ⟨_, _, by go_simp, rfl, rfl⟩ ?_
    rintro u w' ⟨rfl, rfl⟩
    refine ⟨trivial, ?_⟩
    simp only [Act.put, List.setIfInBounds_toArray, List.set_cons_zero, List.set_cons_succ]
    obtain ⟨v', w2, hrun, own2, g2, -⟩ := run_append_own (P := Tryd.prog) w1 base 23 23 5 i0 (.int .u8 0) 1 1 Tryd.underlying23 hi hz0 hz1 hz2 rfl (by decide) (.slice vo k vc) k (bv xs) own1 fo ((enc n).length + n) fc (bv (enc n ++ ys)) (by rw [bv_length, Nat.mul_one]; exact S1.len) (S1.cells fo rfl) (bv_one _) (by unfold maxLen; omega) (by omega) (by omega)
    obtain ⟨a1, a2, own3, B3⟩ := arr_put ha1 (by decide) own1 (by omega) hp own2 g2 0
    have e1 : bv xs ++ bv (enc n ++ ys) = bv (xs ++ (enc n ++ ys)) := (bv_append _ _).symm
    rw [e1] at own2 own3
    obtain ⟨ro, rc, rfl, -, -⟩ := Sl.own own2 hbyt
    have fz := a1.free 0
    have fc0 := a1.cell 0
    refine hr_ex 3 (some 6) rfl rfl (by kernel_rfl) rfl (R := fun u w' => u = .slice ro (k + ((enc n).length + n)) rc ∧ w2 = w') ⟨_, _, by simp [execOp, Act.eval, resolve, invoke, builtin, hrun], rfl, rfl⟩ ?_
    rintro u w' ⟨rfl, rfl⟩
    refine ⟨trivial, ?_⟩
    simp only [Act.put, List.setIfInBounds_toArray, List.set_cons_zero, List.set_cons_succ]
    refine hr_skip 4 none (w' := w2.setCell ⟨p, 0, none⟩ (.slice ro (k + ((enc n).length + n)) rc)) rfl rfl (by kernel_rfl) rfl (by go_simp) trivial ?_
    simp only [Act.put]
    refine wpAnyH_done (by kernel_rfl) ?_ _
    refine NoPanic.normal ?_
    go_wp2
    go_end0
    exact ⟨⟨_, rfl⟩, _, a2, own3, (E0.mono hb).trans ((C1.mono (by omega)).trans B3)⟩
end Go.Proofs.YtnicnfjickknjaaDoor

/-
  Texts in one: PSmall, HRegF, PLen, PJudge, PItemM, PtrMap, KCells, SlConst, PPut7.
-/
import Derived.Test.YtiabdcejibeciaaDoorTreeOrderZ6
import Derived.Lib.SliceRun
import Derived.Test.YtiabdcejibeciaaDoorTreeOrderZ3
import Derived.Test.YtiabdcejibeciaaDoorTreeOrderZ7
import Derived.LaidEql
import Derived.MapKept
import Derived.Laws.AppendOwn
import Derived.Test.YtiabdcejibeciaaDoorTreeOrderZ0
import Derived.Lib.SlBytesConst
import Derived.Test.YtiabdcejibeciaaDoorTreeOrderZ4
namespace Go.Proofs.YtiabdcejibeciaaDoor
open Go.RowKit

theorem own_nothing (w : World) : (w.alloc (.cells #[] 5)).ownsRow w.heap.size 5 1 (.slice (some ⟨w.heap.size, 0, none⟩) 0 0) 0 (bv []) :=
  World.ownsRow_made w #[] 0 (Nat.le_refl _) (Nat.zero_le _) rfl
/-- Bytes in new memory are answered. -/
def RetB (w : World) (n : Nat) (xs : List Int) (e : Ending) (w' : World) : Prop := ∃ ro rc, e = .returned (.slice ro n rc) ∧ Sl w' ro n rc xs ∧ Below w.heap.size w w'

set_option maxHeartbeats 400000 in
set_option maxRecDepth 100000 in
theorem own_any (w : World) (ao : Option Addr) (n cap : Nat) (xs : List Int) (h : Sl w ao n cap xs) (hn : n ≤ 1000000) :
    Calls Tryd.prog 29 #[.slice ao n cap] w (RetB w n xs) := by
  have B0 : Below w.heap.size w (w.alloc (.cells #[] 5)) := (Below.refl _ w).alloc (Nat.le_refl _) _
  have h0 := h.below B0
  have o0 := own_nothing w
  have hb := h.byte
  go_enter Tryd.func29, Tryd.ntmps29
  go_wp2_with (at_builtin; refine wpList_app rfl _ _ rfl w.heap.size _ _ _ rfl o0 _ _ _ _ rfl h0 (by omega) (by simp) ?_; intro v1 w1 own1 B1)
  simp only [Nat.zero_add, List.nil_append] at own1
  obtain ⟨ro, rc, rfl, S, -⟩ := Sl.own own1 hb
  go_wp2
  go_ret
  exact ⟨ro, rc, rfl, S, B0.trans B1⟩

/-- The value v is a tree (a handle) of the items l. -/
def TT (w : World) (v : Value) (l : List It) : Prop := (v = .pointer none ∧ l = []) ∨ ∃ b u, v = .pointer (some ⟨b, 0, none⟩) ∧ w.cell? ⟨b, 0, none⟩ = some u ∧ T w u l ∧ l ≠ []
theorem TT.nil (w : World) : TT w (.pointer none) [] := .inl ⟨rfl, rfl⟩
theorem TT.below {w w' : World} {v : Value} {l : List It} (h : TT w v l) (hb : Below w.heap.size w w') : TT w' v l := by
  rcases h with h | ⟨b, u, rfl, hc, ht, hl⟩
  · exact .inl h
  · exact .inr ⟨b, u, rfl, (hb.cell (World.block_lt_of_cell? _ _ hc)).trans hc, ht.below hb, hl⟩
theorem TT.ptr {w : World} {v : Value} {l : List It} (h : TT w v l) : ∃ po, v = .pointer po := by
  rcases h with ⟨rfl, _⟩ | ⟨b, u, rfl, _⟩
  · exact ⟨_, rfl⟩
  · exact ⟨_, rfl⟩
/-- A tree is answered, in new memory. -/
def RetTT (w : World) (l : List It) (e : Ending) (w' : World) : Prop := ∃ v, e = .returned v ∧ TT w' v l ∧ Below w.heap.size w w'

set_option maxHeartbeats 400000 in
set_option maxRecDepth 100000 in
theorem treeOf_any (w : World) (v : Value) (l : List It) (h : T w v l) : Calls Tryd.prog 25 #[v] w (RetTT w l) := by
  rcases h.is with ⟨rfl, rfl⟩ | ⟨d, segs, xs, rfl, hN⟩
  · go_enter Tryd.func25, Tryd.ntmps25
    go_wp2
    go_ret
    exact ⟨_, rfl, TT.nil _, Below.refl _ _⟩
  · have hne : l ≠ [] := by
      intro e
      subst e
      have h0 := hN.shp.pos
      have := hN.shp.key xs[0] (List.getElem_mem h0)
      simp at this
    unfold Nd.ptr at h ⊢
    go_enter Tryd.func25, Tryd.ntmps25
    go_wp2
    go_ret
    have B : Below w.heap.size w (w.alloc (.cells #[.pointer (some ⟨d.b, 0, none⟩)] 95)) := (Below.refl _ w).alloc (Nat.le_refl _) _
    exact ⟨_, rfl, .inr ⟨_, _, rfl, cell_one_new _ _ _ 0 _ (by simp), h.below B, hne⟩, B⟩

set_option maxHeartbeats 400000 in
set_option maxRecDepth 100000 in
theorem shared_any (w : World) (v : Value) (l : List It) (h : TT w v l) : Calls Tryd.prog 27 #[v] w fun e w' => ∃ po, e = .returned (.pointer po) ∧ T w (.pointer po) l ∧ w' = w := by
  rcases h with ⟨rfl, rfl⟩ | ⟨b, u, rfl, hc, ht, hl⟩
  · go_enter Tryd.func27, Tryd.ntmps27
    go_wp2
    go_ret
    exact ⟨_, rfl, T.nil _, rfl⟩
  · obtain ⟨po, rfl⟩ := ht.ptr
    go_enter Tryd.func27, Tryd.ntmps27
    go_wp2
    go_ret
    exact ⟨_, rfl, ht, rfl⟩
end Go.Proofs.YtiabdcejibeciaaDoor

namespace Go.Proofs.YtiabdcejibeciaaDoor
open Go.RowKit

theorem arr_not_row {w : World} {p : Nat} {t e : TypeId} {cs : List Value} (h : Arr w p t cs) (hte : t ≠ e) {base size k : Nat} {v : Value} {xs : List Value} (hr : w.ownsRow base e size v k xs) : v.ownBlock ≠ some p := by
  rcases hr.2 with ⟨rfl, _⟩ | ⟨g, cap, cur, rfl, _, hgb, _⟩
  · simp [Value.ownBlock]
  · intro e'
    obtain rfl : g = p := by simpa [Value.ownBlock] using e'
    have := (show w.heap[g]? = _ from h).symm.trans hgb
    simp at this
    exact hte this.2
theorem own_below {w w' : World} {base : Nat} {e : TypeId} {size : Nat} {v : Value} {n : Nat} {xs : List Value} (h : w.ownsRow base e size v n xs) (hb : Below w.heap.size w w') : w'.ownsRow base e size v n xs :=
  h.kept (row := none) ⟨hb.os, hb.tape, hb.output, hb.size, fun k hk _ => hb.block k hk⟩ (by cases v.ownBlock <;> simp)
theorem arr_below {w w' : World} {p : Nat} {t : TypeId} {cs : List Value} (h : Arr w p t cs) (hb : Below w.heap.size w w') : Arr w' p t cs := (hb.block p h.lt).trans h
/-- Behind an append to a row of a field's own, and the store of what it yields. -/
theorem arr_put {w w1 : World} {p base : Nat} {t e : TypeId} {cs : List Value} {size k m : Nat} {v v' : Value} {xs ys : List Value} (h : Arr w p t cs) (hte : t ≠ e) (hr : w.ownsRow base e size v k xs) (hb : base ≤ w.heap.size) (hp : base ≤ p)
    (hr' : w1.ownsRow base e size v' m ys) (hg : w.grownBy w1 v.ownBlock) (j : Nat) :
    Arr w1 p t cs ∧ Arr (w1.setCell ⟨p, j, none⟩ v') p t (cs.set j v') ∧ (w1.setCell ⟨p, j, none⟩ v').ownsRow base e size v' m ys ∧ Below base w (w1.setCell ⟨p, j, none⟩ v') := by
  have hne := arr_not_row h hte hr
  have h1 : Arr w1 p t cs := h.grown hg (fun e => hne e.symm)
  refine ⟨h1, h1.set j v', ?_, ?_⟩
  · refine hr'.kept (row := some p) (grown_set (a := w1) (b := w1) ⟨rfl, rfl, rfl, Nat.le_refl _, fun _ _ _ => rfl⟩ j v') (.inr (arr_not_row h1 hte hr'))
  · refine ((Below.refl base w).grown hg hb (fun k hk => (hr.lt k hk).1)).setCell hp v'
end Go.Proofs.YtiabdcejibeciaaDoor

namespace Go.Proofs.YtiabdcejibeciaaDoor
open Go.RowKit

theorem ge_nil (l : List It) : ge [] l = l := List.filter_eq_self.2 fun x _ => decide_eq_true (by have := cmpL_nil x.k; omega)
set_option maxHeartbeats 400000 in
set_option maxRecDepth 100000 in
theorem shared_at (w W : World) (v : Value) (l : List It) (h : TT w v l) (hb : Below w.heap.size w W) : Calls Tryd.prog 27 #[v] W fun e w' => ∃ po, e = .returned (.pointer po) ∧ T w (.pointer po) l ∧ w' = W := by
  rcases h with ⟨rfl, rfl⟩ | ⟨b, u, rfl, hc, ht, hl⟩
  · go_enter Tryd.func27, Tryd.ntmps27
    go_wp2
    go_ret
    exact ⟨_, rfl, T.nil _, rfl⟩
  · obtain ⟨po, rfl⟩ := ht.ptr
    have hc2 := (hb.cell (World.block_lt_of_cell? _ _ hc)).trans hc
    go_enter Tryd.func27, Tryd.ntmps27
    go_wp2
    go_ret
    exact ⟨_, rfl, ht, rfl⟩
/-- The count. -/
def CntI (w : World) (p : Nat) (pre : List It) (W : World) : Prop := Below w.heap.size w W ∧ Arr W p 3 [.int .i64 pre.length] ∧ pre.length ≤ 100000 ∧ w.heap.size ≤ p

set_option maxHeartbeats 1000000 in
set_option maxRecDepth 100000 in
theorem cnt_any (w : World) (p : Nat) (pre : List It) (W : World) (k y : Value) (x : It) (h : CntI w p pre W) (hl : pre.length + 1 ≤ 100000) :
    Calls Tryd.prog 39 (#[k, y] ++ #[.pointer (some ⟨p, 0, none⟩)]) W (WPost (CntI w p (pre ++ [x])) fun _ => False) := by
  obtain ⟨hb, ha, -, hp⟩ := h
  have c0 := ha.cell 0
  have f0 := ha.free 0
  have hli : (pre.length : Int) + 1 ≤ 100000 := by omega
  have hs := ha.set 0 (.int .i64 ((pre.length : Int) + 1))
  have hB := hb.setCell (p := ⟨p, 0, none⟩) hp (.int .i64 ((pre.length : Int) + 1))
  go_enter Tryd.func39, Tryd.ntmps39
  go_wp2
  go_ret
  refine .inl ⟨rfl, hB, ?_, by simpa using hl, hp⟩
  rw [List.length_append, List.length_singleton, Int.natCast_add]
  exact hs

set_option maxHeartbeats 1000000 in
set_option maxRecDepth 100000 in
theorem len_any (w : World) (v : Value) (l : List It) (h : TT w v l) (hs : Srt l) (hn : l.length ≤ 50000) :
    Calls Tryd.prog 16 #[v] w fun e w' => e = .returned (.int .i64 l.length) ∧ Below w.heap.size w w' := by
  obtain ⟨W0, hW0⟩ : ∃ W, W = w.alloc (.cells #[.int .i64 0] 3) := ⟨_, rfl⟩
  have B0 : Below w.heap.size w W0 := by rw [hW0]; exact (Below.refl _ w).alloc (Nat.le_refl _) _
  have A0 : Arr W0 w.heap.size 3 [.int .i64 0] := by rw [hW0]; exact heap_alloc_new w _
  have CS := shared_at w W0 v l h B0
  obtain ⟨po, rfl⟩ := h.ptr
  go_enter Tryd.func16, Tryd.ntmps16
  go_wp2_with fail
  rw [← hW0]
  clear hW0
  refine CS.mono ?_
  rintro e w1 ⟨q, rfl, hT, hw1⟩
  obtain rfl := hw1.symm
  have CW := walk_fuel w 39 #[.pointer (some ⟨w.heap.size, 0, none⟩)] (enters_of Tryd.func39 (by kernel_rfl) rfl) (CntI w w.heap.size) (fun _ => False) (fun _ => True) l
    (fun _ _ h => h.1) (fun _ h => h.elim) (fun pre W W' h hb => ⟨h.1.trans (hb.mono h.1.size), arr_below h.2.1 hb, h.2.2⟩) [] none 0 0 (Sl.nothing w)
    (fun pre W k y x hI _ hF _ _ _ _ _ => cnt_any w w.heap.size pre W k.val y.val x hI (by
      obtain ⟨post, e⟩ := hF
      have := congrArg List.length e
      simp only [List.length_append, List.length_cons] at this
      omega))
    l.length l (.pointer q) [] [] W0 (Nat.le_refl _) (by rw [ge_nil]; simp) hT hs (fun _ _ => trivial) (by omega) ⟨B0, A0, by simp, Nat.le_refl _⟩
  rw [List.nil_append, ge_nil] at CW
  clear CS hT
  go_wp2_with fail
  refine CW.mono ?_
  rintro e w2 (⟨rfl, hb, ha, -, -⟩ | ⟨-, hf⟩)
  · have c0 := ha.cell 0
    go_wp2
    go_ret
    exact ⟨rfl, hb⟩
  · exact hf.elim
end Go.Proofs.YtiabdcejibeciaaDoor

namespace Go.Proofs.YtiabdcejibeciaaDoor
open Go.RowKit

/-- An item in memory. -/
structure IP where
  k : Part
  v : Part
def IP.it (q : IP) : It := ⟨q.k.xs, q.v.xs⟩
def IP.ok (w : World) (q : IP) : Prop := Sl w q.k.ao q.k.n q.k.cap q.k.xs ∧ Sl w q.v.ao q.v.n q.v.cap q.v.xs
theorem IP.ok.below {w w' : World} {q : IP} (h : q.ok w) (hb : Below w.heap.size w w') : q.ok w' := ⟨h.1.below hb, h.2.below hb⟩
/-- The slice at ao, of n items, up to cap, holds its. -/
structure IL (w : World) (ao : Option Addr) (n cap : Nat) (its : List IP) : Prop where
  len : its.length = n
  le : n ≤ cap
  mx : cap ≤ maxLen
  nil : ao = none → n = 0 ∧ cap = 0
  cell : ∀ a, ao = some a → ∀ i (h : i < its.length), w.cell? (a.add (i * 2)) = some its[i].k.val ∧ w.cell? (a.add (i * 2 + 1)) = some its[i].v.val
  sl : ∀ q ∈ its, q.ok w
theorem IL.below {w w' : World} {ao : Option Addr} {n cap : Nat} {its : List IP} (h : IL w ao n cap its) (hb : Below w.heap.size w w') : IL w' ao n cap its :=
  ⟨h.len, h.le, h.mx, h.nil, fun a ha i hi => by
    obtain ⟨h1, h2⟩ := h.cell a ha i hi
    exact ⟨(hb.cell (World.block_lt_of_cell? w _ h1)).trans h1, (hb.cell (World.block_lt_of_cell? w _ h2)).trans h2⟩, fun q hq => (h.sl q hq).below hb⟩
theorem IL.at {w : World} {ao : Option Addr} {n cap : Nat} {its : List IP} (h : IL w ao n cap its) (hn : 0 < n) :
    ∃ b off, ao = some ⟨b, off, none⟩ ∧ ∀ i (hi : i < its.length), w.cell? ⟨b, off + i * 2, none⟩ = some its[i].k.val ∧ w.cell? ⟨b, off + i * 2 + 1, none⟩ = some its[i].v.val := by
  have hl := h.len
  cases ao with
  | none => have := (h.nil rfl).1; omega
  | some a =>
    obtain ⟨b, off, spot⟩ := a
    have hc := (h.cell _ rfl 0 (by omega)).1
    have hs : spot = none := by simpa [Addr.add] using World.cell?_spot hc
    subst hs
    exact ⟨b, off, rfl, fun i hi => by have := h.cell _ rfl i hi; rw [Addr.add_lit, Addr.add_lit, ← Nat.add_assoc] at this; exact this⟩
theorem IL.nothing (w : World) : IL w none 0 0 [] := ⟨rfl, Nat.le_refl _, Nat.zero_le _, fun _ => ⟨rfl, rfl⟩, fun _ h => by simp at h, fun _ h => by simp at h⟩
theorem IL.one (w : World) (q : IP) (h : q.ok w) (t : TypeId) : IL (w.alloc (.cells #[q.k.val, q.v.val] t)) (some ⟨w.heap.size, 0, none⟩) 1 1 [q] := by
  refine ⟨rfl, Nat.le_refl _, by simp [maxLen], fun h => by simp at h, fun a ha i hi => ?_, fun r hr => ?_⟩
  · obtain rfl := Option.some.inj ha
    obtain rfl : i = 0 := by simpa using hi
    rw [Addr.add_lit, Addr.add_lit]
    exact ⟨cell_of_row _ _ 0 _ _ _ (heap_alloc_new w _), cell_of_row _ _ 1 _ _ _ (heap_alloc_new w _)⟩
  · rw [List.mem_singleton.1 hr]
    exact h.below ((Below.refl _ w).alloc (Nat.le_refl _) _)

/-- What stands against some items. -/
def badK (n : Nat) : Bool := decide (n < 1 ∨ 256 < n)
def jL : List IP → Int → Int
  | [], acc => acc
  | q :: qs, acc => if badK q.k.n then 5 else jL qs (if 1024 < q.v.n then 4 else acc)

set_option maxHeartbeats 4000000 in
set_option maxRecDepth 100000 in
theorem judge_any (w : World) (ao : Option Addr) (n cap : Nat) (its : List IP) (h : IL w ao n cap its) (hn : n ≤ 1000000) (hb : ∀ q ∈ its, q.k.n ≤ 1000000 ∧ q.v.n ≤ 1000000) :
    Calls Tryd.prog 24 #[.slice ao n cap] w fun e w' => e = .returned (.int .i64 (jL its 0)) ∧ Below w.heap.size w w' := by
  have hl := h.len
  have hni : (n : Int) ≤ 1000000 := by omega
  go_enter Tryd.func24, Tryd.ntmps24
  go_wp2
  go_loopw [3, 8] (fun a i wr => ∃ (k : Nat) (acc : Int), k ≤ n ∧ i = .int .i64 k ∧ a = .int .i64 acc ∧ jL (its.drop k) acc = jL its 0 ∧ Below w.heap.size w wr) (fun _ i _ => n - (intOf i).toNat)
  case atStart => exact ⟨0, 0, Nat.zero_le _, rfl, rfl, rfl, Below.refl _ _⟩
  case round =>
    obtain ⟨k, acc, hk, rfl, rfl, hj, hB⟩ := hrel
    have HJ : Hid (jL (its.drop k) acc = jL its 0) := hj
    clear hj
    by_cases hlt : k < n
    · have hki : (k : Int) < (n : Int) := by omega
      have hkl : k < its.length := by omega
      obtain ⟨b, off, rfl, hc⟩ := (h.below hB).at (by omega)
      obtain ⟨c1, c2⟩ := hc k hkl
      have hq := hb its[k] (List.getElem_mem hkl)
      have HD : Hid (its.drop k = its[k] :: its.drop (k + 1)) := List.drop_eq_getElem_cons hkl
      obtain ⟨q, hqe⟩ : ∃ q, q = its[k] := ⟨_, rfl⟩
      rw [← hqe] at c1 c2 hq HD
      obtain ⟨q1, q2⟩ := hq
      unfold Part.val at c1 c2
      clear hc hqe
      by_cases h1 : q.k.n < 1
      · have h1' : (q.k.n : Int) < 1 := by omega
        have HR : Hid (jL its 0 = 5) := by
          show _ = _
          rw [← HJ.out, HD.out, jL, if_pos (by simp [badK]; omega)]
        go_wp2
        go_ret
        refine ⟨?_, hB.alloc hB.size _⟩
        rw [HR.out]
        rfl
      have h1' : ¬ (q.k.n : Int) < 1 := by omega
      by_cases h2 : 256 < q.k.n
      · have h2' : (256 : Int) < (q.k.n : Int) := by omega
        have HR : Hid (jL its 0 = 5) := by
          show _ = _
          rw [← HJ.out, HD.out, jL, if_pos (by simp [badK]; omega)]
        go_wp2
        go_ret
        refine ⟨?_, hB.alloc hB.size _⟩
        rw [HR.out]
        rfl
      have h2' : ¬ (256 : Int) < (q.k.n : Int) := by omega
      have HB : Hid (badK q.k.n = false) := by show _ = _; simp [badK]; omega
      by_cases h3 : 1024 < q.v.n
      · have h3' : (1024 : Int) < (q.v.n : Int) := by omega
        go_wp2
        go_roundw
        case rel =>
          refine ⟨k + 1, 4, by omega, by go_num, rfl, ?_, hB.alloc hB.size _⟩
          rw [← HJ.out, HD.out, jL, HB.out, if_pos h3]
          rfl
        case measure => simp [intOf]; omega
      · have h3' : ¬ (1024 : Int) < (q.v.n : Int) := by omega
        go_wp2
        go_roundw
        case rel =>
          refine ⟨k + 1, acc, by omega, by go_num, rfl, ?_, hB.alloc hB.size _⟩
          rw [← HJ.out, HD.out, jL, HB.out, if_neg h3]
          rfl
        case measure => simp [intOf]; omega
    · have hge : ¬ (k : Int) < (n : Int) := by omega
      have HR : Hid (jL its 0 = acc) := by
        show _ = _
        rw [← HJ.out, List.drop_eq_nil_of_le (by omega)]
        rfl
      go_wp2
      go_ret
      refine ⟨?_, hB⟩
      rw [HR.out]
      rfl
end Go.Proofs.YtiabdcejibeciaaDoor

namespace Go.Proofs.YtiabdcejibeciaaDoor
open Go.RowKit

/-- All blocks of bytes are as they were. -/
def KpB (w w' : World) : Prop := ∀ (b : Nat) (cur : Array Value), w.heap[b]? = some (Obj.cells cur 5) → w'.heap[b]? = some (Obj.cells cur 5)
theorem KpB.refl (w : World) : KpB w w := fun _ _ h => h
theorem KpB.trans {a b c : World} (h : KpB a b) (k : KpB b c) : KpB a c := fun p cur e => k p cur (h p cur e)
theorem KpB.below {w w' : World} (h : Below w.heap.size w w') : KpB w w' := fun b _ e => (h.block b (Array.getElem?_eq_some_iff.1 e).1).trans e
theorem KpB.row {w w' : World} {base : Nat} {e : TypeId} {size : Nat} {v : Value} {n : Nat} {xs : List Value} (hr : w.ownsRow base e size v n xs) (he : e ≠ 5) (hg : w.grownBy w' v.ownBlock) : KpB w w' := fun b cur h => by
  refine (hg.block b (Array.getElem?_eq_some_iff.1 h).1 fun ev => ?_).trans h
  rcases hr.2 with ⟨rfl, _⟩ | ⟨g, cap, cur', rfl, _, hgb, _⟩
  · simp [Value.ownBlock] at ev
  · obtain rfl : b = g := by simpa [Value.ownBlock] using ev
    rw [hgb] at h
    simp only [Option.some.injEq, Obj.cells.injEq] at h
    exact he h.2.1
theorem KpB.set {w : World} {p : Nat} {t : TypeId} {cs : List Value} (ha : Arr w p t cs) (ht : t ≠ 5) (j : Nat) (v : Value) : KpB w (w.setCell ⟨p, j, none⟩ v) := fun b cur h => by
  refine (heap_setCell_other w ⟨p, j, none⟩ b v fun e => ?_).trans h
  have e' : b = p := e
  subst e'
  have := (show w.heap[b]? = _ from ha).symm.trans h
  simp only [Option.some.injEq, Obj.cells.injEq] at this
  exact ht this.2.1
/-- Bytes in a block of bytes. -/
def SlT (w : World) (q : Part) : Prop := Sl w q.ao q.n q.cap q.xs ∧ ∀ a, q.ao = some a → ∃ cur : Array Value, w.heap[a.block]? = some (Obj.cells cur 5)
theorem SlT.kp {w w' : World} {q : Part} (h : SlT w q) (k : KpB w w') : SlT w' q := by
  refine ⟨⟨h.1.len, h.1.le, h.1.mx, h.1.nil, fun a ha i hi => ?_, h.1.byte⟩, fun a ha => ?_⟩
  · obtain ⟨cur, hc⟩ := h.2 a ha
    have hb : (a.add i).block = a.block := by unfold Addr.add; split <;> rfl
    rw [← h.1.cell a ha i hi]
    exact World.cell?_of_block (by rw [hb, k _ _ hc, hc])
  · obtain ⟨cur, hc⟩ := h.2 a ha
    exact ⟨cur, k _ _ hc⟩
theorem SlT.own {w : World} {base : Nat} {v : Value} {n : Nat} {xs : List Int} (h : w.ownsRow base 5 1 v n (bv xs)) (hb : Byt xs) : ∃ ao cap, v = .slice ao n cap ∧ SlT w ⟨ao, n, cap, xs⟩ := by
  obtain ⟨ao, cap, rfl, S, -⟩ := Sl.own h hb
  refine ⟨ao, cap, rfl, S, fun a ha => ?_⟩
  rcases h.2 with ⟨e, -⟩ | ⟨g, cap', cur, e, -, hh, -⟩
  · have ha' : ao = some a := ha
    simp only [Value.slice.injEq] at e
    rw [e.1] at ha'
    simp at ha'
  · have ha' : ao = some a := ha
    simp only [Value.slice.injEq] at e
    rw [e.1] at ha'
    obtain rfl := Option.some.inj ha'
    exact ⟨cur, hh⟩

set_option maxHeartbeats 400000 in
set_option maxRecDepth 100000 in
theorem ownT_any (w : World) (ao : Option Addr) (n cap : Nat) (xs : List Int) (h : Sl w ao n cap xs) (hn : n ≤ 1000000) :
    Calls Tryd.prog 29 #[.slice ao n cap] w fun e w' => ∃ ro rc, e = .returned (.slice ro n rc) ∧ SlT w' ⟨ro, n, rc, xs⟩ ∧ Below w.heap.size w w' := by
  have B0 : Below w.heap.size w (w.alloc (.cells #[] 5)) := (Below.refl _ w).alloc (Nat.le_refl _) _
  have h0 := h.below B0
  have o0 := own_nothing w
  have hb := h.byte
  go_enter Tryd.func29, Tryd.ntmps29
  go_wp2_with (at_builtin; refine wpList_app rfl _ _ rfl w.heap.size _ _ _ rfl o0 _ _ _ _ rfl h0 (by omega) (by simp) ?_; intro v1 w1 own1 B1)
  simp only [Nat.zero_add, List.nil_append] at own1
  obtain ⟨ro, rc, rfl, S⟩ := SlT.own own1 hb
  go_wp2
  go_ret
  exact ⟨ro, rc, rfl, S, B0.trans B1⟩

/-- The cells of some items. -/
def flatI (ps : List IP) : List Value := ps.flatMap fun q => [q.k.val, q.v.val]
theorem flatI_length (ps : List IP) : (flatI ps).length = ps.length * 2 := by
  induction ps with
  | nil => rfl
  | cons q ps ih =>
    have e : flatI (q :: ps) = q.k.val :: q.v.val :: flatI ps := rfl
    rw [e, List.length_cons, List.length_cons, ih, List.length_cons]
    omega
theorem flatI_get : ∀ (ps : List IP) (i : Nat) (hi : i < ps.length), (flatI ps)[i * 2]? = some ps[i].k.val ∧ (flatI ps)[i * 2 + 1]? = some ps[i].v.val
  | q :: ps, 0, _ => ⟨rfl, rfl⟩
  | q :: ps, i + 1, hi => by
    have e : flatI (q :: ps) = q.k.val :: q.v.val :: flatI ps := rfl
    have := flatI_get ps i (by simpa using hi)
    rw [e, show (i + 1) * 2 = i * 2 + 1 + 1 by omega]
    simpa using this
theorem flatI_one (ps : List IP) : ∀ u ∈ flatI ps, u.oneCell' = true := fun u hu => by
  obtain ⟨q, -, hq⟩ := List.mem_flatMap.1 hu
  simp only [List.mem_cons, List.not_mem_nil, or_false] at hq
  rcases hq with rfl | rfl <;> rfl
/-- The block p holds a list of the items l, made by the call. -/
structure LI (W : World) (p base : Nat) (l : List It) (v : Value) (ps : List IP) : Prop where
  arr : Arr W p 22 [v]
  row : W.ownsRow base 28 2 v ps.length (flatI ps)
  its : ps.map IP.it = l
  sl : ∀ q ∈ ps, SlT W q.k ∧ SlT W q.v
theorem LI.below {w w' : World} {p base : Nat} {l : List It} {v : Value} {ps : List IP} (h : LI w p base l v ps) (hb : Below w.heap.size w w') : LI w' p base l v ps :=
  ⟨arr_below h.arr hb, own_below h.row hb, h.its, fun q hq => ⟨(h.sl q hq).1.kp (KpB.below hb), (h.sl q hq).2.kp (KpB.below hb)⟩⟩
theorem LI.len {w : World} {p base : Nat} {l : List It} {v : Value} {ps : List IP} (h : LI w p base l v ps) : ps.length = l.length := by rw [← h.its, List.length_map]
theorem LI.slice {w : World} {p base : Nat} {l : List It} {v : Value} {ps : List IP} (h : LI w p base l v ps) : ∃ ao cap, v = .slice ao ps.length cap ∧ IL w ao ps.length cap ps := by
  have sl : ∀ q ∈ ps, q.ok w := fun q hq => ⟨(h.sl q hq).1.1, (h.sl q hq).2.1⟩
  rcases h.row.2 with ⟨rfl, e⟩ | ⟨g, cap, cur, rfl, hg, hh, hle, hmx, hcs, htk⟩
  · obtain rfl : ps = [] := List.eq_nil_of_length_eq_zero e
    exact ⟨none, 0, rfl, IL.nothing w⟩
  · refine ⟨some ⟨g, 0, none⟩, cap, rfl, rfl, hle, hmx, fun h => by simp at h, fun a ha i hi => ?_, sl⟩
    obtain rfl := Option.some.inj ha
    obtain ⟨e1, e2⟩ := flatI_get ps i hi
    exact ⟨h.row.cells (g := g) rfl _ _ e1, h.row.cells (g := g) rfl _ _ e2⟩
/-- append of an item, and the store of what it yields. -/
theorem LI.put {w w1 : World} {p base : Nat} {l : List It} {v v' : Value} {ps : List IP} {q : IP} (h : LI w p base l v ps) (hb : base ≤ w.heap.size) (hp : base ≤ p) (hk : SlT w q.k) (hv : SlT w q.v)
    (hr' : w1.ownsRow base 28 2 v' (ps.length + 1) (flatI ps ++ [q.k.val, q.v.val])) (hg : w.grownBy w1 v.ownBlock) :
    LI (w1.setCell ⟨p, 0, none⟩ v') p base (l ++ [q.it]) v' (ps ++ [q]) ∧ Below base w (w1.setCell ⟨p, 0, none⟩ v') ∧ ∀ b t cs, Arr w b t cs → t ≠ 28 → b ≠ p → Arr (w1.setCell ⟨p, 0, none⟩ v') b t cs := by
  obtain ⟨a1, a2, a3, a4⟩ := arr_put h.arr (by decide) h.row hb hp hr' hg 0
  have kp : KpB w (w1.setCell ⟨p, 0, none⟩ v') := (KpB.row h.row (by decide) hg).trans (KpB.set a1 (by decide) 0 v')
  have e : flatI (ps ++ [q]) = flatI ps ++ [q.k.val, q.v.val] := by simp [flatI]
  refine ⟨⟨a2, by rw [e, List.length_append]; exact a3, by rw [List.map_append, h.its]; rfl, fun r hr => ?_⟩, a4, fun b t cs hb ht hne => ?_⟩
  · rcases List.mem_append.1 hr with hr | hr
    · exact ⟨(h.sl r hr).1.kp kp, (h.sl r hr).2.kp kp⟩
    · rw [List.mem_singleton.1 hr]
      exact ⟨hk.kp kp, hv.kp kp⟩
  · exact (hb.grown hg (fun e => arr_not_row hb ht h.row e.symm)).other _ v' hne
theorem itemInfo : (Tryd.prog.info? 28).map (fun i => (i.zero, i.size, i.bytes)) = some (some (.agg #[.slice none 0 0, .slice none 0 0]), 2, 48) := by kernel_rfl
/-- append of one item to a list of the call's own. -/
theorem LI.app {w : World} {p base : Nat} {l : List It} {v : Value} {ps : List IP} {q : IP} (h : LI w p base l v ps) (hb : base ≤ w.heap.size) (hn : l.length ≤ 100000) {g : Nat} {c : Nat} (ty : TypeId)
    (hx : w.heap[g]? = some (.cells #[q.k.val, q.v.val] 28)) :
    ∃ v' w1, (Builtin.append_ #[22, 22] ty #[v, .slice (some ⟨g, 0, none⟩) 1 c]).run Tryd.prog w = .ok v' w1 ∧ w1.ownsRow base 28 2 v' (ps.length + 1) (flatI ps ++ [q.k.val, q.v.val]) ∧ w.grownBy w1 v.ownBlock := by
  have hl := h.len
  have hI := itemInfo
  cases hi : Tryd.prog.info? 28 with
  | none => rw [hi] at hI; simp at hI
  | some i =>
    rw [hi] at hI
    simp only [Option.map_some, Option.some.injEq, Prod.mk.injEq] at hI
    obtain ⟨e1, e2, e3⟩ := hI
    obtain ⟨v', w1, h1, h2, h3, -⟩ := run_append_own (P := Tryd.prog) w base 22 ty 28 i _ 2 48 Tryd.underlying22 hi e1 e2 e3 rfl (by decide) v ps.length (flatI ps) h.row ⟨g, 0, none⟩ 1 c [q.k.val, q.v.val] rfl
      (fun j u hu => by
        rw [Addr.add_lit, Nat.zero_add, cell_of_row w g j _ _ _ hx]
        simpa using hu) (fun u hu => by
        simp only [List.mem_cons, List.not_mem_nil, or_false] at hu
        rcases hu with rfl | rfl <;> rfl) (by unfold maxLen; omega) (by omega) hb
    exact ⟨v', w1, h1, h2, h3⟩
end Go.Proofs.YtiabdcejibeciaaDoor

namespace Go.Proofs.YtiabdcejibeciaaDoor

/-- What an entry is: its key's block, its value. -/
def entryIs (e : MapEntry) (p : Nat × Value) : Prop := e.key = .pointer (some ⟨p.1, 0, none⟩) ∧ e.val = p.2
/-- The block holds cells, and no string's bytes. -/
def Ordi (w : World) (b : Nat) : Prop := ∃ (c : Array Value) (t : TypeId), w.heap[b]? = some (.cells c t (0, 0))
theorem Ordi.lt {w : World} {b : Nat} (h : Ordi w b) : b < w.heap.size := by
  obtain ⟨c, t, e⟩ := h
  exact (Array.getElem?_eq_some_iff.1 e).1
/-- Block m is a map with these entries. -/
def PM (w : World) (m : Nat) (F : List (Nat × Value)) : Prop :=
  ∃ (es : Array MapEntry) (clock : Nat), w.heap[m]? = some (.map es clock) ∧ es.toList.length = F.length ∧ (∀ i (h : i < es.toList.length) (k : i < F.length), entryIs es.toList[i] F[i]) ∧ ∀ p ∈ F, Ordi w p.1
def findB (b : Nat) : List (Nat × Value) → Nat → Option (Nat × Value)
  | [], _ => none
  | p :: F, i => if p.1 = b then some (i, p.2) else findB b F (i + 1)
section
variable {P : Program} {w : World} {kt te : TypeId} {j : TypeInfo}
theorem run_ptr_same (hp : P.underlying kt = some (.pointer te)) (hte : P.info? te = some j) (b : Nat) : (Op.equal kt (.pointer (some ⟨b, 0, none⟩)) (.pointer (some ⟨b, 0, none⟩))).run P w = .ok true w := by
  have h : ∀ d : Nat, (Op.equalIn (d + 1) kt (.pointer (some ⟨b, 0, none⟩)) (.pointer (some ⟨b, 0, none⟩))).run P w = .ok true w := fun d => by simp [Op.equalIn, run_underlying hp, sizeOf, typeInfo, hte, run_sameAddr_same]
  simp only [Op.equal, Op.maxDepth]
  exact h 9999
theorem run_ptr_other (hp : P.underlying kt = some (.pointer te)) (hte : P.info? te = some j) (hsz : j.size ≠ 0) {b c : Nat} (hne : b ≠ c) (hb : Ordi w b) (hc : Ordi w c) : (Op.equal kt (.pointer (some ⟨b, 0, none⟩)) (.pointer (some ⟨c, 0, none⟩))).run P w = .ok false w := by
  obtain ⟨cb, tb, eb⟩ := hb
  obtain ⟨cc, tc, ec⟩ := hc
  have h : ∀ d : Nat, (Op.equalIn (d + 1) kt (.pointer (some ⟨b, 0, none⟩)) (.pointer (some ⟨c, 0, none⟩))).run P w = .ok false w := fun d => by simp [Op.equalIn, run_underlying hp, sizeOf, typeInfo, hte, hsz, run_sameAddr_other w (a := ⟨b, 0, none⟩) (b := ⟨c, 0, none⟩) (fun e => hne (congrArg Addr.block e)) eb ec]
  simp only [Op.equal, Op.maxDepth]
  exact h 9999
theorem run_findAsking (hp : P.underlying kt = some (.pointer te)) (hte : P.info? te = some j) (hsz : j.size ≠ 0) (b : Nat) (hb : Ordi w b) : ∀ (es : List MapEntry) (F : List (Nat × Value)) (i : Nat), es.length = F.length → (∀ i (h : i < es.length) (k : i < F.length), entryIs es[i] F[i]) → (∀ p ∈ F, Ordi w p.1) →
    (Instr.findAsking kt (.pointer (some ⟨b, 0, none⟩)) es i).run P w = .ok (findB b F i) w
  | [], [], i, _, _, _ => by simp [Instr.findAsking, findB]
  | [], _ :: _, _, h, _, _ => by simp at h
  | _ :: _, [], _, h, _, _ => by simp at h
  | e :: es, p :: F, i, hl, he, ho => by
    obtain ⟨e1, e2⟩ := he 0 (by simp) (by simp)
    simp only [List.getElem_cons_zero] at e1 e2
    have ih := run_findAsking hp hte hsz b hb es F (i + 1) (by simpa using hl) (fun i h k => he (i + 1) (by simpa using h) (by simpa using k)) (fun q hq => ho q (List.mem_cons_of_mem _ hq))
    unfold Instr.findAsking findB
    rw [e1]
    by_cases c : p.1 = b
    · rw [if_pos c, c]
      simp [run_ptr_same hp hte, e2]
    · rw [if_neg c]
      simp [run_ptr_other hp hte hsz (fun h => c h.symm) hb (ho p (List.mem_cons_self ..)), ih]
theorem findB_nil (b : Nat) (i : Nat) : findB b [] i = none := rfl
theorem run_findKey (hp : P.underlying kt = some (.pointer te)) (hte : P.info? te = some j) (hsz : j.size ≠ 0) (b : Nat) (hb : Ordi w b) (es : List MapEntry) (F : List (Nat × Value)) (hl : es.length = F.length) (he : ∀ i (h : i < es.length) (k : i < F.length), entryIs es[i] F[i]) (ho : ∀ p ∈ F, Ordi w p.1) :
    (Instr.findKey kt (.pointer (some ⟨b, 0, none⟩)) es).run P w = .ok (findB b F 0) w := by
  have hA := run_findAsking hp hte hsz b hb es F 0 hl he ho
  unfold Instr.findKey
  cases es with
  | nil =>
    obtain rfl : F = [] := List.eq_nil_of_length_eq_zero (by simpa using hl.symm)
    simp [run_underlying hp, Instr.findNow, findB]
  | cons e es =>
    have hN : Instr.findNow (.pointer te) (.pointer (some ⟨b, 0, none⟩)) (e :: es) 0 = none := by
      unfold Instr.findNow Instr.sameNow
      rfl
    simp only [run_underlying hp, Sem.run_bind, Result.andThen_ok, hN, hA]
theorem run_checkPtr (hp : P.underlying kt = some (.pointer te)) (em : Bool) (b : Nat) : (Instr.checkKey em 10000 kt (.pointer (some ⟨b, 0, none⟩))).run P w = .ok () w := by
  rw [show (10000 : Nat) = 9999 + 1 from rfl]
  unfold Instr.checkKey
  simp [run_underlying hp]
theorem findB_at (b : Nat) : ∀ (F : List (Nat × Value)) (i : Nat), (findB b F i = none ∧ ∀ p ∈ F, p.1 ≠ b) ∨ ∃ (k : Nat) (v : Value) (h : k < F.length), findB b F i = some (i + k, v) ∧ F[k] = (b, v)
  | [], i => .inl ⟨rfl, fun _ h => by simp at h⟩
  | p :: F, i => by
    unfold findB
    by_cases c : p.1 = b
    · rw [if_pos c]
      exact .inr ⟨0, p.2, by simp, rfl, by simp [← c]⟩
    · rw [if_neg c]
      rcases findB_at b F (i + 1) with ⟨e, h⟩ | ⟨k, v, hk, e, h⟩
      · refine .inl ⟨e, fun q hq => ?_⟩
        rcases List.mem_cons.1 hq with rfl | hq
        · exact c
        · exact h q hq
      · exact .inr ⟨k + 1, v, by simpa using hk, by rw [e]; simp only [Option.some.injEq, Prod.mk.injEq, and_true]; omega, by simpa using h⟩
theorem PM.look {m : Nat} {F : List (Nat × Value)} (h : PM w m F) {t e : TypeId} {z : Value} (ht : P.underlying t = some (.map kt e)) (hp : P.underlying kt = some (.pointer te)) (hte : P.info? te = some j) (hsz : j.size ≠ 0) (hz : (zeroValue e).run P w = .ok z w) (b : Nat) (hb : Ordi w b) (ok : Bool) :
    (Instr.lookup t (.map (some m)) (.pointer (some ⟨b, 0, none⟩)) ok).run P w = .ok (if ok then .tuple #[((findB b F 0).map Prod.snd).getD z, .bool (findB b F 0).isSome] else ((findB b F 0).map Prod.snd).getD z) w := by
  obtain ⟨es, clock, h1, h2, h3, h4⟩ := h
  have hk := run_findKey hp hte hsz b hb es.toList F h2 h3 h4
  unfold Instr.lookup
  cases hf : findB b F 0 with
  | none =>
    rw [hf] at hk
    simp [run_underlying ht, MapKept.run_getObj_map h1, run_checkPtr hp, hk, hz]
  | some p =>
    rw [hf] at hk
    simp [run_underlying ht, MapKept.run_getObj_map h1, run_checkPtr hp, hk]
/-- Writes of block m alone. -/
theorem PM.grown {m : Nat} {o : Obj} : w.grownBy { w with heap := w.heap.setIfInBounds m o } (some m) :=
  ⟨rfl, rfl, rfl, by simp, fun i hi hne => by
    have : m ≠ i := fun e => hne (by rw [e])
    simp [this]⟩
theorem Ordi.set {m b : Nat} {o : Obj} (h : Ordi w b) (hne : b ≠ m) : Ordi { w with heap := w.heap.setIfInBounds m o } b := by
  obtain ⟨c, t, e⟩ := h
  exact ⟨c, t, by simp [Ne.symm hne, e]⟩
theorem PM.ne {m b : Nat} {F : List (Nat × Value)} (h : PM w m F) (hb : Ordi w b) : b ≠ m := by
  obtain ⟨es, clock, h1, -⟩ := h
  obtain ⟨c, t, e⟩ := hb
  rintro rfl
  rw [e] at h1
  simp at h1
theorem PM.new {m : Nat} {F : List (Nat × Value)} (h : PM w m F) {t e : TypeId} (ht : P.underlying t = some (.map kt e)) (hp : P.underlying kt = some (.pointer te)) (hte : P.info? te = some j) (hsz : j.size ≠ 0) (b : Nat) (hb : Ordi w b) (v : Value) (hN : ∀ p ∈ F, p.1 ≠ b) :
    ∃ w', (Instr.mapUpdate t (.map (some m)) (.pointer (some ⟨b, 0, none⟩)) v).run P w = .ok () w' ∧ PM w' m (F ++ [(b, v)]) ∧ w.grownBy w' (some m) := by
  have hm := h
  obtain ⟨es, clock, h1, h2, h3, h4⟩ := h
  have hk := run_findKey hp hte hsz b hb es.toList F h2 h3 h4
  have hf : findB b F 0 = none := by
    rcases findB_at b F 0 with ⟨e, -⟩ | ⟨k, u, hk, -, hF⟩
    · exact e
    · exact absurd (by rw [hF]) (hN F[k] (List.getElem_mem hk))
  rw [hf] at hk
  refine ⟨{ w with heap := w.heap.setIfInBounds m (.map (es.push { key := .pointer (some ⟨b, 0, none⟩), val := v, born := clock }) (clock + 1)) }, ?_, ⟨es.push { key := .pointer (some ⟨b, 0, none⟩), val := v, born := clock }, clock + 1, ?_, ?_, ?_, ?_⟩, PM.grown⟩
  · unfold Instr.mapUpdate
    simp [run_underlying ht, MapKept.run_getObj_map h1, run_checkPtr hp, hk, MapKept.run_setObj_map _ h1]
  · have := (Array.getElem?_eq_some_iff.1 h1).1
    simp [this]
  · simp [h2]
  · intro i hi hj
    simp only [Array.toList_push] at hi ⊢
    by_cases c : i < F.length
    · have c' : i < es.toList.length := by omega
      rw [List.getElem_append_left c', List.getElem_append_left c]
      exact h3 i c' c
    · have e1 : i = F.length := by simp only [List.length_append, List.length_cons, List.length_nil] at hj; omega
      have e2 : i = es.toList.length := by omega
      subst e1
      rw [List.getElem_append_right (by omega), List.getElem_append_right (by omega)]
      simp only [Nat.sub_self, List.getElem_cons_zero]
      have e3 : F.length - es.toList.length = 0 := by omega
      simp only [e3, List.getElem_cons_zero]
      exact ⟨rfl, rfl⟩
  · intro p hp
    rcases List.mem_append.1 hp with hp | hp
    · exact (h4 p hp).set (hm.ne (h4 p hp))
    · rw [List.mem_singleton.1 hp]
      exact hb.set (hm.ne hb)
theorem PM.old {m : Nat} {F : List (Nat × Value)} (h : PM w m F) {t e : TypeId} (ht : P.underlying t = some (.map kt e)) (hp : P.underlying kt = some (.pointer te)) (hte : P.info? te = some j) (hsz : j.size ≠ 0) (b : Nat) (hb : Ordi w b) (v : Value) (k : Nat) (u : Value) (hf : findB b F 0 = some (k, u)) (hkl : k < F.length) (hkF : F[k].1 = b) :
    ∃ w', (Instr.mapUpdate t (.map (some m)) (.pointer (some ⟨b, 0, none⟩)) v).run P w = .ok () w' ∧ PM w' m (F.set k (b, v)) ∧ w.grownBy w' (some m) := by
  have hm := h
  obtain ⟨es, clock, h1, h2, h3, h4⟩ := h
  have hk := run_findKey hp hte hsz b hb es.toList F h2 h3 h4
  rw [hf] at hk
  have hke : k < es.toList.length := by omega
  have hkk : ((es[k]?).map (·.key)).getD (.pointer (some ⟨b, 0, none⟩)) = .pointer (some ⟨b, 0, none⟩) := by
    obtain ⟨e1, -⟩ := h3 k hke hkl
    have : es[k]? = some es.toList[k] := by simp
    rw [this]
    simp only [Option.map_some, Option.getD_some]
    rw [e1, hkF]
  refine ⟨{ w with heap := w.heap.setIfInBounds m (.map (es.modify k fun e => { e with key := .pointer (some ⟨b, 0, none⟩), val := v }) clock) }, ?_, ⟨es.modify k fun e => { e with key := .pointer (some ⟨b, 0, none⟩), val := v }, clock, ?_, ?_, ?_, ?_⟩, PM.grown⟩
  · unfold Instr.mapUpdate
    simp only [run_underlying ht, Sem.run_bind, Result.andThen_ok, MapKept.run_getObj_map h1, run_checkPtr hp, hk]
    rw [hkk]
    have hs : (Instr.keyThatStays (.pointer (some ⟨b, 0, none⟩)) (.pointer (some ⟨b, 0, none⟩))).run P w = .ok (.pointer (some ⟨b, 0, none⟩)) w := by
      unfold Instr.keyThatStays
      have : Instr.sameBits 10000 (.pointer (some ⟨b, 0, none⟩)) (.pointer (some ⟨b, 0, none⟩)) = true := by simp [Instr.sameBits]
      simp [this]
    rw [hs]
    simp only [Result.andThen_ok]
    exact MapKept.run_setObj_map _ h1
  · have := (Array.getElem?_eq_some_iff.1 h1).1
    simp [this]
  · simp [h2]
  · intro i hi hj
    have hi' : i < es.toList.length := by simpa using hi
    have hj' : i < F.length := by simpa using hj
    simp only [Array.toList_modify, List.getElem_modify, List.getElem_set]
    by_cases c : k = i
    · rw [if_pos c, if_pos c]
      exact ⟨rfl, rfl⟩
    · rw [if_neg c, if_neg c]
      exact h3 i hi' hj'
  · intro p hp
    rcases List.mem_or_eq_of_mem_set hp with hp | hp
    · exact (h4 p hp).set (hm.ne (h4 p hp))
    · rw [hp]
      exact hb.set (hm.ne hb)
end
end Go.Proofs.YtiabdcejibeciaaDoor

namespace Go.Proofs.YtiabdcejibeciaaDoor
open Go.RowKit

/-- All blocks of cells are as they were. -/
structure KC (w w' : World) : Prop where
  cells : ∀ (b : Nat) (c : Array Value) (t : TypeId) (u : Nat × Nat), w.heap[b]? = some (.cells c t u) → w'.heap[b]? = some (.cells c t u)
  size : w.heap.size ≤ w'.heap.size
theorem KC.refl (w : World) : KC w w := ⟨fun _ _ _ _ h => h, Nat.le_refl _⟩
theorem KC.trans {a b c : World} (h : KC a b) (k : KC b c) : KC a c := ⟨fun x d t u e => k.cells x d t u (h.cells x d t u e), Nat.le_trans h.size k.size⟩
theorem KC.below {w w' : World} (h : Below w.heap.size w w') : KC w w' := ⟨fun b _ _ _ e => (h.block b (Array.getElem?_eq_some_iff.1 e).1).trans e, h.size⟩
theorem KC.grown {w w' : World} {m : Nat} {F : List (Nat × Value)} (h : PM w m F) (hg : w.grownBy w' (some m)) : KC w w' := by
  obtain ⟨es, ck, hm, -⟩ := h
  refine ⟨fun b c t u e => (hg.block b (Array.getElem?_eq_some_iff.1 e).1 fun eb => ?_).trans e, hg.size⟩
  have := Option.some.inj eb
  subst this
  rw [hm] at e
  simp at e
theorem KC.cell {w w' : World} (h : KC w w') {a : Addr} {v : Value} (hc : w.cell? a = some v) : w'.cell? a = some v := by
  unfold World.cell? at hc ⊢
  cases hb : w.heap[a.block]? with
  | none => rw [hb] at hc; simp at hc
  | some o =>
    rw [hb] at hc
    cases o with
    | cells c t u =>
      rw [h.cells _ c t u hb]
      exact hc
    | _ => simp at hc
theorem KC.kpB {w w' : World} (h : KC w w') : KpB w w' := fun b c e => h.cells b c _ _ e
theorem Sl.kc {w w' : World} {ao : Option Addr} {n cap : Nat} {xs : List Int} (h : Sl w ao n cap xs) (k : KC w w') : Sl w' ao n cap xs := ⟨h.len, h.le, h.mx, h.nil, fun a ha i hi => k.cell (h.cell a ha i hi), h.byte⟩
theorem VL.kc {w w' : World} {ao : Option Addr} {n cap : Nat} {vs : List Value} (h : VL w ao n cap vs) (k : KC w w') : VL w' ao n cap vs := ⟨h.len, h.le, h.mx, h.nil, fun a ha i hi => k.cell (h.cell a ha i hi)⟩
theorem KL.kc {w w' : World} {ao : Option Addr} {n cap : Nat} {ps : List Part} (h : KL w ao n cap ps) (k : KC w w') : KL w' ao n cap ps := ⟨h.vl.kc k, fun q hq => (h.sl q hq).kc k⟩
theorem Nd.ok.kc {w w' : World} {d : Nd} (h : d.ok w) (k : KC w w') : d.ok w' :=
  ⟨k.cell h.c0, k.cell h.c1, k.cell h.c2, k.cell h.c3, h.kl.kc k, h.vl.kc k, h.cl.kc k, by obtain ⟨c, t, e⟩ := h.uf; exact ⟨c, t, k.cells _ _ _ _ e⟩⟩
theorem TN.kc {w w' : World} (k : KC w w') : ∀ (n : Nat) (v : Value) (l : List It), TN w n v l → TN w' n v l
  | 0, _, _, h => h
  | n + 1, v, l, h => by
    rcases h with h | ⟨d, segs, xs, rfl, hok, hs, e1, e2, e3, hk⟩
    · exact .inl h
    · refine .inr ⟨d, segs, xs, rfl, hok.kc k, hs, e1, e2, e3, fun i s hi => ?_⟩
      obtain ⟨u, hu, ht⟩ := hk i s hi
      exact ⟨u, hu, TN.kc k n u s ht⟩
theorem T.kc {w w' : World} {v : Value} {l : List It} (h : T w v l) (k : KC w w') : T w' v l := TN.kc k _ v l h
theorem Nod.kc {w w' : World} {l : List It} {d : Nd} {segs : List (List It)} {xs : List It} (h : Nod w l d segs xs) (k : KC w w') : Nod w' l d segs xs :=
  ⟨h.ok.kc k, h.shp, h.ek, h.ev, h.ec, fun i s hi => by obtain ⟨u, hu, ht⟩ := h.kid i s hi; exact ⟨u, hu, ht.kc k⟩⟩
theorem Tabs.kc {w w' : World} (h : Tabs w) (k : KC w w') : Tabs w' := ⟨fun j v hv => k.cell (h.first j v hv), fun j v hv => k.cell (h.cubes j v hv), Nat.le_trans h.two k.size⟩
theorem SlT.kc {w w' : World} {q : Part} (h : SlT w q) (k : KC w w') : SlT w' q := h.kp k.kpB
theorem Ordi.kc {w w' : World} {b : Nat} (h : Ordi w b) (k : KC w w') : Ordi w' b := by
  obtain ⟨c, t, e⟩ := h
  exact ⟨c, t, k.cells _ _ _ _ e⟩
theorem PM.below {w w' : World} {m : Nat} {F : List (Nat × Value)} (h : PM w m F) (hb : Below w.heap.size w w') : PM w' m F := by
  obtain ⟨es, ck, h1, h2, h3, h4⟩ := h
  exact ⟨es, ck, (hb.block m (Array.getElem?_eq_some_iff.1 h1).1).trans h1, h2, h3, fun p hp => (h4 p hp).kc (KC.below hb)⟩
/-- A row of bytes of the call's own. -/
structure RwI (base : Nat) (W : World) (v : Value) (qs : List Part) : Prop where
  own : W.ownsRow base 26 1 v qs.length (qs.map Part.val)
  sl : ∀ q ∈ qs, SlT W q
  le : base ≤ W.heap.size
theorem RwI.kc {base : Nat} {W W' : World} {v : Value} {qs : List Part} (h : RwI base W v qs) (k : KC W W') : RwI base W' v qs := by
  refine ⟨⟨h.own.1, ?_⟩, fun q hq => (h.sl q hq).kc k, Nat.le_trans h.le k.size⟩
  rcases h.own.2 with c | ⟨g, cap, cur, rfl, a1, a2, a3, a4, a5, a6⟩
  · exact .inl c
  · exact .inr ⟨g, cap, cur, rfl, a1, k.cells _ _ _ _ a2, a3, a4, a5, a6⟩
theorem RwI.nil (W : World) : RwI W.heap.size W (.slice none 0 0) [] := ⟨⟨rfl, .inl ⟨rfl, rfl⟩⟩, fun _ h => by simp at h, Nat.le_refl _⟩
theorem RwI.kl {base : Nat} {W : World} {v : Value} {qs : List Part} (h : RwI base W v qs) : ∃ ao cap, v = .slice ao qs.length cap ∧ KL W ao qs.length cap qs := by
  obtain ⟨ao, cap, e, V, -⟩ := VL.own h.own
  exact ⟨ao, cap, e, V, fun q hq => (h.sl q hq).1⟩
end Go.Proofs.YtiabdcejibeciaaDoor

namespace Go.Proofs.YtiabdcejibeciaaDoor
open Go.RowKit

/-- Bytes that are written out, marked. -/
theorem Sl.const (w : World) (xs : List Int) (fr : Nat × Nat) (h : Byt xs) (hn : xs.length ≤ maxLen) : Sl (w.alloc (.cells (bv xs).toArray 5 fr)) (some ⟨w.heap.size, 0, none⟩) xs.length xs.length xs := by
  refine ⟨rfl, Nat.le_refl _, hn, fun h => by simp at h, fun a ha i hi => ?_, h⟩
  obtain rfl := Option.some.inj ha
  rw [Addr.add_lit, Nat.zero_add, cell_of_row _ w.heap.size i (bv xs).toArray 5 fr (heap_alloc_new w _)]
  simpa using bv_get xs i hi
end Go.Proofs.YtiabdcejibeciaaDoor

namespace Go.Proofs.YtiabdcejibeciaaDoor
open Go.RowKit

/-- A part out of a list, or nothing. -/
theorem at_any (w : World) (ao : Option Addr) (n cap i : Nat) (ps : List Part) (h : PL w ao n cap ps) (hn : n ≤ 1000000) (hi : i ≤ 1000000) :
    Calls Tryd.prog 129 #[.slice ao n cap, .int .i64 i] w fun e w' => ∃ qo qn qc, e = .returned (.slice qo qn qc) ∧ Sl w qo qn qc ((ps.map Part.xs).getD i []) ∧ (qn = 0 ∨ ∃ q ∈ ps, qn = q.n) ∧ w' = w := by
  have hl := h.len
  by_cases hlt : i < n
  · have hlt' : (i : Int) < (n : Int) := by omega
    obtain ⟨b, off, rfl, hc⟩ := h.at (by omega)
    have hil : i < ps.length := by omega
    have c1 := hc i hil
    have S1 := h.sl ps[i] (List.getElem_mem hil)
    have hm := List.getElem_mem hil
    have HG : Hid ((ps.map Part.xs).getD i [] = ps[i].xs) := by show _ = _; simp [List.getD, hil]
    obtain ⟨q, hq⟩ : ∃ q, q = ps[i] := ⟨_, rfl⟩
    rw [← hq] at c1 S1 HG hm
    clear hq hc
    unfold Part.val at c1
    go_enter Tryd.func129, Tryd.ntmps129
    go_wp2
    go_ret
    exact ⟨q.ao, q.n, q.cap, rfl, by first | exact S1 | (rw [HG.out]; exact S1), .inr ⟨q, hm, rfl⟩, rfl⟩
  · have hlt' : ¬ (i : Int) < (n : Int) := by omega
    have HG : Hid ((ps.map Part.xs).getD i [] = []) := by show _ = _; rw [List.getD, List.getElem?_eq_none (by simp; omega)]; rfl
    go_enter Tryd.func129, Tryd.ntmps129
    go_wp2
    go_ret
    exact ⟨none, 0, 0, rfl, by first | exact Sl.nothing w | (rw [HG.out]; exact Sl.nothing w), .inl rfl, rfl⟩

set_option maxHeartbeats 1000000 in
set_option maxRecDepth 100000 in
theorem put_any (w : World) (p base : Nat) (v : Value) (k : Nat) (xs : List Int) (ha : Arr w p 26 [v]) (own : w.ownsRow base 5 1 v k (bv xs)) (hp : base ≤ p) (hb : base ≤ w.heap.size) (ao : Option Addr) (n cap : Nat) (ys : List Int) (h : Sl w ao n cap ys) (hk : k + n + 100 ≤ 140737488355328) (hxb : Byt xs) :
    Calls Tryd.prog 128 #[.slice ao n cap, .pointer (some ⟨p, 0, none⟩)] w fun e w' => (∃ u, e = .returned u) ∧ ∃ v', Arr w' p 26 [v'] ∧ w'.ownsRow base 5 1 v' (k + ((enc n).length + n)) (bv (xs ++ (enc n ++ ys))) ∧ Below base w w' := by
  obtain ⟨i0, hi, hz0, hz1, hz2⟩ := info_parts u8info
  have hl := h.len
  have hen := enc_length (n := n) (by omega)
  have hep := enc_pos n
  have heb : Byt (enc n) := enc_byte (by omega)
  have hbyt : Byt (xs ++ (enc n ++ ys)) := hxb.append (heb.append h.byte)
  obtain ⟨vo, vc, rfl, -, -⟩ := Sl.own own hxb
  go_enter Tryd.func128, Tryd.ntmps128
  go_wp2_with fail
  have HS : Hid (∀ V, Below w.heap.size w V → True) := fun _ _ => trivial
  have E0 : Below w.heap.size w w.drew := (Below.refl _ _).drew
  refine wp_region_noPanic ?_
  refine wp_region_held_drew (S := fun V => True) (by kernel_rfl) (HS.out _ E0) (fun H0 => ?_)
  obtain ⟨v0, hv0⟩ : ∃ v, v = w.drew := ⟨_, rfl⟩
  rw [← hv0] at E0 ⊢
  clear hv0
  refine hr_take_w 1 (some 4) (.slice ao n cap) rfl rfl (by kernel_rfl) (by kernel_rfl) (by kernel_rfl) rfl (fun W hW => by go_simp) H0 ?_
  simp only [Act.put, List.setIfInBounds_toArray, List.set_cons_zero, List.set_cons_succ]
  have hv0 := ha.cell 0
  have ha0 := arr_below ha E0
  have own0 := own_below own E0
  have h0 := h.below E0
  have c0 := ha0.cell 0
  have s0 := E0.size
  refine hr_any (rs := [0, 2]) (by kernel_rfl) (by simp) (fun i hi' => ?_)
  simp only [List.mem_cons, List.not_mem_nil, or_false] at hi'
  rcases hi' with rfl | rfl
  · refine op_ex 0 (some 3) rfl rfl rfl (R := fun u w' => u = .slice vo k vc ∧ v0 = w') ⟨_, _, by go_simp, rfl, rfl⟩ ?_
    rintro u w' ⟨rfl, rfl⟩
    refine ⟨trivial, ?_⟩
    simp only [Act.put, List.setIfInBounds_toArray, List.set_cons_zero, List.set_cons_succ]
    refine hr_call_w 2 (some 5) 79 #[.slice none 0 0, .slice ao n cap] rfl rfl (by kernel_rfl) rfl (by go_simp) (fun u w' => w'.ownsRow v0.heap.size 5 1 u (0 + (enc n).length + n) (bv ([] ++ enc n ++ ys)) ∧ Below v0.heap.size v0 w') ((wBytes_any v0 none ao 0 0 n cap [] ys (Sl.nothing v0) h0 (by omega)).mono (by
      rintro e w' ⟨u, rfl, o, C⟩
      exact ⟨_, rfl, o, C⟩)) ?_
    rintro u w1 ⟨o1, C1⟩
    simp only [Nat.zero_add, List.nil_append] at o1
    obtain ⟨fo', fc, rfl, S1, hS1⟩ := Sl.own o1 (heb.append h.byte)
    obtain ⟨fo, rfl⟩ : ∃ fo, fo' = some fo := by
      cases fo' with
      | none => have := (S1.nil rfl).1; omega
      | some a => exact ⟨a, rfl⟩
    have s1 := C1.size
    have own1 := own_below own0 C1
    have ha1 := arr_below ha0 C1
    refine ⟨trivial, ?_⟩
    simp only [Act.put, List.setIfInBounds_toArray, List.set_cons_zero, List.set_cons_succ]
    obtain ⟨v', w2, hrun, own2, g2, -⟩ := run_append_own (P := Tryd.prog) w1 base 26 26 5 i0 (.int .u8 0) 1 1 Tryd.underlying26 hi hz0 hz1 hz2 rfl (by decide) (.slice vo k vc) k (bv xs) own1 fo ((enc n).length + n) fc (bv (enc n ++ ys)) (by rw [bv_length, Nat.mul_one]; exact S1.len) (S1.cells fo rfl) (bv_one _) (by unfold maxLen; omega) (by omega) (by omega)
    obtain ⟨a1, a2, own3, B3⟩ := arr_put ha1 (by decide) own1 (by omega) hp own2 g2 0
    have e1 : bv xs ++ bv (enc n ++ ys) = bv (xs ++ (enc n ++ ys)) := (bv_append _ _).symm
    rw [e1] at own2 own3
    obtain ⟨ro, rc, rfl, -, -⟩ := Sl.own own2 hbyt
    have fz := a1.free 0
    have fc0 := a1.cell 0
    refine hr_ex 3 (some 6) rfl rfl (by kernel_rfl) rfl (R := fun u w' => u = .slice ro (k + ((enc n).length + n)) rc ∧ w2 = w') ⟨_, _, by simp [execOp, Act.eval, resolve, invoke, builtin, hrun], rfl, rfl⟩ ?_
    rintro u w' ⟨rfl, rfl⟩
    refine ⟨trivial, ?_⟩
    simp only [Act.put, List.setIfInBounds_toArray, List.set_cons_zero, List.set_cons_succ]
    refine hr_skip 4 none (w' := w2.setCell ⟨p, 0, none⟩ (.slice ro (k + ((enc n).length + n)) rc)) rfl rfl (by kernel_rfl) rfl (by go_simp) trivial ?_
    simp only [Act.put]
    refine wpAnyH_done (by kernel_rfl) ?_ _
    refine NoPanic.normal ?_
    go_wp2
    go_end0
    exact ⟨⟨_, rfl⟩, _, a2, own3, (E0.mono hb).trans ((C1.mono (by omega)).trans B3)⟩
  · refine op_calls 2 (some 5) 79 #[.slice none 0 0, .slice ao n cap] rfl rfl rfl (by go_simp) (fun u w' => w'.ownsRow v0.heap.size 5 1 u (0 + (enc n).length + n) (bv ([] ++ enc n ++ ys)) ∧ Below v0.heap.size v0 w') ((wBytes_any v0 none ao 0 0 n cap [] ys (Sl.nothing v0) h0 (by omega)).mono (by
      rintro e w' ⟨u, rfl, o, C⟩
      exact ⟨_, rfl, o, C⟩)) ?_
    rintro u w1 ⟨o1, C1⟩
    simp only [Nat.zero_add, List.nil_append] at o1
    obtain ⟨fo', fc, rfl, S1, hS1⟩ := Sl.own o1 (heb.append h.byte)
    obtain ⟨fo, rfl⟩ : ∃ fo, fo' = some fo := by
      cases fo' with
      | none => have := (S1.nil rfl).1; omega
      | some a => exact ⟨a, rfl⟩
    have s1 := C1.size
    have own1 := own_below own0 C1
    have ha1 := arr_below ha0 C1
    have c1 := ha1.cell 0
    refine ⟨trivial, ?_⟩
    simp only [Act.put, List.setIfInBounds_toArray, List.set_cons_zero, List.set_cons_succ]
    refine hr_ex 0 (some 3) rfl rfl (by kernel_rfl) rfl (R := fun u w' => u = .slice vo k vc ∧ w1 = w') ⟨_, _, by go_simp, rfl, rfl⟩ ?_
    rintro u w' ⟨rfl, rfl⟩
    refine ⟨trivial, ?_⟩
    simp only [Act.put, List.setIfInBounds_toArray, List.set_cons_zero, List.set_cons_succ]
    obtain ⟨v', w2, hrun, own2, g2, -⟩ := run_append_own (P := Tryd.prog) w1 base 26 26 5 i0 (.int .u8 0) 1 1 Tryd.underlying26 hi hz0 hz1 hz2 rfl (by decide) (.slice vo k vc) k (bv xs) own1 fo ((enc n).length + n) fc (bv (enc n ++ ys)) (by rw [bv_length, Nat.mul_one]; exact S1.len) (S1.cells fo rfl) (bv_one _) (by unfold maxLen; omega) (by omega) (by omega)
    obtain ⟨a1, a2, own3, B3⟩ := arr_put ha1 (by decide) own1 (by omega) hp own2 g2 0
    have e1 : bv xs ++ bv (enc n ++ ys) = bv (xs ++ (enc n ++ ys)) := (bv_append _ _).symm
    rw [e1] at own2 own3
    obtain ⟨ro, rc, rfl, -, -⟩ := Sl.own own2 hbyt
    have fz := a1.free 0
    have fc0 := a1.cell 0
    refine hr_ex 3 (some 6) rfl rfl (by kernel_rfl) rfl (R := fun u w' => u = .slice ro (k + ((enc n).length + n)) rc ∧ w2 = w') ⟨_, _, by simp [execOp, Act.eval, resolve, invoke, builtin, hrun], rfl, rfl⟩ ?_
    rintro u w' ⟨rfl, rfl⟩
    refine ⟨trivial, ?_⟩
    simp only [Act.put, List.setIfInBounds_toArray, List.set_cons_zero, List.set_cons_succ]
    refine hr_skip 4 none (w' := w2.setCell ⟨p, 0, none⟩ (.slice ro (k + ((enc n).length + n)) rc)) rfl rfl (by kernel_rfl) rfl (by go_simp) trivial ?_
    simp only [Act.put]
    refine wpAnyH_done (by kernel_rfl) ?_ _
    refine NoPanic.normal ?_
    go_wp2
    go_end0
    exact ⟨⟨_, rfl⟩, _, a2, own3, (E0.mono hb).trans ((C1.mono (by omega)).trans B3)⟩
end Go.Proofs.YtiabdcejibeciaaDoor

/-
  Texts in one: Rot, DCells, DBase, Words, Sched.
-/
import Derived.Test.YtcgphdipfekccaaGreatDoorMessageOrderQ0
import Derived.Laws.BitsAllLaws
import Derived.Laws.ShiftsVarLaws
import Derived.Deep.WholeRow
import Derived.Deep.Draws
import Derived.BigQuiet
import Derived.RegionTactic
import Derived.BigRegion
namespace Go.Proofs.YtcgphdipfekccaaGreatDoor
open Go.RowKit
def rotr (n : Nat) (x : Int) : Int := bits .or .u32 (IntKind.u32.wrap (x * 2 ^ (32 - n))) (x / 2 ^ n)
set_option maxRecDepth 100000 in
set_option maxHeartbeats 1000000 in
theorem rot_2 (x : Int) (w : World) :
    Calls Tryz.prog 86 #[.int .u32 x, .int .i64 (-2)] w fun e w' => e = .returned (.int .u32 (rotr 2 x)) ∧ w' = w := by
  have hb : bits .and .u64 (IntKind.u64.wrap (-2)) 31 = 30 := by decide
  go_enter Tryz.func86, Tryz.ntmps86
  go_wp2
  go_ret
  exact ⟨rfl, rfl⟩
set_option maxRecDepth 100000 in
set_option maxHeartbeats 1000000 in
theorem rot_6 (x : Int) (w : World) :
    Calls Tryz.prog 86 #[.int .u32 x, .int .i64 (-6)] w fun e w' => e = .returned (.int .u32 (rotr 6 x)) ∧ w' = w := by
  have hb : bits .and .u64 (IntKind.u64.wrap (-6)) 31 = 26 := by decide
  go_enter Tryz.func86, Tryz.ntmps86
  go_wp2
  go_ret
  exact ⟨rfl, rfl⟩
set_option maxRecDepth 100000 in
set_option maxHeartbeats 1000000 in
theorem rot_7 (x : Int) (w : World) :
    Calls Tryz.prog 86 #[.int .u32 x, .int .i64 (-7)] w fun e w' => e = .returned (.int .u32 (rotr 7 x)) ∧ w' = w := by
  have hb : bits .and .u64 (IntKind.u64.wrap (-7)) 31 = 25 := by decide
  go_enter Tryz.func86, Tryz.ntmps86
  go_wp2
  go_ret
  exact ⟨rfl, rfl⟩
set_option maxRecDepth 100000 in
set_option maxHeartbeats 1000000 in
theorem rot_11 (x : Int) (w : World) :
    Calls Tryz.prog 86 #[.int .u32 x, .int .i64 (-11)] w fun e w' => e = .returned (.int .u32 (rotr 11 x)) ∧ w' = w := by
  have hb : bits .and .u64 (IntKind.u64.wrap (-11)) 31 = 21 := by decide
  go_enter Tryz.func86, Tryz.ntmps86
  go_wp2
  go_ret
  exact ⟨rfl, rfl⟩
set_option maxRecDepth 100000 in
set_option maxHeartbeats 1000000 in
theorem rot_13 (x : Int) (w : World) :
    Calls Tryz.prog 86 #[.int .u32 x, .int .i64 (-13)] w fun e w' => e = .returned (.int .u32 (rotr 13 x)) ∧ w' = w := by
  have hb : bits .and .u64 (IntKind.u64.wrap (-13)) 31 = 19 := by decide
  go_enter Tryz.func86, Tryz.ntmps86
  go_wp2
  go_ret
  exact ⟨rfl, rfl⟩
set_option maxRecDepth 100000 in
set_option maxHeartbeats 1000000 in
theorem rot_17 (x : Int) (w : World) :
    Calls Tryz.prog 86 #[.int .u32 x, .int .i64 (-17)] w fun e w' => e = .returned (.int .u32 (rotr 17 x)) ∧ w' = w := by
  have hb : bits .and .u64 (IntKind.u64.wrap (-17)) 31 = 15 := by decide
  go_enter Tryz.func86, Tryz.ntmps86
  go_wp2
  go_ret
  exact ⟨rfl, rfl⟩
set_option maxRecDepth 100000 in
set_option maxHeartbeats 1000000 in
theorem rot_18 (x : Int) (w : World) :
    Calls Tryz.prog 86 #[.int .u32 x, .int .i64 (-18)] w fun e w' => e = .returned (.int .u32 (rotr 18 x)) ∧ w' = w := by
  have hb : bits .and .u64 (IntKind.u64.wrap (-18)) 31 = 14 := by decide
  go_enter Tryz.func86, Tryz.ntmps86
  go_wp2
  go_ret
  exact ⟨rfl, rfl⟩
set_option maxRecDepth 100000 in
set_option maxHeartbeats 1000000 in
theorem rot_19 (x : Int) (w : World) :
    Calls Tryz.prog 86 #[.int .u32 x, .int .i64 (-19)] w fun e w' => e = .returned (.int .u32 (rotr 19 x)) ∧ w' = w := by
  have hb : bits .and .u64 (IntKind.u64.wrap (-19)) 31 = 13 := by decide
  go_enter Tryz.func86, Tryz.ntmps86
  go_wp2
  go_ret
  exact ⟨rfl, rfl⟩
set_option maxRecDepth 100000 in
set_option maxHeartbeats 1000000 in
theorem rot_22 (x : Int) (w : World) :
    Calls Tryz.prog 86 #[.int .u32 x, .int .i64 (-22)] w fun e w' => e = .returned (.int .u32 (rotr 22 x)) ∧ w' = w := by
  have hb : bits .and .u64 (IntKind.u64.wrap (-22)) 31 = 10 := by decide
  go_enter Tryz.func86, Tryz.ntmps86
  go_wp2
  go_ret
  exact ⟨rfl, rfl⟩
set_option maxRecDepth 100000 in
set_option maxHeartbeats 1000000 in
theorem rot_25 (x : Int) (w : World) :
    Calls Tryz.prog 86 #[.int .u32 x, .int .i64 (-25)] w fun e w' => e = .returned (.int .u32 (rotr 25 x)) ∧ w' = w := by
  have hb : bits .and .u64 (IntKind.u64.wrap (-25)) 31 = 7 := by decide
  go_enter Tryz.func86, Tryz.ntmps86
  go_wp2
  go_ret
  exact ⟨rfl, rfl⟩
def rl (k : Int) (x : Int) : Int := rotr (-k).toNat x
theorem rot_at (x k : Int) (w : World) (hk : k = -2 ∨ k = -6 ∨ k = -7 ∨ k = -11 ∨ k = -13 ∨ k = -17 ∨ k = -18 ∨ k = -19 ∨ k = -22 ∨ k = -25) :
    Calls Tryz.prog 86 #[.int .u32 x, .int .i64 k] w fun e w' => e = .returned (.int .u32 (rl k x)) ∧ w' = w := by
  rcases hk with rfl | rfl | rfl | rfl | rfl | rfl | rfl | rfl | rfl | rfl
  · exact rot_2 x w
  · exact rot_6 x w
  · exact rot_7 x w
  · exact rot_11 x w
  · exact rot_13 x w
  · exact rot_17 x w
  · exact rot_18 x w
  · exact rot_19 x w
  · exact rot_22 x w
  · exact rot_25 x w
end Go.Proofs.YtcgphdipfekccaaGreatDoor
namespace Go
theorem run_loadVar_cells {P : Program} (w : World) (ad : Addr) (ty : TypeId) (cs : List Value) (hc : ∀ j v, cs[j]? = some v → w.cell? (ad.add j) = some v)
    (hagg : (isAgg ty).run P w = .ok true w) (hi : (P.info? ty).map (·.size) = some cs.length) :
    (loadVar ty ad).run P w = .ok (.agg cs.toArray) w := by
  have hl : (loadCells ad cs.length).run P w = .ok cs.toArray w := run_loadCells_list (P := P) w ad cs hc
  cases hq : P.info? ty with
  | none => simp [hq] at hi
  | some i =>
    have hs : i.size = cs.length := by simpa [hq] using hi
    simp [loadVar, Sem.run_bind, hagg, sizeOf, typeInfo, hq, hs, hl]
theorem wpList_load_cells {P : Program} {ops : Array Oper} {rest : List Oper} {o : Oper} {a : Act} {w : World} {Q : Exit → Act → World → Prop} (hgd : o.guard = none) (ty : TypeId) (x : Operand) (ho : o.op = .load ty x)
    (ad : Addr) (hx : a.eval x = .pointer (some ad)) (cs : List Value) (hc : ∀ j v, cs[j]? = some v → w.cell? (ad.add j) = some v)
    (hagg : ∀ w, (isAgg ty).run P w = .ok true w) (hi : (P.info? ty).map (·.size) = some cs.length)
    (h : wpList P ops Q rest (a.put o.dst (.agg cs.toArray)) w) : wpList P ops Q (o :: rest) a w := by
  refine wpList_plain hgd fun K hK => ?_
  unfold Oper.wp execOp
  simp only [ho, hx, Instr.loadAt, Instr.sureAddr, Sem.run_bind, Sem.run_pure, Result.andThen_ok, run_loadVar_cells w ad ty cs hc (hagg w) hi]
  exact hK _ _ h
theorem results_cells {P : Program} {fn : Func} {p : Tmp} {ty : TypeId} (h : fn.results = #[.cell p ty]) (tmps : Array Value) (w : World) (ad : Addr) (hp : tmps.getD p undef = .pointer (some ad)) (cs : List Value)
    (hc : ∀ j v, cs[j]? = some v → w.cell? (ad.add j) = some v) (hagg : (isAgg ty).run P w = .ok true w) (hi : (P.info? ty).map (·.size) = some cs.length) :
    (results fn tmps).run P w = .ok (.agg cs.toArray) w := by
  have hp' : tmps[p]?.getD undef = .pointer (some ad) := by simpa using hp
  simp [results, h, hp', asAddr, run_loadVar_cells w ad ty cs hc hagg hi]
theorem wpList_alloc_named {P : Program} {ops : Array Oper} {rest : List Oper} {o : Oper} {a : Act} {w : World} {Q : Exit → Act → World → Prop} (hgd : o.guard = none) (d : Tmp) (hd : o.dst = some d) (ty : TypeId) (ho : o.op = .alloc ty)
    (N : Nat) (hN : w.heap.size = N) (cs : List Value) (n : Nat) (hz : (P.info? ty).map (fun i => (i.zero, i.size)) = some (some (.agg cs.toArray), n))
    (h : ∀ w', w'.heap[N]? = some (.cells cs.toArray ty) → w'.heap.size = N + 1 → w.grownBy w' none → wpList P ops Q rest (a.put (some d) (.pointer (some ⟨N, 0, none⟩))) w') : wpList P ops Q (o :: rest) a w := by
  refine wpList_plain hgd fun K hK => ?_
  rw [← hd] at h
  subst hN
  have h0 : (zeroValue ty).run P w = .ok (.agg cs.toArray) w := (zero_of_info hz).1 w
  have hr : (execOp a.eval o).run P w = .ok (.value (.pointer (some ⟨w.heap.size, 0, none⟩))) (w.alloc (.cells cs.toArray ty)) := by
    unfold execOp
    simp [ho, Instr.alloc, h0, newVar, newRow, Value.cells]
  unfold Oper.wp
  rw [hr, Oper.upon_value]
  exact hK _ _ (h _ (heap_alloc_new _ _) (by simp) (World.grownBy_alloc _ _ _))
theorem wpList_store_named {P : Program} {ops : Array Oper} {rest : List Oper} {o : Oper} {a : Act} {w : World} {Q : Exit → Act → World → Prop} (hgd : o.guard = none) (ty : TypeId) (x y : Operand) (ho : o.op = .store ty x y)
    (g : Nat) (cells : List Value) (hx : a.eval x = .pointer (some ⟨g, 0, none⟩)) (hy : a.eval y = .agg cells.toArray)
    (t : TypeId) (old : List Value) (hg : w.heap[g]? = some (.cells old.toArray t)) (N : Nat) (hN : w.heap.size = N) (hi : (P.info? ty).map (·.size) = some cells.length)
    (hold : old.length = cells.length) (h1 : ∀ u ∈ cells, u.oneCell' = true)
    (h : ∀ w', w'.heap[g]? = some (.cells cells.toArray t) → w'.heap.size = N → w.grownBy w' (some g) → wpList P ops Q rest (a.put o.dst undef) w') : wpList P ops Q (o :: rest) a w := by
  refine wpList_store_row hgd ty x y ho g cells.toArray hx hy t old.toArray hg (by simpa using hi) (by simpa using hold) (by simpa using h1) ?_
  exact h _ (setRow_heap w g _ _ t _ hg) (by simpa using hN) ⟨rfl, rfl, rfl, by simp, fun k _ hk => setRow_other w g k _ (fun e => hk (by rw [e]))⟩
structure StopS (p : Prop) : Prop where
  out : p
theorem stop_at {P : Program} {ops : Array Oper} {rest : List Oper} {o : Oper} {a : Act} {w : World} {Q : Exit → Act → World → Prop} (op : Op) (_ : o.op = op) (h : StopS (wpList P ops Q (o :: rest) a w)) : wpList P ops Q (o :: rest) a w := h.out
theorem add_at (b i j : Nat) : (⟨b, i, none⟩ : Addr).add j = ⟨b, i + j, none⟩ := by unfold Addr.add; split <;> simp_all
end Go
namespace Go.Proofs.YtcgphdipfekccaaGreatDoor
open Go.RowKit
def Arr (w : World) (b : Nat) (t : TypeId) (cs : List Value) : Prop := w.heap[b]? = some (.cells cs.toArray t)
theorem Arr.lt {w : World} {b : Nat} {t : TypeId} {cs : List Value} (h : Arr w b t cs) : b < w.heap.size := (Array.getElem?_eq_some_iff.1 h).1
theorem Arr.cell {w : World} {b : Nat} {t : TypeId} {cs : List Value} (h : Arr w b t cs) (j : Nat) : w.cell? ⟨b, j, none⟩ = cs[j]? := by
  rw [cell_of_row w b j _ _ _ h]; simp
theorem Arr.free {w : World} {b : Nat} {t : TypeId} {cs : List Value} (h : Arr w b t cs) (j : Nat) : w.frozen? ⟨b, j, none⟩ = false := frozen_of_row w b j _ _ h
theorem Arr.grown {w w' : World} {b : Nat} {t : TypeId} {cs : List Value} {row : Option Nat} (h : Arr w b t cs) (hg : w.grownBy w' row) (hne : some b ≠ row) : Arr w' b t cs := (hg.block b h.lt hne).trans h
theorem Arr.below {w w' : World} {b : Nat} {t : TypeId} {cs : List Value} {n : Nat} (h : Arr w b t cs) (hg : Below n w w') (hne : b < n) : Arr w' b t cs := (hg.block b hne).trans h
theorem Arr.set {w : World} {b : Nat} {t : TypeId} {cs : List Value} (h : Arr w b t cs) (j : Nat) (v : Value) : Arr (w.setCell ⟨b, j, none⟩ v) b t (cs.set j v) := by
  unfold Arr
  rw [heap_setCell_same w b j _ t v h]
  simp
theorem Arr.other {w : World} {b : Nat} {t : TypeId} {cs : List Value} (h : Arr w b t cs) (a : Addr) (v : Value) (hne : b ≠ a.block) : Arr (w.setCell a v) b t cs := (heap_setCell_other w a b v hne).trans h
theorem bel_grown {w w' : World} (h : Below w.heap.size w w') (row : Option Nat) : w.grownBy w' row := ⟨h.os, h.tape, h.output, h.size, fun k hk _ => h.block k hk⟩
theorem gro_trans {a b c : World} {row : Option Nat} (h : a.grownBy b row) (k : b.grownBy c row) : a.grownBy c row :=
  ⟨k.os.trans h.os, k.tape.trans h.tape, k.output.trans h.output, Nat.le_trans h.size k.size, fun i hi hn => (k.block i (Nat.lt_of_lt_of_le hi h.size) hn).trans (h.block i hi hn)⟩
theorem grown_set {a b : World} {p : Nat} (h : a.grownBy b (some p)) (j : Nat) (v : Value) : a.grownBy (b.setCell ⟨p, j, none⟩ v) (some p) :=
  ⟨h.os, h.tape, h.output, by simpa using h.size, fun i hi hn => (heap_setCell_other b _ i v (fun e => hn (by rw [e]))).trans (h.block i hi hn)⟩
theorem grown_drewN {a b : World} {row : Option Nat} (h : a.grownBy b row) (q : Nat) : a.grownBy (b.drewN q) row := ⟨h.os, h.tape, h.output, h.size, h.block⟩
open Go.RowKit
def wv (xs : List Int) : List Value := xs.map (Value.int .u32)
theorem wv_length (xs : List Int) : (wv xs).length = xs.length := by simp [wv]
theorem wv_one (xs : List Int) : ∀ u ∈ wv xs, u.oneCell' = true := ints_oneCell .u32 xs
theorem wv_get (xs : List Int) (j : Nat) (h : j < xs.length) : (wv xs)[j]? = some (.int .u32 (xs.getD j 0)) := by
  simp [wv, h]
theorem wv_set (xs : List Int) (j : Nat) (x : Int) : (wv xs).set j (.int .u32 x) = wv (xs.set j x) := by
  simp [wv, List.map_set]
def H0 : List Int := [1779033703, 3144134277, 1013904242, 2773480762, 1359893119, 2600822924, 528734635, 1541459225]
def K0 : List Int := [1116352408, 1899447441, 3049323471, 3921009573, 961987163, 1508970993, 2453635748, 2870763221, 3624381080, 310598401, 607225278, 1426881987, 1925078388, 2162078206, 2614888103, 3248222580, 3835390401, 4022224774, 264347078, 604807628, 770255983, 1249150122, 1555081692, 1996064986, 2554220882, 2821834349, 2952996808, 3210313671, 3336571891, 3584528711, 113926993, 338241895, 666307205, 773529912, 1294757372, 1396182291, 1695183700, 1986661051, 2177026350, 2456956037, 2730485921, 2820302411, 3259730800, 3345764771, 3516065817, 3600352804, 4094571909, 275423344, 430227734, 506948616, 659060556, 883997877, 958139571, 1322822218, 1537002063, 1747873779, 1955562222, 2024104815, 2227730452, 2361852424, 2428436474, 2756734187, 3204031479, 3329325298]
structure Tabs (w : World) : Prop where
  first : ∀ j v, (wv H0)[j]? = some v → w.cell? ⟨1, j, none⟩ = some v
  cubes : ∀ j v, (wv K0)[j]? = some v → w.cell? ⟨0, j, none⟩ = some v
  two : 2 ≤ w.heap.size
theorem Tabs.below {w w' : World} {n : Nat} (h : Tabs w) (hb : Below n w w') (hn : 2 ≤ n) : Tabs w' :=
  ⟨fun j v hv => (hb.cell (p := ⟨1, j, none⟩) (by show 1 < n; omega)).trans (h.first j v hv), fun j v hv => (hb.cell (p := ⟨0, j, none⟩) (by show 0 < n; omega)).trans (h.cubes j v hv), by have := hb.size; have := h.two; omega⟩
def hv (A B : List Int) (n : Nat) : List Value := wv A ++ bv B ++ [.int .u64 n]
structure HB (w : World) (p : Nat) (A B : List Int) (n : Nat) : Prop where
  heap : w.heap[p]? = some (.cells (hv A B n).toArray 114)
  lenA : A.length = 8
  lenB : B.length = 64
  byte : Byt B
  size : n < 18446744073709551616
theorem HB.lt {w : World} {p : Nat} {A B : List Int} {n : Nat} (h : HB w p A B n) : p < w.heap.size := (Array.getElem?_eq_some_iff.1 h.heap).1
theorem HB.below {w w' : World} {p m : Nat} {A B : List Int} {n : Nat} (h : HB w p A B n) (hb : Below m w w') (hp : p < m) : HB w' p A B n :=
  ⟨(hb.block p hp).trans h.heap, h.lenA, h.lenB, h.byte, h.size⟩
theorem HB.word {w : World} {p : Nat} {A B : List Int} {n : Nat} (h : HB w p A B n) (j : Nat) (hj : j < 8) : w.cell? ⟨p, j, none⟩ = some (.int .u32 (A.getD j 0)) := by
  rw [cell_of_row w p j _ _ _ h.heap]
  have := h.lenA
  simp [hv, wv, List.getElem?_append, this, hj]
theorem HB.wordv {w : World} {p : Nat} {A B : List Int} {n : Nat} (h : HB w p A B n) (j : Nat) (v : Value) (hv' : (wv A)[j]? = some v) : w.cell? ⟨p, j, none⟩ = some v := by
  have h1 := (List.getElem?_eq_some_iff.1 hv').1
  rw [wv_length] at h1
  rw [wv_get A j h1] at hv'
  rw [h.word j (by have := h.lenA; omega)]
  exact hv'
theorem HB.byteAt {w : World} {p : Nat} {A B : List Int} {n : Nat} (h : HB w p A B n) (j : Nat) (hj : j < 64) : w.cell? ⟨p, 8 + j, none⟩ = some (.int .u8 (B.getD j 0)) := by
  rw [cell_of_row w p _ _ _ _ h.heap]
  have := h.lenA
  have := h.lenB
  have h2 : ¬ 8 + j < 8 := by omega
  simp [hv, wv, bv, List.getElem?_append, *]
theorem HB.count {w : World} {p : Nat} {A B : List Int} {n : Nat} (h : HB w p A B n) : w.cell? ⟨p, 72, none⟩ = some (.int .u64 n) := by
  rw [cell_of_row w p _ _ _ _ h.heap]
  have := h.lenA
  have := h.lenB
  simp [hv, wv, bv, *]
theorem HB.drewN {w : World} {p : Nat} {A B : List Int} {n : Nat} (h : HB w p A B n) (q : Nat) : HB (w.drewN q) p A B n := ⟨h.heap, h.lenA, h.lenB, h.byte, h.size⟩
theorem hv_setA (A B : List Int) (n : Nat) (j : Nat) (x : Int) (h : j < A.length) : (hv A B n).set j (.int .u32 x) = hv (A.set j x) B n := by
  have h1 : j < (wv A ++ bv B).length := by simp [wv]; omega
  have h2 : j < (wv A).length := by simp [wv]; omega
  unfold hv
  rw [List.set_append_left _ _ h1, List.set_append_left _ _ h2, wv_set]
theorem HB.setA {w : World} {p : Nat} {A B : List Int} {n : Nat} (h : HB w p A B n) (j : Nat) (x : Int) (hj : j < 8) : HB (w.setCell ⟨p, j, none⟩ (.int .u32 x)) p (A.set j x) B n := by
  refine ⟨?_, by simp [h.lenA], h.lenB, h.byte, h.size⟩
  have := Arr.set (show Arr w p _ (hv A B n) from h.heap) j (.int .u32 x)
  rw [hv_setA _ _ _ _ _ (by rw [h.lenA]; exact hj)] at this
  exact this
theorem HB.free {w : World} {p : Nat} {A B : List Int} {n : Nat} (h : HB w p A B n) (j : Nat) : w.frozen? ⟨p, j, none⟩ = false := frozen_of_row w p j _ _ h.heap
open Go.RowKit
def ad (x y : Int) : Int := IntKind.u32.wrap (x + y)
def part (X A : List Int) (i : Nat) : List Int := (List.range 8).map fun j => if j < i then ad (X.getD j 0) (A.getD j 0) else X.getD j 0
theorem g48 (w : World) : (isAgg 111).run Tryz.prog w = .ok true w := by
  simp [isAgg, run_underlying Tryz.underlying111 w]
theorem a48 : (Tryz.prog.info? 111).map (·.size) = some 8 := by kernel_rfl
theorem z48 : (Tryz.prog.info? 111).map (fun i => (i.zero, i.size)) = some (some (.agg (List.replicate 8 (Value.int .u32 0)).toArray), 8) := by kernel_rfl
theorem s42 : (Tryz.prog.info? 110).map (·.size) = some 1 := by kernel_rfl
theorem index48 (A : List Int) (k : Nat) (hA : A.length = 8) (hk : k < 8) (w : World) : (Instr.index 111 (.agg (wv A).toArray) (.int .i64 k)).run Tryz.prog w = .ok (.int .u32 (A.getD k 0)) w := by
  have h1 : k < A.length := by omega
  cases hq : Tryz.prog.info? 110 with
  | none => have := s42; rw [hq] at this; simp at this
  | some i =>
    have hs : i.size = 1 := by have := s42; rw [hq] at this; simpa using this
    simp [Instr.index, asIntOf, run_underlying Tryz.underlying111 w, sizeOf, typeInfo, hq, hs, Go.part, isAgg, wv, h1]
    omega
theorem part_len (X A : List Int) (i : Nat) : (part X A i).length = 8 := by simp [part]
theorem part_get (X A : List Int) (i j : Nat) (hj : j < 8) : (part X A i).getD j 0 = if j < i then ad (X.getD j 0) (A.getD j 0) else X.getD j 0 := by simp [part, List.getD, hj]
theorem part_zero (X A : List Int) (h : X.length = 8) : part X A 0 = X := by
  refine List.ext_getElem? fun j => ?_
  by_cases hj : j < 8
  · simp [part, hj, List.getD, h]
  · simp [part, hj, h]
theorem part_succ (X A : List Int) (i : Nat) : (part X A i).set i (ad (X.getD i 0) (A.getD i 0)) = part X A (i + 1) := by
  refine List.ext_getElem? fun j => ?_
  by_cases hj : j < 8
  · by_cases hij : i = j
    · subst hij
      simp [part, hj]
    · have h1 : (j < i + 1) = (j < i) := by simp; omega
      simp [part, hj, hij, h1]
  · simp [part, hj]
set_option maxRecDepth 100000 in
set_option maxHeartbeats 1000000 in
theorem words_any (w : World) (p : Nat) (A B : List Int) (n : Nat) (hT : Tabs w) (h : HB w p A B n) :
    Calls Tryz.prog 68 #[.pointer (some ⟨p, 0, none⟩)] w fun e w' => e = .returned (.agg (wv (part H0 A 8)).toArray) ∧ Below w.heap.size w w' := by
  have h2 := hT.two
  have hp := h.lt
  go_enter Tryz.func68, Tryz.ntmps68
  go_wp2_with (first
    | (refine wpList_alloc_named rfl 2 rfl 111 rfl w.heap.size rfl _ 8 z48 ?_; intro w1 a1 s1 g1; have B1 : Below w.heap.size w w1 := (Below.refl _ w).grown g1 (Nat.le_refl _) (by simp); have T1 := hT.below B1 h2; clear g1)
    | (refine wpList_load_cells rfl 111 (Operand.global 1) rfl ⟨1, 0, none⟩ rfl (wv H0) (fun j v hv => by rw [add_at, Nat.zero_add]; exact T1.first j v hv) g48 a48 ?_)
    | (refine wpList_alloc_named rfl 3 rfl 111 rfl (w.heap.size + 1) s1 _ 8 z48 ?_; intro w2 a2 s2 g2; have B2 : Below w.heap.size w w2 := B1.grown g2 (by omega) (by simp); have A2 : Arr w2 w.heap.size 111 _ := Arr.grown a1 g2 (by simp); clear g2 B1 a1 s1 T1)
    | (refine wpList_store_named rfl 111 (Operand.tmp 3) _ rfl (w.heap.size + 1) (wv H0) rfl rfl 111 _ a2 _ s2 a48 rfl (wv_one _) ?_; intro w3 a3 s3 g3; have B3 : Below w.heap.size w w3 := B2.grown g3 (by omega) (by intro k hk; cases hk; omega); have A3 : Arr w3 w.heap.size 111 _ := Arr.grown A2 g3 (by simp); have h3 := h.below B3 hp; clear g3 B2 A2 a2 s2)
    | (refine wpList_load_cells rfl 111 (Operand.tmp 9) rfl ⟨p, 0, none⟩ rfl (wv A) (fun j v hv => by rw [add_at, Nat.zero_add]; exact h3.wordv j v hv) g48 (a48.trans (by rw [wv_length, h3.lenA])) ?_))
  go_loopw [11] (fun i wr => ∃ k : Nat, k ≤ 8 ∧ i = .int .i64 k ∧ Below w.heap.size w wr ∧ Arr wr w.heap.size 111 (List.replicate 8 (Value.int .u32 0)) ∧ Arr wr (w.heap.size + 1) 111 (wv (part H0 A k)) ∧ wr.heap.size = w.heap.size + 1 + 1) (fun i _ => 8 - (intOf i).toNat)
  case atStart => exact ⟨0, by omega, rfl, B3, A3, by rw [part_zero _ _ rfl]; exact a3, s3⟩
  case round =>
    obtain ⟨k, hk, rfl, B4, A4, a4, s4⟩ := hrel
    by_cases hlt : k < 8
    · have c1 := a4.cell k
      rw [wv_get _ k (by rw [part_len]; exact hlt), part_get _ _ _ _ hlt] at c1
      simp only [Nat.lt_irrefl, if_false] at c1
      have c2 := a4.free k
      have hi : (k : Int) < 8 := by omega
      have hx := index48 A k h.lenA hlt
      go_wp2
      go_roundw
      case rel =>
        refine ⟨k + 1, by omega, by go_num, B4.setCell (by show w.heap.size ≤ w.heap.size + 1; omega) _, A4.other _ _ (by show w.heap.size ≠ w.heap.size + 1; omega), ?_, by simpa using s4⟩
        have := a4.set k (.int .u32 (ad (H0.getD k 0) (A.getD k 0)))
        rw [wv_set, part_succ] at this
        exact this
      case measure => simp [intOf]; omega
    · obtain rfl : k = 8 := by omega
      go_wp2_with (first
        | (refine wpList_load_cells rfl 111 (Operand.tmp 3) rfl ⟨w.heap.size + 1, 0, none⟩ rfl (wv (part H0 A 8)) (fun j v hv => by rw [add_at, Nat.zero_add, a4.cell]; exact hv) g48 (a48.trans (by rw [wv_length, part_len])) ?_)
        | (refine wpList_store_named rfl 111 (Operand.tmp 2) _ rfl w.heap.size (wv (part H0 A 8)) rfl rfl 111 _ A4 _ s4 (a48.trans (by rw [wv_length, part_len])) (by rw [wv_length, part_len]; rfl) (wv_one _) ?_; intro w5 a5 s5 g5; have B5 : Below w.heap.size w w5 := B4.grown g5 (by omega) (by intro k hk; cases hk; omega); clear g5))
      refine bodyPost_ret (v := .agg (wv (part H0 A 8)).toArray) ?_ rfl ⟨rfl, B5⟩
      exact results_cells rfl _ w5 ⟨w.heap.size, 0, none⟩ rfl (wv (part H0 A 8)) (fun j v hv => by rw [add_at, Nat.zero_add, Arr.cell a5]; exact hv) (g48 w5) (a48.trans (by rw [wv_length, part_len]))
open Go.RowKit
def sh (x b : Int) : Int := bits .or .u32 (IntKind.u32.wrap (x * 256)) b
def be (B : List Int) (t : Nat) : Nat → Int
  | 0 => 0
  | j + 1 => sh (be B t j) (B.getD (4 * t + j) 0)
def xr (x y : Int) : Int := bits .xor .u32 x y
def s0 (x : Int) : Int := xr (xr (rl (-7) x) (rl (-18) x)) (x / 8)
def s1 (x : Int) : Int := xr (xr (rl (-17) x) (rl (-19) x)) (x / 1024)
def nxt (l : List Int) (t : Nat) : Int := ad (ad (ad (l.getD (t - 16) 0) (s0 (l.getD (t - 15) 0))) (l.getD (t - 7) 0)) (s1 (l.getD (t - 2) 0))
def W (B : List Int) : Nat → List Int
  | 0 => []
  | t + 1 => W B t ++ [if t < 16 then be B t 4 else nxt (W B t) t]
theorem W_len (B : List Int) (n : Nat) : (W B n).length = n := by induction n with
  | zero => rfl
  | succ n ih => simp [W, ih]
def arrW (B : List Int) (t : Nat) (x : Int) : List Int := W B t ++ x :: List.replicate (63 - t) 0
theorem arrW_len (B : List Int) (t : Nat) (x : Int) (h : t ≤ 63) : (arrW B t x).length = 64 := by simp [arrW, W_len]; omega
theorem arrW_at (B : List Int) (t : Nat) (x : Int) : (arrW B t x).getD t 0 = x := by simp [arrW, List.getD, W_len]
theorem arrW_set (B : List Int) (t : Nat) (x y : Int) : (arrW B t x).set t y = arrW B t y := by simp [arrW, W_len]
def fillW (B : List Int) (t : Nat) : List Int := W B t ++ List.replicate (64 - t) 0
theorem fillW_len (B : List Int) (t : Nat) (h : t ≤ 64) : (fillW B t).length = 64 := by simp [fillW, W_len]; omega
theorem fillW_arr (B : List Int) (t : Nat) (h : t < 64) : fillW B t = arrW B t 0 := by
  have e : 64 - t = (63 - t) + 1 := by omega
  simp only [arrW, fillW, e, List.replicate_succ]
theorem arrW_next (B : List Int) (t : Nat) (h : t < 64) : arrW B t (if t < 16 then be B t 4 else nxt (W B t) t) = fillW B (t + 1) := by
  have e : 63 - t = 64 - (t + 1) := by omega
  simp only [arrW, fillW, W, e, List.append_assoc, List.singleton_append]
theorem fillW_low (B : List Int) (t j : Nat) (h : j < t) : (fillW B t).getD j 0 = (W B t).getD j 0 := by simp [fillW, List.getD, W_len, List.getElem?_append, h]
theorem fillW_all (B : List Int) : fillW B 64 = W B 64 := by simp [fillW]
theorem g55 (w : World) : (isAgg 130).run Tryz.prog w = .ok true w := by
  simp [isAgg, run_underlying Tryz.underlying130 w]
theorem a55 : (Tryz.prog.info? 130).map (·.size) = some 64 := by kernel_rfl
theorem z55 : (Tryz.prog.info? 130).map (fun i => (i.zero, i.size)) = some (some (.agg (List.replicate 64 (Value.int .u32 0)).toArray), 64) := by kernel_rfl
theorem u49 : Tryz.prog.underlying 112 = some (.array (Tryz.prog.arrayLen 112) (Tryz.prog.elem 112)) := by kernel_rfl
theorem al49 : Tryz.prog.arrayLen 112 = 64 := by kernel_rfl
theorem el49 : Tryz.prog.elem 112 = 5 := by kernel_rfl
theorem size8 (w : World) : (sizeOf 5).run Tryz.prog w = .ok 1 w := by
  obtain ⟨i0, hi, hz0, hz1, hz2⟩ := info_parts u8info
  simp [sizeOf, typeInfo, hi, hz1]
theorem slice49 (kl : IntKind) (p o l h : Nat) (hl : l ≤ h) (hh : h ≤ 64) (h64 : l < 64) (L H : Int) (eL : L = l) (eH : H = h) (w : World) : (Instr.sliceAt 112 (.pointer (some ⟨p, o, none⟩)) (some (.int kl L)) (some (.int kl H)) none).run Tryz.prog w = .ok (.slice (some ⟨p, o + l, none⟩) (h - l) (64 - l)) w := by
  subst eL eH
  rw [run_sliceAt_array_lh w 112 ⟨p, o, none⟩ u49 kl kl l h (by omega) (by omega) (by rw [al49]; omega), el49, al49, size8]
  have e : ¬ 64 = l := by omega
  simp [slicedAt, add_at, e]
theorem slice49l (kl : IntKind) (p o l : Nat) (h64 : l < 64) (L : Int) (eL : L = l) (w : World) : (Instr.sliceAt 112 (.pointer (some ⟨p, o, none⟩)) (some (.int kl L)) none none).run Tryz.prog w = .ok (.slice (some ⟨p, o + l, none⟩) (64 - l) (64 - l)) w := by
  subst eL
  rw [run_sliceAt_array_l w 112 ⟨p, o, none⟩ u49 kl l (by omega) (by rw [al49]; omega), el49, al49, size8]
  have e : ¬ 64 = l := by omega
  simp [slicedAt, add_at, e]
theorem bel_drewN {n : Nat} {a w : World} (h : Below n a w) (q : Nat) : Below n a (w.drewN q) := by
  have e0 : (w.drewN q).heap = w.heap := by simp
  exact ⟨by rw [← h.os]; rfl, by rw [← h.tape]; rfl, by rw [← h.output]; rfl, by rw [e0]; exact h.size, fun k hk => by rw [e0]; exact h.block k hk⟩
set_option maxRecDepth 100000 in
set_option maxHeartbeats 1000000 in
theorem sched_any (w : World) (p : Nat) (A B : List Int) (n : Nat) (hT : Tabs w) (h : HB w p A B n) :
    Calls Tryz.prog 85 #[.pointer (some ⟨p, 0, none⟩)] w fun e w' => e = .returned (.agg (wv (W B 64)).toArray) ∧ Below w.heap.size w w' := by
  have h2 := hT.two
  have hp := h.lt
  go_enter Tryz.func85, Tryz.ntmps85
  go_wp2_with (first
    | (refine wpList_alloc_named rfl 2 rfl 130 rfl w.heap.size rfl _ 64 z55 ?_; intro w1 a1 s1 g1; have B1 : Below w.heap.size w w1 := (Below.refl _ w).grown g1 (Nat.le_refl _) (by simp); clear g1)
    | (refine wpList_alloc_named rfl 3 rfl 130 rfl (w.heap.size + 1) s1 _ 64 z55 ?_; intro w2 a2 s2 g2; have B2 : Below w.heap.size w w2 := B1.grown g2 (by omega) (by simp); have A2 : Arr w2 w.heap.size 130 _ := Arr.grown a1 g2 (by simp); clear g2 B1 a1 s1))
  go_loopw [12] (fun i wr => ∃ k : Nat, k ≤ 16 ∧ i = .int .i64 k ∧ Below w.heap.size w wr ∧ Arr wr w.heap.size 130 (List.replicate 64 (Value.int .u32 0)) ∧ Arr wr (w.heap.size + 1) 130 (wv (fillW B k)) ∧ wr.heap.size = w.heap.size + 1 + 1) (fun i _ => 16 - (intOf i).toNat)
  case atStart => exact ⟨0, by omega, rfl, B2, A2, a2, s2⟩
  case round =>
    obtain ⟨k, hk, rfl, B4, A4, a4, s4⟩ := hrel
    have h4 := h.below B4 hp
    clear a2 A2 B2 s2
    by_cases hlt : k < 16
    · have hi : (k : Int) < 16 := by omega
      have hsl := slice49 .i64 p 8 (4 * k) (4 * (k + 1)) (by omega) (by omega) (by omega) (4 * (k : Int)) (4 * ((k : Int) + 1)) (by omega) (by omega)
      rw [show 4 * (k + 1) - 4 * k = 4 by omega] at hsl
      go_wp2
      go_loopw [25] (fun i wr => ∃ j : Nat, j ≤ 4 ∧ i = .int .i64 j ∧ Below w.heap.size w wr ∧ Arr wr w.heap.size 130 (List.replicate 64 (Value.int .u32 0)) ∧ Arr wr (w.heap.size + 1) 130 (wv (arrW B k (be B k j))) ∧ wr.heap.size = w.heap.size + 1 + 1) (fun i _ => 4 - (intOf i).toNat)
      case atStart => exact ⟨0, by omega, rfl, B4, A4, by rw [fillW_arr _ _ (by omega)] at a4; exact a4, s4⟩
      case round =>
        obtain ⟨j, hj, rfl, B5, A5, a5, s5⟩ := hrel
        have h5 := h.below B5 hp
        clear a4 A4 B4 s4 h4
        by_cases hjt : j < 4
        · have hji : (j : Int) < 4 := by omega
          have c1 := a5.cell k
          rw [wv_get _ k (by rw [arrW_len _ _ _ (by omega)]; omega), arrW_at] at c1
          have c2 := a5.free k
          have c3 := h5.byteAt (4 * k + j) (by omega)
          rw [← Nat.add_assoc] at c3
          go_wp2
          go_roundw
          case rel =>
            refine ⟨j + 1, by omega, by go_num, B5.setCell (by show w.heap.size ≤ w.heap.size + 1; omega) _, A5.other _ _ (by show w.heap.size ≠ w.heap.size + 1; omega), ?_, by simpa using s5⟩
            have hb := h.byte.at (4 * k + j)
            have e : B[4 * k + j]?.getD 0 % 4294967296 = B[4 * k + j]?.getD 0 := by omega
            have := a5.set k (.int .u32 (be B k (j + 1)))
            rw [wv_set, arrW_set] at this
            rw [e]
            exact this
          case measure => simp [intOf]; omega
        · obtain rfl : j = 4 := by omega
          go_wp2
          go_roundw
          case rel =>
            refine ⟨k + 1, by omega, by go_num, B5, A5, ?_, s5⟩
            have e := arrW_next B k (by omega)
            rw [if_pos hlt] at e
            rw [← e]
            exact a5
          case measure => simp [intOf]; omega
    · have hge : (16 : Int) ≤ (k : Int) := by omega
      go_wp2
      go_loopw [7] (fun i wr => ∃ k : Nat, 16 ≤ k ∧ k ≤ 64 ∧ i = .int .i64 k ∧ Below w.heap.size w wr ∧ Arr wr w.heap.size 130 (List.replicate 64 (Value.int .u32 0)) ∧ Arr wr (w.heap.size + 1) 130 (wv (fillW B k)) ∧ wr.heap.size = w.heap.size + 1 + 1) (fun i _ => 64 - (intOf i).toNat)
      case atStart =>
        obtain rfl : k = 16 := by omega
        exact ⟨16, by omega, by omega, rfl, B4, A4, a4, s4⟩
      case round =>
        clear a4 A4 B4 s4 h4 hge hlt hk
        obtain ⟨k, hk16, hk, rfl, B5, A5, a5, s5⟩ := hrel
        by_cases hkt : k < 64
        · have hki : (k : Int) < 64 := by omega
          have cs : ∀ j, j < k → wr.cell? ⟨w.heap.size + 1, j, none⟩ = some (.int .u32 ((W B k).getD j 0)) := by
            intro j hj
            rw [a5.cell, wv_get _ _ (by rw [fillW_len _ _ (by omega)]; omega), fillW_low _ _ _ hj]
          have c15 := cs (k - 15) (by omega)
          have c2 := cs (k - 2) (by omega)
          have c16 := cs (k - 16) (by omega)
          have c7 := cs (k - 7) (by omega)
          have c0 := a5.cell k
          rw [wv_get _ _ (by rw [fillW_len _ _ (by omega)]; omega)] at c0
          have cf := a5.free k
          obtain ⟨x15, hx15⟩ : ∃ x, x = (W B k).getD (k - 15) 0 := ⟨_, rfl⟩
          obtain ⟨x2, hx2⟩ : ∃ x, x = (W B k).getD (k - 2) 0 := ⟨_, rfl⟩
          obtain ⟨x16, hx16⟩ : ∃ x, x = (W B k).getD (k - 16) 0 := ⟨_, rfl⟩
          obtain ⟨x7, hx7⟩ : ∃ x, x = (W B k).getD (k - 7) 0 := ⟨_, rfl⟩
          have HX : Hid (nxt (W B k) k = ad (ad (ad x16 (s0 x15)) x7) (s1 x2)) := by rw [hx15, hx2, hx16, hx7]; rfl
          rw [← hx15] at c15
          rw [← hx2] at c2
          rw [← hx16] at c16
          rw [← hx7] at c7
          clear hx15 hx2 hx16 hx7 cs
          have e15 : ((k : Int) - 15).toNat = k - 15 := by omega
          have e2 : ((k : Int) - 2).toNat = k - 2 := by omega
          have e16 : ((k : Int) - 16).toNat = k - 16 := by omega
          have e7 : ((k : Int) - 7).toNat = k - 7 := by omega
          have f15 : 0 ≤ ((k : Int) - 15) := by omega
          have f2 : 0 ≤ ((k : Int) - 2) := by omega
          have f16 : 0 ≤ ((k : Int) - 16) := by omega
          have f7 : 0 ≤ ((k : Int) - 7) := by omega
          have g15 : ((k : Int) - 15) < 64 := by omega
          have g2 : ((k : Int) - 2) < 64 := by omega
          have g16 : ((k : Int) - 16) < 64 := by omega
          have g7 : ((k : Int) - 7) < 64 := by omega
          go_wp2
          go_quiet (fail)
          go_wp2_with (go_at_call 86; refine (rot_at _ _ _ (by simp)).mono ?_; rintro e w' ⟨rfl, rfl⟩)
          clear f15 f2 g15 g2 e15 e2 c15 c2
          go_region
          all_goals go_wp2
          go_roundw
          case rel =>
            have e0 : ∀ q, (wr.drewN q).heap = wr.heap := fun q => by simp
            have a6 : Arr (wr.drewN (nq + 1)) (w.heap.size + 1) 130 (wv (fillW B k)) := by unfold Arr; rw [e0]; exact a5
            have A6 : Arr (wr.drewN (nq + 1)) w.heap.size 130 (List.replicate 64 (Value.int .u32 0)) := by unfold Arr; rw [e0]; exact A5
            refine ⟨k + 1, by omega, by omega, by go_num, (bel_drewN B5 _).setCell (by show w.heap.size ≤ w.heap.size + 1; omega) _, A6.other _ _ (by show w.heap.size ≠ w.heap.size + 1; omega), ?_, by simpa using s5⟩
            have a7 := a6.set k (.int .u32 (nxt (W B k) k))
            have e := arrW_next B k hkt
            rw [if_neg (by omega)] at e
            rw [wv_set, fillW_arr _ _ hkt, arrW_set, e] at a7
            rw [HX.out] at a7
            have e3 : ad (ad (ad x16 (s0 x15)) x7) (s1 x2) = (x16 + bits BinOp.xor IntKind.u32 (bits BinOp.xor IntKind.u32 (rl (-7) x15) (rl (-18) x15)) (x15 / 8) + x7 + bits BinOp.xor IntKind.u32 (bits BinOp.xor IntKind.u32 (rl (-17) x2) (rl (-19) x2)) (x2 / 1024)) % 4294967296 := by
              simp only [ad, IntKind.wrap_u32', s0, s1, xr]
              omega
            rw [e3] at a7
            exact a7
          case measure => simp [intOf]; omega
        · obtain rfl : k = 64 := by omega
          rw [fillW_all] at a5
          go_wp2_with (first
            | (refine wpList_load_cells rfl 130 (Operand.tmp 3) rfl ⟨w.heap.size + 1, 0, none⟩ rfl (wv (W B 64)) (fun j v hv => by rw [add_at, Nat.zero_add, a5.cell]; exact hv) g55 (a55.trans (by rw [wv_length, W_len])) ?_)
            | (refine wpList_store_named rfl 130 (Operand.tmp 2) _ rfl w.heap.size (wv (W B 64)) rfl rfl 130 _ A5 _ s5 (a55.trans (by rw [wv_length, W_len])) (by rw [wv_length, W_len]; rfl) (wv_one _) ?_; intro w6 a6 s6 g6; have B6 : Below w.heap.size w w6 := B5.grown g6 (by omega) (by intro k hk; cases hk; omega); clear g6))
          refine bodyPost_ret (v := .agg (wv (W B 64)).toArray) ?_ rfl ⟨rfl, B6⟩
          exact results_cells rfl _ w6 ⟨w.heap.size, 0, none⟩ rfl (wv (W B 64)) (fun j v hv => by rw [add_at, Nat.zero_add, Arr.cell a6]; exact hv) (g55 w6) (a55.trans (by rw [wv_length, W_len]))
end Go.Proofs.YtcgphdipfekccaaGreatDoor

/-
  Texts in one: PChg, CkCutM, CkRep, CkItems, CkCut, CkLayM, CkBelow.
-/
import Derived.Test.YtiabdcejibeciaaGreatDoorChunkCutsZ2
import Derived.Test.YtiabdcejibeciaaGreatDoorChunkCutsZ9
import Derived.Test.YtiabdcejibeciaaGreatDoorChunkCutsZ10
import Derived.Test.YtiabdcejibeciaaGreatDoorChunkCutsZ3
import Derived.Laws.CopyOwn
import Derived.Lib.MakeNoZero
import Derived.Test.YtiabdcejibeciaaGreatDoorChunkCutsZ0
import Derived.WalkLawsBesides
import Derived.Test.YtiabdcejibeciaaGreatDoorChunkCutsZ7
import Derived.RangeFuncCalls
import Derived.Test.YtiabdcejibeciaaGreatDoorChunkCutsZ5
namespace Go.Proofs.YtiabdcejibeciaaGreatDoor
open Go.RowKit

theorem kinfo : (Tryz.prog.info? 30).map (fun i => (i.zero, i.size, i.bytes)) = some (some (.slice none 0 0), 1, 24) := by kernel_rfl
theorem ninfo : (Tryz.prog.info? 55).map (fun i => (i.zero, i.size, i.bytes)) = some (some (.pointer none), 1, 8) := by kernel_rfl
theorem Apd.base {w : World} {b b' : Nat} {e : TypeId} {v : Value} {n : Nat} {vs : List Value} (h : Apd w b e v n vs) (hb : b' ≤ b) : Apd w b' e v n vs := by
  rcases h with h | h
  · exact .inl h
  · exact .inr (own_base h hb)
theorem ksize (w : World) : (sizeOf 30).run Tryz.prog w = .ok 1 w := size1 _ (by kernel_rfl) w
theorem nsize (w : World) : (sizeOf 55).run Tryz.prog w = .ok 1 w := size1 _ (by kernel_rfl) w

end Go.Proofs.YtiabdcejibeciaaGreatDoor

namespace Go.Proofs.YtiabdcejibeciaaGreatDoor
open Go.RowKit

/-- The blocks that hold some items. -/
def ILb (ao : Option Addr) (its : List IP) (x : Nat) : Prop := (∃ a, ao = some a ∧ 0 < its.length ∧ a.block = x) ∨ ∃ q ∈ its, q.blk x
theorem IL.keptB {w w' : World} {ao : Option Addr} {n cap : Nat} {its : List IP} (h : IL w ao n cap its) (hk : ∀ x, ILb ao its x → w'.heap[x]? = w.heap[x]?) : IL w' ao n cap its := by
  refine ⟨h.len, h.le, h.mx, h.nil, fun a ha i hi => ?_, fun q hq => (h.sl q hq).kept fun x hx => hk x (.inr ⟨q, hq, hx⟩)⟩
  obtain ⟨h1, h2⟩ := h.cell a ha i hi
  have hb : ∀ j, (a.add j).block = a.block := fun j => by unfold Addr.add; split <;> rfl
  have hx := hk a.block (.inl ⟨a, ha, by omega, rfl⟩)
  exact ⟨(World.cell?_of_block (a := a.add (i * 2)) (by rw [hb]; exact hx)).trans h1, (World.cell?_of_block (a := a.add (i * 2 + 1)) (by rw [hb]; exact hx)).trans h2⟩
theorem IL.blkLt {w : World} {ao : Option Addr} {n cap : Nat} {its : List IP} (h : IL w ao n cap its) {x : Nat} (hx : ILb ao its x) : x < w.heap.size := by
  rcases hx with ⟨a, ha, hp, rfl⟩ | ⟨q, hq, hx⟩
  · obtain ⟨h1, -⟩ := h.cell a ha 0 hp
    have hb : (a.add (0 * 2)).block = a.block := by unfold Addr.add; split <;> rfl
    have := World.block_lt_of_cell? _ _ h1
    rw [hb] at this
    exact this
  · exact (h.sl q hq).lt hx
/-- A block of one cell that is a slice holds none of them. -/
theorem IL.notBox {w : World} {ao : Option Addr} {n cap : Nat} {its : List IP} (h : IL w ao n cap its) {B : Nat} {so : Option Addr} {sn sc : Nat} {t : TypeId} (hB : w.heap[B]? = some (.cells #[.slice so sn sc] t)) {x : Nat} (hx : ILb ao its x) : x ≠ B := by
  rintro rfl
  rcases hx with ⟨a, ha, hp, rfl⟩ | ⟨q, hq, hx⟩
  · obtain ⟨h1, h2⟩ := h.cell a ha 0 hp
    obtain ⟨b, off, spot⟩ := a
    have hs : spot = none := by simpa [Addr.add] using World.cell?_spot h1
    subst hs
    rw [Addr.add_lit] at h2
    simp only at hB
    rw [cell_of_row w b (off + (0 * 2 + 1)) _ _ _ hB] at h2
    simp at h2
  · have key : ∀ r : Part, Sl w r.ao r.n r.cap r.xs → blkP r x → False := fun r hr ⟨a, ha, hn, e⟩ => by
      have h1 := hr.cell a ha 0 hn
      obtain ⟨b, off, spot⟩ := a
      have hs : spot = none := by simpa [Addr.add] using World.cell?_spot h1
      subst hs
      simp only at e
      subst e
      rw [Addr.add_lit, cell_of_row w b (off + 0) _ _ _ hB] at h1
      cases off with
      | zero => simp at h1
      | succ o => simp at h1
    rcases hx with hx | hx
    · exact key _ (h.sl q hq).1 hx
    · exact key _ (h.sl q hq).2 hx
/-- A part of the items. -/
theorem IL.part {w : World} {ao : Option Addr} {n cap : Nat} {its : List IP} (h : IL w ao n cap its) {i m : Nat} (hi : i + m ≤ n) (hm : 0 < m) : IL w (sA ao i) m m ((its.drop i).take m) := by
  have hl := h.len
  have hle := h.le
  have hmx := h.mx
  refine ⟨by rw [List.length_take, List.length_drop]; omega, Nat.le_refl _, by omega, fun e => ?_, fun b hb j hj => ?_, fun q hq => h.sl q (List.mem_of_mem_drop (List.mem_of_mem_take hq))⟩
  · unfold sA at e
    have := h.nil (by simpa using e)
    omega
  · simp only [List.length_take, List.length_drop] at hj
    unfold sA at hb
    cases ao with
    | none => simp at hb
    | some a =>
      have hb' : a.add (i * 2) = b := by simpa using hb
      have := h.cell a rfl (i + j) (by omega)
      rw [← hb', Addr.add_add, Addr.add_add, List.getElem_take, List.getElem_drop, ← Nat.add_mul, ← Nat.add_assoc, ← Nat.add_mul]
      exact this

theorem row_is {w : World} {base : Nat} {e : TypeId} {size : Nat} {v : Value} {n : Nat} {xs : List Value} (h : w.ownsRow base e size v n xs) : ∃ ao cap, v = .slice ao n cap := by
  rcases h.2 with ⟨rfl, e⟩ | ⟨g, cap, cur, rfl, _⟩
  · rw [e]
    exact ⟨none, 0, rfl⟩
  · exact ⟨_, cap, rfl⟩
/-- Chunks while they are cut: they are in the row v, of which block B holds the slice. -/
structure CtI (w0 w2 : World) (B : Nat) (ao : Option Addr) (its : List IP) (pre : List (List It)) (W : World) (v : Value) (qs : List Part) : Prop where
  bx : W.heap[B]? = some (.cells #[v] 33)
  own : W.ownsRow w2.heap.size 30 1 v qs.length (qs.map Part.val)
  xs : qs.map Part.xs = pre.map putCk
  sl : ∀ q ∈ qs, SlT W q
  kp : ∀ x, ILb ao its x → W.heap[x]? = w2.heap[x]?
  bel : Below w0.heap.size w0 W
  sz : w2.heap.size ≤ W.heap.size
theorem CtI.below {w0 w2 : World} {B : Nat} {ao : Option Addr} {its : List IP} {pre : List (List It)} {W W' : World} {v : Value} {qs : List Part} (h : CtI w0 w2 B ao its pre W v qs) (hb : Below W.heap.size W W') (hI : ∀ x, ILb ao its x → x < w2.heap.size) : CtI w0 w2 B ao its pre W' v qs :=
  ⟨(hb.block B (Array.getElem?_eq_some_iff.1 h.bx).1).trans h.bx, own_below h.own hb, h.xs, fun q hq => (h.sl q hq).kp (KpB.below hb), fun x hx => (hb.block x (by have := hI x hx; have := h.sz; omega)).trans (h.kp x hx), h.bel.trans (hb.mono h.bel.size), by have := hb.size; have := h.sz; omega⟩
/-- What is written that is no cells does not touch it. -/
theorem CtI.walk {w0 w2 : World} {B : Nat} {ao : Option Addr} {its : List IP} {pre : List (List It)} {W W' : World} {v : Value} {qs : List Part} {row : Option Nat} (h : CtI w0 w2 B ao its pre W v qs) (hg : W.grownBy W' row) (hr : ∀ r, row = some r → w2.heap.size ≤ r ∧ ∃ o : Obj, W.heap[r]? = some o ∧ o.isCells = false) (hI : ∀ x, ILb ao its x → x < w2.heap.size) (h02 : w0.heap.size ≤ w2.heap.size) : CtI w0 w2 B ao its pre W' v qs := by
  have cellsKept : ∀ (b : Nat) (c : Array Value) (t : TypeId) (u : Nat × Nat), W.heap[b]? = some (.cells c t u) → W'.heap[b]? = W.heap[b]? := fun b c t u hb => by
    refine hg.block b (Array.getElem?_eq_some_iff.1 hb).1 fun e => ?_
    obtain ⟨-, o, ho, hc⟩ := hr b e.symm
    rw [hb] at ho
    rw [← Option.some.inj ho] at hc
    simp [Obj.isCells] at hc
  refine ⟨(cellsKept B _ _ _ h.bx).trans h.bx, own_kept h.own fun g hgv => ?_, h.xs, fun q hq => (h.sl q hq).kp fun b cur hb => (cellsKept b _ _ _ hb).trans hb, fun x hx => ?_, ?_, by have := hg.size; have := h.sz; omega⟩
  · rcases h.own.2 with ⟨e, -⟩ | ⟨g', cap, cur, e, -, hh, -⟩
    · rw [e] at hgv
      simp [Value.ownBlock] at hgv
    · rw [e] at hgv
      obtain rfl : g' = g := by simpa [Value.ownBlock] using hgv
      exact cellsKept g' _ _ _ hh
  · have hx2 := hI x hx
    refine (hg.block x (by have := h.sz; omega) fun e => ?_).trans (h.kp x hx)
    have := (hr x e.symm).1
    omega
  · refine h.bel.trans ⟨hg.os, hg.tape, hg.output, hg.size, fun i hi => hg.block i (by have := h.bel.size; omega) fun e => ?_⟩
    have := (hr i e.symm).1
    omega
/-- One chunk more. -/
theorem CtI.step {w0 w2 : World} {B : Nat} {ao : Option Addr} {its : List IP} {pre : List (List It)} {W W2 : World} {v : Value} {qs : List Part} {q : Part} {x : List It} {g : Nat} (h : CtI w0 w2 B ao its pre W v qs) (hI : ∀ x, ILb ao its x → x < w2.heap.size ∧ x ≠ B) (hB : w0.heap.size ≤ B) (hB2 : B < w2.heap.size)
    (bW2 : Below W.heap.size W W2) (hq2 : SlT W2 q) (hx : q.xs = putCk x) (hxc : W2.heap[g]? = some (.cells #[q.val] 30)) (hn : qs.length ≤ 1000000) (ty : TypeId) (c : Nat) :
    ∃ v' W3, (Builtin.append_ #[33, 33] ty #[v, .slice (some ⟨g, 0, none⟩) 1 c]).run Tryz.prog W2 = .ok v' W3 ∧ (∃ u, W3.cell? ⟨B, 0, none⟩ = some u) ∧ W3.frozen? ⟨B, 0, none⟩ = false ∧
      CtI w0 w2 B ao its (pre ++ [x]) (W3.setCell ⟨B, 0, none⟩ v') v' (qs ++ [q]) ∧ KeepsOthers W (W3.setCell ⟨B, 0, none⟩ v') ∧ ∀ y, y < w2.heap.size → y ≠ B → (W3.setCell ⟨B, 0, none⟩ v').heap[y]? = W.heap[y]? := by
  have hI1 : ∀ x, ILb ao its x → x < w2.heap.size := fun x hx => (hI x hx).1
  have k2 := h.below bW2 hI1
  obtain ⟨i0, hi, hz0, hz1, hz2⟩ := info_parts kinfo
  have hs2 := k2.sz
  obtain ⟨v', W3, hrun, own3, g3, -⟩ := run_append_own2 (P := Tryz.prog) W2 w2.heap.size 33 ty 30 i0 _ 1 24 Tryz.underlying33 hi hz0 hz1 hz2 rfl (by decide) v qs.length (qs.map Part.val) k2.own ⟨g, 0, none⟩ 1 c [q.val] rfl
    (fun j u hu => by
      rw [Addr.add_lit, Nat.zero_add, cell_of_row W2 g j _ _ _ hxc]
      simpa using hu) (fun u hu => by
      rw [List.mem_singleton.1 hu]
      rfl) (by unfold maxLen; omega) (by omega) hs2
  have A2 : Arr W2 B 33 [v] := k2.bx
  have hne := arr_not_row A2 (by decide) k2.own
  have A3 : Arr W3 B 33 [v] := A2.grown g3 (fun e => hne e.symm)
  have hW2 : W.heap.size ≤ W2.heap.size := bW2.size
  have rowge : ∀ g, v.ownBlock = some g → w2.heap.size ≤ g := fun g hg => (k2.own.lt g hg).1
  have kpb : KpB W2 (W3.setCell ⟨B, 0, none⟩ v') := (KpB.row k2.own (by decide) g3).trans (KpB.set A3 (by decide) 0 v')
  have far : ∀ y, y < w2.heap.size → y ≠ B → (W3.setCell ⟨B, 0, none⟩ v').heap[y]? = W2.heap[y]? := fun y hy hyB => by
    refine (heap_setCell_other W3 ⟨B, 0, none⟩ y v' hyB).trans (g3.block y (by omega) fun e => ?_)
    have := rowge y e.symm
    omega
  have hsz := h.sz
  refine ⟨v', W3, hrun, ⟨v, A3.cell 0⟩, ?_, ⟨A3.set 0 v', ?_, ?_, ?_, ?_, ?_, ?_⟩, ⟨?_, ?_⟩, fun y hy hyB => (far y hy hyB).trans (bW2.block y (by omega))⟩
  · exact frozen_of_row W3 B 0 _ _ A3
  · rw [List.length_append, List.map_append]
    exact own3.kept (row := some B) (grown_set (a := W3) (b := W3) ⟨rfl, rfl, rfl, Nat.le_refl _, fun _ _ _ => rfl⟩ 0 v') (.inr (arr_not_row A3 (by decide) own3))
  · rw [List.map_append, List.map_append, h.xs, List.map_singleton, List.map_singleton, hx]
  · intro r hr
    rcases List.mem_append.1 hr with hr | hr
    · exact (k2.sl r hr).kp kpb
    · rw [List.mem_singleton.1 hr]
      exact hq2.kp kpb
  · exact fun y hy => (far y (hI y hy).1 (hI y hy).2).trans (k2.kp y hy)
  · exact k2.bel.trans (((Below.refl w0.heap.size W2).grown g3 (by omega) (fun k hk => by have := rowge k hk; omega)).setCell hB v')
  · have := g3.size
    simp only [World.size_setCell]
    omega
  · have := g3.size
    simp only [World.size_setCell]
    omega
  · intro k o hk ho
    have hkl := (Array.getElem?_eq_some_iff.1 hk).1
    have hk2 : W2.heap[k]? = some o := (bW2.block k hkl).trans hk
    have hkB : k ≠ B := by
      rintro rfl
      rw [show W2.heap[k]? = _ from A2] at hk2
      rw [← Option.some.inj hk2] at ho
      simp [Obj.isCells] at ho
    refine (heap_setCell_other W3 ⟨B, 0, none⟩ k v' hkB).trans ((g3.block k (by omega) fun e => ?_).trans hk2)
    rcases k2.own.2 with ⟨e', -⟩ | ⟨g', cap, cur, e', -, hh, -⟩
    · rw [e'] at e
      simp [Value.ownBlock] at e
    · rw [e'] at e
      obtain rfl : k = g' := by simpa [Value.ownBlock] using e
      rw [hh] at hk2
      rw [← Option.some.inj hk2] at ho
      simp [Obj.isCells] at ho
end Go.Proofs.YtiabdcejibeciaaGreatDoor

namespace Go
theorem exec_copy {P : Program} {a : Act} {w w' : World} {o : Oper} {d s : Operand} {t t' ty : TypeId} {v u v' : Value} (ho : o.op = .call { callee := .builtin .copy, args := #[d, s], argTypes := #[t, t'] }) (hd : a.eval d = v) (hs : a.eval s = u) (ht : o.type = ty)
    (hr : (Builtin.copy_ #[t, t'] ty #[v, u]).run P w = .ok v' w') : (execOp a.eval o).run P w = .ok (.value v') w' := by
  unfold execOp
  simp only [ho, ht, resolve, invoke, builtin, Sem.run_bind, Sem.run_pure, Result.andThen_ok, List.map_toArray, List.map_cons, List.map_nil, hd, hs, hr]
end Go
namespace Go.Proofs.YtiabdcejibeciaaGreatDoor
open Go.RowKit

set_option maxRecDepth 100000 in
set_option maxHeartbeats 4000000 in
theorem pmul64_257 (w : World) : Calls Tryz.prog 104 #[.int .u64 1, .int .u64 257] w fun e w' => e = .returned (.tuple #[.int .u64 0, .int .u64 257]) ∧ w' = w := by
  go_enter Tryz.func104, Tryz.ntmps104
  go_wp2
  go_ret2
  exact ⟨rfl, rfl⟩

set_option maxRecDepth 100000 in
set_option maxHeartbeats 4000000 in
theorem pmul_257 (w : World) : Calls Tryz.prog 85 #[.int .u64 1, .int .u64 257] w fun e w' => e = .returned (.tuple #[.int .u64 0, .int .u64 257]) ∧ w' = w := by
  go_enter Tryz.func85, Tryz.ntmps85
  go_wp2_with fail
  refine (pmul64_257 w).mono ?_
  rintro e w' ⟨rfl, hw⟩
  obtain rfl := hw.symm
  go_wp2
  go_ret2
  exact ⟨rfl, rfl⟩

set_option maxRecDepth 100000 in
set_option maxHeartbeats 4000000 in
theorem prep257_any (w : World) (ad : Addr) (h : Sl w (some ad) 1 1 [255]) :
    Calls Tryz.prog 55 #[.slice (some ad) 1 1, .int .i64 257] w fun e w' => ∃ ao n c, e = .returned (.slice ao n c) ∧ Sl w' ao n c (List.replicate 257 255) ∧ Below w.heap.size w w' := by
  obtain ⟨cs, hrunM, hle, _⟩ := Lib.run_makeNoZero (P := Tryz.prog) w #[3] 30 5 Tryz.underlying30 257 (by omega)
  have hcall : (callFunc 86 #[.int .i64 257]).run Tryz.prog w = .ok (.value (.slice (some ⟨w.heap.size, 0, none⟩) 257 cs.size)) ((w.alloc (.cells cs 5)).drewN 2) := by
    rw [run_callFunc_extern Tryz.func86 (by kernel_rfl) (by kernel_rfl) (by kernel_rfl) (e := Extern.BytealgMakeNoZero.makeNoZero #[3] #[30]) (by kernel_rfl)]
    have e257 : ((257 : Nat) : Int) = 257 := rfl
    rw [e257] at hrunM
    rw [hrunM]
    rfl
  clear hrunM
  have hle2 : (257 : Int) ≤ (cs.size : Int) := by omega
  go_enter Tryz.func55, Tryz.ntmps55
  go_wp2_with fail
  refine (pmul_257 w).mono ?_
  rintro e w' ⟨rfl, hw⟩
  obtain rfl := hw.symm
  have e0 : ((w.alloc (.cells cs 5)).drewN 2).heap[w.heap.size]? = some (.cells cs.toList.toArray 5 (0, 0)) := by simpa using heap_alloc_new w (.cells cs 5)
  have B0 : Below w.heap.size w ((w.alloc (.cells cs 5)).drewN 2) := belN ((Below.refl _ w).alloc (Nat.le_refl _) _) 2
  have c0 : ((w.alloc (.cells cs 5)).drewN 2).cell? (ad.add 0) = some (.int .u8 255) := by
    have := (h.below B0).cell ad rfl 0 (by omega)
    simpa using this
  obtain ⟨w3, hr, H3, B3⟩ : ∃ w3, (Builtin.copy_ #[30, 30] 3 #[.slice (some ⟨w.heap.size, 0, none⟩) 257 257, .slice (some ad) 1 1]).run Tryz.prog ((w.alloc (.cells cs 5)).drewN 2) = .ok (.int .i64 1) w3 ∧ Hid (w3.heap[w.heap.size]? = some (.cells (splice cs.toList 0 [Value.int .u8 255]).toArray 5 (0, 0))) ∧ Below w.heap.size w w3 := by
    have hrun := run_copy_row (P := Tryz.prog) ((w.alloc (.cells cs 5)).drewN 2) 30 30 3 5 w.heap.size 0 257 257 ad 1 1 cs.toList.toArray 5 [.int .u8 255] Tryz.underlying30 (by kernel_rfl) e0 rfl (fun j v hj => by
      cases j with
      | zero => simp at hj; subst hj; exact c0
      | succ j => simp at hj) (by simp; omega) (by intro v hv; rw [List.mem_singleton.1 hv]; rfl)
    exact ⟨_, hrun, (show _ = _ by simpa [splice] using setRow_heap _ w.heap.size _ _ 5 _ e0), below_setRow B0 (Nat.le_refl _) _⟩
  have L3 : (splice cs.toList 0 [Value.int .u8 255]).length = cs.size := by rw [length_splice _ _ _ (by simp; omega)]; simp
  have T3 : (splice cs.toList 0 [Value.int .u8 255]).take 1 = List.replicate 1 (.int .u8 255) := by simp [splice]
  obtain ⟨cur3, hcur⟩ : ∃ c, c = splice cs.toList 0 [Value.int .u8 255] := ⟨_, rfl⟩
  rw [← hcur] at H3 L3 T3
  have HT3 : Hid (cur3.take 1 = List.replicate 1 (.int .u8 255)) := T3
  clear hcur T3 c0 e0 B0
  obtain ⟨N, hN⟩ : ∃ N, N = w.heap.size := ⟨_, rfl⟩
  go_wp2_with fail
  clear hr hcall
  rw [← hN] at H3 B3 ⊢
  have HN : Hid (N = w.heap.size) := hN
  clear hN
  go_loopw [10, 11] (fun i _ wr => ∃ (j : Nat) (cur : List Value), 1 ≤ j ∧ j ≤ 257 ∧ i = .int .i64 j ∧ Hid (wr.heap[N]? = some (.cells cur.toArray 5 (0, 0))) ∧ 257 ≤ cur.length ∧ Hid (cur.take j = List.replicate j (.int .u8 255)) ∧ Below N w wr) (fun i _ _ => 257 - (intOf i).toNat)
  case atStart => exact ⟨1, cur3, by omega, by omega, rfl, H3, by omega, HT3, B3⟩
  case round =>
    clear H3 HT3 B3
    obtain ⟨j, cur, h1, h257, rfl, H, hl, T, B⟩ := hrel
    by_cases l : j < 257
    · have il : (j : Int) < 257 := by omega
      have il2 : (j : Int) ≤ 257 := by omega
      obtain ⟨m, hm⟩ : ∃ m, m = Nat.min j (257 - j) := ⟨_, rfl⟩
      have hm1 : 1 ≤ m ∧ m ≤ j ∧ j + m ≤ 257 := by rw [hm]; simp only [Nat.min_def]; split <;> omega
      have HH := H.out
      have HT := T.out
      have q : ∀ i, i < j → wr.drew.cell? ⟨N, i, none⟩ = some (.int .u8 255) := fun i hi => by
        have e : wr.drew.heap[N]? = some (.cells cur.toArray 5 (0, 0)) := HH
        rw [cell_of_row wr.drew N i _ _ _ e]
        have h2 : (cur.take j)[i]? = (List.replicate j (Value.int .u8 255))[i]? := by rw [HT]
        rw [List.getElem?_take_of_lt hi] at h2
        simpa [hi] using h2
      obtain ⟨w4, hr, H4, B4⟩ : ∃ w4, (Builtin.copy_ #[30, 30] 3 #[.slice (some ⟨N, j, none⟩) (257 - j) (257 - j), .slice (some ⟨N, 0, none⟩) j 257]).run Tryz.prog wr.drew = .ok (.int .i64 m) w4 ∧ Hid (w4.heap[N]? = some (.cells (splice cur j (List.replicate m (Value.int .u8 255))).toArray 5 (0, 0))) ∧ Below N w w4 := by
        have e : wr.drew.heap[N]? = some (.cells cur.toArray 5 (0, 0)) := HH
        have hrun := run_copy_row (P := Tryz.prog) wr.drew 30 30 3 5 N j (257 - j) (257 - j) ⟨N, 0, none⟩ j 257 cur.toArray 5 (List.replicate m (Value.int .u8 255)) Tryz.underlying30 (by kernel_rfl) e (by rw [List.length_replicate]; exact hm) (fun i v hi => by
          have hi2 : i < m := by
            have := (List.getElem?_eq_some_iff.1 hi).1
            simpa using this
          have hv : v = .int .u8 255 := by simpa [hi2] using hi.symm
          rw [hv, Addr.add_lit, Nat.zero_add]
          exact q i (by omega)) (by simp; omega) (by intro v hv; rw [List.eq_of_mem_replicate hv]; rfl)
        rw [List.length_replicate] at hrun
        exact ⟨_, hrun, (show _ = _ by simpa [splice] using setRow_heap _ N _ _ 5 _ e), below_setRow B.drew (Nat.le_refl _) _⟩
      have L4 : 257 ≤ (splice cur j (List.replicate m (Value.int .u8 255))).length := by rw [length_splice _ _ _ (by simp; omega)]; omega
      have T4 : Hid ((splice cur j (List.replicate m (Value.int .u8 255))).take (j + m) = List.replicate (j + m) (.int .u8 255)) := by
        show _ = _
        have hjl : (cur.take j).length = j := by rw [List.length_take]; omega
        unfold splice
        rw [HT, ← List.append_assoc, List.replicate_append_replicate, List.take_append_of_le_length (by simp), List.take_of_length_le (by simp)]
      obtain ⟨cur4, hc4⟩ : ∃ c, c = splice cur j (List.replicate m (Value.int .u8 255)) := ⟨_, rfl⟩
      rw [← hc4] at H4 L4 T4
      clear hc4 H T q HH HT hm
      have e1 : ((j : Int) + (m : Int)) ≤ 257 := by omega
      have e0 : (0 : Int) ≤ (j : Int) := by omega
      have z1 : ¬ 257 = j := by omega
      have z2 : ¬ j = 0 := by omega
      go_wp2_with fail
      refine wp_region_noPanic ?_
      refine wp_region_held_drew (S := fun _ => True) (by kernel_rfl) trivial (fun _ => ?_)
      refine hr_take 0 (some 67) (.int .i64 j) rfl rfl (by kernel_rfl) (by kernel_rfl) (by kernel_rfl) rfl (fun W _ => by go_simp) trivial ?_
      simp only [Act.put, List.setIfInBounds_toArray, List.set_cons_zero, List.set_cons_succ]
      refine hr_take 1 (some 68) (.slice (some ⟨N, 0, none⟩) 257 257) rfl rfl (by kernel_rfl) (by kernel_rfl) (by kernel_rfl) rfl (fun W _ => by go_simp) trivial ?_
      simp only [Act.put, List.setIfInBounds_toArray, List.set_cons_zero, List.set_cons_succ]
      refine hr_take 2 (some 69) (.int .i64 j) rfl rfl (by kernel_rfl) (by kernel_rfl) (by kernel_rfl) rfl (fun W _ => by go_simp) trivial ?_
      simp only [Act.put, List.setIfInBounds_toArray, List.set_cons_zero, List.set_cons_succ]
      refine hr_take 3 (some 70) (.slice (some ⟨N, j, none⟩) (257 - j) (257 - j)) rfl rfl (by kernel_rfl) (by kernel_rfl) (by kernel_rfl) rfl (fun W _ => by go_simp) trivial ?_
      simp only [Act.put, List.setIfInBounds_toArray, List.set_cons_zero, List.set_cons_succ]
      refine hr_take 4 (some 71) (.slice (some ⟨N, 0, none⟩) 257 257) rfl rfl (by kernel_rfl) (by kernel_rfl) (by kernel_rfl) rfl (fun W _ => by go_simp) trivial ?_
      simp only [Act.put, List.setIfInBounds_toArray, List.set_cons_zero, List.set_cons_succ]
      refine hr_take 5 (some 72) (.int .i64 j) rfl rfl (by kernel_rfl) (by kernel_rfl) (by kernel_rfl) rfl (fun W _ => by go_simp) trivial ?_
      simp only [Act.put, List.setIfInBounds_toArray, List.set_cons_zero, List.set_cons_succ]
      refine hr_take 6 (some 73) (.slice (some ⟨N, 0, none⟩) j 257) rfl rfl (by kernel_rfl) (by kernel_rfl) (by kernel_rfl) rfl (fun W _ => by go_simp) trivial ?_
      simp only [Act.put, List.setIfInBounds_toArray, List.set_cons_zero, List.set_cons_succ]
      refine hr_do 7 (some 74) (.int .i64 m) rfl rfl (by kernel_rfl) rfl (w' := w4) (exec_copy rfl rfl rfl rfl hr) trivial ?_
      simp only [Act.put, List.setIfInBounds_toArray, List.set_cons_zero, List.set_cons_succ]
      refine hr_take 8 (some 75) (.int .i64 ((j + m : Nat) : Int)) rfl rfl (by kernel_rfl) (by kernel_rfl) (by kernel_rfl) rfl (fun W _ => by (go_simp; rw [IntKind.wrap_i64]; omega)) trivial ?_
      simp only [Act.put, List.setIfInBounds_toArray, List.set_cons_zero, List.set_cons_succ]
      refine hr_take 9 (some 10) (.int .i64 ((j + m : Nat) : Int)) rfl rfl (by kernel_rfl) (by kernel_rfl) (by kernel_rfl) rfl (fun W _ => by go_simp) trivial ?_
      simp only [Act.put, List.setIfInBounds_toArray, List.set_cons_zero, List.set_cons_succ]
      refine wpAnyH_done (by kernel_rfl) ?_ _
      refine NoPanic.normal ?_
      go_wp2
      go_roundw
      case rel => exact ⟨j + m, cur4, by omega, by omega, rfl, H4, L4, T4, B4⟩
      case measure => simp [intOf]; omega
    · obtain rfl : j = 257 := by omega
      have S : Sl wr (some ⟨N, 0, none⟩) 257 257 (List.replicate 257 255) := by
        refine ⟨by simp, Nat.le_refl _, by decide, fun h => by simp at h, fun a ha i hi => ?_, fun x hx => by have := List.eq_of_mem_replicate hx; omega⟩
        obtain rfl := Option.some.inj ha
        rw [Addr.add_lit, Nat.zero_add, cell_of_row wr N i _ _ _ H.out]
        have h2 : (cur.take 257)[i]? = (List.replicate 257 (Value.int .u8 255))[i]? := by rw [T.out]
        have h3 : (List.replicate 257 (255 : Int)).getD i 0 = 255 := by rw [List.getD, List.getElem?_replicate, if_pos hi]; rfl
        rw [List.getElem?_take_of_lt hi, List.getElem?_replicate, if_pos hi] at h2
        rw [h3, ← h2]
        simp
      clear H T
      go_wp2
      go_ret
      exact ⟨_, _, _, rfl, S, by rw [← HN.out]; exact B⟩
end Go.Proofs.YtiabdcejibeciaaGreatDoor

namespace Go.Proofs.YtiabdcejibeciaaGreatDoor
open Go.RowKit

/-- A key stands below a longer run of 255s. -/
theorem cmpL_top : ∀ (k : List Int) (n : Nat), Byt k → k.length < n → cmpL k (List.replicate n 255) < 0
  | [], n, _, h => by
    cases n with
    | zero => simp at h
    | succ n => simp [List.replicate_succ, cmpL]
  | x :: k, n, hb, h => by
    cases n with
    | zero => simp at h
    | succ n =>
      have hx := hb x (List.mem_cons_self ..)
      have ih := cmpL_top k n (fun y hy => hb y (List.mem_cons_of_mem _ hy)) (by simpa using h)
      rw [List.replicate_succ]
      simp only [cmpL]
      by_cases e : x = 255
      · rw [if_pos e]
        exact ih
      · rw [if_neg e, if_pos (by omega)]
        omega
theorem btw_top {l : List It} (h : ∀ x ∈ l, Byt x.k ∧ x.k.length ≤ 256) : btw [] (List.replicate 257 255) l = l := by
  unfold btw ge
  have e : (l.filter fun x => decide (¬ cmpL x.k [] < 0)) = l := by
    refine List.filter_eq_self.2 fun x _ => decide_eq_true ?_
    cases x.k with
    | nil => simp [cmpL]
    | cons a b => simp [cmpL]
  rw [e]
  exact List.filter_eq_self.2 fun x hx => decide_eq_true (cmpL_top x.k 257 (h x hx).1 (by have := (h x hx).2; omega))

/-- All items are told, in new memory. -/
def AllPost (w : World) (l : List It) (e : Ending) (w' : World) : Prop := ∃ ao n cap ps, e = .returned (.slice ao n cap) ∧ IL w' ao n cap ps ∧ ps.map IP.it = l ∧ Below w.heap.size w w'

set_option maxHeartbeats 1000000 in
set_option maxRecDepth 100000 in
theorem itemsOf_any (w : World) (v : Value) (l : List It) (h : TT w v l) (hs : Srt l) (hl : l.length ≤ 50000) (hsz : ∀ x ∈ l, (Byt x.k ∧ x.k.length ≤ 256) ∧ x.v.length ≤ 1000000) :
    Calls Tryz.prog 29 #[v] w (AllPost w l) := by
  obtain ⟨W0, hW0⟩ : ∃ W, W = w.alloc (.cells #[.int .u8 255] 5) := ⟨_, rfl⟩
  have B0 : Below w.heap.size w W0 := by rw [hW0]; exact (Below.refl _ _).alloc (Nat.le_refl _) _
  have S0 : Sl W0 (some ⟨w.heap.size, 0, none⟩) 1 1 [255] := by rw [hW0]; exact Sl.one w 255 (by omega)
  have CR := prep257_any W0 ⟨w.heap.size, 0, none⟩ S0
  have h0 := h.below B0
  have HB : Hid (btw [] (List.replicate 257 255) l = l) := btw_top fun x hx => (hsz x hx).1
  have HSZ : Hid (∀ x ∈ l, x.k.length ≤ 1000000 ∧ x.v.length ≤ 1000000) := fun x hx => ⟨by have := (hsz x hx).1.2; omega, (hsz x hx).2⟩
  clear hsz h S0
  go_enter Tryz.func29, Tryz.ntmps29
  go_wp2_with fail
  rw [← hW0]
  clear hW0
  refine CR.mono ?_
  rintro e W1 ⟨ro, rn, rc, rfl, S1, C1⟩
  have h1 := h0.below C1
  have E1 := B0.trans (C1.mono B0.size)
  obtain ⟨top, htop⟩ : ∃ t, t = List.replicate 257 (255 : Int) := ⟨_, rfl⟩
  rw [← htop] at S1 HB
  have CI := titems_any W1 v l [] top none ro 0 0 rn rc 9223372036854775807 h1 hs (Sl.nothing W1) S1 hl HSZ.out
  clear htop CR h0 h1 S1 B0 C1
  go_wp2_with fail
  refine CI.mono ?_
  rintro e W2 ⟨ao, n, cap, ps, t, rfl, IL2, hm, -, C2⟩
  have E2 := E1.trans (C2.mono E1.size)
  have HM : Hid (ps.map IP.it = l) := by
    show _ = _
    rw [hm, HB.out, List.take_of_length_le (by omega)]
  clear CI hm E1 C2
  go_wp2
  go_ret
  exact ⟨_, _, _, ps, rfl, IL2, HM.out, E2⟩
end Go.Proofs.YtiabdcejibeciaaGreatDoor

namespace Go.Proofs.YtiabdcejibeciaaGreatDoor
open Go.RowKit Go.Shelf

attribute [local go_sem] Oper.semAt_some

/-- What Cut answers. -/
structure CutPost (w : World) (l : List It) (per : Int) (e : Ending) (w' : World) : Prop where
  bad : per < 1 ∨ 64 < per → e = .returned (.tuple #[.slice none 0 0, .int .i64 1])
  good : 1 ≤ per → per ≤ 64 → ∃ ao n cap qs, e = .returned (.tuple #[.slice ao n cap, .int .i64 0]) ∧ KL w' ao n cap qs ∧ qs.map Part.xs = (cuts per.toNat l).map putCk
  bel : Below w.heap.size w w'

set_option maxHeartbeats 1000000 in
set_option maxRecDepth 100000 in
theorem cut_bad (w : World) (v : Value) (l : List It) (per : Int) (hp : per < 1 ∨ 64 < per) : Calls Tryz.prog 9 #[v, .int .i64 per] w (CutPost w l per) := by
  rcases hp with hp | hp
  · go_enter Tryz.func9, Tryz.ntmps9
    go_wp2
    go_ret2
    exact ⟨fun _ => rfl, fun h => by omega, Below.refl _ _⟩
  · have hp1 : ¬ per < 1 := by omega
    go_enter Tryz.func9, Tryz.ntmps9
    go_wp2
    go_ret2
    exact ⟨fun _ => rfl, fun _ h => by omega, Below.refl _ _⟩

theorem heap_putObj_ne (W : World) {b k : Nat} (h : b ≠ k) (o : Obj) : (W.putObj b o).heap[k]? = W.heap[k]? := by
  simp [World.putObj, h]

set_option maxHeartbeats 4000000 in
set_option maxRecDepth 100000 in
theorem cut_in (w : World) (v : Value) (l : List It) (per : Nat) (hp0 : 0 < per) (hp1 : per ≤ 64) (h : TT w v l) (hs : Srt l) (hl : l.length ≤ 50000) (hsz : ∀ x ∈ l, (Byt x.k ∧ x.k.length ≤ 256) ∧ Byt x.v ∧ x.v.length ≤ 1000000) :
    CallsIn Fence.wide 3 Tryz.prog 9 #[v, .int .i64 per] w (CutPost w l per) := by
  have hpa : ¬ (per : Int) < 1 := by omega
  have hpb : ¬ (64 : Int) < (per : Int) := by omega
  obtain ⟨w0, hw0⟩ : ∃ W, W = w.alloc (.cells #[.slice none 0 0] 33) := ⟨_, rfl⟩
  have B0 : Below w.heap.size w w0 := by rw [hw0]; exact (Below.refl _ _).alloc (Nat.le_refl _) _
  have A0 : w0.heap[w.heap.size]? = some (.cells #[.slice none 0 0] 33) := by rw [hw0]; exact heap_alloc_new w _
  have CI := itemsOf_any w0 v l (h.below B0) hs hl (fun x hx => ⟨(hsz x hx).1, (hsz x hx).2.2⟩)
  have HSZ : Hid (∀ x ∈ l, (Byt x.k ∧ x.k.length ≤ 256) ∧ Byt x.v ∧ x.v.length ≤ 1000000) := hsz
  clear h hs hsz
  refine callsIn_of_wp_marks Tryz.func9 rfl trivial ?_ rfl
  simp only [Tryz.ntmps9, List.size_toArray, List.length_cons, List.length_nil, Nat.reduceAdd, Nat.reduceSub, Array.replicate_succ, Array.replicate_zero, List.push_toArray, List.append_toArray, List.nil_append, List.cons_append]
  gi_wp2_with fail
  rw [← hw0]
  refine ⟨trivial, (callsIn_wide.2 CI).mono ?_⟩
  rintro e w1 ⟨ao, m, cap, its, rfl, hIL, hits, B1⟩
  clear CI hw0
  have A1 : w1.heap[w.heap.size]? = some (.cells #[.slice none 0 0] 33) := (B1.block _ (Array.getElem?_eq_some_iff.1 A0).1).trans A0
  have hBlt : w.heap.size < w1.heap.size := (Array.getElem?_eq_some_iff.1 A1).1
  have E1 : Below w.heap.size w w1 := B0.trans (B1.mono B0.size)
  have hil1 := Nat.le_of_eq hIL.len
  have hil2 := Nat.le_of_eq hIL.len.symm
  have hml : m ≤ 50000 := by
    have := congrArg List.length hits
    rw [List.length_map] at this
    omega
  have HIT : Hid (its.map IP.it = l) := hits
  have HQ : Hid (∀ q ∈ its, (q.k.n ≤ 256 ∧ Byt q.k.xs) ∧ q.v.n ≤ 1000000 ∧ Byt q.v.xs) := fun q hq => by
    have hx := HSZ.out q.it (by rw [← hits]; exact List.mem_map.2 ⟨q, hq, rfl⟩)
    have h1 := (hIL.sl q hq).1.len
    have h2 := (hIL.sl q hq).2.len
    exact ⟨⟨by have : q.k.xs.length ≤ 256 := hx.1.2; omega, hx.1.1⟩, by have : q.v.xs.length ≤ 1000000 := hx.2.2; omega, hx.2.1⟩
  clear hits HSZ B0 B1 A0
  gi_wp2_with fail
  refine ⟨trivial, (chunk_in Fence.wide 2 trivial rfl ao m cap per hp0 w1).mono ?_⟩
  rintro e w2 ⟨rfl, hw2⟩
  have bA : Below w1.heap.size w1 w2 := by rw [hw2]; exact ((Below.refl _ w1).alloc (Nat.le_refl _) _).alloc (by simp) _
  have hsz2 : w2.heap.size = w1.heap.size + 2 := by rw [hw2]; simp
  have cS : w2.cell? ⟨w1.heap.size, 0, none⟩ = some (.slice ao m cap) := by
    rw [hw2, World.cell?_alloc_lt _ _ _ (by simp)]
    exact cell_of_row _ _ 0 _ _ _ (heap_alloc_new w1 _)
  have cN : w2.cell? ⟨w1.heap.size + 1, 0, none⟩ = some (.int .i64 per) := by
    have := heap_alloc_new (w1.alloc (.cells #[.slice ao m cap] 22)) (.cells #[.int .i64 per] 3)
    rw [World.size_alloc, ← hw2] at this
    exact cell_of_row _ _ 0 _ _ _ this
  have A2 : w2.heap[w.heap.size]? = some (.cells #[.slice none 0 0] 33) := (bA.block _ hBlt).trans A1
  have IL2 := hIL.below bA
  have E2 := E1.trans (bA.mono E1.size)
  have hI : ∀ x, ILb ao its x → x < w2.heap.size ∧ x ≠ w.heap.size := fun x hx => ⟨IL2.blkLt hx, IL2.notBox A2 hx⟩
  clear hIL A1 E1 bA hw2
  gi_wp2_with fail
  refine wpIn_rangeFunc_ownG rfl (by decide) (gf := 54) (lb := #[.pointer (some ⟨w1.heap.size, 0, none⟩), .pointer (some ⟨w1.heap.size + 1, 0, none⟩)]) rfl trivial (enters_of Tryz.func54 (by kernel_rfl) rfl)
    (chunk_stops Fence.wide 2 trivial rfl (by decide) w1.heap.size (w1.heap.size + 1) ao m cap per hp0 hp1 (by omega) IL2.le w2 cS cN) KpTwo.trans (fun W b o o' hb _ _ _ => ⟨heap_putObj_ne W (by omega) o', heap_putObj_ne W (by omega) o'⟩) (Below.refl _ _) (fun _ => rfl)
    (fun (pre : List (Pr m)) W => ∃ v qs, CtI w w2 w.heap.size ao its (pre.map fun x : Pr m => (l.drop x.val.1).take x.val.2) W v qs)
    (fun _ _ _ => False)
    (fun pre W W' row ⟨v, qs, h⟩ hg hr => ⟨v, qs, h.walk hg hr (fun x hx => (hI x hx).1) (by omega)⟩)
    (fun _ _ _ _ _ hs _ _ => hs)
    ⟨.slice none 0 0, [], A2, ⟨rfl, .inl ⟨rfl, rfl⟩⟩, rfl, fun _ h => by simp at h, fun _ _ => rfl, E2, Nat.le_refl _⟩
    (fun (x : Pr m) => { tmps := #[v, .int .i64 per, undef, undef, .slice none 0 0, .int .i64 0, .pointer (some ⟨w.heap.size, 0, none⟩), .slice (sA ao x.val.1) x.val.2 x.val.2, .int .i64 per, .bool false, .bool false, .int .i64 per, .bool false, .bool false, v, .slice ao m cap, .int .i64 per, .func (.func 54) #[] #[.pointer (some ⟨w1.heap.size, 0, none⟩), .pointer (some ⟨w1.heap.size + 1, 0, none⟩)], .slice (sA ao x.val.1) x.val.2 x.val.2, undef, undef, undef, undef, undef, undef], defers := [] }) ?assign ?body ?done ?stop
  case assign =>
    intro l x W K hK
    unfold encP
    gi_wp2
    exact hK
  case body =>
    rintro r pre x W ⟨u, qs, hC⟩ hlt
    have hx := x.property
    have HX : Hid (x.val.1 + x.val.2 ≤ m ∧ 0 < x.val.2) := hx
    obtain ⟨i, hi⟩ : ∃ i, i = x.val.1 := ⟨_, rfl⟩
    obtain ⟨k, hk⟩ : ∃ k, k = x.val.2 := ⟨_, rfl⟩
    rw [← hi, ← hk] at hx ⊢
    have HIK : Hid (i = x.val.1 ∧ k = x.val.2) := ⟨hi, hk⟩
    have ILW : IL W ao m cap its := IL2.keptB hC.kp
    have ILp := ILW.part (i := i) (m := k) hx.1 hx.2
    have CF : ∀ V, Below W.heap.size W V → _ := fun V hV => ckform_any V (sA ao i) k k _ (ILp.below hV) (by omega) (fun q hq => by
      have := HQ.out q (List.mem_of_mem_drop (List.mem_of_mem_take hq))
      exact ⟨by omega, this.2.1⟩)
    have hby : Byt (putCk (((its.drop i).take k).map IP.it)) := formTk_byt _ (by rw [List.length_map, List.length_take]; omega) _ fun y hy => by
      obtain ⟨q, hq, rfl⟩ := List.mem_map.1 hy
      have hq' := List.mem_of_mem_drop (List.mem_of_mem_take hq)
      have h1 := HQ.out q hq'
      have h2 := (IL2.sl q hq').1.len
      have h3 := (IL2.sl q hq').2.len
      exact ⟨⟨by show q.k.xs.length ≤ _; omega, h1.1.2⟩, by show q.v.xs.length ≤ _; omega, h1.2.2⟩
    have hql : qs.length ≤ 1000000 := by
      have := congrArg List.length hC.xs
      simp only [List.length_map] at this
      omega
    have HPX : Hid (((its.drop i).take k).map IP.it = (l.drop x.val.1).take x.val.2) := by
      show _ = _
      rw [List.map_take, List.map_drop, HIT.out, HIK.out.1, HIK.out.2]
    obtain ⟨P, hP⟩ : ∃ P, P = putCk (((its.drop i).take k).map IP.it) := ⟨_, rfl⟩
    have HP : Hid (P = putCk (((its.drop i).take k).map IP.it)) := hP
    rw [← hP] at CF hby
    obtain ⟨pl, hpl⟩ : ∃ n, n = P.length := ⟨_, rfl⟩
    rw [← hpl] at CF
    have hbx : W.cell? ⟨w.heap.size, 0, none⟩ = some u := cell_of_row _ _ 0 _ _ _ hC.bx
    have HC : Hid (CtI w w2 w.heap.size ao its (pre.map fun x : Pr m => (l.drop x.val.1).take x.val.2) W u qs) := hC
    clear hi hk hC ILW ILp hP hpl
    have E0 : Below W.heap.size W W.drew := (Below.refl _ _).drew
    gi_wp2_with fail
    refine wpIn_round_held (S := fun _ => True) (by kernel_rfl) (by kernel_rfl) (fun _ _ h => h) trivial (fun _ => ?_)
    obtain ⟨v0, hv0⟩ : ∃ v, v = W.drew := ⟨_, rfl⟩
    rw [← hv0] at E0 ⊢
    clear hv0
    refine hr_take_w 1 (some 20) (.slice (sA ao i) k k) rfl rfl (by kernel_rfl) (by kernel_rfl) (by kernel_rfl) rfl (fun W hW => by go_simp) trivial ?_
    simp only [Act.put, List.setIfInBounds_toArray, List.set_cons_zero, List.set_cons_succ]
    refine wpAnyH_effto 2 (fun zi zv zw => (zi = 0 → zv = u) ∧ (zi = 2 → ∃ ro rc, zv = .slice ro pl rc ∧ SlT zw ⟨ro, pl, rc, P⟩) ∧ (zi = 3 → ∃ ro rc g1, zv = .slice (some ⟨g1, 0, none⟩) 1 1 ∧ zw.heap[g1]? = some (.cells #[.slice ro pl rc] 30) ∧ SlT zw ⟨ro, pl, rc, P⟩)) [(0, 19), (2, 21), (3, 22)] 25 (by kernel_rfl) (by decide) (by decide) rfl ?_ (fun _ _ => trivial) ?_ ?_
    · intro zi v w w' h hb
      refine ⟨fun e => ?_, fun e => ?_, fun e => ?_⟩
      · have h := h.1 e
        exact h
      · have h := h.2.1 e
        obtain ⟨ro, rc, h1, h2⟩ := h
        exact ⟨ro, rc, h1, h2.kp (KpB.below hb)⟩
      · have h := h.2.2 e
        obtain ⟨ro, rc, g1, h1, h2, h3⟩ := h
        exact ⟨ro, rc, g1, h1, (hb.block g1 (Array.getElem?_eq_some_iff.1 h2).1).trans h2, h3.kp (KpB.below hb)⟩
    · intro zp zhi o a zw ho hs hb hdep
      have EB := E0.trans (hb.mono E0.size)
      simp only [List.mem_cons, List.not_mem_nil, or_false] at zhi
      rcases zhi with rfl | rfl | rfl
      · obtain rfl : _ = o := Option.some.inj (show some _ = some o from ho)
        have t6 : a.tmps[6]? = some (.pointer (some ⟨w.heap.size, 0, none⟩)) := hs.get 6 (by kernel_rfl) rfl
        have c0 : zw.cell? ⟨w.heap.size, 0, none⟩ = some u := (EB.cell (World.block_lt_of_cell? _ _ hbx)).trans hbx
        exact .inl ⟨u, zw, by go_simp, ⟨fun _ => rfl, fun e => absurd e (by decide), fun e => absurd e (by decide)⟩, Below.refl _ _⟩
      · obtain rfl : _ = o := Option.some.inj (show some _ = some o from ho)
        have t20 : a.tmps[20]? = some (.slice (sA ao i) k k) := hs.get 20 (by kernel_rfl) rfl
        refine .inr ⟨30, #[.slice (sA ao i) k k], by go_simp, (CF zw EB).mono ?_⟩
        rintro e w' ⟨z, rfl, own1, C⟩
        obtain ⟨ro, rc, rfl, S1⟩ := SlT.own own1 hby
        exact ⟨_, rfl, ⟨fun e => absurd e (by decide), fun _ => ⟨ro, rc, rfl, S1⟩, fun e => absurd e (by decide)⟩, C⟩
      · obtain rfl : _ = o := Option.some.inj (show some _ = some o from ho)
        obtain ⟨x21, t21, f21⟩ := (hdep 2 (by kernel_rfl)).at 21 (by kernel_rfl)
        replace f21 := f21.2.1 rfl
        obtain ⟨ro, rc, rfl, S1⟩ := f21
        have CA : Below zw.heap.size zw (zw.alloc (.cells #[.slice ro pl rc] 30)) := (Below.refl _ _).alloc (Nat.le_refl _) _
        exact .inl ⟨_, _, by go_simp, ⟨fun e => absurd e (by decide), fun e => absurd e (by decide), fun _ => ⟨ro, rc, _, rfl, heap_alloc_new zw _, S1.kp (KpB.below CA)⟩⟩, CA⟩
    intro zf v1 hb hh
    have E1 := E0.trans (hb.mono E0.size)
    obtain e0 := (hh (0, 19) (by simp)).1 rfl
    obtain ⟨ro, rc, g1, e3, G1, S1⟩ := (hh (3, 22) (by simp)).2.2 rfl
    clear hh hb
    simp only [putL, List.foldl_cons, List.foldl_nil, e0, e3]
    clear e0 e3
    simp only [Act.put, List.setIfInBounds_toArray, List.set_cons_zero, List.set_cons_succ]
    obtain ⟨v', W3, ha, ⟨u3, hc3⟩, hf3, hC3, hK3, hF3⟩ := HC.out.step (x := (l.drop x.val.1).take x.val.2) (q := ⟨ro, pl, rc, P⟩) hI (Nat.le_refl _) (by omega) E1 S1 (by rw [← HPX.out]; exact HP.out) G1 hql 33 1
    obtain ⟨go, gc, rfl⟩ := row_is hC3.own
    obtain ⟨gn, hgn⟩ : ∃ n, n = (qs ++ [(⟨ro, pl, rc, P⟩ : Part)]).length := ⟨_, rfl⟩
    rw [← hgn] at ha hC3 hK3 hF3
    clear hgn
    refine hr_ex 4 (some 23) rfl rfl (by kernel_rfl) rfl (R := fun v w' => .slice go gn gc = v ∧ W3 = w') ⟨_, W3, by simp [execOp, Act.eval, resolve, invoke, builtin, ha], rfl, rfl⟩ ?_
    rintro v w' ⟨rfl, rfl⟩
    refine ⟨trivial, ?_⟩
    simp only [Act.put, List.setIfInBounds_toArray, List.set_cons_zero, List.set_cons_succ]
    refine hr_skip 5 none (w' := W3.setCell ⟨w.heap.size, 0, none⟩ (.slice go gn gc)) rfl rfl (by kernel_rfl) rfl (by go_simp) trivial ?_
    simp only [Act.put]
    refine wpAnyH_done (by kernel_rfl) ?_ _
    refine NoPanic.normal ?_
    refine ⟨hK3.from _, ⟨hF3 _ (by omega) (by omega), hF3 _ (by omega) (by omega)⟩, .slice go gn gc, qs ++ [⟨ro, pl, rc, P⟩], ?_⟩
    rw [List.map_append, List.map_singleton]
    exact hC3
  case done =>
    rintro D ys W hD hys ⟨u, qs, hC⟩ hK
    obtain ⟨qo, qc, rfl⟩ := row_is hC.own
    have hbx : W.cell? ⟨w.heap.size, 0, none⟩ = some (.slice qo qs.length qc) := cell_of_row _ _ 0 _ _ _ hC.bx
    have HX : Hid (qs.map Part.xs = (cuts per l).map putCk) := by
      show _ = _
      have hml2 : l.length = m := by rw [← HIT.out, List.length_map]; omega
      have e := sts_cuts hp0 l l.length 0 (by omega)
      rw [hml2, ← hys, List.map_map, List.drop_zero] at e
      rw [hC.xs, ← e]
      rfl
    have hC2 := hC.walk (grownBy_putObj' W D (.deferred none)) (fun r e => by cases e; exact ⟨hD, _, hK, rfl⟩) (fun x hx => (hI x hx).1) (by omega)
    have HK : Hid (KL (W.putObj D (.deferred none)) qo qs.length qc qs) := by
      obtain ⟨qo', qc', e, V, -⟩ := VL.own hC2.own
      simp only [Value.slice.injEq, true_and] at e
      rw [e.1, e.2]
      exact ⟨V, fun q hq => (hC2.sl q hq).1⟩
    have hB := hC2.bel
    obtain ⟨qn, hqn⟩ : ∃ n, n = qs.length := ⟨_, rfl⟩
    rw [← hqn] at hbx HK
    clear hys hqn hC hC2
    gi_wp2
    refine ⟨by simp, .inl ⟨_, _, rfl, run_takeDeferred hK, ?_⟩⟩
    refine ⟨_, results_tmp2 rfl _ _ _, ?_⟩
    exact ⟨fun h => by omega, fun _ _ => ⟨qo, qn, qc, qs, rfl, HK.out, by rw [Int.toNat_natCast]; exact HX.out⟩, hB⟩
  case stop =>
    rintro D c pre W _ _ h _
    exact h.elim

/-- Cut of whatever tree, by whatever number. -/
theorem cut_any (w : World) (v : Value) (l : List It) (per : Int) (h : TT w v l) (hs : Srt l) (hl : l.length ≤ 50000) (hsz : ∀ x ∈ l, (Byt x.k ∧ x.k.length ≤ 256) ∧ Byt x.v ∧ x.v.length ≤ 1000000) :
    Calls Tryz.prog 9 #[v, .int .i64 per] w (CutPost w l per) := by
  by_cases c : per < 1 ∨ 64 < per
  · exact cut_bad w v l per c
  · obtain ⟨k, rfl⟩ := Int.eq_ofNat_of_zero_le (show 0 ≤ per by omega)
    exact (callsIn_wide (n := 3)).1 (cut_in w v l k (by omega) (by omega) h hs hl hsz)
end Go.Proofs.YtiabdcejibeciaaGreatDoor

namespace Go.Proofs.YtiabdcejibeciaaGreatDoor
open Go.RowKit

/-- Two lists that rise and have the same items are one. -/
theorem Srt.perm : ∀ {l r : List It}, Srt l → Srt r → l.Perm r → l = r
  | [], r, _, _, h => (List.Perm.nil_eq h)
  | x :: l, [], _, _, h => by simpa using h.length_eq
  | x :: l, y :: r, hl, hr, h => by
    have hx : x ∈ y :: r := h.mem_iff.1 (List.mem_cons_self ..)
    have hy : y ∈ x :: l := h.mem_iff.2 (List.mem_cons_self ..)
    have e : x = y := by
      rcases List.mem_cons.1 hx with e | hx
      · exact e
      · rcases List.mem_cons.1 hy with e | hy
        · exact e.symm
        · exact absurd (cmpL_lt_trans _ _ _ (hl.cons.1 y hy) (hr.cons.1 x hx)) (cmpL_irr _)
    subst e
    rw [Srt.perm hl.cons.2 hr.cons.2 ((List.perm_cons x).1 h)]
/-- Does the first of some items stand above the last of others? -/
def joins (a l : List It) : Bool := match a.getLast?, l with
  | some x, y :: _ => decide (cmpL x.k y.k < 0)
  | _, _ => true
/-- All that was read, and whether each stands above what was ahead. -/
def jn (a : List It) : List (List It) → Bool
  | [] => true
  | l :: ls => joins a l && jn (a ++ l) ls
def layR : List (List Int) → Sum Int (List (List It))
  | [] => .inr []
  | b :: bs => match rdCk b, layR bs with
    | .inl k, _ => .inl k
    | .inr _, .inl k => .inl k
    | .inr l, .inr ls => .inr (l :: ls)
/-- What is laid. -/
def layC (bs : List (List Int)) : Sum Int (List It) := match layR bs with
  | .inl k => .inl k
  | .inr ls => if jn [] ls then .inr ls.flatten else .inl 3
theorem joins_srt {a l : List It} (ha : Srt a) (hl : Srt l) (h : joins a l = true) (hne : l ≠ []) : Srt (a ++ l) := by
  refine Srt.mk ha hl fun x hx y hy => ?_
  cases l with
  | nil => exact absurd rfl hne
  | cons z l =>
    obtain ⟨b, e, rfl⟩ : ∃ b e, a = b ++ [e] := by
      have hn : a ≠ [] := fun h => by rw [h] at hx; simp at hx
      exact ⟨a.dropLast, a.getLast hn, (List.dropLast_concat_getLast hn).symm⟩
    have h1 : cmpL e.k z.k < 0 := by simpa [joins] using h
    have h2 : x = e ∨ cmpL x.k e.k < 0 := by
      rcases List.mem_append.1 hx with hx | hx
      · exact .inr (ha.app.2.2 x hx e (by simp))
      · exact .inl (by simpa using hx)
    have h3 : z = y ∨ cmpL z.k y.k < 0 := by
      rcases List.mem_cons.1 hy with hy | hy
      · exact .inl hy.symm
      · exact .inr (hl.cons.1 y hy)
    rcases h2 with rfl | h2
    · rcases h3 with rfl | h3
      · exact h1
      · exact cmpL_lt_trans _ _ _ h1 h3
    · rcases h3 with rfl | h3
      · exact cmpL_lt_trans _ _ _ h2 h1
      · exact cmpL_lt_trans _ _ _ h2 (cmpL_lt_trans _ _ _ h1 h3)
theorem jn_srt : ∀ (ls : List (List It)) (a : List It), Srt a → (∀ l ∈ ls, Srt l ∧ l ≠ []) → jn a ls = true → Srt (a ++ ls.flatten)
  | [], a, ha, _, _ => by simpa using ha
  | l :: ls, a, ha, h, hj => by
    unfold jn at hj
    rw [Bool.and_eq_true] at hj
    have h1 := h l (List.mem_cons_self ..)
    have := jn_srt ls (a ++ l) (joins_srt ha h1.1 hj.1 h1.2) (fun x hx => h x (List.mem_cons_of_mem _ hx)) hj.2
    rw [List.flatten_cons, ← List.append_assoc]
    exact this

/-- append of items, and where they lie. -/
theorem run_appI2 {w : World} {base : Nat} {v : Value} {ps qs : List IP} (ty : TypeId) (h : w.ownsRow base 32 2 v ps.length (flatI ps)) (hb : base ≤ w.heap.size) {bo : Option Addr} {m c : Nat} (hx : IL w bo m c qs) (hm : 0 < m) (hn : ps.length + m ≤ 1000000) :
    ∃ v' w', (Builtin.append_ #[22, 22] ty #[v, .slice bo m c]).run Tryz.prog w = .ok v' w' ∧ w'.ownsRow base 32 2 v' (ps ++ qs).length (flatI (ps ++ qs)) ∧ w.grownBy w' v.ownBlock ∧ ∀ g, v'.ownBlock = some g → v.ownBlock = some g ∨ w.heap.size ≤ g := by
  obtain ⟨i0, hi, hz0, hz1, hz2⟩ := info_parts itemInfo
  have hlen := hx.len
  obtain ⟨ad, rfl⟩ : ∃ ad, bo = some ad := by
    cases bo with
    | none => have := (hx.nil rfl).1; omega
    | some ad => exact ⟨ad, rfl⟩
  obtain ⟨v', w', h1, h2, h3, h4⟩ := run_append_own2 (P := Tryz.prog) w base 22 ty 32 i0 _ 2 48 Tryz.underlying22 hi hz0 hz1 hz2 rfl (by decide) v ps.length (flatI ps) h ad m c (flatI qs) (by rw [flatI_length, hlen])
    (fun j u hu => by
      have hj := (List.getElem?_eq_some_iff.1 hu).1
      rw [flatI_length] at hj
      have hq : j / 2 < qs.length := by omega
      obtain ⟨e1, e2⟩ := flatI_get qs (j / 2) hq
      obtain ⟨d1, d2⟩ := hx.cell ad rfl (j / 2) hq
      rcases Nat.mod_two_eq_zero_or_one j with hp | hp
      · have ej : j / 2 * 2 = j := by omega
        rw [ej] at e1 d1
        rw [d1, ← hu, e1]
      · have ej : j / 2 * 2 + 1 = j := by omega
        rw [ej] at e2 d2
        rw [d2, ← hu, e2]) (flatI_one qs) (by unfold maxLen; omega) (by omega) hb
  refine ⟨v', w', h1, ?_, h3, h4⟩
  rw [flatI_app, List.length_append, hlen]
  exact h2
/-- Items while they are gathered: block A holds their slice, block R whether they rise. -/
structure LyI (w0 : World) (A R base : Nat) (W : World) (v : Value) (ps : List IP) (r : Bool) : Prop where
  ba : W.heap[A]? = some (.cells #[v] 22)
  br : W.heap[R]? = some (.cells #[.bool r] 4)
  own : W.ownsRow base 32 2 v ps.length (flatI ps)
  oks : ∀ q ∈ ps, q.ok W
  far : ∀ q ∈ ps, ∀ x, q.blk x → x ≠ A ∧ x ≠ R ∧ v.ownBlock ≠ some x
  bel : Below w0.heap.size w0 W
  pos : w0.heap.size ≤ A ∧ A < base ∧ w0.heap.size ≤ R ∧ R < base ∧ A ≠ R ∧ base ≤ W.heap.size
theorem LyI.below {w0 : World} {A R base : Nat} {W W' : World} {v : Value} {ps : List IP} {r : Bool} (h : LyI w0 A R base W v ps r) (hb : Below W.heap.size W W') : LyI w0 A R base W' v ps r :=
  ⟨(hb.block A (Array.getElem?_eq_some_iff.1 h.ba).1).trans h.ba, (hb.block R (Array.getElem?_eq_some_iff.1 h.br).1).trans h.br, own_below h.own hb, fun q hq => (h.oks q hq).below hb, h.far, h.bel.trans (hb.mono h.bel.size), by have := hb.size; have := h.pos; omega⟩
theorem LyI.row {w0 : World} {A R base : Nat} {W : World} {v : Value} {ps : List IP} {r : Bool} (h : LyI w0 A R base W v ps r) : ∃ ao cap, v = .slice ao ps.length cap ∧ IL W ao ps.length cap ps := own_items h.own h.oks
/-- They do not rise. -/
theorem LyI.fall {w0 : World} {A R base : Nat} {W : World} {v : Value} {ps : List IP} {r : Bool} (h : LyI w0 A R base W v ps r) : LyI w0 A R base (W.setCell ⟨R, 0, none⟩ (.bool false)) v ps false := by
  have hp := h.pos
  have ho : ∀ x, x ≠ R → (W.setCell ⟨R, 0, none⟩ (.bool false)).heap[x]? = W.heap[x]? := fun x hx => heap_setCell_other W ⟨R, 0, none⟩ x _ hx
  have AR : Arr W R 4 [.bool r] := h.br
  refine ⟨(ho A hp.2.2.2.2.1).trans h.ba, AR.set 0 (.bool false), own_kept h.own fun g hg => ho g ?_, fun q hq => (h.oks q hq).kept fun x hx => ho x (h.far q hq x hx).2.1, h.far, h.bel.setCell hp.2.2.1 _, by simp only [World.size_setCell]; exact hp⟩
  have := (h.own.lt g hg).1
  omega
/-- Some items more. -/
theorem LyI.more {w0 : World} {A R base : Nat} {W : World} {v : Value} {ps qs : List IP} {r : Bool} (h : LyI w0 A R base W v ps r) {bo : Option Addr} {m c : Nat} (hx : IL W bo m c qs) (hm : 0 < m) (hn : ps.length + m ≤ 1000000) (hfar : ∀ q ∈ qs, ∀ x, q.blk x → x ≠ A ∧ x ≠ R ∧ v.ownBlock ≠ some x) (ty : TypeId) :
    ∃ v' W1, (Builtin.append_ #[22, 22] ty #[v, .slice bo m c]).run Tryz.prog W = .ok v' W1 ∧ (∃ u, W1.cell? ⟨A, 0, none⟩ = some u) ∧ W1.frozen? ⟨A, 0, none⟩ = false ∧ LyI w0 A R base (W1.setCell ⟨A, 0, none⟩ v') v' (ps ++ qs) r := by
  have hp := h.pos
  obtain ⟨v', W1, hrun, own1, g1, w1⟩ := run_appI2 (w := W) ty h.own (by omega) hx hm hn
  have AA : Arr W A 22 [v] := h.ba
  have rowne : ∀ g, v.ownBlock = some g → base ≤ g := fun g hg => (h.own.lt g hg).1
  have A1 : Arr W1 A 22 [v] := AA.grown g1 (fun e => by have := rowne A e.symm; omega)
  have ho : ∀ x, x ≠ A → (W1.setCell ⟨A, 0, none⟩ v').heap[x]? = W1.heap[x]? := fun x hx => heap_setCell_other W1 ⟨A, 0, none⟩ x _ hx
  have kp : ∀ q : IP, q.ok W → (∀ x, q.blk x → x ≠ A ∧ x ≠ R ∧ v.ownBlock ≠ some x) → q.ok (W1.setCell ⟨A, 0, none⟩ v') ∧ ∀ x, q.blk x → x ≠ A ∧ x ≠ R ∧ v'.ownBlock ≠ some x := fun q hq hf => by
    refine ⟨hq.kept fun x hx => (ho x (hf x hx).1).trans (g1.block x (hq.lt hx) fun e => (hf x hx).2.2 e.symm), fun x hx => ⟨(hf x hx).1, (hf x hx).2.1, fun e => ?_⟩⟩
    rcases w1 x e with e' | e'
    · exact (hf x hx).2.2 e'
    · have := hq.lt hx
      omega
  have hs := g1.size
  refine ⟨v', W1, hrun, ⟨v, A1.cell 0⟩, frozen_of_row W1 A 0 _ _ A1, A1.set 0 v', ?_, ?_, ?_, ?_, ?_, by simp only [World.size_setCell]; omega⟩
  · refine (ho R (fun e => hp.2.2.2.2.1 e.symm)).trans ((g1.block R (Array.getElem?_eq_some_iff.1 h.br).1 fun e => ?_).trans h.br)
    have := rowne R e.symm
    omega
  · refine own_kept own1 fun g hg => ho g ?_
    have := (own1.lt g hg).1
    omega
  · intro q hq
    rcases List.mem_append.1 hq with hq | hq
    · exact (kp q (h.oks q hq) (h.far q hq)).1
    · exact (kp q (hx.sl q hq) (hfar q hq)).1
  · intro q hq
    rcases List.mem_append.1 hq with hq | hq
    · exact (kp q (h.oks q hq) (h.far q hq)).2
    · exact (kp q (hx.sl q hq) (hfar q hq)).2
  · exact h.bel.trans (((Below.refl w0.heap.size W).grown g1 h.bel.size (fun k hk => by have := rowne k hk; omega)).setCell hp.1 v')
end Go.Proofs.YtiabdcejibeciaaGreatDoor

namespace Go.Proofs.YtiabdcejibeciaaGreatDoor
open Go.RowKit

set_option maxHeartbeats 1000000 in
set_option maxRecDepth 100000 in
theorem ckbelow_any (w : World) (p q : IP) (hp : p.ok w) (hq : q.ok w) :
    Calls Tryz.prog 43 #[.agg #[p.k.val, p.v.val], .agg #[q.k.val, q.v.val]] w fun e w' => e = .returned (.bool (decide (cmpL p.k.xs q.k.xs < 0))) ∧ Below w.heap.size w w' := by
  obtain ⟨w1, h1⟩ : ∃ W, W = w.alloc (.cells #[p.k.val, p.v.val] 32) := ⟨_, rfl⟩
  obtain ⟨w2, h2⟩ : ∃ W, W = w1.alloc (.cells #[q.k.val, q.v.val] 32) := ⟨_, rfl⟩
  have B1 : Below w.heap.size w w1 := by rw [h1]; exact (Below.refl _ w).alloc (Nat.le_refl _) _
  have B2 : Below w1.heap.size w1 w2 := by rw [h2]; exact (Below.refl _ w1).alloc (Nat.le_refl _) _
  have B : Below w.heap.size w w2 := B1.trans (B2.mono B1.size)
  have S1 := (hp.below B).1
  have S2 := (hq.below B).1
  have C := bcmp_any w2 _ _ _ _ _ _ _ _ S1 S2
  obtain ⟨z, hz⟩ : ∃ z, z = cmpL p.k.xs q.k.xs := ⟨_, rfl⟩
  rw [← hz] at C ⊢
  unfold Part.val at h1 h2 ⊢
  clear hz hp hq S1 S2 B1 B2
  go_enter Tryz.func43, Tryz.ntmps43
  go_wp2_with fail
  rw [← h1, ← h2]
  clear h1 h2
  refine C.mono ?_
  rintro e w' ⟨rfl, hw⟩
  obtain rfl := hw.symm
  go_wp2
  go_ret
  exact ⟨rfl, B⟩
end Go.Proofs.YtiabdcejibeciaaGreatDoor

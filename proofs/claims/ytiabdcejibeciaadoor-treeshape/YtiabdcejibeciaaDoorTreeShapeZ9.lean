/-
  The law's shaped.
-/
import Derived.Test.YtiabdcejibeciaaDoorTreeShapeZ7
import Derived.Test.YtiabdcejibeciaaDoorTreeShapeZ8
namespace Go.Proofs.YtiabdcejibeciaaDoor
open Go.RowKit

theorem geq_bytes (t : TypeId) (a b : ByteArray) : binOp .geq t (.string a) (.string b) = pure (.bool !(Op.bytesLess a.toList b.toList)) := by simp [binOp, Op.stringOp]
/-- string(a) >= string(b) -/
theorem geq_str {xs ys : List Int} (hx : Byt xs) (hy : Byt ys) (h : cmpL xs ys < 0) (t : TypeId) (W : World) : (binOp .geq t (.string (strOfNums xs)) (.string (strOfNums ys))).run Tryd.prog W = .ok (.bool false) W := by
  rw [geq_bytes, Sem.run_pure, less_str hx hy, decide_eq_true h]
  rfl
theorem neq_nil (W : World) (ao : Option Addr) (n c : Nat) : (binOp .neq 26 (.slice ao n c) (.slice none 0 0)).run Tryd.prog W = .ok (.bool (!ao.isNone)) W := by
  simp only [binOp]
  simp [Op.equal, Op.maxDepth, Lib.run_equalIn_slice_nil W 9999 26 5 ao n c 0 0 Tryd.underlying26]
theorem wvA_key : ∀ (P : List (List It)) (xs : List It), P.length = xs.length → ∀ x ∈ xs, x ∈ wvA P xs
  | [], [], _, x, h => by simp at h
  | [], _ :: _, h, _, _ => by simp at h
  | _ :: _, [], h, _, _ => by simp at h
  | s :: P, y :: xs, h, x, hx => by
    simp only [wvA, List.mem_append, List.mem_cons]
    rcases List.mem_cons.1 hx with rfl | hx
    · exact .inr (.inl rfl)
    · exact .inr (.inr (wvA_key P xs (by simpa using h) x hx))
theorem weave_total : ∀ (P : List (List It)) (xs : List It), P.length = xs.length + 1 → (weave P xs).length = xs.length + P.flatten.length
  | [], xs, h => by simp at h
  | s :: P, [], h => by
    have : P = [] := List.eq_nil_of_length_eq_zero (by simpa using h)
    subst this
    simp [weave]
  | s :: P, x :: xs, h => by
    simp only [weave, List.length_append, List.length_cons, List.flatten_cons]
    rw [weave_total P xs (by simpa using h)]
    omega
section
variable {lv : List Int → Nat} {l : List It} {L : Nat} {segs : List (List It)} {xs : List It} {i : Nat} {s A B : List It}
/-- A segment stands behind the key ahead of it, and ahead of the one behind it. -/
theorem Cut.left (c : Cut lv l L segs xs i s A B) (hs : Srt l) (hi : 0 < i) (h : i - 1 < xs.length) : ∀ x ∈ s, cmpL xs[i - 1].k x.k < 0 := fun x hx => by
  have h1 : xs[i - 1] ∈ xs.take i := by
    rw [List.mem_take_iff_getElem]
    exact ⟨i - 1, by omega, rfl⟩
  have h2 := wvA_key _ _ c.l1 _ h1
  rw [← c.eA] at h2
  rw [c.el] at hs
  exact hs.app.2.2 _ h2 x (List.mem_append_left _ hx)
theorem Cut.right (c : Cut lv l L segs xs i s A B) (hs : Srt l) (h : i < xs.length) : ∀ x ∈ s, cmpL x.k xs[i].k < 0 := fun x hx => by
  have h1 : xs[i] ∈ xs.drop i := by
    rw [List.drop_eq_getElem_cons h]
    exact List.mem_cons_self ..
  have h2 : xs[i] ∈ B := by
    rw [c.eB]
    exact weave_key _ _ (by rw [List.length_cons, c.l2]) _ h1
  rw [c.el] at hs
  exact hs.app.2.1.app.2.2 x hx _ h2
end

set_option maxHeartbeats 16000000 in
set_option maxRecDepth 100000 in
theorem shaped_fuel : ∀ (N : Nat) (w : World) (v : Value) (l : List It) (la : Option Addr) (ln lc : Nat) (lx : List Int) (ha : Option Addr) (hn hc : Nat) (hx : List Int) (below : Nat) (_ : Tabs w) (_ : T w v l) (_ : Srt l) (_ : Sl w la ln lc lx) (_ : Sl w ha hn hc hx)
    (_ : la ≠ none → ∀ x ∈ l, cmpL lx x.k < 0) (_ : ha ≠ none → ∀ x ∈ l, cmpL x.k hx < 0) (_ : ∀ x ∈ l, lev x.k < below) (_ : below ≤ 1000) (_ : l.length ≤ 50000) (_ : Szd l) (_ : l.length ≤ N),
    Calls Tryd.prog 18 #[v, .slice la ln lc, .slice ha hn hc, .int .i64 below] w fun e w' => e = .returned (.tuple #[.int .i64 l.length, .bool true]) ∧ Below w.heap.size w w' := by
  intro N
  induction N using Nat.strongRecOn with | _ N ih => ?_
  intro w v l la ln lc lx ha hn hc hx below hT hTr hsrt sla sha hlo hhi hbel hbn hln hsz hN
  have h2 := hT.two
  rcases hTr.is with ⟨rfl, rfl⟩ | ⟨d, segs, xs, rfl, hN1⟩
  · go_enter Tryd.func18, Tryd.ntmps18
    go_wp2
    go_ret2
    exact ⟨rfl, Below.refl _ _⟩
  have hmany := hN1.many
  have hpos := hN1.shp.pos
  have hL64 : d.L ≤ 1000 := by have := hN1.L_le; omega
  have hLb : d.L < below := by
    have h1 := hbel xs[0] (hN1.shp.key _ (List.getElem_mem hpos))
    rw [hN1.shp.top _ (List.getElem_mem hpos)] at h1
    exact h1
  have HNK : Hid (d.ks.length = xs.length ∧ d.vs.length = xs.length ∧ d.cs.length = xs.length + 1) := ⟨hN1.nk, hN1.nv, hN1.nc⟩
  have hk1 : 1 ≤ d.ks.length := by have := HNK.out; omega
  have hkn : d.ks.length ≤ 50000 := by have := HNK.out; omega
  have c0 := hN1.ok.c0
  have c1 := hN1.ok.c1
  have c2 := hN1.ok.c2
  have c3 := hN1.ok.c3
  obtain ⟨kb, ko, hko, hkc⟩ := hN1.ok.kl.vl.at (by omega)
  obtain ⟨vb, vo, hvo, -⟩ := hN1.ok.vl.vl.at (by have := HNK.out; omega)
  obtain ⟨cb, co, hco, hcc⟩ := hN1.ok.cl.at (by have := HNK.out; omega)
  rw [hko] at c1
  rw [hvo] at c2
  rw [hco] at c3
  have HKC : Hid (∀ i (hi : i < (d.ks.map Part.val).length), w.cell? ⟨kb, ko + i, none⟩ = some (d.ks.map Part.val)[i]) := hkc
  have HCC : Hid (∀ i (hi : i < d.cs.length), w.cell? ⟨cb, co + i, none⟩ = some d.cs[i]) := hcc
  have HSZ : Hid (Szd l) := hsz
  have HS : Hid (Srt l) := hsrt
  have HLO0 : Hid (la ≠ none → ∀ x ∈ l, cmpL lx x.k < 0) := hlo
  have HHI0 : Hid (ha ≠ none → ∀ x ∈ l, cmpL x.k hx < 0) := hhi
  clear hkc hcc hko hvo hco hsz hsrt hlo hhi hbel
  have q1 : ¬ (d.L : Int) ≥ (below : Int) := by omega
  have q2 : ¬ (d.L : Int) < 0 := by omega
  have q3 : ¬ (d.ks.length : Int) < 1 := by omega
  have q4 : ((d.vs.length : Int) != (d.ks.length : Int)) = false := by have := HNK.out; simp; omega
  have q6 : IntKind.i64.wrap ((d.ks.length : Int) + 1) = ((d.ks.length + 1 : Nat) : Int) := by simp [IntKind.wrap, IntKind.bits, IntKind.signed]; omega
  have Q5 : Hid ((d.cs.length : Int) = (d.ks.length : Int) + 1) := by show _ = _; have := HNK.out; omega
  unfold Nd.ptr
  go_enter Tryd.func18, Tryd.ntmps18
  go_wp2
  have fHS : Hid (∀ V, Below w.heap.size w V → V.cell? ⟨d.b, 0, none⟩ = some (.int .i64 (d.L : Nat)) ∧ V.cell? ⟨d.b, 1, none⟩ = some (.slice (some ⟨kb, ko, none⟩) d.ks.length d.kc) ∧ V.cell? ⟨d.b, 2, none⟩ = some (.slice (some ⟨vb, vo, none⟩) d.vs.length d.vc) ∧ V.cell? ⟨d.b, 3, none⟩ = some (.slice (some ⟨cb, co, none⟩) d.cs.length d.cc)) := fun V hV => ⟨(hV.cell (World.block_lt_of_cell? _ _ c0)).trans c0, (hV.cell (World.block_lt_of_cell? _ _ c1)).trans c1, (hV.cell (World.block_lt_of_cell? _ _ c2)).trans c2, (hV.cell (World.block_lt_of_cell? _ _ c3)).trans c3⟩
  have fE0 : Below w.heap.size w w.drew := (Below.refl _ _).drew
  refine wp_region_noPanic ?_
  refine wp_region_held_drew (S := fun V => V.cell? ⟨d.b, 0, none⟩ = some (.int .i64 (d.L : Nat)) ∧ V.cell? ⟨d.b, 1, none⟩ = some (.slice (some ⟨kb, ko, none⟩) d.ks.length d.kc) ∧ V.cell? ⟨d.b, 2, none⟩ = some (.slice (some ⟨vb, vo, none⟩) d.vs.length d.vc) ∧ V.cell? ⟨d.b, 3, none⟩ = some (.slice (some ⟨cb, co, none⟩) d.cs.length d.cc)) (by kernel_rfl) (fHS.out _ fE0) (fun fH0 => ?_)
  obtain ⟨fv0, hv0⟩ : ∃ v, v = w.drew := ⟨_, rfl⟩
  rw [← hv0] at fH0 fE0 ⊢
  clear hv0
  refine hr_take_w 0 (some 18) (.pointer (some ⟨d.b, 0, none⟩)) rfl rfl (by kernel_rfl) (by kernel_rfl) (by kernel_rfl) rfl (fun W hW => by obtain ⟨h0, h1, h2, h3⟩ := hW; go_simp) fH0 ?_
  simp only [Act.put, List.setIfInBounds_toArray, List.set_cons_zero, List.set_cons_succ]
  refine hr_take_w 1 (some 19) (.pointer (some ⟨d.b, 0, none⟩)) rfl rfl (by kernel_rfl) (by kernel_rfl) (by kernel_rfl) rfl (fun W hW => by obtain ⟨h0, h1, h2, h3⟩ := hW; go_simp) fH0 ?_
  simp only [Act.put, List.setIfInBounds_toArray, List.set_cons_zero, List.set_cons_succ]
  refine hr_take_w 2 (some 20) (.pointer (some ⟨d.b, 0, none⟩)) rfl rfl (by kernel_rfl) (by kernel_rfl) (by kernel_rfl) rfl (fun W hW => by obtain ⟨h0, h1, h2, h3⟩ := hW; go_simp) fH0 ?_
  simp only [Act.put, List.setIfInBounds_toArray, List.set_cons_zero, List.set_cons_succ]
  refine hr_take_w 3 (some 21) (.int .i64 (d.L : Nat)) rfl rfl (by kernel_rfl) (by kernel_rfl) (by kernel_rfl) rfl (fun W hW => by obtain ⟨h0, h1, h2, h3⟩ := hW; go_simp) fH0 ?_
  simp only [Act.put, List.setIfInBounds_toArray, List.set_cons_zero, List.set_cons_succ]
  refine hr_take_w 4 (some 22) (.int .i64 (below : Nat)) rfl rfl (by kernel_rfl) (by kernel_rfl) (by kernel_rfl) rfl (fun W hW => by obtain ⟨h0, h1, h2, h3⟩ := hW; go_simp) fH0 ?_
  simp only [Act.put, List.setIfInBounds_toArray, List.set_cons_zero, List.set_cons_succ]
  refine hr_take_w 5 (some 23) (.bool false) rfl rfl (by kernel_rfl) (by kernel_rfl) (by kernel_rfl) rfl (fun W hW => by obtain ⟨h0, h1, h2, h3⟩ := hW; go_simp) fH0 ?_
  simp only [Act.put, List.setIfInBounds_toArray, List.set_cons_zero, List.set_cons_succ]
  refine hr_take_w 6 (some 24) (.bool false) rfl rfl (by kernel_rfl) (by kernel_rfl) (by kernel_rfl) rfl (fun W hW => by obtain ⟨h0, h1, h2, h3⟩ := hW; go_simp) fH0 ?_
  simp only [Act.put, List.setIfInBounds_toArray, List.set_cons_zero, List.set_cons_succ]
  refine hr_take_w 7 (some 25) (.pointer (some ⟨d.b, 0, none⟩)) rfl rfl (by kernel_rfl) (by kernel_rfl) (by kernel_rfl) rfl (fun W hW => by obtain ⟨h0, h1, h2, h3⟩ := hW; go_simp) fH0 ?_
  simp only [Act.put, List.setIfInBounds_toArray, List.set_cons_zero, List.set_cons_succ]
  refine hr_take_w 8 (some 26) (.pointer (some ⟨d.b, 0, none⟩)) rfl rfl (by kernel_rfl) (by kernel_rfl) (by kernel_rfl) rfl (fun W hW => by obtain ⟨h0, h1, h2, h3⟩ := hW; go_simp) fH0 ?_
  simp only [Act.put, List.setIfInBounds_toArray, List.set_cons_zero, List.set_cons_succ]
  refine hr_take_w 9 (some 27) (.pointer (some ⟨d.b, 0, none⟩)) rfl rfl (by kernel_rfl) (by kernel_rfl) (by kernel_rfl) rfl (fun W hW => by obtain ⟨h0, h1, h2, h3⟩ := hW; go_simp) fH0 ?_
  simp only [Act.put, List.setIfInBounds_toArray, List.set_cons_zero, List.set_cons_succ]
  refine hr_take_w 10 (some 28) (.int .i64 (d.L : Nat)) rfl rfl (by kernel_rfl) (by kernel_rfl) (by kernel_rfl) rfl (fun W hW => by obtain ⟨h0, h1, h2, h3⟩ := hW; go_simp) fH0 ?_
  simp only [Act.put, List.setIfInBounds_toArray, List.set_cons_zero, List.set_cons_succ]
  refine hr_take_w 11 (some 29) (.bool false) rfl rfl (by kernel_rfl) (by kernel_rfl) (by kernel_rfl) rfl (fun W hW => by obtain ⟨h0, h1, h2, h3⟩ := hW; go_simp) fH0 ?_
  simp only [Act.put, List.setIfInBounds_toArray, List.set_cons_zero, List.set_cons_succ]
  refine hr_take_w 12 (some 30) (.bool false) rfl rfl (by kernel_rfl) (by kernel_rfl) (by kernel_rfl) rfl (fun W hW => by obtain ⟨h0, h1, h2, h3⟩ := hW; go_simp) fH0 ?_
  simp only [Act.put, List.setIfInBounds_toArray, List.set_cons_zero, List.set_cons_succ]
  refine hr_take_w 13 (some 31) (.bool false) rfl rfl (by kernel_rfl) (by kernel_rfl) (by kernel_rfl) rfl (fun W hW => by obtain ⟨h0, h1, h2, h3⟩ := hW; go_simp) fH0 ?_
  simp only [Act.put, List.setIfInBounds_toArray, List.set_cons_zero, List.set_cons_succ]
  refine hr_take_w 14 (some 32) (.pointer (some ⟨d.b, 0, none⟩)) rfl rfl (by kernel_rfl) (by kernel_rfl) (by kernel_rfl) rfl (fun W hW => by obtain ⟨h0, h1, h2, h3⟩ := hW; go_simp) fH0 ?_
  simp only [Act.put, List.setIfInBounds_toArray, List.set_cons_zero, List.set_cons_succ]
  refine hr_take_w 15 (some 33) (.pointer (some ⟨d.b, 0, none⟩)) rfl rfl (by kernel_rfl) (by kernel_rfl) (by kernel_rfl) rfl (fun W hW => by obtain ⟨h0, h1, h2, h3⟩ := hW; go_simp) fH0 ?_
  simp only [Act.put, List.setIfInBounds_toArray, List.set_cons_zero, List.set_cons_succ]
  refine hr_take_w 16 (some 34) (.pointer (some ⟨d.b, 1, none⟩)) rfl rfl (by kernel_rfl) (by kernel_rfl) (by kernel_rfl) rfl (fun W hW => by obtain ⟨h0, h1, h2, h3⟩ := hW; go_simp) fH0 ?_
  simp only [Act.put, List.setIfInBounds_toArray, List.set_cons_zero, List.set_cons_succ]
  refine hr_take_w 17 (some 35) (.slice (some ⟨kb, ko, none⟩) d.ks.length d.kc) rfl rfl (by kernel_rfl) (by kernel_rfl) (by kernel_rfl) rfl (fun W hW => by obtain ⟨h0, h1, h2, h3⟩ := hW; go_simp) fH0 ?_
  simp only [Act.put, List.setIfInBounds_toArray, List.set_cons_zero, List.set_cons_succ]
  refine hr_take_w 18 (some 36) (.int .i64 d.ks.length) rfl rfl (by kernel_rfl) (by kernel_rfl) (by kernel_rfl) rfl (fun W hW => by obtain ⟨h0, h1, h2, h3⟩ := hW; go_simp) fH0 ?_
  simp only [Act.put, List.setIfInBounds_toArray, List.set_cons_zero, List.set_cons_succ]
  refine hr_take_w 19 (some 37) (.bool false) rfl rfl (by kernel_rfl) (by kernel_rfl) (by kernel_rfl) rfl (fun W hW => by obtain ⟨h0, h1, h2, h3⟩ := hW; go_simp) fH0 ?_
  simp only [Act.put, List.setIfInBounds_toArray, List.set_cons_zero, List.set_cons_succ]
  refine hr_take_w 20 (some 38) (.bool false) rfl rfl (by kernel_rfl) (by kernel_rfl) (by kernel_rfl) rfl (fun W hW => by obtain ⟨h0, h1, h2, h3⟩ := hW; go_simp) fH0 ?_
  simp only [Act.put, List.setIfInBounds_toArray, List.set_cons_zero, List.set_cons_succ]
  refine hr_take_w 21 (some 39) (.bool false) rfl rfl (by kernel_rfl) (by kernel_rfl) (by kernel_rfl) rfl (fun W hW => by obtain ⟨h0, h1, h2, h3⟩ := hW; go_simp) fH0 ?_
  simp only [Act.put, List.setIfInBounds_toArray, List.set_cons_zero, List.set_cons_succ]
  refine hr_take_w 22 (some 40) (.pointer (some ⟨d.b, 0, none⟩)) rfl rfl (by kernel_rfl) (by kernel_rfl) (by kernel_rfl) rfl (fun W hW => by obtain ⟨h0, h1, h2, h3⟩ := hW; go_simp) fH0 ?_
  simp only [Act.put, List.setIfInBounds_toArray, List.set_cons_zero, List.set_cons_succ]
  refine hr_take_w 23 (some 41) (.pointer (some ⟨d.b, 0, none⟩)) rfl rfl (by kernel_rfl) (by kernel_rfl) (by kernel_rfl) rfl (fun W hW => by obtain ⟨h0, h1, h2, h3⟩ := hW; go_simp) fH0 ?_
  simp only [Act.put, List.setIfInBounds_toArray, List.set_cons_zero, List.set_cons_succ]
  refine hr_take_w 24 (some 42) (.pointer (some ⟨d.b, 2, none⟩)) rfl rfl (by kernel_rfl) (by kernel_rfl) (by kernel_rfl) rfl (fun W hW => by obtain ⟨h0, h1, h2, h3⟩ := hW; go_simp) fH0 ?_
  simp only [Act.put, List.setIfInBounds_toArray, List.set_cons_zero, List.set_cons_succ]
  refine hr_take_w 25 (some 43) (.slice (some ⟨vb, vo, none⟩) d.vs.length d.vc) rfl rfl (by kernel_rfl) (by kernel_rfl) (by kernel_rfl) rfl (fun W hW => by obtain ⟨h0, h1, h2, h3⟩ := hW; go_simp) fH0 ?_
  simp only [Act.put, List.setIfInBounds_toArray, List.set_cons_zero, List.set_cons_succ]
  refine hr_take_w 26 (some 44) (.int .i64 d.vs.length) rfl rfl (by kernel_rfl) (by kernel_rfl) (by kernel_rfl) rfl (fun W hW => by obtain ⟨h0, h1, h2, h3⟩ := hW; go_simp) fH0 ?_
  simp only [Act.put, List.setIfInBounds_toArray, List.set_cons_zero, List.set_cons_succ]
  refine hr_take_w 27 (some 45) (.pointer (some ⟨d.b, 0, none⟩)) rfl rfl (by kernel_rfl) (by kernel_rfl) (by kernel_rfl) rfl (fun W hW => by obtain ⟨h0, h1, h2, h3⟩ := hW; go_simp) fH0 ?_
  simp only [Act.put, List.setIfInBounds_toArray, List.set_cons_zero, List.set_cons_succ]
  refine hr_take_w 28 (some 46) (.pointer (some ⟨d.b, 0, none⟩)) rfl rfl (by kernel_rfl) (by kernel_rfl) (by kernel_rfl) rfl (fun W hW => by obtain ⟨h0, h1, h2, h3⟩ := hW; go_simp) fH0 ?_
  simp only [Act.put, List.setIfInBounds_toArray, List.set_cons_zero, List.set_cons_succ]
  refine hr_take_w 29 (some 47) (.pointer (some ⟨d.b, 1, none⟩)) rfl rfl (by kernel_rfl) (by kernel_rfl) (by kernel_rfl) rfl (fun W hW => by obtain ⟨h0, h1, h2, h3⟩ := hW; go_simp) fH0 ?_
  simp only [Act.put, List.setIfInBounds_toArray, List.set_cons_zero, List.set_cons_succ]
  refine hr_take_w 30 (some 48) (.slice (some ⟨kb, ko, none⟩) d.ks.length d.kc) rfl rfl (by kernel_rfl) (by kernel_rfl) (by kernel_rfl) rfl (fun W hW => by obtain ⟨h0, h1, h2, h3⟩ := hW; go_simp) fH0 ?_
  simp only [Act.put, List.setIfInBounds_toArray, List.set_cons_zero, List.set_cons_succ]
  refine hr_take_w 31 (some 49) (.int .i64 d.ks.length) rfl rfl (by kernel_rfl) (by kernel_rfl) (by kernel_rfl) rfl (fun W hW => by obtain ⟨h0, h1, h2, h3⟩ := hW; go_simp) fH0 ?_
  simp only [Act.put, List.setIfInBounds_toArray, List.set_cons_zero, List.set_cons_succ]
  refine hr_take_w 32 (some 50) (.bool false) rfl rfl (by kernel_rfl) (by kernel_rfl) (by kernel_rfl) rfl (fun W hW => by obtain ⟨h0, h1, h2, h3⟩ := hW; go_simp) fH0 ?_
  simp only [Act.put, List.setIfInBounds_toArray, List.set_cons_zero, List.set_cons_succ]
  refine hr_take_w 33 (some 51) (.bool false) rfl rfl (by kernel_rfl) (by kernel_rfl) (by kernel_rfl) rfl (fun W hW => by obtain ⟨h0, h1, h2, h3⟩ := hW; go_simp) fH0 ?_
  simp only [Act.put, List.setIfInBounds_toArray, List.set_cons_zero, List.set_cons_succ]
  refine hr_take_w 34 (some 52) (.bool false) rfl rfl (by kernel_rfl) (by kernel_rfl) (by kernel_rfl) rfl (fun W hW => by obtain ⟨h0, h1, h2, h3⟩ := hW; go_simp) fH0 ?_
  simp only [Act.put, List.setIfInBounds_toArray, List.set_cons_zero, List.set_cons_succ]
  refine hr_take_w 35 (some 53) (.pointer (some ⟨d.b, 0, none⟩)) rfl rfl (by kernel_rfl) (by kernel_rfl) (by kernel_rfl) rfl (fun W hW => by obtain ⟨h0, h1, h2, h3⟩ := hW; go_simp) fH0 ?_
  simp only [Act.put, List.setIfInBounds_toArray, List.set_cons_zero, List.set_cons_succ]
  refine hr_take_w 36 (some 54) (.pointer (some ⟨d.b, 0, none⟩)) rfl rfl (by kernel_rfl) (by kernel_rfl) (by kernel_rfl) rfl (fun W hW => by obtain ⟨h0, h1, h2, h3⟩ := hW; go_simp) fH0 ?_
  simp only [Act.put, List.setIfInBounds_toArray, List.set_cons_zero, List.set_cons_succ]
  refine hr_take_w 37 (some 55) (.pointer (some ⟨d.b, 3, none⟩)) rfl rfl (by kernel_rfl) (by kernel_rfl) (by kernel_rfl) rfl (fun W hW => by obtain ⟨h0, h1, h2, h3⟩ := hW; go_simp) fH0 ?_
  simp only [Act.put, List.setIfInBounds_toArray, List.set_cons_zero, List.set_cons_succ]
  refine hr_take_w 38 (some 56) (.slice (some ⟨cb, co, none⟩) d.cs.length d.cc) rfl rfl (by kernel_rfl) (by kernel_rfl) (by kernel_rfl) rfl (fun W hW => by obtain ⟨h0, h1, h2, h3⟩ := hW; go_simp) fH0 ?_
  simp only [Act.put, List.setIfInBounds_toArray, List.set_cons_zero, List.set_cons_succ]
  refine hr_take_w 39 (some 57) (.int .i64 d.cs.length) rfl rfl (by kernel_rfl) (by kernel_rfl) (by kernel_rfl) rfl (fun W hW => by obtain ⟨h0, h1, h2, h3⟩ := hW; go_simp) fH0 ?_
  simp only [Act.put, List.setIfInBounds_toArray, List.set_cons_zero, List.set_cons_succ]
  refine hr_take_w 40 (some 58) (.pointer (some ⟨d.b, 0, none⟩)) rfl rfl (by kernel_rfl) (by kernel_rfl) (by kernel_rfl) rfl (fun W hW => by obtain ⟨h0, h1, h2, h3⟩ := hW; go_simp) fH0 ?_
  simp only [Act.put, List.setIfInBounds_toArray, List.set_cons_zero, List.set_cons_succ]
  refine hr_take_w 41 (some 59) (.pointer (some ⟨d.b, 0, none⟩)) rfl rfl (by kernel_rfl) (by kernel_rfl) (by kernel_rfl) rfl (fun W hW => by obtain ⟨h0, h1, h2, h3⟩ := hW; go_simp) fH0 ?_
  simp only [Act.put, List.setIfInBounds_toArray, List.set_cons_zero, List.set_cons_succ]
  refine hr_take_w 42 (some 60) (.pointer (some ⟨d.b, 1, none⟩)) rfl rfl (by kernel_rfl) (by kernel_rfl) (by kernel_rfl) rfl (fun W hW => by obtain ⟨h0, h1, h2, h3⟩ := hW; go_simp) fH0 ?_
  simp only [Act.put, List.setIfInBounds_toArray, List.set_cons_zero, List.set_cons_succ]
  refine hr_take_w 43 (some 61) (.slice (some ⟨kb, ko, none⟩) d.ks.length d.kc) rfl rfl (by kernel_rfl) (by kernel_rfl) (by kernel_rfl) rfl (fun W hW => by obtain ⟨h0, h1, h2, h3⟩ := hW; go_simp) fH0 ?_
  simp only [Act.put, List.setIfInBounds_toArray, List.set_cons_zero, List.set_cons_succ]
  refine hr_take_w 44 (some 62) (.int .i64 d.ks.length) rfl rfl (by kernel_rfl) (by kernel_rfl) (by kernel_rfl) rfl (fun W hW => by obtain ⟨h0, h1, h2, h3⟩ := hW; go_simp) fH0 ?_
  simp only [Act.put, List.setIfInBounds_toArray, List.set_cons_zero, List.set_cons_succ]
  refine hr_take_w 45 (some 63) (.int .i64 ((d.ks.length + 1 : Nat) : Int)) rfl rfl (by kernel_rfl) (by kernel_rfl) (by kernel_rfl) rfl (fun W hW => by obtain ⟨h0, h1, h2, h3⟩ := hW; go_simp) fH0 ?_
  simp only [Act.put, List.setIfInBounds_toArray, List.set_cons_zero, List.set_cons_succ]
  refine hr_take_w 46 (some 64) (.bool false) rfl rfl (by kernel_rfl) (by kernel_rfl) (by kernel_rfl) rfl (fun W hW => by obtain ⟨h0, h1, h2, h3⟩ := hW; go_simp; exact Q5.out) fH0 ?_
  simp only [Act.put, List.setIfInBounds_toArray, List.set_cons_zero, List.set_cons_succ]
  refine hr_take_w 47 (some 65) (.bool false) rfl rfl (by kernel_rfl) (by kernel_rfl) (by kernel_rfl) rfl (fun W hW => by obtain ⟨h0, h1, h2, h3⟩ := hW; go_simp) fH0 ?_
  simp only [Act.put, List.setIfInBounds_toArray, List.set_cons_zero, List.set_cons_succ]
  refine wpAnyH_done (by kernel_rfl) ?_ _
  refine NoPanic.normal ?_
  clear fHS fH0
  have c1f := (fE0.cell (World.block_lt_of_cell? _ _ c1)).trans c1
  go_wp2
  clear c1f q1 q2 q3 q4 Q5 q6
  go_loopw [10, 11] (fun m i wr => ∃ (ii M : Nat), ii ≤ d.ks.length + 1 ∧ i = .int .i64 ii ∧ m = .int .i64 ((d.ks.length + M : Nat) : Int) ∧ M = (segs.take ii).flatten.length ∧ Below w.heap.size w wr) (fun _ i _ => d.ks.length + 1 - (intOf i).toNat)
  case atStart => exact ⟨0, 0, Nat.zero_le _, rfl, rfl, rfl, fE0⟩
  case round =>
    clear fE0
    obtain ⟨ii, M, hii, rfl, rfl, hM, B⟩ := hrel
    have c1w := (B.cell (World.block_lt_of_cell? _ _ c1)).trans c1
    have HM : Hid (M = (segs.take ii).flatten.length) := hM
    clear hM
    have htot : (segs.take ii).flatten.length ≤ segs.flatten.length := by
      conv => rhs; rw [← List.take_append_drop ii segs, List.flatten_append, List.length_append]
      omega
    have hall := weave_total segs xs hN1.shp.len
    rw [← hN1.shp.eq] at hall
    have HALL : Hid (l.length = xs.length + segs.flatten.length) := hall
    have hMb : M ≤ 50000 := by have := HM.out; omega
    clear htot hall
    by_cases hlt : ii ≤ d.ks.length
    · have hki : (ii : Int) ≤ (d.ks.length : Int) := by omega
      have hix : ii ≤ xs.length := by have := HNK.out; omega
      obtain ⟨s, A, B', cut⟩ := hN1.shp.cut ii hix
      obtain ⟨u, hu, Tu⟩ := hN1.kid ii s cut.seg
      obtain ⟨pu, rfl⟩ := Tu.ptr
      have hcl : ii < d.cs.length := by have := HNK.out; omega
      have cu := HCC.out ii hcl
      rw [List.getElem?_eq_getElem hcl] at hu
      rw [Option.some.inj hu] at cu
      have hsm : s ∈ segs := List.mem_of_getElem? cut.seg
      have hslt : s.length < N := by have := hN1.shp.shorter s hsm; omega
      have HSS : Hid (Szd s) := fun x hx => HSZ.out x (hN1.shp.seg s hsm x hx)
      have HSRT : Hid (Srt s) := by
        have := HS.out
        rw [cut.el] at this
        exact this.app.2.1.app.1
      have HLV : Hid (∀ x ∈ s, lev x.k < d.L) := cut.ls
      have HMS : Hid (M + s.length = (segs.take (ii + 1)).flatten.length) := by
        show _ = _
        have hsi : ii < segs.length := by rw [hN1.shp.len]; omega
        have hse : segs[ii] = s := by have := cut.seg; rw [List.getElem?_eq_getElem hsi] at this; exact Option.some.inj this
        rw [List.take_succ_eq_append_getElem hsi, List.flatten_append, List.length_append, ← HM.out, hse]
        simp
      have hsb : s.length ≤ 50000 := by have := hN1.shp.shorter s hsm; omega
      have shw := sha.below B
      clear hu
      by_cases hi0 : ii = 0
      · have hq0 : ii < d.ks.length := by omega
        have hki2 : (ii : Int) < (d.ks.length : Int) := by omega
        have hip : ¬ (0 : Int) < (ii : Int) := by omega
        clear hi0
        have HLO : Hid (la ≠ none → ∀ x ∈ s, cmpL lx x.k < 0) := fun h x hx => HLO0.out h x (hN1.shp.seg s hsm x hx)
        have slw := sla.below B
        obtain ⟨q, hq⟩ : ∃ q, q = d.ks[ii] := ⟨_, rfl⟩
        have cq := HKC.out ii (by simpa using hq0)
        rw [List.getElem_map, ← hq] at cq
        have cqw := (B.cell (World.block_lt_of_cell? _ _ cq)).trans cq
        have sqw := (hN1.ok.kl.sl q (by rw [hq]; exact List.getElem_mem _)).below B
        have hxq : ii < xs.length := by have := HNK.out; omega
        have hqx : q.xs = xs[ii].k := by rw [hq]; exact hN1.keyAt ii hq0 hxq
        have HQX : Hid (q.xs = xs[ii].k) := hqx
        have hqn : q.n ≤ 1000000 := by rw [← sqw.len, hqx]; exact (HSZ.out _ (hN1.shp.key _ (List.getElem_mem hxq))).1
        have hql : ((lev q.xs : Int) != (d.L : Int)) = false := by rw [hqx, hN1.shp.top _ (List.getElem_mem hxq)]; simp
        have HHI : Hid (q.ao ≠ none → ∀ x ∈ s, cmpL x.k q.xs < 0) := fun _ => by rw [HQX.out]; exact cut.right HS.out hxq
        have HHQ : Hid (ha ≠ none → cmpL q.xs hx < 0) := fun h => by rw [HQX.out]; exact HHI0.out h _ (hN1.shp.key _ (List.getElem_mem _))
        obtain ⟨sq, hsq⟩ : ∃ s, s = strOfNums q.xs := ⟨_, rfl⟩
        have Hsq : Hid (sq = strOfNums q.xs) := hsq
        clear hq hqx cq hsq
        unfold Part.val at cqw
        have HLQ : Hid (la ≠ none → cmpL lx q.xs < 0) := fun h => by rw [HQX.out]; exact HLO0.out h _ (hN1.shp.key _ (List.getElem_mem _))
        go_wp2
        have c0w := (B.cell (World.block_lt_of_cell? _ _ c0)).trans c0
        rcases la with _ | lA
        · have nl : ∀ W, (binOp .neq 26 (.slice none ln lc) (.slice none 0 0)).run Tryd.prog W = .ok (.bool false) W := fun W => neq_nil W none ln lc
          rcases ha with _ | hA
          · have nh : ∀ W, (binOp .neq 26 (.slice none hn hc) (.slice none 0 0)).run Tryd.prog W = .ok (.bool false) W := fun W => neq_nil W none hn hc
            have tHS : Hid (∀ V, Below wr.heap.size wr V → V.cell? ⟨d.b, 0, none⟩ = some (.int .i64 (d.L : Nat))) := fun V hV => (hV.cell (World.block_lt_of_cell? _ _ c0w)).trans c0w
            have tE0 : Below wr.heap.size wr wr.drew := (Below.refl _ _).drew
            refine wp_region_noPanic ?_
            refine wp_region_held_drew (S := fun V => V.cell? ⟨d.b, 0, none⟩ = some (.int .i64 (d.L : Nat))) (by kernel_rfl) (tHS.out _ tE0) (fun tH0 => ?_)
            obtain ⟨tv0, hv0⟩ : ∃ v, v = wr.drew := ⟨_, rfl⟩
            rw [← hv0] at tH0 tE0 ⊢
            clear hv0
            refine hr_take_w 0 (some 106) (.slice q.ao q.n q.cap) rfl rfl (by kernel_rfl) (by kernel_rfl) (by kernel_rfl) rfl (fun W hW => by go_simp) tH0 ?_
            simp only [Act.put, List.setIfInBounds_toArray, List.set_cons_zero, List.set_cons_succ]
            refine hr_take_w 2 (some 108) (.pointer (some ⟨d.b, 0, none⟩)) rfl rfl (by kernel_rfl) (by kernel_rfl) (by kernel_rfl) rfl (fun W hW => by go_simp) tH0 ?_
            simp only [Act.put, List.setIfInBounds_toArray, List.set_cons_zero, List.set_cons_succ]
            refine hr_take_w 3 (some 109) (.pointer (some ⟨d.b, 0, none⟩)) rfl rfl (by kernel_rfl) (by kernel_rfl) (by kernel_rfl) rfl (fun W hW => by go_simp) tH0 ?_
            simp only [Act.put, List.setIfInBounds_toArray, List.set_cons_zero, List.set_cons_succ]
            refine hr_take_w 4 (some 110) (.pointer (some ⟨d.b, 0, none⟩)) rfl rfl (by kernel_rfl) (by kernel_rfl) (by kernel_rfl) rfl (fun W hW => by go_simp) tH0 ?_
            simp only [Act.put, List.setIfInBounds_toArray, List.set_cons_zero, List.set_cons_succ]
            refine hr_take_w 5 (some 111) (.int .i64 (d.L : Nat)) rfl rfl (by kernel_rfl) (by kernel_rfl) (by kernel_rfl) rfl (fun W hW => by go_simp) tH0 ?_
            simp only [Act.put, List.setIfInBounds_toArray, List.set_cons_zero, List.set_cons_succ]
            refine hr_call_w 1 (some 107) 28 #[.slice q.ao q.n q.cap] rfl rfl (by kernel_rfl) rfl (by go_simp) (fun v w' => v = .int .i64 (lev q.xs : Nat) ∧ Below tv0.heap.size tv0 w') ((level_any tv0 q.ao q.n q.cap q.xs (hT.below (B.trans (tE0.mono B.size)) h2) (sqw.below tE0) hqn).mono (by
              rintro e w' ⟨rfl, C⟩
              exact ⟨_, rfl, rfl, C⟩)) ?_
            rintro v tv1 ⟨rfl, tC0⟩
            have tE1 := tE0.trans (tC0.mono tE0.size)
            have tH1 := tHS.out tv1 tE1
            refine ⟨tH1, ?_⟩
            simp only [Act.put, List.setIfInBounds_toArray, List.set_cons_zero, List.set_cons_succ]
            refine hr_take_w 6 (some 112) (.bool false) rfl rfl (by kernel_rfl) (by kernel_rfl) (by kernel_rfl) rfl (fun W hW => by go_simp) tH1 ?_
            simp only [Act.put, List.setIfInBounds_toArray, List.set_cons_zero, List.set_cons_succ]
            refine hr_take_w 7 (some 113) (.bool false) rfl rfl (by kernel_rfl) (by kernel_rfl) (by kernel_rfl) rfl (fun W hW => by go_simp) tH1 ?_
            simp only [Act.put, List.setIfInBounds_toArray, List.set_cons_zero, List.set_cons_succ]
            refine hr_take_w 8 (some 114) (.slice none ln lc) rfl rfl (by kernel_rfl) (by kernel_rfl) (by kernel_rfl) rfl (fun W hW => by go_simp) tH1 ?_
            simp only [Act.put, List.setIfInBounds_toArray, List.set_cons_zero, List.set_cons_succ]
            refine hr_take_w 9 (some 115) (.bool false) rfl rfl (by kernel_rfl) (by kernel_rfl) (by kernel_rfl) rfl (fun W hW => by go_simp) tH1 ?_
            simp only [Act.put, List.setIfInBounds_toArray, List.set_cons_zero, List.set_cons_succ]
            refine hr_take_w 10 (some 116) (.bool false) rfl rfl (by kernel_rfl) (by kernel_rfl) (by kernel_rfl) rfl (fun W hW => by go_simp) tH1 ?_
            simp only [Act.put, List.setIfInBounds_toArray, List.set_cons_zero, List.set_cons_succ]
            refine hr_none 11 (some 117) rfl rfl (by kernel_rfl) (by kernel_rfl) (by kernel_rfl) rfl tH1 ?_
            simp only [Act.put, List.setIfInBounds_toArray, List.set_cons_zero, List.set_cons_succ]
            refine hr_none 12 (some 118) rfl rfl (by kernel_rfl) (by kernel_rfl) (by kernel_rfl) rfl tH1 ?_
            simp only [Act.put, List.setIfInBounds_toArray, List.set_cons_zero, List.set_cons_succ]
            refine hr_none 13 (some 119) rfl rfl (by kernel_rfl) (by kernel_rfl) (by kernel_rfl) rfl tH1 ?_
            simp only [Act.put, List.setIfInBounds_toArray, List.set_cons_zero, List.set_cons_succ]
            refine hr_none 14 (some 120) rfl rfl (by kernel_rfl) (by kernel_rfl) (by kernel_rfl) rfl tH1 ?_
            simp only [Act.put, List.setIfInBounds_toArray, List.set_cons_zero, List.set_cons_succ]
            refine hr_none 15 (some 121) rfl rfl (by kernel_rfl) (by kernel_rfl) (by kernel_rfl) rfl tH1 ?_
            simp only [Act.put, List.setIfInBounds_toArray, List.set_cons_zero, List.set_cons_succ]
            refine hr_take_w 16 (some 122) (.bool false) rfl rfl (by kernel_rfl) (by kernel_rfl) (by kernel_rfl) rfl (fun W hW => by go_simp) tH1 ?_
            simp only [Act.put, List.setIfInBounds_toArray, List.set_cons_zero, List.set_cons_succ]
            refine hr_take_w 17 (some 123) (.bool false) rfl rfl (by kernel_rfl) (by kernel_rfl) (by kernel_rfl) rfl (fun W hW => by go_simp) tH1 ?_
            simp only [Act.put, List.setIfInBounds_toArray, List.set_cons_zero, List.set_cons_succ]
            refine hr_take_w 18 (some 124) (.bool false) rfl rfl (by kernel_rfl) (by kernel_rfl) (by kernel_rfl) rfl (fun W hW => by go_simp) tH1 ?_
            simp only [Act.put, List.setIfInBounds_toArray, List.set_cons_zero, List.set_cons_succ]
            refine hr_take_w 19 (some 125) (.slice none hn hc) rfl rfl (by kernel_rfl) (by kernel_rfl) (by kernel_rfl) rfl (fun W hW => by go_simp) tH1 ?_
            simp only [Act.put, List.setIfInBounds_toArray, List.set_cons_zero, List.set_cons_succ]
            refine hr_take_w 20 (some 126) (.bool false) rfl rfl (by kernel_rfl) (by kernel_rfl) (by kernel_rfl) rfl (fun W hW => by go_simp) tH1 ?_
            simp only [Act.put, List.setIfInBounds_toArray, List.set_cons_zero, List.set_cons_succ]
            refine hr_take_w 21 (some 127) (.bool false) rfl rfl (by kernel_rfl) (by kernel_rfl) (by kernel_rfl) rfl (fun W hW => by go_simp) tH1 ?_
            simp only [Act.put, List.setIfInBounds_toArray, List.set_cons_zero, List.set_cons_succ]
            refine hr_none 22 (some 128) rfl rfl (by kernel_rfl) (by kernel_rfl) (by kernel_rfl) rfl tH1 ?_
            simp only [Act.put, List.setIfInBounds_toArray, List.set_cons_zero, List.set_cons_succ]
            refine hr_none 23 (some 129) rfl rfl (by kernel_rfl) (by kernel_rfl) (by kernel_rfl) rfl tH1 ?_
            simp only [Act.put, List.setIfInBounds_toArray, List.set_cons_zero, List.set_cons_succ]
            refine hr_none 24 (some 130) rfl rfl (by kernel_rfl) (by kernel_rfl) (by kernel_rfl) rfl tH1 ?_
            simp only [Act.put, List.setIfInBounds_toArray, List.set_cons_zero, List.set_cons_succ]
            refine hr_none 25 (some 131) rfl rfl (by kernel_rfl) (by kernel_rfl) (by kernel_rfl) rfl tH1 ?_
            simp only [Act.put, List.setIfInBounds_toArray, List.set_cons_zero, List.set_cons_succ]
            refine hr_none 26 (some 132) rfl rfl (by kernel_rfl) (by kernel_rfl) (by kernel_rfl) rfl tH1 ?_
            simp only [Act.put, List.setIfInBounds_toArray, List.set_cons_zero, List.set_cons_succ]
            refine hr_take_w 27 (some 133) (.bool false) rfl rfl (by kernel_rfl) (by kernel_rfl) (by kernel_rfl) rfl (fun W hW => by go_simp) tH1 ?_
            simp only [Act.put, List.setIfInBounds_toArray, List.set_cons_zero, List.set_cons_succ]
            refine hr_take_w 28 (some 134) (.bool false) rfl rfl (by kernel_rfl) (by kernel_rfl) (by kernel_rfl) rfl (fun W hW => by go_simp) tH1 ?_
            simp only [Act.put, List.setIfInBounds_toArray, List.set_cons_zero, List.set_cons_succ]
            refine wpAnyH_done (by kernel_rfl) ?_ _
            refine NoPanic.normal ?_
            clear c0w tHS tH0 tH1
            have BK : Below w.heap.size w tv1 := B.trans (tE1.mono B.size)
            have slk : Sl tv1 none ln lc lx := slw.below tE1
            have shk : Sl tv1 q.ao q.n q.cap q.xs := sqw.below tE1
            have c0k := (BK.cell (World.block_lt_of_cell? _ _ c0)).trans c0
            have c3k := (BK.cell (World.block_lt_of_cell? _ _ c3)).trans c3
            have cuk := (BK.cell (World.block_lt_of_cell? _ _ cu)).trans cu
            go_wp2
            have kHS : Hid (∀ V, Below tv1.heap.size tv1 V → V.cell? ⟨d.b, 0, none⟩ = some (.int .i64 (d.L : Nat)) ∧ V.cell? ⟨d.b, 3, none⟩ = some (.slice (some ⟨cb, co, none⟩) d.cs.length d.cc) ∧ V.cell? ⟨cb, co + ii, none⟩ = some (.pointer pu)) := fun V hV => ⟨(hV.cell (World.block_lt_of_cell? _ _ c0k)).trans c0k, (hV.cell (World.block_lt_of_cell? _ _ c3k)).trans c3k, (hV.cell (World.block_lt_of_cell? _ _ cuk)).trans cuk⟩
            have kE0 : Below tv1.heap.size tv1 tv1.drew := (Below.refl _ _).drew
            refine wp_region_noPanic ?_
            refine wp_region_held_drew (S := fun V => V.cell? ⟨d.b, 0, none⟩ = some (.int .i64 (d.L : Nat)) ∧ V.cell? ⟨d.b, 3, none⟩ = some (.slice (some ⟨cb, co, none⟩) d.cs.length d.cc) ∧ V.cell? ⟨cb, co + ii, none⟩ = some (.pointer pu)) (by kernel_rfl) (kHS.out _ kE0) (fun kH0 => ?_)
            obtain ⟨kv0, hv0⟩ : ∃ v, v = tv1.drew := ⟨_, rfl⟩
            rw [← hv0] at kH0 kE0 ⊢
            clear hv0
            refine hr_take_w 0 (some 136) (.pointer (some ⟨d.b, 0, none⟩)) rfl rfl (by kernel_rfl) (by kernel_rfl) (by kernel_rfl) rfl (fun W hW => by obtain ⟨h0, h1, h2⟩ := hW; go_simp) kH0 ?_
            simp only [Act.put, List.setIfInBounds_toArray, List.set_cons_zero, List.set_cons_succ]
            refine hr_take_w 1 (some 137) (.pointer (some ⟨d.b, 0, none⟩)) rfl rfl (by kernel_rfl) (by kernel_rfl) (by kernel_rfl) rfl (fun W hW => by obtain ⟨h0, h1, h2⟩ := hW; go_simp) kH0 ?_
            simp only [Act.put, List.setIfInBounds_toArray, List.set_cons_zero, List.set_cons_succ]
            refine hr_take_w 2 (some 138) (.pointer (some ⟨d.b, 3, none⟩)) rfl rfl (by kernel_rfl) (by kernel_rfl) (by kernel_rfl) rfl (fun W hW => by obtain ⟨h0, h1, h2⟩ := hW; go_simp) kH0 ?_
            simp only [Act.put, List.setIfInBounds_toArray, List.set_cons_zero, List.set_cons_succ]
            refine hr_take_w 3 (some 139) (.slice (some ⟨cb, co, none⟩) d.cs.length d.cc) rfl rfl (by kernel_rfl) (by kernel_rfl) (by kernel_rfl) rfl (fun W hW => by obtain ⟨h0, h1, h2⟩ := hW; go_simp) kH0 ?_
            simp only [Act.put, List.setIfInBounds_toArray, List.set_cons_zero, List.set_cons_succ]
            refine hr_take_w 4 (some 140) (.int .i64 ii) rfl rfl (by kernel_rfl) (by kernel_rfl) (by kernel_rfl) rfl (fun W hW => by obtain ⟨h0, h1, h2⟩ := hW; go_simp) kH0 ?_
            simp only [Act.put, List.setIfInBounds_toArray, List.set_cons_zero, List.set_cons_succ]
            refine hr_take_w 5 (some 141) (.pointer (some ⟨cb, co + ii, none⟩)) rfl rfl (by kernel_rfl) (by kernel_rfl) (by kernel_rfl) rfl (fun W hW => by obtain ⟨h0, h1, h2⟩ := hW; go_simp) kH0 ?_
            simp only [Act.put, List.setIfInBounds_toArray, List.set_cons_zero, List.set_cons_succ]
            refine hr_take_w 6 (some 142) (.pointer pu) rfl rfl (by kernel_rfl) (by kernel_rfl) (by kernel_rfl) rfl (fun W hW => by obtain ⟨h0, h1, h2⟩ := hW; go_simp) kH0 ?_
            simp only [Act.put, List.setIfInBounds_toArray, List.set_cons_zero, List.set_cons_succ]
            refine hr_take_w 7 (some 143) (.slice none ln lc) rfl rfl (by kernel_rfl) (by kernel_rfl) (by kernel_rfl) rfl (fun W hW => by obtain ⟨h0, h1, h2⟩ := hW; go_simp) kH0 ?_
            simp only [Act.put, List.setIfInBounds_toArray, List.set_cons_zero, List.set_cons_succ]
            refine hr_take_w 8 (some 144) (.slice q.ao q.n q.cap) rfl rfl (by kernel_rfl) (by kernel_rfl) (by kernel_rfl) rfl (fun W hW => by obtain ⟨h0, h1, h2⟩ := hW; go_simp) kH0 ?_
            simp only [Act.put, List.setIfInBounds_toArray, List.set_cons_zero, List.set_cons_succ]
            refine hr_take_w 9 (some 145) (.pointer (some ⟨d.b, 0, none⟩)) rfl rfl (by kernel_rfl) (by kernel_rfl) (by kernel_rfl) rfl (fun W hW => by obtain ⟨h0, h1, h2⟩ := hW; go_simp) kH0 ?_
            simp only [Act.put, List.setIfInBounds_toArray, List.set_cons_zero, List.set_cons_succ]
            refine hr_take_w 10 (some 146) (.pointer (some ⟨d.b, 0, none⟩)) rfl rfl (by kernel_rfl) (by kernel_rfl) (by kernel_rfl) rfl (fun W hW => by obtain ⟨h0, h1, h2⟩ := hW; go_simp) kH0 ?_
            simp only [Act.put, List.setIfInBounds_toArray, List.set_cons_zero, List.set_cons_succ]
            refine hr_take_w 11 (some 147) (.pointer (some ⟨d.b, 0, none⟩)) rfl rfl (by kernel_rfl) (by kernel_rfl) (by kernel_rfl) rfl (fun W hW => by obtain ⟨h0, h1, h2⟩ := hW; go_simp) kH0 ?_
            simp only [Act.put, List.setIfInBounds_toArray, List.set_cons_zero, List.set_cons_succ]
            refine hr_take_w 12 (some 148) (.int .i64 (d.L : Nat)) rfl rfl (by kernel_rfl) (by kernel_rfl) (by kernel_rfl) rfl (fun W hW => by obtain ⟨h0, h1, h2⟩ := hW; go_simp) kH0 ?_
            simp only [Act.put, List.setIfInBounds_toArray, List.set_cons_zero, List.set_cons_succ]
            refine hr_call_w 13 (some 149) 18 #[.pointer pu, .slice none ln lc, .slice q.ao q.n q.cap, .int .i64 (d.L : Nat)] rfl rfl (by kernel_rfl) rfl (by go_simp) (fun v w' => v = .tuple #[.int .i64 (s.length : Nat), .bool true] ∧ Below kv0.heap.size kv0 w') ((ih s.length hslt kv0 (.pointer pu) s none ln lc lx q.ao q.n q.cap q.xs d.L (hT.below (BK.trans (kE0.mono BK.size)) h2) (Tu.below (BK.trans (kE0.mono BK.size))) HSRT.out (slk.below kE0) (shk.below kE0) HLO.out HHI.out HLV.out hL64 (by omega) HSS.out (Nat.le_refl _)).mono (by
              rintro e w' ⟨rfl, C⟩
              exact ⟨_, rfl, rfl, C⟩)) ?_
            rintro v kv1 ⟨rfl, kC0⟩
            have kE1 := kE0.trans (kC0.mono kE0.size)
            have kH1 := kHS.out kv1 kE1
            refine ⟨kH1, ?_⟩
            simp only [Act.put, List.setIfInBounds_toArray, List.set_cons_zero, List.set_cons_succ]
            refine hr_take_w 14 (some 135) (.tuple #[.int .i64 (s.length : Nat), .bool true]) rfl rfl (by kernel_rfl) (by kernel_rfl) (by kernel_rfl) rfl (fun W hW => by obtain ⟨h0, h1, h2⟩ := hW; go_simp) kH1 ?_
            simp only [Act.put, List.setIfInBounds_toArray, List.set_cons_zero, List.set_cons_succ]
            refine hr_take_w 15 (some 150) (.int .i64 (s.length : Nat)) rfl rfl (by kernel_rfl) (by kernel_rfl) (by kernel_rfl) rfl (fun W hW => by obtain ⟨h0, h1, h2⟩ := hW; go_simp) kH1 ?_
            simp only [Act.put, List.setIfInBounds_toArray, List.set_cons_zero, List.set_cons_succ]
            refine hr_take_w 16 (some 151) (.bool true) rfl rfl (by kernel_rfl) (by kernel_rfl) (by kernel_rfl) rfl (fun W hW => by obtain ⟨h0, h1, h2⟩ := hW; go_simp) kH1 ?_
            simp only [Act.put, List.setIfInBounds_toArray, List.set_cons_zero, List.set_cons_succ]
            refine hr_take_w 17 (some 14) (.int .i64 (s.length : Nat)) rfl rfl (by kernel_rfl) (by kernel_rfl) (by kernel_rfl) rfl (fun W hW => by obtain ⟨h0, h1, h2⟩ := hW; go_simp) kH1 ?_
            simp only [Act.put, List.setIfInBounds_toArray, List.set_cons_zero, List.set_cons_succ]
            refine hr_take_w 18 (some 15) (.bool true) rfl rfl (by kernel_rfl) (by kernel_rfl) (by kernel_rfl) rfl (fun W hW => by obtain ⟨h0, h1, h2⟩ := hW; go_simp) kH1 ?_
            simp only [Act.put, List.setIfInBounds_toArray, List.set_cons_zero, List.set_cons_succ]
            refine wpAnyH_done (by kernel_rfl) ?_ _
            refine NoPanic.normal ?_
            clear c0k c3k cuk kHS kH0 kH1
            have B2 := BK.trans (kE1.mono BK.size)
            go_wp2
            refine ⟨?_, ?_⟩
            · iterate 94 apply Exists.intro
              refine ⟨?_, rfl⟩
              exact ⟨ii + 1, M + s.length, by omega, by go_num, by go_num, HMS.out, B2⟩
            · simp [intOf]; omega
          · have nh : ∀ W, (binOp .neq 26 (.slice (some hA) hn hc) (.slice none 0 0)).run Tryd.prog W = .ok (.bool true) W := fun W => neq_nil W (some hA) hn hc
            obtain ⟨sh, hsh⟩ : ∃ s, s = strOfNums hx := ⟨_, rfl⟩
            have Hsh : Hid (sh = strOfNums hx) := hsh
            have g2 : ∀ W, (binOp .geq 9 (.string sq) (.string sh)).run Tryd.prog W = .ok (.bool false) W := fun W => by rw [Hsq.out, Hsh.out]; exact geq_str sqw.byte shw.byte (HHQ.out (by simp)) _ W
            clear hsh
            have tHS : Hid (∀ V, Below wr.heap.size wr V → V.cell? ⟨d.b, 0, none⟩ = some (.int .i64 (d.L : Nat)) ∧ (convert 26 9 (.slice q.ao q.n q.cap)).run Tryd.prog V = .ok (.string sq) V ∧ (convert 26 9 (.slice (some hA) hn hc)).run Tryd.prog V = .ok (.string sh) V) := fun V hV => ⟨(hV.cell (World.block_lt_of_cell? _ _ c0w)).trans c0w, by rw [Hsq.out]; exact conv_str (sqw.below hV), by rw [Hsh.out]; exact conv_str (shw.below hV)⟩
            have tE0 : Below wr.heap.size wr wr.drew := (Below.refl _ _).drew
            refine wp_region_noPanic ?_
            refine wp_region_held_drew (S := fun V => V.cell? ⟨d.b, 0, none⟩ = some (.int .i64 (d.L : Nat)) ∧ (convert 26 9 (.slice q.ao q.n q.cap)).run Tryd.prog V = .ok (.string sq) V ∧ (convert 26 9 (.slice (some hA) hn hc)).run Tryd.prog V = .ok (.string sh) V) (by kernel_rfl) (tHS.out _ tE0) (fun tH0 => ?_)
            obtain ⟨tv0, hv0⟩ : ∃ v, v = wr.drew := ⟨_, rfl⟩
            rw [← hv0] at tH0 tE0 ⊢
            clear hv0
            refine hr_take_w 0 (some 106) (.slice q.ao q.n q.cap) rfl rfl (by kernel_rfl) (by kernel_rfl) (by kernel_rfl) rfl (fun W hW => by obtain ⟨h0, h1, h2⟩ := hW; go_simp) tH0 ?_
            simp only [Act.put, List.setIfInBounds_toArray, List.set_cons_zero, List.set_cons_succ]
            refine hr_take_w 2 (some 108) (.pointer (some ⟨d.b, 0, none⟩)) rfl rfl (by kernel_rfl) (by kernel_rfl) (by kernel_rfl) rfl (fun W hW => by obtain ⟨h0, h1, h2⟩ := hW; go_simp) tH0 ?_
            simp only [Act.put, List.setIfInBounds_toArray, List.set_cons_zero, List.set_cons_succ]
            refine hr_take_w 3 (some 109) (.pointer (some ⟨d.b, 0, none⟩)) rfl rfl (by kernel_rfl) (by kernel_rfl) (by kernel_rfl) rfl (fun W hW => by obtain ⟨h0, h1, h2⟩ := hW; go_simp) tH0 ?_
            simp only [Act.put, List.setIfInBounds_toArray, List.set_cons_zero, List.set_cons_succ]
            refine hr_take_w 4 (some 110) (.pointer (some ⟨d.b, 0, none⟩)) rfl rfl (by kernel_rfl) (by kernel_rfl) (by kernel_rfl) rfl (fun W hW => by obtain ⟨h0, h1, h2⟩ := hW; go_simp) tH0 ?_
            simp only [Act.put, List.setIfInBounds_toArray, List.set_cons_zero, List.set_cons_succ]
            refine hr_take_w 5 (some 111) (.int .i64 (d.L : Nat)) rfl rfl (by kernel_rfl) (by kernel_rfl) (by kernel_rfl) rfl (fun W hW => by obtain ⟨h0, h1, h2⟩ := hW; go_simp) tH0 ?_
            simp only [Act.put, List.setIfInBounds_toArray, List.set_cons_zero, List.set_cons_succ]
            refine hr_call_w 1 (some 107) 28 #[.slice q.ao q.n q.cap] rfl rfl (by kernel_rfl) rfl (by go_simp) (fun v w' => v = .int .i64 (lev q.xs : Nat) ∧ Below tv0.heap.size tv0 w') ((level_any tv0 q.ao q.n q.cap q.xs (hT.below (B.trans (tE0.mono B.size)) h2) (sqw.below tE0) hqn).mono (by
              rintro e w' ⟨rfl, C⟩
              exact ⟨_, rfl, rfl, C⟩)) ?_
            rintro v tv1 ⟨rfl, tC0⟩
            have tE1 := tE0.trans (tC0.mono tE0.size)
            have tH1 := tHS.out tv1 tE1
            refine ⟨tH1, ?_⟩
            simp only [Act.put, List.setIfInBounds_toArray, List.set_cons_zero, List.set_cons_succ]
            refine hr_take_w 6 (some 112) (.bool false) rfl rfl (by kernel_rfl) (by kernel_rfl) (by kernel_rfl) rfl (fun W hW => by obtain ⟨h0, h1, h2⟩ := hW; go_simp) tH1 ?_
            simp only [Act.put, List.setIfInBounds_toArray, List.set_cons_zero, List.set_cons_succ]
            refine hr_take_w 7 (some 113) (.bool false) rfl rfl (by kernel_rfl) (by kernel_rfl) (by kernel_rfl) rfl (fun W hW => by obtain ⟨h0, h1, h2⟩ := hW; go_simp) tH1 ?_
            simp only [Act.put, List.setIfInBounds_toArray, List.set_cons_zero, List.set_cons_succ]
            refine hr_take_w 8 (some 114) (.slice none ln lc) rfl rfl (by kernel_rfl) (by kernel_rfl) (by kernel_rfl) rfl (fun W hW => by obtain ⟨h0, h1, h2⟩ := hW; go_simp) tH1 ?_
            simp only [Act.put, List.setIfInBounds_toArray, List.set_cons_zero, List.set_cons_succ]
            refine hr_take_w 9 (some 115) (.bool false) rfl rfl (by kernel_rfl) (by kernel_rfl) (by kernel_rfl) rfl (fun W hW => by obtain ⟨h0, h1, h2⟩ := hW; go_simp) tH1 ?_
            simp only [Act.put, List.setIfInBounds_toArray, List.set_cons_zero, List.set_cons_succ]
            refine hr_take_w 10 (some 116) (.bool false) rfl rfl (by kernel_rfl) (by kernel_rfl) (by kernel_rfl) rfl (fun W hW => by obtain ⟨h0, h1, h2⟩ := hW; go_simp) tH1 ?_
            simp only [Act.put, List.setIfInBounds_toArray, List.set_cons_zero, List.set_cons_succ]
            refine hr_none 11 (some 117) rfl rfl (by kernel_rfl) (by kernel_rfl) (by kernel_rfl) rfl tH1 ?_
            simp only [Act.put, List.setIfInBounds_toArray, List.set_cons_zero, List.set_cons_succ]
            refine hr_none 12 (some 118) rfl rfl (by kernel_rfl) (by kernel_rfl) (by kernel_rfl) rfl tH1 ?_
            simp only [Act.put, List.setIfInBounds_toArray, List.set_cons_zero, List.set_cons_succ]
            refine hr_none 13 (some 119) rfl rfl (by kernel_rfl) (by kernel_rfl) (by kernel_rfl) rfl tH1 ?_
            simp only [Act.put, List.setIfInBounds_toArray, List.set_cons_zero, List.set_cons_succ]
            refine hr_none 14 (some 120) rfl rfl (by kernel_rfl) (by kernel_rfl) (by kernel_rfl) rfl tH1 ?_
            simp only [Act.put, List.setIfInBounds_toArray, List.set_cons_zero, List.set_cons_succ]
            refine hr_none 15 (some 121) rfl rfl (by kernel_rfl) (by kernel_rfl) (by kernel_rfl) rfl tH1 ?_
            simp only [Act.put, List.setIfInBounds_toArray, List.set_cons_zero, List.set_cons_succ]
            refine hr_take_w 16 (some 122) (.bool false) rfl rfl (by kernel_rfl) (by kernel_rfl) (by kernel_rfl) rfl (fun W hW => by obtain ⟨h0, h1, h2⟩ := hW; go_simp) tH1 ?_
            simp only [Act.put, List.setIfInBounds_toArray, List.set_cons_zero, List.set_cons_succ]
            refine hr_take_w 17 (some 123) (.bool false) rfl rfl (by kernel_rfl) (by kernel_rfl) (by kernel_rfl) rfl (fun W hW => by obtain ⟨h0, h1, h2⟩ := hW; go_simp) tH1 ?_
            simp only [Act.put, List.setIfInBounds_toArray, List.set_cons_zero, List.set_cons_succ]
            refine hr_take_w 18 (some 124) (.bool false) rfl rfl (by kernel_rfl) (by kernel_rfl) (by kernel_rfl) rfl (fun W hW => by obtain ⟨h0, h1, h2⟩ := hW; go_simp) tH1 ?_
            simp only [Act.put, List.setIfInBounds_toArray, List.set_cons_zero, List.set_cons_succ]
            refine hr_take_w 19 (some 125) (.slice (some hA) hn hc) rfl rfl (by kernel_rfl) (by kernel_rfl) (by kernel_rfl) rfl (fun W hW => by obtain ⟨h0, h1, h2⟩ := hW; go_simp) tH1 ?_
            simp only [Act.put, List.setIfInBounds_toArray, List.set_cons_zero, List.set_cons_succ]
            refine hr_take_w 20 (some 126) (.bool true) rfl rfl (by kernel_rfl) (by kernel_rfl) (by kernel_rfl) rfl (fun W hW => by obtain ⟨h0, h1, h2⟩ := hW; go_simp) tH1 ?_
            simp only [Act.put, List.setIfInBounds_toArray, List.set_cons_zero, List.set_cons_succ]
            refine hr_take_w 21 (some 127) (.bool true) rfl rfl (by kernel_rfl) (by kernel_rfl) (by kernel_rfl) rfl (fun W hW => by obtain ⟨h0, h1, h2⟩ := hW; go_simp) tH1 ?_
            simp only [Act.put, List.setIfInBounds_toArray, List.set_cons_zero, List.set_cons_succ]
            refine hr_take_w 22 (some 128) (.slice q.ao q.n q.cap) rfl rfl (by kernel_rfl) (by kernel_rfl) (by kernel_rfl) rfl (fun W hW => by obtain ⟨h0, h1, h2⟩ := hW; go_simp) tH1 ?_
            simp only [Act.put, List.setIfInBounds_toArray, List.set_cons_zero, List.set_cons_succ]
            refine hr_take_w 23 (some 129) (.string sq) rfl rfl (by kernel_rfl) (by kernel_rfl) (by kernel_rfl) rfl (fun W hW => by obtain ⟨h0, h1, h2⟩ := hW; go_simp) tH1 ?_
            simp only [Act.put, List.setIfInBounds_toArray, List.set_cons_zero, List.set_cons_succ]
            refine hr_take_w 24 (some 130) (.slice (some hA) hn hc) rfl rfl (by kernel_rfl) (by kernel_rfl) (by kernel_rfl) rfl (fun W hW => by obtain ⟨h0, h1, h2⟩ := hW; go_simp) tH1 ?_
            simp only [Act.put, List.setIfInBounds_toArray, List.set_cons_zero, List.set_cons_succ]
            refine hr_take_w 25 (some 131) (.string sh) rfl rfl (by kernel_rfl) (by kernel_rfl) (by kernel_rfl) rfl (fun W hW => by obtain ⟨h0, h1, h2⟩ := hW; go_simp) tH1 ?_
            simp only [Act.put, List.setIfInBounds_toArray, List.set_cons_zero, List.set_cons_succ]
            refine hr_take_w 26 (some 132) (.bool false) rfl rfl (by kernel_rfl) (by kernel_rfl) (by kernel_rfl) rfl (fun W hW => by obtain ⟨h0, h1, h2⟩ := hW; go_simp) tH1 ?_
            simp only [Act.put, List.setIfInBounds_toArray, List.set_cons_zero, List.set_cons_succ]
            refine hr_take_w 27 (some 133) (.bool false) rfl rfl (by kernel_rfl) (by kernel_rfl) (by kernel_rfl) rfl (fun W hW => by obtain ⟨h0, h1, h2⟩ := hW; go_simp) tH1 ?_
            simp only [Act.put, List.setIfInBounds_toArray, List.set_cons_zero, List.set_cons_succ]
            refine hr_take_w 28 (some 134) (.bool false) rfl rfl (by kernel_rfl) (by kernel_rfl) (by kernel_rfl) rfl (fun W hW => by obtain ⟨h0, h1, h2⟩ := hW; go_simp) tH1 ?_
            simp only [Act.put, List.setIfInBounds_toArray, List.set_cons_zero, List.set_cons_succ]
            refine wpAnyH_done (by kernel_rfl) ?_ _
            refine NoPanic.normal ?_
            clear c0w tHS tH0 tH1
            have BK : Below w.heap.size w tv1 := B.trans (tE1.mono B.size)
            have slk : Sl tv1 none ln lc lx := slw.below tE1
            have shk : Sl tv1 q.ao q.n q.cap q.xs := sqw.below tE1
            have c0k := (BK.cell (World.block_lt_of_cell? _ _ c0)).trans c0
            have c3k := (BK.cell (World.block_lt_of_cell? _ _ c3)).trans c3
            have cuk := (BK.cell (World.block_lt_of_cell? _ _ cu)).trans cu
            go_wp2
            have kHS : Hid (∀ V, Below tv1.heap.size tv1 V → V.cell? ⟨d.b, 0, none⟩ = some (.int .i64 (d.L : Nat)) ∧ V.cell? ⟨d.b, 3, none⟩ = some (.slice (some ⟨cb, co, none⟩) d.cs.length d.cc) ∧ V.cell? ⟨cb, co + ii, none⟩ = some (.pointer pu)) := fun V hV => ⟨(hV.cell (World.block_lt_of_cell? _ _ c0k)).trans c0k, (hV.cell (World.block_lt_of_cell? _ _ c3k)).trans c3k, (hV.cell (World.block_lt_of_cell? _ _ cuk)).trans cuk⟩
            have kE0 : Below tv1.heap.size tv1 tv1.drew := (Below.refl _ _).drew
            refine wp_region_noPanic ?_
            refine wp_region_held_drew (S := fun V => V.cell? ⟨d.b, 0, none⟩ = some (.int .i64 (d.L : Nat)) ∧ V.cell? ⟨d.b, 3, none⟩ = some (.slice (some ⟨cb, co, none⟩) d.cs.length d.cc) ∧ V.cell? ⟨cb, co + ii, none⟩ = some (.pointer pu)) (by kernel_rfl) (kHS.out _ kE0) (fun kH0 => ?_)
            obtain ⟨kv0, hv0⟩ : ∃ v, v = tv1.drew := ⟨_, rfl⟩
            rw [← hv0] at kH0 kE0 ⊢
            clear hv0
            refine hr_take_w 0 (some 136) (.pointer (some ⟨d.b, 0, none⟩)) rfl rfl (by kernel_rfl) (by kernel_rfl) (by kernel_rfl) rfl (fun W hW => by obtain ⟨h0, h1, h2⟩ := hW; go_simp) kH0 ?_
            simp only [Act.put, List.setIfInBounds_toArray, List.set_cons_zero, List.set_cons_succ]
            refine hr_take_w 1 (some 137) (.pointer (some ⟨d.b, 0, none⟩)) rfl rfl (by kernel_rfl) (by kernel_rfl) (by kernel_rfl) rfl (fun W hW => by obtain ⟨h0, h1, h2⟩ := hW; go_simp) kH0 ?_
            simp only [Act.put, List.setIfInBounds_toArray, List.set_cons_zero, List.set_cons_succ]
            refine hr_take_w 2 (some 138) (.pointer (some ⟨d.b, 3, none⟩)) rfl rfl (by kernel_rfl) (by kernel_rfl) (by kernel_rfl) rfl (fun W hW => by obtain ⟨h0, h1, h2⟩ := hW; go_simp) kH0 ?_
            simp only [Act.put, List.setIfInBounds_toArray, List.set_cons_zero, List.set_cons_succ]
            refine hr_take_w 3 (some 139) (.slice (some ⟨cb, co, none⟩) d.cs.length d.cc) rfl rfl (by kernel_rfl) (by kernel_rfl) (by kernel_rfl) rfl (fun W hW => by obtain ⟨h0, h1, h2⟩ := hW; go_simp) kH0 ?_
            simp only [Act.put, List.setIfInBounds_toArray, List.set_cons_zero, List.set_cons_succ]
            refine hr_take_w 4 (some 140) (.int .i64 ii) rfl rfl (by kernel_rfl) (by kernel_rfl) (by kernel_rfl) rfl (fun W hW => by obtain ⟨h0, h1, h2⟩ := hW; go_simp) kH0 ?_
            simp only [Act.put, List.setIfInBounds_toArray, List.set_cons_zero, List.set_cons_succ]
            refine hr_take_w 5 (some 141) (.pointer (some ⟨cb, co + ii, none⟩)) rfl rfl (by kernel_rfl) (by kernel_rfl) (by kernel_rfl) rfl (fun W hW => by obtain ⟨h0, h1, h2⟩ := hW; go_simp) kH0 ?_
            simp only [Act.put, List.setIfInBounds_toArray, List.set_cons_zero, List.set_cons_succ]
            refine hr_take_w 6 (some 142) (.pointer pu) rfl rfl (by kernel_rfl) (by kernel_rfl) (by kernel_rfl) rfl (fun W hW => by obtain ⟨h0, h1, h2⟩ := hW; go_simp) kH0 ?_
            simp only [Act.put, List.setIfInBounds_toArray, List.set_cons_zero, List.set_cons_succ]
            refine hr_take_w 7 (some 143) (.slice none ln lc) rfl rfl (by kernel_rfl) (by kernel_rfl) (by kernel_rfl) rfl (fun W hW => by obtain ⟨h0, h1, h2⟩ := hW; go_simp) kH0 ?_
            simp only [Act.put, List.setIfInBounds_toArray, List.set_cons_zero, List.set_cons_succ]
            refine hr_take_w 8 (some 144) (.slice q.ao q.n q.cap) rfl rfl (by kernel_rfl) (by kernel_rfl) (by kernel_rfl) rfl (fun W hW => by obtain ⟨h0, h1, h2⟩ := hW; go_simp) kH0 ?_
            simp only [Act.put, List.setIfInBounds_toArray, List.set_cons_zero, List.set_cons_succ]
            refine hr_take_w 9 (some 145) (.pointer (some ⟨d.b, 0, none⟩)) rfl rfl (by kernel_rfl) (by kernel_rfl) (by kernel_rfl) rfl (fun W hW => by obtain ⟨h0, h1, h2⟩ := hW; go_simp) kH0 ?_
            simp only [Act.put, List.setIfInBounds_toArray, List.set_cons_zero, List.set_cons_succ]
            refine hr_take_w 10 (some 146) (.pointer (some ⟨d.b, 0, none⟩)) rfl rfl (by kernel_rfl) (by kernel_rfl) (by kernel_rfl) rfl (fun W hW => by obtain ⟨h0, h1, h2⟩ := hW; go_simp) kH0 ?_
            simp only [Act.put, List.setIfInBounds_toArray, List.set_cons_zero, List.set_cons_succ]
            refine hr_take_w 11 (some 147) (.pointer (some ⟨d.b, 0, none⟩)) rfl rfl (by kernel_rfl) (by kernel_rfl) (by kernel_rfl) rfl (fun W hW => by obtain ⟨h0, h1, h2⟩ := hW; go_simp) kH0 ?_
            simp only [Act.put, List.setIfInBounds_toArray, List.set_cons_zero, List.set_cons_succ]
            refine hr_take_w 12 (some 148) (.int .i64 (d.L : Nat)) rfl rfl (by kernel_rfl) (by kernel_rfl) (by kernel_rfl) rfl (fun W hW => by obtain ⟨h0, h1, h2⟩ := hW; go_simp) kH0 ?_
            simp only [Act.put, List.setIfInBounds_toArray, List.set_cons_zero, List.set_cons_succ]
            refine hr_call_w 13 (some 149) 18 #[.pointer pu, .slice none ln lc, .slice q.ao q.n q.cap, .int .i64 (d.L : Nat)] rfl rfl (by kernel_rfl) rfl (by go_simp) (fun v w' => v = .tuple #[.int .i64 (s.length : Nat), .bool true] ∧ Below kv0.heap.size kv0 w') ((ih s.length hslt kv0 (.pointer pu) s none ln lc lx q.ao q.n q.cap q.xs d.L (hT.below (BK.trans (kE0.mono BK.size)) h2) (Tu.below (BK.trans (kE0.mono BK.size))) HSRT.out (slk.below kE0) (shk.below kE0) HLO.out HHI.out HLV.out hL64 (by omega) HSS.out (Nat.le_refl _)).mono (by
              rintro e w' ⟨rfl, C⟩
              exact ⟨_, rfl, rfl, C⟩)) ?_
            rintro v kv1 ⟨rfl, kC0⟩
            have kE1 := kE0.trans (kC0.mono kE0.size)
            have kH1 := kHS.out kv1 kE1
            refine ⟨kH1, ?_⟩
            simp only [Act.put, List.setIfInBounds_toArray, List.set_cons_zero, List.set_cons_succ]
            refine hr_take_w 14 (some 135) (.tuple #[.int .i64 (s.length : Nat), .bool true]) rfl rfl (by kernel_rfl) (by kernel_rfl) (by kernel_rfl) rfl (fun W hW => by obtain ⟨h0, h1, h2⟩ := hW; go_simp) kH1 ?_
            simp only [Act.put, List.setIfInBounds_toArray, List.set_cons_zero, List.set_cons_succ]
            refine hr_take_w 15 (some 150) (.int .i64 (s.length : Nat)) rfl rfl (by kernel_rfl) (by kernel_rfl) (by kernel_rfl) rfl (fun W hW => by obtain ⟨h0, h1, h2⟩ := hW; go_simp) kH1 ?_
            simp only [Act.put, List.setIfInBounds_toArray, List.set_cons_zero, List.set_cons_succ]
            refine hr_take_w 16 (some 151) (.bool true) rfl rfl (by kernel_rfl) (by kernel_rfl) (by kernel_rfl) rfl (fun W hW => by obtain ⟨h0, h1, h2⟩ := hW; go_simp) kH1 ?_
            simp only [Act.put, List.setIfInBounds_toArray, List.set_cons_zero, List.set_cons_succ]
            refine hr_take_w 17 (some 14) (.int .i64 (s.length : Nat)) rfl rfl (by kernel_rfl) (by kernel_rfl) (by kernel_rfl) rfl (fun W hW => by obtain ⟨h0, h1, h2⟩ := hW; go_simp) kH1 ?_
            simp only [Act.put, List.setIfInBounds_toArray, List.set_cons_zero, List.set_cons_succ]
            refine hr_take_w 18 (some 15) (.bool true) rfl rfl (by kernel_rfl) (by kernel_rfl) (by kernel_rfl) rfl (fun W hW => by obtain ⟨h0, h1, h2⟩ := hW; go_simp) kH1 ?_
            simp only [Act.put, List.setIfInBounds_toArray, List.set_cons_zero, List.set_cons_succ]
            refine wpAnyH_done (by kernel_rfl) ?_ _
            refine NoPanic.normal ?_
            clear c0k c3k cuk kHS kH0 kH1
            have B2 := BK.trans (kE1.mono BK.size)
            go_wp2
            refine ⟨?_, ?_⟩
            · iterate 94 apply Exists.intro
              refine ⟨?_, rfl⟩
              exact ⟨ii + 1, M + s.length, by omega, by go_num, by go_num, HMS.out, B2⟩
            · simp [intOf]; omega
        · have nl : ∀ W, (binOp .neq 26 (.slice (some lA) ln lc) (.slice none 0 0)).run Tryd.prog W = .ok (.bool true) W := fun W => neq_nil W (some lA) ln lc
          obtain ⟨sl, hsl⟩ : ∃ s, s = strOfNums lx := ⟨_, rfl⟩
          have Hsl : Hid (sl = strOfNums lx) := hsl
          have g1 : ∀ W, (binOp .geq 9 (.string sl) (.string sq)).run Tryd.prog W = .ok (.bool false) W := fun W => by rw [Hsl.out, Hsq.out]; exact geq_str slw.byte sqw.byte (HLQ.out (by simp)) _ W
          clear hsl
          rcases ha with _ | hA
          · have nh : ∀ W, (binOp .neq 26 (.slice none hn hc) (.slice none 0 0)).run Tryd.prog W = .ok (.bool false) W := fun W => neq_nil W none hn hc
            have tHS : Hid (∀ V, Below wr.heap.size wr V → V.cell? ⟨d.b, 0, none⟩ = some (.int .i64 (d.L : Nat)) ∧ (convert 26 9 (.slice q.ao q.n q.cap)).run Tryd.prog V = .ok (.string sq) V ∧ (convert 26 9 (.slice (some lA) ln lc)).run Tryd.prog V = .ok (.string sl) V) := fun V hV => ⟨(hV.cell (World.block_lt_of_cell? _ _ c0w)).trans c0w, by rw [Hsq.out]; exact conv_str (sqw.below hV), by rw [Hsl.out]; exact conv_str (slw.below hV)⟩
            have tE0 : Below wr.heap.size wr wr.drew := (Below.refl _ _).drew
            refine wp_region_noPanic ?_
            refine wp_region_held_drew (S := fun V => V.cell? ⟨d.b, 0, none⟩ = some (.int .i64 (d.L : Nat)) ∧ (convert 26 9 (.slice q.ao q.n q.cap)).run Tryd.prog V = .ok (.string sq) V ∧ (convert 26 9 (.slice (some lA) ln lc)).run Tryd.prog V = .ok (.string sl) V) (by kernel_rfl) (tHS.out _ tE0) (fun tH0 => ?_)
            obtain ⟨tv0, hv0⟩ : ∃ v, v = wr.drew := ⟨_, rfl⟩
            rw [← hv0] at tH0 tE0 ⊢
            clear hv0
            refine hr_take_w 0 (some 106) (.slice q.ao q.n q.cap) rfl rfl (by kernel_rfl) (by kernel_rfl) (by kernel_rfl) rfl (fun W hW => by obtain ⟨h0, h1, h2⟩ := hW; go_simp) tH0 ?_
            simp only [Act.put, List.setIfInBounds_toArray, List.set_cons_zero, List.set_cons_succ]
            refine hr_take_w 2 (some 108) (.pointer (some ⟨d.b, 0, none⟩)) rfl rfl (by kernel_rfl) (by kernel_rfl) (by kernel_rfl) rfl (fun W hW => by obtain ⟨h0, h1, h2⟩ := hW; go_simp) tH0 ?_
            simp only [Act.put, List.setIfInBounds_toArray, List.set_cons_zero, List.set_cons_succ]
            refine hr_take_w 3 (some 109) (.pointer (some ⟨d.b, 0, none⟩)) rfl rfl (by kernel_rfl) (by kernel_rfl) (by kernel_rfl) rfl (fun W hW => by obtain ⟨h0, h1, h2⟩ := hW; go_simp) tH0 ?_
            simp only [Act.put, List.setIfInBounds_toArray, List.set_cons_zero, List.set_cons_succ]
            refine hr_take_w 4 (some 110) (.pointer (some ⟨d.b, 0, none⟩)) rfl rfl (by kernel_rfl) (by kernel_rfl) (by kernel_rfl) rfl (fun W hW => by obtain ⟨h0, h1, h2⟩ := hW; go_simp) tH0 ?_
            simp only [Act.put, List.setIfInBounds_toArray, List.set_cons_zero, List.set_cons_succ]
            refine hr_take_w 5 (some 111) (.int .i64 (d.L : Nat)) rfl rfl (by kernel_rfl) (by kernel_rfl) (by kernel_rfl) rfl (fun W hW => by obtain ⟨h0, h1, h2⟩ := hW; go_simp) tH0 ?_
            simp only [Act.put, List.setIfInBounds_toArray, List.set_cons_zero, List.set_cons_succ]
            refine hr_call_w 1 (some 107) 28 #[.slice q.ao q.n q.cap] rfl rfl (by kernel_rfl) rfl (by go_simp) (fun v w' => v = .int .i64 (lev q.xs : Nat) ∧ Below tv0.heap.size tv0 w') ((level_any tv0 q.ao q.n q.cap q.xs (hT.below (B.trans (tE0.mono B.size)) h2) (sqw.below tE0) hqn).mono (by
              rintro e w' ⟨rfl, C⟩
              exact ⟨_, rfl, rfl, C⟩)) ?_
            rintro v tv1 ⟨rfl, tC0⟩
            have tE1 := tE0.trans (tC0.mono tE0.size)
            have tH1 := tHS.out tv1 tE1
            refine ⟨tH1, ?_⟩
            simp only [Act.put, List.setIfInBounds_toArray, List.set_cons_zero, List.set_cons_succ]
            refine hr_take_w 6 (some 112) (.bool false) rfl rfl (by kernel_rfl) (by kernel_rfl) (by kernel_rfl) rfl (fun W hW => by obtain ⟨h0, h1, h2⟩ := hW; go_simp) tH1 ?_
            simp only [Act.put, List.setIfInBounds_toArray, List.set_cons_zero, List.set_cons_succ]
            refine hr_take_w 7 (some 113) (.bool false) rfl rfl (by kernel_rfl) (by kernel_rfl) (by kernel_rfl) rfl (fun W hW => by obtain ⟨h0, h1, h2⟩ := hW; go_simp) tH1 ?_
            simp only [Act.put, List.setIfInBounds_toArray, List.set_cons_zero, List.set_cons_succ]
            refine hr_take_w 8 (some 114) (.slice (some lA) ln lc) rfl rfl (by kernel_rfl) (by kernel_rfl) (by kernel_rfl) rfl (fun W hW => by obtain ⟨h0, h1, h2⟩ := hW; go_simp) tH1 ?_
            simp only [Act.put, List.setIfInBounds_toArray, List.set_cons_zero, List.set_cons_succ]
            refine hr_take_w 9 (some 115) (.bool true) rfl rfl (by kernel_rfl) (by kernel_rfl) (by kernel_rfl) rfl (fun W hW => by obtain ⟨h0, h1, h2⟩ := hW; go_simp) tH1 ?_
            simp only [Act.put, List.setIfInBounds_toArray, List.set_cons_zero, List.set_cons_succ]
            refine hr_take_w 10 (some 116) (.bool true) rfl rfl (by kernel_rfl) (by kernel_rfl) (by kernel_rfl) rfl (fun W hW => by obtain ⟨h0, h1, h2⟩ := hW; go_simp) tH1 ?_
            simp only [Act.put, List.setIfInBounds_toArray, List.set_cons_zero, List.set_cons_succ]
            refine hr_take_w 11 (some 117) (.slice (some lA) ln lc) rfl rfl (by kernel_rfl) (by kernel_rfl) (by kernel_rfl) rfl (fun W hW => by obtain ⟨h0, h1, h2⟩ := hW; go_simp) tH1 ?_
            simp only [Act.put, List.setIfInBounds_toArray, List.set_cons_zero, List.set_cons_succ]
            refine hr_take_w 12 (some 118) (.string sl) rfl rfl (by kernel_rfl) (by kernel_rfl) (by kernel_rfl) rfl (fun W hW => by obtain ⟨h0, h1, h2⟩ := hW; go_simp) tH1 ?_
            simp only [Act.put, List.setIfInBounds_toArray, List.set_cons_zero, List.set_cons_succ]
            refine hr_take_w 13 (some 119) (.slice q.ao q.n q.cap) rfl rfl (by kernel_rfl) (by kernel_rfl) (by kernel_rfl) rfl (fun W hW => by obtain ⟨h0, h1, h2⟩ := hW; go_simp) tH1 ?_
            simp only [Act.put, List.setIfInBounds_toArray, List.set_cons_zero, List.set_cons_succ]
            refine hr_take_w 14 (some 120) (.string sq) rfl rfl (by kernel_rfl) (by kernel_rfl) (by kernel_rfl) rfl (fun W hW => by obtain ⟨h0, h1, h2⟩ := hW; go_simp) tH1 ?_
            simp only [Act.put, List.setIfInBounds_toArray, List.set_cons_zero, List.set_cons_succ]
            refine hr_take_w 15 (some 121) (.bool false) rfl rfl (by kernel_rfl) (by kernel_rfl) (by kernel_rfl) rfl (fun W hW => by obtain ⟨h0, h1, h2⟩ := hW; go_simp) tH1 ?_
            simp only [Act.put, List.setIfInBounds_toArray, List.set_cons_zero, List.set_cons_succ]
            refine hr_take_w 16 (some 122) (.bool false) rfl rfl (by kernel_rfl) (by kernel_rfl) (by kernel_rfl) rfl (fun W hW => by obtain ⟨h0, h1, h2⟩ := hW; go_simp) tH1 ?_
            simp only [Act.put, List.setIfInBounds_toArray, List.set_cons_zero, List.set_cons_succ]
            refine hr_take_w 17 (some 123) (.bool false) rfl rfl (by kernel_rfl) (by kernel_rfl) (by kernel_rfl) rfl (fun W hW => by obtain ⟨h0, h1, h2⟩ := hW; go_simp) tH1 ?_
            simp only [Act.put, List.setIfInBounds_toArray, List.set_cons_zero, List.set_cons_succ]
            refine hr_take_w 18 (some 124) (.bool false) rfl rfl (by kernel_rfl) (by kernel_rfl) (by kernel_rfl) rfl (fun W hW => by obtain ⟨h0, h1, h2⟩ := hW; go_simp) tH1 ?_
            simp only [Act.put, List.setIfInBounds_toArray, List.set_cons_zero, List.set_cons_succ]
            refine hr_take_w 19 (some 125) (.slice none hn hc) rfl rfl (by kernel_rfl) (by kernel_rfl) (by kernel_rfl) rfl (fun W hW => by obtain ⟨h0, h1, h2⟩ := hW; go_simp) tH1 ?_
            simp only [Act.put, List.setIfInBounds_toArray, List.set_cons_zero, List.set_cons_succ]
            refine hr_take_w 20 (some 126) (.bool false) rfl rfl (by kernel_rfl) (by kernel_rfl) (by kernel_rfl) rfl (fun W hW => by obtain ⟨h0, h1, h2⟩ := hW; go_simp) tH1 ?_
            simp only [Act.put, List.setIfInBounds_toArray, List.set_cons_zero, List.set_cons_succ]
            refine hr_take_w 21 (some 127) (.bool false) rfl rfl (by kernel_rfl) (by kernel_rfl) (by kernel_rfl) rfl (fun W hW => by obtain ⟨h0, h1, h2⟩ := hW; go_simp) tH1 ?_
            simp only [Act.put, List.setIfInBounds_toArray, List.set_cons_zero, List.set_cons_succ]
            refine hr_none 22 (some 128) rfl rfl (by kernel_rfl) (by kernel_rfl) (by kernel_rfl) rfl tH1 ?_
            simp only [Act.put, List.setIfInBounds_toArray, List.set_cons_zero, List.set_cons_succ]
            refine hr_none 23 (some 129) rfl rfl (by kernel_rfl) (by kernel_rfl) (by kernel_rfl) rfl tH1 ?_
            simp only [Act.put, List.setIfInBounds_toArray, List.set_cons_zero, List.set_cons_succ]
            refine hr_none 24 (some 130) rfl rfl (by kernel_rfl) (by kernel_rfl) (by kernel_rfl) rfl tH1 ?_
            simp only [Act.put, List.setIfInBounds_toArray, List.set_cons_zero, List.set_cons_succ]
            refine hr_none 25 (some 131) rfl rfl (by kernel_rfl) (by kernel_rfl) (by kernel_rfl) rfl tH1 ?_
            simp only [Act.put, List.setIfInBounds_toArray, List.set_cons_zero, List.set_cons_succ]
            refine hr_none 26 (some 132) rfl rfl (by kernel_rfl) (by kernel_rfl) (by kernel_rfl) rfl tH1 ?_
            simp only [Act.put, List.setIfInBounds_toArray, List.set_cons_zero, List.set_cons_succ]
            refine hr_take_w 27 (some 133) (.bool false) rfl rfl (by kernel_rfl) (by kernel_rfl) (by kernel_rfl) rfl (fun W hW => by obtain ⟨h0, h1, h2⟩ := hW; go_simp) tH1 ?_
            simp only [Act.put, List.setIfInBounds_toArray, List.set_cons_zero, List.set_cons_succ]
            refine hr_take_w 28 (some 134) (.bool false) rfl rfl (by kernel_rfl) (by kernel_rfl) (by kernel_rfl) rfl (fun W hW => by obtain ⟨h0, h1, h2⟩ := hW; go_simp) tH1 ?_
            simp only [Act.put, List.setIfInBounds_toArray, List.set_cons_zero, List.set_cons_succ]
            refine wpAnyH_done (by kernel_rfl) ?_ _
            refine NoPanic.normal ?_
            clear c0w tHS tH0 tH1
            have BK : Below w.heap.size w tv1 := B.trans (tE1.mono B.size)
            have slk : Sl tv1 (some lA) ln lc lx := slw.below tE1
            have shk : Sl tv1 q.ao q.n q.cap q.xs := sqw.below tE1
            have c0k := (BK.cell (World.block_lt_of_cell? _ _ c0)).trans c0
            have c3k := (BK.cell (World.block_lt_of_cell? _ _ c3)).trans c3
            have cuk := (BK.cell (World.block_lt_of_cell? _ _ cu)).trans cu
            go_wp2
            have kHS : Hid (∀ V, Below tv1.heap.size tv1 V → V.cell? ⟨d.b, 0, none⟩ = some (.int .i64 (d.L : Nat)) ∧ V.cell? ⟨d.b, 3, none⟩ = some (.slice (some ⟨cb, co, none⟩) d.cs.length d.cc) ∧ V.cell? ⟨cb, co + ii, none⟩ = some (.pointer pu)) := fun V hV => ⟨(hV.cell (World.block_lt_of_cell? _ _ c0k)).trans c0k, (hV.cell (World.block_lt_of_cell? _ _ c3k)).trans c3k, (hV.cell (World.block_lt_of_cell? _ _ cuk)).trans cuk⟩
            have kE0 : Below tv1.heap.size tv1 tv1.drew := (Below.refl _ _).drew
            refine wp_region_noPanic ?_
            refine wp_region_held_drew (S := fun V => V.cell? ⟨d.b, 0, none⟩ = some (.int .i64 (d.L : Nat)) ∧ V.cell? ⟨d.b, 3, none⟩ = some (.slice (some ⟨cb, co, none⟩) d.cs.length d.cc) ∧ V.cell? ⟨cb, co + ii, none⟩ = some (.pointer pu)) (by kernel_rfl) (kHS.out _ kE0) (fun kH0 => ?_)
            obtain ⟨kv0, hv0⟩ : ∃ v, v = tv1.drew := ⟨_, rfl⟩
            rw [← hv0] at kH0 kE0 ⊢
            clear hv0
            refine hr_take_w 0 (some 136) (.pointer (some ⟨d.b, 0, none⟩)) rfl rfl (by kernel_rfl) (by kernel_rfl) (by kernel_rfl) rfl (fun W hW => by obtain ⟨h0, h1, h2⟩ := hW; go_simp) kH0 ?_
            simp only [Act.put, List.setIfInBounds_toArray, List.set_cons_zero, List.set_cons_succ]
            refine hr_take_w 1 (some 137) (.pointer (some ⟨d.b, 0, none⟩)) rfl rfl (by kernel_rfl) (by kernel_rfl) (by kernel_rfl) rfl (fun W hW => by obtain ⟨h0, h1, h2⟩ := hW; go_simp) kH0 ?_
            simp only [Act.put, List.setIfInBounds_toArray, List.set_cons_zero, List.set_cons_succ]
            refine hr_take_w 2 (some 138) (.pointer (some ⟨d.b, 3, none⟩)) rfl rfl (by kernel_rfl) (by kernel_rfl) (by kernel_rfl) rfl (fun W hW => by obtain ⟨h0, h1, h2⟩ := hW; go_simp) kH0 ?_
            simp only [Act.put, List.setIfInBounds_toArray, List.set_cons_zero, List.set_cons_succ]
            refine hr_take_w 3 (some 139) (.slice (some ⟨cb, co, none⟩) d.cs.length d.cc) rfl rfl (by kernel_rfl) (by kernel_rfl) (by kernel_rfl) rfl (fun W hW => by obtain ⟨h0, h1, h2⟩ := hW; go_simp) kH0 ?_
            simp only [Act.put, List.setIfInBounds_toArray, List.set_cons_zero, List.set_cons_succ]
            refine hr_take_w 4 (some 140) (.int .i64 ii) rfl rfl (by kernel_rfl) (by kernel_rfl) (by kernel_rfl) rfl (fun W hW => by obtain ⟨h0, h1, h2⟩ := hW; go_simp) kH0 ?_
            simp only [Act.put, List.setIfInBounds_toArray, List.set_cons_zero, List.set_cons_succ]
            refine hr_take_w 5 (some 141) (.pointer (some ⟨cb, co + ii, none⟩)) rfl rfl (by kernel_rfl) (by kernel_rfl) (by kernel_rfl) rfl (fun W hW => by obtain ⟨h0, h1, h2⟩ := hW; go_simp) kH0 ?_
            simp only [Act.put, List.setIfInBounds_toArray, List.set_cons_zero, List.set_cons_succ]
            refine hr_take_w 6 (some 142) (.pointer pu) rfl rfl (by kernel_rfl) (by kernel_rfl) (by kernel_rfl) rfl (fun W hW => by obtain ⟨h0, h1, h2⟩ := hW; go_simp) kH0 ?_
            simp only [Act.put, List.setIfInBounds_toArray, List.set_cons_zero, List.set_cons_succ]
            refine hr_take_w 7 (some 143) (.slice (some lA) ln lc) rfl rfl (by kernel_rfl) (by kernel_rfl) (by kernel_rfl) rfl (fun W hW => by obtain ⟨h0, h1, h2⟩ := hW; go_simp) kH0 ?_
            simp only [Act.put, List.setIfInBounds_toArray, List.set_cons_zero, List.set_cons_succ]
            refine hr_take_w 8 (some 144) (.slice q.ao q.n q.cap) rfl rfl (by kernel_rfl) (by kernel_rfl) (by kernel_rfl) rfl (fun W hW => by obtain ⟨h0, h1, h2⟩ := hW; go_simp) kH0 ?_
            simp only [Act.put, List.setIfInBounds_toArray, List.set_cons_zero, List.set_cons_succ]
            refine hr_take_w 9 (some 145) (.pointer (some ⟨d.b, 0, none⟩)) rfl rfl (by kernel_rfl) (by kernel_rfl) (by kernel_rfl) rfl (fun W hW => by obtain ⟨h0, h1, h2⟩ := hW; go_simp) kH0 ?_
            simp only [Act.put, List.setIfInBounds_toArray, List.set_cons_zero, List.set_cons_succ]
            refine hr_take_w 10 (some 146) (.pointer (some ⟨d.b, 0, none⟩)) rfl rfl (by kernel_rfl) (by kernel_rfl) (by kernel_rfl) rfl (fun W hW => by obtain ⟨h0, h1, h2⟩ := hW; go_simp) kH0 ?_
            simp only [Act.put, List.setIfInBounds_toArray, List.set_cons_zero, List.set_cons_succ]
            refine hr_take_w 11 (some 147) (.pointer (some ⟨d.b, 0, none⟩)) rfl rfl (by kernel_rfl) (by kernel_rfl) (by kernel_rfl) rfl (fun W hW => by obtain ⟨h0, h1, h2⟩ := hW; go_simp) kH0 ?_
            simp only [Act.put, List.setIfInBounds_toArray, List.set_cons_zero, List.set_cons_succ]
            refine hr_take_w 12 (some 148) (.int .i64 (d.L : Nat)) rfl rfl (by kernel_rfl) (by kernel_rfl) (by kernel_rfl) rfl (fun W hW => by obtain ⟨h0, h1, h2⟩ := hW; go_simp) kH0 ?_
            simp only [Act.put, List.setIfInBounds_toArray, List.set_cons_zero, List.set_cons_succ]
            refine hr_call_w 13 (some 149) 18 #[.pointer pu, .slice (some lA) ln lc, .slice q.ao q.n q.cap, .int .i64 (d.L : Nat)] rfl rfl (by kernel_rfl) rfl (by go_simp) (fun v w' => v = .tuple #[.int .i64 (s.length : Nat), .bool true] ∧ Below kv0.heap.size kv0 w') ((ih s.length hslt kv0 (.pointer pu) s (some lA) ln lc lx q.ao q.n q.cap q.xs d.L (hT.below (BK.trans (kE0.mono BK.size)) h2) (Tu.below (BK.trans (kE0.mono BK.size))) HSRT.out (slk.below kE0) (shk.below kE0) HLO.out HHI.out HLV.out hL64 (by omega) HSS.out (Nat.le_refl _)).mono (by
              rintro e w' ⟨rfl, C⟩
              exact ⟨_, rfl, rfl, C⟩)) ?_
            rintro v kv1 ⟨rfl, kC0⟩
            have kE1 := kE0.trans (kC0.mono kE0.size)
            have kH1 := kHS.out kv1 kE1
            refine ⟨kH1, ?_⟩
            simp only [Act.put, List.setIfInBounds_toArray, List.set_cons_zero, List.set_cons_succ]
            refine hr_take_w 14 (some 135) (.tuple #[.int .i64 (s.length : Nat), .bool true]) rfl rfl (by kernel_rfl) (by kernel_rfl) (by kernel_rfl) rfl (fun W hW => by obtain ⟨h0, h1, h2⟩ := hW; go_simp) kH1 ?_
            simp only [Act.put, List.setIfInBounds_toArray, List.set_cons_zero, List.set_cons_succ]
            refine hr_take_w 15 (some 150) (.int .i64 (s.length : Nat)) rfl rfl (by kernel_rfl) (by kernel_rfl) (by kernel_rfl) rfl (fun W hW => by obtain ⟨h0, h1, h2⟩ := hW; go_simp) kH1 ?_
            simp only [Act.put, List.setIfInBounds_toArray, List.set_cons_zero, List.set_cons_succ]
            refine hr_take_w 16 (some 151) (.bool true) rfl rfl (by kernel_rfl) (by kernel_rfl) (by kernel_rfl) rfl (fun W hW => by obtain ⟨h0, h1, h2⟩ := hW; go_simp) kH1 ?_
            simp only [Act.put, List.setIfInBounds_toArray, List.set_cons_zero, List.set_cons_succ]
            refine hr_take_w 17 (some 14) (.int .i64 (s.length : Nat)) rfl rfl (by kernel_rfl) (by kernel_rfl) (by kernel_rfl) rfl (fun W hW => by obtain ⟨h0, h1, h2⟩ := hW; go_simp) kH1 ?_
            simp only [Act.put, List.setIfInBounds_toArray, List.set_cons_zero, List.set_cons_succ]
            refine hr_take_w 18 (some 15) (.bool true) rfl rfl (by kernel_rfl) (by kernel_rfl) (by kernel_rfl) rfl (fun W hW => by obtain ⟨h0, h1, h2⟩ := hW; go_simp) kH1 ?_
            simp only [Act.put, List.setIfInBounds_toArray, List.set_cons_zero, List.set_cons_succ]
            refine wpAnyH_done (by kernel_rfl) ?_ _
            refine NoPanic.normal ?_
            clear c0k c3k cuk kHS kH0 kH1
            have B2 := BK.trans (kE1.mono BK.size)
            go_wp2
            refine ⟨?_, ?_⟩
            · iterate 94 apply Exists.intro
              refine ⟨?_, rfl⟩
              exact ⟨ii + 1, M + s.length, by omega, by go_num, by go_num, HMS.out, B2⟩
            · simp [intOf]; omega
          · have nh : ∀ W, (binOp .neq 26 (.slice (some hA) hn hc) (.slice none 0 0)).run Tryd.prog W = .ok (.bool true) W := fun W => neq_nil W (some hA) hn hc
            obtain ⟨sh, hsh⟩ : ∃ s, s = strOfNums hx := ⟨_, rfl⟩
            have Hsh : Hid (sh = strOfNums hx) := hsh
            have g2 : ∀ W, (binOp .geq 9 (.string sq) (.string sh)).run Tryd.prog W = .ok (.bool false) W := fun W => by rw [Hsq.out, Hsh.out]; exact geq_str sqw.byte shw.byte (HHQ.out (by simp)) _ W
            clear hsh
            have tHS : Hid (∀ V, Below wr.heap.size wr V → V.cell? ⟨d.b, 0, none⟩ = some (.int .i64 (d.L : Nat)) ∧ (convert 26 9 (.slice q.ao q.n q.cap)).run Tryd.prog V = .ok (.string sq) V ∧ (convert 26 9 (.slice (some lA) ln lc)).run Tryd.prog V = .ok (.string sl) V ∧ (convert 26 9 (.slice (some hA) hn hc)).run Tryd.prog V = .ok (.string sh) V) := fun V hV => ⟨(hV.cell (World.block_lt_of_cell? _ _ c0w)).trans c0w, by rw [Hsq.out]; exact conv_str (sqw.below hV), by rw [Hsl.out]; exact conv_str (slw.below hV), by rw [Hsh.out]; exact conv_str (shw.below hV)⟩
            have tE0 : Below wr.heap.size wr wr.drew := (Below.refl _ _).drew
            refine wp_region_noPanic ?_
            refine wp_region_held_drew (S := fun V => V.cell? ⟨d.b, 0, none⟩ = some (.int .i64 (d.L : Nat)) ∧ (convert 26 9 (.slice q.ao q.n q.cap)).run Tryd.prog V = .ok (.string sq) V ∧ (convert 26 9 (.slice (some lA) ln lc)).run Tryd.prog V = .ok (.string sl) V ∧ (convert 26 9 (.slice (some hA) hn hc)).run Tryd.prog V = .ok (.string sh) V) (by kernel_rfl) (tHS.out _ tE0) (fun tH0 => ?_)
            obtain ⟨tv0, hv0⟩ : ∃ v, v = wr.drew := ⟨_, rfl⟩
            rw [← hv0] at tH0 tE0 ⊢
            clear hv0
            refine hr_take_w 0 (some 106) (.slice q.ao q.n q.cap) rfl rfl (by kernel_rfl) (by kernel_rfl) (by kernel_rfl) rfl (fun W hW => by obtain ⟨h0, h1, h2, h3⟩ := hW; go_simp) tH0 ?_
            simp only [Act.put, List.setIfInBounds_toArray, List.set_cons_zero, List.set_cons_succ]
            refine hr_take_w 2 (some 108) (.pointer (some ⟨d.b, 0, none⟩)) rfl rfl (by kernel_rfl) (by kernel_rfl) (by kernel_rfl) rfl (fun W hW => by obtain ⟨h0, h1, h2, h3⟩ := hW; go_simp) tH0 ?_
            simp only [Act.put, List.setIfInBounds_toArray, List.set_cons_zero, List.set_cons_succ]
            refine hr_take_w 3 (some 109) (.pointer (some ⟨d.b, 0, none⟩)) rfl rfl (by kernel_rfl) (by kernel_rfl) (by kernel_rfl) rfl (fun W hW => by obtain ⟨h0, h1, h2, h3⟩ := hW; go_simp) tH0 ?_
            simp only [Act.put, List.setIfInBounds_toArray, List.set_cons_zero, List.set_cons_succ]
            refine hr_take_w 4 (some 110) (.pointer (some ⟨d.b, 0, none⟩)) rfl rfl (by kernel_rfl) (by kernel_rfl) (by kernel_rfl) rfl (fun W hW => by obtain ⟨h0, h1, h2, h3⟩ := hW; go_simp) tH0 ?_
            simp only [Act.put, List.setIfInBounds_toArray, List.set_cons_zero, List.set_cons_succ]
            refine hr_take_w 5 (some 111) (.int .i64 (d.L : Nat)) rfl rfl (by kernel_rfl) (by kernel_rfl) (by kernel_rfl) rfl (fun W hW => by obtain ⟨h0, h1, h2, h3⟩ := hW; go_simp) tH0 ?_
            simp only [Act.put, List.setIfInBounds_toArray, List.set_cons_zero, List.set_cons_succ]
            refine hr_call_w 1 (some 107) 28 #[.slice q.ao q.n q.cap] rfl rfl (by kernel_rfl) rfl (by go_simp) (fun v w' => v = .int .i64 (lev q.xs : Nat) ∧ Below tv0.heap.size tv0 w') ((level_any tv0 q.ao q.n q.cap q.xs (hT.below (B.trans (tE0.mono B.size)) h2) (sqw.below tE0) hqn).mono (by
              rintro e w' ⟨rfl, C⟩
              exact ⟨_, rfl, rfl, C⟩)) ?_
            rintro v tv1 ⟨rfl, tC0⟩
            have tE1 := tE0.trans (tC0.mono tE0.size)
            have tH1 := tHS.out tv1 tE1
            refine ⟨tH1, ?_⟩
            simp only [Act.put, List.setIfInBounds_toArray, List.set_cons_zero, List.set_cons_succ]
            refine hr_take_w 6 (some 112) (.bool false) rfl rfl (by kernel_rfl) (by kernel_rfl) (by kernel_rfl) rfl (fun W hW => by obtain ⟨h0, h1, h2, h3⟩ := hW; go_simp) tH1 ?_
            simp only [Act.put, List.setIfInBounds_toArray, List.set_cons_zero, List.set_cons_succ]
            refine hr_take_w 7 (some 113) (.bool false) rfl rfl (by kernel_rfl) (by kernel_rfl) (by kernel_rfl) rfl (fun W hW => by obtain ⟨h0, h1, h2, h3⟩ := hW; go_simp) tH1 ?_
            simp only [Act.put, List.setIfInBounds_toArray, List.set_cons_zero, List.set_cons_succ]
            refine hr_take_w 8 (some 114) (.slice (some lA) ln lc) rfl rfl (by kernel_rfl) (by kernel_rfl) (by kernel_rfl) rfl (fun W hW => by obtain ⟨h0, h1, h2, h3⟩ := hW; go_simp) tH1 ?_
            simp only [Act.put, List.setIfInBounds_toArray, List.set_cons_zero, List.set_cons_succ]
            refine hr_take_w 9 (some 115) (.bool true) rfl rfl (by kernel_rfl) (by kernel_rfl) (by kernel_rfl) rfl (fun W hW => by obtain ⟨h0, h1, h2, h3⟩ := hW; go_simp) tH1 ?_
            simp only [Act.put, List.setIfInBounds_toArray, List.set_cons_zero, List.set_cons_succ]
            refine hr_take_w 10 (some 116) (.bool true) rfl rfl (by kernel_rfl) (by kernel_rfl) (by kernel_rfl) rfl (fun W hW => by obtain ⟨h0, h1, h2, h3⟩ := hW; go_simp) tH1 ?_
            simp only [Act.put, List.setIfInBounds_toArray, List.set_cons_zero, List.set_cons_succ]
            refine hr_take_w 11 (some 117) (.slice (some lA) ln lc) rfl rfl (by kernel_rfl) (by kernel_rfl) (by kernel_rfl) rfl (fun W hW => by obtain ⟨h0, h1, h2, h3⟩ := hW; go_simp) tH1 ?_
            simp only [Act.put, List.setIfInBounds_toArray, List.set_cons_zero, List.set_cons_succ]
            refine hr_take_w 12 (some 118) (.string sl) rfl rfl (by kernel_rfl) (by kernel_rfl) (by kernel_rfl) rfl (fun W hW => by obtain ⟨h0, h1, h2, h3⟩ := hW; go_simp) tH1 ?_
            simp only [Act.put, List.setIfInBounds_toArray, List.set_cons_zero, List.set_cons_succ]
            refine hr_take_w 13 (some 119) (.slice q.ao q.n q.cap) rfl rfl (by kernel_rfl) (by kernel_rfl) (by kernel_rfl) rfl (fun W hW => by obtain ⟨h0, h1, h2, h3⟩ := hW; go_simp) tH1 ?_
            simp only [Act.put, List.setIfInBounds_toArray, List.set_cons_zero, List.set_cons_succ]
            refine hr_take_w 14 (some 120) (.string sq) rfl rfl (by kernel_rfl) (by kernel_rfl) (by kernel_rfl) rfl (fun W hW => by obtain ⟨h0, h1, h2, h3⟩ := hW; go_simp) tH1 ?_
            simp only [Act.put, List.setIfInBounds_toArray, List.set_cons_zero, List.set_cons_succ]
            refine hr_take_w 15 (some 121) (.bool false) rfl rfl (by kernel_rfl) (by kernel_rfl) (by kernel_rfl) rfl (fun W hW => by obtain ⟨h0, h1, h2, h3⟩ := hW; go_simp) tH1 ?_
            simp only [Act.put, List.setIfInBounds_toArray, List.set_cons_zero, List.set_cons_succ]
            refine hr_take_w 16 (some 122) (.bool false) rfl rfl (by kernel_rfl) (by kernel_rfl) (by kernel_rfl) rfl (fun W hW => by obtain ⟨h0, h1, h2, h3⟩ := hW; go_simp) tH1 ?_
            simp only [Act.put, List.setIfInBounds_toArray, List.set_cons_zero, List.set_cons_succ]
            refine hr_take_w 17 (some 123) (.bool false) rfl rfl (by kernel_rfl) (by kernel_rfl) (by kernel_rfl) rfl (fun W hW => by obtain ⟨h0, h1, h2, h3⟩ := hW; go_simp) tH1 ?_
            simp only [Act.put, List.setIfInBounds_toArray, List.set_cons_zero, List.set_cons_succ]
            refine hr_take_w 18 (some 124) (.bool false) rfl rfl (by kernel_rfl) (by kernel_rfl) (by kernel_rfl) rfl (fun W hW => by obtain ⟨h0, h1, h2, h3⟩ := hW; go_simp) tH1 ?_
            simp only [Act.put, List.setIfInBounds_toArray, List.set_cons_zero, List.set_cons_succ]
            refine hr_take_w 19 (some 125) (.slice (some hA) hn hc) rfl rfl (by kernel_rfl) (by kernel_rfl) (by kernel_rfl) rfl (fun W hW => by obtain ⟨h0, h1, h2, h3⟩ := hW; go_simp) tH1 ?_
            simp only [Act.put, List.setIfInBounds_toArray, List.set_cons_zero, List.set_cons_succ]
            refine hr_take_w 20 (some 126) (.bool true) rfl rfl (by kernel_rfl) (by kernel_rfl) (by kernel_rfl) rfl (fun W hW => by obtain ⟨h0, h1, h2, h3⟩ := hW; go_simp) tH1 ?_
            simp only [Act.put, List.setIfInBounds_toArray, List.set_cons_zero, List.set_cons_succ]
            refine hr_take_w 21 (some 127) (.bool true) rfl rfl (by kernel_rfl) (by kernel_rfl) (by kernel_rfl) rfl (fun W hW => by obtain ⟨h0, h1, h2, h3⟩ := hW; go_simp) tH1 ?_
            simp only [Act.put, List.setIfInBounds_toArray, List.set_cons_zero, List.set_cons_succ]
            refine hr_take_w 22 (some 128) (.slice q.ao q.n q.cap) rfl rfl (by kernel_rfl) (by kernel_rfl) (by kernel_rfl) rfl (fun W hW => by obtain ⟨h0, h1, h2, h3⟩ := hW; go_simp) tH1 ?_
            simp only [Act.put, List.setIfInBounds_toArray, List.set_cons_zero, List.set_cons_succ]
            refine hr_take_w 23 (some 129) (.string sq) rfl rfl (by kernel_rfl) (by kernel_rfl) (by kernel_rfl) rfl (fun W hW => by obtain ⟨h0, h1, h2, h3⟩ := hW; go_simp) tH1 ?_
            simp only [Act.put, List.setIfInBounds_toArray, List.set_cons_zero, List.set_cons_succ]
            refine hr_take_w 24 (some 130) (.slice (some hA) hn hc) rfl rfl (by kernel_rfl) (by kernel_rfl) (by kernel_rfl) rfl (fun W hW => by obtain ⟨h0, h1, h2, h3⟩ := hW; go_simp) tH1 ?_
            simp only [Act.put, List.setIfInBounds_toArray, List.set_cons_zero, List.set_cons_succ]
            refine hr_take_w 25 (some 131) (.string sh) rfl rfl (by kernel_rfl) (by kernel_rfl) (by kernel_rfl) rfl (fun W hW => by obtain ⟨h0, h1, h2, h3⟩ := hW; go_simp) tH1 ?_
            simp only [Act.put, List.setIfInBounds_toArray, List.set_cons_zero, List.set_cons_succ]
            refine hr_take_w 26 (some 132) (.bool false) rfl rfl (by kernel_rfl) (by kernel_rfl) (by kernel_rfl) rfl (fun W hW => by obtain ⟨h0, h1, h2, h3⟩ := hW; go_simp) tH1 ?_
            simp only [Act.put, List.setIfInBounds_toArray, List.set_cons_zero, List.set_cons_succ]
            refine hr_take_w 27 (some 133) (.bool false) rfl rfl (by kernel_rfl) (by kernel_rfl) (by kernel_rfl) rfl (fun W hW => by obtain ⟨h0, h1, h2, h3⟩ := hW; go_simp) tH1 ?_
            simp only [Act.put, List.setIfInBounds_toArray, List.set_cons_zero, List.set_cons_succ]
            refine hr_take_w 28 (some 134) (.bool false) rfl rfl (by kernel_rfl) (by kernel_rfl) (by kernel_rfl) rfl (fun W hW => by obtain ⟨h0, h1, h2, h3⟩ := hW; go_simp) tH1 ?_
            simp only [Act.put, List.setIfInBounds_toArray, List.set_cons_zero, List.set_cons_succ]
            refine wpAnyH_done (by kernel_rfl) ?_ _
            refine NoPanic.normal ?_
            clear c0w tHS tH0 tH1
            have BK : Below w.heap.size w tv1 := B.trans (tE1.mono B.size)
            have slk : Sl tv1 (some lA) ln lc lx := slw.below tE1
            have shk : Sl tv1 q.ao q.n q.cap q.xs := sqw.below tE1
            have c0k := (BK.cell (World.block_lt_of_cell? _ _ c0)).trans c0
            have c3k := (BK.cell (World.block_lt_of_cell? _ _ c3)).trans c3
            have cuk := (BK.cell (World.block_lt_of_cell? _ _ cu)).trans cu
            go_wp2
            have kHS : Hid (∀ V, Below tv1.heap.size tv1 V → V.cell? ⟨d.b, 0, none⟩ = some (.int .i64 (d.L : Nat)) ∧ V.cell? ⟨d.b, 3, none⟩ = some (.slice (some ⟨cb, co, none⟩) d.cs.length d.cc) ∧ V.cell? ⟨cb, co + ii, none⟩ = some (.pointer pu)) := fun V hV => ⟨(hV.cell (World.block_lt_of_cell? _ _ c0k)).trans c0k, (hV.cell (World.block_lt_of_cell? _ _ c3k)).trans c3k, (hV.cell (World.block_lt_of_cell? _ _ cuk)).trans cuk⟩
            have kE0 : Below tv1.heap.size tv1 tv1.drew := (Below.refl _ _).drew
            refine wp_region_noPanic ?_
            refine wp_region_held_drew (S := fun V => V.cell? ⟨d.b, 0, none⟩ = some (.int .i64 (d.L : Nat)) ∧ V.cell? ⟨d.b, 3, none⟩ = some (.slice (some ⟨cb, co, none⟩) d.cs.length d.cc) ∧ V.cell? ⟨cb, co + ii, none⟩ = some (.pointer pu)) (by kernel_rfl) (kHS.out _ kE0) (fun kH0 => ?_)
            obtain ⟨kv0, hv0⟩ : ∃ v, v = tv1.drew := ⟨_, rfl⟩
            rw [← hv0] at kH0 kE0 ⊢
            clear hv0
            refine hr_take_w 0 (some 136) (.pointer (some ⟨d.b, 0, none⟩)) rfl rfl (by kernel_rfl) (by kernel_rfl) (by kernel_rfl) rfl (fun W hW => by obtain ⟨h0, h1, h2⟩ := hW; go_simp) kH0 ?_
            simp only [Act.put, List.setIfInBounds_toArray, List.set_cons_zero, List.set_cons_succ]
            refine hr_take_w 1 (some 137) (.pointer (some ⟨d.b, 0, none⟩)) rfl rfl (by kernel_rfl) (by kernel_rfl) (by kernel_rfl) rfl (fun W hW => by obtain ⟨h0, h1, h2⟩ := hW; go_simp) kH0 ?_
            simp only [Act.put, List.setIfInBounds_toArray, List.set_cons_zero, List.set_cons_succ]
            refine hr_take_w 2 (some 138) (.pointer (some ⟨d.b, 3, none⟩)) rfl rfl (by kernel_rfl) (by kernel_rfl) (by kernel_rfl) rfl (fun W hW => by obtain ⟨h0, h1, h2⟩ := hW; go_simp) kH0 ?_
            simp only [Act.put, List.setIfInBounds_toArray, List.set_cons_zero, List.set_cons_succ]
            refine hr_take_w 3 (some 139) (.slice (some ⟨cb, co, none⟩) d.cs.length d.cc) rfl rfl (by kernel_rfl) (by kernel_rfl) (by kernel_rfl) rfl (fun W hW => by obtain ⟨h0, h1, h2⟩ := hW; go_simp) kH0 ?_
            simp only [Act.put, List.setIfInBounds_toArray, List.set_cons_zero, List.set_cons_succ]
            refine hr_take_w 4 (some 140) (.int .i64 ii) rfl rfl (by kernel_rfl) (by kernel_rfl) (by kernel_rfl) rfl (fun W hW => by obtain ⟨h0, h1, h2⟩ := hW; go_simp) kH0 ?_
            simp only [Act.put, List.setIfInBounds_toArray, List.set_cons_zero, List.set_cons_succ]
            refine hr_take_w 5 (some 141) (.pointer (some ⟨cb, co + ii, none⟩)) rfl rfl (by kernel_rfl) (by kernel_rfl) (by kernel_rfl) rfl (fun W hW => by obtain ⟨h0, h1, h2⟩ := hW; go_simp) kH0 ?_
            simp only [Act.put, List.setIfInBounds_toArray, List.set_cons_zero, List.set_cons_succ]
            refine hr_take_w 6 (some 142) (.pointer pu) rfl rfl (by kernel_rfl) (by kernel_rfl) (by kernel_rfl) rfl (fun W hW => by obtain ⟨h0, h1, h2⟩ := hW; go_simp) kH0 ?_
            simp only [Act.put, List.setIfInBounds_toArray, List.set_cons_zero, List.set_cons_succ]
            refine hr_take_w 7 (some 143) (.slice (some lA) ln lc) rfl rfl (by kernel_rfl) (by kernel_rfl) (by kernel_rfl) rfl (fun W hW => by obtain ⟨h0, h1, h2⟩ := hW; go_simp) kH0 ?_
            simp only [Act.put, List.setIfInBounds_toArray, List.set_cons_zero, List.set_cons_succ]
            refine hr_take_w 8 (some 144) (.slice q.ao q.n q.cap) rfl rfl (by kernel_rfl) (by kernel_rfl) (by kernel_rfl) rfl (fun W hW => by obtain ⟨h0, h1, h2⟩ := hW; go_simp) kH0 ?_
            simp only [Act.put, List.setIfInBounds_toArray, List.set_cons_zero, List.set_cons_succ]
            refine hr_take_w 9 (some 145) (.pointer (some ⟨d.b, 0, none⟩)) rfl rfl (by kernel_rfl) (by kernel_rfl) (by kernel_rfl) rfl (fun W hW => by obtain ⟨h0, h1, h2⟩ := hW; go_simp) kH0 ?_
            simp only [Act.put, List.setIfInBounds_toArray, List.set_cons_zero, List.set_cons_succ]
            refine hr_take_w 10 (some 146) (.pointer (some ⟨d.b, 0, none⟩)) rfl rfl (by kernel_rfl) (by kernel_rfl) (by kernel_rfl) rfl (fun W hW => by obtain ⟨h0, h1, h2⟩ := hW; go_simp) kH0 ?_
            simp only [Act.put, List.setIfInBounds_toArray, List.set_cons_zero, List.set_cons_succ]
            refine hr_take_w 11 (some 147) (.pointer (some ⟨d.b, 0, none⟩)) rfl rfl (by kernel_rfl) (by kernel_rfl) (by kernel_rfl) rfl (fun W hW => by obtain ⟨h0, h1, h2⟩ := hW; go_simp) kH0 ?_
            simp only [Act.put, List.setIfInBounds_toArray, List.set_cons_zero, List.set_cons_succ]
            refine hr_take_w 12 (some 148) (.int .i64 (d.L : Nat)) rfl rfl (by kernel_rfl) (by kernel_rfl) (by kernel_rfl) rfl (fun W hW => by obtain ⟨h0, h1, h2⟩ := hW; go_simp) kH0 ?_
            simp only [Act.put, List.setIfInBounds_toArray, List.set_cons_zero, List.set_cons_succ]
            refine hr_call_w 13 (some 149) 18 #[.pointer pu, .slice (some lA) ln lc, .slice q.ao q.n q.cap, .int .i64 (d.L : Nat)] rfl rfl (by kernel_rfl) rfl (by go_simp) (fun v w' => v = .tuple #[.int .i64 (s.length : Nat), .bool true] ∧ Below kv0.heap.size kv0 w') ((ih s.length hslt kv0 (.pointer pu) s (some lA) ln lc lx q.ao q.n q.cap q.xs d.L (hT.below (BK.trans (kE0.mono BK.size)) h2) (Tu.below (BK.trans (kE0.mono BK.size))) HSRT.out (slk.below kE0) (shk.below kE0) HLO.out HHI.out HLV.out hL64 (by omega) HSS.out (Nat.le_refl _)).mono (by
              rintro e w' ⟨rfl, C⟩
              exact ⟨_, rfl, rfl, C⟩)) ?_
            rintro v kv1 ⟨rfl, kC0⟩
            have kE1 := kE0.trans (kC0.mono kE0.size)
            have kH1 := kHS.out kv1 kE1
            refine ⟨kH1, ?_⟩
            simp only [Act.put, List.setIfInBounds_toArray, List.set_cons_zero, List.set_cons_succ]
            refine hr_take_w 14 (some 135) (.tuple #[.int .i64 (s.length : Nat), .bool true]) rfl rfl (by kernel_rfl) (by kernel_rfl) (by kernel_rfl) rfl (fun W hW => by obtain ⟨h0, h1, h2⟩ := hW; go_simp) kH1 ?_
            simp only [Act.put, List.setIfInBounds_toArray, List.set_cons_zero, List.set_cons_succ]
            refine hr_take_w 15 (some 150) (.int .i64 (s.length : Nat)) rfl rfl (by kernel_rfl) (by kernel_rfl) (by kernel_rfl) rfl (fun W hW => by obtain ⟨h0, h1, h2⟩ := hW; go_simp) kH1 ?_
            simp only [Act.put, List.setIfInBounds_toArray, List.set_cons_zero, List.set_cons_succ]
            refine hr_take_w 16 (some 151) (.bool true) rfl rfl (by kernel_rfl) (by kernel_rfl) (by kernel_rfl) rfl (fun W hW => by obtain ⟨h0, h1, h2⟩ := hW; go_simp) kH1 ?_
            simp only [Act.put, List.setIfInBounds_toArray, List.set_cons_zero, List.set_cons_succ]
            refine hr_take_w 17 (some 14) (.int .i64 (s.length : Nat)) rfl rfl (by kernel_rfl) (by kernel_rfl) (by kernel_rfl) rfl (fun W hW => by obtain ⟨h0, h1, h2⟩ := hW; go_simp) kH1 ?_
            simp only [Act.put, List.setIfInBounds_toArray, List.set_cons_zero, List.set_cons_succ]
            refine hr_take_w 18 (some 15) (.bool true) rfl rfl (by kernel_rfl) (by kernel_rfl) (by kernel_rfl) rfl (fun W hW => by obtain ⟨h0, h1, h2⟩ := hW; go_simp) kH1 ?_
            simp only [Act.put, List.setIfInBounds_toArray, List.set_cons_zero, List.set_cons_succ]
            refine wpAnyH_done (by kernel_rfl) ?_ _
            refine NoPanic.normal ?_
            clear c0k c3k cuk kHS kH0 kH1
            have B2 := BK.trans (kE1.mono BK.size)
            go_wp2
            refine ⟨?_, ?_⟩
            · iterate 94 apply Exists.intro
              refine ⟨?_, rfl⟩
              exact ⟨ii + 1, M + s.length, by omega, by go_num, by go_num, HMS.out, B2⟩
            · simp [intOf]; omega
      · have hip : (0 : Int) < (ii : Int) := by omega
        have hwr : IntKind.i64.wrap ((ii : Int) - 1) = ((ii - 1 : Nat) : Int) := by simp [IntKind.wrap, IntKind.bits, IntKind.signed]; omega
        have hi1 : ii - 1 < d.ks.length := by omega
        have hi1i : ((ii - 1 : Nat) : Int) < (d.ks.length : Int) := by omega
        have hx1 : ii - 1 < xs.length := by have := HNK.out; omega
        obtain ⟨p, hp⟩ : ∃ p, p = d.ks[ii - 1] := ⟨_, rfl⟩
        have cp := HKC.out (ii - 1) (by simpa using hi1)
        rw [List.getElem_map, ← hp] at cp
        have cpw := (B.cell (World.block_lt_of_cell? _ _ cp)).trans cp
        have sp := hN1.ok.kl.sl p (by rw [hp]; exact List.getElem_mem _)
        have hpx : p.xs = xs[ii - 1].k := by rw [hp]; exact hN1.keyAt (ii - 1) hi1 hx1
        have HPX : Hid (p.xs = xs[ii - 1].k) := hpx
        clear hp hpx cp
        unfold Part.val at cpw
        obtain ⟨pa, pn, pc, px⟩ := p
        simp only at cpw sp HPX
        have slw := sp.below B
        have HLO : Hid (pa ≠ none → ∀ x ∈ s, cmpL px x.k < 0) := fun _ => by rw [HPX.out]; exact cut.left HS.out (by omega) hx1
        by_cases hq : ii < d.ks.length
        · have hq0 : ii < d.ks.length := hq
          have hki2 : (ii : Int) < (d.ks.length : Int) := by omega
          obtain ⟨q, hq⟩ : ∃ q, q = d.ks[ii] := ⟨_, rfl⟩
          have cq := HKC.out ii (by simpa using hq0)
          rw [List.getElem_map, ← hq] at cq
          have cqw := (B.cell (World.block_lt_of_cell? _ _ cq)).trans cq
          have sqw := (hN1.ok.kl.sl q (by rw [hq]; exact List.getElem_mem _)).below B
          have hxq : ii < xs.length := by have := HNK.out; omega
          have hqx : q.xs = xs[ii].k := by rw [hq]; exact hN1.keyAt ii hq0 hxq
          have HQX : Hid (q.xs = xs[ii].k) := hqx
          have hqn : q.n ≤ 1000000 := by rw [← sqw.len, hqx]; exact (HSZ.out _ (hN1.shp.key _ (List.getElem_mem hxq))).1
          have hql : ((lev q.xs : Int) != (d.L : Int)) = false := by rw [hqx, hN1.shp.top _ (List.getElem_mem hxq)]; simp
          have HHI : Hid (q.ao ≠ none → ∀ x ∈ s, cmpL x.k q.xs < 0) := fun _ => by rw [HQX.out]; exact cut.right HS.out hxq
          have HHQ : Hid (ha ≠ none → cmpL q.xs hx < 0) := fun h => by rw [HQX.out]; exact HHI0.out h _ (hN1.shp.key _ (List.getElem_mem _))
          obtain ⟨sq, hsq⟩ : ∃ s, s = strOfNums q.xs := ⟨_, rfl⟩
          have Hsq : Hid (sq = strOfNums q.xs) := hsq
          clear hq hqx cq hsq
          unfold Part.val at cqw
          have HLQ : Hid (pa ≠ none → cmpL px q.xs < 0) := fun _ => by
            rw [HPX.out, HQX.out]
            exact List.pairwise_iff_getElem.1 (hN1.shp.rise HS.out) (ii - 1) ii _ _ (by omega)
          go_wp2
          have c0w := (B.cell (World.block_lt_of_cell? _ _ c0)).trans c0
          rcases pa with _ | lA
          · have nl : ∀ W, (binOp .neq 26 (.slice none pn pc) (.slice none 0 0)).run Tryd.prog W = .ok (.bool false) W := fun W => neq_nil W none pn pc
            rcases ha with _ | hA
            · have nh : ∀ W, (binOp .neq 26 (.slice none hn hc) (.slice none 0 0)).run Tryd.prog W = .ok (.bool false) W := fun W => neq_nil W none hn hc
              have tHS : Hid (∀ V, Below wr.heap.size wr V → V.cell? ⟨d.b, 0, none⟩ = some (.int .i64 (d.L : Nat))) := fun V hV => (hV.cell (World.block_lt_of_cell? _ _ c0w)).trans c0w
              have tE0 : Below wr.heap.size wr wr.drew := (Below.refl _ _).drew
              refine wp_region_noPanic ?_
              refine wp_region_held_drew (S := fun V => V.cell? ⟨d.b, 0, none⟩ = some (.int .i64 (d.L : Nat))) (by kernel_rfl) (tHS.out _ tE0) (fun tH0 => ?_)
              obtain ⟨tv0, hv0⟩ : ∃ v, v = wr.drew := ⟨_, rfl⟩
              rw [← hv0] at tH0 tE0 ⊢
              clear hv0
              refine hr_take_w 0 (some 106) (.slice q.ao q.n q.cap) rfl rfl (by kernel_rfl) (by kernel_rfl) (by kernel_rfl) rfl (fun W hW => by go_simp) tH0 ?_
              simp only [Act.put, List.setIfInBounds_toArray, List.set_cons_zero, List.set_cons_succ]
              refine hr_take_w 2 (some 108) (.pointer (some ⟨d.b, 0, none⟩)) rfl rfl (by kernel_rfl) (by kernel_rfl) (by kernel_rfl) rfl (fun W hW => by go_simp) tH0 ?_
              simp only [Act.put, List.setIfInBounds_toArray, List.set_cons_zero, List.set_cons_succ]
              refine hr_take_w 3 (some 109) (.pointer (some ⟨d.b, 0, none⟩)) rfl rfl (by kernel_rfl) (by kernel_rfl) (by kernel_rfl) rfl (fun W hW => by go_simp) tH0 ?_
              simp only [Act.put, List.setIfInBounds_toArray, List.set_cons_zero, List.set_cons_succ]
              refine hr_take_w 4 (some 110) (.pointer (some ⟨d.b, 0, none⟩)) rfl rfl (by kernel_rfl) (by kernel_rfl) (by kernel_rfl) rfl (fun W hW => by go_simp) tH0 ?_
              simp only [Act.put, List.setIfInBounds_toArray, List.set_cons_zero, List.set_cons_succ]
              refine hr_take_w 5 (some 111) (.int .i64 (d.L : Nat)) rfl rfl (by kernel_rfl) (by kernel_rfl) (by kernel_rfl) rfl (fun W hW => by go_simp) tH0 ?_
              simp only [Act.put, List.setIfInBounds_toArray, List.set_cons_zero, List.set_cons_succ]
              refine hr_call_w 1 (some 107) 28 #[.slice q.ao q.n q.cap] rfl rfl (by kernel_rfl) rfl (by go_simp) (fun v w' => v = .int .i64 (lev q.xs : Nat) ∧ Below tv0.heap.size tv0 w') ((level_any tv0 q.ao q.n q.cap q.xs (hT.below (B.trans (tE0.mono B.size)) h2) (sqw.below tE0) hqn).mono (by
                rintro e w' ⟨rfl, C⟩
                exact ⟨_, rfl, rfl, C⟩)) ?_
              rintro v tv1 ⟨rfl, tC0⟩
              have tE1 := tE0.trans (tC0.mono tE0.size)
              have tH1 := tHS.out tv1 tE1
              refine ⟨tH1, ?_⟩
              simp only [Act.put, List.setIfInBounds_toArray, List.set_cons_zero, List.set_cons_succ]
              refine hr_take_w 6 (some 112) (.bool false) rfl rfl (by kernel_rfl) (by kernel_rfl) (by kernel_rfl) rfl (fun W hW => by go_simp) tH1 ?_
              simp only [Act.put, List.setIfInBounds_toArray, List.set_cons_zero, List.set_cons_succ]
              refine hr_take_w 7 (some 113) (.bool false) rfl rfl (by kernel_rfl) (by kernel_rfl) (by kernel_rfl) rfl (fun W hW => by go_simp) tH1 ?_
              simp only [Act.put, List.setIfInBounds_toArray, List.set_cons_zero, List.set_cons_succ]
              refine hr_take_w 8 (some 114) (.slice none pn pc) rfl rfl (by kernel_rfl) (by kernel_rfl) (by kernel_rfl) rfl (fun W hW => by go_simp) tH1 ?_
              simp only [Act.put, List.setIfInBounds_toArray, List.set_cons_zero, List.set_cons_succ]
              refine hr_take_w 9 (some 115) (.bool false) rfl rfl (by kernel_rfl) (by kernel_rfl) (by kernel_rfl) rfl (fun W hW => by go_simp) tH1 ?_
              simp only [Act.put, List.setIfInBounds_toArray, List.set_cons_zero, List.set_cons_succ]
              refine hr_take_w 10 (some 116) (.bool false) rfl rfl (by kernel_rfl) (by kernel_rfl) (by kernel_rfl) rfl (fun W hW => by go_simp) tH1 ?_
              simp only [Act.put, List.setIfInBounds_toArray, List.set_cons_zero, List.set_cons_succ]
              refine hr_none 11 (some 117) rfl rfl (by kernel_rfl) (by kernel_rfl) (by kernel_rfl) rfl tH1 ?_
              simp only [Act.put, List.setIfInBounds_toArray, List.set_cons_zero, List.set_cons_succ]
              refine hr_none 12 (some 118) rfl rfl (by kernel_rfl) (by kernel_rfl) (by kernel_rfl) rfl tH1 ?_
              simp only [Act.put, List.setIfInBounds_toArray, List.set_cons_zero, List.set_cons_succ]
              refine hr_none 13 (some 119) rfl rfl (by kernel_rfl) (by kernel_rfl) (by kernel_rfl) rfl tH1 ?_
              simp only [Act.put, List.setIfInBounds_toArray, List.set_cons_zero, List.set_cons_succ]
              refine hr_none 14 (some 120) rfl rfl (by kernel_rfl) (by kernel_rfl) (by kernel_rfl) rfl tH1 ?_
              simp only [Act.put, List.setIfInBounds_toArray, List.set_cons_zero, List.set_cons_succ]
              refine hr_none 15 (some 121) rfl rfl (by kernel_rfl) (by kernel_rfl) (by kernel_rfl) rfl tH1 ?_
              simp only [Act.put, List.setIfInBounds_toArray, List.set_cons_zero, List.set_cons_succ]
              refine hr_take_w 16 (some 122) (.bool false) rfl rfl (by kernel_rfl) (by kernel_rfl) (by kernel_rfl) rfl (fun W hW => by go_simp) tH1 ?_
              simp only [Act.put, List.setIfInBounds_toArray, List.set_cons_zero, List.set_cons_succ]
              refine hr_take_w 17 (some 123) (.bool false) rfl rfl (by kernel_rfl) (by kernel_rfl) (by kernel_rfl) rfl (fun W hW => by go_simp) tH1 ?_
              simp only [Act.put, List.setIfInBounds_toArray, List.set_cons_zero, List.set_cons_succ]
              refine hr_take_w 18 (some 124) (.bool false) rfl rfl (by kernel_rfl) (by kernel_rfl) (by kernel_rfl) rfl (fun W hW => by go_simp) tH1 ?_
              simp only [Act.put, List.setIfInBounds_toArray, List.set_cons_zero, List.set_cons_succ]
              refine hr_take_w 19 (some 125) (.slice none hn hc) rfl rfl (by kernel_rfl) (by kernel_rfl) (by kernel_rfl) rfl (fun W hW => by go_simp) tH1 ?_
              simp only [Act.put, List.setIfInBounds_toArray, List.set_cons_zero, List.set_cons_succ]
              refine hr_take_w 20 (some 126) (.bool false) rfl rfl (by kernel_rfl) (by kernel_rfl) (by kernel_rfl) rfl (fun W hW => by go_simp) tH1 ?_
              simp only [Act.put, List.setIfInBounds_toArray, List.set_cons_zero, List.set_cons_succ]
              refine hr_take_w 21 (some 127) (.bool false) rfl rfl (by kernel_rfl) (by kernel_rfl) (by kernel_rfl) rfl (fun W hW => by go_simp) tH1 ?_
              simp only [Act.put, List.setIfInBounds_toArray, List.set_cons_zero, List.set_cons_succ]
              refine hr_none 22 (some 128) rfl rfl (by kernel_rfl) (by kernel_rfl) (by kernel_rfl) rfl tH1 ?_
              simp only [Act.put, List.setIfInBounds_toArray, List.set_cons_zero, List.set_cons_succ]
              refine hr_none 23 (some 129) rfl rfl (by kernel_rfl) (by kernel_rfl) (by kernel_rfl) rfl tH1 ?_
              simp only [Act.put, List.setIfInBounds_toArray, List.set_cons_zero, List.set_cons_succ]
              refine hr_none 24 (some 130) rfl rfl (by kernel_rfl) (by kernel_rfl) (by kernel_rfl) rfl tH1 ?_
              simp only [Act.put, List.setIfInBounds_toArray, List.set_cons_zero, List.set_cons_succ]
              refine hr_none 25 (some 131) rfl rfl (by kernel_rfl) (by kernel_rfl) (by kernel_rfl) rfl tH1 ?_
              simp only [Act.put, List.setIfInBounds_toArray, List.set_cons_zero, List.set_cons_succ]
              refine hr_none 26 (some 132) rfl rfl (by kernel_rfl) (by kernel_rfl) (by kernel_rfl) rfl tH1 ?_
              simp only [Act.put, List.setIfInBounds_toArray, List.set_cons_zero, List.set_cons_succ]
              refine hr_take_w 27 (some 133) (.bool false) rfl rfl (by kernel_rfl) (by kernel_rfl) (by kernel_rfl) rfl (fun W hW => by go_simp) tH1 ?_
              simp only [Act.put, List.setIfInBounds_toArray, List.set_cons_zero, List.set_cons_succ]
              refine hr_take_w 28 (some 134) (.bool false) rfl rfl (by kernel_rfl) (by kernel_rfl) (by kernel_rfl) rfl (fun W hW => by go_simp) tH1 ?_
              simp only [Act.put, List.setIfInBounds_toArray, List.set_cons_zero, List.set_cons_succ]
              refine wpAnyH_done (by kernel_rfl) ?_ _
              refine NoPanic.normal ?_
              clear c0w tHS tH0 tH1
              have BK : Below w.heap.size w tv1 := B.trans (tE1.mono B.size)
              have slk : Sl tv1 none pn pc px := slw.below tE1
              have shk : Sl tv1 q.ao q.n q.cap q.xs := sqw.below tE1
              have c0k := (BK.cell (World.block_lt_of_cell? _ _ c0)).trans c0
              have c3k := (BK.cell (World.block_lt_of_cell? _ _ c3)).trans c3
              have cuk := (BK.cell (World.block_lt_of_cell? _ _ cu)).trans cu
              go_wp2
              have kHS : Hid (∀ V, Below tv1.heap.size tv1 V → V.cell? ⟨d.b, 0, none⟩ = some (.int .i64 (d.L : Nat)) ∧ V.cell? ⟨d.b, 3, none⟩ = some (.slice (some ⟨cb, co, none⟩) d.cs.length d.cc) ∧ V.cell? ⟨cb, co + ii, none⟩ = some (.pointer pu)) := fun V hV => ⟨(hV.cell (World.block_lt_of_cell? _ _ c0k)).trans c0k, (hV.cell (World.block_lt_of_cell? _ _ c3k)).trans c3k, (hV.cell (World.block_lt_of_cell? _ _ cuk)).trans cuk⟩
              have kE0 : Below tv1.heap.size tv1 tv1.drew := (Below.refl _ _).drew
              refine wp_region_noPanic ?_
              refine wp_region_held_drew (S := fun V => V.cell? ⟨d.b, 0, none⟩ = some (.int .i64 (d.L : Nat)) ∧ V.cell? ⟨d.b, 3, none⟩ = some (.slice (some ⟨cb, co, none⟩) d.cs.length d.cc) ∧ V.cell? ⟨cb, co + ii, none⟩ = some (.pointer pu)) (by kernel_rfl) (kHS.out _ kE0) (fun kH0 => ?_)
              obtain ⟨kv0, hv0⟩ : ∃ v, v = tv1.drew := ⟨_, rfl⟩
              rw [← hv0] at kH0 kE0 ⊢
              clear hv0
              refine hr_take_w 0 (some 136) (.pointer (some ⟨d.b, 0, none⟩)) rfl rfl (by kernel_rfl) (by kernel_rfl) (by kernel_rfl) rfl (fun W hW => by obtain ⟨h0, h1, h2⟩ := hW; go_simp) kH0 ?_
              simp only [Act.put, List.setIfInBounds_toArray, List.set_cons_zero, List.set_cons_succ]
              refine hr_take_w 1 (some 137) (.pointer (some ⟨d.b, 0, none⟩)) rfl rfl (by kernel_rfl) (by kernel_rfl) (by kernel_rfl) rfl (fun W hW => by obtain ⟨h0, h1, h2⟩ := hW; go_simp) kH0 ?_
              simp only [Act.put, List.setIfInBounds_toArray, List.set_cons_zero, List.set_cons_succ]
              refine hr_take_w 2 (some 138) (.pointer (some ⟨d.b, 3, none⟩)) rfl rfl (by kernel_rfl) (by kernel_rfl) (by kernel_rfl) rfl (fun W hW => by obtain ⟨h0, h1, h2⟩ := hW; go_simp) kH0 ?_
              simp only [Act.put, List.setIfInBounds_toArray, List.set_cons_zero, List.set_cons_succ]
              refine hr_take_w 3 (some 139) (.slice (some ⟨cb, co, none⟩) d.cs.length d.cc) rfl rfl (by kernel_rfl) (by kernel_rfl) (by kernel_rfl) rfl (fun W hW => by obtain ⟨h0, h1, h2⟩ := hW; go_simp) kH0 ?_
              simp only [Act.put, List.setIfInBounds_toArray, List.set_cons_zero, List.set_cons_succ]
              refine hr_take_w 4 (some 140) (.int .i64 ii) rfl rfl (by kernel_rfl) (by kernel_rfl) (by kernel_rfl) rfl (fun W hW => by obtain ⟨h0, h1, h2⟩ := hW; go_simp) kH0 ?_
              simp only [Act.put, List.setIfInBounds_toArray, List.set_cons_zero, List.set_cons_succ]
              refine hr_take_w 5 (some 141) (.pointer (some ⟨cb, co + ii, none⟩)) rfl rfl (by kernel_rfl) (by kernel_rfl) (by kernel_rfl) rfl (fun W hW => by obtain ⟨h0, h1, h2⟩ := hW; go_simp) kH0 ?_
              simp only [Act.put, List.setIfInBounds_toArray, List.set_cons_zero, List.set_cons_succ]
              refine hr_take_w 6 (some 142) (.pointer pu) rfl rfl (by kernel_rfl) (by kernel_rfl) (by kernel_rfl) rfl (fun W hW => by obtain ⟨h0, h1, h2⟩ := hW; go_simp) kH0 ?_
              simp only [Act.put, List.setIfInBounds_toArray, List.set_cons_zero, List.set_cons_succ]
              refine hr_take_w 7 (some 143) (.slice none pn pc) rfl rfl (by kernel_rfl) (by kernel_rfl) (by kernel_rfl) rfl (fun W hW => by obtain ⟨h0, h1, h2⟩ := hW; go_simp) kH0 ?_
              simp only [Act.put, List.setIfInBounds_toArray, List.set_cons_zero, List.set_cons_succ]
              refine hr_take_w 8 (some 144) (.slice q.ao q.n q.cap) rfl rfl (by kernel_rfl) (by kernel_rfl) (by kernel_rfl) rfl (fun W hW => by obtain ⟨h0, h1, h2⟩ := hW; go_simp) kH0 ?_
              simp only [Act.put, List.setIfInBounds_toArray, List.set_cons_zero, List.set_cons_succ]
              refine hr_take_w 9 (some 145) (.pointer (some ⟨d.b, 0, none⟩)) rfl rfl (by kernel_rfl) (by kernel_rfl) (by kernel_rfl) rfl (fun W hW => by obtain ⟨h0, h1, h2⟩ := hW; go_simp) kH0 ?_
              simp only [Act.put, List.setIfInBounds_toArray, List.set_cons_zero, List.set_cons_succ]
              refine hr_take_w 10 (some 146) (.pointer (some ⟨d.b, 0, none⟩)) rfl rfl (by kernel_rfl) (by kernel_rfl) (by kernel_rfl) rfl (fun W hW => by obtain ⟨h0, h1, h2⟩ := hW; go_simp) kH0 ?_
              simp only [Act.put, List.setIfInBounds_toArray, List.set_cons_zero, List.set_cons_succ]
              refine hr_take_w 11 (some 147) (.pointer (some ⟨d.b, 0, none⟩)) rfl rfl (by kernel_rfl) (by kernel_rfl) (by kernel_rfl) rfl (fun W hW => by obtain ⟨h0, h1, h2⟩ := hW; go_simp) kH0 ?_
              simp only [Act.put, List.setIfInBounds_toArray, List.set_cons_zero, List.set_cons_succ]
              refine hr_take_w 12 (some 148) (.int .i64 (d.L : Nat)) rfl rfl (by kernel_rfl) (by kernel_rfl) (by kernel_rfl) rfl (fun W hW => by obtain ⟨h0, h1, h2⟩ := hW; go_simp) kH0 ?_
              simp only [Act.put, List.setIfInBounds_toArray, List.set_cons_zero, List.set_cons_succ]
              refine hr_call_w 13 (some 149) 18 #[.pointer pu, .slice none pn pc, .slice q.ao q.n q.cap, .int .i64 (d.L : Nat)] rfl rfl (by kernel_rfl) rfl (by go_simp) (fun v w' => v = .tuple #[.int .i64 (s.length : Nat), .bool true] ∧ Below kv0.heap.size kv0 w') ((ih s.length hslt kv0 (.pointer pu) s none pn pc px q.ao q.n q.cap q.xs d.L (hT.below (BK.trans (kE0.mono BK.size)) h2) (Tu.below (BK.trans (kE0.mono BK.size))) HSRT.out (slk.below kE0) (shk.below kE0) HLO.out HHI.out HLV.out hL64 (by omega) HSS.out (Nat.le_refl _)).mono (by
                rintro e w' ⟨rfl, C⟩
                exact ⟨_, rfl, rfl, C⟩)) ?_
              rintro v kv1 ⟨rfl, kC0⟩
              have kE1 := kE0.trans (kC0.mono kE0.size)
              have kH1 := kHS.out kv1 kE1
              refine ⟨kH1, ?_⟩
              simp only [Act.put, List.setIfInBounds_toArray, List.set_cons_zero, List.set_cons_succ]
              refine hr_take_w 14 (some 135) (.tuple #[.int .i64 (s.length : Nat), .bool true]) rfl rfl (by kernel_rfl) (by kernel_rfl) (by kernel_rfl) rfl (fun W hW => by obtain ⟨h0, h1, h2⟩ := hW; go_simp) kH1 ?_
              simp only [Act.put, List.setIfInBounds_toArray, List.set_cons_zero, List.set_cons_succ]
              refine hr_take_w 15 (some 150) (.int .i64 (s.length : Nat)) rfl rfl (by kernel_rfl) (by kernel_rfl) (by kernel_rfl) rfl (fun W hW => by obtain ⟨h0, h1, h2⟩ := hW; go_simp) kH1 ?_
              simp only [Act.put, List.setIfInBounds_toArray, List.set_cons_zero, List.set_cons_succ]
              refine hr_take_w 16 (some 151) (.bool true) rfl rfl (by kernel_rfl) (by kernel_rfl) (by kernel_rfl) rfl (fun W hW => by obtain ⟨h0, h1, h2⟩ := hW; go_simp) kH1 ?_
              simp only [Act.put, List.setIfInBounds_toArray, List.set_cons_zero, List.set_cons_succ]
              refine hr_take_w 17 (some 14) (.int .i64 (s.length : Nat)) rfl rfl (by kernel_rfl) (by kernel_rfl) (by kernel_rfl) rfl (fun W hW => by obtain ⟨h0, h1, h2⟩ := hW; go_simp) kH1 ?_
              simp only [Act.put, List.setIfInBounds_toArray, List.set_cons_zero, List.set_cons_succ]
              refine hr_take_w 18 (some 15) (.bool true) rfl rfl (by kernel_rfl) (by kernel_rfl) (by kernel_rfl) rfl (fun W hW => by obtain ⟨h0, h1, h2⟩ := hW; go_simp) kH1 ?_
              simp only [Act.put, List.setIfInBounds_toArray, List.set_cons_zero, List.set_cons_succ]
              refine wpAnyH_done (by kernel_rfl) ?_ _
              refine NoPanic.normal ?_
              clear c0k c3k cuk kHS kH0 kH1
              have B2 := BK.trans (kE1.mono BK.size)
              go_wp2
              go_roundw
              case rel => exact ⟨ii + 1, M + s.length, by omega, by go_num, by go_num, HMS.out, B2⟩
              case measure => simp [intOf]; omega
            · have nh : ∀ W, (binOp .neq 26 (.slice (some hA) hn hc) (.slice none 0 0)).run Tryd.prog W = .ok (.bool true) W := fun W => neq_nil W (some hA) hn hc
              obtain ⟨sh, hsh⟩ : ∃ s, s = strOfNums hx := ⟨_, rfl⟩
              have Hsh : Hid (sh = strOfNums hx) := hsh
              have g2 : ∀ W, (binOp .geq 9 (.string sq) (.string sh)).run Tryd.prog W = .ok (.bool false) W := fun W => by rw [Hsq.out, Hsh.out]; exact geq_str sqw.byte shw.byte (HHQ.out (by simp)) _ W
              clear hsh
              have tHS : Hid (∀ V, Below wr.heap.size wr V → V.cell? ⟨d.b, 0, none⟩ = some (.int .i64 (d.L : Nat)) ∧ (convert 26 9 (.slice q.ao q.n q.cap)).run Tryd.prog V = .ok (.string sq) V ∧ (convert 26 9 (.slice (some hA) hn hc)).run Tryd.prog V = .ok (.string sh) V) := fun V hV => ⟨(hV.cell (World.block_lt_of_cell? _ _ c0w)).trans c0w, by rw [Hsq.out]; exact conv_str (sqw.below hV), by rw [Hsh.out]; exact conv_str (shw.below hV)⟩
              have tE0 : Below wr.heap.size wr wr.drew := (Below.refl _ _).drew
              refine wp_region_noPanic ?_
              refine wp_region_held_drew (S := fun V => V.cell? ⟨d.b, 0, none⟩ = some (.int .i64 (d.L : Nat)) ∧ (convert 26 9 (.slice q.ao q.n q.cap)).run Tryd.prog V = .ok (.string sq) V ∧ (convert 26 9 (.slice (some hA) hn hc)).run Tryd.prog V = .ok (.string sh) V) (by kernel_rfl) (tHS.out _ tE0) (fun tH0 => ?_)
              obtain ⟨tv0, hv0⟩ : ∃ v, v = wr.drew := ⟨_, rfl⟩
              rw [← hv0] at tH0 tE0 ⊢
              clear hv0
              refine hr_take_w 0 (some 106) (.slice q.ao q.n q.cap) rfl rfl (by kernel_rfl) (by kernel_rfl) (by kernel_rfl) rfl (fun W hW => by obtain ⟨h0, h1, h2⟩ := hW; go_simp) tH0 ?_
              simp only [Act.put, List.setIfInBounds_toArray, List.set_cons_zero, List.set_cons_succ]
              refine hr_take_w 2 (some 108) (.pointer (some ⟨d.b, 0, none⟩)) rfl rfl (by kernel_rfl) (by kernel_rfl) (by kernel_rfl) rfl (fun W hW => by obtain ⟨h0, h1, h2⟩ := hW; go_simp) tH0 ?_
              simp only [Act.put, List.setIfInBounds_toArray, List.set_cons_zero, List.set_cons_succ]
              refine hr_take_w 3 (some 109) (.pointer (some ⟨d.b, 0, none⟩)) rfl rfl (by kernel_rfl) (by kernel_rfl) (by kernel_rfl) rfl (fun W hW => by obtain ⟨h0, h1, h2⟩ := hW; go_simp) tH0 ?_
              simp only [Act.put, List.setIfInBounds_toArray, List.set_cons_zero, List.set_cons_succ]
              refine hr_take_w 4 (some 110) (.pointer (some ⟨d.b, 0, none⟩)) rfl rfl (by kernel_rfl) (by kernel_rfl) (by kernel_rfl) rfl (fun W hW => by obtain ⟨h0, h1, h2⟩ := hW; go_simp) tH0 ?_
              simp only [Act.put, List.setIfInBounds_toArray, List.set_cons_zero, List.set_cons_succ]
              refine hr_take_w 5 (some 111) (.int .i64 (d.L : Nat)) rfl rfl (by kernel_rfl) (by kernel_rfl) (by kernel_rfl) rfl (fun W hW => by obtain ⟨h0, h1, h2⟩ := hW; go_simp) tH0 ?_
              simp only [Act.put, List.setIfInBounds_toArray, List.set_cons_zero, List.set_cons_succ]
              refine hr_call_w 1 (some 107) 28 #[.slice q.ao q.n q.cap] rfl rfl (by kernel_rfl) rfl (by go_simp) (fun v w' => v = .int .i64 (lev q.xs : Nat) ∧ Below tv0.heap.size tv0 w') ((level_any tv0 q.ao q.n q.cap q.xs (hT.below (B.trans (tE0.mono B.size)) h2) (sqw.below tE0) hqn).mono (by
                rintro e w' ⟨rfl, C⟩
                exact ⟨_, rfl, rfl, C⟩)) ?_
              rintro v tv1 ⟨rfl, tC0⟩
              have tE1 := tE0.trans (tC0.mono tE0.size)
              have tH1 := tHS.out tv1 tE1
              refine ⟨tH1, ?_⟩
              simp only [Act.put, List.setIfInBounds_toArray, List.set_cons_zero, List.set_cons_succ]
              refine hr_take_w 6 (some 112) (.bool false) rfl rfl (by kernel_rfl) (by kernel_rfl) (by kernel_rfl) rfl (fun W hW => by obtain ⟨h0, h1, h2⟩ := hW; go_simp) tH1 ?_
              simp only [Act.put, List.setIfInBounds_toArray, List.set_cons_zero, List.set_cons_succ]
              refine hr_take_w 7 (some 113) (.bool false) rfl rfl (by kernel_rfl) (by kernel_rfl) (by kernel_rfl) rfl (fun W hW => by obtain ⟨h0, h1, h2⟩ := hW; go_simp) tH1 ?_
              simp only [Act.put, List.setIfInBounds_toArray, List.set_cons_zero, List.set_cons_succ]
              refine hr_take_w 8 (some 114) (.slice none pn pc) rfl rfl (by kernel_rfl) (by kernel_rfl) (by kernel_rfl) rfl (fun W hW => by obtain ⟨h0, h1, h2⟩ := hW; go_simp) tH1 ?_
              simp only [Act.put, List.setIfInBounds_toArray, List.set_cons_zero, List.set_cons_succ]
              refine hr_take_w 9 (some 115) (.bool false) rfl rfl (by kernel_rfl) (by kernel_rfl) (by kernel_rfl) rfl (fun W hW => by obtain ⟨h0, h1, h2⟩ := hW; go_simp) tH1 ?_
              simp only [Act.put, List.setIfInBounds_toArray, List.set_cons_zero, List.set_cons_succ]
              refine hr_take_w 10 (some 116) (.bool false) rfl rfl (by kernel_rfl) (by kernel_rfl) (by kernel_rfl) rfl (fun W hW => by obtain ⟨h0, h1, h2⟩ := hW; go_simp) tH1 ?_
              simp only [Act.put, List.setIfInBounds_toArray, List.set_cons_zero, List.set_cons_succ]
              refine hr_none 11 (some 117) rfl rfl (by kernel_rfl) (by kernel_rfl) (by kernel_rfl) rfl tH1 ?_
              simp only [Act.put, List.setIfInBounds_toArray, List.set_cons_zero, List.set_cons_succ]
              refine hr_none 12 (some 118) rfl rfl (by kernel_rfl) (by kernel_rfl) (by kernel_rfl) rfl tH1 ?_
              simp only [Act.put, List.setIfInBounds_toArray, List.set_cons_zero, List.set_cons_succ]
              refine hr_none 13 (some 119) rfl rfl (by kernel_rfl) (by kernel_rfl) (by kernel_rfl) rfl tH1 ?_
              simp only [Act.put, List.setIfInBounds_toArray, List.set_cons_zero, List.set_cons_succ]
              refine hr_none 14 (some 120) rfl rfl (by kernel_rfl) (by kernel_rfl) (by kernel_rfl) rfl tH1 ?_
              simp only [Act.put, List.setIfInBounds_toArray, List.set_cons_zero, List.set_cons_succ]
              refine hr_none 15 (some 121) rfl rfl (by kernel_rfl) (by kernel_rfl) (by kernel_rfl) rfl tH1 ?_
              simp only [Act.put, List.setIfInBounds_toArray, List.set_cons_zero, List.set_cons_succ]
              refine hr_take_w 16 (some 122) (.bool false) rfl rfl (by kernel_rfl) (by kernel_rfl) (by kernel_rfl) rfl (fun W hW => by obtain ⟨h0, h1, h2⟩ := hW; go_simp) tH1 ?_
              simp only [Act.put, List.setIfInBounds_toArray, List.set_cons_zero, List.set_cons_succ]
              refine hr_take_w 17 (some 123) (.bool false) rfl rfl (by kernel_rfl) (by kernel_rfl) (by kernel_rfl) rfl (fun W hW => by obtain ⟨h0, h1, h2⟩ := hW; go_simp) tH1 ?_
              simp only [Act.put, List.setIfInBounds_toArray, List.set_cons_zero, List.set_cons_succ]
              refine hr_take_w 18 (some 124) (.bool false) rfl rfl (by kernel_rfl) (by kernel_rfl) (by kernel_rfl) rfl (fun W hW => by obtain ⟨h0, h1, h2⟩ := hW; go_simp) tH1 ?_
              simp only [Act.put, List.setIfInBounds_toArray, List.set_cons_zero, List.set_cons_succ]
              refine hr_take_w 19 (some 125) (.slice (some hA) hn hc) rfl rfl (by kernel_rfl) (by kernel_rfl) (by kernel_rfl) rfl (fun W hW => by obtain ⟨h0, h1, h2⟩ := hW; go_simp) tH1 ?_
              simp only [Act.put, List.setIfInBounds_toArray, List.set_cons_zero, List.set_cons_succ]
              refine hr_take_w 20 (some 126) (.bool true) rfl rfl (by kernel_rfl) (by kernel_rfl) (by kernel_rfl) rfl (fun W hW => by obtain ⟨h0, h1, h2⟩ := hW; go_simp) tH1 ?_
              simp only [Act.put, List.setIfInBounds_toArray, List.set_cons_zero, List.set_cons_succ]
              refine hr_take_w 21 (some 127) (.bool true) rfl rfl (by kernel_rfl) (by kernel_rfl) (by kernel_rfl) rfl (fun W hW => by obtain ⟨h0, h1, h2⟩ := hW; go_simp) tH1 ?_
              simp only [Act.put, List.setIfInBounds_toArray, List.set_cons_zero, List.set_cons_succ]
              refine hr_take_w 22 (some 128) (.slice q.ao q.n q.cap) rfl rfl (by kernel_rfl) (by kernel_rfl) (by kernel_rfl) rfl (fun W hW => by obtain ⟨h0, h1, h2⟩ := hW; go_simp) tH1 ?_
              simp only [Act.put, List.setIfInBounds_toArray, List.set_cons_zero, List.set_cons_succ]
              refine hr_take_w 23 (some 129) (.string sq) rfl rfl (by kernel_rfl) (by kernel_rfl) (by kernel_rfl) rfl (fun W hW => by obtain ⟨h0, h1, h2⟩ := hW; go_simp) tH1 ?_
              simp only [Act.put, List.setIfInBounds_toArray, List.set_cons_zero, List.set_cons_succ]
              refine hr_take_w 24 (some 130) (.slice (some hA) hn hc) rfl rfl (by kernel_rfl) (by kernel_rfl) (by kernel_rfl) rfl (fun W hW => by obtain ⟨h0, h1, h2⟩ := hW; go_simp) tH1 ?_
              simp only [Act.put, List.setIfInBounds_toArray, List.set_cons_zero, List.set_cons_succ]
              refine hr_take_w 25 (some 131) (.string sh) rfl rfl (by kernel_rfl) (by kernel_rfl) (by kernel_rfl) rfl (fun W hW => by obtain ⟨h0, h1, h2⟩ := hW; go_simp) tH1 ?_
              simp only [Act.put, List.setIfInBounds_toArray, List.set_cons_zero, List.set_cons_succ]
              refine hr_take_w 26 (some 132) (.bool false) rfl rfl (by kernel_rfl) (by kernel_rfl) (by kernel_rfl) rfl (fun W hW => by obtain ⟨h0, h1, h2⟩ := hW; go_simp) tH1 ?_
              simp only [Act.put, List.setIfInBounds_toArray, List.set_cons_zero, List.set_cons_succ]
              refine hr_take_w 27 (some 133) (.bool false) rfl rfl (by kernel_rfl) (by kernel_rfl) (by kernel_rfl) rfl (fun W hW => by obtain ⟨h0, h1, h2⟩ := hW; go_simp) tH1 ?_
              simp only [Act.put, List.setIfInBounds_toArray, List.set_cons_zero, List.set_cons_succ]
              refine hr_take_w 28 (some 134) (.bool false) rfl rfl (by kernel_rfl) (by kernel_rfl) (by kernel_rfl) rfl (fun W hW => by obtain ⟨h0, h1, h2⟩ := hW; go_simp) tH1 ?_
              simp only [Act.put, List.setIfInBounds_toArray, List.set_cons_zero, List.set_cons_succ]
              refine wpAnyH_done (by kernel_rfl) ?_ _
              refine NoPanic.normal ?_
              clear c0w tHS tH0 tH1
              have BK : Below w.heap.size w tv1 := B.trans (tE1.mono B.size)
              have slk : Sl tv1 none pn pc px := slw.below tE1
              have shk : Sl tv1 q.ao q.n q.cap q.xs := sqw.below tE1
              have c0k := (BK.cell (World.block_lt_of_cell? _ _ c0)).trans c0
              have c3k := (BK.cell (World.block_lt_of_cell? _ _ c3)).trans c3
              have cuk := (BK.cell (World.block_lt_of_cell? _ _ cu)).trans cu
              go_wp2
              have kHS : Hid (∀ V, Below tv1.heap.size tv1 V → V.cell? ⟨d.b, 0, none⟩ = some (.int .i64 (d.L : Nat)) ∧ V.cell? ⟨d.b, 3, none⟩ = some (.slice (some ⟨cb, co, none⟩) d.cs.length d.cc) ∧ V.cell? ⟨cb, co + ii, none⟩ = some (.pointer pu)) := fun V hV => ⟨(hV.cell (World.block_lt_of_cell? _ _ c0k)).trans c0k, (hV.cell (World.block_lt_of_cell? _ _ c3k)).trans c3k, (hV.cell (World.block_lt_of_cell? _ _ cuk)).trans cuk⟩
              have kE0 : Below tv1.heap.size tv1 tv1.drew := (Below.refl _ _).drew
              refine wp_region_noPanic ?_
              refine wp_region_held_drew (S := fun V => V.cell? ⟨d.b, 0, none⟩ = some (.int .i64 (d.L : Nat)) ∧ V.cell? ⟨d.b, 3, none⟩ = some (.slice (some ⟨cb, co, none⟩) d.cs.length d.cc) ∧ V.cell? ⟨cb, co + ii, none⟩ = some (.pointer pu)) (by kernel_rfl) (kHS.out _ kE0) (fun kH0 => ?_)
              obtain ⟨kv0, hv0⟩ : ∃ v, v = tv1.drew := ⟨_, rfl⟩
              rw [← hv0] at kH0 kE0 ⊢
              clear hv0
              refine hr_take_w 0 (some 136) (.pointer (some ⟨d.b, 0, none⟩)) rfl rfl (by kernel_rfl) (by kernel_rfl) (by kernel_rfl) rfl (fun W hW => by obtain ⟨h0, h1, h2⟩ := hW; go_simp) kH0 ?_
              simp only [Act.put, List.setIfInBounds_toArray, List.set_cons_zero, List.set_cons_succ]
              refine hr_take_w 1 (some 137) (.pointer (some ⟨d.b, 0, none⟩)) rfl rfl (by kernel_rfl) (by kernel_rfl) (by kernel_rfl) rfl (fun W hW => by obtain ⟨h0, h1, h2⟩ := hW; go_simp) kH0 ?_
              simp only [Act.put, List.setIfInBounds_toArray, List.set_cons_zero, List.set_cons_succ]
              refine hr_take_w 2 (some 138) (.pointer (some ⟨d.b, 3, none⟩)) rfl rfl (by kernel_rfl) (by kernel_rfl) (by kernel_rfl) rfl (fun W hW => by obtain ⟨h0, h1, h2⟩ := hW; go_simp) kH0 ?_
              simp only [Act.put, List.setIfInBounds_toArray, List.set_cons_zero, List.set_cons_succ]
              refine hr_take_w 3 (some 139) (.slice (some ⟨cb, co, none⟩) d.cs.length d.cc) rfl rfl (by kernel_rfl) (by kernel_rfl) (by kernel_rfl) rfl (fun W hW => by obtain ⟨h0, h1, h2⟩ := hW; go_simp) kH0 ?_
              simp only [Act.put, List.setIfInBounds_toArray, List.set_cons_zero, List.set_cons_succ]
              refine hr_take_w 4 (some 140) (.int .i64 ii) rfl rfl (by kernel_rfl) (by kernel_rfl) (by kernel_rfl) rfl (fun W hW => by obtain ⟨h0, h1, h2⟩ := hW; go_simp) kH0 ?_
              simp only [Act.put, List.setIfInBounds_toArray, List.set_cons_zero, List.set_cons_succ]
              refine hr_take_w 5 (some 141) (.pointer (some ⟨cb, co + ii, none⟩)) rfl rfl (by kernel_rfl) (by kernel_rfl) (by kernel_rfl) rfl (fun W hW => by obtain ⟨h0, h1, h2⟩ := hW; go_simp) kH0 ?_
              simp only [Act.put, List.setIfInBounds_toArray, List.set_cons_zero, List.set_cons_succ]
              refine hr_take_w 6 (some 142) (.pointer pu) rfl rfl (by kernel_rfl) (by kernel_rfl) (by kernel_rfl) rfl (fun W hW => by obtain ⟨h0, h1, h2⟩ := hW; go_simp) kH0 ?_
              simp only [Act.put, List.setIfInBounds_toArray, List.set_cons_zero, List.set_cons_succ]
              refine hr_take_w 7 (some 143) (.slice none pn pc) rfl rfl (by kernel_rfl) (by kernel_rfl) (by kernel_rfl) rfl (fun W hW => by obtain ⟨h0, h1, h2⟩ := hW; go_simp) kH0 ?_
              simp only [Act.put, List.setIfInBounds_toArray, List.set_cons_zero, List.set_cons_succ]
              refine hr_take_w 8 (some 144) (.slice q.ao q.n q.cap) rfl rfl (by kernel_rfl) (by kernel_rfl) (by kernel_rfl) rfl (fun W hW => by obtain ⟨h0, h1, h2⟩ := hW; go_simp) kH0 ?_
              simp only [Act.put, List.setIfInBounds_toArray, List.set_cons_zero, List.set_cons_succ]
              refine hr_take_w 9 (some 145) (.pointer (some ⟨d.b, 0, none⟩)) rfl rfl (by kernel_rfl) (by kernel_rfl) (by kernel_rfl) rfl (fun W hW => by obtain ⟨h0, h1, h2⟩ := hW; go_simp) kH0 ?_
              simp only [Act.put, List.setIfInBounds_toArray, List.set_cons_zero, List.set_cons_succ]
              refine hr_take_w 10 (some 146) (.pointer (some ⟨d.b, 0, none⟩)) rfl rfl (by kernel_rfl) (by kernel_rfl) (by kernel_rfl) rfl (fun W hW => by obtain ⟨h0, h1, h2⟩ := hW; go_simp) kH0 ?_
              simp only [Act.put, List.setIfInBounds_toArray, List.set_cons_zero, List.set_cons_succ]
              refine hr_take_w 11 (some 147) (.pointer (some ⟨d.b, 0, none⟩)) rfl rfl (by kernel_rfl) (by kernel_rfl) (by kernel_rfl) rfl (fun W hW => by obtain ⟨h0, h1, h2⟩ := hW; go_simp) kH0 ?_
              simp only [Act.put, List.setIfInBounds_toArray, List.set_cons_zero, List.set_cons_succ]
              refine hr_take_w 12 (some 148) (.int .i64 (d.L : Nat)) rfl rfl (by kernel_rfl) (by kernel_rfl) (by kernel_rfl) rfl (fun W hW => by obtain ⟨h0, h1, h2⟩ := hW; go_simp) kH0 ?_
              simp only [Act.put, List.setIfInBounds_toArray, List.set_cons_zero, List.set_cons_succ]
              refine hr_call_w 13 (some 149) 18 #[.pointer pu, .slice none pn pc, .slice q.ao q.n q.cap, .int .i64 (d.L : Nat)] rfl rfl (by kernel_rfl) rfl (by go_simp) (fun v w' => v = .tuple #[.int .i64 (s.length : Nat), .bool true] ∧ Below kv0.heap.size kv0 w') ((ih s.length hslt kv0 (.pointer pu) s none pn pc px q.ao q.n q.cap q.xs d.L (hT.below (BK.trans (kE0.mono BK.size)) h2) (Tu.below (BK.trans (kE0.mono BK.size))) HSRT.out (slk.below kE0) (shk.below kE0) HLO.out HHI.out HLV.out hL64 (by omega) HSS.out (Nat.le_refl _)).mono (by
                rintro e w' ⟨rfl, C⟩
                exact ⟨_, rfl, rfl, C⟩)) ?_
              rintro v kv1 ⟨rfl, kC0⟩
              have kE1 := kE0.trans (kC0.mono kE0.size)
              have kH1 := kHS.out kv1 kE1
              refine ⟨kH1, ?_⟩
              simp only [Act.put, List.setIfInBounds_toArray, List.set_cons_zero, List.set_cons_succ]
              refine hr_take_w 14 (some 135) (.tuple #[.int .i64 (s.length : Nat), .bool true]) rfl rfl (by kernel_rfl) (by kernel_rfl) (by kernel_rfl) rfl (fun W hW => by obtain ⟨h0, h1, h2⟩ := hW; go_simp) kH1 ?_
              simp only [Act.put, List.setIfInBounds_toArray, List.set_cons_zero, List.set_cons_succ]
              refine hr_take_w 15 (some 150) (.int .i64 (s.length : Nat)) rfl rfl (by kernel_rfl) (by kernel_rfl) (by kernel_rfl) rfl (fun W hW => by obtain ⟨h0, h1, h2⟩ := hW; go_simp) kH1 ?_
              simp only [Act.put, List.setIfInBounds_toArray, List.set_cons_zero, List.set_cons_succ]
              refine hr_take_w 16 (some 151) (.bool true) rfl rfl (by kernel_rfl) (by kernel_rfl) (by kernel_rfl) rfl (fun W hW => by obtain ⟨h0, h1, h2⟩ := hW; go_simp) kH1 ?_
              simp only [Act.put, List.setIfInBounds_toArray, List.set_cons_zero, List.set_cons_succ]
              refine hr_take_w 17 (some 14) (.int .i64 (s.length : Nat)) rfl rfl (by kernel_rfl) (by kernel_rfl) (by kernel_rfl) rfl (fun W hW => by obtain ⟨h0, h1, h2⟩ := hW; go_simp) kH1 ?_
              simp only [Act.put, List.setIfInBounds_toArray, List.set_cons_zero, List.set_cons_succ]
              refine hr_take_w 18 (some 15) (.bool true) rfl rfl (by kernel_rfl) (by kernel_rfl) (by kernel_rfl) rfl (fun W hW => by obtain ⟨h0, h1, h2⟩ := hW; go_simp) kH1 ?_
              simp only [Act.put, List.setIfInBounds_toArray, List.set_cons_zero, List.set_cons_succ]
              refine wpAnyH_done (by kernel_rfl) ?_ _
              refine NoPanic.normal ?_
              clear c0k c3k cuk kHS kH0 kH1
              have B2 := BK.trans (kE1.mono BK.size)
              go_wp2
              go_roundw
              case rel => exact ⟨ii + 1, M + s.length, by omega, by go_num, by go_num, HMS.out, B2⟩
              case measure => simp [intOf]; omega
          · have nl : ∀ W, (binOp .neq 26 (.slice (some lA) pn pc) (.slice none 0 0)).run Tryd.prog W = .ok (.bool true) W := fun W => neq_nil W (some lA) pn pc
            obtain ⟨sl, hsl⟩ : ∃ s, s = strOfNums px := ⟨_, rfl⟩
            have Hsl : Hid (sl = strOfNums px) := hsl
            have g1 : ∀ W, (binOp .geq 9 (.string sl) (.string sq)).run Tryd.prog W = .ok (.bool false) W := fun W => by rw [Hsl.out, Hsq.out]; exact geq_str slw.byte sqw.byte (HLQ.out (by simp)) _ W
            clear hsl
            rcases ha with _ | hA
            · have nh : ∀ W, (binOp .neq 26 (.slice none hn hc) (.slice none 0 0)).run Tryd.prog W = .ok (.bool false) W := fun W => neq_nil W none hn hc
              have tHS : Hid (∀ V, Below wr.heap.size wr V → V.cell? ⟨d.b, 0, none⟩ = some (.int .i64 (d.L : Nat)) ∧ (convert 26 9 (.slice q.ao q.n q.cap)).run Tryd.prog V = .ok (.string sq) V ∧ (convert 26 9 (.slice (some lA) pn pc)).run Tryd.prog V = .ok (.string sl) V) := fun V hV => ⟨(hV.cell (World.block_lt_of_cell? _ _ c0w)).trans c0w, by rw [Hsq.out]; exact conv_str (sqw.below hV), by rw [Hsl.out]; exact conv_str (slw.below hV)⟩
              have tE0 : Below wr.heap.size wr wr.drew := (Below.refl _ _).drew
              refine wp_region_noPanic ?_
              refine wp_region_held_drew (S := fun V => V.cell? ⟨d.b, 0, none⟩ = some (.int .i64 (d.L : Nat)) ∧ (convert 26 9 (.slice q.ao q.n q.cap)).run Tryd.prog V = .ok (.string sq) V ∧ (convert 26 9 (.slice (some lA) pn pc)).run Tryd.prog V = .ok (.string sl) V) (by kernel_rfl) (tHS.out _ tE0) (fun tH0 => ?_)
              obtain ⟨tv0, hv0⟩ : ∃ v, v = wr.drew := ⟨_, rfl⟩
              rw [← hv0] at tH0 tE0 ⊢
              clear hv0
              refine hr_take_w 0 (some 106) (.slice q.ao q.n q.cap) rfl rfl (by kernel_rfl) (by kernel_rfl) (by kernel_rfl) rfl (fun W hW => by obtain ⟨h0, h1, h2⟩ := hW; go_simp) tH0 ?_
              simp only [Act.put, List.setIfInBounds_toArray, List.set_cons_zero, List.set_cons_succ]
              refine hr_take_w 2 (some 108) (.pointer (some ⟨d.b, 0, none⟩)) rfl rfl (by kernel_rfl) (by kernel_rfl) (by kernel_rfl) rfl (fun W hW => by obtain ⟨h0, h1, h2⟩ := hW; go_simp) tH0 ?_
              simp only [Act.put, List.setIfInBounds_toArray, List.set_cons_zero, List.set_cons_succ]
              refine hr_take_w 3 (some 109) (.pointer (some ⟨d.b, 0, none⟩)) rfl rfl (by kernel_rfl) (by kernel_rfl) (by kernel_rfl) rfl (fun W hW => by obtain ⟨h0, h1, h2⟩ := hW; go_simp) tH0 ?_
              simp only [Act.put, List.setIfInBounds_toArray, List.set_cons_zero, List.set_cons_succ]
              refine hr_take_w 4 (some 110) (.pointer (some ⟨d.b, 0, none⟩)) rfl rfl (by kernel_rfl) (by kernel_rfl) (by kernel_rfl) rfl (fun W hW => by obtain ⟨h0, h1, h2⟩ := hW; go_simp) tH0 ?_
              simp only [Act.put, List.setIfInBounds_toArray, List.set_cons_zero, List.set_cons_succ]
              refine hr_take_w 5 (some 111) (.int .i64 (d.L : Nat)) rfl rfl (by kernel_rfl) (by kernel_rfl) (by kernel_rfl) rfl (fun W hW => by obtain ⟨h0, h1, h2⟩ := hW; go_simp) tH0 ?_
              simp only [Act.put, List.setIfInBounds_toArray, List.set_cons_zero, List.set_cons_succ]
              refine hr_call_w 1 (some 107) 28 #[.slice q.ao q.n q.cap] rfl rfl (by kernel_rfl) rfl (by go_simp) (fun v w' => v = .int .i64 (lev q.xs : Nat) ∧ Below tv0.heap.size tv0 w') ((level_any tv0 q.ao q.n q.cap q.xs (hT.below (B.trans (tE0.mono B.size)) h2) (sqw.below tE0) hqn).mono (by
                rintro e w' ⟨rfl, C⟩
                exact ⟨_, rfl, rfl, C⟩)) ?_
              rintro v tv1 ⟨rfl, tC0⟩
              have tE1 := tE0.trans (tC0.mono tE0.size)
              have tH1 := tHS.out tv1 tE1
              refine ⟨tH1, ?_⟩
              simp only [Act.put, List.setIfInBounds_toArray, List.set_cons_zero, List.set_cons_succ]
              refine hr_take_w 6 (some 112) (.bool false) rfl rfl (by kernel_rfl) (by kernel_rfl) (by kernel_rfl) rfl (fun W hW => by obtain ⟨h0, h1, h2⟩ := hW; go_simp) tH1 ?_
              simp only [Act.put, List.setIfInBounds_toArray, List.set_cons_zero, List.set_cons_succ]
              refine hr_take_w 7 (some 113) (.bool false) rfl rfl (by kernel_rfl) (by kernel_rfl) (by kernel_rfl) rfl (fun W hW => by obtain ⟨h0, h1, h2⟩ := hW; go_simp) tH1 ?_
              simp only [Act.put, List.setIfInBounds_toArray, List.set_cons_zero, List.set_cons_succ]
              refine hr_take_w 8 (some 114) (.slice (some lA) pn pc) rfl rfl (by kernel_rfl) (by kernel_rfl) (by kernel_rfl) rfl (fun W hW => by obtain ⟨h0, h1, h2⟩ := hW; go_simp) tH1 ?_
              simp only [Act.put, List.setIfInBounds_toArray, List.set_cons_zero, List.set_cons_succ]
              refine hr_take_w 9 (some 115) (.bool true) rfl rfl (by kernel_rfl) (by kernel_rfl) (by kernel_rfl) rfl (fun W hW => by obtain ⟨h0, h1, h2⟩ := hW; go_simp) tH1 ?_
              simp only [Act.put, List.setIfInBounds_toArray, List.set_cons_zero, List.set_cons_succ]
              refine hr_take_w 10 (some 116) (.bool true) rfl rfl (by kernel_rfl) (by kernel_rfl) (by kernel_rfl) rfl (fun W hW => by obtain ⟨h0, h1, h2⟩ := hW; go_simp) tH1 ?_
              simp only [Act.put, List.setIfInBounds_toArray, List.set_cons_zero, List.set_cons_succ]
              refine hr_take_w 11 (some 117) (.slice (some lA) pn pc) rfl rfl (by kernel_rfl) (by kernel_rfl) (by kernel_rfl) rfl (fun W hW => by obtain ⟨h0, h1, h2⟩ := hW; go_simp) tH1 ?_
              simp only [Act.put, List.setIfInBounds_toArray, List.set_cons_zero, List.set_cons_succ]
              refine hr_take_w 12 (some 118) (.string sl) rfl rfl (by kernel_rfl) (by kernel_rfl) (by kernel_rfl) rfl (fun W hW => by obtain ⟨h0, h1, h2⟩ := hW; go_simp) tH1 ?_
              simp only [Act.put, List.setIfInBounds_toArray, List.set_cons_zero, List.set_cons_succ]
              refine hr_take_w 13 (some 119) (.slice q.ao q.n q.cap) rfl rfl (by kernel_rfl) (by kernel_rfl) (by kernel_rfl) rfl (fun W hW => by obtain ⟨h0, h1, h2⟩ := hW; go_simp) tH1 ?_
              simp only [Act.put, List.setIfInBounds_toArray, List.set_cons_zero, List.set_cons_succ]
              refine hr_take_w 14 (some 120) (.string sq) rfl rfl (by kernel_rfl) (by kernel_rfl) (by kernel_rfl) rfl (fun W hW => by obtain ⟨h0, h1, h2⟩ := hW; go_simp) tH1 ?_
              simp only [Act.put, List.setIfInBounds_toArray, List.set_cons_zero, List.set_cons_succ]
              refine hr_take_w 15 (some 121) (.bool false) rfl rfl (by kernel_rfl) (by kernel_rfl) (by kernel_rfl) rfl (fun W hW => by obtain ⟨h0, h1, h2⟩ := hW; go_simp) tH1 ?_
              simp only [Act.put, List.setIfInBounds_toArray, List.set_cons_zero, List.set_cons_succ]
              refine hr_take_w 16 (some 122) (.bool false) rfl rfl (by kernel_rfl) (by kernel_rfl) (by kernel_rfl) rfl (fun W hW => by obtain ⟨h0, h1, h2⟩ := hW; go_simp) tH1 ?_
              simp only [Act.put, List.setIfInBounds_toArray, List.set_cons_zero, List.set_cons_succ]
              refine hr_take_w 17 (some 123) (.bool false) rfl rfl (by kernel_rfl) (by kernel_rfl) (by kernel_rfl) rfl (fun W hW => by obtain ⟨h0, h1, h2⟩ := hW; go_simp) tH1 ?_
              simp only [Act.put, List.setIfInBounds_toArray, List.set_cons_zero, List.set_cons_succ]
              refine hr_take_w 18 (some 124) (.bool false) rfl rfl (by kernel_rfl) (by kernel_rfl) (by kernel_rfl) rfl (fun W hW => by obtain ⟨h0, h1, h2⟩ := hW; go_simp) tH1 ?_
              simp only [Act.put, List.setIfInBounds_toArray, List.set_cons_zero, List.set_cons_succ]
              refine hr_take_w 19 (some 125) (.slice none hn hc) rfl rfl (by kernel_rfl) (by kernel_rfl) (by kernel_rfl) rfl (fun W hW => by obtain ⟨h0, h1, h2⟩ := hW; go_simp) tH1 ?_
              simp only [Act.put, List.setIfInBounds_toArray, List.set_cons_zero, List.set_cons_succ]
              refine hr_take_w 20 (some 126) (.bool false) rfl rfl (by kernel_rfl) (by kernel_rfl) (by kernel_rfl) rfl (fun W hW => by obtain ⟨h0, h1, h2⟩ := hW; go_simp) tH1 ?_
              simp only [Act.put, List.setIfInBounds_toArray, List.set_cons_zero, List.set_cons_succ]
              refine hr_take_w 21 (some 127) (.bool false) rfl rfl (by kernel_rfl) (by kernel_rfl) (by kernel_rfl) rfl (fun W hW => by obtain ⟨h0, h1, h2⟩ := hW; go_simp) tH1 ?_
              simp only [Act.put, List.setIfInBounds_toArray, List.set_cons_zero, List.set_cons_succ]
              refine hr_none 22 (some 128) rfl rfl (by kernel_rfl) (by kernel_rfl) (by kernel_rfl) rfl tH1 ?_
              simp only [Act.put, List.setIfInBounds_toArray, List.set_cons_zero, List.set_cons_succ]
              refine hr_none 23 (some 129) rfl rfl (by kernel_rfl) (by kernel_rfl) (by kernel_rfl) rfl tH1 ?_
              simp only [Act.put, List.setIfInBounds_toArray, List.set_cons_zero, List.set_cons_succ]
              refine hr_none 24 (some 130) rfl rfl (by kernel_rfl) (by kernel_rfl) (by kernel_rfl) rfl tH1 ?_
              simp only [Act.put, List.setIfInBounds_toArray, List.set_cons_zero, List.set_cons_succ]
              refine hr_none 25 (some 131) rfl rfl (by kernel_rfl) (by kernel_rfl) (by kernel_rfl) rfl tH1 ?_
              simp only [Act.put, List.setIfInBounds_toArray, List.set_cons_zero, List.set_cons_succ]
              refine hr_none 26 (some 132) rfl rfl (by kernel_rfl) (by kernel_rfl) (by kernel_rfl) rfl tH1 ?_
              simp only [Act.put, List.setIfInBounds_toArray, List.set_cons_zero, List.set_cons_succ]
              refine hr_take_w 27 (some 133) (.bool false) rfl rfl (by kernel_rfl) (by kernel_rfl) (by kernel_rfl) rfl (fun W hW => by obtain ⟨h0, h1, h2⟩ := hW; go_simp) tH1 ?_
              simp only [Act.put, List.setIfInBounds_toArray, List.set_cons_zero, List.set_cons_succ]
              refine hr_take_w 28 (some 134) (.bool false) rfl rfl (by kernel_rfl) (by kernel_rfl) (by kernel_rfl) rfl (fun W hW => by obtain ⟨h0, h1, h2⟩ := hW; go_simp) tH1 ?_
              simp only [Act.put, List.setIfInBounds_toArray, List.set_cons_zero, List.set_cons_succ]
              refine wpAnyH_done (by kernel_rfl) ?_ _
              refine NoPanic.normal ?_
              clear c0w tHS tH0 tH1
              have BK : Below w.heap.size w tv1 := B.trans (tE1.mono B.size)
              have slk : Sl tv1 (some lA) pn pc px := slw.below tE1
              have shk : Sl tv1 q.ao q.n q.cap q.xs := sqw.below tE1
              have c0k := (BK.cell (World.block_lt_of_cell? _ _ c0)).trans c0
              have c3k := (BK.cell (World.block_lt_of_cell? _ _ c3)).trans c3
              have cuk := (BK.cell (World.block_lt_of_cell? _ _ cu)).trans cu
              go_wp2
              have kHS : Hid (∀ V, Below tv1.heap.size tv1 V → V.cell? ⟨d.b, 0, none⟩ = some (.int .i64 (d.L : Nat)) ∧ V.cell? ⟨d.b, 3, none⟩ = some (.slice (some ⟨cb, co, none⟩) d.cs.length d.cc) ∧ V.cell? ⟨cb, co + ii, none⟩ = some (.pointer pu)) := fun V hV => ⟨(hV.cell (World.block_lt_of_cell? _ _ c0k)).trans c0k, (hV.cell (World.block_lt_of_cell? _ _ c3k)).trans c3k, (hV.cell (World.block_lt_of_cell? _ _ cuk)).trans cuk⟩
              have kE0 : Below tv1.heap.size tv1 tv1.drew := (Below.refl _ _).drew
              refine wp_region_noPanic ?_
              refine wp_region_held_drew (S := fun V => V.cell? ⟨d.b, 0, none⟩ = some (.int .i64 (d.L : Nat)) ∧ V.cell? ⟨d.b, 3, none⟩ = some (.slice (some ⟨cb, co, none⟩) d.cs.length d.cc) ∧ V.cell? ⟨cb, co + ii, none⟩ = some (.pointer pu)) (by kernel_rfl) (kHS.out _ kE0) (fun kH0 => ?_)
              obtain ⟨kv0, hv0⟩ : ∃ v, v = tv1.drew := ⟨_, rfl⟩
              rw [← hv0] at kH0 kE0 ⊢
              clear hv0
              refine hr_take_w 0 (some 136) (.pointer (some ⟨d.b, 0, none⟩)) rfl rfl (by kernel_rfl) (by kernel_rfl) (by kernel_rfl) rfl (fun W hW => by obtain ⟨h0, h1, h2⟩ := hW; go_simp) kH0 ?_
              simp only [Act.put, List.setIfInBounds_toArray, List.set_cons_zero, List.set_cons_succ]
              refine hr_take_w 1 (some 137) (.pointer (some ⟨d.b, 0, none⟩)) rfl rfl (by kernel_rfl) (by kernel_rfl) (by kernel_rfl) rfl (fun W hW => by obtain ⟨h0, h1, h2⟩ := hW; go_simp) kH0 ?_
              simp only [Act.put, List.setIfInBounds_toArray, List.set_cons_zero, List.set_cons_succ]
              refine hr_take_w 2 (some 138) (.pointer (some ⟨d.b, 3, none⟩)) rfl rfl (by kernel_rfl) (by kernel_rfl) (by kernel_rfl) rfl (fun W hW => by obtain ⟨h0, h1, h2⟩ := hW; go_simp) kH0 ?_
              simp only [Act.put, List.setIfInBounds_toArray, List.set_cons_zero, List.set_cons_succ]
              refine hr_take_w 3 (some 139) (.slice (some ⟨cb, co, none⟩) d.cs.length d.cc) rfl rfl (by kernel_rfl) (by kernel_rfl) (by kernel_rfl) rfl (fun W hW => by obtain ⟨h0, h1, h2⟩ := hW; go_simp) kH0 ?_
              simp only [Act.put, List.setIfInBounds_toArray, List.set_cons_zero, List.set_cons_succ]
              refine hr_take_w 4 (some 140) (.int .i64 ii) rfl rfl (by kernel_rfl) (by kernel_rfl) (by kernel_rfl) rfl (fun W hW => by obtain ⟨h0, h1, h2⟩ := hW; go_simp) kH0 ?_
              simp only [Act.put, List.setIfInBounds_toArray, List.set_cons_zero, List.set_cons_succ]
              refine hr_take_w 5 (some 141) (.pointer (some ⟨cb, co + ii, none⟩)) rfl rfl (by kernel_rfl) (by kernel_rfl) (by kernel_rfl) rfl (fun W hW => by obtain ⟨h0, h1, h2⟩ := hW; go_simp) kH0 ?_
              simp only [Act.put, List.setIfInBounds_toArray, List.set_cons_zero, List.set_cons_succ]
              refine hr_take_w 6 (some 142) (.pointer pu) rfl rfl (by kernel_rfl) (by kernel_rfl) (by kernel_rfl) rfl (fun W hW => by obtain ⟨h0, h1, h2⟩ := hW; go_simp) kH0 ?_
              simp only [Act.put, List.setIfInBounds_toArray, List.set_cons_zero, List.set_cons_succ]
              refine hr_take_w 7 (some 143) (.slice (some lA) pn pc) rfl rfl (by kernel_rfl) (by kernel_rfl) (by kernel_rfl) rfl (fun W hW => by obtain ⟨h0, h1, h2⟩ := hW; go_simp) kH0 ?_
              simp only [Act.put, List.setIfInBounds_toArray, List.set_cons_zero, List.set_cons_succ]
              refine hr_take_w 8 (some 144) (.slice q.ao q.n q.cap) rfl rfl (by kernel_rfl) (by kernel_rfl) (by kernel_rfl) rfl (fun W hW => by obtain ⟨h0, h1, h2⟩ := hW; go_simp) kH0 ?_
              simp only [Act.put, List.setIfInBounds_toArray, List.set_cons_zero, List.set_cons_succ]
              refine hr_take_w 9 (some 145) (.pointer (some ⟨d.b, 0, none⟩)) rfl rfl (by kernel_rfl) (by kernel_rfl) (by kernel_rfl) rfl (fun W hW => by obtain ⟨h0, h1, h2⟩ := hW; go_simp) kH0 ?_
              simp only [Act.put, List.setIfInBounds_toArray, List.set_cons_zero, List.set_cons_succ]
              refine hr_take_w 10 (some 146) (.pointer (some ⟨d.b, 0, none⟩)) rfl rfl (by kernel_rfl) (by kernel_rfl) (by kernel_rfl) rfl (fun W hW => by obtain ⟨h0, h1, h2⟩ := hW; go_simp) kH0 ?_
              simp only [Act.put, List.setIfInBounds_toArray, List.set_cons_zero, List.set_cons_succ]
              refine hr_take_w 11 (some 147) (.pointer (some ⟨d.b, 0, none⟩)) rfl rfl (by kernel_rfl) (by kernel_rfl) (by kernel_rfl) rfl (fun W hW => by obtain ⟨h0, h1, h2⟩ := hW; go_simp) kH0 ?_
              simp only [Act.put, List.setIfInBounds_toArray, List.set_cons_zero, List.set_cons_succ]
              refine hr_take_w 12 (some 148) (.int .i64 (d.L : Nat)) rfl rfl (by kernel_rfl) (by kernel_rfl) (by kernel_rfl) rfl (fun W hW => by obtain ⟨h0, h1, h2⟩ := hW; go_simp) kH0 ?_
              simp only [Act.put, List.setIfInBounds_toArray, List.set_cons_zero, List.set_cons_succ]
              refine hr_call_w 13 (some 149) 18 #[.pointer pu, .slice (some lA) pn pc, .slice q.ao q.n q.cap, .int .i64 (d.L : Nat)] rfl rfl (by kernel_rfl) rfl (by go_simp) (fun v w' => v = .tuple #[.int .i64 (s.length : Nat), .bool true] ∧ Below kv0.heap.size kv0 w') ((ih s.length hslt kv0 (.pointer pu) s (some lA) pn pc px q.ao q.n q.cap q.xs d.L (hT.below (BK.trans (kE0.mono BK.size)) h2) (Tu.below (BK.trans (kE0.mono BK.size))) HSRT.out (slk.below kE0) (shk.below kE0) HLO.out HHI.out HLV.out hL64 (by omega) HSS.out (Nat.le_refl _)).mono (by
                rintro e w' ⟨rfl, C⟩
                exact ⟨_, rfl, rfl, C⟩)) ?_
              rintro v kv1 ⟨rfl, kC0⟩
              have kE1 := kE0.trans (kC0.mono kE0.size)
              have kH1 := kHS.out kv1 kE1
              refine ⟨kH1, ?_⟩
              simp only [Act.put, List.setIfInBounds_toArray, List.set_cons_zero, List.set_cons_succ]
              refine hr_take_w 14 (some 135) (.tuple #[.int .i64 (s.length : Nat), .bool true]) rfl rfl (by kernel_rfl) (by kernel_rfl) (by kernel_rfl) rfl (fun W hW => by obtain ⟨h0, h1, h2⟩ := hW; go_simp) kH1 ?_
              simp only [Act.put, List.setIfInBounds_toArray, List.set_cons_zero, List.set_cons_succ]
              refine hr_take_w 15 (some 150) (.int .i64 (s.length : Nat)) rfl rfl (by kernel_rfl) (by kernel_rfl) (by kernel_rfl) rfl (fun W hW => by obtain ⟨h0, h1, h2⟩ := hW; go_simp) kH1 ?_
              simp only [Act.put, List.setIfInBounds_toArray, List.set_cons_zero, List.set_cons_succ]
              refine hr_take_w 16 (some 151) (.bool true) rfl rfl (by kernel_rfl) (by kernel_rfl) (by kernel_rfl) rfl (fun W hW => by obtain ⟨h0, h1, h2⟩ := hW; go_simp) kH1 ?_
              simp only [Act.put, List.setIfInBounds_toArray, List.set_cons_zero, List.set_cons_succ]
              refine hr_take_w 17 (some 14) (.int .i64 (s.length : Nat)) rfl rfl (by kernel_rfl) (by kernel_rfl) (by kernel_rfl) rfl (fun W hW => by obtain ⟨h0, h1, h2⟩ := hW; go_simp) kH1 ?_
              simp only [Act.put, List.setIfInBounds_toArray, List.set_cons_zero, List.set_cons_succ]
              refine hr_take_w 18 (some 15) (.bool true) rfl rfl (by kernel_rfl) (by kernel_rfl) (by kernel_rfl) rfl (fun W hW => by obtain ⟨h0, h1, h2⟩ := hW; go_simp) kH1 ?_
              simp only [Act.put, List.setIfInBounds_toArray, List.set_cons_zero, List.set_cons_succ]
              refine wpAnyH_done (by kernel_rfl) ?_ _
              refine NoPanic.normal ?_
              clear c0k c3k cuk kHS kH0 kH1
              have B2 := BK.trans (kE1.mono BK.size)
              go_wp2
              go_roundw
              case rel => exact ⟨ii + 1, M + s.length, by omega, by go_num, by go_num, HMS.out, B2⟩
              case measure => simp [intOf]; omega
            · have nh : ∀ W, (binOp .neq 26 (.slice (some hA) hn hc) (.slice none 0 0)).run Tryd.prog W = .ok (.bool true) W := fun W => neq_nil W (some hA) hn hc
              obtain ⟨sh, hsh⟩ : ∃ s, s = strOfNums hx := ⟨_, rfl⟩
              have Hsh : Hid (sh = strOfNums hx) := hsh
              have g2 : ∀ W, (binOp .geq 9 (.string sq) (.string sh)).run Tryd.prog W = .ok (.bool false) W := fun W => by rw [Hsq.out, Hsh.out]; exact geq_str sqw.byte shw.byte (HHQ.out (by simp)) _ W
              clear hsh
              have tHS : Hid (∀ V, Below wr.heap.size wr V → V.cell? ⟨d.b, 0, none⟩ = some (.int .i64 (d.L : Nat)) ∧ (convert 26 9 (.slice q.ao q.n q.cap)).run Tryd.prog V = .ok (.string sq) V ∧ (convert 26 9 (.slice (some lA) pn pc)).run Tryd.prog V = .ok (.string sl) V ∧ (convert 26 9 (.slice (some hA) hn hc)).run Tryd.prog V = .ok (.string sh) V) := fun V hV => ⟨(hV.cell (World.block_lt_of_cell? _ _ c0w)).trans c0w, by rw [Hsq.out]; exact conv_str (sqw.below hV), by rw [Hsl.out]; exact conv_str (slw.below hV), by rw [Hsh.out]; exact conv_str (shw.below hV)⟩
              have tE0 : Below wr.heap.size wr wr.drew := (Below.refl _ _).drew
              refine wp_region_noPanic ?_
              refine wp_region_held_drew (S := fun V => V.cell? ⟨d.b, 0, none⟩ = some (.int .i64 (d.L : Nat)) ∧ (convert 26 9 (.slice q.ao q.n q.cap)).run Tryd.prog V = .ok (.string sq) V ∧ (convert 26 9 (.slice (some lA) pn pc)).run Tryd.prog V = .ok (.string sl) V ∧ (convert 26 9 (.slice (some hA) hn hc)).run Tryd.prog V = .ok (.string sh) V) (by kernel_rfl) (tHS.out _ tE0) (fun tH0 => ?_)
              obtain ⟨tv0, hv0⟩ : ∃ v, v = wr.drew := ⟨_, rfl⟩
              rw [← hv0] at tH0 tE0 ⊢
              clear hv0
              refine hr_take_w 0 (some 106) (.slice q.ao q.n q.cap) rfl rfl (by kernel_rfl) (by kernel_rfl) (by kernel_rfl) rfl (fun W hW => by obtain ⟨h0, h1, h2, h3⟩ := hW; go_simp) tH0 ?_
              simp only [Act.put, List.setIfInBounds_toArray, List.set_cons_zero, List.set_cons_succ]
              refine hr_take_w 2 (some 108) (.pointer (some ⟨d.b, 0, none⟩)) rfl rfl (by kernel_rfl) (by kernel_rfl) (by kernel_rfl) rfl (fun W hW => by obtain ⟨h0, h1, h2, h3⟩ := hW; go_simp) tH0 ?_
              simp only [Act.put, List.setIfInBounds_toArray, List.set_cons_zero, List.set_cons_succ]
              refine hr_take_w 3 (some 109) (.pointer (some ⟨d.b, 0, none⟩)) rfl rfl (by kernel_rfl) (by kernel_rfl) (by kernel_rfl) rfl (fun W hW => by obtain ⟨h0, h1, h2, h3⟩ := hW; go_simp) tH0 ?_
              simp only [Act.put, List.setIfInBounds_toArray, List.set_cons_zero, List.set_cons_succ]
              refine hr_take_w 4 (some 110) (.pointer (some ⟨d.b, 0, none⟩)) rfl rfl (by kernel_rfl) (by kernel_rfl) (by kernel_rfl) rfl (fun W hW => by obtain ⟨h0, h1, h2, h3⟩ := hW; go_simp) tH0 ?_
              simp only [Act.put, List.setIfInBounds_toArray, List.set_cons_zero, List.set_cons_succ]
              refine hr_take_w 5 (some 111) (.int .i64 (d.L : Nat)) rfl rfl (by kernel_rfl) (by kernel_rfl) (by kernel_rfl) rfl (fun W hW => by obtain ⟨h0, h1, h2, h3⟩ := hW; go_simp) tH0 ?_
              simp only [Act.put, List.setIfInBounds_toArray, List.set_cons_zero, List.set_cons_succ]
              refine hr_call_w 1 (some 107) 28 #[.slice q.ao q.n q.cap] rfl rfl (by kernel_rfl) rfl (by go_simp) (fun v w' => v = .int .i64 (lev q.xs : Nat) ∧ Below tv0.heap.size tv0 w') ((level_any tv0 q.ao q.n q.cap q.xs (hT.below (B.trans (tE0.mono B.size)) h2) (sqw.below tE0) hqn).mono (by
                rintro e w' ⟨rfl, C⟩
                exact ⟨_, rfl, rfl, C⟩)) ?_
              rintro v tv1 ⟨rfl, tC0⟩
              have tE1 := tE0.trans (tC0.mono tE0.size)
              have tH1 := tHS.out tv1 tE1
              refine ⟨tH1, ?_⟩
              simp only [Act.put, List.setIfInBounds_toArray, List.set_cons_zero, List.set_cons_succ]
              refine hr_take_w 6 (some 112) (.bool false) rfl rfl (by kernel_rfl) (by kernel_rfl) (by kernel_rfl) rfl (fun W hW => by obtain ⟨h0, h1, h2, h3⟩ := hW; go_simp) tH1 ?_
              simp only [Act.put, List.setIfInBounds_toArray, List.set_cons_zero, List.set_cons_succ]
              refine hr_take_w 7 (some 113) (.bool false) rfl rfl (by kernel_rfl) (by kernel_rfl) (by kernel_rfl) rfl (fun W hW => by obtain ⟨h0, h1, h2, h3⟩ := hW; go_simp) tH1 ?_
              simp only [Act.put, List.setIfInBounds_toArray, List.set_cons_zero, List.set_cons_succ]
              refine hr_take_w 8 (some 114) (.slice (some lA) pn pc) rfl rfl (by kernel_rfl) (by kernel_rfl) (by kernel_rfl) rfl (fun W hW => by obtain ⟨h0, h1, h2, h3⟩ := hW; go_simp) tH1 ?_
              simp only [Act.put, List.setIfInBounds_toArray, List.set_cons_zero, List.set_cons_succ]
              refine hr_take_w 9 (some 115) (.bool true) rfl rfl (by kernel_rfl) (by kernel_rfl) (by kernel_rfl) rfl (fun W hW => by obtain ⟨h0, h1, h2, h3⟩ := hW; go_simp) tH1 ?_
              simp only [Act.put, List.setIfInBounds_toArray, List.set_cons_zero, List.set_cons_succ]
              refine hr_take_w 10 (some 116) (.bool true) rfl rfl (by kernel_rfl) (by kernel_rfl) (by kernel_rfl) rfl (fun W hW => by obtain ⟨h0, h1, h2, h3⟩ := hW; go_simp) tH1 ?_
              simp only [Act.put, List.setIfInBounds_toArray, List.set_cons_zero, List.set_cons_succ]
              refine hr_take_w 11 (some 117) (.slice (some lA) pn pc) rfl rfl (by kernel_rfl) (by kernel_rfl) (by kernel_rfl) rfl (fun W hW => by obtain ⟨h0, h1, h2, h3⟩ := hW; go_simp) tH1 ?_
              simp only [Act.put, List.setIfInBounds_toArray, List.set_cons_zero, List.set_cons_succ]
              refine hr_take_w 12 (some 118) (.string sl) rfl rfl (by kernel_rfl) (by kernel_rfl) (by kernel_rfl) rfl (fun W hW => by obtain ⟨h0, h1, h2, h3⟩ := hW; go_simp) tH1 ?_
              simp only [Act.put, List.setIfInBounds_toArray, List.set_cons_zero, List.set_cons_succ]
              refine hr_take_w 13 (some 119) (.slice q.ao q.n q.cap) rfl rfl (by kernel_rfl) (by kernel_rfl) (by kernel_rfl) rfl (fun W hW => by obtain ⟨h0, h1, h2, h3⟩ := hW; go_simp) tH1 ?_
              simp only [Act.put, List.setIfInBounds_toArray, List.set_cons_zero, List.set_cons_succ]
              refine hr_take_w 14 (some 120) (.string sq) rfl rfl (by kernel_rfl) (by kernel_rfl) (by kernel_rfl) rfl (fun W hW => by obtain ⟨h0, h1, h2, h3⟩ := hW; go_simp) tH1 ?_
              simp only [Act.put, List.setIfInBounds_toArray, List.set_cons_zero, List.set_cons_succ]
              refine hr_take_w 15 (some 121) (.bool false) rfl rfl (by kernel_rfl) (by kernel_rfl) (by kernel_rfl) rfl (fun W hW => by obtain ⟨h0, h1, h2, h3⟩ := hW; go_simp) tH1 ?_
              simp only [Act.put, List.setIfInBounds_toArray, List.set_cons_zero, List.set_cons_succ]
              refine hr_take_w 16 (some 122) (.bool false) rfl rfl (by kernel_rfl) (by kernel_rfl) (by kernel_rfl) rfl (fun W hW => by obtain ⟨h0, h1, h2, h3⟩ := hW; go_simp) tH1 ?_
              simp only [Act.put, List.setIfInBounds_toArray, List.set_cons_zero, List.set_cons_succ]
              refine hr_take_w 17 (some 123) (.bool false) rfl rfl (by kernel_rfl) (by kernel_rfl) (by kernel_rfl) rfl (fun W hW => by obtain ⟨h0, h1, h2, h3⟩ := hW; go_simp) tH1 ?_
              simp only [Act.put, List.setIfInBounds_toArray, List.set_cons_zero, List.set_cons_succ]
              refine hr_take_w 18 (some 124) (.bool false) rfl rfl (by kernel_rfl) (by kernel_rfl) (by kernel_rfl) rfl (fun W hW => by obtain ⟨h0, h1, h2, h3⟩ := hW; go_simp) tH1 ?_
              simp only [Act.put, List.setIfInBounds_toArray, List.set_cons_zero, List.set_cons_succ]
              refine hr_take_w 19 (some 125) (.slice (some hA) hn hc) rfl rfl (by kernel_rfl) (by kernel_rfl) (by kernel_rfl) rfl (fun W hW => by obtain ⟨h0, h1, h2, h3⟩ := hW; go_simp) tH1 ?_
              simp only [Act.put, List.setIfInBounds_toArray, List.set_cons_zero, List.set_cons_succ]
              refine hr_take_w 20 (some 126) (.bool true) rfl rfl (by kernel_rfl) (by kernel_rfl) (by kernel_rfl) rfl (fun W hW => by obtain ⟨h0, h1, h2, h3⟩ := hW; go_simp) tH1 ?_
              simp only [Act.put, List.setIfInBounds_toArray, List.set_cons_zero, List.set_cons_succ]
              refine hr_take_w 21 (some 127) (.bool true) rfl rfl (by kernel_rfl) (by kernel_rfl) (by kernel_rfl) rfl (fun W hW => by obtain ⟨h0, h1, h2, h3⟩ := hW; go_simp) tH1 ?_
              simp only [Act.put, List.setIfInBounds_toArray, List.set_cons_zero, List.set_cons_succ]
              refine hr_take_w 22 (some 128) (.slice q.ao q.n q.cap) rfl rfl (by kernel_rfl) (by kernel_rfl) (by kernel_rfl) rfl (fun W hW => by obtain ⟨h0, h1, h2, h3⟩ := hW; go_simp) tH1 ?_
              simp only [Act.put, List.setIfInBounds_toArray, List.set_cons_zero, List.set_cons_succ]
              refine hr_take_w 23 (some 129) (.string sq) rfl rfl (by kernel_rfl) (by kernel_rfl) (by kernel_rfl) rfl (fun W hW => by obtain ⟨h0, h1, h2, h3⟩ := hW; go_simp) tH1 ?_
              simp only [Act.put, List.setIfInBounds_toArray, List.set_cons_zero, List.set_cons_succ]
              refine hr_take_w 24 (some 130) (.slice (some hA) hn hc) rfl rfl (by kernel_rfl) (by kernel_rfl) (by kernel_rfl) rfl (fun W hW => by obtain ⟨h0, h1, h2, h3⟩ := hW; go_simp) tH1 ?_
              simp only [Act.put, List.setIfInBounds_toArray, List.set_cons_zero, List.set_cons_succ]
              refine hr_take_w 25 (some 131) (.string sh) rfl rfl (by kernel_rfl) (by kernel_rfl) (by kernel_rfl) rfl (fun W hW => by obtain ⟨h0, h1, h2, h3⟩ := hW; go_simp) tH1 ?_
              simp only [Act.put, List.setIfInBounds_toArray, List.set_cons_zero, List.set_cons_succ]
              refine hr_take_w 26 (some 132) (.bool false) rfl rfl (by kernel_rfl) (by kernel_rfl) (by kernel_rfl) rfl (fun W hW => by obtain ⟨h0, h1, h2, h3⟩ := hW; go_simp) tH1 ?_
              simp only [Act.put, List.setIfInBounds_toArray, List.set_cons_zero, List.set_cons_succ]
              refine hr_take_w 27 (some 133) (.bool false) rfl rfl (by kernel_rfl) (by kernel_rfl) (by kernel_rfl) rfl (fun W hW => by obtain ⟨h0, h1, h2, h3⟩ := hW; go_simp) tH1 ?_
              simp only [Act.put, List.setIfInBounds_toArray, List.set_cons_zero, List.set_cons_succ]
              refine hr_take_w 28 (some 134) (.bool false) rfl rfl (by kernel_rfl) (by kernel_rfl) (by kernel_rfl) rfl (fun W hW => by obtain ⟨h0, h1, h2, h3⟩ := hW; go_simp) tH1 ?_
              simp only [Act.put, List.setIfInBounds_toArray, List.set_cons_zero, List.set_cons_succ]
              refine wpAnyH_done (by kernel_rfl) ?_ _
              refine NoPanic.normal ?_
              clear c0w tHS tH0 tH1
              have BK : Below w.heap.size w tv1 := B.trans (tE1.mono B.size)
              have slk : Sl tv1 (some lA) pn pc px := slw.below tE1
              have shk : Sl tv1 q.ao q.n q.cap q.xs := sqw.below tE1
              have c0k := (BK.cell (World.block_lt_of_cell? _ _ c0)).trans c0
              have c3k := (BK.cell (World.block_lt_of_cell? _ _ c3)).trans c3
              have cuk := (BK.cell (World.block_lt_of_cell? _ _ cu)).trans cu
              go_wp2
              have kHS : Hid (∀ V, Below tv1.heap.size tv1 V → V.cell? ⟨d.b, 0, none⟩ = some (.int .i64 (d.L : Nat)) ∧ V.cell? ⟨d.b, 3, none⟩ = some (.slice (some ⟨cb, co, none⟩) d.cs.length d.cc) ∧ V.cell? ⟨cb, co + ii, none⟩ = some (.pointer pu)) := fun V hV => ⟨(hV.cell (World.block_lt_of_cell? _ _ c0k)).trans c0k, (hV.cell (World.block_lt_of_cell? _ _ c3k)).trans c3k, (hV.cell (World.block_lt_of_cell? _ _ cuk)).trans cuk⟩
              have kE0 : Below tv1.heap.size tv1 tv1.drew := (Below.refl _ _).drew
              refine wp_region_noPanic ?_
              refine wp_region_held_drew (S := fun V => V.cell? ⟨d.b, 0, none⟩ = some (.int .i64 (d.L : Nat)) ∧ V.cell? ⟨d.b, 3, none⟩ = some (.slice (some ⟨cb, co, none⟩) d.cs.length d.cc) ∧ V.cell? ⟨cb, co + ii, none⟩ = some (.pointer pu)) (by kernel_rfl) (kHS.out _ kE0) (fun kH0 => ?_)
              obtain ⟨kv0, hv0⟩ : ∃ v, v = tv1.drew := ⟨_, rfl⟩
              rw [← hv0] at kH0 kE0 ⊢
              clear hv0
              refine hr_take_w 0 (some 136) (.pointer (some ⟨d.b, 0, none⟩)) rfl rfl (by kernel_rfl) (by kernel_rfl) (by kernel_rfl) rfl (fun W hW => by obtain ⟨h0, h1, h2⟩ := hW; go_simp) kH0 ?_
              simp only [Act.put, List.setIfInBounds_toArray, List.set_cons_zero, List.set_cons_succ]
              refine hr_take_w 1 (some 137) (.pointer (some ⟨d.b, 0, none⟩)) rfl rfl (by kernel_rfl) (by kernel_rfl) (by kernel_rfl) rfl (fun W hW => by obtain ⟨h0, h1, h2⟩ := hW; go_simp) kH0 ?_
              simp only [Act.put, List.setIfInBounds_toArray, List.set_cons_zero, List.set_cons_succ]
              refine hr_take_w 2 (some 138) (.pointer (some ⟨d.b, 3, none⟩)) rfl rfl (by kernel_rfl) (by kernel_rfl) (by kernel_rfl) rfl (fun W hW => by obtain ⟨h0, h1, h2⟩ := hW; go_simp) kH0 ?_
              simp only [Act.put, List.setIfInBounds_toArray, List.set_cons_zero, List.set_cons_succ]
              refine hr_take_w 3 (some 139) (.slice (some ⟨cb, co, none⟩) d.cs.length d.cc) rfl rfl (by kernel_rfl) (by kernel_rfl) (by kernel_rfl) rfl (fun W hW => by obtain ⟨h0, h1, h2⟩ := hW; go_simp) kH0 ?_
              simp only [Act.put, List.setIfInBounds_toArray, List.set_cons_zero, List.set_cons_succ]
              refine hr_take_w 4 (some 140) (.int .i64 ii) rfl rfl (by kernel_rfl) (by kernel_rfl) (by kernel_rfl) rfl (fun W hW => by obtain ⟨h0, h1, h2⟩ := hW; go_simp) kH0 ?_
              simp only [Act.put, List.setIfInBounds_toArray, List.set_cons_zero, List.set_cons_succ]
              refine hr_take_w 5 (some 141) (.pointer (some ⟨cb, co + ii, none⟩)) rfl rfl (by kernel_rfl) (by kernel_rfl) (by kernel_rfl) rfl (fun W hW => by obtain ⟨h0, h1, h2⟩ := hW; go_simp) kH0 ?_
              simp only [Act.put, List.setIfInBounds_toArray, List.set_cons_zero, List.set_cons_succ]
              refine hr_take_w 6 (some 142) (.pointer pu) rfl rfl (by kernel_rfl) (by kernel_rfl) (by kernel_rfl) rfl (fun W hW => by obtain ⟨h0, h1, h2⟩ := hW; go_simp) kH0 ?_
              simp only [Act.put, List.setIfInBounds_toArray, List.set_cons_zero, List.set_cons_succ]
              refine hr_take_w 7 (some 143) (.slice (some lA) pn pc) rfl rfl (by kernel_rfl) (by kernel_rfl) (by kernel_rfl) rfl (fun W hW => by obtain ⟨h0, h1, h2⟩ := hW; go_simp) kH0 ?_
              simp only [Act.put, List.setIfInBounds_toArray, List.set_cons_zero, List.set_cons_succ]
              refine hr_take_w 8 (some 144) (.slice q.ao q.n q.cap) rfl rfl (by kernel_rfl) (by kernel_rfl) (by kernel_rfl) rfl (fun W hW => by obtain ⟨h0, h1, h2⟩ := hW; go_simp) kH0 ?_
              simp only [Act.put, List.setIfInBounds_toArray, List.set_cons_zero, List.set_cons_succ]
              refine hr_take_w 9 (some 145) (.pointer (some ⟨d.b, 0, none⟩)) rfl rfl (by kernel_rfl) (by kernel_rfl) (by kernel_rfl) rfl (fun W hW => by obtain ⟨h0, h1, h2⟩ := hW; go_simp) kH0 ?_
              simp only [Act.put, List.setIfInBounds_toArray, List.set_cons_zero, List.set_cons_succ]
              refine hr_take_w 10 (some 146) (.pointer (some ⟨d.b, 0, none⟩)) rfl rfl (by kernel_rfl) (by kernel_rfl) (by kernel_rfl) rfl (fun W hW => by obtain ⟨h0, h1, h2⟩ := hW; go_simp) kH0 ?_
              simp only [Act.put, List.setIfInBounds_toArray, List.set_cons_zero, List.set_cons_succ]
              refine hr_take_w 11 (some 147) (.pointer (some ⟨d.b, 0, none⟩)) rfl rfl (by kernel_rfl) (by kernel_rfl) (by kernel_rfl) rfl (fun W hW => by obtain ⟨h0, h1, h2⟩ := hW; go_simp) kH0 ?_
              simp only [Act.put, List.setIfInBounds_toArray, List.set_cons_zero, List.set_cons_succ]
              refine hr_take_w 12 (some 148) (.int .i64 (d.L : Nat)) rfl rfl (by kernel_rfl) (by kernel_rfl) (by kernel_rfl) rfl (fun W hW => by obtain ⟨h0, h1, h2⟩ := hW; go_simp) kH0 ?_
              simp only [Act.put, List.setIfInBounds_toArray, List.set_cons_zero, List.set_cons_succ]
              refine hr_call_w 13 (some 149) 18 #[.pointer pu, .slice (some lA) pn pc, .slice q.ao q.n q.cap, .int .i64 (d.L : Nat)] rfl rfl (by kernel_rfl) rfl (by go_simp) (fun v w' => v = .tuple #[.int .i64 (s.length : Nat), .bool true] ∧ Below kv0.heap.size kv0 w') ((ih s.length hslt kv0 (.pointer pu) s (some lA) pn pc px q.ao q.n q.cap q.xs d.L (hT.below (BK.trans (kE0.mono BK.size)) h2) (Tu.below (BK.trans (kE0.mono BK.size))) HSRT.out (slk.below kE0) (shk.below kE0) HLO.out HHI.out HLV.out hL64 (by omega) HSS.out (Nat.le_refl _)).mono (by
                rintro e w' ⟨rfl, C⟩
                exact ⟨_, rfl, rfl, C⟩)) ?_
              rintro v kv1 ⟨rfl, kC0⟩
              have kE1 := kE0.trans (kC0.mono kE0.size)
              have kH1 := kHS.out kv1 kE1
              refine ⟨kH1, ?_⟩
              simp only [Act.put, List.setIfInBounds_toArray, List.set_cons_zero, List.set_cons_succ]
              refine hr_take_w 14 (some 135) (.tuple #[.int .i64 (s.length : Nat), .bool true]) rfl rfl (by kernel_rfl) (by kernel_rfl) (by kernel_rfl) rfl (fun W hW => by obtain ⟨h0, h1, h2⟩ := hW; go_simp) kH1 ?_
              simp only [Act.put, List.setIfInBounds_toArray, List.set_cons_zero, List.set_cons_succ]
              refine hr_take_w 15 (some 150) (.int .i64 (s.length : Nat)) rfl rfl (by kernel_rfl) (by kernel_rfl) (by kernel_rfl) rfl (fun W hW => by obtain ⟨h0, h1, h2⟩ := hW; go_simp) kH1 ?_
              simp only [Act.put, List.setIfInBounds_toArray, List.set_cons_zero, List.set_cons_succ]
              refine hr_take_w 16 (some 151) (.bool true) rfl rfl (by kernel_rfl) (by kernel_rfl) (by kernel_rfl) rfl (fun W hW => by obtain ⟨h0, h1, h2⟩ := hW; go_simp) kH1 ?_
              simp only [Act.put, List.setIfInBounds_toArray, List.set_cons_zero, List.set_cons_succ]
              refine hr_take_w 17 (some 14) (.int .i64 (s.length : Nat)) rfl rfl (by kernel_rfl) (by kernel_rfl) (by kernel_rfl) rfl (fun W hW => by obtain ⟨h0, h1, h2⟩ := hW; go_simp) kH1 ?_
              simp only [Act.put, List.setIfInBounds_toArray, List.set_cons_zero, List.set_cons_succ]
              refine hr_take_w 18 (some 15) (.bool true) rfl rfl (by kernel_rfl) (by kernel_rfl) (by kernel_rfl) rfl (fun W hW => by obtain ⟨h0, h1, h2⟩ := hW; go_simp) kH1 ?_
              simp only [Act.put, List.setIfInBounds_toArray, List.set_cons_zero, List.set_cons_succ]
              refine wpAnyH_done (by kernel_rfl) ?_ _
              refine NoPanic.normal ?_
              clear c0k c3k cuk kHS kH0 kH1
              have B2 := BK.trans (kE1.mono BK.size)
              go_wp2
              go_roundw
              case rel => exact ⟨ii + 1, M + s.length, by omega, by go_num, by go_num, HMS.out, B2⟩
              case measure => simp [intOf]; omega
        · have hki2 : ¬ (ii : Int) < (d.ks.length : Int) := by omega
          have HHI : Hid (ha ≠ none → ∀ x ∈ s, cmpL x.k hx < 0) := fun h x hxs => HHI0.out h x (hN1.shp.seg s hsm x hxs)
          have BK : Below w.heap.size w wr := B
          have slk : Sl wr pa pn pc px := slw
          have shk : Sl wr ha hn hc hx := shw
          have c0k := (BK.cell (World.block_lt_of_cell? _ _ c0)).trans c0
          have c3k := (BK.cell (World.block_lt_of_cell? _ _ c3)).trans c3
          have cuk := (BK.cell (World.block_lt_of_cell? _ _ cu)).trans cu
          go_wp2
          have kHS : Hid (∀ V, Below wr.heap.size wr V → V.cell? ⟨d.b, 0, none⟩ = some (.int .i64 (d.L : Nat)) ∧ V.cell? ⟨d.b, 3, none⟩ = some (.slice (some ⟨cb, co, none⟩) d.cs.length d.cc) ∧ V.cell? ⟨cb, co + ii, none⟩ = some (.pointer pu)) := fun V hV => ⟨(hV.cell (World.block_lt_of_cell? _ _ c0k)).trans c0k, (hV.cell (World.block_lt_of_cell? _ _ c3k)).trans c3k, (hV.cell (World.block_lt_of_cell? _ _ cuk)).trans cuk⟩
          have kE0 : Below wr.heap.size wr wr.drew := (Below.refl _ _).drew
          refine wp_region_noPanic ?_
          refine wp_region_held_drew (S := fun V => V.cell? ⟨d.b, 0, none⟩ = some (.int .i64 (d.L : Nat)) ∧ V.cell? ⟨d.b, 3, none⟩ = some (.slice (some ⟨cb, co, none⟩) d.cs.length d.cc) ∧ V.cell? ⟨cb, co + ii, none⟩ = some (.pointer pu)) (by kernel_rfl) (kHS.out _ kE0) (fun kH0 => ?_)
          obtain ⟨kv0, hv0⟩ : ∃ v, v = wr.drew := ⟨_, rfl⟩
          rw [← hv0] at kH0 kE0 ⊢
          clear hv0
          refine hr_take_w 0 (some 136) (.pointer (some ⟨d.b, 0, none⟩)) rfl rfl (by kernel_rfl) (by kernel_rfl) (by kernel_rfl) rfl (fun W hW => by obtain ⟨h0, h1, h2⟩ := hW; go_simp) kH0 ?_
          simp only [Act.put, List.setIfInBounds_toArray, List.set_cons_zero, List.set_cons_succ]
          refine hr_take_w 1 (some 137) (.pointer (some ⟨d.b, 0, none⟩)) rfl rfl (by kernel_rfl) (by kernel_rfl) (by kernel_rfl) rfl (fun W hW => by obtain ⟨h0, h1, h2⟩ := hW; go_simp) kH0 ?_
          simp only [Act.put, List.setIfInBounds_toArray, List.set_cons_zero, List.set_cons_succ]
          refine hr_take_w 2 (some 138) (.pointer (some ⟨d.b, 3, none⟩)) rfl rfl (by kernel_rfl) (by kernel_rfl) (by kernel_rfl) rfl (fun W hW => by obtain ⟨h0, h1, h2⟩ := hW; go_simp) kH0 ?_
          simp only [Act.put, List.setIfInBounds_toArray, List.set_cons_zero, List.set_cons_succ]
          refine hr_take_w 3 (some 139) (.slice (some ⟨cb, co, none⟩) d.cs.length d.cc) rfl rfl (by kernel_rfl) (by kernel_rfl) (by kernel_rfl) rfl (fun W hW => by obtain ⟨h0, h1, h2⟩ := hW; go_simp) kH0 ?_
          simp only [Act.put, List.setIfInBounds_toArray, List.set_cons_zero, List.set_cons_succ]
          refine hr_take_w 4 (some 140) (.int .i64 ii) rfl rfl (by kernel_rfl) (by kernel_rfl) (by kernel_rfl) rfl (fun W hW => by obtain ⟨h0, h1, h2⟩ := hW; go_simp) kH0 ?_
          simp only [Act.put, List.setIfInBounds_toArray, List.set_cons_zero, List.set_cons_succ]
          refine hr_take_w 5 (some 141) (.pointer (some ⟨cb, co + ii, none⟩)) rfl rfl (by kernel_rfl) (by kernel_rfl) (by kernel_rfl) rfl (fun W hW => by obtain ⟨h0, h1, h2⟩ := hW; go_simp) kH0 ?_
          simp only [Act.put, List.setIfInBounds_toArray, List.set_cons_zero, List.set_cons_succ]
          refine hr_take_w 6 (some 142) (.pointer pu) rfl rfl (by kernel_rfl) (by kernel_rfl) (by kernel_rfl) rfl (fun W hW => by obtain ⟨h0, h1, h2⟩ := hW; go_simp) kH0 ?_
          simp only [Act.put, List.setIfInBounds_toArray, List.set_cons_zero, List.set_cons_succ]
          refine hr_take_w 7 (some 143) (.slice pa pn pc) rfl rfl (by kernel_rfl) (by kernel_rfl) (by kernel_rfl) rfl (fun W hW => by obtain ⟨h0, h1, h2⟩ := hW; go_simp) kH0 ?_
          simp only [Act.put, List.setIfInBounds_toArray, List.set_cons_zero, List.set_cons_succ]
          refine hr_take_w 8 (some 144) (.slice ha hn hc) rfl rfl (by kernel_rfl) (by kernel_rfl) (by kernel_rfl) rfl (fun W hW => by obtain ⟨h0, h1, h2⟩ := hW; go_simp) kH0 ?_
          simp only [Act.put, List.setIfInBounds_toArray, List.set_cons_zero, List.set_cons_succ]
          refine hr_take_w 9 (some 145) (.pointer (some ⟨d.b, 0, none⟩)) rfl rfl (by kernel_rfl) (by kernel_rfl) (by kernel_rfl) rfl (fun W hW => by obtain ⟨h0, h1, h2⟩ := hW; go_simp) kH0 ?_
          simp only [Act.put, List.setIfInBounds_toArray, List.set_cons_zero, List.set_cons_succ]
          refine hr_take_w 10 (some 146) (.pointer (some ⟨d.b, 0, none⟩)) rfl rfl (by kernel_rfl) (by kernel_rfl) (by kernel_rfl) rfl (fun W hW => by obtain ⟨h0, h1, h2⟩ := hW; go_simp) kH0 ?_
          simp only [Act.put, List.setIfInBounds_toArray, List.set_cons_zero, List.set_cons_succ]
          refine hr_take_w 11 (some 147) (.pointer (some ⟨d.b, 0, none⟩)) rfl rfl (by kernel_rfl) (by kernel_rfl) (by kernel_rfl) rfl (fun W hW => by obtain ⟨h0, h1, h2⟩ := hW; go_simp) kH0 ?_
          simp only [Act.put, List.setIfInBounds_toArray, List.set_cons_zero, List.set_cons_succ]
          refine hr_take_w 12 (some 148) (.int .i64 (d.L : Nat)) rfl rfl (by kernel_rfl) (by kernel_rfl) (by kernel_rfl) rfl (fun W hW => by obtain ⟨h0, h1, h2⟩ := hW; go_simp) kH0 ?_
          simp only [Act.put, List.setIfInBounds_toArray, List.set_cons_zero, List.set_cons_succ]
          refine hr_call_w 13 (some 149) 18 #[.pointer pu, .slice pa pn pc, .slice ha hn hc, .int .i64 (d.L : Nat)] rfl rfl (by kernel_rfl) rfl (by go_simp) (fun v w' => v = .tuple #[.int .i64 (s.length : Nat), .bool true] ∧ Below kv0.heap.size kv0 w') ((ih s.length hslt kv0 (.pointer pu) s pa pn pc px ha hn hc hx d.L (hT.below (BK.trans (kE0.mono BK.size)) h2) (Tu.below (BK.trans (kE0.mono BK.size))) HSRT.out (slk.below kE0) (shk.below kE0) HLO.out HHI.out HLV.out hL64 (by omega) HSS.out (Nat.le_refl _)).mono (by
            rintro e w' ⟨rfl, C⟩
            exact ⟨_, rfl, rfl, C⟩)) ?_
          rintro v kv1 ⟨rfl, kC0⟩
          have kE1 := kE0.trans (kC0.mono kE0.size)
          have kH1 := kHS.out kv1 kE1
          refine ⟨kH1, ?_⟩
          simp only [Act.put, List.setIfInBounds_toArray, List.set_cons_zero, List.set_cons_succ]
          refine hr_take_w 14 (some 135) (.tuple #[.int .i64 (s.length : Nat), .bool true]) rfl rfl (by kernel_rfl) (by kernel_rfl) (by kernel_rfl) rfl (fun W hW => by obtain ⟨h0, h1, h2⟩ := hW; go_simp) kH1 ?_
          simp only [Act.put, List.setIfInBounds_toArray, List.set_cons_zero, List.set_cons_succ]
          refine hr_take_w 15 (some 150) (.int .i64 (s.length : Nat)) rfl rfl (by kernel_rfl) (by kernel_rfl) (by kernel_rfl) rfl (fun W hW => by obtain ⟨h0, h1, h2⟩ := hW; go_simp) kH1 ?_
          simp only [Act.put, List.setIfInBounds_toArray, List.set_cons_zero, List.set_cons_succ]
          refine hr_take_w 16 (some 151) (.bool true) rfl rfl (by kernel_rfl) (by kernel_rfl) (by kernel_rfl) rfl (fun W hW => by obtain ⟨h0, h1, h2⟩ := hW; go_simp) kH1 ?_
          simp only [Act.put, List.setIfInBounds_toArray, List.set_cons_zero, List.set_cons_succ]
          refine hr_take_w 17 (some 14) (.int .i64 (s.length : Nat)) rfl rfl (by kernel_rfl) (by kernel_rfl) (by kernel_rfl) rfl (fun W hW => by obtain ⟨h0, h1, h2⟩ := hW; go_simp) kH1 ?_
          simp only [Act.put, List.setIfInBounds_toArray, List.set_cons_zero, List.set_cons_succ]
          refine hr_take_w 18 (some 15) (.bool true) rfl rfl (by kernel_rfl) (by kernel_rfl) (by kernel_rfl) rfl (fun W hW => by obtain ⟨h0, h1, h2⟩ := hW; go_simp) kH1 ?_
          simp only [Act.put, List.setIfInBounds_toArray, List.set_cons_zero, List.set_cons_succ]
          refine wpAnyH_done (by kernel_rfl) ?_ _
          refine NoPanic.normal ?_
          clear c0k c3k cuk kHS kH0 kH1
          have B2 := BK.trans (kE1.mono BK.size)
          go_wp2
          refine ⟨?_, ?_⟩
          · iterate 94 apply Exists.intro
            refine ⟨?_, rfl⟩
            exact ⟨ii + 1, M + s.length, by omega, by go_num, by go_num, HMS.out, B2⟩
          · simp [intOf]; omega
    · have hki : ¬ (ii : Int) ≤ (d.ks.length : Int) := by omega
      have hiv : ii = d.ks.length + 1 := by omega
      have HV : Hid (d.ks.length + M = l.length) := by
        show _ = _
        have h1 := HNK.out
        have h3 := HALL.out
        have h4 := HM.out
        rw [List.take_of_length_le (by rw [hN1.shp.len]; omega)] at h4
        omega
      clear hiv
      go_wp2
      go_ret2
      refine ⟨?_, B⟩
      rw [← HV.out]
      rfl
end Go.Proofs.YtiabdcejibeciaaDoor

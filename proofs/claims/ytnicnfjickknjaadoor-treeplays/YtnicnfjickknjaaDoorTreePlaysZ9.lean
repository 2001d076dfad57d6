/-
  The law's back: a shape as the document's.
-/
import Derived.Test.YtnicnfjickknjaaDoorTreePlaysZ4
import Derived.Test.YtnicnfjickknjaaDoorTreePlaysZ3
import Derived.Test.YtnicnfjickknjaaDoorTreePlaysZ1
namespace Go.Proofs.YtnicnfjickknjaaDoor
open Go.RowKit

theorem rninfoB : (Tryd.prog.info? 47).map (fun i => (i.zero, i.size, i.bytes)) = some (some (.pointer none), 1, 8) := by kernel_rfl
/-- A node whose kids alone are being laid. -/
structure NK (W : World) (base g : Nat) (t pe : TypeId) (x0 x1 x2 c : Value) (us : List Value) : Prop where
  arr : Arr W g t [x0, x1, x2, c]
  bg : base ≤ g
  oc : W.ownsRow base pe 1 c us.length us
section
variable {W W' : World} {base g : Nat} {t pe : TypeId} {x0 x1 x2 c : Value} {us : List Value}
theorem NK.le (h : NK W base g t pe x0 x1 x2 c us) : base ≤ W.heap.size := Nat.le_trans h.bg (Nat.le_of_lt h.arr.lt)
theorem NK.below (h : NK W base g t pe x0 x1 x2 c us) (hb : Below W.heap.size W W') : NK W' base g t pe x0 x1 x2 c us := ⟨arr_below h.arr hb, h.bg, own_below h.oc hb⟩
theorem NK.offLow (h : NK W base g t pe x0 x1 x2 c us) {b : Nat} (hb : b < base) : Off g (.slice none 0 0) (.slice none 0 0) c b := by
  have h1 := h.bg
  refine ⟨by omega, by simp [Value.ownBlock], by simp [Value.ownBlock], fun e => ?_⟩
  have := (h.oc.lt b e).1
  omega
theorem NK.offNew (h : NK W base g t pe x0 x1 x2 c us) {b : Nat} (hb : W.heap.size ≤ b) : Off g (.slice none 0 0) (.slice none 0 0) c b := by
  have h1 := h.arr.lt
  refine ⟨by omega, by simp [Value.ownBlock], by simp [Value.ownBlock], fun e => ?_⟩
  have := (h.oc.lt b e).2
  omega
theorem NK.app (h : NK W base g t pe x0 x1 x2 c us) (hp : t ≠ pe) {ps : TypeId} (hps : Tryd.prog.underlying ps = some (.slice pe)) (hinfo : (Tryd.prog.info? pe).map (fun i => (i.zero, i.size, i.bytes)) = some (some (.pointer none), 1, 8)) {ty : TypeId} {bo : Addr} {cap : Nat} {u : Value} (hx : VL W (some bo) 1 cap [u]) (hu : u.oneCell' = true) (hn : us.length ≤ 1000000) :
    ∃ c' W1, (Builtin.append_ #[ps, ps] ty #[c, .slice (some bo) 1 cap]).run Tryd.prog W = .ok c' W1 ∧ Arr W1 g t [x0, x1, x2, c] ∧ NK (W1.setCell ⟨g, 3, none⟩ c') base g t pe x0 x1 x2 c' (us ++ [u]) ∧ Chg W (W1.setCell ⟨g, 3, none⟩ c') g (.slice none 0 0) (.slice none 0 0) c (.slice none 0 0) (.slice none 0 0) c' ∧ Below base W (W1.setCell ⟨g, 3, none⟩ c') := by
  obtain ⟨i0, hi, hz0, hz1, hz2⟩ := info_parts hinfo
  obtain ⟨c', W1, hr, ho, hg, ha⟩ := run_append_at (P := Tryd.prog) W base ps ty pe i0 (.pointer none) 1 8 hps hi hz0 hz1 hz2 rfl (by decide) c us.length us h.oc bo 1 cap [u] rfl (hx.cells bo rfl) (by intro y hy; rw [List.mem_singleton.1 hy]; exact hu) (by simp [maxLen]; omega) (by omega) h.le
  obtain ⟨a1, a2, a3, a4⟩ := arr_put h.arr hp h.oc h.le h.bg ho hg 3
  have hs : W1.grownBy (W1.setCell ⟨g, 3, none⟩ c') (some g) := grown_set (a := W1) (b := W1) ⟨rfl, rfl, rfl, Nat.le_refl _, fun _ _ _ => rfl⟩ 3 _
  refine ⟨c', W1, hr, a1, ⟨a2, h.bg, by simpa using a3⟩, ⟨Nat.le_trans hg.size hs.size, fun b hb hf => ⟨?_, hf.1, hf.2.1, hf.2.2.1, fun e => ?_⟩⟩, a4⟩
  · rw [hs.block b (Nat.lt_of_lt_of_le hb hg.size) (by simpa using hf.1)]
    exact hg.block b hb (fun e => hf.2.2.2 e.symm)
  · rcases ha b e with h1 | h1
    · exact hf.2.2.2 h1
    · omega
theorem NK.on {w : World} (h : NK W base g t pe x0 x1 x2 c us) (hw : ∀ b, base ≤ b → b < W.heap.size → w.heap[b]? = W.heap[b]?) : NK w base g t pe x0 x1 x2 c us :=
  ⟨(hw g h.bg h.arr.lt).trans h.arr, h.bg, row_kept h.oc fun b hb => hw b (h.oc.lt b hb).1 (h.oc.lt b hb).2⟩
end
theorem VL.on {w w' : World} {ao : Option Addr} {n cap : Nat} {vs : List Value} (h : VL w ao n cap vs) (hb : ∀ b, b < w.heap.size → w'.heap[b]? = w.heap[b]?) : VL w' ao n cap vs := by
  refine ⟨h.len, h.le, h.mx, h.nil, fun a ha i hi => ?_⟩
  have hc := h.cell a ha i hi
  rw [← hc]
  exact World.cell?_of_block (hb _ (World.block_lt_of_cell? w _ hc))
theorem KL.on {w w' : World} {ao : Option Addr} {n cap : Nat} {ps : List Part} (h : KL w ao n cap ps) (hb : ∀ b, b < w.heap.size → w'.heap[b]? = w.heap[b]?) : KL w' ao n cap ps :=
  ⟨h.vl.on hb, fun q hq => (h.sl q hq).on hb⟩
/-- While kids are laid. -/
structure BkI (w0 wI wr : World) (g : Nat) (d : Nd) (segs : List (List It)) (kk : Nat) (c : Value) (us : List Value) : Prop where
  nk : NK wr wI.heap.size g 71 47 (.int .i64 (d.L : Nat)) (.slice d.ko d.ks.length d.kc) (.slice d.vo d.vs.length d.vc) c us
  b : Below wI.heap.size wI wr
  kf : KidsF wr w0.heap.size wI.heap.size g (.slice none 0 0) (.slice none 0 0) c us (segs.take kk)

set_option maxHeartbeats 8000000 in
set_option maxRecDepth 100000 in
theorem back_fuel (w0 : World) : ∀ (N : Nat) (wI : World) (v : Value) (l : List It) (dp : Nat) (_ : T w0 v l) (_ : Below w0.heap.size w0 wI) (_ : l.length ≤ 50000 ∧ ∀ x ∈ l, lev x.k < dp) (_ : dp ≤ 1000) (_ : l.length ≤ N), Calls Tryd.prog 19 #[v, .int .i64 (dp : Nat)] wI (OnT w0.heap.size wI l) := by
  intro Nf
  induction Nf using Nat.strongRecOn with | _ Nf ih => ?_
  intro wI v l dp hT hb0 hn hdp hN
  rcases hT.is with ⟨rfl, rfl⟩ | ⟨d, segs, xs, rfl, hN1⟩
  · go_enter Tryd.func19, Tryd.ntmps19
    go_wp2
    go_ret
    exact OnT.nil _ _
  have HB0 : Hid (Below w0.heap.size w0 wI) := hb0
  have HIH : Hid (∀ M, M < Nf → ∀ (wI : World) (v : Value) (l : List It) (dp : Nat) (_ : T w0 v l) (_ : Below w0.heap.size w0 wI) (_ : l.length ≤ 50000 ∧ ∀ x ∈ l, lev x.k < dp) (_ : dp ≤ 1000) (_ : l.length ≤ M), Calls Tryd.prog 19 #[v, .int .i64 (dp : Nat)] wI (OnT w0.heap.size wI l)) := ih
  have hNI := hN1.below hb0
  have hmany := hN1.many
  have nc := hN1.nc
  have c0 := hNI.ok.c0
  have c1 := hNI.ok.c1
  have c2 := hNI.ok.c2
  have c3 := hNI.ok.c3
  have hpos := hN1.shp.pos
  obtain ⟨cb, co, hco, hcc⟩ := hNI.ok.cl.at (by omega)
  rw [hco] at c3
  have HNC : Hid (d.cs.length = xs.length + 1 ∧ d.cs.length = segs.length) := ⟨nc, hN1.ec⟩
  obtain ⟨cn, hcn⟩ : ∃ n, n = d.cs.length := ⟨_, rfl⟩
  rw [← hcn] at c3
  have HCN : Hid (cn = d.cs.length) := hcn
  have hcn5 : cn ≤ 50001 := by have := hn.1; omega
  have hcni : (cn : Int) ≤ 50001 := by omega
  have HCC : Hid (∀ i (hi : i < d.cs.length), wI.cell? ⟨cb, co + i, none⟩ = some d.cs[i]) := hcc
  have hL : lev xs[0].k < dp := hn.2 _ (hN1.shp.key _ (List.getElem_mem hpos))
  have hLe : lev xs[0].k = d.L := hN1.shp.top _ (List.getElem_mem hpos)
  have hd0 : 1 ≤ dp := by omega
  have hdb : ((dp : Int) == 0) = false := by simp; omega
  have hdi : (1 : Int) ≤ (dp : Int) := by omega
  have hdi2 : (dp : Int) ≤ 1000 := by omega
  have hdw : IntKind.i64.wrap ((dp : Int) - 1) = (dp : Int) - 1 := by simp [IntKind.wrap, IntKind.bits, IntKind.signed]; omega
  have HDP : Hid (((dp - 1 : Nat) : Int) = (dp : Int) - 1) := by show _ = _; omega
  have HDL : Hid (d.L < dp) := by show _ < _; omega
  have HN5 : Hid (l.length ≤ 50000) := hn.1
  clear hcn hco hcc nc hb0 ih hn hL hLe
  unfold Nd.ptr
  go_enter Tryd.func19, Tryd.ntmps19
  go_wp2
  have mHS : Hid (∀ V, Below wI.heap.size wI V → V.cell? ⟨d.b, 0, none⟩ = some (.int .i64 (d.L : Nat)) ∧ V.cell? ⟨d.b, 1, none⟩ = some (.slice d.ko d.ks.length d.kc) ∧ V.cell? ⟨d.b, 2, none⟩ = some (.slice d.vo d.vs.length d.vc)) := fun V hV => ⟨(hV.cell (World.block_lt_of_cell? _ _ c0)).trans c0, (hV.cell (World.block_lt_of_cell? _ _ c1)).trans c1, (hV.cell (World.block_lt_of_cell? _ _ c2)).trans c2⟩
  have mE0 : Below wI.heap.size wI wI.drew := (Below.refl _ _).drew
  refine wp_region_noPanic ?_
  refine wp_region_held_drew (S := fun V => V.cell? ⟨d.b, 0, none⟩ = some (.int .i64 (d.L : Nat)) ∧ V.cell? ⟨d.b, 1, none⟩ = some (.slice d.ko d.ks.length d.kc) ∧ V.cell? ⟨d.b, 2, none⟩ = some (.slice d.vo d.vs.length d.vc)) (by kernel_rfl) (mHS.out _ mE0) (fun mH0 => ?_)
  obtain ⟨mv0, hv0⟩ : ∃ v, v = wI.drew := ⟨_, rfl⟩
  rw [← hv0] at mH0 mE0 ⊢
  clear hv0
  refine hr_take_w 0 (some 13) (.pointer (some ⟨d.b, 0, none⟩)) rfl rfl (by kernel_rfl) (by kernel_rfl) (by kernel_rfl) rfl (fun W hW => by obtain ⟨h0, h1, h2⟩ := hW; go_simp) mH0 ?_
  simp only [Act.put, List.setIfInBounds_toArray, List.set_cons_zero, List.set_cons_succ]
  refine hr_take_w 1 (some 14) (.pointer (some ⟨d.b, 0, none⟩)) rfl rfl (by kernel_rfl) (by kernel_rfl) (by kernel_rfl) rfl (fun W hW => by obtain ⟨h0, h1, h2⟩ := hW; go_simp) mH0 ?_
  simp only [Act.put, List.setIfInBounds_toArray, List.set_cons_zero, List.set_cons_succ]
  refine hr_take_w 2 (some 15) (.pointer (some ⟨d.b, 0, none⟩)) rfl rfl (by kernel_rfl) (by kernel_rfl) (by kernel_rfl) rfl (fun W hW => by obtain ⟨h0, h1, h2⟩ := hW; go_simp) mH0 ?_
  simp only [Act.put, List.setIfInBounds_toArray, List.set_cons_zero, List.set_cons_succ]
  refine hr_take_w 3 (some 16) (.int .i64 (d.L : Nat)) rfl rfl (by kernel_rfl) (by kernel_rfl) (by kernel_rfl) rfl (fun W hW => by obtain ⟨h0, h1, h2⟩ := hW; go_simp) mH0 ?_
  simp only [Act.put, List.setIfInBounds_toArray, List.set_cons_zero, List.set_cons_succ]
  refine hr_take_w 4 (some 17) (.pointer (some ⟨d.b, 0, none⟩)) rfl rfl (by kernel_rfl) (by kernel_rfl) (by kernel_rfl) rfl (fun W hW => by obtain ⟨h0, h1, h2⟩ := hW; go_simp) mH0 ?_
  simp only [Act.put, List.setIfInBounds_toArray, List.set_cons_zero, List.set_cons_succ]
  refine hr_take_w 5 (some 18) (.pointer (some ⟨d.b, 0, none⟩)) rfl rfl (by kernel_rfl) (by kernel_rfl) (by kernel_rfl) rfl (fun W hW => by obtain ⟨h0, h1, h2⟩ := hW; go_simp) mH0 ?_
  simp only [Act.put, List.setIfInBounds_toArray, List.set_cons_zero, List.set_cons_succ]
  refine hr_take_w 6 (some 19) (.pointer (some ⟨d.b, 1, none⟩)) rfl rfl (by kernel_rfl) (by kernel_rfl) (by kernel_rfl) rfl (fun W hW => by obtain ⟨h0, h1, h2⟩ := hW; go_simp) mH0 ?_
  simp only [Act.put, List.setIfInBounds_toArray, List.set_cons_zero, List.set_cons_succ]
  refine hr_take_w 7 (some 20) (.slice d.ko d.ks.length d.kc) rfl rfl (by kernel_rfl) (by kernel_rfl) (by kernel_rfl) rfl (fun W hW => by obtain ⟨h0, h1, h2⟩ := hW; go_simp) mH0 ?_
  simp only [Act.put, List.setIfInBounds_toArray, List.set_cons_zero, List.set_cons_succ]
  refine hr_take_w 8 (some 21) (.pointer (some ⟨d.b, 0, none⟩)) rfl rfl (by kernel_rfl) (by kernel_rfl) (by kernel_rfl) rfl (fun W hW => by obtain ⟨h0, h1, h2⟩ := hW; go_simp) mH0 ?_
  simp only [Act.put, List.setIfInBounds_toArray, List.set_cons_zero, List.set_cons_succ]
  refine hr_take_w 9 (some 22) (.pointer (some ⟨d.b, 0, none⟩)) rfl rfl (by kernel_rfl) (by kernel_rfl) (by kernel_rfl) rfl (fun W hW => by obtain ⟨h0, h1, h2⟩ := hW; go_simp) mH0 ?_
  simp only [Act.put, List.setIfInBounds_toArray, List.set_cons_zero, List.set_cons_succ]
  refine hr_take_w 10 (some 23) (.pointer (some ⟨d.b, 2, none⟩)) rfl rfl (by kernel_rfl) (by kernel_rfl) (by kernel_rfl) rfl (fun W hW => by obtain ⟨h0, h1, h2⟩ := hW; go_simp) mH0 ?_
  simp only [Act.put, List.setIfInBounds_toArray, List.set_cons_zero, List.set_cons_succ]
  refine hr_take_w 11 (some 24) (.slice d.vo d.vs.length d.vc) rfl rfl (by kernel_rfl) (by kernel_rfl) (by kernel_rfl) rfl (fun W hW => by obtain ⟨h0, h1, h2⟩ := hW; go_simp) mH0 ?_
  simp only [Act.put, List.setIfInBounds_toArray, List.set_cons_zero, List.set_cons_succ]
  refine hr_take_w 12 (some 25) (.agg #[.int .i64 (d.L : Nat), .slice d.ko d.ks.length d.kc, .slice d.vo d.vs.length d.vc, .slice none 0 0]) rfl rfl (by kernel_rfl) (by kernel_rfl) (by kernel_rfl) rfl (fun W hW => by obtain ⟨h0, h1, h2⟩ := hW; go_simp) mH0 ?_
  simp only [Act.put, List.setIfInBounds_toArray, List.set_cons_zero, List.set_cons_succ]
  refine hr_ex 13 (some 26) rfl rfl (by kernel_rfl) rfl (R := fun v w' => ∃ g, v = .pointer (some ⟨g, 0, none⟩) ∧ w'.heap[g]? = some (.cells #[.int .i64 (d.L : Nat), .slice d.ko d.ks.length d.kc, .slice d.vo d.vs.length d.vc, .slice none 0 0] 71) ∧ mv0.heap.size ≤ g ∧ Below mv0.heap.size mv0 w') (⟨_, _, by go_simp, _, rfl, heap_alloc_new mv0 _, Nat.le_refl _, (Below.refl _ _).alloc (Nat.le_refl _) _⟩) ?_
  rintro v mv1 ⟨mg0, rfl, mG0, mL0, mC0⟩
  have mE1 := mE0.trans (mC0.mono mE0.size)
  have mH1 := mHS.out mv1 mE1
  refine ⟨mH1, ?_⟩
  simp only [Act.put, List.setIfInBounds_toArray, List.set_cons_zero, List.set_cons_succ]
  refine hr_take_w 14 (some 5) (.pointer (some ⟨mg0, 0, none⟩)) rfl rfl (by kernel_rfl) (by kernel_rfl) (by kernel_rfl) rfl (fun W hW => by obtain ⟨h0, h1, h2⟩ := hW; go_simp) mH1 ?_
  simp only [Act.put, List.setIfInBounds_toArray, List.set_cons_zero, List.set_cons_succ]
  refine wpAnyH_done (by kernel_rfl) ?_ _
  refine NoPanic.normal ?_
  clear mHS mH0 mH1 c0 c1 c2 mC0
  have N0 : NK mv1 wI.heap.size mg0 71 47 (.int .i64 (d.L : Nat)) (.slice d.ko d.ks.length d.kc) (.slice d.vo d.vs.length d.vc) (.slice none 0 0) [] := ⟨mG0, Nat.le_trans mE0.size mL0, World.ownsRow_nil _ _ _ _⟩
  go_wp2
  go_loopw [6] (fun i wr => ∃ (kk : Nat) (c : Value) (us : List Value), kk ≤ cn ∧ i = .int .i64 kk ∧ BkI w0 wI wr mg0 d segs kk c us) (fun i _ => cn - (intOf i).toNat)
  case atStart => exact ⟨0, _, [], Nat.zero_le _, rfl, N0, mE1, KidsF.nil _ _ _ _ _ _ _⟩
  case round =>
    obtain ⟨kk, c, us, hkk, rfl, H⟩ := hrel
    have N := H.nk
    have B := H.b
    have KF := H.kf
    have c3r := (B.cell (World.block_lt_of_cell? _ _ c3)).trans c3
    by_cases hlt : kk < cn
    · have hki : (kk : Int) < (cn : Int) := by omega
      have hkd : kk < d.cs.length := by have := HCN.out; omega
      have hsg : kk < segs.length := by have := HNC.out.2; omega
      obtain ⟨s, hs⟩ : ∃ s, s = segs[kk] := ⟨_, rfl⟩
      obtain ⟨u, hu, Tu⟩ := hN1.kid kk s (by rw [hs]; exact List.getElem?_eq_getElem hsg)
      obtain ⟨pu, rfl⟩ := Tu.ptr
      have hu' : d.cs[kk] = .pointer pu := by rw [List.getElem?_eq_getElem hkd] at hu; exact Option.some.inj hu
      have cu := HCC.out kk hkd
      rw [hu'] at cu
      have HTu : Hid (T w0 (.pointer pu) s) := Tu
      have hsl := hN1.shp.shorter s (by rw [hs]; exact List.getElem_mem _)
      have hslt : s.length < Nf := by omega
      have HSD : Hid (s.length ≤ 50000 ∧ ∀ x ∈ s, lev x.k < dp - 1) := ⟨by have := HN5.out; omega, fun x hx => by
        have := hN1.shp.low s (by rw [hs]; exact List.getElem_mem _) x hx
        have := HDL.out
        omega⟩
      have HTS : Hid (segs.take (kk + 1) = segs.take kk ++ [s]) := by show _ = _; rw [hs, List.take_succ_eq_append_getElem hsg]
      have HXL : Hid ((segs.take kk).length ≤ 50001) := by show _ ≤ _; rw [List.length_take]; omega
      clear hu hu' hs Tu H
      go_wp2
      clear c3r
      have E0 : Below wr.heap.size wr wr.drew := (Below.refl _ _).drew
      refine wp_region_noPanic ?_
      refine wp_region_held_drew (S := fun _ => True) (by kernel_rfl) trivial (fun _ => ?_)
      obtain ⟨v0, hv0⟩ : ∃ v, v = wr.drew := ⟨_, rfl⟩
      rw [← hv0] at E0 ⊢
      clear hv0
      refine hr_take_w 0 (some 36) (.pointer (some ⟨mg0, 0, none⟩)) rfl rfl (by kernel_rfl) (by kernel_rfl) (by kernel_rfl) rfl (fun W hW => by go_simp) trivial ?_
      simp only [Act.put, List.setIfInBounds_toArray, List.set_cons_zero, List.set_cons_succ]
      refine hr_take_w 1 (some 37) (.pointer (some ⟨mg0, 0, none⟩)) rfl rfl (by kernel_rfl) (by kernel_rfl) (by kernel_rfl) rfl (fun W hW => by go_simp) trivial ?_
      simp only [Act.put, List.setIfInBounds_toArray, List.set_cons_zero, List.set_cons_succ]
      refine hr_take_w 2 (some 38) (.pointer (some ⟨mg0, 0, none⟩)) rfl rfl (by kernel_rfl) (by kernel_rfl) (by kernel_rfl) rfl (fun W hW => by go_simp) trivial ?_
      simp only [Act.put, List.setIfInBounds_toArray, List.set_cons_zero, List.set_cons_succ]
      refine hr_take_w 3 (some 39) (.pointer (some ⟨mg0, 3, none⟩)) rfl rfl (by kernel_rfl) (by kernel_rfl) (by kernel_rfl) rfl (fun W hW => by go_simp) trivial ?_
      simp only [Act.put, List.setIfInBounds_toArray, List.set_cons_zero, List.set_cons_succ]
      refine hr_take_w 5 (some 41) (.pointer (some ⟨d.b, 0, none⟩)) rfl rfl (by kernel_rfl) (by kernel_rfl) (by kernel_rfl) rfl (fun W hW => by go_simp) trivial ?_
      simp only [Act.put, List.setIfInBounds_toArray, List.set_cons_zero, List.set_cons_succ]
      refine hr_take_w 6 (some 42) (.pointer (some ⟨d.b, 0, none⟩)) rfl rfl (by kernel_rfl) (by kernel_rfl) (by kernel_rfl) rfl (fun W hW => by go_simp) trivial ?_
      simp only [Act.put, List.setIfInBounds_toArray, List.set_cons_zero, List.set_cons_succ]
      refine hr_take_w 7 (some 43) (.pointer (some ⟨d.b, 3, none⟩)) rfl rfl (by kernel_rfl) (by kernel_rfl) (by kernel_rfl) rfl (fun W hW => by go_simp) trivial ?_
      simp only [Act.put, List.setIfInBounds_toArray, List.set_cons_zero, List.set_cons_succ]
      refine hr_take_w 9 (some 45) (.int .i64 (kk : Nat)) rfl rfl (by kernel_rfl) (by kernel_rfl) (by kernel_rfl) rfl (fun W hW => by go_simp) trivial ?_
      simp only [Act.put, List.setIfInBounds_toArray, List.set_cons_zero, List.set_cons_succ]
      refine hr_take_w 12 (some 48) (.int .i64 (dp : Nat)) rfl rfl (by kernel_rfl) (by kernel_rfl) (by kernel_rfl) rfl (fun W hW => by go_simp) trivial ?_
      simp only [Act.put, List.setIfInBounds_toArray, List.set_cons_zero, List.set_cons_succ]
      refine hr_take_w 13 (some 49) (.int .i64 ((dp : Int) - 1)) rfl rfl (by kernel_rfl) (by kernel_rfl) (by kernel_rfl) rfl (fun W hW => by go_simp) trivial ?_
      simp only [Act.put, List.setIfInBounds_toArray, List.set_cons_zero, List.set_cons_succ]
      refine wpAnyH_effto 4 (fun zi zv zw => (zi = 4 → zv = c) ∧ (zi = 8 → zv = .slice (some ⟨cb, co, none⟩) cn d.cc) ∧ (zi = 10 → zv = .pointer (some ⟨cb, co + kk, none⟩)) ∧ (zi = 11 → zv = .pointer pu) ∧ (zi = 14 → ∃ po, zv = .pointer po ∧ Far zw w0.heap.size wI.heap.size mg0 (.slice none 0 0) (.slice none 0 0) c fun x => T x (.pointer po) s) ∧ (zi = 15 → ∃ po g1, zv = .slice (some ⟨g1, 0, none⟩) 1 1 ∧ VL zw (some ⟨g1, 0, none⟩) 1 1 [.pointer po] ∧ Far zw w0.heap.size wI.heap.size mg0 (.slice none 0 0) (.slice none 0 0) c fun x => T x (.pointer po) s)) [(4, 40), (8, 44), (10, 46), (11, 47), (14, 50), (15, 51)] 56 (by kernel_rfl) (by decide) (by decide) rfl ?_ (fun _ _ => trivial) ?_ ?_
      · intro zi v w w' h hb
        refine ⟨fun e => ?_, fun e => ?_, fun e => ?_, fun e => ?_, fun e => ?_, fun e => ?_⟩
        · have h := h.1 e
          exact h
        · have h := h.2.1 e
          exact h
        · have h := h.2.2.1 e
          exact h
        · have h := h.2.2.2.1 e
          exact h
        · have h := h.2.2.2.2.1 e
          obtain ⟨po, h1, h2⟩ := h
          exact ⟨po, h1, h2.chg (Chg.below hb)⟩
        · have h := h.2.2.2.2.2 e
          obtain ⟨po, g1, h1, h2, h3⟩ := h
          exact ⟨po, g1, h1, h2.below hb, h3.chg (Chg.below hb)⟩
      · intro zp zhi o a w ho hs hb hdep
        have EB := E0.trans (hb.mono E0.size)
        simp only [List.mem_cons, List.not_mem_nil, or_false] at zhi
        rcases zhi with rfl | rfl | rfl | rfl | rfl | rfl
        · obtain rfl : _ = o := Option.some.inj (show some _ = some o from ho)
          have t39 : a.tmps[39]? = some (.pointer (some ⟨mg0, 3, none⟩)) := hs.get 39 (by kernel_rfl) rfl
          have lc := (N.below EB).arr.cell 3
          exact .inl ⟨c, w, by go_simp, ⟨fun _ => rfl, fun e => absurd e (by decide), fun e => absurd e (by decide), fun e => absurd e (by decide), fun e => absurd e (by decide), fun e => absurd e (by decide)⟩, Below.refl _ _⟩
        · obtain rfl : _ = o := Option.some.inj (show some _ = some o from ho)
          have t43 : a.tmps[43]? = some (.pointer (some ⟨d.b, 3, none⟩)) := hs.get 43 (by kernel_rfl) rfl
          have lc := ((B.trans (EB.mono B.size)).cell (World.block_lt_of_cell? _ _ c3)).trans c3
          exact .inl ⟨.slice (some ⟨cb, co, none⟩) cn d.cc, w, by go_simp, ⟨fun e => absurd e (by decide), fun _ => rfl, fun e => absurd e (by decide), fun e => absurd e (by decide), fun e => absurd e (by decide), fun e => absurd e (by decide)⟩, Below.refl _ _⟩
        · obtain rfl : _ = o := Option.some.inj (show some _ = some o from ho)
          obtain ⟨x44, t44, f44⟩ := (hdep 8 (by kernel_rfl)).at 44 (by kernel_rfl)
          replace f44 := f44.2.1 rfl
          have t45 : a.tmps[45]? = some (.int .i64 (kk : Nat)) := hs.get 45 (by kernel_rfl) rfl
          subst f44
          exact .inl ⟨.pointer (some ⟨cb, co + kk, none⟩), w, by go_simp, ⟨fun e => absurd e (by decide), fun e => absurd e (by decide), fun _ => rfl, fun e => absurd e (by decide), fun e => absurd e (by decide), fun e => absurd e (by decide)⟩, Below.refl _ _⟩
        · obtain rfl : _ = o := Option.some.inj (show some _ = some o from ho)
          obtain ⟨x46, t46, f46⟩ := (hdep 10 (by kernel_rfl)).at 46 (by kernel_rfl)
          replace f46 := f46.2.2.1 rfl
          subst f46
          have lc := ((B.trans (EB.mono B.size)).cell (World.block_lt_of_cell? _ _ cu)).trans cu
          exact .inl ⟨.pointer pu, w, by go_simp, ⟨fun e => absurd e (by decide), fun e => absurd e (by decide), fun e => absurd e (by decide), fun _ => rfl, fun e => absurd e (by decide), fun e => absurd e (by decide)⟩, Below.refl _ _⟩
        · obtain rfl : _ = o := Option.some.inj (show some _ = some o from ho)
          obtain ⟨x47, t47, f47⟩ := (hdep 11 (by kernel_rfl)).at 47 (by kernel_rfl)
          replace f47 := f47.2.2.2.1 rfl
          have t49 : a.tmps[49]? = some (.int .i64 ((dp : Int) - 1)) := hs.get 49 (by kernel_rfl) rfl
          subst f47
          have N' := N.below EB
          have B2 := B.trans (EB.mono B.size)
          have CS := HIH.out s.length hslt w (.pointer pu) s (dp - 1) HTu.out (HB0.out.trans (B2.mono HB0.out.size)) HSD.out (by omega) (Nat.le_refl _)
          rw [HDP.out] at CS
          refine .inr ⟨19, #[.pointer pu, .int .i64 ((dp : Int) - 1)], by go_simp, CS.mono ?_⟩
          rintro e w' ⟨po, rfl, O, C⟩
          exact ⟨_, rfl, ⟨fun e => absurd e (by decide), fun e => absurd e (by decide), fun e => absurd e (by decide), fun e => absurd e (by decide), fun _ => ⟨po, rfl, O.far B2.size (fun x hx => N'.offLow (Nat.lt_of_lt_of_le hx HB0.out.size)) (fun x hx => N'.offNew hx)⟩, fun e => absurd e (by decide)⟩, C⟩
        · obtain rfl : _ = o := Option.some.inj (show some _ = some o from ho)
          obtain ⟨x50, t50, f50⟩ := (hdep 14 (by kernel_rfl)).at 50 (by kernel_rfl)
          replace f50 := f50.2.2.2.2.1 rfl
          obtain ⟨po, rfl, T1⟩ := f50
          have CA : Below w.heap.size w (w.alloc (.cells #[.pointer po] 47)) := (Below.refl _ _).alloc (Nat.le_refl _) _
          exact .inl ⟨_, _, by go_simp, ⟨fun e => absurd e (by decide), fun e => absurd e (by decide), fun e => absurd e (by decide), fun e => absurd e (by decide), fun e => absurd e (by decide), fun _ => ⟨po, _, rfl, VL.new w [.pointer po] 47 (by simp [maxLen]), T1.chg (Chg.below CA)⟩⟩, CA⟩
      intro zf v1 hb hh
      have E1 := E0.trans (hb.mono E0.size)
      obtain e4 := (hh (4, 40) (by simp)).1 rfl
      obtain e8 := (hh (8, 44) (by simp)).2.1 rfl
      obtain e10 := (hh (10, 46) (by simp)).2.2.1 rfl
      obtain e11 := (hh (11, 47) (by simp)).2.2.2.1 rfl
      obtain ⟨po, g1, e15, G1, T1⟩ := (hh (15, 51) (by simp)).2.2.2.2.2 rfl
      clear hh hb
      simp only [putL, List.foldl_cons, List.foldl_nil, e4, e8, e10, e11, e15]
      clear e4 e8 e10 e11 e15
      simp only [Act.put, List.setIfInBounds_toArray, List.set_cons_zero, List.set_cons_succ]
      have N1 := N.below E1
      have D1 : Chg wr v1 mg0 (.slice none 0 0) (.slice none 0 0) c (.slice none 0 0) (.slice none 0 0) c := Chg.below E1
      have KF1 := (KF.chg D1).app T1
      obtain ⟨c2, W1, ha, A1, N2, D0, B0⟩ := N1.app (by decide) (ps := 69) (ty := 69) Tryd.underlying69 rninfoB G1 rfl (by rw [KF.len]; have := HXL.out; omega)
      obtain ⟨co2, cn2, cc2, rfl⟩ := row_slice N2.oc
      refine hr_ex 16 (some 52) rfl rfl (by kernel_rfl) rfl (R := fun v w' => (.slice co2 cn2 cc2) = v ∧ W1 = w') ⟨_, W1, by simp [execOp, Act.eval, resolve, invoke, builtin, ha], rfl, rfl⟩ ?_
      rintro v w' ⟨rfl, rfl⟩
      refine ⟨trivial, ?_⟩
      simp only [Act.put, List.setIfInBounds_toArray, List.set_cons_zero, List.set_cons_succ]
      refine hr_take_w 17 (some 53) (.pointer (some ⟨mg0, 0, none⟩)) rfl rfl (by kernel_rfl) (by kernel_rfl) (by kernel_rfl) rfl (fun W hW => by go_simp) trivial ?_
      simp only [Act.put, List.setIfInBounds_toArray, List.set_cons_zero, List.set_cons_succ]
      refine hr_take_w 18 (some 54) (.pointer (some ⟨mg0, 3, none⟩)) rfl rfl (by kernel_rfl) (by kernel_rfl) (by kernel_rfl) rfl (fun W hW => by go_simp) trivial ?_
      simp only [Act.put, List.setIfInBounds_toArray, List.set_cons_zero, List.set_cons_succ]
      have lc := A1.cell 3
      have lf := A1.free 3
      refine hr_skip 19 none (w' := W1.setCell ⟨mg0, 3, none⟩ (.slice co2 cn2 cc2)) rfl rfl (by kernel_rfl) rfl (by go_simp) trivial ?_
      simp only [Act.put]
      refine wpAnyH_done (by kernel_rfl) ?_ _
      refine NoPanic.normal ?_
      clear lc lf ha
      have KF2 := KF1.chg D0
      have B2 := B.trans ((E1.mono B.size).trans B0)
      obtain ⟨W2, hW2⟩ : ∃ W2, W2 = W1.setCell ⟨mg0, 3, none⟩ (.slice co2 cn2 cc2) := ⟨_, rfl⟩
      rw [← hW2] at N2 KF2 B2 ⊢
      clear hW2
      go_wp2
      go_roundw
      case rel =>
        refine ⟨kk + 1, (.slice co2 cn2 cc2), us ++ [.pointer po], by omega, by go_num, N2, B2, ?_⟩
        rw [HTS.out]
        exact KF2
      case measure => simp [intOf]; omega
    · have hge : ¬ (kk : Int) < (cn : Int) := by omega
      have HSG : Hid (segs.take kk = segs) := List.take_of_length_le (by have := HNC.out.2; have := HCN.out; omega)
      clear H
      go_wp2
      go_ret
      refine ⟨_, rfl, fun W hW => ?_, B⟩
      rw [HSG.out] at KF
      have hW0 : ∀ b, b < w0.heap.size → W.heap[b]? = w0.heap[b]? := fun b hb => ((hW b (.inl hb) (Nat.lt_of_lt_of_le hb (Nat.le_trans HB0.out.size B.size))).trans (B.block b (Nat.lt_of_lt_of_le hb HB0.out.size))).trans (HB0.out.block b hb)
      have N2 := N.on (w := W) (fun b h1 h2 => hW b (.inr h1) h2)
      obtain ⟨co2, cc2, rfl, C, -⟩ := VL.own N2.oc
      exact T.make N2.arr (hN1.ok.kl.on hW0) (hN1.ok.vl.on hW0) C hN1.shp hN1.ek hN1.ev (KF.end hW)
end Go.Proofs.YtnicnfjickknjaaDoor

/-
  The reference's Equal, of two shapes of the same items.
-/
import Derived.Test.YtnicnfjickknjaaDoorTreePlaysZ1
import Derived.Test.YtnicnfjickknjaaDoorTreePlaysZ5
namespace Go.Proofs.YtnicnfjickknjaaDoor
open Go.RowKit

theorem same_true (w : World) (ao bo : Option Addr) (n cap m cap2 : Nat) (xs : List Int) (h : Sl w ao n cap xs) (h2 : Sl w bo m cap2 xs) :
    Calls Tryd.prog 12 #[.slice ao n cap, .slice bo m cap2] w fun e w' => e = .returned (.bool true) ∧ Below w.heap.size w w' := by
  refine (same_any w ao bo n cap m cap2 xs xs h h2).mono ?_
  rintro e w' ⟨rfl, q, rfl⟩
  exact ⟨by simp, ⟨rfl, rfl, rfl, Nat.le_refl _, fun _ _ => rfl⟩⟩
/-- Two lists of bytes that are the same. -/
theorem KL.pair {w : World} {d e : List Part} {b o b2 o2 n c n2 c2 : Nat} (h1 : KL w (some ⟨b, o, none⟩) n c d) (h2 : KL w (some ⟨b2, o2, none⟩) n2 c2 e) (he : d.map Part.xs = e.map Part.xs) :
    ∀ i, i < n → ∃ qa qb : Part, w.cell? ⟨b, o + i, none⟩ = some qa.val ∧ w.cell? ⟨b2, o2 + i, none⟩ = some qb.val ∧ Sl w qa.ao qa.n qa.cap qa.xs ∧ Sl w qb.ao qb.n qb.cap qb.xs ∧ qa.xs = qb.xs := fun i hi => by
  have l1 := h1.len
  have hl := congrArg List.length he
  rw [List.length_map, List.length_map] at hl
  have hd : i < d.length := by omega
  have hee : i < e.length := by omega
  refine ⟨d[i], e[i], ?_, ?_, h1.sl _ (List.getElem_mem _), h2.sl _ (List.getElem_mem _), ?_⟩
  · have := h1.vl.cell _ rfl i (by simpa using hd)
    rw [Addr.add_lit, List.getElem_map] at this
    exact this
  · have := h2.vl.cell _ rfl i (by simpa using hee)
    rw [Addr.add_lit, List.getElem_map] at this
    exact this
  · have h3 : (d.map Part.xs)[i]? = (e.map Part.xs)[i]? := by rw [he]
    rw [List.getElem?_map, List.getElem?_map, List.getElem?_eq_getElem hd, List.getElem?_eq_getElem hee] at h3
    simpa using h3

set_option maxHeartbeats 8000000 in
set_option maxRecDepth 100000 in
theorem requal_fuel : ∀ (N : Nat) (w : World) (va vb : Value) (l : List It), T w va l → T w vb l → l.length ≤ 50000 → l.length ≤ N →
    Calls Tryd.prog 18 #[va, vb] w fun e w' => e = .returned (.bool true) ∧ Below w.heap.size w w' := by
  intro N
  induction N using Nat.strongRecOn with | _ N ih => ?_
  intro w va vb l hTa hTb hn hN
  rcases hTa.is with ⟨rfl, rfl⟩ | ⟨d, segs, xs, rfl, hA⟩
  · rcases hTb.is with ⟨-, rfl⟩ | ⟨e, segs2, xs2, rfl, hB⟩
    · go_enter Tryd.func18, Tryd.ntmps18
      go_wp2
      go_ret
      exact ⟨rfl, Below.refl _ _⟩
    · have h0 := hB.shp.pos
      have := hB.shp.key xs2[0] (List.getElem_mem h0)
      simp at this
  rcases hTb.is with ⟨rfl, rfl⟩ | ⟨e, segs2, xs2, rfl, hB⟩
  · have h0 := hA.shp.pos
    have := hA.shp.key xs[0] (List.getElem_mem h0)
    simp at this
  have uA := hA.shp.unique
  have uB := hB.shp.unique
  have eL : e.L = d.L := by rw [uB.1, uA.1]
  have eS : segs2 = segs := by rw [uB.2.1, uA.2.1, eL]
  have eX : xs2 = xs := by rw [uB.2.2, uA.2.2, eL]
  subst eS eX
  clear uA uB hTa hTb
  have HIH : Hid (∀ M, M < N → ∀ (w : World) (va vb : Value) (l : List It), T w va l → T w vb l → l.length ≤ 50000 → l.length ≤ M → Calls Tryd.prog 18 #[va, vb] w fun e w' => e = .returned (.bool true) ∧ Below w.heap.size w w') := ih
  have hm := hA.many
  have hp := hA.shp.pos
  obtain ⟨m, hmd⟩ : ∃ m, m = xs2.length := ⟨_, rfl⟩
  obtain ⟨cn, hcn⟩ : ∃ n, n = xs2.length + 1 := ⟨_, rfl⟩
  have ka : KL w d.ko m d.kc d.ks := by rw [hmd, ← hA.nk]; exact hA.ok.kl
  have kb' : KL w e.ko m e.kc e.ks := by rw [hmd, ← hB.nk]; exact hB.ok.kl
  have va' : KL w d.vo m d.vc d.vs := by rw [hmd, ← hA.nv]; exact hA.ok.vl
  have vb' : KL w e.vo m e.vc e.vs := by rw [hmd, ← hB.nv]; exact hB.ok.vl
  have ca : VL w d.co cn d.cc d.cs := by rw [hcn, ← hA.nc]; exact hA.ok.cl
  have cb' : VL w e.co cn e.cc e.cs := by rw [hcn, ← hB.nc]; exact hB.ok.cl
  have a0 := hA.ok.c0
  have a1 := hA.ok.c1
  have a2 := hA.ok.c2
  have a3 := hA.ok.c3
  have b0 := hB.ok.c0
  have b1 := hB.ok.c1
  have b2 := hB.ok.c2
  have b3 := hB.ok.c3
  rw [eL] at b0
  rw [hA.nk, ← hmd] at a1
  rw [hA.nv, ← hmd] at a2
  rw [hA.nc, ← hcn] at a3
  rw [hB.nk, ← hmd] at b1
  rw [hB.nv, ← hmd] at b2
  rw [hB.nc, ← hcn] at b3
  obtain ⟨kb, ko, e1, -⟩ := ka.vl.at (by omega)
  obtain ⟨vb, vo, e2, -⟩ := va'.vl.at (by omega)
  obtain ⟨cb, co, e3, hca⟩ := ca.at (by omega)
  obtain ⟨fb, fo, e4, -⟩ := kb'.vl.at (by omega)
  obtain ⟨gb, go, e5, -⟩ := vb'.vl.at (by omega)
  obtain ⟨hb, ho, e6, hcb⟩ := cb'.at (by omega)
  rw [e1] at a1 ka
  rw [e2] at a2 va'
  rw [e3] at a3
  rw [e4] at b1 kb'
  rw [e5] at b2 vb'
  rw [e6] at b3
  have HKA : Hid _ := ka.pair kb' (by rw [hA.ek, hB.ek])
  have HVA : Hid _ := va'.pair vb' (by rw [hA.ev, hB.ev])
  have HCA : Hid (∀ i, i < cn → ∃ (s : List It) (pa pb : Option Addr), w.cell? ⟨cb, co + i, none⟩ = some (.pointer pa) ∧ w.cell? ⟨hb, ho + i, none⟩ = some (.pointer pb) ∧ T w (.pointer pa) s ∧ T w (.pointer pb) s ∧ s.length < l.length) := fun i hi => by
    have hs : i < segs2.length := by have := hA.shp.len; omega
    obtain ⟨ya, h1, t1⟩ := hA.kid i segs2[i] (List.getElem?_eq_getElem hs)
    obtain ⟨yb, h2, t2⟩ := hB.kid i segs2[i] (List.getElem?_eq_getElem hs)
    obtain ⟨pa, rfl⟩ := t1.ptr
    obtain ⟨pb, rfl⟩ := t2.ptr
    obtain ⟨i1, j1⟩ := List.getElem?_eq_some_iff.1 h1
    obtain ⟨i2, j2⟩ := List.getElem?_eq_some_iff.1 h2
    exact ⟨segs2[i], pa, pb, by rw [hca i i1, j1], by rw [hcb i i2, j2], t1, t2, hA.shp.shorter _ (List.getElem_mem _)⟩
  have hm5 : m ≤ 50000 := by omega
  have hmi : (m : Int) ≤ 50000 := by omega
  have hc5 : cn ≤ 50001 := by omega
  have hci : (cn : Int) ≤ 50001 := by omega
  clear ka kb' va' vb' ca cb' hca hcb e1 e2 e3 e4 e5 e6 hA hB eL ih hm hp hmd hcn
  unfold Nd.ptr
  go_enter Tryd.func18, Tryd.ntmps18
  go_wp2
  have tHS : Hid (∀ V, Below w.heap.size w V → V.cell? ⟨d.b, 0, none⟩ = some (.int .i64 (d.L : Nat)) ∧ V.cell? ⟨e.b, 0, none⟩ = some (.int .i64 (d.L : Nat)) ∧ V.cell? ⟨d.b, 1, none⟩ = some (.slice (some ⟨kb, ko, none⟩) m d.kc) ∧ V.cell? ⟨e.b, 1, none⟩ = some (.slice (some ⟨fb, fo, none⟩) m e.kc) ∧ V.cell? ⟨d.b, 2, none⟩ = some (.slice (some ⟨vb, vo, none⟩) m d.vc) ∧ V.cell? ⟨e.b, 2, none⟩ = some (.slice (some ⟨gb, go, none⟩) m e.vc) ∧ V.cell? ⟨d.b, 3, none⟩ = some (.slice (some ⟨cb, co, none⟩) cn d.cc) ∧ V.cell? ⟨e.b, 3, none⟩ = some (.slice (some ⟨hb, ho, none⟩) cn e.cc)) := fun V hV => ⟨(hV.cell (World.block_lt_of_cell? _ _ a0)).trans a0, (hV.cell (World.block_lt_of_cell? _ _ b0)).trans b0, (hV.cell (World.block_lt_of_cell? _ _ a1)).trans a1, (hV.cell (World.block_lt_of_cell? _ _ b1)).trans b1, (hV.cell (World.block_lt_of_cell? _ _ a2)).trans a2, (hV.cell (World.block_lt_of_cell? _ _ b2)).trans b2, (hV.cell (World.block_lt_of_cell? _ _ a3)).trans a3, (hV.cell (World.block_lt_of_cell? _ _ b3)).trans b3⟩
  have tE0 : Below w.heap.size w w.drew := (Below.refl _ _).drew
  refine wp_region_noPanic ?_
  refine wp_region_held_drew (S := fun V => V.cell? ⟨d.b, 0, none⟩ = some (.int .i64 (d.L : Nat)) ∧ V.cell? ⟨e.b, 0, none⟩ = some (.int .i64 (d.L : Nat)) ∧ V.cell? ⟨d.b, 1, none⟩ = some (.slice (some ⟨kb, ko, none⟩) m d.kc) ∧ V.cell? ⟨e.b, 1, none⟩ = some (.slice (some ⟨fb, fo, none⟩) m e.kc) ∧ V.cell? ⟨d.b, 2, none⟩ = some (.slice (some ⟨vb, vo, none⟩) m d.vc) ∧ V.cell? ⟨e.b, 2, none⟩ = some (.slice (some ⟨gb, go, none⟩) m e.vc) ∧ V.cell? ⟨d.b, 3, none⟩ = some (.slice (some ⟨cb, co, none⟩) cn d.cc) ∧ V.cell? ⟨e.b, 3, none⟩ = some (.slice (some ⟨hb, ho, none⟩) cn e.cc)) (by kernel_rfl) (tHS.out _ tE0) (fun tH0 => ?_)
  obtain ⟨tv0, hv0⟩ : ∃ v, v = w.drew := ⟨_, rfl⟩
  rw [← hv0] at tH0 tE0 ⊢
  clear hv0
  refine hr_take_w 0 (some 20) (.pointer (some ⟨d.b, 0, none⟩)) rfl rfl (by kernel_rfl) (by kernel_rfl) (by kernel_rfl) rfl (fun W hW => by obtain ⟨h0, h1, h2, h3, h4, h5, h6, h7⟩ := hW; go_simp) tH0 ?_
  simp only [Act.put, List.setIfInBounds_toArray, List.set_cons_zero, List.set_cons_succ]
  refine hr_take_w 1 (some 21) (.pointer (some ⟨d.b, 0, none⟩)) rfl rfl (by kernel_rfl) (by kernel_rfl) (by kernel_rfl) rfl (fun W hW => by obtain ⟨h0, h1, h2, h3, h4, h5, h6, h7⟩ := hW; go_simp) tH0 ?_
  simp only [Act.put, List.setIfInBounds_toArray, List.set_cons_zero, List.set_cons_succ]
  refine hr_take_w 2 (some 22) (.pointer (some ⟨d.b, 0, none⟩)) rfl rfl (by kernel_rfl) (by kernel_rfl) (by kernel_rfl) rfl (fun W hW => by obtain ⟨h0, h1, h2, h3, h4, h5, h6, h7⟩ := hW; go_simp) tH0 ?_
  simp only [Act.put, List.setIfInBounds_toArray, List.set_cons_zero, List.set_cons_succ]
  refine hr_take_w 3 (some 23) (.int .i64 (d.L : Nat)) rfl rfl (by kernel_rfl) (by kernel_rfl) (by kernel_rfl) rfl (fun W hW => by obtain ⟨h0, h1, h2, h3, h4, h5, h6, h7⟩ := hW; go_simp) tH0 ?_
  simp only [Act.put, List.setIfInBounds_toArray, List.set_cons_zero, List.set_cons_succ]
  refine hr_take_w 4 (some 24) (.pointer (some ⟨e.b, 0, none⟩)) rfl rfl (by kernel_rfl) (by kernel_rfl) (by kernel_rfl) rfl (fun W hW => by obtain ⟨h0, h1, h2, h3, h4, h5, h6, h7⟩ := hW; go_simp) tH0 ?_
  simp only [Act.put, List.setIfInBounds_toArray, List.set_cons_zero, List.set_cons_succ]
  refine hr_take_w 5 (some 25) (.pointer (some ⟨e.b, 0, none⟩)) rfl rfl (by kernel_rfl) (by kernel_rfl) (by kernel_rfl) rfl (fun W hW => by obtain ⟨h0, h1, h2, h3, h4, h5, h6, h7⟩ := hW; go_simp) tH0 ?_
  simp only [Act.put, List.setIfInBounds_toArray, List.set_cons_zero, List.set_cons_succ]
  refine hr_take_w 6 (some 26) (.pointer (some ⟨e.b, 0, none⟩)) rfl rfl (by kernel_rfl) (by kernel_rfl) (by kernel_rfl) rfl (fun W hW => by obtain ⟨h0, h1, h2, h3, h4, h5, h6, h7⟩ := hW; go_simp) tH0 ?_
  simp only [Act.put, List.setIfInBounds_toArray, List.set_cons_zero, List.set_cons_succ]
  refine hr_take_w 7 (some 27) (.int .i64 (d.L : Nat)) rfl rfl (by kernel_rfl) (by kernel_rfl) (by kernel_rfl) rfl (fun W hW => by obtain ⟨h0, h1, h2, h3, h4, h5, h6, h7⟩ := hW; go_simp) tH0 ?_
  simp only [Act.put, List.setIfInBounds_toArray, List.set_cons_zero, List.set_cons_succ]
  refine hr_take_w 8 (some 28) (.bool false) rfl rfl (by kernel_rfl) (by kernel_rfl) (by kernel_rfl) rfl (fun W hW => by obtain ⟨h0, h1, h2, h3, h4, h5, h6, h7⟩ := hW; go_simp) tH0 ?_
  simp only [Act.put, List.setIfInBounds_toArray, List.set_cons_zero, List.set_cons_succ]
  refine hr_take_w 9 (some 29) (.bool false) rfl rfl (by kernel_rfl) (by kernel_rfl) (by kernel_rfl) rfl (fun W hW => by obtain ⟨h0, h1, h2, h3, h4, h5, h6, h7⟩ := hW; go_simp) tH0 ?_
  simp only [Act.put, List.setIfInBounds_toArray, List.set_cons_zero, List.set_cons_succ]
  refine hr_take_w 10 (some 30) (.pointer (some ⟨d.b, 0, none⟩)) rfl rfl (by kernel_rfl) (by kernel_rfl) (by kernel_rfl) rfl (fun W hW => by obtain ⟨h0, h1, h2, h3, h4, h5, h6, h7⟩ := hW; go_simp) tH0 ?_
  simp only [Act.put, List.setIfInBounds_toArray, List.set_cons_zero, List.set_cons_succ]
  refine hr_take_w 11 (some 31) (.pointer (some ⟨d.b, 0, none⟩)) rfl rfl (by kernel_rfl) (by kernel_rfl) (by kernel_rfl) rfl (fun W hW => by obtain ⟨h0, h1, h2, h3, h4, h5, h6, h7⟩ := hW; go_simp) tH0 ?_
  simp only [Act.put, List.setIfInBounds_toArray, List.set_cons_zero, List.set_cons_succ]
  refine hr_take_w 12 (some 32) (.pointer (some ⟨d.b, 1, none⟩)) rfl rfl (by kernel_rfl) (by kernel_rfl) (by kernel_rfl) rfl (fun W hW => by obtain ⟨h0, h1, h2, h3, h4, h5, h6, h7⟩ := hW; go_simp) tH0 ?_
  simp only [Act.put, List.setIfInBounds_toArray, List.set_cons_zero, List.set_cons_succ]
  refine hr_take_w 13 (some 33) (.slice (some ⟨kb, ko, none⟩) m d.kc) rfl rfl (by kernel_rfl) (by kernel_rfl) (by kernel_rfl) rfl (fun W hW => by obtain ⟨h0, h1, h2, h3, h4, h5, h6, h7⟩ := hW; go_simp) tH0 ?_
  simp only [Act.put, List.setIfInBounds_toArray, List.set_cons_zero, List.set_cons_succ]
  refine hr_take_w 14 (some 34) (.int .i64 m) rfl rfl (by kernel_rfl) (by kernel_rfl) (by kernel_rfl) rfl (fun W hW => by obtain ⟨h0, h1, h2, h3, h4, h5, h6, h7⟩ := hW; go_simp) tH0 ?_
  simp only [Act.put, List.setIfInBounds_toArray, List.set_cons_zero, List.set_cons_succ]
  refine hr_take_w 15 (some 35) (.pointer (some ⟨e.b, 0, none⟩)) rfl rfl (by kernel_rfl) (by kernel_rfl) (by kernel_rfl) rfl (fun W hW => by obtain ⟨h0, h1, h2, h3, h4, h5, h6, h7⟩ := hW; go_simp) tH0 ?_
  simp only [Act.put, List.setIfInBounds_toArray, List.set_cons_zero, List.set_cons_succ]
  refine hr_take_w 16 (some 36) (.pointer (some ⟨e.b, 0, none⟩)) rfl rfl (by kernel_rfl) (by kernel_rfl) (by kernel_rfl) rfl (fun W hW => by obtain ⟨h0, h1, h2, h3, h4, h5, h6, h7⟩ := hW; go_simp) tH0 ?_
  simp only [Act.put, List.setIfInBounds_toArray, List.set_cons_zero, List.set_cons_succ]
  refine hr_take_w 17 (some 37) (.pointer (some ⟨e.b, 1, none⟩)) rfl rfl (by kernel_rfl) (by kernel_rfl) (by kernel_rfl) rfl (fun W hW => by obtain ⟨h0, h1, h2, h3, h4, h5, h6, h7⟩ := hW; go_simp) tH0 ?_
  simp only [Act.put, List.setIfInBounds_toArray, List.set_cons_zero, List.set_cons_succ]
  refine hr_take_w 18 (some 38) (.slice (some ⟨fb, fo, none⟩) m e.kc) rfl rfl (by kernel_rfl) (by kernel_rfl) (by kernel_rfl) rfl (fun W hW => by obtain ⟨h0, h1, h2, h3, h4, h5, h6, h7⟩ := hW; go_simp) tH0 ?_
  simp only [Act.put, List.setIfInBounds_toArray, List.set_cons_zero, List.set_cons_succ]
  refine hr_take_w 19 (some 39) (.int .i64 m) rfl rfl (by kernel_rfl) (by kernel_rfl) (by kernel_rfl) rfl (fun W hW => by obtain ⟨h0, h1, h2, h3, h4, h5, h6, h7⟩ := hW; go_simp) tH0 ?_
  simp only [Act.put, List.setIfInBounds_toArray, List.set_cons_zero, List.set_cons_succ]
  refine hr_take_w 20 (some 40) (.bool false) rfl rfl (by kernel_rfl) (by kernel_rfl) (by kernel_rfl) rfl (fun W hW => by obtain ⟨h0, h1, h2, h3, h4, h5, h6, h7⟩ := hW; go_simp) tH0 ?_
  simp only [Act.put, List.setIfInBounds_toArray, List.set_cons_zero, List.set_cons_succ]
  refine hr_take_w 21 (some 41) (.bool false) rfl rfl (by kernel_rfl) (by kernel_rfl) (by kernel_rfl) rfl (fun W hW => by obtain ⟨h0, h1, h2, h3, h4, h5, h6, h7⟩ := hW; go_simp) tH0 ?_
  simp only [Act.put, List.setIfInBounds_toArray, List.set_cons_zero, List.set_cons_succ]
  refine hr_take_w 22 (some 42) (.bool false) rfl rfl (by kernel_rfl) (by kernel_rfl) (by kernel_rfl) rfl (fun W hW => by obtain ⟨h0, h1, h2, h3, h4, h5, h6, h7⟩ := hW; go_simp) tH0 ?_
  simp only [Act.put, List.setIfInBounds_toArray, List.set_cons_zero, List.set_cons_succ]
  refine hr_take_w 23 (some 43) (.pointer (some ⟨d.b, 0, none⟩)) rfl rfl (by kernel_rfl) (by kernel_rfl) (by kernel_rfl) rfl (fun W hW => by obtain ⟨h0, h1, h2, h3, h4, h5, h6, h7⟩ := hW; go_simp) tH0 ?_
  simp only [Act.put, List.setIfInBounds_toArray, List.set_cons_zero, List.set_cons_succ]
  refine hr_take_w 24 (some 44) (.pointer (some ⟨d.b, 0, none⟩)) rfl rfl (by kernel_rfl) (by kernel_rfl) (by kernel_rfl) rfl (fun W hW => by obtain ⟨h0, h1, h2, h3, h4, h5, h6, h7⟩ := hW; go_simp) tH0 ?_
  simp only [Act.put, List.setIfInBounds_toArray, List.set_cons_zero, List.set_cons_succ]
  refine hr_take_w 25 (some 45) (.pointer (some ⟨d.b, 2, none⟩)) rfl rfl (by kernel_rfl) (by kernel_rfl) (by kernel_rfl) rfl (fun W hW => by obtain ⟨h0, h1, h2, h3, h4, h5, h6, h7⟩ := hW; go_simp) tH0 ?_
  simp only [Act.put, List.setIfInBounds_toArray, List.set_cons_zero, List.set_cons_succ]
  refine hr_take_w 26 (some 46) (.slice (some ⟨vb, vo, none⟩) m d.vc) rfl rfl (by kernel_rfl) (by kernel_rfl) (by kernel_rfl) rfl (fun W hW => by obtain ⟨h0, h1, h2, h3, h4, h5, h6, h7⟩ := hW; go_simp) tH0 ?_
  simp only [Act.put, List.setIfInBounds_toArray, List.set_cons_zero, List.set_cons_succ]
  refine hr_take_w 27 (some 47) (.int .i64 m) rfl rfl (by kernel_rfl) (by kernel_rfl) (by kernel_rfl) rfl (fun W hW => by obtain ⟨h0, h1, h2, h3, h4, h5, h6, h7⟩ := hW; go_simp) tH0 ?_
  simp only [Act.put, List.setIfInBounds_toArray, List.set_cons_zero, List.set_cons_succ]
  refine hr_take_w 28 (some 48) (.pointer (some ⟨e.b, 0, none⟩)) rfl rfl (by kernel_rfl) (by kernel_rfl) (by kernel_rfl) rfl (fun W hW => by obtain ⟨h0, h1, h2, h3, h4, h5, h6, h7⟩ := hW; go_simp) tH0 ?_
  simp only [Act.put, List.setIfInBounds_toArray, List.set_cons_zero, List.set_cons_succ]
  refine hr_take_w 29 (some 49) (.pointer (some ⟨e.b, 0, none⟩)) rfl rfl (by kernel_rfl) (by kernel_rfl) (by kernel_rfl) rfl (fun W hW => by obtain ⟨h0, h1, h2, h3, h4, h5, h6, h7⟩ := hW; go_simp) tH0 ?_
  simp only [Act.put, List.setIfInBounds_toArray, List.set_cons_zero, List.set_cons_succ]
  refine hr_take_w 30 (some 50) (.pointer (some ⟨e.b, 2, none⟩)) rfl rfl (by kernel_rfl) (by kernel_rfl) (by kernel_rfl) rfl (fun W hW => by obtain ⟨h0, h1, h2, h3, h4, h5, h6, h7⟩ := hW; go_simp) tH0 ?_
  simp only [Act.put, List.setIfInBounds_toArray, List.set_cons_zero, List.set_cons_succ]
  refine hr_take_w 31 (some 51) (.slice (some ⟨gb, go, none⟩) m e.vc) rfl rfl (by kernel_rfl) (by kernel_rfl) (by kernel_rfl) rfl (fun W hW => by obtain ⟨h0, h1, h2, h3, h4, h5, h6, h7⟩ := hW; go_simp) tH0 ?_
  simp only [Act.put, List.setIfInBounds_toArray, List.set_cons_zero, List.set_cons_succ]
  refine hr_take_w 32 (some 52) (.int .i64 m) rfl rfl (by kernel_rfl) (by kernel_rfl) (by kernel_rfl) rfl (fun W hW => by obtain ⟨h0, h1, h2, h3, h4, h5, h6, h7⟩ := hW; go_simp) tH0 ?_
  simp only [Act.put, List.setIfInBounds_toArray, List.set_cons_zero, List.set_cons_succ]
  refine hr_take_w 33 (some 53) (.bool false) rfl rfl (by kernel_rfl) (by kernel_rfl) (by kernel_rfl) rfl (fun W hW => by obtain ⟨h0, h1, h2, h3, h4, h5, h6, h7⟩ := hW; go_simp) tH0 ?_
  simp only [Act.put, List.setIfInBounds_toArray, List.set_cons_zero, List.set_cons_succ]
  refine hr_take_w 34 (some 54) (.bool false) rfl rfl (by kernel_rfl) (by kernel_rfl) (by kernel_rfl) rfl (fun W hW => by obtain ⟨h0, h1, h2, h3, h4, h5, h6, h7⟩ := hW; go_simp) tH0 ?_
  simp only [Act.put, List.setIfInBounds_toArray, List.set_cons_zero, List.set_cons_succ]
  refine hr_take_w 35 (some 55) (.bool false) rfl rfl (by kernel_rfl) (by kernel_rfl) (by kernel_rfl) rfl (fun W hW => by obtain ⟨h0, h1, h2, h3, h4, h5, h6, h7⟩ := hW; go_simp) tH0 ?_
  simp only [Act.put, List.setIfInBounds_toArray, List.set_cons_zero, List.set_cons_succ]
  refine hr_take_w 36 (some 56) (.pointer (some ⟨d.b, 0, none⟩)) rfl rfl (by kernel_rfl) (by kernel_rfl) (by kernel_rfl) rfl (fun W hW => by obtain ⟨h0, h1, h2, h3, h4, h5, h6, h7⟩ := hW; go_simp) tH0 ?_
  simp only [Act.put, List.setIfInBounds_toArray, List.set_cons_zero, List.set_cons_succ]
  refine hr_take_w 37 (some 57) (.pointer (some ⟨d.b, 0, none⟩)) rfl rfl (by kernel_rfl) (by kernel_rfl) (by kernel_rfl) rfl (fun W hW => by obtain ⟨h0, h1, h2, h3, h4, h5, h6, h7⟩ := hW; go_simp) tH0 ?_
  simp only [Act.put, List.setIfInBounds_toArray, List.set_cons_zero, List.set_cons_succ]
  refine hr_take_w 38 (some 58) (.pointer (some ⟨d.b, 3, none⟩)) rfl rfl (by kernel_rfl) (by kernel_rfl) (by kernel_rfl) rfl (fun W hW => by obtain ⟨h0, h1, h2, h3, h4, h5, h6, h7⟩ := hW; go_simp) tH0 ?_
  simp only [Act.put, List.setIfInBounds_toArray, List.set_cons_zero, List.set_cons_succ]
  refine hr_take_w 39 (some 59) (.slice (some ⟨cb, co, none⟩) cn d.cc) rfl rfl (by kernel_rfl) (by kernel_rfl) (by kernel_rfl) rfl (fun W hW => by obtain ⟨h0, h1, h2, h3, h4, h5, h6, h7⟩ := hW; go_simp) tH0 ?_
  simp only [Act.put, List.setIfInBounds_toArray, List.set_cons_zero, List.set_cons_succ]
  refine hr_take_w 40 (some 60) (.int .i64 cn) rfl rfl (by kernel_rfl) (by kernel_rfl) (by kernel_rfl) rfl (fun W hW => by obtain ⟨h0, h1, h2, h3, h4, h5, h6, h7⟩ := hW; go_simp) tH0 ?_
  simp only [Act.put, List.setIfInBounds_toArray, List.set_cons_zero, List.set_cons_succ]
  refine hr_take_w 41 (some 61) (.pointer (some ⟨e.b, 0, none⟩)) rfl rfl (by kernel_rfl) (by kernel_rfl) (by kernel_rfl) rfl (fun W hW => by obtain ⟨h0, h1, h2, h3, h4, h5, h6, h7⟩ := hW; go_simp) tH0 ?_
  simp only [Act.put, List.setIfInBounds_toArray, List.set_cons_zero, List.set_cons_succ]
  refine hr_take_w 42 (some 62) (.pointer (some ⟨e.b, 0, none⟩)) rfl rfl (by kernel_rfl) (by kernel_rfl) (by kernel_rfl) rfl (fun W hW => by obtain ⟨h0, h1, h2, h3, h4, h5, h6, h7⟩ := hW; go_simp) tH0 ?_
  simp only [Act.put, List.setIfInBounds_toArray, List.set_cons_zero, List.set_cons_succ]
  refine hr_take_w 43 (some 63) (.pointer (some ⟨e.b, 3, none⟩)) rfl rfl (by kernel_rfl) (by kernel_rfl) (by kernel_rfl) rfl (fun W hW => by obtain ⟨h0, h1, h2, h3, h4, h5, h6, h7⟩ := hW; go_simp) tH0 ?_
  simp only [Act.put, List.setIfInBounds_toArray, List.set_cons_zero, List.set_cons_succ]
  refine hr_take_w 44 (some 64) (.slice (some ⟨hb, ho, none⟩) cn e.cc) rfl rfl (by kernel_rfl) (by kernel_rfl) (by kernel_rfl) rfl (fun W hW => by obtain ⟨h0, h1, h2, h3, h4, h5, h6, h7⟩ := hW; go_simp) tH0 ?_
  simp only [Act.put, List.setIfInBounds_toArray, List.set_cons_zero, List.set_cons_succ]
  refine hr_take_w 45 (some 65) (.int .i64 cn) rfl rfl (by kernel_rfl) (by kernel_rfl) (by kernel_rfl) rfl (fun W hW => by obtain ⟨h0, h1, h2, h3, h4, h5, h6, h7⟩ := hW; go_simp) tH0 ?_
  simp only [Act.put, List.setIfInBounds_toArray, List.set_cons_zero, List.set_cons_succ]
  refine hr_take_w 46 (some 66) (.bool false) rfl rfl (by kernel_rfl) (by kernel_rfl) (by kernel_rfl) rfl (fun W hW => by obtain ⟨h0, h1, h2, h3, h4, h5, h6, h7⟩ := hW; go_simp) tH0 ?_
  simp only [Act.put, List.setIfInBounds_toArray, List.set_cons_zero, List.set_cons_succ]
  refine hr_take_w 47 (some 67) (.bool false) rfl rfl (by kernel_rfl) (by kernel_rfl) (by kernel_rfl) rfl (fun W hW => by obtain ⟨h0, h1, h2, h3, h4, h5, h6, h7⟩ := hW; go_simp) tH0 ?_
  simp only [Act.put, List.setIfInBounds_toArray, List.set_cons_zero, List.set_cons_succ]
  refine wpAnyH_done (by kernel_rfl) ?_ _
  refine NoPanic.normal ?_
  clear tHS tH0
  go_wp2
  go_loopw [5] (fun i wr => ∃ kk : Nat, kk ≤ m ∧ i = .int .i64 kk ∧ Below w.heap.size w wr) (fun i _ => m - (intOf i).toNat)
  case atStart => exact ⟨0, Nat.zero_le _, rfl, tE0⟩
  case round =>
    obtain ⟨kk, hkk, rfl, BW1⟩ := hrel
    have x0 := (BW1.cell (World.block_lt_of_cell? _ _ a1)).trans a1
    have x1 := (BW1.cell (World.block_lt_of_cell? _ _ b1)).trans b1
    by_cases hlt : kk < m
    · have hki : (kk : Int) < (m : Int) := by omega
      obtain ⟨qa, qb, ya, yb, Sa, Sb, eab⟩ := HKA.out kk hlt
      have x2 := (BW1.cell (World.block_lt_of_cell? _ _ ya)).trans ya
      have x3 := (BW1.cell (World.block_lt_of_cell? _ _ yb)).trans yb
      have Sa := Sa.below BW1
      have Sb := Sb.below BW1
      rw [← eab] at Sb
      unfold Part.val at x2 x3
      clear ya yb eab
      go_wp2
      have zHS : Hid (∀ V, Below wr.heap.size wr V → V.cell? ⟨d.b, 1, none⟩ = some (.slice (some ⟨kb, ko, none⟩) m d.kc) ∧ V.cell? ⟨e.b, 1, none⟩ = some (.slice (some ⟨fb, fo, none⟩) m e.kc) ∧ V.cell? ⟨kb, ko + kk, none⟩ = some (.slice qa.ao qa.n qa.cap) ∧ V.cell? ⟨fb, fo + kk, none⟩ = some (.slice qb.ao qb.n qb.cap)) := fun V hV => ⟨(hV.cell (World.block_lt_of_cell? _ _ x0)).trans x0, (hV.cell (World.block_lt_of_cell? _ _ x1)).trans x1, (hV.cell (World.block_lt_of_cell? _ _ x2)).trans x2, (hV.cell (World.block_lt_of_cell? _ _ x3)).trans x3⟩
      have zE0 : Below wr.heap.size wr wr.drew := (Below.refl _ _).drew
      refine wp_region_noPanic ?_
      refine wp_region_held_drew (S := fun V => V.cell? ⟨d.b, 1, none⟩ = some (.slice (some ⟨kb, ko, none⟩) m d.kc) ∧ V.cell? ⟨e.b, 1, none⟩ = some (.slice (some ⟨fb, fo, none⟩) m e.kc) ∧ V.cell? ⟨kb, ko + kk, none⟩ = some (.slice qa.ao qa.n qa.cap) ∧ V.cell? ⟨fb, fo + kk, none⟩ = some (.slice qb.ao qb.n qb.cap)) (by kernel_rfl) (zHS.out _ zE0) (fun zH0 => ?_)
      obtain ⟨zv0, hv0⟩ : ∃ v, v = wr.drew := ⟨_, rfl⟩
      rw [← hv0] at zH0 zE0 ⊢
      clear hv0
      refine hr_take_w 0 (some 77) (.pointer (some ⟨d.b, 0, none⟩)) rfl rfl (by kernel_rfl) (by kernel_rfl) (by kernel_rfl) rfl (fun W hW => by obtain ⟨h0, h1, h2, h3⟩ := hW; go_simp) zH0 ?_
      simp only [Act.put, List.setIfInBounds_toArray, List.set_cons_zero, List.set_cons_succ]
      refine hr_take_w 1 (some 78) (.pointer (some ⟨d.b, 0, none⟩)) rfl rfl (by kernel_rfl) (by kernel_rfl) (by kernel_rfl) rfl (fun W hW => by obtain ⟨h0, h1, h2, h3⟩ := hW; go_simp) zH0 ?_
      simp only [Act.put, List.setIfInBounds_toArray, List.set_cons_zero, List.set_cons_succ]
      refine hr_take_w 2 (some 79) (.pointer (some ⟨d.b, 1, none⟩)) rfl rfl (by kernel_rfl) (by kernel_rfl) (by kernel_rfl) rfl (fun W hW => by obtain ⟨h0, h1, h2, h3⟩ := hW; go_simp) zH0 ?_
      simp only [Act.put, List.setIfInBounds_toArray, List.set_cons_zero, List.set_cons_succ]
      refine hr_take_w 3 (some 80) (.slice (some ⟨kb, ko, none⟩) m d.kc) rfl rfl (by kernel_rfl) (by kernel_rfl) (by kernel_rfl) rfl (fun W hW => by obtain ⟨h0, h1, h2, h3⟩ := hW; go_simp) zH0 ?_
      simp only [Act.put, List.setIfInBounds_toArray, List.set_cons_zero, List.set_cons_succ]
      refine hr_take_w 4 (some 81) (.int .i64 kk) rfl rfl (by kernel_rfl) (by kernel_rfl) (by kernel_rfl) rfl (fun W hW => by obtain ⟨h0, h1, h2, h3⟩ := hW; go_simp) zH0 ?_
      simp only [Act.put, List.setIfInBounds_toArray, List.set_cons_zero, List.set_cons_succ]
      refine hr_take_w 5 (some 82) (.pointer (some ⟨kb, ko + kk, none⟩)) rfl rfl (by kernel_rfl) (by kernel_rfl) (by kernel_rfl) rfl (fun W hW => by obtain ⟨h0, h1, h2, h3⟩ := hW; go_simp) zH0 ?_
      simp only [Act.put, List.setIfInBounds_toArray, List.set_cons_zero, List.set_cons_succ]
      refine hr_take_w 6 (some 83) (.slice qa.ao qa.n qa.cap) rfl rfl (by kernel_rfl) (by kernel_rfl) (by kernel_rfl) rfl (fun W hW => by obtain ⟨h0, h1, h2, h3⟩ := hW; go_simp) zH0 ?_
      simp only [Act.put, List.setIfInBounds_toArray, List.set_cons_zero, List.set_cons_succ]
      refine hr_take_w 7 (some 84) (.pointer (some ⟨e.b, 0, none⟩)) rfl rfl (by kernel_rfl) (by kernel_rfl) (by kernel_rfl) rfl (fun W hW => by obtain ⟨h0, h1, h2, h3⟩ := hW; go_simp) zH0 ?_
      simp only [Act.put, List.setIfInBounds_toArray, List.set_cons_zero, List.set_cons_succ]
      refine hr_take_w 8 (some 85) (.pointer (some ⟨e.b, 0, none⟩)) rfl rfl (by kernel_rfl) (by kernel_rfl) (by kernel_rfl) rfl (fun W hW => by obtain ⟨h0, h1, h2, h3⟩ := hW; go_simp) zH0 ?_
      simp only [Act.put, List.setIfInBounds_toArray, List.set_cons_zero, List.set_cons_succ]
      refine hr_take_w 9 (some 86) (.pointer (some ⟨e.b, 1, none⟩)) rfl rfl (by kernel_rfl) (by kernel_rfl) (by kernel_rfl) rfl (fun W hW => by obtain ⟨h0, h1, h2, h3⟩ := hW; go_simp) zH0 ?_
      simp only [Act.put, List.setIfInBounds_toArray, List.set_cons_zero, List.set_cons_succ]
      refine hr_take_w 10 (some 87) (.slice (some ⟨fb, fo, none⟩) m e.kc) rfl rfl (by kernel_rfl) (by kernel_rfl) (by kernel_rfl) rfl (fun W hW => by obtain ⟨h0, h1, h2, h3⟩ := hW; go_simp) zH0 ?_
      simp only [Act.put, List.setIfInBounds_toArray, List.set_cons_zero, List.set_cons_succ]
      refine hr_take_w 11 (some 88) (.int .i64 kk) rfl rfl (by kernel_rfl) (by kernel_rfl) (by kernel_rfl) rfl (fun W hW => by obtain ⟨h0, h1, h2, h3⟩ := hW; go_simp) zH0 ?_
      simp only [Act.put, List.setIfInBounds_toArray, List.set_cons_zero, List.set_cons_succ]
      refine hr_take_w 12 (some 89) (.pointer (some ⟨fb, fo + kk, none⟩)) rfl rfl (by kernel_rfl) (by kernel_rfl) (by kernel_rfl) rfl (fun W hW => by obtain ⟨h0, h1, h2, h3⟩ := hW; go_simp) zH0 ?_
      simp only [Act.put, List.setIfInBounds_toArray, List.set_cons_zero, List.set_cons_succ]
      refine hr_take_w 13 (some 90) (.slice qb.ao qb.n qb.cap) rfl rfl (by kernel_rfl) (by kernel_rfl) (by kernel_rfl) rfl (fun W hW => by obtain ⟨h0, h1, h2, h3⟩ := hW; go_simp) zH0 ?_
      simp only [Act.put, List.setIfInBounds_toArray, List.set_cons_zero, List.set_cons_succ]
      refine hr_call_w 14 (some 91) 12 #[.slice qa.ao qa.n qa.cap, .slice qb.ao qb.n qb.cap] rfl rfl (by kernel_rfl) rfl (by go_simp) (fun v w' => v = .bool true ∧ Below zv0.heap.size zv0 w') ((same_true zv0 _ _ _ _ _ _ qa.xs (Sa.below zE0) (Sb.below zE0)).mono (by
        rintro e w' ⟨rfl, C⟩
        exact ⟨_, rfl, rfl, C⟩)) ?_
      rintro v zv1 ⟨rfl, zC0⟩
      have zE1 := zE0.trans (zC0.mono zE0.size)
      have zH1 := zHS.out zv1 zE1
      refine ⟨zH1, ?_⟩
      simp only [Act.put, List.setIfInBounds_toArray, List.set_cons_zero, List.set_cons_succ]
      refine hr_take_w 15 (some 92) (.bool false) rfl rfl (by kernel_rfl) (by kernel_rfl) (by kernel_rfl) rfl (fun W hW => by obtain ⟨h0, h1, h2, h3⟩ := hW; go_simp) zH1 ?_
      simp only [Act.put, List.setIfInBounds_toArray, List.set_cons_zero, List.set_cons_succ]
      refine wpAnyH_done (by kernel_rfl) ?_ _
      refine NoPanic.normal ?_
      clear zHS zH0 zH1 zC0 x0 x1 x2 x3
      go_wp2
      go_roundw
      case rel => exact ⟨kk + 1, by omega, by go_num, BW1.trans (zE1.mono BW1.size)⟩
      case measure => simp [intOf]; omega
    · have hge : ¬ (kk : Int) < (m : Int) := by omega
      go_wp2
      clear x0 x1
      go_loopw [6] (fun i wr => ∃ kk : Nat, kk ≤ m ∧ i = .int .i64 kk ∧ Below w.heap.size w wr) (fun i _ => m - (intOf i).toNat)
      case atStart => exact ⟨0, Nat.zero_le _, rfl, BW1⟩
      case round =>
        obtain ⟨kk, hkk, rfl, BW2⟩ := hrel
        have x0 := (BW2.cell (World.block_lt_of_cell? _ _ a2)).trans a2
        have x1 := (BW2.cell (World.block_lt_of_cell? _ _ b2)).trans b2
        by_cases hlt : kk < m
        · have hki : (kk : Int) < (m : Int) := by omega
          obtain ⟨qa, qb, ya, yb, Sa, Sb, eab⟩ := HVA.out kk hlt
          have x2 := (BW2.cell (World.block_lt_of_cell? _ _ ya)).trans ya
          have x3 := (BW2.cell (World.block_lt_of_cell? _ _ yb)).trans yb
          have Sa := Sa.below BW2
          have Sb := Sb.below BW2
          rw [← eab] at Sb
          unfold Part.val at x2 x3
          clear ya yb eab
          go_wp2
          have zHS : Hid (∀ V, Below wr.heap.size wr V → V.cell? ⟨d.b, 2, none⟩ = some (.slice (some ⟨vb, vo, none⟩) m d.vc) ∧ V.cell? ⟨e.b, 2, none⟩ = some (.slice (some ⟨gb, go, none⟩) m e.vc) ∧ V.cell? ⟨vb, vo + kk, none⟩ = some (.slice qa.ao qa.n qa.cap) ∧ V.cell? ⟨gb, go + kk, none⟩ = some (.slice qb.ao qb.n qb.cap)) := fun V hV => ⟨(hV.cell (World.block_lt_of_cell? _ _ x0)).trans x0, (hV.cell (World.block_lt_of_cell? _ _ x1)).trans x1, (hV.cell (World.block_lt_of_cell? _ _ x2)).trans x2, (hV.cell (World.block_lt_of_cell? _ _ x3)).trans x3⟩
          have zE0 : Below wr.heap.size wr wr.drew := (Below.refl _ _).drew
          refine wp_region_noPanic ?_
          refine wp_region_held_drew (S := fun V => V.cell? ⟨d.b, 2, none⟩ = some (.slice (some ⟨vb, vo, none⟩) m d.vc) ∧ V.cell? ⟨e.b, 2, none⟩ = some (.slice (some ⟨gb, go, none⟩) m e.vc) ∧ V.cell? ⟨vb, vo + kk, none⟩ = some (.slice qa.ao qa.n qa.cap) ∧ V.cell? ⟨gb, go + kk, none⟩ = some (.slice qb.ao qb.n qb.cap)) (by kernel_rfl) (zHS.out _ zE0) (fun zH0 => ?_)
          obtain ⟨zv0, hv0⟩ : ∃ v, v = wr.drew := ⟨_, rfl⟩
          rw [← hv0] at zH0 zE0 ⊢
          clear hv0
          refine hr_take_w 0 (some 102) (.pointer (some ⟨d.b, 0, none⟩)) rfl rfl (by kernel_rfl) (by kernel_rfl) (by kernel_rfl) rfl (fun W hW => by obtain ⟨h0, h1, h2, h3⟩ := hW; go_simp) zH0 ?_
          simp only [Act.put, List.setIfInBounds_toArray, List.set_cons_zero, List.set_cons_succ]
          refine hr_take_w 1 (some 103) (.pointer (some ⟨d.b, 0, none⟩)) rfl rfl (by kernel_rfl) (by kernel_rfl) (by kernel_rfl) rfl (fun W hW => by obtain ⟨h0, h1, h2, h3⟩ := hW; go_simp) zH0 ?_
          simp only [Act.put, List.setIfInBounds_toArray, List.set_cons_zero, List.set_cons_succ]
          refine hr_take_w 2 (some 104) (.pointer (some ⟨d.b, 2, none⟩)) rfl rfl (by kernel_rfl) (by kernel_rfl) (by kernel_rfl) rfl (fun W hW => by obtain ⟨h0, h1, h2, h3⟩ := hW; go_simp) zH0 ?_
          simp only [Act.put, List.setIfInBounds_toArray, List.set_cons_zero, List.set_cons_succ]
          refine hr_take_w 3 (some 105) (.slice (some ⟨vb, vo, none⟩) m d.vc) rfl rfl (by kernel_rfl) (by kernel_rfl) (by kernel_rfl) rfl (fun W hW => by obtain ⟨h0, h1, h2, h3⟩ := hW; go_simp) zH0 ?_
          simp only [Act.put, List.setIfInBounds_toArray, List.set_cons_zero, List.set_cons_succ]
          refine hr_take_w 4 (some 106) (.int .i64 kk) rfl rfl (by kernel_rfl) (by kernel_rfl) (by kernel_rfl) rfl (fun W hW => by obtain ⟨h0, h1, h2, h3⟩ := hW; go_simp) zH0 ?_
          simp only [Act.put, List.setIfInBounds_toArray, List.set_cons_zero, List.set_cons_succ]
          refine hr_take_w 5 (some 107) (.pointer (some ⟨vb, vo + kk, none⟩)) rfl rfl (by kernel_rfl) (by kernel_rfl) (by kernel_rfl) rfl (fun W hW => by obtain ⟨h0, h1, h2, h3⟩ := hW; go_simp) zH0 ?_
          simp only [Act.put, List.setIfInBounds_toArray, List.set_cons_zero, List.set_cons_succ]
          refine hr_take_w 6 (some 108) (.slice qa.ao qa.n qa.cap) rfl rfl (by kernel_rfl) (by kernel_rfl) (by kernel_rfl) rfl (fun W hW => by obtain ⟨h0, h1, h2, h3⟩ := hW; go_simp) zH0 ?_
          simp only [Act.put, List.setIfInBounds_toArray, List.set_cons_zero, List.set_cons_succ]
          refine hr_take_w 7 (some 109) (.pointer (some ⟨e.b, 0, none⟩)) rfl rfl (by kernel_rfl) (by kernel_rfl) (by kernel_rfl) rfl (fun W hW => by obtain ⟨h0, h1, h2, h3⟩ := hW; go_simp) zH0 ?_
          simp only [Act.put, List.setIfInBounds_toArray, List.set_cons_zero, List.set_cons_succ]
          refine hr_take_w 8 (some 110) (.pointer (some ⟨e.b, 0, none⟩)) rfl rfl (by kernel_rfl) (by kernel_rfl) (by kernel_rfl) rfl (fun W hW => by obtain ⟨h0, h1, h2, h3⟩ := hW; go_simp) zH0 ?_
          simp only [Act.put, List.setIfInBounds_toArray, List.set_cons_zero, List.set_cons_succ]
          refine hr_take_w 9 (some 111) (.pointer (some ⟨e.b, 2, none⟩)) rfl rfl (by kernel_rfl) (by kernel_rfl) (by kernel_rfl) rfl (fun W hW => by obtain ⟨h0, h1, h2, h3⟩ := hW; go_simp) zH0 ?_
          simp only [Act.put, List.setIfInBounds_toArray, List.set_cons_zero, List.set_cons_succ]
          refine hr_take_w 10 (some 112) (.slice (some ⟨gb, go, none⟩) m e.vc) rfl rfl (by kernel_rfl) (by kernel_rfl) (by kernel_rfl) rfl (fun W hW => by obtain ⟨h0, h1, h2, h3⟩ := hW; go_simp) zH0 ?_
          simp only [Act.put, List.setIfInBounds_toArray, List.set_cons_zero, List.set_cons_succ]
          refine hr_take_w 11 (some 113) (.int .i64 kk) rfl rfl (by kernel_rfl) (by kernel_rfl) (by kernel_rfl) rfl (fun W hW => by obtain ⟨h0, h1, h2, h3⟩ := hW; go_simp) zH0 ?_
          simp only [Act.put, List.setIfInBounds_toArray, List.set_cons_zero, List.set_cons_succ]
          refine hr_take_w 12 (some 114) (.pointer (some ⟨gb, go + kk, none⟩)) rfl rfl (by kernel_rfl) (by kernel_rfl) (by kernel_rfl) rfl (fun W hW => by obtain ⟨h0, h1, h2, h3⟩ := hW; go_simp) zH0 ?_
          simp only [Act.put, List.setIfInBounds_toArray, List.set_cons_zero, List.set_cons_succ]
          refine hr_take_w 13 (some 115) (.slice qb.ao qb.n qb.cap) rfl rfl (by kernel_rfl) (by kernel_rfl) (by kernel_rfl) rfl (fun W hW => by obtain ⟨h0, h1, h2, h3⟩ := hW; go_simp) zH0 ?_
          simp only [Act.put, List.setIfInBounds_toArray, List.set_cons_zero, List.set_cons_succ]
          refine hr_call_w 14 (some 116) 12 #[.slice qa.ao qa.n qa.cap, .slice qb.ao qb.n qb.cap] rfl rfl (by kernel_rfl) rfl (by go_simp) (fun v w' => v = .bool true ∧ Below zv0.heap.size zv0 w') ((same_true zv0 _ _ _ _ _ _ qa.xs (Sa.below zE0) (Sb.below zE0)).mono (by
            rintro e w' ⟨rfl, C⟩
            exact ⟨_, rfl, rfl, C⟩)) ?_
          rintro v zv1 ⟨rfl, zC0⟩
          have zE1 := zE0.trans (zC0.mono zE0.size)
          have zH1 := zHS.out zv1 zE1
          refine ⟨zH1, ?_⟩
          simp only [Act.put, List.setIfInBounds_toArray, List.set_cons_zero, List.set_cons_succ]
          refine hr_take_w 15 (some 117) (.bool false) rfl rfl (by kernel_rfl) (by kernel_rfl) (by kernel_rfl) rfl (fun W hW => by obtain ⟨h0, h1, h2, h3⟩ := hW; go_simp) zH1 ?_
          simp only [Act.put, List.setIfInBounds_toArray, List.set_cons_zero, List.set_cons_succ]
          refine wpAnyH_done (by kernel_rfl) ?_ _
          refine NoPanic.normal ?_
          clear zHS zH0 zH1 zC0 x0 x1 x2 x3
          go_wp2
          go_roundw
          case rel => exact ⟨kk + 1, by omega, by go_num, BW2.trans (zE1.mono BW2.size)⟩
          case measure => simp [intOf]; omega
        · have hge : ¬ (kk : Int) < (m : Int) := by omega
          go_wp2
          clear x0 x1
          go_loopw [7] (fun i wr => ∃ kk : Nat, kk ≤ cn ∧ i = .int .i64 kk ∧ Below w.heap.size w wr) (fun i _ => cn - (intOf i).toNat)
          case atStart => exact ⟨0, Nat.zero_le _, rfl, BW2⟩
          case round =>
            obtain ⟨kk, hkk, rfl, BW3⟩ := hrel
            have x0 := (BW3.cell (World.block_lt_of_cell? _ _ a3)).trans a3
            have x1 := (BW3.cell (World.block_lt_of_cell? _ _ b3)).trans b3
            by_cases hlt : kk < cn
            · have hki : (kk : Int) < (cn : Int) := by omega
              obtain ⟨s, pa, pb, ya, yb, Ta, Tb, hs⟩ := HCA.out kk hlt
              have x2 := (BW3.cell (World.block_lt_of_cell? _ _ ya)).trans ya
              have x3 := (BW3.cell (World.block_lt_of_cell? _ _ yb)).trans yb
              have HTA : Hid (T wr (.pointer pa) s) := Ta.below BW3
              have HTB : Hid (T wr (.pointer pb) s) := Tb.below BW3
              clear ya yb Ta Tb
              go_wp2
              have zHS : Hid (∀ V, Below wr.heap.size wr V → V.cell? ⟨d.b, 3, none⟩ = some (.slice (some ⟨cb, co, none⟩) cn d.cc) ∧ V.cell? ⟨e.b, 3, none⟩ = some (.slice (some ⟨hb, ho, none⟩) cn e.cc) ∧ V.cell? ⟨cb, co + kk, none⟩ = some (.pointer pa) ∧ V.cell? ⟨hb, ho + kk, none⟩ = some (.pointer pb)) := fun V hV => ⟨(hV.cell (World.block_lt_of_cell? _ _ x0)).trans x0, (hV.cell (World.block_lt_of_cell? _ _ x1)).trans x1, (hV.cell (World.block_lt_of_cell? _ _ x2)).trans x2, (hV.cell (World.block_lt_of_cell? _ _ x3)).trans x3⟩
              have zE0 : Below wr.heap.size wr wr.drew := (Below.refl _ _).drew
              refine wp_region_noPanic ?_
              refine wp_region_held_drew (S := fun V => V.cell? ⟨d.b, 3, none⟩ = some (.slice (some ⟨cb, co, none⟩) cn d.cc) ∧ V.cell? ⟨e.b, 3, none⟩ = some (.slice (some ⟨hb, ho, none⟩) cn e.cc) ∧ V.cell? ⟨cb, co + kk, none⟩ = some (.pointer pa) ∧ V.cell? ⟨hb, ho + kk, none⟩ = some (.pointer pb)) (by kernel_rfl) (zHS.out _ zE0) (fun zH0 => ?_)
              obtain ⟨zv0, hv0⟩ : ∃ v, v = wr.drew := ⟨_, rfl⟩
              rw [← hv0] at zH0 zE0 ⊢
              clear hv0
              refine hr_take_w 0 (some 127) (.pointer (some ⟨d.b, 0, none⟩)) rfl rfl (by kernel_rfl) (by kernel_rfl) (by kernel_rfl) rfl (fun W hW => by obtain ⟨h0, h1, h2, h3⟩ := hW; go_simp) zH0 ?_
              simp only [Act.put, List.setIfInBounds_toArray, List.set_cons_zero, List.set_cons_succ]
              refine hr_take_w 1 (some 128) (.pointer (some ⟨d.b, 0, none⟩)) rfl rfl (by kernel_rfl) (by kernel_rfl) (by kernel_rfl) rfl (fun W hW => by obtain ⟨h0, h1, h2, h3⟩ := hW; go_simp) zH0 ?_
              simp only [Act.put, List.setIfInBounds_toArray, List.set_cons_zero, List.set_cons_succ]
              refine hr_take_w 2 (some 129) (.pointer (some ⟨d.b, 3, none⟩)) rfl rfl (by kernel_rfl) (by kernel_rfl) (by kernel_rfl) rfl (fun W hW => by obtain ⟨h0, h1, h2, h3⟩ := hW; go_simp) zH0 ?_
              simp only [Act.put, List.setIfInBounds_toArray, List.set_cons_zero, List.set_cons_succ]
              refine hr_take_w 3 (some 130) (.slice (some ⟨cb, co, none⟩) cn d.cc) rfl rfl (by kernel_rfl) (by kernel_rfl) (by kernel_rfl) rfl (fun W hW => by obtain ⟨h0, h1, h2, h3⟩ := hW; go_simp) zH0 ?_
              simp only [Act.put, List.setIfInBounds_toArray, List.set_cons_zero, List.set_cons_succ]
              refine hr_take_w 4 (some 131) (.int .i64 kk) rfl rfl (by kernel_rfl) (by kernel_rfl) (by kernel_rfl) rfl (fun W hW => by obtain ⟨h0, h1, h2, h3⟩ := hW; go_simp) zH0 ?_
              simp only [Act.put, List.setIfInBounds_toArray, List.set_cons_zero, List.set_cons_succ]
              refine hr_take_w 5 (some 132) (.pointer (some ⟨cb, co + kk, none⟩)) rfl rfl (by kernel_rfl) (by kernel_rfl) (by kernel_rfl) rfl (fun W hW => by obtain ⟨h0, h1, h2, h3⟩ := hW; go_simp) zH0 ?_
              simp only [Act.put, List.setIfInBounds_toArray, List.set_cons_zero, List.set_cons_succ]
              refine hr_take_w 6 (some 133) (.pointer pa) rfl rfl (by kernel_rfl) (by kernel_rfl) (by kernel_rfl) rfl (fun W hW => by obtain ⟨h0, h1, h2, h3⟩ := hW; go_simp) zH0 ?_
              simp only [Act.put, List.setIfInBounds_toArray, List.set_cons_zero, List.set_cons_succ]
              refine hr_take_w 7 (some 134) (.pointer (some ⟨e.b, 0, none⟩)) rfl rfl (by kernel_rfl) (by kernel_rfl) (by kernel_rfl) rfl (fun W hW => by obtain ⟨h0, h1, h2, h3⟩ := hW; go_simp) zH0 ?_
              simp only [Act.put, List.setIfInBounds_toArray, List.set_cons_zero, List.set_cons_succ]
              refine hr_take_w 8 (some 135) (.pointer (some ⟨e.b, 0, none⟩)) rfl rfl (by kernel_rfl) (by kernel_rfl) (by kernel_rfl) rfl (fun W hW => by obtain ⟨h0, h1, h2, h3⟩ := hW; go_simp) zH0 ?_
              simp only [Act.put, List.setIfInBounds_toArray, List.set_cons_zero, List.set_cons_succ]
              refine hr_take_w 9 (some 136) (.pointer (some ⟨e.b, 3, none⟩)) rfl rfl (by kernel_rfl) (by kernel_rfl) (by kernel_rfl) rfl (fun W hW => by obtain ⟨h0, h1, h2, h3⟩ := hW; go_simp) zH0 ?_
              simp only [Act.put, List.setIfInBounds_toArray, List.set_cons_zero, List.set_cons_succ]
              refine hr_take_w 10 (some 137) (.slice (some ⟨hb, ho, none⟩) cn e.cc) rfl rfl (by kernel_rfl) (by kernel_rfl) (by kernel_rfl) rfl (fun W hW => by obtain ⟨h0, h1, h2, h3⟩ := hW; go_simp) zH0 ?_
              simp only [Act.put, List.setIfInBounds_toArray, List.set_cons_zero, List.set_cons_succ]
              refine hr_take_w 11 (some 138) (.int .i64 kk) rfl rfl (by kernel_rfl) (by kernel_rfl) (by kernel_rfl) rfl (fun W hW => by obtain ⟨h0, h1, h2, h3⟩ := hW; go_simp) zH0 ?_
              simp only [Act.put, List.setIfInBounds_toArray, List.set_cons_zero, List.set_cons_succ]
              refine hr_take_w 12 (some 139) (.pointer (some ⟨hb, ho + kk, none⟩)) rfl rfl (by kernel_rfl) (by kernel_rfl) (by kernel_rfl) rfl (fun W hW => by obtain ⟨h0, h1, h2, h3⟩ := hW; go_simp) zH0 ?_
              simp only [Act.put, List.setIfInBounds_toArray, List.set_cons_zero, List.set_cons_succ]
              refine hr_take_w 13 (some 140) (.pointer pb) rfl rfl (by kernel_rfl) (by kernel_rfl) (by kernel_rfl) rfl (fun W hW => by obtain ⟨h0, h1, h2, h3⟩ := hW; go_simp) zH0 ?_
              simp only [Act.put, List.setIfInBounds_toArray, List.set_cons_zero, List.set_cons_succ]
              refine hr_call_w 14 (some 141) 18 #[.pointer pa, .pointer pb] rfl rfl (by kernel_rfl) rfl (by go_simp) (fun v w' => v = .bool true ∧ Below zv0.heap.size zv0 w') ((HIH.out s.length (by omega) zv0 (.pointer pa) (.pointer pb) s (HTA.out.below zE0) (HTB.out.below zE0) (by omega) (Nat.le_refl _)).mono (by
                rintro e w' ⟨rfl, C⟩
                exact ⟨_, rfl, rfl, C⟩)) ?_
              rintro v zv1 ⟨rfl, zC0⟩
              have zE1 := zE0.trans (zC0.mono zE0.size)
              have zH1 := zHS.out zv1 zE1
              refine ⟨zH1, ?_⟩
              simp only [Act.put, List.setIfInBounds_toArray, List.set_cons_zero, List.set_cons_succ]
              refine hr_take_w 15 (some 142) (.bool false) rfl rfl (by kernel_rfl) (by kernel_rfl) (by kernel_rfl) rfl (fun W hW => by obtain ⟨h0, h1, h2, h3⟩ := hW; go_simp) zH1 ?_
              simp only [Act.put, List.setIfInBounds_toArray, List.set_cons_zero, List.set_cons_succ]
              refine wpAnyH_done (by kernel_rfl) ?_ _
              refine NoPanic.normal ?_
              clear zHS zH0 zH1 zC0 x0 x1 x2 x3
              go_wp2
              go_roundw
              case rel => exact ⟨kk + 1, by omega, by go_num, BW3.trans (zE1.mono BW3.size)⟩
              case measure => simp [intOf]; omega
            · have hge : ¬ (kk : Int) < (cn : Int) := by omega
              go_wp2
              clear x0 x1
              go_ret
              exact ⟨rfl, BW3⟩
end Go.Proofs.YtnicnfjickknjaaDoor

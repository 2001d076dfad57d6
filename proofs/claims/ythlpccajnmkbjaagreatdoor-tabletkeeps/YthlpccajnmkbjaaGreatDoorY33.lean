/-
  tree.without: a tree without a key that it has.
-/
import Derived.Test.YthlpccajnmkbjaaGreatDoorY25
import Derived.Test.YthlpccajnmkbjaaGreatDoorY32
import Derived.Test.YthlpccajnmkbjaaGreatDoorY27
namespace Go.Proofs.YthlpccajnmkbjaaGreatDoor
open Go.RowKit

set_option maxHeartbeats 4000000 in
set_option maxRecDepth 100000 in
theorem without_node (w : World) (key : List Int) (xo : Option Addr) (xn xc : Nat) (hx : Sl w xo xn xc key) (l : List It) (d : Nd) (segs : List (List It)) (xs : List It) (h : Nod w l d segs xs) (hs : Srt l) (hk : has key l) (hn : l.length ≤ 100000)
    (ih : ∀ (V : World) (u : Value) (s : List It), s.length < l.length → Below w.heap.size w V → T V u s → Srt s → has key s → Calls Tryz.prog 174 #[u, .slice xo xn xc] V (RetT V (del s key))) :
    Calls Tryz.prog 174 #[d.ptr, .slice xo xn xc] w (RetT w (del l key)) := by
  have hm := h.many
  have hnk1 := Nat.le_of_eq h.nk
  have hnk2 := Nat.le_of_eq h.nk.symm
  have hnv1 := Nat.le_of_eq h.nv
  have hnv2 := Nat.le_of_eq h.nv.symm
  have hnc1 := Nat.le_of_eq h.nc
  have hnc2 := Nat.le_of_eq h.nc.symm
  have hpos := h.shp.pos
  have CP := place_any w d h.ok xo xn xc key hx (h.rise hs) (by omega)
  have hWK : ∀ (i : Nat) (s A B s' : List It) (V : World) (u : Value), Cut lev l d.L segs xs i s A B → Below w.heap.size w V → T V u s' → (∀ y ∈ s', lev y.k < d.L) → Calls Tryz.prog 166 #[d.ptr, .int .i64 i, u] V (RetT V (A ++ (s' ++ B))) := fun i s A B s' V u c hV hu hl => withKid_any V l d segs xs (h.below hV) i s A B s' c u hu hl hn
  unfold Nd.ptr at CP hWK ⊢
  go_enter Tryz.func174, Tryz.ntmps174
  go_wp2_with fail
  refine CP.mono ?_
  rintro e w1 ⟨i, b, rfl, hat, B1⟩
  have N1 := h.below B1
  obtain ⟨s, A, B, c, hA, hB, hB2, hf⟩ := h.found hs hat
  have hle := c.le
  have hw : IntKind.i64.wrap ((i : Int) + 1) = (i : Int) + 1 := by have := wrap_nat (k := i + 1) (by omega); simpa using this
  have hw2 : IntKind.i64.wrap ((i : Int) + 2) = (i : Int) + 2 := by have := wrap_nat (k := i + 2) (by omega); simpa using this
  have hss : Srt s := by
    have h1 := hs
    rw [c.el] at h1
    exact h1.app.2.1.app.1
  obtain ⟨kb, ko, s', u, eco, hs1, hs2, hcell, hTk, hlen⟩ := N1.kidAt i hle
  obtain rfl : s = s' := Option.some.inj (c.seg.symm.trans hs1)
  clear CP hs1 hs2
  cases b with
  | false =>
    have hB3 := hB2 rfl
    have HD : Hid (del l key = A ++ (del s key ++ B)) := by show _ = _; rw [c.el]; exact del_mid hA hB3
    have hks : has key s := by
      obtain ⟨y, hy, he⟩ := hk
      rw [c.el] at hy
      rcases List.mem_append.1 hy with hy | hy
      · exact absurd he (cmpL_lt_ne (hA y hy))
      · rcases List.mem_append.1 hy with hy | hy
        · exact ⟨y, hy, he⟩
        · exact absurd he.symm (cmpL_lt_ne (hB3 y hy))
    have CI := ih w1 u s hlen B1 hTk hss hks
    have c3 := N1.ok.c3
    rw [eco] at c3
    have hii : (i : Int) < (d.cs.length : Int) := by omega
    obtain ⟨q, rfl⟩ := hTk.ptr
    clear ih hf hB2 eco
    go_wp2_with fail
    refine CI.mono ?_
    rintro e w2 ⟨z, rfl, Tz, B2'⟩
    have B2 : Below w.heap.size w w2 := B1.trans (B2'.mono B1.size)
    have CW := hWK i s A B (del s key) w2 z c B2 Tz (del_lev c.ls)
    clear CI hWK c3 hcell
    go_wp2_with fail
    refine CW.mono ?_
    rintro e w3 ⟨y, rfl, Ty, B3'⟩
    have B3 : Below w.heap.size w w3 := B2.trans (B3'.mono B2.size)
    go_wp2
    go_ret
    refine ⟨_, rfl, ?_, B3⟩
    rw [HD.out]
    exact Ty
  | true =>
  obtain ⟨hi, he⟩ := hf rfl
  obtain ⟨t, B', hseg2, ht, hBe, hone, hmany⟩ := c.less hi
  have HD : Hid (del l key = A ++ ((s ++ t) ++ B')) := by
    show _ = _
    rw [del_at (A := A ++ s) (B := t ++ B') (y := xs[i]) hs (by rw [c.el, hBe]; simp) he]
    simp
  obtain ⟨kb2, ko2, t', u2, eco2, ht1, ht2, hcell2, hTk2, hlen2⟩ := N1.kidAt (i + 1) (by omega)
  obtain rfl : t = t' := Option.some.inj (hseg2.symm.trans ht1)
  obtain ⟨rfl, rfl⟩ : kb = kb2 ∧ ko = ko2 := by
    rw [eco] at eco2
    have e2 := Option.some.inj eco2
    injection e2 with e3 e4
    exact ⟨e3, e4⟩
  have hll : s.length + t.length ≤ l.length := by
    have e3 := congrArg List.length c.el
    have e4 := congrArg List.length hBe
    simp only [List.length_append, List.length_cons] at e3 e4
    omega
  have CJ : ∀ V, Below w1.heap.size w1 V → Calls Tryz.prog 184 #[u, u2] V fun e w' => ∃ z, e = .returned (.pointer z) ∧ T w' (.pointer z) (s ++ t) ∧ Below V.heap.size V w' := by
    intro V hV
    refine (join_fuel (s.length + t.length) V u u2 s t (Nat.le_refl _) (hTk.below hV) (hTk2.below hV) (by omega)).mono ?_
    rintro e w' ⟨y, rfl, Ty, hb⟩
    obtain ⟨z, rfl⟩ := Ty.ptr
    exact ⟨z, rfl, Ty, hb⟩
  obtain ⟨q1, rfl⟩ := hTk.ptr
  obtain ⟨q2, rfl⟩ := hTk2.ptr
  have hii : (i : Int) < (d.cs.length : Int) := by omega
  have hii2 : (i : Int) + 1 < (d.cs.length : Int) := by omega
  have hii3 : (0 : Int) ≤ (i : Int) + 1 := by omega
  have HM : Hid (1 < xs.length → ∀ u : List It, u = s ++ t → Shp lev (A ++ (u ++ B')) d.L (segs.take i ++ u :: segs.drop (i + 2)) (xs.take i ++ xs.drop (i + 1))) := hmany
  have HO : Hid (xs.length = 1 → A = [] ∧ B' = []) := hone
  clear ih hWK hf hB2 he hTk hTk2 ht1 ht2 hseg2 hmany hone hBe eco2
  go_wp2_with fail
  have aHS : Hid (∀ V, Below w1.heap.size w1 V → V.cell? ⟨d.b, 3, none⟩ = some (.slice (some ⟨kb, ko, none⟩) d.cs.length d.cc) ∧ V.cell? ⟨kb, ko + i, none⟩ = some (.pointer q1) ∧ V.cell? ⟨kb, ko + (i + 1), none⟩ = some (.pointer q2)) := fun V hV => ⟨by rw [← eco]; exact (N1.ok.below hV).c3, (hV.cell (World.block_lt_of_cell? _ _ hcell)).trans hcell, (hV.cell (World.block_lt_of_cell? _ _ hcell2)).trans hcell2⟩
  have aE0 : Below w1.heap.size w1 w1.drew := (Below.refl _ _).drew
  refine wp_region_noPanic ?_
  refine wp_region_held_drew (S := fun V => V.cell? ⟨d.b, 3, none⟩ = some (.slice (some ⟨kb, ko, none⟩) d.cs.length d.cc) ∧ V.cell? ⟨kb, ko + i, none⟩ = some (.pointer q1) ∧ V.cell? ⟨kb, ko + (i + 1), none⟩ = some (.pointer q2)) (by kernel_rfl) (aHS.out _ aE0) (fun aH0 => ?_)
  obtain ⟨av0, hv0⟩ : ∃ v, v = w1.drew := ⟨_, rfl⟩
  rw [← hv0] at aH0 aE0 ⊢
  clear hv0
  refine hr_take_w 0 (some 28) (.pointer (some ⟨d.b, 0, none⟩)) rfl rfl (by kernel_rfl) (by kernel_rfl) (by kernel_rfl) rfl (fun W hW => by obtain ⟨h0, h1, h2⟩ := hW; go_simp) aH0 ?_
  simp only [Act.put, List.setIfInBounds_toArray, List.set_cons_zero, List.set_cons_succ]
  refine hr_take_w 1 (some 29) (.pointer (some ⟨d.b, 0, none⟩)) rfl rfl (by kernel_rfl) (by kernel_rfl) (by kernel_rfl) rfl (fun W hW => by obtain ⟨h0, h1, h2⟩ := hW; go_simp) aH0 ?_
  simp only [Act.put, List.setIfInBounds_toArray, List.set_cons_zero, List.set_cons_succ]
  refine hr_take_w 2 (some 30) (.pointer (some ⟨d.b, 3, none⟩)) rfl rfl (by kernel_rfl) (by kernel_rfl) (by kernel_rfl) rfl (fun W hW => by obtain ⟨h0, h1, h2⟩ := hW; go_simp) aH0 ?_
  simp only [Act.put, List.setIfInBounds_toArray, List.set_cons_zero, List.set_cons_succ]
  refine hr_take_w 3 (some 31) (.slice (some ⟨kb, ko, none⟩) d.cs.length d.cc) rfl rfl (by kernel_rfl) (by kernel_rfl) (by kernel_rfl) rfl (fun W hW => by obtain ⟨h0, h1, h2⟩ := hW; go_simp) aH0 ?_
  simp only [Act.put, List.setIfInBounds_toArray, List.set_cons_zero, List.set_cons_succ]
  refine hr_take_w 4 (some 32) (.int .i64 i) rfl rfl (by kernel_rfl) (by kernel_rfl) (by kernel_rfl) rfl (fun W hW => by obtain ⟨h0, h1, h2⟩ := hW; go_simp) aH0 ?_
  simp only [Act.put, List.setIfInBounds_toArray, List.set_cons_zero, List.set_cons_succ]
  refine hr_take_w 5 (some 33) (.pointer (some ⟨kb, ko + i, none⟩)) rfl rfl (by kernel_rfl) (by kernel_rfl) (by kernel_rfl) rfl (fun W hW => by obtain ⟨h0, h1, h2⟩ := hW; go_simp) aH0 ?_
  simp only [Act.put, List.setIfInBounds_toArray, List.set_cons_zero, List.set_cons_succ]
  refine hr_take_w 6 (some 34) (.pointer q1) rfl rfl (by kernel_rfl) (by kernel_rfl) (by kernel_rfl) rfl (fun W hW => by obtain ⟨h0, h1, h2⟩ := hW; go_simp) aH0 ?_
  simp only [Act.put, List.setIfInBounds_toArray, List.set_cons_zero, List.set_cons_succ]
  refine hr_take_w 7 (some 35) (.pointer (some ⟨d.b, 0, none⟩)) rfl rfl (by kernel_rfl) (by kernel_rfl) (by kernel_rfl) rfl (fun W hW => by obtain ⟨h0, h1, h2⟩ := hW; go_simp) aH0 ?_
  simp only [Act.put, List.setIfInBounds_toArray, List.set_cons_zero, List.set_cons_succ]
  refine hr_take_w 8 (some 36) (.pointer (some ⟨d.b, 0, none⟩)) rfl rfl (by kernel_rfl) (by kernel_rfl) (by kernel_rfl) rfl (fun W hW => by obtain ⟨h0, h1, h2⟩ := hW; go_simp) aH0 ?_
  simp only [Act.put, List.setIfInBounds_toArray, List.set_cons_zero, List.set_cons_succ]
  refine hr_take_w 9 (some 37) (.pointer (some ⟨d.b, 3, none⟩)) rfl rfl (by kernel_rfl) (by kernel_rfl) (by kernel_rfl) rfl (fun W hW => by obtain ⟨h0, h1, h2⟩ := hW; go_simp) aH0 ?_
  simp only [Act.put, List.setIfInBounds_toArray, List.set_cons_zero, List.set_cons_succ]
  refine hr_take_w 10 (some 38) (.slice (some ⟨kb, ko, none⟩) d.cs.length d.cc) rfl rfl (by kernel_rfl) (by kernel_rfl) (by kernel_rfl) rfl (fun W hW => by obtain ⟨h0, h1, h2⟩ := hW; go_simp) aH0 ?_
  simp only [Act.put, List.setIfInBounds_toArray, List.set_cons_zero, List.set_cons_succ]
  refine hr_take_w 11 (some 39) (.int .i64 i) rfl rfl (by kernel_rfl) (by kernel_rfl) (by kernel_rfl) rfl (fun W hW => by obtain ⟨h0, h1, h2⟩ := hW; go_simp) aH0 ?_
  simp only [Act.put, List.setIfInBounds_toArray, List.set_cons_zero, List.set_cons_succ]
  refine hr_take_w 12 (some 40) (.int .i64 ((i + 1 : Nat) : Int)) rfl rfl (by kernel_rfl) (by kernel_rfl) (by kernel_rfl) rfl (fun W hW => by obtain ⟨h0, h1, h2⟩ := hW; go_simp) aH0 ?_
  simp only [Act.put, List.setIfInBounds_toArray, List.set_cons_zero, List.set_cons_succ]
  refine hr_take_w 13 (some 41) (.pointer (some ⟨kb, ko + (i + 1), none⟩)) rfl rfl (by kernel_rfl) (by kernel_rfl) (by kernel_rfl) rfl (fun W hW => by obtain ⟨h0, h1, h2⟩ := hW; go_simp) aH0 ?_
  simp only [Act.put, List.setIfInBounds_toArray, List.set_cons_zero, List.set_cons_succ]
  refine hr_take_w 14 (some 42) (.pointer q2) rfl rfl (by kernel_rfl) (by kernel_rfl) (by kernel_rfl) rfl (fun W hW => by obtain ⟨h0, h1, h2⟩ := hW; go_simp) aH0 ?_
  simp only [Act.put, List.setIfInBounds_toArray, List.set_cons_zero, List.set_cons_succ]
  refine hr_call_w 15 (some 43) 184 #[.pointer q1, .pointer q2] rfl rfl (by kernel_rfl) rfl (by go_simp) (fun v w' => ∃ z, v = .pointer z ∧ T w' (.pointer z) (s ++ t) ∧ Below av0.heap.size av0 w') ((CJ _ aE0).mono (by
    rintro e w' ⟨z, rfl, F, C⟩
    exact ⟨_, rfl, z, rfl, F, C⟩)) ?_
  rintro v av1 ⟨z, rfl, aF0, aC0⟩
  have aE1 := aE0.trans (aC0.mono aE0.size)
  have aH1 := aHS.out av1 aE1
  refine ⟨aH1, ?_⟩
  simp only [Act.put, List.setIfInBounds_toArray, List.set_cons_zero, List.set_cons_succ]
  refine hr_take_w 16 (some 7) (.pointer z) rfl rfl (by kernel_rfl) (by kernel_rfl) (by kernel_rfl) rfl (fun W hW => by obtain ⟨h0, h1, h2⟩ := hW; go_simp) aH1 ?_
  simp only [Act.put, List.setIfInBounds_toArray, List.set_cons_zero, List.set_cons_succ]
  refine wpAnyH_done (by kernel_rfl) ?_ _
  refine NoPanic.normal ?_
  have Ba : Below w.heap.size w av1 := B1.trans (aE1.mono B1.size)
  have Na := h.below Ba
  have c1 := Na.ok.c1
  by_cases h1 : d.ks.length = 1
  · have h1' : ((d.ks.length : Int) == 1) = true := by simp; omega
    have hx1 : xs.length = 1 := by omega
    have HX : Hid (A = [] ∧ B' = []) := HO.out hx1
    clear h1 hx1
    go_wp2
    go_ret
    refine ⟨_, rfl, ?_, Ba⟩
    rw [HD.out, HX.out.1, HX.out.2, List.nil_append, List.append_nil]
    exact aF0
  have h1' : ((d.ks.length : Int) == 1) = false := by simp; omega
  have HS := HM.out (by omega) _ rfl
  have TF : ∀ (V : World), Below av1.heap.size av1 V → ∀ (gn : Nat) (k1 : Option Addr) (k2 : Nat) (v1 : Option Addr) (v2 : Nat) (n1 : Option Addr) (n2 : Nat), V.heap[gn]? = some (.cells #[.int .i64 d.L, .slice k1 (i + 0 + (d.ks.length - (i + 1))) k2, .slice v1 (i + 0 + (d.vs.length - (i + 1))) v2, .slice n1 (i + 1 + (d.cs.length - (i + 2))) n2] 151) →
      VL V k1 (i + 0 + (d.ks.length - (i + 1))) k2 ((d.ks.map Part.val).take i ++ [] ++ (d.ks.map Part.val).drop (i + 1)) → VL V v1 (i + 0 + (d.vs.length - (i + 1))) v2 ((d.vs.map Part.val).take i ++ [] ++ (d.vs.map Part.val).drop (i + 1)) → VL V n1 (i + 1 + (d.cs.length - (i + 2))) n2 (d.cs.take i ++ [.pointer z] ++ d.cs.drop (i + 2)) → T V (.pointer (some ⟨gn, 0, none⟩)) (del l key) := by
    intro V hV gn k1 k2 v1 v2 n1 n2 hgn h1 h2 h3
    have Bv := Ba.trans (hV.mono Ba.size)
    have Nv := h.below Bv
    have kd := (Nv.kids.take i).app (Kids.cons (aF0.below hV) (Nv.kids.drop (i + 2)))
    rw [HD.out]
    refine T.make hgn (KL.of (ps := d.ks.take i ++ d.ks.drop (i + 1)) h1 (by simp [List.map_take, List.map_drop]) ?_) (KL.of (ps := d.vs.take i ++ d.vs.drop (i + 1)) h2 (by simp [List.map_take, List.map_drop]) ?_) h3 HS ?_ ?_ ?_
    · intro q hq
      rcases List.mem_append.1 hq with hq | hq
      · exact Nv.ok.kl.sl q (List.mem_of_mem_take hq)
      · exact Nv.ok.kl.sl q (List.mem_of_mem_drop hq)
    · intro q hq
      rcases List.mem_append.1 hq with hq | hq
      · exact Nv.ok.vl.sl q (List.mem_of_mem_take hq)
      · exact Nv.ok.vl.sl q (List.mem_of_mem_drop hq)
    · simp [List.map_take, List.map_drop, Nv.ek]
    · simp [List.map_take, List.map_drop, Nv.ev]
    · simpa using kd
  clear aF0 HD HM HO HS h1
  go_wp2_with fail
  have eHS : Hid (∀ V, Below av1.heap.size av1 V → V.cell? ⟨d.b, 0, none⟩ = some (.int .i64 d.L) ∧ V.cell? ⟨d.b, 1, none⟩ = some (.slice d.ko d.ks.length d.kc) ∧ V.cell? ⟨d.b, 2, none⟩ = some (.slice d.vo d.vs.length d.vc) ∧ V.cell? ⟨d.b, 3, none⟩ = some (.slice d.co d.cs.length d.cc)) := fun V hV => ⟨(Na.ok.below hV).c0, (Na.ok.below hV).c1, (Na.ok.below hV).c2, (Na.ok.below hV).c3⟩
  have eE0 : Below av1.heap.size av1 av1.drew := (Below.refl _ _).drew
  refine wp_region_noPanic ?_
  refine wp_region_held_drew (S := fun V => V.cell? ⟨d.b, 0, none⟩ = some (.int .i64 d.L) ∧ V.cell? ⟨d.b, 1, none⟩ = some (.slice d.ko d.ks.length d.kc) ∧ V.cell? ⟨d.b, 2, none⟩ = some (.slice d.vo d.vs.length d.vc) ∧ V.cell? ⟨d.b, 3, none⟩ = some (.slice d.co d.cs.length d.cc)) (by kernel_rfl) (eHS.out _ eE0) (fun eH0 => ?_)
  obtain ⟨ev0, hv0⟩ : ∃ v, v = av1.drew := ⟨_, rfl⟩
  rw [← hv0] at eH0 eE0 ⊢
  clear hv0
  refine hr_take_w 0 (some 51) (.pointer (some ⟨d.b, 0, none⟩)) rfl rfl (by kernel_rfl) (by kernel_rfl) (by kernel_rfl) rfl (fun W hW => by obtain ⟨h0, h1, h2, h3⟩ := hW; go_simp) eH0 ?_
  simp only [Act.put, List.setIfInBounds_toArray, List.set_cons_zero, List.set_cons_succ]
  refine hr_take_w 1 (some 52) (.pointer (some ⟨d.b, 0, none⟩)) rfl rfl (by kernel_rfl) (by kernel_rfl) (by kernel_rfl) rfl (fun W hW => by obtain ⟨h0, h1, h2, h3⟩ := hW; go_simp) eH0 ?_
  simp only [Act.put, List.setIfInBounds_toArray, List.set_cons_zero, List.set_cons_succ]
  refine hr_take_w 2 (some 53) (.pointer (some ⟨d.b, 0, none⟩)) rfl rfl (by kernel_rfl) (by kernel_rfl) (by kernel_rfl) rfl (fun W hW => by obtain ⟨h0, h1, h2, h3⟩ := hW; go_simp) eH0 ?_
  simp only [Act.put, List.setIfInBounds_toArray, List.set_cons_zero, List.set_cons_succ]
  refine hr_take_w 3 (some 54) (.int .i64 d.L) rfl rfl (by kernel_rfl) (by kernel_rfl) (by kernel_rfl) rfl (fun W hW => by obtain ⟨h0, h1, h2, h3⟩ := hW; go_simp) eH0 ?_
  simp only [Act.put, List.setIfInBounds_toArray, List.set_cons_zero, List.set_cons_succ]
  refine hr_take_w 4 (some 55) (.pointer (some ⟨d.b, 0, none⟩)) rfl rfl (by kernel_rfl) (by kernel_rfl) (by kernel_rfl) rfl (fun W hW => by obtain ⟨h0, h1, h2, h3⟩ := hW; go_simp) eH0 ?_
  simp only [Act.put, List.setIfInBounds_toArray, List.set_cons_zero, List.set_cons_succ]
  refine hr_take_w 5 (some 56) (.pointer (some ⟨d.b, 0, none⟩)) rfl rfl (by kernel_rfl) (by kernel_rfl) (by kernel_rfl) rfl (fun W hW => by obtain ⟨h0, h1, h2, h3⟩ := hW; go_simp) eH0 ?_
  simp only [Act.put, List.setIfInBounds_toArray, List.set_cons_zero, List.set_cons_succ]
  refine hr_take_w 6 (some 57) (.pointer (some ⟨d.b, 1, none⟩)) rfl rfl (by kernel_rfl) (by kernel_rfl) (by kernel_rfl) rfl (fun W hW => by obtain ⟨h0, h1, h2, h3⟩ := hW; go_simp) eH0 ?_
  simp only [Act.put, List.setIfInBounds_toArray, List.set_cons_zero, List.set_cons_succ]
  refine hr_take_w 7 (some 58) (.slice d.ko d.ks.length d.kc) rfl rfl (by kernel_rfl) (by kernel_rfl) (by kernel_rfl) rfl (fun W hW => by obtain ⟨h0, h1, h2, h3⟩ := hW; go_simp) eH0 ?_
  simp only [Act.put, List.setIfInBounds_toArray, List.set_cons_zero, List.set_cons_succ]
  refine hr_take_w 8 (some 59) (.int .i64 i) rfl rfl (by kernel_rfl) (by kernel_rfl) (by kernel_rfl) rfl (fun W hW => by obtain ⟨h0, h1, h2, h3⟩ := hW; go_simp) eH0 ?_
  simp only [Act.put, List.setIfInBounds_toArray, List.set_cons_zero, List.set_cons_succ]
  refine hr_take_w 9 (some 60) (.int .i64 i) rfl rfl (by kernel_rfl) (by kernel_rfl) (by kernel_rfl) rfl (fun W hW => by obtain ⟨h0, h1, h2, h3⟩ := hW; go_simp) eH0 ?_
  simp only [Act.put, List.setIfInBounds_toArray, List.set_cons_zero, List.set_cons_succ]
  refine hr_take_w 10 (some 61) (.int .i64 ((i + 1 : Nat) : Int)) rfl rfl (by kernel_rfl) (by kernel_rfl) (by kernel_rfl) rfl (fun W hW => by obtain ⟨h0, h1, h2, h3⟩ := hW; go_simp) eH0 ?_
  simp only [Act.put, List.setIfInBounds_toArray, List.set_cons_zero, List.set_cons_succ]
  refine hr_take_w 12 (some 63) (.pointer (some ⟨d.b, 0, none⟩)) rfl rfl (by kernel_rfl) (by kernel_rfl) (by kernel_rfl) rfl (fun W hW => by obtain ⟨h0, h1, h2, h3⟩ := hW; go_simp) eH0 ?_
  simp only [Act.put, List.setIfInBounds_toArray, List.set_cons_zero, List.set_cons_succ]
  refine hr_take_w 13 (some 64) (.pointer (some ⟨d.b, 0, none⟩)) rfl rfl (by kernel_rfl) (by kernel_rfl) (by kernel_rfl) rfl (fun W hW => by obtain ⟨h0, h1, h2, h3⟩ := hW; go_simp) eH0 ?_
  simp only [Act.put, List.setIfInBounds_toArray, List.set_cons_zero, List.set_cons_succ]
  refine hr_take_w 14 (some 65) (.pointer (some ⟨d.b, 2, none⟩)) rfl rfl (by kernel_rfl) (by kernel_rfl) (by kernel_rfl) rfl (fun W hW => by obtain ⟨h0, h1, h2, h3⟩ := hW; go_simp) eH0 ?_
  simp only [Act.put, List.setIfInBounds_toArray, List.set_cons_zero, List.set_cons_succ]
  refine hr_take_w 15 (some 66) (.slice d.vo d.vs.length d.vc) rfl rfl (by kernel_rfl) (by kernel_rfl) (by kernel_rfl) rfl (fun W hW => by obtain ⟨h0, h1, h2, h3⟩ := hW; go_simp) eH0 ?_
  simp only [Act.put, List.setIfInBounds_toArray, List.set_cons_zero, List.set_cons_succ]
  refine hr_take_w 16 (some 67) (.int .i64 i) rfl rfl (by kernel_rfl) (by kernel_rfl) (by kernel_rfl) rfl (fun W hW => by obtain ⟨h0, h1, h2, h3⟩ := hW; go_simp) eH0 ?_
  simp only [Act.put, List.setIfInBounds_toArray, List.set_cons_zero, List.set_cons_succ]
  refine hr_take_w 17 (some 68) (.int .i64 i) rfl rfl (by kernel_rfl) (by kernel_rfl) (by kernel_rfl) rfl (fun W hW => by obtain ⟨h0, h1, h2, h3⟩ := hW; go_simp) eH0 ?_
  simp only [Act.put, List.setIfInBounds_toArray, List.set_cons_zero, List.set_cons_succ]
  refine hr_take_w 18 (some 69) (.int .i64 ((i + 1 : Nat) : Int)) rfl rfl (by kernel_rfl) (by kernel_rfl) (by kernel_rfl) rfl (fun W hW => by obtain ⟨h0, h1, h2, h3⟩ := hW; go_simp) eH0 ?_
  simp only [Act.put, List.setIfInBounds_toArray, List.set_cons_zero, List.set_cons_succ]
  refine hr_take_w 20 (some 71) (.pointer (some ⟨d.b, 0, none⟩)) rfl rfl (by kernel_rfl) (by kernel_rfl) (by kernel_rfl) rfl (fun W hW => by obtain ⟨h0, h1, h2, h3⟩ := hW; go_simp) eH0 ?_
  simp only [Act.put, List.setIfInBounds_toArray, List.set_cons_zero, List.set_cons_succ]
  refine hr_take_w 21 (some 72) (.pointer (some ⟨d.b, 0, none⟩)) rfl rfl (by kernel_rfl) (by kernel_rfl) (by kernel_rfl) rfl (fun W hW => by obtain ⟨h0, h1, h2, h3⟩ := hW; go_simp) eH0 ?_
  simp only [Act.put, List.setIfInBounds_toArray, List.set_cons_zero, List.set_cons_succ]
  refine hr_take_w 22 (some 73) (.pointer (some ⟨d.b, 3, none⟩)) rfl rfl (by kernel_rfl) (by kernel_rfl) (by kernel_rfl) rfl (fun W hW => by obtain ⟨h0, h1, h2, h3⟩ := hW; go_simp) eH0 ?_
  simp only [Act.put, List.setIfInBounds_toArray, List.set_cons_zero, List.set_cons_succ]
  refine hr_take_w 23 (some 74) (.slice d.co d.cs.length d.cc) rfl rfl (by kernel_rfl) (by kernel_rfl) (by kernel_rfl) rfl (fun W hW => by obtain ⟨h0, h1, h2, h3⟩ := hW; go_simp) eH0 ?_
  simp only [Act.put, List.setIfInBounds_toArray, List.set_cons_zero, List.set_cons_succ]
  refine hr_take_w 24 (some 75) (.int .i64 i) rfl rfl (by kernel_rfl) (by kernel_rfl) (by kernel_rfl) rfl (fun W hW => by obtain ⟨h0, h1, h2, h3⟩ := hW; go_simp) eH0 ?_
  simp only [Act.put, List.setIfInBounds_toArray, List.set_cons_zero, List.set_cons_succ]
  refine hr_take_w 25 (some 76) (.int .i64 i) rfl rfl (by kernel_rfl) (by kernel_rfl) (by kernel_rfl) rfl (fun W hW => by obtain ⟨h0, h1, h2, h3⟩ := hW; go_simp) eH0 ?_
  simp only [Act.put, List.setIfInBounds_toArray, List.set_cons_zero, List.set_cons_succ]
  refine hr_take_w 26 (some 77) (.int .i64 ((i + 2 : Nat) : Int)) rfl rfl (by kernel_rfl) (by kernel_rfl) (by kernel_rfl) rfl (fun W hW => by obtain ⟨h0, h1, h2, h3⟩ := hW; go_simp) eH0 ?_
  simp only [Act.put, List.setIfInBounds_toArray, List.set_cons_zero, List.set_cons_succ]
  refine hr_take_w 27 (some 78) (.pointer z) rfl rfl (by kernel_rfl) (by kernel_rfl) (by kernel_rfl) rfl (fun W hW => by obtain ⟨h0, h1, h2, h3⟩ := hW; go_simp) eH0 ?_
  simp only [Act.put, List.setIfInBounds_toArray, List.set_cons_zero, List.set_cons_succ]
  refine wpAnyH_effs (fun zi zv zw => (zi = 11 → ∃ ro rc, zv = .slice ro (i + 0 + (d.ks.length - (i + 1))) rc ∧ VL zw ro (i + 0 + (d.ks.length - (i + 1))) rc ((d.ks.map Part.val).take i ++ [] ++ (d.ks.map Part.val).drop (i + 1))) ∧ (zi = 19 → ∃ ro rc, zv = .slice ro (i + 0 + (d.vs.length - (i + 1))) rc ∧ VL zw ro (i + 0 + (d.vs.length - (i + 1))) rc ((d.vs.map Part.val).take i ++ [] ++ (d.vs.map Part.val).drop (i + 1))) ∧ (zi = 28 → ∃ g, zv = .slice (some ⟨g, 0, none⟩) 1 1 ∧ VL zw (some ⟨g, 0, none⟩) 1 1 [.pointer z]) ∧ (zi = 29 → ∃ ro rc, zv = .slice ro (i + 1 + (d.cs.length - (i + 2))) rc ∧ VL zw ro (i + 1 + (d.cs.length - (i + 2))) rc (d.cs.take i ++ [.pointer z] ++ d.cs.drop (i + 2))) ∧ (zi = 30 → ∃ k1 k2 v1 v2 n1 n2, zv = .agg #[.int .i64 d.L, .slice k1 (i + 0 + (d.ks.length - (i + 1))) k2, .slice v1 (i + 0 + (d.vs.length - (i + 1))) v2, .slice n1 (i + 1 + (d.cs.length - (i + 2))) n2] ∧ VL zw k1 (i + 0 + (d.ks.length - (i + 1))) k2 ((d.ks.map Part.val).take i ++ [] ++ (d.ks.map Part.val).drop (i + 1)) ∧ VL zw v1 (i + 0 + (d.vs.length - (i + 1))) v2 ((d.vs.map Part.val).take i ++ [] ++ (d.vs.map Part.val).drop (i + 1)) ∧ VL zw n1 (i + 1 + (d.cs.length - (i + 2))) n2 (d.cs.take i ++ [.pointer z] ++ d.cs.drop (i + 2))) ∧ (zi = 31 → T zw zv (del l key)) ∧ (zi = 32 → T zw zv (del l key))) [11, 19, 28, 29, 30, 31, 32] 83 (by kernel_rfl) (by kernel_rfl) (Nat.le_of_eq (by kernel_rfl)) rfl rfl ?_ (fun W hW => eHS.out W (eE0.trans (hW.mono eE0.size))) ?_ ?_
  · intro zi v w w' h hb
    refine ⟨fun e => ?_, fun e => ?_, fun e => ?_, fun e => ?_, fun e => ?_, fun e => ?_, fun e => ?_⟩
    · have h := h.1 e
      obtain ⟨ro, rc, h1, h2⟩ := h
      exact ⟨ro, rc, h1, h2.below hb⟩
    · have h := h.2.1 e
      obtain ⟨ro, rc, h1, h2⟩ := h
      exact ⟨ro, rc, h1, h2.below hb⟩
    · have h := h.2.2.1 e
      obtain ⟨g, h1, h2⟩ := h
      exact ⟨g, h1, h2.below hb⟩
    · have h := h.2.2.2.1 e
      obtain ⟨ro, rc, h1, h2⟩ := h
      exact ⟨ro, rc, h1, h2.below hb⟩
    · have h := h.2.2.2.2.1 e
      obtain ⟨k1, k2, v1, v2, n1, n2, h1, h2, h3, h4⟩ := h
      exact ⟨k1, k2, v1, v2, n1, n2, h1, h2.below hb, h3.below hb, h4.below hb⟩
    · have h := h.2.2.2.2.2.1 e
      exact h.below hb
    · have h := h.2.2.2.2.2.2 e
      exact h.below hb
  · intro zi zhi o a w ho hs hb hdep
    simp only [List.mem_cons, List.not_mem_nil, or_false] at zhi
    rcases zhi with rfl | rfl | rfl | rfl | rfl | rfl | rfl
    · obtain rfl : _ = o := Option.some.inj (show some _ = some o from ho)
      have t58 : a.tmps[58]? = some (.slice d.ko d.ks.length d.kc) := hs.get 58 (by kernel_rfl) rfl
      have t59 : a.tmps[59]? = some (.int .i64 i) := hs.get 59 (by kernel_rfl) rfl
      have t61 : a.tmps[61]? = some (.int .i64 ((i + 1 : Nat) : Int)) := hs.get 61 (by kernel_rfl) rfl
      have E1 := eE0.trans (hb.mono eE0.size)
      refine .inr ⟨167, #[.slice d.ko d.ks.length d.kc, .int .i64 i, .int .i64 ((i + 1 : Nat) : Int), .slice none 0 0], by go_simp, (chgK_any w d.ko none d.ks.length d.kc 0 0 i (i + 1) (d.ks.map Part.val) [] (Na.ok.kl.vl.below E1) (VL.nothing w) (part_one _) (by simp) (by omega) (by omega) (by omega)).mono ?_⟩
      rintro e w' ⟨ro, rc, rfl, h1, h2⟩
      exact ⟨_, rfl, ⟨fun _ => ⟨ro, rc, rfl, h1⟩, fun e => absurd e (by decide), fun e => absurd e (by decide), fun e => absurd e (by decide), fun e => absurd e (by decide), fun e => absurd e (by decide), fun e => absurd e (by decide)⟩, h2⟩
    · obtain rfl : _ = o := Option.some.inj (show some _ = some o from ho)
      have t66 : a.tmps[66]? = some (.slice d.vo d.vs.length d.vc) := hs.get 66 (by kernel_rfl) rfl
      have t67 : a.tmps[67]? = some (.int .i64 i) := hs.get 67 (by kernel_rfl) rfl
      have t69 : a.tmps[69]? = some (.int .i64 ((i + 1 : Nat) : Int)) := hs.get 69 (by kernel_rfl) rfl
      have E1 := eE0.trans (hb.mono eE0.size)
      refine .inr ⟨167, #[.slice d.vo d.vs.length d.vc, .int .i64 i, .int .i64 ((i + 1 : Nat) : Int), .slice none 0 0], by go_simp, (chgK_any w d.vo none d.vs.length d.vc 0 0 i (i + 1) (d.vs.map Part.val) [] (Na.ok.vl.vl.below E1) (VL.nothing w) (part_one _) (by simp) (by omega) (by omega) (by omega)).mono ?_⟩
      rintro e w' ⟨ro, rc, rfl, h1, h2⟩
      exact ⟨_, rfl, ⟨fun e => absurd e (by decide), fun _ => ⟨ro, rc, rfl, h1⟩, fun e => absurd e (by decide), fun e => absurd e (by decide), fun e => absurd e (by decide), fun e => absurd e (by decide), fun e => absurd e (by decide)⟩, h2⟩
    · obtain rfl : _ = o := Option.some.inj (show some _ = some o from ho)
      have t78 : a.tmps[78]? = some (.pointer z) := hs.get 78 (by kernel_rfl) rfl
      exact .inl ⟨_, _, by go_simp, ⟨fun e => absurd e (by decide), fun e => absurd e (by decide), fun _ => ⟨_, rfl, VL.new w [.pointer z] 92 (by simp [maxLen])⟩, fun e => absurd e (by decide), fun e => absurd e (by decide), fun e => absurd e (by decide), fun e => absurd e (by decide)⟩, (Below.refl _ _).alloc (Nat.le_refl _) _⟩
    · obtain rfl : _ = o := Option.some.inj (show some _ = some o from ho)
      have t74 : a.tmps[74]? = some (.slice d.co d.cs.length d.cc) := hs.get 74 (by kernel_rfl) rfl
      have t75 : a.tmps[75]? = some (.int .i64 i) := hs.get 75 (by kernel_rfl) rfl
      have t77 : a.tmps[77]? = some (.int .i64 ((i + 2 : Nat) : Int)) := hs.get 77 (by kernel_rfl) rfl
      obtain ⟨x79, t79, f79⟩ := (hdep 28 (by kernel_rfl) (by kernel_rfl)).at 79 (by kernel_rfl)
      replace f79 := f79.2.2.1 rfl
      obtain ⟨g1, rfl, G1⟩ := f79
      have E1 := eE0.trans (hb.mono eE0.size)
      refine .inr ⟨168, #[.slice d.co d.cs.length d.cc, .int .i64 i, .int .i64 ((i + 2 : Nat) : Int), .slice (some ⟨g1, 0, none⟩) 1 1], by go_simp, (chgN_any w d.co (some ⟨g1, 0, none⟩) d.cs.length d.cc 1 1 i (i + 2) d.cs [.pointer z] (Na.ok.cl.below E1) G1 Na.one (by intro y hy; rw [List.mem_singleton.1 hy]; rfl) (by omega) (by omega) (by omega)).mono ?_⟩
      rintro e w' ⟨ro, rc, rfl, h1, h2⟩
      exact ⟨_, rfl, ⟨fun e => absurd e (by decide), fun e => absurd e (by decide), fun e => absurd e (by decide), fun _ => ⟨ro, rc, rfl, h1⟩, fun e => absurd e (by decide), fun e => absurd e (by decide), fun e => absurd e (by decide)⟩, h2⟩
    · obtain rfl : _ = o := Option.some.inj (show some _ = some o from ho)
      have t54 : a.tmps[54]? = some (.int .i64 d.L) := hs.get 54 (by kernel_rfl) rfl
      obtain ⟨x62, t62, f62⟩ := (hdep 11 (by kernel_rfl) (by kernel_rfl)).at 62 (by kernel_rfl)
      replace f62 := f62.1 rfl
      obtain ⟨x70, t70, f70⟩ := (hdep 19 (by kernel_rfl) (by kernel_rfl)).at 70 (by kernel_rfl)
      replace f70 := f70.2.1 rfl
      obtain ⟨x80, t80, f80⟩ := (hdep 29 (by kernel_rfl) (by kernel_rfl)).at 80 (by kernel_rfl)
      replace f80 := f80.2.2.2.1 rfl
      obtain ⟨k1, k2, rfl, h1⟩ := f62
      obtain ⟨v1, v2, rfl, h2⟩ := f70
      obtain ⟨n1, n2, rfl, h3⟩ := f80
      exact .inl ⟨.agg #[.int .i64 d.L, .slice k1 (i + 0 + (d.ks.length - (i + 1))) k2, .slice v1 (i + 0 + (d.vs.length - (i + 1))) v2, .slice n1 (i + 1 + (d.cs.length - (i + 2))) n2], w, by go_simp, ⟨fun e => absurd e (by decide), fun e => absurd e (by decide), fun e => absurd e (by decide), fun e => absurd e (by decide), fun _ => ⟨k1, k2, v1, v2, n1, n2, rfl, h1, h2, h3⟩, fun e => absurd e (by decide), fun e => absurd e (by decide)⟩, Below.refl _ _⟩
    · obtain rfl : _ = o := Option.some.inj (show some _ = some o from ho)
      obtain ⟨x81, t81, f81⟩ := (hdep 30 (by kernel_rfl) (by kernel_rfl)).at 81 (by kernel_rfl)
      replace f81 := f81.2.2.2.2.1 rfl
      obtain ⟨k1, k2, v1, v2, n1, n2, rfl, h1, h2, h3⟩ := f81
      have E1 := eE0.trans (hb.mono eE0.size)
      have hA2 : Below w.heap.size w (w.alloc (.cells #[.int .i64 d.L, .slice k1 (i + 0 + (d.ks.length - (i + 1))) k2, .slice v1 (i + 0 + (d.vs.length - (i + 1))) v2, .slice n1 (i + 1 + (d.cs.length - (i + 2))) n2] 151)) := (Below.refl _ _).alloc (Nat.le_refl _) _
      refine .inl ⟨_, _, by go_simp, ⟨fun e => absurd e (by decide), fun e => absurd e (by decide), fun e => absurd e (by decide), fun e => absurd e (by decide), fun e => absurd e (by decide), fun _ => TF _ (E1.trans (hA2.mono E1.size)) _ _ _ _ _ _ _ (heap_alloc_new w _) (h1.below hA2) (h2.below hA2) (h3.below hA2), fun e => absurd e (by decide)⟩, hA2⟩
    · obtain rfl : _ = o := Option.some.inj (show some _ = some o from ho)
      obtain ⟨x82, t82, f82⟩ := (hdep 31 (by kernel_rfl) (by kernel_rfl)).at 82 (by kernel_rfl)
      replace f82 := f82.2.2.2.2.2.1 rfl
      exact .inl ⟨x82, w, by go_simp, ⟨fun e => absurd e (by decide), fun e => absurd e (by decide), fun e => absurd e (by decide), fun e => absurd e (by decide), fun e => absurd e (by decide), fun e => absurd e (by decide), fun _ => f82⟩, Below.refl _ _⟩
  · intro za zw hs hb hh
    obtain ⟨x4, t4, f4⟩ := (hh 32 (by simp)).at 4 (by kernel_rfl); replace f4 := f4.2.2.2.2.2.2 rfl
    have E1 := Ba.trans ((eE0.trans (hb.mono eE0.size)).mono Ba.size)
    have hde : za.defers = [] := hs.defers
    go_wp2
    refine bodyPost_ret (v := x4) (by rw [results_tmp rfl]; simp [t4]) hde ?_
    exact ⟨_, rfl, f4, E1⟩
theorem without_fuel : ∀ (N : Nat) (l : List It) (w : World) (v : Value) (key : List Int) (xo : Option Addr) (xn xc : Nat), l.length ≤ N → Sl w xo xn xc key → T w v l → Srt l → has key l → l.length ≤ 100000 →
    Calls Tryz.prog 174 #[v, .slice xo xn xc] w (RetT w (del l key)) := by
  intro N
  induction N with
  | zero =>
    intro l w v key xo xn xc hN hx hT hs hk hn
    obtain rfl : l = [] := List.eq_nil_of_length_eq_zero (by omega)
    obtain ⟨y, hy, -⟩ := hk
    simp at hy
  | succ N ih =>
    intro l w v key xo xn xc hN hx hT hs hk hn
    rcases hT.is with ⟨rfl, rfl⟩ | ⟨d, segs, xs, rfl, h⟩
    · obtain ⟨y, hy, -⟩ := hk
      simp at hy
    · exact without_node w key xo xn xc hx l d segs xs h hs hk hn (fun V u s hlt hV hu hss hks => ih s V u key xo xn xc (by omega) (hx.below hV) hu hss hks (by omega))
end Go.Proofs.YthlpccajnmkbjaaGreatDoor

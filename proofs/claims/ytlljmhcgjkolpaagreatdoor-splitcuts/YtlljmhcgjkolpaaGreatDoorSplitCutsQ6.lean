/-
  Texts in one: PItem.
-/
import Derived.Test.YtlljmhcgjkolpaaGreatDoorSplitCutsQFL
import Derived.Test.YtlljmhcgjkolpaaGreatDoorSplitCutsQ5
namespace Go.Proofs.YtlljmhcgjkolpaaGreatDoor
open Go.RowKit
structure ItF (w : World) (n0 : Nat) (hv : Value) (m : Int) (hi : List Int) (pre : List It) (v : Value) (ps : List IP) (k y : Part) (W : World) : Prop where
  b : Below w.heap.size w W
  ahi : Arr W n0 25 [hv]
  amost : Arr W (n0 + 1) 3 [.int .i64 m]
  amore : Arr W (n0 + 3) 4 [.bool false]
  li : LI W (n0 + 2) n0 pre v ps
  sk : Sl W k.ao k.n k.cap k.xs
  sy : Sl W y.ao y.n y.cap y.xs
  low : ∀ x ∈ pre, cmpL x.k hi < 0
theorem ItF.below {w : World} {n0 : Nat} {hv : Value} {m : Int} {hi : List Int} {pre : List It} {v : Value} {ps : List IP} {k y : Part} {W W' : World} (h : ItF w n0 hv m hi pre v ps k y W) (hb : Below W.heap.size W W') : ItF w n0 hv m hi pre v ps k y W' :=
  ⟨h.b.trans (hb.mono h.b.size), arr_below h.ahi hb, arr_below h.amost hb, arr_below h.amore hb, h.li.below hb, h.sk.below hb, h.sy.below hb, h.low⟩
theorem ItF.base {w : World} {n0 : Nat} {hv : Value} {m : Int} {hi : List Int} {pre : List It} {v : Value} {ps : List IP} {k y : Part} {W : World} (h : ItF w n0 hv m hi pre v ps k y W) (hN : n0 = w.heap.size) : n0 ≤ W.heap.size := by
  have := h.b.size
  omega
def ItI (w : World) (n0 : Nat) (hv : Value) (m : Int) (hi : List Int) (pre : List It) (W : World) : Prop :=
  Below w.heap.size w W ∧ Arr W n0 25 [hv] ∧ Arr W (n0 + 1) 3 [.int .i64 m] ∧ Arr W (n0 + 3) 4 [.bool false] ∧ (∃ v ps, LI W (n0 + 2) n0 pre v ps) ∧ (∀ x ∈ pre, cmpL x.k hi < 0) ∧ pre.length ≤ m.toNat ∧ pre.length ≤ 100000
theorem ItI.below {w : World} {n0 : Nat} {hv : Value} {m : Int} {hi : List Int} {pre : List It} {W W' : World} (h : ItI w n0 hv m hi pre W) (hb : Below W.heap.size W W') : ItI w n0 hv m hi pre W' := by
  obtain ⟨h1, h2, h3, h4, ⟨v, ps, h5⟩, h6⟩ := h
  exact ⟨h1.trans (hb.mono h1.size), arr_below h2 hb, arr_below h3 hb, arr_below h4 hb, ⟨v, ps, h5.below hb⟩, h6⟩
theorem ItI.step {w : World} {n0 : Nat} {hv : Value} {m : Int} {hi : List Int} {pre : List It} {v v' : Value} {ps qs : List IP} {k y : Part} {W W' : World} {x : It} (hN : n0 = w.heap.size) (h : ItF w n0 hv m hi pre v ps k y W)
    (hL : LI W' (n0 + 2) n0 (pre ++ [x]) v' qs) (hB : Below n0 W W') (hO : ∀ b t cs, Arr W b t cs → t ≠ 105 → b ≠ n0 + 2 → Arr W' b t cs) (hx : cmpL x.k hi < 0) (hm : ¬ m ≤ (pre.length : Int)) (hl : pre.length + 1 ≤ 100000) :
    ItI w n0 hv m hi (pre ++ [x]) W' := by
  subst hN
  refine ⟨h.b.trans hB, hO _ _ _ h.ahi (by decide) (by omega), hO _ _ _ h.amost (by decide) (by omega), hO _ _ _ h.amore (by decide) (by omega), ⟨v', qs, hL⟩, fun z hz => ?_, by simp; omega, by simpa using hl⟩
  rcases List.mem_append.1 hz with hz | hz
  · exact h.low z hz
  · rw [List.mem_singleton.1 hz]
    exact hx
def ItS (w : World) (n0 : Nat) (m : Int) (hi : List Int) (F : List It) (W : World) : Prop :=
  Below w.heap.size w W ∧ ∃ b pre x post, pre ++ x :: post = F ∧ Arr W (n0 + 3) 4 [.bool b] ∧ (∃ v ps, LI W (n0 + 2) n0 pre v ps) ∧ (∀ z ∈ pre, cmpL z.k hi < 0) ∧ pre.length ≤ m.toNat ∧ ((b = false ∧ ¬ cmpL x.k hi < 0) ∨ (b = true ∧ cmpL x.k hi < 0 ∧ m.toNat ≤ pre.length))
theorem LI.other {w : World} {p base q : Nat} {l : List It} {v u : Value} {ps : List IP} {t : TypeId} {cs : List Value} (h : LI w p base l v ps) (ha : Arr w q t cs) (ht : t ≠ 105) (ht2 : t ≠ 5) (hne : p ≠ q) : LI (w.setCell ⟨q, 0, none⟩ u) p base l v ps :=
  ⟨h.arr.other _ u hne, h.row.kept (row := some q) (grown_set (a := w) (b := w) ⟨rfl, rfl, rfl, Nat.le_refl _, fun _ _ _ => rfl⟩ 0 u) (.inr (arr_not_row ha ht h.row)), h.its, fun r hr => ⟨(h.sl r hr).1.kp (KpB.set ha ht2 0 u), (h.sl r hr).2.kp (KpB.set ha ht2 0 u)⟩⟩
set_option maxHeartbeats 4000000 in
set_option maxRecDepth 100000 in
theorem itm_any (w : World) (n0 : Nat) (ho : Option Addr) (hn hc : Nat) (m : Int) (hi : List Int) (F pre : List It) (W : World) (k y : Part) (x : It) (HN : Hid (n0 = w.heap.size)) (hH : Sl w ho hn hc hi) (h : ItI w n0 (.slice ho hn hc) m hi pre W) (hF : ∃ post, pre ++ x :: post = F) (hk : k.xs = x.k) (hy : y.xs = x.v)
    (sk : Sl W k.ao k.n k.cap k.xs) (sy : Sl W y.ao y.n y.cap y.xs) (hkn : k.n ≤ 1000000) (hyn : y.n ≤ 1000000) (hlen : pre.length + 1 ≤ 100000) :
    Calls Tryz.prog 123 #[.slice k.ao k.n k.cap, .slice y.ao y.n y.cap, .pointer (some ⟨n0, 0, none⟩), .pointer (some ⟨n0 + 2, 0, none⟩), .pointer (some ⟨n0 + 1, 0, none⟩), .pointer (some ⟨n0 + 3, 0, none⟩)] W (WPost (ItI w n0 (.slice ho hn hc) m hi (pre ++ [x])) (ItS w n0 m hi F)) := by
  have hN1 : n0 ≤ w.heap.size := Nat.le_of_eq HN.out
  have hN2 : w.heap.size ≤ n0 := Nat.le_of_eq HN.out.symm
  obtain ⟨hb, a1, a2, a4, ⟨v, ps, L⟩, hlow, hpm, hpl⟩ := h
  obtain ⟨ao, cap, rfl, IL⟩ := L.slice
  have hpsl1 := Nat.le_of_eq L.len
  have hpsl2 := Nat.le_of_eq L.len.symm
  have X : ItF w n0 (.slice ho hn hc) m hi pre (.slice ao ps.length cap) ps k y W := ⟨hb, a1, a2, a4, L, sk, sy, hlow⟩
  have c1 := a1.cell 0
  have c2 := a2.cell 0
  have c3 := L.arr.cell 0
  have f4 := a4.free 0
  have c4 := a4.cell 0
  have CB := bcmp_any W k.ao ho k.n k.cap hn hc k.xs hi sk (hH.below hb)
  have HIT : Hid ((⟨k.xs, y.xs⟩ : It) = x) := by show _ = _; rw [hk, hy]
  have HF : Hid (∃ post, pre ++ x :: post = F) := hF
  have HK : Hid (k.xs = x.k) := hk
  clear hF hk hy IL
  obtain ⟨c, hcq⟩ : ∃ c, c = cmpL k.xs hi := ⟨_, rfl⟩
  rw [← hcq] at CB
  have HC : Hid (c = cmpL x.k hi) := by show _ = _; rw [hcq, HK.out]
  clear hcq HK
  go_enter Tryz.func123, Tryz.ntmps123
  go_wp2_with fail
  refine CB.mono ?_
  rintro e w2 ⟨rfl, hw⟩
  obtain rfl := hw.symm
  clear CB
  by_cases hc0 : c ≥ 0
  · go_wp2
    go_ret
    obtain ⟨post, hp⟩ := HF.out
    exact .inr ⟨rfl, hb, false, pre, x, post, hp, a4, ⟨_, ps, L⟩, hlow, hpm, .inl ⟨rfl, by have := HC.out; omega⟩⟩
  have HLT : Hid (cmpL x.k hi < 0) := by have := HC.out; show _ < _; omega
  by_cases hmore : m ≤ (pre.length : Int)
  · have hge : (ps.length : Int) ≥ m := by omega
    have A4 := a4.set 0 (.bool true)
    have L4 := L.other (u := .bool true) a4 (by decide) (by decide) (by omega)
    have B4 := hb.setCell (p := ⟨n0 + 3, 0, none⟩) (by show w.heap.size ≤ n0 + 3; omega) (.bool true)
    go_wp2
    go_ret
    obtain ⟨post, hp⟩ := HF.out
    exact .inr ⟨rfl, B4, true, pre, x, post, hp, A4, ⟨_, ps, L4⟩, hlow, hpm, .inr ⟨rfl, HLT.out, by omega⟩⟩
  have hge : ¬ (ps.length : Int) ≥ m := by omega
  go_wp2
  refine wp_region_noPanic ?_
  refine wp_region_held_drew (S := fun _ => True) (by kernel_rfl) trivial (fun _ => ?_)
  obtain ⟨v0, hv0⟩ : ∃ v, v = W.drew := ⟨_, rfl⟩
  rw [← hv0]
  have X0 : ItF w n0 (.slice ho hn hc) m hi pre (.slice ao ps.length cap) ps k y v0 := by rw [hv0]; exact X.below (Below.refl _ _).drew
  clear hv0 X
  refine hr_take_w 1 (some 18) (.slice k.ao k.n k.cap) rfl rfl (by kernel_rfl) (by kernel_rfl) (by kernel_rfl) rfl (fun W hW => by go_simp) trivial ?_
  simp only [FL]
  refine hr_take_w 3 (some 20) (.slice y.ao y.n y.cap) rfl rfl (by kernel_rfl) (by kernel_rfl) (by kernel_rfl) rfl (fun W hW => by go_simp) trivial ?_
  simp only [FL]
  refine hr_any (rs := [0, 2]) (by kernel_rfl) (by simp) ?_
  intro i hi
  simp only [List.mem_cons, List.not_mem_nil, or_false] at hi
  rcases hi with rfl | rfl
  · have lc : v0.cell? ⟨n0 + 2, 0, none⟩ = some (.slice ao ps.length cap) := X0.li.arr.cell 0
    refine op_ex 0 (some 17) rfl rfl rfl (R := fun v w' => v = .slice ao ps.length cap ∧ v0 = w') ⟨_, _, by go_simp, rfl, rfl⟩ ?_
    rintro v w' ⟨rfl, rfl⟩
    clear lc
    refine ⟨trivial, ?_⟩
    simp only [FL]
    refine hr_any (rs := [2]) (by kernel_rfl) (by simp) ?_
    intro i hi
    obtain rfl := List.mem_singleton.1 hi
    clear hi
    refine op_calls 2 (some 19) 106 #[.slice k.ao k.n k.cap] rfl rfl rfl (by go_simp) (fun v w' => ∃ ro rc, v = .slice ro k.n rc ∧ SlT w' ⟨ro, k.n, rc, k.xs⟩ ∧ Below v0.heap.size v0 w') ((ownT_any v0 k.ao k.n k.cap k.xs X0.sk hkn).mono (by
      rintro e w' ⟨ro, rc, rfl, F, C⟩
      exact ⟨_, rfl, ro, rc, rfl, F, C⟩)) ?_
    rintro v v1 ⟨ko, kc, rfl, SK, C⟩
    have X1 := X0.below C
    clear C
    refine ⟨trivial, ?_⟩
    simp only [FL]
    refine hr_any (rs := [4]) (by kernel_rfl) (by simp) ?_
    intro i hi
    obtain rfl := List.mem_singleton.1 hi
    clear hi
    refine op_calls 4 (some 21) 106 #[.slice y.ao y.n y.cap] rfl rfl rfl (by go_simp) (fun v w' => ∃ ro rc, v = .slice ro y.n rc ∧ SlT w' ⟨ro, y.n, rc, y.xs⟩ ∧ Below v1.heap.size v1 w') ((ownT_any v1 y.ao y.n y.cap y.xs X1.sy hyn).mono (by
      rintro e w' ⟨ro, rc, rfl, F, C⟩
      exact ⟨_, rfl, ro, rc, rfl, F, C⟩)) ?_
    rintro v v2 ⟨yo, yc, rfl, SY, C⟩
    have X2 := X1.below C
    have SK := SK.kp (KpB.below C)
    clear C
    refine ⟨trivial, ?_⟩
    simp only [FL]
    refine hr_take_w 5 (some 22) (.agg #[.slice ko k.n kc, .slice yo y.n yc]) rfl rfl (by kernel_rfl) (by kernel_rfl) (by kernel_rfl) rfl (fun W hW => by go_simp) trivial ?_
    simp only [FL]
    refine hr_any (rs := [6]) (by kernel_rfl) (by simp) ?_
    intro i hi
    obtain rfl := List.mem_singleton.1 hi
    clear hi
    refine op_ex 6 (some 23) rfl rfl rfl (R := fun v w' => ∃ g, v = .slice (some ⟨g, 0, none⟩) 1 1 ∧ w'.heap[g]? = some (.cells #[.slice ko k.n kc, .slice yo y.n yc] 105) ∧ Below v2.heap.size v2 w') ⟨_, _, by go_simp, _, rfl, heap_alloc_new v2 _, (Below.refl _ _).alloc (Nat.le_refl _) _⟩ ?_
    rintro v v3 ⟨g, rfl, G, C⟩
    have X3 := X2.below C
    have SK := SK.kp (KpB.below C)
    have SY := SY.kp (KpB.below C)
    clear C
    refine ⟨trivial, ?_⟩
    simp only [FL]
    refine hr_any (rs := [7]) (by kernel_rfl) (by simp) ?_
    intro i hi
    obtain rfl := List.mem_singleton.1 hi
    clear hi
    obtain ⟨nv, nw, ha, hr, hg⟩ := X3.li.app (q := ⟨⟨ko, k.n, kc, k.xs⟩, ⟨yo, y.n, yc, y.xs⟩⟩) (c := 1) (X3.base HN.out) (by omega) 121 G
    obtain ⟨L2, B2, O2⟩ := X3.li.put (X3.base HN.out) (by omega) SK SY hr hg
    have A2 := (arr_put X3.li.arr (by decide) X3.li.row (X3.base HN.out) (by omega) hr hg 0).1
    obtain ⟨ao2, cap2, hv2, -⟩ := L2.slice
    simp only [List.length_append, List.length_cons, List.length_nil, Nat.zero_add] at hv2
    subst hv2
    refine op_ex 7 (some 24) rfl rfl rfl (R := fun v w' => v = .slice ao2 (ps.length + 1) cap2 ∧ nw = w') ⟨_, nw, by simp [execOp, Act.eval, resolve, invoke, builtin, ha], rfl, rfl⟩ ?_
    rintro v w' ⟨rfl, rfl⟩
    refine ⟨trivial, ?_⟩
    simp only [FL]
    have f2 := A2.free 0
    have c2 := A2.cell 0
    refine hr_skip 8 none (w' := nw.setCell ⟨n0 + 2, 0, none⟩ (.slice ao2 (ps.length + 1) cap2)) rfl rfl (by kernel_rfl) rfl (by go_simp) trivial ?_
    simp only [Act.put]
    clear f2 c2
    refine wpAnyH_done (by kernel_rfl) ?_ _
    refine NoPanic.normal ?_
    go_wp2
    go_ret
    refine .inl ⟨rfl, ?_⟩
    have hit : (IP.it ⟨⟨ko, k.n, kc, k.xs⟩, ⟨yo, y.n, yc, y.xs⟩⟩) = x := HIT.out
    rw [hit] at L2
    exact ItI.step HN.out X3 L2 B2 O2 HLT.out (by omega) hlen
  · refine op_calls 2 (some 19) 106 #[.slice k.ao k.n k.cap] rfl rfl rfl (by go_simp) (fun v w' => ∃ ro rc, v = .slice ro k.n rc ∧ SlT w' ⟨ro, k.n, rc, k.xs⟩ ∧ Below v0.heap.size v0 w') ((ownT_any v0 k.ao k.n k.cap k.xs X0.sk hkn).mono (by
      rintro e w' ⟨ro, rc, rfl, F, C⟩
      exact ⟨_, rfl, ro, rc, rfl, F, C⟩)) ?_
    rintro v v1 ⟨ko, kc, rfl, SK, C⟩
    have X1 := X0.below C
    clear C
    refine ⟨trivial, ?_⟩
    simp only [FL]
    refine hr_any (rs := [0, 4]) (by kernel_rfl) (by simp) ?_
    intro i hi
    simp only [List.mem_cons, List.not_mem_nil, or_false] at hi
    rcases hi with rfl | rfl
    · have lc : v1.cell? ⟨n0 + 2, 0, none⟩ = some (.slice ao ps.length cap) := X1.li.arr.cell 0
      refine op_ex 0 (some 17) rfl rfl rfl (R := fun v w' => v = .slice ao ps.length cap ∧ v1 = w') ⟨_, _, by go_simp, rfl, rfl⟩ ?_
      rintro v w' ⟨rfl, rfl⟩
      clear lc
      refine ⟨trivial, ?_⟩
      simp only [FL]
      refine hr_any (rs := [4]) (by kernel_rfl) (by simp) ?_
      intro i hi
      obtain rfl := List.mem_singleton.1 hi
      clear hi
      refine op_calls 4 (some 21) 106 #[.slice y.ao y.n y.cap] rfl rfl rfl (by go_simp) (fun v w' => ∃ ro rc, v = .slice ro y.n rc ∧ SlT w' ⟨ro, y.n, rc, y.xs⟩ ∧ Below v1.heap.size v1 w') ((ownT_any v1 y.ao y.n y.cap y.xs X1.sy hyn).mono (by
        rintro e w' ⟨ro, rc, rfl, F, C⟩
        exact ⟨_, rfl, ro, rc, rfl, F, C⟩)) ?_
      rintro v v2 ⟨yo, yc, rfl, SY, C⟩
      have X2 := X1.below C
      have SK := SK.kp (KpB.below C)
      clear C
      refine ⟨trivial, ?_⟩
      simp only [FL]
      refine hr_take_w 5 (some 22) (.agg #[.slice ko k.n kc, .slice yo y.n yc]) rfl rfl (by kernel_rfl) (by kernel_rfl) (by kernel_rfl) rfl (fun W hW => by go_simp) trivial ?_
      simp only [FL]
      refine hr_any (rs := [6]) (by kernel_rfl) (by simp) ?_
      intro i hi
      obtain rfl := List.mem_singleton.1 hi
      clear hi
      refine op_ex 6 (some 23) rfl rfl rfl (R := fun v w' => ∃ g, v = .slice (some ⟨g, 0, none⟩) 1 1 ∧ w'.heap[g]? = some (.cells #[.slice ko k.n kc, .slice yo y.n yc] 105) ∧ Below v2.heap.size v2 w') ⟨_, _, by go_simp, _, rfl, heap_alloc_new v2 _, (Below.refl _ _).alloc (Nat.le_refl _) _⟩ ?_
      rintro v v3 ⟨g, rfl, G, C⟩
      have X3 := X2.below C
      have SK := SK.kp (KpB.below C)
      have SY := SY.kp (KpB.below C)
      clear C
      refine ⟨trivial, ?_⟩
      simp only [FL]
      refine hr_any (rs := [7]) (by kernel_rfl) (by simp) ?_
      intro i hi
      obtain rfl := List.mem_singleton.1 hi
      clear hi
      obtain ⟨nv, nw, ha, hr, hg⟩ := X3.li.app (q := ⟨⟨ko, k.n, kc, k.xs⟩, ⟨yo, y.n, yc, y.xs⟩⟩) (c := 1) (X3.base HN.out) (by omega) 121 G
      obtain ⟨L2, B2, O2⟩ := X3.li.put (X3.base HN.out) (by omega) SK SY hr hg
      have A2 := (arr_put X3.li.arr (by decide) X3.li.row (X3.base HN.out) (by omega) hr hg 0).1
      obtain ⟨ao2, cap2, hv2, -⟩ := L2.slice
      simp only [List.length_append, List.length_cons, List.length_nil, Nat.zero_add] at hv2
      subst hv2
      refine op_ex 7 (some 24) rfl rfl rfl (R := fun v w' => v = .slice ao2 (ps.length + 1) cap2 ∧ nw = w') ⟨_, nw, by simp [execOp, Act.eval, resolve, invoke, builtin, ha], rfl, rfl⟩ ?_
      rintro v w' ⟨rfl, rfl⟩
      refine ⟨trivial, ?_⟩
      simp only [FL]
      have f2 := A2.free 0
      have c2 := A2.cell 0
      refine hr_skip 8 none (w' := nw.setCell ⟨n0 + 2, 0, none⟩ (.slice ao2 (ps.length + 1) cap2)) rfl rfl (by kernel_rfl) rfl (by go_simp) trivial ?_
      simp only [Act.put]
      clear f2 c2
      refine wpAnyH_done (by kernel_rfl) ?_ _
      refine NoPanic.normal ?_
      go_wp2
      go_ret
      refine .inl ⟨rfl, ?_⟩
      have hit : (IP.it ⟨⟨ko, k.n, kc, k.xs⟩, ⟨yo, y.n, yc, y.xs⟩⟩) = x := HIT.out
      rw [hit] at L2
      exact ItI.step HN.out X3 L2 B2 O2 HLT.out (by omega) hlen
    · refine op_calls 4 (some 21) 106 #[.slice y.ao y.n y.cap] rfl rfl rfl (by go_simp) (fun v w' => ∃ ro rc, v = .slice ro y.n rc ∧ SlT w' ⟨ro, y.n, rc, y.xs⟩ ∧ Below v1.heap.size v1 w') ((ownT_any v1 y.ao y.n y.cap y.xs X1.sy hyn).mono (by
        rintro e w' ⟨ro, rc, rfl, F, C⟩
        exact ⟨_, rfl, ro, rc, rfl, F, C⟩)) ?_
      rintro v v2 ⟨yo, yc, rfl, SY, C⟩
      have X2 := X1.below C
      have SK := SK.kp (KpB.below C)
      clear C
      refine ⟨trivial, ?_⟩
      simp only [FL]
      refine hr_take_w 5 (some 22) (.agg #[.slice ko k.n kc, .slice yo y.n yc]) rfl rfl (by kernel_rfl) (by kernel_rfl) (by kernel_rfl) rfl (fun W hW => by go_simp) trivial ?_
      simp only [FL]
      refine hr_any (rs := [0, 6]) (by kernel_rfl) (by simp) ?_
      intro i hi
      simp only [List.mem_cons, List.not_mem_nil, or_false] at hi
      rcases hi with rfl | rfl
      · have lc : v2.cell? ⟨n0 + 2, 0, none⟩ = some (.slice ao ps.length cap) := X2.li.arr.cell 0
        refine op_ex 0 (some 17) rfl rfl rfl (R := fun v w' => v = .slice ao ps.length cap ∧ v2 = w') ⟨_, _, by go_simp, rfl, rfl⟩ ?_
        rintro v w' ⟨rfl, rfl⟩
        clear lc
        refine ⟨trivial, ?_⟩
        simp only [FL]
        refine hr_any (rs := [6]) (by kernel_rfl) (by simp) ?_
        intro i hi
        obtain rfl := List.mem_singleton.1 hi
        clear hi
        refine op_ex 6 (some 23) rfl rfl rfl (R := fun v w' => ∃ g, v = .slice (some ⟨g, 0, none⟩) 1 1 ∧ w'.heap[g]? = some (.cells #[.slice ko k.n kc, .slice yo y.n yc] 105) ∧ Below v2.heap.size v2 w') ⟨_, _, by go_simp, _, rfl, heap_alloc_new v2 _, (Below.refl _ _).alloc (Nat.le_refl _) _⟩ ?_
        rintro v v3 ⟨g, rfl, G, C⟩
        have X3 := X2.below C
        have SK := SK.kp (KpB.below C)
        have SY := SY.kp (KpB.below C)
        clear C
        refine ⟨trivial, ?_⟩
        simp only [FL]
        refine hr_any (rs := [7]) (by kernel_rfl) (by simp) ?_
        intro i hi
        obtain rfl := List.mem_singleton.1 hi
        clear hi
        obtain ⟨nv, nw, ha, hr, hg⟩ := X3.li.app (q := ⟨⟨ko, k.n, kc, k.xs⟩, ⟨yo, y.n, yc, y.xs⟩⟩) (c := 1) (X3.base HN.out) (by omega) 121 G
        obtain ⟨L2, B2, O2⟩ := X3.li.put (X3.base HN.out) (by omega) SK SY hr hg
        have A2 := (arr_put X3.li.arr (by decide) X3.li.row (X3.base HN.out) (by omega) hr hg 0).1
        obtain ⟨ao2, cap2, hv2, -⟩ := L2.slice
        simp only [List.length_append, List.length_cons, List.length_nil, Nat.zero_add] at hv2
        subst hv2
        refine op_ex 7 (some 24) rfl rfl rfl (R := fun v w' => v = .slice ao2 (ps.length + 1) cap2 ∧ nw = w') ⟨_, nw, by simp [execOp, Act.eval, resolve, invoke, builtin, ha], rfl, rfl⟩ ?_
        rintro v w' ⟨rfl, rfl⟩
        refine ⟨trivial, ?_⟩
        simp only [FL]
        have f2 := A2.free 0
        have c2 := A2.cell 0
        refine hr_skip 8 none (w' := nw.setCell ⟨n0 + 2, 0, none⟩ (.slice ao2 (ps.length + 1) cap2)) rfl rfl (by kernel_rfl) rfl (by go_simp) trivial ?_
        simp only [Act.put]
        clear f2 c2
        refine wpAnyH_done (by kernel_rfl) ?_ _
        refine NoPanic.normal ?_
        go_wp2
        go_ret
        refine .inl ⟨rfl, ?_⟩
        have hit : (IP.it ⟨⟨ko, k.n, kc, k.xs⟩, ⟨yo, y.n, yc, y.xs⟩⟩) = x := HIT.out
        rw [hit] at L2
        exact ItI.step HN.out X3 L2 B2 O2 HLT.out (by omega) hlen
      · refine op_ex 6 (some 23) rfl rfl rfl (R := fun v w' => ∃ g, v = .slice (some ⟨g, 0, none⟩) 1 1 ∧ w'.heap[g]? = some (.cells #[.slice ko k.n kc, .slice yo y.n yc] 105) ∧ Below v2.heap.size v2 w') ⟨_, _, by go_simp, _, rfl, heap_alloc_new v2 _, (Below.refl _ _).alloc (Nat.le_refl _) _⟩ ?_
        rintro v v3 ⟨g, rfl, G, C⟩
        have X3 := X2.below C
        have SK := SK.kp (KpB.below C)
        have SY := SY.kp (KpB.below C)
        clear C
        refine ⟨trivial, ?_⟩
        simp only [FL]
        refine hr_any (rs := [0]) (by kernel_rfl) (by simp) ?_
        intro i hi
        obtain rfl := List.mem_singleton.1 hi
        clear hi
        have lc : v3.cell? ⟨n0 + 2, 0, none⟩ = some (.slice ao ps.length cap) := X3.li.arr.cell 0
        refine op_ex 0 (some 17) rfl rfl rfl (R := fun v w' => v = .slice ao ps.length cap ∧ v3 = w') ⟨_, _, by go_simp, rfl, rfl⟩ ?_
        rintro v w' ⟨rfl, rfl⟩
        clear lc
        refine ⟨trivial, ?_⟩
        simp only [FL]
        refine hr_any (rs := [7]) (by kernel_rfl) (by simp) ?_
        intro i hi
        obtain rfl := List.mem_singleton.1 hi
        clear hi
        obtain ⟨nv, nw, ha, hr, hg⟩ := X3.li.app (q := ⟨⟨ko, k.n, kc, k.xs⟩, ⟨yo, y.n, yc, y.xs⟩⟩) (c := 1) (X3.base HN.out) (by omega) 121 G
        obtain ⟨L2, B2, O2⟩ := X3.li.put (X3.base HN.out) (by omega) SK SY hr hg
        have A2 := (arr_put X3.li.arr (by decide) X3.li.row (X3.base HN.out) (by omega) hr hg 0).1
        obtain ⟨ao2, cap2, hv2, -⟩ := L2.slice
        simp only [List.length_append, List.length_cons, List.length_nil, Nat.zero_add] at hv2
        subst hv2
        refine op_ex 7 (some 24) rfl rfl rfl (R := fun v w' => v = .slice ao2 (ps.length + 1) cap2 ∧ nw = w') ⟨_, nw, by simp [execOp, Act.eval, resolve, invoke, builtin, ha], rfl, rfl⟩ ?_
        rintro v w' ⟨rfl, rfl⟩
        refine ⟨trivial, ?_⟩
        simp only [FL]
        have f2 := A2.free 0
        have c2 := A2.cell 0
        refine hr_skip 8 none (w' := nw.setCell ⟨n0 + 2, 0, none⟩ (.slice ao2 (ps.length + 1) cap2)) rfl rfl (by kernel_rfl) rfl (by go_simp) trivial ?_
        simp only [Act.put]
        clear f2 c2
        refine wpAnyH_done (by kernel_rfl) ?_ _
        refine NoPanic.normal ?_
        go_wp2
        go_ret
        refine .inl ⟨rfl, ?_⟩
        have hit : (IP.it ⟨⟨ko, k.n, kc, k.xs⟩, ⟨yo, y.n, yc, y.xs⟩⟩) = x := HIT.out
        rw [hit] at L2
        exact ItI.step HN.out X3 L2 B2 O2 HLT.out (by omega) hlen
end Go.Proofs.YtlljmhcgjkolpaaGreatDoor

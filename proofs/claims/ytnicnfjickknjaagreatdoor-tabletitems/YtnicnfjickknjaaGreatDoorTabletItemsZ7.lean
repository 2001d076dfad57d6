/-
  The program's lay, take.
-/
import Derived.Test.YtnicnfjickknjaaGreatDoorTabletItemsZ3
import Derived.Test.YtnicnfjickknjaaGreatDoorTabletItemsZ6
import Derived.Test.YtnicnfjickknjaaGreatDoorTabletItemsZ1
namespace Go.Proofs.YtnicnfjickknjaaGreatDoor
open Go.RowKit

theorem itK_right (c : CA) (hr : c.key.isRight = true) : itK c = (itm c.c).k := by unfold itK; rw [hr]; rfl
theorem good_right (c : CA) (h : c.c.good) : c.key.isRight = true := by
  rw [KA.isRight_kv]
  exact decide_eq_true h.right
theorem jL_good (c : CA) (k v : Part) (hk : k.n = (itm c.c).k.length) (hv : v.n = (itm c.c).v.length) (h : c.c.good) : jL [⟨k, v⟩] 0 = 0 := by
  have h1 := keyL_le h.right
  have h2 := keyL_len c.c.kv
  have h3 := itV_len c.c
  have h4 := h.val
  have e1 : k.n = (keyL c.c.kv).length := hk
  have e2 : v.n = (itV c.c).length := hv
  have b1 : badK k.n = false := decide_eq_false (by omega)
  have b2 : ¬ 1024 < v.n := by omega
  simp only [jL, b1, b2, if_false, Bool.false_eq_true]
/-- What a write on the tablet leaves. -/
def WrPost (w : World) (p : Nat) (f t : ByteArray) (cs : List CV) (e : Ending) (w' : World) : Prop := e = .returned (.tuple #[]) ∧ TB w' p f t cs ∧ Wr p w w'

set_option maxHeartbeats 2000000 in
set_option maxRecDepth 100000 in
theorem lay_any (w : World) (p : Nat) (f t : ByteArray) (cs : List CV) (c : CA) (hTb : Tabs w) (hT : TB w p f t cs) (hs : CSrt cs) (hn : cs.length ≤ 1000) (hok : c.ok w) (hgd : c.c.good) (hcn : c.va.n ≤ 100000) :
    Calls Tryz.prog 85 #[.pointer (some ⟨p, 0, none⟩), c.val] w (WrPost w p f t (cIns cs c.c)) := by
  have h2 := hTb.two
  obtain ⟨W1, hW1⟩ : ∃ V, V = w.alloc (.cells #[.string c.row, .string c.fam, .string c.qual, .int .u64 c.time, .slice c.va.ao c.va.n c.va.cap, .bool c.gone] 27) := ⟨_, rfl⟩
  have C1 : Below w.heap.size w W1 := by rw [hW1]; exact (Below.refl _ _).alloc (Nat.le_refl _) _
  have CI := titem_any W1 c (hok.below C1) hcn
  unfold CA.val at CI ⊢
  go_enter Tryz.func85, Tryz.ntmps85
  go_wp2_with fail
  rw [← hW1]
  refine CI.mono ?_
  rintro e w2 ⟨ko, kn, kc, vo, vn, vc, rfl, SK, SV, C2⟩
  rw [itK_right c (good_right c hgd)] at SK
  have B2 := C1.trans (C2.mono C1.size)
  clear CI hW1
  obtain ⟨W3, hW3⟩ : ∃ V, V = w2.alloc (.cells #[.slice ko kn kc, .slice vo vn vc] 29) := ⟨_, rfl⟩
  have C3 : Below w2.heap.size w2 W3 := by rw [hW3]; exact (Below.refl _ _).alloc (Nat.le_refl _) _
  have X3 : Arr W3 w2.heap.size 29 [.slice ko kn kc, .slice vo vn vc] := by rw [hW3]; exact heap_alloc_new w2 _
  have B3 := B2.trans (C3.mono B2.size)
  obtain ⟨u, A3, T3⟩ := hT.below B3
  have t2 : W3.cell? ⟨p, 2, none⟩ = some (.pointer u) := Arr.cell A3 2
  have x0 : W3.cell? ⟨w2.heap.size, 0, none⟩ = some (.slice ko kn kc) := X3.cell 0
  have x1 : W3.cell? ⟨w2.heap.size, 1, none⟩ = some (.slice vo vn vc) := X3.cell 1
  have kl : Hid (kn = (itm c.c).k.length) := SK.len.symm
  have vl : Hid (vn = (itm c.c).v.length) := SV.len.symm
  have k1 := keyL_le hgd.right
  have v1 := itV_len c.c
  have v2 := hgd.val
  have k2 : kn ≤ 256 := by rw [kl.out]; exact k1
  have v3 : vn ≤ 257 := by rw [vl.out]; show (itV c.c).length ≤ _; omega
  have CP : Hid (∀ V, Below W3.heap.size W3 V → Calls Tryz.prog 110 #[.pointer u, .slice ko kn kc, .slice vo vn vc] V fun e w' => ∃ un, e = .returned (.tuple #[.pointer un, .int .i64 0]) ∧ TT w' (.pointer un) ((cIns cs c.c).map itm) ∧ Below V.heap.size V w') := fun V hV => by
    have BV := B3.trans (hV.mono B3.size)
    refine (tput_any V (.pointer u) (cs.map itm) (itm c.c) ko vo kn kc vn vc (hTb.below BV h2) (T3.below hV) hs ((SK.below C3).below hV) ((SV.below C3).below hV) (by omega) (by omega) (by rw [List.length_map]; omega) 0 (jL_good c ⟨ko, kn, kc, (itm c.c).k⟩ ⟨vo, vn, vc, (itm c.c).v⟩ kl.out vl.out hgd)).mono ?_
    rintro e w' ⟨un, rfl, h1, -, h3⟩
    have h4 := h1 rfl
    rw [ins_itm] at h4
    exact ⟨un, rfl, h4, h3⟩
  go_wp2_with fail
  rw [← hW3]
  clear hW3 X3 SK SV C2 C3 kl vl k1 v1 v2
  have zE0 : Below W3.heap.size W3 W3.drew := (Below.refl _ _).drew
  refine wp_region_noPanic ?_
  refine wp_region_held_drew (S := fun _ => True) (by kernel_rfl) trivial (fun _ => ?_)
  obtain ⟨zv0, hv0⟩ : ∃ v, v = W3.drew := ⟨_, rfl⟩
  rw [← hv0] at zE0 ⊢
  clear hv0
  refine hr_take_w 0 (some 8) (.pointer (some ⟨p, 0, none⟩)) rfl rfl (by kernel_rfl) (by kernel_rfl) (by kernel_rfl) rfl (fun W hW => by go_simp) trivial ?_
  simp only [Act.put, List.setIfInBounds_toArray, List.set_cons_zero, List.set_cons_succ]
  refine hr_take_w 1 (some 9) (.pointer (some ⟨p, 0, none⟩)) rfl rfl (by kernel_rfl) (by kernel_rfl) (by kernel_rfl) rfl (fun W hW => by go_simp) trivial ?_
  simp only [Act.put, List.setIfInBounds_toArray, List.set_cons_zero, List.set_cons_succ]
  refine hr_take_w 2 (some 10) (.pointer (some ⟨p, 0, none⟩)) rfl rfl (by kernel_rfl) (by kernel_rfl) (by kernel_rfl) rfl (fun W hW => by go_simp) trivial ?_
  simp only [Act.put, List.setIfInBounds_toArray, List.set_cons_zero, List.set_cons_succ]
  refine hr_take_w 3 (some 11) (.pointer (some ⟨p, 2, none⟩)) rfl rfl (by kernel_rfl) (by kernel_rfl) (by kernel_rfl) rfl (fun W hW => by go_simp) trivial ?_
  simp only [Act.put, List.setIfInBounds_toArray, List.set_cons_zero, List.set_cons_succ]
  refine hr_take_w 5 (some 13) (.pointer (some ⟨w2.heap.size, 0, none⟩)) rfl rfl (by kernel_rfl) (by kernel_rfl) (by kernel_rfl) rfl (fun W hW => by go_simp) trivial ?_
  simp only [Act.put, List.setIfInBounds_toArray, List.set_cons_zero, List.set_cons_succ]
  refine hr_take_w 7 (some 15) (.pointer (some ⟨w2.heap.size, 1, none⟩)) rfl rfl (by kernel_rfl) (by kernel_rfl) (by kernel_rfl) rfl (fun W hW => by go_simp) trivial ?_
  simp only [Act.put, List.setIfInBounds_toArray, List.set_cons_zero, List.set_cons_succ]
  refine wpAnyH_effto 6 (fun zi zv zw => (zi = 4 → zv = .pointer u) ∧ (zi = 6 → zv = .slice ko kn kc) ∧ (zi = 8 → zv = .slice vo vn vc) ∧ (zi = 9 → ∃ un, zv = .tuple #[.pointer un, .int .i64 0] ∧ TT zw (.pointer un) ((cIns cs c.c).map itm))) [(4, 12), (6, 14), (8, 16), (9, 17)] 22 (by kernel_rfl) (by decide) (by decide) rfl ?_ (fun _ _ => trivial) ?_ ?_
  · intro zi v w w' h hb
    refine ⟨fun e => ?_, fun e => ?_, fun e => ?_, fun e => ?_⟩
    · have h := h.1 e
      exact h
    · have h := h.2.1 e
      exact h
    · have h := h.2.2.1 e
      exact h
    · have h := h.2.2.2 e
      obtain ⟨un, h1, h2⟩ := h
      exact ⟨un, h1, h2.below hb⟩
  · intro zp zhi o a w ho hs hb hdep
    have zEB := zE0.trans (hb.mono zE0.size)
    simp only [List.mem_cons, List.not_mem_nil, or_false] at zhi
    rcases zhi with rfl | rfl | rfl | rfl
    · obtain rfl : _ = o := Option.some.inj (show some _ = some o from ho)
      have t11 : a.tmps[11]? = some (.pointer (some ⟨p, 2, none⟩)) := hs.get 11 (by kernel_rfl) rfl
      have lc := (zEB.cell (World.block_lt_of_cell? _ _ t2)).trans t2
      exact .inl ⟨.pointer u, w, by go_simp, ⟨fun _ => rfl, fun e => absurd e (by decide), fun e => absurd e (by decide), fun e => absurd e (by decide)⟩, Below.refl _ _⟩
    · obtain rfl : _ = o := Option.some.inj (show some _ = some o from ho)
      have t13 : a.tmps[13]? = some (.pointer (some ⟨w2.heap.size, 0, none⟩)) := hs.get 13 (by kernel_rfl) rfl
      have lc := (zEB.cell (World.block_lt_of_cell? _ _ x0)).trans x0
      exact .inl ⟨.slice ko kn kc, w, by go_simp, ⟨fun e => absurd e (by decide), fun _ => rfl, fun e => absurd e (by decide), fun e => absurd e (by decide)⟩, Below.refl _ _⟩
    · obtain rfl : _ = o := Option.some.inj (show some _ = some o from ho)
      have t15 : a.tmps[15]? = some (.pointer (some ⟨w2.heap.size, 1, none⟩)) := hs.get 15 (by kernel_rfl) rfl
      have lc := (zEB.cell (World.block_lt_of_cell? _ _ x1)).trans x1
      exact .inl ⟨.slice vo vn vc, w, by go_simp, ⟨fun e => absurd e (by decide), fun e => absurd e (by decide), fun _ => rfl, fun e => absurd e (by decide)⟩, Below.refl _ _⟩
    · obtain rfl : _ = o := Option.some.inj (show some _ = some o from ho)
      obtain ⟨x12, t12, f12⟩ := (hdep 4 (by kernel_rfl)).at 12 (by kernel_rfl)
      replace f12 := f12.1 rfl
      obtain ⟨x14, t14, f14⟩ := (hdep 6 (by kernel_rfl)).at 14 (by kernel_rfl)
      replace f14 := f14.2.1 rfl
      obtain ⟨x16, t16, f16⟩ := (hdep 8 (by kernel_rfl)).at 16 (by kernel_rfl)
      replace f16 := f16.2.2.1 rfl
      subst f12 f14 f16
      refine .inr ⟨110, #[.pointer u, .slice ko kn kc, .slice vo vn vc], by go_simp, (CP.out w zEB).mono ?_⟩
      rintro e w' ⟨un, rfl, T1, C⟩
      exact ⟨_, rfl, ⟨fun e => absurd e (by decide), fun e => absurd e (by decide), fun e => absurd e (by decide), fun _ => ⟨un, rfl, T1⟩⟩, C⟩
  intro zf zv1 hb hh
  have zE1 := zE0.trans (hb.mono zE0.size)
  obtain e4 := (hh (4, 12) (by simp)).1 rfl
  obtain e6 := (hh (6, 14) (by simp)).2.1 rfl
  obtain e8 := (hh (8, 16) (by simp)).2.2.1 rfl
  obtain ⟨un, e9, T4⟩ := (hh (9, 17) (by simp)).2.2.2 rfl
  clear hh hb
  simp only [putL, List.foldl_cons, List.foldl_nil, e4, e6, e8, e9]
  clear e4 e6 e8 e9
  simp only [Act.put, List.setIfInBounds_toArray, List.set_cons_zero, List.set_cons_succ]
  have A4 := arr_below A3 zE1
  have f2 := Arr.free A4 2
  have t2' : zv1.cell? ⟨p, 2, none⟩ = some (.pointer u) := Arr.cell A4 2
  refine hr_take_w 10 (some 7) (.tuple #[.pointer un, .int .i64 0]) rfl rfl (by kernel_rfl) (by kernel_rfl) (by kernel_rfl) rfl (fun W hW => by go_simp) trivial ?_
  simp only [Act.put, List.setIfInBounds_toArray, List.set_cons_zero, List.set_cons_succ]
  refine hr_take_w 11 (some 18) (.pointer un) rfl rfl (by kernel_rfl) (by kernel_rfl) (by kernel_rfl) rfl (fun W hW => by go_simp) trivial ?_
  simp only [Act.put, List.setIfInBounds_toArray, List.set_cons_zero, List.set_cons_succ]
  refine hr_take_w 12 (some 19) (.int .i64 0) rfl rfl (by kernel_rfl) (by kernel_rfl) (by kernel_rfl) rfl (fun W hW => by go_simp) trivial ?_
  simp only [Act.put, List.setIfInBounds_toArray, List.set_cons_zero, List.set_cons_succ]
  refine hr_take_w 13 (some 20) (.pointer (some ⟨p, 0, none⟩)) rfl rfl (by kernel_rfl) (by kernel_rfl) (by kernel_rfl) rfl (fun W hW => by go_simp) trivial ?_
  simp only [Act.put, List.setIfInBounds_toArray, List.set_cons_zero, List.set_cons_succ]
  refine hr_take_w 14 (some 21) (.pointer (some ⟨p, 2, none⟩)) rfl rfl (by kernel_rfl) (by kernel_rfl) (by kernel_rfl) rfl (fun W hW => by go_simp) trivial ?_
  simp only [Act.put, List.setIfInBounds_toArray, List.set_cons_zero, List.set_cons_succ]
  refine hr_skip 15 none (w' := zv1.setCell ⟨p, 2, none⟩ (.pointer un)) rfl rfl (by kernel_rfl) rfl (by go_simp) trivial ?_
  simp only [Act.put]
  refine wpAnyH_done (by kernel_rfl) ?_ _
  refine NoPanic.normal ?_
  go_wp2
  have KW : Wr p zv1 (zv1.setCell ⟨p, 2, none⟩ (.pointer un)) := (Wr.refl _ _).set 2 _
  exact bodyPost_ret (v := .tuple #[]) (by simp [results, Tryz.results85, go_sem]) rfl ⟨rfl, ⟨un, Arr.set A4 2 (.pointer un), T4.tb A4 KW⟩, (Wr.of (B3.trans (zE1.mono B3.size))).trans KW⟩

set_option maxHeartbeats 2000000 in
set_option maxRecDepth 100000 in
theorem take_any (wI : World) (p : Nat) (f t : ByteArray) (cs : List CV) (c : CA) (hT : TB wI p f t cs) (hs : CSrt cs) (hn : cs.length ≤ 1000) (hok : c.ok wI) (hgd : c.c.good) (hcn : c.va.n ≤ 100000) :
    Calls Tryz.prog 86 #[.pointer (some ⟨p, 0, none⟩), c.val] wI (WrPost wI p f t (cDel cs c.c.kv)) := by
  obtain ⟨W1, hW1⟩ : ∃ V, V = wI.alloc (.cells #[.string c.row, .string c.fam, .string c.qual, .int .u64 c.time, .slice c.va.ao c.va.n c.va.cap, .bool c.gone] 27) := ⟨_, rfl⟩
  have C1 : Below wI.heap.size wI W1 := by rw [hW1]; exact (Below.refl _ _).alloc (Nat.le_refl _) _
  have X1 : Arr W1 wI.heap.size 27 (#[.string c.row, .string c.fam, .string c.qual, .int .u64 c.time, .slice c.va.ao c.va.n c.va.cap, .bool c.gone]).toList := by rw [hW1]; exact heap_alloc_new wI _
  obtain ⟨u, A3, T3⟩ := hT.below C1
  have t2 : W1.cell? ⟨p, 2, none⟩ = some (.pointer u) := Arr.cell A3 2
  have x0 : W1.cell? ⟨wI.heap.size, 0, none⟩ = some (.string c.row) := X1.cell 0
  have x1 : W1.cell? ⟨wI.heap.size, 1, none⟩ = some (.string c.fam) := X1.cell 1
  have x2 : W1.cell? ⟨wI.heap.size, 2, none⟩ = some (.string c.qual) := X1.cell 2
  have x3 : W1.cell? ⟨wI.heap.size, 3, none⟩ = some (.int .u64 c.time) := X1.cell 3
  have x4 : W1.cell? ⟨wI.heap.size, 4, none⟩ = some (.slice c.va.ao c.va.n c.va.cap) := X1.cell 4
  have x5 : W1.cell? ⟨wI.heap.size, 5, none⟩ = some (.bool c.gone) := X1.cell 5
  have CI : Hid (∀ V, Below W1.heap.size W1 V → Calls Tryz.prog 10 #[.agg #[.string c.row, .string c.fam, .string c.qual, .int .u64 c.time, .slice c.va.ao c.va.n c.va.cap, .bool c.gone]] V fun e w' => ∃ ko kn kc vo vn vc, e = .returned (.agg #[.slice ko kn kc, .slice vo vn vc]) ∧ Sl w' ko kn kc (itm c.c).k ∧ Below V.heap.size V w') := fun V hV => by
    refine (titem_any V c ((hok.below C1).below hV) hcn).mono ?_
    rintro e w' ⟨ko, kn, kc, vo, vn, vc, rfl, SK, -, C2⟩
    rw [itK_right c (good_right c hgd)] at SK
    exact ⟨ko, kn, kc, vo, vn, vc, rfl, SK, C2⟩
  have CD : Hid (∀ V, Below W1.heap.size W1 V → ∀ ko kn kc, Sl V ko kn kc (itm c.c).k → Calls Tryz.prog 111 #[.pointer u, .slice ko kn kc] V fun e w' => ∃ un db, e = .returned (.tuple #[.pointer un, .bool db]) ∧ TT w' (.pointer un) ((cDel cs c.c.kv).map itm) ∧ Below V.heap.size V w') := fun V hV ko kn kc S1 => by
    refine (tdel_any V (.pointer u) (cs.map itm) (itm c.c).k ko kn kc (T3.below hV) hs S1 (by rw [List.length_map]; omega)).mono ?_
    rintro e w' ⟨un, db, rfl, h1, h2, h3⟩
    refine ⟨un, db, rfl, ?_, h3⟩
    rw [← del_itm]
    cases db with
    | true => exact (h1 rfl).2
    | false =>
      obtain ⟨hno, hu⟩ := h2 rfl
      rw [← hu, show del (cs.map itm) (keyL c.c.kv) = cs.map itm from del_none hs hno]
      exact (T3.below hV).below h3
  unfold CA.val
  go_enter Tryz.func86, Tryz.ntmps86
  go_wp2_with fail
  rw [← hW1]
  clear hW1 X1
  have zE0 : Below W1.heap.size W1 W1.drew := (Below.refl _ _).drew
  refine wp_region_noPanic ?_
  refine wp_region_held_drew (S := fun _ => True) (by kernel_rfl) trivial (fun _ => ?_)
  obtain ⟨zv0, hv0⟩ : ∃ v, v = W1.drew := ⟨_, rfl⟩
  rw [← hv0] at zE0 ⊢
  clear hv0
  refine hr_take_w 0 (some 5) (.pointer (some ⟨p, 0, none⟩)) rfl rfl (by kernel_rfl) (by kernel_rfl) (by kernel_rfl) rfl (fun W hW => by go_simp) trivial ?_
  simp only [Act.put, List.setIfInBounds_toArray, List.set_cons_zero, List.set_cons_succ]
  refine hr_take_w 1 (some 6) (.pointer (some ⟨p, 0, none⟩)) rfl rfl (by kernel_rfl) (by kernel_rfl) (by kernel_rfl) rfl (fun W hW => by go_simp) trivial ?_
  simp only [Act.put, List.setIfInBounds_toArray, List.set_cons_zero, List.set_cons_succ]
  refine hr_take_w 2 (some 7) (.pointer (some ⟨p, 0, none⟩)) rfl rfl (by kernel_rfl) (by kernel_rfl) (by kernel_rfl) rfl (fun W hW => by go_simp) trivial ?_
  simp only [Act.put, List.setIfInBounds_toArray, List.set_cons_zero, List.set_cons_succ]
  refine hr_take_w 3 (some 8) (.pointer (some ⟨p, 2, none⟩)) rfl rfl (by kernel_rfl) (by kernel_rfl) (by kernel_rfl) rfl (fun W hW => by go_simp) trivial ?_
  simp only [Act.put, List.setIfInBounds_toArray, List.set_cons_zero, List.set_cons_succ]
  refine wpAnyH_effto 6 (fun zi zv zw => (zi = 4 → zv = .pointer u) ∧ (zi = 5 → zv = .agg #[.string c.row, .string c.fam, .string c.qual, .int .u64 c.time, .slice c.va.ao c.va.n c.va.cap, .bool c.gone]) ∧ (zi = 6 → ∃ ko kn kc vo vn vc, zv = .agg #[.slice ko kn kc, .slice vo vn vc] ∧ Sl zw ko kn kc (itm c.c).k) ∧ (zi = 7 → ∃ ko kn kc, zv = .slice ko kn kc ∧ Sl zw ko kn kc (itm c.c).k) ∧ (zi = 8 → ∃ un db, zv = .tuple #[.pointer un, .bool db] ∧ TT zw (.pointer un) ((cDel cs c.c.kv).map itm))) [(4, 9), (5, 10), (6, 11), (7, 12), (8, 13)] 18 (by kernel_rfl) (by decide) (by decide) rfl ?_ (fun _ _ => trivial) ?_ ?_
  · intro zi v w w' h hb
    refine ⟨fun e => ?_, fun e => ?_, fun e => ?_, fun e => ?_, fun e => ?_⟩
    · have h := h.1 e
      exact h
    · have h := h.2.1 e
      exact h
    · have h := h.2.2.1 e
      obtain ⟨ko, kn, kc, vo, vn, vc, h1, h2⟩ := h
      exact ⟨ko, kn, kc, vo, vn, vc, h1, h2.below hb⟩
    · have h := h.2.2.2.1 e
      obtain ⟨ko, kn, kc, h1, h2⟩ := h
      exact ⟨ko, kn, kc, h1, h2.below hb⟩
    · have h := h.2.2.2.2 e
      obtain ⟨un, db, h1, h2⟩ := h
      exact ⟨un, db, h1, h2.below hb⟩
  · intro zp zhi o a w ho hs hb hdep
    have zEB := zE0.trans (hb.mono zE0.size)
    simp only [List.mem_cons, List.not_mem_nil, or_false] at zhi
    rcases zhi with rfl | rfl | rfl | rfl | rfl
    · obtain rfl : _ = o := Option.some.inj (show some _ = some o from ho)
      have t8 : a.tmps[8]? = some (.pointer (some ⟨p, 2, none⟩)) := hs.get 8 (by kernel_rfl) rfl
      have lc := (zEB.cell (World.block_lt_of_cell? _ _ t2)).trans t2
      exact .inl ⟨.pointer u, w, by go_simp, ⟨fun _ => rfl, fun e => absurd e (by decide), fun e => absurd e (by decide), fun e => absurd e (by decide), fun e => absurd e (by decide)⟩, Below.refl _ _⟩
    · obtain rfl : _ = o := Option.some.inj (show some _ = some o from ho)
      have t3 : a.tmps[3]? = some (.pointer (some ⟨wI.heap.size, 0, none⟩)) := hs.get 3 (by kernel_rfl) rfl
      have l0 := (zEB.cell (World.block_lt_of_cell? _ _ x0)).trans x0
      have l1 := (zEB.cell (World.block_lt_of_cell? _ _ x1)).trans x1
      have l2 := (zEB.cell (World.block_lt_of_cell? _ _ x2)).trans x2
      have l3 := (zEB.cell (World.block_lt_of_cell? _ _ x3)).trans x3
      have l4 := (zEB.cell (World.block_lt_of_cell? _ _ x4)).trans x4
      have l5 := (zEB.cell (World.block_lt_of_cell? _ _ x5)).trans x5
      exact .inl ⟨.agg #[.string c.row, .string c.fam, .string c.qual, .int .u64 c.time, .slice c.va.ao c.va.n c.va.cap, .bool c.gone], w, by go_simp, ⟨fun e => absurd e (by decide), fun _ => rfl, fun e => absurd e (by decide), fun e => absurd e (by decide), fun e => absurd e (by decide)⟩, Below.refl _ _⟩
    · obtain rfl : _ = o := Option.some.inj (show some _ = some o from ho)
      obtain ⟨x10, t10, f10⟩ := (hdep 5 (by kernel_rfl)).at 10 (by kernel_rfl)
      replace f10 := f10.2.1 rfl
      subst f10
      refine .inr ⟨10, #[.agg #[.string c.row, .string c.fam, .string c.qual, .int .u64 c.time, .slice c.va.ao c.va.n c.va.cap, .bool c.gone]], by go_simp, (CI.out w zEB).mono ?_⟩
      rintro e w' ⟨ko, kn, kc, vo, vn, vc, rfl, S1, C⟩
      exact ⟨_, rfl, ⟨fun e => absurd e (by decide), fun e => absurd e (by decide), fun _ => ⟨ko, kn, kc, vo, vn, vc, rfl, S1⟩, fun e => absurd e (by decide), fun e => absurd e (by decide)⟩, C⟩
    · obtain rfl : _ = o := Option.some.inj (show some _ = some o from ho)
      obtain ⟨x11, t11, f11⟩ := (hdep 6 (by kernel_rfl)).at 11 (by kernel_rfl)
      replace f11 := f11.2.2.1 rfl
      obtain ⟨ko, kn, kc, vo, vn, vc, rfl, S1⟩ := f11
      have hfd : (Instr.field 29 (.agg #[.slice ko kn kc, .slice vo vn vc]) 0).run Tryz.prog w = .ok (.slice ko kn kc) w := by kernel_rfl
      exact .inl ⟨.slice ko kn kc, w, by go_simp, ⟨fun e => absurd e (by decide), fun e => absurd e (by decide), fun e => absurd e (by decide), fun _ => ⟨ko, kn, kc, rfl, S1⟩, fun e => absurd e (by decide)⟩, Below.refl _ _⟩
    · obtain rfl : _ = o := Option.some.inj (show some _ = some o from ho)
      obtain ⟨x9, t9, f9⟩ := (hdep 4 (by kernel_rfl)).at 9 (by kernel_rfl)
      replace f9 := f9.1 rfl
      obtain ⟨x12, t12, f12⟩ := (hdep 7 (by kernel_rfl)).at 12 (by kernel_rfl)
      replace f12 := f12.2.2.2.1 rfl
      subst f9
      obtain ⟨ko, kn, kc, rfl, S1⟩ := f12
      refine .inr ⟨111, #[.pointer u, .slice ko kn kc], by go_simp, (CD.out w zEB ko kn kc S1).mono ?_⟩
      rintro e w' ⟨un, db, rfl, T1, C⟩
      exact ⟨_, rfl, ⟨fun e => absurd e (by decide), fun e => absurd e (by decide), fun e => absurd e (by decide), fun e => absurd e (by decide), fun _ => ⟨un, db, rfl, T1⟩⟩, C⟩
  intro zf zv1 hb hh
  have zE1 := zE0.trans (hb.mono zE0.size)
  obtain e4 := (hh (4, 9) (by simp)).1 rfl
  obtain e5 := (hh (5, 10) (by simp)).2.1 rfl
  obtain ⟨un, db, e8, T4⟩ := (hh (8, 13) (by simp)).2.2.2.2 rfl
  clear hh hb
  simp only [putL, List.foldl_cons, List.foldl_nil, e4, e5, e8]
  clear e4 e5 e8
  simp only [Act.put, List.setIfInBounds_toArray, List.set_cons_zero, List.set_cons_succ]
  have A4 := arr_below A3 zE1
  have f2 := Arr.free A4 2
  have t2' : zv1.cell? ⟨p, 2, none⟩ = some (.pointer u) := Arr.cell A4 2
  refine hr_take_w 9 (some 4) (.tuple #[.pointer un, .bool db]) rfl rfl (by kernel_rfl) (by kernel_rfl) (by kernel_rfl) rfl (fun W hW => by go_simp) trivial ?_
  simp only [Act.put, List.setIfInBounds_toArray, List.set_cons_zero, List.set_cons_succ]
  refine hr_take_w 10 (some 14) (.pointer un) rfl rfl (by kernel_rfl) (by kernel_rfl) (by kernel_rfl) rfl (fun W hW => by go_simp) trivial ?_
  simp only [Act.put, List.setIfInBounds_toArray, List.set_cons_zero, List.set_cons_succ]
  refine hr_take_w 11 (some 15) (.bool db) rfl rfl (by kernel_rfl) (by kernel_rfl) (by kernel_rfl) rfl (fun W hW => by go_simp) trivial ?_
  simp only [Act.put, List.setIfInBounds_toArray, List.set_cons_zero, List.set_cons_succ]
  refine hr_take_w 12 (some 16) (.pointer (some ⟨p, 0, none⟩)) rfl rfl (by kernel_rfl) (by kernel_rfl) (by kernel_rfl) rfl (fun W hW => by go_simp) trivial ?_
  simp only [Act.put, List.setIfInBounds_toArray, List.set_cons_zero, List.set_cons_succ]
  refine hr_take_w 13 (some 17) (.pointer (some ⟨p, 2, none⟩)) rfl rfl (by kernel_rfl) (by kernel_rfl) (by kernel_rfl) rfl (fun W hW => by go_simp) trivial ?_
  simp only [Act.put, List.setIfInBounds_toArray, List.set_cons_zero, List.set_cons_succ]
  refine hr_skip 14 none (w' := zv1.setCell ⟨p, 2, none⟩ (.pointer un)) rfl rfl (by kernel_rfl) rfl (by go_simp) trivial ?_
  simp only [Act.put]
  refine wpAnyH_done (by kernel_rfl) ?_ _
  refine NoPanic.normal ?_
  go_wp2
  have KW : Wr p zv1 (zv1.setCell ⟨p, 2, none⟩ (.pointer un)) := (Wr.refl _ _).set 2 _
  exact bodyPost_ret (v := .tuple #[]) (by simp [results, Tryz.results86, go_sem]) rfl ⟨rfl, ⟨un, Arr.set A4 2 (.pointer un), T4.tb A4 KW⟩, (Wr.of (C1.trans (zE1.mono C1.size))).trans KW⟩
end Go.Proofs.YtnicnfjickknjaaGreatDoor

/-
  Texts in one: TbLay, TbPut, Less, TbRow.
-/
import Derived.Test.YtlljmhcgjkolpaaGreatDoorSplitCutsQFL
import Derived.Test.YtlljmhcgjkolpaaGreatDoorSplitCutsQ8
import Derived.Test.YtlljmhcgjkolpaaGreatDoorSplitCutsQ17
import Derived.Test.YtlljmhcgjkolpaaGreatDoorSplitCutsQ3
import Derived.Test.YtlljmhcgjkolpaaGreatDoorSplitCutsQ10
import Derived.Test.YtlljmhcgjkolpaaGreatDoorSplitCutsQ0
import Derived.Test.YtlljmhcgjkolpaaGreatDoorSplitCutsQ7
namespace Go.Proofs.YtlljmhcgjkolpaaGreatDoor
open Go.RowKit
theorem itK_right (c : CA) (hr : c.key.isRight = true) : itK c = (itm c.c).k := by unfold itK; rw [hr]; rfl
theorem good_right (c : CA) (h : c.c.good) : c.key.isRight = true := by
  rw [KA.isRight_kv]
  exact decide_eq_true h.right
theorem jL_good (c : CA) (k v : Part) (hk : k.n = (itm c.c).k.length) (hv : v.n = (itm c.c).v.length) (h : c.c.good) : jL [⟨k, v⟩] 0 = 0 := by
  have h1 := keyL_le h.right
  have h2 := keyL_len c.c.kv
  have h3 := itV_len c.c
  have h4 := h.val
  have e1 : k.n = (keyL c.c.kv).length := hk
  have e2 : v.n = (itV c.c).length := hv
  have b1 : badK k.n = false := decide_eq_false (by omega)
  have b2 : ¬ 1024 < v.n := by omega
  simp only [jL, b1, b2, if_false, Bool.false_eq_true]
def WrPost (w : World) (p : Nat) (f t : ByteArray) (cs : List CV) (e : Ending) (w' : World) : Prop := e = .returned (.tuple #[]) ∧ TB w' p f t cs ∧ Wr p w w'
set_option maxHeartbeats 2000000 in
set_option maxRecDepth 100000 in
theorem lay_any (w : World) (p : Nat) (f t : ByteArray) (cs : List CV) (c : CA) (hTb : Tabs w) (hT : TB w p f t cs) (hs : CSrt cs) (hn : cs.length ≤ 1000) (hok : c.ok w) (hgd : c.c.good) (hcn : c.va.n ≤ 100000) :
    Calls Tryz.prog 31 #[.pointer (some ⟨p, 0, none⟩), c.val] w (WrPost w p f t (cIns cs c.c)) := by
  have h2 := hTb.two
  obtain ⟨W1, hW1⟩ : ∃ V, V = w.alloc (.cells #[.string c.row, .string c.fam, .string c.qual, .int .u64 c.time, .slice c.va.ao c.va.n c.va.cap, .bool c.gone] 33) := ⟨_, rfl⟩
  have C1 : Below w.heap.size w W1 := by rw [hW1]; exact (Below.refl _ _).alloc (Nat.le_refl _) _
  have CI := titem_any W1 c (hok.below C1) hcn
  unfold CA.val at CI ⊢
  go_enter Tryz.func31, Tryz.ntmps31
  go_wp2_with fail
  rw [← hW1]
  refine CI.mono ?_
  rintro e w2 ⟨ko, kn, kc, vo, vn, vc, rfl, SK, SV, C2⟩
  rw [itK_right c (good_right c hgd)] at SK
  have B2 := C1.trans (C2.mono C1.size)
  clear CI hW1
  obtain ⟨W3, hW3⟩ : ∃ V, V = w2.alloc (.cells #[.slice ko kn kc, .slice vo vn vc] 105) := ⟨_, rfl⟩
  have C3 : Below w2.heap.size w2 W3 := by rw [hW3]; exact (Below.refl _ _).alloc (Nat.le_refl _) _
  have X3 : Arr W3 w2.heap.size 105 [.slice ko kn kc, .slice vo vn vc] := by rw [hW3]; exact heap_alloc_new w2 _
  have B3 := B2.trans (C3.mono B2.size)
  obtain ⟨u, A3, T3⟩ := hT.below B3
  have t2 : W3.cell? ⟨p, 2, none⟩ = some (.pointer u) := Arr.cell A3 2
  have x0 : W3.cell? ⟨w2.heap.size, 0, none⟩ = some (.slice ko kn kc) := X3.cell 0
  have x1 : W3.cell? ⟨w2.heap.size, 1, none⟩ = some (.slice vo vn vc) := X3.cell 1
  have kl : Hid (kn = (itm c.c).k.length) := SK.len.symm
  have vl : Hid (vn = (itm c.c).v.length) := SV.len.symm
  have k1 := keyL_le hgd.right
  have v1 := itV_len c.c
  have v2 := hgd.val
  have k2 : kn ≤ 256 := by rw [kl.out]; exact k1
  have v3 : vn ≤ 257 := by rw [vl.out]; show (itV c.c).length ≤ _; omega
  have CP : Hid (∀ V, Below W3.heap.size W3 V → Calls Tryz.prog 70 #[.pointer u, .slice ko kn kc, .slice vo vn vc] V fun e w' => ∃ un, e = .returned (.tuple #[.pointer un, .int .i64 0]) ∧ TT w' (.pointer un) ((cIns cs c.c).map itm) ∧ Below V.heap.size V w') := fun V hV => by
    have BV := B3.trans (hV.mono B3.size)
    refine (tput_any V (.pointer u) (cs.map itm) (itm c.c) ko vo kn kc vn vc (hTb.below BV h2) (T3.below hV) hs ((SK.below C3).below hV) ((SV.below C3).below hV) (by omega) (by omega) (by rw [List.length_map]; omega) 0 (jL_good c ⟨ko, kn, kc, (itm c.c).k⟩ ⟨vo, vn, vc, (itm c.c).v⟩ kl.out vl.out hgd)).mono ?_
    rintro e w' ⟨un, rfl, h1, -, h3⟩
    have h4 := h1 rfl
    rw [ins_itm] at h4
    exact ⟨un, rfl, h4, h3⟩
  go_wp2_with fail
  rw [← hW3]
  clear hW3 X3 SK SV C2 C3 kl vl k1 v1 v2
  have zE0 : Below W3.heap.size W3 W3.drew := (Below.refl _ _).drew
  refine wp_region_noPanic ?_
  refine wp_region_held_drew (S := fun _ => True) (by kernel_rfl) trivial (fun _ => ?_)
  obtain ⟨zv0, hv0⟩ : ∃ v, v = W3.drew := ⟨_, rfl⟩
  rw [← hv0] at zE0 ⊢
  clear hv0
  refine hr_take_w 0 (some 8) (.pointer (some ⟨p, 0, none⟩)) rfl rfl (by kernel_rfl) (by kernel_rfl) (by kernel_rfl) rfl (fun W hW => by go_simp) trivial ?_
  simp only [FL]
  refine hr_take_w 1 (some 9) (.pointer (some ⟨p, 0, none⟩)) rfl rfl (by kernel_rfl) (by kernel_rfl) (by kernel_rfl) rfl (fun W hW => by go_simp) trivial ?_
  simp only [FL]
  refine hr_take_w 2 (some 10) (.pointer (some ⟨p, 0, none⟩)) rfl rfl (by kernel_rfl) (by kernel_rfl) (by kernel_rfl) rfl (fun W hW => by go_simp) trivial ?_
  simp only [FL]
  refine hr_take_w 3 (some 11) (.pointer (some ⟨p, 2, none⟩)) rfl rfl (by kernel_rfl) (by kernel_rfl) (by kernel_rfl) rfl (fun W hW => by go_simp) trivial ?_
  simp only [FL]
  refine hr_take_w 5 (some 13) (.pointer (some ⟨w2.heap.size, 0, none⟩)) rfl rfl (by kernel_rfl) (by kernel_rfl) (by kernel_rfl) rfl (fun W hW => by go_simp) trivial ?_
  simp only [FL]
  refine hr_take_w 7 (some 15) (.pointer (some ⟨w2.heap.size, 1, none⟩)) rfl rfl (by kernel_rfl) (by kernel_rfl) (by kernel_rfl) rfl (fun W hW => by go_simp) trivial ?_
  simp only [FL]
  refine wpAnyH_effto 6 (fun zi zv zw => (zi = 4 → zv = .pointer u) ∧ (zi = 6 → zv = .slice ko kn kc) ∧ (zi = 8 → zv = .slice vo vn vc) ∧ (zi = 9 → ∃ un, zv = .tuple #[.pointer un, .int .i64 0] ∧ TT zw (.pointer un) ((cIns cs c.c).map itm))) [(4, 12), (6, 14), (8, 16), (9, 17)] 22 (by kernel_rfl) (by decide) (by decide) rfl ?_ (fun _ _ => trivial) ?_ ?_
  · intro zi v w w' h hb
    refine ⟨fun e => ?_, fun e => ?_, fun e => ?_, fun e => ?_⟩
    · have h := h.1 e
      exact h
    · have h := h.2.1 e
      exact h
    · have h := h.2.2.1 e
      exact h
    · have h := h.2.2.2 e
      obtain ⟨un, h1, h2⟩ := h
      exact ⟨un, h1, h2.below hb⟩
  · intro zp zhi o a w ho hs hb hdep
    have zEB := zE0.trans (hb.mono zE0.size)
    simp only [List.mem_cons, List.not_mem_nil, or_false] at zhi
    rcases zhi with rfl | rfl | rfl | rfl
    · obtain rfl : _ = o := Option.some.inj (show some _ = some o from ho)
      have t11 : a.tmps[11]? = some (.pointer (some ⟨p, 2, none⟩)) := hs.get 11 (by kernel_rfl) rfl
      have lc := (zEB.cell (World.block_lt_of_cell? _ _ t2)).trans t2
      exact .inl ⟨.pointer u, w, by go_simp, ⟨fun _ => rfl, fun e => absurd e (by decide), fun e => absurd e (by decide), fun e => absurd e (by decide)⟩, Below.refl _ _⟩
    · obtain rfl : _ = o := Option.some.inj (show some _ = some o from ho)
      have t13 : a.tmps[13]? = some (.pointer (some ⟨w2.heap.size, 0, none⟩)) := hs.get 13 (by kernel_rfl) rfl
      have lc := (zEB.cell (World.block_lt_of_cell? _ _ x0)).trans x0
      exact .inl ⟨.slice ko kn kc, w, by go_simp, ⟨fun e => absurd e (by decide), fun _ => rfl, fun e => absurd e (by decide), fun e => absurd e (by decide)⟩, Below.refl _ _⟩
    · obtain rfl : _ = o := Option.some.inj (show some _ = some o from ho)
      have t15 : a.tmps[15]? = some (.pointer (some ⟨w2.heap.size, 1, none⟩)) := hs.get 15 (by kernel_rfl) rfl
      have lc := (zEB.cell (World.block_lt_of_cell? _ _ x1)).trans x1
      exact .inl ⟨.slice vo vn vc, w, by go_simp, ⟨fun e => absurd e (by decide), fun e => absurd e (by decide), fun _ => rfl, fun e => absurd e (by decide)⟩, Below.refl _ _⟩
    · obtain rfl : _ = o := Option.some.inj (show some _ = some o from ho)
      obtain ⟨x12, t12, f12⟩ := (hdep 4 (by kernel_rfl)).at 12 (by kernel_rfl)
      replace f12 := f12.1 rfl
      obtain ⟨x14, t14, f14⟩ := (hdep 6 (by kernel_rfl)).at 14 (by kernel_rfl)
      replace f14 := f14.2.1 rfl
      obtain ⟨x16, t16, f16⟩ := (hdep 8 (by kernel_rfl)).at 16 (by kernel_rfl)
      replace f16 := f16.2.2.1 rfl
      subst f12 f14 f16
      refine .inr ⟨70, #[.pointer u, .slice ko kn kc, .slice vo vn vc], by go_simp, (CP.out w zEB).mono ?_⟩
      rintro e w' ⟨un, rfl, T1, C⟩
      exact ⟨_, rfl, ⟨fun e => absurd e (by decide), fun e => absurd e (by decide), fun e => absurd e (by decide), fun _ => ⟨un, rfl, T1⟩⟩, C⟩
  intro zf zv1 hb hh
  have zE1 := zE0.trans (hb.mono zE0.size)
  obtain e4 := (hh (4, 12) (by simp)).1 rfl
  obtain e6 := (hh (6, 14) (by simp)).2.1 rfl
  obtain e8 := (hh (8, 16) (by simp)).2.2.1 rfl
  obtain ⟨un, e9, T4⟩ := (hh (9, 17) (by simp)).2.2.2 rfl
  clear hh hb
  simp only [putL, List.foldl_cons, List.foldl_nil, e4, e6, e8, e9]
  clear e4 e6 e8 e9
  simp only [FL]
  have A4 := arr_below A3 zE1
  have f2 := Arr.free A4 2
  have t2' : zv1.cell? ⟨p, 2, none⟩ = some (.pointer u) := Arr.cell A4 2
  refine hr_take_w 10 (some 7) (.tuple #[.pointer un, .int .i64 0]) rfl rfl (by kernel_rfl) (by kernel_rfl) (by kernel_rfl) rfl (fun W hW => by go_simp) trivial ?_
  simp only [FL]
  refine hr_take_w 11 (some 18) (.pointer un) rfl rfl (by kernel_rfl) (by kernel_rfl) (by kernel_rfl) rfl (fun W hW => by go_simp) trivial ?_
  simp only [FL]
  refine hr_take_w 12 (some 19) (.int .i64 0) rfl rfl (by kernel_rfl) (by kernel_rfl) (by kernel_rfl) rfl (fun W hW => by go_simp) trivial ?_
  simp only [FL]
  refine hr_take_w 13 (some 20) (.pointer (some ⟨p, 0, none⟩)) rfl rfl (by kernel_rfl) (by kernel_rfl) (by kernel_rfl) rfl (fun W hW => by go_simp) trivial ?_
  simp only [FL]
  refine hr_take_w 14 (some 21) (.pointer (some ⟨p, 2, none⟩)) rfl rfl (by kernel_rfl) (by kernel_rfl) (by kernel_rfl) rfl (fun W hW => by go_simp) trivial ?_
  simp only [FL]
  refine hr_skip 15 none (w' := zv1.setCell ⟨p, 2, none⟩ (.pointer un)) rfl rfl (by kernel_rfl) rfl (by go_simp) trivial ?_
  simp only [Act.put]
  refine wpAnyH_done (by kernel_rfl) ?_ _
  refine NoPanic.normal ?_
  go_wp2
  have KW : Wr p zv1 (zv1.setCell ⟨p, 2, none⟩ (.pointer un)) := (Wr.refl _ _).set 2 _
  exact bodyPost_ret (v := .tuple #[]) (by simp [results, Tryz.results31, go_sem]) rfl ⟨rfl, ⟨un, Arr.set A4 2 (.pointer un), T4.tb A4 KW⟩, (Wr.of (B3.trans (zE1.mono B3.size))).trans KW⟩
open Go.RowKit
def CV.ky (c : CV) : KA := ⟨c.row, c.fam, c.qual, c.time⟩
open Go.RowKit
theorem less_cmp : ∀ a b : List UInt8, Op.bytesLess a b = decide (cmpL (a.map fun c => (c.toNat : Int)) (b.map fun c => (c.toNat : Int)) < 0)
  | [], [] => rfl
  | _ :: _, [] => rfl
  | [], _ :: _ => rfl
  | a :: x, b :: y => by
    rw [Op.bytesLess, less_cmp x y, List.map_cons, List.map_cons, cmpL_cons]
    by_cases e : a = b
    · subst e
      have h : ¬ a < a := UInt8.lt_irrefl a
      simp [h]
    · have hn : a.toNat ≠ b.toNat := fun h => e (UInt8.toNat_inj.1 h)
      have hb : (a == b) = false := by simp [e]
      rw [hb, if_neg (by omega)]
      by_cases l : a < b
      · have l2 : (a.toNat : Int) < (b.toNat : Int) := by have := UInt8.lt_iff_toNat_lt.1 l; omega
        rw [if_pos l2]
        simp [l]
      · have l2 : ¬ (a.toNat : Int) < (b.toNat : Int) := fun h => l (UInt8.lt_iff_toNat_lt.2 (by omega))
        rw [if_neg l2]
        simp [l]
theorem less_sb (s t : ByteArray) : Op.bytesLess s.toList t.toList = decide (cmpL (sb s) (sb t) < 0) := by
  rw [ByteArray.toList_eq, ByteArray.toList_eq, less_cmp]
  rfl
open Go.RowKit
set_option maxHeartbeats 1000000 in
theorem hasRow_any (w : World) (p : Nat) (f t r : ByteArray) (u : Option Addr) (h : TbC w p f t u) :
    Calls Tryz.prog 64 #[.pointer (some ⟨p, 0, none⟩), .string r] w fun e w' => e = .returned (.bool (inRows f t r)) ∧ w' = w := by
  have c0 : w.cell? ⟨p, 0, none⟩ = some (.string f) := Arr.cell h 0
  have c1 : w.cell? ⟨p, 1, none⟩ = some (.string t) := Arr.cell h 1
  clear h
  by_cases e1 : cmpL (sb r) (sb f) < 0
  · have HV : Hid (inRows f t r = false) := decide_eq_false fun h => h.1 e1
    have l1 : Op.bytesLess r.toList f.toList = true := by rw [less_sb]; exact decide_eq_true e1
    clear e1
    go_enter Tryz.func64, Tryz.ntmps64
    go_wp2
    go_ret
    exact ⟨by rw [HV.out] <;> rfl, rfl⟩
  have l1 : Op.bytesLess r.toList f.toList = false := by rw [less_sb]; exact decide_eq_false e1
  by_cases hz : t.size = 0
  · have HV : Hid (inRows f t r = true) := decide_eq_true ⟨e1, .inl hz⟩
    have e0 : (t.toList == (ByteArray.mk #[]).toList) = true := by rw [empty_of hz]; simp
    have ee : t.toList.isEmpty = true := by rw [toE]; exact decide_eq_true hz
    clear e1 hz
    go_enter Tryz.func64, Tryz.ntmps64
    go_wp2
    go_ret
    exact ⟨by rw [HV.out] <;> rfl, rfl⟩
  have e0 : (t.toList == (ByteArray.mk #[]).toList) = false := toL_ne (fun h => hz (by rw [h]; rfl))
  have e1' : (t.toList == []) = false := by rw [← e0]; congr 1; simp
  have ee : t.toList.isEmpty = false := by rw [toE]; exact decide_eq_false hz
  by_cases e2 : cmpL (sb r) (sb t) < 0
  · have HV : Hid (inRows f t r = true) := decide_eq_true ⟨e1, .inr e2⟩
    have l2 : Op.bytesLess r.toList t.toList = true := by rw [less_sb]; exact decide_eq_true e2
    clear e1 e2 hz
    go_enter Tryz.func64, Tryz.ntmps64
    go_wp2
    go_ret
    exact ⟨by rw [HV.out] <;> rfl, rfl⟩
  · have HV : Hid (inRows f t r = false) := decide_eq_false fun h => h.2.elim hz e2
    have l2 : Op.bytesLess r.toList t.toList = false := by rw [less_sb]; exact decide_eq_false e2
    clear e1 e2 hz
    go_enter Tryz.func64, Tryz.ntmps64
    go_wp2
    go_ret
    exact ⟨by rw [HV.out] <;> rfl, rfl⟩
def newK (f t : ByteArray) : Int := if f.size ≤ 32 ∧ t.size ≤ 32 ∧ (t.size = 0 ∨ cmpL (sb f) (sb t) < 0) then 0 else 1
def NewPost (w : World) (f t : ByteArray) (e : Ending) (w' : World) : Prop :=
  (newK f t = 0 ∧ e = .returned (.tuple #[.pointer (some ⟨w.heap.size, 0, none⟩), .int .i64 0]) ∧ TB w' w.heap.size f t [] ∧ Below w.heap.size w w') ∨ (newK f t = 1 ∧ e = .returned (.tuple #[.pointer none, .int .i64 1]) ∧ w' = w)
theorem newOk (f t : ByteArray) (h : f.size ≤ 32 ∧ t.size ≤ 32 ∧ (t.size = 0 ∨ cmpL (sb f) (sb t) < 0)) : newK f t = 0 := if_pos h
theorem TB.new (w : World) (f t : ByteArray) : TB (w.alloc (.cells #[.string f, .string t, .pointer none] 87)) w.heap.size f t [] := ⟨none, heap_alloc_new w _, TT.nil _⟩
set_option maxHeartbeats 1000000 in
theorem tnew_any (w : World) (f t : ByteArray) (hf : f.size ≤ 1000000) (ht : t.size ≤ 1000000) : Calls Tryz.prog 29 #[.string f, .string t] w (NewPost w f t) := by
  have hfi : (f.size : Int) ≤ 1000000 := by omega
  have hti : (t.size : Int) ≤ 1000000 := by omega
  have X := TB.new w f t
  have B : Below w.heap.size w (w.alloc (.cells #[.string f, .string t, .pointer none] 87)) := (Below.refl _ _).alloc (Nat.le_refl _) _
  by_cases g1 : f.size ≤ 32
  case neg =>
    have i1 : (32 : Int) < (f.size : Int) := by omega
    have HV : Hid (newK f t = 1) := by show _ = _; unfold newK; rw [if_neg (fun h => g1 h.1)]
    go_enter Tryz.func29, Tryz.ntmps29
    go_wp2
    go_ret2
    exact .inr ⟨HV.out, rfl, rfl⟩
  have i1 : (f.size : Int) ≤ 32 := by omega
  by_cases g2 : t.size ≤ 32
  case neg =>
    have i2 : (32 : Int) < (t.size : Int) := by omega
    have HV : Hid (newK f t = 1) := by show _ = _; unfold newK; rw [if_neg (fun h => g2 h.2.1)]
    go_enter Tryz.func29, Tryz.ntmps29
    go_wp2
    go_ret2
    exact .inr ⟨HV.out, rfl, rfl⟩
  have i2 : (t.size : Int) ≤ 32 := by omega
  by_cases hz : t.size = 0
  · have HV : Hid (newK f t = 0) := newOk f t ⟨g1, g2, .inl hz⟩
    have e0 : (t.toList == (ByteArray.mk #[]).toList) = true := by rw [empty_of hz]; simp
    have ee : t.toList.isEmpty = true := by rw [toE]; exact decide_eq_true hz
    clear hz
    go_enter Tryz.func29, Tryz.ntmps29
    go_wp2
    go_ret2
    exact .inl ⟨HV.out, rfl, X, B⟩
  have e0 : (t.toList == (ByteArray.mk #[]).toList) = false := toL_ne (fun h => hz (by rw [h]; rfl))
  have e1' : (t.toList == []) = false := by rw [← e0]; congr 1; simp
  have ee : t.toList.isEmpty = false := by rw [toE]; exact decide_eq_false hz
  by_cases e2 : cmpL (sb f) (sb t) < 0
  · have HV : Hid (newK f t = 0) := newOk f t ⟨g1, g2, .inr e2⟩
    have l2 : Op.bytesLess t.toList f.toList = false := by rw [less_sb]; exact decide_eq_false (cmpL_asym e2)
    have l3 : (t.toList == f.toList) = false := toL_ne fun h => by rw [h] at e2; exact cmpL_irr _ e2
    have l4 : Op.bytesLess f.toList t.toList = true := by rw [less_sb]; exact decide_eq_true e2
    clear e2 hz
    go_enter Tryz.func29, Tryz.ntmps29
    go_wp2
    go_ret2
    exact .inl ⟨HV.out, rfl, X, B⟩
  · have l4 : Op.bytesLess f.toList t.toList = false := by rw [less_sb]; exact decide_eq_false e2
    have l5 : (Op.bytesLess t.toList f.toList || t.toList == f.toList) = true := by
      rw [less_sb]
      rcases cmpL_total (sb t) (sb f) with h | h | h
      · rw [decide_eq_true h]; rfl
      · rw [sb_inj h]; simp
      · exact absurd h e2
    have HV : Hid (newK f t = 1) := by show _ = _; unfold newK; rw [if_neg (fun h => h.2.2.elim hz e2)]
    go_enter Tryz.func29, Tryz.ntmps29
    go_wp2
    go_ret2
    exact .inr ⟨HV.out, rfl, rfl⟩
end Go.Proofs.YtlljmhcgjkolpaaGreatDoor

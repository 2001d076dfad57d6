/-
  Texts in one: CCol, RbCol.
-/
import Derived.Test.YtlljmhcgjkolpaaGreatDoorSplitCutsQFL
import Derived.Test.YtlljmhcgjkolpaaGreatDoorSplitCutsQ4
import Derived.Test.YtlljmhcgjkolpaaGreatDoorSplitCutsQ24
namespace Go.Proofs.YtlljmhcgjkolpaaGreatDoor
open Go.RowKit
set_option maxRecDepth 100000 in
set_option maxHeartbeats 2000000 in
theorem rcolumn_any (w : World) (a b : KA) :
    Calls Tryz.prog 72 #[a.val, b.val] w fun e w' => e = .returned (.bool (a.col b)) ∧ Below w.heap.size w w' := by
  have B : Below w.heap.size w ((w.alloc (Obj.cells #[.string a.row, .string a.fam, .string a.qual, .int .u64 a.time] 24)).alloc (Obj.cells #[.string b.row, .string b.fam, .string b.qual, .int .u64 b.time] 24)) := ((Below.refl _ w).alloc (Nat.le_refl _) _).alloc (by simp) _
  unfold KA.val
  by_cases e1 : a.row = b.row
  · have t1 : (a.row.toList == b.row.toList) = true := by rw [e1]; simp
    by_cases e2 : a.fam = b.fam
    · have t2 : (a.fam.toList == b.fam.toList) = true := by rw [e2]; simp
      by_cases e3 : a.qual = b.qual
      · have t3 : (a.qual.toList == b.qual.toList) = true := by rw [e3]; simp
        have hv : Hid (a.col b = true) := decide_eq_true ⟨e1, e2, e3⟩
        clear e1 e2 e3
        go_enter Tryz.func72, Tryz.ntmps72
        go_wp2
        go_ret
        exact ⟨by rw [hv.out] <;> rfl, B⟩
      · have t3 := toL_ne e3
        have hv : Hid (a.col b = false) := decide_eq_false fun h => e3 h.2.2
        clear e1 e2 e3
        go_enter Tryz.func72, Tryz.ntmps72
        go_wp2
        go_ret
        exact ⟨by rw [hv.out] <;> rfl, B⟩
    · have t2 := toL_ne e2
      have hv : Hid (a.col b = false) := decide_eq_false fun h => e2 h.2.1
      clear e1 e2
      go_enter Tryz.func72, Tryz.ntmps72
      go_wp2
      go_ret
      exact ⟨by rw [hv.out] <;> rfl, B⟩
  · have t1 := toL_ne e1
    have hv : Hid (a.col b = false) := decide_eq_false fun h => e1 h.1
    clear e1
    go_enter Tryz.func72, Tryz.ntmps72
    go_wp2
    go_ret
    exact ⟨by rw [hv.out] <;> rfl, B⟩
open Go.RowKit
set_option maxHeartbeats 4000000 in
set_option maxRecDepth 100000 in
theorem rcol10_any (w : World) (ao : Option Addr) (n cap : Nat) (l : List CA) (k : KA) (L : CL w ao n cap l) (hn : n ≤ 1000) :
    Calls Tryz.prog 36 #[.slice ao n cap, k.val] w (LsPost w ((l.map CA.c).filter fun c => c.col k)) := by
  have hl1 := Nat.le_of_eq L.len
  have hl2 := Nat.le_of_eq L.len.symm
  obtain ⟨W1, hW1⟩ : ∃ V, V = w.alloc (.cells #[.string k.row, .string k.fam, .string k.qual, .int .u64 k.time] 24) := ⟨_, rfl⟩
  have C1 : Below w.heap.size w W1 := by rw [hW1]; exact (Below.refl _ _).alloc (Nat.le_refl _) _
  have K1 : Arr W1 w.heap.size 24 [.string k.row, .string k.fam, .string k.qual, .int .u64 k.time] := by rw [hW1]; exact heap_alloc_new w _
  have s1 := C1.size
  unfold KA.val
  go_enter Tryz.func36, Tryz.ntmps36
  go_wp2
  rw [← hW1]
  clear hW1
  have L1 := L.below C1
  have HOK : Hid (∀ c ∈ l, c.ok w) := L.ok
  go_loopw [5, 6] (fun v i wr => ∃ (j : Nat) (l2 : List CA), j ≤ n ∧ i = .int .i64 j ∧ CNew w wr W1.heap.size v l2 ∧ Hid (l2.map CA.c = ((l.take j).map CA.c).filter fun c => c.col k) ∧ l2.length ≤ j ∧ Below W1.heap.size W1 wr) (fun _ i _ => n - (intOf i).toNat)
  case atStart => exact ⟨0, [], Nat.zero_le _, rfl, CNew.nil _ _ _, rfl, Nat.le_refl _, Below.refl _ _⟩
  case round =>
    obtain ⟨j, l2, hj, rfl, N0, HM, hlj, B1⟩ := hrel
    by_cases hlt : j < n
    · have hjl : j < l.length := by omega
      have hji : (j : Int) < (n : Int) := by omega
      obtain ⟨b, off, ea, hc⟩ := L1.at (by omega)
      have X := (hc j hjl).below B1
      have K2 := arr_below K1 B1
      have k0 : wr.cell? ⟨w.heap.size, 0, none⟩ = some (.string k.row) := K2.cell 0
      have k1 : wr.cell? ⟨w.heap.size, 1, none⟩ = some (.string k.fam) := K2.cell 1
      have k2 : wr.cell? ⟨w.heap.size, 2, none⟩ = some (.string k.qual) := K2.cell 2
      have k3 : wr.cell? ⟨w.heap.size, 3, none⟩ = some (.int .u64 k.time) := K2.cell 3
      have hok : l[j].ok w := HOK.out _ (List.getElem_mem hjl)
      have HTK : Hid ((l.take (j + 1)).map CA.c = (l.take j).map CA.c ++ [l[j].c]) := by
        show _ = _
        rw [List.take_succ_eq_append_getElem hjl, List.map_append]
        rfl
      obtain ⟨c, hce⟩ : ∃ c, c = l[j] := ⟨_, rfl⟩
      rw [← hce] at X hok HTK
      obtain ⟨cb, hcb⟩ : ∃ b, b = c.key.col k := ⟨_, rfl⟩
      have HCF : Hid (c.c.col k = cb) := by
        show _ = _
        rw [hcb]
        rfl
      have HCC : Hid (∀ V, Calls Tryz.prog 72 #[.agg #[.string c.row, .string c.fam, .string c.qual, .int .u64 c.time], .agg #[.string k.row, .string k.fam, .string k.qual, .int .u64 k.time]] V fun e w' => e = .returned (.bool cb) ∧ Below V.heap.size V w') := fun V => by
        have := rcolumn_any V c.key k
        rw [← hcb] at this
        exact this
      clear hcb
      subst ea
      obtain ⟨x0, x1, x2, x3, x4, x5⟩ := X
      clear K2 hc hce L1
      obtain ⟨vo, vn, vc, hve⟩ := N0.slice
      subst hve
      go_wp2
      have zHS : Hid (∀ V, Below wr.heap.size wr V → V.cell? ⟨b, off + j * 6, none⟩ = some (.string c.row) ∧ V.cell? ⟨b, off + j * 6 + 1, none⟩ = some (.string c.fam) ∧ V.cell? ⟨b, off + j * 6 + 2, none⟩ = some (.string c.qual) ∧ V.cell? ⟨b, off + j * 6 + 3, none⟩ = some (.int .u64 c.time) ∧ V.cell? ⟨w.heap.size, 0, none⟩ = some (.string k.row) ∧ V.cell? ⟨w.heap.size, 1, none⟩ = some (.string k.fam) ∧ V.cell? ⟨w.heap.size, 2, none⟩ = some (.string k.qual) ∧ V.cell? ⟨w.heap.size, 3, none⟩ = some (.int .u64 k.time)) := fun V hV => ⟨(hV.cell (World.block_lt_of_cell? _ _ x0)).trans x0, (hV.cell (World.block_lt_of_cell? _ _ x1)).trans x1, (hV.cell (World.block_lt_of_cell? _ _ x2)).trans x2, (hV.cell (World.block_lt_of_cell? _ _ x3)).trans x3, (hV.cell (World.block_lt_of_cell? _ _ k0)).trans k0, (hV.cell (World.block_lt_of_cell? _ _ k1)).trans k1, (hV.cell (World.block_lt_of_cell? _ _ k2)).trans k2, (hV.cell (World.block_lt_of_cell? _ _ k3)).trans k3⟩
      have zE0 : Below wr.heap.size wr wr.drew := (Below.refl _ _).drew
      refine wp_region_noPanic ?_
      refine wp_region_held_drew (S := fun V => V.cell? ⟨b, off + j * 6, none⟩ = some (.string c.row) ∧ V.cell? ⟨b, off + j * 6 + 1, none⟩ = some (.string c.fam) ∧ V.cell? ⟨b, off + j * 6 + 2, none⟩ = some (.string c.qual) ∧ V.cell? ⟨b, off + j * 6 + 3, none⟩ = some (.int .u64 c.time) ∧ V.cell? ⟨w.heap.size, 0, none⟩ = some (.string k.row) ∧ V.cell? ⟨w.heap.size, 1, none⟩ = some (.string k.fam) ∧ V.cell? ⟨w.heap.size, 2, none⟩ = some (.string k.qual) ∧ V.cell? ⟨w.heap.size, 3, none⟩ = some (.int .u64 k.time)) (by kernel_rfl) (zHS.out _ zE0) (fun zH0 => ?_)
      obtain ⟨zv0, hv0⟩ : ∃ v, v = wr.drew := ⟨_, rfl⟩
      rw [← hv0] at zH0 zE0 ⊢
      clear hv0
      refine hr_take_w 0 (some 13) (.slice (some ⟨b, off, none⟩) n cap) rfl rfl (by kernel_rfl) (by kernel_rfl) (by kernel_rfl) rfl (fun W hW => by obtain ⟨h0, h1, h2, h3, h4, h5, h6, h7⟩ := hW; go_simp) zH0 ?_
      simp only [FL]
      refine hr_take_w 1 (some 14) (.int .i64 (j : Nat)) rfl rfl (by kernel_rfl) (by kernel_rfl) (by kernel_rfl) rfl (fun W hW => by obtain ⟨h0, h1, h2, h3, h4, h5, h6, h7⟩ := hW; go_simp) zH0 ?_
      simp only [FL]
      refine hr_take_w 2 (some 15) (.pointer (some ⟨b, off + j * 6, none⟩)) rfl rfl (by kernel_rfl) (by kernel_rfl) (by kernel_rfl) rfl (fun W hW => by obtain ⟨h0, h1, h2, h3, h4, h5, h6, h7⟩ := hW; go_simp) zH0 ?_
      simp only [FL]
      refine hr_take_w 3 (some 16) (.pointer (some ⟨b, off + j * 6, none⟩)) rfl rfl (by kernel_rfl) (by kernel_rfl) (by kernel_rfl) rfl (fun W hW => by obtain ⟨h0, h1, h2, h3, h4, h5, h6, h7⟩ := hW; go_simp) zH0 ?_
      simp only [FL]
      refine hr_take_w 4 (some 17) (.agg #[.string c.row, .string c.fam, .string c.qual, .int .u64 c.time]) rfl rfl (by kernel_rfl) (by kernel_rfl) (by kernel_rfl) rfl (fun W hW => by obtain ⟨h0, h1, h2, h3, h4, h5, h6, h7⟩ := hW; go_simp) zH0 ?_
      simp only [FL]
      refine hr_take_w 5 (some 18) (.agg #[.string k.row, .string k.fam, .string k.qual, .int .u64 k.time]) rfl rfl (by kernel_rfl) (by kernel_rfl) (by kernel_rfl) rfl (fun W hW => by obtain ⟨h0, h1, h2, h3, h4, h5, h6, h7⟩ := hW; go_simp) zH0 ?_
      simp only [FL]
      refine hr_call_w 6 (some 19) 72 #[.agg #[.string c.row, .string c.fam, .string c.qual, .int .u64 c.time], .agg #[.string k.row, .string k.fam, .string k.qual, .int .u64 k.time]] rfl rfl (by kernel_rfl) rfl (by go_simp) (fun v w' => v = .bool cb ∧ Below zv0.heap.size zv0 w') ((HCC.out zv0).mono (by
        rintro e w' ⟨rfl, C⟩
        exact ⟨_, rfl, rfl, C⟩)) ?_
      rintro v zv1 ⟨rfl, zC0⟩
      have zE1 := zE0.trans (zC0.mono zE0.size)
      have zH1 := zHS.out zv1 zE1
      refine ⟨zH1, ?_⟩
      simp only [FL]
      refine wpAnyH_done (by kernel_rfl) ?_ _
      refine NoPanic.normal ?_
      have zB : Below wr.heap.size wr zv1 := zE1
      have x0 := (zB.cell (World.block_lt_of_cell? _ _ x0)).trans x0
      have x1 := (zB.cell (World.block_lt_of_cell? _ _ x1)).trans x1
      have x2 := (zB.cell (World.block_lt_of_cell? _ _ x2)).trans x2
      have x3 := (zB.cell (World.block_lt_of_cell? _ _ x3)).trans x3
      have x4 := (zB.cell (World.block_lt_of_cell? _ _ x4)).trans x4
      have x5 := (zB.cell (World.block_lt_of_cell? _ _ x5)).trans x5
      have N1 := N0.below zB
      have BB := B1.trans (zB.mono B1.size)
      have bs := BB.size
      clear zHS zH0 zH1 k0 k1 k2 k3 N0
      cases cb with
      | true =>
        have HM2 : Hid ((l2 ++ [c]).map CA.c = ((l.take (j + 1)).map CA.c).filter fun c => c.col k) := by
          show _ = _
          rw [HTK.out, List.filter_append, List.map_append, HM.out, List.filter_cons, HCF.out]
          rfl
        have N2 := N1.below ((Below.refl _ zv1).alloc (Nat.le_refl _) (.cells #[.string c.row, .string c.fam, .string c.qual, .int .u64 c.time, .slice c.va.ao c.va.n c.va.cap, .bool c.gone] 33))
        have BA : Below zv1.heap.size zv1 (zv1.alloc (.cells #[.string c.row, .string c.fam, .string c.qual, .int .u64 c.time, .slice c.va.ao c.va.n c.va.cap, .bool c.gone] 33)) := (Below.refl _ _).alloc (Nat.le_refl _) _
        have BAs := BA.size
        have HN := heap_alloc_new zv1 (.cells #[.string c.row, .string c.fam, .string c.qual, .int .u64 c.time, .slice c.va.ao c.va.n c.va.cap, .bool c.gone] 33)
        go_wp2_with (at_builtin; refine wpList_appN rfl _ _ rfl W1.heap.size _ l2 rfl N2 _ _ c rfl HN hok (by omega) (by omega) ?_; intro v3 u3 N3 B3; obtain ⟨vo3, vn3, vc3, rfl⟩ := N3.slice)
        have B4 := BB.trans ((BA.mono bs).trans B3)
        go_roundw
        case rel => exact ⟨j + 1, l2 ++ [c], by omega, by go_num, N3, HM2, by rw [List.length_append]; simp; omega, B4⟩
        case measure => simp [intOf]; omega
      | false =>
        have HM2 : Hid (l2.map CA.c = ((l.take (j + 1)).map CA.c).filter fun c => c.col k) := by
          show _ = _
          rw [HTK.out, List.filter_append, HM.out, List.filter_cons, HCF.out]
          simp
        go_wp2
        go_roundw
        case rel => exact ⟨j + 1, l2, by omega, by go_num, N1, HM2, by omega, BB⟩
        case measure => simp [intOf]; omega
    · have hge : ¬ (j : Int) < (n : Int) := by omega
      obtain ⟨ao2, cap2, hv, L2⟩ := N0.cl (C1.trans (B1.mono s1))
      have HT : Hid ((l.take j).map CA.c = l.map CA.c) := by show _ = _; rw [List.take_of_length_le (by omega)]
      subst hv
      go_wp2
      go_ret
      exact ⟨_, _, _, l2, rfl, L2, by rw [HM.out, HT.out], C1.trans (B1.mono s1)⟩
end Go.Proofs.YtlljmhcgjkolpaaGreatDoor

/-
  Texts in one: SpRMid, CutsLaw11, OTypO, OTypC, Laid7.
-/
import Derived.Test.YtlljmhcgjkolpaaGreatDoorSplitCutsQFL
import Derived.Test.YtlljmhcgjkolpaaGreatDoorSplitCutsQ24
import Derived.Test.YtlljmhcgjkolpaaGreatDoorSplitCutsQ29
import Derived.Test.YtlljmhcgjkolpaaGreatDoorSplitCutsQ30
import Derived.Test.YtlljmhcgjkolpaaGreatDoorSplitCutsQ4
import Derived.Test.YtlljmhcgjkolpaaGreatDoorRows
import Derived.Test.YtlljmhcgjkolpaaGreatDoorSplitCutsQ0
import Derived.ProofKit
import Derived.LaidMore
import Derived.Lay
import Derived.OpenShut
import Derived.Lib.LaidU8
import Derived.Stop.Joined
namespace Go.Proofs.YtlljmhcgjkolpaaGreatDoor
open Go.RowKit Go.Sort
theorem upTo_last (d : Array (List UInt8)) : ∀ m, (Lib.compactUpTo d (m + 1)).getLast? = some d[m]!
  | 0 => by
    rw [Lib.compactUpTo_succ, Lib.keeps_lt_one d 0 (by omega)]
    rfl
  | m + 1 => by
    rw [Lib.compactUpTo_succ]
    cases h : Lib.keeps d (m + 1) with
    | true => simp
    | false =>
      have h2 : d[m + 1]! = d[m]! := by
        have := of_decide_eq_false h
        by_cases e : d[m + 1]! = d[m]!
        · exact e
        · exact absurd (.inr e) this
      simp only [Bool.false_eq_true, if_false, List.append_nil]
      rw [upTo_last d m, h2]
set_option maxHeartbeats 4000000 in
set_option maxRecDepth 100000 in
theorem rmiddle_any (w : World) (f t : ByteArray) (ao : Option Addr) (n cap : Nat) (l : List CA) (L : CL w ao n cap l) (hn : n ≤ 1000) :
    Calls Tryz.prog 23 #[.agg #[.string f, .string t, .slice ao n cap]] w (MdPost w (l.map CA.c)) := by
  have hl1 := Nat.le_of_eq L.len
  have hl2 := Nat.le_of_eq L.len.symm
  obtain ⟨i0, hi, hz0, hz1, hz2⟩ := info_parts strInfo
  obtain ⟨W1, hW1⟩ : ∃ V, V = w.alloc (.cells #[.string f, .string t, .slice ao n cap] 39) := ⟨_, rfl⟩
  have C1 : Below w.heap.size w W1 := by rw [hW1]; exact (Below.refl _ _).alloc (Nat.le_refl _) _
  have K1 : Arr W1 w.heap.size 39 [.string f, .string t, .slice ao n cap] := by rw [hW1]; exact heap_alloc_new w _
  obtain ⟨cs, hcs⟩ : ∃ cs, cs = l.map CA.c := ⟨_, rfl⟩
  have HCS : Hid (cs = l.map CA.c) := hcs
  rw [← hcs]
  have hcl : cs.length = l.length := by rw [hcs, List.length_map]
  have HCL : Hid (cs.length = n) := by show _ = _; rw [hcl]; exact L.len
  clear hcs hcl
  obtain ⟨d, hd⟩ : ∃ d, d = (rowsZ cs).toArray := ⟨_, rfl⟩
  have HD : Hid (d = (rowsZ cs).toArray) := hd
  clear hd
  go_enter Tryz.func23, Tryz.ntmps23
  go_wp2
  rw [← hW1]
  clear hW1
  have L1 := L.below C1
  go_loopw [4, 5] (fun v i wr => ∃ j : Nat, j ≤ n ∧ i = .int .i64 j ∧ (∃ k, wr.ownsRow W1.heap.size 9 1 v k ((Lib.compactUpTo d j).map encStr)) ∧ Below W1.heap.size W1 wr) (fun _ i _ => n - (intOf i).toNat)
  case atStart => exact ⟨0, Nat.zero_le _, rfl, ⟨0, World.ownsRow_nil _ _ _ _⟩, Below.refl _ _⟩
  case round =>
    obtain ⟨j, hj, rfl, ⟨k, O0⟩, B1⟩ := hrel
    have hkl : (Lib.compactUpTo d j).length = k := by have := O0.1; rw [List.length_map] at this; omega
    have HKL : Hid ((Lib.compactUpTo d j).length = k) := hkl
    have hkj : k ≤ j := by
      rw [← hkl]
      unfold Lib.compactUpTo
      rw [List.length_map]
      exact Nat.le_trans (List.length_filter_le _ _) (by rw [List.length_range]; exact Nat.le_refl _)
    have K2 := arr_below K1 B1
    have k2 : wr.cell? ⟨w.heap.size, 2, none⟩ = some (.slice ao n cap) := K2.cell 2
    clear hkl K2
    by_cases hlt : j < n
    · have hjl : j < l.length := by omega
      have hji : (j : Int) < (n : Int) := by omega
      obtain ⟨b, off, ea, hc⟩ := L1.at (by omega)
      have x0 := ((hc j hjl).below B1).c0
      have hdj : encStr d[j]! = .string l[j].row := by
        have hjc : j < cs.length := by rw [HCL.out]; exact hlt
        rw [HD.out, rowsZ_at hjc, enc_toL8]
        have h3 : cs[j] = l[j].c := by
          have := HCS.out
          subst this
          exact List.getElem_map ..
        rw [h3]
        rfl
      obtain ⟨c, hce⟩ : ∃ c, c = l[j] := ⟨_, rfl⟩
      rw [← hce] at x0 hdj
      have HDJ : Hid (encStr d[j]! = .string c.row) := hdj
      subst ea
      clear hc hce hdj
      obtain ⟨vo, vm, vc, hve⟩ := own_slice3 O0
      subst hve
      obtain rfl : vm = k := by
        rcases O0.2 with ⟨e, e2⟩ | ⟨g, cap', cur, e, _⟩
        · simp only [Value.slice.injEq] at e
          omega
        · simp only [Value.slice.injEq] at e
          exact e.2.1
      by_cases hj0 : j = 0
      · obtain rfl : vm = 0 := by omega
        have HUP : Hid ((Lib.compactUpTo d (j + 1)).map encStr = (Lib.compactUpTo d j).map encStr ++ [.string c.row]) := by
          show _ = _
          rw [Lib.compactUpTo_succ, Lib.keeps_lt_one d j (by omega), if_pos rfl, List.map_append, ← HDJ.out]
          rfl
        clear hj0
        go_wp2
        have zHS : Hid (∀ V, Below wr.heap.size wr V → V.cell? ⟨w.heap.size, 2, none⟩ = some (.slice (some ⟨b, off, none⟩) n cap) ∧ V.cell? ⟨b, off + j * 6, none⟩ = some (.string c.row)) := fun V hV => ⟨(hV.cell (World.block_lt_of_cell? _ _ k2)).trans k2, (hV.cell (World.block_lt_of_cell? _ _ x0)).trans x0⟩
        have zE0 : Below wr.heap.size wr wr.drew := (Below.refl _ _).drew
        refine wp_region_noPanic ?_
        refine wp_region_held_drew (S := fun V => V.cell? ⟨w.heap.size, 2, none⟩ = some (.slice (some ⟨b, off, none⟩) n cap) ∧ V.cell? ⟨b, off + j * 6, none⟩ = some (.string c.row)) (by kernel_rfl) (zHS.out _ zE0) (fun zH0 => ?_)
        obtain ⟨zv0, hv0⟩ : ∃ v, v = wr.drew := ⟨_, rfl⟩
        rw [← hv0] at zH0 zE0 ⊢
        clear hv0
        refine hr_take_w 0 (some 13) (.slice vo 0 vc) rfl rfl (by kernel_rfl) (by kernel_rfl) (by kernel_rfl) rfl (fun W hW => by obtain ⟨h0, h1⟩ := hW; go_simp) zH0 ?_
        simp only [FL]
        refine hr_take_w 1 (some 14) (.int .i64 0) rfl rfl (by kernel_rfl) (by kernel_rfl) (by kernel_rfl) rfl (fun W hW => by obtain ⟨h0, h1⟩ := hW; go_simp) zH0 ?_
        simp only [FL]
        refine hr_take_w 2 (some 15) (.bool true) rfl rfl (by kernel_rfl) (by kernel_rfl) (by kernel_rfl) rfl (fun W hW => by obtain ⟨h0, h1⟩ := hW; go_simp) zH0 ?_
        simp only [FL]
        refine hr_take_w 3 (some 16) (.bool true) rfl rfl (by kernel_rfl) (by kernel_rfl) (by kernel_rfl) rfl (fun W hW => by obtain ⟨h0, h1⟩ := hW; go_simp) zH0 ?_
        simp only [FL]
        refine hr_none 4 (some 17) rfl rfl (by kernel_rfl) (by kernel_rfl) (by kernel_rfl) rfl zH0 ?_
        simp only [FL]
        refine hr_none 5 (some 18) rfl rfl (by kernel_rfl) (by kernel_rfl) (by kernel_rfl) rfl zH0 ?_
        simp only [FL]
        refine hr_none 6 (some 19) rfl rfl (by kernel_rfl) (by kernel_rfl) (by kernel_rfl) rfl zH0 ?_
        simp only [FL]
        refine hr_none 7 (some 20) rfl rfl (by kernel_rfl) (by kernel_rfl) (by kernel_rfl) rfl zH0 ?_
        simp only [FL]
        refine hr_none 8 (some 21) rfl rfl (by kernel_rfl) (by kernel_rfl) (by kernel_rfl) rfl zH0 ?_
        simp only [FL]
        refine hr_none 9 (some 22) rfl rfl (by kernel_rfl) (by kernel_rfl) (by kernel_rfl) rfl zH0 ?_
        simp only [FL]
        refine hr_none 10 (some 23) rfl rfl (by kernel_rfl) (by kernel_rfl) (by kernel_rfl) rfl zH0 ?_
        simp only [FL]
        refine hr_none 11 (some 24) rfl rfl (by kernel_rfl) (by kernel_rfl) (by kernel_rfl) rfl zH0 ?_
        simp only [FL]
        refine hr_none 12 (some 25) rfl rfl (by kernel_rfl) (by kernel_rfl) (by kernel_rfl) rfl zH0 ?_
        simp only [FL]
        refine hr_none 13 (some 26) rfl rfl (by kernel_rfl) (by kernel_rfl) (by kernel_rfl) rfl zH0 ?_
        simp only [FL]
        refine hr_none 14 (some 27) rfl rfl (by kernel_rfl) (by kernel_rfl) (by kernel_rfl) rfl zH0 ?_
        simp only [FL]
        refine hr_none 15 (some 28) rfl rfl (by kernel_rfl) (by kernel_rfl) (by kernel_rfl) rfl zH0 ?_
        simp only [FL]
        refine hr_none 16 (some 29) rfl rfl (by kernel_rfl) (by kernel_rfl) (by kernel_rfl) rfl zH0 ?_
        simp only [FL]
        refine hr_none 17 (some 30) rfl rfl (by kernel_rfl) (by kernel_rfl) (by kernel_rfl) rfl zH0 ?_
        simp only [FL]
        refine hr_take_w 18 (some 31) (.bool true) rfl rfl (by kernel_rfl) (by kernel_rfl) (by kernel_rfl) rfl (fun W hW => by obtain ⟨h0, h1⟩ := hW; go_simp) zH0 ?_
        simp only [FL]
        refine wpAnyH_done (by kernel_rfl) ?_ _
        refine NoPanic.normal ?_
        have zB : Below wr.heap.size wr zv0 := zE0
        have x0 := (zB.cell (World.block_lt_of_cell? _ _ x0)).trans x0
        have k2 := (zB.cell (World.block_lt_of_cell? _ _ k2)).trans k2
        have O1 := own_below O0 zB
        have BB := B1.trans (zB.mono B1.size)
        have bs := BB.size
        clear zHS zH0
        obtain ⟨W2, hW2⟩ : ∃ V, V = zv0.alloc (.cells #[.string c.row] 9) := ⟨_, rfl⟩
        have D2 : Below zv0.heap.size zv0 W2 := by rw [hW2]; exact (Below.refl _ _).alloc (Nat.le_refl _) _
        have HN : W2.heap[zv0.heap.size]? = some (.cells #[.string c.row] 9) := by rw [hW2]; exact heap_alloc_new zv0 _
        have O2 := own_below O1 D2
        have s2 := D2.size
        have hbase : W1.heap.size ≤ W2.heap.size := by omega
        go_wp2_with (at_builtin; rw [← hW2]; refine wpList_append_own W2 rfl _ _ 95 rfl W1.heap.size 9 i0 _ 1 16 Tryz.underlying95 hi hz0 hz1 hz2 rfl (by decide) _ 0 _ rfl O2 ⟨zv0.heap.size, 0, none⟩ 1 1 [.string c.row] rfl rfl (fun k u hu => by rw [Addr.add_lit, Nat.zero_add, cell_of_row W2 zv0.heap.size k _ _ _ HN]; simpa using hu) (by simp [Value.oneCell']) (by unfold maxLen; omega) (by omega) hbase ?_; intro v3 w3 O3 G3 _)
        have B3 : Go.RowKit.Below W1.heap.size W2 w3 := (Below.refl _ W2).grown G3 hbase (fun k hk => (O2.lt k hk).1)
        rw [← HUP.out] at O3
        obtain ⟨vo3, vm3, vc3, hv3⟩ := own_slice3 O3
        subst hv3
        have B4 := BB.trans ((D2.mono bs).trans B3)
        go_roundw
        case rel => exact ⟨j + 1, by omega, by go_num, ⟨_, O3⟩, B4⟩
        case measure => simp [intOf]; omega
      · obtain ⟨jj, hjj⟩ : ∃ jj, j = jj + 1 := ⟨j - 1, by omega⟩
        have HJJ : Hid (j = jj + 1) := hjj
        have hlast := upTo_last d jj
        rw [← hjj] at hlast
        rw [List.getLast?_eq_getElem?, HKL.out] at hlast
        have hk1 : vm - 1 < (Lib.compactUpTo d j).length := by
          rcases Nat.lt_or_ge (vm - 1) (Lib.compactUpTo d j).length with h | h
          · exact h
          · rw [List.getElem?_eq_none h] at hlast; simp at hlast
        have hkp : 0 < vm := by rw [HKL.out] at hk1; omega
        obtain ⟨ao2, cap2, e2, V2, -⟩ := VL.own O0
        have V3 : VL wr vo vm vc ((Lib.compactUpTo d j).map encStr) := by
          simp only [Value.slice.injEq] at e2
          obtain ⟨q1, -, q3⟩ := e2
          rw [q1, q3]
          exact V2
        obtain ⟨rb, ro, ea, hcv⟩ := V3.at hkp
        have y0 := hcv (vm - 1) (by rw [List.length_map]; exact hk1)
        rw [List.getElem_map] at y0
        have hge : (Lib.compactUpTo d j)[vm - 1] = d[jj]! := by
          rw [List.getElem?_eq_getElem hk1] at hlast
          exact Option.some.inj hlast
        rw [hge] at y0
        obtain ⟨lr, hlr⟩ : ∃ lr : ByteArray, lr = ⟨(d[jj]!).toArray⟩ := ⟨_, rfl⟩
        have y0 : wr.cell? ⟨rb, ro + (vm - 1), none⟩ = some (.string lr) := by rw [hlr]; exact y0
        obtain ⟨kb, hkb⟩ : ∃ b, b = Lib.keeps d j := ⟨_, rfl⟩
        have hrow : c.row = ⟨(d[j]!).toArray⟩ := by
          have h := HDJ.out
          have h2 : Value.string ⟨(d[j]!).toArray⟩ = Value.string c.row := h
          simpa using h2.symm
        have heq : (lr.toList == c.row.toList) = !kb := by
          rw [hkb]
          by_cases e : d[j]! = d[jj]!
          · have : lr = c.row := by rw [hlr, hrow, e]
            rw [Lib.keeps_neg (m := j) (by omega) (by rw [show j - 1 = jj by omega]; exact e), this]
            simp
          · have hne : lr ≠ c.row := fun h => e (by
              rw [hlr, hrow] at h
              have h2 := congrArg (fun b : ByteArray => b.data.toList) h
              simpa using h2.symm)
            rw [Lib.keeps_pos (m := j) (by rw [show j - 1 = jj by omega]; exact e), toL_ne hne]
            rfl
        have HUPT : Hid (kb = true → (Lib.compactUpTo d (j + 1)).map encStr = (Lib.compactUpTo d j).map encStr ++ [.string c.row]) := fun h => by
          rw [Lib.compactUpTo_succ, ← hkb, h, if_pos rfl, List.map_append, ← HDJ.out]
          rfl
        have HUPF : Hid (kb = false → (Lib.compactUpTo d (j + 1)).map encStr = (Lib.compactUpTo d j).map encStr) := fun h => by
          rw [Lib.compactUpTo_succ, ← hkb, h]
          simp
        obtain ⟨rn, hrn⟩ : ∃ rn, rn = vm := ⟨_, rfl⟩
        rw [← hrn] at y0 O0 V3 ⊢
        have hrn0 : ((rn : Int) == 0) = false := by simp; omega
        have hrw : IntKind.i64.wrap ((rn : Int) - 1) = ((rn - 1 : Nat) : Int) := by rw [IntKind.wrap_i64]; omega
        have hrl : ((rn - 1 : Nat) : Int) < (rn : Int) := by omega
        have hrk : rn ≤ 1000 := by omega
        obtain ⟨rc, hrc⟩ : ∃ rc, rc = vc := ⟨_, rfl⟩
        rw [← hrc] at O0 ⊢
        subst ea
        clear hcv hge hlr hkb hrow V2 V3 hlast hk1 hrn hrc e2 HKL hkj hkp hj0 hjj
        go_wp2
        have zHS : Hid (∀ V, Below wr.heap.size wr V → V.cell? ⟨w.heap.size, 2, none⟩ = some (.slice (some ⟨b, off, none⟩) n cap) ∧ V.cell? ⟨b, off + j * 6, none⟩ = some (.string c.row) ∧ V.cell? ⟨rb, ro + (rn - 1), none⟩ = some (.string lr)) := fun V hV => ⟨(hV.cell (World.block_lt_of_cell? _ _ k2)).trans k2, (hV.cell (World.block_lt_of_cell? _ _ x0)).trans x0, (hV.cell (World.block_lt_of_cell? _ _ y0)).trans y0⟩
        have zE0 : Below wr.heap.size wr wr.drew := (Below.refl _ _).drew
        refine wp_region_noPanic ?_
        refine wp_region_held_drew (S := fun V => V.cell? ⟨w.heap.size, 2, none⟩ = some (.slice (some ⟨b, off, none⟩) n cap) ∧ V.cell? ⟨b, off + j * 6, none⟩ = some (.string c.row) ∧ V.cell? ⟨rb, ro + (rn - 1), none⟩ = some (.string lr)) (by kernel_rfl) (zHS.out _ zE0) (fun zH0 => ?_)
        obtain ⟨zv0, hv0⟩ : ∃ v, v = wr.drew := ⟨_, rfl⟩
        rw [← hv0] at zH0 zE0 ⊢
        clear hv0
        refine hr_take_w 0 (some 13) (.slice (some ⟨rb, ro, none⟩) rn rc) rfl rfl (by kernel_rfl) (by kernel_rfl) (by kernel_rfl) rfl (fun W hW => by obtain ⟨h0, h1, h2⟩ := hW; go_simp) zH0 ?_
        simp only [FL]
        refine hr_take_w 1 (some 14) (.int .i64 ((rn : Nat) : Int)) rfl rfl (by kernel_rfl) (by kernel_rfl) (by kernel_rfl) rfl (fun W hW => by obtain ⟨h0, h1, h2⟩ := hW; go_simp) zH0 ?_
        simp only [FL]
        refine hr_take_w 2 (some 15) (.bool false) rfl rfl (by kernel_rfl) (by kernel_rfl) (by kernel_rfl) rfl (fun W hW => by obtain ⟨h0, h1, h2⟩ := hW; go_simp) zH0 ?_
        simp only [FL]
        refine hr_take_w 3 (some 16) (.bool false) rfl rfl (by kernel_rfl) (by kernel_rfl) (by kernel_rfl) rfl (fun W hW => by obtain ⟨h0, h1, h2⟩ := hW; go_simp) zH0 ?_
        simp only [FL]
        refine hr_take_w 4 (some 17) (.slice (some ⟨rb, ro, none⟩) rn rc) rfl rfl (by kernel_rfl) (by kernel_rfl) (by kernel_rfl) rfl (fun W hW => by obtain ⟨h0, h1, h2⟩ := hW; go_simp) zH0 ?_
        simp only [FL]
        refine hr_take_w 5 (some 18) (.slice (some ⟨rb, ro, none⟩) rn rc) rfl rfl (by kernel_rfl) (by kernel_rfl) (by kernel_rfl) rfl (fun W hW => by obtain ⟨h0, h1, h2⟩ := hW; go_simp) zH0 ?_
        simp only [FL]
        refine hr_take_w 6 (some 19) (.int .i64 ((rn : Nat) : Int)) rfl rfl (by kernel_rfl) (by kernel_rfl) (by kernel_rfl) rfl (fun W hW => by obtain ⟨h0, h1, h2⟩ := hW; go_simp) zH0 ?_
        simp only [FL]
        refine hr_take_w 7 (some 20) (.int .i64 ((rn - 1 : Nat) : Int)) rfl rfl (by kernel_rfl) (by kernel_rfl) (by kernel_rfl) rfl (fun W hW => by obtain ⟨h0, h1, h2⟩ := hW; go_simp) zH0 ?_
        simp only [FL]
        refine hr_take_w 8 (some 21) (.pointer (some ⟨rb, ro + (rn - 1), none⟩)) rfl rfl (by kernel_rfl) (by kernel_rfl) (by kernel_rfl) rfl (fun W hW => by obtain ⟨h0, h1, h2⟩ := hW; go_simp) zH0 ?_
        simp only [FL]
        refine hr_take_w 9 (some 22) (.string lr) rfl rfl (by kernel_rfl) (by kernel_rfl) (by kernel_rfl) rfl (fun W hW => by obtain ⟨h0, h1, h2⟩ := hW; go_simp) zH0 ?_
        simp only [FL]
        refine hr_take_w 10 (some 23) (.pointer (some ⟨w.heap.size, 2, none⟩)) rfl rfl (by kernel_rfl) (by kernel_rfl) (by kernel_rfl) rfl (fun W hW => by obtain ⟨h0, h1, h2⟩ := hW; go_simp) zH0 ?_
        simp only [FL]
        refine hr_take_w 11 (some 24) (.slice (some ⟨b, off, none⟩) n cap) rfl rfl (by kernel_rfl) (by kernel_rfl) (by kernel_rfl) rfl (fun W hW => by obtain ⟨h0, h1, h2⟩ := hW; go_simp) zH0 ?_
        simp only [FL]
        refine hr_take_w 12 (some 25) (.int .i64 (j : Nat)) rfl rfl (by kernel_rfl) (by kernel_rfl) (by kernel_rfl) rfl (fun W hW => by obtain ⟨h0, h1, h2⟩ := hW; go_simp) zH0 ?_
        simp only [FL]
        refine hr_take_w 13 (some 26) (.pointer (some ⟨b, off + j * 6, none⟩)) rfl rfl (by kernel_rfl) (by kernel_rfl) (by kernel_rfl) rfl (fun W hW => by obtain ⟨h0, h1, h2⟩ := hW; go_simp) zH0 ?_
        simp only [FL]
        refine hr_take_w 14 (some 27) (.pointer (some ⟨b, off + j * 6, none⟩)) rfl rfl (by kernel_rfl) (by kernel_rfl) (by kernel_rfl) rfl (fun W hW => by obtain ⟨h0, h1, h2⟩ := hW; go_simp) zH0 ?_
        simp only [FL]
        refine hr_take_w 15 (some 28) (.pointer (some ⟨b, off + j * 6, none⟩)) rfl rfl (by kernel_rfl) (by kernel_rfl) (by kernel_rfl) rfl (fun W hW => by obtain ⟨h0, h1, h2⟩ := hW; go_simp) zH0 ?_
        simp only [FL]
        refine hr_take_w 16 (some 29) (.string c.row) rfl rfl (by kernel_rfl) (by kernel_rfl) (by kernel_rfl) rfl (fun W hW => by obtain ⟨h0, h1, h2⟩ := hW; go_simp) zH0 ?_
        simp only [FL]
        refine hr_take_w 17 (some 30) (.bool kb) rfl rfl (by kernel_rfl) (by kernel_rfl) (by kernel_rfl) rfl (fun W hW => by obtain ⟨h0, h1, h2⟩ := hW; go_simp) zH0 ?_
        simp only [FL]
        refine hr_take_w 18 (some 31) (.bool kb) rfl rfl (by kernel_rfl) (by kernel_rfl) (by kernel_rfl) rfl (fun W hW => by obtain ⟨h0, h1, h2⟩ := hW; go_simp) zH0 ?_
        simp only [FL]
        refine wpAnyH_done (by kernel_rfl) ?_ _
        refine NoPanic.normal ?_
        have zB : Below wr.heap.size wr zv0 := zE0
        have x0 := (zB.cell (World.block_lt_of_cell? _ _ x0)).trans x0
        have k2 := (zB.cell (World.block_lt_of_cell? _ _ k2)).trans k2
        have O1 := own_below O0 zB
        have BB := B1.trans (zB.mono B1.size)
        have bs := BB.size
        clear zHS zH0 y0
        cases kb with
        | true =>
          have HUP : Hid ((Lib.compactUpTo d (j + 1)).map encStr = (Lib.compactUpTo d j).map encStr ++ [.string c.row]) := HUPT.out rfl
          obtain ⟨W2, hW2⟩ : ∃ V, V = zv0.alloc (.cells #[.string c.row] 9) := ⟨_, rfl⟩
          have D2 : Below zv0.heap.size zv0 W2 := by rw [hW2]; exact (Below.refl _ _).alloc (Nat.le_refl _) _
          have HN : W2.heap[zv0.heap.size]? = some (.cells #[.string c.row] 9) := by rw [hW2]; exact heap_alloc_new zv0 _
          have O2 := own_below O1 D2
          have s2 := D2.size
          have hbase : W1.heap.size ≤ W2.heap.size := by omega
          go_wp2_with (at_builtin; rw [← hW2]; refine wpList_append_own W2 rfl _ _ 95 rfl W1.heap.size 9 i0 _ 1 16 Tryz.underlying95 hi hz0 hz1 hz2 rfl (by decide) _ rn _ rfl O2 ⟨zv0.heap.size, 0, none⟩ 1 1 [.string c.row] rfl rfl (fun k u hu => by rw [Addr.add_lit, Nat.zero_add, cell_of_row W2 zv0.heap.size k _ _ _ HN]; simpa using hu) (by simp [Value.oneCell']) (by unfold maxLen; omega) (by omega) hbase ?_; intro v3 w3 O3 G3 _)
          have B3 : Go.RowKit.Below W1.heap.size W2 w3 := (Below.refl _ W2).grown G3 hbase (fun k hk => (O2.lt k hk).1)
          rw [← HUP.out] at O3
          obtain ⟨vo3, vm3, vc3, hv3⟩ := own_slice3 O3
          subst hv3
          have B4 := BB.trans ((D2.mono bs).trans B3)
          go_roundw
          case rel => exact ⟨j + 1, by omega, by go_num, ⟨_, O3⟩, B4⟩
          case measure => simp [intOf]; omega
        | false =>
          have HUP := HUPF.out rfl
          rw [← HUP] at O1
          clear HUP
          go_wp2
          go_roundw
          case rel => exact ⟨j + 1, by omega, by go_num, ⟨_, O1⟩, BB⟩
          case measure => simp [intOf]; omega
    · have hge : ¬ (j : Int) < (n : Int) := by omega
      obtain rfl : j = n := by omega
      have hR : rowsR cs = Lib.compactUpTo d j := by
        unfold rowsR Lib.compact
        rw [← HD.out]
        congr 1
        have : (rowsZ cs).length = cs.length := List.length_map ..
        rw [this, HCL.out]
      rw [← hR] at O0
      have HM : Hid ((rowsR cs).length = k) := by show _ = _; rw [hR]; exact HKL.out
      obtain ⟨ao2, cap2, e2, V2, -⟩ := VL.own O0
      subst e2
      have B2 := C1.trans (B1.mono C1.size)
      clear O0 hR HKL
      by_cases h2 : k < 2
      · have i2 : (k : Int) < 2 := by omega
        go_wp2
        go_ret2
        exact .inl ⟨by rw [HM.out]; exact h2, rfl, B2⟩
      · have i2 : ¬ (k : Int) < 2 := by omega
        obtain ⟨b, off, ea, hc⟩ := V2.at (by omega)
        have hlt : k / 2 < ((rowsR cs).map encStr).length := by rw [List.length_map, HM.out]; omega
        have hx := hc (k / 2) hlt
        have hlr : k / 2 < (rowsR cs).length := by rw [HM.out]; omega
        rw [List.getElem_map] at hx
        obtain ⟨x, hxe⟩ : ∃ x, x = (rowsR cs)[k / 2] := ⟨_, rfl⟩
        have HX : Hid ((rowsR cs)[(rowsR cs).length / 2]? = some x) := by
          show _ = _
          rw [HM.out, hxe]
          exact List.getElem?_eq_getElem hlr
        rw [← hxe] at hx
        have hq : (k : Int) / 2 = ((k / 2 : Nat) : Int) := by omega
        have hqt : Int.tdiv (k : Int) 2 = ((k / 2 : Nat) : Int) := by rw [Int.tdiv_eq_ediv_of_nonneg (by omega)]; exact hq
        have hql : ((k / 2 : Nat) : Int) < (k : Int) := by omega
        obtain ⟨dd, hdd⟩ : ∃ dd, dd = k / 2 := ⟨_, rfl⟩
        rw [← hdd] at hx hq hqt hql
        subst ea
        clear hxe hc hlt hlr hdd
        go_wp2
        go_ret2
        exact .inr ⟨x, by rw [HM.out]; omega, HX.out, rfl, B2⟩
open Go.RowKit Go.Sort
theorem in_bel {f t a : ByteArray} {n : Nat} {cs : List CV} (h : Stand f t n cs) {ml : List CA} (hm : ml.map CA.c = cs) (hz : a.size ≠ 0) :
    (ml.filter fun c => inRows f a c.row).map CA.c = cs.filter (belR a) ∧ (ml.filter fun c => !inRows f a c.row).map CA.c = cs.filter (fun c => !(belR a c)) := by
  have hp : ∀ c ∈ ml, inRows f a c.row = belR a c.c := fun c hc => by
    have h1 := of_decide_eq_true (h.rows c.c (by rw [← hm]; exact List.mem_map_of_mem hc))
    show decide (¬ cmpL (sb c.row) (sb f) < 0 ∧ (a.size = 0 ∨ cmpL (sb c.row) (sb a) < 0)) = decide (cmpL (sb c.row) (sb a) < 0)
    congr 1
    refine propext ⟨fun g => g.2.elim (fun e => absurd e hz) id, fun g => ⟨h1.1, .inr g⟩⟩
  subst hm
  constructor
  · rw [List.filter_map]
    congr 1
    exact List.filter_congr hp
  · rw [List.filter_map]
    congr 1
    exact List.filter_congr (fun c hc => by rw [hp c hc]; rfl)
set_option maxHeartbeats 8000000 in
set_option maxRecDepth 100000 in
theorem splitCuts_any (W : World) (f t : ByteArray) (a0 : Option Addr) (n0 c0 : Nat) (l : List CA) (a : ByteArray) (hf0 : f.size ≤ maxLen) (ht0 : t.size ≤ maxLen) (L0 : CL W a0 n0 c0 l) (sm0 : ∀ c ∈ l, c.small) (hT : Tabs W) :
    Calls Tryz.prog 4 #[.string f, .string t, .slice a0 n0 c0, .string a] W fun e w' => e = .returned (.bool true) ∧ Below W.heap.size W w' := by
  have t2 := hT.two
  have HTb : Hid (Tabs W) := hT
  have AL := fun (V : World) (hV : Below W.heap.size W V) => alive11 V (hT.below hV t2)
  have HAL : Hid (∀ (V : World) (hV : Below W.heap.size W V), Calls Tryz.prog 19 #[] V fun e w' => e = .returned (.bool true) ∧ Below V.heap.size V w') := AL
  have CM := made_any W f t a0 n0 c0 l hT hf0 ht0 L0 sm0
  clear AL hT sm0 L0
  go_enter Tryz.func4, Tryz.ntmps4
  go_wp2_with fail
  refine CM.mono ?_
  rintro e w1 (⟨p, bo, bm, bc, ml, rfl, hp, hst, hlm, hnk, X1, L1, hml, B1⟩ | ⟨x, y, z, a', b, c, rfl, B1⟩)
  case inr =>
    have BA : Below w1.heap.size w1 (w1.alloc (.cells #[.string y, .string z, .slice a' b c] 39)) := (Below.refl _ _).alloc (Nat.le_refl _) _
    have B2 := B1.trans (BA.mono B1.size)
    have AV := HAL.out _ B2
    clear CM
    go_wp2_with fail
    refine AV.mono ?_
    rintro e wz ⟨rfl, Cz⟩
    go_wp2
    go_ret
    exact ⟨rfl, B2.trans (Cz.mono B2.size)⟩
  obtain ⟨cs, hcs⟩ : ∃ cs, cs = layAll [] (l.map CA.c) := ⟨_, rfl⟩
  rw [← hcs] at hst hlm X1 hml
  clear hcs CM
  have HST : Hid (Stand f t 20 cs) := hst
  have HLM : Hid (Lim cs) := hlm
  have HML : Hid (ml.map CA.c = cs) := hml
  have HNK : Hid (newK f t = 0) := hnk
  obtain ⟨hf32, ht32, -⟩ := newK_ok hnk
  obtain ⟨q, hq⟩ : ∃ q, q = w1.heap.size := ⟨_, rfl⟩
  obtain ⟨w2, hw2⟩ : ∃ V, V = w1.alloc (.cells #[.string f, .string t, .slice bo bm bc] 39) := ⟨_, rfl⟩
  have C2 : Below w1.heap.size w1 w2 := by rw [hw2]; exact (Below.refl _ _).alloc (Nat.le_refl _) _
  have M2 : Arr w2 q 39 [.string f, .string t, .slice bo bm bc] := by rw [hw2, hq]; exact heap_alloc_new w1 _
  have B2 := B1.trans (C2.mono B1.size)
  have X2 := X1.below C2
  have L2 := L1.below C2
  clear hst hlm hml X1 L1 hnk
  by_cases g1 : a.size ≤ 100
  case neg =>
    have i1 : (100 : Int) < (a.size : Int) := by omega
    have AV := HAL.out w2 B2
    go_wp2_with fail
    rw [← hw2]
    refine AV.mono ?_
    rintro e wz ⟨rfl, Cz⟩
    go_wp2
    go_ret
    exact ⟨rfl, B2.trans (Cz.mono B2.size)⟩
  have i1 : ¬ (100 : Int) < (a.size : Int) := by omega
  have hbm : bm ≤ 20 := by
    have h1 := HST.out.len
    have h2 := L2.len
    rw [← HML.out, List.length_map] at h1
    omega
  have CS := split_any w2 p f t a cs (HTb.out.below B2 t2) X2 (HST.out.mono (by decide)) HLM.out HNK.out (by omega)
  go_wp2_with fail
  rw [← hw2, ← hq]
  clear hw2 hq
  refine CS.mono ?_
  rintro e w3 (⟨hk0, q1, q2, hq1, hq2, rfl, Y1, Y2, C3⟩ | ⟨hk1, rfl, C3⟩)
  case inr =>
    have B3 := B2.trans (C3.mono B2.size)
    have X3 := X2.below C3
    have L3 := L2.below C3
    have M3 := arr_below M2 C3
    have m0 : w3.cell? ⟨q, 0, none⟩ = some (.string f) := M3.cell 0
    have m1 : w3.cell? ⟨q, 1, none⟩ = some (.string t) := M3.cell 1
    have m2 : w3.cell? ⟨q, 2, none⟩ = some (.slice bo bm bc) := M3.cell 2
    have CR := rsplit_any w3 f t a bo bm bc ml (show f.size ≤ maxLen by unfold maxLen; omega) (show t.size ≤ maxLen by unfold maxLen; omega) (show a.size ≤ maxLen by unfold maxLen; omega) L3 (by omega)
    clear CS
    go_wp2_with fail
    refine CR.mono ?_
    rintro e w4 (⟨hk9, -⟩ | ⟨-, rfl, C4⟩)
    case inl => exact absurd hk9 hk1
    have B4 := B3.trans (C4.mono B3.size)
    clear CR
    obtain ⟨v1, hv1⟩ : ∃ V, V = w4.alloc (.cells #[.string ⟨#[]⟩, .string ⟨#[]⟩, .slice none 0 0] 39) := ⟨_, rfl⟩
    obtain ⟨v2, hv2⟩ : ∃ V, V = v1.alloc (.cells #[.string ⟨#[]⟩, .string ⟨#[]⟩, .slice none 0 0] 39) := ⟨_, rfl⟩
    have D1 : Below w4.heap.size w4 v1 := by rw [hv1]; exact (Below.refl _ _).alloc (Nat.le_refl _) _
    have D2 : Below v1.heap.size v1 v2 := by rw [hv2]; exact (Below.refl _ _).alloc (Nat.le_refl _) _
    have y1 : v1.heap.size = w4.heap.size + 1 := by rw [hv1]; exact Array.size_push ..
    have DD := D1.trans (D2.mono D1.size)
    have B5 := B4.trans (DD.mono B4.size)
    have P1 : Arr v2 w4.heap.size 39 [.string ⟨#[]⟩, .string ⟨#[]⟩, .slice none 0 0] := arr_below (by rw [hv1]; exact heap_alloc_new w4 _ : Arr v1 w4.heap.size 39 [.string ⟨#[]⟩, .string ⟨#[]⟩, .slice none 0 0]) D2
    have P2 : Arr v2 (w4.heap.size + 1) 39 [.string ⟨#[]⟩, .string ⟨#[]⟩, .slice none 0 0] := by rw [← y1, hv2]; exact heap_alloc_new v1 _
    have hVV : v2 = (w4.alloc (.cells #[.string ⟨#[]⟩, .string ⟨#[]⟩, .slice none 0 0] 39)).alloc (.cells #[.string ⟨#[]⟩, .string ⟨#[]⟩, .slice none 0 0] 39) := by rw [hv2, hv1]
    have CC := C4.trans (DD.mono C4.size)
    have X5 := X3.below CC
    have L5 := L3.below CC
    have M5 := arr_below M3 CC
    have DX := DD
    clear hv1 hv2 D1 D2 DD y1 M3 X3 L3 m0 m1 m2
    have CMd := middle_any v2 p f t cs X5 HST.out.srt HST.out.good hf32 ht32 HST.out.rows (by have := HST.out.len; omega)
    go_wp2_with fail
    rw [← hVV]
    obtain ⟨k, hk⟩ : ∃ k, k = splitK f t a := ⟨_, rfl⟩
    rw [← hk] at hk1 ⊢
    have z0 : (k != 0) = true := by simp [hk1]
    have z1 : (k != k) = false := by simp
    clear hk
    refine CMd.mono ?_
    rintro e w6 (⟨hlt, rfl, C6⟩ | ⟨x, h2, hx, rfl, C6⟩)
    · clear CMd hVV
      have B6 := B5.trans (C6.mono B5.size)
      have m0 : w6.cell? ⟨q, 0, none⟩ = some (.string f) := (arr_below M5 C6).cell 0
      have m1 : w6.cell? ⟨q, 1, none⟩ = some (.string t) := (arr_below M5 C6).cell 1
      have m2 : w6.cell? ⟨q, 2, none⟩ = some (.slice bo bm bc) := (arr_below M5 C6).cell 2
      have CR := rmiddle_any w6 f t bo bm bc ml (L5.below C6) (by omega)
      rw [HML.out] at CR
      go_wp2_with fail
      refine CR.mono ?_
      rintro e w7 (⟨-, rfl, C7⟩ | ⟨_, h9, -⟩)
      case inr => omega
      have B7 := B6.trans (C7.mono B6.size)
      have CE := C6.trans (C7.mono C6.size)
      clear CR
      have AV := HAL.out w7 B7
      go_wp2_with fail
      refine AV.mono ?_
      rintro e wz ⟨rfl, Cz⟩
      go_wp2
      go_ret
      exact ⟨rfl, B7.trans (Cz.mono B7.size)⟩
    · clear CMd hVV
      have B6 := B5.trans (C6.mono B5.size)
      have m0 : w6.cell? ⟨q, 0, none⟩ = some (.string f) := (arr_below M5 C6).cell 0
      have m1 : w6.cell? ⟨q, 1, none⟩ = some (.string t) := (arr_below M5 C6).cell 1
      have m2 : w6.cell? ⟨q, 2, none⟩ = some (.slice bo bm bc) := (arr_below M5 C6).cell 2
      have CR := rmiddle_any w6 f t bo bm bc ml (L5.below C6) (by omega)
      rw [HML.out] at CR
      go_wp2_with fail
      refine CR.mono ?_
      rintro e w7 (⟨h9, -⟩ | ⟨y, -, hy, rfl, C7⟩)
      case inl => omega
      have B7 := B6.trans (C7.mono B6.size)
      have CE := C6.trans (C7.mono C6.size)
      clear CR
      obtain rfl : x = y := Option.some.inj (hx.symm.trans hy)
      obtain ⟨sx, hsx⟩ : ∃ sx : ByteArray, sx = ⟨x.toArray⟩ := ⟨_, rfl⟩
      rw [show encStr x = .string sx by rw [hsx]]
      have hss : (sx.toList == sx.toList) = true := by simp
      clear hsx hx hy
      have AV := HAL.out w7 B7
      go_wp2_with fail
      refine AV.mono ?_
      rintro e wz ⟨rfl, Cz⟩
      go_wp2
      go_ret
      exact ⟨rfl, B7.trans (Cz.mono B7.size)⟩
  have B3 := B2.trans (C3.mono B2.size)
  have X3 := X2.below C3
  have L3 := L2.below C3
  have M3 := arr_below M2 C3
  have m0 : w3.cell? ⟨q, 0, none⟩ = some (.string f) := M3.cell 0
  have m1 : w3.cell? ⟨q, 1, none⟩ = some (.string t) := M3.cell 1
  have m2 : w3.cell? ⟨q, 2, none⟩ = some (.slice bo bm bc) := M3.cell 2
  have CR := rsplit_any w3 f t a bo bm bc ml (show f.size ≤ maxLen by unfold maxLen; omega) (show t.size ≤ maxLen by unfold maxLen; omega) (show a.size ≤ maxLen by unfold maxLen; omega) L3 (by omega)
  clear CS
  go_wp2_with fail
  refine CR.mono ?_
  rintro e w4 (⟨hk9, o1, n1, c1, o2, n2, c2, rfl, G1, G2, C4⟩ | ⟨hk9, -⟩)
  case inr => exact absurd hk0 hk9
  have B4 := B3.trans (C4.mono B3.size)
  clear CR
  obtain ⟨v1, hv1⟩ : ∃ V, V = w4.alloc (.cells #[.string f, .string a, .slice o1 n1 c1] 39) := ⟨_, rfl⟩
  obtain ⟨v2, hv2⟩ : ∃ V, V = v1.alloc (.cells #[.string a, .string t, .slice o2 n2 c2] 39) := ⟨_, rfl⟩
  have D1 : Below w4.heap.size w4 v1 := by rw [hv1]; exact (Below.refl _ _).alloc (Nat.le_refl _) _
  have D2 : Below v1.heap.size v1 v2 := by rw [hv2]; exact (Below.refl _ _).alloc (Nat.le_refl _) _
  have y1 : v1.heap.size = w4.heap.size + 1 := by rw [hv1]; exact Array.size_push ..
  have DD := D1.trans (D2.mono D1.size)
  have B5 := B4.trans (DD.mono B4.size)
  have P1 : Arr v2 w4.heap.size 39 [.string f, .string a, .slice o1 n1 c1] := arr_below (by rw [hv1]; exact heap_alloc_new w4 _ : Arr v1 w4.heap.size 39 [.string f, .string a, .slice o1 n1 c1]) D2
  have P2 : Arr v2 (w4.heap.size + 1) 39 [.string a, .string t, .slice o2 n2 c2] := by rw [← y1, hv2]; exact heap_alloc_new v1 _
  have hVV : v2 = (w4.alloc (.cells #[.string f, .string a, .slice o1 n1 c1] 39)).alloc (.cells #[.string a, .string t, .slice o2 n2 c2] 39) := by rw [hv2, hv1]
  have CC := C4.trans (DD.mono C4.size)
  have X5 := X3.below CC
  have L5 := L3.below CC
  have M5 := arr_below M3 CC
  have DX := DD
  clear hv1 hv2 D1 D2 DD y1 M3 X3 L3 m0 m1 m2
  have CMd := middle_any v2 p f t cs X5 HST.out.srt HST.out.good hf32 ht32 HST.out.rows (by have := HST.out.len; omega)
  go_wp2_with fail
  rw [← hVV]
  obtain ⟨s1, s2, s3, s4⟩ := splitK_ok hk0
  have SL := (low_rows HST.out : Stand f a 20 _)
  have SH := (high_rows HST.out : Stand a t 20 _)
  obtain ⟨hlo, hhi⟩ := in_bel HST.out HML.out (show a.size ≠ 0 by omega)
  refine CMd.mono ?_
  rintro e w6 (⟨hlt, rfl, C6⟩ | ⟨x, h2, hx, rfl, C6⟩)
  · clear CMd hVV
    have B6 := B5.trans (C6.mono B5.size)
    have m0 : w6.cell? ⟨q, 0, none⟩ = some (.string f) := (arr_below M5 C6).cell 0
    have m1 : w6.cell? ⟨q, 1, none⟩ = some (.string t) := (arr_below M5 C6).cell 1
    have m2 : w6.cell? ⟨q, 2, none⟩ = some (.slice bo bm bc) := (arr_below M5 C6).cell 2
    have CR := rmiddle_any w6 f t bo bm bc ml (L5.below C6) (by omega)
    rw [HML.out] at CR
    go_wp2_with fail
    refine CR.mono ?_
    rintro e w7 (⟨-, rfl, C7⟩ | ⟨_, h9, -⟩)
    case inr => omega
    have B7 := B6.trans (C7.mono B6.size)
    have CE := C6.trans (C7.mono C6.size)
    clear CR
    have j00 : w7.cell? ⟨w4.heap.size, 0, none⟩ = some (.string f) := (arr_below P1 CE).cell 0
    have j01 : w7.cell? ⟨w4.heap.size, 1, none⟩ = some (.string a) := (arr_below P1 CE).cell 1
    have j02 : w7.cell? ⟨w4.heap.size, 2, none⟩ = some (.slice o1 n1 c1) := (arr_below P1 CE).cell 2
    have CS := lsame_any w7 q1 f a o1 n1 c1 20 _ _ ((Y1.below CC).below CE) ((G1.below DX).below CE) hlo SL (by omega) hf32 s2
    go_wp2_with fail
    refine CS.mono ?_
    rintro e w8 ⟨rfl, C8⟩
    have B8 := B7.trans (C8.mono B7.size)
    have CF := CE.trans (C8.mono CE.size)
    clear CS
    have j10 : w8.cell? ⟨w4.heap.size + 1, 0, none⟩ = some (.string a) := (arr_below P2 CF).cell 0
    have j11 : w8.cell? ⟨w4.heap.size + 1, 1, none⟩ = some (.string t) := (arr_below P2 CF).cell 1
    have j12 : w8.cell? ⟨w4.heap.size + 1, 2, none⟩ = some (.slice o2 n2 c2) := (arr_below P2 CF).cell 2
    have CS := lsame_any w8 q2 a t o2 n2 c2 20 _ _ ((Y2.below CC).below CF) ((G2.below DX).below CF) hhi SH (by omega) s2 ht32
    go_wp2_with fail
    refine CS.mono ?_
    rintro e w9 ⟨rfl, C9⟩
    have B9 := B8.trans (C9.mono B8.size)
    have CG := CF.trans (C9.mono CF.size)
    clear CS
    have j20 : w9.cell? ⟨q, 0, none⟩ = some (.string f) := (arr_below M5 CG).cell 0
    have j21 : w9.cell? ⟨q, 1, none⟩ = some (.string t) := (arr_below M5 CG).cell 1
    have j22 : w9.cell? ⟨q, 2, none⟩ = some (.slice bo bm bc) := (arr_below M5 CG).cell 2
    have CS := lsame_any w9 p f t bo bm bc 20 ml cs (X5.below CG) (L5.below CG) HML.out HST.out (by omega) hf32 ht32
    go_wp2_with fail
    refine CS.mono ?_
    rintro e w10 ⟨rfl, C10⟩
    have B10 := B9.trans (C10.mono B9.size)
    have CH := CG.trans (C10.mono CG.size)
    clear CS
    have AV := HAL.out w10 B10
    go_wp2_with fail
    refine AV.mono ?_
    rintro e wz ⟨rfl, Cz⟩
    go_wp2
    go_ret
    exact ⟨rfl, B10.trans (Cz.mono B10.size)⟩
  · clear CMd hVV
    have B6 := B5.trans (C6.mono B5.size)
    have m0 : w6.cell? ⟨q, 0, none⟩ = some (.string f) := (arr_below M5 C6).cell 0
    have m1 : w6.cell? ⟨q, 1, none⟩ = some (.string t) := (arr_below M5 C6).cell 1
    have m2 : w6.cell? ⟨q, 2, none⟩ = some (.slice bo bm bc) := (arr_below M5 C6).cell 2
    have CR := rmiddle_any w6 f t bo bm bc ml (L5.below C6) (by omega)
    rw [HML.out] at CR
    go_wp2_with fail
    refine CR.mono ?_
    rintro e w7 (⟨h9, -⟩ | ⟨y, -, hy, rfl, C7⟩)
    case inl => omega
    have B7 := B6.trans (C7.mono B6.size)
    have CE := C6.trans (C7.mono C6.size)
    clear CR
    obtain rfl : x = y := Option.some.inj (hx.symm.trans hy)
    obtain ⟨sx, hsx⟩ : ∃ sx : ByteArray, sx = ⟨x.toArray⟩ := ⟨_, rfl⟩
    rw [show encStr x = .string sx by rw [hsx]]
    have hss : (sx.toList == sx.toList) = true := by simp
    clear hsx hx hy
    have j00 : w7.cell? ⟨w4.heap.size, 0, none⟩ = some (.string f) := (arr_below P1 CE).cell 0
    have j01 : w7.cell? ⟨w4.heap.size, 1, none⟩ = some (.string a) := (arr_below P1 CE).cell 1
    have j02 : w7.cell? ⟨w4.heap.size, 2, none⟩ = some (.slice o1 n1 c1) := (arr_below P1 CE).cell 2
    have CS := lsame_any w7 q1 f a o1 n1 c1 20 _ _ ((Y1.below CC).below CE) ((G1.below DX).below CE) hlo SL (by omega) hf32 s2
    go_wp2_with fail
    refine CS.mono ?_
    rintro e w8 ⟨rfl, C8⟩
    have B8 := B7.trans (C8.mono B7.size)
    have CF := CE.trans (C8.mono CE.size)
    clear CS
    have j10 : w8.cell? ⟨w4.heap.size + 1, 0, none⟩ = some (.string a) := (arr_below P2 CF).cell 0
    have j11 : w8.cell? ⟨w4.heap.size + 1, 1, none⟩ = some (.string t) := (arr_below P2 CF).cell 1
    have j12 : w8.cell? ⟨w4.heap.size + 1, 2, none⟩ = some (.slice o2 n2 c2) := (arr_below P2 CF).cell 2
    have CS := lsame_any w8 q2 a t o2 n2 c2 20 _ _ ((Y2.below CC).below CF) ((G2.below DX).below CF) hhi SH (by omega) s2 ht32
    go_wp2_with fail
    refine CS.mono ?_
    rintro e w9 ⟨rfl, C9⟩
    have B9 := B8.trans (C9.mono B8.size)
    have CG := CF.trans (C9.mono CF.size)
    clear CS
    have j20 : w9.cell? ⟨q, 0, none⟩ = some (.string f) := (arr_below M5 CG).cell 0
    have j21 : w9.cell? ⟨q, 1, none⟩ = some (.string t) := (arr_below M5 CG).cell 1
    have j22 : w9.cell? ⟨q, 2, none⟩ = some (.slice bo bm bc) := (arr_below M5 CG).cell 2
    have CS := lsame_any w9 p f t bo bm bc 20 ml cs (X5.below CG) (L5.below CG) HML.out HST.out (by omega) hf32 ht32
    go_wp2_with fail
    refine CS.mono ?_
    rintro e w10 ⟨rfl, C10⟩
    have B10 := B9.trans (C10.mono B9.size)
    have CH := CG.trans (C10.mono CG.size)
    clear CS
    have AV := HAL.out w10 B10
    go_wp2_with fail
    refine AV.mono ?_
    rintro e wz ⟨rfl, Cz⟩
    go_wp2
    go_ret
    exact ⟨rfl, B10.trans (Cz.mono B10.size)⟩
open Go.RowKit
def opT : OpTypes Tryz.prog where
  op := 28
  key := 24
  int := 3
  str := 9
  u64 := 22
  bys := 25
  u8 := 5
  bool := 4
  subs := 26
  f0 := { name := "Kind", type := 3, offset := 0, embedded := false, tag := "", pkgPath := "", byteOffset := 0 }
  f1 := { name := "K", type := 24, offset := 1, embedded := false, tag := "", pkgPath := "", byteOffset := 8 }
  f2 := { name := "To", type := 9, offset := 5, embedded := false, tag := "", pkgPath := "", byteOffset := 64 }
  f3 := { name := "Value", type := 25, offset := 6, embedded := false, tag := "", pkgPath := "", byteOffset := 80 }
  f4 := { name := "Want", type := 25, offset := 7, embedded := false, tag := "", pkgPath := "", byteOffset := 104 }
  f5 := { name := "Has", type := 4, offset := 8, embedded := false, tag := "", pkgPath := "", byteOffset := 128 }
  f6 := { name := "Sub", type := 26, offset := 9, embedded := false, tag := "", pkgPath := "", byteOffset := 136 }
  g0 := { name := "Row", type := 9, offset := 0, embedded := false, tag := "", pkgPath := "", byteOffset := 0 }
  g1 := { name := "Family", type := 9, offset := 1, embedded := false, tag := "", pkgPath := "", byteOffset := 16 }
  g2 := { name := "Qual", type := 9, offset := 2, embedded := false, tag := "", pkgPath := "", byteOffset := 32 }
  g3 := { name := "Time", type := 22, offset := 3, embedded := false, tag := "", pkgPath := "", byteOffset := 48 }
  hop := Tryz.underlying28
  hkey := Tryz.underlying24
  hint := Tryz.underlying3
  hstr := Tryz.underlying9
  hu64 := Tryz.underlying22
  hbys := Tryz.underlying25
  hu8 := Tryz.underlying5
  hbool := Tryz.underlying4
  hsubs := Tryz.underlying26
  cop := by kernel_rfl
  ckey := by kernel_rfl
  cint := by kernel_rfl
  cstr := by kernel_rfl
  cu64 := by kernel_rfl
  cbys := by kernel_rfl
  cu8 := by kernel_rfl
  bu8 := by kernel_rfl
  cbool := by kernel_rfl
  csubs := by kernel_rfl
  o0 := ⟨rfl, rfl⟩
  o1 := ⟨rfl, rfl⟩
  o2 := ⟨rfl, rfl⟩
  o3 := ⟨rfl, rfl⟩
  o4 := ⟨rfl, rfl⟩
  o5 := ⟨rfl, rfl⟩
  o6 := ⟨rfl, rfl⟩
  p0 := ⟨rfl, rfl⟩
  p1 := ⟨rfl, rfl⟩
  p2 := ⟨rfl, rfl⟩
  p3 := ⟨rfl, rfl⟩
open Go.RowKit
def cellT : CellTypes Tryz.prog opT where
  cel := 33
  cels := 31
  f0 := { name := "K", type := 24, offset := 0, embedded := false, tag := "", pkgPath := "", byteOffset := 0 }
  f1 := { name := "Value", type := 25, offset := 4, embedded := false, tag := "", pkgPath := "", byteOffset := 56 }
  f2 := { name := "Gone", type := 4, offset := 5, embedded := false, tag := "", pkgPath := "", byteOffset := 80 }
  hcel := Tryz.underlying33
  hcels := Tryz.underlying31
  ccel := by kernel_rfl
  o0 := ⟨rfl, rfl⟩
  o1 := ⟨rfl, rfl⟩
  o2 := ⟨rfl, rfl⟩
open Go.RowKit
abbrev laidL : List (String × DataW Unit) := [("unicode/utf8.acceptRanges", Rows.laid_unicode_utf8_acceptRanges), ("bulwark/digest.firstWords", Rows.laid_bulwark_digest_firstWords), ("bulwark/digest.roundWords", Rows.laid_bulwark_digest_roundWords), ("unicode/utf8.first", Rows.laid_unicode_utf8_first)]
theorem gFirst : Tryz.prog.globalNamed "bulwark/digest.firstWords" = some 1 := by kernel_rfl
theorem gRound : Tryz.prog.globalNamed "bulwark/digest.roundWords" = some 0 := by kernel_rfl
theorem tFirst : (Tryz.prog.globals[1]?).map (·.type) = some 163 := by kernel_rfl
theorem tRound : (Tryz.prog.globals[0]?).map (·.type) = some 194 := by kernel_rfl
theorem laidL_plain : (laidL.all fun x => x.2.handleName?.isNone) = true := by kernel_rfl
theorem all_met (os : Os) (args : Array Value) : laidMetH Tryz.prog laidL ((World.laidAll Tryz.prog os laidL).forCall (fun _ _ => 0) ⟨#[], args, []⟩).memory := by
  rw [MakeChecks.laidMetH_plain _ _ _ laidL_plain]
  exact laidMet_laidAll _ (by kernel_rfl) (by kernel_rfl)
theorem words_of {H : Type} {enc : TypeId × Value → H} {w : World} {base : Nat} {sp : Nat → Bool} {held : Bool} {fuel n : Nat} {t : TypeId} {cs : List Value} {zs : List Int} {p : List MemPlace}
    (ht : Tryz.prog.underlying t = some (.array n 162)) (h : DataW.trod enc Tryz.prog w base sp held fuel t cs = some (.agg (zs.map fun z => .lit (.int .u32 z)), p)) (hz : zs.length = n) :
    ∀ (j : Nat) (v : Value), (wv zs)[j]? = some v → cs[j]? = some v := by
  intro j v hv
  have hj : j < zs.length := by have := (List.getElem?_eq_some_iff.1 hv).1; rwa [wv_length] at this
  rw [wv_get zs j hj] at hv
  obtain rfl := Option.some.inj hv
  obtain ⟨f', d, q, hd, he⟩ := Lib.array_elem ht h j (by omega)
  have c1 : Tryz.prog.cellsOf 162 = 1 := by kernel_rfl
  rw [c1, Nat.mul_one] at he
  obtain ⟨k, e1, e2, _⟩ := DataW.trod_int Tryz.underlying162 he
  simp only [Prod.mk.injEq] at e2
  rw [e2.1] at hd
  simp only [List.getElem?_map, List.getElem?_eq_getElem hj, Option.map_some, Option.some.injEq, DataW.lit.injEq, Lit.int.injEq, true_and] at hd
  have : (cs.drop j)[0]? = some (.int .u32 k) := by
    have := congrArg (fun l : List Value => l[0]?) e1
    simpa [List.getElem?_take] using this
  rw [List.getElem?_drop, Nat.add_zero] at this
  rw [this, ← hd]
  simp [List.getD, hj]
theorem tabs_of {W : World} (h : laidMetH Tryz.prog laidL W) : Tabs W := by
  rw [MakeChecks.laidMetH_plain _ _ _ laidL_plain] at h
  obtain ⟨ps, ⟨gx, tx, csx, fx, px, qx, _, _, _, _, ⟨g0, t0, cs0, f0, p0, q0, hg0, ht0, hv0, hd0, ⟨g1, t1, cs1, f1, p1, q1, hg1, ht1, hv1, hd1, _, _⟩, _⟩, _⟩, _, _⟩ := h
  obtain rfl := Option.some.inj (gFirst.symm.trans hg0)
  obtain rfl := Option.some.inj (gRound.symm.trans hg1)
  obtain rfl := Option.some.inj (tFirst.symm.trans ht0)
  obtain rfl := Option.some.inj (tRound.symm.trans ht1)
  have hA := words_of (zs := H0) Tryz.underlying163 hd0 rfl
  have hB := words_of (zs := K0) Tryz.underlying194 hd1 rfl
  have cA : ∀ j v, (wv H0)[j]? = some v → W.cell? ⟨1, j, none⟩ = some v := fun j v hv => by
    rw [World.var?_cell hg0 hv0 j]
    simpa using hA j v hv
  refine ⟨cA, fun j v hv => ?_, ?_⟩
  · rw [World.var?_cell hg1 hv1 j]
    simpa using hB j v hv
  · have := block_lt_of_cell (cA 0 _ rfl)
    exact this
end Go.Proofs.YtlljmhcgjkolpaaGreatDoor

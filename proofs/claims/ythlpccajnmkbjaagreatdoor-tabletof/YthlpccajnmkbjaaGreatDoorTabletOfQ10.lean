/-
  Texts in one: PCut, CKeys, PRead.
-/
import Derived.Test.YthlpccajnmkbjaaGreatDoorTabletOfQFL
import Derived.Test.YthlpccajnmkbjaaGreatDoorTabletOfQ9
import Derived.Test.YthlpccajnmkbjaaGreatDoorTabletOfQ8
import Derived.Deep.LoopGhost
import Derived.Test.YthlpccajnmkbjaaGreatDoorTabletOfQ4
import Derived.Laws.Bits64b
namespace Go.Proofs.YthlpccajnmkbjaaGreatDoor
open Go.RowKit
def cutN : Nat → List Int → Option (List (List Int) × List Int)
  | 0, xs => some ([], xs)
  | n + 1, xs => (cutL xs).bind fun p => (cutN n p.2).map fun q => (p.1 :: q.1, q.2)
def namesV (ss : List ByteArray) : List Value := ss.map Value.string
def NamesPost (w' : World) (e : Ending) : Option (List (List Int) × List Int) → Prop
  | none => e = .returned (.tuple #[.agg (namesV [⟨#[]⟩, ⟨#[]⟩, ⟨#[]⟩]).toArray, .slice none 0 0])
  | some q => ∃ ss bo m c, e = .returned (.tuple #[.agg (namesV ss).toArray, .slice bo m c]) ∧ ss.length = 3 ∧ ss.map sb = q.1 ∧ Sl w' bo m c q.2
theorem hr_app {ops : Array Oper} {S : World → Prop} {Q : Exit → Act → World → Prop} {fuel : Nat} {listed : Array Bool} {a : Act} {w : World} (i : Nat) (d : Option Tmp) {oi : Oper} (hi : ops[i]? = some oi) (hd : oi.dst = d) (hr : Region.ready .any ops listed = [i]) (hg : oi.guard = none) (s x : Operand)
    (ho : oi.op = .call { callee := .builtin .append, args := #[s, x], argTypes := #[40, 40] })
    (base : Nat) (v : Value) (n : Nat) (xs : List Int) (hs : a.eval s = v) (hown : w.ownsRow base 5 1 v n (bv xs))
    (ad : Addr) (m c : Nat) (ys : List Int) (hx : a.eval x = .slice (some ad) m c) (hsl : Sl w (some ad) m c ys) (hb : n + m ≤ 140737488355328) (hbase : base ≤ w.heap.size)
    (h : ∀ v' w', w'.ownsRow base 5 1 v' (n + m) (bv (xs ++ ys)) → w.grownBy w' v.ownBlock → S w' ∧ wpAnyH Tryz.prog .any ops (NoPanic Q) S fuel (listed.setIfInBounds i true) (a.put d v') w') : wpAnyH Tryz.prog .any ops (NoPanic Q) S (fuel + 1) listed a w := by
  refine wpAnyH_all hr (by simp) fun j hj => ?_
  obtain rfl := List.mem_singleton.1 hj
  have hw : Region.wanted oi (yielded ops a.tmps) = true := by simp [Region.wanted, hg]
  obtain ⟨i0, hi0, hz0, hz1, hz2⟩ := info_parts u8info
  unfold wpOp
  simp only [hi, hw, if_true]
  refine .inl ?_
  refine wp_append_own w s x 40 ho base 5 i0 (.int .u8 0) 1 1 Tryz.underlying40 hi0 hz0 hz1 hz2 rfl (by decide) v n (bv xs) hs hown ad m c (bv ys) hx (by rw [bv_length, hsl.len, Nat.mul_one]) (hsl.cells ad rfl) (bv_one ys) (by unfold maxLen; omega) (by omega) hbase ?_
  intro v' w' h1 h2 _
  rw [← bv_append] at h1
  rw [hd]
  exact h v' w' h1 h2
set_option maxHeartbeats 4000000 in
set_option maxRecDepth 100000 in
theorem pcut_any (w : World) (ao : Option Addr) (n cap : Nat) (xs : List Int) (h : Sl w ao n cap xs) (hn : n ≤ 1000000) :
    Calls Tryz.prog 159 #[.slice ao n cap] w fun e w' => NamesPost w' e (cutN 3 xs) ∧ Below w.heap.size w w' := by
  have e1 : (w.alloc (.cells #[.string ⟨#[]⟩, .string ⟨#[]⟩, .string ⟨#[]⟩] 171)).heap[w.heap.size]? = some (.cells (namesV [⟨#[]⟩, ⟨#[]⟩, ⟨#[]⟩]).toArray 171) := heap_alloc_new w _
  have B1 : Below w.heap.size w (w.alloc (.cells #[.string ⟨#[]⟩, .string ⟨#[]⟩, .string ⟨#[]⟩] 171)) := (Below.refl _ w).alloc (Nat.le_refl _) _
  obtain ⟨p, hp⟩ : ∃ p, p = w.heap.size := ⟨_, rfl⟩
  go_enter Tryz.func159, Tryz.ntmps159
  go_wp2_with fail
  go_step3
  go_wp2_with fail
  go_step3
  obtain ⟨w1, hw1⟩ : ∃ W, W = (w.alloc (.cells #[.string ⟨#[]⟩, .string ⟨#[]⟩, .string ⟨#[]⟩] 171)) := ⟨_, rfl⟩
  rw [← hw1] at e1 B1 ⊢
  have z1 : w1.heap.size = w.heap.size + 1 := by rw [hw1]; simp
  rw [← hp] at e1 B1 z1 ⊢
  clear hw1
  have HP : Hid (p = w.heap.size) := hp
  clear hp
  have E1 : Hid (w1.heap[p]? = some (.cells (namesV [⟨#[]⟩, ⟨#[]⟩, ⟨#[]⟩]).toArray 171)) := e1
  clear e1
  go_wp2_with fail
  go_loopg [0, 4, 5, 6] 3 (fun g b _ _ i wr => ∃ (j : Nat) (ss : List ByteArray) (bo : Option Addr) (m c : Nat) (ys : List Int), j + g = 3 ∧ i = .int .i64 j ∧ b = .slice bo m c ∧ m ≤ n ∧ Sl w bo m c ys ∧ ss.length = 3 ∧ Hid (wr.heap[p]? = some (.cells (namesV ss).toArray 171)) ∧ Below p w wr ∧ Hid (cutN 3 xs = (cutN g ys).map fun q => ((ss.take j).map sb ++ q.1, q.2)))
  case atStart => exact ⟨0, _, _, _, _, xs, rfl, rfl, rfl, Nat.le_refl _, h, rfl, E1, B1, by show _ = _; simp⟩
  case round =>
    clear E1 B1
    obtain ⟨j, ss, bo, m, c, ys, hjg, rfl, rfl, hmn, S, hss, A, B, HC⟩ := hrel
    have bs := B.size
    cases gk with
    | zero =>
      obtain rfl : j = 3 := by omega
      obtain ⟨s0, s1, s2, rfl⟩ : ∃ s0 s1 s2, ss = [s0, s1, s2] := by
        match ss, hss with
        | [a, b, c], _ => exact ⟨a, b, c, rfl⟩
      have q0 : wr.cell? ⟨p, 0, none⟩ = some (.string s0) := cell_of_row wr p 0 _ _ _ A.out
      have q1 : wr.cell? ⟨p, 1, none⟩ = some (.string s1) := cell_of_row wr p 1 _ _ _ A.out
      have q2 : wr.cell? ⟨p, 2, none⟩ = some (.string s2) := cell_of_row wr p 2 _ _ _ A.out
      have f0 : wr.frozen? ⟨p, 0, none⟩ = false := frozen_of_row wr p 0 _ _ A.out
      have f1 : wr.frozen? ⟨p, 1, none⟩ = false := frozen_of_row wr p 1 _ _ A.out
      have f2 : wr.frozen? ⟨p, 2, none⟩ = false := frozen_of_row wr p 2 _ _ A.out
      have B2 : Below p w (((wr.setCell ⟨p, 0, none⟩ (.string s0)).setCell ⟨p, 1, none⟩ (.string s1)).setCell ⟨p, 2, none⟩ (.string s2)) := ((B.setCell (Nat.le_refl _) _).setCell (Nat.le_refl _) _).setCell (Nat.le_refl _) _
      rw [HP.out] at B2
      go_wp2
      refine bodyPost_ret (v := .tuple #[.agg #[.string s0, .string s1, .string s2], .slice bo m c]) (by simp [results, Tryz.results159, go_sem, q0, q1, q2]) rfl ⟨?_, ?_⟩
      · rw [HC.out]
        exact ⟨[s0, s1, s2], bo, m, c, rfl, rfl, by simp, S.below (by rw [HP.out]; exact B2)⟩
      · rw [HP.out]; exact B2
    | succ g =>
      have il : (j : Int) < 3 := by omega
      go_wp2_with fail
      go_loopg [0, 5] m (fun g2 b nv wx => ∃ (bo2 : Option Addr) (m2 c2 : Nat) (zs acc : List Int), b = .slice bo2 m2 c2 ∧ m2 = g2 ∧ Sl w bo2 m2 c2 zs ∧ wx.ownsRow (p + 1) 5 1 nv acc.length (bv acc) ∧ Byt acc ∧ acc.length + m2 ≤ n ∧ Hid (wx.heap[p]? = some (.cells (namesV ss).toArray 171)) ∧ Below p w wx ∧ Hid (cutL ys = (cutL zs).map fun q => (acc ++ q.1, q.2)))
      case atStart => exact ⟨bo, m, c, ys, [], rfl, rfl, S, World.ownsRow_nil _ _ _ _, fun x hx => by simp at hx, by simpa using hmn, A, B, by show _ = _; simp⟩
      case round =>
        clear A B bs
        obtain ⟨bo2, m2, c2, zs, acc, rfl, rfl, S2, O, hby, hle, A, B2, HC2⟩ := hrel
        have bs := B2.size
        have bp : p < wr.heap.size := (Array.getElem?_eq_some_iff.1 A.out).1
        have l2 := S2.len
        have lc := S2.le
        obtain ⟨s0, s1, s2, hs3⟩ : ∃ s0 s1 s2, ss = [s0, s1, s2] := by
          match ss, hss with
          | [a, b, c], _ => exact ⟨a, b, c, rfl⟩
        have AA := A.out
        rw [hs3] at AA
        have q0 : wr.cell? ⟨p, 0, none⟩ = some (.string s0) := cell_of_row wr p 0 _ _ _ AA
        have q1 : wr.cell? ⟨p, 1, none⟩ = some (.string s1) := cell_of_row wr p 1 _ _ _ AA
        have q2 : wr.cell? ⟨p, 2, none⟩ = some (.string s2) := cell_of_row wr p 2 _ _ _ AA
        have f0 : wr.frozen? ⟨p, 0, none⟩ = false := frozen_of_row wr p 0 _ _ AA
        have f1 : wr.frozen? ⟨p, 1, none⟩ = false := frozen_of_row wr p 1 _ _ AA
        have f2 : wr.frozen? ⟨p, 2, none⟩ = false := frozen_of_row wr p 2 _ _ AA
        have BZ : Below p w (((wr.setCell ⟨p, 0, none⟩ (.string ⟨#[]⟩)).setCell ⟨p, 1, none⟩ (.string ⟨#[]⟩)).setCell ⟨p, 2, none⟩ (.string ⟨#[]⟩)) := ((B2.setCell (Nat.le_refl _) _).setCell (Nat.le_refl _) _).setCell (Nat.le_refl _) _
        clear hs3 AA
        by_cases hm0 : m2 = 0
        · subst hm0
          have hzs : zs = [] := List.eq_nil_of_length_eq_zero l2
          have hnone : Hid (cutN 3 xs = none) := by
            have e1 : cutL ys = none := by rw [HC2.out, hzs]; simp [cutL]
            show _ = _
            rw [HC.out, cutN, e1]
            rfl
          clear O  hzs l2 S2 hle
          go_wp2
          rw [Exit.noGoto_ret]
          refine bodyPost_ret (v := .tuple #[.agg #[.string ⟨#[]⟩, .string ⟨#[]⟩, .string ⟨#[]⟩], .slice none 0 0]) (by simp [results, Tryz.results159, go_sem, q0, q1, q2]) rfl ⟨?_, ?_⟩
          · rw [hnone.out]; rfl
          · rw [← HP.out]; exact BZ
        · obtain ⟨b2, off2, rfl, hcell0⟩ := S2.at (by omega)
          have hcell : Hid (∀ i, i < m2 → w.cell? ⟨b2, off2 + i, none⟩ = some (.int .u8 (zs.getD i 0))) := hcell0
          clear hcell0
          have i0 : (0 : Int) < (m2 : Int) := by omega
          have i1 : (1 : Int) ≤ (m2 : Int) := by omega
          obtain ⟨z, hzz⟩ : ∃ z, z = zs.getD 0 0 := ⟨_, rfl⟩
          have hzs : Hid (zs = z :: zs.drop 1) := by
            show _ = _
            have := drop_at zs 0 (by omega)
            rw [List.drop_zero] at this
            rw [hzz]; exact this
          have hz8 : 0 ≤ z ∧ z ≤ 255 := by
            have := S2.byte.at 0
            rw [hzz]; simpa [List.getD] using this
          have CELL0 : ∀ V : World, Below p w V → V.cell? ⟨b2, off2, none⟩ = some (.int .u8 z) := fun V hV => by
            have h0 := hcell.out 0 (by omega)
            rw [Nat.add_zero, ← hzz] at h0
            have hb := World.block_lt_of_cell? w _ h0
            exact (hV.cell (by show b2 < p; rw [HP.out]; exact hb)).trans h0
          have HC0 : Hid (∀ V : World, Below p w V → V.cell? ⟨b2, off2, none⟩ = some (.int .u8 z)) := CELL0
          have c0 := CELL0 wr B2
          have c0d : wr.drew.cell? ⟨b2, off2, none⟩ = some (.int .u8 z) := c0
          clear CELL0 hzz
          by_cases hz : z ≠ 0
          · have gz : (z == 0) = false := by simp [hz]
            have gz2 : (z != 0) = true := by simp [hz]
            have HC3 : Hid (cutL ys = (cutL (zs.drop 1)).map fun q => ((acc ++ [z]) ++ q.1, q.2)) := by
              show _ = _
              rw [HC2.out, hzs.out, cutL_ne _ hz]
              exact map_more _ acc [z]
            obtain ⟨ad, had⟩ : ∃ ad : Addr, ad = (if c2 = 1 then ⟨b2, off2, none⟩ else ⟨b2, off2 + 1, none⟩) := ⟨_, rfl⟩
            have SC : Sl w (some ad) (m2 - 1) (c2 - 1) (zs.drop 1) := by rw [had]; exact cutC S2 1 (by omega)
            have HAD : Hid (ad = (if c2 = 1 then ⟨b2, off2, none⟩ else ⟨b2, off2 + 1, none⟩)) := had
            clear had
            go_wp2_with fail
            have E0 : Below wr.heap.size wr wr.drew := (Below.refl _ _).drew
            refine wp_region_noPanic ?_
            refine wp_region_held_drew (S := fun V => V.cell? ⟨b2, off2, none⟩ = some (.int .u8 z)) (by kernel_rfl) (c0d) (fun H0 => ?_)
            obtain ⟨v0, hv0⟩ : ∃ v, v = wr.drew := ⟨_, rfl⟩
            rw [← hv0] at H0 E0 ⊢
            have hv0h : v0.heap = wr.heap := by rw [hv0]; rfl
            clear hv0
            refine hr_take 0 (some 20) (u5) rfl rfl (by kernel_rfl) (by kernel_rfl) (by kernel_rfl) rfl (fun W hW => by go_simp) H0 ?_
            simp only [FL]
            refine hr_take 1 (some 21) (.slice (some ⟨b2, off2, none⟩) m2 c2) rfl rfl (by kernel_rfl) (by kernel_rfl) (by kernel_rfl) rfl (fun W hW => by go_simp) H0 ?_
            simp only [FL]
            refine hr_take 2 (some 22) (.pointer (some ⟨b2, off2, none⟩)) rfl rfl (by kernel_rfl) (by kernel_rfl) (by kernel_rfl) rfl (fun W hW => by go_simp) H0 ?_
            simp only [FL]
            refine hr_take 3 (some 23) (.int .u8 z) rfl rfl (by kernel_rfl) (by kernel_rfl) (by kernel_rfl) rfl (fun W hW => by go_simp) H0 ?_
            simp only [FL]
            refine hr_take 6 (some 26) (.slice (some ⟨b2, off2, none⟩) m2 c2) rfl rfl (by kernel_rfl) (by kernel_rfl) (by kernel_rfl) rfl (fun W hW => by go_simp) H0 ?_
            simp only [FL]
            refine hr_take 7 (some 27) (.slice (some ad) (m2 - 1) (c2 - 1)) rfl rfl (by kernel_rfl) (by kernel_rfl) (by kernel_rfl) rfl (fun W hW => by (go_simp <;> (rw [HAD.out]; by_cases hh : c2 = 1 <;> simp [hh]))) H0 ?_
            simp only [FL]
            obtain ⟨v1, hv1⟩ : ∃ v, v = v0.alloc (.cells #[.int .u8 z] 5) := ⟨_, rfl⟩
            obtain ⟨g1, hg1⟩ : ∃ g, g = v0.heap.size := ⟨_, rfl⟩
            have F1 : Below wr.heap.size wr v1 := by rw [hv1]; exact E0.alloc (E0.size) _
            have O1 : v1.ownsRow (p + 1) 5 1 u5 acc.length (bv acc) := by rw [hv1]; exact World.ownsRow.alloc (by unfold World.ownsRow; rw [hv0h]; exact O) _
            have X1 : Sl v1 (some ⟨g1, 0, none⟩) 1 1 [z] := by rw [hv1, hg1]; exact Sl.one v0 _ hz8
            have D1 : Below p w v1 := B2.trans (F1.mono (by omega))
            have H1 : v1.cell? ⟨b2, off2, none⟩ = some (.int .u8 z) := HC0.out _ D1
            have y1 := F1.size
            refine hr_do 4 (some 24) (.slice (some ⟨g1, 0, none⟩) 1 1) rfl rfl (by kernel_rfl) rfl (w' := v1) (by rw [hv1, hg1]; go_simp) H1 ?_
            simp only [FL]
            clear hv1 hg1
            refine hr_app 5 (some 25) rfl rfl (by kernel_rfl) rfl (.tmp 20) (.tmp 24) rfl (p + 1) u5 acc.length acc rfl O1 _ 1 1 [z] rfl X1 (by omega) (by omega) ?_
            intro nv2 v2 O2 G2
            have D2 : Below p w v2 := D1.grown G2 (by omega) (fun k hk => by have := (O1.lt k hk).1; omega)
            have H2 : v2.cell? ⟨b2, off2, none⟩ = some (.int .u8 z) := HC0.out _ D2
            have A2 : Hid (v2.heap[p]? = some (.cells (namesV ss).toArray 171)) := by
              show _ = _
              rw [G2.block p (by omega) (fun e => by have := (O1.lt p e.symm).1; omega), F1.block p (by omega)]
              exact A.out
            refine ⟨H2, ?_⟩
            simp only [FL]
            refine hr_take 8 (some 5) (nv2) rfl rfl (by kernel_rfl) (by kernel_rfl) (by kernel_rfl) rfl (fun W hW => by go_simp) H2 ?_
            simp only [FL]
            refine hr_take 9 (some 0) (.slice (some ad) (m2 - 1) (c2 - 1)) rfl rfl (by kernel_rfl) (by kernel_rfl) (by kernel_rfl) rfl (fun W hW => by go_simp) H2 ?_
            simp only [FL]
            refine wpAnyH_done (by kernel_rfl) ?_ _
            refine NoPanic.normal ?_
            have O3 : v2.ownsRow (p + 1) 5 1 nv2 (acc ++ [z]).length (bv (acc ++ [z])) := by simpa using O2
            clear O O1 O2 A G2 H0 H1 H2 E0 F1 X1 D1 hv0h c0 c0d
            go_wp2
            go_roundg (m2 - 1)
            case measure => omega
            case rel => exact ⟨some ad, m2 - 1, c2 - 1, zs.drop 1, acc ++ [z], rfl, rfl, SC, O3, hby.append (by intro y hy; simp at hy; omega), by simp; omega, A2, D2, HC3⟩
          · obtain rfl : z = 0 := by omega
            by_cases hm1 : m2 = 1
            · subst hm1
              have hzs2 : zs.drop 1 = [] := List.drop_eq_nil_of_le (by omega)
              have hnone : Hid (cutN 3 xs = none) := by
                have e1 : cutL ys = none := by rw [HC2.out, hzs.out, hzs2]; simp [cutL]
                show _ = _
                rw [HC.out, cutN, e1]
                rfl
              clear O HC0  hzs hzs2 l2 S2 hle
              go_wp2
              rw [Exit.noGoto_ret]
              refine bodyPost_ret (v := .tuple #[.agg #[.string ⟨#[]⟩, .string ⟨#[]⟩, .string ⟨#[]⟩], .slice none 0 0]) (by simp [results, Tryz.results159, go_sem, q0, q1, q2]) rfl ⟨?_, ?_⟩
              · rw [hnone.out]; rfl
              · rw [← HP.out]; exact BZ
            · have i2 : (1 : Int) < (m2 : Int) := by omega
              have i3 : (2 : Int) ≤ (m2 : Int) := by omega
              obtain ⟨d, hdd⟩ : ∃ d, d = zs.getD 1 0 := ⟨_, rfl⟩
              have hzs2 : Hid (zs = 0 :: d :: zs.drop 2) := by
                show _ = _
                have := drop_at zs 1 (by omega)
                rw [← hdd] at this
                rw [← this]
                exact hzs.out
              have c1 : wr.cell? ⟨b2, off2 + 1, none⟩ = some (.int .u8 d) := by
                have h0 := hcell.out 1 (by omega)
                rw [← hdd] at h0
                have hb := World.block_lt_of_cell? w _ h0
                exact (B2.cell (by show b2 < p; rw [HP.out]; exact hb)).trans h0
              clear hdd hzs
              by_cases d255 : d = 255
              · subst d255
                have HC3 : Hid (cutL ys = (cutL (zs.drop 2)).map fun q => ((acc ++ [0]) ++ q.1, q.2)) := by
                  show _ = _
                  rw [HC2.out, hzs2.out, cutL_255]
                  exact map_more _ acc [0]
                obtain ⟨ad, had⟩ : ∃ ad : Addr, ad = (if c2 = 2 then ⟨b2, off2, none⟩ else ⟨b2, off2 + 2, none⟩) := ⟨_, rfl⟩
                have SC : Sl w (some ad) (m2 - 2) (c2 - 2) (zs.drop 2) := by rw [had]; exact cutC S2 2 (by omega)
                have HAD : Hid (ad = (if c2 = 2 then ⟨b2, off2, none⟩ else ⟨b2, off2 + 2, none⟩)) := had
                clear had
                go_wp2_with fail
                have E0 : Below wr.heap.size wr wr.drew := (Below.refl _ _).drew
                refine wp_region_noPanic ?_
                refine wp_region_held_drew (S := fun _ => True) (by kernel_rfl) (trivial) (fun H0 => ?_)
                obtain ⟨v0, hv0⟩ : ∃ v, v = wr.drew := ⟨_, rfl⟩
                rw [← hv0] at E0 ⊢
                have hv0h : v0.heap = wr.heap := by rw [hv0]; rfl
                clear hv0
                refine hr_take 0 (some 38) (u5) rfl rfl (by kernel_rfl) (by kernel_rfl) (by kernel_rfl) rfl (fun W hW => by go_simp) H0 ?_
                simp only [FL]
                refine hr_take 3 (some 41) (.slice (some ⟨b2, off2, none⟩) m2 c2) rfl rfl (by kernel_rfl) (by kernel_rfl) (by kernel_rfl) rfl (fun W hW => by go_simp) H0 ?_
                simp only [FL]
                refine hr_take 4 (some 42) (.slice (some ad) (m2 - 2) (c2 - 2)) rfl rfl (by kernel_rfl) (by kernel_rfl) (by kernel_rfl) rfl (fun W hW => by (go_simp <;> (rw [HAD.out]; by_cases hh : c2 = 2 <;> simp [hh]))) H0 ?_
                simp only [FL]
                obtain ⟨v1, hv1⟩ : ∃ v, v = v0.alloc (.cells #[.int .u8 0] 5) := ⟨_, rfl⟩
                obtain ⟨g1, hg1⟩ : ∃ g, g = v0.heap.size := ⟨_, rfl⟩
                have F1 : Below wr.heap.size wr v1 := by rw [hv1]; exact E0.alloc (E0.size) _
                have O1 : v1.ownsRow (p + 1) 5 1 u5 acc.length (bv acc) := by rw [hv1]; exact World.ownsRow.alloc (by unfold World.ownsRow; rw [hv0h]; exact O) _
                have X1 : Sl v1 (some ⟨g1, 0, none⟩) 1 1 [0] := by rw [hv1, hg1]; exact Sl.one v0 _ (by omega)
                have D1 : Below p w v1 := B2.trans (F1.mono (by omega))
                have H1 : True := trivial
                have y1 := F1.size
                refine hr_do 1 (some 39) (.slice (some ⟨g1, 0, none⟩) 1 1) rfl rfl (by kernel_rfl) rfl (w' := v1) (by rw [hv1, hg1]; go_simp) H1 ?_
                simp only [FL]
                clear hv1 hg1
                refine hr_app 2 (some 40) rfl rfl (by kernel_rfl) rfl (.tmp 38) (.tmp 39) rfl (p + 1) u5 acc.length acc rfl O1 _ 1 1 [0] rfl X1 (by omega) (by omega) ?_
                intro nv2 v2 O2 G2
                have D2 : Below p w v2 := D1.grown G2 (by omega) (fun k hk => by have := (O1.lt k hk).1; omega)
                have H2 : True := trivial
                have A2 : Hid (v2.heap[p]? = some (.cells (namesV ss).toArray 171)) := by
                  show _ = _
                  rw [G2.block p (by omega) (fun e => by have := (O1.lt p e.symm).1; omega), F1.block p (by omega)]
                  exact A.out
                refine ⟨H2, ?_⟩
                simp only [FL]
                refine hr_take 5 (some 5) (nv2) rfl rfl (by kernel_rfl) (by kernel_rfl) (by kernel_rfl) rfl (fun W hW => by go_simp) H2 ?_
                simp only [FL]
                refine hr_take 6 (some 0) (.slice (some ad) (m2 - 2) (c2 - 2)) rfl rfl (by kernel_rfl) (by kernel_rfl) (by kernel_rfl) rfl (fun W hW => by go_simp) H2 ?_
                simp only [FL]
                refine wpAnyH_done (by kernel_rfl) ?_ _
                refine NoPanic.normal ?_
                have O3 : v2.ownsRow (p + 1) 5 1 nv2 (acc ++ [0]).length (bv (acc ++ [0])) := by simpa using O2
                clear O O1 O2 A G2 H0 H1 H2 E0 F1 X1 D1 hv0h c0 c0d
                go_wp2
                go_roundg (m2 - 2)
                case measure => omega
                case rel => exact ⟨some ad, m2 - 2, c2 - 2, zs.drop 2, acc ++ [0], rfl, rfl, SC, O3, hby.append (by intro y hy; simp at hy; omega), by simp; omega, A2, D2, HC3⟩
              · have g255 : (d == 255) = false := by simp [d255]
                by_cases d1 : d = 1
                · subst d1
                  have HC3 : Hid (cutL ys = some (acc, zs.drop 2)) := by
                    show _ = _
                    rw [HC2.out, hzs2.out, cutL_one]
                    simp
                  obtain ⟨so, sc, rfl, SS, -⟩ := Sl.own O hby
                  obtain ⟨ad, had⟩ : ∃ ad : Addr, ad = (if c2 = 2 then ⟨b2, off2, none⟩ else ⟨b2, off2 + 2, none⟩) := ⟨_, rfl⟩
                  have SC : Sl w (some ad) (m2 - 2) (c2 - 2) (zs.drop 2) := by rw [had]; exact cutC S2 2 (by omega)
                  have HAD : Hid (ad = (if c2 = 2 then ⟨b2, off2, none⟩ else ⟨b2, off2 + 2, none⟩)) := had
                  clear had
                  have CD : (convert 40 9 (.slice so acc.length sc)).run Tryz.prog wr.drew = .ok (.string (strOfNums acc)) wr.drew := conv_str (SS.below (Below.refl _ _).drew)
                  go_wp2_with fail
                  have E0 : Below wr.heap.size wr wr.drew := (Below.refl _ _).drew
                  refine wp_region_noPanic ?_
                  refine wp_region_held_drew (S := fun V => (convert 40 9 (.slice so acc.length sc)).run Tryz.prog V = .ok (.string (strOfNums acc)) V) (by kernel_rfl) (CD) (fun H0 => ?_)
                  obtain ⟨v0, hv0⟩ : ∃ v, v = wr.drew := ⟨_, rfl⟩
                  rw [← hv0] at H0 E0 ⊢
                  have hv0h : v0.heap = wr.heap := by rw [hv0]; rfl
                  clear hv0
                  refine hr_take 0 (some 53) (.int .i64 j) rfl rfl (by kernel_rfl) (by kernel_rfl) (by kernel_rfl) rfl (fun W hW => by go_simp) H0 ?_
                  simp only [FL]
                  refine hr_take 1 (some 54) (.slice so acc.length sc) rfl rfl (by kernel_rfl) (by kernel_rfl) (by kernel_rfl) rfl (fun W hW => by go_simp) H0 ?_
                  simp only [FL]
                  refine hr_take 2 (some 55) (.string (strOfNums acc)) rfl rfl (by kernel_rfl) (by kernel_rfl) (by kernel_rfl) rfl (fun W hW => by go_simp) H0 ?_
                  simp only [FL]
                  refine hr_take 3 (some 56) (.slice (some ⟨b2, off2, none⟩) m2 c2) rfl rfl (by kernel_rfl) (by kernel_rfl) (by kernel_rfl) rfl (fun W hW => by go_simp) H0 ?_
                  simp only [FL]
                  refine hr_take 4 (some 57) (.slice (some ad) (m2 - 2) (c2 - 2)) rfl rfl (by kernel_rfl) (by kernel_rfl) (by kernel_rfl) rfl (fun W hW => by (go_simp <;> (rw [HAD.out]; by_cases hh : c2 = 2 <;> simp [hh]))) H0 ?_
                  simp only [FL]
                  refine hr_take 5 (some 58) (.pointer (some ⟨p, j, none⟩)) rfl rfl (by kernel_rfl) (by kernel_rfl) (by kernel_rfl) rfl (fun W hW => by go_simp) H0 ?_
                  simp only [FL]
                  have A0 : v0.heap[p]? = some (.cells (namesV ss).toArray 171) := by rw [hv0h]; exact A.out
                  have kj : v0.cell? ⟨p, j, none⟩ = some (.string (ss.getD j ⟨#[]⟩)) := by
                    rw [cell_of_row v0 p j _ _ _ A0]
                    have hjl : j < ss.length := by omega
                    simp [namesV, hjl, List.getD]
                  have fj : v0.frozen? ⟨p, j, none⟩ = false := frozen_of_row v0 p j _ _ A0
                  obtain ⟨v1, hv1⟩ : ∃ v, v = v0.setCell ⟨p, j, none⟩ (.string (strOfNums acc)) := ⟨_, rfl⟩
                  have A1 : Hid (v1.heap[p]? = some (.cells (namesV (ss.set j (strOfNums acc))).toArray 171)) := by
                    show _ = _
                    rw [hv1, heap_setCell_same v0 p j _ _ _ A0]
                    simp [namesV, List.map_set]
                  have G1 : v0.grownBy v1 (some p) := by
                    rw [hv1]
                    exact ⟨rfl, rfl, rfl, by simp, fun k _ hk => heap_setCell_other v0 _ k _ (fun e => hk (by rw [e]))⟩
                  have O1 : v1.ownsRow (p + 1) 5 1 (.slice so acc.length sc) acc.length (bv acc) := by
                    refine World.ownsRow.kept (w := v0) (by unfold World.ownsRow; rw [hv0h]; exact O) G1 (.inr fun e => ?_)
                    have := (O.lt _ e).1
                    omega
                  have H1 : (convert 40 9 (.slice so acc.length sc)).run Tryz.prog v1 = .ok (.string (strOfNums acc)) v1 := by
                    obtain ⟨so', sc', e', SS', -⟩ := Sl.own O1 hby
                    simp only [Value.slice.injEq] at e'
                    rw [e'.1, e'.2.2]
                    exact conv_str SS'
                  refine hr_skip 6 none rfl rfl (by kernel_rfl) rfl (w' := v1) (by rw [hv1]; go_simp) H1 ?_
                  simp only [Act.put]
                  have D1 : Below p w v1 := (B2.trans (E0.mono (by omega))).grown G1 (by have := E0.size; omega) (fun k hk => by have := Option.some.inj hk; omega)
                  clear hv1
                  refine hr_take 7 (some 0) (.slice (some ad) (m2 - 2) (c2 - 2)) rfl rfl (by kernel_rfl) (by kernel_rfl) (by kernel_rfl) rfl (fun W hW => by go_simp) H1 ?_
                  simp only [FL]
                  refine wpAnyH_done (by kernel_rfl) ?_ _
                  refine NoPanic.normal ?_
                  have HC4 : Hid (cutN 3 xs = (cutN g (zs.drop 2)).map fun q => (((ss.set j (strOfNums acc)).take (j + 1)).map sb ++ q.1, q.2)) := by
                    show _ = _
                    rw [HC.out, cutN, HC3.out]
                    have hjl : j < ss.length := by omega
                    have ht : ((ss.set j (strOfNums acc)).take (j + 1)).map sb = (ss.take j).map sb ++ [acc] := by
                      rw [List.take_succ_eq_append_getElem (by simpa using hjl), List.map_append, List.take_set_of_le (Nat.le_refl _)]
                      simp [sb_str hby]
                    rw [ht, Option.bind_some]
                    generalize cutN g (zs.drop 2) = o
                    cases o <;> simp
                  clear O O1 A A0 G1 H0 H1 E0 hv0h CD kj fj SS c0 c0d
                  go_wp2
                  go_roundg g
                  case measure => omega
                  case rel => exact ⟨j + 1, ss.set j (strOfNums acc), some ad, m2 - 2, c2 - 2, zs.drop 2, by omega, by go_num, rfl, by omega, SC, by simpa using hss, A1, D1, HC4⟩
                · have g1 : (d == 1) = false := by simp [d1]
                  have hnone : Hid (cutN 3 xs = none) := by
                    have e1 : cutL ys = none := by rw [HC2.out, hzs2.out, cutL_other _ d1 d255]; rfl
                    show _ = _
                    rw [HC.out, cutN, e1]
                    rfl
                  clear O HC0  hzs2
                  go_wp2
                  rw [Exit.noGoto_ret]
                  refine bodyPost_ret (v := .tuple #[.agg #[.string ⟨#[]⟩, .string ⟨#[]⟩, .string ⟨#[]⟩], .slice none 0 0]) (by simp [results, Tryz.results159, go_sem, q0, q1, q2]) rfl ⟨?_, ?_⟩
                  · rw [hnone.out]; rfl
                  · rw [← HP.out]; exact BZ
open Go.RowKit
def KyC (V : World) (p : Nat) (k : KA) : Prop := V.heap[p]? = some (.cells #[.string k.row, .string k.fam, .string k.qual, .int .u64 k.time] 39)
theorem KyC.lt {V : World} {p : Nat} {k : KA} (h : KyC V p k) : p < V.heap.size := (Array.getElem?_eq_some_iff.1 h).1
theorem KyC.below {V V' : World} {p n : Nat} {k : KA} (h : KyC V p k) (hb : Below n V V') (hp : p < n) : KyC V' p k := (hb.block p hp).trans h
theorem KyC.keep {V V' : World} {p : Nat} {k : KA} (h : KyC V p k) (hb : Below V.heap.size V V') : KyC V' p k := h.below hb h.lt
theorem KyC.new (w : World) (k : KA) : KyC (w.alloc (.cells #[.string k.row, .string k.fam, .string k.qual, .int .u64 k.time] 39)) w.heap.size k := heap_alloc_new w _
theorem KyC.alloc {V : World} {p : Nat} {k : KA} (h : KyC V p k) (o : Obj) : KyC (V.alloc o) p k := (heap_alloc_old V o h.lt).trans h
theorem KyC.c0 {V : World} {p : Nat} {k : KA} (h : KyC V p k) : V.cell? ⟨p, 0, none⟩ = some (.string k.row) := cell_of_row V p 0 _ _ _ h
theorem KyC.c1 {V : World} {p : Nat} {k : KA} (h : KyC V p k) : V.cell? ⟨p, 1, none⟩ = some (.string k.fam) := cell_of_row V p 1 _ _ _ h
theorem KyC.c2 {V : World} {p : Nat} {k : KA} (h : KyC V p k) : V.cell? ⟨p, 2, none⟩ = some (.string k.qual) := cell_of_row V p 2 _ _ _ h
theorem KyC.c3 {V : World} {p : Nat} {k : KA} (h : KyC V p k) : V.cell? ⟨p, 3, none⟩ = some (.int .u64 k.time) := cell_of_row V p 3 _ _ _ h
open Go.RowKit
def beN : List Int → Nat → Nat
  | [], t => t
  | c :: r, t => beN r (t * 256 + c.toNat)
theorem beN_ofBe : ∀ (l : List Int), Byt l → ∀ t u, beN l t + ofBe l u + 1 = (t + u + 1) * 256 ^ l.length
  | [], _, t, u => by simp [beN, ofBe]
  | c :: r, h, t, u => by
    have hc := h c (List.mem_cons_self ..)
    have ih := beN_ofBe r (fun x hx => h x (List.mem_cons_of_mem _ hx)) (t * 256 + c.toNat) (u * 256 + (255 - c).toNat)
    have e : t * 256 + c.toNat + (u * 256 + (255 - c).toNat) + 1 = (t + u + 1) * 256 := by omega
    rw [beN, ofBe, ih, e, List.length_cons, Nat.pow_succ, Nat.mul_assoc, Nat.mul_comm 256]
theorem beN_append : ∀ (l : List Int) (c : Int) (t : Nat), beN (l ++ [c]) t = beN l t * 256 + c.toNat
  | [], c, t => rfl
  | a :: l, c, t => by rw [List.cons_append, beN, beN, beN_append l c]
theorem beN_lt (l : List Int) (h : Byt l) : beN l 0 < 256 ^ l.length := by
  have := beN_ofBe l h 0 0
  omega
theorem readL_cutN (b : List Int) : readL b = (cutN 3 b).bind fun q => match q.1 with
    | [r, f, g] => if q.2.length = 8 ∧ KV.right ⟨r, f, g, ofBe q.2 0⟩ then some ⟨r, f, g, ofBe q.2 0⟩ else none
    | _ => none := by
  unfold readL
  simp only [cutN]
  cases h1 : cutL b with
  | none => rfl
  | some p =>
    simp only [Option.bind_some]
    cases h2 : cutL p.2 with
    | none => rfl
    | some q =>
      simp only [Option.bind_some]
      cases h3 : cutL q.2 with
      | none => rfl
      | some r => rfl
theorem or_byte (L x : Nat) (hL : L < 72057594037927936) (hx : x < 256) : bits BinOp.or IntKind.u64 ((L : Int) * 256) (x : Int) = ((L * 256 + x : Nat) : Int) := by
  have h := bits_or_u64_nat (L * 256) x (by omega) (by omega)
  have e : L * 256 ||| x = L * 256 + x := by
    have := Nat.two_pow_add_eq_or_of_lt (i := 8) (b := x) (by omega) L
    rw [Nat.mul_comm]
    exact this.symm
  rw [← e]
  exact h
def zeroK : KA := ⟨⟨#[]⟩, ⟨#[]⟩, ⟨#[]⟩, 0⟩
def ReadPost (e : Ending) : Option KV → Prop
  | none => e = .returned (.tuple #[zeroK.val, .int .i64 5])
  | some kv => ∃ k : KA, e = .returned (.tuple #[k.val, .int .i64 0]) ∧ k.kv = kv ∧ k.ok
set_option maxHeartbeats 4000000 in
set_option maxRecDepth 100000 in
theorem pread_any (w : World) (ao : Option Addr) (n cap : Nat) (xs : List Int) (h : Sl w ao n cap xs) (hn : n ≤ 1000000) :
    Calls Tryz.prog 129 #[.slice ao n cap] w fun e w' => ReadPost e (readL xs) ∧ Below w.heap.size w w' := by
  have k1 : KyC (w.alloc (.cells #[.string ⟨#[]⟩, .string ⟨#[]⟩, .string ⟨#[]⟩, .int .u64 0] 39)) w.heap.size zeroK := heap_alloc_new w _
  have B1 : Below w.heap.size w (w.alloc (.cells #[.string ⟨#[]⟩, .string ⟨#[]⟩, .string ⟨#[]⟩, .int .u64 0] 39)) := (Below.refl _ w).alloc (Nat.le_refl _) _
  obtain ⟨N, hN⟩ : ∃ N, N = w.heap.size := ⟨_, rfl⟩
  go_enter Tryz.func129, Tryz.ntmps129
  go_wp2_with fail
  obtain ⟨w1, hw1⟩ : ∃ W, W = (w.alloc (.cells #[.string ⟨#[]⟩, .string ⟨#[]⟩, .string ⟨#[]⟩, .int .u64 0] 39)) := ⟨_, rfl⟩
  rw [← hw1] at k1 B1 ⊢
  have S1 := h.below B1
  rw [← hN] at k1 B1 ⊢
  refine (pcut_any w1 ao n cap xs S1 hn).mono ?_
  rintro e w2 ⟨P2, C⟩
  have HN : Hid (N = w.heap.size) := hN
  have B2 := B1.trans (C.mono (by have := B1.size; omega))
  have k2 := k1.keep C
  clear hN hw1 k1 B1 C S1
  have q0 := k2.c0
  have q1 := k2.c1
  have q2 := k2.c2
  have q3 := k2.c3
  have f0 : w2.frozen? ⟨N, 0, none⟩ = false := frozen_of_row w2 N 0 _ _ k2
  have f1 : w2.frozen? ⟨N, 1, none⟩ = false := frozen_of_row w2 N 1 _ _ k2
  have f2 : w2.frozen? ⟨N, 2, none⟩ = false := frozen_of_row w2 N 2 _ _ k2
  have f3 : w2.frozen? ⟨N, 3, none⟩ = false := frozen_of_row w2 N 3 _ _ k2
  have lt := k2.lt
  cases hc : cutN 3 xs with
  | none =>
    have HR : Hid (readL xs = none) := by show _ = _; rw [readL_cutN, hc]; rfl
    rw [hc] at P2
    obtain rfl : e = .returned (.tuple #[.agg #[.string ⟨#[]⟩, .string ⟨#[]⟩, .string ⟨#[]⟩], .slice none 0 0]) := P2
    clear hc
    have BX : Below N w (((((w2.setCell ⟨N, 0, none⟩ (.string ⟨#[]⟩)).setCell ⟨N, 1, none⟩ (.string ⟨#[]⟩)).setCell ⟨N, 2, none⟩ (.string ⟨#[]⟩)).setCell ⟨N, 3, none⟩ (.int .u64 0)).alloc (Obj.cells #[.string ⟨#[]⟩, .string ⟨#[]⟩, .string ⟨#[]⟩] 171)) := ((((B2.setCell (Nat.le_refl _) _).setCell (Nat.le_refl _) _).setCell (Nat.le_refl _) _).setCell (Nat.le_refl _) _).alloc (by simp; omega) _
    go_wp2
    exact bodyPost_ret (v := .tuple #[zeroK.val, .int .i64 5]) (by unfold KA.val zeroK; simp [results, Tryz.results129, go_sem, q0, q1, q2, q3, lt]) rfl ⟨by rw [HR.out]; rfl, by rw [← HN.out]; exact BX⟩
  | some q =>
    rw [hc] at P2
    obtain ⟨ss, bo, m, c, rfl, hss, hm, S2⟩ := P2
    obtain ⟨s0, s1, s2, rfl⟩ : ∃ s0 s1 s2, ss = [s0, s1, s2] := by
      match ss, hss with
      | [a, b, c], _ => exact ⟨a, b, c, rfl⟩
    obtain ⟨nm3, ys⟩ := q
    simp only [List.map_cons, List.map_nil] at hm
    subst hm
    have hl := S2.len
    rw [show (namesV [s0, s1, s2]).toArray = #[.string s0, .string s1, .string s2] from rfl]
    by_cases h8 : m = 8
    · subst h8
      obtain ⟨b2, off2, rfl, hcell0⟩ := S2.at (by omega)
      have hb2 : b2 < w2.heap.size := World.block_lt_of_cell? w2 _ (hcell0 0 (by omega))
      obtain ⟨w3, hw3⟩ : ∃ W, W = w2.alloc (Obj.cells #[.string s0, .string s1, .string s2] 171) := ⟨_, rfl⟩
      have C3 : Below w2.heap.size w2 w3 := by rw [hw3]; exact (Below.refl _ _).alloc (Nat.le_refl _) _
      have hcell : Hid (∀ i, i < 8 → w3.cell? ⟨b2, off2 + i, none⟩ = some (.int .u8 (ys.getD i 0))) := fun i hi => (C3.cell (by exact hb2)).trans (hcell0 i hi)
      clear hcell0
      have HY : Hid (Byt ys) := S2.byte
      obtain ⟨M, hM⟩ : ∃ M, M = w2.heap.size := ⟨_, rfl⟩
      have e3 : w3.heap[M]? = some (.cells #[.string s0, .string s1, .string s2] 171) := by rw [hw3, hM]; exact heap_alloc_new w2 _
      have k3 := k2.keep C3
      have B3 := B2.trans (C3.mono (by have := B2.size; have := HN.out; omega))
      go_wp2_with fail
      rw [← hw3, ← hM]
      clear hw3 hM q0 q1 q2 q3 f0 f1 f2 f3 k2 B2 C3
      go_loopw [6, 8, 22] (fun lk _ i wr => wr = w3 ∧ ∃ j : Nat, j ≤ 8 ∧ i = .int .i64 j ∧ lk = .int .u64 (beN (ys.take j) 0)) (fun _ _ i _ => 8 - (intOf i).toNat)
      case atStart => exact ⟨rfl, 0, by omega, rfl, rfl⟩
      case round =>
        obtain ⟨rfl, j, hj, rfl, rfl⟩ := hrel
        by_cases l : j < 8
        · have il : (j : Int) < 8 := by omega
          obtain ⟨x, hx⟩ : ∃ x : Nat, x = (ys.getD j 0).toNat := ⟨_, rfl⟩
          have hxb := HY.out.at j
          have hxe : ys.getD j 0 = (x : Int) := by rw [hx, Int.toNat_of_nonneg]; simpa [List.getD] using hxb.1
          have hx8 : x < 256 := by have : ys.getD j 0 ≤ 255 := by simpa [List.getD] using hxb.2
                                   omega
          have cj := hcell.out j l
          rw [hxe] at cj
          have hjl : j < ys.length := by omega
          have htk : Hid (beN (ys.take (j + 1)) 0 = beN (ys.take j) 0 * 256 + x) := by
            show _ = _
            rw [List.take_succ_eq_append_getElem hjl, beN_append, hx]
            simp [List.getD, hjl]
          have hlt : beN (ys.take j) 0 < 256 ^ j := by
            have := beN_lt (ys.take j) (HY.out.take j)
            rwa [List.length_take, Nat.min_eq_left (by omega)] at this
          have hlt2 : 256 ^ j ≤ 72057594037927936 := Nat.le_trans (Nat.pow_le_pow_right (by omega) (show j ≤ 7 by omega)) (by decide)
          obtain ⟨L, hL⟩ : ∃ L, L = beN (ys.take j) 0 := ⟨_, rfl⟩
          rw [← hL] at htk hlt ⊢
          have L7 : L < 72057594037927936 := by omega
          clear hL hlt hlt2 hx hxb hxe
          have hor : bits BinOp.or IntKind.u64 ((L : Int) * 256) (x : Int) = ((L * 256 + x : Nat) : Int) := or_byte L x L7 hx8
          go_wp2
          go_roundw
          case rel => exact ⟨trivial, j + 1, by omega, by go_num, by rw [htk.out] <;> go_num⟩
          case measure => simp [intOf]; omega
        · obtain rfl : j = 8 := by omega
          have htk : ys.take 8 = ys := List.take_of_length_le (by omega)
          rw [htk]
          have hsum := beN_ofBe ys HY.out 0 0
          rw [hl] at hsum
          obtain ⟨L, hL⟩ : ∃ L, L = beN ys 0 := ⟨_, rfl⟩
          obtain ⟨T, hT⟩ : ∃ T, T = ofBe ys 0 := ⟨_, rfl⟩
          rw [← hL] at hsum ⊢
          rw [← hT] at hsum
          have hT2 : T < 18446744073709551616 := by simp at hsum; omega
          have hLT : 18446744073709551615 - (L : Int) = (T : Int) := by simp at hsum; omega
          have HT : Hid (T = ofBe ys 0) := hT
          clear hsum hT hL htk hcell
          have q0 : wr.cell? ⟨M, 0, none⟩ = some (.string s0) := cell_of_row wr M 0 _ _ _ e3
          have q1 : wr.cell? ⟨M, 1, none⟩ = some (.string s1) := cell_of_row wr M 1 _ _ _ e3
          have q2 : wr.cell? ⟨M, 2, none⟩ = some (.string s2) := cell_of_row wr M 2 _ _ _ e3
          obtain ⟨k, hk⟩ : ∃ k : KA, k = ⟨s0, s1, s2, T⟩ := ⟨_, rfl⟩
          have k4 : KyC (wr.alloc (.cells #[.string s0, .string s1, .string s2, .int .u64 T] 39)) wr.heap.size k := by rw [hk]; exact heap_alloc_new wr _
          have z4 := k3.alloc (.cells #[.string s0, .string s1, .string s2, .int .u64 T] 39)
          have B4 := B3.alloc (by have := k3.lt; omega) (.cells #[.string s0, .string s1, .string s2, .int .u64 T] 39)
          have HV : Hid (k.val = .agg #[.string s0, .string s1, .string s2, .int .u64 T]) := by rw [hk]; rfl
          have HKV : Hid (k.kv = ⟨sb s0, sb s1, sb s2, ofBe ys 0⟩) := by rw [hk, ← HT.out]; rfl
          have HR : Hid (readL xs = if k.isRight = true then some k.kv else none) := by
            show _ = _
            rw [readL_cutN, hc, KA.isRight_kv, HKV.out]
            show (if ys.length = 8 ∧ KV.right ⟨sb s0, sb s1, sb s2, ofBe ys 0⟩ then some _ else none) = _
            by_cases hr : KV.right ⟨sb s0, sb s1, sb s2, ofBe ys 0⟩
            · rw [if_pos ⟨hl, hr⟩, decide_eq_true hr]; rfl
            · rw [if_neg (fun h => hr h.2), decide_eq_false hr]; rfl
          have HOK : Hid (k.isRight = true → k.ok) := fun hr => by
            have hsz := of_decide_eq_true hr
            have ht : k.time = T := by rw [hk]
            exact ⟨by unfold maxLen; omega, by unfold maxLen; omega, by unfold maxLen; omega, by omega⟩
          obtain ⟨P, hP⟩ : ∃ P, P = wr.heap.size := ⟨_, rfl⟩
          have hPN : N < P := by rw [hP]; exact k3.lt
          go_wp2_with fail
          rw [← HV.out]
          refine (pright_any _ k).mono ?_
          rintro e w5 ⟨rfl, C⟩
          have k5 := k4.keep C
          have z5 := z4.keep C
          have B5 := B4.trans (C.mono (by have := B4.size; have := HN.out; omega))
          rw [← hP] at k5 ⊢
          clear C k4 z4 B4 k3 B3 e3 q0 q1 q2 hc hP hLT
          rw [HV.out]
          have r0 := z5.c0
          have r1 := z5.c1
          have r2 := z5.c2
          have r3 := z5.c3
          have f0 : w5.frozen? ⟨N, 0, none⟩ = false := frozen_of_row w5 N 0 _ _ z5
          have f1 : w5.frozen? ⟨N, 1, none⟩ = false := frozen_of_row w5 N 1 _ _ z5
          have f2 : w5.frozen? ⟨N, 2, none⟩ = false := frozen_of_row w5 N 2 _ _ z5
          have f3 : w5.frozen? ⟨N, 3, none⟩ = false := frozen_of_row w5 N 3 _ _ z5
          by_cases hr : k.isRight = true
          · have hk0 : k.kind = 0 := by unfold KA.kind; rw [hr]; rfl
            have HR2 : Hid (readL xs = some k.kv) := by rw [HR.out, if_pos hr]; rfl
            have ok := HOK.out hr
            have p0 : w5.cell? ⟨P, 0, none⟩ = some (.string s0) := by have := k5.c0; rwa [hk] at this
            have p1 : w5.cell? ⟨P, 1, none⟩ = some (.string s1) := by have := k5.c1; rwa [hk] at this
            have p2 : w5.cell? ⟨P, 2, none⟩ = some (.string s2) := by have := k5.c2; rwa [hk] at this
            have p3 : w5.cell? ⟨P, 3, none⟩ = some (.int .u64 T) := by have := k5.c3; rwa [hk] at this
            rw [hk0]
            clear hk0 HR HOK hr hk
            have BX : Below N w ((((w5.setCell ⟨N, 0, none⟩ (.string s0)).setCell ⟨N, 1, none⟩ (.string s1)).setCell ⟨N, 2, none⟩ (.string s2)).setCell ⟨N, 3, none⟩ (.int .u64 T)) := (((B5.setCell (Nat.le_refl _) _).setCell (Nat.le_refl _) _).setCell (Nat.le_refl _) _).setCell (Nat.le_refl _) _
            go_wp2
            exact bodyPost_ret (v := .tuple #[.agg #[.string s0, .string s1, .string s2, .int .u64 T], .int .i64 0]) (by simp [results, Tryz.results129, go_sem, r0, r1, r2, r3]) rfl ⟨by rw [HR2.out]; exact ⟨k, by rw [HV.out], rfl, ok⟩, by rw [← HN.out]; exact BX⟩
          · have hk0 : k.kind = 5 := by unfold KA.kind; rw [if_neg hr]
            have HR2 : Hid (readL xs = none) := by rw [HR.out, if_neg hr]; rfl
            rw [hk0]
            clear hk0 HR HOK hr hk
            have BX : Below N w ((((w5.setCell ⟨N, 0, none⟩ (.string ⟨#[]⟩)).setCell ⟨N, 1, none⟩ (.string ⟨#[]⟩)).setCell ⟨N, 2, none⟩ (.string ⟨#[]⟩)).setCell ⟨N, 3, none⟩ (.int .u64 0)) := (((B5.setCell (Nat.le_refl _) _).setCell (Nat.le_refl _) _).setCell (Nat.le_refl _) _).setCell (Nat.le_refl _) _
            go_wp2
            exact bodyPost_ret (v := .tuple #[zeroK.val, .int .i64 5]) (by unfold KA.val zeroK; simp [results, Tryz.results129, go_sem, r0, r1, r2, r3]) rfl ⟨by rw [HR2.out]; rfl, by rw [← HN.out]; exact BX⟩
    · have HR : Hid (readL xs = none) := by
        show _ = _
        rw [readL_cutN, hc]
        exact if_neg (fun h => h8 (by rw [← hl]; exact h.1))
      have e8 : ((m : Int) == 8) = false := by simp; omega
      have e9 : ((m : Int) != 8) = true := by simp; omega
      clear hc
      have BX : Below N w (((((w2.setCell ⟨N, 0, none⟩ (.string ⟨#[]⟩)).setCell ⟨N, 1, none⟩ (.string ⟨#[]⟩)).setCell ⟨N, 2, none⟩ (.string ⟨#[]⟩)).setCell ⟨N, 3, none⟩ (.int .u64 0)).alloc (Obj.cells #[.string s0, .string s1, .string s2] 171)) := ((((B2.setCell (Nat.le_refl _) _).setCell (Nat.le_refl _) _).setCell (Nat.le_refl _) _).setCell (Nat.le_refl _) _).alloc (by simp; omega) _
      go_wp2
      exact bodyPost_ret (v := .tuple #[zeroK.val, .int .i64 5]) (by unfold KA.val zeroK; simp [results, Tryz.results129, go_sem, q0, q1, q2, q3, lt]) rfl ⟨by rw [HR.out]; rfl, by rw [← HN.out]; exact BX⟩
end Go.Proofs.YthlpccajnmkbjaaGreatDoor

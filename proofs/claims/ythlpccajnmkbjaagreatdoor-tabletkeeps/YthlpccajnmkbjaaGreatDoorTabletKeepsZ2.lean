/-
  TabletKeeps.
-/
import Derived.Test.YthlpccajnmkbjaaGreatDoorTabletKeepsZ1
import Derived.Test.YthlpccajnmkbjaaGreatDoorY49
import Derived.Test.YthlpccajnmkbjaaGreatDoorY47
namespace Go.Proofs.YthlpccajnmkbjaaGreatDoor
open Go.RowKit

set_option maxHeartbeats 400000 in
theorem ttree_any (w : World) (p : Nat) (f t : ByteArray) (u : Option Addr) (h : TbC w p f t u) : Calls Tryz.prog 22 #[.pointer (some ⟨p, 0, none⟩)] w fun e w' => e = .returned (.pointer u) ∧ w' = w := by
  have c2 : w.cell? ⟨p, 2, none⟩ = some (.pointer u) := Arr.cell h 2
  clear h
  go_enter Tryz.func22, Tryz.ntmps22
  go_wp2
  go_ret
  exact ⟨rfl, rfl⟩
/-- How many of the first ones are of the last one's column. -/
def rbN (cs : List CV) : Nat → Nat
  | 0 => 0
  | k + 1 => match cs[k]? with
    | none => 0
    | some c => cnt (fun x => x.col c.ky) (cs.take (k + 1))
theorem cnt_take (q : CV → Bool) (cs : List CV) (k : Nat) : cnt q (cs.take k) ≤ cnt q cs := by
  have := cnt_append q (cs.take k) (cs.drop k)
  rw [List.take_append_drop] at this
  omega
theorem rbN_le {cs : List CV} (h : Lim cs) : ∀ k, rbN cs k ≤ 4
  | 0 => Nat.zero_le _
  | k + 1 => by
    show (match cs[k]? with | none => 0 | some c => cnt (fun x => x.col c.ky) (cs.take (k + 1))) ≤ 4
    cases cs[k]? with
    | none => exact Nat.zero_le _
    | some c => exact Nat.le_trans (cnt_take _ cs _) (h.col c.ky)
theorem rbN_one {cs : List CV} {k : Nat} (h : k < cs.length) : 1 ≤ rbN cs (k + 1) := by
  show 1 ≤ (match cs[k]? with | none => 0 | some c => cnt (fun x => x.col c.ky) (cs.take (k + 1)))
  rw [List.getElem?_eq_getElem h]
  exact cnt_pos (x := cs[k]) (List.mem_take_iff_getElem.2 ⟨k, by omega, rfl⟩) (decide_eq_true ⟨rfl, rfl, rfl⟩)
theorem rbN_next {cs : List CV} {k : Nat} (h : k + 1 < cs.length) (hc : cs[k].col cs[k + 1].ky = true) : rbN cs (k + 1) + 1 ≤ rbN cs (k + 1 + 1) := by
  show (match cs[k]? with | none => 0 | some c => cnt (fun x => x.col c.ky) (cs.take (k + 1))) + 1 ≤ (match cs[k + 1]? with | none => 0 | some c => cnt (fun x => x.col c.ky) (cs.take (k + 1 + 1)))
  rw [List.getElem?_eq_getElem (show k < cs.length by omega), List.getElem?_eq_getElem h]
  show cnt (fun x => x.col cs[k].ky) (cs.take (k + 1)) + 1 ≤ cnt (fun x => x.col cs[k + 1].ky) (cs.take (k + 1 + 1))
  rw [List.take_succ_eq_append_getElem h, cnt_append, cnt_cons]
  have e : cnt (fun x => x.col cs[k].ky) (cs.take (k + 1)) = cnt (fun x => x.col cs[k + 1].ky) (cs.take (k + 1)) := congrArg List.length (col_same hc (cs.take (k + 1))).symm
  rw [e, show CV.col cs[k + 1] cs[k + 1].ky = true from decide_eq_true ⟨rfl, rfl, rfl⟩]
  simp only [if_true]
  omega

set_option maxHeartbeats 16000000 in
set_option maxRecDepth 100000 in
theorem tabletKeeps_any (W : World) (f t : ByteArray) (a0 : Option Addr) (n0 c0 : Nat) (l : List (OD 3)) (L0 : OWL W 3 a0 n0 c0 l) (sm0 : ∀ y ∈ l, OSm 3 y) (hT : Tabs W) :
    Calls Tryz.prog 6 #[.string f, .string t, .slice a0 n0 c0] W fun e w' => e = .returned (.bool true) ∧ Below W.heap.size W w' := by
  have t2 := hT.two
  have HTb : Hid (Tabs W) := hT
  have AL := fun (V : World) (hV : Below W.heap.size W V) => alive10 V (hT.below hV t2)
  have HAL : Hid (∀ (V : World) (hV : Below W.heap.size W V), Calls Tryz.prog 10 #[] V fun e w' => e = .returned (.bool true) ∧ Below V.heap.size V w') := AL
  clear AL hT
  have hl1 : @List.length (OD 3) l ≤ n0 := Nat.le_of_eq L0.len
  have hl2 : n0 ≤ @List.length (OD 3) l := Nat.le_of_eq L0.len.symm
  have CN := tnew_all W f t
  have CLg := fun (V : World) (hV : Below W.heap.size W V) => light10_any V a0 n0 c0 40 l (L0.below hV) sm0 (by omega)
  obtain ⟨b1, hb1⟩ : ∃ b, b = light10 l 40 := ⟨_, rfl⟩
  have HB1 : Hid (b1 = light10 l 40) := hb1
  rw [← hb1, show ((40 : Nat) : Int) = 40 from rfl] at CLg
  clear hb1
  go_enter Tryz.func6, Tryz.ntmps6
  go_wp2_with fail
  refine CN.mono ?_
  rintro e w1 (⟨hk0, rfl, X1, C1⟩ | ⟨hk1, rfl, hw⟩)
  case inr =>
    obtain rfl := hw.symm
    clear CN
    have CL := CLg W (Below.refl _ _)
    go_wp2_with fail
    refine CL.mono ?_
    rintro e w2 ⟨rfl, B2⟩
    clear CL CLg
    cases b1 with
    | false =>
      have AV := HAL.out w2 B2
      go_wp2_with fail
      refine AV.mono ?_
      rintro e wz ⟨rfl, Cz⟩
      go_wp2
      go_ret
      exact ⟨rfl, (B2.trans (Cz.mono B2.size))⟩

    | true =>
      by_cases g1 : f.size ≤ 100
      case neg =>
        have i1 : (100 : Int) < (f.size : Int) := by omega
        have AV := HAL.out w2 B2
        go_wp2_with fail
        refine AV.mono ?_
        rintro e wz ⟨rfl, Cz⟩
        go_wp2
        go_ret
        exact ⟨rfl, (B2.trans (Cz.mono B2.size))⟩

      have i1 : ¬ (100 : Int) < (f.size : Int) := by omega
      by_cases g2 : t.size ≤ 100
      case neg =>
        have i2 : (100 : Int) < (t.size : Int) := by omega
        have AV := HAL.out w2 B2
        go_wp2_with fail
        refine AV.mono ?_
        rintro e wz ⟨rfl, Cz⟩
        go_wp2
        go_ret
        exact ⟨rfl, (B2.trans (Cz.mono B2.size))⟩

      have i2 : ¬ (100 : Int) < (t.size : Int) := by omega
      have AV := HAL.out w2 B2
      go_wp2_with fail
      refine AV.mono ?_
      rintro e wz ⟨rfl, Cz⟩
      go_wp2
      go_ret
      exact ⟨rfl, (B2.trans (Cz.mono B2.size))⟩

  clear CN
  have hsz : f.size ≤ 32 ∧ t.size ≤ 32 ∧ (t.size = 0 ∨ cmpL (sb f) (sb t) < 0) := by
    unfold newK at hk0
    split at hk0
    · assumption
    · simp at hk0
  have HK0 : Hid (newK f t = 0) := hk0
  have hf32 := hsz.1
  have ht32 := hsz.2.1
  have CL := CLg w1 C1
  clear hk0 hsz CLg
  go_wp2_with fail
  refine CL.mono ?_
  rintro e w2 ⟨rfl, C2⟩
  have B2 := C1.trans (C2.mono C1.size)
  have X2 := X1.below C2
  clear CL X1
  cases b1 with
  | false =>
    have AV := HAL.out w2 B2
    go_wp2_with fail
    refine AV.mono ?_
    rintro e wz ⟨rfl, Cz⟩
    go_wp2
    go_ret
    exact ⟨rfl, (B2.trans (Cz.mono B2.size))⟩

  | true =>
    have i1 : ¬ (100 : Int) < (f.size : Int) := by omega
    have i2 : ¬ (100 : Int) < (t.size : Int) := by omega
    have hn40 : n0 ≤ 40 := by have := (light10_at HB1.out.symm).1; omega
    clear HB1 sm0
    go_wp2
    go_loopw [9] (fun i wr => ∃ (k : Nat) (cs : List CV), k ≤ n0 ∧ i = .int .i64 k ∧ TB wr W.heap.size f t cs ∧ Hid (Stand f t (8 * k) cs) ∧ Hid (Lim cs) ∧ Below W.heap.size W wr) (fun i _ => n0 - (intOf i).toNat)
    case atStart => exact ⟨0, [], Nat.zero_le _, rfl, X2, (Stand.nil _ _).mono (Nat.zero_le _), Lim.nil, B2⟩
    case round =>
      obtain ⟨k, cs, hk, rfl, X0, HS0, HL0, B0⟩ := hrel
      by_cases hlt' : k < n0
      · have hki : (k : Int) < (n0 : Int) := by omega
        have hkl : k < l.length := by omega
        obtain ⟨b, off, ea, hc⟩ := L0.at (by omega)
        have X := (hc k hkl).below B0
        have hy : OW wr 3 l[k] := (L0.ok _ (List.getElem_mem hkl)).below B0
        obtain ⟨pl, hpl⟩ := hy.parts3
        have CA := every_any wr W.heap.size f t cs (topD 3 l[k]) pl (HTb.out.below B0 t2) X0 (HS0.out.mono (by omega)) hy.top hpl
        have HS1 : Hid (Stand f t (8 * (k + 1)) (mApply f t cs (topD 3 l[k]) pl).1) := (HS0.out.apply hy.top (fun x hx => hpl.ok x hx)).mono (by omega)
        have HL1 : Hid (Lim (mApply f t cs (topD 3 l[k]) pl).1) := HL0.out.apply _ _
        obtain ⟨r, hr⟩ : ∃ r, r = mApply f t cs (topD 3 l[k]) pl := ⟨_, rfl⟩
        rw [← hr] at CA HS1 HL1
        obtain ⟨o, ho⟩ : ∃ o, o = topD 3 l[k] := ⟨_, rfl⟩
        rw [← ho] at CA X
        clear hr ho hy hpl hc
        subst ea
        obtain ⟨q0, q1, q2, q3, q4, q5, q6, q7, q8, q9⟩ := X
        unfold OA.val at CA
        go_wp2_with fail
        refine CA.mono ?_
        rintro e w3 ⟨⟨ra, rn, rc, rl, rfl, -, -⟩, X3, K3⟩
        have B3 := Wr.below B0 K3 B0.size (Nat.le_refl _)
        unfold resV
        clear CA q0 q1 q2 q3 q4 q5 q6 q7 q8 q9
        go_wp2
        go_roundw
        case rel => exact ⟨k + 1, r.1, by omega, by go_num, X3, HS1, HL1, B3⟩
        case measure => simp [intOf]; omega
      have hge : ¬ (k : Int) < (n0 : Int) := by omega
      have HS : Hid (Stand f t 320 cs) := HS0.out.mono (by omega)
      have HL : Hid (Lim cs) := HL0
      obtain ⟨wa, hwa⟩ : ∃ V, V = wr := ⟨_, rfl⟩
      subst hwa
      clear HS0 HL0 X2 B2 L0 hl1 hl2 hlt' hk
      have CE := cells_st wa W.heap.size f t cs X0 HS.out.srt HS.out.good hf32 ht32 HS.out.rows (by have := HS.out.len; omega)
      go_wp2_with fail
      refine CE.mono ?_
      rintro e w5 ⟨ao, n5, cap5, cl, rfl, L5, -, hm5, C5⟩
      have HM5 : Hid (cl.map CA.c = cs) := hm5
      have hcl : cl.length = cs.length := by rw [← hm5, List.length_map]
      have hn5 : n5 ≤ 32 := by
        have h1 := L5.len
        have h2 := HL.out.len
        omega
      have HN5 : Hid (n5 = cs.length) := by
        show _ = _
        rw [← L5.len, hcl]
      have X5 := X0.below C5
      have B5w := B0.trans (C5.mono B0.size)
      have HR4 : Hid (∀ k, rbN cs k ≤ 4) := rbN_le HL.out
      clear CE hm5 X0
      obtain ⟨tb, htb⟩ : ∃ b, b = decide (t.size ≠ 0) := ⟨_, rfl⟩
      have HTB : Hid (tb = decide (t.size ≠ 0)) := htb
      have te0 : (t.toList == (ByteArray.mk #[]).toList) = !tb := by
        rw [htb]
        by_cases hz : t.size = 0
        · rw [empty_of hz]; simp; rfl
        · rw [toL_ne (fun h => hz (by rw [h]; rfl))]; simp [hz]
      have te1 : t.toList.isEmpty = !tb := by rw [toE, htb]; simp
      have te2 : (t.toList == []) = !tb := by
        rw [← te0]
        congr 1
        simp
      clear htb
      go_wp2
      go_loopw [11, 12] (fun nv i wr => ∃ (j nn : Nat), j ≤ n5 ∧ i = .int .i64 j ∧ nv = .int .i64 nn ∧ Hid (nn ≤ rbN cs j) ∧ Below w5.heap.size w5 wr) (fun _ i _ => n5 - (intOf i).toNat)
      case atStart => exact ⟨0, 0, Nat.zero_le _, rfl, rfl, Nat.zero_le _, Below.refl _ _⟩
      case round =>
        obtain ⟨j, nn, hj, rfl, rfl, HN, B5⟩ := hrel
        by_cases hlt' : j < n5
        · have hji : (j : Int) < (n5 : Int) := by omega
          have hjl : j < cl.length := by have := L5.len; omega
          have hjc : j < cs.length := by omega
          obtain ⟨b, off, ea, hc⟩ := L5.at (by omega)
          have X := (hc j hjl).below B5
          have hcj : cs[j] = cl[j].c := by
            have := HM5.out
            subst this
            exact List.getElem_map ..
          have hrow := HS.out.rows _ (List.getElem_mem hjc)
          have hgd := HS.out.good _ (List.getElem_mem hjc)
          rw [hcj] at hrow hgd
          have hok := (L5.ok _ (List.getElem_mem hjl)).below B5
          obtain ⟨hr1, hr2⟩ := of_decide_eq_true hrow
          have lf : Op.bytesLess cl[j].row.toList f.toList = false := by rw [less_sb]; exact decide_eq_false hr1
          have hlt : tb = true → Op.bytesLess cl[j].row.toList t.toList = true := fun h => by
            rw [less_sb]
            have h2 := of_decide_eq_true (HTB.out.symm.trans h)
            exact decide_eq_true (hr2.resolve_left h2)
          have hg0 : cl[j].gone = true → cl[j].va.n = 0 := fun h => by
            have h1 := hgd.gone h
            have h2 : cl[j].va.xs.length = cl[j].va.n := hok.va.len
            have h3 : cl[j].va.xs = [] := h1
            rw [h3] at h2
            exact h2.symm
          have kok : KA.ok ⟨cl[j].row, cl[j].fam, cl[j].qual, cl[j].time⟩ := ⟨hok.row, hok.fam, hok.qual, hok.time⟩
          subst ea
          cases j with
          | zero =>
            obtain ⟨c, hce⟩ : ∃ c, c = cl[0] := ⟨_, rfl⟩
            rw [← hce] at X lf hlt hg0
            obtain ⟨gb, hgb⟩ : ∃ g, g = c.gone := ⟨_, rfl⟩
            obtain ⟨x0, x1, x2, x3, x4, x5⟩ := X
            rw [← hgb] at x5 hg0
            obtain rfl : nn = 0 := by
              have := HN.out
              have h2 : rbN cs 0 = 0 := rfl
              omega
            have HN2 : Hid (1 ≤ rbN cs 1) := rbN_one hjc
            have hz6 : off + 0 * 6 = off := by omega
            rw [hz6] at x0 x1 x2 x3 x4 x5
            have hnp : (0 : Int) < (n5 : Int) := by omega
            clear hc hcj hrow hgd hok kok hr1 hr2 hce hgb hz6
            go_wp2
            have zHS : Hid (∀ V, Below wr.heap.size wr V → V.cell? ⟨b, off, none⟩ = some (.string c.row) ∧ V.cell? ⟨b, off + 1, none⟩ = some (.string c.fam) ∧ V.cell? ⟨b, off + 2, none⟩ = some (.string c.qual) ∧ V.cell? ⟨b, off + 3, none⟩ = some (.int .u64 c.time) ∧ V.cell? ⟨b, off + 4, none⟩ = some (.slice c.va.ao c.va.n c.va.cap) ∧ V.cell? ⟨b, off + 5, none⟩ = some (.bool gb)) := fun V hV => ⟨(hV.cell (World.block_lt_of_cell? _ _ x0)).trans x0, (hV.cell (World.block_lt_of_cell? _ _ x1)).trans x1, (hV.cell (World.block_lt_of_cell? _ _ x2)).trans x2, (hV.cell (World.block_lt_of_cell? _ _ x3)).trans x3, (hV.cell (World.block_lt_of_cell? _ _ x4)).trans x4, (hV.cell (World.block_lt_of_cell? _ _ x5)).trans x5⟩
            have zE0 : Below wr.heap.size wr wr.drew := (Below.refl _ _).drew
            refine wp_region_noPanic ?_
            refine wp_region_held_drew (S := fun V => V.cell? ⟨b, off, none⟩ = some (.string c.row) ∧ V.cell? ⟨b, off + 1, none⟩ = some (.string c.fam) ∧ V.cell? ⟨b, off + 2, none⟩ = some (.string c.qual) ∧ V.cell? ⟨b, off + 3, none⟩ = some (.int .u64 c.time) ∧ V.cell? ⟨b, off + 4, none⟩ = some (.slice c.va.ao c.va.n c.va.cap) ∧ V.cell? ⟨b, off + 5, none⟩ = some (.bool gb)) (by kernel_rfl) (zHS.out _ zE0) (fun zH0 => ?_)
            obtain ⟨zv0, hv0⟩ : ∃ v, v = wr.drew := ⟨_, rfl⟩
            rw [← hv0] at zH0 zE0 ⊢
            clear hv0
            refine hr_take_w 0 (some 63) (.slice (some ⟨b, off, none⟩) n5 cap5) rfl rfl (by kernel_rfl) (by kernel_rfl) (by kernel_rfl) rfl (fun W hW => by obtain ⟨h0, h1, h2, h3, h4, h5⟩ := hW; go_simp) zH0 ?_
            simp only [Act.put, List.setIfInBounds_toArray, List.set_cons_zero, List.set_cons_succ]
            refine hr_take_w 1 (some 64) (.int .i64 0) rfl rfl (by kernel_rfl) (by kernel_rfl) (by kernel_rfl) rfl (fun W hW => by obtain ⟨h0, h1, h2, h3, h4, h5⟩ := hW; go_simp) zH0 ?_
            simp only [Act.put, List.setIfInBounds_toArray, List.set_cons_zero, List.set_cons_succ]
            refine hr_take_w 2 (some 65) (.pointer (some ⟨b, off, none⟩)) rfl rfl (by kernel_rfl) (by kernel_rfl) (by kernel_rfl) rfl (fun W hW => by obtain ⟨h0, h1, h2, h3, h4, h5⟩ := hW; go_simp) zH0 ?_
            simp only [Act.put, List.setIfInBounds_toArray, List.set_cons_zero, List.set_cons_succ]
            refine hr_take_w 3 (some 66) (.pointer (some ⟨b, off, none⟩)) rfl rfl (by kernel_rfl) (by kernel_rfl) (by kernel_rfl) rfl (fun W hW => by obtain ⟨h0, h1, h2, h3, h4, h5⟩ := hW; go_simp) zH0 ?_
            simp only [Act.put, List.setIfInBounds_toArray, List.set_cons_zero, List.set_cons_succ]
            refine hr_take_w 4 (some 67) (.pointer (some ⟨b, off, none⟩)) rfl rfl (by kernel_rfl) (by kernel_rfl) (by kernel_rfl) rfl (fun W hW => by obtain ⟨h0, h1, h2, h3, h4, h5⟩ := hW; go_simp) zH0 ?_
            simp only [Act.put, List.setIfInBounds_toArray, List.set_cons_zero, List.set_cons_succ]
            refine hr_take_w 5 (some 68) (.string c.row) rfl rfl (by kernel_rfl) (by kernel_rfl) (by kernel_rfl) rfl (fun W hW => by obtain ⟨h0, h1, h2, h3, h4, h5⟩ := hW; go_simp) zH0 ?_
            simp only [Act.put, List.setIfInBounds_toArray, List.set_cons_zero, List.set_cons_succ]
            refine hr_take_w 6 (some 69) (.string f) rfl rfl (by kernel_rfl) (by kernel_rfl) (by kernel_rfl) rfl (fun W hW => by obtain ⟨h0, h1, h2, h3, h4, h5⟩ := hW; go_simp) zH0 ?_
            simp only [Act.put, List.setIfInBounds_toArray, List.set_cons_zero, List.set_cons_succ]
            refine hr_take_w 7 (some 70) (.bool false) rfl rfl (by kernel_rfl) (by kernel_rfl) (by kernel_rfl) rfl (fun W hW => by obtain ⟨h0, h1, h2, h3, h4, h5⟩ := hW; go_simp) zH0 ?_
            simp only [Act.put, List.setIfInBounds_toArray, List.set_cons_zero, List.set_cons_succ]
            refine hr_take_w 8 (some 71) (.bool false) rfl rfl (by kernel_rfl) (by kernel_rfl) (by kernel_rfl) rfl (fun W hW => by obtain ⟨h0, h1, h2, h3, h4, h5⟩ := hW; go_simp) zH0 ?_
            simp only [Act.put, List.setIfInBounds_toArray, List.set_cons_zero, List.set_cons_succ]
            refine hr_take_w 9 (some 72) (.string t) rfl rfl (by kernel_rfl) (by kernel_rfl) (by kernel_rfl) rfl (fun W hW => by obtain ⟨h0, h1, h2, h3, h4, h5⟩ := hW; go_simp) zH0 ?_
            simp only [Act.put, List.setIfInBounds_toArray, List.set_cons_zero, List.set_cons_succ]
            refine hr_take_w 10 (some 73) (.bool tb) rfl rfl (by kernel_rfl) (by kernel_rfl) (by kernel_rfl) rfl (fun W hW => by obtain ⟨h0, h1, h2, h3, h4, h5⟩ := hW; go_simp) zH0 ?_
            simp only [Act.put, List.setIfInBounds_toArray, List.set_cons_zero, List.set_cons_succ]
            refine hr_take_w 11 (some 74) (.bool tb) rfl rfl (by kernel_rfl) (by kernel_rfl) (by kernel_rfl) rfl (fun W hW => by obtain ⟨h0, h1, h2, h3, h4, h5⟩ := hW; go_simp) zH0 ?_
            simp only [Act.put, List.setIfInBounds_toArray, List.set_cons_zero, List.set_cons_succ]
            refine hr_opt tb 12 (some 75) (.slice (some ⟨b, off, none⟩) n5 cap5) rfl rfl (by kernel_rfl) (by kernel_rfl) (by kernel_rfl) (by cases tb <;> rfl) (fun hb W hW => by subst hb; obtain ⟨h0, h1, h2, h3, h4, h5⟩ := hW; go_simp) zH0 ?_
            simp only [Act.put, List.setIfInBounds_toArray, List.set_cons_zero, List.set_cons_succ]
            refine hr_opt tb 13 (some 76) (.int .i64 0) rfl rfl (by kernel_rfl) (by kernel_rfl) (by kernel_rfl) (by cases tb <;> rfl) (fun hb W hW => by subst hb; obtain ⟨h0, h1, h2, h3, h4, h5⟩ := hW; go_simp) zH0 ?_
            simp only [Act.put, List.setIfInBounds_toArray, List.set_cons_zero, List.set_cons_succ]
            refine hr_opt tb 14 (some 77) (.pointer (some ⟨b, off, none⟩)) rfl rfl (by kernel_rfl) (by kernel_rfl) (by kernel_rfl) (by cases tb <;> rfl) (fun hb W hW => by subst hb; obtain ⟨h0, h1, h2, h3, h4, h5⟩ := hW; go_simp) zH0 ?_
            simp only [Act.put, List.setIfInBounds_toArray, List.set_cons_zero, List.set_cons_succ]
            refine hr_opt tb 15 (some 78) (.pointer (some ⟨b, off, none⟩)) rfl rfl (by kernel_rfl) (by kernel_rfl) (by kernel_rfl) (by cases tb <;> rfl) (fun hb W hW => by subst hb; obtain ⟨h0, h1, h2, h3, h4, h5⟩ := hW; go_simp) zH0 ?_
            simp only [Act.put, List.setIfInBounds_toArray, List.set_cons_zero, List.set_cons_succ]
            refine hr_opt tb 16 (some 79) (.pointer (some ⟨b, off, none⟩)) rfl rfl (by kernel_rfl) (by kernel_rfl) (by kernel_rfl) (by cases tb <;> rfl) (fun hb W hW => by subst hb; obtain ⟨h0, h1, h2, h3, h4, h5⟩ := hW; go_simp) zH0 ?_
            simp only [Act.put, List.setIfInBounds_toArray, List.set_cons_zero, List.set_cons_succ]
            refine hr_opt tb 17 (some 80) (.string c.row) rfl rfl (by kernel_rfl) (by kernel_rfl) (by kernel_rfl) (by cases tb <;> rfl) (fun hb W hW => by subst hb; obtain ⟨h0, h1, h2, h3, h4, h5⟩ := hW; go_simp) zH0 ?_
            simp only [Act.put, List.setIfInBounds_toArray, List.set_cons_zero, List.set_cons_succ]
            refine hr_opt tb 18 (some 81) (.string t) rfl rfl (by kernel_rfl) (by kernel_rfl) (by kernel_rfl) (by cases tb <;> rfl) (fun hb W hW => by subst hb; obtain ⟨h0, h1, h2, h3, h4, h5⟩ := hW; go_simp) zH0 ?_
            simp only [Act.put, List.setIfInBounds_toArray, List.set_cons_zero, List.set_cons_succ]
            refine hr_opt tb 19 (some 82) (.bool false) rfl rfl (by kernel_rfl) (by kernel_rfl) (by kernel_rfl) (by cases tb <;> rfl) (fun hb W hW => by subst hb; obtain ⟨h0, h1, h2, h3, h4, h5⟩ := hW; have hl := hlt rfl; go_simp) zH0 ?_
            simp only [Act.put, List.setIfInBounds_toArray, List.set_cons_zero, List.set_cons_succ]
            refine hr_take_w 20 (some 83) (.bool false) rfl rfl (by kernel_rfl) (by kernel_rfl) (by kernel_rfl) rfl (fun W hW => by obtain ⟨h0, h1, h2, h3, h4, h5⟩ := hW; cases tb <;> go_simp) zH0 ?_
            simp only [Act.put, List.setIfInBounds_toArray, List.set_cons_zero, List.set_cons_succ]
            refine hr_take_w 21 (some 84) (.bool false) rfl rfl (by kernel_rfl) (by kernel_rfl) (by kernel_rfl) rfl (fun W hW => by obtain ⟨h0, h1, h2, h3, h4, h5⟩ := hW; go_simp) zH0 ?_
            simp only [Act.put, List.setIfInBounds_toArray, List.set_cons_zero, List.set_cons_succ]
            refine hr_take_w 22 (some 85) (.bool false) rfl rfl (by kernel_rfl) (by kernel_rfl) (by kernel_rfl) rfl (fun W hW => by obtain ⟨h0, h1, h2, h3, h4, h5⟩ := hW; go_simp) zH0 ?_
            simp only [Act.put, List.setIfInBounds_toArray, List.set_cons_zero, List.set_cons_succ]
            refine hr_take_w 23 (some 86) (.slice (some ⟨b, off, none⟩) n5 cap5) rfl rfl (by kernel_rfl) (by kernel_rfl) (by kernel_rfl) rfl (fun W hW => by obtain ⟨h0, h1, h2, h3, h4, h5⟩ := hW; go_simp) zH0 ?_
            simp only [Act.put, List.setIfInBounds_toArray, List.set_cons_zero, List.set_cons_succ]
            refine hr_take_w 24 (some 87) (.int .i64 0) rfl rfl (by kernel_rfl) (by kernel_rfl) (by kernel_rfl) rfl (fun W hW => by obtain ⟨h0, h1, h2, h3, h4, h5⟩ := hW; go_simp) zH0 ?_
            simp only [Act.put, List.setIfInBounds_toArray, List.set_cons_zero, List.set_cons_succ]
            refine hr_take_w 25 (some 88) (.pointer (some ⟨b, off, none⟩)) rfl rfl (by kernel_rfl) (by kernel_rfl) (by kernel_rfl) rfl (fun W hW => by obtain ⟨h0, h1, h2, h3, h4, h5⟩ := hW; go_simp) zH0 ?_
            simp only [Act.put, List.setIfInBounds_toArray, List.set_cons_zero, List.set_cons_succ]
            refine hr_take_w 26 (some 89) (.pointer (some ⟨b, off + 5, none⟩)) rfl rfl (by kernel_rfl) (by kernel_rfl) (by kernel_rfl) rfl (fun W hW => by obtain ⟨h0, h1, h2, h3, h4, h5⟩ := hW; go_simp) zH0 ?_
            simp only [Act.put, List.setIfInBounds_toArray, List.set_cons_zero, List.set_cons_succ]
            refine hr_take_w 27 (some 90) (.bool gb) rfl rfl (by kernel_rfl) (by kernel_rfl) (by kernel_rfl) rfl (fun W hW => by obtain ⟨h0, h1, h2, h3, h4, h5⟩ := hW; go_simp) zH0 ?_
            simp only [Act.put, List.setIfInBounds_toArray, List.set_cons_zero, List.set_cons_succ]
            refine hr_take_w 28 (some 91) (.bool gb) rfl rfl (by kernel_rfl) (by kernel_rfl) (by kernel_rfl) rfl (fun W hW => by obtain ⟨h0, h1, h2, h3, h4, h5⟩ := hW; go_simp) zH0 ?_
            simp only [Act.put, List.setIfInBounds_toArray, List.set_cons_zero, List.set_cons_succ]
            refine hr_opt gb 29 (some 92) (.slice (some ⟨b, off, none⟩) n5 cap5) rfl rfl (by kernel_rfl) (by kernel_rfl) (by kernel_rfl) (by cases gb <;> rfl) (fun hb W hW => by subst hb; obtain ⟨h0, h1, h2, h3, h4, h5⟩ := hW; go_simp) zH0 ?_
            simp only [Act.put, List.setIfInBounds_toArray, List.set_cons_zero, List.set_cons_succ]
            refine hr_opt gb 30 (some 93) (.int .i64 0) rfl rfl (by kernel_rfl) (by kernel_rfl) (by kernel_rfl) (by cases gb <;> rfl) (fun hb W hW => by subst hb; obtain ⟨h0, h1, h2, h3, h4, h5⟩ := hW; go_simp) zH0 ?_
            simp only [Act.put, List.setIfInBounds_toArray, List.set_cons_zero, List.set_cons_succ]
            refine hr_opt gb 31 (some 94) (.pointer (some ⟨b, off, none⟩)) rfl rfl (by kernel_rfl) (by kernel_rfl) (by kernel_rfl) (by cases gb <;> rfl) (fun hb W hW => by subst hb; obtain ⟨h0, h1, h2, h3, h4, h5⟩ := hW; go_simp) zH0 ?_
            simp only [Act.put, List.setIfInBounds_toArray, List.set_cons_zero, List.set_cons_succ]
            refine hr_opt gb 32 (some 95) (.pointer (some ⟨b, off + 4, none⟩)) rfl rfl (by kernel_rfl) (by kernel_rfl) (by kernel_rfl) (by cases gb <;> rfl) (fun hb W hW => by subst hb; obtain ⟨h0, h1, h2, h3, h4, h5⟩ := hW; go_simp) zH0 ?_
            simp only [Act.put, List.setIfInBounds_toArray, List.set_cons_zero, List.set_cons_succ]
            refine hr_opt gb 33 (some 96) (.slice c.va.ao c.va.n c.va.cap) rfl rfl (by kernel_rfl) (by kernel_rfl) (by kernel_rfl) (by cases gb <;> rfl) (fun hb W hW => by subst hb; obtain ⟨h0, h1, h2, h3, h4, h5⟩ := hW; go_simp) zH0 ?_
            simp only [Act.put, List.setIfInBounds_toArray, List.set_cons_zero, List.set_cons_succ]
            refine hr_opt gb 34 (some 97) (.int .i64 (c.va.n : Nat)) rfl rfl (by kernel_rfl) (by kernel_rfl) (by kernel_rfl) (by cases gb <;> rfl) (fun hb W hW => by subst hb; obtain ⟨h0, h1, h2, h3, h4, h5⟩ := hW; go_simp) zH0 ?_
            simp only [Act.put, List.setIfInBounds_toArray, List.set_cons_zero, List.set_cons_succ]
            refine hr_opt gb 35 (some 98) (.bool false) rfl rfl (by kernel_rfl) (by kernel_rfl) (by kernel_rfl) (by cases gb <;> rfl) (fun hb W hW => by subst hb; obtain ⟨h0, h1, h2, h3, h4, h5⟩ := hW; have hz := hg0 rfl; go_simp) zH0 ?_
            simp only [Act.put, List.setIfInBounds_toArray, List.set_cons_zero, List.set_cons_succ]
            refine hr_take_w 36 (some 99) (.bool false) rfl rfl (by kernel_rfl) (by kernel_rfl) (by kernel_rfl) rfl (fun W hW => by obtain ⟨h0, h1, h2, h3, h4, h5⟩ := hW; cases gb <;> go_simp) zH0 ?_
            simp only [Act.put, List.setIfInBounds_toArray, List.set_cons_zero, List.set_cons_succ]
            refine hr_take_w 37 (some 100) (.bool false) rfl rfl (by kernel_rfl) (by kernel_rfl) (by kernel_rfl) rfl (fun W hW => by obtain ⟨h0, h1, h2, h3, h4, h5⟩ := hW; go_simp) zH0 ?_
            simp only [Act.put, List.setIfInBounds_toArray, List.set_cons_zero, List.set_cons_succ]
            refine hr_take_w 38 (some 101) (.bool false) rfl rfl (by kernel_rfl) (by kernel_rfl) (by kernel_rfl) rfl (fun W hW => by obtain ⟨h0, h1, h2, h3, h4, h5⟩ := hW; go_simp) zH0 ?_
            simp only [Act.put, List.setIfInBounds_toArray, List.set_cons_zero, List.set_cons_succ]
            refine hr_take_w 39 (some 102) (.int .i64 0) rfl rfl (by kernel_rfl) (by kernel_rfl) (by kernel_rfl) rfl (fun W hW => by obtain ⟨h0, h1, h2, h3, h4, h5⟩ := hW; go_simp) zH0 ?_
            simp only [Act.put, List.setIfInBounds_toArray, List.set_cons_zero, List.set_cons_succ]
            refine hr_take_w 40 (some 103) (.bool false) rfl rfl (by kernel_rfl) (by kernel_rfl) (by kernel_rfl) rfl (fun W hW => by obtain ⟨h0, h1, h2, h3, h4, h5⟩ := hW; go_simp) zH0 ?_
            simp only [Act.put, List.setIfInBounds_toArray, List.set_cons_zero, List.set_cons_succ]
            refine hr_take_w 41 (some 104) (.bool false) rfl rfl (by kernel_rfl) (by kernel_rfl) (by kernel_rfl) rfl (fun W hW => by obtain ⟨h0, h1, h2, h3, h4, h5⟩ := hW; go_simp) zH0 ?_
            simp only [Act.put, List.setIfInBounds_toArray, List.set_cons_zero, List.set_cons_succ]
            refine hr_none 42 (some 105) rfl rfl (by kernel_rfl) (by kernel_rfl) (by kernel_rfl) rfl zH0 ?_
            simp only [Act.put, List.setIfInBounds_toArray, List.set_cons_zero, List.set_cons_succ]
            refine hr_none 43 (some 106) rfl rfl (by kernel_rfl) (by kernel_rfl) (by kernel_rfl) rfl zH0 ?_
            simp only [Act.put, List.setIfInBounds_toArray, List.set_cons_zero, List.set_cons_succ]
            refine hr_none 44 (some 107) rfl rfl (by kernel_rfl) (by kernel_rfl) (by kernel_rfl) rfl zH0 ?_
            simp only [Act.put, List.setIfInBounds_toArray, List.set_cons_zero, List.set_cons_succ]
            refine hr_none 45 (some 108) rfl rfl (by kernel_rfl) (by kernel_rfl) (by kernel_rfl) rfl zH0 ?_
            simp only [Act.put, List.setIfInBounds_toArray, List.set_cons_zero, List.set_cons_succ]
            refine hr_none 46 (some 109) rfl rfl (by kernel_rfl) (by kernel_rfl) (by kernel_rfl) rfl zH0 ?_
            simp only [Act.put, List.setIfInBounds_toArray, List.set_cons_zero, List.set_cons_succ]
            refine hr_none 47 (some 110) rfl rfl (by kernel_rfl) (by kernel_rfl) (by kernel_rfl) rfl zH0 ?_
            simp only [Act.put, List.setIfInBounds_toArray, List.set_cons_zero, List.set_cons_succ]
            refine hr_none 48 (some 111) rfl rfl (by kernel_rfl) (by kernel_rfl) (by kernel_rfl) rfl zH0 ?_
            simp only [Act.put, List.setIfInBounds_toArray, List.set_cons_zero, List.set_cons_succ]
            refine hr_none 49 (some 112) rfl rfl (by kernel_rfl) (by kernel_rfl) (by kernel_rfl) rfl zH0 ?_
            simp only [Act.put, List.setIfInBounds_toArray, List.set_cons_zero, List.set_cons_succ]
            refine hr_none 50 (some 113) rfl rfl (by kernel_rfl) (by kernel_rfl) (by kernel_rfl) rfl zH0 ?_
            simp only [Act.put, List.setIfInBounds_toArray, List.set_cons_zero, List.set_cons_succ]
            refine hr_none 51 (some 114) rfl rfl (by kernel_rfl) (by kernel_rfl) (by kernel_rfl) rfl zH0 ?_
            simp only [Act.put, List.setIfInBounds_toArray, List.set_cons_zero, List.set_cons_succ]
            refine hr_none 52 (some 115) rfl rfl (by kernel_rfl) (by kernel_rfl) (by kernel_rfl) rfl zH0 ?_
            simp only [Act.put, List.setIfInBounds_toArray, List.set_cons_zero, List.set_cons_succ]
            refine hr_none 53 (some 116) rfl rfl (by kernel_rfl) (by kernel_rfl) (by kernel_rfl) rfl zH0 ?_
            simp only [Act.put, List.setIfInBounds_toArray, List.set_cons_zero, List.set_cons_succ]
            refine hr_none 54 (some 117) rfl rfl (by kernel_rfl) (by kernel_rfl) (by kernel_rfl) rfl zH0 ?_
            simp only [Act.put, List.setIfInBounds_toArray, List.set_cons_zero, List.set_cons_succ]
            refine hr_take_w 55 (some 118) (.bool false) rfl rfl (by kernel_rfl) (by kernel_rfl) (by kernel_rfl) rfl (fun W hW => by obtain ⟨h0, h1, h2, h3, h4, h5⟩ := hW; go_simp) zH0 ?_
            simp only [Act.put, List.setIfInBounds_toArray, List.set_cons_zero, List.set_cons_succ]
            refine hr_take_w 56 (some 119) (.bool false) rfl rfl (by kernel_rfl) (by kernel_rfl) (by kernel_rfl) rfl (fun W hW => by obtain ⟨h0, h1, h2, h3, h4, h5⟩ := hW; go_simp) zH0 ?_
            simp only [Act.put, List.setIfInBounds_toArray, List.set_cons_zero, List.set_cons_succ]
            refine wpAnyH_done (by kernel_rfl) ?_ _
            refine NoPanic.normal ?_
            have zB : Below wr.heap.size wr zv0 := zE0
            clear zHS zH0
            go_wp2
            have x0 := (zB.cell (World.block_lt_of_cell? _ _ x0)).trans x0
            have x1 := (zB.cell (World.block_lt_of_cell? _ _ x1)).trans x1
            have x2 := (zB.cell (World.block_lt_of_cell? _ _ x2)).trans x2
            have x3 := (zB.cell (World.block_lt_of_cell? _ _ x3)).trans x3
            have x4 := (zB.cell (World.block_lt_of_cell? _ _ x4)).trans x4
            have x5 := (zB.cell (World.block_lt_of_cell? _ _ x5)).trans x5
            have yHS : Hid (∀ V, Below zv0.heap.size zv0 V → True) := fun _ _ => trivial
            have yE0 : Below zv0.heap.size zv0 zv0.drew := (Below.refl _ _).drew
            refine wp_region_noPanic ?_
            refine wp_region_held_drew (S := fun V => True) (by kernel_rfl) (yHS.out _ yE0) (fun yH0 => ?_)
            obtain ⟨yv0, hv0⟩ : ∃ v, v = zv0.drew := ⟨_, rfl⟩
            rw [← hv0] at yE0 ⊢
            clear hv0
            refine hr_take_w 0 (some 122) (.int .i64 0) rfl rfl (by kernel_rfl) (by kernel_rfl) (by kernel_rfl) rfl (fun W hW => by go_simp) yH0 ?_
            simp only [Act.put, List.setIfInBounds_toArray, List.set_cons_zero, List.set_cons_succ]
            refine hr_take_w 1 (some 123) (.bool false) rfl rfl (by kernel_rfl) (by kernel_rfl) (by kernel_rfl) rfl (fun W hW => by go_simp) yH0 ?_
            simp only [Act.put, List.setIfInBounds_toArray, List.set_cons_zero, List.set_cons_succ]
            refine hr_take_w 2 (some 124) (.bool false) rfl rfl (by kernel_rfl) (by kernel_rfl) (by kernel_rfl) rfl (fun W hW => by go_simp) yH0 ?_
            simp only [Act.put, List.setIfInBounds_toArray, List.set_cons_zero, List.set_cons_succ]
            refine hr_none 3 (some 125) rfl rfl (by kernel_rfl) (by kernel_rfl) (by kernel_rfl) rfl yH0 ?_
            simp only [Act.put, List.setIfInBounds_toArray, List.set_cons_zero, List.set_cons_succ]
            refine hr_none 4 (some 126) rfl rfl (by kernel_rfl) (by kernel_rfl) (by kernel_rfl) rfl yH0 ?_
            simp only [Act.put, List.setIfInBounds_toArray, List.set_cons_zero, List.set_cons_succ]
            refine hr_none 5 (some 127) rfl rfl (by kernel_rfl) (by kernel_rfl) (by kernel_rfl) rfl yH0 ?_
            simp only [Act.put, List.setIfInBounds_toArray, List.set_cons_zero, List.set_cons_succ]
            refine hr_none 6 (some 128) rfl rfl (by kernel_rfl) (by kernel_rfl) (by kernel_rfl) rfl yH0 ?_
            simp only [Act.put, List.setIfInBounds_toArray, List.set_cons_zero, List.set_cons_succ]
            refine hr_none 7 (some 129) rfl rfl (by kernel_rfl) (by kernel_rfl) (by kernel_rfl) rfl yH0 ?_
            simp only [Act.put, List.setIfInBounds_toArray, List.set_cons_zero, List.set_cons_succ]
            refine hr_none 8 (some 130) rfl rfl (by kernel_rfl) (by kernel_rfl) (by kernel_rfl) rfl yH0 ?_
            simp only [Act.put, List.setIfInBounds_toArray, List.set_cons_zero, List.set_cons_succ]
            refine hr_none 9 (some 131) rfl rfl (by kernel_rfl) (by kernel_rfl) (by kernel_rfl) rfl yH0 ?_
            simp only [Act.put, List.setIfInBounds_toArray, List.set_cons_zero, List.set_cons_succ]
            refine hr_none 10 (some 132) rfl rfl (by kernel_rfl) (by kernel_rfl) (by kernel_rfl) rfl yH0 ?_
            simp only [Act.put, List.setIfInBounds_toArray, List.set_cons_zero, List.set_cons_succ]
            refine hr_none 11 (some 133) rfl rfl (by kernel_rfl) (by kernel_rfl) (by kernel_rfl) rfl yH0 ?_
            simp only [Act.put, List.setIfInBounds_toArray, List.set_cons_zero, List.set_cons_succ]
            refine hr_none 12 (some 134) rfl rfl (by kernel_rfl) (by kernel_rfl) (by kernel_rfl) rfl yH0 ?_
            simp only [Act.put, List.setIfInBounds_toArray, List.set_cons_zero, List.set_cons_succ]
            refine hr_none 13 (some 135) rfl rfl (by kernel_rfl) (by kernel_rfl) (by kernel_rfl) rfl yH0 ?_
            simp only [Act.put, List.setIfInBounds_toArray, List.set_cons_zero, List.set_cons_succ]
            refine hr_none 14 (some 136) rfl rfl (by kernel_rfl) (by kernel_rfl) (by kernel_rfl) rfl yH0 ?_
            simp only [Act.put, List.setIfInBounds_toArray, List.set_cons_zero, List.set_cons_succ]
            refine hr_none 15 (some 137) rfl rfl (by kernel_rfl) (by kernel_rfl) (by kernel_rfl) rfl yH0 ?_
            simp only [Act.put, List.setIfInBounds_toArray, List.set_cons_zero, List.set_cons_succ]
            refine hr_take_w 16 (some 138) (.bool false) rfl rfl (by kernel_rfl) (by kernel_rfl) (by kernel_rfl) rfl (fun W hW => by go_simp) yH0 ?_
            simp only [Act.put, List.setIfInBounds_toArray, List.set_cons_zero, List.set_cons_succ]
            refine wpAnyH_done (by kernel_rfl) ?_ _
            refine NoPanic.normal ?_
            have yB : Below wr.heap.size wr yv0 := zB.trans (yE0.mono zB.size)
            clear yHS yH0 x0 x1 x2 x3 x4 x5
            go_wp2
            go_roundw
            case rel => exact ⟨1, 1, by omega, by go_num, by go_num, HN2, B5.trans (yB.mono B5.size)⟩
            case measure => simp [intOf]; omega
          | succ jj =>
            have hjd : jj < cl.length := by omega
            have hjd2 : jj < cs.length := by omega
            have Y := (hc jj hjd).below B5
            have hcd : cs[jj] = cl[jj].c := by
              have := HM5.out
              subst this
              exact List.getElem_map ..
            have hod := (L5.ok _ (List.getElem_mem hjd)).below B5
            have dok : KA.ok ⟨cl[jj].row, cl[jj].fam, cl[jj].qual, cl[jj].time⟩ := ⟨hod.row, hod.fam, hod.qual, hod.time⟩
            have hck : cmpK cl[jj].c.kv cl[jj + 1].c.kv < 0 := by
              have h1 : cs.Pairwise (fun a b => cmpL (keyL a.kv) (keyL b.kv) < 0) := by
                have h := HS.out.srt
                unfold CSrt Srt at h
                rw [List.pairwise_map] at h
                exact h
              have h2 := List.pairwise_iff_getElem.1 h1 jj (jj + 1) hjd2 hjc (by omega)
              rw [hcd, hcj, keyL_cmp _ _ (CV.kvByt hod.time) (CV.kvByt hok.time)] at h2
              exact h2
            have HNF : Hid (1 ≤ rbN cs (jj + 1 + 1)) := rbN_one hjc
            obtain ⟨cb, hcb⟩ : ∃ b, b = KA.col ⟨cl[jj].row, cl[jj].fam, cl[jj].qual, cl[jj].time⟩ ⟨cl[jj + 1].row, cl[jj + 1].fam, cl[jj + 1].qual, cl[jj + 1].time⟩ := ⟨_, rfl⟩
            have HNT : Hid (cb = true → nn + 1 ≤ rbN cs (jj + 1 + 1)) := fun h => by
              have h1 : cs[jj].col cs[jj + 1].ky = true := by
                rw [hcd, hcj]
                exact hcb.symm.trans h
              have h2 := rbN_next hjc h1
              have h3 := HN.out
              omega
            have HCM : Hid (∀ V, Calls Tryz.prog 33 #[.agg #[.string cl[jj].row, .string cl[jj].fam, .string cl[jj].qual, .int .u64 cl[jj].time], .agg #[.string cl[jj + 1].row, .string cl[jj + 1].fam, .string cl[jj + 1].qual, .int .u64 cl[jj + 1].time]] V fun e w' => e = .returned (.int .i64 (cmpK cl[jj].c.kv cl[jj + 1].c.kv)) ∧ Below V.heap.size V w') := fun V => rcmp_any V _ _ dok kok
            have HCC : Hid (∀ V, Calls Tryz.prog 34 #[.agg #[.string cl[jj].row, .string cl[jj].fam, .string cl[jj].qual, .int .u64 cl[jj].time], .agg #[.string cl[jj + 1].row, .string cl[jj + 1].fam, .string cl[jj + 1].qual, .int .u64 cl[jj + 1].time]] V fun e w' => e = .returned (.bool cb) ∧ Below V.heap.size V w') := fun V => by
              have := rcolumn_any V ⟨cl[jj].row, cl[jj].fam, cl[jj].qual, cl[jj].time⟩ ⟨cl[jj + 1].row, cl[jj + 1].fam, cl[jj + 1].qual, cl[jj + 1].time⟩
              rw [← hcb] at this
              exact this
            obtain ⟨ck, hcke⟩ : ∃ k, k = cmpK cl[jj].c.kv cl[jj + 1].c.kv := ⟨_, rfl⟩
            rw [← hcke] at hck HCM
            obtain ⟨c, hce⟩ : ∃ c, c = cl[jj + 1] := ⟨_, rfl⟩
            obtain ⟨d, hde⟩ : ∃ c, c = cl[jj] := ⟨_, rfl⟩
            rw [← hce] at X lf hlt hg0 HCM HCC
            rw [← hde] at Y HCM HCC
            obtain ⟨gb, hgb⟩ : ∃ g, g = c.gone := ⟨_, rfl⟩
            obtain ⟨x0, x1, x2, x3, x4, x5⟩ := X
            obtain ⟨y0, y1, y2, y3, y4, y5⟩ := Y
            rw [← hgb] at x5 hg0
            have hge0 : ¬ (0 : Int) ≤ ck := by omega
            have hjp : (0 : Int) < ((jj + 1 : Nat) : Int) := by omega
            have hjp2 : (0 : Int) < (jj : Int) + 1 := by omega
            have hwj : IntKind.i64.wrap (jj : Int) = (jj : Int) := by rw [IntKind.wrap_i64]; omega
            have hwj2 : IntKind.i64.wrap (((jj + 1 : Nat) : Int) - 1) = (jj : Int) := by rw [IntKind.wrap_i64]; omega
            have hwj3 : IntKind.i64.wrap ((jj : Int) + 1 - 1) = (jj : Int) := by rw [IntKind.wrap_i64]; omega
            have hji2 : (jj : Int) < (n5 : Int) := by omega
            have hjn : ¬ (jj : Int) + 1 < 0 := by omega
            have HWN : Hid (wrap64 ((nn : Int) + 1) = (nn : Int) + 1) := by
              have h1 := HR4.out (jj + 1)
              have h2 := HN.out
              show wrap64 _ = _
              unfold wrap64
              omega
            have hji3 : (jj : Int) + 1 < (n5 : Int) := by omega
            clear hc hcj hcd hrow hgd hok hod kok dok hr1 hr2 hcke hce hde hgb hcb hck
            go_wp2
            have zHS : Hid (∀ V, Below wr.heap.size wr V → V.cell? ⟨b, off + (jj + 1) * 6, none⟩ = some (.string c.row) ∧ V.cell? ⟨b, off + (jj + 1) * 6 + 1, none⟩ = some (.string c.fam) ∧ V.cell? ⟨b, off + (jj + 1) * 6 + 2, none⟩ = some (.string c.qual) ∧ V.cell? ⟨b, off + (jj + 1) * 6 + 3, none⟩ = some (.int .u64 c.time) ∧ V.cell? ⟨b, off + (jj + 1) * 6 + 4, none⟩ = some (.slice c.va.ao c.va.n c.va.cap) ∧ V.cell? ⟨b, off + (jj + 1) * 6 + 5, none⟩ = some (.bool gb) ∧ V.cell? ⟨b, off + jj * 6, none⟩ = some (.string d.row) ∧ V.cell? ⟨b, off + jj * 6 + 1, none⟩ = some (.string d.fam) ∧ V.cell? ⟨b, off + jj * 6 + 2, none⟩ = some (.string d.qual) ∧ V.cell? ⟨b, off + jj * 6 + 3, none⟩ = some (.int .u64 d.time) ∧ V.cell? ⟨b, off + jj * 6 + 4, none⟩ = some (.slice d.va.ao d.va.n d.va.cap) ∧ V.cell? ⟨b, off + jj * 6 + 5, none⟩ = some (.bool d.gone)) := fun V hV => ⟨(hV.cell (World.block_lt_of_cell? _ _ x0)).trans x0, (hV.cell (World.block_lt_of_cell? _ _ x1)).trans x1, (hV.cell (World.block_lt_of_cell? _ _ x2)).trans x2, (hV.cell (World.block_lt_of_cell? _ _ x3)).trans x3, (hV.cell (World.block_lt_of_cell? _ _ x4)).trans x4, (hV.cell (World.block_lt_of_cell? _ _ x5)).trans x5, (hV.cell (World.block_lt_of_cell? _ _ y0)).trans y0, (hV.cell (World.block_lt_of_cell? _ _ y1)).trans y1, (hV.cell (World.block_lt_of_cell? _ _ y2)).trans y2, (hV.cell (World.block_lt_of_cell? _ _ y3)).trans y3, (hV.cell (World.block_lt_of_cell? _ _ y4)).trans y4, (hV.cell (World.block_lt_of_cell? _ _ y5)).trans y5⟩
            have zE0 : Below wr.heap.size wr wr.drew := (Below.refl _ _).drew
            refine wp_region_noPanic ?_
            refine wp_region_held_drew (S := fun V => V.cell? ⟨b, off + (jj + 1) * 6, none⟩ = some (.string c.row) ∧ V.cell? ⟨b, off + (jj + 1) * 6 + 1, none⟩ = some (.string c.fam) ∧ V.cell? ⟨b, off + (jj + 1) * 6 + 2, none⟩ = some (.string c.qual) ∧ V.cell? ⟨b, off + (jj + 1) * 6 + 3, none⟩ = some (.int .u64 c.time) ∧ V.cell? ⟨b, off + (jj + 1) * 6 + 4, none⟩ = some (.slice c.va.ao c.va.n c.va.cap) ∧ V.cell? ⟨b, off + (jj + 1) * 6 + 5, none⟩ = some (.bool gb) ∧ V.cell? ⟨b, off + jj * 6, none⟩ = some (.string d.row) ∧ V.cell? ⟨b, off + jj * 6 + 1, none⟩ = some (.string d.fam) ∧ V.cell? ⟨b, off + jj * 6 + 2, none⟩ = some (.string d.qual) ∧ V.cell? ⟨b, off + jj * 6 + 3, none⟩ = some (.int .u64 d.time) ∧ V.cell? ⟨b, off + jj * 6 + 4, none⟩ = some (.slice d.va.ao d.va.n d.va.cap) ∧ V.cell? ⟨b, off + jj * 6 + 5, none⟩ = some (.bool d.gone)) (by kernel_rfl) (zHS.out _ zE0) (fun zH0 => ?_)
            obtain ⟨zv0, hv0⟩ : ∃ v, v = wr.drew := ⟨_, rfl⟩
            rw [← hv0] at zH0 zE0 ⊢
            clear hv0
            refine hr_take_w 0 (some 63) (.slice (some ⟨b, off, none⟩) n5 cap5) rfl rfl (by kernel_rfl) (by kernel_rfl) (by kernel_rfl) rfl (fun W hW => by obtain ⟨h0, h1, h2, h3, h4, h5, h6, h7, h8, h9, h10, h11⟩ := hW; go_simp) zH0 ?_
            simp only [Act.put, List.setIfInBounds_toArray, List.set_cons_zero, List.set_cons_succ]
            refine hr_take_w 1 (some 64) (.int .i64 ((jj + 1 : Nat) : Int)) rfl rfl (by kernel_rfl) (by kernel_rfl) (by kernel_rfl) rfl (fun W hW => by obtain ⟨h0, h1, h2, h3, h4, h5, h6, h7, h8, h9, h10, h11⟩ := hW; go_simp) zH0 ?_
            simp only [Act.put, List.setIfInBounds_toArray, List.set_cons_zero, List.set_cons_succ]
            refine hr_take_w 2 (some 65) (.pointer (some ⟨b, off + (jj + 1) * 6, none⟩)) rfl rfl (by kernel_rfl) (by kernel_rfl) (by kernel_rfl) rfl (fun W hW => by obtain ⟨h0, h1, h2, h3, h4, h5, h6, h7, h8, h9, h10, h11⟩ := hW; go_simp) zH0 ?_
            simp only [Act.put, List.setIfInBounds_toArray, List.set_cons_zero, List.set_cons_succ]
            refine hr_take_w 3 (some 66) (.pointer (some ⟨b, off + (jj + 1) * 6, none⟩)) rfl rfl (by kernel_rfl) (by kernel_rfl) (by kernel_rfl) rfl (fun W hW => by obtain ⟨h0, h1, h2, h3, h4, h5, h6, h7, h8, h9, h10, h11⟩ := hW; go_simp) zH0 ?_
            simp only [Act.put, List.setIfInBounds_toArray, List.set_cons_zero, List.set_cons_succ]
            refine hr_take_w 4 (some 67) (.pointer (some ⟨b, off + (jj + 1) * 6, none⟩)) rfl rfl (by kernel_rfl) (by kernel_rfl) (by kernel_rfl) rfl (fun W hW => by obtain ⟨h0, h1, h2, h3, h4, h5, h6, h7, h8, h9, h10, h11⟩ := hW; go_simp) zH0 ?_
            simp only [Act.put, List.setIfInBounds_toArray, List.set_cons_zero, List.set_cons_succ]
            refine hr_take_w 5 (some 68) (.string c.row) rfl rfl (by kernel_rfl) (by kernel_rfl) (by kernel_rfl) rfl (fun W hW => by obtain ⟨h0, h1, h2, h3, h4, h5, h6, h7, h8, h9, h10, h11⟩ := hW; go_simp) zH0 ?_
            simp only [Act.put, List.setIfInBounds_toArray, List.set_cons_zero, List.set_cons_succ]
            refine hr_take_w 6 (some 69) (.string f) rfl rfl (by kernel_rfl) (by kernel_rfl) (by kernel_rfl) rfl (fun W hW => by obtain ⟨h0, h1, h2, h3, h4, h5, h6, h7, h8, h9, h10, h11⟩ := hW; go_simp) zH0 ?_
            simp only [Act.put, List.setIfInBounds_toArray, List.set_cons_zero, List.set_cons_succ]
            refine hr_take_w 7 (some 70) (.bool false) rfl rfl (by kernel_rfl) (by kernel_rfl) (by kernel_rfl) rfl (fun W hW => by obtain ⟨h0, h1, h2, h3, h4, h5, h6, h7, h8, h9, h10, h11⟩ := hW; go_simp) zH0 ?_
            simp only [Act.put, List.setIfInBounds_toArray, List.set_cons_zero, List.set_cons_succ]
            refine hr_take_w 8 (some 71) (.bool false) rfl rfl (by kernel_rfl) (by kernel_rfl) (by kernel_rfl) rfl (fun W hW => by obtain ⟨h0, h1, h2, h3, h4, h5, h6, h7, h8, h9, h10, h11⟩ := hW; go_simp) zH0 ?_
            simp only [Act.put, List.setIfInBounds_toArray, List.set_cons_zero, List.set_cons_succ]
            refine hr_take_w 9 (some 72) (.string t) rfl rfl (by kernel_rfl) (by kernel_rfl) (by kernel_rfl) rfl (fun W hW => by obtain ⟨h0, h1, h2, h3, h4, h5, h6, h7, h8, h9, h10, h11⟩ := hW; go_simp) zH0 ?_
            simp only [Act.put, List.setIfInBounds_toArray, List.set_cons_zero, List.set_cons_succ]
            refine hr_take_w 10 (some 73) (.bool tb) rfl rfl (by kernel_rfl) (by kernel_rfl) (by kernel_rfl) rfl (fun W hW => by obtain ⟨h0, h1, h2, h3, h4, h5, h6, h7, h8, h9, h10, h11⟩ := hW; go_simp) zH0 ?_
            simp only [Act.put, List.setIfInBounds_toArray, List.set_cons_zero, List.set_cons_succ]
            refine hr_take_w 11 (some 74) (.bool tb) rfl rfl (by kernel_rfl) (by kernel_rfl) (by kernel_rfl) rfl (fun W hW => by obtain ⟨h0, h1, h2, h3, h4, h5, h6, h7, h8, h9, h10, h11⟩ := hW; go_simp) zH0 ?_
            simp only [Act.put, List.setIfInBounds_toArray, List.set_cons_zero, List.set_cons_succ]
            refine hr_opt tb 12 (some 75) (.slice (some ⟨b, off, none⟩) n5 cap5) rfl rfl (by kernel_rfl) (by kernel_rfl) (by kernel_rfl) (by cases tb <;> rfl) (fun hb W hW => by subst hb; obtain ⟨h0, h1, h2, h3, h4, h5, h6, h7, h8, h9, h10, h11⟩ := hW; go_simp) zH0 ?_
            simp only [Act.put, List.setIfInBounds_toArray, List.set_cons_zero, List.set_cons_succ]
            refine hr_opt tb 13 (some 76) (.int .i64 ((jj + 1 : Nat) : Int)) rfl rfl (by kernel_rfl) (by kernel_rfl) (by kernel_rfl) (by cases tb <;> rfl) (fun hb W hW => by subst hb; obtain ⟨h0, h1, h2, h3, h4, h5, h6, h7, h8, h9, h10, h11⟩ := hW; go_simp) zH0 ?_
            simp only [Act.put, List.setIfInBounds_toArray, List.set_cons_zero, List.set_cons_succ]
            refine hr_opt tb 14 (some 77) (.pointer (some ⟨b, off + (jj + 1) * 6, none⟩)) rfl rfl (by kernel_rfl) (by kernel_rfl) (by kernel_rfl) (by cases tb <;> rfl) (fun hb W hW => by subst hb; obtain ⟨h0, h1, h2, h3, h4, h5, h6, h7, h8, h9, h10, h11⟩ := hW; go_simp) zH0 ?_
            simp only [Act.put, List.setIfInBounds_toArray, List.set_cons_zero, List.set_cons_succ]
            refine hr_opt tb 15 (some 78) (.pointer (some ⟨b, off + (jj + 1) * 6, none⟩)) rfl rfl (by kernel_rfl) (by kernel_rfl) (by kernel_rfl) (by cases tb <;> rfl) (fun hb W hW => by subst hb; obtain ⟨h0, h1, h2, h3, h4, h5, h6, h7, h8, h9, h10, h11⟩ := hW; go_simp) zH0 ?_
            simp only [Act.put, List.setIfInBounds_toArray, List.set_cons_zero, List.set_cons_succ]
            refine hr_opt tb 16 (some 79) (.pointer (some ⟨b, off + (jj + 1) * 6, none⟩)) rfl rfl (by kernel_rfl) (by kernel_rfl) (by kernel_rfl) (by cases tb <;> rfl) (fun hb W hW => by subst hb; obtain ⟨h0, h1, h2, h3, h4, h5, h6, h7, h8, h9, h10, h11⟩ := hW; go_simp) zH0 ?_
            simp only [Act.put, List.setIfInBounds_toArray, List.set_cons_zero, List.set_cons_succ]
            refine hr_opt tb 17 (some 80) (.string c.row) rfl rfl (by kernel_rfl) (by kernel_rfl) (by kernel_rfl) (by cases tb <;> rfl) (fun hb W hW => by subst hb; obtain ⟨h0, h1, h2, h3, h4, h5, h6, h7, h8, h9, h10, h11⟩ := hW; go_simp) zH0 ?_
            simp only [Act.put, List.setIfInBounds_toArray, List.set_cons_zero, List.set_cons_succ]
            refine hr_opt tb 18 (some 81) (.string t) rfl rfl (by kernel_rfl) (by kernel_rfl) (by kernel_rfl) (by cases tb <;> rfl) (fun hb W hW => by subst hb; obtain ⟨h0, h1, h2, h3, h4, h5, h6, h7, h8, h9, h10, h11⟩ := hW; go_simp) zH0 ?_
            simp only [Act.put, List.setIfInBounds_toArray, List.set_cons_zero, List.set_cons_succ]
            refine hr_opt tb 19 (some 82) (.bool false) rfl rfl (by kernel_rfl) (by kernel_rfl) (by kernel_rfl) (by cases tb <;> rfl) (fun hb W hW => by subst hb; obtain ⟨h0, h1, h2, h3, h4, h5, h6, h7, h8, h9, h10, h11⟩ := hW; have hl := hlt rfl; go_simp) zH0 ?_
            simp only [Act.put, List.setIfInBounds_toArray, List.set_cons_zero, List.set_cons_succ]
            refine hr_take_w 20 (some 83) (.bool false) rfl rfl (by kernel_rfl) (by kernel_rfl) (by kernel_rfl) rfl (fun W hW => by obtain ⟨h0, h1, h2, h3, h4, h5, h6, h7, h8, h9, h10, h11⟩ := hW; cases tb <;> go_simp) zH0 ?_
            simp only [Act.put, List.setIfInBounds_toArray, List.set_cons_zero, List.set_cons_succ]
            refine hr_take_w 21 (some 84) (.bool false) rfl rfl (by kernel_rfl) (by kernel_rfl) (by kernel_rfl) rfl (fun W hW => by obtain ⟨h0, h1, h2, h3, h4, h5, h6, h7, h8, h9, h10, h11⟩ := hW; go_simp) zH0 ?_
            simp only [Act.put, List.setIfInBounds_toArray, List.set_cons_zero, List.set_cons_succ]
            refine hr_take_w 22 (some 85) (.bool false) rfl rfl (by kernel_rfl) (by kernel_rfl) (by kernel_rfl) rfl (fun W hW => by obtain ⟨h0, h1, h2, h3, h4, h5, h6, h7, h8, h9, h10, h11⟩ := hW; go_simp) zH0 ?_
            simp only [Act.put, List.setIfInBounds_toArray, List.set_cons_zero, List.set_cons_succ]
            refine hr_take_w 23 (some 86) (.slice (some ⟨b, off, none⟩) n5 cap5) rfl rfl (by kernel_rfl) (by kernel_rfl) (by kernel_rfl) rfl (fun W hW => by obtain ⟨h0, h1, h2, h3, h4, h5, h6, h7, h8, h9, h10, h11⟩ := hW; go_simp) zH0 ?_
            simp only [Act.put, List.setIfInBounds_toArray, List.set_cons_zero, List.set_cons_succ]
            refine hr_take_w 24 (some 87) (.int .i64 ((jj + 1 : Nat) : Int)) rfl rfl (by kernel_rfl) (by kernel_rfl) (by kernel_rfl) rfl (fun W hW => by obtain ⟨h0, h1, h2, h3, h4, h5, h6, h7, h8, h9, h10, h11⟩ := hW; go_simp) zH0 ?_
            simp only [Act.put, List.setIfInBounds_toArray, List.set_cons_zero, List.set_cons_succ]
            refine hr_take_w 25 (some 88) (.pointer (some ⟨b, off + (jj + 1) * 6, none⟩)) rfl rfl (by kernel_rfl) (by kernel_rfl) (by kernel_rfl) rfl (fun W hW => by obtain ⟨h0, h1, h2, h3, h4, h5, h6, h7, h8, h9, h10, h11⟩ := hW; go_simp) zH0 ?_
            simp only [Act.put, List.setIfInBounds_toArray, List.set_cons_zero, List.set_cons_succ]
            refine hr_take_w 26 (some 89) (.pointer (some ⟨b, off + (jj + 1) * 6 + 5, none⟩)) rfl rfl (by kernel_rfl) (by kernel_rfl) (by kernel_rfl) rfl (fun W hW => by obtain ⟨h0, h1, h2, h3, h4, h5, h6, h7, h8, h9, h10, h11⟩ := hW; go_simp) zH0 ?_
            simp only [Act.put, List.setIfInBounds_toArray, List.set_cons_zero, List.set_cons_succ]
            refine hr_take_w 27 (some 90) (.bool gb) rfl rfl (by kernel_rfl) (by kernel_rfl) (by kernel_rfl) rfl (fun W hW => by obtain ⟨h0, h1, h2, h3, h4, h5, h6, h7, h8, h9, h10, h11⟩ := hW; go_simp) zH0 ?_
            simp only [Act.put, List.setIfInBounds_toArray, List.set_cons_zero, List.set_cons_succ]
            refine hr_take_w 28 (some 91) (.bool gb) rfl rfl (by kernel_rfl) (by kernel_rfl) (by kernel_rfl) rfl (fun W hW => by obtain ⟨h0, h1, h2, h3, h4, h5, h6, h7, h8, h9, h10, h11⟩ := hW; go_simp) zH0 ?_
            simp only [Act.put, List.setIfInBounds_toArray, List.set_cons_zero, List.set_cons_succ]
            refine hr_opt gb 29 (some 92) (.slice (some ⟨b, off, none⟩) n5 cap5) rfl rfl (by kernel_rfl) (by kernel_rfl) (by kernel_rfl) (by cases gb <;> rfl) (fun hb W hW => by subst hb; obtain ⟨h0, h1, h2, h3, h4, h5, h6, h7, h8, h9, h10, h11⟩ := hW; go_simp) zH0 ?_
            simp only [Act.put, List.setIfInBounds_toArray, List.set_cons_zero, List.set_cons_succ]
            refine hr_opt gb 30 (some 93) (.int .i64 ((jj + 1 : Nat) : Int)) rfl rfl (by kernel_rfl) (by kernel_rfl) (by kernel_rfl) (by cases gb <;> rfl) (fun hb W hW => by subst hb; obtain ⟨h0, h1, h2, h3, h4, h5, h6, h7, h8, h9, h10, h11⟩ := hW; go_simp) zH0 ?_
            simp only [Act.put, List.setIfInBounds_toArray, List.set_cons_zero, List.set_cons_succ]
            refine hr_opt gb 31 (some 94) (.pointer (some ⟨b, off + (jj + 1) * 6, none⟩)) rfl rfl (by kernel_rfl) (by kernel_rfl) (by kernel_rfl) (by cases gb <;> rfl) (fun hb W hW => by subst hb; obtain ⟨h0, h1, h2, h3, h4, h5, h6, h7, h8, h9, h10, h11⟩ := hW; go_simp) zH0 ?_
            simp only [Act.put, List.setIfInBounds_toArray, List.set_cons_zero, List.set_cons_succ]
            refine hr_opt gb 32 (some 95) (.pointer (some ⟨b, off + (jj + 1) * 6 + 4, none⟩)) rfl rfl (by kernel_rfl) (by kernel_rfl) (by kernel_rfl) (by cases gb <;> rfl) (fun hb W hW => by subst hb; obtain ⟨h0, h1, h2, h3, h4, h5, h6, h7, h8, h9, h10, h11⟩ := hW; go_simp) zH0 ?_
            simp only [Act.put, List.setIfInBounds_toArray, List.set_cons_zero, List.set_cons_succ]
            refine hr_opt gb 33 (some 96) (.slice c.va.ao c.va.n c.va.cap) rfl rfl (by kernel_rfl) (by kernel_rfl) (by kernel_rfl) (by cases gb <;> rfl) (fun hb W hW => by subst hb; obtain ⟨h0, h1, h2, h3, h4, h5, h6, h7, h8, h9, h10, h11⟩ := hW; go_simp) zH0 ?_
            simp only [Act.put, List.setIfInBounds_toArray, List.set_cons_zero, List.set_cons_succ]
            refine hr_opt gb 34 (some 97) (.int .i64 (c.va.n : Nat)) rfl rfl (by kernel_rfl) (by kernel_rfl) (by kernel_rfl) (by cases gb <;> rfl) (fun hb W hW => by subst hb; obtain ⟨h0, h1, h2, h3, h4, h5, h6, h7, h8, h9, h10, h11⟩ := hW; go_simp) zH0 ?_
            simp only [Act.put, List.setIfInBounds_toArray, List.set_cons_zero, List.set_cons_succ]
            refine hr_opt gb 35 (some 98) (.bool false) rfl rfl (by kernel_rfl) (by kernel_rfl) (by kernel_rfl) (by cases gb <;> rfl) (fun hb W hW => by subst hb; obtain ⟨h0, h1, h2, h3, h4, h5, h6, h7, h8, h9, h10, h11⟩ := hW; have hz := hg0 rfl; go_simp) zH0 ?_
            simp only [Act.put, List.setIfInBounds_toArray, List.set_cons_zero, List.set_cons_succ]
            refine hr_take_w 36 (some 99) (.bool false) rfl rfl (by kernel_rfl) (by kernel_rfl) (by kernel_rfl) rfl (fun W hW => by obtain ⟨h0, h1, h2, h3, h4, h5, h6, h7, h8, h9, h10, h11⟩ := hW; cases gb <;> go_simp) zH0 ?_
            simp only [Act.put, List.setIfInBounds_toArray, List.set_cons_zero, List.set_cons_succ]
            refine hr_take_w 37 (some 100) (.bool false) rfl rfl (by kernel_rfl) (by kernel_rfl) (by kernel_rfl) rfl (fun W hW => by obtain ⟨h0, h1, h2, h3, h4, h5, h6, h7, h8, h9, h10, h11⟩ := hW; go_simp) zH0 ?_
            simp only [Act.put, List.setIfInBounds_toArray, List.set_cons_zero, List.set_cons_succ]
            refine hr_take_w 38 (some 101) (.bool false) rfl rfl (by kernel_rfl) (by kernel_rfl) (by kernel_rfl) rfl (fun W hW => by obtain ⟨h0, h1, h2, h3, h4, h5, h6, h7, h8, h9, h10, h11⟩ := hW; go_simp) zH0 ?_
            simp only [Act.put, List.setIfInBounds_toArray, List.set_cons_zero, List.set_cons_succ]
            refine hr_take_w 39 (some 102) (.int .i64 ((jj + 1 : Nat) : Int)) rfl rfl (by kernel_rfl) (by kernel_rfl) (by kernel_rfl) rfl (fun W hW => by obtain ⟨h0, h1, h2, h3, h4, h5, h6, h7, h8, h9, h10, h11⟩ := hW; go_simp) zH0 ?_
            simp only [Act.put, List.setIfInBounds_toArray, List.set_cons_zero, List.set_cons_succ]
            refine hr_take_w 40 (some 103) (.bool true) rfl rfl (by kernel_rfl) (by kernel_rfl) (by kernel_rfl) rfl (fun W hW => by obtain ⟨h0, h1, h2, h3, h4, h5, h6, h7, h8, h9, h10, h11⟩ := hW; go_simp) zH0 ?_
            simp only [Act.put, List.setIfInBounds_toArray, List.set_cons_zero, List.set_cons_succ]
            refine hr_take_w 41 (some 104) (.bool true) rfl rfl (by kernel_rfl) (by kernel_rfl) (by kernel_rfl) rfl (fun W hW => by obtain ⟨h0, h1, h2, h3, h4, h5, h6, h7, h8, h9, h10, h11⟩ := hW; go_simp) zH0 ?_
            simp only [Act.put, List.setIfInBounds_toArray, List.set_cons_zero, List.set_cons_succ]
            refine hr_take_w 42 (some 105) (.slice (some ⟨b, off, none⟩) n5 cap5) rfl rfl (by kernel_rfl) (by kernel_rfl) (by kernel_rfl) rfl (fun W hW => by obtain ⟨h0, h1, h2, h3, h4, h5, h6, h7, h8, h9, h10, h11⟩ := hW; go_simp) zH0 ?_
            simp only [Act.put, List.setIfInBounds_toArray, List.set_cons_zero, List.set_cons_succ]
            refine hr_take_w 43 (some 106) (.int .i64 ((jj + 1 : Nat) : Int)) rfl rfl (by kernel_rfl) (by kernel_rfl) (by kernel_rfl) rfl (fun W hW => by obtain ⟨h0, h1, h2, h3, h4, h5, h6, h7, h8, h9, h10, h11⟩ := hW; go_simp) zH0 ?_
            simp only [Act.put, List.setIfInBounds_toArray, List.set_cons_zero, List.set_cons_succ]
            refine hr_take_w 44 (some 107) (.int .i64 (jj : Nat)) rfl rfl (by kernel_rfl) (by kernel_rfl) (by kernel_rfl) rfl (fun W hW => by obtain ⟨h0, h1, h2, h3, h4, h5, h6, h7, h8, h9, h10, h11⟩ := hW; go_simp) zH0 ?_
            simp only [Act.put, List.setIfInBounds_toArray, List.set_cons_zero, List.set_cons_succ]
            refine hr_take_w 45 (some 108) (.pointer (some ⟨b, off + jj * 6, none⟩)) rfl rfl (by kernel_rfl) (by kernel_rfl) (by kernel_rfl) rfl (fun W hW => by obtain ⟨h0, h1, h2, h3, h4, h5, h6, h7, h8, h9, h10, h11⟩ := hW; go_simp) zH0 ?_
            simp only [Act.put, List.setIfInBounds_toArray, List.set_cons_zero, List.set_cons_succ]
            refine hr_take_w 46 (some 109) (.pointer (some ⟨b, off + jj * 6, none⟩)) rfl rfl (by kernel_rfl) (by kernel_rfl) (by kernel_rfl) rfl (fun W hW => by obtain ⟨h0, h1, h2, h3, h4, h5, h6, h7, h8, h9, h10, h11⟩ := hW; go_simp) zH0 ?_
            simp only [Act.put, List.setIfInBounds_toArray, List.set_cons_zero, List.set_cons_succ]
            refine hr_take_w 47 (some 110) (.agg #[.string d.row, .string d.fam, .string d.qual, .int .u64 d.time]) rfl rfl (by kernel_rfl) (by kernel_rfl) (by kernel_rfl) rfl (fun W hW => by obtain ⟨h0, h1, h2, h3, h4, h5, h6, h7, h8, h9, h10, h11⟩ := hW; go_simp) zH0 ?_
            simp only [Act.put, List.setIfInBounds_toArray, List.set_cons_zero, List.set_cons_succ]
            refine hr_take_w 48 (some 111) (.slice (some ⟨b, off, none⟩) n5 cap5) rfl rfl (by kernel_rfl) (by kernel_rfl) (by kernel_rfl) rfl (fun W hW => by obtain ⟨h0, h1, h2, h3, h4, h5, h6, h7, h8, h9, h10, h11⟩ := hW; go_simp) zH0 ?_
            simp only [Act.put, List.setIfInBounds_toArray, List.set_cons_zero, List.set_cons_succ]
            refine hr_take_w 49 (some 112) (.int .i64 ((jj + 1 : Nat) : Int)) rfl rfl (by kernel_rfl) (by kernel_rfl) (by kernel_rfl) rfl (fun W hW => by obtain ⟨h0, h1, h2, h3, h4, h5, h6, h7, h8, h9, h10, h11⟩ := hW; go_simp) zH0 ?_
            simp only [Act.put, List.setIfInBounds_toArray, List.set_cons_zero, List.set_cons_succ]
            refine hr_take_w 50 (some 113) (.pointer (some ⟨b, off + (jj + 1) * 6, none⟩)) rfl rfl (by kernel_rfl) (by kernel_rfl) (by kernel_rfl) rfl (fun W hW => by obtain ⟨h0, h1, h2, h3, h4, h5, h6, h7, h8, h9, h10, h11⟩ := hW; go_simp) zH0 ?_
            simp only [Act.put, List.setIfInBounds_toArray, List.set_cons_zero, List.set_cons_succ]
            refine hr_take_w 51 (some 114) (.pointer (some ⟨b, off + (jj + 1) * 6, none⟩)) rfl rfl (by kernel_rfl) (by kernel_rfl) (by kernel_rfl) rfl (fun W hW => by obtain ⟨h0, h1, h2, h3, h4, h5, h6, h7, h8, h9, h10, h11⟩ := hW; go_simp) zH0 ?_
            simp only [Act.put, List.setIfInBounds_toArray, List.set_cons_zero, List.set_cons_succ]
            refine hr_take_w 52 (some 115) (.agg #[.string c.row, .string c.fam, .string c.qual, .int .u64 c.time]) rfl rfl (by kernel_rfl) (by kernel_rfl) (by kernel_rfl) rfl (fun W hW => by obtain ⟨h0, h1, h2, h3, h4, h5, h6, h7, h8, h9, h10, h11⟩ := hW; go_simp) zH0 ?_
            simp only [Act.put, List.setIfInBounds_toArray, List.set_cons_zero, List.set_cons_succ]
            refine hr_call_w 53 (some 116) 33 #[.agg #[.string d.row, .string d.fam, .string d.qual, .int .u64 d.time], .agg #[.string c.row, .string c.fam, .string c.qual, .int .u64 c.time]] rfl rfl (by kernel_rfl) rfl (by go_simp) (fun v w' => v = .int .i64 ck ∧ Below zv0.heap.size zv0 w') ((HCM.out zv0).mono (by
              rintro e w' ⟨rfl, C⟩
              exact ⟨_, rfl, rfl, C⟩)) ?_
            rintro v zv1 ⟨rfl, zC0⟩
            have zE1 := zE0.trans (zC0.mono zE0.size)
            have zH1 := zHS.out zv1 zE1
            refine ⟨zH1, ?_⟩
            simp only [Act.put, List.setIfInBounds_toArray, List.set_cons_zero, List.set_cons_succ]
            refine hr_take_w 54 (some 117) (.bool false) rfl rfl (by kernel_rfl) (by kernel_rfl) (by kernel_rfl) rfl (fun W hW => by obtain ⟨h0, h1, h2, h3, h4, h5, h6, h7, h8, h9, h10, h11⟩ := hW; go_simp) zH1 ?_
            simp only [Act.put, List.setIfInBounds_toArray, List.set_cons_zero, List.set_cons_succ]
            refine hr_take_w 55 (some 118) (.bool false) rfl rfl (by kernel_rfl) (by kernel_rfl) (by kernel_rfl) rfl (fun W hW => by obtain ⟨h0, h1, h2, h3, h4, h5, h6, h7, h8, h9, h10, h11⟩ := hW; go_simp) zH1 ?_
            simp only [Act.put, List.setIfInBounds_toArray, List.set_cons_zero, List.set_cons_succ]
            refine hr_take_w 56 (some 119) (.bool false) rfl rfl (by kernel_rfl) (by kernel_rfl) (by kernel_rfl) rfl (fun W hW => by obtain ⟨h0, h1, h2, h3, h4, h5, h6, h7, h8, h9, h10, h11⟩ := hW; go_simp) zH1 ?_
            simp only [Act.put, List.setIfInBounds_toArray, List.set_cons_zero, List.set_cons_succ]
            refine wpAnyH_done (by kernel_rfl) ?_ _
            refine NoPanic.normal ?_
            have zB : Below wr.heap.size wr zv1 := zE1
            clear zHS zH0 zH1
            go_wp2
            have x0 := (zB.cell (World.block_lt_of_cell? _ _ x0)).trans x0
            have x1 := (zB.cell (World.block_lt_of_cell? _ _ x1)).trans x1
            have x2 := (zB.cell (World.block_lt_of_cell? _ _ x2)).trans x2
            have x3 := (zB.cell (World.block_lt_of_cell? _ _ x3)).trans x3
            have x4 := (zB.cell (World.block_lt_of_cell? _ _ x4)).trans x4
            have x5 := (zB.cell (World.block_lt_of_cell? _ _ x5)).trans x5
            have y0 := (zB.cell (World.block_lt_of_cell? _ _ y0)).trans y0
            have y1 := (zB.cell (World.block_lt_of_cell? _ _ y1)).trans y1
            have y2 := (zB.cell (World.block_lt_of_cell? _ _ y2)).trans y2
            have y3 := (zB.cell (World.block_lt_of_cell? _ _ y3)).trans y3
            have y4 := (zB.cell (World.block_lt_of_cell? _ _ y4)).trans y4
            have y5 := (zB.cell (World.block_lt_of_cell? _ _ y5)).trans y5
            have yHS : Hid (∀ V, Below zv1.heap.size zv1 V → V.cell? ⟨b, off + (jj + 1) * 6, none⟩ = some (.string c.row) ∧ V.cell? ⟨b, off + (jj + 1) * 6 + 1, none⟩ = some (.string c.fam) ∧ V.cell? ⟨b, off + (jj + 1) * 6 + 2, none⟩ = some (.string c.qual) ∧ V.cell? ⟨b, off + (jj + 1) * 6 + 3, none⟩ = some (.int .u64 c.time) ∧ V.cell? ⟨b, off + (jj + 1) * 6 + 4, none⟩ = some (.slice c.va.ao c.va.n c.va.cap) ∧ V.cell? ⟨b, off + (jj + 1) * 6 + 5, none⟩ = some (.bool gb) ∧ V.cell? ⟨b, off + jj * 6, none⟩ = some (.string d.row) ∧ V.cell? ⟨b, off + jj * 6 + 1, none⟩ = some (.string d.fam) ∧ V.cell? ⟨b, off + jj * 6 + 2, none⟩ = some (.string d.qual) ∧ V.cell? ⟨b, off + jj * 6 + 3, none⟩ = some (.int .u64 d.time) ∧ V.cell? ⟨b, off + jj * 6 + 4, none⟩ = some (.slice d.va.ao d.va.n d.va.cap) ∧ V.cell? ⟨b, off + jj * 6 + 5, none⟩ = some (.bool d.gone)) := fun V hV => ⟨(hV.cell (World.block_lt_of_cell? _ _ x0)).trans x0, (hV.cell (World.block_lt_of_cell? _ _ x1)).trans x1, (hV.cell (World.block_lt_of_cell? _ _ x2)).trans x2, (hV.cell (World.block_lt_of_cell? _ _ x3)).trans x3, (hV.cell (World.block_lt_of_cell? _ _ x4)).trans x4, (hV.cell (World.block_lt_of_cell? _ _ x5)).trans x5, (hV.cell (World.block_lt_of_cell? _ _ y0)).trans y0, (hV.cell (World.block_lt_of_cell? _ _ y1)).trans y1, (hV.cell (World.block_lt_of_cell? _ _ y2)).trans y2, (hV.cell (World.block_lt_of_cell? _ _ y3)).trans y3, (hV.cell (World.block_lt_of_cell? _ _ y4)).trans y4, (hV.cell (World.block_lt_of_cell? _ _ y5)).trans y5⟩
            have yE0 : Below zv1.heap.size zv1 zv1.drew := (Below.refl _ _).drew
            refine wp_region_noPanic ?_
            refine wp_region_held_drew (S := fun V => V.cell? ⟨b, off + (jj + 1) * 6, none⟩ = some (.string c.row) ∧ V.cell? ⟨b, off + (jj + 1) * 6 + 1, none⟩ = some (.string c.fam) ∧ V.cell? ⟨b, off + (jj + 1) * 6 + 2, none⟩ = some (.string c.qual) ∧ V.cell? ⟨b, off + (jj + 1) * 6 + 3, none⟩ = some (.int .u64 c.time) ∧ V.cell? ⟨b, off + (jj + 1) * 6 + 4, none⟩ = some (.slice c.va.ao c.va.n c.va.cap) ∧ V.cell? ⟨b, off + (jj + 1) * 6 + 5, none⟩ = some (.bool gb) ∧ V.cell? ⟨b, off + jj * 6, none⟩ = some (.string d.row) ∧ V.cell? ⟨b, off + jj * 6 + 1, none⟩ = some (.string d.fam) ∧ V.cell? ⟨b, off + jj * 6 + 2, none⟩ = some (.string d.qual) ∧ V.cell? ⟨b, off + jj * 6 + 3, none⟩ = some (.int .u64 d.time) ∧ V.cell? ⟨b, off + jj * 6 + 4, none⟩ = some (.slice d.va.ao d.va.n d.va.cap) ∧ V.cell? ⟨b, off + jj * 6 + 5, none⟩ = some (.bool d.gone)) (by kernel_rfl) (yHS.out _ yE0) (fun yH0 => ?_)
            obtain ⟨yv0, hv0⟩ : ∃ v, v = zv1.drew := ⟨_, rfl⟩
            rw [← hv0] at yH0 yE0 ⊢
            clear hv0
            refine hr_take_w 0 (some 122) (.int .i64 ((jj + 1 : Nat) : Int)) rfl rfl (by kernel_rfl) (by kernel_rfl) (by kernel_rfl) rfl (fun W hW => by obtain ⟨h0, h1, h2, h3, h4, h5, h6, h7, h8, h9, h10, h11⟩ := hW; go_simp) yH0 ?_
            simp only [Act.put, List.setIfInBounds_toArray, List.set_cons_zero, List.set_cons_succ]
            refine hr_take_w 1 (some 123) (.bool true) rfl rfl (by kernel_rfl) (by kernel_rfl) (by kernel_rfl) rfl (fun W hW => by obtain ⟨h0, h1, h2, h3, h4, h5, h6, h7, h8, h9, h10, h11⟩ := hW; go_simp) yH0 ?_
            simp only [Act.put, List.setIfInBounds_toArray, List.set_cons_zero, List.set_cons_succ]
            refine hr_take_w 2 (some 124) (.bool true) rfl rfl (by kernel_rfl) (by kernel_rfl) (by kernel_rfl) rfl (fun W hW => by obtain ⟨h0, h1, h2, h3, h4, h5, h6, h7, h8, h9, h10, h11⟩ := hW; go_simp) yH0 ?_
            simp only [Act.put, List.setIfInBounds_toArray, List.set_cons_zero, List.set_cons_succ]
            refine hr_take_w 3 (some 125) (.slice (some ⟨b, off, none⟩) n5 cap5) rfl rfl (by kernel_rfl) (by kernel_rfl) (by kernel_rfl) rfl (fun W hW => by obtain ⟨h0, h1, h2, h3, h4, h5, h6, h7, h8, h9, h10, h11⟩ := hW; go_simp) yH0 ?_
            simp only [Act.put, List.setIfInBounds_toArray, List.set_cons_zero, List.set_cons_succ]
            refine hr_take_w 4 (some 126) (.int .i64 ((jj + 1 : Nat) : Int)) rfl rfl (by kernel_rfl) (by kernel_rfl) (by kernel_rfl) rfl (fun W hW => by obtain ⟨h0, h1, h2, h3, h4, h5, h6, h7, h8, h9, h10, h11⟩ := hW; go_simp) yH0 ?_
            simp only [Act.put, List.setIfInBounds_toArray, List.set_cons_zero, List.set_cons_succ]
            refine hr_take_w 5 (some 127) (.int .i64 (jj : Nat)) rfl rfl (by kernel_rfl) (by kernel_rfl) (by kernel_rfl) rfl (fun W hW => by obtain ⟨h0, h1, h2, h3, h4, h5, h6, h7, h8, h9, h10, h11⟩ := hW; go_simp) yH0 ?_
            simp only [Act.put, List.setIfInBounds_toArray, List.set_cons_zero, List.set_cons_succ]
            refine hr_take_w 6 (some 128) (.pointer (some ⟨b, off + jj * 6, none⟩)) rfl rfl (by kernel_rfl) (by kernel_rfl) (by kernel_rfl) rfl (fun W hW => by obtain ⟨h0, h1, h2, h3, h4, h5, h6, h7, h8, h9, h10, h11⟩ := hW; go_simp) yH0 ?_
            simp only [Act.put, List.setIfInBounds_toArray, List.set_cons_zero, List.set_cons_succ]
            refine hr_take_w 7 (some 129) (.pointer (some ⟨b, off + jj * 6, none⟩)) rfl rfl (by kernel_rfl) (by kernel_rfl) (by kernel_rfl) rfl (fun W hW => by obtain ⟨h0, h1, h2, h3, h4, h5, h6, h7, h8, h9, h10, h11⟩ := hW; go_simp) yH0 ?_
            simp only [Act.put, List.setIfInBounds_toArray, List.set_cons_zero, List.set_cons_succ]
            refine hr_take_w 8 (some 130) (.agg #[.string d.row, .string d.fam, .string d.qual, .int .u64 d.time]) rfl rfl (by kernel_rfl) (by kernel_rfl) (by kernel_rfl) rfl (fun W hW => by obtain ⟨h0, h1, h2, h3, h4, h5, h6, h7, h8, h9, h10, h11⟩ := hW; go_simp) yH0 ?_
            simp only [Act.put, List.setIfInBounds_toArray, List.set_cons_zero, List.set_cons_succ]
            refine hr_take_w 9 (some 131) (.slice (some ⟨b, off, none⟩) n5 cap5) rfl rfl (by kernel_rfl) (by kernel_rfl) (by kernel_rfl) rfl (fun W hW => by obtain ⟨h0, h1, h2, h3, h4, h5, h6, h7, h8, h9, h10, h11⟩ := hW; go_simp) yH0 ?_
            simp only [Act.put, List.setIfInBounds_toArray, List.set_cons_zero, List.set_cons_succ]
            refine hr_take_w 10 (some 132) (.int .i64 ((jj + 1 : Nat) : Int)) rfl rfl (by kernel_rfl) (by kernel_rfl) (by kernel_rfl) rfl (fun W hW => by obtain ⟨h0, h1, h2, h3, h4, h5, h6, h7, h8, h9, h10, h11⟩ := hW; go_simp) yH0 ?_
            simp only [Act.put, List.setIfInBounds_toArray, List.set_cons_zero, List.set_cons_succ]
            refine hr_take_w 11 (some 133) (.pointer (some ⟨b, off + (jj + 1) * 6, none⟩)) rfl rfl (by kernel_rfl) (by kernel_rfl) (by kernel_rfl) rfl (fun W hW => by obtain ⟨h0, h1, h2, h3, h4, h5, h6, h7, h8, h9, h10, h11⟩ := hW; go_simp) yH0 ?_
            simp only [Act.put, List.setIfInBounds_toArray, List.set_cons_zero, List.set_cons_succ]
            refine hr_take_w 12 (some 134) (.pointer (some ⟨b, off + (jj + 1) * 6, none⟩)) rfl rfl (by kernel_rfl) (by kernel_rfl) (by kernel_rfl) rfl (fun W hW => by obtain ⟨h0, h1, h2, h3, h4, h5, h6, h7, h8, h9, h10, h11⟩ := hW; go_simp) yH0 ?_
            simp only [Act.put, List.setIfInBounds_toArray, List.set_cons_zero, List.set_cons_succ]
            refine hr_take_w 13 (some 135) (.agg #[.string c.row, .string c.fam, .string c.qual, .int .u64 c.time]) rfl rfl (by kernel_rfl) (by kernel_rfl) (by kernel_rfl) rfl (fun W hW => by obtain ⟨h0, h1, h2, h3, h4, h5, h6, h7, h8, h9, h10, h11⟩ := hW; go_simp) yH0 ?_
            simp only [Act.put, List.setIfInBounds_toArray, List.set_cons_zero, List.set_cons_succ]
            refine hr_call_w 14 (some 136) 34 #[.agg #[.string d.row, .string d.fam, .string d.qual, .int .u64 d.time], .agg #[.string c.row, .string c.fam, .string c.qual, .int .u64 c.time]] rfl rfl (by kernel_rfl) rfl (by go_simp) (fun v w' => v = .bool cb ∧ Below yv0.heap.size yv0 w') ((HCC.out yv0).mono (by
              rintro e w' ⟨rfl, C⟩
              exact ⟨_, rfl, rfl, C⟩)) ?_
            rintro v yv1 ⟨rfl, yC0⟩
            have yE1 := yE0.trans (yC0.mono yE0.size)
            have yH1 := yHS.out yv1 yE1
            refine ⟨yH1, ?_⟩
            simp only [Act.put, List.setIfInBounds_toArray, List.set_cons_zero, List.set_cons_succ]
            refine hr_take_w 15 (some 137) (.bool (!cb)) rfl rfl (by kernel_rfl) (by kernel_rfl) (by kernel_rfl) rfl (fun W hW => by obtain ⟨h0, h1, h2, h3, h4, h5, h6, h7, h8, h9, h10, h11⟩ := hW; go_simp) yH1 ?_
            simp only [Act.put, List.setIfInBounds_toArray, List.set_cons_zero, List.set_cons_succ]
            refine hr_take_w 16 (some 138) (.bool (!cb)) rfl rfl (by kernel_rfl) (by kernel_rfl) (by kernel_rfl) rfl (fun W hW => by obtain ⟨h0, h1, h2, h3, h4, h5, h6, h7, h8, h9, h10, h11⟩ := hW; go_simp) yH1 ?_
            simp only [Act.put, List.setIfInBounds_toArray, List.set_cons_zero, List.set_cons_succ]
            refine wpAnyH_done (by kernel_rfl) ?_ _
            refine NoPanic.normal ?_
            have yB : Below wr.heap.size wr yv1 := zB.trans (yE1.mono zB.size)
            clear yHS yH0 yH1 x0 x1 x2 x3 x4 x5 y0 y1 y2 y3 y4 y5
            rw [HWN.out]
            cases cb with
            | true =>
              have HN2 : Hid (nn + 1 ≤ rbN cs (jj + 1 + 1)) := HNT.out rfl
              have n4 : ¬ (4 : Int) < (nn : Int) + 1 := by have := HR4.out (jj + 1 + 1); have := HN2.out; omega
              go_wp2
              go_roundw
              case rel => exact ⟨jj + 1 + 1, nn + 1, by omega, by go_num, by go_num, HN2, B5.trans (yB.mono B5.size)⟩
              case measure => simp [intOf]; omega
            | false =>
              have HN2 : Hid (1 ≤ rbN cs (jj + 1 + 1)) := HNF.out
              go_wp2
              go_roundw
              case rel => exact ⟨jj + 1 + 1, 1, by omega, by go_num, by go_num, HN2, B5.trans (yB.mono B5.size)⟩
              case measure => simp [intOf]; omega
        · have hge5 : ¬ (j : Int) < (n5 : Int) := by omega
          have Xe := X5.below B5
          have Be := B5w.trans (B5.mono B5w.size)
          have Le := L5.below B5
          have HCL : Hid (cl.map CA.c = cs) := HM5
          have CO := of_any10 wr f t ao n5 cap5 cl (HTb.out.below Be t2) (by omega) (by omega) Le (by omega)
          rw [HCL.out] at CO
          clear X5 L5
          go_wp2_with fail
          refine CO.mono ?_
          have hof : ofK f t cs = 0 := by unfold ofK; rw [if_pos HK0.out]; exact judge_own HS.out HL.out
          rintro e w7 (⟨-, p2, hp2, rfl, Y7, C7⟩ | ⟨hne, -⟩)
          case inr => exact absurd hof hne
          rw [layAll_srt cs [] HS.out.srt, List.nil_append] at Y7
          have B7 := Be.trans (C7.mono Be.size)
          have X7 := Xe.below C7
          have i32 : (n5 : Int) ≤ 32 := by omega
          clear CO hof Le Xe
          have CR := troot_any w7 p2 f t cs (HTb.out.below B7 t2) Y7 HS.out.good (by have := HS.out.len; omega) hf32 ht32
          go_wp2_with fail
          refine CR.mono ?_
          rintro e w8 ⟨ro, rp, rfl, S8, C8⟩
          have B8 := B7.trans (C8.mono B7.size)
          have X8 := X7.below C8
          clear CR
          have CR := troot_any w8 W.heap.size f t cs (HTb.out.below B8 t2) X8 HS.out.good (by have := HS.out.len; omega) hf32 ht32
          go_wp2_with fail
          refine CR.mono ?_
          rintro e w9 ⟨ro2, rp2, rfl, S9, C9⟩
          have B9 := B8.trans (C9.mono B8.size)
          have X9 := X8.below C9
          have CS := same_true w9 ro ro2 32 rp 32 rp2 _ (S8.below C9) S9
          clear CR
          go_wp2_with fail
          refine CS.mono ?_
          rintro e w10 ⟨rfl, C10⟩
          have B10 := B9.trans (C10.mono B9.size)
          obtain ⟨u, A10, T10⟩ := X9.below C10
          have CT := ttree_any w10 W.heap.size f t u A10
          clear CS
          go_wp2_with fail
          refine CT.mono ?_
          rintro e w11 ⟨rfl, hw⟩
          obtain rfl := hw.symm
          clear CT
          have CN2 := len_any w10 (.pointer u) (cs.map itm) T10 HS.out.srt (by rw [List.length_map]; have := HS.out.len; omega)
          rw [List.length_map, ← HN5.out] at CN2
          go_wp2_with fail
          refine CN2.mono ?_
          rintro e w12 ⟨rfl, C12⟩
          have B12 := B10.trans (C12.mono B10.size)
          have hee : ((n5 : Int) == (n5 : Int)) = true := by simp
          clear CN2
          have AV := HAL.out w12 B12
          go_wp2_with fail
          refine AV.mono ?_
          rintro e wz ⟨rfl, Cz⟩
          go_wp2
          go_ret
          exact ⟨rfl, (B12.trans (Cz.mono B12.size))⟩

end Go.Proofs.YthlpccajnmkbjaaGreatDoor

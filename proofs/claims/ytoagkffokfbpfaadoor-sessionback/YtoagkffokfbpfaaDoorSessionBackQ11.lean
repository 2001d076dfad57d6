/-
  Texts in one: BackLaw12.
-/
import Derived.Test.YtoagkffokfbpfaaDoorSessionBackQFL
import Derived.Test.YtoagkffokfbpfaaDoorSessionBackQ7
import Derived.Test.YtoagkffokfbpfaaDoorSessionBackQ9
import Derived.Test.YtoagkffokfbpfaaDoorSessionBackQ10
import Derived.Test.YtoagkffokfbpfaaDoorSessionBackQ6
namespace Go.Proofs.YtoagkffokfbpfaaDoor
open Go.RowKit
theorem en_small {l : List EN} {ys : List LA} {w : World} {ao : Option Addr} {n cap : Nat} (h : LL12 w ao n cap ys) (e : ys.map LA.en = l) (ok : ∀ e ∈ l, e.ok) : ∀ y ∈ ys, y.n ≤ 1000 := fun y hy => by
  have h1 := (ok y.en (by rw [← e]; exact List.mem_map.2 ⟨y, hy, rfl⟩)).right
  have h2 := (h.ok y hy).cs.len
  unfold rightR at h1
  have h3 := of_decide_eq_true (Bool.and_eq_true_iff.1 h1).1
  have h4 : (y.cs.map CA.c).length ≤ 16 := h3.2.2
  rw [List.length_map] at h4
  omega
theorem bytT_len {l : List EN} (ok : ∀ e ∈ l, e.ok) (n8 : l.length ≤ 8) : (bytT l).length ≤ 700000 := by
  have h1 := bytL_len ok
  have h2 := enc_length (n := l.length) (by omega)
  unfold bytT
  rw [List.length_append]
  omega
set_option maxRecDepth 100000 in
set_option maxHeartbeats 16000000 in
theorem sessionBack_any (w : World) (ao : Option Addr) (n cap : Nat) (ns : List Nat) (h : NL w ao n cap ns) (bo : Option Addr) (m cap2 : Nat) (ls : List LA) (L : LL12 w bo m cap2 ls) (sm : ∀ y ∈ ls, y.small) (xo : Option Addr) (xn xc : Nat) (xs : List Int) (X : Sl w xo xn xc xs) (hT : Tabs w) :
    Calls Tryd.prog 4 #[.slice ao n cap, .slice bo m cap2, .slice xo xn xc] w fun e w' => e = .returned (.bool true) ∧ Below w.heap.size w w' := by
  have t2 := hT.two
  have hl := h.len
  have hmx := h.mx
  have hle := h.le
  have hnx : (n : Int) ≤ 9223372036854775807 := by unfold maxLen at hmx; omega
  have hxm := X.mx
  have hxl := X.le
  have hxx : (xn : Int) ≤ 9223372036854775807 := by unfold maxLen at hxm; omega
  have lm := L.len
  go_enter Tryd.func4, Tryd.ntmps4
  go_wp2_with fail
  by_cases hj : jdg ns = 0
  · have hn8 : n ≤ 8 := by
      unfold jdg at hj
      by_cases q : 1 ≤ ns.length ∧ ns.length ≤ 8 ∧ riseF 0 ns = true
      · omega
      · rw [if_neg q] at hj
        cases hj
    have hni : (n : Int) ≤ 100 := by omega
    have CN := cNew_good w ao n cap ns h hj
    refine CN.mono ?_
    rintro x w1 ⟨p, g, rfl, T1, hp, hg, C1⟩
    have CC := llight_any w1 bo m cap2 ls (L.below C1) sm
    clear CN h
    go_wp2_with fail
    refine CC.mono ?_
    rintro x w2 ⟨rfl, C2⟩
    have T2 := T1.below C2
    have B2 := C1.trans (C2.mono C1.size)
    clear CC C1 C2 T1
    cases hlt : lightL ls with
    | false =>
      clear hlt
      have CA := alive12 w2
      go_wp2_with fail
      refine CA.mono ?_
      rintro x w5 ⟨rfl, C5⟩
      have B5 := B2.trans (C5.mono B2.size)
      clear CA
      go_wp2
      go_ret
      exact ⟨rfl, B5⟩
    | true =>
      have hm40 : m ≤ 40 := by
        unfold lightL at hlt
        have := of_decide_eq_true (Bool.and_eq_true_iff.1 hlt).1
        omega
      have hmi : (m : Int) ≤ 40 := by omega
      clear hlt sm
      by_cases hx2 : 20000 < xn
      · have i1 : (20000 : Int) < (xn : Int) := by omega
        clear hx2
        have CA := alive12 w2
        go_wp2_with fail
        refine CA.mono ?_
        rintro x w5 ⟨rfl, C5⟩
        have B5 := B2.trans (C5.mono B2.size)
        clear CA
        go_wp2
        go_ret
        exact ⟨rfl, B5⟩
      have i1 : (xn : Int) ≤ 20000 := by omega
      have HC0 : Hid ((newT ns).map EN.cl = ns) := by
        show _ = _
        unfold newT
        rw [List.map_map]
        exact List.map_id _
      have HZ0 : Hid (NZ (newT ns)) := newT_nz ns
      have HJ : Hid (jdg ns = 0) := hj
      clear hj
      go_wp2_with fail
      go_loopw [9] (fun i wr => ∃ (k : Nat) (l : List EN), k ≤ m ∧ i = .int .i64 k ∧ TS wr p g l ∧ Hid (l.map EN.cl = ns) ∧ Hid (NZ l) ∧ Below w.heap.size w wr) (fun i _ => m - (intOf i).toNat)
      case atStart => exact ⟨0, _, Nat.zero_le _, rfl, T2, HC0, HZ0, B2⟩
      case round =>
        clear T2 B2 HC0 HZ0
        obtain ⟨k, l, hk, rfl, T, HCL, HNZ, B⟩ := hrel
        by_cases hkm : k < m
        · have hki : (k : Int) < (m : Int) := by omega
          have hkl : k < ls.length := by omega
          obtain ⟨b, off, rfl, hc⟩ := L.at (by omega)
          have XX := hc k hkl
          have hok := L.ok _ (List.getElem_mem hkl)
          obtain ⟨y, hy⟩ : ∃ y, y = ls[k] := ⟨_, rfl⟩
          rw [← hy] at XX hok
          clear hy hc
          have HS : Hid (∀ V, Below w.heap.size w V → V.cell? ⟨b, off + k * 5, none⟩ = some (.int .u64 y.cl) ∧ V.cell? ⟨b, off + k * 5 + 1, none⟩ = some (.int .u64 y.st) ∧ V.cell? ⟨b, off + k * 5 + 2, none⟩ = some (.int .i64 y.e) ∧ V.cell? ⟨b, off + k * 5 + 3, none⟩ = some (.slice y.ao y.n y.cap) ∧ V.cell? ⟨b, off + k * 5 + 4, none⟩ = some (.bool y.m)) := fun V hV => ⟨(XX.below hV).c0, (XX.below hV).c1, (XX.below hV).c2, (XX.below hV).c3, (XX.below hV).c4⟩
          go_wp2_with fail
          have zE0 : Below w.heap.size w wr.drew := B.trans ((Below.refl _ _).drew)
          refine wp_region_noPanic ?_
          refine wp_region_held_drew (S := fun V => V.cell? ⟨b, off + k * 5, none⟩ = some (.int .u64 y.cl) ∧ V.cell? ⟨b, off + k * 5 + 1, none⟩ = some (.int .u64 y.st) ∧ V.cell? ⟨b, off + k * 5 + 2, none⟩ = some (.int .i64 y.e) ∧ V.cell? ⟨b, off + k * 5 + 3, none⟩ = some (.slice y.ao y.n y.cap) ∧ V.cell? ⟨b, off + k * 5 + 4, none⟩ = some (.bool y.m)) (by kernel_rfl) (HS.out _ zE0) (fun zH0 => ?_)
          have T := T.below (Below.refl _ _).drew
          obtain ⟨zv0, hv0⟩ : ∃ v, v = wr.drew := ⟨_, rfl⟩
          rw [← hv0] at zH0 zE0 T ⊢
          clear hv0
          refine hr_take_w 0 (some 47) (.pointer (some ⟨p, 0, none⟩)) rfl rfl (by kernel_rfl) (by kernel_rfl) (by kernel_rfl) rfl (fun W hW => by obtain ⟨h0, h1, h2, h3, h4⟩ := hW; go_simp) zH0 ?_
          simp only [FL]
          refine hr_take_w 1 (some 48) (.slice (some ⟨b, off, none⟩) m cap2) rfl rfl (by kernel_rfl) (by kernel_rfl) (by kernel_rfl) rfl (fun W hW => by obtain ⟨h0, h1, h2, h3, h4⟩ := hW; go_simp) zH0 ?_
          simp only [FL]
          refine hr_take_w 2 (some 49) (.int .i64 (k : Nat)) rfl rfl (by kernel_rfl) (by kernel_rfl) (by kernel_rfl) rfl (fun W hW => by obtain ⟨h0, h1, h2, h3, h4⟩ := hW; go_simp) zH0 ?_
          simp only [FL]
          refine hr_take_w 3 (some 50) (.pointer (some ⟨b, off + k * 5, none⟩)) rfl rfl (by kernel_rfl) (by kernel_rfl) (by kernel_rfl) rfl (fun W hW => by obtain ⟨h0, h1, h2, h3, h4⟩ := hW; go_simp) zH0 ?_
          simp only [FL]
          refine hr_take_w 4 (some 51) (.pointer (some ⟨b, off + k * 5, none⟩)) rfl rfl (by kernel_rfl) (by kernel_rfl) (by kernel_rfl) rfl (fun W hW => by obtain ⟨h0, h1, h2, h3, h4⟩ := hW; go_simp) zH0 ?_
          simp only [FL]
          refine hr_take_w 5 (some 52) (.int .u64 y.cl) rfl rfl (by kernel_rfl) (by kernel_rfl) (by kernel_rfl) rfl (fun W hW => by obtain ⟨h0, h1, h2, h3, h4⟩ := hW; go_simp) zH0 ?_
          simp only [FL]
          refine hr_take_w 6 (some 53) (.slice (some ⟨b, off, none⟩) m cap2) rfl rfl (by kernel_rfl) (by kernel_rfl) (by kernel_rfl) rfl (fun W hW => by obtain ⟨h0, h1, h2, h3, h4⟩ := hW; go_simp) zH0 ?_
          simp only [FL]
          refine hr_take_w 7 (some 54) (.int .i64 (k : Nat)) rfl rfl (by kernel_rfl) (by kernel_rfl) (by kernel_rfl) rfl (fun W hW => by obtain ⟨h0, h1, h2, h3, h4⟩ := hW; go_simp) zH0 ?_
          simp only [FL]
          refine hr_take_w 8 (some 55) (.pointer (some ⟨b, off + k * 5, none⟩)) rfl rfl (by kernel_rfl) (by kernel_rfl) (by kernel_rfl) rfl (fun W hW => by obtain ⟨h0, h1, h2, h3, h4⟩ := hW; go_simp) zH0 ?_
          simp only [FL]
          refine hr_take_w 9 (some 56) (.pointer (some ⟨b, off + k * 5 + 1, none⟩)) rfl rfl (by kernel_rfl) (by kernel_rfl) (by kernel_rfl) rfl (fun W hW => by obtain ⟨h0, h1, h2, h3, h4⟩ := hW; go_simp) zH0 ?_
          simp only [FL]
          refine hr_take_w 10 (some 57) (.int .u64 y.st) rfl rfl (by kernel_rfl) (by kernel_rfl) (by kernel_rfl) rfl (fun W hW => by obtain ⟨h0, h1, h2, h3, h4⟩ := hW; go_simp) zH0 ?_
          simp only [FL]
          refine hr_take_w 11 (some 58) (.slice (some ⟨b, off, none⟩) m cap2) rfl rfl (by kernel_rfl) (by kernel_rfl) (by kernel_rfl) rfl (fun W hW => by obtain ⟨h0, h1, h2, h3, h4⟩ := hW; go_simp) zH0 ?_
          simp only [FL]
          refine hr_take_w 12 (some 59) (.int .i64 (k : Nat)) rfl rfl (by kernel_rfl) (by kernel_rfl) (by kernel_rfl) rfl (fun W hW => by obtain ⟨h0, h1, h2, h3, h4⟩ := hW; go_simp) zH0 ?_
          simp only [FL]
          refine hr_take_w 13 (some 60) (.pointer (some ⟨b, off + k * 5, none⟩)) rfl rfl (by kernel_rfl) (by kernel_rfl) (by kernel_rfl) rfl (fun W hW => by obtain ⟨h0, h1, h2, h3, h4⟩ := hW; go_simp) zH0 ?_
          simp only [FL]
          refine hr_take_w 14 (some 61) (.pointer (some ⟨b, off + k * 5 + 2, none⟩)) rfl rfl (by kernel_rfl) (by kernel_rfl) (by kernel_rfl) rfl (fun W hW => by obtain ⟨h0, h1, h2, h3, h4⟩ := hW; go_simp) zH0 ?_
          simp only [FL]
          refine hr_take_w 15 (some 62) (.agg #[.int .i64 y.e, .slice y.ao y.n y.cap, .bool y.m]) rfl rfl (by kernel_rfl) (by kernel_rfl) (by kernel_rfl) rfl (fun W hW => by obtain ⟨h0, h1, h2, h3, h4⟩ := hW; go_simp) zH0 ?_
          simp only [FL]
          refine hr_call_w 16 (some 63) 13 #[.pointer (some ⟨p, 0, none⟩), .int .u64 y.cl, .int .u64 y.st, .agg #[.int .i64 y.e, .slice y.ao y.n y.cap, .bool y.m]] rfl rfl (by kernel_rfl) rfl (by go_simp) (fun v w' => v = .int .i64 (putE l y.cl y.st (resR y.e y.cs y.m)).2 ∧ TS w' p g (putE l y.cl y.st (resR y.e y.cs y.m)).1 ∧ zv0.grownBy w' (some g)) ((cPut_any zv0 p g y.cl y.st l T hok.cl hok.st y.e y.ao y.n y.cap y.cs y.m (hok.cs.below zE0)).mono (by
            rintro e w' ⟨rfl, F, C⟩
            exact ⟨_, rfl, rfl, F, C⟩)) ?_
          rintro v zv1 ⟨rfl, zF0, zG0⟩
          have zE1 := zE0.grown zG0 zE0.size (fun _ e => by cases e; exact hg)
          refine ⟨HS.out zv1 zE1, ?_⟩
          simp only [FL]
          refine wpAnyH_done (by kernel_rfl) ?_ _
          refine NoPanic.normal ?_
          have HCL2 : Hid ((putE l y.cl y.st (resR y.e y.cs y.m)).1.map EN.cl = ns) := by show _ = _; rw [putE_cl]; exact HCL.out
          have HNZ2 : Hid (NZ (putE l y.cl y.st (resR y.e y.cs y.m)).1) := putE_nz HNZ.out _ _ _
          clear HS zH0 zE0 zG0 T B
          go_wp2
          go_roundw
          case rel => exact ⟨k + 1, _, by omega, by go_num, zF0, HCL2, HNZ2, zE1⟩
          case measure => simp [intOf]; omega
        · have hge : (m : Int) ≤ (k : Int) := by omega
          have n8 := T.n8
          have HOK : Hid (∀ e ∈ l, e.ok) := T.ok
          have HRP : Hid (dR (bytT l) = 0 ∧ (repR (bytT l)).1 = l.map EN.raw) := rd_put T.ok HNZ.out (by rw [HCL.out]; exact HJ.out) T.n8
          have hbl := bytT_len T.ok T.n8
          have X := X.below B
          have TB := hT.below B t2
          have tt : 2 ≤ wr.heap.size := Nat.le_trans t2 B.size
          clear hT t2 L HCL HNZ HJ
          have CB := cBytes_any wr p g l T
          go_wp2_with fail
          refine CB.mono ?_
          rintro x v1 ⟨ao1, n1, c1, rfl, S1, C1⟩
          have T := T.below C1
          have X := X.below C1
          have TB := TB.below C1 tt
          have tt : 2 ≤ v1.heap.size := Nat.le_trans tt C1.size
          have B := B.trans (C1.mono B.size)
          have hn1 := S1.len
          clear CB C1
          have CR := cRead_any v1 ao1 n1 c1 (bytT l) S1 (by omega)
          go_wp2_with fail
          refine CR.mono ?_
          rintro x v2 ⟨hcs, C2⟩
          rcases hcs with ⟨hd, -⟩ | ⟨-, p2, g2, l2, rfl, U, hr, -, hp2, hg2⟩
          · exact absurd HRP.out.1 hd
          have hll : l = l2 := (raw_inj U.ok HOK.out (hr.trans HRP.out.2)).symm
          subst hll
          have T := T.below C2
          have X := X.below C2
          have TB := TB.below C2 tt
          have tt : 2 ≤ v2.heap.size := Nat.le_trans tt C2.size
          have B := B.trans (C2.mono B.size)
          clear CR C2 S1 hr HRP hbl
          have CL := cAll_any v2 p2 g2 l U
          go_wp2_with fail
          refine CL.mono ?_
          rintro x v2a ⟨ao1, n1, ca1, ya1, rfl, LA1, ea1, C1, -⟩
          have B := B.trans (C1.mono B.size)
          have TB := TB.below C1 tt
          have tt := Nat.le_trans tt C1.size
          have n1001 : n1 ≤ 100 := by
            have h1 := LA1.len
            have h2 := congrArg List.length ea1
            rw [List.length_map] at h2
            omega
          have U := U.below C1
          have T := T.below C1
          have X := X.below C1
          have CB := lback_any v2a ao1 n1 ca1 ya1 LA1 n1001 0 (Nat.zero_le _) (fun _ _ => Nat.zero_le _)
          rw [ea1] at CB
          clear CL C1 LA1 n1001 ea1
          go_wp2_with fail
          refine CB.mono ?_
          rintro x v2b ⟨bo1, m1, cb1, yb1, rfl, LB1, eb1, D1, -⟩
          have hm1 : m1 = l.length := by
            have h1 := LB1.len
            have h2 := congrArg List.length eb1
            rw [List.length_map] at h2
            omega
          subst hm1
          have B := B.trans (D1.mono B.size)
          have TB := TB.below D1 tt
          have tt := Nat.le_trans tt D1.size
          have U := U.below D1
          have T := T.below D1
          have X := X.below D1
          clear CB D1
          have CL := cAll_any v2b p g l T
          go_wp2_with fail
          refine CL.mono ?_
          rintro x v2ba ⟨ao2, n2, ca2, ya2, rfl, LA2, ea2, C2, -⟩
          have B := B.trans (C2.mono B.size)
          have TB := TB.below C2 tt
          have tt := Nat.le_trans tt C2.size
          have n1002 : n2 ≤ 100 := by
            have h1 := LA2.len
            have h2 := congrArg List.length ea2
            rw [List.length_map] at h2
            omega
          have U := U.below C2
          have T := T.below C2
          have X := X.below C2
          have LB1 := LB1.below C2
          have CB := lback_any v2ba ao2 n2 ca2 ya2 LA2 n1002 0 (Nat.zero_le _) (fun _ _ => Nat.zero_le _)
          rw [ea2] at CB
          clear CL C2 LA2 n1002 ea2
          go_wp2_with fail
          refine CB.mono ?_
          rintro x v2bb ⟨bo2, m2, cb2, yb2, rfl, LB2, eb2, D2, -⟩
          have hm2 : m2 = l.length := by
            have h1 := LB2.len
            have h2 := congrArg List.length eb2
            rw [List.length_map] at h2
            omega
          subst hm2
          have B := B.trans (D2.mono B.size)
          have TB := TB.below D2 tt
          have tt := Nat.le_trans tt D2.size
          have U := U.below D2
          have T := T.below D2
          have X := X.below D2
          have LB1 := LB1.below D2
          clear CB D2
          have CS := rsame12 v2bb bo1 bo2 l.length cb1 cb2 yb1 yb2 LB1 LB2 (eb1.trans eb2.symm) (by omega) (en_small LB1 eb1 U.ok)
          go_wp2_with fail
          refine CS.mono ?_
          rintro x v4 ⟨rfl, C4⟩
          have T := T.below C4
          have U := U.below C4
          have X := X.below C4
          have TB := TB.below C4 tt
          have tt : 2 ≤ v4.heap.size := Nat.le_trans tt C4.size
          have B := B.trans (C4.mono B.size)
          clear CS C4 LB1 LB2 eb1 eb2
          have CB := cSum_any v4 p2 g2 l U TB
          go_wp2_with fail
          refine CB.mono ?_
          rintro x v5 ⟨a5, m5, c5, rfl, S5, C5⟩
          have T := T.below C5
          have X := X.below C5
          have TB := TB.below C5 tt
          have tt : 2 ≤ v5.heap.size := Nat.le_trans tt C5.size
          have B := B.trans (C5.mono B.size)
          clear CB C5 U
          have CB := cSum_any v5 p g l T TB
          go_wp2_with fail
          refine CB.mono ?_
          rintro x v6 ⟨a6, m6, c6, rfl, S6, C6⟩
          have S5 := S5.below C6
          have X := X.below C6
          have B := B.trans (C6.mono B.size)
          clear CB C6 T TB tt
          have CS := same_any v6 a5 a6 m5 c5 m6 c6 _ _ S5 S6
          rw [decide_eq_true rfl] at CS
          go_wp2_with fail
          refine CS.mono ?_
          rintro x v7 ⟨rfl, q, hq⟩
          have C7 : Below v6.heap.size v6 v7 := by rw [hq]; exact belN (Below.refl _ _) q
          have X := X.below C7
          have B := B.trans (C7.mono B.size)
          clear CS hq S5 S6 C7
          have CR := cRead_any v7 xo xn xc xs X (by omega)
          go_wp2_with fail
          refine CR.mono ?_
          rintro x v8 ⟨hcs, C8⟩
          have X := X.below C8
          have B := B.trans (C8.mono B.size)
          clear CR C8
          rcases hcs with ⟨hd, rfl⟩ | ⟨-, p3, g3, l3, rfl, U, -, hbx, -, -⟩
          · generalize dR xs = d at hd ⊢
            have e0 : (d == 0) = false := by simp [hd]
            have e1 : (d != 0) = true := by simp [hd]
            clear hd
            have CA := alive12 v8
            go_wp2_with fail
            refine CA.mono ?_
            rintro x w5 ⟨rfl, C5⟩
            have B5 := B.trans (C5.mono B.size)
            clear CA
            go_wp2
            go_ret
            exact ⟨rfl, B5⟩
          · have CB := cBytes_any v8 p3 g3 l3 U
            rw [hbx] at CB
            clear hbx
            go_wp2_with fail
            refine CB.mono ?_
            rintro x v9 ⟨a9, m9, c9, rfl, S9, C9⟩
            have X := X.below C9
            have B := B.trans (C9.mono B.size)
            clear CB C9 U
            have CS := same_any v9 a9 xo m9 c9 xn xc _ _ S9 X
            rw [decide_eq_true rfl] at CS
            go_wp2_with fail
            refine CS.mono ?_
            rintro x v10 ⟨rfl, q, hq⟩
            have B : Below w.heap.size w v10 := by rw [hq]; exact belN B q
            clear CS hq S9 X
            have CA := alive12 v10
            go_wp2_with fail
            refine CA.mono ?_
            rintro x w5 ⟨rfl, C5⟩
            have B5 := B.trans (C5.mono B.size)
            clear CA
            go_wp2
            go_ret
            exact ⟨rfl, B5⟩
  · have hj1 : jdg ns = 1 := by
      unfold jdg at hj ⊢
      by_cases q : 1 ≤ ns.length ∧ ns.length ≤ 8 ∧ riseF 0 ns = true
      · rw [if_pos q] at hj; exact absurd rfl hj
      · rw [if_neg q]
    clear hj
    have CN := cNew_bad w ao n cap ns h hj1
    refine CN.mono ?_
    rintro x w1 ⟨rfl, hw⟩
    obtain rfl := hw.symm
    clear hw CN h
    have B : Below w.heap.size w w := Below.refl _ _
    by_cases hb : 100 < n
    · have i1 : (100 : Int) < (n : Int) := by omega
      clear hb
      have CA := alive12 w
      go_wp2_with fail
      refine CA.mono ?_
      rintro x w5 ⟨rfl, C5⟩
      have B5 := B.trans (C5.mono B.size)
      clear CA
      go_wp2
      go_ret
      exact ⟨rfl, B5⟩
    · have i1 : (n : Int) ≤ 100 := by omega
      clear hb
      have CC := llight_any w bo m cap2 ls L sm
      go_wp2_with fail
      refine CC.mono ?_
      rintro x w4 ⟨rfl, B4⟩
      clear CC
      cases hlt : lightL ls with
      | false =>
        clear hlt
        have CA := alive12 w4
        go_wp2_with fail
        refine CA.mono ?_
        rintro x w5 ⟨rfl, C5⟩
        have B5 := B4.trans (C5.mono B4.size)
        clear CA
        go_wp2
        go_ret
        exact ⟨rfl, B5⟩
      | true =>
        clear hlt
        by_cases hx2 : 20000 < xn
        · have i2 : (20000 : Int) < (xn : Int) := by omega
          clear hx2
          have CA := alive12 w4
          go_wp2_with fail
          refine CA.mono ?_
          rintro x w5 ⟨rfl, C5⟩
          have B5 := B4.trans (C5.mono B4.size)
          clear CA
          go_wp2
          go_ret
          exact ⟨rfl, B5⟩
        · have i2 : (xn : Int) ≤ 20000 := by omega
          clear hx2
          have CA := alive12 w4
          go_wp2_with fail
          refine CA.mono ?_
          rintro x w5 ⟨rfl, C5⟩
          have B5 := B4.trans (C5.mono B4.size)
          clear CA
          go_wp2
          go_ret
          exact ⟨rfl, B5⟩
end Go.Proofs.YtoagkffokfbpfaaDoor

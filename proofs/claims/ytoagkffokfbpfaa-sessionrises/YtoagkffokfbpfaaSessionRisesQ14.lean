/-
  Texts in one: RisesLaw12.
-/
import Derived.Test.YtoagkffokfbpfaaSessionRisesQFL
import Derived.Test.YtoagkffokfbpfaaSessionRisesQ9
import Derived.Test.YtoagkffokfbpfaaSessionRisesQ11
import Derived.Test.YtoagkffokfbpfaaSessionRisesQ13
namespace Go.Proofs.Ytoagkffokfbpfaa
open Go.RowKit
theorem en_small {l : List EN} {ys : List LA} {w : World} {ao : Option Addr} {n cap : Nat} (h : LL12 w ao n cap ys) (e : ys.map LA.en = l) (ok : ∀ e ∈ l, e.ok) : ∀ y ∈ ys, y.n ≤ 1000 := fun y hy => by
  have h1 := (ok y.en (by rw [← e]; exact List.mem_map.2 ⟨y, hy, rfl⟩)).right
  have h2 := (h.ok y hy).cs.len
  unfold rightR at h1
  have h3 := of_decide_eq_true (Bool.and_eq_true_iff.1 h1).1
  have h4 : (y.cs.map CA.c).length ≤ 16 := h3.2.2
  rw [List.length_map] at h4
  omega
theorem en_at {l : List EN} {ys : List LA} (e : ys.map LA.en = l) (j : Nat) (h1 : j < ys.length) (h2 : j < l.length) : (ys[j]).en = l[j] := by
  subst e
  simp
set_option maxRecDepth 100000 in
set_option maxHeartbeats 16000000 in
theorem sessionRises_any (w : World) (ao : Option Addr) (n cap : Nat) (ns : List Nat) (h : NL w ao n cap ns) (bo : Option Addr) (m cap2 : Nat) (ls : List LA) (L : LL12 w bo m cap2 ls) (sm : ∀ y ∈ ls, y.small) :
    Calls Try.prog 4 #[.slice ao n cap, .slice bo m cap2] w fun e w' => e = .returned (.bool true) ∧ Below w.heap.size w w' := by
  have hl := h.len
  have hmx := h.mx
  have hle := h.le
  have hnx : (n : Int) ≤ 9223372036854775807 := by unfold maxLen at hmx; omega
  have lm := L.len
  go_enter Try.func4, Try.ntmps4
  go_wp2_with fail
  by_cases hj : jdg ns = 0
  · have hn8 : n ≤ 8 := by
      unfold jdg at hj
      by_cases q : 1 ≤ ns.length ∧ ns.length ≤ 8 ∧ riseF 0 ns = true
      · omega
      · rw [if_neg q] at hj
        cases hj
    have hni : (n : Int) ≤ 100 := by omega
    have CN := cNew_good w ao n cap ns h hj
    refine CN.mono ?_
    rintro x w1 ⟨p, g, rfl, T1, hp, hg, C1⟩
    have CC := llight_any w1 bo m cap2 ls (L.below C1) sm
    clear CN h
    go_wp2_with fail
    refine CC.mono ?_
    rintro x w2 ⟨rfl, C2⟩
    have T2 := T1.below C2
    have B2 := C1.trans (C2.mono C1.size)
    clear CC C1 C2 T1
    cases hlt : lightL ls with
    | false =>
      clear hlt
      have CA := alive12 w2
      go_wp2_with fail
      refine CA.mono ?_
      rintro x w5 ⟨rfl, C5⟩
      have B5 := B2.trans (C5.mono B2.size)
      clear CA
      go_wp2
      go_ret
      exact ⟨rfl, B5⟩
    | true =>
      have hm40 : m ≤ 40 := by
        unfold lightL at hlt
        have := of_decide_eq_true (Bool.and_eq_true_iff.1 hlt).1
        omega
      have hmi : (m : Int) ≤ 40 := by omega
      clear hlt sm
      go_wp2_with fail
      go_loopw [7] (fun i wr => ∃ (k : Nat) (l : List EN), k ≤ m ∧ i = .int .i64 k ∧ TS wr p g l ∧ Below w.heap.size w wr) (fun i _ => m - (intOf i).toNat)
      case atStart => exact ⟨0, _, Nat.zero_le _, rfl, T2, B2⟩
      case round =>
        clear T2 B2
        obtain ⟨k, l, hk, rfl, T, B⟩ := hrel
        by_cases hkm : k < m
        · have hki : (k : Int) < (m : Int) := by omega
          have hkl : k < ls.length := by omega
          obtain ⟨b, off, rfl, hc⟩ := L.at (by omega)
          obtain ⟨q0, q1, q2, q3, q4⟩ := (hc k hkl).below B
          have hok := L.ok _ (List.getElem_mem hkl)
          obtain ⟨y, hy⟩ : ∃ y, y = ls[k] := ⟨_, rfl⟩
          rw [← hy] at q0 q1 q2 q3 q4 hok
          clear hy hc
          have n8 := T.n8
          have CQ : Below wr.heap.size wr (wr.alloc (.cells #[.int .u64 y.cl, .int .u64 y.st, .int .i64 y.e, .slice y.ao y.n y.cap, .bool y.m] 44)) := (Below.refl _ _).alloc (Nat.le_refl _) _
          have KQ : (wr.alloc (.cells #[.int .u64 y.cl, .int .u64 y.st, .int .i64 y.e, .slice y.ao y.n y.cap, .bool y.m] 44)).heap[wr.heap.size]? = some (.cells #[.int .u64 y.cl, .int .u64 y.st, .int .i64 y.e, .slice y.ao y.n y.cap, .bool y.m] 44) := heap_alloc_new _ _
          have hgQ : g < wr.heap.size := T.glt
          have T := T.below CQ
          have B := B.trans (CQ.mono B.size)
          have CC := cClone_any _ p g l T
          go_wp2_with fail
          obtain ⟨v2, hv2⟩ : ∃ W, W = wr.alloc (.cells #[.int .u64 y.cl, .int .u64 y.st, .int .i64 y.e, .slice y.ao y.n y.cap, .bool y.m] 44) := ⟨_, rfl⟩
          obtain ⟨Q, hQ⟩ : ∃ Q, Q = wr.heap.size := ⟨_, rfl⟩
          rw [← hv2] at KQ T B CC ⊢
          rw [← hQ] at KQ hgQ ⊢
          clear hv2 hQ CQ q0 q1 q2 q3 q4
          refine CC.mono ?_
          rintro x v3 ⟨p2, g2, rfl, T2, hp2, hg2, C3⟩
          have hgv := T.glt
          have KQ : v3.heap[Q]? = some (.cells #[.int .u64 y.cl, .int .u64 y.st, .int .i64 y.e, .slice y.ao y.n y.cap, .bool y.m] 44) := (C3.block Q (Array.getElem?_eq_some_iff.1 KQ).1).trans KQ
          have T := T.below C3
          have B := B.trans (C3.mono B.size)
          have hs3 := C3.size
          have n82 := T2.n8
          clear CC C3
          have CL := cAll_any v3 p g l T
          go_wp2_with fail
          refine CL.mono ?_
          rintro x v3a ⟨ao1, n1, ca1, ya1, rfl, LA1, ea1, C1, fa1⟩
          have KQ : v3a.heap[Q]? = some (.cells #[.int .u64 y.cl, .int .u64 y.st, .int .i64 y.e, .slice y.ao y.n y.cap, .bool y.m] 44) := (C1.block Q (Array.getElem?_eq_some_iff.1 KQ).1).trans KQ
          have B := B.trans (C1.mono B.size)
          have n1001 : n1 ≤ 100 := by
            have h1 := LA1.len
            have h2 := congrArg List.length ea1
            rw [List.length_map] at h2
            omega
          have T := T.below C1
          have T2 := T2.below C1
          have CB := lback_any v3a ao1 n1 ca1 ya1 LA1 n1001 v3.heap.size C1.size fa1
          rw [ea1] at CB
          have hs1 := C1.size
          clear CL C1 fa1 LA1 n1001 ea1
          go_wp2_with fail
          refine CB.mono ?_
          rintro x v5 ⟨bo1, m1, cb1, yb1, rfl, LB1, eb1, D1, fb1⟩
          have hm1 : m1 = l.length := by
            have h1 := LB1.len
            have h2 := congrArg List.length eb1
            rw [List.length_map] at h2
            omega
          subst hm1
          have KQ : v5.heap[Q]? = some (.cells #[.int .u64 y.cl, .int .u64 y.st, .int .i64 y.e, .slice y.ao y.n y.cap, .bool y.m] 44) := (D1.block Q (Array.getElem?_eq_some_iff.1 KQ).1).trans KQ
          have B := B.trans (D1.mono B.size)
          have T := T.below D1
          have T2 := T2.below D1
          have hr1 := D1.size
          clear CB D1

          have r0 := cell_of_row v5 Q 0 _ _ _ KQ
          have r1 := cell_of_row v5 Q 1 _ _ _ KQ
          have r2 := cell_of_row v5 Q 2 _ _ _ KQ
          have r3 := cell_of_row v5 Q 3 _ _ _ KQ
          have r4 := cell_of_row v5 Q 4 _ _ _ KQ
          have CP := cPut_any v5 p g y.cl y.st l T hok.cl hok.st y.e y.ao y.n y.cap y.cs y.m (hok.cs.below B)
          have PK := putE_K l y.cl y.st (resR y.e y.cs y.m)
          have HOK : Hid (∀ e ∈ l, e.ok) := T.ok
          obtain ⟨l', hl'⟩ : ∃ l', l' = (putE l y.cl y.st (resR y.e y.cs y.m)).1 := ⟨_, rfl⟩
          obtain ⟨kd, hkd⟩ : ∃ kd, kd = (putE l y.cl y.st (resR y.e y.cs y.m)).2 := ⟨_, rfl⟩
          rw [← hl', ← hkd] at PK CP
          clear hl' hkd T
          unfold resV at CP
          go_wp2_with fail
          refine CP.mono ?_
          rintro x v6 ⟨rfl, T, G6⟩
          clear CP r0 r1 r2 r3 r4
          have B := B.grown G6 B.size (fun _ e => by cases e; exact hg)
          have LB1 := LB1.grown G6 (fun z hz => by have := fb1 z hz; omega)
          have T2 := T2.grown G6 (by omega) (by omega)
          have KQ : v6.heap[Q]? = some (.cells #[.int .u64 y.cl, .int .u64 y.st, .int .i64 y.e, .slice y.ao y.n y.cap, .bool y.m] 44) := (G6.block Q (Array.getElem?_eq_some_iff.1 KQ).1 (by simp; omega)).trans KQ
          clear G6
          have hlen := PK.len
          have CL := cAll_any v6 p g l' T
          go_wp2_with fail
          refine CL.mono ?_
          rintro x v6a ⟨ao2, n2, ca2, ya2, rfl, LA2, ea2, C2, fa2⟩
          have KQ : v6a.heap[Q]? = some (.cells #[.int .u64 y.cl, .int .u64 y.st, .int .i64 y.e, .slice y.ao y.n y.cap, .bool y.m] 44) := (C2.block Q (Array.getElem?_eq_some_iff.1 KQ).1).trans KQ
          have B := B.trans (C2.mono B.size)
          have n1002 : n2 ≤ 100 := by
            have h1 := LA2.len
            have h2 := congrArg List.length ea2
            rw [List.length_map] at h2
            omega
          have T := T.below C2
          have T2 := T2.below C2
          have LB1 := LB1.below C2
          have CB := lback_any v6a ao2 n2 ca2 ya2 LA2 n1002 v6.heap.size C2.size fa2
          rw [ea2] at CB
          have hs2 := C2.size
          clear CL C2 fa2 LA2 n1002 ea2
          go_wp2_with fail
          refine CB.mono ?_
          rintro x v8 ⟨bo2, m2, cb2, yb2, rfl, LB2, eb2, D2, fb2⟩
          have hm2 : m2 = l.length := by
            have h1 := LB2.len
            have h2 := congrArg List.length eb2
            rw [List.length_map] at h2
            omega
          subst hm2
          have KQ : v8.heap[Q]? = some (.cells #[.int .u64 y.cl, .int .u64 y.st, .int .i64 y.e, .slice y.ao y.n y.cap, .bool y.m] 44) := (D2.block Q (Array.getElem?_eq_some_iff.1 KQ).1).trans KQ
          have B := B.trans (D2.mono B.size)
          have T := T.below D2
          have T2 := T2.below D2
          have LB1 := LB1.below D2
          have hr2 := D2.size
          clear CB D2

          have CL := cAll_any v8 p2 g2 l T2
          go_wp2_with fail
          refine CL.mono ?_
          rintro x v8a ⟨ao3, n3, ca3, ya3, rfl, LA3, ea3, C3, fa3⟩
          have KQ : v8a.heap[Q]? = some (.cells #[.int .u64 y.cl, .int .u64 y.st, .int .i64 y.e, .slice y.ao y.n y.cap, .bool y.m] 44) := (C3.block Q (Array.getElem?_eq_some_iff.1 KQ).1).trans KQ
          have B := B.trans (C3.mono B.size)
          have n1003 : n3 ≤ 100 := by
            have h1 := LA3.len
            have h2 := congrArg List.length ea3
            rw [List.length_map] at h2
            omega
          have T := T.below C3
          have LB1 := LB1.below C3
          have LB2 := LB2.below C3
          have CB := lback_any v8a ao3 n3 ca3 ya3 LA3 n1003 v8.heap.size C3.size fa3
          rw [ea3] at CB
          have hs3 := C3.size
          clear CL C3 fa3 LA3 n1003 ea3
          go_wp2_with fail
          refine CB.mono ?_
          rintro x v9 ⟨bo3, m3, cb3, yb3, rfl, LB3, eb3, D3, fb3⟩
          have hm3 : m3 = l.length := by
            have h1 := LB3.len
            have h2 := congrArg List.length eb3
            rw [List.length_map] at h2
            omega
          subst hm3
          have KQ : v9.heap[Q]? = some (.cells #[.int .u64 y.cl, .int .u64 y.st, .int .i64 y.e, .slice y.ao y.n y.cap, .bool y.m] 44) := (D3.block Q (Array.getElem?_eq_some_iff.1 KQ).1).trans KQ
          have B := B.trans (D3.mono B.size)
          have T := T.below D3
          have LB1 := LB1.below D3
          have LB2 := LB2.below D3
          have hr3 := D3.size
          clear CB D3

          have CS := rsame12 v9 bo3 bo1 l.length cb3 cb1 yb3 yb1 LB3 LB1 (eb3.trans eb1.symm) (by omega) (en_small LB3 eb3 HOK.out)
          go_wp2_with fail
          refine CS.mono ?_
          rintro x v10 ⟨rfl, C10⟩
          have KQ : v10.heap[Q]? = some (.cells #[.int .u64 y.cl, .int .u64 y.st, .int .i64 y.e, .slice y.ao y.n y.cap, .bool y.m] 44) := (C10.block Q (Array.getElem?_eq_some_iff.1 KQ).1).trans KQ
          have T := T.below C10
          have LB1 := LB1.below C10
          have LB2 := LB2.below C10
          have B := B.trans (C10.mono B.size)
          have n8i : (l.length : Int) ≤ 8 := by omega
          have e0 : ((l.length : Int) == (l.length : Int)) = true := by simp
          have HE1 : Hid (yb1.map LA.en = l) := eb1
          have HE2 : Hid (yb2.map LA.en = l') := eb2
          clear CS C10 LB3 eb1 eb2 eb3
          go_wp2_with fail
          go_loopw [13] (fun i wq => ∃ j : Nat, j ≤ l.length ∧ i = .int .i64 j ∧ Below v10.heap.size v10 wq) (fun i _ => l.length - (intOf i).toNat)
          case atStart => exact ⟨0, Nat.zero_le _, rfl, Below.refl _ _⟩
          case round =>
            obtain ⟨j, hj, rfl, Bq⟩ := hrel
            obtain ⟨wq, hwq⟩ : ∃ W, W = wr := ⟨_, rfl⟩
            rw [← hwq] at Bq ⊢
            clear hwq
            have ZQ : wq.heap[Q]? = some (.cells #[.int .u64 y.cl, .int .u64 y.st, .int .i64 y.e, .slice y.ao y.n y.cap, .bool y.m] 44) := (Bq.block Q (Array.getElem?_eq_some_iff.1 KQ).1).trans KQ
            by_cases hjl : j < l.length
            · have hji : (j : Int) < (l.length : Int) := by omega
              have j1 : j < yb1.length := by rw [LB1.len]; exact hjl
              have j2 : j < yb2.length := by rw [LB2.len]; exact hjl
              obtain ⟨b1, o1, rfl, h1⟩ := LB1.at (by omega)
              obtain ⟨b2, o2, rfl, h2⟩ := LB2.at (by omega)
              have Z1 := (h1 j j1).below Bq
              have Z2 := (h2 j j2).below Bq
              have hj' : j < l'.length := by omega
              have a1 := en_at HE1.out j j1 hjl
              have a2 := en_at HE2.out j j2 hj'
              have d1 : yb1[j].st = l[j].st := congrArg EN.st a1
              have d2 : yb2[j].st = l'[j].st := congrArg EN.st a2
              have d3 : yb2[j].cl = l'[j].cl := congrArg EN.cl a2
              have g1 := PK.ge j hjl hj'
              have g2 := PK.st j hjl hj'
              obtain ⟨x1, hx1⟩ : ∃ x, x = yb1[j] := ⟨_, rfl⟩
              obtain ⟨x2, hx2⟩ : ∃ x, x = yb2[j] := ⟨_, rfl⟩
              rw [← hx1] at Z1 d1
              rw [← hx2] at Z2 d2 d3
              rw [← d1, ← d2] at g1
              rw [← d1, ← d2, ← d3] at g2
              clear hx1 hx2 h1 h2 a1 a2 d1 d2 d3
              have HI1 : Hid (x1.st ≤ x2.st) := g1
              by_cases hcl : x2.cl = y.cl
              · have HI2 : Hid ((x2.cl : Int) = (y.cl : Int)) := show (x2.cl : Int) = (y.cl : Int) by omega
                clear g1 g2 hcl
                go_wp2_with fail
                have zHS : Hid (∀ V, Below wq.heap.size wq V → V.cell? ⟨b2, o2 + j * 5, none⟩ = some (.int .u64 x2.cl) ∧ V.cell? ⟨b2, o2 + j * 5 + 1, none⟩ = some (.int .u64 x2.st) ∧ V.cell? ⟨b1, o1 + j * 5 + 1, none⟩ = some (.int .u64 x1.st) ∧ V.cell? ⟨Q, 0, none⟩ = some (.int .u64 y.cl)) := fun V hV => ⟨(Z2.below hV).c0, (Z2.below hV).c1, (Z1.below hV).c1, cell_of_row V Q 0 _ _ _ ((hV.block Q (Array.getElem?_eq_some_iff.1 ZQ).1).trans ZQ)⟩
                have zE0 : Below wq.heap.size wq wq.drew := (Below.refl _ _).drew
                refine wp_region_noPanic ?_
                refine wp_region_held_drew (S := fun V => V.cell? ⟨b2, o2 + j * 5, none⟩ = some (.int .u64 x2.cl) ∧ V.cell? ⟨b2, o2 + j * 5 + 1, none⟩ = some (.int .u64 x2.st) ∧ V.cell? ⟨b1, o1 + j * 5 + 1, none⟩ = some (.int .u64 x1.st) ∧ V.cell? ⟨Q, 0, none⟩ = some (.int .u64 y.cl)) (by kernel_rfl) (zHS.out _ zE0) (fun zH0 => ?_)
                obtain ⟨zv0, hv0⟩ : ∃ v, v = wq.drew := ⟨_, rfl⟩
                rw [← hv0] at zH0 zE0 ⊢
                clear hv0
                refine hr_take_w 0 (some 83) (.slice (some ⟨b2, o2, none⟩) l.length cb2) rfl rfl (by kernel_rfl) (by kernel_rfl) (by kernel_rfl) rfl (fun W hW => by obtain ⟨h0, h1, h2, h3⟩ := hW; go_simp) zH0 ?_
                simp only [FL]
                refine hr_take_w 1 (some 84) (.int .i64 (j : Nat)) rfl rfl (by kernel_rfl) (by kernel_rfl) (by kernel_rfl) rfl (fun W hW => by obtain ⟨h0, h1, h2, h3⟩ := hW; go_simp) zH0 ?_
                simp only [FL]
                refine hr_take_w 2 (some 85) (.pointer (some ⟨b2, o2 + j * 5, none⟩)) rfl rfl (by kernel_rfl) (by kernel_rfl) (by kernel_rfl) rfl (fun W hW => by obtain ⟨h0, h1, h2, h3⟩ := hW; go_simp) zH0 ?_
                simp only [FL]
                refine hr_take_w 3 (some 86) (.pointer (some ⟨b2, o2 + j * 5 + 1, none⟩)) rfl rfl (by kernel_rfl) (by kernel_rfl) (by kernel_rfl) rfl (fun W hW => by obtain ⟨h0, h1, h2, h3⟩ := hW; go_simp) zH0 ?_
                simp only [FL]
                refine hr_take_w 4 (some 87) (.int .u64 x2.st) rfl rfl (by kernel_rfl) (by kernel_rfl) (by kernel_rfl) rfl (fun W hW => by obtain ⟨h0, h1, h2, h3⟩ := hW; go_simp) zH0 ?_
                simp only [FL]
                refine hr_take_w 5 (some 88) (.slice (some ⟨b1, o1, none⟩) l.length cb1) rfl rfl (by kernel_rfl) (by kernel_rfl) (by kernel_rfl) rfl (fun W hW => by obtain ⟨h0, h1, h2, h3⟩ := hW; go_simp) zH0 ?_
                simp only [FL]
                refine hr_take_w 6 (some 89) (.int .i64 (j : Nat)) rfl rfl (by kernel_rfl) (by kernel_rfl) (by kernel_rfl) rfl (fun W hW => by obtain ⟨h0, h1, h2, h3⟩ := hW; go_simp) zH0 ?_
                simp only [FL]
                refine hr_take_w 7 (some 90) (.pointer (some ⟨b1, o1 + j * 5, none⟩)) rfl rfl (by kernel_rfl) (by kernel_rfl) (by kernel_rfl) rfl (fun W hW => by obtain ⟨h0, h1, h2, h3⟩ := hW; go_simp) zH0 ?_
                simp only [FL]
                refine hr_take_w 8 (some 91) (.pointer (some ⟨b1, o1 + j * 5 + 1, none⟩)) rfl rfl (by kernel_rfl) (by kernel_rfl) (by kernel_rfl) rfl (fun W hW => by obtain ⟨h0, h1, h2, h3⟩ := hW; go_simp) zH0 ?_
                simp only [FL]
                refine hr_take_w 9 (some 92) (.int .u64 x1.st) rfl rfl (by kernel_rfl) (by kernel_rfl) (by kernel_rfl) rfl (fun W hW => by obtain ⟨h0, h1, h2, h3⟩ := hW; go_simp) zH0 ?_
                simp only [FL]
                refine hr_take_w 10 (some 93) (.bool false) rfl rfl (by kernel_rfl) (by kernel_rfl) (by kernel_rfl) rfl (fun W hW => by obtain ⟨h0, h1, h2, h3⟩ := hW; go_simp; exact HI1.out) zH0 ?_
                simp only [FL]
                refine hr_take_w 11 (some 94) (.bool false) rfl rfl (by kernel_rfl) (by kernel_rfl) (by kernel_rfl) rfl (fun W hW => by obtain ⟨h0, h1, h2, h3⟩ := hW; go_simp) zH0 ?_
                simp only [FL]
                refine hr_take_w 12 (some 95) (.slice (some ⟨b2, o2, none⟩) l.length cb2) rfl rfl (by kernel_rfl) (by kernel_rfl) (by kernel_rfl) rfl (fun W hW => by obtain ⟨h0, h1, h2, h3⟩ := hW; go_simp) zH0 ?_
                simp only [FL]
                refine hr_take_w 13 (some 96) (.int .i64 (j : Nat)) rfl rfl (by kernel_rfl) (by kernel_rfl) (by kernel_rfl) rfl (fun W hW => by obtain ⟨h0, h1, h2, h3⟩ := hW; go_simp) zH0 ?_
                simp only [FL]
                refine hr_take_w 14 (some 97) (.pointer (some ⟨b2, o2 + j * 5, none⟩)) rfl rfl (by kernel_rfl) (by kernel_rfl) (by kernel_rfl) rfl (fun W hW => by obtain ⟨h0, h1, h2, h3⟩ := hW; go_simp) zH0 ?_
                simp only [FL]
                refine hr_take_w 15 (some 98) (.pointer (some ⟨b2, o2 + j * 5, none⟩)) rfl rfl (by kernel_rfl) (by kernel_rfl) (by kernel_rfl) rfl (fun W hW => by obtain ⟨h0, h1, h2, h3⟩ := hW; go_simp) zH0 ?_
                simp only [FL]
                refine hr_take_w 16 (some 99) (.int .u64 x2.cl) rfl rfl (by kernel_rfl) (by kernel_rfl) (by kernel_rfl) rfl (fun W hW => by obtain ⟨h0, h1, h2, h3⟩ := hW; go_simp) zH0 ?_
                simp only [FL]
                refine hr_take_w 17 (some 100) (.pointer (some ⟨Q, 0, none⟩)) rfl rfl (by kernel_rfl) (by kernel_rfl) (by kernel_rfl) rfl (fun W hW => by obtain ⟨h0, h1, h2, h3⟩ := hW; go_simp) zH0 ?_
                simp only [FL]
                refine hr_take_w 18 (some 101) (.int .u64 y.cl) rfl rfl (by kernel_rfl) (by kernel_rfl) (by kernel_rfl) rfl (fun W hW => by obtain ⟨h0, h1, h2, h3⟩ := hW; go_simp) zH0 ?_
                simp only [FL]
                refine hr_take_w 19 (some 102) (.bool false) rfl rfl (by kernel_rfl) (by kernel_rfl) (by kernel_rfl) rfl (fun W hW => by obtain ⟨h0, h1, h2, h3⟩ := hW; go_simp; exact HI2.out) zH0 ?_
                simp only [FL]
                refine hr_take_w 20 (some 103) (.bool false) rfl rfl (by kernel_rfl) (by kernel_rfl) (by kernel_rfl) rfl (fun W hW => by obtain ⟨h0, h1, h2, h3⟩ := hW; go_simp) zH0 ?_
                simp only [FL]
                refine hr_none 21 (some 104) rfl rfl (by kernel_rfl) (by kernel_rfl) (by kernel_rfl) rfl zH0 ?_
                simp only [FL]
                refine hr_none 22 (some 105) rfl rfl (by kernel_rfl) (by kernel_rfl) (by kernel_rfl) rfl zH0 ?_
                simp only [FL]
                refine hr_none 23 (some 106) rfl rfl (by kernel_rfl) (by kernel_rfl) (by kernel_rfl) rfl zH0 ?_
                simp only [FL]
                refine hr_none 24 (some 107) rfl rfl (by kernel_rfl) (by kernel_rfl) (by kernel_rfl) rfl zH0 ?_
                simp only [FL]
                refine hr_none 25 (some 108) rfl rfl (by kernel_rfl) (by kernel_rfl) (by kernel_rfl) rfl zH0 ?_
                simp only [FL]
                refine hr_none 26 (some 109) rfl rfl (by kernel_rfl) (by kernel_rfl) (by kernel_rfl) rfl zH0 ?_
                simp only [FL]
                refine hr_none 27 (some 110) rfl rfl (by kernel_rfl) (by kernel_rfl) (by kernel_rfl) rfl zH0 ?_
                simp only [FL]
                refine hr_none 28 (some 111) rfl rfl (by kernel_rfl) (by kernel_rfl) (by kernel_rfl) rfl zH0 ?_
                simp only [FL]
                refine hr_none 29 (some 112) rfl rfl (by kernel_rfl) (by kernel_rfl) (by kernel_rfl) rfl zH0 ?_
                simp only [FL]
                refine hr_none 30 (some 113) rfl rfl (by kernel_rfl) (by kernel_rfl) (by kernel_rfl) rfl zH0 ?_
                simp only [FL]
                refine hr_none 31 (some 114) rfl rfl (by kernel_rfl) (by kernel_rfl) (by kernel_rfl) rfl zH0 ?_
                simp only [FL]
                refine hr_take_w 32 (some 115) (.bool false) rfl rfl (by kernel_rfl) (by kernel_rfl) (by kernel_rfl) rfl (fun W hW => by obtain ⟨h0, h1, h2, h3⟩ := hW; go_simp) zH0 ?_
                simp only [FL]
                refine hr_take_w 33 (some 116) (.bool false) rfl rfl (by kernel_rfl) (by kernel_rfl) (by kernel_rfl) rfl (fun W hW => by obtain ⟨h0, h1, h2, h3⟩ := hW; go_simp) zH0 ?_
                simp only [FL]
                refine wpAnyH_done (by kernel_rfl) ?_ _
                refine NoPanic.normal ?_
                have Bq := Bq.trans (zE0.mono Bq.size)
                clear zHS zH0 zE0 Z1 Z2 ZQ HI1 HI2
                go_wp2
                go_roundw
                case rel => exact ⟨j + 1, by omega, by go_num, Bq⟩
                case measure => simp [intOf]; omega
              · have HI2 : Hid (¬ (x2.cl : Int) = (y.cl : Int)) := show ¬ (x2.cl : Int) = (y.cl : Int) by omega
                have HI3 : Hid ((x2.st : Int) = (x1.st : Int)) := show (x2.st : Int) = (x1.st : Int) by rw [g2 hcl]
                clear g1 g2 hcl
                go_wp2_with fail
                have zHS : Hid (∀ V, Below wq.heap.size wq V → V.cell? ⟨b2, o2 + j * 5, none⟩ = some (.int .u64 x2.cl) ∧ V.cell? ⟨b2, o2 + j * 5 + 1, none⟩ = some (.int .u64 x2.st) ∧ V.cell? ⟨b1, o1 + j * 5 + 1, none⟩ = some (.int .u64 x1.st) ∧ V.cell? ⟨Q, 0, none⟩ = some (.int .u64 y.cl)) := fun V hV => ⟨(Z2.below hV).c0, (Z2.below hV).c1, (Z1.below hV).c1, cell_of_row V Q 0 _ _ _ ((hV.block Q (Array.getElem?_eq_some_iff.1 ZQ).1).trans ZQ)⟩
                have zE0 : Below wq.heap.size wq wq.drew := (Below.refl _ _).drew
                refine wp_region_noPanic ?_
                refine wp_region_held_drew (S := fun V => V.cell? ⟨b2, o2 + j * 5, none⟩ = some (.int .u64 x2.cl) ∧ V.cell? ⟨b2, o2 + j * 5 + 1, none⟩ = some (.int .u64 x2.st) ∧ V.cell? ⟨b1, o1 + j * 5 + 1, none⟩ = some (.int .u64 x1.st) ∧ V.cell? ⟨Q, 0, none⟩ = some (.int .u64 y.cl)) (by kernel_rfl) (zHS.out _ zE0) (fun zH0 => ?_)
                obtain ⟨zv0, hv0⟩ : ∃ v, v = wq.drew := ⟨_, rfl⟩
                rw [← hv0] at zH0 zE0 ⊢
                clear hv0
                refine hr_take_w 0 (some 83) (.slice (some ⟨b2, o2, none⟩) l.length cb2) rfl rfl (by kernel_rfl) (by kernel_rfl) (by kernel_rfl) rfl (fun W hW => by obtain ⟨h0, h1, h2, h3⟩ := hW; go_simp) zH0 ?_
                simp only [FL]
                refine hr_take_w 1 (some 84) (.int .i64 (j : Nat)) rfl rfl (by kernel_rfl) (by kernel_rfl) (by kernel_rfl) rfl (fun W hW => by obtain ⟨h0, h1, h2, h3⟩ := hW; go_simp) zH0 ?_
                simp only [FL]
                refine hr_take_w 2 (some 85) (.pointer (some ⟨b2, o2 + j * 5, none⟩)) rfl rfl (by kernel_rfl) (by kernel_rfl) (by kernel_rfl) rfl (fun W hW => by obtain ⟨h0, h1, h2, h3⟩ := hW; go_simp) zH0 ?_
                simp only [FL]
                refine hr_take_w 3 (some 86) (.pointer (some ⟨b2, o2 + j * 5 + 1, none⟩)) rfl rfl (by kernel_rfl) (by kernel_rfl) (by kernel_rfl) rfl (fun W hW => by obtain ⟨h0, h1, h2, h3⟩ := hW; go_simp) zH0 ?_
                simp only [FL]
                refine hr_take_w 4 (some 87) (.int .u64 x2.st) rfl rfl (by kernel_rfl) (by kernel_rfl) (by kernel_rfl) rfl (fun W hW => by obtain ⟨h0, h1, h2, h3⟩ := hW; go_simp) zH0 ?_
                simp only [FL]
                refine hr_take_w 5 (some 88) (.slice (some ⟨b1, o1, none⟩) l.length cb1) rfl rfl (by kernel_rfl) (by kernel_rfl) (by kernel_rfl) rfl (fun W hW => by obtain ⟨h0, h1, h2, h3⟩ := hW; go_simp) zH0 ?_
                simp only [FL]
                refine hr_take_w 6 (some 89) (.int .i64 (j : Nat)) rfl rfl (by kernel_rfl) (by kernel_rfl) (by kernel_rfl) rfl (fun W hW => by obtain ⟨h0, h1, h2, h3⟩ := hW; go_simp) zH0 ?_
                simp only [FL]
                refine hr_take_w 7 (some 90) (.pointer (some ⟨b1, o1 + j * 5, none⟩)) rfl rfl (by kernel_rfl) (by kernel_rfl) (by kernel_rfl) rfl (fun W hW => by obtain ⟨h0, h1, h2, h3⟩ := hW; go_simp) zH0 ?_
                simp only [FL]
                refine hr_take_w 8 (some 91) (.pointer (some ⟨b1, o1 + j * 5 + 1, none⟩)) rfl rfl (by kernel_rfl) (by kernel_rfl) (by kernel_rfl) rfl (fun W hW => by obtain ⟨h0, h1, h2, h3⟩ := hW; go_simp) zH0 ?_
                simp only [FL]
                refine hr_take_w 9 (some 92) (.int .u64 x1.st) rfl rfl (by kernel_rfl) (by kernel_rfl) (by kernel_rfl) rfl (fun W hW => by obtain ⟨h0, h1, h2, h3⟩ := hW; go_simp) zH0 ?_
                simp only [FL]
                refine hr_take_w 10 (some 93) (.bool false) rfl rfl (by kernel_rfl) (by kernel_rfl) (by kernel_rfl) rfl (fun W hW => by obtain ⟨h0, h1, h2, h3⟩ := hW; go_simp; exact HI1.out) zH0 ?_
                simp only [FL]
                refine hr_take_w 11 (some 94) (.bool false) rfl rfl (by kernel_rfl) (by kernel_rfl) (by kernel_rfl) rfl (fun W hW => by obtain ⟨h0, h1, h2, h3⟩ := hW; go_simp) zH0 ?_
                simp only [FL]
                refine hr_take_w 12 (some 95) (.slice (some ⟨b2, o2, none⟩) l.length cb2) rfl rfl (by kernel_rfl) (by kernel_rfl) (by kernel_rfl) rfl (fun W hW => by obtain ⟨h0, h1, h2, h3⟩ := hW; go_simp) zH0 ?_
                simp only [FL]
                refine hr_take_w 13 (some 96) (.int .i64 (j : Nat)) rfl rfl (by kernel_rfl) (by kernel_rfl) (by kernel_rfl) rfl (fun W hW => by obtain ⟨h0, h1, h2, h3⟩ := hW; go_simp) zH0 ?_
                simp only [FL]
                refine hr_take_w 14 (some 97) (.pointer (some ⟨b2, o2 + j * 5, none⟩)) rfl rfl (by kernel_rfl) (by kernel_rfl) (by kernel_rfl) rfl (fun W hW => by obtain ⟨h0, h1, h2, h3⟩ := hW; go_simp) zH0 ?_
                simp only [FL]
                refine hr_take_w 15 (some 98) (.pointer (some ⟨b2, o2 + j * 5, none⟩)) rfl rfl (by kernel_rfl) (by kernel_rfl) (by kernel_rfl) rfl (fun W hW => by obtain ⟨h0, h1, h2, h3⟩ := hW; go_simp) zH0 ?_
                simp only [FL]
                refine hr_take_w 16 (some 99) (.int .u64 x2.cl) rfl rfl (by kernel_rfl) (by kernel_rfl) (by kernel_rfl) rfl (fun W hW => by obtain ⟨h0, h1, h2, h3⟩ := hW; go_simp) zH0 ?_
                simp only [FL]
                refine hr_take_w 17 (some 100) (.pointer (some ⟨Q, 0, none⟩)) rfl rfl (by kernel_rfl) (by kernel_rfl) (by kernel_rfl) rfl (fun W hW => by obtain ⟨h0, h1, h2, h3⟩ := hW; go_simp) zH0 ?_
                simp only [FL]
                refine hr_take_w 18 (some 101) (.int .u64 y.cl) rfl rfl (by kernel_rfl) (by kernel_rfl) (by kernel_rfl) rfl (fun W hW => by obtain ⟨h0, h1, h2, h3⟩ := hW; go_simp) zH0 ?_
                simp only [FL]
                refine hr_take_w 19 (some 102) (.bool true) rfl rfl (by kernel_rfl) (by kernel_rfl) (by kernel_rfl) rfl (fun W hW => by obtain ⟨h0, h1, h2, h3⟩ := hW; go_simp; exact HI2.out) zH0 ?_
                simp only [FL]
                refine hr_take_w 20 (some 103) (.bool true) rfl rfl (by kernel_rfl) (by kernel_rfl) (by kernel_rfl) rfl (fun W hW => by obtain ⟨h0, h1, h2, h3⟩ := hW; go_simp) zH0 ?_
                simp only [FL]
                refine hr_take_w 21 (some 104) (.slice (some ⟨b2, o2, none⟩) l.length cb2) rfl rfl (by kernel_rfl) (by kernel_rfl) (by kernel_rfl) rfl (fun W hW => by obtain ⟨h0, h1, h2, h3⟩ := hW; go_simp) zH0 ?_
                simp only [FL]
                refine hr_take_w 22 (some 105) (.int .i64 (j : Nat)) rfl rfl (by kernel_rfl) (by kernel_rfl) (by kernel_rfl) rfl (fun W hW => by obtain ⟨h0, h1, h2, h3⟩ := hW; go_simp) zH0 ?_
                simp only [FL]
                refine hr_take_w 23 (some 106) (.pointer (some ⟨b2, o2 + j * 5, none⟩)) rfl rfl (by kernel_rfl) (by kernel_rfl) (by kernel_rfl) rfl (fun W hW => by obtain ⟨h0, h1, h2, h3⟩ := hW; go_simp) zH0 ?_
                simp only [FL]
                refine hr_take_w 24 (some 107) (.pointer (some ⟨b2, o2 + j * 5 + 1, none⟩)) rfl rfl (by kernel_rfl) (by kernel_rfl) (by kernel_rfl) rfl (fun W hW => by obtain ⟨h0, h1, h2, h3⟩ := hW; go_simp) zH0 ?_
                simp only [FL]
                refine hr_take_w 25 (some 108) (.int .u64 x2.st) rfl rfl (by kernel_rfl) (by kernel_rfl) (by kernel_rfl) rfl (fun W hW => by obtain ⟨h0, h1, h2, h3⟩ := hW; go_simp) zH0 ?_
                simp only [FL]
                refine hr_take_w 26 (some 109) (.slice (some ⟨b1, o1, none⟩) l.length cb1) rfl rfl (by kernel_rfl) (by kernel_rfl) (by kernel_rfl) rfl (fun W hW => by obtain ⟨h0, h1, h2, h3⟩ := hW; go_simp) zH0 ?_
                simp only [FL]
                refine hr_take_w 27 (some 110) (.int .i64 (j : Nat)) rfl rfl (by kernel_rfl) (by kernel_rfl) (by kernel_rfl) rfl (fun W hW => by obtain ⟨h0, h1, h2, h3⟩ := hW; go_simp) zH0 ?_
                simp only [FL]
                refine hr_take_w 28 (some 111) (.pointer (some ⟨b1, o1 + j * 5, none⟩)) rfl rfl (by kernel_rfl) (by kernel_rfl) (by kernel_rfl) rfl (fun W hW => by obtain ⟨h0, h1, h2, h3⟩ := hW; go_simp) zH0 ?_
                simp only [FL]
                refine hr_take_w 29 (some 112) (.pointer (some ⟨b1, o1 + j * 5 + 1, none⟩)) rfl rfl (by kernel_rfl) (by kernel_rfl) (by kernel_rfl) rfl (fun W hW => by obtain ⟨h0, h1, h2, h3⟩ := hW; go_simp) zH0 ?_
                simp only [FL]
                refine hr_take_w 30 (some 113) (.int .u64 x1.st) rfl rfl (by kernel_rfl) (by kernel_rfl) (by kernel_rfl) rfl (fun W hW => by obtain ⟨h0, h1, h2, h3⟩ := hW; go_simp) zH0 ?_
                simp only [FL]
                refine hr_take_w 31 (some 114) (.bool false) rfl rfl (by kernel_rfl) (by kernel_rfl) (by kernel_rfl) rfl (fun W hW => by obtain ⟨h0, h1, h2, h3⟩ := hW; go_simp; exact HI3.out) zH0 ?_
                simp only [FL]
                refine hr_take_w 32 (some 115) (.bool false) rfl rfl (by kernel_rfl) (by kernel_rfl) (by kernel_rfl) rfl (fun W hW => by obtain ⟨h0, h1, h2, h3⟩ := hW; go_simp) zH0 ?_
                simp only [FL]
                refine hr_take_w 33 (some 116) (.bool false) rfl rfl (by kernel_rfl) (by kernel_rfl) (by kernel_rfl) rfl (fun W hW => by obtain ⟨h0, h1, h2, h3⟩ := hW; go_simp) zH0 ?_
                simp only [FL]
                refine wpAnyH_done (by kernel_rfl) ?_ _
                refine NoPanic.normal ?_
                have Bq := Bq.trans (zE0.mono Bq.size)
                clear zHS zH0 zE0 Z1 Z2 ZQ HI1 HI2 HI3
                go_wp2
                go_roundw
                case rel => exact ⟨j + 1, by omega, by go_num, Bq⟩
                case measure => simp [intOf]; omega
            · have hge : (l.length : Int) ≤ (j : Int) := by omega
              have T := T.below Bq
              have LB1 := LB1.below Bq
              have LB2 := LB2.below Bq
              have B := B.trans (Bq.mono B.size)
              have KQ := ZQ
              clear ZQ Bq
              have r0 := cell_of_row wq Q 0 _ _ _ KQ
              have r1 := cell_of_row wq Q 1 _ _ _ KQ
              have CA := cAsk_any wq p g y.cl y.st l' T
              go_wp2_with fail
              refine CA.mono ?_
              rintro x v11 ⟨q, ao4, n4, cap4, cs4, m4, rfl, L4, hq, C11⟩
              have KQ : v11.heap[Q]? = some (.cells #[.int .u64 y.cl, .int .u64 y.st, .int .i64 y.e, .slice y.ao y.n y.cap, .bool y.m] 44) := (C11.block Q (Array.getElem?_eq_some_iff.1 KQ).1).trans KQ
              have T := T.below C11
              have LB1 := LB1.below C11
              have LB2 := LB2.below C11
              have B := B.trans (C11.mono B.size)
              clear CA C11 r0 r1
              have CR : Below v11.heap.size v11 (v11.alloc (.cells #[.int .i64 q, .slice ao4 n4 cap4, .bool m4] 42)) := (Below.refl _ _).alloc (Nat.le_refl _) _
              have KR : (v11.alloc (.cells #[.int .i64 q, .slice ao4 n4 cap4, .bool m4] 42)).heap[v11.heap.size]? = some (.cells #[.int .i64 q, .slice ao4 n4 cap4, .bool m4] 42) := heap_alloc_new _ _
              have KQ : (v11.alloc (.cells #[.int .i64 q, .slice ao4 n4 cap4, .bool m4] 42)).heap[Q]? = some (.cells #[.int .u64 y.cl, .int .u64 y.st, .int .i64 y.e, .slice y.ao y.n y.cap, .bool y.m] 44) := (CR.block Q (Array.getElem?_eq_some_iff.1 KQ).1).trans KQ
              have T := T.below CR
              have LB1 := LB1.below CR
              have LB2 := LB2.below CR
              have L4 := L4.below CR
              have B := B.trans (CR.mono B.size)
              by_cases hk0 : kd = 0
              · obtain ⟨hask, hrr⟩ := PK.ask hk0
                rw [hask] at hq ⊢
                subst hk0
                have hq' : resR y.e y.cs y.m = resR q cs4 m4 := hq
                unfold resR at hq'
                simp only [RV.mk.injEq] at hq'
                obtain ⟨f1, f2, f3⟩ := hq'
                have f4 : n4 = y.n := by
                  have := congrArg List.length f2
                  simp only [List.length_map] at this
                  rw [← L4.len, ← hok.cs.len, this]
                have hn16 : y.n ≤ 1000 := by
                  unfold rightR at hrr
                  have h3 := of_decide_eq_true (Bool.and_eq_true_iff.1 hrr).1
                  have h4 : (y.cs.map CA.c).length ≤ 16 := h3.2.2
                  rw [List.length_map] at h4
                  have := hok.cs.len
                  omega
                subst f4 f1 f3
                have CRR := rresults_any _ y.e ao4 y.ao y.n cap4 y.cap cs4 y.cs y.m L4 (hok.cs.below B) f2.symm hn16
                have k2 := cell_of_row _ Q 2 _ _ _ KQ
                have k3 := cell_of_row _ Q 3 _ _ _ KQ
                have k4 := cell_of_row _ Q 4 _ _ _ KQ
                unfold resV at CRR ⊢
                clear hq hask hrr f2 L4 LB1 LB2
                go_wp2_with fail
                refine CRR.mono ?_
                rintro x v12 ⟨rfl, C12⟩
                have T := T.below C12
                have B := B.trans (C12.mono B.size)
                clear CRR C12 k2 k3 k4
                go_wp2
                go_roundw
                case rel => exact ⟨k + 1, l', by omega, by go_num, T, B⟩
                case measure => simp [intOf]; omega
              · have hll := PK.bad hk0
                have i1 : (kd == 0) = false := by simp [hk0]
                have i2 : (kd != 0) = true := by simp [hk0]
                have CS := rsame12 _ bo2 bo1 l.length cb2 cb1 yb2 yb1 LB2 LB1 ((HE2.out.trans hll).trans HE1.out.symm) (by omega) (en_small LB2 (HE2.out.trans hll) HOK.out)
                unfold resV
                clear hq L4 LB1 LB2 KR KQ hk0 hll
                go_wp2_with fail
                refine CS.mono ?_
                rintro x v12 ⟨rfl, C12⟩
                have T := T.below C12
                have B := B.trans (C12.mono B.size)
                clear CS C12
                go_wp2
                go_roundw
                case rel => exact ⟨k + 1, l', by omega, by go_num, T, B⟩
                case measure => simp [intOf]; omega
        · have hge : (m : Int) ≤ (k : Int) := by omega
          have CA := alive12 wr
          go_wp2_with fail
          refine CA.mono ?_
          rintro x w5 ⟨rfl, C5⟩
          have B5 := B.trans (C5.mono B.size)
          clear CA
          go_wp2
          go_ret
          exact ⟨rfl, B5⟩
  · have hj1 : jdg ns = 1 := by
      unfold jdg at hj ⊢
      by_cases q : 1 ≤ ns.length ∧ ns.length ≤ 8 ∧ riseF 0 ns = true
      · rw [if_pos q] at hj; exact absurd rfl hj
      · rw [if_neg q]
    clear hj
    have CN := cNew_bad w ao n cap ns h hj1
    refine CN.mono ?_
    rintro x w1 ⟨rfl, hw⟩
    obtain rfl := hw.symm
    clear hw CN h
    have B : Below w.heap.size w w := Below.refl _ _
    by_cases hb : 100 < n
    · have i1 : (100 : Int) < (n : Int) := by omega
      clear hb
      have CA := alive12 w
      go_wp2_with fail
      refine CA.mono ?_
      rintro x w5 ⟨rfl, C5⟩
      have B5 := B.trans (C5.mono B.size)
      clear CA
      go_wp2
      go_ret
      exact ⟨rfl, B5⟩
    · have i1 : (n : Int) ≤ 100 := by omega
      clear hb
      have CC := llight_any w bo m cap2 ls L sm
      go_wp2_with fail
      refine CC.mono ?_
      rintro x w4 ⟨rfl, B4⟩
      clear CC
      cases hlt : lightL ls with
      | false =>
        clear hlt
        have CA := alive12 w4
        go_wp2_with fail
        refine CA.mono ?_
        rintro x w5 ⟨rfl, C5⟩
        have B5 := B4.trans (C5.mono B4.size)
        clear CA
        go_wp2
        go_ret
        exact ⟨rfl, B5⟩
      | true =>
        clear hlt
        have CA := alive12 w4
        go_wp2_with fail
        refine CA.mono ?_
        rintro x w5 ⟨rfl, C5⟩
        have B5 := B4.trans (C5.mono B4.size)
        clear CA
        go_wp2
        go_ret
        exact ⟨rfl, B5⟩
end Go.Proofs.Ytoagkffokfbpfaa

/-
  Texts in one: KeepsLaw16.
-/
import Derived.Test.YtdcebokfnbgkaaaDoorChooseKeepsQFL
import Derived.Test.YtdcebokfnbgkaaaDoorChooseKeepsQ2
import Derived.Test.YtdcebokfnbgkaaaDoorChooseKeepsQ3
import Derived.Test.YtdcebokfnbgkaaaDoorChooseKeepsQ4
import Derived.Test.YtdcebokfnbgkaaaDoorChooseKeepsQ5
namespace Go.Proofs.YtdcebokfnbgkaaaDoor
open Go.RowKit
set_option maxRecDepth 100000 in
set_option maxHeartbeats 16000000 in
theorem chooseKeeps_any (w0 : World) (f : Int) (ao : Option Addr) (n cap : Nat) (l : List CA) (p : PA) (_ : (Lit.int .i64 f).wf = true) (G0 : GL elC w0 ao n cap l) (hp : p.ok w0) (hT : Tabs w0) : Calls Tryd.prog 4 #[.int .i64 f, .slice ao n cap, p.val] w0 fun e w' => e = .returned (.bool true) ∧ Below w0.heap.size w0 w' := by
  obtain ⟨psq, pvw, pb⟩ := p
  obtain ⟨w, hw⟩ : ∃ W, W = w0.alloc (.cells #[.int .u64 (psq : Nat), .int .u64 (pvw : Nat), .slice pb.ao pb.n pb.cap] 42) := ⟨_, rfl⟩
  have B0 : Below w0.heap.size w0 w := by rw [hw]; exact (Below.refl _ _).alloc (Nat.le_refl _) _
  have AP : Arr w w0.heap.size 42 [.int .u64 (psq : Nat), .int .u64 (pvw : Nat), .slice pb.ao pb.n pb.cap] := by rw [hw]; exact heap_alloc_new w0 _
  have SP : Sl w pb.ao pb.n pb.cap pb.xs := Sl.below hp.b B0
  have hps : psq < 18446744073709551616 := hp.sq
  have hpv : pvw < 18446744073709551616 := hp.vw
  have G := G0.below elC_fine B0
  have HTb : Hid (∀ V, Below w0.heap.size w0 V → Tabs V) := fun V hV => hT.below hV hT.two
  obtain ⟨N, hN⟩ : ∃ N, N = w0.heap.size := ⟨_, rfl⟩
  rw [← hN] at AP
  have HPC : Hid (∀ V, Below w.heap.size w V → PX V N 0 ⟨psq, pvw, pb⟩ ∧ Sl V pb.ao pb.n pb.cap pb.xs) := fun V hV => by
    have A := Arr.below AP hV AP.lt
    refine ⟨⟨?_, ?_, ?_⟩, Sl.below SP hV⟩
    · rw [A.cell]; rfl
    · rw [A.cell]; rfl
    · rw [A.cell]; rfl
  have CL := light16 w ao n cap l G
  have hl := G.len
  clear hp G0 SP AP
  unfold PA.val
  go_enter Tryd.func4, Tryd.ntmps4
  go_wp2_with fail
  rw [← hw, ← hN]
  have HN : Hid (N = w0.heap.size) := hN
  clear hw hN
  refine CL.mono ?_
  rintro e w1 ⟨b, rfl, hw1, hlt⟩
  replace hw1 := hw1.symm
  subst hw1
  obtain ⟨⟨p0, p1, p2⟩, -⟩ := HPC.out w (Below.refl _ _)
  simp only [Nat.zero_add] at p0 p1 p2
  cases b with
  | false =>
    clear CL hlt
    have CA_ := alive16 w (HTb.out w B0)
    go_wp2_with (go_at_call 7; refine CA_.mono ?_; rintro e w9 ⟨rfl, E9⟩)
    go_ret
    exact ⟨rfl, (B0).trans (E9.mono (B0).size)⟩
  | true =>
    have hL := hlt rfl
    have hsn : ∀ d ∈ l, d.s.l.length = d.s.n := fun d hd => (G.ok d hd).s.len
    have hn20 : n ≤ 20 := by have := hL.1; omega
    clear CL hlt
    by_cases hb : 100 < pb.n
    · have ib : (100 : Int) < (pb.n : Int) := by omega
      have CA_ := alive16 w (HTb.out w B0)
      go_wp2_with (go_at_call 7; refine CA_.mono ?_; rintro e w9 ⟨rfl, E9⟩)
      go_ret
      exact ⟨rfl, (B0).trans (E9.mono (B0).size)⟩
    have ib : ¬ (100 : Int) < (pb.n : Int) := by omega
    have CO := own16 w ao n cap l G (by omega) (fun c hc => by rw [hsn c hc]; have := (hL.2 c hc).1; omega)
    clear hb
    go_wp2_with fail
    refine CO.mono ?_
    rintro e w2 ⟨bo, bc, ys, rfl, GY, hcv, E2⟩
    rw [hl] at GY ⊢
    have hob := own_bounds hcv hL hsn
    have E20 := B0.trans (E2.mono B0.size)
    have CP := pick_any w2 f bo n bc ys GY (by omega) hob.1 hob.2 (HTb.out w2 E20)
    have HCV : Hid (ys.map CA.cv = l.map CA.cv) := hcv
    clear CO GY hob hcv p0 p1 p2
    go_wp2_with fail
    refine CP.mono ?_
    rintro e w3 ⟨E3, ⟨hb, rfl⟩ | ⟨hb, po, pn, pc, qs, rfl, GQ, hqs⟩⟩
    · have E30 := E20.trans (E3.mono E20.size)
      clear CP hb
      have CA_ := alive16 w3 (HTb.out w3 E30)
      go_wp2_with (go_at_call 7; refine CA_.mono ?_; rintro e w9 ⟨rfl, E9⟩)
      go_ret
      exact ⟨rfl, (E30).trans (E9.mono (E30).size)⟩
    · rw [HCV.out] at hqs hb ⊢
      have E30 := E20.trans (E3.mono E20.size)
      have E3w := E2.trans (E3.mono E2.size)
      have hok : okF f = true := by
        unfold badC at hb
        cases ho : okF f with
        | true => rfl
        | false => rw [ho] at hb; cases hb
      obtain ⟨low, hlow⟩ : ∃ v, v = lowC (l.map CA.cv) := ⟨_, rfl⟩
      have hlow64 : low < 18446744073709551616 := by
        rw [hlow]
        refine lowC_lt _ fun c hc => ?_
        obtain ⟨x, hx, rfl⟩ := List.mem_map.1 hc
        exact (G.ok x hx).low
      rw [← hlow] at hqs ⊢
      obtain ⟨⟨p0, p1, p2⟩, -⟩ := HPC.out w3 E3w
      simp only [Nat.zero_add] at p0 p1 p2
      have HQS : Hid (qs.map PA.pv = picksV nullX low (psK l l.length)) := by show _ = _; rw [hqs, psK_all]
      clear CP hb hqs hlow
      by_cases a1 : psq ≤ low
      · have i1 : (psq : Int) ≤ (low : Int) := by omega
        have CA_ := alive16 w3 (HTb.out w3 E30)
        go_wp2_with (go_at_call 7; refine CA_.mono ?_; rintro e w9 ⟨rfl, E9⟩)
        go_ret
        exact ⟨rfl, (E30).trans (E9.mono (E30).size)⟩
      by_cases a2 : low + 8 < psq
      · have i1 : ¬ (psq : Int) ≤ (low : Int) := by omega
        have mw : IntKind.u64.wrap ((psq : Int) - (low : Int)) = (psq : Int) - (low : Int) := by rw [IntKind.wrap_u64]; omega
        have i2 : (8 : Int) < (psq : Int) - (low : Int) := by omega
        have CA_ := alive16 w3 (HTb.out w3 E30)
        go_wp2_with (go_at_call 7; refine CA_.mono ?_; rintro e w9 ⟨rfl, E9⟩)
        go_ret
        exact ⟨rfl, (E30).trans (E9.mono (E30).size)⟩
      have i1 : ¬ (psq : Int) ≤ (low : Int) := by omega
      have mw : IntKind.u64.wrap ((psq : Int) - (low : Int)) = (psq : Int) - (low : Int) := by rw [IntKind.wrap_u64]; omega
      have i2 : ¬ (8 : Int) < (psq : Int) - (low : Int) := by omega
      have HWN : Hid (low < psq ∧ psq ≤ low + 8) := ⟨by omega, by omega⟩
      have J0 : K2 w3 l ⟨psq, pvw, pb⟩ (.int .i64 0) (.int .i64 0) w3 := K2.start (Below.refl _ _)
      go_wp2_with fail
      clear p0 p1 p2
      go_loopw [10, 11] (fun c j wq => K2 w3 l ⟨psq, pvw, pb⟩ c j wq) (fun _ j _ => n - (intOf j).toNat)
      case atStart => exact J0
      case round =>
        clear J0
        obtain ⟨j, c, hj, rfl, rfl, hcj, hh, hall, E⟩ := hrel
        have HH : Hid (0 < c → hasK (psK l j) ⟨psq, pvw, pb⟩) := hh
        have HALL : Hid (allK (psK l j) ⟨psq, pvw, pb⟩) := hall
        clear hh hall
        by_cases hjl : j < n
        · obtain ⟨b, off, rfl, hX⟩ := G.atC (by omega)
          have hjx : j < l.length := by omega
          have hok2 := G.ok _ (List.getElem_mem hjx)
          obtain ⟨⟨cf, cl, cz, ⟨sao, sn, scap, sl⟩⟩, ho⟩ : ∃ o, o = l[j] := ⟨_, rfl⟩
          have hX := hX j hjx
          rw [← ho] at hX hok2
          have HO : Hid (l[j].s.l = sl) := by show _ = _; rw [← ho]
          have hsl : sl.length = sn := hok2.s.len
          have hs20 : sn ≤ 20 := by have := (hL.2 _ (List.getElem_mem hjx)).1; rw [← ho] at this; exact this
          have HCX : Hid (∀ V, Below w3.heap.size w3 V → CX V b (off + j * 4) ⟨cf, cl, cz, ⟨sao, sn, scap, sl⟩⟩) := fun V hV => hX.below (E3w.trans (hV.mono E3w.size))
          have HSG : Hid (GL elP w sao sn scap sl) := hok2.s
          obtain ⟨q0, q1, q2, q3⟩ := HCX.out _ E
          have hjii : (j : Int) < (n : Int) := by omega
          obtain ⟨ps, hps⟩ : ∃ ps, ps = psK l j := ⟨_, rfl⟩
          have HPS : Hid (ps = psK l j) := hps
          have K0 : K3 w3 ps sl ⟨psq, pvw, pb⟩ (.bool false) (.int .i64 0) wr := K3.start (by rw [hps]; exact HALL.out) E
          clear hX hok2 ho hps E
          go_wp2_with fail
          clear q0 q1 q2 q3
          go_loopw [12, 13] (fun has x wq => K3 w3 ps sl ⟨psq, pvw, pb⟩ has x wq) (fun _ x _ => sn - (intOf x).toNat)
          case atStart => exact K0
          case round =>
            clear K0
            obtain ⟨x, hs, hx, rfl, rfl, h1, h2, E⟩ := hrel
            have H1 : Hid (hs = true → hasK (ps ++ sl.take x) ⟨psq, pvw, pb⟩) := h1
            have H2 : Hid (allK (ps ++ sl.take x) ⟨psq, pvw, pb⟩) := h2
            clear h1 h2
            obtain ⟨q0, q1, q2, q3⟩ := HCX.out _ E
            by_cases hxl : x < sl.length
            · have hxi : (x : Int) < (sn : Int) := by omega
              obtain ⟨bb, boff, rfl, hP⟩ := HSG.out.atP (by omega)
              have hpok := HSG.out.ok _ (List.getElem_mem hxl)
              have hP := hP x hxl
              obtain ⟨⟨qsq, qvw, qbs⟩, hp⟩ : ∃ p, p = sl[x] := ⟨_, rfl⟩
              rw [← hp] at hP hpok
              obtain ⟨r0, r1, r2⟩ := hP.below (E3w.trans (E.mono E3w.size))
              obtain ⟨WC, hWC⟩ : ∃ W, W = wr.alloc (.cells #[.int .u64 (qsq : Nat), .int .u64 (qvw : Nat), .slice qbs.ao qbs.n qbs.cap] 42) := ⟨_, rfl⟩
              have C1 : Below wr.heap.size wr WC := by rw [hWC]; exact (Below.refl _ _).alloc (Nat.le_refl _) _
              have EC := E.trans (C1.mono E.size)
              have EW := E3w.trans (EC.mono E3w.size)
              have SQ : Sl WC qbs.ao qbs.n qbs.cap qbs.xs := Sl.below hpok.b EW
              obtain ⟨⟨p0, p1, p2⟩, SPC⟩ := HPC.out WC EW
              simp only [Nat.zero_add] at p0 p1 p2
              rw [hWC] at p0 p1 p2
              have HPE : Hid (sl[x] = ⟨qsq, qvw, qbs⟩) := hp.symm
              have HEC : Hid (Below w3.heap.size w3 WC) := EC
              have HDC : Hid (∀ m, (WC.drewN m).cell? ⟨wr.heap.size, 1, none⟩ = some (.int .u64 (qvw : Nat)) ∧ (WC.drewN m).cell? ⟨N, 1, none⟩ = some (.int .u64 (pvw : Nat))) := fun m => by
                have BD : Below WC.heap.size WC (WC.drewN m) := below_drewN _ _ _
                have A : Arr WC wr.heap.size 42 [.int .u64 (qsq : Nat), .int .u64 (qvw : Nat), .slice qbs.ao qbs.n qbs.cap] := by rw [hWC]; exact heap_alloc_new wr _
                have hp1 := ((HPC.out WC EW).1).c1
                simp only [Nat.zero_add] at hp1
                exact ⟨(Arr.below A BD A.lt).cell 1, (BD.cell (World.block_lt_of_cell? _ _ hp1)).trans hp1⟩
              clear hpok hP hp C1 E EW EC
              by_cases e0 : qsq = psq
              · have e0s : psq = qsq := e0.symm
                subst e0s
                have HE0 : Hid (sl[x].sq = psq) := congrArg PA.sq HPE.out
                by_cases e1 : pvw ≤ qvw
                · have i4 : (pvw : Int) ≤ (qvw : Int) := by omega
                  have CS := same_any WC _ _ _ _ _ _ qbs.xs pb.xs SQ SPC
                  rw [hWC] at CS
                  by_cases ex : qbs.xs = pb.xs
                  · rw [decide_eq_true ex] at CS
                    have HEX : Hid (qbs.xs = pb.xs) := ex
                    by_cases ev : qvw = pvw
                    · have evs : pvw = qvw := ev.symm
                      subst evs
                      have HEV : Hid (sl[x].vw = pvw) := congrArg PA.vw HPE.out
                      have RL : ∀ (m : Nat) (i : Value), i = .int .i64 ((x + 1 : Nat) : Int) → K3 w3 ps sl ⟨psq, pvw, pb⟩ (.bool true) i (WC.drewN m) := fun m i hi => K3.hit hxl hi HE0.out HEV.out (by rw [HPE.out]; exact HEX.out) H2.out (HEC.out.trans (below_drewN WC m _))
                      have HDW := HDC.out
                      rw [hWC] at RL HDW
                      have HDW : Hid _ := HDW
                      clear SQ SPC hWC ex
                      cases hs with
                      | true =>
                        go_wp2_with (go_at_call 13; refine CS.mono ?_; rintro e w6 ⟨rfl, q6, rfl⟩; obtain ⟨d0, d1⟩ := HDW.out q6)
                        all_goals (try go_big_round)
                        all_goals refine ⟨?_, ?_⟩
                        all_goals first
                          | exact RL _ _ (by go_num)
                          | (simp [intOf]; omega)
                      | false =>
                        go_wp2_with (go_at_call 13; refine CS.mono ?_; rintro e w6 ⟨rfl, q6, rfl⟩; obtain ⟨d0, d1⟩ := HDW.out q6)
                        all_goals (try go_big_round)
                        all_goals refine ⟨?_, ?_⟩
                        all_goals first
                          | exact RL _ _ (by go_num)
                          | (simp [intOf]; omega)
                    · have nv : ¬ qvw = pvw := ev
                      have z3 : decide (qvw = pvw) = false := decide_eq_false ev
                      have z4 : decide ((qvw : Int) = (pvw : Int)) = false := decide_eq_false (by omega)
                      have z5 : ¬ (qvw : Int) = (pvw : Int) := by omega
                      have z8 : ((qvw : Int) == (pvw : Int)) = false := beq_eq_false_iff_ne.2 z5
                      have z9 : (qvw == pvw) = false := beq_eq_false_iff_ne.2 ev
                      have RL : ∀ (m : Nat) (i : Value), i = .int .i64 ((x + 1 : Nat) : Int) → K3 w3 ps sl ⟨psq, pvw, pb⟩ (.bool hs) i (WC.drewN m) := fun m i hi => K3.same hxl hi (by rw [HPE.out]; exact HEX.out) H1.out H2.out (HEC.out.trans (below_drewN WC m _))
                      have HDW := HDC.out
                      rw [hWC] at RL HDW
                      have HDW : Hid _ := HDW
                      clear SQ SPC hWC ex ev nv
                      cases hs with
                      | true =>
                        go_wp2_with (go_at_call 13; refine CS.mono ?_; rintro e w6 ⟨rfl, q6, rfl⟩; obtain ⟨d0, d1⟩ := HDW.out q6)
                        all_goals (try go_big_round)
                        all_goals refine ⟨?_, ?_⟩
                        all_goals first
                          | exact RL _ _ (by go_num)
                          | (simp [intOf]; omega)
                      | false =>
                        go_wp2_with (go_at_call 13; refine CS.mono ?_; rintro e w6 ⟨rfl, q6, rfl⟩; obtain ⟨d0, d1⟩ := HDW.out q6)
                        all_goals (try go_big_round)
                        all_goals refine ⟨?_, ?_⟩
                        all_goals first
                          | exact RL _ _ (by go_num)
                          | (simp [intOf]; omega)
                  · rw [decide_eq_false ex] at CS
                    have EE := E30.trans (HEC.out.mono E30.size)
                    rw [hWC] at EE
                    clear SQ SPC hWC ex
                    go_wp2_with (go_at_call 13; refine CS.mono ?_; rintro e w6 ⟨rfl, q6, rfl⟩; have E6 := EE.trans ((below_drewN (wr.alloc (.cells #[.int .u64 (psq : Nat), .int .u64 (qvw : Nat), .slice qbs.ao qbs.n qbs.cap] 42)) q6 (wr.alloc (.cells #[.int .u64 (psq : Nat), .int .u64 (qvw : Nat), .slice qbs.ao qbs.n qbs.cap] 42)).heap.size).mono EE.size); have CA_ := alive16 _ (HTb.out _ E6))
                    refine CA_.mono ?_
                    rintro e w9 ⟨rfl, E9⟩
                    go_wp2
                    go_ret
                    exact ⟨rfl, E6.trans (E9.mono E6.size)⟩
                · have i4 : ¬ (pvw : Int) ≤ (qvw : Int) := by omega
                  have z5 : ¬ (qvw : Int) = (pvw : Int) := by omega
                  have z6 : ¬ qvw = pvw := by omega
                  have z3 : decide (qvw = pvw) = false := decide_eq_false z6
                  have z4 : decide ((qvw : Int) = (pvw : Int)) = false := decide_eq_false z5
                  have z8 : ((qvw : Int) == (pvw : Int)) = false := beq_eq_false_iff_ne.2 z5
                  have z9 : (qvw == pvw) = false := beq_eq_false_iff_ne.2 z6
                  have HLV : Hid (qvw < pvw) := by show qvw < pvw; omega
                  have RL : ∀ i : Value, i = .int .i64 ((x + 1 : Nat) : Int) → K3 w3 ps sl ⟨psq, pvw, pb⟩ (.bool hs) i WC := fun i hi => K3.low hxl hi (by rw [HPE.out]; exact HLV.out) H1.out H2.out HEC.out
                  rw [hWC] at RL
                  clear SQ SPC hWC
                  cases hs with
                  | true =>
                    go_wp2
                    all_goals (try go_big_round)
                    all_goals refine ⟨?_, ?_⟩
                    all_goals first
                      | exact RL _ (by go_num)
                      | (simp [intOf]; omega)
                  | false =>
                    go_wp2
                    all_goals (try go_big_round)
                    all_goals refine ⟨?_, ?_⟩
                    all_goals first
                      | exact RL _ (by go_num)
                      | (simp [intOf]; omega)
              · have HE0 : Hid (qsq ≠ psq) := e0
                have z5 : ¬ (qsq : Int) = (psq : Int) := by omega
                have RL : ∀ i : Value, i = .int .i64 ((x + 1 : Nat) : Int) → K3 w3 ps sl ⟨psq, pvw, pb⟩ (.bool hs) i WC := fun i hi => K3.skip hxl hi (by rw [HPE.out]; exact HE0.out) H1.out H2.out HEC.out
                rw [hWC] at RL
                clear SQ SPC hWC
                go_wp2
                all_goals (try go_big_round)
                all_goals refine ⟨?_, ?_⟩
                all_goals first
                  | exact RL _ (by go_num)
                  | (simp [intOf]; omega)
            · have hxi : ¬ (x : Int) < (sn : Int) := by omega
              cases hs with
              | true =>
                have RL : ∀ i : Value, i = .int .i64 ((j + 1 : Nat) : Int) → K2 w3 l ⟨psq, pvw, pb⟩ (.int .i64 ((c + 1 : Nat) : Int)) i wr := fun i hi => K3.done hjx HO.out (x := x) (b := true) (by omega) hi rfl hcj (by rfl) HH.out (fun _ => by rw [← HPS.out]; exact H1.out rfl) (by rw [← HPS.out]; exact H2.out) E
                go_wp2
                all_goals (try go_big_round)
                all_goals refine ⟨?_, ?_⟩
                all_goals first
                  | exact RL _ (by go_num)
                  | (simp [intOf]; omega)
              | false =>
                have RL : ∀ i : Value, i = .int .i64 ((j + 1 : Nat) : Int) → K2 w3 l ⟨psq, pvw, pb⟩ (.int .i64 (c : Nat)) i wr := fun i hi => K3.done hjx HO.out (x := x) (b := false) (by omega) hi rfl hcj (by rfl) HH.out (fun e => by cases e) (by rw [← HPS.out]; exact H2.out) E
                go_wp2
                all_goals (try go_big_round)
                all_goals refine ⟨?_, ?_⟩
                all_goals first
                  | exact RL _ (by go_num)
                  | (simp [intOf]; omega)
        · have hjii : ¬ (j : Int) < (n : Int) := by omega
          have hjl : j = l.length := by omega
          subst hjl
          have CW := rweak_any f wr
          rw [nF_t 1 hok] at CW
          obtain ⟨f1, f4⟩ := okF_iff.1 hok
          obtain ⟨g, hg⟩ : ∃ g, g = 1 * f + 1 := ⟨_, rfl⟩
          have g2 : 2 ≤ g := by omega
          rw [← hg] at CW
          have E5 := E30.trans (E.mono E30.size)
          obtain ⟨⟨p0, p1, p2⟩, -⟩ := HPC.out wr (E3w.trans (E.mono E3w.size))
          simp only [Nat.zero_add] at p0 p1 p2
          clear hg f1 f4
          by_cases cg : (c : Int) < g
          · go_wp2_with (go_at_call 16; refine CW.mono ?_; rintro e w9 ⟨rfl, hw9⟩; replace hw9 := hw9.symm; subst hw9; have CA_ := alive16 wr (HTb.out wr E5))
            refine CA_.mono ?_
            rintro e w9 ⟨rfl, E9⟩
            go_wp2
            go_ret
            exact ⟨rfl, E5.trans (E9.mono E5.size)⟩
          · obtain ⟨hpk, v, hpv2, hvv⟩ := keep_pick (nx := nullX) (HH.out (by omega)) HALL.out HWN.out
            have hpk : psq - low - 1 < topP low (psK l l.length) - low := hpk
            have hpv2 : pickV nullX (psK l l.length) psq = (psq, v, pb.xs) := hpv2
            have hvv : pvw ≤ v := hvv
            obtain ⟨d, hd⟩ : ∃ d, d = psq - low - 1 := ⟨_, rfl⟩
            have hw1 := HWN.out.1
            have hd7 : d ≤ 7 := by have := HWN.out.2; omega
            have hql : pn = topP low (psK l l.length) - low := by
              have h1 := congrArg List.length HQS.out
              rw [List.length_map, GQ.len] at h1
              unfold picksV at h1
              rw [List.length_map, List.length_range] at h1
              exact h1
            have hdn : d < pn := by omega
            have hqs : d < qs.length := by rw [GQ.len]; exact hdn
            have hqv : qs[d].pv = (psq, v, pb.xs) := by
              have h1 : (qs.map PA.pv)[d]? = some qs[d].pv := by rw [List.getElem?_map, List.getElem?_eq_getElem hqs]; rfl
              rw [HQS.out] at h1
              unfold picksV at h1
              rw [List.getElem?_map, List.getElem?_range (by omega)] at h1
              have h2 : qs[d].pv = pickV nullX (psK l l.length) (low + d + 1) := (Option.some.inj h1).symm
              have e : low + d + 1 = psq := by omega
              rw [e, hpv2] at h2
              exact h2
            obtain ⟨qb, qoff, rfl, hQ⟩ := GQ.atP (by omega)
            have hqok := GQ.ok _ (List.getElem_mem hqs)
            have hQ := hQ d hqs
            obtain ⟨⟨ysq, yvw, yb⟩, hy⟩ : ∃ y, y = qs[d] := ⟨_, rfl⟩
            rw [← hy] at hQ hqok hqv
            have e1 : ysq = psq := congrArg (fun t => t.1) hqv
            have e2 : yvw = v := congrArg (fun t => t.2.1) hqv
            have e3 : yb.xs = pb.xs := congrArg (fun t => t.2.2) hqv
            have HXS : Hid (yb.xs = pb.xs) := e3
            have hvi : (pvw : Int) ≤ (yvw : Int) := by omega
            have ndi : (d : Int) < (pn : Int) := by omega
            have cgi : ¬ (c : Int) < g := cg
            have mw2 : IntKind.u64.wrap ((psq : Int) - (low : Int)) = (psq : Int) - (low : Int) := mw
            have mw3 : IntKind.u64.wrap ((psq : Int) - (low : Int) - 1) = (d : Nat) := by rw [IntKind.wrap_u64]; omega
            have mw4 : IntKind.i64.wrap (d : Nat) = (d : Nat) := by rw [IntKind.wrap_i64]; omega
            have HYC : Hid (∀ V, Below wr.heap.size wr V → V.cell? ⟨qb, qoff + d * 3, none⟩ = some (.int .u64 (psq : Nat)) ∧ V.cell? ⟨qb, qoff + d * 3 + 1, none⟩ = some (.int .u64 (yvw : Nat)) ∧ V.cell? ⟨qb, qoff + d * 3 + 2, none⟩ = some (.slice yb.ao yb.n yb.cap) ∧ V.cell? ⟨N, 0, none⟩ = some (.int .u64 (psq : Nat)) ∧ V.cell? ⟨N, 1, none⟩ = some (.int .u64 (pvw : Nat)) ∧ V.cell? ⟨N, 2, none⟩ = some (.slice pb.ao pb.n pb.cap)) := fun V hV => by
              have EV := E.trans (hV.mono E.size)
              obtain ⟨y0, y1, y2⟩ := hQ.below EV
              obtain ⟨⟨o0, o1, o2⟩, -⟩ := HPC.out V (E3w.trans (EV.mono E3w.size))
              simp only [Nat.zero_add] at o0 o1 o2
              have y0 : V.cell? ⟨qb, qoff + d * 3, none⟩ = some (.int .u64 (psq : Nat)) := by rw [← e1]; exact y0
              exact ⟨y0, y1, y2, o0, o1, o2⟩
            have HYS : Hid (∀ V, Below wr.heap.size wr V → Sl V yb.ao yb.n yb.cap yb.xs ∧ Sl V pb.ao pb.n pb.cap pb.xs) := fun V hV => by
              have EV := E.trans (hV.mono E.size)
              exact ⟨Sl.below hqok.b EV, (HPC.out V (E3w.trans (EV.mono E3w.size))).2⟩
            clear hpk hpv2 hvv hd hw1 hd7 hql hqs hqv hy hQ hqok e1 e2 e3 cg
            go_wp2_with (go_at_call 16; refine CW.mono ?_; rintro e w5 ⟨rfl, hw9⟩; replace hw9 := hw9.symm; subst hw9)
            clear p0 p1 p2
            have yHS : Hid (∀ V, Below wr.heap.size wr V → V.cell? ⟨qb, qoff + d * 3, none⟩ = some (.int .u64 (psq : Nat)) ∧ V.cell? ⟨qb, qoff + d * 3 + 1, none⟩ = some (.int .u64 (yvw : Nat)) ∧ V.cell? ⟨qb, qoff + d * 3 + 2, none⟩ = some (.slice yb.ao yb.n yb.cap) ∧ V.cell? ⟨N, 0, none⟩ = some (.int .u64 (psq : Nat)) ∧ V.cell? ⟨N, 1, none⟩ = some (.int .u64 (pvw : Nat)) ∧ V.cell? ⟨N, 2, none⟩ = some (.slice pb.ao pb.n pb.cap)) := fun V hV => HYC.out V hV
            have yE0 : Below wr.heap.size wr wr.drew := (Below.refl _ _).drew
            refine wp_region_noPanic ?_
            refine wp_region_held_drew (S := fun V => V.cell? ⟨qb, qoff + d * 3, none⟩ = some (.int .u64 (psq : Nat)) ∧ V.cell? ⟨qb, qoff + d * 3 + 1, none⟩ = some (.int .u64 (yvw : Nat)) ∧ V.cell? ⟨qb, qoff + d * 3 + 2, none⟩ = some (.slice yb.ao yb.n yb.cap) ∧ V.cell? ⟨N, 0, none⟩ = some (.int .u64 (psq : Nat)) ∧ V.cell? ⟨N, 1, none⟩ = some (.int .u64 (pvw : Nat)) ∧ V.cell? ⟨N, 2, none⟩ = some (.slice pb.ao pb.n pb.cap)) (by kernel_rfl) (yHS.out _ yE0) (fun yH0 => ?_)
            obtain ⟨yv0, hv0⟩ : ∃ v, v = wr.drew := ⟨_, rfl⟩
            rw [← hv0] at yH0 yE0 ⊢
            clear hv0
            refine hr_take_w 0 (some 115) (.int .i64 (d : Nat)) rfl rfl (by kernel_rfl) (by kernel_rfl) (by kernel_rfl) rfl (fun W hW => by obtain ⟨h0, h1, h2, h3, h4, h5⟩ := hW; go_simp) yH0 ?_
            simp only [FL]
            refine hr_take_w 1 (some 116) (.slice (some ⟨qb, qoff, none⟩) pn pc) rfl rfl (by kernel_rfl) (by kernel_rfl) (by kernel_rfl) rfl (fun W hW => by obtain ⟨h0, h1, h2, h3, h4, h5⟩ := hW; go_simp) yH0 ?_
            simp only [FL]
            refine hr_take_w 2 (some 117) (.int .i64 pn) rfl rfl (by kernel_rfl) (by kernel_rfl) (by kernel_rfl) rfl (fun W hW => by obtain ⟨h0, h1, h2, h3, h4, h5⟩ := hW; go_simp) yH0 ?_
            simp only [FL]
            refine hr_take_w 3 (some 118) (.bool true) rfl rfl (by kernel_rfl) (by kernel_rfl) (by kernel_rfl) rfl (fun W hW => by obtain ⟨h0, h1, h2, h3, h4, h5⟩ := hW; go_simp) yH0 ?_
            simp only [FL]
            refine hr_take_w 4 (some 119) (.bool true) rfl rfl (by kernel_rfl) (by kernel_rfl) (by kernel_rfl) rfl (fun W hW => by obtain ⟨h0, h1, h2, h3, h4, h5⟩ := hW; go_simp) yH0 ?_
            simp only [FL]
            refine hr_take_w 5 (some 120) (.slice (some ⟨qb, qoff, none⟩) pn pc) rfl rfl (by kernel_rfl) (by kernel_rfl) (by kernel_rfl) rfl (fun W hW => by obtain ⟨h0, h1, h2, h3, h4, h5⟩ := hW; go_simp) yH0 ?_
            simp only [FL]
            refine hr_take_w 6 (some 121) (.int .i64 (d : Nat)) rfl rfl (by kernel_rfl) (by kernel_rfl) (by kernel_rfl) rfl (fun W hW => by obtain ⟨h0, h1, h2, h3, h4, h5⟩ := hW; go_simp) yH0 ?_
            simp only [FL]
            refine hr_take_w 7 (some 122) (.pointer (some ⟨qb, qoff + d * 3, none⟩)) rfl rfl (by kernel_rfl) (by kernel_rfl) (by kernel_rfl) rfl (fun W hW => by obtain ⟨h0, h1, h2, h3, h4, h5⟩ := hW; go_simp) yH0 ?_
            simp only [FL]
            refine hr_take_w 8 (some 123) (.pointer (some ⟨qb, qoff + d * 3, none⟩)) rfl rfl (by kernel_rfl) (by kernel_rfl) (by kernel_rfl) rfl (fun W hW => by obtain ⟨h0, h1, h2, h3, h4, h5⟩ := hW; go_simp) yH0 ?_
            simp only [FL]
            refine hr_take_w 9 (some 124) (.int .u64 (psq : Nat)) rfl rfl (by kernel_rfl) (by kernel_rfl) (by kernel_rfl) rfl (fun W hW => by obtain ⟨h0, h1, h2, h3, h4, h5⟩ := hW; go_simp) yH0 ?_
            simp only [FL]
            refine hr_take_w 10 (some 125) (.pointer (some ⟨N, 0, none⟩)) rfl rfl (by kernel_rfl) (by kernel_rfl) (by kernel_rfl) rfl (fun W hW => by obtain ⟨h0, h1, h2, h3, h4, h5⟩ := hW; go_simp) yH0 ?_
            simp only [FL]
            refine hr_take_w 11 (some 126) (.int .u64 (psq : Nat)) rfl rfl (by kernel_rfl) (by kernel_rfl) (by kernel_rfl) rfl (fun W hW => by obtain ⟨h0, h1, h2, h3, h4, h5⟩ := hW; go_simp) yH0 ?_
            simp only [FL]
            refine hr_take_w 12 (some 127) (.bool true) rfl rfl (by kernel_rfl) (by kernel_rfl) (by kernel_rfl) rfl (fun W hW => by obtain ⟨h0, h1, h2, h3, h4, h5⟩ := hW; go_simp) yH0 ?_
            simp only [FL]
            refine hr_take_w 13 (some 128) (.bool true) rfl rfl (by kernel_rfl) (by kernel_rfl) (by kernel_rfl) rfl (fun W hW => by obtain ⟨h0, h1, h2, h3, h4, h5⟩ := hW; go_simp) yH0 ?_
            simp only [FL]
            refine hr_take_w 14 (some 129) (.bool true) rfl rfl (by kernel_rfl) (by kernel_rfl) (by kernel_rfl) rfl (fun W hW => by obtain ⟨h0, h1, h2, h3, h4, h5⟩ := hW; go_simp) yH0 ?_
            simp only [FL]
            refine hr_take_w 15 (some 130) (.slice (some ⟨qb, qoff, none⟩) pn pc) rfl rfl (by kernel_rfl) (by kernel_rfl) (by kernel_rfl) rfl (fun W hW => by obtain ⟨h0, h1, h2, h3, h4, h5⟩ := hW; go_simp) yH0 ?_
            simp only [FL]
            refine hr_take_w 16 (some 131) (.int .i64 (d : Nat)) rfl rfl (by kernel_rfl) (by kernel_rfl) (by kernel_rfl) rfl (fun W hW => by obtain ⟨h0, h1, h2, h3, h4, h5⟩ := hW; go_simp) yH0 ?_
            simp only [FL]
            refine hr_take_w 17 (some 132) (.pointer (some ⟨qb, qoff + d * 3, none⟩)) rfl rfl (by kernel_rfl) (by kernel_rfl) (by kernel_rfl) rfl (fun W hW => by obtain ⟨h0, h1, h2, h3, h4, h5⟩ := hW; go_simp) yH0 ?_
            simp only [FL]
            refine hr_take_w 18 (some 133) (.pointer (some ⟨qb, qoff + d * 3 + 2, none⟩)) rfl rfl (by kernel_rfl) (by kernel_rfl) (by kernel_rfl) rfl (fun W hW => by obtain ⟨h0, h1, h2, h3, h4, h5⟩ := hW; go_simp) yH0 ?_
            simp only [FL]
            refine hr_take_w 19 (some 134) (.slice yb.ao yb.n yb.cap) rfl rfl (by kernel_rfl) (by kernel_rfl) (by kernel_rfl) rfl (fun W hW => by obtain ⟨h0, h1, h2, h3, h4, h5⟩ := hW; go_simp) yH0 ?_
            simp only [FL]
            refine hr_take_w 20 (some 135) (.pointer (some ⟨N, 2, none⟩)) rfl rfl (by kernel_rfl) (by kernel_rfl) (by kernel_rfl) rfl (fun W hW => by obtain ⟨h0, h1, h2, h3, h4, h5⟩ := hW; go_simp) yH0 ?_
            simp only [FL]
            refine hr_take_w 21 (some 136) (.slice pb.ao pb.n pb.cap) rfl rfl (by kernel_rfl) (by kernel_rfl) (by kernel_rfl) rfl (fun W hW => by obtain ⟨h0, h1, h2, h3, h4, h5⟩ := hW; go_simp) yH0 ?_
            simp only [FL]
            refine hr_call_w 22 (some 137) 13 #[.slice yb.ao yb.n yb.cap, .slice pb.ao pb.n pb.cap] rfl rfl (by kernel_rfl) rfl (by go_simp) (fun v w' => v = .bool true ∧ Below yv0.heap.size yv0 w') (((show Calls Tryd.prog 13 #[.slice yb.ao yb.n yb.cap, .slice pb.ao pb.n pb.cap] yv0 (fun e w' => e = .returned (.bool true) ∧ Below yv0.heap.size yv0 w') from by
              have C := same_any yv0 yb.ao pb.ao yb.n yb.cap pb.n pb.cap yb.xs pb.xs (HYS.out yv0 yE0).1 (HYS.out yv0 yE0).2
              rw [HXS.out, decide_eq_true rfl] at C
              refine C.mono ?_
              rintro e w' ⟨rfl, q, rfl⟩
              exact ⟨rfl, below_drewN _ _ _⟩)).mono (by
              rintro e w' ⟨rfl, C⟩
              exact ⟨_, rfl, rfl, C⟩)) ?_
            rintro v yv1 ⟨rfl, yC0⟩
            have yE1 := yE0.trans (yC0.mono yE0.size)
            have yH1 := yHS.out yv1 yE1
            refine ⟨yH1, ?_⟩
            simp only [FL]
            refine hr_take_w 23 (some 138) (.bool true) rfl rfl (by kernel_rfl) (by kernel_rfl) (by kernel_rfl) rfl (fun W hW => by obtain ⟨h0, h1, h2, h3, h4, h5⟩ := hW; go_simp) yH1 ?_
            simp only [FL]
            refine hr_take_w 24 (some 139) (.bool true) rfl rfl (by kernel_rfl) (by kernel_rfl) (by kernel_rfl) rfl (fun W hW => by obtain ⟨h0, h1, h2, h3, h4, h5⟩ := hW; go_simp) yH1 ?_
            simp only [FL]
            refine hr_take_w 25 (some 140) (.slice (some ⟨qb, qoff, none⟩) pn pc) rfl rfl (by kernel_rfl) (by kernel_rfl) (by kernel_rfl) rfl (fun W hW => by obtain ⟨h0, h1, h2, h3, h4, h5⟩ := hW; go_simp) yH1 ?_
            simp only [FL]
            refine hr_take_w 26 (some 141) (.int .i64 (d : Nat)) rfl rfl (by kernel_rfl) (by kernel_rfl) (by kernel_rfl) rfl (fun W hW => by obtain ⟨h0, h1, h2, h3, h4, h5⟩ := hW; go_simp) yH1 ?_
            simp only [FL]
            refine hr_take_w 27 (some 142) (.pointer (some ⟨qb, qoff + d * 3, none⟩)) rfl rfl (by kernel_rfl) (by kernel_rfl) (by kernel_rfl) rfl (fun W hW => by obtain ⟨h0, h1, h2, h3, h4, h5⟩ := hW; go_simp) yH1 ?_
            simp only [FL]
            refine hr_take_w 28 (some 143) (.pointer (some ⟨qb, qoff + d * 3 + 1, none⟩)) rfl rfl (by kernel_rfl) (by kernel_rfl) (by kernel_rfl) rfl (fun W hW => by obtain ⟨h0, h1, h2, h3, h4, h5⟩ := hW; go_simp) yH1 ?_
            simp only [FL]
            refine hr_take_w 29 (some 144) (.int .u64 (yvw : Nat)) rfl rfl (by kernel_rfl) (by kernel_rfl) (by kernel_rfl) rfl (fun W hW => by obtain ⟨h0, h1, h2, h3, h4, h5⟩ := hW; go_simp) yH1 ?_
            simp only [FL]
            refine hr_take_w 30 (some 145) (.pointer (some ⟨N, 1, none⟩)) rfl rfl (by kernel_rfl) (by kernel_rfl) (by kernel_rfl) rfl (fun W hW => by obtain ⟨h0, h1, h2, h3, h4, h5⟩ := hW; go_simp) yH1 ?_
            simp only [FL]
            refine hr_take_w 31 (some 146) (.int .u64 (pvw : Nat)) rfl rfl (by kernel_rfl) (by kernel_rfl) (by kernel_rfl) rfl (fun W hW => by obtain ⟨h0, h1, h2, h3, h4, h5⟩ := hW; go_simp) yH1 ?_
            simp only [FL]
            refine hr_take_w 32 (some 147) (.bool true) rfl rfl (by kernel_rfl) (by kernel_rfl) (by kernel_rfl) rfl (fun W hW => by obtain ⟨h0, h1, h2, h3, h4, h5⟩ := hW; go_simp) yH1 ?_
            simp only [FL]
            refine hr_take_w 33 (some 148) (.bool true) rfl rfl (by kernel_rfl) (by kernel_rfl) (by kernel_rfl) rfl (fun W hW => by obtain ⟨h0, h1, h2, h3, h4, h5⟩ := hW; go_simp) yH1 ?_
            simp only [FL]
            refine hr_take_w 34 (some 149) (.bool true) rfl rfl (by kernel_rfl) (by kernel_rfl) (by kernel_rfl) rfl (fun W hW => by obtain ⟨h0, h1, h2, h3, h4, h5⟩ := hW; go_simp) yH1 ?_
            simp only [FL]
            refine hr_call_w 35 (some 150) 7 #[] rfl rfl (by kernel_rfl) rfl (by go_simp) (fun v w' => v = .bool true ∧ Below yv1.heap.size yv1 w') (((alive16 yv1 (HTb.out yv1 (E5.trans ((yE1).mono E5.size))))).mono (by
              rintro e w' ⟨rfl, C⟩
              exact ⟨_, rfl, rfl, C⟩)) ?_
            rintro v yv2 ⟨rfl, yC1⟩
            have yE2 := yE1.trans (yC1.mono yE1.size)
            have yH2 := yHS.out yv2 yE2
            refine ⟨yH2, ?_⟩
            simp only [FL]
            refine hr_take_w 36 (some 151) (.bool true) rfl rfl (by kernel_rfl) (by kernel_rfl) (by kernel_rfl) rfl (fun W hW => by obtain ⟨h0, h1, h2, h3, h4, h5⟩ := hW; go_simp) yH2 ?_
            simp only [FL]
            refine hr_take_w 37 (some 6) (.bool true) rfl rfl (by kernel_rfl) (by kernel_rfl) (by kernel_rfl) rfl (fun W hW => by obtain ⟨h0, h1, h2, h3, h4, h5⟩ := hW; go_simp) yH2 ?_
            simp only [FL]
            refine wpAnyH_done (by kernel_rfl) ?_ _
            refine NoPanic.normal ?_
            go_wp2
            go_ret
            exact ⟨rfl, E5.trans (yE2.mono E5.size)⟩
end Go.Proofs.YtdcebokfnbgkaaaDoor

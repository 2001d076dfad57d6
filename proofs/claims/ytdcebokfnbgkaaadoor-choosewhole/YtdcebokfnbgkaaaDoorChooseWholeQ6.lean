/-
  Texts in one: WholeLaw16.
-/
import Derived.Test.YtdcebokfnbgkaaaDoorChooseWholeQFL
import Derived.Test.YtdcebokfnbgkaaaDoorChooseWholeQ2
import Derived.Test.YtdcebokfnbgkaaaDoorChooseWholeQ3
import Derived.Test.YtdcebokfnbgkaaaDoorChooseWholeQ4
import Derived.Test.YtdcebokfnbgkaaaDoorChooseWholeQ5
import Derived.Deep.QuietTactic
import Derived.BigQuiet
namespace Go.Proofs.YtdcebokfnbgkaaaDoor
open Go.RowKit
set_option maxRecDepth 100000 in
set_option maxHeartbeats 16000000 in
theorem chooseWhole_any (w : World) (f : Int) (ao : Option Addr) (n cap : Nat) (l : List CA) (_ : (Lit.int .i64 f).wf = true) (G : GL elC w ao n cap l) (hT : Tabs w) : Calls Tryd.prog 5 #[.int .i64 f, .slice ao n cap] w fun e w' => e = .returned (.bool true) ∧ Below w.heap.size w w' := by
  have CL := light16 w ao n cap l G
  have hl := G.len
  have HTb : Hid (∀ V, Below w.heap.size w V → Tabs V) := fun V hV => hT.below hV hT.two
  go_enter Tryd.func5, Tryd.ntmps5
  go_wp2_with fail
  refine CL.mono ?_
  rintro e w1 ⟨b, rfl, hw1, hlt⟩
  replace hw1 := hw1.symm
  subst hw1
  cases b with
  | false =>
    have CA_ := alive16 w hT
    clear CL hlt
    go_wp2_with (go_at_call 7; refine CA_.mono ?_; rintro e w9 ⟨rfl, E9⟩)
    go_ret
    exact ⟨rfl, E9⟩
  | true =>
    have hL := hlt rfl
    have hsn : ∀ d ∈ l, d.s.l.length = d.s.n := fun d hd => (G.ok d hd).s.len
    have hn20 : n ≤ 20 := by have := hL.1; omega
    have CO := own16 w ao n cap l G (by omega) (fun c hc => by rw [hsn c hc]; have := (hL.2 c hc).1; omega)
    clear CL hlt
    go_wp2_with fail
    refine CO.mono ?_
    rintro e w2 ⟨bo, bc, ys, rfl, GY, hcv, E2⟩
    rw [hl] at GY ⊢
    have hob := own_bounds hcv hL hsn
    have CP := pick_any w2 f bo n bc ys GY (by omega) hob.1 hob.2 (HTb.out w2 E2)
    have HCV : Hid (ys.map CA.cv = l.map CA.cv) := hcv
    clear CO GY hob hcv
    go_wp2_with fail
    refine CP.mono ?_
    rintro e w3 ⟨E3, ⟨hb, rfl⟩ | ⟨hb, po, pn, pc, qs, rfl, GQ, hqs⟩⟩
    · have E3 := E2.trans (E3.mono E2.size)
      have CA_ := alive16 w3 (HTb.out w3 E3)
      clear CP hb
      go_wp2_with (go_at_call 7; refine CA_.mono ?_; rintro e w9 ⟨rfl, E9⟩)
      go_ret
      exact ⟨rfl, E3.trans (E9.mono E3.size)⟩
    · rw [HCV.out] at hqs ⊢
      have E3 := E2.trans (E3.mono E2.size)
      obtain ⟨low, hlow⟩ : ∃ v, v = lowC (l.map CA.cv) := ⟨_, rfl⟩
      have HLOW : Hid (∀ c ∈ l, c.low ≤ low) := fun c hc => by
        have := lowC_ge (l.map CA.cv) _ (List.mem_map.2 ⟨c, hc, rfl⟩)
        rw [hlow]
        exact this
      have hlow64 : low < 18446744073709551616 := by
        rw [hlow]
        refine lowC_lt _ fun c hc => ?_
        obtain ⟨x, hx, rfl⟩ := List.mem_map.1 hc
        exact (G.ok x hx).low
      rw [← hlow] at hqs ⊢
      have hql : pn ≤ 8 := by
        have h1 := congrArg List.length hqs
        rw [List.length_map, GQ.len] at h1
        unfold picksV at h1
        rw [List.length_map, List.length_range] at h1
        have := topP_le low (allP (l.map CA.cv))
        omega
      have HQS : Hid (∀ i (hi : i < qs.length), qs[i].pv = pickV nullX (psK l l.length) (low + i + 1)) := fun i hi => by
        have h1 : (qs.map PA.pv)[i]? = some qs[i].pv := by rw [List.getElem?_map, List.getElem?_eq_getElem hi]; rfl
        rw [hqs] at h1
        unfold picksV at h1
        rw [List.getElem?_map] at h1
        have hi2 : i < topP low (allP (l.map CA.cv)) - low := by
          have h2 := congrArg List.length hqs
          unfold picksV at h2
          rw [List.length_map, List.length_map, List.length_range] at h2
          omega
        rw [List.getElem?_range hi2] at h1
        rw [psK_all]
        exact (Option.some.inj h1).symm
      have pi8 : ¬ (8 : Int) < (pn : Int) := by omega
      have hqn := GQ.len
      have hsz := E3.size
      have I0 : W1 w3 pn (.int .i64 0) w3 := W1.mk 0 (Nat.zero_le _) rfl (Below.refl _ _)
      clear CP hb hqs hlow
      go_wp2_with fail
      go_loopw [8] (fun i wr => W1 w3 pn i wr) (fun i _ => pn - (intOf i).toNat)
      case atStart => exact I0
      case round =>
        clear I0
        obtain ⟨i, hi, rfl, E⟩ := hrel
        by_cases hil : i < pn
        · have hii : (i : Int) < (pn : Int) := by omega
          obtain ⟨qb, qoff, rfl, hQ⟩ := GQ.atP (by omega)
          have HQ : Hid (∀ V, Below w3.heap.size w3 V → PX V qb (qoff + i * 3) (qs[i]'(by omega))) := fun V hV => (hQ i (by omega)).below hV
          have hqok := GQ.ok _ (List.getElem_mem (show i < qs.length by omega))
          have hqv := HQS.out i (by omega)
          obtain ⟨⟨ysq, yvw, yb⟩, hy⟩ : ∃ y, y = qs[i]'(by omega) := ⟨_, rfl⟩
          rw [← hy] at HQ hqok hqv
          have HYC : Hid (∀ V, Below w3.heap.size w3 V → V.cell? ⟨qb, qoff + i * 3, none⟩ = some (.int .u64 (ysq : Nat)) ∧ V.cell? ⟨qb, qoff + i * 3 + 2, none⟩ = some (.slice yb.ao yb.n yb.cap)) := fun V hV => ⟨(HQ.out V hV).c0, (HQ.out V hV).c2⟩
          have HYS : Hid (∀ V, Below w3.heap.size w3 V → Sl V yb.ao yb.n yb.cap yb.xs) := fun V hV => Sl.below hqok.b hV
          have HPH : Hid (_) := pick_has hqv
          have J0 : W2 w3 l ⟨ysq, yvw, yb⟩ (.bool false) (.bool false) (.int .i64 0) _ := W2.start E
          clear hQ hy hqok hqv E
          go_wp2_with fail
          go_loopw [9, 10, 11] (fun is so j wq => W2 w3 l ⟨ysq, yvw, yb⟩ is so j wq) (fun _ _ j _ => n - (intOf j).toNat)
          case atStart => exact J0
          case round =>
            clear J0
            obtain ⟨j, hj, rfl, rfl, rfl, E⟩ := hrel
            by_cases hjl : j < n
            · 
              obtain ⟨b, off, rfl, hX⟩ := G.atC (by omega)
              have hjx : j < l.length := by omega
              have hok := G.ok _ (List.getElem_mem hjx)
              have hlo := HLOW.out _ (List.getElem_mem hjx)
              obtain ⟨⟨cf, cl, cz, ⟨sao, sn, scap, sl⟩⟩, ho⟩ : ∃ o, o = l[j] := ⟨_, rfl⟩
              have hX := hX j hjx
              rw [← ho] at hX hok hlo
              have HO : Hid (l[j].s.l = sl) := by show _ = _; rw [← ho]
              have hsl : sl.length = sn := hok.s.len
              have hs20 : sn ≤ 20 := by have := (hL.2 _ (List.getElem_mem hjx)).1; rw [← ho] at this; exact this
              have HCX : Hid (∀ V, Below w3.heap.size w3 V → CX V b (off + j * 4) ⟨cf, cl, cz, ⟨sao, sn, scap, sl⟩⟩) := fun V hV => hX.below (E3.trans (hV.mono hsz))
              have HSG : Hid (GL elP w sao sn scap sl) := hok.s
              obtain ⟨q0, q1, q2, q3⟩ := HCX.out _ E
              have i1 : ¬ (low : Int) < (cl : Int) := by have : cl ≤ low := hlo; omega
              have hjii : (j : Int) < (n : Int) := by omega
              obtain ⟨ps, hps⟩ : ∃ ps, ps = psK l j := ⟨_, rfl⟩
              have HPS : Hid (ps = psK l j) := hps
              rw [← hps]
              have K0 : W3 w3 ps sl ⟨ysq, yvw, yb⟩ (.bool (isQ ps ⟨ysq, yvw, yb⟩)) (.bool (hasQ ps ysq)) (.int .i64 0) wr := W3.start E
              obtain ⟨iz0, hiz0⟩ : ∃ v, v = isQ ps ⟨ysq, yvw, yb⟩ := ⟨_, rfl⟩
              obtain ⟨so0, hso0⟩ : ∃ v, v = hasQ ps ysq := ⟨_, rfl⟩
              have K0 : W3 w3 ps sl ⟨ysq, yvw, yb⟩ (.bool iz0) (.bool so0) (.int .i64 0) wr := by rw [hiz0, hso0]; exact K0
              rw [← hiz0, ← hso0]
              clear hX hok hlo ho hps hiz0 hso0 E
              go_wp2_with fail
              clear q0 q1 q2 q3
              go_loopw [9, 10, 12] (fun is so x wq => W3 w3 ps sl ⟨ysq, yvw, yb⟩ is so x wq) (fun _ _ x _ => sn - (intOf x).toNat)
              case atStart => exact K0
              case round =>
                clear K0
                obtain ⟨x, hx, rfl, hiz, hso, E⟩ := hrel
                obtain ⟨iz, hize⟩ : ∃ v, v = isQ (ps ++ sl.take x) ⟨ysq, yvw, yb⟩ := ⟨_, rfl⟩
                obtain ⟨so, hsoe⟩ : ∃ v, v = hasQ (ps ++ sl.take x) ysq := ⟨_, rfl⟩
                have HIZ : Hid (iz = isQ (ps ++ sl.take x) ⟨ysq, yvw, yb⟩) := hize
                have HSO : Hid (so = hasQ (ps ++ sl.take x) ysq) := hsoe
                have HIH : Hid (iz = true → so = true) := fun e => by rw [hsoe]; exact is_has (by rw [← hize]; exact e)
                rw [← hize] at hiz
                rw [show hasQ (ps ++ sl.take x) (⟨ysq, yvw, yb⟩ : PA).sq = so from hsoe.symm] at hso
                subst hiz hso
                clear hize hsoe
                by_cases hxl : x < sl.length
                · have hxi : (x : Int) < (sn : Int) := by omega
                  obtain ⟨pb, poff, rfl, hP⟩ := HSG.out.atP (by omega)
                  have hpok := HSG.out.ok _ (List.getElem_mem hxl)
                  have hP := hP x hxl
                  obtain ⟨⟨psq, pvw, pbs⟩, hp⟩ : ∃ p, p = sl[x] := ⟨_, rfl⟩
                  rw [← hp] at hP hpok
                  obtain ⟨p0, p1, p2⟩ := hP.below (E3.trans (E.mono hsz))
                  obtain ⟨q0, q1, q2, q3⟩ := HCX.out _ E
                  obtain ⟨WC, hWC⟩ : ∃ W, W = wr.alloc (.cells #[.int .u64 (psq : Nat), .int .u64 (pvw : Nat), .slice pbs.ao pbs.n pbs.cap] 42) := ⟨_, rfl⟩
                  have C1 : Below wr.heap.size wr WC := by rw [hWC]; exact (Below.refl _ _).alloc (Nat.le_refl _) _
                  have AC : Arr WC wr.heap.size 42 [.int .u64 (psq : Nat), .int .u64 (pvw : Nat), .slice pbs.ao pbs.n pbs.cap] := by rw [hWC]; exact heap_alloc_new wr _
                  have EC := E.trans (C1.mono E.size)
                  have HOC : Hid (∀ V, Below WC.heap.size WC V → PX V wr.heap.size 0 ⟨psq, pvw, pbs⟩ ∧ PX V qb (qoff + i * 3) ⟨ysq, yvw, yb⟩ ∧ Sl V pbs.ao pbs.n pbs.cap pbs.xs ∧ Sl V yb.ao yb.n yb.cap yb.xs ∧ Below w3.heap.size w3 V) := fun V hV => by
                    have EV := EC.trans (hV.mono EC.size)
                    have A := Arr.below AC hV AC.lt
                    refine ⟨⟨?_, ?_, ?_⟩, HQ.out V EV, Sl.below hpok.b (E3.trans (EV.mono hsz)), HYS.out V EV, EV⟩
                    · rw [A.cell]; rfl
                    · rw [A.cell]; rfl
                    · rw [A.cell]; rfl
                  have HPE : Hid (sl[x] = ⟨psq, pvw, pbs⟩) := hp.symm
                  clear hpok hP hp C1 AC EC E
                  go_wp2_with fail
                  rw [← hWC]
                  clear hWC q0 q1 q2 q3 p0 p1 p2
                  obtain ⟨⟨o0, o1, o2⟩, ⟨y0, y1, y2⟩, -, -, EC⟩ := HOC.out WC (Below.refl _ _)
                  simp only [Nat.zero_add] at o1 o2
                  have RL : ∀ (a b i : Value) (V : World), i = .int .i64 ((x + 1 : Nat) : Int) → a = .bool (iz || (decide (psq = ysq) && (decide (pvw = yvw) && decide (pbs.xs = yb.xs)))) → b = .bool (so || decide (psq = ysq)) → Below WC.heap.size WC V → W3 w3 ps sl ⟨ysq, yvw, yb⟩ a b i V := fun a b i V h1 h2 h3 h4 => W3.next x hxl h1 (by rw [h2, HIZ.out, HPE.out]) (by rw [h3, HSO.out, HPE.out]) (HOC.out V h4).2.2.2.2
                  have HRL : Hid (∀ (a b i : Value) (V : World), i = .int .i64 ((x + 1 : Nat) : Int) → a = .bool (iz || (decide (psq = ysq) && (decide (pvw = yvw) && decide (pbs.xs = yb.xs)))) → b = .bool (so || decide (psq = ysq)) → Below WC.heap.size WC V → W3 w3 ps sl ⟨ysq, yvw, yb⟩ a b i V) := RL
                  clear RL
                  by_cases e0 : psq = ysq
                  · have D0 : Hid (decide (psq = ysq) = true) := decide_eq_true e0
                    rw [e0] at o0
                    cases so with
                    | true =>
                      cases iz with
                      | true =>
                        clear e0
                        go_wp2_with fail
                        go_quiet (fail)
                        obtain ⟨WD, hWD⟩ : ∃ v, v = WC.drewN nq := ⟨_, rfl⟩
                        have CD : Below WC.heap.size WC WD := by rw [hWD]; exact below_drewN _ _ _
                        rw [← hWD]
                        clear hWD o1 o2 y1 y2 o0 y0
                        have o0 := (HOC.out WD CD).1.c0
                        have o1 := (HOC.out WD CD).1.c1
                        have o2 := (HOC.out WD CD).1.c2
                        simp only [Nat.zero_add] at o1 o2
                        have y0 := (HOC.out WD CD).2.1.c0
                        have y1 := (HOC.out WD CD).2.1.c1
                        have y2 := (HOC.out WD CD).2.1.c2
                        go_wp2_with fail
                        go_quiet (fail)
                        clear o0 o1 o2 y0 y1 y2
                        go_wp2
                        all_goals (try go_big_round)
                        all_goals refine ⟨?_, ?_⟩
                        all_goals first
                          | exact HRL.out _ _ _ _ (by go_num) (by rfl) (by rfl) (CD.trans (below_drewN WD nq _))
                          | (simp [intOf]; omega)
                      | false =>
                        by_cases e1 : pvw = yvw
                        · have D1 : Hid (decide (pvw = yvw) = true) := decide_eq_true e1
                          rw [e1] at o1
                          clear e0 e1
                          go_wp2_with fail
                          go_quiet (fail)
                          obtain ⟨WD, hWD⟩ : ∃ v, v = WC.drewN nq := ⟨_, rfl⟩
                          have CD : Below WC.heap.size WC WD := by rw [hWD]; exact below_drewN _ _ _
                          rw [← hWD]
                          clear hWD o1 o2 y1 y2 o0 y0
                          have o0 := (HOC.out WD CD).1.c0
                          have o1 := (HOC.out WD CD).1.c1
                          have o2 := (HOC.out WD CD).1.c2
                          simp only [Nat.zero_add] at o1 o2
                          have y0 := (HOC.out WD CD).2.1.c0
                          have y1 := (HOC.out WD CD).2.1.c1
                          have y2 := (HOC.out WD CD).2.1.c2
                          have e0 := of_decide_eq_true D0.out
                          rw [e0] at o0
                          have e1 := of_decide_eq_true D1.out
                          rw [e1] at o1
                          clear e0 e1
                          obtain ⟨dx, hdx⟩ : ∃ v, v = decide (pbs.xs = yb.xs) := ⟨_, rfl⟩
                          have HDX : Hid (dx = decide (pbs.xs = yb.xs)) := hdx
                          have CS : ∀ m : Nat, Calls Tryd.prog 13 #[.slice pbs.ao pbs.n pbs.cap, .slice yb.ao yb.n yb.cap] (WD.drewN m) fun e w' => e = .returned (.bool dx) ∧ ∃ q, w' = (WD.drewN m).drewN q := fun m => by
                            rw [hdx]
                            exact same_any (WD.drewN m) _ _ _ _ _ _ pbs.xs yb.xs (Sl.below (HOC.out WD CD).2.2.1 (below_drewN WD m _)) (Sl.below (HOC.out WD CD).2.2.2.1 (below_drewN WD m _))
                          clear hdx
                          go_wp2_with fail
                          go_quiet ((go_at_call 13; exact Calls.quiet_of (CS _)))
                          clear o0 o1 o2 y0 y1 y2
                          go_wp2
                          all_goals (try go_big_round)
                          all_goals refine ⟨?_, ?_⟩
                          all_goals first
                            | exact HRL.out _ _ _ _ (by go_num) (by rw [D0.out, D1.out, ← HDX.out] <;> rfl) (by rfl) (CD.trans (below_drewN WD nq _))
                            | (simp [intOf]; omega)
                        · have D1 : Hid (decide (pvw = yvw) = false) := decide_eq_false e1
                          have x3 : decide (pvw = yvw) = false := decide_eq_false e1
                          have x4 : decide ((pvw : Int) = (yvw : Int)) = false := decide_eq_false (by omega)
                          have x8 : ((pvw : Int) == (yvw : Int)) = false := beq_eq_false_iff_ne.2 (by omega)
                          have x9 : (pvw == yvw) = false := beq_eq_false_iff_ne.2 e1
                          clear e0 e1
                          go_wp2_with fail
                          go_quiet (fail)
                          obtain ⟨WD, hWD⟩ : ∃ v, v = WC.drewN nq := ⟨_, rfl⟩
                          have CD : Below WC.heap.size WC WD := by rw [hWD]; exact below_drewN _ _ _
                          rw [← hWD]
                          clear hWD o1 o2 y1 y2 o0 y0
                          have o0 := (HOC.out WD CD).1.c0
                          have o1 := (HOC.out WD CD).1.c1
                          have o2 := (HOC.out WD CD).1.c2
                          simp only [Nat.zero_add] at o1 o2
                          have y0 := (HOC.out WD CD).2.1.c0
                          have y1 := (HOC.out WD CD).2.1.c1
                          have y2 := (HOC.out WD CD).2.1.c2
                          have e0 := of_decide_eq_true D0.out
                          rw [e0] at o0
                          clear e0
                          go_wp2_with fail
                          go_quiet (fail)
                          clear o0 o1 o2 y0 y1 y2
                          go_wp2
                          all_goals (try go_big_round)
                          all_goals refine ⟨?_, ?_⟩
                          all_goals first
                            | exact HRL.out _ _ _ _ (by go_num) (by rw [D0.out, D1.out] <;> rfl) (by rfl) (CD.trans (below_drewN WD nq _))
                            | (simp [intOf]; omega)
                    | false =>
                      cases iz with
                      | true => exact absurd (HIH.out rfl) (by decide)
                      | false =>
                        by_cases e1 : pvw = yvw
                        · have D1 : Hid (decide (pvw = yvw) = true) := decide_eq_true e1
                          rw [e1] at o1
                          clear e0 e1
                          go_wp2_with fail
                          go_quiet (fail)
                          obtain ⟨WD, hWD⟩ : ∃ v, v = WC.drewN nq := ⟨_, rfl⟩
                          have CD : Below WC.heap.size WC WD := by rw [hWD]; exact below_drewN _ _ _
                          rw [← hWD]
                          clear hWD o1 o2 y1 y2 o0 y0
                          have o0 := (HOC.out WD CD).1.c0
                          have o1 := (HOC.out WD CD).1.c1
                          have o2 := (HOC.out WD CD).1.c2
                          simp only [Nat.zero_add] at o1 o2
                          have y0 := (HOC.out WD CD).2.1.c0
                          have y1 := (HOC.out WD CD).2.1.c1
                          have y2 := (HOC.out WD CD).2.1.c2
                          have e0 := of_decide_eq_true D0.out
                          rw [e0] at o0
                          have e1 := of_decide_eq_true D1.out
                          rw [e1] at o1
                          clear e0 e1
                          obtain ⟨dx, hdx⟩ : ∃ v, v = decide (pbs.xs = yb.xs) := ⟨_, rfl⟩
                          have HDX : Hid (dx = decide (pbs.xs = yb.xs)) := hdx
                          have CS : ∀ m : Nat, Calls Tryd.prog 13 #[.slice pbs.ao pbs.n pbs.cap, .slice yb.ao yb.n yb.cap] (WD.drewN m) fun e w' => e = .returned (.bool dx) ∧ ∃ q, w' = (WD.drewN m).drewN q := fun m => by
                            rw [hdx]
                            exact same_any (WD.drewN m) _ _ _ _ _ _ pbs.xs yb.xs (Sl.below (HOC.out WD CD).2.2.1 (below_drewN WD m _)) (Sl.below (HOC.out WD CD).2.2.2.1 (below_drewN WD m _))
                          clear hdx
                          go_wp2_with fail
                          go_quiet ((go_at_call 13; exact Calls.quiet_of (CS _)))
                          clear o0 o1 o2 y0 y1 y2
                          go_wp2
                          all_goals (try go_big_round)
                          all_goals refine ⟨?_, ?_⟩
                          all_goals first
                            | exact HRL.out _ _ _ _ (by go_num) (by rw [D0.out, D1.out, ← HDX.out] <;> rfl) (by rw [D0.out] <;> rfl) (CD.trans (below_drewN WD nq _))
                            | (simp [intOf]; omega)
                        · have D1 : Hid (decide (pvw = yvw) = false) := decide_eq_false e1
                          have x3 : decide (pvw = yvw) = false := decide_eq_false e1
                          have x4 : decide ((pvw : Int) = (yvw : Int)) = false := decide_eq_false (by omega)
                          have x8 : ((pvw : Int) == (yvw : Int)) = false := beq_eq_false_iff_ne.2 (by omega)
                          have x9 : (pvw == yvw) = false := beq_eq_false_iff_ne.2 e1
                          clear e0 e1
                          go_wp2_with fail
                          go_quiet (fail)
                          obtain ⟨WD, hWD⟩ : ∃ v, v = WC.drewN nq := ⟨_, rfl⟩
                          have CD : Below WC.heap.size WC WD := by rw [hWD]; exact below_drewN _ _ _
                          rw [← hWD]
                          clear hWD o1 o2 y1 y2 o0 y0
                          have o0 := (HOC.out WD CD).1.c0
                          have o1 := (HOC.out WD CD).1.c1
                          have o2 := (HOC.out WD CD).1.c2
                          simp only [Nat.zero_add] at o1 o2
                          have y0 := (HOC.out WD CD).2.1.c0
                          have y1 := (HOC.out WD CD).2.1.c1
                          have y2 := (HOC.out WD CD).2.1.c2
                          have e0 := of_decide_eq_true D0.out
                          rw [e0] at o0
                          clear e0
                          go_wp2_with fail
                          go_quiet (fail)
                          clear o0 o1 o2 y0 y1 y2
                          go_wp2
                          all_goals (try go_big_round)
                          all_goals refine ⟨?_, ?_⟩
                          all_goals first
                            | exact HRL.out _ _ _ _ (by go_num) (by rw [D0.out, D1.out] <;> rfl) (by rw [D0.out] <;> rfl) (CD.trans (below_drewN WD nq _))
                            | (simp [intOf]; omega)
                  · have D0 : Hid (decide (psq = ysq) = false) := decide_eq_false e0
                    have z3 : decide (psq = ysq) = false := decide_eq_false e0
                    have z4 : decide ((psq : Int) = (ysq : Int)) = false := decide_eq_false (by omega)
                    have z8 : ((psq : Int) == (ysq : Int)) = false := beq_eq_false_iff_ne.2 (by omega)
                    have z9 : (psq == ysq) = false := beq_eq_false_iff_ne.2 e0
                    cases so with
                    | true =>
                      cases iz with
                      | true =>
                        clear e0
                        go_wp2_with fail
                        go_quiet (fail)
                        obtain ⟨WD, hWD⟩ : ∃ v, v = WC.drewN nq := ⟨_, rfl⟩
                        have CD : Below WC.heap.size WC WD := by rw [hWD]; exact below_drewN _ _ _
                        rw [← hWD]
                        clear hWD o1 o2 y1 y2 o0 y0
                        have o0 := (HOC.out WD CD).1.c0
                        have o1 := (HOC.out WD CD).1.c1
                        have o2 := (HOC.out WD CD).1.c2
                        simp only [Nat.zero_add] at o1 o2
                        have y0 := (HOC.out WD CD).2.1.c0
                        have y1 := (HOC.out WD CD).2.1.c1
                        have y2 := (HOC.out WD CD).2.1.c2
                        go_wp2_with fail
                        go_quiet (fail)
                        clear o0 o1 o2 y0 y1 y2
                        go_wp2
                        all_goals (try go_big_round)
                        all_goals refine ⟨?_, ?_⟩
                        all_goals first
                          | exact HRL.out _ _ _ _ (by go_num) (by rfl) (by rfl) (CD.trans (below_drewN WD nq _))
                          | (simp [intOf]; omega)
                      | false =>
                        clear e0
                        go_wp2_with fail
                        go_quiet (fail)
                        obtain ⟨WD, hWD⟩ : ∃ v, v = WC.drewN nq := ⟨_, rfl⟩
                        have CD : Below WC.heap.size WC WD := by rw [hWD]; exact below_drewN _ _ _
                        rw [← hWD]
                        clear hWD o1 o2 y1 y2 o0 y0
                        have o0 := (HOC.out WD CD).1.c0
                        have o1 := (HOC.out WD CD).1.c1
                        have o2 := (HOC.out WD CD).1.c2
                        simp only [Nat.zero_add] at o1 o2
                        have y0 := (HOC.out WD CD).2.1.c0
                        have y1 := (HOC.out WD CD).2.1.c1
                        have y2 := (HOC.out WD CD).2.1.c2
                        go_wp2_with fail
                        go_quiet (fail)
                        clear o0 o1 o2 y0 y1 y2
                        go_wp2
                        all_goals (try go_big_round)
                        all_goals refine ⟨?_, ?_⟩
                        all_goals first
                          | exact HRL.out _ _ _ _ (by go_num) (by rw [D0.out] <;> rfl) (by rw [D0.out] <;> rfl) (CD.trans (below_drewN WD nq _))
                          | (simp [intOf]; omega)
                    | false =>
                      cases iz with
                      | true => exact absurd (HIH.out rfl) (by decide)
                      | false =>
                        clear e0
                        go_wp2_with fail
                        go_quiet (fail)
                        obtain ⟨WD, hWD⟩ : ∃ v, v = WC.drewN nq := ⟨_, rfl⟩
                        have CD : Below WC.heap.size WC WD := by rw [hWD]; exact below_drewN _ _ _
                        rw [← hWD]
                        clear hWD o1 o2 y1 y2 o0 y0
                        have o0 := (HOC.out WD CD).1.c0
                        have o1 := (HOC.out WD CD).1.c1
                        have o2 := (HOC.out WD CD).1.c2
                        simp only [Nat.zero_add] at o1 o2
                        have y0 := (HOC.out WD CD).2.1.c0
                        have y1 := (HOC.out WD CD).2.1.c1
                        have y2 := (HOC.out WD CD).2.1.c2
                        go_wp2_with fail
                        go_quiet (fail)
                        clear o0 o1 o2 y0 y1 y2
                        go_wp2
                        all_goals (try go_big_round)
                        all_goals refine ⟨?_, ?_⟩
                        all_goals first
                          | exact HRL.out _ _ _ _ (by go_num) (by rw [D0.out] <;> rfl) (by rw [D0.out] <;> rfl) (CD.trans (below_drewN WD nq _))
                          | (simp [intOf]; omega)
                · have hxi : ¬ (x : Int) < (sn : Int) := by omega
                  obtain ⟨q0, q1, q2, q3⟩ := HCX.out _ E
                  go_wp2
                  have RL : ∀ i : Value, i = .int .i64 ((j + 1 : Nat) : Int) → W2 w3 l ⟨ysq, yvw, yb⟩ (.bool iz) (.bool so) i wr := fun i hi => W3.done hjx HO.out (x := x) (by omega) hi (by rw [HIZ.out, HPS.out]) (by rw [HSO.out, HPS.out]) E
                  all_goals (try go_big_round)
                  all_goals refine ⟨?_, ?_⟩
                  all_goals first
                    | exact RL _ (by go_num)
                    | (simp [intOf]; omega)
            · 
              have hjii : ¬ (j : Int) < (n : Int) := by omega
              have hjl : j = l.length := by omega
              subst hjl
              obtain ⟨m, hm⟩ : ∃ m, m = i + 1 := ⟨_, rfl⟩
              obtain ⟨hyq0, hph⟩ := HPH.out
              have hyq : ysq = low + i + 1 := hyq0
              clear hyq0
              have hqk := (GQ.ok _ (List.getElem_mem (show i < qs.length by omega))).sq
              have aw : IntKind.i64.wrap ((i : Int) + 1) = (m : Int) := by rw [IntKind.wrap_i64]; omega
              have cw : IntKind.u64.wrap (m : Int) = (m : Int) := by rw [IntKind.wrap_u64]; omega
              have mw : IntKind.u64.wrap ((ysq : Int) - (low : Int)) = (m : Int) := by rw [IntKind.wrap_u64]; omega
              have HM : Hid (m = i + 1) := hm
              have RL : ∀ (v : Value) (V : World), v = .int .i64 (m : Nat) → Below wr.heap.size wr V → W1 w3 pn v V := fun v V h1 h2 => W1.mk (i + 1) hil (by rw [h1, hm]) (E.trans (h2.mono E.size))
              have HRL : Hid (∀ (v : Value) (V : World), v = .int .i64 (m : Nat) → Below wr.heap.size wr V → W1 w3 pn v V) := RL
              clear RL hm hqk hyq
              rcases hph with ⟨h1, h2⟩ | ⟨h1, h2⟩
              · have h1 : hasQ (psK l l.length) ysq = true := h1
                rw [h1, h2]
                obtain ⟨y0, y2⟩ := HYC.out _ E
                clear h1 h2
                go_wp2_with fail
                go_quiet (fail)
                have BN : Below wr.heap.size wr (wr.drewN nq) := below_drewN _ _ _
                clear y0 y2
                go_wp2
                all_goals (try go_big_round)
                all_goals refine ⟨?_, ?_⟩
                all_goals first
                  | exact HRL.out _ _ (by go_num) BN
                  | (have hm := HM.out; simp [intOf]; omega)
              · have h1 : hasQ (psK l l.length) ysq = false := h1
                have h3 : isQ (psK l l.length) ⟨ysq, yvw, yb⟩ = false := by
                  cases hh : isQ (psK l l.length) ⟨ysq, yvw, yb⟩ with
                  | false => rfl
                  | true => rw [is_has hh] at h1; cases h1
                rw [h1, h3]
                have HNX : Hid (yb.xs = nullX) := h2
                have HTw : Hid (∀ V, Below w3.heap.size w3 V → Tabs V) := fun V hV => HTb.out V (E3.trans (hV.mono hsz))
                clear h1 h2 h3
                go_wp2_with fail
                have yHS : Hid (∀ V, Below wr.heap.size wr V → V.cell? ⟨qb, qoff + i * 3, none⟩ = some (.int .u64 (ysq : Nat)) ∧ V.cell? ⟨qb, qoff + i * 3 + 2, none⟩ = some (.slice yb.ao yb.n yb.cap)) := fun V hV => HYC.out V (E.trans (hV.mono E.size))
                have yE0 : Below wr.heap.size wr wr.drew := (Below.refl _ _).drew
                refine wp_region_noPanic ?_
                refine wp_region_held_drew (S := fun V => V.cell? ⟨qb, qoff + i * 3, none⟩ = some (.int .u64 (ysq : Nat)) ∧ V.cell? ⟨qb, qoff + i * 3 + 2, none⟩ = some (.slice yb.ao yb.n yb.cap)) (by kernel_rfl) (yHS.out _ yE0) (fun yH0 => ?_)
                obtain ⟨yv0, hv0⟩ : ∃ v, v = wr.drew := ⟨_, rfl⟩
                rw [← hv0] at yH0 yE0 ⊢
                clear hv0
                refine hr_take_w 0 (some 124) (.slice (some ⟨qb, qoff, none⟩) pn pc) rfl rfl (by kernel_rfl) (by kernel_rfl) (by kernel_rfl) rfl (fun W hW => by obtain ⟨h0, h1⟩ := hW; go_simp) yH0 ?_
                simp only [FL]
                refine hr_take_w 1 (some 125) (.int .i64 (i : Nat)) rfl rfl (by kernel_rfl) (by kernel_rfl) (by kernel_rfl) rfl (fun W hW => by obtain ⟨h0, h1⟩ := hW; go_simp) yH0 ?_
                simp only [FL]
                refine hr_take_w 2 (some 126) (.pointer (some ⟨qb, qoff + i * 3, none⟩)) rfl rfl (by kernel_rfl) (by kernel_rfl) (by kernel_rfl) rfl (fun W hW => by obtain ⟨h0, h1⟩ := hW; go_simp) yH0 ?_
                simp only [FL]
                refine hr_take_w 3 (some 127) (.pointer (some ⟨qb, qoff + i * 3, none⟩)) rfl rfl (by kernel_rfl) (by kernel_rfl) (by kernel_rfl) rfl (fun W hW => by obtain ⟨h0, h1⟩ := hW; go_simp) yH0 ?_
                simp only [FL]
                refine hr_take_w 4 (some 128) (.int .u64 (ysq : Nat)) rfl rfl (by kernel_rfl) (by kernel_rfl) (by kernel_rfl) rfl (fun W hW => by obtain ⟨h0, h1⟩ := hW; go_simp) yH0 ?_
                simp only [FL]
                refine hr_take_w 5 (some 129) (.int .u64 (low : Nat)) rfl rfl (by kernel_rfl) (by kernel_rfl) (by kernel_rfl) rfl (fun W hW => by obtain ⟨h0, h1⟩ := hW; go_simp) yH0 ?_
                simp only [FL]
                refine hr_take_w 6 (some 130) (.int .u64 (m : Nat)) rfl rfl (by kernel_rfl) (by kernel_rfl) (by kernel_rfl) rfl (fun W hW => by obtain ⟨h0, h1⟩ := hW; go_simp) yH0 ?_
                simp only [FL]
                refine hr_take_w 7 (some 131) (.int .i64 (i : Nat)) rfl rfl (by kernel_rfl) (by kernel_rfl) (by kernel_rfl) rfl (fun W hW => by obtain ⟨h0, h1⟩ := hW; go_simp) yH0 ?_
                simp only [FL]
                refine hr_take_w 8 (some 132) (.int .i64 (m : Nat)) rfl rfl (by kernel_rfl) (by kernel_rfl) (by kernel_rfl) rfl (fun W hW => by obtain ⟨h0, h1⟩ := hW; go_simp) yH0 ?_
                simp only [FL]
                refine hr_take_w 9 (some 133) (.int .u64 (m : Nat)) rfl rfl (by kernel_rfl) (by kernel_rfl) (by kernel_rfl) rfl (fun W hW => by obtain ⟨h0, h1⟩ := hW; go_simp) yH0 ?_
                simp only [FL]
                refine hr_take_w 10 (some 134) (.bool false) rfl rfl (by kernel_rfl) (by kernel_rfl) (by kernel_rfl) rfl (fun W hW => by obtain ⟨h0, h1⟩ := hW; go_simp) yH0 ?_
                simp only [FL]
                refine hr_take_w 11 (some 135) (.bool false) rfl rfl (by kernel_rfl) (by kernel_rfl) (by kernel_rfl) rfl (fun W hW => by obtain ⟨h0, h1⟩ := hW; go_simp) yH0 ?_
                simp only [FL]
                refine hr_take_w 12 (some 136) (.bool false) rfl rfl (by kernel_rfl) (by kernel_rfl) (by kernel_rfl) rfl (fun W hW => by obtain ⟨h0, h1⟩ := hW; go_simp) yH0 ?_
                simp only [FL]
                refine hr_take_w 13 (some 137) (.bool false) rfl rfl (by kernel_rfl) (by kernel_rfl) (by kernel_rfl) rfl (fun W hW => by obtain ⟨h0, h1⟩ := hW; go_simp) yH0 ?_
                simp only [FL]
                refine hr_none 14 (some 138) rfl rfl (by kernel_rfl) (by kernel_rfl) (by kernel_rfl) rfl yH0 ?_
                simp only [FL]
                refine hr_none 15 (some 139) rfl rfl (by kernel_rfl) (by kernel_rfl) (by kernel_rfl) rfl yH0 ?_
                simp only [FL]
                refine hr_take_w 16 (some 140) (.bool false) rfl rfl (by kernel_rfl) (by kernel_rfl) (by kernel_rfl) rfl (fun W hW => by obtain ⟨h0, h1⟩ := hW; go_simp) yH0 ?_
                simp only [FL]
                refine hr_take_w 17 (some 141) (.bool false) rfl rfl (by kernel_rfl) (by kernel_rfl) (by kernel_rfl) rfl (fun W hW => by obtain ⟨h0, h1⟩ := hW; go_simp) yH0 ?_
                simp only [FL]
                refine hr_take_w 18 (some 142) (.bool false) rfl rfl (by kernel_rfl) (by kernel_rfl) (by kernel_rfl) rfl (fun W hW => by obtain ⟨h0, h1⟩ := hW; go_simp) yH0 ?_
                simp only [FL]
                refine hr_take_w 19 (some 143) (.bool false) rfl rfl (by kernel_rfl) (by kernel_rfl) (by kernel_rfl) rfl (fun W hW => by obtain ⟨h0, h1⟩ := hW; go_simp) yH0 ?_
                simp only [FL]
                refine hr_take_w 20 (some 144) (.bool true) rfl rfl (by kernel_rfl) (by kernel_rfl) (by kernel_rfl) rfl (fun W hW => by obtain ⟨h0, h1⟩ := hW; go_simp) yH0 ?_
                simp only [FL]
                refine hr_take_w 21 (some 145) (.bool true) rfl rfl (by kernel_rfl) (by kernel_rfl) (by kernel_rfl) rfl (fun W hW => by obtain ⟨h0, h1⟩ := hW; go_simp) yH0 ?_
                simp only [FL]
                refine hr_take_w 22 (some 146) (.slice (some ⟨qb, qoff, none⟩) pn pc) rfl rfl (by kernel_rfl) (by kernel_rfl) (by kernel_rfl) rfl (fun W hW => by obtain ⟨h0, h1⟩ := hW; go_simp) yH0 ?_
                simp only [FL]
                refine hr_take_w 23 (some 147) (.int .i64 (i : Nat)) rfl rfl (by kernel_rfl) (by kernel_rfl) (by kernel_rfl) rfl (fun W hW => by obtain ⟨h0, h1⟩ := hW; go_simp) yH0 ?_
                simp only [FL]
                refine hr_take_w 24 (some 148) (.pointer (some ⟨qb, qoff + i * 3, none⟩)) rfl rfl (by kernel_rfl) (by kernel_rfl) (by kernel_rfl) rfl (fun W hW => by obtain ⟨h0, h1⟩ := hW; go_simp) yH0 ?_
                simp only [FL]
                refine hr_take_w 25 (some 149) (.pointer (some ⟨qb, qoff + i * 3 + 2, none⟩)) rfl rfl (by kernel_rfl) (by kernel_rfl) (by kernel_rfl) rfl (fun W hW => by obtain ⟨h0, h1⟩ := hW; go_simp) yH0 ?_
                simp only [FL]
                refine hr_take_w 26 (some 150) (.slice yb.ao yb.n yb.cap) rfl rfl (by kernel_rfl) (by kernel_rfl) (by kernel_rfl) rfl (fun W hW => by obtain ⟨h0, h1⟩ := hW; go_simp) yH0 ?_
                simp only [FL]
                refine hr_call_w 27 (some 151) 14 #[] rfl rfl (by kernel_rfl) rfl (by go_simp) (fun v w' => ∃ ro rc, v = .slice ro 32 rc ∧ Sl w' ro 32 rc nullX ∧ Below yv0.heap.size yv0 w') (((show Calls Tryd.prog 14 #[] yv0 (fun e w' => ∃ ro rc, e = .returned (.slice ro 32 rc) ∧ Sl w' ro 32 rc nullX ∧ Below yv0.heap.size yv0 w') from (null_any yv0 (HTw.out yv0 (E.trans ((yE0).mono E.size)))).mono (by
                  rintro e w' ⟨ro, rc, rfl, S, C, -⟩
                  exact ⟨ro, rc, rfl, S, C⟩))).mono (by
                  rintro e w' ⟨ro, rc, rfl, F, C⟩
                  exact ⟨_, rfl, ro, rc, rfl, F, C⟩)) ?_
                rintro v yv1 ⟨ro, rc, rfl, yF0, yC0⟩
                have yE1 := yE0.trans (yC0.mono yE0.size)
                have yH1 := yHS.out yv1 yE1
                refine ⟨yH1, ?_⟩
                simp only [FL]
                refine hr_call_w 28 (some 152) 13 #[.slice yb.ao yb.n yb.cap, .slice ro 32 rc] rfl rfl (by kernel_rfl) rfl (by go_simp) (fun v w' => v = .bool true ∧ Below yv1.heap.size yv1 w') (((show Calls Tryd.prog 13 #[.slice yb.ao yb.n yb.cap, .slice ro 32 rc] yv1 (fun e w' => e = .returned (.bool true) ∧ Below yv1.heap.size yv1 w') from by
                  have C := same_any yv1 yb.ao ro yb.n yb.cap 32 rc yb.xs nullX (HYS.out yv1 (E.trans ((yE1).mono E.size))) yF0
                  rw [HNX.out, decide_eq_true rfl] at C
                  refine C.mono ?_
                  rintro e w' ⟨rfl, q, rfl⟩
                  exact ⟨rfl, below_drewN _ _ _⟩)).mono (by
                  rintro e w' ⟨rfl, C⟩
                  exact ⟨_, rfl, rfl, C⟩)) ?_
                rintro v yv2 ⟨rfl, yC1⟩
                have yE2 := yE1.trans (yC1.mono yE1.size)
                have yH2 := yHS.out yv2 yE2
                refine ⟨yH2, ?_⟩
                simp only [FL]
                refine hr_take_w 29 (some 153) (.bool false) rfl rfl (by kernel_rfl) (by kernel_rfl) (by kernel_rfl) rfl (fun W hW => by obtain ⟨h0, h1⟩ := hW; go_simp) yH2 ?_
                simp only [FL]
                refine hr_take_w 30 (some 154) (.bool false) rfl rfl (by kernel_rfl) (by kernel_rfl) (by kernel_rfl) rfl (fun W hW => by obtain ⟨h0, h1⟩ := hW; go_simp) yH2 ?_
                simp only [FL]
                refine hr_take_w 31 (some 155) (.bool false) rfl rfl (by kernel_rfl) (by kernel_rfl) (by kernel_rfl) rfl (fun W hW => by obtain ⟨h0, h1⟩ := hW; go_simp) yH2 ?_
                simp only [FL]
                refine wpAnyH_done (by kernel_rfl) ?_ _
                refine NoPanic.normal ?_
                go_wp2
                all_goals (try go_big_round)
                all_goals refine ⟨?_, ?_⟩
                all_goals first
                  | exact HRL.out _ _ (by go_num) yE2
                  | (have hm := HM.out; simp [intOf]; omega)
        · have hii : ¬ (i : Int) < (pn : Int) := by omega
          have Ew := E3.trans (E.mono E3.size)
          have CA_ := alive16 wr (HTb.out wr Ew)
          go_wp2_with (go_at_call 7; refine CA_.mono ?_; rintro e w9 ⟨rfl, E9⟩)
          go_ret
          exact ⟨rfl, Ew.trans (E9.mono Ew.size)⟩
end Go.Proofs.YtdcebokfnbgkaaaDoor

/-
  Texts in one: ChRPick.
-/
import Derived.Test.YtdcebokfnbgkaaaDoorChoosePicksQ6
import Derived.Test.YtdcebokfnbgkaaaDoorChoosePicksQ2
import Derived.Lib.MinMax
import Derived.Deep.QuietTactic
import Derived.BigQuiet
namespace Go.Proofs.YtdcebokfnbgkaaaDoor
open Go.RowKit
set_option maxRecDepth 100000 in
set_option maxHeartbeats 16000000 in
theorem rpick_any (w : World) (f : Int) (ao : Option Addr) (n cap : Nat) (l : List CA) (h : GL elC w ao n cap l) (hn : n ≤ 1000) (hs : ∀ c ∈ l, c.s.l.length ≤ 1000) :
    Calls Tryd.prog 10 #[.int .i64 f, .slice ao n cap] w (PickPost w f l) := by
  have hl := h.len
  have CN0 := rn_any f w
  cases ho : okF f with
  | false =>
    have HB : Hid (badC f (l.map CA.cv) = true) := badC_t (.inl ho)
    rw [nF_f 3 ho] at CN0
    clear ho
    go_enter Tryd.func10, Tryd.ntmps10
    go_wp2_with (go_at_call 22; refine CN0.mono ?_; rintro e w9 ⟨rfl, hw9⟩; replace hw9 := hw9.symm; subst hw9)
    go_ret3
    exact ⟨Below.refl _ _, .inl ⟨HB.out, rfl⟩⟩
  | true =>
    have CM := rmost_any f w
    have e3 := nF_t 3 ho
    have e2 := nF_t 2 ho
    obtain ⟨f1, f4⟩ := okF_iff.1 ho
    have HO : Hid (okF f = true) := ho
    obtain ⟨m, hm⟩ : ∃ m, m = nF f 2 := ⟨_, rfl⟩
    obtain ⟨N3, hN3⟩ : ∃ v : Nat, nF f 3 = v := ⟨(nF f 3).toNat, by omega⟩
    have CN : ∀ V : World, Calls Tryd.prog 22 #[.int .i64 f] V fun e w' => e = .returned (.int .i64 (N3 : Nat)) ∧ w' = V := fun V => by
      have C := rn_any f V
      rw [hN3] at C
      exact C
    have HN3 : Hid (nF f 3 = N3) := hN3
    rw [hN3] at CN0
    rw [← hm] at CM
    have n31 : ¬ ((N3 : Int) = 0) := by omega
    have n38 : ((N3 : Int) == 0) = false := beq_eq_false_iff_ne.2 n31
    have n313 : N3 ≤ 13 := by omega
    have HM : Hid (m = nF f 2) := hm
    by_cases hnm : m ≤ (n : Int)
    · have i1 : ¬ (n : Int) < m := by omega
      have L0 : LQ w f l (riseC f 0 (l.map CA.cv)) (.int .u64 0) (.int .i64 0) w := LQ.start (Below.refl _ _)
      obtain ⟨R, hR⟩ : ∃ R, R = riseC f 0 (l.map CA.cv) := ⟨_, rfl⟩
      have HR0 : Hid (R = riseC f 0 (l.map CA.cv)) := hR
      rw [← hR] at L0
      have mw : IntKind.u64.wrap (N3 : Int) = (N3 : Int) := by rw [IntKind.wrap_u64]; omega
      clear ho e2 e3 hm hN3 hR
      go_enter Tryd.func10, Tryd.ntmps10
      go_wp2_with (first
        | (go_at_call 22; refine CN0.mono ?_; rintro e w9 ⟨rfl, hw9⟩; replace hw9 := hw9.symm; subst hw9)
        | (go_at_call 23; refine CM.mono ?_; rintro e w9 ⟨rfl, hw9⟩; replace hw9 := hw9.symm; subst hw9))
      clear CN0 CM
      go_loopw [7, 8] (fun low i wr => LQ w f l R low i wr) (fun _ i _ => n - (intOf i).toNat)
      case atStart => exact L0
      case round =>
        clear L0
        obtain ⟨k, hk, rfl, rfl, hR, E⟩ := hrel
        have HR : Hid (R = riseC f (prevF l k) ((l.drop k).map CA.cv)) := hR
        clear hR
        by_cases hlt : k < n
        · have hki : (k : Int) < (n : Int) := by omega
          obtain ⟨b, off, rfl, hX⟩ := h.atC (by omega)
          have hkx : k < l.length := by omega
          have hst := rise_step (f := f) hkx
          have hX0 := hX
          have hX := hX k hkx
          have hok := h.ok _ (List.getElem_mem hkx)
          obtain ⟨lo, hlo⟩ : ∃ v, v = lowC ((l.take k).map CA.cv) := ⟨_, rfl⟩
          have HLO : Hid (lo = lowC ((l.take k).map CA.cv)) := hlo
          rw [← hlo]
          obtain ⟨⟨cfr, clow, cz, cs⟩, hc⟩ : ∃ c, c = l[k] := ⟨_, rfl⟩
          rw [← hc] at hX hok hst
          have HC : Hid (l[k] = ⟨cfr, clow, cz, cs⟩) := hc.symm
          have hcf : cfr < 18446744073709551616 := hok.fr
          have HCX : Hid (∀ V, Below w.heap.size w V → CX V b (off + k * 4) ⟨cfr, clow, cz, cs⟩) := fun V hV => hX.below hV
          have hst : riseC f (prevF l k) ((l.drop k).map CA.cv) = (decide (prevF l k < cfr) && (isRep f cfr && riseC f (prevF l (k + 1)) ((l.drop (k + 1)).map CA.cv))) := hst
          have HST : Hid (R = (decide (prevF l k < cfr) && (isRep f cfr && riseC f (prevF l (k + 1)) ((l.drop (k + 1)).map CA.cv)))) := by show _ = _; rw [HR.out, hst]
          have q0 : wr.cell? ⟨b, off + k * 4, none⟩ = some (.int .u64 (cfr : Nat)) := (HCX.out wr E).c0
          have HBD : Hid (R = false → badC f (l.map CA.cv) = true) := fun e => badC_t (.inr (.inr (by rw [← HR0.out]; exact e)))
          clear hX hok hst hc hlo
          by_cases z0 : cfr = 0
          · have HB : Hid (badC f (l.map CA.cv) = true) := HBD.out (by rw [HST.out, decide_eq_false (by omega), Bool.false_and])
            have i0 : (cfr : Int) = 0 := by omega
            rw [i0] at q0
            clear z0 i0
            go_wp2_with fail
            go_quiet ((go_at_call 22; exact Calls.quiet_of_same (CN _)))
            have BN : Below w.heap.size w (wr.drewN nq) := E.trans (below_drewN wr nq _)
            go_wp2
            go_ret3
            exact ⟨BN, .inl ⟨HB.out, rfl⟩⟩
          have j0 : ¬ (cfr : Int) = 0 := by omega
          have j8 : ((cfr : Int) == 0) = false := beq_eq_false_iff_ne.2 j0
          have j3 : decide ((cfr : Int) = 0) = false := decide_eq_false j0
          have j9 : (cfr == 0) = false := beq_eq_false_iff_ne.2 z0
          have j4 : decide (cfr = 0) = false := decide_eq_false z0
          by_cases zn : N3 < cfr
          · have hrep : isRep f cfr = false := by unfold isRep; rw [HN3.out]; exact decide_eq_false (by omega)
            have HB : Hid (badC f (l.map CA.cv) = true) := HBD.out (by rw [HST.out, hrep, Bool.false_and, Bool.and_false])
            have k1 : (N3 : Int) < (cfr : Int) := by omega
            have k2 : decide ((N3 : Int) < (cfr : Int)) = true := decide_eq_true k1
            have k3 : decide (N3 < cfr) = true := decide_eq_true zn
            clear hrep
            go_wp2_with fail
            go_quiet ((go_at_call 22; exact Calls.quiet_of_same (CN _)))
            have BN : Below w.heap.size w (wr.drewN nq) := E.trans (below_drewN wr nq _)
            go_wp2
            go_ret3
            exact ⟨BN, .inl ⟨HB.out, rfl⟩⟩
          have k1 : ¬ (N3 : Int) < (cfr : Int) := by omega
          have k2 : decide ((N3 : Int) < (cfr : Int)) = false := decide_eq_false k1
          have k3 : decide (N3 < cfr) = false := decide_eq_false zn
          have hrep : isRep f cfr = true := by unfold isRep; rw [HN3.out]; exact decide_eq_true (by omega)
          have HREP : Hid (isRep f l[k].fr = true) := by show isRep f l[k].fr = true; rw [HC.out]; exact hrep
          by_cases zk : k = 0
          · have hpv : prevF l k < l[k].fr := by rw [HC.out, zk]; show 0 < cfr; omega
            have RL : ∀ (i : Value) (V : World), i = .int .i64 ((k + 1 : Nat) : Int) → Below w.heap.size w V → LQ w f l R (.int .u64 (max (lo : Int) (clow : Int))) i V := fun i V h1 h2 => LQ.next hkx h1 (by rw [← HLO.out, HC.out]) HR.out hpv HREP.out h2
            have x1 : ¬ (0 : Int) < (k : Int) := by omega
            have x2 : decide ((0 : Int) < (k : Int)) = false := decide_eq_false x1
            have x3 : decide (0 < k) = false := decide_eq_false (by omega)
            clear hpv hrep zk
            go_wp2_with fail
            go_quiet ((go_at_call 22; exact Calls.quiet_of_same (CN _)))
            have BN : Below w.heap.size w (wr.drewN nq) := E.trans (below_drewN wr nq _)
            have q1 : (wr.drewN nq).cell? ⟨b, off + k * 4 + 1, none⟩ = some (.int .u64 (clow : Nat)) := (HCX.out _ BN).c1
            clear q0
            go_wp2
            all_goals (try go_big_round)
            all_goals refine ⟨?_, ?_⟩
            all_goals first
              | exact RL _ _ (by go_num) BN
              | (simp [intOf]; omega)
          have hk1 : k - 1 < l.length := by omega
          obtain ⟨pf, hpf⟩ : ∃ v, v = (l[k - 1]'hk1).fr := ⟨_, rfl⟩
          have hprev : prevF l k = pf := by
            have h1 := prevF_succ hk1
            rw [show k - 1 + 1 = k by omega] at h1
            rw [h1, hpf]
          have q9 : wr.cell? ⟨b, off + (k - 1) * 4, none⟩ = some (.int .u64 (pf : Nat)) := by rw [hpf]; exact ((hX0 (k - 1) hk1).below E).c0
          have x1 : (0 : Int) < (k : Int) := by omega
          have x2 : decide ((0 : Int) < (k : Int)) = true := decide_eq_true x1
          have x3 : decide (0 < k) = true := decide_eq_true (by omega)
          have x4 : 0 < k := by omega
          have x5 : 1 ≤ k := by omega
          have jw : IntKind.i64.wrap ((k : Int) - 1) = ((k - 1 : Nat) : Int) := by rw [IntKind.wrap_i64]; omega
          have jr : ((k - 1 : Nat) : Int) < (n : Int) := by omega
          by_cases zp : cfr ≤ pf
          · have HB : Hid (badC f (l.map CA.cv) = true) := HBD.out (by rw [HST.out, hprev, decide_eq_false (by omega), Bool.false_and])
            have y1 : (cfr : Int) ≤ (pf : Int) := by omega
            have y2 : decide ((cfr : Int) ≤ (pf : Int)) = true := decide_eq_true y1
            have y3 : decide (cfr ≤ pf) = true := decide_eq_true zp
            clear hpf hprev hX0 hrep
            go_wp2_with fail
            go_quiet ((go_at_call 22; exact Calls.quiet_of_same (CN _)))
            have BN : Below w.heap.size w (wr.drewN nq) := E.trans (below_drewN wr nq _)
            go_wp2
            go_ret3
            exact ⟨BN, .inl ⟨HB.out, rfl⟩⟩
          · have hpv : prevF l k < l[k].fr := by rw [HC.out, hprev]; show pf < cfr; omega
            have RL : ∀ (i : Value) (V : World), i = .int .i64 ((k + 1 : Nat) : Int) → Below w.heap.size w V → LQ w f l R (.int .u64 (max (lo : Int) (clow : Int))) i V := fun i V h1 h2 => LQ.next hkx h1 (by rw [← HLO.out, HC.out]) HR.out hpv HREP.out h2
            have y1 : ¬ (cfr : Int) ≤ (pf : Int) := by omega
            have y2 : decide ((cfr : Int) ≤ (pf : Int)) = false := decide_eq_false y1
            have y3 : decide (cfr ≤ pf) = false := decide_eq_false zp
            clear hpf hprev hX0 hrep hpv
            go_wp2_with fail
            go_quiet ((go_at_call 22; exact Calls.quiet_of_same (CN _)))
            have BN : Below w.heap.size w (wr.drewN nq) := E.trans (below_drewN wr nq _)
            have q1 : (wr.drewN nq).cell? ⟨b, off + k * 4 + 1, none⟩ = some (.int .u64 (clow : Nat)) := (HCX.out _ BN).c1
            clear q0
            go_wp2
            all_goals (try go_big_round)
            all_goals refine ⟨?_, ?_⟩
            all_goals first
              | exact RL _ _ (by go_num) BN
              | (simp [intOf]; omega)
        · have hki : ¬ (k : Int) < (n : Int) := by omega
          have hkl : k = l.length := by omega
          have hRt : R = true := by rw [HR.out, List.drop_of_length_le (by omega)]; rfl
          have HB : Hid (badC f (l.map CA.cv) = false) := badC_f HO.out (by rw [cv_len, hl, ← HM.out]; exact hnm) (by rw [← HR0.out]; exact hRt)
          have et : l.take k = l := List.take_of_length_le (by omega)
          rw [et]
          obtain ⟨low, hlow⟩ : ∃ low, low = lowC (l.map CA.cv) := ⟨_, rfl⟩
          have HL : Hid (low = lowC (l.map CA.cv)) := hlow
          rw [← hlow]
          have hlt64 : low < 18446744073709551616 := by
            rw [hlow]
            refine lowC_lt _ fun c hc => ?_
            obtain ⟨x, hx, rfl⟩ := List.mem_map.1 hc
            exact (h.ok x hx).low
          have J0 : T2 w low l (.int .u64 (low : Nat)) (.int .i64 0) wr := T2.start E
          clear hRt et hlow E hkl
          go_wp2_with fail
          go_loopw [9, 10] (fun top i wq => T2 w low l top i wq) (fun _ i _ => n - (intOf i).toNat)
          case atStart => exact J0
          case round =>
            clear J0
            obtain ⟨j, hj, rfl, rfl, E⟩ := hrel
            by_cases hjl : j < n
            · obtain ⟨b, off, rfl, hX⟩ := h.atC (by omega)
              have hjx : j < l.length := by omega
              have hok := h.ok _ (List.getElem_mem hjx)
              have hcs := hs _ (List.getElem_mem hjx)
              obtain ⟨⟨cf, cl, cz, ⟨sao, sn, scap, sl⟩⟩, hc⟩ : ∃ o, o = l[j] := ⟨_, rfl⟩
              have hX := hX j hjx
              rw [← hc] at hX hok hcs
              have HSL : Hid (l[j].s.l = sl) := by show _ = _; rw [← hc]
              have hsl : sl.length = sn := hok.s.len
              have hs1 : sl.length ≤ 1000 := hcs
              have HCX : Hid (∀ V, Below w.heap.size w V → CX V b (off + j * 4) ⟨cf, cl, cz, ⟨sao, sn, scap, sl⟩⟩) := fun V hV => hX.below hV
              have HSG : Hid (GL elP w sao sn scap sl) := hok.s
              obtain ⟨q0, q1, q2, q3⟩ := HCX.out _ E
              have hjii : (j : Int) < (n : Int) := by omega
              obtain ⟨ps, hps⟩ : ∃ ps, ps = psK l j := ⟨_, rfl⟩
              have HPS : Hid (ps = psK l j) := hps
              rw [← hps]
              have K0 : T3 w low ps sl (.int .u64 (topP low ps : Nat)) (.int .i64 0) wr := T3.start E
              obtain ⟨t0, ht0⟩ : ∃ t, t = topP low ps := ⟨_, rfl⟩
              rw [← ht0] at K0 ⊢
              clear hX hok hc hps hcs ht0 E
              go_wp2_with fail
              clear q0 q1 q2 q3
              go_loopw [9, 11] (fun top x wq => T3 w low ps sl top x wq) (fun _ x _ => sn - (intOf x).toNat)
              case atStart => exact K0
              case round =>
                clear K0
                obtain ⟨x, hx, rfl, rfl, E⟩ := hrel
                obtain ⟨t, ht⟩ : ∃ t, t = topP low (ps ++ sl.take x) := ⟨_, rfl⟩
                have HT : Hid (t = topP low (ps ++ sl.take x)) := ht
                rw [← ht]
                clear ht
                obtain ⟨q0, q1, q2, q3⟩ := HCX.out _ E
                by_cases hxl : x < sl.length
                · have hxi : (x : Int) < (sn : Int) := by omega
                  obtain ⟨pb, poff, rfl, hP⟩ := HSG.out.atP (by omega)
                  have hps := (HSG.out.ok _ (List.getElem_mem hxl)).sq
                  have hP := hP x hxl
                  obtain ⟨⟨psq, pvw, pbs⟩, hp⟩ : ∃ p, p = sl[x] := ⟨_, rfl⟩
                  rw [← hp] at hP hps
                  obtain ⟨p0, p1, p2⟩ := hP.below E
                  have hps : psq < 18446744073709551616 := hps
                  have HPE : Hid (sl[x].sq = psq) := by show _ = _; rw [← hp]
                  clear hP hp p1 p2 q0 q1 q2
                  by_cases a1 : psq ≤ low
                  · have i1 : ¬ (low : Int) < (psq : Int) := by omega
                    have RL : ∀ i : Value, i = .int .i64 ((x + 1 : Nat) : Int) → T3 w low ps sl (.int .u64 (t : Nat)) i wr := fun i hi => T3.skip hxl hi (by rw [HPE.out]; omega) (by rw [HT.out]) E
                    clear a1
                    go_wp2
                    all_goals (try go_big_round)
                    all_goals refine ⟨?_, ?_⟩
                    all_goals first
                      | exact RL _ (by go_num)
                      | (simp [intOf]; omega)
                  have i1 : (low : Int) < (psq : Int) := by omega
                  have mw : IntKind.u64.wrap ((psq : Int) - (low : Int)) = (psq : Int) - (low : Int) := by rw [IntKind.wrap_u64]; omega
                  by_cases a2 : low + 8 < psq
                  · have i2 : ¬ (psq : Int) - (low : Int) ≤ 8 := by omega
                    have RL : ∀ i : Value, i = .int .i64 ((x + 1 : Nat) : Int) → T3 w low ps sl (.int .u64 (t : Nat)) i wr := fun i hi => T3.skip hxl hi (by rw [HPE.out]; omega) (by rw [HT.out]) E
                    clear a1 a2
                    go_wp2
                    all_goals (try go_big_round)
                    all_goals refine ⟨?_, ?_⟩
                    all_goals first
                      | exact RL _ (by go_num)
                      | (simp [intOf]; omega)
                  · have i2 : (psq : Int) - (low : Int) ≤ 8 := by omega
                    have RL : ∀ i : Value, i = .int .i64 ((x + 1 : Nat) : Int) → T3 w low ps sl (.int .u64 (max (t : Int) (psq : Int))) i wr := fun i hi => T3.put hxl hi (by rw [HPE.out]; omega) (by rw [HT.out, HPE.out]) E
                    clear a1 a2
                    go_wp2
                    all_goals (try go_big_round)
                    all_goals refine ⟨?_, ?_⟩
                    all_goals first
                      | exact RL _ (by go_num)
                      | (simp [intOf]; omega)
                · have hxi : ¬ (x : Int) < (sn : Int) := by omega
                  have RL : ∀ i : Value, i = .int .i64 ((j + 1 : Nat) : Int) → T2 w low l (.int .u64 (t : Nat)) i wr := fun i hi => T3.done hjx HSL.out (x := x) (by omega) hi (by rw [HT.out, HPS.out]) E
                  go_wp2
                  all_goals (try go_big_round)
                  all_goals refine ⟨?_, ?_⟩
                  all_goals first
                    | exact RL _ (by go_num)
                    | (simp [intOf]; omega)
            · have hjii : ¬ (j : Int) < (n : Int) := by omega
              have hjl : j = l.length := by omega
              subst hjl
              obtain ⟨ps, hps⟩ : ∃ ps, ps = psK l l.length := ⟨_, rfl⟩
              have HPS : Hid (ps = psK l l.length) := hps
              have hpa : ps = allP (l.map CA.cv) := by rw [hps, psK_all]
              have hpo : ∀ p ∈ ps, p.ok w := fun p hp => by
                rw [hpa] at hp
                obtain ⟨c, hc, hp⟩ := mem_allP.1 hp
                exact (h.ok c hc).s.ok p hp
              have HPO : Hid (∀ V, Below w.heap.size w V → ∀ p ∈ ps, p.ok V) := fun V hV p hp => elP_fine.below (hpo p hp) hV
              have HPL : Hid (∀ p ∈ ps, ∀ z, p.b.blk z → z < w.heap.size) := fun p hp z hz => elP_fine.lt p w z (hpo p hp) hz
              have t1 := topP_le low ps
              have t2 := topP_lt hlt64 ps fun p hp => (hpo p hp).sq
              rw [← hps]
              obtain ⟨top, ht⟩ : ∃ t, t = topP low ps := ⟨_, rfl⟩
              rw [← ht] at t1 t2 ⊢
              have HTP : Hid (top = topP low ps) := ht
              have HPA : Hid (ps = allP (l.map CA.cv)) := hpa
              have P0 : RPk w low top ps (.slice none 0 0) (.int .u64 1) wr := RPk.mk 0 [] (by omega) rfl (GI.nil _ _ _ _) rfl E
              have mw : IntKind.u64.wrap ((top : Int) - (low : Int)) = (top : Int) - (low : Int) := by rw [IntKind.wrap_u64]; omega
              clear hps hpa hpo ht E
              go_wp2_with fail
              go_loopw [13, 14] (fun v y wq => RPk w low top ps v y wq) (fun _ y _ => top + 1 - (low + (intOf y).toNat))
              case atStart => exact P0
              case round =>
                clear P0
                obtain ⟨x, v, ys, rfl, hx, rfl, GR, hys, E⟩ := hrel
                obtain ⟨y, hy⟩ : ∃ y, y = x + 1 := ⟨_, rfl⟩
                have HY : Hid (y = x + 1) := hy
                rw [← hy]
                have HYS : Hid (ys.map PA.pv = (List.range x).map (fun i => pickV nullX ps (low + i + 1))) := hys
                clear hys
                by_cases hxt : low + x < top
                · have i2 : (y : Int) ≤ (top : Int) - (low : Int) := by omega
                  obtain ⟨q, hq⟩ : ∃ q, q = low + x + 1 := ⟨_, rfl⟩
                  have HQ : Hid (q = low + x + 1) := hq
                  have mw2 : IntKind.u64.wrap ((low : Int) + (y : Int)) = (q : Int) := by rw [IntKind.wrap_u64]; omega
                  have mw3 : IntKind.u64.wrap ((y : Int) + 1) = ((y + 1 : Nat) : Int) := by rw [IntKind.wrap_u64]; omega
                  have hq64 : q < 18446744073709551616 := by omega
                  have hyl : ys.length = x := by
                    have := congrArg List.length HYS.out
                    simpa using this
                  have hx8 : x ≤ 8 := by omega
                  have hy9 : y ≤ 9 := by omega
                  have CNl := rnull_any wr
                  obtain ⟨wA, hwA⟩ : ∃ v, v = wr := ⟨_, rfl⟩
                  subst hwA
                  clear hq hy
                  go_wp2_with fail
                  refine CNl.mono ?_
                  rintro e w4 ⟨ro, rc, rfl, S4, E4, far4⟩
                  obtain ⟨W5, hW5⟩ : ∃ W, W = w4.alloc (.cells #[.int .u64 (q : Nat), .int .u64 0, .slice ro 32 rc] 42) := ⟨_, rfl⟩
                  have C5 : Below w4.heap.size w4 W5 := by rw [hW5]; exact (Below.refl _ _).alloc (Nat.le_refl _) _
                  have A5 : Arr W5 w4.heap.size 42 (bestC none q ro rc).cells := by rw [hW5]; exact heap_alloc_new w4 _
                  obtain ⟨g, hg⟩ : ∃ g, g = w4.heap.size := ⟨_, rfl⟩
                  have HGW : Hid (g = w4.heap.size) := hg
                  rw [← hg] at A5
                  have J1 : B2 w4 g q ro rc l (.bool false) (.int .i64 0) W5 := B2.start A5 C5
                  have E04 := E.trans (E4.mono E.size)
                  have HS4 : Hid (∀ V, Below w4.heap.size w4 V → Sl V ro 32 rc nullX) := fun V hV => Sl.below S4 hV
                  have HF4 : Hid (∀ z, sblk ro 32 z → wA.heap.size ≤ z) := far4
                  clear CNl S4 far4
                  go_wp2_with fail
                  rw [← hW5, ← hg]
                  clear hW5 hg A5 C5
                  go_loopw [16, 17] (fun so i wq => B2 w4 g q ro rc l so i wq) (fun _ i _ => n - (intOf i).toNat)
                  case atStart => exact J1
                  case round =>
                    clear J1
                    obtain ⟨i, hi, rfl, hso, AG, EB⟩ := hrel
                    by_cases hil : i < n
                    · obtain ⟨b, off, rfl, hX⟩ := h.atC (by omega)
                      have hix : i < l.length := by omega
                      have hok := h.ok _ (List.getElem_mem hix)
                      have hcs := hs _ (List.getElem_mem hix)
                      obtain ⟨⟨cf, cl, cz, ⟨sao, sn, scap, sl⟩⟩, hc⟩ : ∃ o, o = l[i] := ⟨_, rfl⟩
                      have hX := hX i hix
                      rw [← hc] at hX hok hcs
                      have HSL : Hid (l[i].s.l = sl) := by show _ = _; rw [← hc]
                      have hsl : sl.length = sn := hok.s.len
                      have hs1 : sl.length ≤ 1000 := hcs
                      have HCX : Hid (∀ V, Below w4.heap.size w4 V → CX V b (off + i * 4) ⟨cf, cl, cz, ⟨sao, sn, scap, sl⟩⟩) := fun V hV => hX.below (E04.trans (hV.mono E04.size))
                      have HSG : Hid (GL elP w sao sn scap sl) := hok.s
                      obtain ⟨q0, q1, q2, q3⟩ := HCX.out _ EB
                      have hiii : (i : Int) < (n : Int) := by omega
                      obtain ⟨pz, hpz⟩ : ∃ pz, pz = psK l i := ⟨_, rfl⟩
                      have HPZ : Hid (pz = psK l i) := hpz
                      rw [← hpz] at hso AG
                      have K0 : B3 w4 g q ro rc pz sl (.bool (bestP pz q).isSome) (.int .i64 0) wr := B3.start AG EB
                      obtain ⟨s0, hs0⟩ : ∃ v, v = (bestP pz q).isSome := ⟨_, rfl⟩
                      rw [← hs0] at hso K0
                      subst hso
                      clear hX hok hc hpz hcs hs0 AG EB
                      go_wp2_with fail
                      clear q0 q1 q2 q3
                      go_loopw [16, 18] (fun so x wq => B3 w4 g q ro rc pz sl so x wq) (fun _ x _ => sn - (intOf x).toNat)
                      case atStart => exact K0
                      case round =>
                        clear K0
                        obtain ⟨z, hz, rfl, hso, AG, EB⟩ := hrel
                        obtain ⟨q0, q1, q2, q3⟩ := HCX.out _ EB
                        by_cases hzl : z < sl.length
                        · have hzi : (z : Int) < (sn : Int) := by omega
                          obtain ⟨pb, poff, rfl, hP⟩ := HSG.out.atP (by omega)
                          have hP := hP z hzl
                          obtain ⟨⟨psq, pvw, pbs⟩, hp⟩ : ∃ p, p = sl[z] := ⟨_, rfl⟩
                          rw [← hp] at hP
                          obtain ⟨p0, p1, p2⟩ := hP.below (E04.trans (EB.mono E04.size))
                          have HPE : Hid (sl[z] = ⟨psq, pvw, pbs⟩) := hp.symm
                          have C1 : Below wr.heap.size wr (wr.alloc (.cells #[.int .u64 (psq : Nat), .int .u64 (pvw : Nat), .slice pbs.ao pbs.n pbs.cap] 42)) := (Below.refl _ _).alloc (Nat.le_refl _) _
                          have EC := EB.trans (C1.mono EB.size)
                          have AC := Arr.below AG C1 AG.lt
                          have HEC : Hid (Below w4.heap.size w4 (wr.alloc (.cells #[.int .u64 (psq : Nat), .int .u64 (pvw : Nat), .slice pbs.ao pbs.n pbs.cap] 42))) := EC
                          have hgl : g < wr.heap.size := AG.lt
                          clear hP hp C1 EC AG EB
                          by_cases e0 : psq = q
                          · have e0s : q = psq := e0.symm
                            have HPQ : Hid (sl[z].sq = q) := by show _ = _; rw [HPE.out]; exact e0
                            cases hb : bestP (pz ++ sl.take z) q with
                            | none =>
                              rw [hb] at hso AC
                              have hso : _ = Value.bool false := hso
                              subst hso
                              have HB2 : Hid (stepB (bestP (pz ++ sl.take z) q) sl[z] = sl[z]) := by show _ = _; rw [hb]; rfl
                              have HAC : Hid (Arr (wr.alloc (.cells #[.int .u64 (psq : Nat), .int .u64 (pvw : Nat), .slice pbs.ao pbs.n pbs.cap] 42)) g 42 [.int .u64 (q : Nat), .int .u64 0, .slice ro 32 rc]) := AC
                              clear hb AC e0
                              rw [e0s] at mw2
                              clear e0s
                              go_wp2_with (refine stop_at (.store 42 (.tmp 15) (.tmp 169)) rfl ?_)
                              refine ⟨?_⟩
                              refine wpList_store_named rfl 42 (.tmp 15) (.tmp 169) rfl g [.int .u64 (psq : Nat), .int .u64 (pvw : Nat), .slice pbs.ao pbs.n pbs.cap] rfl rfl 42 [.int .u64 (q : Nat), .int .u64 0, .slice ro 32 rc] HAC.out _ rfl (by kernel_rfl) rfl (fun u hu => by simp only [List.mem_cons, List.not_mem_nil, or_false] at hu; rcases hu with rfl | rfl | rfl <;> rfl) ?_
                              intro w6 A6 s6 G6
                              have EZ : Below w4.heap.size w4 w6 := HEC.out.grown G6 HEC.out.size (fun j hj => by cases hj; rw [HGW.out]; exact Nat.le_refl _)
                              have RL : ∀ v : Value, v = .int .i64 ((z + 1 : Nat) : Int) → B3 w4 g q ro rc pz sl (.bool true) v w6 := fun v hv => B3.put hzl hv HPQ.out HB2.out rfl (by rw [HPE.out]; exact A6) EZ
                              have HRL : Hid _ := RL
                              clear RL EZ G6 A6 s6 p0 p1 p2 q0 q1 q2 q3
                              go_wp2
                              all_goals (try go_big_round)
                              all_goals refine ⟨?_, ?_⟩
                              all_goals first
                                | exact HRL.out _ (by go_num)
                                | (simp [intOf]; omega)
                            | some c =>
                              rw [hb] at hso AC
                              have hso : _ = Value.bool true := hso
                              subst hso
                              have HCB : Hid (bestP (pz ++ sl.take z) q = some c) := hb
                              have HAC : Hid (Arr (wr.alloc (.cells #[.int .u64 (psq : Nat), .int .u64 (pvw : Nat), .slice pbs.ao pbs.n pbs.cap] 42)) g 42 [.int .u64 (c.sq : Nat), .int .u64 (c.vw : Nat), .slice c.b.ao c.b.n c.b.cap]) := AC
                              have g1 : (wr.alloc (.cells #[.int .u64 (psq : Nat), .int .u64 (pvw : Nat), .slice pbs.ao pbs.n pbs.cap] 42)).cell? ⟨g, 1, none⟩ = some (.int .u64 (c.vw : Nat)) := HAC.out.cell 1
                              clear hb AC e0
                              rw [e0s] at mw2
                              clear e0s
                              by_cases cv : c.vw < pvw
                              · have i3 : (c.vw : Int) < (pvw : Int) := by omega
                                have HB2 : Hid (stepB (bestP (pz ++ sl.take z) q) sl[z] = sl[z]) := by
                                  show _ = _
                                  rw [HCB.out, HPE.out]
                                  show (if c.vw < pvw then (⟨psq, pvw, pbs⟩ : PA) else c) = _
                                  rw [if_pos cv]
                                clear cv
                                go_wp2_with (refine stop_at (.store 42 (.tmp 15) (.tmp 169)) rfl ?_)
                                refine ⟨?_⟩
                                refine wpList_store_named rfl 42 (.tmp 15) (.tmp 169) rfl g [.int .u64 (psq : Nat), .int .u64 (pvw : Nat), .slice pbs.ao pbs.n pbs.cap] rfl rfl 42 [.int .u64 (c.sq : Nat), .int .u64 (c.vw : Nat), .slice c.b.ao c.b.n c.b.cap] HAC.out _ rfl (by kernel_rfl) rfl (fun u hu => by simp only [List.mem_cons, List.not_mem_nil, or_false] at hu; rcases hu with rfl | rfl | rfl <;> rfl) ?_
                                intro w6 A6 s6 G6
                                have EZ : Below w4.heap.size w4 w6 := HEC.out.grown G6 HEC.out.size (fun j hj => by cases hj; rw [HGW.out]; exact Nat.le_refl _)
                                have RL : ∀ v : Value, v = .int .i64 ((z + 1 : Nat) : Int) → B3 w4 g q ro rc pz sl (.bool true) v w6 := fun v hv => B3.put hzl hv HPQ.out HB2.out rfl (by rw [HPE.out]; exact A6) EZ
                                have HRL : Hid _ := RL
                                clear RL EZ G6 A6 s6 p0 p1 p2 q0 q1 q2 q3
                                go_wp2
                                all_goals (try go_big_round)
                                all_goals refine ⟨?_, ?_⟩
                                all_goals first
                                  | exact HRL.out _ (by go_num)
                                  | (simp [intOf]; omega)
                              · have i3 : ¬ (c.vw : Int) < (pvw : Int) := by omega
                                have HCV : Hid (¬ c.vw < sl[z].vw) := by show ¬ c.vw < sl[z].vw; rw [HPE.out]; exact cv
                                have RL : ∀ v : Value, v = .int .i64 ((z + 1 : Nat) : Int) → B3 w4 g q ro rc pz sl (.bool true) v (wr.alloc (.cells #[.int .u64 (psq : Nat), .int .u64 (pvw : Nat), .slice pbs.ao pbs.n pbs.cap] 42)) := fun v hv => B3.stay hzl hv HPQ.out HCB.out HCV.out rfl HAC.out HEC.out
                                clear cv
                                go_wp2
                                all_goals (try go_big_round)
                                all_goals refine ⟨?_, ?_⟩
                                all_goals first
                                  | exact RL _ (by go_num)
                                  | (simp [intOf]; omega)
                          · have z5 : ¬ (psq : Int) = (q : Int) := by omega
                            have z3 : decide (psq = q) = false := decide_eq_false e0
                            have z4 : decide ((psq : Int) = (q : Int)) = false := decide_eq_false z5
                            have z8 : ((psq : Int) == (q : Int)) = false := beq_eq_false_iff_ne.2 z5
                            have z9 : (psq == q) = false := beq_eq_false_iff_ne.2 e0
                            obtain ⟨s1, hs1e⟩ : ∃ v, v = (bestP (pz ++ sl.take z) q).isSome := ⟨_, rfl⟩
                            have HS1 : Hid (s1 = (bestP (pz ++ sl.take z) q).isSome) := hs1e
                            rw [← hs1e] at hso
                            subst hso
                            have HPQ : Hid (sl[z].sq ≠ q) := by show sl[z].sq ≠ q; rw [HPE.out]; exact e0
                            have HAC : Hid (Arr (wr.alloc (.cells #[.int .u64 (psq : Nat), .int .u64 (pvw : Nat), .slice pbs.ao pbs.n pbs.cap] 42)) g 42 (bestC (bestP (pz ++ sl.take z) q) q ro rc).cells) := AC
                            have RL : ∀ v : Value, v = .int .i64 ((z + 1 : Nat) : Int) → B3 w4 g q ro rc pz sl (.bool s1) v (wr.alloc (.cells #[.int .u64 (psq : Nat), .int .u64 (pvw : Nat), .slice pbs.ao pbs.n pbs.cap] 42)) := fun v hv => B3.skip hzl hv HPQ.out (by rw [HS1.out]) HAC.out HEC.out
                            clear hs1e AC e0
                            go_wp2
                            all_goals (try go_big_round)
                            all_goals refine ⟨?_, ?_⟩
                            all_goals first
                              | exact RL _ (by go_num)
                              | (simp [intOf]; omega)
                        · have hzi : ¬ (z : Int) < (sn : Int) := by omega
                          obtain ⟨s1, hs1e⟩ : ∃ v, v = (bestP (pz ++ sl.take z) q).isSome := ⟨_, rfl⟩
                          have HS1 : Hid (s1 = (bestP (pz ++ sl.take z) q).isSome) := hs1e
                          rw [← hs1e] at hso
                          subst hso
                          have RL : ∀ v : Value, v = .int .i64 ((i + 1 : Nat) : Int) → B2 w4 g q ro rc l (.bool s1) v wr := fun v hv => B3.done hix HSL.out (x := z) (by omega) hv (by rw [HS1.out, HPZ.out]) (by rw [← HPZ.out]; exact AG) EB
                          clear hs1e
                          go_wp2
                          all_goals (try go_big_round)
                          all_goals refine ⟨?_, ?_⟩
                          all_goals first
                            | exact RL _ (by go_num)
                            | (simp [intOf]; omega)
                    · have hiii : ¬ (i : Int) < (n : Int) := by omega
                      have hil2 : i = l.length := by omega
                      rw [hil2, ← HPS.out] at AG
                      have hpv := bestC_pv (ps := ps) (q := q) (ro := ro) (rc := rc)
                      have hbk : (bestC (bestP ps q) q ro rc).ok wr ∧ ∀ z, (bestC (bestP ps q) q ro rc).b.blk z → z < w.heap.size ∨ wA.heap.size ≤ z := by
                        unfold bestC
                        cases hb : bestP ps q with
                        | none => exact ⟨⟨hq64, by show 0 < _; omega, HS4.out wr EB⟩, fun z hz => .inr (HF4.out z hz)⟩
                        | some p =>
                          have hm := (bestP_some ps q p hb).1
                          exact ⟨HPO.out wr (E04.trans (EB.mono E04.size)) p hm, fun z hz => .inl (HPL.out p hm z hz)⟩
                      obtain ⟨⟨ysq, yvw, yb⟩, hyy⟩ : ∃ y, y = bestC (bestP ps q) q ro rc := ⟨_, rfl⟩
                      rw [← hyy] at AG hpv hbk
                      obtain ⟨m0, m1, m2⟩ : wr.cell? ⟨g, 0, none⟩ = some (.int .u64 (ysq : Nat)) ∧ wr.cell? ⟨g, 1, none⟩ = some (.int .u64 (yvw : Nat)) ∧ wr.cell? ⟨g, 2, none⟩ = some (.slice yb.ao yb.n yb.cap) := ⟨AG.cell 0, AG.cell 1, AG.cell 2⟩
                      have C6 : Below wr.heap.size wr (wr.alloc (.cells #[.int .u64 (ysq : Nat), .int .u64 (yvw : Nat), .slice yb.ao yb.n yb.cap] 42)) := (Below.refl _ _).alloc (Nat.le_refl _) _
                      have A6 : Arr (wr.alloc (.cells #[.int .u64 (ysq : Nat), .int .u64 (yvw : Nat), .slice yb.ao yb.n yb.cap] 42)) wr.heap.size 42 [.int .u64 (ysq : Nat), .int .u64 (yvw : Nat), .slice yb.ao yb.n yb.cap] := heap_alloc_new wr _
                      have GR5 := ((GR.below elP_fine E4).below elP_fine EB).below elP_fine C6
                      have E6 := E04.trans ((EB.trans (C6.mono EB.size)).mono E04.size)
                      have hb5 := E6.size
                      have HG : Hid (∀ j u, (elP.c (⟨ysq, yvw, yb⟩ : PA))[j]? = some u → (wr.alloc (.cells #[.int .u64 (ysq : Nat), .int .u64 (yvw : Nat), .slice yb.ao yb.n yb.cap] 42)).cell? ((⟨wr.heap.size, 0, none⟩ : Addr).add j) = some u) := fun j u hu => by rw [add_at, Nat.zero_add, A6.cell]; exact hu
                      have yok5 : elP.ok (⟨ysq, yvw, yb⟩ : PA) (wr.alloc (.cells #[.int .u64 (ysq : Nat), .int .u64 (yvw : Nat), .slice yb.ao yb.n yb.cap] 42)) := elP_fine.below hbk.1 C6
                      have HF : Hid (∀ z, elP.blk (⟨ysq, yvw, yb⟩ : PA) z → Value.ownBlock _ ≠ some z) := fun z hz e => by
                        have h1 := GR.own.lt z e
                        rcases hbk.2 z hz with h2 | h2 <;> omega
                      have HPV : Hid ((⟨ysq, yvw, yb⟩ : PA).pv = pickV nullX ps (low + x + 1)) := by show _ = _; rw [hpv, HQ.out]
                      clear GR C6 A6 hbk hyy hpv AG hil2 EB
                      go_wp2_with (refine wpList_appG elP_fine tyRP rfl (.tmp 170) (.tmp 172) rfl GR5 rfl rfl HG.out yok5 HF.out (by omega) (by unfold maxLen; omega) hb5 ?_; intro v6 w6 GR6 B6)
                      have RL : ∀ v : Value, v = .int .u64 ((y + 1 : Nat) : Int) → RPk w low top ps v6 v w6 := fun v hv => RPk.mk (x + 1) _ (by omega) (by rw [hv, HY.out]) GR6 (by
                        rw [List.map_append, HYS.out, List.range_succ, List.map_append, List.map_singleton, List.map_singleton, HPV.out]) (E6.trans B6)
                      all_goals (try go_big_round)
                      all_goals refine ⟨?_, ?_⟩
                      all_goals first
                        | exact RL _ (by go_num)
                        | (have hyh := HY.out; simp [intOf]; omega)
                · have i2 : ¬ (y : Int) ≤ (top : Int) - (low : Int) := by omega
                  have hxt : x = top - low := by omega
                  obtain ⟨ro, rc, rfl, GF, -⟩ := GR.gl elP_fine
                  have HYF : Hid (ys.map PA.pv = picksV nullX low ps) := by
                    show _ = _
                    rw [HYS.out, hxt, HTP.out]
                    rfl
                  clear GR hxt hy
                  go_wp2
                  go_ret3
                  refine ⟨E, .inr ⟨HB.out, ro, ys.length, rc, ys, ?_, GF, ?_⟩⟩
                  · rw [← HL.out] <;> rfl
                  · rw [← HL.out, ← HPA.out]
                    exact HYF.out
    · have i1 : (n : Int) < m := by omega
      have HB : Hid (badC f (l.map CA.cv) = true) := badC_t (.inr (.inl (by rw [cv_len, hl, ← hm]; exact hnm)))
      clear ho e2 e3 hm hN3
      go_enter Tryd.func10, Tryd.ntmps10
      go_wp2_with (first
        | (go_at_call 22; refine CN0.mono ?_; rintro e w9 ⟨rfl, hw9⟩; replace hw9 := hw9.symm; subst hw9)
        | (go_at_call 23; refine CM.mono ?_; rintro e w9 ⟨rfl, hw9⟩; replace hw9 := hw9.symm; subst hw9))
      go_ret3
      exact ⟨Below.refl _ _, .inl ⟨HB.out, rfl⟩⟩
end Go.Proofs.YtdcebokfnbgkaaaDoor

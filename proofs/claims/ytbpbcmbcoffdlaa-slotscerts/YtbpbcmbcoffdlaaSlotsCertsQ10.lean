/-
  Texts in one: CertsLaw15.
-/
import Derived.Test.YtbpbcmbcoffdlaaSlotsCertsQ9
import Derived.Deep.QuietTactic
import Derived.BigQuiet
namespace Go.Proofs.Ytbpbcmbcoffdlaa
open Go.RowKit
set_option maxRecDepth 100000 in
set_option maxHeartbeats 16000000 in
theorem slotsCerts_any (w : World) (f0 : Int) (ao : Option Addr) (n cap : Nat) (l : List OA) (_ : (Lit.int .i64 f0).wf = true) (G : GL elO w ao n cap l) : Calls Try.prog 7 #[.int .i64 f0, .slice ao n cap] w fun e w' => e = .returned (.bool true) ∧ Below w.heap.size w w' := by
  by_cases hf : f0 < 1 ∨ 4 < f0
  · have CN := slNew_bad w f0 hf
    have CL := light15 w ao n cap l G 60 (by omega)
    cases hb : litO l 60 with
    | _ =>
      rw [hb] at CL
      clear hf hb G
      go_enter Try.func7, Try.ntmps7
      go_wp2_with (first
        | (go_at_call 11; refine CN.mono ?_; rintro e w1 ⟨rfl, hw1⟩; have hw1 := hw1.symm; subst hw1)
        | (go_at_call 9; refine CL.mono ?_; rintro e w2 ⟨rfl, E2⟩; have CA := alive15 w2)
        | (go_at_call 10; refine CA.mono ?_; rintro e w10 ⟨rfl, E10⟩))
      go_ret
      exact ⟨rfl, E2.trans (E10.mono E2.size)⟩
  obtain ⟨f, rfl⟩ : ∃ v : Nat, f0 = v := ⟨f0.toNat, by omega⟩
  have h1 : 1 ≤ f := by omega
  have h4 : f ≤ 4 := by omega
  have CN := slNew_good w f h1 h4
  clear hf
  go_enter Try.func7, Try.ntmps7
  go_wp2_with fail
  refine CN.mono ?_
  rintro x w1 ⟨rfl, hL, hM, C1⟩
  have K1 := LT.made h1 h4 hL hM C1
  have CL := light15 w1 ao n cap l (G.below elO_fine C1) 60 (by omega)
  clear CN hL hM C1
  cases hb : litO l 60 with
  | false =>
    rw [hb] at CL
    clear hb G
    go_wp2_with (first
      | (go_at_call 9; refine CL.mono ?_; rintro e w2 ⟨rfl, E2⟩; have K2 := K1.below E2; have CA := alive15 w2)
      | (go_at_call 10; refine CA.mono ?_; rintro e w10 ⟨rfl, E10⟩; have K10 := K2.below E10))
    go_ret
    exact ⟨rfl, K10.bel⟩
  | true =>
    rw [hb] at CL
    obtain ⟨hn60, hsm⟩ := litO_of hb
    have hlen := G.len
    have hn : n ≤ 60 := by omega
    clear hb hn60
    go_wp2_with fail
    refine CL.mono ?_
    rintro x w2 ⟨rfl, E2⟩
    have K2 := K1.below E2
    have HN : Hid (CG (newG f) ∧ (newG f).f = f ∧ SI (newG f)) := ⟨newG_cg f, rfl, newG_inv f⟩
    clear CL E2 K1
    go_wp2_with fail
    go_loopw [7] (fun i wr => ∃ (k : Nat) (g : GT), k ≤ n ∧ i = .int .i64 (k : Nat) ∧ Hid (CG g ∧ g.f = f ∧ SI g) ∧ LT w (w.heap.size + 1) w.heap.size k g wr) (fun i _ => n - (intOf i).toNat)
    case atStart => exact ⟨0, _, Nat.zero_le _, rfl, HN, K2⟩
    case round =>
      clear K2 HN
      obtain ⟨k, g, hk, rfl, HG0, K3⟩ := hrel
      by_cases hlt : k < n
      · have hki : (k : Int) < (n : Int) := by omega
        obtain ⟨b, off, rfl, hX⟩ := G.atO (by omega)
        have hkx : k < l.length := by omega
        have HX := (hX k hkx).below K3.bel
        have hok := G.ok _ (List.getElem_mem hkx)
        have hs1 := hsm _ (List.getElem_mem hkx)
        obtain ⟨o, ho⟩ : ∃ o, o = l[k] := ⟨_, rfl⟩
        rw [← ho] at HX hok hs1
        clear ho hX
        obtain ⟨q0, q1, q2, q3⟩ := HX
        have CO := K3.oneC (by unfold maxLen; omega) o hok (by omega)
        go_wp2_with fail
        refine CO.mono ?_
        rintro x w5 ⟨rfl, K5⟩
        have HG5 : Hid (CG (oneG g o).1 ∧ (oneG g o).1.f = f ∧ SI (oneG g o).1) := ⟨one_cg HG0.out.1 o hok.b.byte, (one_f g o).trans HG0.out.2.1, (one_inv HG0.out.2.2 o).1⟩
        clear q0 q1 q2 q3 CO K3
        go_wp2
        go_roundw
        case rel => exact ⟨k + 1, _, by omega, by go_num, HG5, K5⟩
        case measure => simp [intOf]; omega
      · have hge : ¬ (k : Int) < (n : Int) := by omega
        have CC := K3.certsC (by omega)
        have lz := K3.lowz
        have h0f := h1
        go_wp2_with fail
        refine CC.mono ?_
        rintro x w6 ⟨co, cc, ls, rfl, GC, HLS, E6⟩
        have K6 := K3.below E6
        have HLS : Hid (ls.map (fun s => s.l.map SA.v) = certsG g) := HLS
        have D6 : DR w (w.heap.size + 1) w.heap.size k g co cc ls (.int .i64 0) (.int .u64 1) w6 := DR.mk 1 (Nat.le_refl _) (by omega) rfl rfl K6 GC
        clear CC K3 K6 GC E6
        go_wp2_with fail
        go_loopw [9, 10] (fun a i wq => DR w (w.heap.size + 1) w.heap.size k g co cc ls a i wq) (fun _ i _ => 9 - (intOf i).toNat)
        case atStart => exact D6
        case round =>
          clear D6
          obtain ⟨e, he1, he9, rfl, rfl, K7, GC⟩ := hrel
          by_cases he8 : e ≤ 8
          · have i8 : (e : Int) ≤ 8 := by omega
            have iw : IntKind.u64.wrap ((g.low : Int) + (e : Int)) = ((g.low + e : Nat) : Int) := by rw [IntKind.wrap_u64]; omega
            have CW := K7.lowC
            cases hc : crtO g (g.low + e) with
            | none =>
              have hc2 : crtO g (g.low + 1 + (e - 1)) = none := by rw [show g.low + 1 + (e - 1) = g.low + e by omega]; exact hc
              have HA : Hid ((certL g e).length = (certL g (e - 1)).length) := by
                have := certL_none hc2
                rwa [show e - 1 + 1 = e by omega] at this
              have CB := K7.best0 (g.low + e) (by omega) hc
              clear hc hc2
              go_wp2_with (first
                | (go_at_call 24; refine CW.mono ?_; rintro e w1 ⟨rfl, hw1⟩; have hw1 := hw1.symm; subst hw1)
                | (go_at_call 21; refine CB.mono ?_; rintro e w8 ⟨ao8, n8, c8, rfl, E8⟩
                   have K8 := K7.below E8
                   have GC8 := GC.below elS_fine.lists E8))
              all_goals (try go_big_round)
              all_goals refine ⟨?_, ?_⟩
              · exact DR.mk (e + 1) (by omega) (by omega) (by rw [Nat.add_sub_cancel, HA.out]) (by go_num) K8 GC8
              · simp [intOf]; omega
            | some c =>
              have hc2 : crtO g (g.low + 1 + (e - 1)) = some c := by rw [show g.low + 1 + (e - 1) = g.low + e by omega]; exact hc
              have HA : Hid ((certL g e).length = (certL g (e - 1)).length + 1) := by
                have := certL_some hc2
                rwa [show e - 1 + 1 = e by omega] at this
              have hat := certsG_at (by omega) hc2
              obtain ⟨av, hav⟩ : ∃ a, a = (certL g (e - 1)).length := ⟨_, rfl⟩
              rw [← hav] at hat ⊢
              have HAV : Hid (av = (certL g (e - 1)).length) := hav
              have hal : av < (certsG g).length := (List.getElem?_eq_some_iff.1 hat).1
              have hci := HG0.out.1.crt hc
              rw [HG0.out.2.1] at hci
              have hcv : c.view < 18446744073709551616 := by have h2 := crt_view HG0.out.2.2 hc; have h3 := K7.viewz; omega
              obtain ⟨cb, coff, rfl, hLX⟩ := GC.atL (by omega)
              have hlsl : ls.length = (certsG g).length := GC.len
              have htm := hLX av (by omega)
              have hto := GC.ok _ (List.getElem_mem (show av < ls.length by omega))
              have hte : (ls[av]'(by omega)).l.map SA.v = c.texts := by
                have h2 := hat
                rw [← HLS.out, List.getElem?_map, List.getElem?_eq_getElem (by omega)] at h2
                exact Option.some.inj h2
              obtain ⟨t, ht⟩ : ∃ t, t = ls[av]'(by omega) := ⟨_, rfl⟩
              rw [← ht] at htm hto hte
              have hto : GL elS wr t.ao t.n t.cap t.l := hto
              have htl := ci_len hci hte
              have htn : t.n = 2 * f + 1 := by rw [← htl]; exact hto.len.symm
              obtain ⟨tb, toff, htao, hTX⟩ := hto.atS (by omega)
              have HT : Hid (∀ V, Below wr.heap.size wr V → V.cell? ⟨cb, coff + av, none⟩ = some (.slice (some ⟨tb, toff, none⟩) (2 * f + 1) t.cap) ∧ ∀ j (hj : j < t.l.length), SX V tb (toff + j * 3) t.l[j] ∧ Sl V t.l[j].tag.ao t.l[j].tag.n t.l[j].tag.cap (sb c.sum)) := fun V hV => by
                refine ⟨?_, fun j hj => ⟨(hTX j hj).below hV, ?_⟩⟩
                · rw [hV.cell (World.block_lt_of_cell? _ _ htm), htm, htao, htn]
                · have h2 := (hto.ok _ (List.getElem_mem hj)).tag.below hV
                  rw [← ci_tag hci hte hj]
                  exact h2
              obtain ⟨wo, hwo⟩ : ∃ v, v = wr := ⟨_, rfl⟩
              have HCI : Hid (CI f c) := hci
              have HTE : Hid (t.l.map SA.v = c.texts) := hte
              have HTL : Hid (t.l.length = 2 * f + 1) := htl
              have hai : ¬ (((certsG g).length : Nat) : Int) ≤ (av : Int) := by omega
              have dai : decide ((((certsG g).length : Nat) : Int) ≤ (av : Int)) = false := decide_eq_false hai
              have dan : decide ((certsG g).length ≤ av) = false := decide_eq_false (by omega)
              have iai : (av : Int) < ((certsG g).length : Nat) := by omega
              have mw : IntKind.i64.wrap (2 * (f : Int)) = 2 * (f : Int) := by rw [IntKind.wrap_i64]; omega
              have i21 : (0 : Int) < 2 * (f : Int) + 1 := by omega
              have CB := K7.best1 (g.low + e) (by omega) hc
              clear hc hc2 hat hci hte htl htn htao hTX hto htm ht hLX hlsl hav
              go_wp2_with (first
                | (go_at_call 24; refine CW.mono ?_; rintro e w1 ⟨rfl, hw1⟩; have hw1 := hw1.symm; subst hw1)
                | (go_at_call 21; refine CB.mono ?_; rintro e w8 ⟨ao8, n8, c8, rfl, S8, E8, -⟩
                   have K8 := K7.below E8
                   have GC8 := GC.below elS_fine.lists E8))
              rw [← hwo] at HT E8
              clear hwo
              obtain ⟨u0, hT8⟩ := HT.out w8 E8
              have X0 := (hT8 0 (by have := HTL.out; omega)).1
              have x0 := X0.c0
              rw [ci_first HCI.out HTE.out (by have := HTL.out; omega)] at x0
              have x0 : w8.cell? ⟨tb, toff, none⟩ = some (.int .u64 (prF c.view f : Nat)) := by rwa [Nat.zero_mul, Nat.add_zero] at x0
              clear X0 hT8
              have CPR := fun m : Nat => rprim_any c.view (f : Int) hcv (w8.drewN m)
              go_quiet ((go_at_call 26; exact Calls.quiet_of_same (CPR _)))
              have B9 : Below w8.heap.size w8 (w8.drewN nq) := below_drewN _ _ _
              have K9 := K8.below B9
              have GC9 := GC8.below elS_fine.lists B9
              have S9 := Sl.below S8 B9
              have E9 := E8.trans (B9.mono E8.size)
              clear u0 x0 CPR K8 GC8 S8 B9
              go_wp2_with fail
              go_loopw [14] (fun i wq => TR wo w (w.heap.size + 1) w.heap.size k g (some ⟨cb, coff, none⟩) cc ls ao8 n8 c8 c.sum (2 * f + 1) i wq) (fun i _ => 2 * f + 1 - (intOf i).toNat)
              case atStart => exact TR.mk 0 (Nat.zero_le _) rfl K9 GC9 S9 E9
              case round =>
                clear K9 GC9 S9 E9
                obtain ⟨j, hj, rfl, KQ, GQ, SQ, EQ⟩ := hrel
                obtain ⟨u0, hTT⟩ := HT.out wr EQ
                by_cases hjl : j < 2 * f + 1
                · have ji : (j : Int) < 2 * (f : Int) + 1 := by omega
                  obtain ⟨XJ, SJ⟩ := hTT j (by have := HTL.out; omega)
                  have x0 := XJ.c0
                  have x2 := XJ.c2
                  have CS := fun m : Nat => same_any (wr.drewN m) _ ao8 _ _ n8 c8 (sb c.sum) (sb c.sum) (Sl.below SJ (below_drewN wr m _)) (Sl.below SQ (below_drewN wr m _))
                  rw [decide_eq_true rfl] at CS
                  by_cases hj0 : j = 0
                  · have z1 : decide ((0 : Int) < (j : Int)) = false := decide_eq_false (by omega)
                    have z2 : decide (0 < j) = false := decide_eq_false (by omega)
                    generalize (t.l[j]'(by have := HTL.out; omega)).fr = fj at x0
                    generalize (t.l[j]'(by have := HTL.out; omega)).tag = gj at x2 CS
                    clear hj0 XJ SJ hTT
                    go_wp2_with fail
                    go_quiet ((go_at_call 23; exact Calls.quiet_of (CS _)))
                    have BN : Below wr.heap.size wr (wr.drewN nq) := below_drewN _ _ _
                    have KN := KQ.below BN
                    have GN := GQ.below elS_fine.lists BN
                    have SN := Sl.below SQ BN
                    have EN := EQ.trans (BN.mono EQ.size)
                    clear KQ GQ SQ EQ BN CS x0 x2 u0
                    go_wp2
                    all_goals (try go_big_round)
                    all_goals refine ⟨?_, ?_⟩
                    · exact TR.mk (j + 1) (by omega) (by go_num) KN GN SN EN
                    · simp [intOf]; omega
                  · obtain ⟨YJ, -⟩ := hTT 0 (by have := HTL.out; omega)
                    have y0 := YJ.c0
                    have y0 : wr.cell? ⟨tb, toff, none⟩ = some (.int .u64 ((t.l[0]'(by have := HTL.out; omega)).fr : Nat)) := by rwa [Nat.zero_mul, Nat.add_zero] at y0
                    obtain ⟨hne, hup⟩ := ci_other HCI.out HTE.out (by have := HTL.out; omega) (j := j) (by have := HTL.out; omega) (by omega)
                    have jp : (0 : Int) < (j : Int) := by omega
                    have jn : 0 < j := by omega
                    have jo : decide (0 < j) = true := decide_eq_true jn
                    by_cases hj1 : j = 1
                    · have z1 : decide ((1 : Int) < (j : Int)) = false := decide_eq_false (by omega)
                      have z2 : decide (1 < j) = false := decide_eq_false (by omega)
                      generalize (t.l[j]'(by have := HTL.out; omega)).fr = fj at x0 hne hup
                      generalize (t.l[0]'(by have := HTL.out; omega)).fr = f0 at y0 hne
                      generalize (t.l[j]'(by have := HTL.out; omega)).tag = gj at x2 CS
                      have z3 : decide (fj = f0) = false := decide_eq_false hne
                      have z4 : decide ((fj : Int) = (f0 : Int)) = false := decide_eq_false (by omega)
                      have z8 : ((fj : Int) == (f0 : Int)) = false := beq_eq_false_iff_ne.2 (by omega)
                      have z9 : (fj == f0) = false := beq_eq_false_iff_ne.2 hne
                      clear hj0 hj1 hne hup XJ SJ hTT YJ
                      go_wp2_with fail
                      go_quiet ((go_at_call 23; exact Calls.quiet_of (CS _)))
                      have BN : Below wr.heap.size wr (wr.drewN nq) := below_drewN _ _ _
                      have KN := KQ.below BN
                      have GN := GQ.below elS_fine.lists BN
                      have SN := Sl.below SQ BN
                      have EN := EQ.trans (BN.mono EQ.size)
                      clear y0 KQ GQ SQ EQ BN CS x0 x2 u0
                      go_wp2
                      all_goals (try go_big_round)
                      all_goals refine ⟨?_, ?_⟩
                      · exact TR.mk (j + 1) (by omega) (by go_num) KN GN SN EN
                      · simp [intOf]; omega
                    · obtain ⟨ZJ, -⟩ := hTT (j - 1) (by have := HTL.out; omega)
                      have v0 := ZJ.c0
                      have hup2 := hup (by omega)
                      have jq : (1 : Int) < (j : Int) := by omega
                      have jm : 1 < j := by omega
                      have js : decide (1 < j) = true := decide_eq_true jm
                      have jw : IntKind.i64.wrap ((j : Int) - 1) = ((j - 1 : Nat) : Int) := by rw [IntKind.wrap_i64]; omega
                      have jr : ((j - 1 : Nat) : Int) < 2 * (f : Int) + 1 := by omega
                      generalize (t.l[j]'(by have := HTL.out; omega)).fr = fj at x0 hne hup2
                      generalize (t.l[0]'(by have := HTL.out; omega)).fr = f0 at y0 hne
                      generalize (t.l[j - 1]'(by have := HTL.out; omega)).fr = fp at v0 hup2
                      generalize (t.l[j]'(by have := HTL.out; omega)).tag = gj at x2 CS
                      have z3 : decide (fj = f0) = false := decide_eq_false hne
                      have z4 : decide ((fj : Int) = (f0 : Int)) = false := decide_eq_false (by omega)
                      have z8 : ((fj : Int) == (f0 : Int)) = false := beq_eq_false_iff_ne.2 (by omega)
                      have z9 : (fj == f0) = false := beq_eq_false_iff_ne.2 hne
                      have z5 : decide (fj ≤ fp) = false := decide_eq_false (by omega)
                      have z6 : decide ((fj : Int) ≤ (fp : Int)) = false := decide_eq_false (by omega)
                      clear hup hup2 hne XJ SJ hTT YJ ZJ hj0 hj1
                      go_wp2_with fail
                      go_quiet ((go_at_call 23; exact Calls.quiet_of (CS _)))
                      have BN : Below wr.heap.size wr (wr.drewN nq) := below_drewN _ _ _
                      have KN := KQ.below BN
                      have GN := GQ.below elS_fine.lists BN
                      have SN := Sl.below SQ BN
                      have EN := EQ.trans (BN.mono EQ.size)
                      clear y0 v0 KQ GQ SQ EQ BN CS x0 x2 u0
                      go_wp2
                      all_goals (try go_big_round)
                      all_goals refine ⟨?_, ?_⟩
                      · exact TR.mk (j + 1) (by omega) (by go_num) KN GN SN EN
                      · simp [intOf]; omega
                · have ji : ¬ (j : Int) < 2 * (f : Int) + 1 := by omega
                  have avl : av ≤ 8 := by have := certsG_len g; omega
                  clear hTT
                  go_wp2
                  all_goals (try go_big_round)
                  all_goals refine ⟨?_, ?_⟩
                  · exact DR.mk (e + 1) (by omega) (by omega) (by rw [Nat.add_sub_cancel, HA.out, ← HAV.out]; go_num) (by go_num) KQ GQ
                  · simp [intOf]; omega
          · have i8 : ¬ (e : Int) ≤ 8 := by omega
            have h9 : e = 9 := by omega
            subst h9
            have ia : (certL g 8).length = (certsG g).length := (certL_len g).symm
            have ia2 : (certL g (9 - 1)).length = (certsG g).length := ia
            rw [ia2]
            have CA := alive15 wr
            go_wp2_with (go_at_call 10; refine CA.mono ?_; rintro e w10 ⟨rfl, E10⟩)
            have K10 := K7.below E10
            go_ret
            exact ⟨rfl, K10.bel⟩
end Go.Proofs.Ytbpbcmbcoffdlaa

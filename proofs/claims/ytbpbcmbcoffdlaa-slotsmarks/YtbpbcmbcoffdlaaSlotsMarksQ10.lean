/-
  Texts in one: MarksLaw15.
-/
import Derived.Test.YtbpbcmbcoffdlaaSlotsMarksQ9
import Derived.Deep.QuietTactic
import Derived.BigQuiet
namespace Go.Proofs.Ytbpbcmbcoffdlaa
open Go.RowKit
theorem LT.drew {w0 w : World} {L M n : Nat} {g : GT} (h : LT w0 L M n g w) (m : Nat) : LT w0 L M n g (w.drewN m) := h.below ⟨rfl, rfl, rfl, Nat.le_refl _, fun _ _ => rfl⟩
set_option maxRecDepth 100000 in
set_option maxHeartbeats 16000000 in
theorem slotsMarks_any (w : World) (f0 : Int) (ao : Option Addr) (n cap : Nat) (l : List OA) (_ : (Lit.int .i64 f0).wf = true) (G : GL elO w ao n cap l) : Calls Try.prog 6 #[.int .i64 f0, .slice ao n cap] w fun e w' => e = .returned (.bool true) ∧ Below w.heap.size w w' := by
  by_cases hf : f0 < 1 ∨ 4 < f0
  · have CN := slNew_bad w f0 hf
    have CA := alive15 w
    have CL := light15 w ao n cap l G 60 (by omega)
    cases hb : litO l 60 with
    | _ =>
      rw [hb] at CL
      clear hf hb G
      go_enter Try.func6, Try.ntmps6
      go_wp2_with (first
        | (go_at_call 11; refine CN.mono ?_; rintro e w1 ⟨rfl, hw1⟩; have hw1 := hw1.symm; subst hw1)
        | (go_at_call 9; refine CL.mono ?_; rintro e w2 ⟨rfl, E2⟩; have CA := alive15 w2)
        | (go_at_call 10; refine CA.mono ?_; rintro e w10 ⟨rfl, E10⟩))
      go_ret
      exact ⟨rfl, E2.trans (E10.mono E2.size)⟩
  obtain ⟨f, rfl⟩ : ∃ v : Nat, f0 = v := ⟨f0.toNat, by omega⟩
  have h1 : 1 ≤ f := by omega
  have h4 : f ≤ 4 := by omega
  have CN := slNew_good w f h1 h4
  clear hf
  go_enter Try.func6, Try.ntmps6
  go_wp2_with fail
  refine CN.mono ?_
  rintro x w1 ⟨rfl, hL, hM, C1⟩
  have K1 := LT.made h1 h4 hL hM C1
  have CL := light15 w1 ao n cap l (G.below elO_fine C1) 60 (by omega)
  clear CN hL hM C1
  cases hb : litO l 60 with
  | false =>
    rw [hb] at CL
    clear hb G
    go_wp2_with (first
      | (go_at_call 9; refine CL.mono ?_; rintro e w2 ⟨rfl, E2⟩; have K2 := K1.below E2; have CA := alive15 w2)
      | (go_at_call 10; refine CA.mono ?_; rintro e w10 ⟨rfl, E10⟩; have K10 := K2.below E10))
    go_ret
    exact ⟨rfl, K10.bel⟩
  | true =>
    rw [hb] at CL
    obtain ⟨hn60, hsm⟩ := litO_of hb
    have hlen := G.len
    have hn : n ≤ 60 := by omega
    clear hb hn60
    go_wp2_with fail
    refine CL.mono ?_
    rintro x w2 ⟨rfl, E2⟩
    have K2 := K1.below E2
    have HN := newG_inv f
    clear CL E2 K1
    go_wp2_with fail
    go_loopw [7] (fun i wr => ∃ (k : Nat) (g : GT), k ≤ n ∧ i = .int .i64 (k : Nat) ∧ SI g ∧ LT w (w.heap.size + 1) w.heap.size k g wr) (fun i _ => n - (intOf i).toNat)
    case atStart => exact ⟨0, _, Nat.zero_le _, rfl, HN, K2⟩
    case round =>
      clear K2 HN
      obtain ⟨k, g, hk, rfl, SI0, K3⟩ := hrel
      by_cases hlt : k < n
      · have hki : (k : Int) < (n : Int) := by omega
        obtain ⟨b, off, rfl, hX⟩ := G.atO (by omega)
        have hkx : k < l.length := by omega
        have HX := hX k hkx
        have hok := G.ok _ (List.getElem_mem hkx)
        have hs1 := hsm _ (List.getElem_mem hkx)
        obtain ⟨o, ho⟩ : ∃ o, o = l[k] := ⟨_, rfl⟩
        rw [← ho] at HX hok hs1
        clear ho hX
        have hs := hok.seq
        have HC : Hid (∀ V, Below w.heap.size w V → OX V b (off + k * 4) o) := fun V hV => HX.below hV
        have hbnd : b < w.heap.size := World.block_lt_of_cell? _ _ HX.c0
        clear HX
        obtain ⟨q0, q1, q2, q3⟩ := HC.out wr K3.bel
        have CW := K3.lowC
        have CV := K3.viewC
        have CB := K3.bestC o.seq hs
        go_wp2_with (first
          | (go_at_call 24; refine CW.mono ?_; rintro e w1 ⟨rfl, hw1⟩; have hw1 := hw1.symm; subst hw1)
          | (go_at_call 22; refine CV.mono ?_; rintro e w1 ⟨rfl, hw1⟩; have hw1 := hw1.symm; subst hw1)
          | (go_at_call 21; refine CB.mono ?_; rintro e w4 ⟨ao4, n4, c4, rfl, -, E4⟩
             obtain ⟨bv, hbv⟩ : ∃ bv, bv = (crtO g o.seq).isSome := ⟨_, rfl⟩
             obtain ⟨v0, hv0⟩ : ∃ v, v = cvw (crtO g o.seq) := ⟨_, rfl⟩
             rw [← hbv, ← hv0]
             have HV0 : Hid (v0 = cvw (crtO g o.seq)) := hv0
             have HBV : Hid (bv = (crtO g o.seq).isSome) := hbv
             clear hbv hv0
             have K4 := K3.below E4
             clear q0 q1 q2 q3
             obtain ⟨q0, q1, q2, q3⟩ := HC.out w4 K4.bel
             have CO := K4.oneC (by unfold maxLen; omega) o hok (by omega))
          | (go_at_call 12; refine CO.mono ?_; rintro e w5 ⟨rfl, K5⟩
             obtain ⟨g', hg'⟩ : ∃ g', g' = (oneG g o).1 := ⟨_, rfl⟩
             have ST := (one_inv SI0 o).2
             have SI' := (one_inv SI0 o).1
             rw [← hg'] at K5 ST SI'
             clear hg' q0 q1 q2 q3 CW CV CB CO K3 K4 E4
             have CW := K5.lowC
             have CV := K5.viewC
             have i1 : ¬ (g'.low : Int) < (g.low : Int) := by have := ST.low; omega
             have i2 : ¬ (g'.view : Int) < (g.view : Int) := by have := ST.view; omega
             have lz := K5.lowz
             have CC := K5.certsC (by omega)
             have hcl := certsG_len g')
          | (go_at_call 15; refine CC.mono ?_; rintro e w6 ⟨ao6, c6, l6, rfl, -, -, E6⟩
             have i8 : ¬ (8 : Int) < ((certsG g').length : Int) := by omega
             clear hcl
             have K6 := K5.below E6
             clear CW CV CC K5
             obtain ⟨q0, q1, q2, q3⟩ := HC.out w6 K6.bel
             have CB := K6.bestC o.seq hs
             have K5 := K6)
          | (go_at_call 21; refine CB.mono ?_; rintro e w7 ⟨ao7, n7, c7, rfl, -, E7⟩
             obtain ⟨bv2, hbv2⟩ : ∃ bv, bv = (crtO g' o.seq).isSome := ⟨_, rfl⟩
             obtain ⟨v1, hv1⟩ : ∃ v, v = cvw (crtO g' o.seq) := ⟨_, rfl⟩
             rw [← hbv2, ← hv1]
             have HV1 : Hid (v1 = cvw (crtO g' o.seq)) := hv1
             have HBV2 : Hid (bv2 = (crtO g' o.seq).isSome) := hbv2
             clear hbv2 hv1
             have K7 := K6.below E7
             clear q0 q1 q2 q3))
        obtain ⟨q0, q1, q2, q3⟩ := HC.out w7 K7.bel
        have K5 := K7
        clear K7 E7 CB K6 E6 i1 i2 i8
        by_cases hlq : g'.low < o.seq
        · have i5 : (g'.low : Int) < (o.seq : Int) := by omega
          cases bv with
          | false =>
            clear i5
            have CQ := fun m : Nat => (K5.drew m).lowC
            go_quiet ((go_at_call 24; exact Calls.quiet_of_same (CQ _)))
            have K5 := K5.drew nq
            clear q0 q1 q2 q3
            go_wp2_with fail
            go_loopw [16] (fun i wq => ∃ d : Nat, d ≤ g'.low + 1 ∧ d ≤ 4 ∧ i = .int .u64 (d : Nat) ∧ LT w (w.heap.size + 1) w.heap.size (k + 1) g' wq) (fun i _ => 4 - (intOf i).toNat)
            case atStart => exact ⟨0, Nat.zero_le _, by omega, rfl, K5⟩
            case round =>
              clear K5
              obtain ⟨d, hd1, hd4, rfl, K6⟩ := hrel
              have CW := K6.lowC
              by_cases hdl : d ≤ g'.low
              · have i3 : (d : Int) ≤ (g'.low : Int) := by omega
                have di3 : decide ((d : Int) ≤ (g'.low : Int)) = true := decide_eq_true i3
                by_cases hd3 : d ≤ 3
                · have i4 : (d : Int) ≤ 3 := by omega
                  have di4 : decide ((d : Int) ≤ 3) = true := decide_eq_true i4
                  have iw : IntKind.u64.wrap ((g'.low : Int) - (d : Int)) = ((g'.low - d : Nat) : Int) := by rw [IntKind.wrap_u64]; omega
                  obtain ⟨o1, o2, o3⟩ := K6.out (k := g'.low - d) (by omega)
                  have CS := K6.sumC (g'.low - d) (by omega)
                  rw [o1] at CS
                  clear hdl hd1 o1 o3
                  go_wp2_with (first
                    | (go_at_call 24; refine CW.mono ?_; rintro e w1 ⟨rfl, hw1⟩; have hw1 := hw1.symm; subst hw1)
                    | (go_at_call 25; refine CS.mono ?_; rintro e w7 ⟨ao7, n7, c7, rfl, -, E7⟩
                       have K7 := K6.below E7
                       have CW7 := K7.lowC
                       have CP := K7.preC (g'.low - d) (by omega)
                       rw [o2] at CP
                       clear CW CS K6)
                    | (go_at_call 24; refine CW7.mono ?_; rintro e w1 ⟨rfl, hw1⟩; have hw1 := hw1.symm; subst hw1)
                    | (go_at_call 20; refine CP.mono ?_; rintro e w8 ⟨rfl, E8⟩
                       have K8 := K7.below E8))
                  have hdd : d + 1 ≤ g'.low + 1 := by omega
                  have hwd : IntKind.u64.wrap ((d : Int) + 1) = ((d + 1 : Nat) : Int) := by rw [IntKind.wrap_u64]; omega
                  iterate 40 (first | refine Exists.intro _ ?_ | skip)
                  go_roundw
                  case rel => exact ⟨d + 1, hdd, by omega, by go_num, K8⟩
                  case measure => simp [intOf]; omega
                · have i4 : ¬ (d : Int) ≤ 3 := by omega
                  have di4 : decide ((d : Int) ≤ 3) = false := decide_eq_false i4
                  clear hdl hd1
                  have iw1 : IntKind.u64.wrap ((g'.low : Int) + 8) = ((g'.low + 8 : Nat) : Int) := by rw [IntKind.wrap_u64]; omega
                  have iw2 : IntKind.u64.wrap (((g'.low + 8 : Nat) : Int) + 1) = ((g'.low + 9 : Nat) : Int) := by rw [IntKind.wrap_u64]; omega
                  obtain ⟨o1, -, -⟩ := K6.out (k := g'.low + 9) (by omega)
                  have CS := K6.sumC (g'.low + 9) (by omega)
                  rw [o1] at CS
                  clear o1
                  go_wp2_with (first
                    | (go_at_call 24; refine CW.mono ?_; rintro e w1 ⟨rfl, hw1⟩; have hw1 := hw1.symm; subst hw1)
                    | (go_at_call 25; refine CS.mono ?_; rintro e w7 ⟨ao7, n7, c7, rfl, -, E7⟩
                       have K7 := K6.below E7
                       have CW7 := K7.lowC
                       obtain ⟨-, -, o3⟩ := K7.out (k := g'.low + 9) (by omega)
                       have CB := K7.bestC (g'.low + 9) (by omega)
                       rw [o3] at CB
                       clear CW CS K6 o3)
                    | (go_at_call 24; refine CW7.mono ?_; rintro e w1 ⟨rfl, hw1⟩; have hw1 := hw1.symm; subst hw1)
                    | (go_at_call 21; refine CB.mono ?_; rintro e w8 ⟨ao8, n8, c8, rfl, -, E8⟩
                       have K8 := K7.below E8))
                  go_roundw
                  case rel => exact ⟨k + 1, g', by omega, by go_num, SI', K8⟩
                  case measure => simp [intOf]; omega
              · have i3 : ¬ (d : Int) ≤ (g'.low : Int) := by omega
                have di3 : decide ((d : Int) ≤ (g'.low : Int)) = false := decide_eq_false i3
                clear hdl hd1
                have iw1 : IntKind.u64.wrap ((g'.low : Int) + 8) = ((g'.low + 8 : Nat) : Int) := by rw [IntKind.wrap_u64]; omega
                have iw2 : IntKind.u64.wrap (((g'.low + 8 : Nat) : Int) + 1) = ((g'.low + 9 : Nat) : Int) := by rw [IntKind.wrap_u64]; omega
                obtain ⟨o1, -, -⟩ := K6.out (k := g'.low + 9) (by omega)
                have CS := K6.sumC (g'.low + 9) (by omega)
                rw [o1] at CS
                clear o1
                go_wp2_with (first
                  | (go_at_call 24; refine CW.mono ?_; rintro e w1 ⟨rfl, hw1⟩; have hw1 := hw1.symm; subst hw1)
                  | (go_at_call 25; refine CS.mono ?_; rintro e w7 ⟨ao7, n7, c7, rfl, -, E7⟩
                     have K7 := K6.below E7
                     have CW7 := K7.lowC
                     obtain ⟨-, -, o3⟩ := K7.out (k := g'.low + 9) (by omega)
                     have CB := K7.bestC (g'.low + 9) (by omega)
                     rw [o3] at CB
                     clear CW CS K6 o3)
                  | (go_at_call 24; refine CW7.mono ?_; rintro e w1 ⟨rfl, hw1⟩; have hw1 := hw1.symm; subst hw1)
                  | (go_at_call 21; refine CB.mono ?_; rintro e w8 ⟨ao8, n8, c8, rfl, -, E8⟩
                     have K8 := K7.below E8))
                go_roundw
                case rel => exact ⟨k + 1, g', by omega, by go_num, SI', K8⟩
                case measure => simp [intOf]; omega
          | true =>
            have ⟨hb2, d6⟩ : bv2 = true ∧ decide (v1 < v0) = false := by
              obtain ⟨c, hc⟩ := Option.isSome_iff_exists.1 HBV.out.symm
              obtain ⟨c', hc', hv, -⟩ := crt_step ST hc hlq
              rw [HBV2.out, HV0.out, HV1.out, hc, hc']
              refine ⟨rfl, decide_eq_false ?_⟩
              show ¬ (c'.view < c.view)
              omega
            clear HV0 HV1 HBV HBV2 ST hlq
            subst hb2
            have CQ := fun m : Nat => (K5.drew m).lowC
            go_quiet ((go_at_call 24; exact Calls.quiet_of_same (CQ _)))
            have K5 := K5.drew nq
            clear q0 q1 q2 q3
            go_wp2_with fail
            go_loopw [16] (fun i wq => ∃ d : Nat, d ≤ g'.low + 1 ∧ d ≤ 4 ∧ i = .int .u64 (d : Nat) ∧ LT w (w.heap.size + 1) w.heap.size (k + 1) g' wq) (fun i _ => 4 - (intOf i).toNat)
            case atStart => exact ⟨0, Nat.zero_le _, by omega, rfl, K5⟩
            case round =>
              clear K5
              obtain ⟨d, hd1, hd4, rfl, K6⟩ := hrel
              have CW := K6.lowC
              by_cases hdl : d ≤ g'.low
              · have i3 : (d : Int) ≤ (g'.low : Int) := by omega
                have di3 : decide ((d : Int) ≤ (g'.low : Int)) = true := decide_eq_true i3
                by_cases hd3 : d ≤ 3
                · have i4 : (d : Int) ≤ 3 := by omega
                  have di4 : decide ((d : Int) ≤ 3) = true := decide_eq_true i4
                  have iw : IntKind.u64.wrap ((g'.low : Int) - (d : Int)) = ((g'.low - d : Nat) : Int) := by rw [IntKind.wrap_u64]; omega
                  obtain ⟨o1, o2, o3⟩ := K6.out (k := g'.low - d) (by omega)
                  have CS := K6.sumC (g'.low - d) (by omega)
                  rw [o1] at CS
                  clear hdl hd1 o1 o3
                  go_wp2_with (first
                    | (go_at_call 24; refine CW.mono ?_; rintro e w1 ⟨rfl, hw1⟩; have hw1 := hw1.symm; subst hw1)
                    | (go_at_call 25; refine CS.mono ?_; rintro e w7 ⟨ao7, n7, c7, rfl, -, E7⟩
                       have K7 := K6.below E7
                       have CW7 := K7.lowC
                       have CP := K7.preC (g'.low - d) (by omega)
                       rw [o2] at CP
                       clear CW CS K6)
                    | (go_at_call 24; refine CW7.mono ?_; rintro e w1 ⟨rfl, hw1⟩; have hw1 := hw1.symm; subst hw1)
                    | (go_at_call 20; refine CP.mono ?_; rintro e w8 ⟨rfl, E8⟩
                       have K8 := K7.below E8))
                  have hdd : d + 1 ≤ g'.low + 1 := by omega
                  have hwd : IntKind.u64.wrap ((d : Int) + 1) = ((d + 1 : Nat) : Int) := by rw [IntKind.wrap_u64]; omega
                  iterate 40 (first | refine Exists.intro _ ?_ | skip)
                  go_roundw
                  case rel => exact ⟨d + 1, hdd, by omega, by go_num, K8⟩
                  case measure => simp [intOf]; omega
                · have i4 : ¬ (d : Int) ≤ 3 := by omega
                  have di4 : decide ((d : Int) ≤ 3) = false := decide_eq_false i4
                  clear hdl hd1
                  have iw1 : IntKind.u64.wrap ((g'.low : Int) + 8) = ((g'.low + 8 : Nat) : Int) := by rw [IntKind.wrap_u64]; omega
                  have iw2 : IntKind.u64.wrap (((g'.low + 8 : Nat) : Int) + 1) = ((g'.low + 9 : Nat) : Int) := by rw [IntKind.wrap_u64]; omega
                  obtain ⟨o1, -, -⟩ := K6.out (k := g'.low + 9) (by omega)
                  have CS := K6.sumC (g'.low + 9) (by omega)
                  rw [o1] at CS
                  clear o1
                  go_wp2_with (first
                    | (go_at_call 24; refine CW.mono ?_; rintro e w1 ⟨rfl, hw1⟩; have hw1 := hw1.symm; subst hw1)
                    | (go_at_call 25; refine CS.mono ?_; rintro e w7 ⟨ao7, n7, c7, rfl, -, E7⟩
                       have K7 := K6.below E7
                       have CW7 := K7.lowC
                       obtain ⟨-, -, o3⟩ := K7.out (k := g'.low + 9) (by omega)
                       have CB := K7.bestC (g'.low + 9) (by omega)
                       rw [o3] at CB
                       clear CW CS K6 o3)
                    | (go_at_call 24; refine CW7.mono ?_; rintro e w1 ⟨rfl, hw1⟩; have hw1 := hw1.symm; subst hw1)
                    | (go_at_call 21; refine CB.mono ?_; rintro e w8 ⟨ao8, n8, c8, rfl, -, E8⟩
                       have K8 := K7.below E8))
                  go_roundw
                  case rel => exact ⟨k + 1, g', by omega, by go_num, SI', K8⟩
                  case measure => simp [intOf]; omega
              · have i3 : ¬ (d : Int) ≤ (g'.low : Int) := by omega
                have di3 : decide ((d : Int) ≤ (g'.low : Int)) = false := decide_eq_false i3
                clear hdl hd1
                have iw1 : IntKind.u64.wrap ((g'.low : Int) + 8) = ((g'.low + 8 : Nat) : Int) := by rw [IntKind.wrap_u64]; omega
                have iw2 : IntKind.u64.wrap (((g'.low + 8 : Nat) : Int) + 1) = ((g'.low + 9 : Nat) : Int) := by rw [IntKind.wrap_u64]; omega
                obtain ⟨o1, -, -⟩ := K6.out (k := g'.low + 9) (by omega)
                have CS := K6.sumC (g'.low + 9) (by omega)
                rw [o1] at CS
                clear o1
                go_wp2_with (first
                  | (go_at_call 24; refine CW.mono ?_; rintro e w1 ⟨rfl, hw1⟩; have hw1 := hw1.symm; subst hw1)
                  | (go_at_call 25; refine CS.mono ?_; rintro e w7 ⟨ao7, n7, c7, rfl, -, E7⟩
                     have K7 := K6.below E7
                     have CW7 := K7.lowC
                     obtain ⟨-, -, o3⟩ := K7.out (k := g'.low + 9) (by omega)
                     have CB := K7.bestC (g'.low + 9) (by omega)
                     rw [o3] at CB
                     clear CW CS K6 o3)
                  | (go_at_call 24; refine CW7.mono ?_; rintro e w1 ⟨rfl, hw1⟩; have hw1 := hw1.symm; subst hw1)
                  | (go_at_call 21; refine CB.mono ?_; rintro e w8 ⟨ao8, n8, c8, rfl, -, E8⟩
                     have K8 := K7.below E8))
                go_roundw
                case rel => exact ⟨k + 1, g', by omega, by go_num, SI', K8⟩
                case measure => simp [intOf]; omega
        · have i5 : ¬ (g'.low : Int) < (o.seq : Int) := by omega
          have d5 : decide ((g'.low : Int) < (o.seq : Int)) = false := decide_eq_false i5
          cases bv with
          | _ =>
            have CQ := fun m : Nat => (K5.drew m).lowC
            go_quiet ((go_at_call 24; exact Calls.quiet_of_same (CQ _)))
            have K5 := K5.drew nq
            clear q0 q1 q2 q3
            go_wp2_with fail
            go_loopw [16] (fun i wq => ∃ d : Nat, d ≤ g'.low + 1 ∧ d ≤ 4 ∧ i = .int .u64 (d : Nat) ∧ LT w (w.heap.size + 1) w.heap.size (k + 1) g' wq) (fun i _ => 4 - (intOf i).toNat)
            case atStart => exact ⟨0, Nat.zero_le _, by omega, rfl, K5⟩
            case round =>
              clear K5
              obtain ⟨d, hd1, hd4, rfl, K6⟩ := hrel
              have CW := K6.lowC
              by_cases hdl : d ≤ g'.low
              · have i3 : (d : Int) ≤ (g'.low : Int) := by omega
                have di3 : decide ((d : Int) ≤ (g'.low : Int)) = true := decide_eq_true i3
                by_cases hd3 : d ≤ 3
                · have i4 : (d : Int) ≤ 3 := by omega
                  have di4 : decide ((d : Int) ≤ 3) = true := decide_eq_true i4
                  have iw : IntKind.u64.wrap ((g'.low : Int) - (d : Int)) = ((g'.low - d : Nat) : Int) := by rw [IntKind.wrap_u64]; omega
                  obtain ⟨o1, o2, o3⟩ := K6.out (k := g'.low - d) (by omega)
                  have CS := K6.sumC (g'.low - d) (by omega)
                  rw [o1] at CS
                  clear hdl hd1 o1 o3
                  go_wp2_with (first
                    | (go_at_call 24; refine CW.mono ?_; rintro e w1 ⟨rfl, hw1⟩; have hw1 := hw1.symm; subst hw1)
                    | (go_at_call 25; refine CS.mono ?_; rintro e w7 ⟨ao7, n7, c7, rfl, -, E7⟩
                       have K7 := K6.below E7
                       have CW7 := K7.lowC
                       have CP := K7.preC (g'.low - d) (by omega)
                       rw [o2] at CP
                       clear CW CS K6)
                    | (go_at_call 24; refine CW7.mono ?_; rintro e w1 ⟨rfl, hw1⟩; have hw1 := hw1.symm; subst hw1)
                    | (go_at_call 20; refine CP.mono ?_; rintro e w8 ⟨rfl, E8⟩
                       have K8 := K7.below E8))
                  have hdd : d + 1 ≤ g'.low + 1 := by omega
                  have hwd : IntKind.u64.wrap ((d : Int) + 1) = ((d + 1 : Nat) : Int) := by rw [IntKind.wrap_u64]; omega
                  iterate 40 (first | refine Exists.intro _ ?_ | skip)
                  go_roundw
                  case rel => exact ⟨d + 1, hdd, by omega, by go_num, K8⟩
                  case measure => simp [intOf]; omega
                · have i4 : ¬ (d : Int) ≤ 3 := by omega
                  have di4 : decide ((d : Int) ≤ 3) = false := decide_eq_false i4
                  clear hdl hd1
                  have iw1 : IntKind.u64.wrap ((g'.low : Int) + 8) = ((g'.low + 8 : Nat) : Int) := by rw [IntKind.wrap_u64]; omega
                  have iw2 : IntKind.u64.wrap (((g'.low + 8 : Nat) : Int) + 1) = ((g'.low + 9 : Nat) : Int) := by rw [IntKind.wrap_u64]; omega
                  obtain ⟨o1, -, -⟩ := K6.out (k := g'.low + 9) (by omega)
                  have CS := K6.sumC (g'.low + 9) (by omega)
                  rw [o1] at CS
                  clear o1
                  go_wp2_with (first
                    | (go_at_call 24; refine CW.mono ?_; rintro e w1 ⟨rfl, hw1⟩; have hw1 := hw1.symm; subst hw1)
                    | (go_at_call 25; refine CS.mono ?_; rintro e w7 ⟨ao7, n7, c7, rfl, -, E7⟩
                       have K7 := K6.below E7
                       have CW7 := K7.lowC
                       obtain ⟨-, -, o3⟩ := K7.out (k := g'.low + 9) (by omega)
                       have CB := K7.bestC (g'.low + 9) (by omega)
                       rw [o3] at CB
                       clear CW CS K6 o3)
                    | (go_at_call 24; refine CW7.mono ?_; rintro e w1 ⟨rfl, hw1⟩; have hw1 := hw1.symm; subst hw1)
                    | (go_at_call 21; refine CB.mono ?_; rintro e w8 ⟨ao8, n8, c8, rfl, -, E8⟩
                       have K8 := K7.below E8))
                  go_roundw
                  case rel => exact ⟨k + 1, g', by omega, by go_num, SI', K8⟩
                  case measure => simp [intOf]; omega
              · have i3 : ¬ (d : Int) ≤ (g'.low : Int) := by omega
                have di3 : decide ((d : Int) ≤ (g'.low : Int)) = false := decide_eq_false i3
                clear hdl hd1
                have iw1 : IntKind.u64.wrap ((g'.low : Int) + 8) = ((g'.low + 8 : Nat) : Int) := by rw [IntKind.wrap_u64]; omega
                have iw2 : IntKind.u64.wrap (((g'.low + 8 : Nat) : Int) + 1) = ((g'.low + 9 : Nat) : Int) := by rw [IntKind.wrap_u64]; omega
                obtain ⟨o1, -, -⟩ := K6.out (k := g'.low + 9) (by omega)
                have CS := K6.sumC (g'.low + 9) (by omega)
                rw [o1] at CS
                clear o1
                go_wp2_with (first
                  | (go_at_call 24; refine CW.mono ?_; rintro e w1 ⟨rfl, hw1⟩; have hw1 := hw1.symm; subst hw1)
                  | (go_at_call 25; refine CS.mono ?_; rintro e w7 ⟨ao7, n7, c7, rfl, -, E7⟩
                     have K7 := K6.below E7
                     have CW7 := K7.lowC
                     obtain ⟨-, -, o3⟩ := K7.out (k := g'.low + 9) (by omega)
                     have CB := K7.bestC (g'.low + 9) (by omega)
                     rw [o3] at CB
                     clear CW CS K6 o3)
                  | (go_at_call 24; refine CW7.mono ?_; rintro e w1 ⟨rfl, hw1⟩; have hw1 := hw1.symm; subst hw1)
                  | (go_at_call 21; refine CB.mono ?_; rintro e w8 ⟨ao8, n8, c8, rfl, -, E8⟩
                     have K8 := K7.below E8))
                go_roundw
                case rel => exact ⟨k + 1, g', by omega, by go_num, SI', K8⟩
                case measure => simp [intOf]; omega
      · have hge : ¬ (k : Int) < (n : Int) := by omega
        go_wp2_with fail
        refine (alive15 wr).mono ?_
        rintro e w9 ⟨rfl, E9⟩
        have K9 := K3.below E9
        go_wp2
        go_ret
        exact ⟨rfl, K9.bel⟩
end Go.Proofs.Ytbpbcmbcoffdlaa

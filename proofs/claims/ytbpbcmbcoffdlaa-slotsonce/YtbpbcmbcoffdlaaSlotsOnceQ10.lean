/-
  Texts in one: OnceLaw15.
-/
import Derived.Test.YtbpbcmbcoffdlaaSlotsOnceQ9
namespace Go.Proofs.Ytbpbcmbcoffdlaa
open Go.RowKit
set_option maxRecDepth 100000 in
set_option maxHeartbeats 16000000 in
theorem slotsOnce_any (w : World) (f0 : Int) (ao : Option Addr) (n cap : Nat) (l : List OA) (_ : (Lit.int .i64 f0).wf = true) (G : GL elO w ao n cap l) : Calls Try.prog 4 #[.int .i64 f0, .slice ao n cap] w fun e w' => e = .returned (.bool true) ∧ Below w.heap.size w w' := by
  by_cases hf : f0 < 1 ∨ 4 < f0
  · have CN := slNew_bad w f0 hf
    have CL := light15 w ao n cap l G 60 (by omega)
    cases hb : litO l 60 with
    | _ =>
      rw [hb] at CL
      clear hf hb G
      go_enter Try.func4, Try.ntmps4
      go_wp2_with (first
        | (go_at_call 11; refine CN.mono ?_; rintro e w1 ⟨rfl, hw1⟩; have hw1 := hw1.symm; subst hw1)
        | (go_at_call 9; refine CL.mono ?_; rintro e w2 ⟨rfl, E2⟩; have CA := alive15 w2)
        | (go_at_call 10; refine CA.mono ?_; rintro e w10 ⟨rfl, E10⟩))
      go_ret
      exact ⟨rfl, E2.trans (E10.mono E2.size)⟩
  obtain ⟨f, rfl⟩ : ∃ v : Nat, f0 = v := ⟨f0.toNat, by omega⟩
  have h1 : 1 ≤ f := by omega
  have h4 : f ≤ 4 := by omega
  have CN := slNew_good w f h1 h4
  clear hf
  go_enter Try.func4, Try.ntmps4
  go_wp2_with fail
  refine CN.mono ?_
  rintro x w1 ⟨rfl, hL, hM, C1⟩
  have K1 := LU.made h1 h4 hL hM C1
  have CL := light15 w1 ao n cap l (G.below elO_fine C1) 60 (by omega)
  clear CN hL hM C1
  cases hb : litO l 60 with
  | false =>
    rw [hb] at CL
    clear hb G
    go_wp2_with (first
      | (go_at_call 9; refine CL.mono ?_; rintro e w2 ⟨rfl, E2⟩; have K2 := K1.lt.below E2; have CA := alive15 w2)
      | (go_at_call 10; refine CA.mono ?_; rintro e w10 ⟨rfl, E10⟩; have K10 := K2.below E10))
    go_ret
    exact ⟨rfl, K10.bel⟩
  | true =>
    rw [hb] at CL
    obtain ⟨hn60, hsm⟩ := litO_of hb
    have hlen := G.len
    have hn : n ≤ 60 := by omega
    clear hb hn60
    go_wp2_with fail
    refine CL.mono ?_
    rintro x w2 ⟨rfl, E2⟩
    have O2 := OB.nil (K1.below E2)
    have HN := newG_inv f
    clear CL E2 K1
    go_wp2_with fail
    go_loopw [7, 8] (fun mv i wr => ∃ (k : Nat) (g : GT) (ρ : Nat → Nat) (ys : List WA), k ≤ n ∧ i = .int .i64 (k : Nat) ∧ SI g ∧ OB w (w.heap.size + 1) w.heap.size k g ρ mv ys wr ∧ Hid (ys.length ≤ k)) (fun _ i _ => n - (intOf i).toNat)
    case atStart => exact ⟨0, _, _, [], Nat.zero_le _, rfl, HN, O2, Nat.le_refl 0⟩
    case round =>
      clear O2 HN
      obtain ⟨k, g, ρ, ys, hk, rfl, SI0, O3, HL0⟩ := hrel
      by_cases hlt : k < n
      · have hki : (k : Int) < (n : Int) := by omega
        obtain ⟨b, off, rfl, hX⟩ := G.atO (by omega)
        have hkx : k < l.length := by omega
        have HX := hX k hkx
        have hok := G.ok _ (List.getElem_mem hkx)
        have hs1 := hsm _ (List.getElem_mem hkx)
        obtain ⟨o, ho⟩ : ∃ o, o = l[k] := ⟨_, rfl⟩
        rw [← ho] at HX hok hs1
        clear ho hX
        have hs := hok.seq
        have HC : Hid (∀ V, Below w.heap.size w V → OX V b (off + k * 4) o) := fun V hV => HX.below hV
        clear HX
        obtain ⟨q0, q1, q2, q3⟩ := HC.out wr O3.K.bel
        have CO := O3.K.oneC (by unfold maxLen; omega) o hok (by omega)
        go_wp2_with fail
        refine CO.mono ?_
        rintro x w5 ⟨rfl, ρ5, K5, T5⟩
        obtain ⟨g', hg'⟩ : ∃ g', g' = (oneG g o).1 := ⟨_, rfl⟩
        have ST := (one_inv SI0 o).2
        have SI' := (one_inv SI0 o).1
        rw [← hg'] at K5 ST SI'
        have OB5 : Hid (OB w (w.heap.size + 1) w.heap.size (k + 1) g' ρ5 _ ys w5) := O3.one K5 T5 ST
        have HL5 : Hid (ys.length ≤ k + 1) := Nat.le_trans HL0.out (Nat.le_succ k)
        clear hg' q0 q1 q2 q3 CO O3 T5 ST
        obtain ⟨q0, q1, q2, q3⟩ := HC.out w5 K5.bel
        rcases once_cases SI' o.seq with ⟨h1, h2, h3⟩ | ⟨c, h1, hv, ⟨h2, h3⟩ | ⟨hv2, h3, h2 | h2⟩⟩
        · clear hok hs1
          have CC := K5.lt.com0 o.seq hs h2
          go_wp2_with (first
            | (go_at_call 19; refine CC.mono ?_; rintro e w6 ⟨ao6, n6, c6, rfl, E6⟩
               have K6 := K5.below E6
               have X6 := E6
               have CP := K6.lt.preV o.seq hs h3
               have CB := K6.lt.best0 o.seq hs h1)
            | (go_at_call 21; refine CB.mono ?_; rintro e w7 ⟨ao7, n7, c7, rfl, E7⟩
               have K7 := K6.below E7
               have X7 := E6.trans (E7.mono E6.size)
               have CQ := K7.lt.preV o.seq hs h3)
            | (go_at_call 20; refine CQ.mono ?_; rintro e w8 ⟨rfl, E8⟩
               have K8 := K7.below E8
               have X8 := X7.trans (E8.mono X7.size)
               have CV := K8.lt.viewC))
          have O8 := OB5.out.below X8
          go_roundw
          case rel => exact ⟨k + 1, g', _, ys, by omega, by go_num, SI', O8, HL5⟩
          case measure => simp [intOf]; omega
        · have d9 : decide (g'.view < c.view) = false := decide_eq_false (by omega)
          have d8 : decide ((g'.view : Int) < (c.view : Int)) = false := decide_eq_false (by omega)
          clear hok hs1 hv
          have CC := K5.lt.com0 o.seq hs h2
          go_wp2_with (first
            | (go_at_call 19; refine CC.mono ?_; rintro e w6 ⟨ao6, n6, c6, rfl, E6⟩
               have K6 := K5.below E6
               have X6 := E6
               have CP := K6.lt.preV o.seq hs h3
               have CB := K6.lt.best1 o.seq hs h1)
            | (go_at_call 21; refine CB.mono ?_; rintro e w7 ⟨ao7, n7, c7, rfl, S7, E7, F7⟩
               have K7 := K6.below E7
               have X7 := E6.trans (E7.mono E6.size)
               have CQ := K7.lt.preV o.seq hs h3)
            | (go_at_call 20; refine CQ.mono ?_; rintro e w8 ⟨rfl, E8⟩
               have K8 := K7.below E8
               have X8 := X7.trans (E8.mono X7.size)
               have CV := K8.lt.viewC)
            | (go_at_call 22; refine CV.mono ?_; rintro e w1 ⟨rfl, hw1⟩; have hw1 := hw1.symm; subst hw1))
          have HC1 : Hid (crtO g' o.seq = some c) := h1
          have HL : Hid (ys.length ≤ k) := HL0.out
          have FR : Hid (∀ z, sblk ao7 n7 z → rho w5 ρ5 z = 0) := fun z hz => rho_new (Nat.le_trans E6.size (F7 z hz))
          have SN := Sl.below S7 E8
          have ON := OB5.out.below X8
          have FN := FR
          obtain ⟨mo, mc, rfl⟩ := ON.slice
          go_wp2_with fail
          have hyl : ys.length ≤ 60 := by have := HL.out; omega
          go_loopw [15] (fun j wq => MetR w (w.heap.size + 1) w.heap.size (k + 1) g' (.slice mo ys.length mc) ys ao7 n7 c7 c.sum j wq) (fun j _ => ys.length - (intOf j).toNat)
          case atStart => exact MetR.mk 0 _ (Nat.zero_le _) rfl ON SN FN
          case round =>
            clear ON SN FN
            obtain ⟨jj, ρq, hjj, rfl, OQ, SQ, FQ⟩ := hrel
            by_cases hjl : jj < ys.length
            · have hji : (jj : Int) < (ys.length : Int) := by omega
              obtain ⟨b2, off2, rfl, hW⟩ := OQ.atW (by omega)
              have hWX := hW jj hjl
              have hsl := OQ.G.ok _ (List.getElem_mem hjl)
              have hag := fun a b => OQ.again HC1.out (List.getElem_mem hjl) a b
              obtain ⟨y, hy⟩ : ∃ y, y = ys[jj] := ⟨_, rfl⟩
              rw [← hy] at hWX hsl hag
              clear hy hW
              obtain ⟨m0, m1, m2⟩ := hWX
              obtain ⟨yv, yq, yb⟩ := y
              have m0 : _ = some (Value.int .u64 (yv : Nat)) := m0
              have m1 : _ = some (Value.int .u64 (yq : Nat)) := m1
              have m2 : _ = some (Value.slice yb.ao yb.n yb.cap) := m2
              by_cases e1 : yv = c.view
              · by_cases e2 : yq = o.seq
                · have CS := same_any wr yb.ao ao7 yb.n yb.cap n7 c7 yb.xs (sb c.sum) hsl SQ
                  rw [decide_eq_true (hag e1 e2)] at CS
                  rw [e1] at m0
                  rw [e2] at m1
                  clear hag e1 e2 hsl
                  go_wp2_with (go_at_call 23; refine CS.mono ?_; rintro e w9 ⟨rfl, q9, rfl⟩)
                  all_goals (try go_big_round)
                  all_goals refine ⟨?_, ?_⟩
                  all_goals first
                    | (exact MetR.mk (jj + 1) _ (by omega) (by go_num) OQ SQ FQ)
                    | (exact MetR.mk (jj + 1) _ (by omega) (by go_num) (OQ.below (below_drewN _ _ _)) (Sl.below SQ (below_drewN _ _ _)) fun z hz => rho_zero (FQ.out z hz))
                    | (iterate 34 apply Exists.intro
                       refine ⟨?_, rfl⟩
                       first
                         | (exact MetR.mk (jj + 1) _ (by omega) (by go_num) OQ SQ FQ)
                         | (exact MetR.mk (jj + 1) _ (by omega) (by go_num) (OQ.below (below_drewN _ _ _)) (Sl.below SQ (below_drewN _ _ _)) fun z hz => rho_zero (FQ.out z hz)))
                    | (simp [intOf]; omega)
                    | (simp [intOf])
                · have j2 : ¬ (yq : Int) = (o.seq : Int) := by omega
                  rw [e1] at m0
                  clear hag e1 hsl e2
                  go_wp2
                  all_goals (try go_big_round)
                  all_goals refine ⟨?_, ?_⟩
                  all_goals first
                    | (exact MetR.mk (jj + 1) _ (by omega) (by go_num) OQ SQ FQ)
                    | (exact MetR.mk (jj + 1) _ (by omega) (by go_num) (OQ.below (below_drewN _ _ _)) (Sl.below SQ (below_drewN _ _ _)) fun z hz => rho_zero (FQ.out z hz))
                    | (iterate 34 apply Exists.intro
                       refine ⟨?_, rfl⟩
                       first
                         | (exact MetR.mk (jj + 1) _ (by omega) (by go_num) OQ SQ FQ)
                         | (exact MetR.mk (jj + 1) _ (by omega) (by go_num) (OQ.below (below_drewN _ _ _)) (Sl.below SQ (below_drewN _ _ _)) fun z hz => rho_zero (FQ.out z hz)))
                    | (simp [intOf]; omega)
                    | (simp [intOf])
              · have j1 : ¬ (yv : Int) = (c.view : Int) := by omega
                clear hag hsl e1
                go_wp2
                all_goals (try go_big_round)
                all_goals refine ⟨?_, ?_⟩
                all_goals first
                  | (exact MetR.mk (jj + 1) _ (by omega) (by go_num) OQ SQ FQ)
                  | (exact MetR.mk (jj + 1) _ (by omega) (by go_num) (OQ.below (below_drewN _ _ _)) (Sl.below SQ (below_drewN _ _ _)) fun z hz => rho_zero (FQ.out z hz))
                  | (iterate 34 apply Exists.intro
                     refine ⟨?_, rfl⟩
                     first
                       | (exact MetR.mk (jj + 1) _ (by omega) (by go_num) OQ SQ FQ)
                       | (exact MetR.mk (jj + 1) _ (by omega) (by go_num) (OQ.below (below_drewN _ _ _)) (Sl.below SQ (below_drewN _ _ _)) fun z hz => rho_zero (FQ.out z hz)))
                  | (simp [intOf]; omega)
                  | (simp [intOf])
            · have hji : ¬ (jj : Int) < (ys.length : Int) := by omega
              have C7 : Below wr.heap.size wr (wr.alloc (.cells #[.int .u64 (c.view : Nat), .int .u64 (o.seq : Nat), .slice ao7 n7 c7] 58)) := (Below.refl _ _).alloc (Nat.le_refl _) _
              have OA7 := OQ.below C7
              have HG : ∀ j t, (elW.c (⟨c.view, o.seq, ⟨ao7, n7, c7, sb c.sum⟩⟩ : WA))[j]? = some t → (wr.alloc (.cells #[.int .u64 (c.view : Nat), .int .u64 (o.seq : Nat), .slice ao7 n7 c7] 58)).cell? ((⟨wr.heap.size, 0, none⟩ : Addr).add j) = some t := fun j t ht => by
                rw [Addr.add_lit, Nat.zero_add, cell_of_row _ _ j _ _ _ (heap_alloc_new _ _)]
                simpa [elW, WA.cells] using ht
              obtain ⟨v9, w9, ρ9, hr9, O9⟩ := OA7.app 49 (cp := 1) HG (Sl.below SQ C7) (fun z hz => rho_zero (FQ.out z hz)) HC1.out (by have := HL.out; omega)
              have HL9 : Hid ((ys ++ [(⟨c.view, o.seq, ⟨ao7, n7, c7, sb c.sum⟩⟩ : WA)]).length ≤ k + 1) := by
                show _ ≤ _
                rw [List.length_append]
                have := HL.out
                show ys.length + 1 ≤ _
                omega
              clear OA7 HG OQ SQ C7
              go_wp2_with (refine stop_at (.call { callee := .builtin .append, args := #[Operand.tmp 133, Operand.tmp 138], argTypes := #[49, 49] }) rfl ?_)
              refine ⟨?_⟩
              refine wpList_append_run rfl (.tmp 133) (.tmp 138) rfl rfl rfl hr9 ?_
              go_wp2
              go_roundw
              case rel => exact ⟨k + 1, g', ρ9, _, by omega, by go_num, SI', O9, HL9⟩
              case measure => simp [intOf]; omega
        · have HV2 : Hid (c.view = g'.view) := hv2
          clear hok hs1 hv hv2
          have CC := K5.lt.com0 o.seq hs h2
          go_wp2_with (first
            | (go_at_call 19; refine CC.mono ?_; rintro e w6 ⟨ao6, n6, c6, rfl, E6⟩
               have K6 := K5.below E6
               have X6 := E6
               have CP := K6.lt.preV o.seq hs h3
               have CB := K6.lt.best1 o.seq hs h1)
            | (go_at_call 21; refine CB.mono ?_; rintro e w7 ⟨ao7, n7, c7, rfl, S7, E7, F7⟩
               have K7 := K6.below E7
               have X7 := E6.trans (E7.mono E6.size)
               have CQ := K7.lt.preV o.seq hs h3)
            | (go_at_call 20; refine CQ.mono ?_; rintro e w8 ⟨rfl, E8⟩
               have K8 := K7.below E8
               have X8 := X7.trans (E8.mono X7.size)
               have CV := K8.lt.viewC
               rw [← HV2.out] at CV)
            | (go_at_call 22; refine CV.mono ?_; rintro e w1 ⟨rfl, hw1⟩; have hw1 := hw1.symm; subst hw1))
          have HC1 : Hid (crtO g' o.seq = some c) := h1
          have HL : Hid (ys.length ≤ k) := HL0.out
          have FR : Hid (∀ z, sblk ao7 n7 z → rho w5 ρ5 z = 0) := fun z hz => rho_new (Nat.le_trans E6.size (F7 z hz))
          have SN := Sl.below S7 E8
          have ON := OB5.out.below X8
          have FN := FR
          obtain ⟨mo, mc, rfl⟩ := ON.slice
          go_wp2_with fail
          have hyl : ys.length ≤ 60 := by have := HL.out; omega
          go_loopw [15] (fun j wq => MetR w (w.heap.size + 1) w.heap.size (k + 1) g' (.slice mo ys.length mc) ys ao7 n7 c7 c.sum j wq) (fun j _ => ys.length - (intOf j).toNat)
          case atStart => exact MetR.mk 0 _ (Nat.zero_le _) rfl ON SN FN
          case round =>
            clear ON SN FN
            obtain ⟨jj, ρq, hjj, rfl, OQ, SQ, FQ⟩ := hrel
            by_cases hjl : jj < ys.length
            · have hji : (jj : Int) < (ys.length : Int) := by omega
              obtain ⟨b2, off2, rfl, hW⟩ := OQ.atW (by omega)
              have hWX := hW jj hjl
              have hsl := OQ.G.ok _ (List.getElem_mem hjl)
              have hag := fun a b => OQ.again HC1.out (List.getElem_mem hjl) a b
              obtain ⟨y, hy⟩ : ∃ y, y = ys[jj] := ⟨_, rfl⟩
              rw [← hy] at hWX hsl hag
              clear hy hW
              obtain ⟨m0, m1, m2⟩ := hWX
              obtain ⟨yv, yq, yb⟩ := y
              have m0 : _ = some (Value.int .u64 (yv : Nat)) := m0
              have m1 : _ = some (Value.int .u64 (yq : Nat)) := m1
              have m2 : _ = some (Value.slice yb.ao yb.n yb.cap) := m2
              by_cases e1 : yv = c.view
              · by_cases e2 : yq = o.seq
                · have CS := same_any wr yb.ao ao7 yb.n yb.cap n7 c7 yb.xs (sb c.sum) hsl SQ
                  rw [decide_eq_true (hag e1 e2)] at CS
                  rw [e1] at m0
                  rw [e2] at m1
                  clear hag e1 e2 hsl
                  go_wp2_with (go_at_call 23; refine CS.mono ?_; rintro e w9 ⟨rfl, q9, rfl⟩)
                  all_goals (try go_big_round)
                  all_goals refine ⟨?_, ?_⟩
                  all_goals first
                    | (exact MetR.mk (jj + 1) _ (by omega) (by go_num) OQ SQ FQ)
                    | (exact MetR.mk (jj + 1) _ (by omega) (by go_num) (OQ.below (below_drewN _ _ _)) (Sl.below SQ (below_drewN _ _ _)) fun z hz => rho_zero (FQ.out z hz))
                    | (iterate 34 apply Exists.intro
                       refine ⟨?_, rfl⟩
                       first
                         | (exact MetR.mk (jj + 1) _ (by omega) (by go_num) OQ SQ FQ)
                         | (exact MetR.mk (jj + 1) _ (by omega) (by go_num) (OQ.below (below_drewN _ _ _)) (Sl.below SQ (below_drewN _ _ _)) fun z hz => rho_zero (FQ.out z hz)))
                    | (simp [intOf]; omega)
                    | (simp [intOf])
                · have j2 : ¬ (yq : Int) = (o.seq : Int) := by omega
                  rw [e1] at m0
                  clear hag e1 hsl e2
                  go_wp2
                  all_goals (try go_big_round)
                  all_goals refine ⟨?_, ?_⟩
                  all_goals first
                    | (exact MetR.mk (jj + 1) _ (by omega) (by go_num) OQ SQ FQ)
                    | (exact MetR.mk (jj + 1) _ (by omega) (by go_num) (OQ.below (below_drewN _ _ _)) (Sl.below SQ (below_drewN _ _ _)) fun z hz => rho_zero (FQ.out z hz))
                    | (iterate 34 apply Exists.intro
                       refine ⟨?_, rfl⟩
                       first
                         | (exact MetR.mk (jj + 1) _ (by omega) (by go_num) OQ SQ FQ)
                         | (exact MetR.mk (jj + 1) _ (by omega) (by go_num) (OQ.below (below_drewN _ _ _)) (Sl.below SQ (below_drewN _ _ _)) fun z hz => rho_zero (FQ.out z hz)))
                    | (simp [intOf]; omega)
                    | (simp [intOf])
              · have j1 : ¬ (yv : Int) = (c.view : Int) := by omega
                clear hag hsl e1
                go_wp2
                all_goals (try go_big_round)
                all_goals refine ⟨?_, ?_⟩
                all_goals first
                  | (exact MetR.mk (jj + 1) _ (by omega) (by go_num) OQ SQ FQ)
                  | (exact MetR.mk (jj + 1) _ (by omega) (by go_num) (OQ.below (below_drewN _ _ _)) (Sl.below SQ (below_drewN _ _ _)) fun z hz => rho_zero (FQ.out z hz))
                  | (iterate 34 apply Exists.intro
                     refine ⟨?_, rfl⟩
                     first
                       | (exact MetR.mk (jj + 1) _ (by omega) (by go_num) OQ SQ FQ)
                       | (exact MetR.mk (jj + 1) _ (by omega) (by go_num) (OQ.below (below_drewN _ _ _)) (Sl.below SQ (below_drewN _ _ _)) fun z hz => rho_zero (FQ.out z hz)))
                  | (simp [intOf]; omega)
                  | (simp [intOf])
            · have hji : ¬ (jj : Int) < (ys.length : Int) := by omega
              have C7 : Below wr.heap.size wr (wr.alloc (.cells #[.int .u64 (c.view : Nat), .int .u64 (o.seq : Nat), .slice ao7 n7 c7] 58)) := (Below.refl _ _).alloc (Nat.le_refl _) _
              have OA7 := OQ.below C7
              have HG : ∀ j t, (elW.c (⟨c.view, o.seq, ⟨ao7, n7, c7, sb c.sum⟩⟩ : WA))[j]? = some t → (wr.alloc (.cells #[.int .u64 (c.view : Nat), .int .u64 (o.seq : Nat), .slice ao7 n7 c7] 58)).cell? ((⟨wr.heap.size, 0, none⟩ : Addr).add j) = some t := fun j t ht => by
                rw [Addr.add_lit, Nat.zero_add, cell_of_row _ _ j _ _ _ (heap_alloc_new _ _)]
                simpa [elW, WA.cells] using ht
              obtain ⟨v9, w9, ρ9, hr9, O9⟩ := OA7.app 49 (cp := 1) HG (Sl.below SQ C7) (fun z hz => rho_zero (FQ.out z hz)) HC1.out (by have := HL.out; omega)
              have HL9 : Hid ((ys ++ [(⟨c.view, o.seq, ⟨ao7, n7, c7, sb c.sum⟩⟩ : WA)]).length ≤ k + 1) := by
                show _ ≤ _
                rw [List.length_append]
                have := HL.out
                show ys.length + 1 ≤ _
                omega
              clear OA7 HG OQ SQ C7
              go_wp2_with (refine stop_at (.call { callee := .builtin .append, args := #[Operand.tmp 133, Operand.tmp 138], argTypes := #[49, 49] }) rfl ?_)
              refine ⟨?_⟩
              refine wpList_append_run rfl (.tmp 133) (.tmp 138) rfl rfl rfl hr9 ?_
              go_wp2
              go_roundw
              case rel => exact ⟨k + 1, g', ρ9, _, by omega, by go_num, SI', O9, HL9⟩
              case measure => simp [intOf]; omega
        · have HV2 : Hid (c.view = g'.view) := hv2
          clear hok hs1 hv hv2
          have CC := K5.lt.com1 o.seq hs h2
          go_wp2_with (first
            | (go_at_call 19; refine CC.mono ?_; rintro e w6 ⟨ao6, n6, c6, rfl, S6, E6⟩
               have K6 := K5.below E6
               have X6 := E6
               have CP := K6.lt.preV o.seq hs h3
               have CB := K6.lt.best1 o.seq hs h1)
            | (go_at_call 20; refine CP.mono ?_; rintro e w6a ⟨rfl, E6a⟩
               have K6a := K6.below E6a
               have X6a := E6.trans (E6a.mono E6.size)
               have S6 := Sl.below S6 E6a
               have CB := K6a.lt.best1 o.seq hs h1
               clear CP)
            | (go_at_call 21; refine CB.mono ?_; rintro e w7 ⟨ao7, n7, c7, rfl, S7, E7, F7⟩
               have K7 := K6a.below E7
               have X7 := X6a.trans (E7.mono X6a.size)
               have CQ := K7.lt.preV o.seq hs h3
               have S6 := Sl.below S6 E7)
            | (go_at_call 20; refine CQ.mono ?_; rintro e w8 ⟨rfl, E8⟩
               have K8 := K7.below E8
               have X8 := X7.trans (E8.mono X7.size)
               have CV := K8.lt.viewC
               rw [← HV2.out] at CV
               have S6 := Sl.below S6 E8
               have S8 := Sl.below S7 E8
               have CS := same_any w8 ao6 ao7 n6 c6 n7 c7 (sb c.sum) (sb c.sum) S6 S8
               rw [decide_eq_true rfl] at CS)
            | (go_at_call 22; refine CV.mono ?_; rintro e w1 ⟨rfl, hw1⟩; have hw1 := hw1.symm; subst hw1)
            | (go_at_call 23; refine CS.mono ?_; rintro e w9 ⟨rfl, q9, rfl⟩))
          have X9 := X8.trans ((below_drewN w8 q9 _ : Below w8.heap.size w8 (w8.drewN q9)).mono X8.size)
          have HC1 : Hid (crtO g' o.seq = some c) := h1
          have HL : Hid (ys.length ≤ k) := HL0.out
          have FR : Hid (∀ z, sblk ao7 n7 z → rho w5 ρ5 z = 0) := fun z hz => rho_new (Nat.le_trans X6a.size (F7 z hz))
          have SN := Sl.below S8 (below_drewN w8 q9 _)
          have ON := OB5.out.below X9
          have FN := FR
          obtain ⟨mo, mc, rfl⟩ := ON.slice
          go_wp2_with fail
          have hyl : ys.length ≤ 60 := by have := HL.out; omega
          go_loopw [15] (fun j wq => MetR w (w.heap.size + 1) w.heap.size (k + 1) g' (.slice mo ys.length mc) ys ao7 n7 c7 c.sum j wq) (fun j _ => ys.length - (intOf j).toNat)
          case atStart => exact MetR.mk 0 _ (Nat.zero_le _) rfl ON SN FN
          case round =>
            clear ON SN FN
            obtain ⟨jj, ρq, hjj, rfl, OQ, SQ, FQ⟩ := hrel
            by_cases hjl : jj < ys.length
            · have hji : (jj : Int) < (ys.length : Int) := by omega
              obtain ⟨b2, off2, rfl, hW⟩ := OQ.atW (by omega)
              have hWX := hW jj hjl
              have hsl := OQ.G.ok _ (List.getElem_mem hjl)
              have hag := fun a b => OQ.again HC1.out (List.getElem_mem hjl) a b
              obtain ⟨y, hy⟩ : ∃ y, y = ys[jj] := ⟨_, rfl⟩
              rw [← hy] at hWX hsl hag
              clear hy hW
              obtain ⟨m0, m1, m2⟩ := hWX
              obtain ⟨yv, yq, yb⟩ := y
              have m0 : _ = some (Value.int .u64 (yv : Nat)) := m0
              have m1 : _ = some (Value.int .u64 (yq : Nat)) := m1
              have m2 : _ = some (Value.slice yb.ao yb.n yb.cap) := m2
              by_cases e1 : yv = c.view
              · by_cases e2 : yq = o.seq
                · have CS := same_any wr yb.ao ao7 yb.n yb.cap n7 c7 yb.xs (sb c.sum) hsl SQ
                  rw [decide_eq_true (hag e1 e2)] at CS
                  rw [e1] at m0
                  rw [e2] at m1
                  clear hag e1 e2 hsl
                  go_wp2_with (go_at_call 23; refine CS.mono ?_; rintro e w9 ⟨rfl, q9, rfl⟩)
                  all_goals (try go_big_round)
                  all_goals refine ⟨?_, ?_⟩
                  all_goals first
                    | (exact MetR.mk (jj + 1) _ (by omega) (by go_num) OQ SQ FQ)
                    | (exact MetR.mk (jj + 1) _ (by omega) (by go_num) (OQ.below (below_drewN _ _ _)) (Sl.below SQ (below_drewN _ _ _)) fun z hz => rho_zero (FQ.out z hz))
                    | (iterate 34 apply Exists.intro
                       refine ⟨?_, rfl⟩
                       first
                         | (exact MetR.mk (jj + 1) _ (by omega) (by go_num) OQ SQ FQ)
                         | (exact MetR.mk (jj + 1) _ (by omega) (by go_num) (OQ.below (below_drewN _ _ _)) (Sl.below SQ (below_drewN _ _ _)) fun z hz => rho_zero (FQ.out z hz)))
                    | (simp [intOf]; omega)
                    | (simp [intOf])
                · have j2 : ¬ (yq : Int) = (o.seq : Int) := by omega
                  rw [e1] at m0
                  clear hag e1 hsl e2
                  go_wp2
                  all_goals (try go_big_round)
                  all_goals refine ⟨?_, ?_⟩
                  all_goals first
                    | (exact MetR.mk (jj + 1) _ (by omega) (by go_num) OQ SQ FQ)
                    | (exact MetR.mk (jj + 1) _ (by omega) (by go_num) (OQ.below (below_drewN _ _ _)) (Sl.below SQ (below_drewN _ _ _)) fun z hz => rho_zero (FQ.out z hz))
                    | (iterate 34 apply Exists.intro
                       refine ⟨?_, rfl⟩
                       first
                         | (exact MetR.mk (jj + 1) _ (by omega) (by go_num) OQ SQ FQ)
                         | (exact MetR.mk (jj + 1) _ (by omega) (by go_num) (OQ.below (below_drewN _ _ _)) (Sl.below SQ (below_drewN _ _ _)) fun z hz => rho_zero (FQ.out z hz)))
                    | (simp [intOf]; omega)
                    | (simp [intOf])
              · have j1 : ¬ (yv : Int) = (c.view : Int) := by omega
                clear hag hsl e1
                go_wp2
                all_goals (try go_big_round)
                all_goals refine ⟨?_, ?_⟩
                all_goals first
                  | (exact MetR.mk (jj + 1) _ (by omega) (by go_num) OQ SQ FQ)
                  | (exact MetR.mk (jj + 1) _ (by omega) (by go_num) (OQ.below (below_drewN _ _ _)) (Sl.below SQ (below_drewN _ _ _)) fun z hz => rho_zero (FQ.out z hz))
                  | (iterate 34 apply Exists.intro
                     refine ⟨?_, rfl⟩
                     first
                       | (exact MetR.mk (jj + 1) _ (by omega) (by go_num) OQ SQ FQ)
                       | (exact MetR.mk (jj + 1) _ (by omega) (by go_num) (OQ.below (below_drewN _ _ _)) (Sl.below SQ (below_drewN _ _ _)) fun z hz => rho_zero (FQ.out z hz)))
                  | (simp [intOf]; omega)
                  | (simp [intOf])
            · have hji : ¬ (jj : Int) < (ys.length : Int) := by omega
              have C7 : Below wr.heap.size wr (wr.alloc (.cells #[.int .u64 (c.view : Nat), .int .u64 (o.seq : Nat), .slice ao7 n7 c7] 58)) := (Below.refl _ _).alloc (Nat.le_refl _) _
              have OA7 := OQ.below C7
              have HG : ∀ j t, (elW.c (⟨c.view, o.seq, ⟨ao7, n7, c7, sb c.sum⟩⟩ : WA))[j]? = some t → (wr.alloc (.cells #[.int .u64 (c.view : Nat), .int .u64 (o.seq : Nat), .slice ao7 n7 c7] 58)).cell? ((⟨wr.heap.size, 0, none⟩ : Addr).add j) = some t := fun j t ht => by
                rw [Addr.add_lit, Nat.zero_add, cell_of_row _ _ j _ _ _ (heap_alloc_new _ _)]
                simpa [elW, WA.cells] using ht
              obtain ⟨v9, w9, ρ9, hr9, O9⟩ := OA7.app 49 (cp := 1) HG (Sl.below SQ C7) (fun z hz => rho_zero (FQ.out z hz)) HC1.out (by have := HL.out; omega)
              have HL9 : Hid ((ys ++ [(⟨c.view, o.seq, ⟨ao7, n7, c7, sb c.sum⟩⟩ : WA)]).length ≤ k + 1) := by
                show _ ≤ _
                rw [List.length_append]
                have := HL.out
                show ys.length + 1 ≤ _
                omega
              clear OA7 HG OQ SQ C7
              go_wp2_with (refine stop_at (.call { callee := .builtin .append, args := #[Operand.tmp 133, Operand.tmp 138], argTypes := #[49, 49] }) rfl ?_)
              refine ⟨?_⟩
              refine wpList_append_run rfl (.tmp 133) (.tmp 138) rfl rfl rfl hr9 ?_
              go_wp2
              go_roundw
              case rel => exact ⟨k + 1, g', ρ9, _, by omega, by go_num, SI', O9, HL9⟩
              case measure => simp [intOf]; omega
      · have hge : ¬ (k : Int) < (n : Int) := by omega
        go_wp2_with fail
        refine (alive15 wr).mono ?_
        rintro e w9 ⟨rfl, E9⟩
        have K9 := O3.K.lt.below E9
        go_wp2
        go_ret
        exact ⟨rfl, K9.bel⟩
end Go.Proofs.Ytbpbcmbcoffdlaa

/-
  Texts in one: TwoLaw15.
-/
import Derived.Test.YtbbhokodleaheaaSlotsTwoQ3
import Derived.Deep.QuietTactic
import Derived.BigQuiet
import Derived.Test.YtbbhokodleaheaaSlotsTwoQ1
namespace Go.Proofs.Ytbbhokodleaheaa
open Go.RowKit
set_option maxRecDepth 100000 in
set_option maxHeartbeats 16000000 in
theorem slotsTwo_any (w : World) (f0 : Int) (a1 : Option Addr) (n1 c1 : Nat) (l1 : List OA) (a2 : Option Addr) (n2 c2 : Nat) (l2 : List OA) (a3 : Option Addr) (n3 c3 : Nat) (fs : List Nat) (_ : (Lit.int .i64 f0).wf = true) (G1 : GL elO w a1 n1 c1 l1) (G2 : GL elO w a2 n2 c2 l2) (N3 : NL w a3 n3 c3 fs) : Calls Try.prog 5 #[.int .i64 f0, .slice a1 n1 c1, .slice a2 n2 c2, .slice a3 n3 c3] w fun e w' => e = .returned (.bool true) ∧ Below w.heap.size w w' := by
  have CL1 := light15 w a1 n1 c1 l1 G1 60 (by omega)
  cases h1 : litO l1 60 with
  | false =>
    rw [h1] at CL1
    clear h1
    go_enter Try.func5, Try.ntmps5
    go_wp2_with fail
    refine CL1.mono ?_
    rintro e w1 ⟨rfl, E1⟩
    have CA := alive15 w1
    go_wp2_with (go_at_call 10; refine CA.mono ?_; rintro e w3 ⟨rfl, E3⟩)
    go_ret
    exact ⟨rfl, E1.trans (E3.mono E1.size)⟩
  | true =>
    rw [h1] at CL1
    cases h2 : litO l2 60 with
    | false =>
      have H2 : Hid (litO l2 60 = false) := h2
      clear h1 h2
      go_enter Try.func5, Try.ntmps5
      go_wp2_with fail
      refine CL1.mono ?_
      rintro e w1 ⟨rfl, E1⟩
      have CL2 := light15 w1 a2 n2 c2 l2 (G2.below elO_fine E1) 60 (by omega)
      rw [H2.out] at CL2
      go_wp2_with fail
      refine CL2.mono ?_
      rintro e w2 ⟨rfl, E2⟩
      have E2 := E1.trans (E2.mono E1.size)
      have CA := alive15 w2
      go_wp2_with (go_at_call 10; refine CA.mono ?_; rintro e w3 ⟨rfl, E3⟩)
      go_ret
      exact ⟨rfl, E2.trans (E3.mono E2.size)⟩
    | true =>
      have H2 : Hid (litO l2 60 = true) := h2
      have H1 : Hid (litO l1 60 = true) := h1
      clear h1 h2
      by_cases f1 : f0 < 1
      · 
        go_enter Try.func5, Try.ntmps5
        go_wp2_with fail
        refine CL1.mono ?_
        rintro e w1 ⟨rfl, E1⟩
        have CL2 := light15 w1 a2 n2 c2 l2 (G2.below elO_fine E1) 60 (by omega)
        rw [H2.out] at CL2
        go_wp2_with fail
        refine CL2.mono ?_
        rintro e w2 ⟨rfl, E2⟩
        have E2 := E1.trans (E2.mono E1.size)
        have CA := alive15 w2
        go_wp2_with (go_at_call 10; refine CA.mono ?_; rintro e w3 ⟨rfl, E3⟩)
        go_ret
        exact ⟨rfl, E2.trans (E3.mono E2.size)⟩
      by_cases f4 : 4 < f0
      · 
        go_enter Try.func5, Try.ntmps5
        go_wp2_with fail
        refine CL1.mono ?_
        rintro e w1 ⟨rfl, E1⟩
        have CL2 := light15 w1 a2 n2 c2 l2 (G2.below elO_fine E1) 60 (by omega)
        rw [H2.out] at CL2
        go_wp2_with fail
        refine CL2.mono ?_
        rintro e w2 ⟨rfl, E2⟩
        have E2 := E1.trans (E2.mono E1.size)
        have CA := alive15 w2
        go_wp2_with (go_at_call 10; refine CA.mono ?_; rintro e w3 ⟨rfl, E3⟩)
        go_ret
        exact ⟨rfl, E2.trans (E3.mono E2.size)⟩
      by_cases f3 : f0 < (n3 : Int)
      · 
        go_enter Try.func5, Try.ntmps5
        go_wp2_with fail
        refine CL1.mono ?_
        rintro e w1 ⟨rfl, E1⟩
        have CL2 := light15 w1 a2 n2 c2 l2 (G2.below elO_fine E1) 60 (by omega)
        rw [H2.out] at CL2
        go_wp2_with fail
        refine CL2.mono ?_
        rintro e w2 ⟨rfl, E2⟩
        have E2 := E1.trans (E2.mono E1.size)
        have CA := alive15 w2
        go_wp2_with (go_at_call 10; refine CA.mono ?_; rintro e w3 ⟨rfl, E3⟩)
        go_ret
        exact ⟨rfl, E2.trans (E3.mono E2.size)⟩
      obtain ⟨f, rfl⟩ : ∃ v : Nat, f0 = v := ⟨f0.toNat, by omega⟩
      have hf1 : 1 ≤ f := by omega
      have hf4 : f ≤ 4 := by omega
      go_enter Try.func5, Try.ntmps5
      go_wp2_with fail
      refine CL1.mono ?_
      rintro e w1 ⟨rfl, E1⟩
      have CL2 := light15 w1 a2 n2 c2 l2 (G2.below elO_fine E1) 60 (by omega)
      rw [H2.out] at CL2
      go_wp2_with fail
      refine CL2.mono ?_
      rintro e w2 ⟨rfl, E2⟩
      have E2 := E1.trans (E2.mono E1.size)
      have CN := slNew_good w2 f hf1 hf4
      clear CL1 CL2 E1
      go_wp2_with fail
      refine CN.mono ?_
      rintro e w3 ⟨rfl, hL, hM, E3⟩
      have CN2 := slNew_good w3 f hf1 hf4
      clear CN
      go_wp2_with fail
      refine CN2.mono ?_
      rintro e w4 ⟨rfl, hL2, hM2, E4⟩
      clear CN2
      go_wp2_with (refine stop_at (.call { callee := .builtin .append, args := #[Operand.tmp 73, Operand.tmp 74], argTypes := #[22, 22] }) rfl ?_)
      refine ⟨?_⟩
      obtain ⟨W5, hW5⟩ : ∃ W, W = w4.alloc (.cells #[] 37) := ⟨_, rfl⟩
      have B5 : Below w4.heap.size w4 W5 := by rw [hW5]; exact (Below.refl _ _).alloc (Nat.le_refl _) _
      have A5 : Arr W5 w4.heap.size 37 [] := by rw [hW5]; exact heap_alloc_new w4 _
      rw [← hW5]
      clear hW5
      have E4' := E2.trans ((E3.mono E2.size).trans (E4.mono (Nat.le_trans E2.size E3.size)))
      have E5 := E4'.trans (B5.mono E4'.size)
      have ln1 : n1 ≤ 60 := by have h := (litO_of H1.out).1; have h2 := G1.len; omega
      have ln2 : n2 ≤ 60 := by have h := (litO_of H2.out).1; have h2 := G2.len; omega
      obtain ⟨v6, w6, hr6, R6, E6⟩ := run_appG0 elO_fine tyO 22 (Nat.le_refl _) A5 (G1.below elO_fine E5) G1.ok (by omega) (by omega) (Nat.le_trans B5.size (Nat.le_refl _))
      have E6a := E6
      have E6 := E5.trans (E6.mono E5.size)
      have B6 : w4.heap.size ≤ w6.heap.size := Nat.le_trans B5.size E6a.size
      obtain ⟨v7, w7, hr7, R7, E7⟩ := run_appGs elO_fine tyO 22 R6 B6 (G2.below elO_fine E6) G2.ok (by have := G1.len; omega) (by have := G1.len; unfold maxLen; omega)
      refine wpList_append_run rfl (.tmp 73) (.tmp 74) rfl rfl rfl hr6 ?_
      go_wp2_with (refine stop_at (.call { callee := .builtin .append, args := #[Operand.tmp 75, Operand.tmp 76], argTypes := #[22, 22] }) rfl ?_)
      refine ⟨?_⟩
      refine wpList_append_run rfl (.tmp 75) (.tmp 76) rfl rfl rfl hr7 ?_
      have s2 := E2.size
      have s3 := E3.size
      have s4 := E4.size
      have E3a := E2.trans (E3.mono s2)
      have K3 := LU.fresh hf1 hf4 hL hM E3a (by omega) (by omega) (by omega) none (fun _ h => by cases h)
      have K4 := K3.aside E4 fun z => z = w3.heap.size + 1 ∨ z = w3.heap.size
      have B7 : Below w4.heap.size w4 w7 := (B5.trans (E6a.mono B5.size)).trans E7
      have K7 := K4.below B7
      have lL4 := hL2.lt
      have lM4 := hM2.lt
      have TA7 : TA w f (w2.heap.size + 1) w2.heap.size 0 (newG f) _ (w3.heap.size + 1) w3.heap.size (.slice none 0 0) [] w7 := ⟨OT.nil K7, by rw [rho_old lL4, if_neg (by omega), if_pos (.inl rfl)], by rw [rho_old lM4, if_neg (by omega), if_pos (.inr rfl)], hL2.below B7, hM2.same (B7.block _ lM4)⟩
      have HF : Hid (fs.length ≤ f) := by show fs.length ≤ f; have := N3.len; omega
      obtain ⟨all, hall⟩ : ∃ l, l = l1 ++ l2 := ⟨_, rfl⟩
      have E7a := E7.mono E4'.size
      have HOK : Hid (∀ y ∈ all, y.ok w ∧ y.b.n ≤ 100) := fun y hy => by
        rw [hall] at hy
        rcases List.mem_append.1 hy with hy | hy
        · exact ⟨G1.ok y hy, (litO_of H1.out).2 y hy⟩
        · exact ⟨G2.ok y hy, (litO_of H2.out).2 y hy⟩
      have hn1 : n1 ≤ all.length := by rw [hall, List.length_append]; have := G1.len; omega
      obtain ⟨ao, cap, rfl, GA7, far7⟩ := R7.gl elO_fine (E6.trans E7a)
      have T0 : TWR w f (w2.heap.size + 1) w2.heap.size (w3.heap.size + 1) w3.heap.size n1 fs (l1 ++ l2) ao cap (.slice none 0 0) (.int .i64 0) w7 := ⟨0, [], newG f, newG f, Nat.zero_le _, rfl, Nat.le_refl _, fun _ h => absurd h List.not_mem_nil, fun _ h => absurd h List.not_mem_nil, newG_tg _ _ _, newG_tg _ _ _, rfl, rfl, GA7, .inl ⟨Nat.zero_le _, rfl, _, TA7, fun z hz => (by cases hz), fun z hz => rho_new (far7 z hz)⟩⟩
      rw [← hall] at T0 ⊢
      have HALL : Hid (all = l1 ++ l2) := hall
      clear hall
      have hm : w.heap.size ≤ w3.heap.size := by omega
      have h120 : all.length ≤ 120 := by rw [HALL.out, List.length_append]; have h5 := G1.len; have h6 := G2.len; omega
      clear K3 K4 K7 TA7 GA7 far7 R7 R6 A5 B7 lL4 lM4 hL hM hL2 hM2 hr6 hr7 E7 E7a E6a E5
      go_wp2_with fail
      go_loopw [13, 15] (fun v i wr => TWR w f (w2.heap.size + 1) w2.heap.size (w3.heap.size + 1) w3.heap.size n1 fs all ao cap v i wr) (fun _ i _ => all.length - (intOf i).toNat)
      case atStart => exact T0
      case round =>
        clear T0
        obtain ⟨k, hk⟩ : ∃ k : Nat, _ = Value.int .i64 (k : Nat) ∧ k ≤ all.length := by
          obtain ⟨k, ys, ga, gb, h1, h2, _⟩ := hrel
          exact ⟨k, h2, h1⟩
        obtain ⟨rfl, hk⟩ := hk
        by_cases hlt : k < all.length
        · 
          obtain ⟨wO, hwO⟩ : ∃ v, v = wr := ⟨_, rfl⟩
          subst hwO
          obtain ⟨ys, ga, gb, TF0, TD0⟩ := hrel.begin hf1 hf4 (by omega) hm (by omega) (fun y hy => (HOK.out y hy).1)
          have EW := TD0.bel
          have GA := TD0.gl
          have HTF : Hid (TF w f k fs ys ga gb) := TF0
          have hki : (k : Int) < (all.length : Int) := by omega
          obtain ⟨b, off, rfl, hX⟩ := GA.atO (by omega)
          have HX := hX k hlt
          obtain ⟨hok, hz⟩ := HOK.out _ (List.getElem_mem hlt)
          obtain ⟨o, ho⟩ : ∃ o, o = all[k] := ⟨_, rfl⟩
          rw [← ho] at HX hok hz
          obtain ⟨mo, mc, hv⟩ := TD0.slice
          subst hv
          have HTD : Hid (TD w f (w2.heap.size + 1) w2.heap.size (w3.heap.size + 1) w3.heap.size n1 k ga gb (.slice mo ys.length mc) ys _ cap all wO) := TD0
          obtain ⟨q0, q1, q2, q3⟩ := HX
          have HOZ : Hid (o.ok w ∧ o.b.n ≤ 100) := ⟨hok, hz⟩
          clear ho hX hrel TF0 TD0 GA hok hz
          have ON := OW.new wO o
          by_cases k2 : 2 < o.k
          · go_wp2_with fail
            have TZ := (HTD.out.below ON.bel).skip HTF.out hlt
            all_goals (try go_big_round)
            all_goals refine ⟨?_, ?_⟩
            all_goals first
              | exact TZ
              | (simp [intOf]; omega)
          by_cases k0 : o.k < 0
          · go_wp2_with fail
            have TZ := (HTD.out.below ON.bel).skip HTF.out hlt
            all_goals (try go_big_round)
            all_goals refine ⟨?_, ?_⟩
            all_goals first
              | exact TZ
              | (simp [intOf]; omega)
          go_wp2_with fail
          clear q0 q1 q2 q3
          obtain ⟨wb, hwb⟩ : ∃ W, W = wO.alloc (.cells #[.int .i64 o.k, .int .u64 (o.fr : Nat), .int .u64 (o.seq : Nat), .slice o.b.ao o.b.n o.b.cap] 37) := ⟨_, rfl⟩
          rw [← hwb] at ON ⊢
          clear hwb
          have kk : 0 ≤ o.k ∧ o.k ≤ 2 := by omega
          have HKK : Hid (0 ≤ o.k ∧ o.k ≤ 2) := kk
          have N3r := N3.below EW
          have B0 : BR wO o fs (.bool false) (.int .i64 0) wb := BR.mk 0 (Nat.zero_le _) rfl (by simp) ON
          clear ON k2 k0 kk
          go_loopw [17, 18] (fun bad i wq => BR wO o fs bad i wq) (fun _ i _ => fs.length - (intOf i).toNat)
          case atStart => exact B0
          case round =>
            clear B0
            obtain ⟨x, hx, rfl, hbad, O1⟩ := hrel
            by_cases hxl : x < fs.length
            · have n3l := N3.len
              have hxi : (x : Int) < (n3 : Int) := by omega
              obtain ⟨fb, foff, rfl, hF⟩ := (N3r.below O1.bel).at (by omega)
              have f0 := hF x (by omega)
              have fe : fs.getD x 0 = fs[x] := by simp [List.getD, hxl]
              rw [fe] at f0
              have c1 := O1.c1
              have HW : Hid (OW wO o _) := O1
              by_cases hm : o.fr ∈ fs.take x
              · rw [decide_eq_true hm] at hbad
                subst hbad
                clear hF fe O1
                go_wp2_with fail
                go_quiet (fail)
                have O2 := HW.out.drew nq
                clear f0 c1
                go_wp2
                all_goals (try go_big_round)
                all_goals refine ⟨?_, ?_⟩
                all_goals first
                  | exact BR.hit x hxl (by go_num) (.inl hm) O2
                  | (simp [intOf]; omega)
              rw [decide_eq_false hm] at hbad
              subst hbad
              by_cases he : o.fr = fs[x]
              · have HE : Hid (o.fr = fs[x]) := he
                rw [← he] at f0
                clear hF fe O1 he
                go_wp2_with fail
                go_quiet (fail)
                have O2 := HW.out.drew nq
                clear f0 c1
                go_wp2
                all_goals (try go_big_round)
                all_goals refine ⟨?_, ?_⟩
                all_goals first
                  | exact BR.hit x hxl (by go_num) (.inr HE.out) O2
                  | (simp [intOf]; omega)
              · obtain ⟨fx, hfx⟩ : ∃ v, v = fs[x] := ⟨_, rfl⟩
                have HE : Hid (o.fr ≠ fs[x]) := he
                rw [← hfx] at f0 he
                have z3 : decide (fx = o.fr) = false := decide_eq_false fun h => he h.symm
                have z4 : decide ((fx : Int) = (o.fr : Int)) = false := decide_eq_false (by omega)
                have z8 : ((fx : Int) == (o.fr : Int)) = false := beq_eq_false_iff_ne.2 (by omega)
                have z9 : (fx == o.fr) = false := beq_eq_false_iff_ne.2 (by omega)
                clear hF fe O1 he hfx
                go_wp2_with fail
                go_quiet (fail)
                have O2 := HW.out.drew nq
                clear f0 c1
                go_wp2
                all_goals (try go_big_round)
                all_goals refine ⟨?_, ?_⟩
                all_goals first
                  | exact BR.miss x hxl (by go_num) hm HE.out O2
                  | (simp [intOf]; omega)
            · have hxi : ¬ (x : Int) < (n3 : Int) := by have := N3.len; omega
              have et : fs.take x = fs := List.take_of_length_le (by omega)
              rw [et] at hbad
              clear et
              by_cases hm : o.fr ∈ fs
              · rw [decide_eq_true hm] at hbad
                subst hbad
                have HM : Hid (o.fr ∈ fs) := hm
                have Z0 := ZR.mk rfl rfl O1
                clear hm O1
                go_wp2_with fail
                go_loopw [19, 20] (fun is i wq => ZR wO o is i wq) (fun _ i _ => 0)
                case atStart => exact Z0
                case round =>
                  clear Z0
                  obtain ⟨rfl, rfl, O2⟩ := hrel
                  have TDt := HTD.out.below O2.bel
                  have TFt := HTF.out.next
                  have OOt := OO.bad (fs := fs) (ys := ys) HOZ.out.1 HOZ.out.2 HKK.out HM.out
                  have q0 := O2.c0
                  have q1 := O2.c1
                  have q2 := O2.c2
                  have q3 := O2.c3
                  by_cases hy : 0 < ys.length
                  · have hyi : (0 : Int) < (ys.length : Int) := by omega
                    by_cases hk1 : k < n1
                    · have i1 : (k : Int) < (n1 : Int) := by omega
                      have CO : Calls Try.prog 12 #[.pointer (some ⟨w2.heap.size + 1, 0, none⟩), .agg #[.int .i64 o.k, .int .u64 (o.fr : Nat), .int .u64 (o.seq : Nat), .slice o.b.ao o.b.n o.b.cap]] _ _ := TDt.oneA TFt hk1 hn1 (by omega) ⟨o.k, o.fr, o.seq, o.b⟩ OOt.ok OOt.sz OOt.kk OOt.told
                      go_wp2_with fail
                      refine CO.mono ?_
                      rintro e wz ⟨⟨r, rfl⟩, TZ⟩
                      clear q0 q1 q2 q3 CO
                      go_wp2
                      all_goals (try go_big_round)
                      all_goals refine ⟨?_, ?_⟩
                      all_goals first
                        | exact TZ
                        | (simp [intOf]; omega)
                    · have i1 : ¬ (k : Int) < (n1 : Int) := by omega
                      have CO : Calls Try.prog 12 #[.pointer (some ⟨w3.heap.size + 1, 0, none⟩), .agg #[.int .i64 o.k, .int .u64 (o.fr : Nat), .int .u64 (o.seq : Nat), .slice o.b.ao o.b.n o.b.cap]] _ _ := TDt.oneB TFt (by omega) hlt (by omega) ⟨o.k, o.fr, o.seq, o.b⟩ OOt.ok OOt.sz OOt.kk OOt.told
                      go_wp2_with fail
                      refine CO.mono ?_
                      rintro e wz ⟨⟨r, rfl⟩, TZ⟩
                      clear q0 q1 q2 q3 CO
                      go_wp2
                      all_goals (try go_big_round)
                      all_goals refine ⟨?_, ?_⟩
                      all_goals first
                        | exact TZ
                        | (simp [intOf]; omega)
                  · have hyi : ¬ (0 : Int) < (ys.length : Int) := by omega
                    by_cases hk1 : k < n1
                    · have i1 : (k : Int) < (n1 : Int) := by omega
                      have CO : Calls Try.prog 12 #[.pointer (some ⟨w2.heap.size + 1, 0, none⟩), .agg #[.int .i64 o.k, .int .u64 (o.fr : Nat), .int .u64 (o.seq : Nat), .slice o.b.ao o.b.n o.b.cap]] _ _ := TDt.oneA TFt hk1 hn1 (by omega) ⟨o.k, o.fr, o.seq, o.b⟩ OOt.ok OOt.sz OOt.kk OOt.told
                      go_wp2_with fail
                      refine CO.mono ?_
                      rintro e wz ⟨⟨r, rfl⟩, TZ⟩
                      clear q0 q1 q2 q3 CO
                      go_wp2
                      all_goals (try go_big_round)
                      all_goals refine ⟨?_, ?_⟩
                      all_goals first
                        | exact TZ
                        | (simp [intOf]; omega)
                    · have i1 : ¬ (k : Int) < (n1 : Int) := by omega
                      have CO : Calls Try.prog 12 #[.pointer (some ⟨w3.heap.size + 1, 0, none⟩), .agg #[.int .i64 o.k, .int .u64 (o.fr : Nat), .int .u64 (o.seq : Nat), .slice o.b.ao o.b.n o.b.cap]] _ _ := TDt.oneB TFt (by omega) hlt (by omega) ⟨o.k, o.fr, o.seq, o.b⟩ OOt.ok OOt.sz OOt.kk OOt.told
                      go_wp2_with fail
                      refine CO.mono ?_
                      rintro e wz ⟨⟨r, rfl⟩, TZ⟩
                      clear q0 q1 q2 q3 CO
                      go_wp2
                      all_goals (try go_big_round)
                      all_goals refine ⟨?_, ?_⟩
                      all_goals first
                        | exact TZ
                        | (simp [intOf]; omega)
              · rw [decide_eq_false hm] at hbad
                subst hbad
                have HB : Hid (o.fr ∉ fs) := hm
                have hyl : ys.length ≤ 120 := by have := HTF.out.len; omega
                have I0 := IR.nil (ys := ys) O1
                clear hm O1
                go_wp2_with fail
                go_loopw [19, 20] (fun is i wq => IR wO o ys is i wq) (fun _ i _ => ys.length - (intOf i).toNat)
                case atStart => exact I0
                case round =>
                  clear I0
                  obtain ⟨x, b, s, hx, rfl, rfl, O2, hI⟩ := hrel
                  have q0 : wr.cell? ⟨wO.heap.size, 0, none⟩ = some (.int .i64 o.k) := O2.c0
                  have q1 : wr.cell? ⟨wO.heap.size, 1, none⟩ = some (.int .u64 (o.fr : Nat)) := O2.c1
                  have q2 : wr.cell? ⟨wO.heap.size, 2, none⟩ = some (.int .u64 (o.seq : Nat)) := O2.c2
                  have q3 : wr.cell? ⟨wO.heap.size, 3, none⟩ = some (.slice s.ao s.n s.cap) := O2.c3
                  have HW : Hid (OW wO ⟨o.k, o.fr, o.seq, s⟩ wr) := O2
                  by_cases hxl : x < ys.length
                  · have hxi : (x : Int) < (ys.length : Int) := by omega
                    have HI : Hid ((b = false ∧ s = o.b ∧ ∀ y ∈ ys.take x, ¬ SameK (SE.of y) (SE.of o)) ∨ (b = true ∧ ∃ y ∈ ys, SameK (SE.of y) (SE.of o) ∧ s = y.b)) := hI
                    obtain ⟨yb, yoff, rfl, hY⟩ := HTD.out.atO (by omega)
                    have HY : Hid (∀ V, Below wO.heap.size wO V → OX V yb (yoff + x * 4) ys[x]) := fun V hV => (hY x hxl).below hV
                    obtain ⟨p0, p1, p2, p3⟩ := HY.out _ O2.bel
                    clear hI hY O2
                    by_cases e0 : ys[x].k = o.k
                    · by_cases e1 : ys[x].fr = o.fr
                      · by_cases e2 : ys[x].seq = o.seq
                        · have HE : Hid (SameK (SE.of ys[x]) (SE.of o)) := ⟨e0, e1, e2⟩
                          rw [e0] at p0
                          rw [e1] at p1
                          rw [e2] at p2
                          clear e0 e1 e2
                          go_wp2_with fail
                          go_quiet (fail)
                          have O3 := HW.out.drew nq
                          clear q0 q1 q2 q3 p0 p1 p2 p3
                          obtain ⟨p0, p1, p2, p3⟩ := HY.out _ O3.bel
                          have q3 : (wr.drewN nq).cell? ⟨wO.heap.size, 3, none⟩ = some (.slice s.ao s.n s.cap) := O3.c3
                          have qf : (wr.drewN nq).frozen? ⟨wO.heap.size, 3, none⟩ = false := Arr.free O3.arr 3
                          go_wp2_with fail
                          have O4 := O3.set ys[x].b
                          all_goals (try go_big_round)
                          all_goals refine ⟨?_, ?_⟩
                          all_goals first
                            | exact IR.hit x hxl (by go_num) HE.out O4
                            | (simp [intOf]; omega)
                        · have HE : Hid (¬ SameK (SE.of ys[x]) (SE.of o)) := fun h => e2 h.2.2
                          rw [e0] at p0
                          rw [e1] at p1
                          clear e0 e1
                          generalize ys[x].seq = yq at p2 e2
                          have z3 : decide (yq = o.seq) = false := decide_eq_false e2
                          have z4 : decide ((yq : Int) = (o.seq : Int)) = false := decide_eq_false (by omega)
                          have z8 : ((yq : Int) == (o.seq : Int)) = false := beq_eq_false_iff_ne.2 (by omega)
                          have z9 : (yq == o.seq) = false := beq_eq_false_iff_ne.2 e2
                          clear e2
                          go_wp2_with fail
                          go_quiet (fail)
                          have O3 := HW.out.drew nq
                          clear q0 q1 q2 q3 p0 p1 p2 p3
                          go_wp2
                          all_goals (try go_big_round)
                          all_goals refine ⟨?_, ?_⟩
                          all_goals first
                            | exact IR.miss x b s hxl (by go_num) HE.out O3 HI.out
                            | (simp [intOf]; omega)
                      · have HE : Hid (¬ SameK (SE.of ys[x]) (SE.of o)) := fun h => e1 h.2.1
                        rw [e0] at p0
                        clear e0
                        generalize ys[x].fr = yf at p1 e1
                        have z3 : decide (yf = o.fr) = false := decide_eq_false e1
                        have z4 : decide ((yf : Int) = (o.fr : Int)) = false := decide_eq_false (by omega)
                        have z8 : ((yf : Int) == (o.fr : Int)) = false := beq_eq_false_iff_ne.2 (by omega)
                        have z9 : (yf == o.fr) = false := beq_eq_false_iff_ne.2 e1
                        clear e1
                        go_wp2_with fail
                        go_quiet (fail)
                        have O3 := HW.out.drew nq
                        clear q0 q1 q2 q3 p0 p1 p2 p3
                        go_wp2
                        all_goals (try go_big_round)
                        all_goals refine ⟨?_, ?_⟩
                        all_goals first
                          | exact IR.miss x b s hxl (by go_num) HE.out O3 HI.out
                          | (simp [intOf]; omega)
                    · have HE : Hid (¬ SameK (SE.of ys[x]) (SE.of o)) := fun h => e0 h.1
                      generalize ys[x].k = yk at p0 e0
                      have z3 : decide (yk = o.k) = false := decide_eq_false e0
                      have z8 : (yk == o.k) = false := beq_eq_false_iff_ne.2 e0
                      clear e0
                      go_wp2_with fail
                      go_quiet (fail)
                      have O3 := HW.out.drew nq
                      clear q0 q1 q2 q3 p0 p1 p2 p3
                      go_wp2
                      all_goals (try go_big_round)
                      all_goals refine ⟨?_, ?_⟩
                      all_goals first
                        | exact IR.miss x b s hxl (by go_num) HE.out O3 HI.out
                        | (simp [intOf]; omega)
                  · have hxi : ¬ (x : Int) < (ys.length : Int) := by omega
                    have et : ys.take x = ys := List.take_of_length_le (by omega)
                    rw [et] at hI
                    clear et
                    have TD1 := HTD.out.below O2.bel
                    rcases hI with ⟨rfl, rfl, hN⟩ | ⟨rfl, hS⟩
                    · have HN : Hid (∀ y ∈ ys, ¬ SameK (SE.of y) (SE.of o)) := hN
                      clear hN
                      go_wp2_with (refine stop_at (.call { callee := .builtin .append, args := #[Operand.tmp 159, Operand.tmp 161], argTypes := #[22, 22] }) rfl ?_)
                      refine ⟨?_⟩
                      obtain ⟨W8, hW8⟩ : ∃ W, W = wr.alloc (.cells #[.int .i64 o.k, .int .u64 (o.fr : Nat), .int .u64 (o.seq : Nat), .slice o.b.ao o.b.n o.b.cap] 37) := ⟨_, rfl⟩
                      have B8 : Below wr.heap.size wr W8 := by rw [hW8]; exact (Below.refl _ _).alloc (Nat.le_refl _) _
                      have A8 : Arr W8 wr.heap.size 37 o.cells := by rw [hW8]; exact heap_alloc_new wr _
                      have P8 : Arr W8 wO.heap.size 37 o.cells := (B8.block _ (Arr.lt O2.arr)).trans O2.arr
                      rw [← hW8]
                      clear hW8
                      obtain ⟨v9, w9, hr9, TDt, hg9⟩ := (TD1.below B8).app 22 (a := ⟨wr.heap.size, 0, none⟩) (cp := 1) (y := o) (fun j u hu => by rw [add_at, Nat.zero_add, A8.cell]; exact hu) HOZ.out.1 (by omega)
                      have P9 : Arr w9 wO.heap.size 37 o.cells := (hg9.block _ (Arr.lt P8) (fun e => by have := HTD.out.own _ e.symm; omega)).trans P8
                      refine wpList_append_run rfl (.tmp 159) (.tmp 161) rfl rfl rfl hr9 ?_
                      have TFt := HTF.out.add o HOZ.out.1 HOZ.out.2 (fun z hz => by obtain ⟨y, hy, rfl⟩ := List.mem_map.1 hz; exact HN.out y hy)
                      have OOt := OO.anew (fs := fs) (ys := ys) HOZ.out.1 HOZ.out.2 HKK.out
                      clear q0 q1 q2 q3 HW O2 TD1 HN B8 A8 P8 hr9 hg9
                      have q0 : w9.cell? ⟨wO.heap.size, 0, none⟩ = some (.int .i64 o.k) := by rw [P9.cell]; rfl
                      have q1 : w9.cell? ⟨wO.heap.size, 1, none⟩ = some (.int .u64 (o.fr : Nat)) := by rw [P9.cell]; rfl
                      have q2 : w9.cell? ⟨wO.heap.size, 2, none⟩ = some (.int .u64 (o.seq : Nat)) := by rw [P9.cell]; rfl
                      have q3 : w9.cell? ⟨wO.heap.size, 3, none⟩ = some (.slice o.b.ao o.b.n o.b.cap) := by rw [P9.cell]; rfl
                      clear P9
                      by_cases hk1 : k < n1
                      · have i1 : (k : Int) < (n1 : Int) := by omega
                        have CO : Calls Try.prog 12 #[.pointer (some ⟨w2.heap.size + 1, 0, none⟩), .agg #[.int .i64 o.k, .int .u64 (o.fr : Nat), .int .u64 (o.seq : Nat), .slice o.b.ao o.b.n o.b.cap]] _ _ := TDt.oneA TFt hk1 hn1 (by omega) o OOt.ok OOt.sz OOt.kk OOt.told
                        go_wp2_with fail
                        refine CO.mono ?_
                        rintro e wz ⟨⟨r, rfl⟩, TZ⟩
                        clear q0 q1 q2 q3 CO
                        go_wp2
                        all_goals (try go_big_round)
                        all_goals refine ⟨?_, ?_⟩
                        all_goals first
                          | exact TZ
                          | (simp [intOf]; omega)
                      · have i1 : ¬ (k : Int) < (n1 : Int) := by omega
                        have CO : Calls Try.prog 12 #[.pointer (some ⟨w3.heap.size + 1, 0, none⟩), .agg #[.int .i64 o.k, .int .u64 (o.fr : Nat), .int .u64 (o.seq : Nat), .slice o.b.ao o.b.n o.b.cap]] _ _ := TDt.oneB TFt (by omega) hlt (by omega) o OOt.ok OOt.sz OOt.kk OOt.told
                        go_wp2_with fail
                        refine CO.mono ?_
                        rintro e wz ⟨⟨r, rfl⟩, TZ⟩
                        clear q0 q1 q2 q3 CO
                        go_wp2
                        all_goals (try go_big_round)
                        all_goals refine ⟨?_, ?_⟩
                        all_goals first
                          | exact TZ
                          | (simp [intOf]; omega)
                    · have TDt := TD1
                      have TFt := HTF.out.next
                      have OOt := OO.same (fs := fs) HTF.out HOZ.out.1 HKK.out hS
                      clear hS TD1
                      by_cases hk1 : k < n1
                      · have i1 : (k : Int) < (n1 : Int) := by omega
                        have CO : Calls Try.prog 12 #[.pointer (some ⟨w2.heap.size + 1, 0, none⟩), .agg #[.int .i64 o.k, .int .u64 (o.fr : Nat), .int .u64 (o.seq : Nat), .slice s.ao s.n s.cap]] _ _ := TDt.oneA TFt hk1 hn1 (by omega) ⟨o.k, o.fr, o.seq, s⟩ OOt.ok OOt.sz OOt.kk OOt.told
                        go_wp2_with fail
                        refine CO.mono ?_
                        rintro e wz ⟨⟨r, rfl⟩, TZ⟩
                        clear q0 q1 q2 q3 CO
                        go_wp2
                        all_goals (try go_big_round)
                        all_goals refine ⟨?_, ?_⟩
                        all_goals first
                          | exact TZ
                          | (simp [intOf]; omega)
                      · have i1 : ¬ (k : Int) < (n1 : Int) := by omega
                        have CO : Calls Try.prog 12 #[.pointer (some ⟨w3.heap.size + 1, 0, none⟩), .agg #[.int .i64 o.k, .int .u64 (o.fr : Nat), .int .u64 (o.seq : Nat), .slice s.ao s.n s.cap]] _ _ := TDt.oneB TFt (by omega) hlt (by omega) ⟨o.k, o.fr, o.seq, s⟩ OOt.ok OOt.sz OOt.kk OOt.told
                        go_wp2_with fail
                        refine CO.mono ?_
                        rintro e wz ⟨⟨r, rfl⟩, TZ⟩
                        clear q0 q1 q2 q3 CO
                        go_wp2
                        all_goals (try go_big_round)
                        all_goals refine ⟨?_, ?_⟩
                        all_goals first
                          | exact TZ
                          | (simp [intOf]; omega)
        · have hki : ¬ (k : Int) < (all.length : Int) := by omega
          obtain ⟨na, nb, ga, gb, KA, KB, same, GA⟩ := hrel.exit hf1 hf4 (by omega) hm (by omega) HF.out
          have HSM : Hid (∀ seq s t, comO ga seq = some s → comO gb seq = some t → s = t) := same
          have X0 := TX.mk (i := .int .i64 0) 0 (Nat.zero_le _) rfl KA KB GA
          clear same KA KB GA hrel
          go_wp2_with fail
          go_loopw [21] (fun i wq => TX w (w2.heap.size + 1) w2.heap.size (w3.heap.size + 1) w3.heap.size all ao cap na nb ga gb i wq) (fun i _ => all.length - (intOf i).toNat)
          case atStart => exact X0
          case round =>
            clear X0
            obtain ⟨j, hj, rfl, KA, KB, GA⟩ := hrel
            by_cases hjl : j < all.length
            · have ji : (j : Int) < (all.length : Int) := by omega
              obtain ⟨b, off, rfl, hX⟩ := GA.atO (by omega)
              have HX := hX j hjl
              have hok := GA.ok _ (List.getElem_mem hjl)
              obtain ⟨o, ho⟩ : ∃ o, o = all[j] := ⟨_, rfl⟩
              rw [← ho] at HX hok
              clear ho hX
              have hs := hok.seq
              have HC : Hid (∀ V, Below wr.heap.size wr V → OX V b (off + j * 4) o) := fun V hV => HX.below hV
              obtain ⟨q0, q1, q2, q3⟩ := HX
              cases ha : comO ga o.seq with
              | none =>
                have CA := KA.com0 o.seq hs ha
                have CB := fun (V : World) (h : LT w (w3.heap.size + 1) w3.heap.size nb gb V) => h.comC o.seq hs
                clear ha
                go_wp2_with fail
                refine CA.mono ?_
                rintro e w8 ⟨a8, n8, c8, rfl, E8⟩
                have KA := KA.below E8
                have KB := KB.below E8
                have GA := GA.below elO_fine E8
                clear q0 q1 q2 q3 CA
                obtain ⟨q0, q1, q2, q3⟩ := HC.out w8 E8
                go_wp2_with fail
                refine (CB _ KB).mono ?_
                rintro e w9 ⟨a9, n9, c9, rfl, -, E9⟩
                have KA := KA.below E9
                have KB := KB.below E9
                have GA := GA.below elO_fine E9
                clear q0 q1 q2 q3
                go_wp2
                all_goals (try go_big_round)
                all_goals refine ⟨?_, ?_⟩
                all_goals first
                  | exact TX.mk (j + 1) (by omega) (by go_num) KA KB GA
                  | (simp [intOf]; omega)
              | some s =>
                have CA := KA.com1 o.seq hs ha
                go_wp2_with fail
                refine CA.mono ?_
                rintro e w8 ⟨a8, n8, c8, rfl, S8, E8⟩
                have KA := KA.below E8
                have KB := KB.below E8
                have GA := GA.below elO_fine E8
                clear q0 q1 q2 q3 CA
                obtain ⟨q0, q1, q2, q3⟩ := HC.out w8 E8
                cases hb : comO gb o.seq with
                | none =>
                  have CB := KB.com0 o.seq hs hb
                  clear ha hb
                  go_wp2_with fail
                  refine CB.mono ?_
                  rintro e w9 ⟨a9, n9, c9, rfl, E9⟩
                  have KA := KA.below E9
                  have KB := KB.below E9
                  have GA := GA.below elO_fine E9
                  clear q0 q1 q2 q3 CB
                  go_wp2
                  all_goals (try go_big_round)
                  all_goals refine ⟨?_, ?_⟩
                  all_goals first
                    | exact TX.mk (j + 1) (by omega) (by go_num) KA KB GA
                    | (simp [intOf]; omega)
                | some t =>
                  have CB := KB.com1 o.seq hs hb
                  obtain rfl := HSM.out _ _ _ ha hb
                  clear ha hb
                  go_wp2_with fail
                  refine CB.mono ?_
                  rintro e w9 ⟨a9, n9, c9, rfl, S9, E9⟩
                  have KA := KA.below E9
                  have KB := KB.below E9
                  have GA := GA.below elO_fine E9
                  have S8 := Sl.below S8 E9
                  have CS := same_any w9 a8 a9 n8 c8 n9 c9 (sb s) (sb s) S8 S9
                  rw [decide_eq_true rfl] at CS
                  clear q0 q1 q2 q3 CB
                  go_wp2_with (go_at_call 23; refine CS.mono ?_; rintro e w10 ⟨rfl, q10, rfl⟩)
                  have BN : Below w9.heap.size w9 (w9.drewN q10) := below_drewN _ _ _
                  have KA := KA.below BN
                  have KB := KB.below BN
                  have GA := GA.below elO_fine BN
                  all_goals (try go_big_round)
                  all_goals refine ⟨?_, ?_⟩
                  all_goals first
                    | exact TX.mk (j + 1) (by omega) (by go_num) KA KB GA
                    | (simp [intOf]; omega)
            · have ji : ¬ (j : Int) < (all.length : Int) := by omega
              have CA := alive15 wr
              go_wp2_with (go_at_call 10; refine CA.mono ?_; rintro e w10 ⟨rfl, E10⟩)
              have K10 := KA.below E10
              go_ret
              exact ⟨rfl, K10.bel⟩
end Go.Proofs.Ytbbhokodleaheaa

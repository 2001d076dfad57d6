/-
  The law QuorumOnce.
-/
import Derived.Test.YtghemebgkhopnaaQuOnceM
import Derived.Test.YtghemebgkhopnaaQuAlive
import Derived.Test.YtghemebgkhopnaaQuVotes
import Derived.Test.YtghemebgkhopnaaSame
namespace Go.Proofs.Ytghemebgkhopnaa
open Go.RowKit

theorem below_drew {B : Nat} {a b : World} (h : Below B a b) (q : Nat) : Below B a (b.drewN q) := belN h q
set_option maxRecDepth 100000 in
set_option maxHeartbeats 8000000 in
theorem once_in (w : World) (f : Nat) (h1 : 1 ≤ f) (h4 : f ≤ 4) (ao : Option Addr) (n cap : Nat) (l : List VA) (h : GL elV w ao n cap l) (hn : n ≤ 40) :
    Calls Try.prog 6 #[.int .i64 (f : Nat), .slice ao n cap] w fun e w' => e = .returned (.bool true) ∧ Below w.heap.size w w' := by
  have hl := h.len
  have hni : (n : Int) ≤ 40 := by omega
  have CN := new_good w f h1 h4
  have hk : okF f = true := okF_t (by omega) (by omega)
  have E1 := fun (V : World) => n_any f V
  have E2 := fun (V : World) => most_any f V
  obtain ⟨N, hN⟩ : ∃ N, N = 3 * f + 1 := ⟨_, rfl⟩
  obtain ⟨M, hM⟩ : ∃ M, M = 2 * f + 1 := ⟨_, rfl⟩
  have f1 : nF f 3 = (N : Int) := by rw [nF_t 3 hk]; omega
  have f2 : nF f 2 = (M : Int) := by rw [nF_t 2 hk]; omega
  simp only [f1] at E1
  simp only [f2] at E2
  have HN : Hid (N = 3 * f + 1) := hN
  have HM : Hid (1 ≤ M ∧ N < 2 * M) := ⟨by omega, by omega⟩
  have hM1 : (1 : Int) ≤ (M : Int) := by omega
  clear hk f1 f2 hN hM h1 h4
  go_enter Try.func6, Try.ntmps6
  go_wp2_with fail
  refine CN.mono ?_
  rintro x w1 ⟨p, rfl, hp, Q1, C1⟩
  clear CN
  go_wp2_with fail
  go_loopw [7] (fun i wr => ∃ (k : Nat) (L : List VT), k ≤ n ∧ i = .int .i64 k ∧ QS wr p f L ∧ Below w.heap.size w wr) (fun i _ => n - (intOf i).toNat)
  case atStart => exact ⟨0, noVotes, Nat.zero_le _, rfl, Q1, C1⟩
  case round =>
    clear Q1 C1
    obtain ⟨k, L, hk, rfl, Q, B⟩ := hrel
    by_cases hlt : k < n
    · have hki : (k : Int) < (n : Int) := by omega
      have hkl : k < l.length := by omega
      obtain ⟨b, off, rfl, hc⟩ := h.atV (by omega)
      have X := fun (V : World) (hV : Below w.heap.size w V) => (h.below elV_fine hV).atV (by omega : 0 < n)
      have HX : Hid (∀ V, Below w.heap.size w V → VX V b (off + k * 4) l[k]) := fun V hV => by
        obtain ⟨b2, off2, e, hc2⟩ := X V hV
        simp only [Option.some.injEq, Addr.mk.injEq, and_true] at e
        obtain ⟨rfl, rfl⟩ := e
        exact hc2 k hkl
      have uok := (h.below elV_fine B).ok _ (List.getElem_mem hkl)
      obtain ⟨u, hu⟩ : ∃ u, u = l[k] := ⟨_, rfl⟩
      rw [← hu] at HX uok
      clear hu hc X hkl
      have uok : VA.ok u wr := uok
      have hfr := uok.s.fr
      have S3 := uok.word
      clear uok
      obtain ⟨x0, x1, x2, x3⟩ := HX.out wr B
      have AL := alive14 wr
      by_cases g1 : 100 < u.word.n
      · have j1 : (100 : Int) < (u.word.n : Int) := by omega
        clear g1 HX
        go_wp2_with (go_at_call 17; refine AL.mono ?_; rintro e w9 ⟨rfl, C9⟩)
        go_ret
        exact ⟨rfl, B.trans (C9.mono B.size)⟩
      · have j1 : (u.word.n : Int) ≤ 100 := by omega
        by_cases g2 : 500 < u.s.b.n
        · have j2 : (500 : Int) < (u.s.b.n : Int) := by omega
          clear g1 g2 HX
          go_wp2_with (go_at_call 17; refine AL.mono ?_; rintro e w9 ⟨rfl, C9⟩)
          go_ret
          exact ⟨rfl, B.trans (C9.mono B.size)⟩
        · have j2 : (u.s.b.n : Int) ≤ 500 := by omega
          by_cases g3 : 100 < u.s.tag.n
          · have j3 : (100 : Int) < (u.s.tag.n : Int) := by omega
            clear g1 g2 g3 HX
            go_wp2_with (go_at_call 17; refine AL.mono ?_; rintro e w9 ⟨rfl, C9⟩)
            go_ret
            exact ⟨rfl, B.trans (C9.mono B.size)⟩
          · have j3 : (u.s.tag.n : Int) ≤ 100 := by omega
            have HS : Hid (∀ V, Below w.heap.size w V → V.cell? ⟨b, off + k * 4, none⟩ = some (.int .u64 (u.s.fr : Nat)) ∧ V.cell? ⟨b, off + k * 4 + 3, none⟩ = some (.slice u.word.ao u.word.n u.word.cap)) := fun V hV => ⟨(HX.out V hV).c0, (HX.out V hV).c3⟩
            clear AL HX
            go_wp2_with fail
            have xE0 : Below w.heap.size w wr.drew := B.trans ((Below.refl _ _).drew.mono B.size)
            have Q0 : QS wr.drew p f L := Q.below ((Below.refl _ _).drew)
            have S0 := S3.below ((Below.refl _ _).drew)
            refine wp_region_noPanic ?_
            refine wp_region_held_drew (S := fun V => V.cell? ⟨b, off + k * 4, none⟩ = some (.int .u64 (u.s.fr : Nat)) ∧ V.cell? ⟨b, off + k * 4 + 3, none⟩ = some (.slice u.word.ao u.word.n u.word.cap)) (by kernel_rfl) (HS.out _ xE0) (fun xH0 => ?_)
            obtain ⟨xv0, hv0⟩ : ∃ v, v = wr.drew := ⟨_, rfl⟩
            rw [← hv0] at xH0 xE0 Q0 S0 ⊢
            clear hv0
            refine hr_take_w 0 (some 63) (.pointer (some ⟨p, 0, none⟩)) rfl rfl (by kernel_rfl) (by kernel_rfl) (by kernel_rfl) rfl (fun W hW => by obtain ⟨h0, h1⟩ := hW; go_simp) xH0 ?_
            simp only [Act.put, List.setIfInBounds_toArray, List.set_cons_zero, List.set_cons_succ]
            refine hr_take_w 1 (some 64) (.slice (some ⟨b, off, none⟩) n cap) rfl rfl (by kernel_rfl) (by kernel_rfl) (by kernel_rfl) rfl (fun W hW => by obtain ⟨h0, h1⟩ := hW; go_simp) xH0 ?_
            simp only [Act.put, List.setIfInBounds_toArray, List.set_cons_zero, List.set_cons_succ]
            refine hr_take_w 2 (some 65) (.int .i64 (k : Nat)) rfl rfl (by kernel_rfl) (by kernel_rfl) (by kernel_rfl) rfl (fun W hW => by obtain ⟨h0, h1⟩ := hW; go_simp) xH0 ?_
            simp only [Act.put, List.setIfInBounds_toArray, List.set_cons_zero, List.set_cons_succ]
            refine hr_take_w 3 (some 66) (.pointer (some ⟨b, off + k * 4, none⟩)) rfl rfl (by kernel_rfl) (by kernel_rfl) (by kernel_rfl) rfl (fun W hW => by obtain ⟨h0, h1⟩ := hW; go_simp) xH0 ?_
            simp only [Act.put, List.setIfInBounds_toArray, List.set_cons_zero, List.set_cons_succ]
            refine hr_take_w 4 (some 67) (.pointer (some ⟨b, off + k * 4, none⟩)) rfl rfl (by kernel_rfl) (by kernel_rfl) (by kernel_rfl) rfl (fun W hW => by obtain ⟨h0, h1⟩ := hW; go_simp) xH0 ?_
            simp only [Act.put, List.setIfInBounds_toArray, List.set_cons_zero, List.set_cons_succ]
            refine hr_take_w 5 (some 68) (.pointer (some ⟨b, off + k * 4, none⟩)) rfl rfl (by kernel_rfl) (by kernel_rfl) (by kernel_rfl) rfl (fun W hW => by obtain ⟨h0, h1⟩ := hW; go_simp) xH0 ?_
            simp only [Act.put, List.setIfInBounds_toArray, List.set_cons_zero, List.set_cons_succ]
            refine hr_take_w 6 (some 69) (.int .u64 (u.s.fr : Nat)) rfl rfl (by kernel_rfl) (by kernel_rfl) (by kernel_rfl) rfl (fun W hW => by obtain ⟨h0, h1⟩ := hW; go_simp) xH0 ?_
            simp only [Act.put, List.setIfInBounds_toArray, List.set_cons_zero, List.set_cons_succ]
            refine hr_take_w 7 (some 70) (.agg #[.int .u64 (u.s.fr : Nat), .slice none 0 0, .slice none 0 0]) rfl rfl (by kernel_rfl) (by kernel_rfl) (by kernel_rfl) rfl (fun W hW => by obtain ⟨h0, h1⟩ := hW; go_simp) xH0 ?_
            simp only [Act.put, List.setIfInBounds_toArray, List.set_cons_zero, List.set_cons_succ]
            refine hr_take_w 8 (some 71) (.slice (some ⟨b, off, none⟩) n cap) rfl rfl (by kernel_rfl) (by kernel_rfl) (by kernel_rfl) rfl (fun W hW => by obtain ⟨h0, h1⟩ := hW; go_simp) xH0 ?_
            simp only [Act.put, List.setIfInBounds_toArray, List.set_cons_zero, List.set_cons_succ]
            refine hr_take_w 9 (some 72) (.int .i64 (k : Nat)) rfl rfl (by kernel_rfl) (by kernel_rfl) (by kernel_rfl) rfl (fun W hW => by obtain ⟨h0, h1⟩ := hW; go_simp) xH0 ?_
            simp only [Act.put, List.setIfInBounds_toArray, List.set_cons_zero, List.set_cons_succ]
            refine hr_take_w 10 (some 73) (.pointer (some ⟨b, off + k * 4, none⟩)) rfl rfl (by kernel_rfl) (by kernel_rfl) (by kernel_rfl) rfl (fun W hW => by obtain ⟨h0, h1⟩ := hW; go_simp) xH0 ?_
            simp only [Act.put, List.setIfInBounds_toArray, List.set_cons_zero, List.set_cons_succ]
            refine hr_take_w 11 (some 74) (.pointer (some ⟨b, off + k * 4 + 3, none⟩)) rfl rfl (by kernel_rfl) (by kernel_rfl) (by kernel_rfl) rfl (fun W hW => by obtain ⟨h0, h1⟩ := hW; go_simp) xH0 ?_
            simp only [Act.put, List.setIfInBounds_toArray, List.set_cons_zero, List.set_cons_succ]
            refine hr_take_w 12 (some 75) (.slice u.word.ao u.word.n u.word.cap) rfl rfl (by kernel_rfl) (by kernel_rfl) (by kernel_rfl) rfl (fun W hW => by obtain ⟨h0, h1⟩ := hW; go_simp) xH0 ?_
            simp only [Act.put, List.setIfInBounds_toArray, List.set_cons_zero, List.set_cons_succ]
            refine hr_call_w 13 (some 76) 20 #[.pointer (some ⟨p, 0, none⟩), .agg #[.int .u64 (u.s.fr : Nat), .slice none 0 0, .slice none 0 0], .slice u.word.ao u.word.n u.word.cap] rfl rfl (by kernel_rfl) rfl (by go_simp) (fun v w' => ∃ q L2, v = .int .i64 q ∧ QS w' p f L2 ∧ xv0.grownBy w' (some p)) ((add_any xv0 p f L Q0 u.s.fr hfr none none u.word.ao 0 0 0 0 u.word.n u.word.cap [] [] u.word.xs (Sl.nothing _) (Sl.nothing _) S0 (by omega) (by omega) (by omega)).mono (by
              rintro e w' ⟨rfl, F, C⟩
              exact ⟨_, rfl, _, _, rfl, F, C⟩)) ?_
            rintro v xv1 ⟨q, L2, rfl, Q1, G1⟩
            have xE1 := grow_below xE0 G1 hp
            have xH1 := HS.out xv1 xE1
            refine ⟨xH1, ?_⟩
            simp only [Act.put, List.setIfInBounds_toArray, List.set_cons_zero, List.set_cons_succ]
            refine wpAnyH_done (by kernel_rfl) ?_ _
            refine NoPanic.normal ?_
            go_wp2
            go_roundw
            case rel => exact ⟨k + 1, L2, by omega, by go_num, Q1, xE1⟩
            case measure => simp [intOf]; omega
    · have hge : ¬ (k : Int) < (n : Int) := by omega
      have E2w := E2 wr
      have CE := enough_any wr p f L Q M hM1
      have hvot := voters_le L (3 * f + 1) Q.out
      have HV : Hid (voters L ≤ N) := by show _ ≤ _; rw [HN.out]; exact hvot
      clear hvot
      go_wp2_with (go_at_call 11; refine E2w.mono ?_; rintro e w' ⟨rfl, hw⟩; obtain rfl := hw.symm; clear hw)
      refine CE.mono ?_
      rintro e w4 ⟨eo, em, ec, ys, eb, rfl, SE, C4, HE⟩
      have Q4 := Q.below C4
      have B4 := B.trans (C4.mono B.size)
      clear CE Q B C4 E2w
      go_wp2_with fail
      go_loopw [10] (fun i wq => ∃ k : Nat, k ≤ n ∧ i = .int .i64 k ∧ Below w4.heap.size w4 wq) (fun i _ => n - (intOf i).toNat)
      case atStart => exact ⟨0, Nat.zero_le _, rfl, Below.refl _ _⟩
      case round =>
        obtain ⟨k, hk, rfl, B⟩ := hrel
        have Bw := B4.trans (B.mono B4.size)
        have Q := Q4.below B
        have SE := SE.below B
        by_cases hlt : k < n
        · have hki : (k : Int) < (n : Int) := by omega
          have hkl : k < l.length := by omega
          obtain ⟨b, off, rfl, hc⟩ := (h.below elV_fine Bw).atV (by omega)
          have uok := (h.below elV_fine Bw).ok _ (List.getElem_mem hkl)
          have X := hc k hkl
          have HXK : Hid (∀ V, Below w.heap.size w V → VX V b (off + k * 4) l[k]) := fun V hV => by
            obtain ⟨b2, off2, e, hc2⟩ := (h.below elV_fine hV).atV (by omega : 0 < n)
            simp only [Option.some.injEq, Addr.mk.injEq, and_true] at e
            obtain ⟨rfl, rfl⟩ := e
            exact hc2 k hkl
          obtain ⟨u, hu⟩ : ∃ u, u = l[k] := ⟨_, rfl⟩
          rw [← hu] at X uok HXK
          clear hu hc hkl
          have S3 := (show VA.ok u _ from uok).word
          have CC := count_any _ p f L Q u.word.ao u.word.n u.word.cap u.word.xs S3
          have HC1 : Hid (cntV (strOfNums u.word.xs) L ≤ N) := Nat.le_trans (cnt_voters _ _) HV.out
          have HC2 : Hid (M ≤ cntV (strOfNums u.word.xs) L → enV L M = some (strOfNums u.word.xs)) := fun q => en_of L _ M q (by have := HV.out; have := HM.out.2; omega)
          have hsb : Hid (sb (strOfNums u.word.xs) = u.word.xs) := sb_str S3.byte
          generalize cntV (strOfNums u.word.xs) L = c at CC HC1 HC2
          obtain ⟨x0, x1, x2, x3⟩ := X
          clear uok
          go_wp2_with fail
          refine CC.mono ?_
          rintro e w5 ⟨rfl, C5⟩
          have B5 := B.trans (C5.mono B.size)
          have Bw5 := Bw.trans (C5.mono Bw.size)
          have S3 := S3.below C5
          have SE5 := SE.below C5
          have y3 := (HXK.out w5 Bw5).c3
          have E1w := E1 w5
          have E2w := E2 w5
          have c1 : (c : Int) ≤ (N : Int) := by have := HC1.out; omega
          clear CC x0 x1 x2 x3 HXK Q B Bw C5
          by_cases hcm : M ≤ c
          · have j1 : (M : Int) ≤ (c : Int) := by omega
            have he := HC2.out hcm
            have HB : Hid (eb = true ∧ ys = u.word.xs) := by
              rcases HE.out with ⟨_, _, e⟩ | ⟨s, e1, e2, e3⟩
              · rw [he] at e
                cases e
              · rw [he] at e3
                obtain rfl := Option.some.inj e3
                exact ⟨e1, by rw [e2, hsb.out]⟩
            obtain ⟨rfl, rfl⟩ := HB.out
            have CS := same_any w5 eo u.word.ao em ec u.word.n u.word.cap _ _ SE5 S3
            rw [decide_eq_true rfl] at CS
            clear HB he HC1 HC2 hsb hcm SE
            go_wp2_with (first
              | (go_at_call 9; refine E1w.mono ?_; rintro e w' ⟨rfl, hw⟩; obtain rfl := hw.symm; clear hw)
              | (go_at_call 11; refine E2w.mono ?_; rintro e w' ⟨rfl, hw⟩; obtain rfl := hw.symm; clear hw)
              | (go_at_call 28; refine CS.mono ?_; rintro e w6 ⟨rfl, q6, hw6⟩; subst hw6))
            have B6 := belN B5 q6
            go_roundw
            case rel => exact ⟨k + 1, by omega, by go_num, B6⟩
            case measure => simp [intOf]; omega
          · have j1 : (c : Int) < (M : Int) := by omega
            clear HC1 HC2 hsb hcm SE
            go_wp2_with (first
              | (go_at_call 9; refine E1w.mono ?_; rintro e w' ⟨rfl, hw⟩; obtain rfl := hw.symm; clear hw)
              | (go_at_call 11; refine E2w.mono ?_; rintro e w' ⟨rfl, hw⟩; obtain rfl := hw.symm; clear hw))
            go_roundw
            case rel => exact ⟨k + 1, by omega, by go_num, B5⟩
            case measure => simp [intOf]; omega
        · have hge : ¬ (k : Int) < (n : Int) := by omega
          cases eb with
          | false =>
            have AL := alive14 wr
            go_wp2_with (go_at_call 17; refine AL.mono ?_; rintro e w9 ⟨rfl, C9⟩)
            go_ret
            exact ⟨rfl, Bw.trans (C9.mono Bw.size)⟩
          | true =>
            have CC := count_any _ p f L Q eo em ec ys SE
            have HK : Hid (M ≤ cntV (strOfNums ys) L) := by
              rcases HE.out with ⟨e, _⟩ | ⟨s, _, rfl, e3⟩
              · cases e
              · show _ ≤ _
                rw [str_sb]
                exact en_cnt e3
            generalize cntV (strOfNums ys) L = c at CC HK
            have j1 : (M : Int) ≤ (c : Int) := by have := HK.out; omega
            go_wp2_with fail
            refine CC.mono ?_
            rintro e w5 ⟨rfl, C5⟩
            have Bw5 := Bw.trans (C5.mono Bw.size)
            have E2w := E2 w5
            have AL := alive14 w5
            clear CC
            go_wp2_with (first
              | (go_at_call 11; refine E2w.mono ?_; rintro e w' ⟨rfl, hw⟩; obtain rfl := hw.symm; clear hw)
              | (go_at_call 17; refine AL.mono ?_; rintro e w9 ⟨rfl, C9⟩))
            go_ret
            exact ⟨rfl, Bw5.trans (C9.mono Bw5.size)⟩
set_option maxRecDepth 100000 in
set_option maxHeartbeats 4000000 in
theorem quorumOnce_any (w : World) (f : Int) (ao : Option Addr) (n cap : Nat) (l : List VA) (_ : (Lit.int .i64 f).wf = true) (h : GL elV w ao n cap l) :
    Calls Try.prog 6 #[.int .i64 f, .slice ao n cap] w fun e w' => e = .returned (.bool true) ∧ Below w.heap.size w w' := by
  cases hk : okF f with
  | false =>
    have CN := new_bad w f hk
    have AL := alive14 w
    clear hk
    by_cases hn : 40 < n
    · have i1 : (40 : Int) < (n : Int) := by omega
      clear hn h
      go_enter Try.func6, Try.ntmps6
      go_wp2_with (first | (go_at_call 18; refine CN.mono ?_; rintro e w' ⟨rfl, hw⟩; obtain rfl := hw.symm; clear hw) | (go_at_call 17; refine AL.mono ?_; rintro e w9 ⟨rfl, C9⟩))
      go_ret
      exact ⟨rfl, C9⟩
    · have i1 : (n : Int) ≤ 40 := by omega
      clear hn h
      go_enter Try.func6, Try.ntmps6
      go_wp2_with (first | (go_at_call 18; refine CN.mono ?_; rintro e w' ⟨rfl, hw⟩; obtain rfl := hw.symm; clear hw) | (go_at_call 17; refine AL.mono ?_; rintro e w9 ⟨rfl, C9⟩))
      go_ret
      exact ⟨rfl, C9⟩
  | true =>
    obtain ⟨h1, h4⟩ := okF_iff.1 hk
    obtain ⟨m, rfl⟩ : ∃ m : Nat, f = m := ⟨f.toNat, by omega⟩
    by_cases hn : 40 < n
    · have i1 : (40 : Int) < (n : Int) := by omega
      have CN := new_good w m (by omega) (by omega)
      clear hn h hk h1 h4
      go_enter Try.func6, Try.ntmps6
      go_wp2_with fail
      refine CN.mono ?_
      rintro x w1 ⟨p, rfl, hp, Q1, C1⟩
      have AL := alive14 w1
      go_wp2_with (go_at_call 17; refine AL.mono ?_; rintro e w9 ⟨rfl, C9⟩)
      go_ret
      exact ⟨rfl, C1.trans (C9.mono C1.size)⟩
    · exact once_in w m (by omega) (by omega) ao n cap l h (by omega)
end Go.Proofs.Ytghemebgkhopnaa

/-
  SealKnown: what was said checks, and nothing else.
-/
import Derived.Test.YtkncfjokkojfpaaDoorTurnS
namespace Go.Proofs.YtkncfjokkojfpaaDoor
open Go.RowKit

theorem Sl.heap {w w' : World} {ao : Option Addr} {n cap : Nat} {xs : List Int} (h : Sl w ao n cap xs) (e : w'.heap = w.heap) : Sl w' ao n cap xs :=
  ⟨h.len, h.le, h.mx, h.nil, fun a ha i hi => (World.cell?_of_block (by rw [e])).trans (h.cell a ha i hi), h.byte⟩

set_option maxRecDepth 100000 in
set_option maxHeartbeats 2000000 in
theorem sealKnown_any (w : World) (real : Bool) (ao : Option Addr) (n cap : Nat) (ns : List Nat) (a1 a2 : Int) (bo : Option Addr) (bn bc : Nat) (body : List Int) (mo : Option Addr) (mn mc : Nat) (more : List Int) (hN : NL w ao n cap ns) (ha1 : (Lit.int .u64 a1).wf = true) (ha2 : (Lit.int .u64 a2).wf = true) (hB : Sl w bo bn bc body) (hM : Sl w mo mn mc more) (hT : Tabs w) :
    Calls Tryd.prog 6 #[.bool real, .slice ao n cap, .int .u64 a1, .int .u64 a2, .slice bo bn bc, .slice mo mn mc] w fun e w' => e = .returned (.bool true) ∧ Below w.heap.size w w' := by
  have h2 := hT.two
  obtain ⟨node, rfl, hn⟩ := nat_of_u64 ha1
  obtain ⟨other, rfl, ho⟩ := nat_of_u64 ha2
  have hbl := hB.len
  have hml := hM.len
  have kc := fun (w : World) (C : Array Value) (n c : Nat) => Lib.run_convert_bytes_const (P := Tryd.prog) w 22 5 C n c Tryd.underlying22 Tryd.underlying5
  by_cases h1 : 64 < n
  · have d1 : (64 : Int) < (n : Int) := by omega
    have d2 : decide ((64 : Int) < (n : Int)) = true := by simp; omega
    go_enter Tryd.func6, Tryd.ntmps6
    go_wp2_with (go_at_call 9; refine (alive_any _ hT).mono ?_; rintro e w3 ⟨rfl, B3⟩)
    go_ret
    exact ⟨rfl, B3⟩
  have x1 : (n : Int) ≤ 64 := by omega
  have x2 : decide ((64 : Int) < (n : Int)) = false := by simp; omega
  by_cases h3 : 200 < bn
  · have d1 : (200 : Int) < (bn : Int) := by omega
    have d2 : decide ((200 : Int) < (bn : Int)) = true := by simp; omega
    go_enter Tryd.func6, Tryd.ntmps6
    go_wp2_with (go_at_call 9; refine (alive_any _ hT).mono ?_; rintro e w3 ⟨rfl, B3⟩)
    go_ret
    exact ⟨rfl, B3⟩
  have y1 : (bn : Int) ≤ 200 := by omega
  have y2 : decide ((200 : Int) < (bn : Int)) = false := by simp; omega
  by_cases h4 : 200 < mn
  · have d1 : (200 : Int) < (mn : Int) := by omega
    have d2 : decide ((200 : Int) < (mn : Int)) = true := by simp; omega
    go_enter Tryd.func6, Tryd.ntmps6
    go_wp2_with (go_at_call 9; refine (alive_any _ hT).mono ?_; rintro e w3 ⟨rfl, B3⟩)
    go_ret
    exact ⟨rfl, B3⟩
  have z1 : (mn : Int) ≤ 200 := by omega
  have z2 : decide ((200 : Int) < (mn : Int)) = false := by simp; omega
  have B0 : Below w.heap.size w (w.alloc (.cells #[.int .u8 109] 5 (1, 2))) := (Below.refl _ w).alloc (Nat.le_refl _) _
  have M0 : Sl (w.alloc (.cells #[.int .u8 109] 5 (1, 2))) (some ⟨w.heap.size, 0, none⟩) 1 1 [109] := Sl.newF w [109] (by intro x hx; rw [List.mem_singleton.1 hx]; omega) (by decide) (1, 2)
  have N0 := hN.below B0
  have s0 := B0.size
  by_cases hbad : n = 0 ∨ 64 < n ∨ riseF 0 ns = false
  · go_enter Tryd.func6, Tryd.ntmps6
    go_wp2_with fail
    refine (new_bad _ real _ 1 1 ao n cap ns N0 hbad).mono ?_
    rintro e w1 ⟨rfl, rfl⟩
    go_wp2_with fail
    refine (alive_any _ (hT.below B0 h2)).mono ?_
    rintro e wz ⟨rfl, Bz⟩
    go_wp2
    go_ret
    exact ⟨rfl, B0.trans (Bz.mono s0)⟩
  have hn0 : 0 < n := by omega
  have hr : riseF 0 ns = true := by
    cases e : riseF 0 ns with
    | true => rfl
    | false => exact absurd (.inr (.inr e)) hbad
  clear hbad h1 h3 h4
  go_enter Tryd.func6, Tryd.ntmps6
  go_wp2_with fail
  refine (new_good _ real _ 1 1 [109] ao n cap ns N0 M0 (by omega) (hT.below B0 h2) hn0 (by omega) hr).mono ?_
  rintro e w1 ⟨p, mk, ms, nk, KF, rfl, P1⟩
  have B1 : Below w.heap.size w w1 := B0.trans (P1.bel.mono s0)
  have s1 := B1.size
  have nms : w.heap.size ≤ ms := Nat.le_trans s0 P1.nm
  have K1 := P1.bk
  have N1 := P1.kn
  have lms := K1.said.lt
  clear P1 N0 M0 B0
  generalize hkn : (fun x => decide (x ∈ ns)) = kn at N1
  clear hkn
  go_wp2_with fail
  cases hk1 : kn node with
  | false =>
    refine (tag_unknown w1 p mk ms real nk 0 KF _ node _ K1 hn ((N1.isSome hn).trans hk1)).mono ?_
    rintro e w' ⟨rfl, hw⟩
    obtain rfl := hw.symm
    clear hw
    go_wp2_with fail
    refine (many_any w1 p mk ms real nk 0 KF _ K1).mono ?_
    rintro e w' ⟨rfl, hw⟩
    obtain rfl := hw.symm
    clear hw
    go_wp2_with fail
    refine (check_any w1 p mk ms real nk 0 KF _ [109] kn node bo bn bc body none 0 0 [] K1 N1 (hT.below B1 h2) hn (hB.below B1) (by omega) (Sl.nothing w1) SU.none).mono ?_
    rintro e w3 ⟨rfl, E3⟩
    rw [show chB (fun _ => none) real [109] kn node body [] = false from by unfold chB; rw [hk1]; rfl]
    have B3 : Below w.heap.size w w3 := B1.trans (E3.mono s1)
    have s3 := B3.size
    go_wp2_with fail
    refine (alive_any _ (hT.below B3 h2)).mono ?_
    rintro e wz ⟨rfl, Bz⟩
    go_wp2
    go_ret
    exact ⟨rfl, B3.trans (Bz.mono s3)⟩
  | true =>
    refine (tag_known w1 p mk ms real nk 0 KF _ [109] kn node bo bn bc body K1 N1 (hT.below B1 h2) hn hk1 (hB.below B1) (by omega) (by omega) (by omega)).mono ?_
    rintro e w2 ⟨g, n2, SF2, rfl, P2⟩
    have B2 : Below w.heap.size w w2 := below_of B1 P2.grown nms
    have U2 := P2.su SU.none
    have K2 := P2.bk
    have N2 := N1.grown P2.grown K1.said.isMap
    have T2 := P2.sl
    have q2 := P2.at_
    have hn2 : n2 = 1 := P2.more rfl
    subst hn2
    have hgn := P2.new
    have s2 := B2.size
    have lms2 := K2.said.lt
    clear P2 K1 N1 B1
    obtain ⟨tg, htg⟩ : ∃ tg, tg = tgL real [109] node body := ⟨_, rfl⟩
    have HTG : Hid (tg = tgL real [109] node body) := htg
    rw [← htg] at T2
    clear htg
    go_wp2_with fail
    cases hk2 : kn other with
    | false =>
      have hno : node ≠ other := fun e => by rw [e, hk2] at hk1; cases hk1
      have dno : ((node : Int) != (other : Int)) = true := by simp; omega
      refine (tag_unknown w2 p mk ms real nk 1 KF SF2 other _ K2 ho ((N2.isSome ho).trans hk2)).mono ?_
      rintro e w' ⟨rfl, hw⟩
      obtain rfl := hw.symm
      clear hw
      have HC1 : Hid (∀ tag, chB SF2 real [109] kn node body tag = decide (tag = tg)) := by
        intro tag
        unfold chB saB
        rw [q2, hk1, HTG.out]
        simp
      have HSA : Hid (saB SF2 real node body = true) := by
        show _ = _
        unfold saB
        rw [q2]
        rfl
      clear q2
      go_wp2_with fail
      refine (check_any w2 p mk ms real nk 1 KF SF2 [109] kn node bo bn bc body _ 32 32 tg K2 N2 (hT.below B2 h2) hn (hB.below B2) (by omega) T2 U2).mono ?_
      rintro e w2a ⟨rfl, E3⟩
      rw [HC1.out, show decide (tg = tg) = true from decide_eq_true rfl]
      have B3 : Below w.heap.size w w2a := B2.trans (E3.mono s2)
      have s3 := B3.size
      have K3 := K2.below E3
      have N3 := N2.below E3
      have T3 := (T2).below E3
      clear E3
      go_wp2_with fail
      refine (said_any w2a p mk ms real nk 1 KF SF2 node bo bn bc body K3 (hT.below B3 h2) hn (hB.below B3) (by omega) U2).mono ?_
      rintro e w2b ⟨rfl, E4⟩
      rw [show (SF2 (sv node (dgL real node body))).isSome = true from HSA.out]
      have B4 : Below w.heap.size w w2b := B3.trans (E4.mono s3)
      have s4 := B4.size
      have K4 := K3.below E4
      have N4 := N3.below E4
      have T4 := T3.below E4
      clear E4 K3 N3 T3 B3
      go_wp2_with fail
      refine (forged_any w2b p mk ms real nk 1 KF SF2 [109] kn node bo bn bc body _ 32 32 tg K4 N4 (hT.below B4 h2) hn (hB.below B4) (by omega) T4 U2).mono ?_
      rintro e w2c ⟨rfl, E5⟩
      rw [HSA.out, show (chB SF2 real [109] kn node body tg && !true) = false from by simp]
      have B5 : Below w.heap.size w w2c := B4.trans (E5.mono s4)
      have s5 := B5.size
      have K5 := K4.below E5
      have N5 := N4.below E5
      have T5 := T4.below E5
      clear E5 K4 N4 T4 B4
      go_wp2_with fail
      refine (alive_any _ (hT.below B5 h2)).mono ?_
      rintro e wz ⟨rfl, Bz⟩
      go_wp2
      go_ret
      exact ⟨rfl, B5.trans (Bz.mono s5)⟩
    | true =>
      refine (tag_known w2 p mk ms real nk 1 KF SF2 [109] kn other mo mn mc more K2 N2 (hT.below B2 h2) ho hk2 (hM.below B2) (by omega) (by omega) (by omega)).mono ?_
      rintro e w3 ⟨g', n3, SF3, rfl, P3⟩
      have B3 : Below w.heap.size w w3 := below_of B2 P3.grown nms
      have U3 := P3.su U2
      have K3 := P3.bk
      have N3 := N2.grown P3.grown K2.said.isMap
      have V3 := P3.sl
      have T3 := T2.grown P3.grown (fun a ha _ => by obtain rfl := Option.some.inj ha; show g ≠ ms; omega)
      have q3 := P3.at_
      have q1 : SF3 (sv node (dgL real node body)) = some (.agg #[]) := by
        by_cases e : sv node (dgL real node body) = sv other (dgL real other more)
        · rw [e]; exact q3
        · exact (P3.other _ e).trans q2
      have s3 := B3.size
      obtain ⟨tu, htu⟩ : ∃ tu, tu = tgL real [109] other more := ⟨_, rfl⟩
      have HTU : Hid (tu = tgL real [109] other more) := htu
      rw [← htu] at V3
      have HC1 : Hid (∀ tag, chB SF3 real [109] kn node body tag = decide (tag = tg)) := by
        intro tag
        unfold chB saB
        rw [q1, hk1, HTG.out]
        simp
      have HC2 : Hid (∀ tag, chB SF3 real [109] kn other more tag = decide (tag = tu)) := by
        intro tag
        unfold chB saB
        rw [q3, hk2, HTU.out]
        simp
      have HSA : Hid (saB SF3 real node body = true) := by
        show _ = _
        unfold saB
        rw [q1]
        rfl
      clear P3 htu q1 q2 q3 K2 N2 T2 B2 U2
      go_wp2_with fail
      refine (check_any w3 p mk ms real nk n3 KF SF3 [109] kn node bo bn bc body _ 32 32 tg K3 N3 (hT.below B3 h2) hn (hB.below B3) (by omega) T3 U3).mono ?_
      rintro e w3a ⟨rfl, E3⟩
      rw [HC1.out, show decide (tg = tg) = true from decide_eq_true rfl]
      have B3a : Below w.heap.size w w3a := B3.trans (E3.mono s3)
      have s3a := B3a.size
      have K3a := K3.below E3
      have N3a := N3.below E3
      have T3a := T3.below E3
      have V3a := V3.below E3
      clear E3
      go_wp2_with fail
      refine (said_any w3a p mk ms real nk n3 KF SF3 node bo bn bc body K3a (hT.below B3a h2) hn (hB.below B3a) (by omega) U3).mono ?_
      rintro e w3b ⟨rfl, E4⟩
      rw [show (SF3 (sv node (dgL real node body))).isSome = true from HSA.out]
      have B4 : Below w.heap.size w w3b := B3a.trans (E4.mono s3a)
      have s4 := B4.size
      have K4 := K3a.below E4
      have N4 := N3a.below E4
      have T4 := T3a.below E4
      have V4 := V3a.below E4
      clear E4 K3 N3 T3 B3 K3a N3a T3a B3a
      go_wp2_with fail
      refine (forged_any w3b p mk ms real nk n3 KF SF3 [109] kn node bo bn bc body _ 32 32 tg K4 N4 (hT.below B4 h2) hn (hB.below B4) (by omega) T4 U3).mono ?_
      rintro e w3c ⟨rfl, E5⟩
      rw [HSA.out, show (chB SF3 real [109] kn node body tg && !true) = false from by simp]
      have B5 : Below w.heap.size w w3c := B4.trans (E5.mono s4)
      have s5 := B5.size
      have K5 := K4.below E5
      have N5 := N4.below E5
      have T5 := T4.below E5
      have V5 := V4.below E5
      clear E5 K4 N4 T4 B4
      by_cases hno : node = other
      · subst hno
        have dno : ((node : Int) != (node : Int)) = false := by simp
        go_wp2_with fail
        refine (same_any _ _ _ _ _ _ _ _ _ (hB.below B5) (hM.below B5)).mono ?_
        rintro e wq ⟨rfl, q6, rfl⟩
        by_cases hbm : body = more
        · have htt : tg = tu := by rw [HTG.out, HTU.out, hbm]
          rw [show decide (body = more) = true from decide_eq_true hbm]
          have Rq6 : Below w3c.heap.size w3c (w3c.drewN q6) := bel_drewN (Below.refl _ w3c) q6
          obtain ⟨w6, hw6⟩ : ∃ W, W = w3c.drewN q6 := ⟨_, rfl⟩
          rw [← hw6] at Rq6 ⊢
          clear hw6
          have B6 : Below w.heap.size w w6 := B5.trans (Rq6.mono s5)
          have s6 := B6.size
          have K6 := K5.below Rq6
          have N6 := N5.below Rq6
          have T6 := T5.below Rq6
          have V6 := V5.below Rq6
          clear Rq6
          go_wp2_with fail
          refine (same_any _ _ _ _ _ _ _ _ _ T6 V6).mono ?_
          rintro e wq ⟨rfl, q7, rfl⟩
          rw [show decide (tg = tu) = true from decide_eq_true htt]
          have B7 := bel_drewN B6 q7
          have s7 := B7.size
          go_wp2_with fail
          refine (alive_any _ (hT.below B7 h2)).mono ?_
          rintro e wz ⟨rfl, Bz⟩
          go_wp2
          go_ret
          exact ⟨rfl, B7.trans (Bz.mono s7)⟩
        · rw [show decide (body = more) = false from decide_eq_false hbm]
          have Rq6 : Below w3c.heap.size w3c (w3c.drewN q6) := bel_drewN (Below.refl _ w3c) q6
          obtain ⟨w6, hw6⟩ : ∃ W, W = w3c.drewN q6 := ⟨_, rfl⟩
          rw [← hw6] at Rq6 ⊢
          clear hw6
          have B6 : Below w.heap.size w w6 := B5.trans (Rq6.mono s5)
          have s6 := B6.size
          have K6 := K5.below Rq6
          have N6 := N5.below Rq6
          have T6 := T5.below Rq6
          have V6 := V5.below Rq6
          clear Rq6
          go_wp2_with fail
          refine (same_any _ _ _ _ _ _ _ _ _ T6 V6).mono ?_
          rintro e wq ⟨rfl, q7, rfl⟩
          by_cases htt : tg = tu
          · rw [show decide (tg = tu) = true from decide_eq_true htt]
            have Rq7 : Below w6.heap.size w6 (w6.drewN q7) := bel_drewN (Below.refl _ w6) q7
            obtain ⟨w7, hw7⟩ : ∃ W, W = w6.drewN q7 := ⟨_, rfl⟩
            rw [← hw7] at Rq7 ⊢
            clear hw7
            have B7 : Below w.heap.size w w7 := B6.trans (Rq7.mono s6)
            have s7 := B7.size
            have K7 := K6.below Rq7
            have N7 := N6.below Rq7
            have T7 := T6.below Rq7
            have V7 := V6.below Rq7
            clear Rq7
            go_wp2_with fail
            refine (alive_any _ (hT.below B7 h2)).mono ?_
            rintro e wz ⟨rfl, Bz⟩
            go_wp2
            go_ret
            exact ⟨rfl, B7.trans (Bz.mono s7)⟩
          · rw [show decide (tg = tu) = false from decide_eq_false htt]
            have Rq7 : Below w6.heap.size w6 (w6.drewN q7) := bel_drewN (Below.refl _ w6) q7
            obtain ⟨w7, hw7⟩ : ∃ W, W = w6.drewN q7 := ⟨_, rfl⟩
            rw [← hw7] at Rq7 ⊢
            clear hw7
            have B7 : Below w.heap.size w w7 := B6.trans (Rq7.mono s6)
            have s7 := B7.size
            have K7 := K6.below Rq7
            have N7 := N6.below Rq7
            have T7 := T6.below Rq7
            have V7 := V6.below Rq7
            clear Rq7
            go_wp2_with fail
            refine (check_any w7 p mk ms real nk n3 KF SF3 [109] kn node mo mn mc more _ 32 32 tg K7 N7 (hT.below B7 h2) ho (hM.below B7) (by omega) T7 U3).mono ?_
            rintro e w8 ⟨rfl, E8⟩
            rw [HC2.out, show decide (tg = tu) = false from decide_eq_false htt]
            have B8 : Below w.heap.size w w8 := B7.trans (E8.mono s7)
            have s8 := B8.size
            go_wp2_with fail
            refine (check_any w8 p mk ms real nk n3 KF SF3 [109] kn node bo bn bc body _ 32 32 tu (K7.below E8) (N7.below E8) (hT.below B8 h2) hn (hB.below B8) (by omega) (V7.below E8) U3).mono ?_
            rintro e w9 ⟨rfl, E9⟩
            rw [HC1.out, show decide (tu = tg) = false from decide_eq_false fun e => htt e.symm]
            have B9 : Below w.heap.size w w9 := B8.trans (E9.mono s8)
            have s9 := B9.size
            go_wp2_with fail
            refine (alive_any _ (hT.below B9 h2)).mono ?_
            rintro e wz ⟨rfl, Bz⟩
            go_wp2
            go_ret
            exact ⟨rfl, B9.trans (Bz.mono s9)⟩
      · have dno : ((node : Int) != (other : Int)) = true := by simp; omega
        go_wp2_with fail
        refine (same_any _ _ _ _ _ _ _ _ _ T5 V5).mono ?_
        rintro e wq ⟨rfl, q7, rfl⟩
        by_cases htt : tg = tu
        · rw [show decide (tg = tu) = true from decide_eq_true htt]
          have Rq7 : Below w3c.heap.size w3c (w3c.drewN q7) := bel_drewN (Below.refl _ w3c) q7
          obtain ⟨w7, hw7⟩ : ∃ W, W = w3c.drewN q7 := ⟨_, rfl⟩
          rw [← hw7] at Rq7 ⊢
          clear hw7
          have B7 : Below w.heap.size w w7 := B5.trans (Rq7.mono s5)
          have s7 := B7.size
          have K7 := K5.below Rq7
          have N7 := N5.below Rq7
          have T7 := T5.below Rq7
          have V7 := V5.below Rq7
          clear Rq7
          go_wp2_with fail
          refine (alive_any _ (hT.below B7 h2)).mono ?_
          rintro e wz ⟨rfl, Bz⟩
          go_wp2
          go_ret
          exact ⟨rfl, B7.trans (Bz.mono s7)⟩
        · rw [show decide (tg = tu) = false from decide_eq_false htt]
          have Rq7 : Below w3c.heap.size w3c (w3c.drewN q7) := bel_drewN (Below.refl _ w3c) q7
          obtain ⟨w7, hw7⟩ : ∃ W, W = w3c.drewN q7 := ⟨_, rfl⟩
          rw [← hw7] at Rq7 ⊢
          clear hw7
          have B7 : Below w.heap.size w w7 := B5.trans (Rq7.mono s5)
          have s7 := B7.size
          have K7 := K5.below Rq7
          have N7 := N5.below Rq7
          have T7 := T5.below Rq7
          have V7 := V5.below Rq7
          clear Rq7
          go_wp2_with fail
          refine (check_any w7 p mk ms real nk n3 KF SF3 [109] kn other mo mn mc more _ 32 32 tg K7 N7 (hT.below B7 h2) ho (hM.below B7) (by omega) T7 U3).mono ?_
          rintro e w8 ⟨rfl, E8⟩
          rw [HC2.out, show decide (tg = tu) = false from decide_eq_false htt]
          have B8 : Below w.heap.size w w8 := B7.trans (E8.mono s7)
          have s8 := B8.size
          go_wp2_with fail
          refine (check_any w8 p mk ms real nk n3 KF SF3 [109] kn node bo bn bc body _ 32 32 tu (K7.below E8) (N7.below E8) (hT.below B8 h2) hn (hB.below B8) (by omega) (V7.below E8) U3).mono ?_
          rintro e w9 ⟨rfl, E9⟩
          rw [HC1.out, show decide (tu = tg) = false from decide_eq_false fun e => htt e.symm]
          have B9 : Below w.heap.size w w9 := B8.trans (E9.mono s8)
          have s9 := B9.size
          go_wp2_with fail
          refine (alive_any _ (hT.below B9 h2)).mono ?_
          rintro e wz ⟨rfl, Bz⟩
          go_wp2
          go_ret
          exact ⟨rfl, B9.trans (Bz.mono s9)⟩

end Go.Proofs.YtkncfjokkojfpaaDoor

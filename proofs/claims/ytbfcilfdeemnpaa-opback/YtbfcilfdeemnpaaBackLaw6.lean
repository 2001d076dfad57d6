/-
  OpBack.
-/
import Derived.Test.YtbfcilfdeemnpaaBackM
import Derived.Test.YtbfcilfdeemnpaaRResults
import Derived.Test.YtbfcilfdeemnpaaLLight
namespace Go.Proofs.Ytbfcilfdeemnpaa
open Go.RowKit

set_option maxRecDepth 100000 in
set_option maxHeartbeats 32000000 in
theorem opBack_any (w : World) (cl st : Nat) (y : OD 4) (e : Int) (ao : Option Addr) (n cap : Nat) (cs : List CA) (m : Bool) (hcl : cl < 18446744073709551616) (hst : st < 18446744073709551616) (hy : OW w 4 y) (sm : OSm 4 y) (_ : -9223372036854775808 ≤ e ∧ e ≤ 9223372036854775807) (L0 : CL w ao n cap cs) (_ : ∀ c ∈ cs, c.small) :
    Calls Try.prog 6 #[qVal cl st (topD 4 y), .agg #[.int .i64 e, .slice ao n cap, .bool m]] w fun e w' => e = .returned (.bool true) ∧ Below w.heap.size w w' := by
  obtain ⟨o, pl⟩ := y
  obtain ⟨l, he⟩ : ∃ l : List OA, l = pl.map (topD 3) := ⟨_, rfl⟩
  have B : Below w.heap.size w ((w.alloc (Obj.cells #[.int .u64 cl, .int .u64 st, .int .i64 o.kind, .string o.row, .string o.fam, .string o.qual, .int .u64 o.time, .string o.to, .slice o.va.ao o.va.n o.va.cap, .slice o.wa.ao o.wa.n o.wa.cap, .bool o.has, .slice o.so o.sn o.sc] 30)).alloc (Obj.cells #[.int .i64 e, .slice ao n cap, .bool m] 45)) := ((Below.refl _ w).alloc (Nat.le_refl _) _).alloc (by simp) _
  have K : QC ((w.alloc (Obj.cells #[.int .u64 cl, .int .u64 st, .int .i64 o.kind, .string o.row, .string o.fam, .string o.qual, .int .u64 o.time, .string o.to, .slice o.va.ao o.va.n o.va.cap, .slice o.wa.ao o.wa.n o.wa.cap, .bool o.has, .slice o.so o.sn o.sc] 30)).alloc (Obj.cells #[.int .i64 e, .slice ao n cap, .bool m] 45)) w.heap.size cl st o := (heap_alloc_old _ _ (by simp)).trans (heap_alloc_new w _)
  have J : RC ((w.alloc (Obj.cells #[.int .u64 cl, .int .u64 st, .int .i64 o.kind, .string o.row, .string o.fam, .string o.qual, .int .u64 o.time, .string o.to, .slice o.va.ao o.va.n o.va.cap, .slice o.wa.ao o.wa.n o.wa.cap, .bool o.has, .slice o.so o.sn o.sc] 30)).alloc (Obj.cells #[.int .i64 e, .slice ao n cap, .bool m] 45)) (w.heap.size + 1) e ao n cap m := by
    have := heap_alloc_new (w.alloc (Obj.cells #[.int .u64 cl, .int .u64 st, .int .i64 o.kind, .string o.row, .string o.fam, .string o.qual, .int .u64 o.time, .string o.to, .slice o.va.ao o.va.n o.va.cap, .slice o.wa.ao o.wa.n o.wa.cap, .bool o.has, .slice o.so o.sn o.sc] 30)) (Obj.cells #[.int .i64 e, .slice ao n cap, .bool m] 45)
    unfold RC
    simpa using this
  have W := hy.below B
  have L := L0.below B
  clear hy L0
  rw [show qVal cl st (topD 4 (o, pl)) = .agg #[.int .u64 cl, .int .u64 st, .int .i64 o.kind, .string o.row, .string o.fam, .string o.qual, .int .u64 o.time, .string o.to, .slice o.va.ao o.va.n o.va.cap, .slice o.wa.ao o.wa.n o.wa.cap, .bool o.has, .slice o.so o.sn o.sc] from rfl]
  go_enter Try.func6, Try.ntmps6
  go_wp2_with fail
  obtain ⟨w1, hw1⟩ : ∃ W, W = ((w.alloc (Obj.cells #[.int .u64 cl, .int .u64 st, .int .i64 o.kind, .string o.row, .string o.fam, .string o.qual, .int .u64 o.time, .string o.to, .slice o.va.ao o.va.n o.va.cap, .slice o.wa.ao o.wa.n o.wa.cap, .bool o.has, .slice o.so o.sn o.sc] 30)).alloc (Obj.cells #[.int .i64 e, .slice ao n cap, .bool m] 45)) := ⟨_, rfl⟩
  obtain ⟨N, hN⟩ : ∃ N, N = w.heap.size := ⟨_, rfl⟩
  rw [← hw1] at B K J W L ⊢
  rw [← hN] at B K J ⊢
  have HN : Hid (N = w.heap.size) := hN
  clear hw1 hN
  have LC := light_any 4 w1 (o, pl) W sm (by omega)
  rw [show (((4 : Nat) : Int) - 1) = 3 from rfl] at LC
  refine LC.mono ?_
  rintro x w2 ⟨rfl, C⟩
  have K := K.keep C
  have J := J.keep C
  have W := W.below C
  have L := L.below C
  have B := B.trans (C.mono (by have := B.size; have := HN.out; omega))
  clear LC sm C
  cases hb : lightD 4 (o, pl) with
  | false =>
    clear K J W L
    go_wp2_with (go_at_call 10; refine (alive6 _).mono ?_; rintro e wz ⟨rfl, Cz⟩; have Bz := B.trans (Cz.mono (by have := B.size; have := HN.out; omega)))
    go_ret
    exact ⟨rfl, by rw [← HN.out]; exact Bz⟩
  | true =>
    have HLT : Hid (lightD 4 (o, pl) = true) := hb
    have HFL : Hid (∀ V, OW V 4 (o, pl) → OWL V 0 o.so o.sn o.sc l) := fun V h => by rw [he]; exact h.subs.flat
    have HE : Hid (l = pl.map (topD 3)) := he
    clear hb he
    have r1 := J.c1
    by_cases h64 : 64 < n
    · have i0 : decide ((64 : Int) < (n : Int)) = true := by simp; omega
      clear K J W L
      go_wp2_with (go_at_call 10; refine (alive6 _).mono ?_; rintro e wz ⟨rfl, Cz⟩; have Bz := B.trans (Cz.mono (by have := B.size; have := HN.out; omega)))
      go_ret
      exact ⟨rfl, by rw [← HN.out]; exact Bz⟩
    have i0 : decide ((64 : Int) < (n : Int)) = false := by simp; omega
    have n64 : n ≤ 64 := by omega
    clear h64
    obtain ⟨q0, q1, q2, q3, q4, q5, q6, q7, q8, q9, q10, q11⟩ := K.cs
    go_wp2_with fail
    clear r1 i0
    clear q0 q1 q2 q3 q4 q5 q6 q7 q8 q9 q10 q11
    refine (pbytes6_any w2 o l W.1 (HFL.out _ W)).mono ?_
    rintro x x1 ⟨⟨bb, mm, bc, rfl, S⟩, C⟩
    have K := K.keep C
    have J := J.keep C
    have W := W.below C
    have L := L.below C
    have B := B.trans (C.mono (by have := B.size; have := HN.out; omega))
    clear C
    by_cases hq : rightO o.s (l.map sn0) = true
    · rw [hq, if_pos rfl] at S
      rw [hq, show kindO true = 0 from rfl]
      have RB := op_back HE.out W hq
      have RP := right_back HE.out W hq
      have hlen : Hid ((putA o l).length = mm) := S.len
      have hm9 : mm ≤ 100000 := by have := hlen.out; have := RB.2; omega
      have HRB : Hid (rdO (putA o l) = .inr (o.s, l.map OA.s)) := RB.1
      have HRP : Hid _ := RP
      clear RB RP
      go_wp2_with fail
      refine (prdo_any x1 bb mm bc _ S hm9).mono ?_
      intro x x2 PR
      obtain ⟨o5, l5, rfl, ok5, OL5, hs5, hz5⟩ := PR.good _ HRB.out
      have C := PR.bel
      have K := K.keep C
      have J := J.keep C
      have W := W.below C
      have L := L.below C
      have B := B.trans (C.mono (by have := B.size; have := HN.out; omega))
      clear PR C HRB hlen hm9 S
      rw [show o5.val = .agg #[.int .i64 o5.kind, .string o5.row, .string o5.fam, .string o5.qual, .int .u64 o5.time, .string o5.to, .slice o5.va.ao o5.va.n o5.va.cap, .slice o5.wa.ao o5.wa.n o5.wa.cap, .bool o5.has, .slice o5.so o5.sn o5.sc] from rfl]
      have C : Below x2.heap.size x2 (x2.alloc (Obj.cells #[.int .i64 o5.kind, .string o5.row, .string o5.fam, .string o5.qual, .int .u64 o5.time, .string o5.to, .slice o5.va.ao o5.va.n o5.va.cap, .slice o5.wa.ao o5.wa.n o5.wa.cap, .bool o5.has, .slice o5.so o5.sn o5.sc] 28)) := (Below.refl _ _).alloc (Nat.le_refl _) _
      have ok5 := ok5.below C
      have OL5 := OL5.below C
      have K := K.keep C
      have J := J.keep C
      have W := W.below C
      have L := L.below C
      have B := B.trans (C.mono (by have := B.size; have := HN.out; omega))
      have RS := rsame6 4 _ (liftD 2 o5 l5) (o, pl) (read_OW 2 ok5 OL5 hz5) W (read_light 2 ok5 OL5 hz5 (by rw [← hs5]; exact HRP.out.1)) HLT.out
      have HSM : Hid (sameD 4 (liftD 2 o5 l5) ((o, pl) : OA × List (OD 3)) = true) := read_same (by rw [← hs5, ← HE.out]) HRP.out.2.2.1
      have HRS : Hid (Calls Try.prog 22 #[.agg #[.int .i64 o5.kind, .string o5.row, .string o5.fam, .string o5.qual, .int .u64 o5.time, .string o5.to, .slice o5.va.ao o5.va.n o5.va.cap, .slice o5.wa.ao o5.wa.n o5.wa.cap, .bool o5.has, .slice o5.so o5.sn o5.sc], .agg #[.int .i64 o.kind, .string o.row, .string o.fam, .string o.qual, .int .u64 o.time, .string o.to, .slice o.va.ao o.va.n o.va.cap, .slice o.wa.ao o.wa.n o.wa.cap, .bool o.has, .slice o.so o.sn o.sc]] (x2.alloc (Obj.cells #[.int .i64 o5.kind, .string o5.row, .string o5.fam, .string o5.qual, .int .u64 o5.time, .string o5.to, .slice o5.va.ao o5.va.n o5.va.cap, .slice o5.wa.ao o5.wa.n o5.wa.cap, .bool o5.has, .slice o5.so o5.sn o5.sc] 28)) fun x w' => x = .returned (.bool true) ∧ Below (x2.alloc (Obj.cells #[.int .i64 o5.kind, .string o5.row, .string o5.fam, .string o5.qual, .int .u64 o5.time, .string o5.to, .slice o5.va.ao o5.va.n o5.va.cap, .slice o5.wa.ao o5.wa.n o5.wa.cap, .bool o5.has, .slice o5.so o5.sn o5.sc] 28)).heap.size (x2.alloc (Obj.cells #[.int .i64 o5.kind, .string o5.row, .string o5.fam, .string o5.qual, .int .u64 o5.time, .string o5.to, .slice o5.va.ao o5.va.n o5.va.cap, .slice o5.wa.ao o5.wa.n o5.wa.cap, .bool o5.has, .slice o5.so o5.sn o5.sc] 28)) w') := Calls.mono RS fun x w' h => ⟨h.1.trans (congrArg (fun b => Ending.returned (.bool b)) HSM.out), h.2⟩
      clear hs5 hz5 ok5 OL5 C HRP RS HSM
      obtain ⟨q0, q1, q2, q3, q4, q5, q6, q7, q8, q9, q10, q11⟩ := K.cs
      go_wp2_with fail
      clear q0 q1 q2 q3 q4 q5 q6 q7 q8 q9 q10 q11
      refine Calls.mono HRS.out ?_
      rintro x x4 ⟨rfl, C⟩
      have K := K.keep C
      have J := J.keep C
      have W := W.below C
      have L := L.below C
      have B := B.trans (C.mono (by have := B.size; have := HN.out; omega))
      clear C HRS hq
      obtain ⟨q0, q1, q2, q3, q4, q5, q6, q7, q8, q9, q10, q11⟩ := K.cs
      go_wp2_with fail
      clear q0 q1 q2 q3 q4 q5 q6 q7 q8 q9 q10 q11
      refine (preq_any x4 cl st o l hcl hst W.1 (HFL.out _ W)).mono ?_
      rintro x x5 ⟨⟨bb, mm, bc, rfl, S⟩, C⟩
      have K := K.keep C
      have J := J.keep C
      have W := W.below C
      have L := L.below C
      have B := B.trans (C.mono (by have := B.size; have := HN.out; omega))
      clear C
      by_cases hq : kq cl st (rightO o.s (l.map sn0)) = 0
      · rw [if_pos hq] at S
        rw [hq]
        have RB := req_back hcl hst HE.out W hq
        have RP := right_back HE.out W (kq_zero hq).2.2
        have hlen : Hid ((enc cl ++ (enc st ++ putA o l)).length = mm) := S.len
        have hm9 : mm ≤ 100000 := by have := hlen.out; have := RB.2; omega
        have HRB : Hid (rdQ (enc cl ++ (enc st ++ putA o l)) = .inr (cl, st, (o.s, l.map OA.s))) := RB.1
        have HRP : Hid _ := RP
        clear RB RP hq
        go_wp2_with fail
        refine (prdq_any x5 bb mm bc _ S hm9).mono ?_
        intro x x6 PR
        obtain ⟨o5, l5, rfl, _, _, ok5, OL5, hs5, hz5⟩ := PR.good _ HRB.out
        dsimp only at hs5 ⊢
        have C := PR.bel
        have K := K.keep C
        have J := J.keep C
        have W := W.below C
        have L := L.below C
        have B := B.trans (C.mono (by have := B.size; have := HN.out; omega))
        clear PR C HRB hlen hm9 S
        rw [show qVal cl st o5 = .agg #[.int .u64 cl, .int .u64 st, .int .i64 o5.kind, .string o5.row, .string o5.fam, .string o5.qual, .int .u64 o5.time, .string o5.to, .slice o5.va.ao o5.va.n o5.va.cap, .slice o5.wa.ao o5.wa.n o5.wa.cap, .bool o5.has, .slice o5.so o5.sn o5.sc] from rfl]
        have C : Below x6.heap.size x6 (x6.alloc (Obj.cells #[.int .u64 cl, .int .u64 st, .int .i64 o5.kind, .string o5.row, .string o5.fam, .string o5.qual, .int .u64 o5.time, .string o5.to, .slice o5.va.ao o5.va.n o5.va.cap, .slice o5.wa.ao o5.wa.n o5.wa.cap, .bool o5.has, .slice o5.so o5.sn o5.sc] 30)) := (Below.refl _ _).alloc (Nat.le_refl _) _
        have ok5 := ok5.below C
        have OL5 := OL5.below C
        have K := K.keep C
        have J := J.keep C
        have W := W.below C
        have L := L.below C
        have B := B.trans (C.mono (by have := B.size; have := HN.out; omega))
        have RS := rreqs_any 4 _ cl st cl st (liftD 2 o5 l5) (o, pl) (read_OW 2 ok5 OL5 hz5) W (read_light 2 ok5 OL5 hz5 (by rw [← hs5]; exact HRP.out.1)) HLT.out
        have HSM : Hid (sameD 4 (liftD 2 o5 l5) ((o, pl) : OA × List (OD 3)) = true) := read_same (by rw [← hs5, ← HE.out]) HRP.out.2.2.1
        have HRS : Hid (Calls Try.prog 23 #[.agg #[.int .u64 cl, .int .u64 st, .int .i64 o5.kind, .string o5.row, .string o5.fam, .string o5.qual, .int .u64 o5.time, .string o5.to, .slice o5.va.ao o5.va.n o5.va.cap, .slice o5.wa.ao o5.wa.n o5.wa.cap, .bool o5.has, .slice o5.so o5.sn o5.sc], .agg #[.int .u64 cl, .int .u64 st, .int .i64 o.kind, .string o.row, .string o.fam, .string o.qual, .int .u64 o.time, .string o.to, .slice o.va.ao o.va.n o.va.cap, .slice o.wa.ao o.wa.n o.wa.cap, .bool o.has, .slice o.so o.sn o.sc]] (x6.alloc (Obj.cells #[.int .u64 cl, .int .u64 st, .int .i64 o5.kind, .string o5.row, .string o5.fam, .string o5.qual, .int .u64 o5.time, .string o5.to, .slice o5.va.ao o5.va.n o5.va.cap, .slice o5.wa.ao o5.wa.n o5.wa.cap, .bool o5.has, .slice o5.so o5.sn o5.sc] 30)) fun x w' => x = .returned (.bool true) ∧ Below (x6.alloc (Obj.cells #[.int .u64 cl, .int .u64 st, .int .i64 o5.kind, .string o5.row, .string o5.fam, .string o5.qual, .int .u64 o5.time, .string o5.to, .slice o5.va.ao o5.va.n o5.va.cap, .slice o5.wa.ao o5.wa.n o5.wa.cap, .bool o5.has, .slice o5.so o5.sn o5.sc] 30)).heap.size (x6.alloc (Obj.cells #[.int .u64 cl, .int .u64 st, .int .i64 o5.kind, .string o5.row, .string o5.fam, .string o5.qual, .int .u64 o5.time, .string o5.to, .slice o5.va.ao o5.va.n o5.va.cap, .slice o5.wa.ao o5.wa.n o5.wa.cap, .bool o5.has, .slice o5.so o5.sn o5.sc] 30)) w') := Calls.mono RS fun x w' h => ⟨h.1.trans ((congrArg (fun b => Ending.returned (.bool (decide (cl = cl) && (decide (st = st) && b)))) HSM.out).trans (by simp)), h.2⟩
        clear hs5 hz5 ok5 OL5 C HRP RS HSM
        obtain ⟨q0, q1, q2, q3, q4, q5, q6, q7, q8, q9, q10, q11⟩ := K.cs
        go_wp2_with fail
        clear q0 q1 q2 q3 q4 q5 q6 q7 q8 q9 q10 q11
        refine Calls.mono HRS.out ?_
        rintro x x8 ⟨rfl, C⟩
        have K := K.keep C
        have J := J.keep C
        have W := W.below C
        have L := L.below C
        have B := B.trans (C.mono (by have := B.size; have := HN.out; omega))
        clear C HRS
        have r0 := J.c0
        have r1 := J.c1
        have r2 := J.c2
        go_wp2_with fail
        clear r0 r1 r2
        refine (presult_any x8 e ao n cap cs m L).mono ?_
        rintro x x9 ⟨⟨bb, mm, bc, rfl, S⟩, C⟩
        have K := K.keep C
        have J := J.keep C
        have W := W.below C
        have L := L.below C
        have B := B.trans (C.mono (by have := B.size; have := HN.out; omega))
        clear C
        by_cases hq : rightR (resR e cs m) = true
        · have hk0 : kindR (resR e cs m) = 0 := by unfold kindR; rw [hq]; rfl
          rw [hq, if_pos rfl] at S
          rw [hk0]
          have RB := res_back hq L.ok
          have hlen : Hid ((putR (resR e cs m)).length = mm) := S.len
          have hm9 : mm ≤ 100000 := by have := hlen.out; have := RB.2; omega
          have HRB : Hid (rdR (putR (resR e cs m)) = .inr (resR e cs m)) := RB.1
          clear RB hk0 hq
          go_wp2_with fail
          refine (prdr_any x9 bb mm bc _ S hm9).mono ?_
          intro x x10 PR
          obtain ⟨c5, ao5, n5, cap5, l5, m5, rfl, L5, hq5⟩ := PR.good _ HRB.out
          have C := PR.bel
          have K := K.keep C
          have J := J.keep C
          have W := W.below C
          have L := L.below C
          have B := B.trans (C.mono (by have := B.size; have := HN.out; omega))
          simp only [resR, RV.mk.injEq] at hq5
          obtain ⟨rfl, hcs, rfl⟩ := hq5
          have hn5 : n5 = n := by
            have a1 := L5.len
            have a2 := L.len
            have a3 := congrArg List.length hcs
            simp only [List.length_map] at a3
            omega
          subst hn5
          have HCS : Hid (cs.map CA.c = l5.map CA.c) := hcs
          clear PR C HRB hlen hm9 S hcs
          unfold resV
          have C : Below x10.heap.size x10 (x10.alloc (Obj.cells #[.int .i64 e, .slice ao5 n5 cap5, .bool m] 45)) := (Below.refl _ _).alloc (Nat.le_refl _) _
          have L5 := L5.below C
          have K := K.keep C
          have J := J.keep C
          have W := W.below C
          have L := L.below C
          have B := B.trans (C.mono (by have := B.size; have := HN.out; omega))
          have r0 := J.c0
          have r1 := J.c1
          have r2 := J.c2
          clear C
          go_wp2_with fail
          clear r0 r1 r2
          refine (rresults_any _ e ao5 ao n5 cap5 cap l5 cs m L5 L HCS.out.symm (by omega)).mono ?_
          rintro x x12 ⟨rfl, C⟩
          have B := B.trans (C.mono (by have := B.size; have := HN.out; omega))
          clear C K J W L L5
          go_wp2_with (go_at_call 10; refine (alive6 _).mono ?_; rintro e wz ⟨rfl, Cz⟩; have Bz := B.trans (Cz.mono (by have := B.size; have := HN.out; omega)))
          go_ret
          exact ⟨rfl, by rw [← HN.out]; exact Bz⟩
        · have hk0 : kindR (resR e cs m) = 1 := by unfold kindR; rw [if_neg hq]
          rw [hk0]
          clear hk0 hq S K J W L
          go_wp2_with (go_at_call 10; refine (alive6 _).mono ?_; rintro e wz ⟨rfl, Cz⟩; have Bz := B.trans (Cz.mono (by have := B.size; have := HN.out; omega)))
          go_ret
          exact ⟨rfl, by rw [← HN.out]; exact Bz⟩
      · have hkb : (kq cl st (rightO o.s (l.map sn0)) == 0) = false := by simp [hq]
        obtain ⟨kk, hkk⟩ : ∃ k, k = kq cl st (rightO o.s (l.map sn0)) := ⟨_, rfl⟩
        rw [← hkk] at hkb ⊢
        clear hkk hq S
        have r0 := J.c0
        have r1 := J.c1
        have r2 := J.c2
        go_wp2_with fail
        clear r0 r1 r2
        refine (presult_any x5 e ao n cap cs m L).mono ?_
        rintro x x13 ⟨⟨bb, mm, bc, rfl, S⟩, C⟩
        have K := K.keep C
        have J := J.keep C
        have W := W.below C
        have L := L.below C
        have B := B.trans (C.mono (by have := B.size; have := HN.out; omega))
        clear C
        by_cases hq : rightR (resR e cs m) = true
        · have hk0 : kindR (resR e cs m) = 0 := by unfold kindR; rw [hq]; rfl
          rw [hq, if_pos rfl] at S
          rw [hk0]
          have RB := res_back hq L.ok
          have hlen : Hid ((putR (resR e cs m)).length = mm) := S.len
          have hm9 : mm ≤ 100000 := by have := hlen.out; have := RB.2; omega
          have HRB : Hid (rdR (putR (resR e cs m)) = .inr (resR e cs m)) := RB.1
          clear RB hk0 hq
          go_wp2_with fail
          refine (prdr_any x13 bb mm bc _ S hm9).mono ?_
          intro x x14 PR
          obtain ⟨c5, ao5, n5, cap5, l5, m5, rfl, L5, hq5⟩ := PR.good _ HRB.out
          have C := PR.bel
          have K := K.keep C
          have J := J.keep C
          have W := W.below C
          have L := L.below C
          have B := B.trans (C.mono (by have := B.size; have := HN.out; omega))
          simp only [resR, RV.mk.injEq] at hq5
          obtain ⟨rfl, hcs, rfl⟩ := hq5
          have hn5 : n5 = n := by
            have a1 := L5.len
            have a2 := L.len
            have a3 := congrArg List.length hcs
            simp only [List.length_map] at a3
            omega
          subst hn5
          have HCS : Hid (cs.map CA.c = l5.map CA.c) := hcs
          clear PR C HRB hlen hm9 S hcs
          unfold resV
          have C : Below x14.heap.size x14 (x14.alloc (Obj.cells #[.int .i64 e, .slice ao5 n5 cap5, .bool m] 45)) := (Below.refl _ _).alloc (Nat.le_refl _) _
          have L5 := L5.below C
          have K := K.keep C
          have J := J.keep C
          have W := W.below C
          have L := L.below C
          have B := B.trans (C.mono (by have := B.size; have := HN.out; omega))
          have r0 := J.c0
          have r1 := J.c1
          have r2 := J.c2
          clear C
          go_wp2_with fail
          clear r0 r1 r2
          refine (rresults_any _ e ao5 ao n5 cap5 cap l5 cs m L5 L HCS.out.symm (by omega)).mono ?_
          rintro x x16 ⟨rfl, C⟩
          have B := B.trans (C.mono (by have := B.size; have := HN.out; omega))
          clear C K J W L L5
          go_wp2_with (go_at_call 10; refine (alive6 _).mono ?_; rintro e wz ⟨rfl, Cz⟩; have Bz := B.trans (Cz.mono (by have := B.size; have := HN.out; omega)))
          go_ret
          exact ⟨rfl, by rw [← HN.out]; exact Bz⟩
        · have hk0 : kindR (resR e cs m) = 1 := by unfold kindR; rw [if_neg hq]
          rw [hk0]
          clear hk0 hq S K J W L
          go_wp2_with (go_at_call 10; refine (alive6 _).mono ?_; rintro e wz ⟨rfl, Cz⟩; have Bz := B.trans (Cz.mono (by have := B.size; have := HN.out; omega)))
          go_ret
          exact ⟨rfl, by rw [← HN.out]; exact Bz⟩
    · have hq : rightO o.s (l.map sn0) = false := by simpa using hq
      rw [hq, show kindO false = 6 from rfl]
      clear hq S
      obtain ⟨q0, q1, q2, q3, q4, q5, q6, q7, q8, q9, q10, q11⟩ := K.cs
      go_wp2_with fail
      clear q0 q1 q2 q3 q4 q5 q6 q7 q8 q9 q10 q11
      refine (preq_any x1 cl st o l hcl hst W.1 (HFL.out _ W)).mono ?_
      rintro x x17 ⟨⟨bb, mm, bc, rfl, S⟩, C⟩
      have K := K.keep C
      have J := J.keep C
      have W := W.below C
      have L := L.below C
      have B := B.trans (C.mono (by have := B.size; have := HN.out; omega))
      clear C
      by_cases hq : kq cl st (rightO o.s (l.map sn0)) = 0
      · rw [if_pos hq] at S
        rw [hq]
        have RB := req_back hcl hst HE.out W hq
        have RP := right_back HE.out W (kq_zero hq).2.2
        have hlen : Hid ((enc cl ++ (enc st ++ putA o l)).length = mm) := S.len
        have hm9 : mm ≤ 100000 := by have := hlen.out; have := RB.2; omega
        have HRB : Hid (rdQ (enc cl ++ (enc st ++ putA o l)) = .inr (cl, st, (o.s, l.map OA.s))) := RB.1
        have HRP : Hid _ := RP
        clear RB RP hq
        go_wp2_with fail
        refine (prdq_any x17 bb mm bc _ S hm9).mono ?_
        intro x x18 PR
        obtain ⟨o5, l5, rfl, _, _, ok5, OL5, hs5, hz5⟩ := PR.good _ HRB.out
        dsimp only at hs5 ⊢
        have C := PR.bel
        have K := K.keep C
        have J := J.keep C
        have W := W.below C
        have L := L.below C
        have B := B.trans (C.mono (by have := B.size; have := HN.out; omega))
        clear PR C HRB hlen hm9 S
        rw [show qVal cl st o5 = .agg #[.int .u64 cl, .int .u64 st, .int .i64 o5.kind, .string o5.row, .string o5.fam, .string o5.qual, .int .u64 o5.time, .string o5.to, .slice o5.va.ao o5.va.n o5.va.cap, .slice o5.wa.ao o5.wa.n o5.wa.cap, .bool o5.has, .slice o5.so o5.sn o5.sc] from rfl]
        have C : Below x18.heap.size x18 (x18.alloc (Obj.cells #[.int .u64 cl, .int .u64 st, .int .i64 o5.kind, .string o5.row, .string o5.fam, .string o5.qual, .int .u64 o5.time, .string o5.to, .slice o5.va.ao o5.va.n o5.va.cap, .slice o5.wa.ao o5.wa.n o5.wa.cap, .bool o5.has, .slice o5.so o5.sn o5.sc] 30)) := (Below.refl _ _).alloc (Nat.le_refl _) _
        have ok5 := ok5.below C
        have OL5 := OL5.below C
        have K := K.keep C
        have J := J.keep C
        have W := W.below C
        have L := L.below C
        have B := B.trans (C.mono (by have := B.size; have := HN.out; omega))
        have RS := rreqs_any 4 _ cl st cl st (liftD 2 o5 l5) (o, pl) (read_OW 2 ok5 OL5 hz5) W (read_light 2 ok5 OL5 hz5 (by rw [← hs5]; exact HRP.out.1)) HLT.out
        have HSM : Hid (sameD 4 (liftD 2 o5 l5) ((o, pl) : OA × List (OD 3)) = true) := read_same (by rw [← hs5, ← HE.out]) HRP.out.2.2.1
        have HRS : Hid (Calls Try.prog 23 #[.agg #[.int .u64 cl, .int .u64 st, .int .i64 o5.kind, .string o5.row, .string o5.fam, .string o5.qual, .int .u64 o5.time, .string o5.to, .slice o5.va.ao o5.va.n o5.va.cap, .slice o5.wa.ao o5.wa.n o5.wa.cap, .bool o5.has, .slice o5.so o5.sn o5.sc], .agg #[.int .u64 cl, .int .u64 st, .int .i64 o.kind, .string o.row, .string o.fam, .string o.qual, .int .u64 o.time, .string o.to, .slice o.va.ao o.va.n o.va.cap, .slice o.wa.ao o.wa.n o.wa.cap, .bool o.has, .slice o.so o.sn o.sc]] (x18.alloc (Obj.cells #[.int .u64 cl, .int .u64 st, .int .i64 o5.kind, .string o5.row, .string o5.fam, .string o5.qual, .int .u64 o5.time, .string o5.to, .slice o5.va.ao o5.va.n o5.va.cap, .slice o5.wa.ao o5.wa.n o5.wa.cap, .bool o5.has, .slice o5.so o5.sn o5.sc] 30)) fun x w' => x = .returned (.bool true) ∧ Below (x18.alloc (Obj.cells #[.int .u64 cl, .int .u64 st, .int .i64 o5.kind, .string o5.row, .string o5.fam, .string o5.qual, .int .u64 o5.time, .string o5.to, .slice o5.va.ao o5.va.n o5.va.cap, .slice o5.wa.ao o5.wa.n o5.wa.cap, .bool o5.has, .slice o5.so o5.sn o5.sc] 30)).heap.size (x18.alloc (Obj.cells #[.int .u64 cl, .int .u64 st, .int .i64 o5.kind, .string o5.row, .string o5.fam, .string o5.qual, .int .u64 o5.time, .string o5.to, .slice o5.va.ao o5.va.n o5.va.cap, .slice o5.wa.ao o5.wa.n o5.wa.cap, .bool o5.has, .slice o5.so o5.sn o5.sc] 30)) w') := Calls.mono RS fun x w' h => ⟨h.1.trans ((congrArg (fun b => Ending.returned (.bool (decide (cl = cl) && (decide (st = st) && b)))) HSM.out).trans (by simp)), h.2⟩
        clear hs5 hz5 ok5 OL5 C HRP RS HSM
        obtain ⟨q0, q1, q2, q3, q4, q5, q6, q7, q8, q9, q10, q11⟩ := K.cs
        go_wp2_with fail
        clear q0 q1 q2 q3 q4 q5 q6 q7 q8 q9 q10 q11
        refine Calls.mono HRS.out ?_
        rintro x x20 ⟨rfl, C⟩
        have K := K.keep C
        have J := J.keep C
        have W := W.below C
        have L := L.below C
        have B := B.trans (C.mono (by have := B.size; have := HN.out; omega))
        clear C HRS
        have r0 := J.c0
        have r1 := J.c1
        have r2 := J.c2
        go_wp2_with fail
        clear r0 r1 r2
        refine (presult_any x20 e ao n cap cs m L).mono ?_
        rintro x x21 ⟨⟨bb, mm, bc, rfl, S⟩, C⟩
        have K := K.keep C
        have J := J.keep C
        have W := W.below C
        have L := L.below C
        have B := B.trans (C.mono (by have := B.size; have := HN.out; omega))
        clear C
        by_cases hq : rightR (resR e cs m) = true
        · have hk0 : kindR (resR e cs m) = 0 := by unfold kindR; rw [hq]; rfl
          rw [hq, if_pos rfl] at S
          rw [hk0]
          have RB := res_back hq L.ok
          have hlen : Hid ((putR (resR e cs m)).length = mm) := S.len
          have hm9 : mm ≤ 100000 := by have := hlen.out; have := RB.2; omega
          have HRB : Hid (rdR (putR (resR e cs m)) = .inr (resR e cs m)) := RB.1
          clear RB hk0 hq
          go_wp2_with fail
          refine (prdr_any x21 bb mm bc _ S hm9).mono ?_
          intro x x22 PR
          obtain ⟨c5, ao5, n5, cap5, l5, m5, rfl, L5, hq5⟩ := PR.good _ HRB.out
          have C := PR.bel
          have K := K.keep C
          have J := J.keep C
          have W := W.below C
          have L := L.below C
          have B := B.trans (C.mono (by have := B.size; have := HN.out; omega))
          simp only [resR, RV.mk.injEq] at hq5
          obtain ⟨rfl, hcs, rfl⟩ := hq5
          have hn5 : n5 = n := by
            have a1 := L5.len
            have a2 := L.len
            have a3 := congrArg List.length hcs
            simp only [List.length_map] at a3
            omega
          subst hn5
          have HCS : Hid (cs.map CA.c = l5.map CA.c) := hcs
          clear PR C HRB hlen hm9 S hcs
          unfold resV
          have C : Below x22.heap.size x22 (x22.alloc (Obj.cells #[.int .i64 e, .slice ao5 n5 cap5, .bool m] 45)) := (Below.refl _ _).alloc (Nat.le_refl _) _
          have L5 := L5.below C
          have K := K.keep C
          have J := J.keep C
          have W := W.below C
          have L := L.below C
          have B := B.trans (C.mono (by have := B.size; have := HN.out; omega))
          have r0 := J.c0
          have r1 := J.c1
          have r2 := J.c2
          clear C
          go_wp2_with fail
          clear r0 r1 r2
          refine (rresults_any _ e ao5 ao n5 cap5 cap l5 cs m L5 L HCS.out.symm (by omega)).mono ?_
          rintro x x24 ⟨rfl, C⟩
          have B := B.trans (C.mono (by have := B.size; have := HN.out; omega))
          clear C K J W L L5
          go_wp2_with (go_at_call 10; refine (alive6 _).mono ?_; rintro e wz ⟨rfl, Cz⟩; have Bz := B.trans (Cz.mono (by have := B.size; have := HN.out; omega)))
          go_ret
          exact ⟨rfl, by rw [← HN.out]; exact Bz⟩
        · have hk0 : kindR (resR e cs m) = 1 := by unfold kindR; rw [if_neg hq]
          rw [hk0]
          clear hk0 hq S K J W L
          go_wp2_with (go_at_call 10; refine (alive6 _).mono ?_; rintro e wz ⟨rfl, Cz⟩; have Bz := B.trans (Cz.mono (by have := B.size; have := HN.out; omega)))
          go_ret
          exact ⟨rfl, by rw [← HN.out]; exact Bz⟩
      · have hkb : (kq cl st (rightO o.s (l.map sn0)) == 0) = false := by simp [hq]
        obtain ⟨kk, hkk⟩ : ∃ k, k = kq cl st (rightO o.s (l.map sn0)) := ⟨_, rfl⟩
        rw [← hkk] at hkb ⊢
        clear hkk hq S
        have r0 := J.c0
        have r1 := J.c1
        have r2 := J.c2
        go_wp2_with fail
        clear r0 r1 r2
        refine (presult_any x17 e ao n cap cs m L).mono ?_
        rintro x x25 ⟨⟨bb, mm, bc, rfl, S⟩, C⟩
        have K := K.keep C
        have J := J.keep C
        have W := W.below C
        have L := L.below C
        have B := B.trans (C.mono (by have := B.size; have := HN.out; omega))
        clear C
        by_cases hq : rightR (resR e cs m) = true
        · have hk0 : kindR (resR e cs m) = 0 := by unfold kindR; rw [hq]; rfl
          rw [hq, if_pos rfl] at S
          rw [hk0]
          have RB := res_back hq L.ok
          have hlen : Hid ((putR (resR e cs m)).length = mm) := S.len
          have hm9 : mm ≤ 100000 := by have := hlen.out; have := RB.2; omega
          have HRB : Hid (rdR (putR (resR e cs m)) = .inr (resR e cs m)) := RB.1
          clear RB hk0 hq
          go_wp2_with fail
          refine (prdr_any x25 bb mm bc _ S hm9).mono ?_
          intro x x26 PR
          obtain ⟨c5, ao5, n5, cap5, l5, m5, rfl, L5, hq5⟩ := PR.good _ HRB.out
          have C := PR.bel
          have K := K.keep C
          have J := J.keep C
          have W := W.below C
          have L := L.below C
          have B := B.trans (C.mono (by have := B.size; have := HN.out; omega))
          simp only [resR, RV.mk.injEq] at hq5
          obtain ⟨rfl, hcs, rfl⟩ := hq5
          have hn5 : n5 = n := by
            have a1 := L5.len
            have a2 := L.len
            have a3 := congrArg List.length hcs
            simp only [List.length_map] at a3
            omega
          subst hn5
          have HCS : Hid (cs.map CA.c = l5.map CA.c) := hcs
          clear PR C HRB hlen hm9 S hcs
          unfold resV
          have C : Below x26.heap.size x26 (x26.alloc (Obj.cells #[.int .i64 e, .slice ao5 n5 cap5, .bool m] 45)) := (Below.refl _ _).alloc (Nat.le_refl _) _
          have L5 := L5.below C
          have K := K.keep C
          have J := J.keep C
          have W := W.below C
          have L := L.below C
          have B := B.trans (C.mono (by have := B.size; have := HN.out; omega))
          have r0 := J.c0
          have r1 := J.c1
          have r2 := J.c2
          clear C
          go_wp2_with fail
          clear r0 r1 r2
          refine (rresults_any _ e ao5 ao n5 cap5 cap l5 cs m L5 L HCS.out.symm (by omega)).mono ?_
          rintro x x28 ⟨rfl, C⟩
          have B := B.trans (C.mono (by have := B.size; have := HN.out; omega))
          clear C K J W L L5
          go_wp2_with (go_at_call 10; refine (alive6 _).mono ?_; rintro e wz ⟨rfl, Cz⟩; have Bz := B.trans (Cz.mono (by have := B.size; have := HN.out; omega)))
          go_ret
          exact ⟨rfl, by rw [← HN.out]; exact Bz⟩
        · have hk0 : kindR (resR e cs m) = 1 := by unfold kindR; rw [if_neg hq]
          rw [hk0]
          clear hk0 hq S K J W L
          go_wp2_with (go_at_call 10; refine (alive6 _).mono ?_; rintro e wz ⟨rfl, Cz⟩; have Bz := B.trans (Cz.mono (by have := B.size; have := HN.out; omega)))
          go_ret
          exact ⟨rfl, by rw [← HN.out]; exact Bz⟩
end Go.Proofs.Ytbfcilfdeemnpaa

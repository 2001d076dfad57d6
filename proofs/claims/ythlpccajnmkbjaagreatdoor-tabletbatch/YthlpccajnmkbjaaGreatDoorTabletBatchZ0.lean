/-
  TabletBatch.
-/
import Derived.Test.YthlpccajnmkbjaaGreatDoorY53
import Derived.Test.YthlpccajnmkbjaaGreatDoorY49
import Derived.Test.YthlpccajnmkbjaaGreatDoorY47
import Derived.Test.YthlpccajnmkbjaaGreatDoorY45
namespace Go.Proofs.YthlpccajnmkbjaaGreatDoor
open Go.RowKit

theorem OW.parts3 {w : World} {x : OD 3} (h : OW w 3 x) : ∃ pl : List OA, OWL w 0 (topD 3 x).so (topD 3 x).sn (topD 3 x).sc pl := ⟨_, (OW.subs (d := 2) h).flat⟩
theorem apply_leaf {ds : List CV} {o : OA} {pl : List OA} (hl : leaf o.s o.sn = true) (hn : pl.length = o.sn) (k6 : o.kind ≠ 6) (k8 : o.kind ≠ 8) : mApply ⟨#[]⟩ ⟨#[]⟩ ds o pl = (keepM ds (mStep ds o), (mStep ds o).2) := by
  unfold mApply
  rw [right_not6 k6, List.length_map, hn, hl, if_neg (by simp)]
  unfold isOut
  rw [if_neg k8, inRows_all, if_neg (by simp)]
  unfold mDo
  rw [if_neg k6]
theorem apply_batch {cs : List CV} {o : OA} {pl : List OA} (hr : rightO o.s (pl.map sn0) = true) (hk : o.kind = 6) : mApply ⟨#[]⟩ ⟨#[]⟩ cs o pl = (if (mAll mStep pl cs).2 = 0 then (mAll mStep pl cs).1 else cs, ⟨(mAll mStep pl cs).2, [], false⟩) := by
  unfold mApply
  rw [hr, if_neg (by simp)]
  unfold isOut
  rw [if_neg (show ¬ o.kind = 8 by omega), inRows_all, if_neg (by simp)]
  unfold mDo keepM
  rw [if_pos hk]
theorem apply_wrong {cs : List CV} {o : OA} {pl : List OA} (hr : rightO o.s (pl.map sn0) = false) : mApply ⟨#[]⟩ ⟨#[]⟩ cs o pl = (cs, ⟨6, [], false⟩) := by
  unfold mApply
  rw [if_pos hr]
/-- A result in a block of its own stands while another block is written. -/
theorem RC.wr {V V' : World} {p q : Nat} {e : Int} {ao : Option Addr} {n cap : Nat} {m : Bool} (h : RC V p e ao n cap m) (k : Wr q V V') (hne : p ≠ q) : RC V' p e ao n cap m := (k.block p h.lt hne).trans h
theorem OC.wr {V V' : World} {p q : Nat} {o : OA} (h : OC V p o) (k : Wr q V V') (hne : p ≠ q) : OC V' p o := (k.block p h.lt hne).trans h

set_option maxHeartbeats 16000000 in
set_option maxRecDepth 100000 in
theorem tabletBatch_any (W : World) (a0 a2 : Option Addr) (n0 c0 n2 c2 : Nat) (row : ByteArray) (l sub : List (OD 3)) (L0 : OWL W 3 a0 n0 c0 l) (sm0 : ∀ y ∈ l, OSm 3 y) (L2 : OWL W 3 a2 n2 c2 sub) (sm2 : ∀ y ∈ sub, OSm 3 y) (hT : Tabs W) :
    Calls Tryz.prog 8 #[.slice a0 n0 c0, .string row, .slice a2 n2 c2] W fun e w' => e = .returned (.bool true) ∧ Below W.heap.size W w' := by
  have t2 := hT.two
  have HTb : Hid (Tabs W) := hT
  have AL := fun (V : World) (hV : Below W.heap.size W V) => alive10 V (hT.below hV t2)
  have HAL : Hid (∀ (V : World) (hV : Below W.heap.size W V), Calls Tryz.prog 10 #[] V fun e w' => e = .returned (.bool true) ∧ Below V.heap.size V w') := AL
  clear AL hT
  have hl1 : @List.length (OD 3) l ≤ n0 := Nat.le_of_eq L0.len
  have hl2 : n0 ≤ @List.length (OD 3) l := Nat.le_of_eq L0.len.symm
  have hs1 : @List.length (OD 3) sub ≤ n2 := Nat.le_of_eq L2.len
  have hs2 : n2 ≤ @List.length (OD 3) sub := Nat.le_of_eq L2.len.symm
  have CN := tnew_any W ⟨#[]⟩ ⟨#[]⟩ (by decide) (by decide)
  go_enter Tryz.func8, Tryz.ntmps8
  go_wp2_with fail
  refine CN.mono ?_
  rintro e w1 (⟨-, rfl, X1, C1⟩ | ⟨h, -⟩)
  case inr => rw [newKA] at h; simp at h
  clear CN
  have CL := light10_any w1 a0 n0 c0 20 l (L0.below C1) sm0 (by omega)
  rw [show ((20 : Nat) : Int) = 20 from rfl] at CL
  obtain ⟨b1, hb1⟩ : ∃ b, b = light10 l 20 := ⟨_, rfl⟩
  have HB1 : Hid (b1 = light10 l 20) := hb1
  rw [← hb1] at CL
  clear hb1
  go_wp2_with fail
  refine CL.mono ?_
  rintro e w2 ⟨rfl, C2⟩
  have B2 := C1.trans (C2.mono C1.size)
  have X2 := X1.below C2
  clear CL
  cases b1 with
  | false =>
    have AV := HAL.out w2 B2
    go_wp2_with fail
    refine AV.mono ?_
    rintro e wz ⟨rfl, Cz⟩
    go_wp2
    go_ret
    exact ⟨rfl, B2.trans (Cz.mono B2.size)⟩

  | true =>
    have CL := light10_any w2 a2 n2 c2 8 sub (L2.below B2) sm2 (by omega)
    rw [show ((8 : Nat) : Int) = 8 from rfl] at CL
    obtain ⟨b2, hb2⟩ : ∃ b, b = light10 sub 8 := ⟨_, rfl⟩
    have HB2 : Hid (b2 = light10 sub 8) := hb2
    rw [← hb2] at CL
    clear hb2
    go_wp2_with fail
    refine CL.mono ?_
    rintro e w3 ⟨rfl, C3⟩
    have B3 := B2.trans (C3.mono B2.size)
    have X3 := X2.below C3
    clear CL X1 X2 C1 C2 C3
    cases b2 with
    | false =>
      have AV := HAL.out w3 B3
      go_wp2_with fail
      refine AV.mono ?_
      rintro e wz ⟨rfl, Cz⟩
      go_wp2
      go_ret
      exact ⟨rfl, B3.trans (Cz.mono B3.size)⟩

    | true =>
      by_cases hrw : row.size ≤ 100
      case neg =>
        have irw : (100 : Int) < (row.size : Int) := by omega
        have AV := HAL.out w3 B3
        go_wp2_with fail
        refine AV.mono ?_
        rintro e wz ⟨rfl, Cz⟩
        go_wp2
        go_ret
        exact ⟨rfl, B3.trans (Cz.mono B3.size)⟩

      have irw : ¬ (100 : Int) < (row.size : Int) := by omega
      have hn20 : n0 ≤ 20 := by have := (light10_at HB1.out.symm).1; omega
      have hn8 : n2 ≤ 8 := by have := (light10_at HB2.out.symm).1; omega
      have HLs : Hid (∀ y ∈ sub, lightD 3 y = true) := (light10_at HB2.out.symm).2
      clear HB1 HB2 B2 sm0 sm2
      go_wp2
      go_loopw [9] (fun i wr => ∃ (k : Nat) (cs : List CV), k ≤ n0 ∧ i = .int .i64 k ∧ TB wr W.heap.size ⟨#[]⟩ ⟨#[]⟩ cs ∧ Hid (Stand ⟨#[]⟩ ⟨#[]⟩ (8 * k) cs) ∧ Below W.heap.size W wr) (fun i _ => n0 - (intOf i).toNat)
      case atStart => exact ⟨0, [], Nat.zero_le _, rfl, X3, (Stand.nil _ _).mono (Nat.zero_le _), B3⟩
      case round =>
        obtain ⟨k, cs, hk, rfl, X0, HS0, B0⟩ := hrel
        by_cases hlt : k < n0
        · have hki : (k : Int) < (n0 : Int) := by omega
          have hkl : k < l.length := by omega
          obtain ⟨b, off, ea, hc⟩ := L0.at (by omega)
          have X := (hc k hkl).below B0
          have hy : OW wr 3 l[k] := (L0.ok _ (List.getElem_mem hkl)).below B0
          obtain ⟨pl, hpl⟩ := hy.parts3
          have CA := every_any wr W.heap.size ⟨#[]⟩ ⟨#[]⟩ cs (topD 3 l[k]) pl (HTb.out.below B0 t2) X0 (HS0.out.mono (by omega)) hy.top hpl
          have HS1 : Hid (Stand ⟨#[]⟩ ⟨#[]⟩ (8 * (k + 1)) (mApply ⟨#[]⟩ ⟨#[]⟩ cs (topD 3 l[k]) pl).1) := (HS0.out.apply hy.top (fun x hx => hpl.ok x hx)).mono (by omega)
          obtain ⟨r, hr⟩ : ∃ r, r = mApply ⟨#[]⟩ ⟨#[]⟩ cs (topD 3 l[k]) pl := ⟨_, rfl⟩
          rw [← hr] at CA HS1
          obtain ⟨o, ho⟩ : ∃ o, o = topD 3 l[k] := ⟨_, rfl⟩
          rw [← ho] at CA X
          clear hr ho hy hpl hc
          subst ea
          obtain ⟨q0, q1, q2, q3, q4, q5, q6, q7, q8, q9⟩ := X
          unfold OA.val at CA
          go_wp2_with fail
          refine CA.mono ?_
          rintro e w2 ⟨⟨ra, rn, rc, rl, rfl, -, -⟩, X2, K2⟩
          have B2 := Wr.below B0 K2 B0.size (Nat.le_refl _)
          unfold resV
          clear CA q0 q1 q2 q3 q4 q5 q6 q7 q8 q9
          go_wp2
          go_roundw
          case rel => exact ⟨k + 1, r.1, by omega, by go_num, X2, HS1, B2⟩
          case measure => simp [intOf]; omega
        have hge : ¬ (k : Int) < (n0 : Int) := by omega
        have HS : Hid (Stand ⟨#[]⟩ ⟨#[]⟩ 160 cs) := HS0.out.mono (by omega)
        have t20 : k ≤ 20 := by omega
        clear HS0
        obtain ⟨wa, hwa⟩ : ∃ V, V = wr := ⟨_, rfl⟩
        subst hwa

        clear X3 B3 L0 hl1 hl2 hlt hk
        have CC := clone_any10 wa W.heap.size ⟨#[]⟩ ⟨#[]⟩ cs X0
        have hpw : W.heap.size < wa.heap.size := X0.lt
        go_wp2_with fail
        refine CC.mono ?_
        rintro e w4 ⟨rfl, Y4, C4⟩
        have X4 := X0.below C4
        have B4 := B0.trans (C4.mono B0.size)
        clear CC X0
        have CE := cells_st w4 W.heap.size ⟨#[]⟩ ⟨#[]⟩ cs X4 HS.out.srt HS.out.good (by decide) (by decide) HS.out.rows (by have := HS.out.len; omega)
        go_wp2_with fail
        refine CE.mono ?_
        rintro e w5 ⟨ao, n5, cap5, cl, rfl, L5, -, hm5, C5⟩
        have HM5 : Hid (cl.map CA.c = cs) := hm5
        have hn5 : n5 ≤ 160 := by
          have h1 := L5.len
          have h2 := HS.out.len
          have h3 : cl.length = cs.length := by rw [← hm5, List.length_map]
          omega
        have X5 := X4.below C5
        have Y5 := Y4.below C5
        have B5 := B4.trans (C5.mono B4.size)
        have hqp : wa.heap.size ≠ W.heap.size := by omega
        have s5 : wa.heap.size < w5.heap.size := Y5.lt
        clear CE hm5 X4 Y4 B4 C4 C5
        obtain ⟨ob, hob⟩ : ∃ o : OA, o = ⟨6, row, ⟨#[]⟩, ⟨#[]⟩, 0, ⟨#[]⟩, ⟨none, 0, 0, []⟩, ⟨none, 0, 0, []⟩, false, a2, n2, c2⟩ := ⟨_, rfl⟩
        obtain ⟨W6, hW6⟩ : ∃ V, V = w5.alloc (.cells #[.int .i64 6, .string row, .string ⟨#[]⟩, .string ⟨#[]⟩, .int .u64 0, .string ⟨#[]⟩, .slice none 0 0, .slice none 0 0, .bool false, .slice a2 n2 c2] 42) := ⟨_, rfl⟩
        have C6 : Below w5.heap.size w5 W6 := by rw [hW6]; exact (Below.refl _ _).alloc (Nat.le_refl _) _
        have O6 : OC W6 w5.heap.size ob := by rw [hW6, hob]; exact OC.new w5 ⟨6, row, ⟨#[]⟩, ⟨#[]⟩, 0, ⟨#[]⟩, ⟨none, 0, 0, []⟩, ⟨none, 0, 0, []⟩, false, a2, n2, c2⟩
        have s6 : W6.heap.size = w5.heap.size + 1 := by rw [hW6]; exact Array.size_push ..
        have B6 := B5.trans (C6.mono B5.size)
        have X6 := X5.below C6
        have Y6 := Y5.below C6
        have L6 := L5.below C6
        have L26 := L2.below B6
        have ok6 : ob.ok W6 := by
          rw [hob]
          exact ⟨⟨(show (-9223372036854775808 : Int) ≤ 6 by decide), (show (6 : Int) ≤ 9223372036854775807 by decide)⟩, Nat.le_trans hrw (by decide), (show (⟨#[]⟩ : ByteArray).size ≤ maxLen by decide), (show (⟨#[]⟩ : ByteArray).size ≤ maxLen by decide), (show (0 : Nat) < 18446744073709551616 by decide), (show (⟨#[]⟩ : ByteArray).size ≤ maxLen by decide), Sl.nothing W6, Sl.nothing W6, L26.le, L26.mx, L26.nil⟩
        have HBO : Hid (ob = ⟨6, row, ⟨#[]⟩, ⟨#[]⟩, 0, ⟨#[]⟩, ⟨none, 0, 0, []⟩, ⟨none, 0, 0, []⟩, false, a2, n2, c2⟩) := hob
        have hflat : OWL W6 0 ob.so ob.sn ob.sc (sub.map (topD 3)) := by rw [hob]; exact L26.flat
        have CB := every_any W6 W.heap.size ⟨#[]⟩ ⟨#[]⟩ cs ob (sub.map (topD 3)) (HTb.out.below B6 t2) X6 (HS.out.mono (by omega)) ok6 hflat
        obtain ⟨r, hr⟩ : ∃ r, r = mApply ⟨#[]⟩ ⟨#[]⟩ cs ob (sub.map (topD 3)) := ⟨_, rfl⟩
        have HR : Hid (r = mApply ⟨#[]⟩ ⟨#[]⟩ cs ob (sub.map (topD 3))) := hr
        rw [← hr] at CB
        clear hr X5 Y5 L5 hflat
        unfold OA.val at CB
        rw [hob] at CB
        go_wp2_with fail
        rw [← hW6]
        clear hW6
        refine CB.mono ?_
        rintro e w7 ⟨⟨ra, rn, rc, rl, rfl, -, -⟩, X7, K7⟩
        have Y7 := TB.other X6 K7 hqp Y6
        obtain ⟨u6, A6, -⟩ := X6
        have L7 := L6.tb A6 K7
        have B7 := Wr.below B6 K7 B6.size (Nat.le_refl _)
        have O7 := O6.wr K7 (by omega)
        have L27 := L2.below B7
        have s7 : W6.heap.size ≤ w7.heap.size := K7.size
        clear CB A6 K7 Y6 L6 O6 L26 ok6 B6 B5 C6
        unfold resV
        rw [HBO.out] at O7
        have q0 : w7.cell? ⟨w5.heap.size, 0, none⟩ = some (.int .i64 6) := O7.cs.c0
        have q1 : w7.cell? ⟨w5.heap.size, 1, none⟩ = some (.string row) := O7.cs.c1
        have q2 : w7.cell? ⟨w5.heap.size, 2, none⟩ = some (.string ⟨#[]⟩) := O7.cs.c2
        have q3 : w7.cell? ⟨w5.heap.size, 3, none⟩ = some (.string ⟨#[]⟩) := O7.cs.c3
        have q4 : w7.cell? ⟨w5.heap.size, 4, none⟩ = some (.int .u64 0) := O7.cs.c4
        have q5 : w7.cell? ⟨w5.heap.size, 5, none⟩ = some (.string ⟨#[]⟩) := O7.cs.c5
        have q6 : w7.cell? ⟨w5.heap.size, 6, none⟩ = some (.slice none 0 0) := O7.cs.c6
        have q7 : w7.cell? ⟨w5.heap.size, 7, none⟩ = some (.slice none 0 0) := O7.cs.c7
        have q8 : w7.cell? ⟨w5.heap.size, 8, none⟩ = some (.bool false) := O7.cs.c8
        have q9 : w7.cell? ⟨w5.heap.size, 9, none⟩ = some (.slice a2 n2 c2) := O7.cs.c9
        have lt7 := O7.lt
        obtain ⟨W8, hW8⟩ : ∃ V, V = w7.alloc (.cells #[.int .i64 r.2.e, .slice ra rn rc, .bool r.2.more] 34) := ⟨_, rfl⟩
        have C8 : Below w7.heap.size w7 W8 := by rw [hW8]; exact (Below.refl _ _).alloc (Nat.le_refl _) _
        have R8 : RC W8 w7.heap.size r.2.e ra rn rc r.2.more := by rw [hW8]; exact heap_alloc_new w7 _
        have s8 : W8.heap.size = w7.heap.size + 1 := by rw [hW8]; exact Array.size_push ..
        have B8 := B7.trans (C8.mono B7.size)
        have X8 := X7.below C8
        have Y8 := Y7.below C8
        have L8 := L7.below C8
        have hsub : sub.map (topD 3) = sub.map (topD 3) := rfl
        have CR := rright6 3 W8 ⟨6, row, ⟨#[]⟩, ⟨#[]⟩, 0, ⟨#[]⟩, ⟨none, 0, 0, []⟩, ⟨none, 0, 0, []⟩, false, a2, n2, c2⟩ sub ⟨by
          exact ⟨⟨(show (-9223372036854775808 : Int) ≤ 6 by decide), (show (6 : Int) ≤ 9223372036854775807 by decide)⟩, Nat.le_trans hrw (by decide), (show (⟨#[]⟩ : ByteArray).size ≤ maxLen by decide), (show (⟨#[]⟩ : ByteArray).size ≤ maxLen by decide), (show (0 : Nat) < 18446744073709551616 by decide), (show (⟨#[]⟩ : ByteArray).size ≤ maxLen by decide), Sl.nothing W8, Sl.nothing W8, L2.le, L2.mx, L2.nil⟩, L2.len, (L2.below B8).cell, (L2.below B8).ok⟩ (by
          show (fitsL _ && _) = true
          rw [show fitsL ⟨6, row, ⟨#[]⟩, ⟨#[]⟩, 0, ⟨#[]⟩, ⟨none, 0, 0, []⟩, ⟨none, 0, 0, []⟩, false, a2, n2, c2⟩ = true from decide_eq_true ⟨by show row.size + 0 + 0 + 0 ≤ 500; omega, Nat.zero_le _, Nat.zero_le _, by show n2 ≤ 12; omega⟩, Bool.true_and]
          exact List.all_eq_true.2 HLs.out)
        obtain ⟨rb, hrb⟩ : ∃ b, b = rightO (OA.s ⟨6, row, ⟨#[]⟩, ⟨#[]⟩, 0, ⟨#[]⟩, ⟨none, 0, 0, []⟩, ⟨none, 0, 0, []⟩, false, a2, n2, c2⟩) (sub.map (snD 3)) := ⟨_, rfl⟩
        have HRB : Hid (rightO ob.s ((sub.map (topD 3)).map sn0) = rb) := by
          show _ = _
          rw [map_flat, hrb, HBO.out]
        rw [← hrb] at CR
        unfold OA.val at CR
        clear hrb X7 Y7 L7 O7 hsub
        go_wp2_with fail
        rw [← hW8]
        clear hW8 q0 q1 q2 q3 q4 q5 q6 q7 q8 q9
        refine CR.mono ?_
        rintro e w9 ⟨rfl, C9⟩
        have B9 := B8.trans (C9.mono B8.size)
        have X9 := X8.below C9
        have Y9 := Y8.below C9
        have L9 := L8.below C9
        have R9 := R8.keep C9
        clear CR X8 Y8 L8 R8 C8 B7
        cases rb with
        | false =>
          obtain rfl : r = (cs, ⟨6, [], false⟩) := by rw [HR.out]; exact apply_wrong HRB.out
          have r0 : w9.cell? ⟨w7.heap.size, 0, none⟩ = some (.int .i64 6) := R9.c0
          have CE := cells_st w9 W.heap.size ⟨#[]⟩ ⟨#[]⟩ cs X9 HS.out.srt HS.out.good (by decide) (by decide) HS.out.rows (by have := HS.out.len; omega)
          unfold kindO
          go_wp2_with fail
          refine CE.mono ?_
          rintro e w10 ⟨ao2, m2, cap2, cl2, rfl, M2, -, hm2, C10⟩
          have B10 := B9.trans (C10.mono B9.size)
          have L10 := L9.below C10
          obtain rfl : n5 = m2 := M2.len_of L10 (by rw [hm2, HM5.out])
          have CS := same10_any w10 ao2 ao n5 cap2 cap5 cl2 cl M2 L10 (by rw [hm2, HM5.out]) (by omega)
          clear CE hm2 M2 L10
          go_wp2_with fail
          refine CS.mono ?_
          rintro e w11 ⟨rfl, C11⟩
          have B11 := B10.trans (C11.mono B10.size)
          clear CS
          have AV := HAL.out w11 B11
          go_wp2_with fail
          refine AV.mono ?_
          rintro e wz ⟨rfl, Cz⟩
          go_wp2
          go_ret
          exact ⟨rfl, B11.trans (Cz.mono B11.size)⟩

        | true =>
          obtain ⟨pl, hpl⟩ : ∃ pl, pl = sub.map (topD 3) := ⟨_, rfl⟩
          have HPL : Hid (pl = sub.map (topD 3)) := hpl
          have HRA : Hid (r = (if (mAll mStep pl cs).2 = 0 then (mAll mStep pl cs).1 else cs, ⟨(mAll mStep pl cs).2, [], false⟩)) := by
            show _ = _
            rw [HR.out, hpl]
            exact apply_batch HRB.out (by rw [HBO.out])
          have HPT : Hid (∀ x ∈ pl, x.kind ≠ 6 ∧ x.kind ≠ 8 ∧ leaf x.s x.sn = true) := fun x hx => by
            rw [hpl] at hx
            obtain ⟨p6, p8, pl', -⟩ := right_part HRB.out (by rw [HBO.out]) hx
            exact ⟨p6, p8, pl'⟩
          have hpn : pl.length = n2 := by rw [hpl, List.length_map, L2.len]
          have HPN : Hid (pl.length = n2) := hpn
          have hqW : W.heap.size ≤ wa.heap.size := Nat.le_of_lt hpw
          have lt9 : w7.heap.size < w9.heap.size := R9.lt
          have hrq : w7.heap.size ≠ wa.heap.size := by omega
          have HY9 : Hid (TB w9 wa.heap.size ⟨#[]⟩ ⟨#[]⟩ cs) := Y9
          have HX9 : Hid (TB w9 W.heap.size ⟨#[]⟩ ⟨#[]⟩ r.1) := X9
          have HL9 : Hid (CL w9 ao n5 cap5 cl) := L9
          have HR9 : Hid (RC w9 w7.heap.size r.2.e ra rn rc r.2.more) := R9
          clear HR HRB hpl hpn X9 L9 R9
          unfold kindO
          go_wp2
          go_loopw [14] (fun i wv => ∃ (k : Nat) (ds : List CV), k ≤ n2 ∧ i = .int .i64 k ∧ TB wv wa.heap.size ⟨#[]⟩ ⟨#[]⟩ ds ∧ Hid (Stand ⟨#[]⟩ ⟨#[]⟩ (160 + k) ds) ∧ Hid (mAll mStep (pl.drop k) ds = mAll mStep pl cs) ∧ Wr wa.heap.size w9 wv) (fun i _ => n2 - (intOf i).toNat)
          case atStart => exact ⟨0, cs, Nat.zero_le _, rfl, Y9, HS, rfl, Wr.refl _ _⟩
          case round =>
            obtain ⟨k2, ds, hk2, rfl, Yv, HSv, HMv, Kv⟩ := hrel
            clear Y9
            have hqp' : W.heap.size ≠ wa.heap.size := by omega
            have Bv := Wr.below B9 Kv B9.size hqW
            have Xv := TB.other HY9.out Kv hqp' HX9.out
            have Lv : CL wr ao n5 cap5 cl := by
              obtain ⟨u9, A9, -⟩ := HY9.out
              exact HL9.out.tb A9 Kv
            have Rv := HR9.out.wr Kv hrq
            by_cases hlt2 : k2 < n2
            · have hki2 : (k2 : Int) < (n2 : Int) := by omega
              have hks : k2 < sub.length := by omega
              have hkp : k2 < pl.length := by have := HPN.out; omega
              obtain ⟨b, off, ea, hc⟩ := L2.at (by omega)
              have X := (hc k2 hks).below Bv
              have hy : OW wr 3 sub[k2] := (L2.ok _ (List.getElem_mem hks)).below Bv
              obtain ⟨spl, hspl⟩ := hy.parts3
              have hpk : pl[k2] = topD 3 sub[k2] := by
                have := HPL.out
                subst this
                exact List.getElem_map ..
              obtain ⟨p6, p8, plf⟩ := HPT.out _ (List.getElem_mem hkp)
              have hst := mAll_step (step := mStep) hkp ds
              rw [hpk] at p6 p8 plf hst
              have hal := apply_leaf (ds := ds) plf (show spl.length = _ from hspl.len) p6 p8
              have HSS := HSv.out.step hy.top plf (.inl (inRows_all _))
              have CA := every_any wr wa.heap.size ⟨#[]⟩ ⟨#[]⟩ ds (topD 3 sub[k2]) spl (HTb.out.below Bv t2) Yv (HSv.out.mono (by omega)) hy.top hspl
              rw [hal] at CA
              obtain ⟨o, ho⟩ : ∃ o, o = topD 3 sub[k2] := ⟨_, rfl⟩
              rw [← ho] at CA X hst HSS
              obtain ⟨r1, hr1⟩ : ∃ r1, r1 = mStep ds o := ⟨_, rfl⟩
              rw [← hr1] at CA hst HSS
              have HST : Hid (mAll mStep (pl.drop k2) ds = if r1.2.e = 0 then mAll mStep (pl.drop (k2 + 1)) r1.1 else (r1.1, r1.2.e)) := hst
              have HS1 : Hid (Stand ⟨#[]⟩ ⟨#[]⟩ (160 + (k2 + 1)) r1.1) := HSS
              clear hr1 ho hy hspl hc hal hst HSS plf p6 p8 hpk
              subst ea
              obtain ⟨q0, q1, q2, q3, q4, q5, q6, q7, q8, q9⟩ := X
              unfold OA.val at CA
              have qp := Yv
              go_wp2_with fail
              refine CA.mono ?_
              rintro e wx ⟨⟨xa, xn, xc, xl, rfl, -, -⟩, Yx, Kx⟩
              have Xx := TB.other Yv Kx hqp' Xv
              obtain ⟨uv, Av, -⟩ := Yv
              have Lx := Lv.tb Av Kx
              have Rx := Rv.wr Kx hrq
              have K3 := Kv.trans Kx
              have Bx := Wr.below Bv Kx Bv.size hqW
              unfold resV
              obtain ⟨W9, hW9⟩ : ∃ V, V = wx.alloc (.cells #[.int .i64 r1.2.e, .slice xa xn xc, .bool r1.2.more] 34) := ⟨_, rfl⟩
              have C9' : Below wx.heap.size wx W9 := by rw [hW9]; exact (Below.refl _ _).alloc (Nat.le_refl _) _
              clear CA q0 q1 q2 q3 q4 q5 q6 q7 q8 q9 Av Lv Rv Xv qp
              by_cases hz : r1.2.e = 0
              · have z0 : (r1.2.e != 0) = false := by simp [hz]
                have HM2 : Hid (mAll mStep (pl.drop (k2 + 1)) r1.1 = mAll mStep pl cs) := by
                  show _ = _
                  rw [← HMv.out, HST.out, if_pos hz]
                have HKE : Hid (keepM ds r1 = r1.1) := if_pos hz
                rw [HKE.out] at Yx
                clear hz HST HMv HKE Lx Rx Xx
                go_wp2
                rw [← hW9]
                go_roundw
                case rel => exact ⟨k2 + 1, r1.1, by omega, by go_num, Yx.below C9', HS1, HM2, K3.trans (Wr.of C9')⟩
                case measure => simp [intOf]; omega
              · have z0 : (r1.2.e != 0) = true := by simp [hz]
                have HM2 : Hid (mAll mStep pl cs = (r1.1, r1.2.e)) := by
                  show _ = _
                  rw [← HMv.out, HST.out, if_neg hz]
                have hr2 : r = (cs, ⟨r1.2.e, [], false⟩) := by
                  rw [HRA.out, HM2.out]
                  exact congrArg (fun z => (z, (⟨r1.2.e, [], false⟩ : RV))) (if_neg hz)
                subst hr2
                have rx0 : wx.cell? ⟨w7.heap.size, 0, none⟩ = some (.int .i64 r1.2.e) := Rx.c0
                have ltx := Rx.lt
                have heq : (r1.2.e == r1.2.e) = true := by simp
                have Bz := Bx.trans (C9'.mono Bx.size)
                have Xz : TB W9 W.heap.size ⟨#[]⟩ ⟨#[]⟩ cs := Xx.below C9'
                have Lz := Lx.below C9'
                have CE := cells_st W9 W.heap.size ⟨#[]⟩ ⟨#[]⟩ cs Xz HS.out.srt HS.out.good (by decide) (by decide) HS.out.rows (by have := HS.out.len; omega)
                clear hz HST HMv Yx Xx Lx Rx
                go_wp2_with fail
                rw [← hW9]
                clear hW9
                refine CE.mono ?_
                rintro e w10 ⟨ao2, m2, cap2, cl2, rfl, M2, -, hm2, C10⟩
                have B10 := Bz.trans (C10.mono Bz.size)
                have L10 := Lz.below C10
                obtain rfl : n5 = m2 := M2.len_of L10 (by rw [hm2, HM5.out])
                have CS := same10_any w10 ao2 ao n5 cap2 cap5 cl2 cl M2 L10 (by rw [hm2, HM5.out]) (by omega)
                clear CE hm2 M2 L10
                go_wp2_with fail
                refine CS.mono ?_
                rintro e w11 ⟨rfl, C11⟩
                have B11 := B10.trans (C11.mono B10.size)
                clear CS
                have AV := HAL.out w11 B11
                go_wp2_with fail
                refine AV.mono ?_
                rintro e wz ⟨rfl, Cz⟩
                go_wp2
                go_ret
                exact ⟨rfl, B11.trans (Cz.mono B11.size)⟩

            · have hge2 : ¬ (k2 : Int) < (n2 : Int) := by omega
              have HM2 : Hid (mAll mStep pl cs = (ds, 0)) := by
                show _ = _
                rw [← HMv.out, List.drop_of_length_le (by have := HPN.out; omega)]
                rfl
              obtain rfl : r = (ds, ⟨0, [], false⟩) := by
                rw [HRA.out, HM2.out]
                rfl
              have r0 : wr.cell? ⟨w7.heap.size, 0, none⟩ = some (.int .i64 0) := Rv.c0
              have CE := cells_st wr W.heap.size ⟨#[]⟩ ⟨#[]⟩ ds Xv HSv.out.srt HSv.out.good (by decide) (by decide) HSv.out.rows (by have := HSv.out.len; omega)
              clear HM2 HMv Lv
              go_wp2_with fail
              refine CE.mono ?_
              rintro e w10 ⟨ao2, m2, cap2, cl2, rfl, M2, -, hm2, C10⟩
              have B10 := Bv.trans (C10.mono Bv.size)
              have Y10 := Yv.below C10
              have hm2n : m2 ≤ 1000 := by
                have h1 := M2.len
                have h2 := HSv.out.len
                have h3 : cl2.length = ds.length := by rw [← hm2, List.length_map]
                omega
              have CF := cells_st w10 wa.heap.size ⟨#[]⟩ ⟨#[]⟩ ds Y10 HSv.out.srt HSv.out.good (by decide) (by decide) HSv.out.rows (by have := HSv.out.len; omega)
              clear CE
              go_wp2_with fail
              refine CF.mono ?_
              rintro e w11 ⟨ao3, m3, cap3, cl3, rfl, M3, -, hm3, C11⟩
              have B11 := B10.trans (C11.mono B10.size)
              have M2' := M2.below C11
              obtain rfl : m3 = m2 := M2'.len_of M3 (by rw [hm2, hm3]) |>.symm ▸ rfl
              have CS := same10_any w11 ao2 ao3 m3 cap2 cap3 cl2 cl3 M2' M3 (by rw [hm2, hm3]) (by omega)
              clear CF hm2 hm3 M2 M2' M3 Y10
              go_wp2_with fail
              refine CS.mono ?_
              rintro e w12 ⟨rfl, C12⟩
              have B12 := B11.trans (C12.mono B11.size)
              clear CS
              have AV := HAL.out w12 B12
              go_wp2_with fail
              refine AV.mono ?_
              rintro e wz ⟨rfl, Cz⟩
              go_wp2
              go_ret
              exact ⟨rfl, B12.trans (Cz.mono B12.size)⟩

end Go.Proofs.YthlpccajnmkbjaaGreatDoor

/-
  TreePlays.
-/
import Derived.Test.YtnicnfjickknjaaDoorTreePlaysZ1
import Derived.Test.YtnicnfjickknjaaDoorTreePlaysZ3
import Derived.Test.YtnicnfjickknjaaDoorTreePlaysZ4
import Derived.Test.YtnicnfjickknjaaDoorTreePlaysZ5
import Derived.Test.YtnicnfjickknjaaDoorTreePlaysZ6
import Derived.Test.YtnicnfjickknjaaDoorTreePlaysZ7
import Derived.Test.YtnicnfjickknjaaDoorTreePlaysZ8
import Derived.Test.YtnicnfjickknjaaDoorTreePlaysZ9
import Derived.Test.YtnicnfjickknjaaDoorTreePlaysZ10
namespace Go.Proofs.YtnicnfjickknjaaDoor
open Go.RowKit

theorem jL_ask (k v : Part) : jL [⟨k, v⟩] 0 = askK k.n v.n := by
  unfold askK
  simp only [jL]
theorem ask_ok {n m : Nat} (h : askK n m = 0) : n ≤ 256 ∧ m ≤ 1024 := by
  unfold askK at h
  split at h
  · simp at h
  · rename_i h1
    split at h
    · simp at h
    · simp [badK] at h1
      omega

set_option maxHeartbeats 16000000 in
set_option maxRecDepth 100000 in
theorem treePlays_any (W : World) (a0 a1 a2 : Option Addr) (n0 c0 n1 c1 n2 c2 : Nat) (ops : List KP) (lo hi : List Int) (most : Int) (h0 : KPL W a0 n0 c0 ops) (h1 : Sl W a1 n1 c1 lo) (h2 : Sl W a2 n2 c2 hi) (hT : Tabs W) :
    Calls Tryd.prog 3 #[.slice a0 n0 c0, .slice a1 n1 c1, .slice a2 n2 c2, .int .i64 most] W fun e w' => e = .returned (.bool true) ∧ Below W.heap.size W w' := by
  have t2 := hT.two
  have AL := fun (V : World) (hV : Below W.heap.size W V) => alive7 V (hT.below hV t2)
  have HAL : Hid (∀ (V : World) (hV : Below W.heap.size W V), Calls Tryd.prog 4 #[] V fun e w' => e = .returned (.bool true) ∧ Below V.heap.size V w') := AL
  have HT : Hid (Tabs W) := hT
  have A0 := AL W (Below.refl _ _)
  clear AL hT
  by_cases g0 : n0 ≤ 30
  case neg =>
    have i0 : (30 : Int) < (n0 : Int) := by omega
    go_enter Tryd.func3, Tryd.ntmps3
    go_wp2_with fail
    refine A0.mono ?_
    rintro e w2 ⟨rfl, B⟩
    go_wp2
    go_ret
    exact ⟨rfl, B⟩
  have i0 : (n0 : Int) ≤ 30 := by omega
  by_cases g1 : n1 ≤ 200
  case neg =>
    have i1 : (200 : Int) < (n1 : Int) := by omega
    go_enter Tryd.func3, Tryd.ntmps3
    go_wp2_with fail
    refine A0.mono ?_
    rintro e w2 ⟨rfl, B⟩
    go_wp2
    go_ret
    exact ⟨rfl, B⟩
  have i1 : (n1 : Int) ≤ 200 := by omega
  by_cases g2 : n2 ≤ 200
  case neg =>
    have i2 : (200 : Int) < (n2 : Int) := by omega
    go_enter Tryd.func3, Tryd.ntmps3
    go_wp2_with fail
    refine A0.mono ?_
    rintro e w2 ⟨rfl, B⟩
    go_wp2
    go_ret
    exact ⟨rfl, B⟩
  have i2 : (n2 : Int) ≤ 200 := by omega
  clear A0
  have hl1 := Nat.le_of_eq h0.len
  have hl2 := Nat.le_of_eq h0.len.symm
  go_enter Tryd.func3, Tryd.ntmps3
  go_wp2
  go_loopw [9, 10, 11] (fun t m i wr => ∃ (k : Nat) (po mo : Option Addr) (mn mc : Nat) (its : List IP) (l : List It), k ≤ n0 ∧ i = .int .i64 k ∧ t = .pointer po ∧ m = .slice mo mn mc ∧ TT wr (.pointer po) l ∧ IL wr mo mn mc its ∧ Hid (its.map IP.it = l) ∧ Hid (PlL l k) ∧ Below W.heap.size W wr) (fun _ _ i _ => n0 - (intOf i).toNat)
  case atStart => exact ⟨0, none, none, 0, 0, [], [], Nat.zero_le _, rfl, rfl, rfl, TT.nil _, IL.nothing _, rfl, PlL.nil, Below.refl _ _⟩
  case round =>
    obtain ⟨k, po, mo, mn, mc, its, l, hk, rfl, rfl, rfl, T0', I0, HM, HPL, B0⟩ := hrel
    by_cases hlt : k < n0
    · have hki : (k : Int) < (n0 : Int) := by omega
      have hkl : k < ops.length := by omega
      obtain ⟨b, off, rfl, hc⟩ := h0.at (by omega)
      obtain ⟨x0, x1, x2⟩ := hc k hkl
      have hq := h0.sl _ (List.getElem_mem hkl)
      obtain ⟨q, hqe⟩ : ∃ q, q = ops[k] := ⟨_, rfl⟩
      rw [← hqe] at x0 x1 x2 hq
      unfold Part.val at x1 x2
      have z0 := (B0.cell (World.block_lt_of_cell? _ _ x0)).trans x0
      have z1 := (B0.cell (World.block_lt_of_cell? _ _ x1)).trans x1
      have z2 := (B0.cell (World.block_lt_of_cell? _ _ x2)).trans x2
      clear hc hqe x0 x1 x2
      obtain ⟨W1, hW1⟩ : ∃ V, V = wr.alloc (.cells #[.int .i64 q.kd, .slice q.k.ao q.k.n q.k.cap, .slice q.v.ao q.v.n q.v.cap] 28) := ⟨_, rfl⟩
      have C1 : Below wr.heap.size wr W1 := by rw [hW1]; exact (Below.refl _ _).alloc (Nat.le_refl _) _
      have P1 : Arr W1 wr.heap.size 28 [.int .i64 q.kd, .slice q.k.ao q.k.n q.k.cap, .slice q.v.ao q.v.n q.v.cap] := by rw [hW1]; exact heap_alloc_new wr _
      have BW := B0.trans (C1.mono B0.size)
      have sk := hq.1.below BW
      have sv := hq.2.below BW
      have T0 : Hid (TT W1 (.pointer po) l) := T0'.below C1
      have I1 := I0.below C1
      have p0 : W1.cell? ⟨wr.heap.size, 0, none⟩ = some (.int .i64 q.kd) := P1.cell 0
      have p1 : W1.cell? ⟨wr.heap.size, 1, none⟩ = some (.slice q.k.ao q.k.n q.k.cap) := P1.cell 1
      have p2 : W1.cell? ⟨wr.heap.size, 2, none⟩ = some (.slice q.v.ao q.v.n q.v.cap) := P1.cell 2
      have HMN : Hid (mn = l.length) := by show _ = _; rw [← HM.out, List.length_map, I0.len]
      have AV := HAL.out W1 BW
      clear hq P1 T0' I0
      by_cases gk : q.k.n ≤ 300
      case neg =>
        have ik : (300 : Int) < (q.k.n : Int) := by omega
        go_wp2_with fail
        rw [← hW1]
        refine AV.mono ?_
        rintro e w2 ⟨rfl, B⟩
        go_wp2
        go_ret
        exact ⟨rfl, BW.trans (B.mono BW.size)⟩
      have ik : (q.k.n : Int) ≤ 300 := by omega
      by_cases gv : q.v.n ≤ 1100
      case neg =>
        have iv : (1100 : Int) < (q.v.n : Int) := by omega
        go_wp2_with fail
        rw [← hW1]
        refine AV.mono ?_
        rintro e w2 ⟨rfl, B⟩
        go_wp2
        go_ret
        exact ⟨rfl, BW.trans (B.mono BW.size)⟩
      have iv : (q.v.n : Int) ≤ 1100 := by omega
      clear AV
      by_cases k0 : q.kd = 0
      · have e0 : (q.kd == 0) = true := by simp [k0]
        clear k0
        have CP := tput_any W1 (.pointer po) l ⟨q.k.xs, q.v.xs⟩ q.k.ao q.v.ao q.k.n q.k.cap q.v.n q.v.cap (HT.out.below BW t2) T0.out HPL.out.srt sk sv (by omega) (by omega) (by have := HPL.out.len; omega) (askK q.k.n q.v.n) (jL_ask q.k q.v)
        obtain ⟨kd, hkd⟩ : ∃ kd, kd = askK q.k.n q.v.n := ⟨_, rfl⟩
        have HKD : Hid (kd = askK q.k.n q.v.n) := hkd
        have CA := fun (V : World) => asked7_any V q.k.ao q.v.ao q.k.n q.k.cap q.v.n q.v.cap
        rw [← hkd] at CP CA
        clear hkd
        go_wp2_with fail
        rw [← hW1]
        refine CP.mono ?_
        rintro e w3 ⟨u, rfl, PT, PN, C3⟩
        have B3 : Below W1.heap.size W1 w3 := C3
        have y1 := (B3.cell (World.block_lt_of_cell? _ _ p1)).trans p1
        have y2 := (B3.cell (World.block_lt_of_cell? _ _ p2)).trans p2
        clear CP C3
        have CA := CA w3
        go_wp2_with fail
        refine CA.mono ?_
        rintro e w4 ⟨rfl, hw4⟩
        obtain rfl := hw4.symm
        clear CA
        by_cases kz : kd = 0
        · have ez : (kd != 0) = false := by simp [kz]
          have T3 := PT kz
          have hko := ask_ok (HKD.out.symm.trans kz)
          have HP2 : Hid (PlL (ins l ⟨q.k.xs, q.v.xs⟩) (k + 1)) := HPL.out.ins (by show q.k.xs.length ≤ 256; rw [sk.len]; exact hko.1) (by show q.v.xs.length ≤ 1024; rw [sv.len]; exact hko.2)
          have CR := rput7_any w3 mo q.k.ao q.v.ao mn mc q.k.n q.k.cap q.v.n q.v.cap its q.k.xs q.v.xs (I1.below B3) (by rw [HM.out]; exact HPL.out.srt) (sk.below B3) (sv.below B3) (by have := HMN.out; have := HPL.out.len; omega)
          clear kz PT PN hko
          go_wp2_with fail
          refine CR.mono ?_
          rintro e w5 ⟨mo2, mn2, mc2, its2, rfl, I5, hm5, C5⟩
          have HM2 : Hid (its2.map IP.it = ins l ⟨q.k.xs, q.v.xs⟩) := by show _ = _; rw [hm5, HM.out]
          have B1 := B3.trans (C5.mono B3.size)
          have T1 := T3.below C5
          have I1 := I5
          clear CR hm5 C5 I5 T3 B3 y1 y2
          obtain ⟨l2, hl2⟩ : ∃ l2, l2 = ins l ⟨q.k.xs, q.v.xs⟩ := ⟨_, rfl⟩
          rw [← hl2] at HM2 HP2 T1
          clear hl2
          have CF := rfind7_any w5 mo2 mn2 mc2 its2 q.k.ao q.k.n q.k.cap q.k.xs I1 (sk.below B1)
          have y1 := (B1.cell (World.block_lt_of_cell? _ _ p1)).trans p1
          go_wp2_with fail
          refine CF.mono ?_
          rintro e w8 ⟨r, rfl, FP, C8⟩
          have B8 := B1.trans (C8.mono B1.size)
          have T8 := T1.below C8
          have I8 := I1.below C8
          have y1 := (B8.cell (World.block_lt_of_cell? _ _ p1)).trans p1
          clear CF C8 B1 T1 I1
          have CG := tget_any w8 (.pointer u) l2 q.k.xs q.k.ao q.k.n q.k.cap T8 HP2.out.srt (sk.below B8) (by have := HP2.out.len; omega) (fun x hx => by have := HP2.out.val x hx; omega)
          go_wp2_with fail
          refine CG.mono ?_
          rintro e w9 ⟨qo, qn, qc, gb, rfl, GT, GF, C9⟩
          have B9 := B8.trans (C9.mono B8.size)
          have T9 := T8.below C9
          have I9 := I8.below C9
          clear CG C9 B8 T8 I8
          have y1 := (B9.cell (World.block_lt_of_cell? _ _ p1)).trans p1
          have HFP : Hid (FindPost its2 q.k.xs r) := FP
          have hln : mn2 = l2.length := by rw [← HM2.out, List.length_map, I9.len]
          have HLN : Hid (mn2 = l2.length) := hln
          have CN9 := fun (V : World) (hV : Below w9.heap.size w9 V) => len_any V (.pointer u) l2 (T9.below hV) HP2.out.srt (by have := HP2.out.len; omega)
          have CO9 := fun (V : World) (hV : Below w9.heap.size w9 V) => len_any V (.pointer po) l (T0.out.below (B9.trans (hV.mono B9.size))) HPL.out.srt (by have := HPL.out.len; omega)
          clear FP hln
          cases gb with
          | true =>
            obtain ⟨x, hx, hxk, Sx⟩ := GT rfl
            obtain ⟨j, hj, rfl, hjk, -⟩ : ∃ (k : Nat) (h : k < its2.length), r = k ∧ its2[k].k.xs = q.k.xs ∧ ∀ q' ∈ its2.take k, q'.k.xs ≠ q.k.xs := by
              rcases HFP.out with ⟨-, hno⟩ | h
              · rw [← HM2.out] at hx
                obtain ⟨y, hy, rfl⟩ := List.mem_map.1 hx
                exact absurd hxk (hno y hy)
              · exact h
            have hjn : j < mn2 := by have := I9.len; omega
            have hji : (j : Int) < (mn2 : Int) := by omega
            obtain ⟨mb, mf, hmo, hmc⟩ := I9.at (by omega)
            obtain ⟨-, cv⟩ := hmc j hj
            have Sv := (I9.sl _ (List.getElem_mem hj)).2
            have hxv : x.v = its2[j].v.xs := by
              have h2 : its2[j].it ∈ l2 := by rw [← HM2.out]; exact List.mem_map.2 ⟨_, List.getElem_mem hj, rfl⟩
              have h3 := HP2.out.srt.inj hx h2 (by rw [hxk]; exact hjk.symm)
              rw [h3]
              rfl
            rw [hxv] at Sx
            obtain ⟨qv, hqv⟩ : ∃ z, z = its2[j].v := ⟨_, rfl⟩
            rw [← hqv] at cv Sv Sx
            unfold Part.val at cv
            have CE := same_true w9 qo qv.ao qn qc qv.n qv.cap qv.xs Sx Sv
            have hjg : (0 : Int) ≤ (j : Int) := by omega
            have HT9 : Hid (TT w9 (.pointer u) l2) := T9
            have HI9 : Hid (IL w9 mo2 mn2 mc2 its2) := I9
            clear GT GF hx hxk hxv hqv Sx Sv hmc I9 hjk HFP T9
            subst hmo
            go_wp2_with fail
            refine CE.mono ?_
            rintro e wa ⟨rfl, Ca⟩
            have CN := CN9 wa Ca
            have Ba := B9.trans (Ca.mono B9.size)
            clear CE
            go_wp2_with fail
            refine CN.mono ?_
            rintro e wb ⟨rfl, Cb⟩
            have Cab := Ca.trans (Cb.mono Ca.size)
            have CO := CO9 wb Cab
            have Bb := B9.trans (Cab.mono B9.size)
            have hle1 : (mn2 : Int) = (l2.length : Int) := by have := HLN.out; omega
            have hne1 : (((l2.length : Nat) : Int) != (mn2 : Int)) = false := by simp; omega
            clear CN CN9 CO9 hle1
            go_wp2_with fail
            refine CO.mono ?_
            rintro e wc ⟨rfl, Cc⟩
            have Bc := Bb.trans (Cc.mono Bb.size)
            have hne2 : (((l.length : Nat) : Int) != (mn : Int)) = false := by have := HMN.out; simp; omega
            have HCab : Hid (Below w9.heap.size w9 wc) := Cab.trans (Cc.mono Cab.size)
            clear CO Cab Cc Ca Cb
            go_wp2
            go_roundw
            case rel => exact ⟨k + 1, u, _, mn2, mc2, its2, l2, by omega, by go_num, rfl, rfl, HT9.out.below HCab.out, HI9.out.below HCab.out, HM2, HP2, BW.trans (Bc.mono BW.size)⟩
            case measure => simp [intOf]; omega
          | false =>
            obtain ⟨hno, rfl, -⟩ := GF rfl
            obtain rfl : r = -1 := by
              rcases HFP.out with ⟨h, -⟩ | ⟨j, hj, -, hjk, -⟩
              · exact h
              · exact absurd ⟨its2[j].it, by rw [← HM2.out]; exact List.mem_map.2 ⟨_, List.getElem_mem hj, rfl⟩, hjk⟩ hno
            have HT9 : Hid (TT w9 (.pointer u) l2) := T9
            have HI9 : Hid (IL w9 mo2 mn2 mc2 its2) := I9
            have CN := CN9 w9 (Below.refl _ _)
            clear GT GF hno I9 HFP T9 CN9
            go_wp2_with fail
            refine CN.mono ?_
            rintro e wb ⟨rfl, Cb⟩
            have CO := CO9 wb Cb
            have Bb := B9.trans (Cb.mono B9.size)
            have hne1 : (((l2.length : Nat) : Int) != (mn2 : Int)) = false := by have := HLN.out; simp; omega
            clear CN CO9
            go_wp2_with fail
            refine CO.mono ?_
            rintro e wc ⟨rfl, Cc⟩
            have Bc := Bb.trans (Cc.mono Bb.size)
            have hne2 : (((l.length : Nat) : Int) != (mn : Int)) = false := by have := HMN.out; simp; omega
            have HCab : Hid (Below w9.heap.size w9 wc) := Cb.trans (Cc.mono Cb.size)
            clear CO Cb Cc
            go_wp2
            go_roundw
            case rel => exact ⟨k + 1, u, _, mn2, mc2, its2, l2, by omega, by go_num, rfl, rfl, HT9.out.below HCab.out, HI9.out.below HCab.out, HM2, HP2, BW.trans (Bc.mono BW.size)⟩
            case measure => simp [intOf]; omega
        · have ez : (kd != 0) = true := by simp [kz]
          obtain rfl := PN kz
          clear kz PT PN
          go_wp2
          go_roundw
          case rel => exact ⟨k + 1, po, mo, mn, mc, its, l, by omega, by go_num, rfl, rfl, T0.out.below B3, I1.below B3, HM, HPL.out.mono (by omega), BW.trans (B3.mono BW.size)⟩
          case measure => simp [intOf]; omega
      · have e0 : (q.kd == 0) = false := by simp [k0]
        clear k0
        by_cases k1 : q.kd = 1
        · have e1 : (q.kd == 1) = true := by simp [k1]
          clear k1
          have CP := tdel_any W1 (.pointer po) l q.k.xs q.k.ao q.k.n q.k.cap T0.out HPL.out.srt sk (by have := HPL.out.len; omega)
          go_wp2_with fail
          rw [← hW1]
          refine CP.mono ?_
          rintro e w3 ⟨u, db, rfl, DT, DF, B3⟩
          have y1 := (B3.cell (World.block_lt_of_cell? _ _ p1)).trans p1
          clear CP
          have CR := rdel7_any w3 mo mn mc its q.k.ao q.k.n q.k.cap q.k.xs (I1.below B3) (sk.below B3) (by have := HMN.out; have := HPL.out.len; omega)
          go_wp2_with fail
          refine CR.mono ?_
          rintro e w5 ⟨mo2, mn2, mc2, its2, dt, rfl, I5, RF, RT, C5⟩
          have B1 := B3.trans (C5.mono B3.size)
          have HD : Hid (∃ l2, TT w5 (.pointer u) l2 ∧ its2.map IP.it = l2 ∧ PlL l2 (k + 1) ∧ db = dt) := by
            cases db with
            | true =>
              obtain ⟨hh, T3⟩ := DT rfl
              cases dt with
              | false =>
                obtain ⟨-, hno⟩ := RF rfl
                obtain ⟨x, hx, hxk⟩ := hh
                rw [← HM.out] at hx
                obtain ⟨y, hy, rfl⟩ := List.mem_map.1 hx
                exact absurd hxk (hno y hy)
              | true =>
                obtain ⟨j, hj, hjk, rfl⟩ := RT rfl
                refine ⟨del l q.k.xs, T3.below C5, ?_, (HPL.out.del _).mono (by omega), rfl⟩
                have hsp := HPL.out.srt.split (x := its[j].it) (a := (its.take j).map IP.it) (b := (its.drop (j + 1)).map IP.it) (by
                  rw [← HM.out, ← List.map_cons, ← List.map_append, List.getElem_cons_drop, List.take_append_drop])
                unfold del
                rw [← hjk, List.map_append]
                exact (congr (congrArg HAppend.hAppend hsp.1.symm) hsp.2.symm)
            | false =>
              obtain ⟨hno, hu⟩ := DF rfl
              cases dt with
              | false =>
                obtain ⟨rfl, -⟩ := RF rfl
                exact ⟨l, by rw [← hu]; exact T0.out.below B1, HM.out, HPL.out.mono (by omega), rfl⟩
              | true =>
                obtain ⟨j, hj, hjk, rfl⟩ := RT rfl
                exact absurd ⟨its[j].it, by rw [← HM.out]; exact List.mem_map.2 ⟨_, List.getElem_mem hj, rfl⟩, hjk⟩ hno
          obtain ⟨l2, T1, hm2, hp2, rfl⟩ := HD.out
          have HM2 : Hid (its2.map IP.it = l2) := hm2
          have HP2 : Hid (PlL l2 (k + 1)) := hp2
          have I1 := I5
          have hdb : (db != db) = false := by cases db <;> rfl
          clear CR DT DF RF RT HD hm2 hp2 I5 y1 C5
          have CF := rfind7_any w5 mo2 mn2 mc2 its2 q.k.ao q.k.n q.k.cap q.k.xs I1 (sk.below B1)
          have y1 := (B1.cell (World.block_lt_of_cell? _ _ p1)).trans p1
          go_wp2_with fail
          refine CF.mono ?_
          rintro e w8 ⟨r, rfl, FP, C8⟩
          have B8 := B1.trans (C8.mono B1.size)
          have T8 := T1.below C8
          have I8 := I1.below C8
          have y1 := (B8.cell (World.block_lt_of_cell? _ _ p1)).trans p1
          clear CF C8 B1 T1 I1
          have CG := tget_any w8 (.pointer u) l2 q.k.xs q.k.ao q.k.n q.k.cap T8 HP2.out.srt (sk.below B8) (by have := HP2.out.len; omega) (fun x hx => by have := HP2.out.val x hx; omega)
          go_wp2_with fail
          refine CG.mono ?_
          rintro e w9 ⟨qo, qn, qc, gb, rfl, GT, GF, C9⟩
          have B9 := B8.trans (C9.mono B8.size)
          have T9 := T8.below C9
          have I9 := I8.below C9
          clear CG C9 B8 T8 I8
          have y1 := (B9.cell (World.block_lt_of_cell? _ _ p1)).trans p1
          have HFP : Hid (FindPost its2 q.k.xs r) := FP
          have hln : mn2 = l2.length := by rw [← HM2.out, List.length_map, I9.len]
          have HLN : Hid (mn2 = l2.length) := hln
          have CN9 := fun (V : World) (hV : Below w9.heap.size w9 V) => len_any V (.pointer u) l2 (T9.below hV) HP2.out.srt (by have := HP2.out.len; omega)
          have CO9 := fun (V : World) (hV : Below w9.heap.size w9 V) => len_any V (.pointer po) l (T0.out.below (B9.trans (hV.mono B9.size))) HPL.out.srt (by have := HPL.out.len; omega)
          clear FP hln
          cases gb with
          | true =>
            obtain ⟨x, hx, hxk, Sx⟩ := GT rfl
            obtain ⟨j, hj, rfl, hjk, -⟩ : ∃ (k : Nat) (h : k < its2.length), r = k ∧ its2[k].k.xs = q.k.xs ∧ ∀ q' ∈ its2.take k, q'.k.xs ≠ q.k.xs := by
              rcases HFP.out with ⟨-, hno⟩ | h
              · rw [← HM2.out] at hx
                obtain ⟨y, hy, rfl⟩ := List.mem_map.1 hx
                exact absurd hxk (hno y hy)
              · exact h
            have hjn : j < mn2 := by have := I9.len; omega
            have hji : (j : Int) < (mn2 : Int) := by omega
            obtain ⟨mb, mf, hmo, hmc⟩ := I9.at (by omega)
            obtain ⟨-, cv⟩ := hmc j hj
            have Sv := (I9.sl _ (List.getElem_mem hj)).2
            have hxv : x.v = its2[j].v.xs := by
              have h2 : its2[j].it ∈ l2 := by rw [← HM2.out]; exact List.mem_map.2 ⟨_, List.getElem_mem hj, rfl⟩
              have h3 := HP2.out.srt.inj hx h2 (by rw [hxk]; exact hjk.symm)
              rw [h3]
              rfl
            rw [hxv] at Sx
            obtain ⟨qv, hqv⟩ : ∃ z, z = its2[j].v := ⟨_, rfl⟩
            rw [← hqv] at cv Sv Sx
            unfold Part.val at cv
            have CE := same_true w9 qo qv.ao qn qc qv.n qv.cap qv.xs Sx Sv
            have hjg : (0 : Int) ≤ (j : Int) := by omega
            have HT9 : Hid (TT w9 (.pointer u) l2) := T9
            have HI9 : Hid (IL w9 mo2 mn2 mc2 its2) := I9
            clear GT GF hx hxk hxv hqv Sx Sv hmc I9 hjk HFP T9
            subst hmo
            go_wp2_with fail
            refine CE.mono ?_
            rintro e wa ⟨rfl, Ca⟩
            have CN := CN9 wa Ca
            have Ba := B9.trans (Ca.mono B9.size)
            clear CE
            go_wp2_with fail
            refine CN.mono ?_
            rintro e wb ⟨rfl, Cb⟩
            have Cab := Ca.trans (Cb.mono Ca.size)
            have CO := CO9 wb Cab
            have Bb := B9.trans (Cab.mono B9.size)
            have hle1 : (mn2 : Int) = (l2.length : Int) := by have := HLN.out; omega
            have hne1 : (((l2.length : Nat) : Int) != (mn2 : Int)) = false := by simp; omega
            clear CN CN9 CO9 hle1
            go_wp2_with fail
            refine CO.mono ?_
            rintro e wc ⟨rfl, Cc⟩
            have Bc := Bb.trans (Cc.mono Bb.size)
            have hne2 : (((l.length : Nat) : Int) != (mn : Int)) = false := by have := HMN.out; simp; omega
            have HCab : Hid (Below w9.heap.size w9 wc) := Cab.trans (Cc.mono Cab.size)
            clear CO Cab Cc Ca Cb
            go_wp2
            go_roundw
            case rel => exact ⟨k + 1, u, _, mn2, mc2, its2, l2, by omega, by go_num, rfl, rfl, HT9.out.below HCab.out, HI9.out.below HCab.out, HM2, HP2, BW.trans (Bc.mono BW.size)⟩
            case measure => simp [intOf]; omega
          | false =>
            obtain ⟨hno, rfl, -⟩ := GF rfl
            obtain rfl : r = -1 := by
              rcases HFP.out with ⟨h, -⟩ | ⟨j, hj, -, hjk, -⟩
              · exact h
              · exact absurd ⟨its2[j].it, by rw [← HM2.out]; exact List.mem_map.2 ⟨_, List.getElem_mem hj, rfl⟩, hjk⟩ hno
            have HT9 : Hid (TT w9 (.pointer u) l2) := T9
            have HI9 : Hid (IL w9 mo2 mn2 mc2 its2) := I9
            have CN := CN9 w9 (Below.refl _ _)
            clear GT GF hno I9 HFP T9 CN9
            go_wp2_with fail
            refine CN.mono ?_
            rintro e wb ⟨rfl, Cb⟩
            have CO := CO9 wb Cb
            have Bb := B9.trans (Cb.mono B9.size)
            have hne1 : (((l2.length : Nat) : Int) != (mn2 : Int)) = false := by have := HLN.out; simp; omega
            clear CN CO9
            go_wp2_with fail
            refine CO.mono ?_
            rintro e wc ⟨rfl, Cc⟩
            have Bc := Bb.trans (Cc.mono Bb.size)
            have hne2 : (((l.length : Nat) : Int) != (mn : Int)) = false := by have := HMN.out; simp; omega
            have HCab : Hid (Below w9.heap.size w9 wc) := Cb.trans (Cc.mono Cb.size)
            clear CO Cb Cc
            go_wp2
            go_roundw
            case rel => exact ⟨k + 1, u, _, mn2, mc2, its2, l2, by omega, by go_num, rfl, rfl, HT9.out.below HCab.out, HI9.out.below HCab.out, HM2, HP2, BW.trans (Bc.mono BW.size)⟩
            case measure => simp [intOf]; omega
        · have e1 : (q.kd == 1) = false := by simp [k1]
          clear k1
          have T1 := T0.out
          have B1 : Below W1.heap.size W1 W1 := Below.refl _ _
          have HP2 : Hid (PlL l (k + 1)) := HPL.out.mono (by omega)
          have CF := rfind7_any W1 mo mn mc its q.k.ao q.k.n q.k.cap q.k.xs I1 (sk.below B1)
          have y1 := (B1.cell (World.block_lt_of_cell? _ _ p1)).trans p1
          go_wp2_with fail
          rw [← hW1]
          refine CF.mono ?_
          rintro e w8 ⟨r, rfl, FP, C8⟩
          have B8 := B1.trans (C8.mono B1.size)
          have T8 := T1.below C8
          have I8 := I1.below C8
          have y1 := (B8.cell (World.block_lt_of_cell? _ _ p1)).trans p1
          clear CF C8 B1 T1 I1
          have CG := tget_any w8 (.pointer po) l q.k.xs q.k.ao q.k.n q.k.cap T8 HPL.out.srt (sk.below B8) (by have := HPL.out.len; omega) (fun x hx => by have := HPL.out.val x hx; omega)
          go_wp2_with fail
          refine CG.mono ?_
          rintro e w9 ⟨qo, qn, qc, gb, rfl, GT, GF, C9⟩
          have B9 := B8.trans (C9.mono B8.size)
          have T9 := T8.below C9
          have I9 := I8.below C9
          clear CG C9 B8 T8 I8
          have y1 := (B9.cell (World.block_lt_of_cell? _ _ p1)).trans p1
          have HFP : Hid (FindPost its q.k.xs r) := FP
          have hln : mn = l.length := by rw [← HM.out, List.length_map, I9.len]
          have HLN : Hid (mn = l.length) := hln
          have CN9 := fun (V : World) (hV : Below w9.heap.size w9 V) => len_any V (.pointer po) l (T9.below hV) HPL.out.srt (by have := HPL.out.len; omega)
          have CO9 := fun (V : World) (hV : Below w9.heap.size w9 V) => len_any V (.pointer po) l (T0.out.below (B9.trans (hV.mono B9.size))) HPL.out.srt (by have := HPL.out.len; omega)
          clear FP hln
          cases gb with
          | true =>
            obtain ⟨x, hx, hxk, Sx⟩ := GT rfl
            obtain ⟨j, hj, rfl, hjk, -⟩ : ∃ (k : Nat) (h : k < its.length), r = k ∧ its[k].k.xs = q.k.xs ∧ ∀ q' ∈ its.take k, q'.k.xs ≠ q.k.xs := by
              rcases HFP.out with ⟨-, hno⟩ | h
              · rw [← HM.out] at hx
                obtain ⟨y, hy, rfl⟩ := List.mem_map.1 hx
                exact absurd hxk (hno y hy)
              · exact h
            have hjn : j < mn := by have := I9.len; omega
            have hji : (j : Int) < (mn : Int) := by omega
            obtain ⟨mb, mf, hmo, hmc⟩ := I9.at (by omega)
            obtain ⟨-, cv⟩ := hmc j hj
            have Sv := (I9.sl _ (List.getElem_mem hj)).2
            have hxv : x.v = its[j].v.xs := by
              have h2 : its[j].it ∈ l := by rw [← HM.out]; exact List.mem_map.2 ⟨_, List.getElem_mem hj, rfl⟩
              have h3 := HPL.out.srt.inj hx h2 (by rw [hxk]; exact hjk.symm)
              rw [h3]
              rfl
            rw [hxv] at Sx
            obtain ⟨qv, hqv⟩ : ∃ z, z = its[j].v := ⟨_, rfl⟩
            rw [← hqv] at cv Sv Sx
            unfold Part.val at cv
            have CE := same_true w9 qo qv.ao qn qc qv.n qv.cap qv.xs Sx Sv
            have hjg : (0 : Int) ≤ (j : Int) := by omega
            have HT9 : Hid (TT w9 (.pointer po) l) := T9
            have HI9 : Hid (IL w9 mo mn mc its) := I9
            clear GT GF hx hxk hxv hqv Sx Sv hmc I9 hjk HFP T9
            subst hmo
            go_wp2_with fail
            refine CE.mono ?_
            rintro e wa ⟨rfl, Ca⟩
            have CN := CN9 wa Ca
            have Ba := B9.trans (Ca.mono B9.size)
            clear CE
            go_wp2_with fail
            refine CN.mono ?_
            rintro e wb ⟨rfl, Cb⟩
            have Cab := Ca.trans (Cb.mono Ca.size)
            have CO := CO9 wb Cab
            have Bb := B9.trans (Cab.mono B9.size)
            have hle1 : (mn : Int) = (l.length : Int) := by have := HLN.out; omega
            have hne1 : (((l.length : Nat) : Int) != (mn : Int)) = false := by simp; omega
            clear CN CN9 CO9 hle1
            go_wp2_with fail
            refine CO.mono ?_
            rintro e wc ⟨rfl, Cc⟩
            have Bc := Bb.trans (Cc.mono Bb.size)
            have hne2 : (((l.length : Nat) : Int) != (mn : Int)) = false := by have := HMN.out; simp; omega
            have HCab : Hid (Below w9.heap.size w9 wc) := Cab.trans (Cc.mono Cab.size)
            clear CO Cab Cc Ca Cb
            go_wp2
            go_roundw
            case rel => exact ⟨k + 1, po, _, mn, mc, its, l, by omega, by go_num, rfl, rfl, HT9.out.below HCab.out, HI9.out.below HCab.out, HM, HP2, BW.trans (Bc.mono BW.size)⟩
            case measure => simp [intOf]; omega
          | false =>
            obtain ⟨hno, rfl, -⟩ := GF rfl
            obtain rfl : r = -1 := by
              rcases HFP.out with ⟨h, -⟩ | ⟨j, hj, -, hjk, -⟩
              · exact h
              · exact absurd ⟨its[j].it, by rw [← HM.out]; exact List.mem_map.2 ⟨_, List.getElem_mem hj, rfl⟩, hjk⟩ hno
            have HT9 : Hid (TT w9 (.pointer po) l) := T9
            have HI9 : Hid (IL w9 mo mn mc its) := I9
            have CN := CN9 w9 (Below.refl _ _)
            clear GT GF hno I9 HFP T9 CN9
            go_wp2_with fail
            refine CN.mono ?_
            rintro e wb ⟨rfl, Cb⟩
            have CO := CO9 wb Cb
            have Bb := B9.trans (Cb.mono B9.size)
            have hne1 : (((l.length : Nat) : Int) != (mn : Int)) = false := by have := HLN.out; simp; omega
            clear CN CO9
            go_wp2_with fail
            refine CO.mono ?_
            rintro e wc ⟨rfl, Cc⟩
            have Bc := Bb.trans (Cc.mono Bb.size)
            have hne2 : (((l.length : Nat) : Int) != (mn : Int)) = false := by have := HMN.out; simp; omega
            have HCab : Hid (Below w9.heap.size w9 wc) := Cb.trans (Cc.mono Cb.size)
            clear CO Cb Cc
            go_wp2
            go_roundw
            case rel => exact ⟨k + 1, po, _, mn, mc, its, l, by omega, by go_num, rfl, rfl, HT9.out.below HCab.out, HI9.out.below HCab.out, HM, HP2, BW.trans (Bc.mono BW.size)⟩
            case measure => simp [intOf]; omega
    · have hge : ¬ (k : Int) < (n0 : Int) := by omega
      have hlen := HPL.out.len
      have HMN : Hid (mn = l.length) := by show _ = _; rw [← HM.out, List.length_map, I0.len]
      have CI := titems_any wr (.pointer po) l lo hi a1 a2 n1 c1 n2 c2 most T0' HPL.out.srt (h1.below B0) (h2.below B0) (by omega) (fun x hx => ⟨by have := HPL.out.key x hx; omega, by have := HPL.out.val x hx; omega⟩)
      go_wp2_with fail
      refine CI.mono ?_
      rintro e w1 ⟨xo, xn, xc, xs, xt, rfl, IX, hxm, hxt, C1⟩
      have HXM : Hid (xs.map IP.it = (btw lo hi l).take most.toNat) := hxm
      have HXT : Hid (xt = decide (most.toNat < (btw lo hi l).length)) := hxt
      clear hxm hxt
      have B1 := B0.trans (C1.mono B0.size)
      have I1 := I0.below C1
      have T1 := T0'.below C1
      clear CI C1 I0 T0'
      have CR := ritems7_any w1 mo a1 a2 mn mc n1 c1 n2 c2 its lo hi most I1 (h1.below B1) (h2.below B1) (by have := HMN.out; omega)
      go_wp2_with fail
      refine CR.mono ?_
      rintro e w2 ⟨yo, yn, yc, ys, yt, rfl, IY, hym, hyt, C2⟩
      have B2 := B1.trans (C2.mono B1.size)
      have I2 := I1.below C2
      have T2 := T1.below C2
      have IX := IX.below C2
      rw [HM.out] at hym hyt
      have HSM : Hid (smI xs ys = true) := by
        show decide (xs.map itP = ys.map itP) = true
        have e0 : ∀ zs : List IP, zs.map itP = (zs.map IP.it).map fun x => (x.k, x.v) := fun zs => by rw [List.map_map]; rfl
        exact decide_eq_true (by rw [e0, e0, HXM.out, hym])
      obtain rfl : xt = yt := by rw [HXT.out, hyt]
      clear CR C2 I1 T1 HXM hym HXT hyt
      have CS := rshape_fuel w2 mn w2 mo mn mc its I2 (fun q hq => ⟨I2.sl q hq, by
        have h3 : q.it ∈ l := by rw [← HM.out]; exact List.mem_map.2 ⟨_, hq, rfl⟩
        have h4 := HPL.out.key _ h3
        have h5 : q.k.xs.length = q.k.n := (I2.sl q hq).1.len
        have h6 : q.it.k.length = q.k.n := h5
        omega⟩) (Below.refl _ _) (by have := HMN.out; omega) (Nat.le_refl _)
      rw [HM.out] at CS
      go_wp2_with fail
      refine CS.mono ?_
      rintro e w3 ⟨sp, rfl, OS, C3⟩
      have B3 := B2.trans (C3.mono B2.size)
      have TS := OS.now
      have T3 := T2.below C3
      have CE := rsame7_any w3 xo yo xn xc yn yc xs ys (IX.below C3) (IY.below C3)
      rw [HSM.out] at CE
      clear CS OS C3 I2 T2 IX IY HSM
      go_wp2_with fail
      refine CE.mono ?_
      rintro e w4 ⟨rfl, C4⟩
      have B4 := B3.trans (C4.mono B3.size)
      have TS := TS.below C4
      have T4 := T3.below C4
      have hxx : (xt == xt) = true := by simp
      clear CE C4 T3
      have CT := top_any w4 (.pointer po) l T4 (by omega) (fun x hx => ⟨by have := HPL.out.key x hx; omega, by have := HPL.out.val x hx; omega⟩)
      go_wp2_with fail
      refine CT.mono ?_
      rintro e w5 ⟨tp, rfl, OT, C5⟩
      have B5 := B4.trans (C5.mono B4.size)
      have TS := TS.below C5
      have T5 := T4.below C5
      have TP := OT.now
      clear CT OT C5 T4
      have CB := back_fuel w5 l.length w5 (.pointer tp) l 100 TP (Below.refl _ _) ⟨by omega, fun x _ => by have := lev_le x.k; omega⟩ (by omega) (Nat.le_refl _)
      rw [show ((100 : Nat) : Int) = 100 from rfl] at CB
      go_wp2_with fail
      refine CB.mono ?_
      rintro e w6 ⟨bp, rfl, OB, C6⟩
      have B6 := B5.trans (C6.mono B5.size)
      have TS := TS.below C6
      have T6 := T5.below C6
      have CQ := requal_fuel l.length w6 (.pointer bp) (.pointer sp) l OB.now TS (by omega) (Nat.le_refl _)
      clear CB OB C6 T5 TP
      go_wp2_with fail
      refine CQ.mono ?_
      rintro e w7 ⟨rfl, C7⟩
      have B7 := B6.trans (C7.mono B6.size)
      have TS := TS.below C7
      have T7 := T6.below C7
      clear CQ C7 T6
      have CH := root_any w7 (.pointer po) l T7 (HT.out.below B7 t2) ⟨by omega, fun x hx => ⟨by have := HPL.out.key x hx; omega, by have := HPL.out.val x hx; omega⟩⟩
      go_wp2_with fail
      refine CH.mono ?_
      rintro e w8 ⟨ro, rc, rfl, R8, C8⟩
      have B8 := B7.trans (C8.mono B7.size)
      have TS := TS.below C8
      clear CH C8 T7
      have CK := rhash_fuel l.length w8 (.pointer sp) l TS ⟨by omega, fun x hx => ⟨HPL.out.key x hx, by have := HPL.out.val x hx; omega⟩⟩ (Nat.le_refl _)
      go_wp2_with fail
      refine CK.mono ?_
      rintro e w9 ⟨so, sc, rfl, S9, C9⟩
      have B9 := B8.trans (C9.mono B8.size)
      have CM := same_true w9 ro so 32 rc 32 sc (hashI l) (R8.1.below C9) S9.1
      clear CK C9 TS R8 S9
      go_wp2_with fail
      refine CM.mono ?_
      rintro e wa ⟨rfl, Ca⟩
      have Ba := B9.trans (Ca.mono B9.size)
      have AV := HAL.out wa Ba
      clear CM Ca
      go_wp2_with fail
      refine AV.mono ?_
      rintro e wb ⟨rfl, Cb⟩
      go_wp2
      go_ret
      exact ⟨rfl, Ba.trans (Cb.mono Ba.size)⟩
end Go.Proofs.YtnicnfjickknjaaDoor

/-
  TabletAsks.
-/
import Derived.Test.YthlpccajnmkbjaaGreatDoorY53
import Derived.Test.YthlpccajnmkbjaaGreatDoorTabletAsksZ0
import Derived.Test.YthlpccajnmkbjaaGreatDoorY49
import Derived.Test.YthlpccajnmkbjaaGreatDoorY47
namespace Go.Proofs.YthlpccajnmkbjaaGreatDoor
open Go.RowKit

theorem keepM_bad {cs : List CV} {x : List CV × RV} (h : x.2.e ≠ 0) : keepM cs x = cs := if_neg h
theorem mApply_quiet {f t : ByteArray} {cs : List CV} {o : OA} {l : List OA} (h : (mApply f t cs o l).2.e ≠ 0 ∨ o.kind = 7 ∨ o.kind = 8) : (mApply f t cs o l).1 = cs := by
  unfold mApply at h ⊢
  split
  · rfl
  rename_i h1
  rw [if_neg h1] at h
  split
  · rfl
  rename_i h2
  rw [if_neg h2] at h
  rcases h with h | h
  · exact keepM_bad h
  · show keepM cs (mDo cs o l) = cs
    have : (mDo cs o l).1 = cs := by
      unfold mDo mStep
      rw [if_neg (show ¬ o.kind = 6 by omega), if_neg (show ¬ o.kind = 1 by omega), if_neg (show ¬ o.kind = 2 by omega), if_neg (show ¬ o.kind = 3 by omega), if_neg (show ¬ o.kind = 4 by omega), if_neg (show ¬ o.kind = 5 by omega)]
      split <;> rfl
    unfold keepM
    split
    · exact this
    · rfl
theorem mStep_few (cs : List CV) (o : OA) : (mStep cs o).2.cells.length ≤ 16 := by
  unfold mStep
  by_cases k1 : o.kind = 1
  · rw [if_pos k1]; exact Nat.zero_le _
  rw [if_neg k1]
  by_cases k2 : o.kind = 2
  · rw [if_pos k2]; exact Nat.zero_le _
  rw [if_neg k2]
  by_cases k3 : o.kind = 3
  · rw [if_pos k3]; exact Nat.zero_le _
  rw [if_neg k3]
  by_cases k4 : o.kind = 4
  · rw [if_pos k4]; exact Nat.zero_le _
  rw [if_neg k4]
  by_cases k5 : o.kind = 5
  · rw [if_pos k5]; exact Nat.zero_le _
  rw [if_neg k5]
  by_cases k7 : o.kind = 7
  · rw [if_pos k7]
    show (mGet cs o.key).cells.length ≤ 16
    unfold mGet
    split
    · exact Nat.zero_le _
    · split
      · exact Nat.zero_le _
      · show 1 ≤ 16; omega
  rw [if_neg k7]
  exact List.length_take_le 16 _
theorem mApply_few (f t : ByteArray) (cs : List CV) (o : OA) (l : List OA) : (mApply f t cs o l).2.cells.length ≤ 16 := by
  unfold mApply
  split
  · exact Nat.zero_le _
  split
  · exact Nat.zero_le _
  show (mDo cs o l).2.cells.length ≤ 16
  unfold mDo
  split
  · exact Nat.zero_le _
  · exact mStep_few cs o

set_option maxHeartbeats 16000000 in
set_option maxRecDepth 100000 in
theorem tabletAsks_any (W : World) (a0 : Option Addr) (n0 c0 : Nat) (l : List (OD 3)) (x : OD 3) (L0' : OWL W 3 a0 n0 c0 l) (sm0 : ∀ y ∈ l, OSm 3 y) (h : OW W 3 x) (sm : OSm 3 x) (hT : Tabs W) :
    Calls Tryz.prog 5 #[.slice a0 n0 c0, (topD 3 x).val] W fun e w' => e = .returned (.bool true) ∧ Below W.heap.size W w' := by
  obtain ⟨o, ho⟩ : ∃ o, o = topD 3 x := ⟨_, rfl⟩
  obtain ⟨W1, hW1⟩ : ∃ V, V = W.alloc (.cells #[.int .i64 o.kind, .string o.row, .string o.fam, .string o.qual, .int .u64 o.time, .string o.to, .slice o.va.ao o.va.n o.va.cap, .slice o.wa.ao o.wa.n o.wa.cap, .bool o.has, .slice o.so o.sn o.sc] 42) := ⟨_, rfl⟩
  have C1 : Below W.heap.size W W1 := by rw [hW1]; exact (Below.refl _ _).alloc (Nat.le_refl _) _
  have O1 : OC W1 W.heap.size o := by rw [hW1]; exact OC.new W o
  have AL := fun (V : World) (hV : Below W.heap.size W V) => alive10 V (hT.below hV hT.two)
  have HAL : Hid (∀ (V : World) (hV : Below W.heap.size W V), Calls Tryz.prog 10 #[] V fun e w' => e = .returned (.bool true) ∧ Below V.heap.size V w') := AL
  have HTb : Hid (Tabs W1) := hT.below C1 hT.two
  have t2 := HTb.out.two
  have L0 := L0'.below C1
  have h1 := h.below C1
  have s1 : W.heap.size < W1.heap.size := O1.lt
  obtain ⟨pl, hpl⟩ := h1.parts3
  have HPL : Hid (OWL W1 0 o.so o.sn o.sc pl) := by rw [ho]; exact hpl
  have HOK : Hid (o.ok W1) := by rw [ho]; exact h1.top
  have CLo := fun (V : World) (hV : Below W1.heap.size W1 V) => light_any 3 V x (h1.below hV) sm (by omega)
  rw [← ho, show (((3 : Nat) : Int) - 1) = 2 from rfl] at CLo
  unfold OA.val at CLo
  rw [← ho]
  have hl1 : @List.length (OD 3) l ≤ n0 := Nat.le_of_eq L0.len
  have hl2 : n0 ≤ @List.length (OD 3) l := Nat.le_of_eq L0.len.symm
  have CL := light10_any W1 a0 n0 c0 20 l L0 sm0 (by omega)
  rw [show ((20 : Nat) : Int) = 20 from rfl] at CL
  obtain ⟨b1, hb1⟩ : ∃ b, b = light10 l 20 := ⟨_, rfl⟩
  have HB1 : Hid (b1 = light10 l 20) := hb1
  rw [← hb1] at CL
  obtain ⟨b2, hb2⟩ : ∃ b, b = lightD 3 x := ⟨_, rfl⟩
  rw [← hb2] at CLo
  clear hb1 hb2 ho AL hT L0' h h1 hpl
  unfold OA.val
  go_enter Tryz.func5, Tryz.ntmps5
  go_wp2_with fail
  rw [← hW1]
  clear hW1
  refine CL.mono ?_
  rintro e w2 ⟨rfl, B2⟩
  clear CL
  cases b1 with
  | false =>
    have B2' := C1.trans (B2.mono C1.size)
    have AV := HAL.out w2 B2'
    go_wp2_with fail
    refine AV.mono ?_
    rintro e wz ⟨rfl, Cz⟩
    go_wp2
    go_ret
    exact ⟨rfl, (B2'.trans (Cz.mono B2'.size))⟩

  | true =>
    have O2 := O1.keep B2
    have o0 : w2.cell? ⟨W.heap.size, 0, none⟩ = some (.int .i64 o.kind) := O2.cs.c0
    have o1 : w2.cell? ⟨W.heap.size, 1, none⟩ = some (.string o.row) := O2.cs.c1
    have o2 : w2.cell? ⟨W.heap.size, 2, none⟩ = some (.string o.fam) := O2.cs.c2
    have o3 : w2.cell? ⟨W.heap.size, 3, none⟩ = some (.string o.qual) := O2.cs.c3
    have o4 : w2.cell? ⟨W.heap.size, 4, none⟩ = some (.int .u64 o.time) := O2.cs.c4
    have o5 : w2.cell? ⟨W.heap.size, 5, none⟩ = some (.string o.to) := O2.cs.c5
    have o6 : w2.cell? ⟨W.heap.size, 6, none⟩ = some (.slice o.va.ao o.va.n o.va.cap) := O2.cs.c6
    have o7 : w2.cell? ⟨W.heap.size, 7, none⟩ = some (.slice o.wa.ao o.wa.n o.wa.cap) := O2.cs.c7
    have o8 : w2.cell? ⟨W.heap.size, 8, none⟩ = some (.bool o.has) := O2.cs.c8
    have o9 : w2.cell? ⟨W.heap.size, 9, none⟩ = some (.slice o.so o.sn o.sc) := O2.cs.c9

    have CL := CLo w2 B2
    go_wp2_with fail
    refine CL.mono ?_
    rintro e w3 ⟨rfl, C3⟩
    have B3 := B2.trans (C3.mono B2.size)
    clear CL CLo
    clear o0 o1 o2 o3 o4 o5 o6 o7 o8 o9

    cases b2 with
    | false =>
      have B3' := C1.trans (B3.mono C1.size)
      have AV := HAL.out w3 B3'
      go_wp2_with fail
      refine AV.mono ?_
      rintro e wz ⟨rfl, Cz⟩
      go_wp2
      go_ret
      exact ⟨rfl, (B3'.trans (Cz.mono B3'.size))⟩

    | true =>
      have CN := tnew_any w3 ⟨#[]⟩ ⟨#[]⟩ (by decide) (by decide)
      go_wp2_with fail
      refine CN.mono ?_
      rintro e w4 (⟨-, rfl, X4, C4⟩ | ⟨h, -⟩)
      case inr => rw [newKA] at h; simp at h
      have B4 := B3.trans (C4.mono B3.size)
      have hn20 : n0 ≤ 20 := by have := (light10_at HB1.out.symm).1; omega
      have hpW := B3.size
      clear CN HB1 sm0 sm C3 O2
      go_wp2
      go_loopw [7] (fun i wr => ∃ (k : Nat) (cs : List CV), k ≤ n0 ∧ i = .int .i64 k ∧ TB wr w3.heap.size ⟨#[]⟩ ⟨#[]⟩ cs ∧ Hid (Stand ⟨#[]⟩ ⟨#[]⟩ (8 * k) cs) ∧ Below W1.heap.size W1 wr) (fun i _ => n0 - (intOf i).toNat)
      case atStart => exact ⟨0, [], Nat.zero_le _, rfl, X4, (Stand.nil _ _).mono (Nat.zero_le _), B4⟩
      case round =>
        obtain ⟨k, cs, hk, rfl, X0, HS0, B0⟩ := hrel
        by_cases hlt : k < n0
        · have hki : (k : Int) < (n0 : Int) := by omega
          have hkl : k < l.length := by omega
          obtain ⟨b, off, ea, hc⟩ := L0.at (by omega)
          have X := (hc k hkl).below B0
          have hy : OW wr 3 l[k] := (L0.ok _ (List.getElem_mem hkl)).below B0
          obtain ⟨pl, hpl⟩ := hy.parts3
          have CA := every_any wr w3.heap.size ⟨#[]⟩ ⟨#[]⟩ cs (topD 3 l[k]) pl (HTb.out.below B0 t2) X0 (HS0.out.mono (by omega)) hy.top hpl
          have HS1 : Hid (Stand ⟨#[]⟩ ⟨#[]⟩ (8 * (k + 1)) (mApply ⟨#[]⟩ ⟨#[]⟩ cs (topD 3 l[k]) pl).1) := (HS0.out.apply hy.top (fun x hx => hpl.ok x hx)).mono (by omega)
          obtain ⟨r, hr⟩ : ∃ r, r = mApply ⟨#[]⟩ ⟨#[]⟩ cs (topD 3 l[k]) pl := ⟨_, rfl⟩
          rw [← hr] at CA HS1
          obtain ⟨o, ho⟩ : ∃ o, o = topD 3 l[k] := ⟨_, rfl⟩
          rw [← ho] at CA X
          clear hr ho hy hpl hc
          subst ea
          obtain ⟨q0, q1, q2, q3, q4, q5, q6, q7, q8, q9⟩ := X
          unfold OA.val at CA
          go_wp2_with fail
          refine CA.mono ?_
          rintro e w2 ⟨⟨ra, rn, rc, rl, rfl, -, -⟩, X2, K2⟩
          have B2 := Wr.below B0 K2 B0.size hpW
          unfold resV
          clear CA q0 q1 q2 q3 q4 q5 q6 q7 q8 q9
          go_wp2
          go_roundw
          case rel => exact ⟨k + 1, r.1, by omega, by go_num, X2, HS1, B2⟩
          case measure => simp [intOf]; omega
        have hge : ¬ (k : Int) < (n0 : Int) := by omega
        have HS : Hid (Stand ⟨#[]⟩ ⟨#[]⟩ 160 cs) := HS0.out.mono (by omega)
        have t20 : k ≤ 20 := by omega
        clear HS0
        obtain ⟨wa, hwa⟩ : ∃ V, V = wr := ⟨_, rfl⟩
        subst hwa

        clear X4 B4 L0 hl1 hl2 hlt hk
        have CE := cells_st wa w3.heap.size ⟨#[]⟩ ⟨#[]⟩ cs X0 HS.out.srt HS.out.good (by decide) (by decide) HS.out.rows (by have := HS.out.len; omega)
        go_wp2_with fail
        refine CE.mono ?_
        rintro e w5 ⟨ao, n5, cap5, cl, rfl, L5, -, hm5, C5⟩
        have HM5 : Hid (cl.map CA.c = cs) := hm5
        have hn5 : n5 ≤ 160 := by
          have h1 := L5.len
          have h2 := HS.out.len
          have h3 : cl.length = cs.length := by rw [← hm5, List.length_map]
          omega
        have X5 := X0.below C5
        have B5 := B0.trans (C5.mono B0.size)
        clear CE hm5 X0
        have CR := troot_any w5 w3.heap.size ⟨#[]⟩ ⟨#[]⟩ cs (HTb.out.below B5 t2) X5 HS.out.good (by have := HS.out.len; omega) (by decide) (by decide)
        go_wp2_with fail
        refine CR.mono ?_
        rintro e w6 ⟨ro, rcp, rfl, S6, C6⟩
        have X6 := X5.below C6
        have L6 := L5.below C6
        have B6 := B5.trans (C6.mono B5.size)
        clear CR X5 L5
        have CC := clone_any10 w6 w3.heap.size ⟨#[]⟩ ⟨#[]⟩ cs X6
        have hpw : w3.heap.size < w6.heap.size := X6.lt
        go_wp2_with fail
        refine CC.mono ?_
        rintro e w7 ⟨rfl, Y7, C7⟩
        have X7 := X6.below C7
        have L7 := L6.below C7
        have S7 := S6.below C7
        have B7 := B6.trans (C7.mono B6.size)
        have hqW : W1.heap.size ≤ w6.heap.size := B6.size
        have hqp : w6.heap.size ≠ w3.heap.size := by omega
        have hpq : w3.heap.size ≠ w6.heap.size := by omega
        have hoq : W.heap.size ≠ w6.heap.size := by omega
        have s7 : w6.heap.size < w7.heap.size := Y7.lt
        have O7 := O1.keep B7
        clear CC X6 L6 S6
        have CY := every_any w7 w3.heap.size ⟨#[]⟩ ⟨#[]⟩ cs o pl (HTb.out.below B7 t2) X7 (HS.out.mono (by omega)) (HOK.out.below B7) (HPL.out.below B7)
        obtain ⟨r, hr⟩ : ∃ r, r = mApply ⟨#[]⟩ ⟨#[]⟩ cs o pl := ⟨_, rfl⟩
        have HR : Hid (r = mApply ⟨#[]⟩ ⟨#[]⟩ cs o pl) := hr
        have HS1 : Hid (Stand ⟨#[]⟩ ⟨#[]⟩ 168 r.1) := by
          show Stand _ _ _ _
          rw [hr]
          exact HS.out.apply HOK.out (fun x hx => HPL.out.ok x hx)
        have hrf : r.2.cells.length ≤ 16 := by rw [hr]; exact mApply_few _ _ _ _ _
        rw [← hr] at CY
        have HAu : Hid (∀ V, Below W1.heap.size W1 V → TB V w6.heap.size ⟨#[]⟩ ⟨#[]⟩ cs → Calls Tryz.prog 15 #[.pointer (some ⟨w6.heap.size, 0, none⟩), .agg #[.int .i64 o.kind, .string o.row, .string o.fam, .string o.qual, .int .u64 o.time, .string o.to, .slice o.va.ao o.va.n o.va.cap, .slice o.wa.ao o.wa.n o.wa.cap, .bool o.has, .slice o.so o.sn o.sc]] V fun e w' => ∃ xa xn xc xl, e = .returned (.agg #[.int .i64 r.2.e, .slice xa xn xc, .bool r.2.more]) ∧ (CL w' xa xn xc xl ∧ xl.map CA.c = r.2.cells ∧ TB w' w6.heap.size ⟨#[]⟩ ⟨#[]⟩ r.1) ∧ Wr w6.heap.size V w') := fun V hV hY => by
          have := every_any V w6.heap.size ⟨#[]⟩ ⟨#[]⟩ cs o pl (HTb.out.below hV t2) hY (HS.out.mono (by omega)) (HOK.out.below hV) (HPL.out.below hV)
          rw [← HR.out] at this
          refine this.mono ?_
          rintro e w' ⟨⟨xa, xn, xc, xl, rfl, h1, h2⟩, h3, h4⟩
          exact ⟨xa, xn, xc, xl, rfl, ⟨h1, h2, h3⟩, h4⟩
        have HCu : Hid (∀ V, TB V w6.heap.size ⟨#[]⟩ ⟨#[]⟩ cs → Calls Tryz.prog 17 #[.pointer (some ⟨w6.heap.size, 0, none⟩)] V fun e w' => ∃ ao n cap l, e = .returned (.slice ao n cap) ∧ (CL w' ao n cap l ∧ l.map CA.c = cs) ∧ Below V.heap.size V w') := fun V hY => by
          refine (cells_st V w6.heap.size ⟨#[]⟩ ⟨#[]⟩ cs hY HS.out.srt HS.out.good (by decide) (by decide) HS.out.rows (by have := HS.out.len; omega)).mono ?_
          rintro e w' ⟨ao, n, cap, l, rfl, h1, -, h2, h3⟩
          exact ⟨ao, n, cap, l, rfl, ⟨h1, h2⟩, h3⟩
        have HCr : Hid (∀ V p, TB V p ⟨#[]⟩ ⟨#[]⟩ r.1 → Calls Tryz.prog 17 #[.pointer (some ⟨p, 0, none⟩)] V fun e w' => ∃ ao n cap l, e = .returned (.slice ao n cap) ∧ (CL w' ao n cap l ∧ l.map CA.c = r.1) ∧ Below V.heap.size V w') := fun V p hY => by
          refine (cells_st V p ⟨#[]⟩ ⟨#[]⟩ r.1 hY HS1.out.srt HS1.out.good (by decide) (by decide) HS1.out.rows (by have := HS1.out.len; omega)).mono ?_
          rintro e w' ⟨ao, n, cap, l, rfl, h1, -, h2, h3⟩
          exact ⟨ao, n, cap, l, rfl, ⟨h1, h2⟩, h3⟩
        have HRu : Hid (∀ V, Below W1.heap.size W1 V → TB V w6.heap.size ⟨#[]⟩ ⟨#[]⟩ cs → Calls Tryz.prog 20 #[.pointer (some ⟨w6.heap.size, 0, none⟩)] V fun e w' => ∃ ao cap, e = .returned (.slice ao 32 cap) ∧ Sl w' ao 32 cap (rootT ⟨#[]⟩ ⟨#[]⟩ cs) ∧ Below V.heap.size V w') := fun V hV hY =>
          troot_any V w6.heap.size ⟨#[]⟩ ⟨#[]⟩ cs (HTb.out.below hV t2) hY HS.out.good (by have := HS.out.len; omega) (by decide) (by decide)
        unfold OA.val at CY
        have o0 : w7.cell? ⟨W.heap.size, 0, none⟩ = some (.int .i64 o.kind) := O7.cs.c0
        have o1 : w7.cell? ⟨W.heap.size, 1, none⟩ = some (.string o.row) := O7.cs.c1
        have o2 : w7.cell? ⟨W.heap.size, 2, none⟩ = some (.string o.fam) := O7.cs.c2
        have o3 : w7.cell? ⟨W.heap.size, 3, none⟩ = some (.string o.qual) := O7.cs.c3
        have o4 : w7.cell? ⟨W.heap.size, 4, none⟩ = some (.int .u64 o.time) := O7.cs.c4
        have o5 : w7.cell? ⟨W.heap.size, 5, none⟩ = some (.string o.to) := O7.cs.c5
        have o6 : w7.cell? ⟨W.heap.size, 6, none⟩ = some (.slice o.va.ao o.va.n o.va.cap) := O7.cs.c6
        have o7 : w7.cell? ⟨W.heap.size, 7, none⟩ = some (.slice o.wa.ao o.wa.n o.wa.cap) := O7.cs.c7
        have o8 : w7.cell? ⟨W.heap.size, 8, none⟩ = some (.bool o.has) := O7.cs.c8
        have o9 : w7.cell? ⟨W.heap.size, 9, none⟩ = some (.slice o.so o.sn o.sc) := O7.cs.c9

        clear hr
        go_wp2_with fail
        refine CY.mono ?_
        rintro e w8 ⟨⟨ra, rn, rc, rl, rfl, Q8, hrl⟩, X8, K8⟩
        have HRL : Hid (rl.map CA.c = r.2.cells) := hrl
        have hrn : rn ≤ 1000 := by
          have h1 := Q8.len
          have h2 : rl.length = r.2.cells.length := by rw [← hrl, List.length_map]
          omega
        have Y8 := TB.other X7 K8 hqp Y7
        obtain ⟨u7, A7, -⟩ := X7
        have L8 := L7.tb A7 K8
        have S8 := S7.tb A7 K8
        have B8 := Wr.below B7 K8 B7.size hpW
        have O8 := O7.wr K8 (by omega)
        have s8 := K8.size
        clear CY A7 K8 Y7 L7 S7 O7 B5 B6 B7 C5 C6 C7 hrl
        clear o0 o1 o2 o3 o4 o5 o6 o7 o8 o9

        unfold resV
        obtain ⟨W9, hW9⟩ : ∃ V, V = w8.alloc (.cells #[.int .i64 r.2.e, .slice ra rn rc, .bool r.2.more] 34) := ⟨_, rfl⟩
        have C9 : Below w8.heap.size w8 W9 := by rw [hW9]; exact (Below.refl _ _).alloc (Nat.le_refl _) _
        have Rb : RC W9 w8.heap.size r.2.e ra rn rc r.2.more := by rw [hW9]; exact heap_alloc_new w8 _
        have Bb := B8.trans (C9.mono B8.size)
        have Xb := X8.below C9
        have Yb := Y8.below C9
        have Lb := L8.below C9
        have Sb := S8.below C9
        have Qb := Q8.below C9
        have Ob := O8.keep C9
        have hrq : w8.heap.size ≠ w6.heap.size := by omega
        have o0 : w8.cell? ⟨W.heap.size, 0, none⟩ = some (.int .i64 o.kind) := O8.cs.c0
        have o1 : w8.cell? ⟨W.heap.size, 1, none⟩ = some (.string o.row) := O8.cs.c1
        have o2 : w8.cell? ⟨W.heap.size, 2, none⟩ = some (.string o.fam) := O8.cs.c2
        have o3 : w8.cell? ⟨W.heap.size, 3, none⟩ = some (.string o.qual) := O8.cs.c3
        have o4 : w8.cell? ⟨W.heap.size, 4, none⟩ = some (.int .u64 o.time) := O8.cs.c4
        have o5 : w8.cell? ⟨W.heap.size, 5, none⟩ = some (.string o.to) := O8.cs.c5
        have o6 : w8.cell? ⟨W.heap.size, 6, none⟩ = some (.slice o.va.ao o.va.n o.va.cap) := O8.cs.c6
        have o7 : w8.cell? ⟨W.heap.size, 7, none⟩ = some (.slice o.wa.ao o.wa.n o.wa.cap) := O8.cs.c7
        have o8 : w8.cell? ⟨W.heap.size, 8, none⟩ = some (.bool o.has) := O8.cs.c8
        have o9 : w8.cell? ⟨W.heap.size, 9, none⟩ = some (.slice o.so o.sn o.sc) := O8.cs.c9

        have ltO := O8.lt
        clear X8 Y8 L8 S8 Q8 O8 B8
        by_cases hz : r.2.e = 0
        · have z0 : (r.2.e != 0) = false := by simp [hz]
          have CW := pwrites_any W9 o
          obtain ⟨bw, hbw⟩ : ∃ b, b = decide (o.kind ≠ 7 ∧ o.kind ≠ 8) := ⟨_, rfl⟩
          have HBW : Hid (bw = decide (o.kind ≠ 7 ∧ o.kind ≠ 8)) := hbw
          rw [← hbw] at CW
          unfold OA.val at CW
          clear hbw hz
          go_wp2_with fail
          rw [← hW9]
          clear hW9
          refine CW.mono ?_
          rintro e wb ⟨rfl, Cb⟩
          have Rb := Rb.keep Cb
          have Bb := Bb.trans (Cb.mono Bb.size)
          have Xb := Xb.below Cb
          have Yb := Yb.below Cb
          have Lb := Lb.below Cb
          have Sb := Sb.below Cb
          have Qb := Qb.below Cb
          have Ob := Ob.keep Cb
          clear CW C9 Cb
          clear o0 o1 o2 o3 o4 o5 o6 o7 o8 o9

          cases bw with
          | true =>
            have HXb : Hid (∀ V, Wr w6.heap.size wb V → TB V w3.heap.size ⟨#[]⟩ ⟨#[]⟩ r.1 ∧ CL V ao n5 cap5 cl ∧ Sl V ro 32 rcp (rootT ⟨#[]⟩ ⟨#[]⟩ cs) ∧ CL V ra rn rc rl ∧ Below W1.heap.size W1 V) := fun V hV => by
              refine ⟨TB.other Yb hV hpq Xb, ?_, ?_, ?_, Wr.below Bb hV Bb.size hqW⟩ <;> obtain ⟨ub, Ab, -⟩ := Yb
              · exact Lb.tb Ab hV
              · exact Sb.tb Ab hV
              · exact Qb.tb Ab hV
            have HOb : Hid (OC wb W.heap.size o) := Ob
            have HRb : Hid (RC wb w8.heap.size r.2.e ra rn rc r.2.more) := Rb
            clear Xb Lb Sb Qb Ob Rb
            go_wp2
            have zHS : Hid (∀ V, Wr w6.heap.size wb V → V.cell? ⟨W.heap.size, 0, none⟩ = some (.int .i64 o.kind) ∧ V.cell? ⟨W.heap.size, 1, none⟩ = some (.string o.row) ∧ V.cell? ⟨W.heap.size, 2, none⟩ = some (.string o.fam) ∧ V.cell? ⟨W.heap.size, 3, none⟩ = some (.string o.qual) ∧ V.cell? ⟨W.heap.size, 4, none⟩ = some (.int .u64 o.time) ∧ V.cell? ⟨W.heap.size, 5, none⟩ = some (.string o.to) ∧ V.cell? ⟨W.heap.size, 6, none⟩ = some (.slice o.va.ao o.va.n o.va.cap) ∧ V.cell? ⟨W.heap.size, 7, none⟩ = some (.slice o.wa.ao o.wa.n o.wa.cap) ∧ V.cell? ⟨W.heap.size, 8, none⟩ = some (.bool o.has) ∧ V.cell? ⟨W.heap.size, 9, none⟩ = some (.slice o.so o.sn o.sc) ∧ V.cell? ⟨w8.heap.size, 0, none⟩ = some (.int .i64 r.2.e) ∧ V.cell? ⟨w8.heap.size, 1, none⟩ = some (.slice ra rn rc) ∧ V.cell? ⟨w8.heap.size, 2, none⟩ = some (.bool r.2.more)) := fun V hV => by
              have h := HOb.out.wr hV hoq
              have g := HRb.out.wr hV hrq
              exact ⟨h.cs.c0, h.cs.c1, h.cs.c2, h.cs.c3, h.cs.c4, h.cs.c5, h.cs.c6, h.cs.c7, h.cs.c8, h.cs.c9, g.c0, g.c1, g.c2⟩
            have zE0 : Wr w6.heap.size wb wb.drew := Wr.of (Below.refl _ _).drew
            refine wp_region_noPanic ?_
            refine wp_region_held_drew (S := fun V => V.cell? ⟨W.heap.size, 0, none⟩ = some (.int .i64 o.kind) ∧ V.cell? ⟨W.heap.size, 1, none⟩ = some (.string o.row) ∧ V.cell? ⟨W.heap.size, 2, none⟩ = some (.string o.fam) ∧ V.cell? ⟨W.heap.size, 3, none⟩ = some (.string o.qual) ∧ V.cell? ⟨W.heap.size, 4, none⟩ = some (.int .u64 o.time) ∧ V.cell? ⟨W.heap.size, 5, none⟩ = some (.string o.to) ∧ V.cell? ⟨W.heap.size, 6, none⟩ = some (.slice o.va.ao o.va.n o.va.cap) ∧ V.cell? ⟨W.heap.size, 7, none⟩ = some (.slice o.wa.ao o.wa.n o.wa.cap) ∧ V.cell? ⟨W.heap.size, 8, none⟩ = some (.bool o.has) ∧ V.cell? ⟨W.heap.size, 9, none⟩ = some (.slice o.so o.sn o.sc) ∧ V.cell? ⟨w8.heap.size, 0, none⟩ = some (.int .i64 r.2.e) ∧ V.cell? ⟨w8.heap.size, 1, none⟩ = some (.slice ra rn rc) ∧ V.cell? ⟨w8.heap.size, 2, none⟩ = some (.bool r.2.more)) (by kernel_rfl) (zHS.out _ zE0) (fun zH0 => ?_)
            have Y0 : TB wb.drew w6.heap.size ⟨#[]⟩ ⟨#[]⟩ cs := Yb.below (Below.refl _ _).drew
            obtain ⟨zv0, hv0⟩ : ∃ v, v = wb.drew := ⟨_, rfl⟩
            rw [← hv0] at zH0 zE0 Y0 ⊢
            clear hv0
            refine hr_take_w 0 (some 74) (.pointer (some ⟨w6.heap.size, 0, none⟩)) rfl rfl (by kernel_rfl) (by kernel_rfl) (by kernel_rfl) rfl (fun W hW => by obtain ⟨h0, h1, h2, h3, h4, h5, h6, h7, h8, h9, h10, h11, h12⟩ := hW; go_simp) zH0 ?_
            simp only [Act.put, List.setIfInBounds_toArray, List.set_cons_zero, List.set_cons_succ]
            refine hr_take_w 2 (some 76) (.slice ao n5 cap5) rfl rfl (by kernel_rfl) (by kernel_rfl) (by kernel_rfl) rfl (fun W hW => by obtain ⟨h0, h1, h2, h3, h4, h5, h6, h7, h8, h9, h10, h11, h12⟩ := hW; go_simp) zH0 ?_
            simp only [Act.put, List.setIfInBounds_toArray, List.set_cons_zero, List.set_cons_succ]
            refine hr_call_w 1 (some 75) 17 #[.pointer (some ⟨w6.heap.size, 0, none⟩)] rfl rfl (by kernel_rfl) rfl (by go_simp) (fun v w' => ∃ ao2 m2 cap2 cl2, v = .slice ao2 m2 cap2 ∧ (CL w' ao2 m2 cap2 cl2 ∧ cl2.map CA.c = cs) ∧ Below zv0.heap.size zv0 w') ((HCu.out zv0 Y0).mono (by
              rintro e w' ⟨ao2, m2, cap2, cl2, rfl, F, C⟩
              exact ⟨_, rfl, ao2, m2, cap2, cl2, rfl, F, C⟩)) ?_
            rintro v zv1 ⟨ao2, m2, cap2, cl2, rfl, zF0, zC0⟩
            have zE1 := zE0.trans (Wr.of zC0)
            have zH1 := zHS.out zv1 zE1
            have Y0 := Y0.below zC0
            refine ⟨zH1, ?_⟩
            simp only [Act.put, List.setIfInBounds_toArray, List.set_cons_zero, List.set_cons_succ]
            obtain ⟨-, Lx, -, -, Bx⟩ := HXb.out zv1 zE1
            obtain rfl : n5 = m2 := zF0.1.len_of Lx (by rw [zF0.2, HM5.out])
            have CSm := same10_any zv1 ao2 ao n5 cap2 cap5 cl2 cl zF0.1 Lx (by rw [zF0.2, HM5.out]) (by omega)
            refine hr_call_w 3 (some 77) 16 #[.slice ao2 n5 cap2, .slice ao n5 cap5] rfl rfl (by kernel_rfl) rfl (by go_simp) (fun v w' => v = .bool true ∧ Below zv1.heap.size zv1 w') ((CSm).mono (by
              rintro e w' ⟨rfl, C⟩
              exact ⟨_, rfl, rfl, C⟩)) ?_
            rintro v zv2 ⟨rfl, zC1⟩
            have zE2 := zE1.trans (Wr.of zC1)
            have zH2 := zHS.out zv2 zE2
            have Y0 := Y0.below zC1
            clear CSm Lx Bx
            refine ⟨zH2, ?_⟩
            simp only [Act.put, List.setIfInBounds_toArray, List.set_cons_zero, List.set_cons_succ]
            refine hr_take_w 4 (some 78) (.bool true) rfl rfl (by kernel_rfl) (by kernel_rfl) (by kernel_rfl) rfl (fun W hW => by obtain ⟨h0, h1, h2, h3, h4, h5, h6, h7, h8, h9, h10, h11, h12⟩ := hW; go_simp) zH2 ?_
            simp only [Act.put, List.setIfInBounds_toArray, List.set_cons_zero, List.set_cons_succ]
            refine hr_take_w 5 (some 79) (.pointer (some ⟨w6.heap.size, 0, none⟩)) rfl rfl (by kernel_rfl) (by kernel_rfl) (by kernel_rfl) rfl (fun W hW => by obtain ⟨h0, h1, h2, h3, h4, h5, h6, h7, h8, h9, h10, h11, h12⟩ := hW; go_simp) zH2 ?_
            simp only [Act.put, List.setIfInBounds_toArray, List.set_cons_zero, List.set_cons_succ]
            refine hr_take_w 7 (some 81) (.slice ro 32 rcp) rfl rfl (by kernel_rfl) (by kernel_rfl) (by kernel_rfl) rfl (fun W hW => by obtain ⟨h0, h1, h2, h3, h4, h5, h6, h7, h8, h9, h10, h11, h12⟩ := hW; go_simp) zH2 ?_
            simp only [Act.put, List.setIfInBounds_toArray, List.set_cons_zero, List.set_cons_succ]
            refine hr_call_w 6 (some 80) 20 #[.pointer (some ⟨w6.heap.size, 0, none⟩)] rfl rfl (by kernel_rfl) rfl (by go_simp) (fun v w' => ∃ ro2 rp2, v = .slice ro2 32 rp2 ∧ Sl w' ro2 32 rp2 (rootT ⟨#[]⟩ ⟨#[]⟩ cs) ∧ Below zv2.heap.size zv2 w') ((HRu.out zv2 (HXb.out _ zE2).2.2.2.2 Y0).mono (by
              rintro e w' ⟨ro2, rp2, rfl, F, C⟩
              exact ⟨_, rfl, ro2, rp2, rfl, F, C⟩)) ?_
            rintro v zv3 ⟨ro2, rp2, rfl, zF2, zC2⟩
            have zE3 := zE2.trans (Wr.of zC2)
            have zH3 := zHS.out zv3 zE3
            have Y0 := Y0.below zC2
            refine ⟨zH3, ?_⟩
            simp only [Act.put, List.setIfInBounds_toArray, List.set_cons_zero, List.set_cons_succ]
            have CSr := same_true zv3 ro2 ro 32 rp2 32 rcp _ zF2 (HXb.out zv3 zE3).2.2.1
            refine hr_call_w 8 (some 82) 19 #[.slice ro2 32 rp2, .slice ro 32 rcp] rfl rfl (by kernel_rfl) rfl (by go_simp) (fun v w' => v = .bool true ∧ Below zv3.heap.size zv3 w') ((CSr).mono (by
              rintro e w' ⟨rfl, C⟩
              exact ⟨_, rfl, rfl, C⟩)) ?_
            rintro v zv4 ⟨rfl, zC3⟩
            have zE4 := zE3.trans (Wr.of zC3)
            have zH4 := zHS.out zv4 zE4
            have Y0 := Y0.below zC3
            clear CSr
            refine ⟨zH4, ?_⟩
            simp only [Act.put, List.setIfInBounds_toArray, List.set_cons_zero, List.set_cons_succ]
            refine hr_take_w 9 (some 83) (.bool true) rfl rfl (by kernel_rfl) (by kernel_rfl) (by kernel_rfl) rfl (fun W hW => by obtain ⟨h0, h1, h2, h3, h4, h5, h6, h7, h8, h9, h10, h11, h12⟩ := hW; go_simp) zH4 ?_
            simp only [Act.put, List.setIfInBounds_toArray, List.set_cons_zero, List.set_cons_succ]
            refine hr_take_w 10 (some 84) (.bool true) rfl rfl (by kernel_rfl) (by kernel_rfl) (by kernel_rfl) rfl (fun W hW => by obtain ⟨h0, h1, h2, h3, h4, h5, h6, h7, h8, h9, h10, h11, h12⟩ := hW; go_simp) zH4 ?_
            simp only [Act.put, List.setIfInBounds_toArray, List.set_cons_zero, List.set_cons_succ]
            refine hr_take_w 11 (some 85) (.pointer (some ⟨w6.heap.size, 0, none⟩)) rfl rfl (by kernel_rfl) (by kernel_rfl) (by kernel_rfl) rfl (fun W hW => by obtain ⟨h0, h1, h2, h3, h4, h5, h6, h7, h8, h9, h10, h11, h12⟩ := hW; go_simp) zH4 ?_
            simp only [Act.put, List.setIfInBounds_toArray, List.set_cons_zero, List.set_cons_succ]
            refine hr_take_w 12 (some 86) (.agg #[.int .i64 o.kind, .string o.row, .string o.fam, .string o.qual, .int .u64 o.time, .string o.to, .slice o.va.ao o.va.n o.va.cap, .slice o.wa.ao o.wa.n o.wa.cap, .bool o.has, .slice o.so o.sn o.sc]) rfl rfl (by kernel_rfl) (by kernel_rfl) (by kernel_rfl) rfl (fun W hW => by obtain ⟨h0, h1, h2, h3, h4, h5, h6, h7, h8, h9, h10, h11, h12⟩ := hW; go_simp) zH4 ?_
            simp only [Act.put, List.setIfInBounds_toArray, List.set_cons_zero, List.set_cons_succ]
            refine hr_take_w 14 (some 88) (.agg #[.int .i64 r.2.e, .slice ra rn rc, .bool r.2.more]) rfl rfl (by kernel_rfl) (by kernel_rfl) (by kernel_rfl) rfl (fun W hW => by obtain ⟨h0, h1, h2, h3, h4, h5, h6, h7, h8, h9, h10, h11, h12⟩ := hW; go_simp) zH4 ?_
            simp only [Act.put, List.setIfInBounds_toArray, List.set_cons_zero, List.set_cons_succ]
            refine hr_call_w 13 (some 87) 15 #[.pointer (some ⟨w6.heap.size, 0, none⟩), .agg #[.int .i64 o.kind, .string o.row, .string o.fam, .string o.qual, .int .u64 o.time, .string o.to, .slice o.va.ao o.va.n o.va.cap, .slice o.wa.ao o.wa.n o.wa.cap, .bool o.has, .slice o.so o.sn o.sc]] rfl rfl (by kernel_rfl) rfl (by go_simp) (fun v w' => ∃ xa xn xc xl, v = .agg #[.int .i64 r.2.e, .slice xa xn xc, .bool r.2.more] ∧ (CL w' xa xn xc xl ∧ xl.map CA.c = r.2.cells ∧ TB w' w6.heap.size ⟨#[]⟩ ⟨#[]⟩ r.1) ∧ Wr w6.heap.size zv4 w') ((HAu.out zv4 (HXb.out _ zE4).2.2.2.2 Y0).mono (by
              rintro e w' ⟨xa, xn, xc, xl, rfl, F, C⟩
              exact ⟨_, rfl, xa, xn, xc, xl, rfl, F, C⟩)) ?_
            rintro v zv5 ⟨xa, xn, xc, xl, rfl, zF4, zC4⟩
            have zE5 := zE4.trans zC4
            have zH5 := zHS.out zv5 zE5
            clear Y0
            refine ⟨zH5, ?_⟩
            simp only [Act.put, List.setIfInBounds_toArray, List.set_cons_zero, List.set_cons_succ]
            have Y1 := zF4.2.2
            obtain rfl : xn = rn := zF4.1.len_of (HXb.out _ zE5).2.2.2.1 (by rw [zF4.2.1, HRL.out]) |>.symm
            have CRs := rresults_any zv5 r.2.e xa ra xn xc rc xl rl r.2.more zF4.1 (HXb.out _ zE5).2.2.2.1 (by rw [zF4.2.1, HRL.out]) hrn
            unfold resV at CRs
            refine hr_call_w 15 (some 89) 14 #[.agg #[.int .i64 r.2.e, .slice xa xn xc, .bool r.2.more], .agg #[.int .i64 r.2.e, .slice ra xn rc, .bool r.2.more]] rfl rfl (by kernel_rfl) rfl (by go_simp) (fun v w' => v = .bool true ∧ Below zv5.heap.size zv5 w') ((CRs).mono (by
              rintro e w' ⟨rfl, C⟩
              exact ⟨_, rfl, rfl, C⟩)) ?_
            rintro v zv6 ⟨rfl, zC5⟩
            have zE6 := zE5.trans (Wr.of zC5)
            have zH6 := zHS.out zv6 zE6
            have Y1 := Y1.below zC5
            clear CRs
            refine ⟨zH6, ?_⟩
            simp only [Act.put, List.setIfInBounds_toArray, List.set_cons_zero, List.set_cons_succ]
            refine hr_take_w 16 (some 90) (.bool true) rfl rfl (by kernel_rfl) (by kernel_rfl) (by kernel_rfl) rfl (fun W hW => by obtain ⟨h0, h1, h2, h3, h4, h5, h6, h7, h8, h9, h10, h11, h12⟩ := hW; go_simp) zH6 ?_
            simp only [Act.put, List.setIfInBounds_toArray, List.set_cons_zero, List.set_cons_succ]
            refine hr_take_w 17 (some 91) (.bool true) rfl rfl (by kernel_rfl) (by kernel_rfl) (by kernel_rfl) rfl (fun W hW => by obtain ⟨h0, h1, h2, h3, h4, h5, h6, h7, h8, h9, h10, h11, h12⟩ := hW; go_simp) zH6 ?_
            simp only [Act.put, List.setIfInBounds_toArray, List.set_cons_zero, List.set_cons_succ]
            refine hr_take_w 18 (some 92) (.pointer (some ⟨w6.heap.size, 0, none⟩)) rfl rfl (by kernel_rfl) (by kernel_rfl) (by kernel_rfl) rfl (fun W hW => by obtain ⟨h0, h1, h2, h3, h4, h5, h6, h7, h8, h9, h10, h11, h12⟩ := hW; go_simp) zH6 ?_
            simp only [Act.put, List.setIfInBounds_toArray, List.set_cons_zero, List.set_cons_succ]
            refine hr_take_w 20 (some 94) (.pointer (some ⟨w3.heap.size, 0, none⟩)) rfl rfl (by kernel_rfl) (by kernel_rfl) (by kernel_rfl) rfl (fun W hW => by obtain ⟨h0, h1, h2, h3, h4, h5, h6, h7, h8, h9, h10, h11, h12⟩ := hW; go_simp) zH6 ?_
            simp only [Act.put, List.setIfInBounds_toArray, List.set_cons_zero, List.set_cons_succ]
            refine hr_call_w 19 (some 93) 17 #[.pointer (some ⟨w6.heap.size, 0, none⟩)] rfl rfl (by kernel_rfl) rfl (by go_simp) (fun v w' => ∃ ao3 m3 cap3 cl3, v = .slice ao3 m3 cap3 ∧ (CL w' ao3 m3 cap3 cl3 ∧ cl3.map CA.c = r.1) ∧ Below zv6.heap.size zv6 w') ((HCr.out zv6 _ Y1).mono (by
              rintro e w' ⟨ao3, m3, cap3, cl3, rfl, F, C⟩
              exact ⟨_, rfl, ao3, m3, cap3, cl3, rfl, F, C⟩)) ?_
            rintro v zv7 ⟨ao3, m3, cap3, cl3, rfl, zF6, zC6⟩
            have zE7 := zE6.trans (Wr.of zC6)
            have zH7 := zHS.out zv7 zE7
            clear Y1
            refine ⟨zH7, ?_⟩
            simp only [Act.put, List.setIfInBounds_toArray, List.set_cons_zero, List.set_cons_succ]
            have L3 := zF6.1
            refine hr_call_w 21 (some 95) 17 #[.pointer (some ⟨w3.heap.size, 0, none⟩)] rfl rfl (by kernel_rfl) rfl (by go_simp) (fun v w' => ∃ ao4 m4 cap4 cl4, v = .slice ao4 m4 cap4 ∧ (CL w' ao4 m4 cap4 cl4 ∧ cl4.map CA.c = r.1) ∧ Below zv7.heap.size zv7 w') ((HCr.out zv7 _ (HXb.out _ zE7).1).mono (by
              rintro e w' ⟨ao4, m4, cap4, cl4, rfl, F, C⟩
              exact ⟨_, rfl, ao4, m4, cap4, cl4, rfl, F, C⟩)) ?_
            rintro v zv8 ⟨ao4, m4, cap4, cl4, rfl, zF7, zC7⟩
            have zE8 := zE7.trans (Wr.of zC7)
            have zH8 := zHS.out zv8 zE8
            have L3 := L3.below zC7
            refine ⟨zH8, ?_⟩
            simp only [Act.put, List.setIfInBounds_toArray, List.set_cons_zero, List.set_cons_succ]
            obtain rfl : m3 = m4 := zF7.1.len_of L3 (by rw [zF7.2, zF6.2])
            have hm3 : m3 ≤ 1000 := by
              have h1 := L3.len
              have h2 : cl3.length = r.1.length := by rw [← zF6.2, List.length_map]
              have h3 := HS1.out.len
              omega
            have CSm := same10_any zv8 ao3 ao4 m3 cap3 cap4 cl3 cl4 L3 zF7.1 (by rw [zF6.2, zF7.2]) hm3
            refine hr_call_w 22 (some 96) 16 #[.slice ao3 m3 cap3, .slice ao4 m3 cap4] rfl rfl (by kernel_rfl) rfl (by go_simp) (fun v w' => v = .bool true ∧ Below zv8.heap.size zv8 w') ((CSm).mono (by
              rintro e w' ⟨rfl, C⟩
              exact ⟨_, rfl, rfl, C⟩)) ?_
            rintro v zv9 ⟨rfl, zC8⟩
            have zE9 := zE8.trans (Wr.of zC8)
            have zH9 := zHS.out zv9 zE9
            clear CSm
            refine ⟨zH9, ?_⟩
            simp only [Act.put, List.setIfInBounds_toArray, List.set_cons_zero, List.set_cons_succ]
            refine hr_take_w 23 (some 97) (.bool true) rfl rfl (by kernel_rfl) (by kernel_rfl) (by kernel_rfl) rfl (fun W hW => by obtain ⟨h0, h1, h2, h3, h4, h5, h6, h7, h8, h9, h10, h11, h12⟩ := hW; go_simp) zH9 ?_
            simp only [Act.put, List.setIfInBounds_toArray, List.set_cons_zero, List.set_cons_succ]
            refine hr_take_w 24 (some 98) (.bool true) rfl rfl (by kernel_rfl) (by kernel_rfl) (by kernel_rfl) rfl (fun W hW => by obtain ⟨h0, h1, h2, h3, h4, h5, h6, h7, h8, h9, h10, h11, h12⟩ := hW; go_simp) zH9 ?_
            simp only [Act.put, List.setIfInBounds_toArray, List.set_cons_zero, List.set_cons_succ]
            refine hr_call_w 25 (some 99) 10 #[] rfl rfl (by kernel_rfl) rfl (by go_simp) (fun v w' => v = .bool true ∧ Below zv9.heap.size zv9 w') ((HAL.out zv9 (C1.trans ((HXb.out _ zE9).2.2.2.2.mono C1.size))).mono (by
              rintro e w' ⟨rfl, C⟩
              exact ⟨_, rfl, rfl, C⟩)) ?_
            rintro v zv10 ⟨rfl, zC9⟩
            have zE10 := zE9.trans (Wr.of zC9)
            have zH10 := zHS.out zv10 zE10
            refine ⟨zH10, ?_⟩
            simp only [Act.put, List.setIfInBounds_toArray, List.set_cons_zero, List.set_cons_succ]
            refine hr_take_w 26 (some 100) (.bool true) rfl rfl (by kernel_rfl) (by kernel_rfl) (by kernel_rfl) rfl (fun W hW => by obtain ⟨h0, h1, h2, h3, h4, h5, h6, h7, h8, h9, h10, h11, h12⟩ := hW; go_simp) zH10 ?_
            simp only [Act.put, List.setIfInBounds_toArray, List.set_cons_zero, List.set_cons_succ]
            refine hr_take_w 27 (some 4) (.bool true) rfl rfl (by kernel_rfl) (by kernel_rfl) (by kernel_rfl) rfl (fun W hW => by obtain ⟨h0, h1, h2, h3, h4, h5, h6, h7, h8, h9, h10, h11, h12⟩ := hW; go_simp) zH10 ?_
            simp only [Act.put, List.setIfInBounds_toArray, List.set_cons_zero, List.set_cons_succ]
            refine wpAnyH_done (by kernel_rfl) ?_ _
            refine NoPanic.normal ?_
            go_wp2
            go_ret
            exact ⟨rfl, C1.trans ((HXb.out _ zE10).2.2.2.2.mono C1.size)⟩
          | false =>
            have hrc : r.1 = cs := by
              have hk : o.kind = 7 ∨ o.kind = 8 := by
                have h := of_decide_eq_false HBW.out.symm
                omega
              rw [HR.out]
              exact mApply_quiet (.inr hk)
            have CE := cells_st wb w3.heap.size ⟨#[]⟩ ⟨#[]⟩ cs (hrc ▸ Xb) HS.out.srt HS.out.good (by decide) (by decide) HS.out.rows (by have := HS.out.len; omega)
            go_wp2_with fail
            refine CE.mono ?_
            rintro e wc1 ⟨ao2, m2, cap2, cl2, rfl, M2, -, hm2, Cc1⟩
            have Xb := Xb.below Cc1
            have Yb := Yb.below Cc1
            have Lb := Lb.below Cc1
            have Sb := Sb.below Cc1
            have Rb := Rb.keep Cc1
            have Qb := Qb.below Cc1
            have Ob := Ob.keep Cc1
            have Bb := Bb.trans (Cc1.mono Bb.size)
            clear CE
            obtain rfl : n5 = m2 := M2.len_of Lb (by rw [hm2, HM5.out])
            have CS := same10_any wc1 ao2 ao n5 cap2 cap5 cl2 cl M2 Lb (by rw [hm2, HM5.out]) (by omega)
            clear hm2 M2 Cc1
            go_wp2_with fail
            refine CS.mono ?_
            rintro e wc2 ⟨rfl, Cc2⟩
            have Xb := Xb.below Cc2
            have Yb := Yb.below Cc2
            have Lb := Lb.below Cc2
            have Sb := Sb.below Cc2
            have Rb := Rb.keep Cc2
            have Qb := Qb.below Cc2
            have Ob := Ob.keep Cc2
            have Bb := Bb.trans (Cc2.mono Bb.size)
            clear CS
            have CR := troot_any wc2 w3.heap.size ⟨#[]⟩ ⟨#[]⟩ cs (HTb.out.below Bb t2) (hrc ▸ Xb) HS.out.good (by have := HS.out.len; omega) (by decide) (by decide)
            clear Cc2
            go_wp2_with fail
            refine CR.mono ?_
            rintro e wc3 ⟨ro2, rp2, rfl, S2, Cc3⟩
            have Xb := Xb.below Cc3
            have Yb := Yb.below Cc3
            have Lb := Lb.below Cc3
            have Sb := Sb.below Cc3
            have Rb := Rb.keep Cc3
            have Qb := Qb.below Cc3
            have Ob := Ob.keep Cc3
            have Bb := Bb.trans (Cc3.mono Bb.size)
            clear CR
            have CSr := same_true wc3 ro2 ro 32 rp2 32 rcp _ S2 Sb
            clear Cc3 S2
            go_wp2_with fail
            refine CSr.mono ?_
            rintro e wd ⟨rfl, Cc4⟩
            have Xb := Xb.below Cc4
            have Yb := Yb.below Cc4
            have Lb := Lb.below Cc4
            have Sb := Sb.below Cc4
            have Rb := Rb.keep Cc4
            have Qb := Qb.below Cc4
            have Ob := Ob.keep Cc4
            have Bb := Bb.trans (Cc4.mono Bb.size)
            clear CSr Cc4
            have HXb : Hid (∀ V, Wr w6.heap.size wd V → TB V w3.heap.size ⟨#[]⟩ ⟨#[]⟩ r.1 ∧ CL V ao n5 cap5 cl ∧ Sl V ro 32 rcp (rootT ⟨#[]⟩ ⟨#[]⟩ cs) ∧ CL V ra rn rc rl ∧ Below W1.heap.size W1 V) := fun V hV => by
              refine ⟨TB.other Yb hV hpq Xb, ?_, ?_, ?_, Wr.below Bb hV Bb.size hqW⟩ <;> obtain ⟨ub, Ab, -⟩ := Yb
              · exact Lb.tb Ab hV
              · exact Sb.tb Ab hV
              · exact Qb.tb Ab hV
            have HOb : Hid (OC wd W.heap.size o) := Ob
            have HRb : Hid (RC wd w8.heap.size r.2.e ra rn rc r.2.more) := Rb
            clear Xb Lb Sb Qb Ob Rb
            go_wp2
            have zHS : Hid (∀ V, Wr w6.heap.size wd V → V.cell? ⟨W.heap.size, 0, none⟩ = some (.int .i64 o.kind) ∧ V.cell? ⟨W.heap.size, 1, none⟩ = some (.string o.row) ∧ V.cell? ⟨W.heap.size, 2, none⟩ = some (.string o.fam) ∧ V.cell? ⟨W.heap.size, 3, none⟩ = some (.string o.qual) ∧ V.cell? ⟨W.heap.size, 4, none⟩ = some (.int .u64 o.time) ∧ V.cell? ⟨W.heap.size, 5, none⟩ = some (.string o.to) ∧ V.cell? ⟨W.heap.size, 6, none⟩ = some (.slice o.va.ao o.va.n o.va.cap) ∧ V.cell? ⟨W.heap.size, 7, none⟩ = some (.slice o.wa.ao o.wa.n o.wa.cap) ∧ V.cell? ⟨W.heap.size, 8, none⟩ = some (.bool o.has) ∧ V.cell? ⟨W.heap.size, 9, none⟩ = some (.slice o.so o.sn o.sc) ∧ V.cell? ⟨w8.heap.size, 0, none⟩ = some (.int .i64 r.2.e) ∧ V.cell? ⟨w8.heap.size, 1, none⟩ = some (.slice ra rn rc) ∧ V.cell? ⟨w8.heap.size, 2, none⟩ = some (.bool r.2.more)) := fun V hV => by
              have h := HOb.out.wr hV hoq
              have g := HRb.out.wr hV hrq
              exact ⟨h.cs.c0, h.cs.c1, h.cs.c2, h.cs.c3, h.cs.c4, h.cs.c5, h.cs.c6, h.cs.c7, h.cs.c8, h.cs.c9, g.c0, g.c1, g.c2⟩
            have zE0 : Wr w6.heap.size wd wd.drew := Wr.of (Below.refl _ _).drew
            refine wp_region_noPanic ?_
            refine wp_region_held_drew (S := fun V => V.cell? ⟨W.heap.size, 0, none⟩ = some (.int .i64 o.kind) ∧ V.cell? ⟨W.heap.size, 1, none⟩ = some (.string o.row) ∧ V.cell? ⟨W.heap.size, 2, none⟩ = some (.string o.fam) ∧ V.cell? ⟨W.heap.size, 3, none⟩ = some (.string o.qual) ∧ V.cell? ⟨W.heap.size, 4, none⟩ = some (.int .u64 o.time) ∧ V.cell? ⟨W.heap.size, 5, none⟩ = some (.string o.to) ∧ V.cell? ⟨W.heap.size, 6, none⟩ = some (.slice o.va.ao o.va.n o.va.cap) ∧ V.cell? ⟨W.heap.size, 7, none⟩ = some (.slice o.wa.ao o.wa.n o.wa.cap) ∧ V.cell? ⟨W.heap.size, 8, none⟩ = some (.bool o.has) ∧ V.cell? ⟨W.heap.size, 9, none⟩ = some (.slice o.so o.sn o.sc) ∧ V.cell? ⟨w8.heap.size, 0, none⟩ = some (.int .i64 r.2.e) ∧ V.cell? ⟨w8.heap.size, 1, none⟩ = some (.slice ra rn rc) ∧ V.cell? ⟨w8.heap.size, 2, none⟩ = some (.bool r.2.more)) (by kernel_rfl) (zHS.out _ zE0) (fun zH0 => ?_)
            have Y0 : TB wd.drew w6.heap.size ⟨#[]⟩ ⟨#[]⟩ cs := Yb.below (Below.refl _ _).drew
            obtain ⟨zv0, hv0⟩ : ∃ v, v = wd.drew := ⟨_, rfl⟩
            rw [← hv0] at zH0 zE0 Y0 ⊢
            clear hv0
            refine hr_take_w 0 (some 74) (.pointer (some ⟨w6.heap.size, 0, none⟩)) rfl rfl (by kernel_rfl) (by kernel_rfl) (by kernel_rfl) rfl (fun W hW => by obtain ⟨h0, h1, h2, h3, h4, h5, h6, h7, h8, h9, h10, h11, h12⟩ := hW; go_simp) zH0 ?_
            simp only [Act.put, List.setIfInBounds_toArray, List.set_cons_zero, List.set_cons_succ]
            refine hr_take_w 2 (some 76) (.slice ao n5 cap5) rfl rfl (by kernel_rfl) (by kernel_rfl) (by kernel_rfl) rfl (fun W hW => by obtain ⟨h0, h1, h2, h3, h4, h5, h6, h7, h8, h9, h10, h11, h12⟩ := hW; go_simp) zH0 ?_
            simp only [Act.put, List.setIfInBounds_toArray, List.set_cons_zero, List.set_cons_succ]
            refine hr_call_w 1 (some 75) 17 #[.pointer (some ⟨w6.heap.size, 0, none⟩)] rfl rfl (by kernel_rfl) rfl (by go_simp) (fun v w' => ∃ ao2 m2 cap2 cl2, v = .slice ao2 m2 cap2 ∧ (CL w' ao2 m2 cap2 cl2 ∧ cl2.map CA.c = cs) ∧ Below zv0.heap.size zv0 w') ((HCu.out zv0 Y0).mono (by
              rintro e w' ⟨ao2, m2, cap2, cl2, rfl, F, C⟩
              exact ⟨_, rfl, ao2, m2, cap2, cl2, rfl, F, C⟩)) ?_
            rintro v zv1 ⟨ao2, m2, cap2, cl2, rfl, zF0, zC0⟩
            have zE1 := zE0.trans (Wr.of zC0)
            have zH1 := zHS.out zv1 zE1
            have Y0 := Y0.below zC0
            refine ⟨zH1, ?_⟩
            simp only [Act.put, List.setIfInBounds_toArray, List.set_cons_zero, List.set_cons_succ]
            obtain ⟨-, Lx, -, -, Bx⟩ := HXb.out zv1 zE1
            obtain rfl : n5 = m2 := zF0.1.len_of Lx (by rw [zF0.2, HM5.out])
            have CSm := same10_any zv1 ao2 ao n5 cap2 cap5 cl2 cl zF0.1 Lx (by rw [zF0.2, HM5.out]) (by omega)
            refine hr_call_w 3 (some 77) 16 #[.slice ao2 n5 cap2, .slice ao n5 cap5] rfl rfl (by kernel_rfl) rfl (by go_simp) (fun v w' => v = .bool true ∧ Below zv1.heap.size zv1 w') ((CSm).mono (by
              rintro e w' ⟨rfl, C⟩
              exact ⟨_, rfl, rfl, C⟩)) ?_
            rintro v zv2 ⟨rfl, zC1⟩
            have zE2 := zE1.trans (Wr.of zC1)
            have zH2 := zHS.out zv2 zE2
            have Y0 := Y0.below zC1
            clear CSm Lx Bx
            refine ⟨zH2, ?_⟩
            simp only [Act.put, List.setIfInBounds_toArray, List.set_cons_zero, List.set_cons_succ]
            refine hr_take_w 4 (some 78) (.bool true) rfl rfl (by kernel_rfl) (by kernel_rfl) (by kernel_rfl) rfl (fun W hW => by obtain ⟨h0, h1, h2, h3, h4, h5, h6, h7, h8, h9, h10, h11, h12⟩ := hW; go_simp) zH2 ?_
            simp only [Act.put, List.setIfInBounds_toArray, List.set_cons_zero, List.set_cons_succ]
            refine hr_take_w 5 (some 79) (.pointer (some ⟨w6.heap.size, 0, none⟩)) rfl rfl (by kernel_rfl) (by kernel_rfl) (by kernel_rfl) rfl (fun W hW => by obtain ⟨h0, h1, h2, h3, h4, h5, h6, h7, h8, h9, h10, h11, h12⟩ := hW; go_simp) zH2 ?_
            simp only [Act.put, List.setIfInBounds_toArray, List.set_cons_zero, List.set_cons_succ]
            refine hr_take_w 7 (some 81) (.slice ro 32 rcp) rfl rfl (by kernel_rfl) (by kernel_rfl) (by kernel_rfl) rfl (fun W hW => by obtain ⟨h0, h1, h2, h3, h4, h5, h6, h7, h8, h9, h10, h11, h12⟩ := hW; go_simp) zH2 ?_
            simp only [Act.put, List.setIfInBounds_toArray, List.set_cons_zero, List.set_cons_succ]
            refine hr_call_w 6 (some 80) 20 #[.pointer (some ⟨w6.heap.size, 0, none⟩)] rfl rfl (by kernel_rfl) rfl (by go_simp) (fun v w' => ∃ ro2 rp2, v = .slice ro2 32 rp2 ∧ Sl w' ro2 32 rp2 (rootT ⟨#[]⟩ ⟨#[]⟩ cs) ∧ Below zv2.heap.size zv2 w') ((HRu.out zv2 (HXb.out _ zE2).2.2.2.2 Y0).mono (by
              rintro e w' ⟨ro2, rp2, rfl, F, C⟩
              exact ⟨_, rfl, ro2, rp2, rfl, F, C⟩)) ?_
            rintro v zv3 ⟨ro2, rp2, rfl, zF2, zC2⟩
            have zE3 := zE2.trans (Wr.of zC2)
            have zH3 := zHS.out zv3 zE3
            have Y0 := Y0.below zC2
            refine ⟨zH3, ?_⟩
            simp only [Act.put, List.setIfInBounds_toArray, List.set_cons_zero, List.set_cons_succ]
            have CSr := same_true zv3 ro2 ro 32 rp2 32 rcp _ zF2 (HXb.out zv3 zE3).2.2.1
            refine hr_call_w 8 (some 82) 19 #[.slice ro2 32 rp2, .slice ro 32 rcp] rfl rfl (by kernel_rfl) rfl (by go_simp) (fun v w' => v = .bool true ∧ Below zv3.heap.size zv3 w') ((CSr).mono (by
              rintro e w' ⟨rfl, C⟩
              exact ⟨_, rfl, rfl, C⟩)) ?_
            rintro v zv4 ⟨rfl, zC3⟩
            have zE4 := zE3.trans (Wr.of zC3)
            have zH4 := zHS.out zv4 zE4
            have Y0 := Y0.below zC3
            clear CSr
            refine ⟨zH4, ?_⟩
            simp only [Act.put, List.setIfInBounds_toArray, List.set_cons_zero, List.set_cons_succ]
            refine hr_take_w 9 (some 83) (.bool true) rfl rfl (by kernel_rfl) (by kernel_rfl) (by kernel_rfl) rfl (fun W hW => by obtain ⟨h0, h1, h2, h3, h4, h5, h6, h7, h8, h9, h10, h11, h12⟩ := hW; go_simp) zH4 ?_
            simp only [Act.put, List.setIfInBounds_toArray, List.set_cons_zero, List.set_cons_succ]
            refine hr_take_w 10 (some 84) (.bool true) rfl rfl (by kernel_rfl) (by kernel_rfl) (by kernel_rfl) rfl (fun W hW => by obtain ⟨h0, h1, h2, h3, h4, h5, h6, h7, h8, h9, h10, h11, h12⟩ := hW; go_simp) zH4 ?_
            simp only [Act.put, List.setIfInBounds_toArray, List.set_cons_zero, List.set_cons_succ]
            refine hr_take_w 11 (some 85) (.pointer (some ⟨w6.heap.size, 0, none⟩)) rfl rfl (by kernel_rfl) (by kernel_rfl) (by kernel_rfl) rfl (fun W hW => by obtain ⟨h0, h1, h2, h3, h4, h5, h6, h7, h8, h9, h10, h11, h12⟩ := hW; go_simp) zH4 ?_
            simp only [Act.put, List.setIfInBounds_toArray, List.set_cons_zero, List.set_cons_succ]
            refine hr_take_w 12 (some 86) (.agg #[.int .i64 o.kind, .string o.row, .string o.fam, .string o.qual, .int .u64 o.time, .string o.to, .slice o.va.ao o.va.n o.va.cap, .slice o.wa.ao o.wa.n o.wa.cap, .bool o.has, .slice o.so o.sn o.sc]) rfl rfl (by kernel_rfl) (by kernel_rfl) (by kernel_rfl) rfl (fun W hW => by obtain ⟨h0, h1, h2, h3, h4, h5, h6, h7, h8, h9, h10, h11, h12⟩ := hW; go_simp) zH4 ?_
            simp only [Act.put, List.setIfInBounds_toArray, List.set_cons_zero, List.set_cons_succ]
            refine hr_take_w 14 (some 88) (.agg #[.int .i64 r.2.e, .slice ra rn rc, .bool r.2.more]) rfl rfl (by kernel_rfl) (by kernel_rfl) (by kernel_rfl) rfl (fun W hW => by obtain ⟨h0, h1, h2, h3, h4, h5, h6, h7, h8, h9, h10, h11, h12⟩ := hW; go_simp) zH4 ?_
            simp only [Act.put, List.setIfInBounds_toArray, List.set_cons_zero, List.set_cons_succ]
            refine hr_call_w 13 (some 87) 15 #[.pointer (some ⟨w6.heap.size, 0, none⟩), .agg #[.int .i64 o.kind, .string o.row, .string o.fam, .string o.qual, .int .u64 o.time, .string o.to, .slice o.va.ao o.va.n o.va.cap, .slice o.wa.ao o.wa.n o.wa.cap, .bool o.has, .slice o.so o.sn o.sc]] rfl rfl (by kernel_rfl) rfl (by go_simp) (fun v w' => ∃ xa xn xc xl, v = .agg #[.int .i64 r.2.e, .slice xa xn xc, .bool r.2.more] ∧ (CL w' xa xn xc xl ∧ xl.map CA.c = r.2.cells ∧ TB w' w6.heap.size ⟨#[]⟩ ⟨#[]⟩ r.1) ∧ Wr w6.heap.size zv4 w') ((HAu.out zv4 (HXb.out _ zE4).2.2.2.2 Y0).mono (by
              rintro e w' ⟨xa, xn, xc, xl, rfl, F, C⟩
              exact ⟨_, rfl, xa, xn, xc, xl, rfl, F, C⟩)) ?_
            rintro v zv5 ⟨xa, xn, xc, xl, rfl, zF4, zC4⟩
            have zE5 := zE4.trans zC4
            have zH5 := zHS.out zv5 zE5
            clear Y0
            refine ⟨zH5, ?_⟩
            simp only [Act.put, List.setIfInBounds_toArray, List.set_cons_zero, List.set_cons_succ]
            have Y1 := zF4.2.2
            obtain rfl : xn = rn := zF4.1.len_of (HXb.out _ zE5).2.2.2.1 (by rw [zF4.2.1, HRL.out]) |>.symm
            have CRs := rresults_any zv5 r.2.e xa ra xn xc rc xl rl r.2.more zF4.1 (HXb.out _ zE5).2.2.2.1 (by rw [zF4.2.1, HRL.out]) hrn
            unfold resV at CRs
            refine hr_call_w 15 (some 89) 14 #[.agg #[.int .i64 r.2.e, .slice xa xn xc, .bool r.2.more], .agg #[.int .i64 r.2.e, .slice ra xn rc, .bool r.2.more]] rfl rfl (by kernel_rfl) rfl (by go_simp) (fun v w' => v = .bool true ∧ Below zv5.heap.size zv5 w') ((CRs).mono (by
              rintro e w' ⟨rfl, C⟩
              exact ⟨_, rfl, rfl, C⟩)) ?_
            rintro v zv6 ⟨rfl, zC5⟩
            have zE6 := zE5.trans (Wr.of zC5)
            have zH6 := zHS.out zv6 zE6
            have Y1 := Y1.below zC5
            clear CRs
            refine ⟨zH6, ?_⟩
            simp only [Act.put, List.setIfInBounds_toArray, List.set_cons_zero, List.set_cons_succ]
            refine hr_take_w 16 (some 90) (.bool true) rfl rfl (by kernel_rfl) (by kernel_rfl) (by kernel_rfl) rfl (fun W hW => by obtain ⟨h0, h1, h2, h3, h4, h5, h6, h7, h8, h9, h10, h11, h12⟩ := hW; go_simp) zH6 ?_
            simp only [Act.put, List.setIfInBounds_toArray, List.set_cons_zero, List.set_cons_succ]
            refine hr_take_w 17 (some 91) (.bool true) rfl rfl (by kernel_rfl) (by kernel_rfl) (by kernel_rfl) rfl (fun W hW => by obtain ⟨h0, h1, h2, h3, h4, h5, h6, h7, h8, h9, h10, h11, h12⟩ := hW; go_simp) zH6 ?_
            simp only [Act.put, List.setIfInBounds_toArray, List.set_cons_zero, List.set_cons_succ]
            refine hr_take_w 18 (some 92) (.pointer (some ⟨w6.heap.size, 0, none⟩)) rfl rfl (by kernel_rfl) (by kernel_rfl) (by kernel_rfl) rfl (fun W hW => by obtain ⟨h0, h1, h2, h3, h4, h5, h6, h7, h8, h9, h10, h11, h12⟩ := hW; go_simp) zH6 ?_
            simp only [Act.put, List.setIfInBounds_toArray, List.set_cons_zero, List.set_cons_succ]
            refine hr_take_w 20 (some 94) (.pointer (some ⟨w3.heap.size, 0, none⟩)) rfl rfl (by kernel_rfl) (by kernel_rfl) (by kernel_rfl) rfl (fun W hW => by obtain ⟨h0, h1, h2, h3, h4, h5, h6, h7, h8, h9, h10, h11, h12⟩ := hW; go_simp) zH6 ?_
            simp only [Act.put, List.setIfInBounds_toArray, List.set_cons_zero, List.set_cons_succ]
            refine hr_call_w 19 (some 93) 17 #[.pointer (some ⟨w6.heap.size, 0, none⟩)] rfl rfl (by kernel_rfl) rfl (by go_simp) (fun v w' => ∃ ao3 m3 cap3 cl3, v = .slice ao3 m3 cap3 ∧ (CL w' ao3 m3 cap3 cl3 ∧ cl3.map CA.c = r.1) ∧ Below zv6.heap.size zv6 w') ((HCr.out zv6 _ Y1).mono (by
              rintro e w' ⟨ao3, m3, cap3, cl3, rfl, F, C⟩
              exact ⟨_, rfl, ao3, m3, cap3, cl3, rfl, F, C⟩)) ?_
            rintro v zv7 ⟨ao3, m3, cap3, cl3, rfl, zF6, zC6⟩
            have zE7 := zE6.trans (Wr.of zC6)
            have zH7 := zHS.out zv7 zE7
            clear Y1
            refine ⟨zH7, ?_⟩
            simp only [Act.put, List.setIfInBounds_toArray, List.set_cons_zero, List.set_cons_succ]
            have L3 := zF6.1
            refine hr_call_w 21 (some 95) 17 #[.pointer (some ⟨w3.heap.size, 0, none⟩)] rfl rfl (by kernel_rfl) rfl (by go_simp) (fun v w' => ∃ ao4 m4 cap4 cl4, v = .slice ao4 m4 cap4 ∧ (CL w' ao4 m4 cap4 cl4 ∧ cl4.map CA.c = r.1) ∧ Below zv7.heap.size zv7 w') ((HCr.out zv7 _ (HXb.out _ zE7).1).mono (by
              rintro e w' ⟨ao4, m4, cap4, cl4, rfl, F, C⟩
              exact ⟨_, rfl, ao4, m4, cap4, cl4, rfl, F, C⟩)) ?_
            rintro v zv8 ⟨ao4, m4, cap4, cl4, rfl, zF7, zC7⟩
            have zE8 := zE7.trans (Wr.of zC7)
            have zH8 := zHS.out zv8 zE8
            have L3 := L3.below zC7
            refine ⟨zH8, ?_⟩
            simp only [Act.put, List.setIfInBounds_toArray, List.set_cons_zero, List.set_cons_succ]
            obtain rfl : m3 = m4 := zF7.1.len_of L3 (by rw [zF7.2, zF6.2])
            have hm3 : m3 ≤ 1000 := by
              have h1 := L3.len
              have h2 : cl3.length = r.1.length := by rw [← zF6.2, List.length_map]
              have h3 := HS1.out.len
              omega
            have CSm := same10_any zv8 ao3 ao4 m3 cap3 cap4 cl3 cl4 L3 zF7.1 (by rw [zF6.2, zF7.2]) hm3
            refine hr_call_w 22 (some 96) 16 #[.slice ao3 m3 cap3, .slice ao4 m3 cap4] rfl rfl (by kernel_rfl) rfl (by go_simp) (fun v w' => v = .bool true ∧ Below zv8.heap.size zv8 w') ((CSm).mono (by
              rintro e w' ⟨rfl, C⟩
              exact ⟨_, rfl, rfl, C⟩)) ?_
            rintro v zv9 ⟨rfl, zC8⟩
            have zE9 := zE8.trans (Wr.of zC8)
            have zH9 := zHS.out zv9 zE9
            clear CSm
            refine ⟨zH9, ?_⟩
            simp only [Act.put, List.setIfInBounds_toArray, List.set_cons_zero, List.set_cons_succ]
            refine hr_take_w 23 (some 97) (.bool true) rfl rfl (by kernel_rfl) (by kernel_rfl) (by kernel_rfl) rfl (fun W hW => by obtain ⟨h0, h1, h2, h3, h4, h5, h6, h7, h8, h9, h10, h11, h12⟩ := hW; go_simp) zH9 ?_
            simp only [Act.put, List.setIfInBounds_toArray, List.set_cons_zero, List.set_cons_succ]
            refine hr_take_w 24 (some 98) (.bool true) rfl rfl (by kernel_rfl) (by kernel_rfl) (by kernel_rfl) rfl (fun W hW => by obtain ⟨h0, h1, h2, h3, h4, h5, h6, h7, h8, h9, h10, h11, h12⟩ := hW; go_simp) zH9 ?_
            simp only [Act.put, List.setIfInBounds_toArray, List.set_cons_zero, List.set_cons_succ]
            refine hr_call_w 25 (some 99) 10 #[] rfl rfl (by kernel_rfl) rfl (by go_simp) (fun v w' => v = .bool true ∧ Below zv9.heap.size zv9 w') ((HAL.out zv9 (C1.trans ((HXb.out _ zE9).2.2.2.2.mono C1.size))).mono (by
              rintro e w' ⟨rfl, C⟩
              exact ⟨_, rfl, rfl, C⟩)) ?_
            rintro v zv10 ⟨rfl, zC9⟩
            have zE10 := zE9.trans (Wr.of zC9)
            have zH10 := zHS.out zv10 zE10
            refine ⟨zH10, ?_⟩
            simp only [Act.put, List.setIfInBounds_toArray, List.set_cons_zero, List.set_cons_succ]
            refine hr_take_w 26 (some 100) (.bool true) rfl rfl (by kernel_rfl) (by kernel_rfl) (by kernel_rfl) rfl (fun W hW => by obtain ⟨h0, h1, h2, h3, h4, h5, h6, h7, h8, h9, h10, h11, h12⟩ := hW; go_simp) zH10 ?_
            simp only [Act.put, List.setIfInBounds_toArray, List.set_cons_zero, List.set_cons_succ]
            refine hr_take_w 27 (some 4) (.bool true) rfl rfl (by kernel_rfl) (by kernel_rfl) (by kernel_rfl) rfl (fun W hW => by obtain ⟨h0, h1, h2, h3, h4, h5, h6, h7, h8, h9, h10, h11, h12⟩ := hW; go_simp) zH10 ?_
            simp only [Act.put, List.setIfInBounds_toArray, List.set_cons_zero, List.set_cons_succ]
            refine wpAnyH_done (by kernel_rfl) ?_ _
            refine NoPanic.normal ?_
            go_wp2
            go_ret
            exact ⟨rfl, C1.trans ((HXb.out _ zE10).2.2.2.2.mono C1.size)⟩
        · have z0 : (r.2.e != 0) = true := by simp [hz]
          have hrc : r.1 = cs := by
            have h := hz
            rw [HR.out] at h ⊢
            exact mApply_quiet (.inl h)
          clear hz
          have CE := cells_st W9 w3.heap.size ⟨#[]⟩ ⟨#[]⟩ cs (hrc ▸ Xb) HS.out.srt HS.out.good (by decide) (by decide) HS.out.rows (by have := HS.out.len; omega)
          skip
          go_wp2_with fail
          rw [← hW9]
          clear hW9 o0 o1 o2 o3 o4 o5 o6 o7 o8 o9
          refine CE.mono ?_
          rintro e wc1 ⟨ao2, m2, cap2, cl2, rfl, M2, -, hm2, Cc1⟩
          have Xb := Xb.below Cc1
          have Yb := Yb.below Cc1
          have Lb := Lb.below Cc1
          have Sb := Sb.below Cc1
          have Rb := Rb.keep Cc1
          have Qb := Qb.below Cc1
          have Ob := Ob.keep Cc1
          have Bb := Bb.trans (Cc1.mono Bb.size)
          clear CE
          obtain rfl : n5 = m2 := M2.len_of Lb (by rw [hm2, HM5.out])
          have CS := same10_any wc1 ao2 ao n5 cap2 cap5 cl2 cl M2 Lb (by rw [hm2, HM5.out]) (by omega)
          clear hm2 M2 Cc1
          go_wp2_with fail
          refine CS.mono ?_
          rintro e wc2 ⟨rfl, Cc2⟩
          have Xb := Xb.below Cc2
          have Yb := Yb.below Cc2
          have Lb := Lb.below Cc2
          have Sb := Sb.below Cc2
          have Rb := Rb.keep Cc2
          have Qb := Qb.below Cc2
          have Ob := Ob.keep Cc2
          have Bb := Bb.trans (Cc2.mono Bb.size)
          clear CS
          have CR := troot_any wc2 w3.heap.size ⟨#[]⟩ ⟨#[]⟩ cs (HTb.out.below Bb t2) (hrc ▸ Xb) HS.out.good (by have := HS.out.len; omega) (by decide) (by decide)
          clear Cc2
          go_wp2_with fail
          refine CR.mono ?_
          rintro e wc3 ⟨ro2, rp2, rfl, S2, Cc3⟩
          have Xb := Xb.below Cc3
          have Yb := Yb.below Cc3
          have Lb := Lb.below Cc3
          have Sb := Sb.below Cc3
          have Rb := Rb.keep Cc3
          have Qb := Qb.below Cc3
          have Ob := Ob.keep Cc3
          have Bb := Bb.trans (Cc3.mono Bb.size)
          clear CR
          have CSr := same_true wc3 ro2 ro 32 rp2 32 rcp _ S2 Sb
          clear Cc3 S2
          go_wp2_with fail
          refine CSr.mono ?_
          rintro e wd ⟨rfl, Cc4⟩
          have Xb := Xb.below Cc4
          have Yb := Yb.below Cc4
          have Lb := Lb.below Cc4
          have Sb := Sb.below Cc4
          have Rb := Rb.keep Cc4
          have Qb := Qb.below Cc4
          have Ob := Ob.keep Cc4
          have Bb := Bb.trans (Cc4.mono Bb.size)
          clear CSr Cc4
          have HXb : Hid (∀ V, Wr w6.heap.size wd V → TB V w3.heap.size ⟨#[]⟩ ⟨#[]⟩ r.1 ∧ CL V ao n5 cap5 cl ∧ Sl V ro 32 rcp (rootT ⟨#[]⟩ ⟨#[]⟩ cs) ∧ CL V ra rn rc rl ∧ Below W1.heap.size W1 V) := fun V hV => by
            refine ⟨TB.other Yb hV hpq Xb, ?_, ?_, ?_, Wr.below Bb hV Bb.size hqW⟩ <;> obtain ⟨ub, Ab, -⟩ := Yb
            · exact Lb.tb Ab hV
            · exact Sb.tb Ab hV
            · exact Qb.tb Ab hV
          have HOb : Hid (OC wd W.heap.size o) := Ob
          have HRb : Hid (RC wd w8.heap.size r.2.e ra rn rc r.2.more) := Rb
          clear Xb Lb Sb Qb Ob Rb
          go_wp2
          have zHS : Hid (∀ V, Wr w6.heap.size wd V → V.cell? ⟨W.heap.size, 0, none⟩ = some (.int .i64 o.kind) ∧ V.cell? ⟨W.heap.size, 1, none⟩ = some (.string o.row) ∧ V.cell? ⟨W.heap.size, 2, none⟩ = some (.string o.fam) ∧ V.cell? ⟨W.heap.size, 3, none⟩ = some (.string o.qual) ∧ V.cell? ⟨W.heap.size, 4, none⟩ = some (.int .u64 o.time) ∧ V.cell? ⟨W.heap.size, 5, none⟩ = some (.string o.to) ∧ V.cell? ⟨W.heap.size, 6, none⟩ = some (.slice o.va.ao o.va.n o.va.cap) ∧ V.cell? ⟨W.heap.size, 7, none⟩ = some (.slice o.wa.ao o.wa.n o.wa.cap) ∧ V.cell? ⟨W.heap.size, 8, none⟩ = some (.bool o.has) ∧ V.cell? ⟨W.heap.size, 9, none⟩ = some (.slice o.so o.sn o.sc) ∧ V.cell? ⟨w8.heap.size, 0, none⟩ = some (.int .i64 r.2.e) ∧ V.cell? ⟨w8.heap.size, 1, none⟩ = some (.slice ra rn rc) ∧ V.cell? ⟨w8.heap.size, 2, none⟩ = some (.bool r.2.more)) := fun V hV => by
            have h := HOb.out.wr hV hoq
            have g := HRb.out.wr hV hrq
            exact ⟨h.cs.c0, h.cs.c1, h.cs.c2, h.cs.c3, h.cs.c4, h.cs.c5, h.cs.c6, h.cs.c7, h.cs.c8, h.cs.c9, g.c0, g.c1, g.c2⟩
          have zE0 : Wr w6.heap.size wd wd.drew := Wr.of (Below.refl _ _).drew
          refine wp_region_noPanic ?_
          refine wp_region_held_drew (S := fun V => V.cell? ⟨W.heap.size, 0, none⟩ = some (.int .i64 o.kind) ∧ V.cell? ⟨W.heap.size, 1, none⟩ = some (.string o.row) ∧ V.cell? ⟨W.heap.size, 2, none⟩ = some (.string o.fam) ∧ V.cell? ⟨W.heap.size, 3, none⟩ = some (.string o.qual) ∧ V.cell? ⟨W.heap.size, 4, none⟩ = some (.int .u64 o.time) ∧ V.cell? ⟨W.heap.size, 5, none⟩ = some (.string o.to) ∧ V.cell? ⟨W.heap.size, 6, none⟩ = some (.slice o.va.ao o.va.n o.va.cap) ∧ V.cell? ⟨W.heap.size, 7, none⟩ = some (.slice o.wa.ao o.wa.n o.wa.cap) ∧ V.cell? ⟨W.heap.size, 8, none⟩ = some (.bool o.has) ∧ V.cell? ⟨W.heap.size, 9, none⟩ = some (.slice o.so o.sn o.sc) ∧ V.cell? ⟨w8.heap.size, 0, none⟩ = some (.int .i64 r.2.e) ∧ V.cell? ⟨w8.heap.size, 1, none⟩ = some (.slice ra rn rc) ∧ V.cell? ⟨w8.heap.size, 2, none⟩ = some (.bool r.2.more)) (by kernel_rfl) (zHS.out _ zE0) (fun zH0 => ?_)
          have Y0 : TB wd.drew w6.heap.size ⟨#[]⟩ ⟨#[]⟩ cs := Yb.below (Below.refl _ _).drew
          obtain ⟨zv0, hv0⟩ : ∃ v, v = wd.drew := ⟨_, rfl⟩
          rw [← hv0] at zH0 zE0 Y0 ⊢
          clear hv0
          refine hr_take_w 0 (some 74) (.pointer (some ⟨w6.heap.size, 0, none⟩)) rfl rfl (by kernel_rfl) (by kernel_rfl) (by kernel_rfl) rfl (fun W hW => by obtain ⟨h0, h1, h2, h3, h4, h5, h6, h7, h8, h9, h10, h11, h12⟩ := hW; go_simp) zH0 ?_
          simp only [Act.put, List.setIfInBounds_toArray, List.set_cons_zero, List.set_cons_succ]
          refine hr_take_w 2 (some 76) (.slice ao n5 cap5) rfl rfl (by kernel_rfl) (by kernel_rfl) (by kernel_rfl) rfl (fun W hW => by obtain ⟨h0, h1, h2, h3, h4, h5, h6, h7, h8, h9, h10, h11, h12⟩ := hW; go_simp) zH0 ?_
          simp only [Act.put, List.setIfInBounds_toArray, List.set_cons_zero, List.set_cons_succ]
          refine hr_call_w 1 (some 75) 17 #[.pointer (some ⟨w6.heap.size, 0, none⟩)] rfl rfl (by kernel_rfl) rfl (by go_simp) (fun v w' => ∃ ao2 m2 cap2 cl2, v = .slice ao2 m2 cap2 ∧ (CL w' ao2 m2 cap2 cl2 ∧ cl2.map CA.c = cs) ∧ Below zv0.heap.size zv0 w') ((HCu.out zv0 Y0).mono (by
            rintro e w' ⟨ao2, m2, cap2, cl2, rfl, F, C⟩
            exact ⟨_, rfl, ao2, m2, cap2, cl2, rfl, F, C⟩)) ?_
          rintro v zv1 ⟨ao2, m2, cap2, cl2, rfl, zF0, zC0⟩
          have zE1 := zE0.trans (Wr.of zC0)
          have zH1 := zHS.out zv1 zE1
          have Y0 := Y0.below zC0
          refine ⟨zH1, ?_⟩
          simp only [Act.put, List.setIfInBounds_toArray, List.set_cons_zero, List.set_cons_succ]
          obtain ⟨-, Lx, -, -, Bx⟩ := HXb.out zv1 zE1
          obtain rfl : n5 = m2 := zF0.1.len_of Lx (by rw [zF0.2, HM5.out])
          have CSm := same10_any zv1 ao2 ao n5 cap2 cap5 cl2 cl zF0.1 Lx (by rw [zF0.2, HM5.out]) (by omega)
          refine hr_call_w 3 (some 77) 16 #[.slice ao2 n5 cap2, .slice ao n5 cap5] rfl rfl (by kernel_rfl) rfl (by go_simp) (fun v w' => v = .bool true ∧ Below zv1.heap.size zv1 w') ((CSm).mono (by
            rintro e w' ⟨rfl, C⟩
            exact ⟨_, rfl, rfl, C⟩)) ?_
          rintro v zv2 ⟨rfl, zC1⟩
          have zE2 := zE1.trans (Wr.of zC1)
          have zH2 := zHS.out zv2 zE2
          have Y0 := Y0.below zC1
          clear CSm Lx Bx
          refine ⟨zH2, ?_⟩
          simp only [Act.put, List.setIfInBounds_toArray, List.set_cons_zero, List.set_cons_succ]
          refine hr_take_w 4 (some 78) (.bool true) rfl rfl (by kernel_rfl) (by kernel_rfl) (by kernel_rfl) rfl (fun W hW => by obtain ⟨h0, h1, h2, h3, h4, h5, h6, h7, h8, h9, h10, h11, h12⟩ := hW; go_simp) zH2 ?_
          simp only [Act.put, List.setIfInBounds_toArray, List.set_cons_zero, List.set_cons_succ]
          refine hr_take_w 5 (some 79) (.pointer (some ⟨w6.heap.size, 0, none⟩)) rfl rfl (by kernel_rfl) (by kernel_rfl) (by kernel_rfl) rfl (fun W hW => by obtain ⟨h0, h1, h2, h3, h4, h5, h6, h7, h8, h9, h10, h11, h12⟩ := hW; go_simp) zH2 ?_
          simp only [Act.put, List.setIfInBounds_toArray, List.set_cons_zero, List.set_cons_succ]
          refine hr_take_w 7 (some 81) (.slice ro 32 rcp) rfl rfl (by kernel_rfl) (by kernel_rfl) (by kernel_rfl) rfl (fun W hW => by obtain ⟨h0, h1, h2, h3, h4, h5, h6, h7, h8, h9, h10, h11, h12⟩ := hW; go_simp) zH2 ?_
          simp only [Act.put, List.setIfInBounds_toArray, List.set_cons_zero, List.set_cons_succ]
          refine hr_call_w 6 (some 80) 20 #[.pointer (some ⟨w6.heap.size, 0, none⟩)] rfl rfl (by kernel_rfl) rfl (by go_simp) (fun v w' => ∃ ro2 rp2, v = .slice ro2 32 rp2 ∧ Sl w' ro2 32 rp2 (rootT ⟨#[]⟩ ⟨#[]⟩ cs) ∧ Below zv2.heap.size zv2 w') ((HRu.out zv2 (HXb.out _ zE2).2.2.2.2 Y0).mono (by
            rintro e w' ⟨ro2, rp2, rfl, F, C⟩
            exact ⟨_, rfl, ro2, rp2, rfl, F, C⟩)) ?_
          rintro v zv3 ⟨ro2, rp2, rfl, zF2, zC2⟩
          have zE3 := zE2.trans (Wr.of zC2)
          have zH3 := zHS.out zv3 zE3
          have Y0 := Y0.below zC2
          refine ⟨zH3, ?_⟩
          simp only [Act.put, List.setIfInBounds_toArray, List.set_cons_zero, List.set_cons_succ]
          have CSr := same_true zv3 ro2 ro 32 rp2 32 rcp _ zF2 (HXb.out zv3 zE3).2.2.1
          refine hr_call_w 8 (some 82) 19 #[.slice ro2 32 rp2, .slice ro 32 rcp] rfl rfl (by kernel_rfl) rfl (by go_simp) (fun v w' => v = .bool true ∧ Below zv3.heap.size zv3 w') ((CSr).mono (by
            rintro e w' ⟨rfl, C⟩
            exact ⟨_, rfl, rfl, C⟩)) ?_
          rintro v zv4 ⟨rfl, zC3⟩
          have zE4 := zE3.trans (Wr.of zC3)
          have zH4 := zHS.out zv4 zE4
          have Y0 := Y0.below zC3
          clear CSr
          refine ⟨zH4, ?_⟩
          simp only [Act.put, List.setIfInBounds_toArray, List.set_cons_zero, List.set_cons_succ]
          refine hr_take_w 9 (some 83) (.bool true) rfl rfl (by kernel_rfl) (by kernel_rfl) (by kernel_rfl) rfl (fun W hW => by obtain ⟨h0, h1, h2, h3, h4, h5, h6, h7, h8, h9, h10, h11, h12⟩ := hW; go_simp) zH4 ?_
          simp only [Act.put, List.setIfInBounds_toArray, List.set_cons_zero, List.set_cons_succ]
          refine hr_take_w 10 (some 84) (.bool true) rfl rfl (by kernel_rfl) (by kernel_rfl) (by kernel_rfl) rfl (fun W hW => by obtain ⟨h0, h1, h2, h3, h4, h5, h6, h7, h8, h9, h10, h11, h12⟩ := hW; go_simp) zH4 ?_
          simp only [Act.put, List.setIfInBounds_toArray, List.set_cons_zero, List.set_cons_succ]
          refine hr_take_w 11 (some 85) (.pointer (some ⟨w6.heap.size, 0, none⟩)) rfl rfl (by kernel_rfl) (by kernel_rfl) (by kernel_rfl) rfl (fun W hW => by obtain ⟨h0, h1, h2, h3, h4, h5, h6, h7, h8, h9, h10, h11, h12⟩ := hW; go_simp) zH4 ?_
          simp only [Act.put, List.setIfInBounds_toArray, List.set_cons_zero, List.set_cons_succ]
          refine hr_take_w 12 (some 86) (.agg #[.int .i64 o.kind, .string o.row, .string o.fam, .string o.qual, .int .u64 o.time, .string o.to, .slice o.va.ao o.va.n o.va.cap, .slice o.wa.ao o.wa.n o.wa.cap, .bool o.has, .slice o.so o.sn o.sc]) rfl rfl (by kernel_rfl) (by kernel_rfl) (by kernel_rfl) rfl (fun W hW => by obtain ⟨h0, h1, h2, h3, h4, h5, h6, h7, h8, h9, h10, h11, h12⟩ := hW; go_simp) zH4 ?_
          simp only [Act.put, List.setIfInBounds_toArray, List.set_cons_zero, List.set_cons_succ]
          refine hr_take_w 14 (some 88) (.agg #[.int .i64 r.2.e, .slice ra rn rc, .bool r.2.more]) rfl rfl (by kernel_rfl) (by kernel_rfl) (by kernel_rfl) rfl (fun W hW => by obtain ⟨h0, h1, h2, h3, h4, h5, h6, h7, h8, h9, h10, h11, h12⟩ := hW; go_simp) zH4 ?_
          simp only [Act.put, List.setIfInBounds_toArray, List.set_cons_zero, List.set_cons_succ]
          refine hr_call_w 13 (some 87) 15 #[.pointer (some ⟨w6.heap.size, 0, none⟩), .agg #[.int .i64 o.kind, .string o.row, .string o.fam, .string o.qual, .int .u64 o.time, .string o.to, .slice o.va.ao o.va.n o.va.cap, .slice o.wa.ao o.wa.n o.wa.cap, .bool o.has, .slice o.so o.sn o.sc]] rfl rfl (by kernel_rfl) rfl (by go_simp) (fun v w' => ∃ xa xn xc xl, v = .agg #[.int .i64 r.2.e, .slice xa xn xc, .bool r.2.more] ∧ (CL w' xa xn xc xl ∧ xl.map CA.c = r.2.cells ∧ TB w' w6.heap.size ⟨#[]⟩ ⟨#[]⟩ r.1) ∧ Wr w6.heap.size zv4 w') ((HAu.out zv4 (HXb.out _ zE4).2.2.2.2 Y0).mono (by
            rintro e w' ⟨xa, xn, xc, xl, rfl, F, C⟩
            exact ⟨_, rfl, xa, xn, xc, xl, rfl, F, C⟩)) ?_
          rintro v zv5 ⟨xa, xn, xc, xl, rfl, zF4, zC4⟩
          have zE5 := zE4.trans zC4
          have zH5 := zHS.out zv5 zE5
          clear Y0
          refine ⟨zH5, ?_⟩
          simp only [Act.put, List.setIfInBounds_toArray, List.set_cons_zero, List.set_cons_succ]
          have Y1 := zF4.2.2
          obtain rfl : xn = rn := zF4.1.len_of (HXb.out _ zE5).2.2.2.1 (by rw [zF4.2.1, HRL.out]) |>.symm
          have CRs := rresults_any zv5 r.2.e xa ra xn xc rc xl rl r.2.more zF4.1 (HXb.out _ zE5).2.2.2.1 (by rw [zF4.2.1, HRL.out]) hrn
          unfold resV at CRs
          refine hr_call_w 15 (some 89) 14 #[.agg #[.int .i64 r.2.e, .slice xa xn xc, .bool r.2.more], .agg #[.int .i64 r.2.e, .slice ra xn rc, .bool r.2.more]] rfl rfl (by kernel_rfl) rfl (by go_simp) (fun v w' => v = .bool true ∧ Below zv5.heap.size zv5 w') ((CRs).mono (by
            rintro e w' ⟨rfl, C⟩
            exact ⟨_, rfl, rfl, C⟩)) ?_
          rintro v zv6 ⟨rfl, zC5⟩
          have zE6 := zE5.trans (Wr.of zC5)
          have zH6 := zHS.out zv6 zE6
          have Y1 := Y1.below zC5
          clear CRs
          refine ⟨zH6, ?_⟩
          simp only [Act.put, List.setIfInBounds_toArray, List.set_cons_zero, List.set_cons_succ]
          refine hr_take_w 16 (some 90) (.bool true) rfl rfl (by kernel_rfl) (by kernel_rfl) (by kernel_rfl) rfl (fun W hW => by obtain ⟨h0, h1, h2, h3, h4, h5, h6, h7, h8, h9, h10, h11, h12⟩ := hW; go_simp) zH6 ?_
          simp only [Act.put, List.setIfInBounds_toArray, List.set_cons_zero, List.set_cons_succ]
          refine hr_take_w 17 (some 91) (.bool true) rfl rfl (by kernel_rfl) (by kernel_rfl) (by kernel_rfl) rfl (fun W hW => by obtain ⟨h0, h1, h2, h3, h4, h5, h6, h7, h8, h9, h10, h11, h12⟩ := hW; go_simp) zH6 ?_
          simp only [Act.put, List.setIfInBounds_toArray, List.set_cons_zero, List.set_cons_succ]
          refine hr_take_w 18 (some 92) (.pointer (some ⟨w6.heap.size, 0, none⟩)) rfl rfl (by kernel_rfl) (by kernel_rfl) (by kernel_rfl) rfl (fun W hW => by obtain ⟨h0, h1, h2, h3, h4, h5, h6, h7, h8, h9, h10, h11, h12⟩ := hW; go_simp) zH6 ?_
          simp only [Act.put, List.setIfInBounds_toArray, List.set_cons_zero, List.set_cons_succ]
          refine hr_take_w 20 (some 94) (.pointer (some ⟨w3.heap.size, 0, none⟩)) rfl rfl (by kernel_rfl) (by kernel_rfl) (by kernel_rfl) rfl (fun W hW => by obtain ⟨h0, h1, h2, h3, h4, h5, h6, h7, h8, h9, h10, h11, h12⟩ := hW; go_simp) zH6 ?_
          simp only [Act.put, List.setIfInBounds_toArray, List.set_cons_zero, List.set_cons_succ]
          refine hr_call_w 19 (some 93) 17 #[.pointer (some ⟨w6.heap.size, 0, none⟩)] rfl rfl (by kernel_rfl) rfl (by go_simp) (fun v w' => ∃ ao3 m3 cap3 cl3, v = .slice ao3 m3 cap3 ∧ (CL w' ao3 m3 cap3 cl3 ∧ cl3.map CA.c = r.1) ∧ Below zv6.heap.size zv6 w') ((HCr.out zv6 _ Y1).mono (by
            rintro e w' ⟨ao3, m3, cap3, cl3, rfl, F, C⟩
            exact ⟨_, rfl, ao3, m3, cap3, cl3, rfl, F, C⟩)) ?_
          rintro v zv7 ⟨ao3, m3, cap3, cl3, rfl, zF6, zC6⟩
          have zE7 := zE6.trans (Wr.of zC6)
          have zH7 := zHS.out zv7 zE7
          clear Y1
          refine ⟨zH7, ?_⟩
          simp only [Act.put, List.setIfInBounds_toArray, List.set_cons_zero, List.set_cons_succ]
          have L3 := zF6.1
          refine hr_call_w 21 (some 95) 17 #[.pointer (some ⟨w3.heap.size, 0, none⟩)] rfl rfl (by kernel_rfl) rfl (by go_simp) (fun v w' => ∃ ao4 m4 cap4 cl4, v = .slice ao4 m4 cap4 ∧ (CL w' ao4 m4 cap4 cl4 ∧ cl4.map CA.c = r.1) ∧ Below zv7.heap.size zv7 w') ((HCr.out zv7 _ (HXb.out _ zE7).1).mono (by
            rintro e w' ⟨ao4, m4, cap4, cl4, rfl, F, C⟩
            exact ⟨_, rfl, ao4, m4, cap4, cl4, rfl, F, C⟩)) ?_
          rintro v zv8 ⟨ao4, m4, cap4, cl4, rfl, zF7, zC7⟩
          have zE8 := zE7.trans (Wr.of zC7)
          have zH8 := zHS.out zv8 zE8
          have L3 := L3.below zC7
          refine ⟨zH8, ?_⟩
          simp only [Act.put, List.setIfInBounds_toArray, List.set_cons_zero, List.set_cons_succ]
          obtain rfl : m3 = m4 := zF7.1.len_of L3 (by rw [zF7.2, zF6.2])
          have hm3 : m3 ≤ 1000 := by
            have h1 := L3.len
            have h2 : cl3.length = r.1.length := by rw [← zF6.2, List.length_map]
            have h3 := HS1.out.len
            omega
          have CSm := same10_any zv8 ao3 ao4 m3 cap3 cap4 cl3 cl4 L3 zF7.1 (by rw [zF6.2, zF7.2]) hm3
          refine hr_call_w 22 (some 96) 16 #[.slice ao3 m3 cap3, .slice ao4 m3 cap4] rfl rfl (by kernel_rfl) rfl (by go_simp) (fun v w' => v = .bool true ∧ Below zv8.heap.size zv8 w') ((CSm).mono (by
            rintro e w' ⟨rfl, C⟩
            exact ⟨_, rfl, rfl, C⟩)) ?_
          rintro v zv9 ⟨rfl, zC8⟩
          have zE9 := zE8.trans (Wr.of zC8)
          have zH9 := zHS.out zv9 zE9
          clear CSm
          refine ⟨zH9, ?_⟩
          simp only [Act.put, List.setIfInBounds_toArray, List.set_cons_zero, List.set_cons_succ]
          refine hr_take_w 23 (some 97) (.bool true) rfl rfl (by kernel_rfl) (by kernel_rfl) (by kernel_rfl) rfl (fun W hW => by obtain ⟨h0, h1, h2, h3, h4, h5, h6, h7, h8, h9, h10, h11, h12⟩ := hW; go_simp) zH9 ?_
          simp only [Act.put, List.setIfInBounds_toArray, List.set_cons_zero, List.set_cons_succ]
          refine hr_take_w 24 (some 98) (.bool true) rfl rfl (by kernel_rfl) (by kernel_rfl) (by kernel_rfl) rfl (fun W hW => by obtain ⟨h0, h1, h2, h3, h4, h5, h6, h7, h8, h9, h10, h11, h12⟩ := hW; go_simp) zH9 ?_
          simp only [Act.put, List.setIfInBounds_toArray, List.set_cons_zero, List.set_cons_succ]
          refine hr_call_w 25 (some 99) 10 #[] rfl rfl (by kernel_rfl) rfl (by go_simp) (fun v w' => v = .bool true ∧ Below zv9.heap.size zv9 w') ((HAL.out zv9 (C1.trans ((HXb.out _ zE9).2.2.2.2.mono C1.size))).mono (by
            rintro e w' ⟨rfl, C⟩
            exact ⟨_, rfl, rfl, C⟩)) ?_
          rintro v zv10 ⟨rfl, zC9⟩
          have zE10 := zE9.trans (Wr.of zC9)
          have zH10 := zHS.out zv10 zE10
          refine ⟨zH10, ?_⟩
          simp only [Act.put, List.setIfInBounds_toArray, List.set_cons_zero, List.set_cons_succ]
          refine hr_take_w 26 (some 100) (.bool true) rfl rfl (by kernel_rfl) (by kernel_rfl) (by kernel_rfl) rfl (fun W hW => by obtain ⟨h0, h1, h2, h3, h4, h5, h6, h7, h8, h9, h10, h11, h12⟩ := hW; go_simp) zH10 ?_
          simp only [Act.put, List.setIfInBounds_toArray, List.set_cons_zero, List.set_cons_succ]
          refine hr_take_w 27 (some 4) (.bool true) rfl rfl (by kernel_rfl) (by kernel_rfl) (by kernel_rfl) rfl (fun W hW => by obtain ⟨h0, h1, h2, h3, h4, h5, h6, h7, h8, h9, h10, h11, h12⟩ := hW; go_simp) zH10 ?_
          simp only [Act.put, List.setIfInBounds_toArray, List.set_cons_zero, List.set_cons_succ]
          refine wpAnyH_done (by kernel_rfl) ?_ _
          refine NoPanic.normal ?_
          go_wp2
          go_ret
          exact ⟨rfl, C1.trans ((HXb.out _ zE10).2.2.2.2.mono C1.size)⟩
end Go.Proofs.YthlpccajnmkbjaaGreatDoor

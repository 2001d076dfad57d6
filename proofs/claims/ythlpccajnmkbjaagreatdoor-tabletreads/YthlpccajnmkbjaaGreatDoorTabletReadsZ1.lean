/-
  TabletReads.
-/
import Derived.Test.YthlpccajnmkbjaaGreatDoorTabletReadsZ0
import Derived.Test.YthlpccajnmkbjaaGreatDoorY49
import Derived.Test.YthlpccajnmkbjaaGreatDoorY47
import Derived.Test.YthlpccajnmkbjaaGreatDoorY5
namespace Go.Proofs.YthlpccajnmkbjaaGreatDoor
open Go.RowKit

section
variable {row fam qual : ByteArray} (hk : 1 ≤ row.size ∧ row.size ≤ 32 ∧ 1 ≤ fam.size ∧ fam.size ≤ 32 ∧ qual.size ≤ 32)
theorem leafK {s : SO} (h1 : onlyS s = s) (hv : s.value.length ≤ 256) (hw : s.want.length ≤ 256) (hk : s.kind = 1 ∨ s.kind = 2 ∨ s.kind = 3 ∨ s.kind = 5 ∨ s.kind = 7) (hr : 1 ≤ s.row.size ∧ s.row.size ≤ 32 ∧ 1 ≤ s.fam.size ∧ s.fam.size ≤ 32 ∧ s.qual.size ≤ 32) : leaf s 0 = true := by
  unfold leaf
  rw [h1, if_pos hk, decide_eq_true ⟨sameS_self s, .inr rfl, hv, hw⟩, Bool.true_and]
  exact decide_eq_true hr
include hk
theorem leaf_put (t : Nat) (a2 : Option Addr) (n2 c2 : Nat) (xs : List Int) (hv : xs.length ≤ 256) : leaf (OA.s ⟨1, row, fam, qual, t, ⟨#[]⟩, ⟨a2, n2, c2, xs⟩, ⟨none, 0, 0, []⟩, false, none, 0, 0⟩) 0 = true := leafK rfl hv (Nat.zero_le _) (.inl rfl) hk
theorem leaf_del (t : Nat) : leaf (OA.s ⟨2, row, fam, qual, t, ⟨#[]⟩, ⟨none, 0, 0, []⟩, ⟨none, 0, 0, []⟩, false, none, 0, 0⟩) 0 = true := leafK rfl (Nat.zero_le _) (Nat.zero_le _) (.inr (.inl rfl)) hk
theorem leaf_get : leaf (OA.s ⟨7, row, fam, qual, 0, ⟨#[]⟩, ⟨none, 0, 0, []⟩, ⟨none, 0, 0, []⟩, false, none, 0, 0⟩) 0 = true := leafK rfl (Nat.zero_le _) (Nat.zero_le _) (.inr (.inr (.inr (.inr rfl)))) hk
omit hk
theorem leaf_scan (to : ByteArray) (hr : row.size ≤ 32) (ht : to.size ≤ 32) : leaf (OA.s ⟨8, row, ⟨#[]⟩, ⟨#[]⟩, 0, to, ⟨none, 0, 0, []⟩, ⟨none, 0, 0, []⟩, false, none, 0, 0⟩) 0 = true := by
  unfold leaf
  rw [show onlyS (OA.s ⟨8, row, ⟨#[]⟩, ⟨#[]⟩, 0, to, ⟨none, 0, 0, []⟩, ⟨none, 0, 0, []⟩, false, none, 0, 0⟩) = OA.s ⟨8, row, ⟨#[]⟩, ⟨#[]⟩, 0, to, ⟨none, 0, 0, []⟩, ⟨none, 0, 0, []⟩, false, none, 0, 0⟩ from rfl, decide_eq_true ⟨sameS_self _, .inr rfl, Nat.zero_le _, Nat.zero_le _⟩, Bool.true_and]
  exact decide_eq_true ⟨hr, ht⟩
theorem leaf_far (to : ByteArray) (ht : ¬ to.size ≤ 32) : leaf (OA.s ⟨8, row, ⟨#[]⟩, ⟨#[]⟩, 0, to, ⟨none, 0, 0, []⟩, ⟨none, 0, 0, []⟩, false, none, 0, 0⟩) 0 = false := by
  unfold leaf
  refine Bool.and_eq_false_iff.2 (.inr ?_)
  exact decide_eq_false fun h => ht h.2
end
theorem outScan_all (r x : ByteArray) : outScan ⟨#[]⟩ ⟨#[]⟩ r x = false := by
  have h1 : decide (cmpL (sb r) (sb (⟨#[]⟩ : ByteArray)) < 0) = false := decide_eq_false fun h => by
    have : cmpL (sb r) [] < 0 := h
    cases hs : sb r <;> rw [hs] at this <;> simp [cmpL] at this
  have h2 : ∀ y, isAb ⟨#[]⟩ y = false := fun y => decide_eq_false fun h => h.1 rfl
  unfold outScan
  rw [h1, h2, h2]
  rfl
theorem apply_scan {cs : List CV} {row to : ByteArray} (hr : row.size ≤ 32) (ht : to.size ≤ 32) : mApply ⟨#[]⟩ ⟨#[]⟩ cs ⟨8, row, ⟨#[]⟩, ⟨#[]⟩, 0, to, ⟨none, 0, 0, []⟩, ⟨none, 0, 0, []⟩, false, none, 0, 0⟩ [] = (cs, mScan cs row to) := by
  unfold mApply
  rw [right_not6 (show (8 : Int) ≠ 6 by decide), List.length_map, List.length_nil, leaf_scan to hr ht, if_neg (by simp)]
  have ho : isOut ⟨#[]⟩ ⟨#[]⟩ ⟨8, row, ⟨#[]⟩, ⟨#[]⟩, 0, to, ⟨none, 0, 0, []⟩, ⟨none, 0, 0, []⟩, false, none, 0, 0⟩ = false := by
    unfold isOut
    rw [if_pos rfl]
    refine outScan_all row to
  rw [ho, if_neg (by simp)]
  have hd : mDo cs ⟨8, row, ⟨#[]⟩, ⟨#[]⟩, 0, to, ⟨none, 0, 0, []⟩, ⟨none, 0, 0, []⟩, false, none, 0, 0⟩ [] = (cs, mScan cs row to) := rfl
  rw [hd]
  rfl

theorem Dull.key (row fam qual : ByteArray) (t : Nat) : Dull [.string row, .string fam, .string qual, .int .u64 t] :=
  ⟨fun n h => by simp at h, fun x h => by simp at h, fun a n c h => by simp at h, fun L h => by simp at h⟩
theorem OK.put (W : World) (row fam qual : ByteArray) (t : Nat) (a2 : Option Addr) (n2 c2 : Nat) (xs : List Int) (hk : 1 ≤ row.size ∧ row.size ≤ 32 ∧ 1 ≤ fam.size ∧ fam.size ≤ 32 ∧ qual.size ≤ 32) (to : ByteArray) (hto : to.size ≤ 100) (kd : Int) (hkd : 0 ≤ kd ∧ kd ≤ 100) (ht : t < 18446744073709551616) (hS : Sl W a2 n2 c2 xs) : (⟨kd, row, fam, qual, t, to, ⟨a2, n2, c2, xs⟩, ⟨none, 0, 0, []⟩, false, none, 0, 0⟩ : OA).ok W :=
  ⟨⟨by show (-9223372036854775808 : Int) ≤ kd; omega, by show kd ≤ 9223372036854775807; omega⟩, by show row.size ≤ maxLen; unfold maxLen; omega, by show fam.size ≤ maxLen; unfold maxLen; omega, by show qual.size ≤ maxLen; unfold maxLen; omega, ht, by show to.size ≤ maxLen; unfold maxLen; omega, hS, Sl.nothing W, Nat.le_refl _, Nat.zero_le _, fun _ => ⟨rfl, rfl⟩⟩

/-- What stands while operations are done: the key's box, the column's, the tablet. -/
structure Rd (W V : World) (p kb cb : Nat) (row fam qual : ByteArray) (cs : List CV) : Prop where
  b : Below W.heap.size W V
  tb : TB V p ⟨#[]⟩ ⟨#[]⟩ cs
  k : Arr V kb 39 [.string row, .string fam, .string qual, .int .u64 18446744073709551615]
  c : Arr V cb 39 [.string row, .string fam, .string qual, .int .u64 0]
theorem Rd.below {W V V' : World} {p kb cb : Nat} {row fam qual : ByteArray} {cs : List CV} (h : Rd W V p kb cb row fam qual cs) (hb : Below V.heap.size V V') : Rd W V' p kb cb row fam qual cs :=
  ⟨h.b.trans (hb.mono h.b.size), h.tb.below hb, arr_below h.k hb, arr_below h.c hb⟩
theorem Rd.wr {W V V' : World} {p kb cb : Nat} {row fam qual : ByteArray} {cs ds : List CV} (h : Rd W V p kb cb row fam qual cs) (hp : W.heap.size ≤ p) (hk : kb ≠ p) (hc : cb ≠ p) (k : Wr p V V') (ht : TB V' p ⟨#[]⟩ ⟨#[]⟩ ds) : Rd W V' p kb cb row fam qual ds :=
  ⟨Wr.below h.b k h.b.size hp, ht, (k.block _ h.k.lt hk).trans h.k, (k.block _ h.c.lt hc).trans h.c⟩
theorem apply_keyed {cs : List CV} {o : OA} (hl : leaf o.s 0 = true) (hs : o.sn = 0) (k6 : o.kind ≠ 6) (k8 : o.kind ≠ 8) {ds : List CV} {rv : RV} (h : mStep cs o = (ds, rv)) (hz : rv.e = 0) : mApply ⟨#[]⟩ ⟨#[]⟩ cs o [] = (ds, rv) := by
  rw [apply_leaf (by rw [hs]; exact hl) (by rw [hs]; rfl) k6 k8, h]
  exact congrArg (fun z => (z, rv)) (if_pos hz)
theorem apply_keyed_bad {cs : List CV} {o : OA} (hl : leaf o.s 0 = true) (hs : o.sn = 0) (k6 : o.kind ≠ 6) (k8 : o.kind ≠ 8) {ds : List CV} {rv : RV} (h : mStep cs o = (ds, rv)) (hz : rv.e ≠ 0) : mApply ⟨#[]⟩ ⟨#[]⟩ cs o [] = (cs, rv) := by
  rw [apply_leaf (by rw [hs]; exact hl) (by rw [hs]; rfl) k6 k8, h]
  exact congrArg (fun z => (z, rv)) (if_neg hz)

set_option maxHeartbeats 16000000 in
set_option maxRecDepth 100000 in
theorem tabletReads_any (W : World) (a0 a2 : Option Addr) (n0 c0 n2 c2 : Nat) (row fam qual : ByteArray) (time : Nat) (l : List (OD 3)) (xs : List Int) (L0' : OWL W 3 a0 n0 c0 l) (sm0 : ∀ y ∈ l, OSm 3 y) (S2 : Sl W a2 n2 c2 xs) (hT : Tabs W) :
    Calls Tryz.prog 7 #[.slice a0 n0 c0, KA.val ⟨row, fam, qual, time⟩, .slice a2 n2 c2] W fun e w' => e = .returned (.bool true) ∧ Below W.heap.size W w' := by
  obtain ⟨W1, hW1⟩ : ∃ V, V = W.alloc (.cells #[.string row, .string fam, .string qual, .int .u64 time] 39) := ⟨_, rfl⟩
  have C1 : Below W.heap.size W W1 := by rw [hW1]; exact (Below.refl _ _).alloc (Nat.le_refl _) _
  have K1 : Arr W1 W.heap.size 39 [.string row, .string fam, .string qual, .int .u64 time] := by rw [hW1]; exact heap_alloc_new W _
  have AL := fun (V : World) (hV : Below W.heap.size W V) => alive10 V (hT.below hV hT.two)
  have HAL : Hid (∀ (V : World) (hV : Below W.heap.size W V), Calls Tryz.prog 10 #[] V fun e w' => e = .returned (.bool true) ∧ Below V.heap.size V w') := AL
  have HTW : Hid (Tabs W) := hT
  have tW := hT.two
  have HTb : Hid (Tabs W1) := hT.below C1 hT.two
  have t2 := HTb.out.two
  have L0 := L0'.below C1
  have s1 : W.heap.size < W1.heap.size := K1.lt
  have hl1 : @List.length (OD 3) l ≤ n0 := Nat.le_of_eq L0.len
  have hl2 : n0 ≤ @List.length (OD 3) l := Nat.le_of_eq L0.len.symm
  have CN := tnew_any W1 ⟨#[]⟩ ⟨#[]⟩ (by decide) (by decide)
  have hx1 := S2.len
  clear AL hT L0'
  unfold KA.val
  go_enter Tryz.func7, Tryz.ntmps7
  go_wp2_with fail
  rw [← hW1]
  clear hW1
  refine CN.mono ?_
  rintro e w2 (⟨-, rfl, X2, B2⟩ | ⟨h, -⟩)
  case inr => rw [newKA] at h; simp at h
  clear CN
  have CL := light10_any w2 a0 n0 c0 20 l (L0.below B2) sm0 (by omega)
  rw [show ((20 : Nat) : Int) = 20 from rfl] at CL
  obtain ⟨b1, hb1⟩ : ∃ b, b = light10 l 20 := ⟨_, rfl⟩
  have HB1 : Hid (b1 = light10 l 20) := hb1
  rw [← hb1] at CL
  clear hb1
  go_wp2_with fail
  refine CL.mono ?_
  rintro e w3 ⟨rfl, C3⟩
  have B3 := B2.trans (C3.mono B2.size)
  have X3 := X2.below C3
  clear CL X2
  cases b1 with
  | false =>
    have B3' := C1.trans (B3.mono C1.size)
    have AV := HAL.out w3 B3'
    go_wp2_with fail
    refine AV.mono ?_
    rintro e wz ⟨rfl, Cz⟩
    go_wp2
    go_ret
    exact ⟨rfl, (B3'.trans (Cz.mono B3'.size))⟩

  | true =>
    have K3 := arr_below K1 B3
    have k0 : w3.cell? ⟨W.heap.size, 0, none⟩ = some (.string row) := K3.cell 0
    have k1 : w3.cell? ⟨W.heap.size, 1, none⟩ = some (.string fam) := K3.cell 1
    have k2 : w3.cell? ⟨W.heap.size, 2, none⟩ = some (.string qual) := K3.cell 2
    have k3 : w3.cell? ⟨W.heap.size, 3, none⟩ = some (.int .u64 time) := K3.cell 3
    have CR := rright_any w3 ⟨row, fam, qual, time⟩
    unfold KA.val at CR
    go_wp2_with fail
    refine CR.mono ?_
    rintro e w4 ⟨rfl, C4⟩
    have B4 := B3.trans (C4.mono B3.size)
    have X4 := X3.below C4
    clear CR k0 k1 k2 k3 K3 X3 C3 C4
    by_cases hr : KA.isRight ⟨row, fam, qual, time⟩ = true
    case neg =>
      rw [show KA.kind ⟨row, fam, qual, time⟩ = 5 from if_neg hr]
      have B4' := C1.trans (B4.mono C1.size)
      have AV := HAL.out w4 B4'
      go_wp2_with fail
      refine AV.mono ?_
      rintro e wz ⟨rfl, Cz⟩
      go_wp2
      go_ret
      exact ⟨rfl, (B4'.trans (Cz.mono B4'.size))⟩

    rw [show KA.kind ⟨row, fam, qual, time⟩ = 0 from if_pos hr]
    have hk : 1 ≤ row.size ∧ row.size ≤ 32 ∧ 1 ≤ fam.size ∧ fam.size ≤ 32 ∧ qual.size ≤ 32 := of_decide_eq_true hr
    by_cases hv : n2 ≤ 256
    case neg =>
      have ihv : (256 : Int) < (n2 : Int) := by omega
      have B4' := C1.trans (B4.mono C1.size)
      have AV := HAL.out w4 B4'
      go_wp2_with fail
      refine AV.mono ?_
      rintro e wz ⟨rfl, Cz⟩
      go_wp2
      go_ret
      exact ⟨rfl, (B4'.trans (Cz.mono B4'.size))⟩

    have ihv : ¬ (256 : Int) < (n2 : Int) := by omega
    have HK : Hid (1 ≤ row.size ∧ row.size ≤ 32 ∧ 1 ≤ fam.size ∧ fam.size ≤ 32 ∧ qual.size ≤ 32) := hk
    have hn20 : n0 ≤ 20 := by have := (light10_at HB1.out.symm).1; omega
    clear hr hk HB1 sm0 B2 B3
    go_wp2
    go_loopw [9] (fun i wr => ∃ (k : Nat) (cs : List CV), k ≤ n0 ∧ i = .int .i64 k ∧ TB wr W1.heap.size ⟨#[]⟩ ⟨#[]⟩ cs ∧ Hid (Stand ⟨#[]⟩ ⟨#[]⟩ (8 * k) cs) ∧ Below W1.heap.size W1 wr) (fun i _ => n0 - (intOf i).toNat)
    case atStart => exact ⟨0, [], Nat.zero_le _, rfl, X4, (Stand.nil _ _).mono (Nat.zero_le _), B4⟩
    case round =>
      obtain ⟨k, cs, hk, rfl, X0, HS0, B0⟩ := hrel
      by_cases hlt : k < n0
      · have hki : (k : Int) < (n0 : Int) := by omega
        have hkl : k < l.length := by omega
        obtain ⟨b, off, ea, hc⟩ := L0.at (by omega)
        have X := (hc k hkl).below B0
        have hy : OW wr 3 l[k] := (L0.ok _ (List.getElem_mem hkl)).below B0
        obtain ⟨pl, hpl⟩ := hy.parts3
        have CA := every_any wr W1.heap.size ⟨#[]⟩ ⟨#[]⟩ cs (topD 3 l[k]) pl (HTb.out.below B0 t2) X0 (HS0.out.mono (by omega)) hy.top hpl
        have HS1 : Hid (Stand ⟨#[]⟩ ⟨#[]⟩ (8 * (k + 1)) (mApply ⟨#[]⟩ ⟨#[]⟩ cs (topD 3 l[k]) pl).1) := (HS0.out.apply hy.top (fun x hx => hpl.ok x hx)).mono (by omega)
        obtain ⟨r, hr⟩ : ∃ r, r = mApply ⟨#[]⟩ ⟨#[]⟩ cs (topD 3 l[k]) pl := ⟨_, rfl⟩
        rw [← hr] at CA HS1
        obtain ⟨o, ho⟩ : ∃ o, o = topD 3 l[k] := ⟨_, rfl⟩
        rw [← ho] at CA X
        clear hr ho hy hpl hc
        subst ea
        obtain ⟨q0, q1, q2, q3, q4, q5, q6, q7, q8, q9⟩ := X
        unfold OA.val at CA
        go_wp2_with fail
        refine CA.mono ?_
        rintro e w2 ⟨⟨ra, rn, rc, rl, rfl, -, -⟩, X2, K2⟩
        have B2 := Wr.below B0 K2 B0.size (Nat.le_refl _)
        unfold resV
        clear CA q0 q1 q2 q3 q4 q5 q6 q7 q8 q9
        go_wp2
        go_roundw
        case rel => exact ⟨k + 1, r.1, by omega, by go_num, X2, HS1, B2⟩
        case measure => simp [intOf]; omega
      have hge : ¬ (k : Int) < (n0 : Int) := by omega
      have HS : Hid (Stand ⟨#[]⟩ ⟨#[]⟩ 160 cs) := HS0.out.mono (by omega)
      have t20 : k ≤ 20 := by omega
      clear HS0
      obtain ⟨wa, hwa⟩ : ∃ V, V = wr := ⟨_, rfl⟩
      subst hwa

      clear X4 B4 L0 hl1 hl2 hlt hk
      have K5 := arr_below K1 B0
      have k0 : wa.cell? ⟨W.heap.size, 0, none⟩ = some (.string row) := K5.cell 0
      have k1 : wa.cell? ⟨W.heap.size, 1, none⟩ = some (.string fam) := K5.cell 1
      have k2 : wa.cell? ⟨W.heap.size, 2, none⟩ = some (.string qual) := K5.cell 2
      have k3 : wa.cell? ⟨W.heap.size, 3, none⟩ = some (.int .u64 time) := K5.cell 3
      have kf := K5.free 3
      have klt := K5.lt
      obtain ⟨V5, hV5⟩ : ∃ V, V = wa.setCell ⟨W.heap.size, 3, none⟩ (.int .u64 18446744073709551615) := ⟨_, rfl⟩
      obtain ⟨V6, hV6⟩ : ∃ V, V = V5.alloc (.cells #[.string row, .string fam, .string qual, .int .u64 0] 39) := ⟨_, rfl⟩
      have hpk : W.heap.size ≠ W1.heap.size := by omega
      have s5 : V5.heap.size = wa.heap.size := by rw [hV5]; simp
      have hck : wa.heap.size ≠ W1.heap.size := by have := X0.lt; omega
      have hWp : W.heap.size ≤ W1.heap.size := by omega
      have C6 : Below V5.heap.size V5 V6 := by rw [hV6]; exact (Below.refl _ _).alloc (Nat.le_refl _) _
      have R6 : Rd W V6 W1.heap.size W.heap.size wa.heap.size row fam qual cs := by
        have hw : Wr W.heap.size wa V5 := by rw [hV5]; exact (Wr.refl _ _).set 3 _
        have hb : Below W.heap.size W V5 := by rw [hV5]; exact (C1.trans (B0.mono C1.size)).setCell (Nat.le_refl _) _
        refine ⟨hb.trans (C6.mono hb.size), (TB.dull K5 (Dull.key row fam qual time) hw (by omega) X0).below C6, arr_below ?_ C6, ?_⟩
        · rw [hV5]; exact K5.set 3 _
        · rw [hV6, ← s5]; exact heap_alloc_new V5 _
      have hxl : xs.length ≤ 256 := by omega
      have HG : Hid (CV.good (⟨row, fam, qual, 18446744073709551615, xs, false⟩ : CV)) := by
        have h := HK.out
        refine ⟨?_, (show 18446744073709551615 < 18446744073709551616 by decide), hxl, S2.byte, fun h => by simp at h⟩
        show 1 ≤ (sb row).length ∧ (sb row).length ≤ 32 ∧ 1 ≤ (sb fam).length ∧ (sb fam).length ≤ 32 ∧ (sb qual).length ≤ 32
        rw [sb_len, sb_len, sb_len]
        exact h
      have S6 := S2.below R6.b
      have OKP := OK.put V6 row fam qual 18446744073709551615 a2 n2 c2 xs HK.out ⟨#[]⟩ (by decide) 1 (by decide) (by decide) S6
      have CP := every_any V6 W1.heap.size ⟨#[]⟩ ⟨#[]⟩ cs ⟨1, row, fam, qual, 18446744073709551615, ⟨#[]⟩, ⟨a2, n2, c2, xs⟩, ⟨none, 0, 0, []⟩, false, none, 0, 0⟩ [] (HTW.out.below R6.b tW) R6.tb (HS.out.mono (by omega)) OKP (OWL.nil0 V6)
      have hst : mStep cs ⟨1, row, fam, qual, 18446744073709551615, ⟨#[]⟩, ⟨a2, n2, c2, xs⟩, ⟨none, 0, 0, []⟩, false, none, 0, 0⟩ = ((mPut cs (⟨row, fam, qual, 18446744073709551615, xs, false⟩ : CV)).1, ⟨(mPut cs (⟨row, fam, qual, 18446744073709551615, xs, false⟩ : CV)).2, [], false⟩) := rfl
      clear S6 OKP K5 X0 C1 K1 B0 C6 s5
      unfold OA.val at CP
      by_cases h9 : (mPut cs (⟨row, fam, qual, 18446744073709551615, xs, false⟩ : CV)).2 = 9
      · rw [apply_keyed_bad (leaf_put HK.out 18446744073709551615 a2 n2 c2 xs hxl) rfl (show (1 : Int) ≠ 6 by decide) (show (1 : Int) ≠ 8 by decide) hst (by rw [h9]; decide), h9] at CP
        clear h9 hst
        go_wp2_with fail
        rw [← hV5, ← hV6]
        clear hV5 hV6
        refine CP.mono ?_
        rintro e w7 ⟨⟨ra, rn, rc, rl, rfl, -, -⟩, X7, K7⟩
        have R7 := R6.wr hWp hpk hck K7 X7
        unfold resV
        obtain ⟨V8, hV8⟩ : ∃ V, V = w7.alloc (.cells #[.int .i64 9, .slice ra rn rc, .bool false] 34) := ⟨_, rfl⟩
        have B8 : Below W.heap.size W V8 := by rw [hV8]; exact R7.b.trans (((Below.refl _ _).alloc (Nat.le_refl _) _).mono R7.b.size)
        have AV := HAL.out V8 B8
        clear CP k0 k1 k2 k3 kf klt
        go_wp2_with fail
        rw [← hV8]
        refine AV.mono ?_
        rintro e wz ⟨rfl, Cz⟩
        go_wp2
        go_ret
        exact ⟨rfl, B8.trans (Cz.mono B8.size)⟩
      · obtain ⟨hp0, hcm, hpc⟩ := put_max HS.out.good (show CV.time (⟨row, fam, qual, 18446744073709551615, xs, false⟩ : CV) = 18446744073709551615 from rfl) h9
        have HS1 : Hid (Stand ⟨#[]⟩ ⟨#[]⟩ 161 (mPut cs (⟨row, fam, qual, 18446744073709551615, xs, false⟩ : CV)).1) := HS.out.put HG.out (inRows_all _)
        rw [apply_keyed (leaf_put HK.out 18446744073709551615 a2 n2 c2 xs hxl) rfl (show (1 : Int) ≠ 6 by decide) (show (1 : Int) ≠ 8 by decide) hst hp0, hp0] at CP
        obtain ⟨cs1, hcs1⟩ : ∃ x, x = (mPut cs (⟨row, fam, qual, 18446744073709551615, xs, false⟩ : CV)).1 := ⟨_, rfl⟩
        rw [← hcs1] at CP HS1 hcm hpc
        have HCM : Hid ((⟨row, fam, qual, 18446744073709551615, xs, false⟩ : CV) ∈ cs1) := hcm
        have HPC : Hid (∀ k : KA, CV.col (⟨row, fam, qual, 18446744073709551615, xs, false⟩ : CV) k = true → ∃ rest, colC k cs1 = (⟨row, fam, qual, 18446744073709551615, xs, false⟩ : CV) :: rest) := hpc
        clear hcs1 hcm hpc h9 hst hp0
        go_wp2_with fail
        rw [← hV5, ← hV6]
        clear hV5 hV6
        refine CP.mono ?_
        rintro e w7 ⟨⟨ra, rn, rc, rl, rfl, -, -⟩, X7, K7⟩
        have R7 := R6.wr hWp hpk hck K7 X7
        unfold resV
        obtain ⟨V8, hV8⟩ : ∃ V, V = w7.alloc (.cells #[.int .i64 0, .slice ra rn rc, .bool false] 34) := ⟨_, rfl⟩
        have C8 : Below w7.heap.size w7 V8 := by rw [hV8]; exact (Below.refl _ _).alloc (Nat.le_refl _) _
        have P8 : RC V8 w7.heap.size 0 ra rn rc false := by rw [hV8]; exact heap_alloc_new w7 _
        have R8 := R7.below C8
        have ltk := R7.k.lt
        have ltc := R7.c.lt
        have ltp := R7.tb.lt
        clear CP k0 k1 k2 k3 kf klt R6 K7 X7
        have c0' : w7.cell? ⟨wa.heap.size, 0, none⟩ = some (.string row) := R7.c.cell 0
        have c1' : w7.cell? ⟨wa.heap.size, 1, none⟩ = some (.string fam) := R7.c.cell 1
        have c2' : w7.cell? ⟨wa.heap.size, 2, none⟩ = some (.string qual) := R7.c.cell 2
        have c3' : w7.cell? ⟨wa.heap.size, 3, none⟩ = some (.int .u64 0) := R7.c.cell 3
        -- Get
        have OKG := OK.put V8 row fam qual 0 none 0 0 [] HK.out ⟨#[]⟩ (by decide) 7 (by decide) (by decide) (Sl.nothing V8)
        have CG := every_any V8 W1.heap.size ⟨#[]⟩ ⟨#[]⟩ cs1 ⟨7, row, fam, qual, 0, ⟨#[]⟩, ⟨none, 0, 0, []⟩, ⟨none, 0, 0, []⟩, false, none, 0, 0⟩ [] (HTW.out.below R8.b tW) R8.tb (HS1.out.mono (by omega)) OKG (OWL.nil0 V8)
        have hg1 : mStep cs1 ⟨7, row, fam, qual, 0, ⟨#[]⟩, ⟨none, 0, 0, []⟩, ⟨none, 0, 0, []⟩, false, none, 0, 0⟩ = (cs1, ⟨0, [(⟨row, fam, qual, 18446744073709551615, xs, false⟩ : CV)], false⟩) := by
          obtain ⟨rest, hrest⟩ := HPC.out ⟨row, fam, qual, 0⟩ (decide_eq_true ⟨rfl, rfl, rfl⟩)
          show (cs1, mGet cs1 ⟨row, fam, qual, 0⟩) = _
          rw [get_newest hrest rfl]
        rw [apply_keyed (leaf_get HK.out) rfl (show (7 : Int) ≠ 6 by decide) (show (7 : Int) ≠ 8 by decide) hg1 rfl] at CG
        unfold OA.val at CG
        clear hg1 OKG
        go_wp2_with fail
        rw [← hV8]
        clear hV8
        refine CG.mono ?_
        rintro e w9 ⟨⟨ga, gn, gc, gl, rfl, G9, hgl⟩, X9, K9⟩
        have R9 := R8.wr hWp hpk hck K9 X9
        have P9 := P8.wr K9 (by omega)
        obtain ⟨ca, rfl⟩ : ∃ ca, gl = [ca] := by
          cases gl with
          | nil => simp at hgl
          | cons x gl =>
            cases gl with
            | nil => exact ⟨x, rfl⟩
            | cons y gl => simp at hgl
        obtain rfl : gn = 1 := G9.len.symm
        have HCA : Hid (ca.c = (⟨row, fam, qual, 18446744073709551615, xs, false⟩ : CV)) := by
          show _ = _
          simpa using hgl
        unfold resV
        obtain ⟨V10, hV10⟩ : ∃ V, V = w9.alloc (.cells #[.int .i64 0, .slice ga 1 gc, .bool false] 34) := ⟨_, rfl⟩
        have C10 : Below w9.heap.size w9 V10 := by rw [hV10]; exact (Below.refl _ _).alloc (Nat.le_refl _) _
        have Q10 : RC V10 w9.heap.size 0 ga 1 gc false := by rw [hV10]; exact heap_alloc_new w9 _
        have R10 := R9.below C10
        have P10 := P9.keep C10
        have G10 := G9.below C10
        have ltk9 := R9.k.lt
        have k0 : w9.cell? ⟨W.heap.size, 0, none⟩ = some (.string row) := R9.k.cell 0
        clear CG c0' c1' c2' c3' R7 R8 K9 X9 P8 C8 hgl ltk ltc
        -- Scan
        have hrow := HK.out.2.1
        have hro : (row ++ ⟨#[0]⟩ : ByteArray).size ≤ 100 := by
          rw [show (row ++ ⟨#[0]⟩ : ByteArray).size = row.size + 1 from ByteArray.size_append]
          omega
        have hsz0 : (⟨#[]⟩ : ByteArray).size ≤ maxLen := by decide
        have OKS : OA.ok ⟨8, row, ⟨#[]⟩, ⟨#[]⟩, 0, (row ++ ⟨#[0]⟩), ⟨none, 0, 0, []⟩, ⟨none, 0, 0, []⟩, false, none, 0, 0⟩ V10 := ⟨⟨by show (-9223372036854775808 : Int) ≤ 8; decide, by show (8 : Int) ≤ 9223372036854775807; decide⟩, by show row.size ≤ maxLen; unfold maxLen; omega, hsz0, hsz0, by show 0 < 18446744073709551616; decide, by show (row ++ ⟨#[0]⟩ : ByteArray).size ≤ maxLen; unfold maxLen; omega, Sl.nothing V10, Sl.nothing V10, Nat.le_refl _, Nat.zero_le _, fun _ => ⟨rfl, rfl⟩⟩
        have CS := every_any V10 W1.heap.size ⟨#[]⟩ ⟨#[]⟩ cs1 ⟨8, row, ⟨#[]⟩, ⟨#[]⟩, 0, (row ++ ⟨#[0]⟩), ⟨none, 0, 0, []⟩, ⟨none, 0, 0, []⟩, false, none, 0, 0⟩ [] (HTW.out.below R10.b tW) R10.tb (HS1.out.mono (by omega)) OKS (OWL.nil0 V10)
        have HQ : Hid ((mApply ⟨#[]⟩ ⟨#[]⟩ cs1 ⟨8, row, ⟨#[]⟩, ⟨#[]⟩, 0, (row ++ ⟨#[0]⟩), ⟨none, 0, 0, []⟩, ⟨none, 0, 0, []⟩, false, none, 0, 0⟩ []).1 = cs1) := mApply_quiet (.inr (.inr rfl))
        obtain ⟨rs, hrs⟩ : ∃ x, x = mApply ⟨#[]⟩ ⟨#[]⟩ cs1 ⟨8, row, ⟨#[]⟩, ⟨#[]⟩, 0, (row ++ ⟨#[0]⟩), ⟨none, 0, 0, []⟩, ⟨none, 0, 0, []⟩, false, none, 0, 0⟩ [] := ⟨_, rfl⟩
        have HRS : Hid (rs = mApply ⟨#[]⟩ ⟨#[]⟩ cs1 ⟨8, row, ⟨#[]⟩, ⟨#[]⟩, 0, (row ++ ⟨#[0]⟩), ⟨none, 0, 0, []⟩, ⟨none, 0, 0, []⟩, false, none, 0, 0⟩ []) := hrs
        rw [← hrs] at CS HQ
        unfold OA.val at CS
        clear hrs OKS hsz0
        go_wp2_with fail
        rw [← hV10]
        clear hV10
        refine CS.mono ?_
        rintro e w11 ⟨⟨sa, sn, sc, sl, rfl, S11, hsl⟩, X11, K11⟩
        rw [HQ.out] at X11
        have HSL : Hid (sl.map CA.c = rs.2.cells) := hsl
        have R11 := R10.wr hWp hpk hck K11 X11
        have P11 := P10.wr K11 (by omega)
        have Q11 := Q10.wr K11 (by have := R9.tb.lt; omega)
        have G11 : CL w11 ga 1 gc [ca] := by
          obtain ⟨u, A, -⟩ := R10.tb
          exact G10.tb A K11
        unfold resV
        obtain ⟨V12, hV12⟩ : ∃ V, V = w11.alloc (.cells #[.int .i64 rs.2.e, .slice sa sn sc, .bool rs.2.more] 34) := ⟨_, rfl⟩
        have C12 : Below w11.heap.size w11 V12 := by rw [hV12]; exact (Below.refl _ _).alloc (Nat.le_refl _) _
        have T12 : RC V12 w11.heap.size rs.2.e sa sn sc rs.2.more := by rw [hV12]; exact heap_alloc_new w11 _
        have R12 := R11.below C12
        have P12 := P11.keep C12
        have Q12 := Q11.keep C12
        have G12 := G11.below C12
        have S12 := S11.below C12
        have SV12 := S2.below R12.b
        obtain ⟨gb, gf, hga, hgc⟩ := G12.at (by omega)
        have CX12 : CX V12 gb gf ca := by simpa using hgc 0 (by simp)
        have CVA := (G12.ok ca (by simp)).va
        obtain ⟨g0, g1, g2, g3, g4, g5⟩ := CX12
        have e0 : ca.row = row := congrArg CV.row HCA.out
        have e1 : ca.fam = fam := congrArg CV.fam HCA.out
        have e2 : ca.qual = qual := congrArg CV.qual HCA.out
        have e3 : ca.time = 18446744073709551615 := congrArg CV.time HCA.out
        have e4 : ca.va.xs = xs := congrArg CV.value HCA.out
        rw [e0] at g0
        rw [e1] at g1
        rw [e2] at g2
        rw [e3] at g3
        rw [e4] at CVA
        obtain ⟨va, hva⟩ : ∃ v, v = ca.va := ⟨_, rfl⟩
        rw [← hva] at g4 CVA
        subst hga
        have k0 : V12.cell? ⟨W.heap.size, 0, none⟩ = some (.string row) := R12.k.cell 0
        have k1 : V12.cell? ⟨W.heap.size, 1, none⟩ = some (.string fam) := R12.k.cell 1
        have k2 : V12.cell? ⟨W.heap.size, 2, none⟩ = some (.string qual) := R12.k.cell 2
        have k3 : V12.cell? ⟨W.heap.size, 3, none⟩ = some (.int .u64 18446744073709551615) := R12.k.cell 3
        have p0 := P12.c0
        have q0 := Q12.c0
        have q1 := Q12.c1
        have CSa := fun (V : World) (hV : Below V12.heap.size V12 V) => same_true V va.ao a2 va.n va.cap n2 c2 xs (CVA.below hV) (SV12.below hV)
        have HCS : Hid (∀ (V : World) (hV : Below V12.heap.size V12 V), Calls Tryz.prog 19 #[.slice va.ao va.n va.cap, .slice a2 n2 c2] V fun e w' => e = .returned (.bool true) ∧ Below V.heap.size V w') := CSa
        clear CS CSa R9 R10 R11 P9 P10 P11 Q10 Q11 G9 G10 G11 S11 X11 K11 hgc e0 e1 e2 e3 e4 g5 hva CVA SV12 HCA G12 hsl C10 C12
        go_wp2
        rw [← hV12]
        clear hV12
        have zHS : Hid (∀ V, Below V12.heap.size V12 V → V.cell? ⟨W.heap.size, 0, none⟩ = some (.string row) ∧ V.cell? ⟨W.heap.size, 1, none⟩ = some (.string fam) ∧ V.cell? ⟨W.heap.size, 2, none⟩ = some (.string qual) ∧ V.cell? ⟨W.heap.size, 3, none⟩ = some (.int .u64 18446744073709551615) ∧ V.cell? ⟨w7.heap.size, 0, none⟩ = some (.int .i64 0) ∧ V.cell? ⟨w9.heap.size, 0, none⟩ = some (.int .i64 0) ∧ V.cell? ⟨w9.heap.size, 1, none⟩ = some (.slice (some ⟨gb, gf, none⟩) 1 gc) ∧ V.cell? ⟨gb, gf, none⟩ = some (.string row) ∧ V.cell? ⟨gb, gf + 1, none⟩ = some (.string fam) ∧ V.cell? ⟨gb, gf + 2, none⟩ = some (.string qual) ∧ V.cell? ⟨gb, gf + 3, none⟩ = some (.int .u64 18446744073709551615) ∧ V.cell? ⟨gb, gf + 4, none⟩ = some (.slice va.ao va.n va.cap)) := fun V hV => ⟨(hV.cell (World.block_lt_of_cell? _ _ k0)).trans k0, (hV.cell (World.block_lt_of_cell? _ _ k1)).trans k1, (hV.cell (World.block_lt_of_cell? _ _ k2)).trans k2, (hV.cell (World.block_lt_of_cell? _ _ k3)).trans k3, (hV.cell (World.block_lt_of_cell? _ _ p0)).trans p0, (hV.cell (World.block_lt_of_cell? _ _ q0)).trans q0, (hV.cell (World.block_lt_of_cell? _ _ q1)).trans q1, (hV.cell (World.block_lt_of_cell? _ _ g0)).trans g0, (hV.cell (World.block_lt_of_cell? _ _ g1)).trans g1, (hV.cell (World.block_lt_of_cell? _ _ g2)).trans g2, (hV.cell (World.block_lt_of_cell? _ _ g3)).trans g3, (hV.cell (World.block_lt_of_cell? _ _ g4)).trans g4⟩
        have zE0 : Below V12.heap.size V12 V12.drew := (Below.refl _ _).drew
        refine wp_region_noPanic ?_
        refine wp_region_held_drew (S := fun V => V.cell? ⟨W.heap.size, 0, none⟩ = some (.string row) ∧ V.cell? ⟨W.heap.size, 1, none⟩ = some (.string fam) ∧ V.cell? ⟨W.heap.size, 2, none⟩ = some (.string qual) ∧ V.cell? ⟨W.heap.size, 3, none⟩ = some (.int .u64 18446744073709551615) ∧ V.cell? ⟨w7.heap.size, 0, none⟩ = some (.int .i64 0) ∧ V.cell? ⟨w9.heap.size, 0, none⟩ = some (.int .i64 0) ∧ V.cell? ⟨w9.heap.size, 1, none⟩ = some (.slice (some ⟨gb, gf, none⟩) 1 gc) ∧ V.cell? ⟨gb, gf, none⟩ = some (.string row) ∧ V.cell? ⟨gb, gf + 1, none⟩ = some (.string fam) ∧ V.cell? ⟨gb, gf + 2, none⟩ = some (.string qual) ∧ V.cell? ⟨gb, gf + 3, none⟩ = some (.int .u64 18446744073709551615) ∧ V.cell? ⟨gb, gf + 4, none⟩ = some (.slice va.ao va.n va.cap)) (by kernel_rfl) (zHS.out _ zE0) (fun zH0 => ?_)
        obtain ⟨zv0, hv0⟩ : ∃ v, v = V12.drew := ⟨_, rfl⟩
        rw [← hv0] at zH0 zE0 ⊢
        clear hv0
        refine hr_take_w 0 (some 80) (.pointer (some ⟨w7.heap.size, 0, none⟩)) rfl rfl (by kernel_rfl) (by kernel_rfl) (by kernel_rfl) rfl (fun W hW => by obtain ⟨h0, h1, h2, h3, h4, h5, h6, h7, h8, h9, h10, h11⟩ := hW; go_simp) zH0 ?_
        simp only [Act.put, List.setIfInBounds_toArray, List.set_cons_zero, List.set_cons_succ]
        refine hr_take_w 1 (some 81) (.int .i64 0) rfl rfl (by kernel_rfl) (by kernel_rfl) (by kernel_rfl) rfl (fun W hW => by obtain ⟨h0, h1, h2, h3, h4, h5, h6, h7, h8, h9, h10, h11⟩ := hW; go_simp) zH0 ?_
        simp only [Act.put, List.setIfInBounds_toArray, List.set_cons_zero, List.set_cons_succ]
        refine hr_take_w 2 (some 82) (.bool false) rfl rfl (by kernel_rfl) (by kernel_rfl) (by kernel_rfl) rfl (fun W hW => by obtain ⟨h0, h1, h2, h3, h4, h5, h6, h7, h8, h9, h10, h11⟩ := hW; go_simp) zH0 ?_
        simp only [Act.put, List.setIfInBounds_toArray, List.set_cons_zero, List.set_cons_succ]
        refine hr_take_w 3 (some 83) (.bool false) rfl rfl (by kernel_rfl) (by kernel_rfl) (by kernel_rfl) rfl (fun W hW => by obtain ⟨h0, h1, h2, h3, h4, h5, h6, h7, h8, h9, h10, h11⟩ := hW; go_simp) zH0 ?_
        simp only [Act.put, List.setIfInBounds_toArray, List.set_cons_zero, List.set_cons_succ]
        refine hr_take_w 4 (some 84) (.pointer (some ⟨w9.heap.size, 0, none⟩)) rfl rfl (by kernel_rfl) (by kernel_rfl) (by kernel_rfl) rfl (fun W hW => by obtain ⟨h0, h1, h2, h3, h4, h5, h6, h7, h8, h9, h10, h11⟩ := hW; go_simp) zH0 ?_
        simp only [Act.put, List.setIfInBounds_toArray, List.set_cons_zero, List.set_cons_succ]
        refine hr_take_w 5 (some 85) (.int .i64 0) rfl rfl (by kernel_rfl) (by kernel_rfl) (by kernel_rfl) rfl (fun W hW => by obtain ⟨h0, h1, h2, h3, h4, h5, h6, h7, h8, h9, h10, h11⟩ := hW; go_simp) zH0 ?_
        simp only [Act.put, List.setIfInBounds_toArray, List.set_cons_zero, List.set_cons_succ]
        refine hr_take_w 6 (some 86) (.bool false) rfl rfl (by kernel_rfl) (by kernel_rfl) (by kernel_rfl) rfl (fun W hW => by obtain ⟨h0, h1, h2, h3, h4, h5, h6, h7, h8, h9, h10, h11⟩ := hW; go_simp) zH0 ?_
        simp only [Act.put, List.setIfInBounds_toArray, List.set_cons_zero, List.set_cons_succ]
        refine hr_take_w 7 (some 87) (.bool false) rfl rfl (by kernel_rfl) (by kernel_rfl) (by kernel_rfl) rfl (fun W hW => by obtain ⟨h0, h1, h2, h3, h4, h5, h6, h7, h8, h9, h10, h11⟩ := hW; go_simp) zH0 ?_
        simp only [Act.put, List.setIfInBounds_toArray, List.set_cons_zero, List.set_cons_succ]
        refine hr_take_w 8 (some 88) (.bool false) rfl rfl (by kernel_rfl) (by kernel_rfl) (by kernel_rfl) rfl (fun W hW => by obtain ⟨h0, h1, h2, h3, h4, h5, h6, h7, h8, h9, h10, h11⟩ := hW; go_simp) zH0 ?_
        simp only [Act.put, List.setIfInBounds_toArray, List.set_cons_zero, List.set_cons_succ]
        refine hr_take_w 9 (some 89) (.pointer (some ⟨w9.heap.size, 1, none⟩)) rfl rfl (by kernel_rfl) (by kernel_rfl) (by kernel_rfl) rfl (fun W hW => by obtain ⟨h0, h1, h2, h3, h4, h5, h6, h7, h8, h9, h10, h11⟩ := hW; go_simp) zH0 ?_
        simp only [Act.put, List.setIfInBounds_toArray, List.set_cons_zero, List.set_cons_succ]
        refine hr_take_w 10 (some 90) (.slice (some ⟨gb, gf, none⟩) 1 gc) rfl rfl (by kernel_rfl) (by kernel_rfl) (by kernel_rfl) rfl (fun W hW => by obtain ⟨h0, h1, h2, h3, h4, h5, h6, h7, h8, h9, h10, h11⟩ := hW; go_simp) zH0 ?_
        simp only [Act.put, List.setIfInBounds_toArray, List.set_cons_zero, List.set_cons_succ]
        refine hr_take_w 11 (some 91) (.int .i64 1) rfl rfl (by kernel_rfl) (by kernel_rfl) (by kernel_rfl) rfl (fun W hW => by obtain ⟨h0, h1, h2, h3, h4, h5, h6, h7, h8, h9, h10, h11⟩ := hW; go_simp) zH0 ?_
        simp only [Act.put, List.setIfInBounds_toArray, List.set_cons_zero, List.set_cons_succ]
        refine hr_take_w 12 (some 92) (.bool false) rfl rfl (by kernel_rfl) (by kernel_rfl) (by kernel_rfl) rfl (fun W hW => by obtain ⟨h0, h1, h2, h3, h4, h5, h6, h7, h8, h9, h10, h11⟩ := hW; go_simp) zH0 ?_
        simp only [Act.put, List.setIfInBounds_toArray, List.set_cons_zero, List.set_cons_succ]
        refine hr_take_w 13 (some 93) (.bool false) rfl rfl (by kernel_rfl) (by kernel_rfl) (by kernel_rfl) rfl (fun W hW => by obtain ⟨h0, h1, h2, h3, h4, h5, h6, h7, h8, h9, h10, h11⟩ := hW; go_simp) zH0 ?_
        simp only [Act.put, List.setIfInBounds_toArray, List.set_cons_zero, List.set_cons_succ]
        refine hr_take_w 14 (some 94) (.bool false) rfl rfl (by kernel_rfl) (by kernel_rfl) (by kernel_rfl) rfl (fun W hW => by obtain ⟨h0, h1, h2, h3, h4, h5, h6, h7, h8, h9, h10, h11⟩ := hW; go_simp) zH0 ?_
        simp only [Act.put, List.setIfInBounds_toArray, List.set_cons_zero, List.set_cons_succ]
        refine hr_take_w 15 (some 95) (.pointer (some ⟨w9.heap.size, 1, none⟩)) rfl rfl (by kernel_rfl) (by kernel_rfl) (by kernel_rfl) rfl (fun W hW => by obtain ⟨h0, h1, h2, h3, h4, h5, h6, h7, h8, h9, h10, h11⟩ := hW; go_simp) zH0 ?_
        simp only [Act.put, List.setIfInBounds_toArray, List.set_cons_zero, List.set_cons_succ]
        refine hr_take_w 16 (some 96) (.slice (some ⟨gb, gf, none⟩) 1 gc) rfl rfl (by kernel_rfl) (by kernel_rfl) (by kernel_rfl) rfl (fun W hW => by obtain ⟨h0, h1, h2, h3, h4, h5, h6, h7, h8, h9, h10, h11⟩ := hW; go_simp) zH0 ?_
        simp only [Act.put, List.setIfInBounds_toArray, List.set_cons_zero, List.set_cons_succ]
        refine hr_take_w 17 (some 97) (.pointer (some ⟨gb, gf, none⟩)) rfl rfl (by kernel_rfl) (by kernel_rfl) (by kernel_rfl) rfl (fun W hW => by obtain ⟨h0, h1, h2, h3, h4, h5, h6, h7, h8, h9, h10, h11⟩ := hW; go_simp) zH0 ?_
        simp only [Act.put, List.setIfInBounds_toArray, List.set_cons_zero, List.set_cons_succ]
        refine hr_take_w 18 (some 98) (.pointer (some ⟨gb, gf, none⟩)) rfl rfl (by kernel_rfl) (by kernel_rfl) (by kernel_rfl) rfl (fun W hW => by obtain ⟨h0, h1, h2, h3, h4, h5, h6, h7, h8, h9, h10, h11⟩ := hW; go_simp) zH0 ?_
        simp only [Act.put, List.setIfInBounds_toArray, List.set_cons_zero, List.set_cons_succ]
        refine hr_take_w 19 (some 99) (.agg #[.string row, .string fam, .string qual, .int .u64 18446744073709551615]) rfl rfl (by kernel_rfl) (by kernel_rfl) (by kernel_rfl) rfl (fun W hW => by obtain ⟨h0, h1, h2, h3, h4, h5, h6, h7, h8, h9, h10, h11⟩ := hW; go_simp) zH0 ?_
        simp only [Act.put, List.setIfInBounds_toArray, List.set_cons_zero, List.set_cons_succ]
        refine hr_take_w 20 (some 100) (.agg #[.string row, .string fam, .string qual, .int .u64 18446744073709551615]) rfl rfl (by kernel_rfl) (by kernel_rfl) (by kernel_rfl) rfl (fun W hW => by obtain ⟨h0, h1, h2, h3, h4, h5, h6, h7, h8, h9, h10, h11⟩ := hW; go_simp) zH0 ?_
        simp only [Act.put, List.setIfInBounds_toArray, List.set_cons_zero, List.set_cons_succ]
        refine hr_take_w 21 (some 101) (.bool false) rfl rfl (by kernel_rfl) (by kernel_rfl) (by kernel_rfl) rfl (fun W hW => by obtain ⟨h0, h1, h2, h3, h4, h5, h6, h7, h8, h9, h10, h11⟩ := hW; go_simp) zH0 ?_
        simp only [Act.put, List.setIfInBounds_toArray, List.set_cons_zero, List.set_cons_succ]
        refine hr_take_w 22 (some 102) (.bool false) rfl rfl (by kernel_rfl) (by kernel_rfl) (by kernel_rfl) rfl (fun W hW => by obtain ⟨h0, h1, h2, h3, h4, h5, h6, h7, h8, h9, h10, h11⟩ := hW; go_simp) zH0 ?_
        simp only [Act.put, List.setIfInBounds_toArray, List.set_cons_zero, List.set_cons_succ]
        refine hr_take_w 23 (some 103) (.bool false) rfl rfl (by kernel_rfl) (by kernel_rfl) (by kernel_rfl) rfl (fun W hW => by obtain ⟨h0, h1, h2, h3, h4, h5, h6, h7, h8, h9, h10, h11⟩ := hW; go_simp) zH0 ?_
        simp only [Act.put, List.setIfInBounds_toArray, List.set_cons_zero, List.set_cons_succ]
        refine hr_take_w 24 (some 104) (.pointer (some ⟨w9.heap.size, 1, none⟩)) rfl rfl (by kernel_rfl) (by kernel_rfl) (by kernel_rfl) rfl (fun W hW => by obtain ⟨h0, h1, h2, h3, h4, h5, h6, h7, h8, h9, h10, h11⟩ := hW; go_simp) zH0 ?_
        simp only [Act.put, List.setIfInBounds_toArray, List.set_cons_zero, List.set_cons_succ]
        refine hr_take_w 25 (some 105) (.slice (some ⟨gb, gf, none⟩) 1 gc) rfl rfl (by kernel_rfl) (by kernel_rfl) (by kernel_rfl) rfl (fun W hW => by obtain ⟨h0, h1, h2, h3, h4, h5, h6, h7, h8, h9, h10, h11⟩ := hW; go_simp) zH0 ?_
        simp only [Act.put, List.setIfInBounds_toArray, List.set_cons_zero, List.set_cons_succ]
        refine hr_take_w 26 (some 106) (.pointer (some ⟨gb, gf, none⟩)) rfl rfl (by kernel_rfl) (by kernel_rfl) (by kernel_rfl) rfl (fun W hW => by obtain ⟨h0, h1, h2, h3, h4, h5, h6, h7, h8, h9, h10, h11⟩ := hW; go_simp) zH0 ?_
        simp only [Act.put, List.setIfInBounds_toArray, List.set_cons_zero, List.set_cons_succ]
        refine hr_take_w 27 (some 107) (.pointer (some ⟨gb, gf + 4, none⟩)) rfl rfl (by kernel_rfl) (by kernel_rfl) (by kernel_rfl) rfl (fun W hW => by obtain ⟨h0, h1, h2, h3, h4, h5, h6, h7, h8, h9, h10, h11⟩ := hW; go_simp) zH0 ?_
        simp only [Act.put, List.setIfInBounds_toArray, List.set_cons_zero, List.set_cons_succ]
        refine hr_take_w 28 (some 108) (.slice va.ao va.n va.cap) rfl rfl (by kernel_rfl) (by kernel_rfl) (by kernel_rfl) rfl (fun W hW => by obtain ⟨h0, h1, h2, h3, h4, h5, h6, h7, h8, h9, h10, h11⟩ := hW; go_simp) zH0 ?_
        simp only [Act.put, List.setIfInBounds_toArray, List.set_cons_zero, List.set_cons_succ]
        refine hr_take_w 29 (some 109) (.slice a2 n2 c2) rfl rfl (by kernel_rfl) (by kernel_rfl) (by kernel_rfl) rfl (fun W hW => by obtain ⟨h0, h1, h2, h3, h4, h5, h6, h7, h8, h9, h10, h11⟩ := hW; go_simp) zH0 ?_
        simp only [Act.put, List.setIfInBounds_toArray, List.set_cons_zero, List.set_cons_succ]
        refine hr_call_w 30 (some 110) 19 #[.slice va.ao va.n va.cap, .slice a2 n2 c2] rfl rfl (by kernel_rfl) rfl (by go_simp) (fun v w' => v = .bool true ∧ Below zv0.heap.size zv0 w') ((HCS.out zv0 zE0).mono (by
          rintro e w' ⟨rfl, C⟩
          exact ⟨_, rfl, rfl, C⟩)) ?_
        rintro v zv1 ⟨rfl, zC0⟩
        have zE1 := zE0.trans (zC0.mono zE0.size)
        have zH1 := zHS.out zv1 zE1
        refine ⟨zH1, ?_⟩
        simp only [Act.put, List.setIfInBounds_toArray, List.set_cons_zero, List.set_cons_succ]
        refine hr_take_w 31 (some 111) (.bool false) rfl rfl (by kernel_rfl) (by kernel_rfl) (by kernel_rfl) rfl (fun W hW => by obtain ⟨h0, h1, h2, h3, h4, h5, h6, h7, h8, h9, h10, h11⟩ := hW; go_simp) zH1 ?_
        simp only [Act.put, List.setIfInBounds_toArray, List.set_cons_zero, List.set_cons_succ]
        refine hr_take_w 32 (some 112) (.bool false) rfl rfl (by kernel_rfl) (by kernel_rfl) (by kernel_rfl) rfl (fun W hW => by obtain ⟨h0, h1, h2, h3, h4, h5, h6, h7, h8, h9, h10, h11⟩ := hW; go_simp) zH1 ?_
        simp only [Act.put, List.setIfInBounds_toArray, List.set_cons_zero, List.set_cons_succ]
        refine wpAnyH_done (by kernel_rfl) ?_ _
        refine NoPanic.normal ?_
        have zE2' := zE1
        have R13 := R12.below zE2'
        have P13 := P12.keep zE2'
        have T13 := T12.keep zE2'
        have S13 := S12.below zE2'
        have ltk := R13.k.lt
        have k0 : zv1.cell? ⟨W.heap.size, 0, none⟩ = some (.string row) := R13.k.cell 0
        have k1 : zv1.cell? ⟨W.heap.size, 1, none⟩ = some (.string fam) := R13.k.cell 1
        have k2 : zv1.cell? ⟨W.heap.size, 2, none⟩ = some (.string qual) := R13.k.cell 2
        have k3 : zv1.cell? ⟨W.heap.size, 3, none⟩ = some (.int .u64 18446744073709551615) := R13.k.cell 3
        have u0 := T13.c0
        have u1 := T13.c1
        have u2 := T13.c2
        clear zHS zE0 zH0 zH1 zC0 zE1 zE2' R12 P12 Q12 T12 S12
        by_cases hr32 : row.size < 32
        · have i32 : (row.size : Int) < 32 := by omega
          have hrs : rs = (cs1, mScan cs1 row (row ++ ⟨#[0]⟩)) := by
            rw [HRS.out]
            exact apply_scan hrow (by rw [show (row ++ ⟨#[0]⟩ : ByteArray).size = row.size + 1 from ByteArray.size_append]; omega)
          have hse : rs.2.e = 0 := by rw [hrs]; rfl
          rw [hse] at u0
          cases hmo : rs.2.more with
          | true =>
            rw [hmo] at u2
            clear hrs hse hmo hr32 HSL
            have RT := R13
            obtain ⟨rest, hrest⟩ := HPC.out ⟨row, fam, qual, 18446744073709551615⟩ (decide_eq_true ⟨rfl, rfl, rfl⟩)
            have hgt := gone_there (k := ⟨row, fam, qual, 18446744073709551615⟩) hrest rfl (decide_eq_true ⟨rfl, rfl, rfl, rfl⟩)
            obtain ⟨hga, hgc⟩ := gone_again (cs := cs1) (k := ⟨row, fam, qual, 18446744073709551615⟩) HS1.out.good rfl
            have hmg : CV.good (KA.mark ⟨row, fam, qual, 18446744073709551615⟩).c := ⟨HG.out.right, HG.out.time, Nat.zero_le _, fun _ h => by simp [KA.mark, CA.c] at h, fun _ => rfl⟩
            have hs2 := HS1.out.gone (k := ⟨row, fam, qual, 18446744073709551615⟩) hmg (inRows_all _)
            rw [hgt] at hs2
            obtain ⟨rest2, hrest2⟩ := hgc ⟨row, fam, qual, 0⟩ (decide_eq_true ⟨rfl, rfl, rfl⟩)
            obtain ⟨cs2, hcs2⟩ : ∃ x, x = cIns cs1 (KA.mark ⟨row, fam, qual, 18446744073709551615⟩).c := ⟨_, rfl⟩
            have st1 : mStep cs1 ⟨2, row, fam, qual, 18446744073709551615, ⟨#[]⟩, ⟨none, 0, 0, []⟩, ⟨none, 0, 0, []⟩, false, none, 0, 0⟩ = (cs2, ⟨0, [], false⟩) := by
              show ((mGone cs1 ⟨row, fam, qual, 18446744073709551615⟩).1, (⟨(mGone cs1 ⟨row, fam, qual, 18446744073709551615⟩).2, [], false⟩ : RV)) = _
              rw [hgt, ← hcs2]
            rw [← hcs2] at hga hrest2 hs2
            have st2 : mStep cs2 ⟨2, row, fam, qual, 18446744073709551615, ⟨#[]⟩, ⟨none, 0, 0, []⟩, ⟨none, 0, 0, []⟩, false, none, 0, 0⟩ = (cs2, ⟨7, [], false⟩) := by
              show ((mGone cs2 ⟨row, fam, qual, 18446744073709551615⟩).1, (⟨(mGone cs2 ⟨row, fam, qual, 18446744073709551615⟩).2, [], false⟩ : RV)) = _
              rw [hga]
            have st3 : mStep cs2 ⟨7, row, fam, qual, 0, ⟨#[]⟩, ⟨none, 0, 0, []⟩, ⟨none, 0, 0, []⟩, false, none, 0, 0⟩ = (cs2, ⟨7, [], false⟩) := by
              show (cs2, mGet cs2 ⟨row, fam, qual, 0⟩) = _
              rw [get_gone hrest2 rfl]
            have HST1 := apply_keyed (leaf_del HK.out 18446744073709551615) rfl (show (2 : Int) ≠ 6 by decide) (show (2 : Int) ≠ 8 by decide) st1 rfl
            have HST2 := apply_keyed_bad (leaf_del HK.out 18446744073709551615) rfl (show (2 : Int) ≠ 6 by decide) (show (2 : Int) ≠ 8 by decide) st2 (show (7 : Int) ≠ 0 by decide)
            have HST3 := apply_keyed_bad (leaf_get HK.out) rfl (show (7 : Int) ≠ 6 by decide) (show (7 : Int) ≠ 8 by decide) st3 (show (7 : Int) ≠ 0 by decide)
            have HH1 : Hid (mApply ⟨#[]⟩ ⟨#[]⟩ cs1 ⟨2, row, fam, qual, 18446744073709551615, ⟨#[]⟩, ⟨none, 0, 0, []⟩, ⟨none, 0, 0, []⟩, false, none, 0, 0⟩ [] = (cs2, ⟨0, [], false⟩)) := HST1
            have HH2 : Hid (mApply ⟨#[]⟩ ⟨#[]⟩ cs2 ⟨2, row, fam, qual, 18446744073709551615, ⟨#[]⟩, ⟨none, 0, 0, []⟩, ⟨none, 0, 0, []⟩, false, none, 0, 0⟩ [] = (cs2, ⟨7, [], false⟩)) := HST2
            have HH3 : Hid (mApply ⟨#[]⟩ ⟨#[]⟩ cs2 ⟨7, row, fam, qual, 0, ⟨#[]⟩, ⟨none, 0, 0, []⟩, ⟨none, 0, 0, []⟩, false, none, 0, 0⟩ [] = (cs2, ⟨7, [], false⟩)) := HST3
            have HS2 : Hid (Stand ⟨#[]⟩ ⟨#[]⟩ 162 cs2) := hs2
            clear hrest hgt hga hgc hmg hs2 hrest2 hcs2 st1 st2 st3 HST1 HST2 HST3 HPC HCM HRS HQ
            have OK20 := OK.put zv1 row fam qual 18446744073709551615 none 0 0 [] HK.out ⟨#[]⟩ (by decide) 2 (by decide) (by decide) (Sl.nothing zv1)
            have CD20 := every_any zv1 W1.heap.size ⟨#[]⟩ ⟨#[]⟩ cs1 ⟨2, row, fam, qual, 18446744073709551615, ⟨#[]⟩, ⟨none, 0, 0, []⟩, ⟨none, 0, 0, []⟩, false, none, 0, 0⟩ [] (HTW.out.below RT.b tW) RT.tb (HS1.out.mono (by omega)) OK20 (OWL.nil0 zv1)
            rw [HH1.out] at CD20
            unfold OA.val at CD20
            clear OK20
            go_wp2_with fail
            refine CD20.mono ?_
            rintro e w20 ⟨⟨ra20, rn20, rc20, rl20, rfl, -, -⟩, X20, K20⟩
            have RU := RT.wr hWp hpk hck K20 X20
            have ltq20 := RU.tb.lt
            have ltk20 := RU.k.lt
            have ltc20 := RU.c.lt
            unfold resV
            obtain ⟨V20, hV20⟩ : ∃ V, V = w20.alloc (.cells #[.int .i64 0, .slice ra20 rn20 rc20, .bool false] 34) := ⟨_, rfl⟩
            have C20 : Below w20.heap.size w20 V20 := by rw [hV20]; exact (Below.refl _ _).alloc (Nat.le_refl _) _
            have D20 : RC V20 w20.heap.size 0 ra20 rn20 rc20 false := by rw [hV20]; exact heap_alloc_new w20 _
            have RT := RU.below C20
            clear CD20 K20 X20 k0 k1 k2 k3
            have k0 : w20.cell? ⟨W.heap.size, 0, none⟩ = some (.string row) := RU.k.cell 0
            have k1 : w20.cell? ⟨W.heap.size, 1, none⟩ = some (.string fam) := RU.k.cell 1
            have k2 : w20.cell? ⟨W.heap.size, 2, none⟩ = some (.string qual) := RU.k.cell 2
            have k3 : w20.cell? ⟨W.heap.size, 3, none⟩ = some (.int .u64 18446744073709551615) := RU.k.cell 3
            have OK21 := OK.put V20 row fam qual 18446744073709551615 none 0 0 [] HK.out ⟨#[]⟩ (by decide) 2 (by decide) (by decide) (Sl.nothing V20)
            have CD21 := every_any V20 W1.heap.size ⟨#[]⟩ ⟨#[]⟩ cs2 ⟨2, row, fam, qual, 18446744073709551615, ⟨#[]⟩, ⟨none, 0, 0, []⟩, ⟨none, 0, 0, []⟩, false, none, 0, 0⟩ [] (HTW.out.below RT.b tW) RT.tb (HS2.out.mono (by omega)) OK21 (OWL.nil0 V20)
            rw [HH2.out] at CD21
            unfold OA.val at CD21
            clear OK21
            go_wp2_with fail
            rw [← hV20]
            clear hV20
            refine CD21.mono ?_
            rintro e w21 ⟨⟨ra21, rn21, rc21, rl21, rfl, -, -⟩, X21, K21⟩
            have RU := RT.wr hWp hpk hck K21 X21
            have ltq21 := RU.tb.lt
            have ltk21 := RU.k.lt
            have ltc21 := RU.c.lt
            have D20 := D20.wr K21 (by omega)
            unfold resV
            obtain ⟨V21, hV21⟩ : ∃ V, V = w21.alloc (.cells #[.int .i64 7, .slice ra21 rn21 rc21, .bool false] 34) := ⟨_, rfl⟩
            have C21 : Below w21.heap.size w21 V21 := by rw [hV21]; exact (Below.refl _ _).alloc (Nat.le_refl _) _
            have D21 : RC V21 w21.heap.size 7 ra21 rn21 rc21 false := by rw [hV21]; exact heap_alloc_new w21 _
            have D20w := D20
            have D20 := D20.keep C21
            have RT := RU.below C21
            clear CD21 K21 X21 k0 k1 k2 k3
            have k0 : w21.cell? ⟨wa.heap.size, 0, none⟩ = some (.string row) := RU.c.cell 0
            have k1 : w21.cell? ⟨wa.heap.size, 1, none⟩ = some (.string fam) := RU.c.cell 1
            have k2 : w21.cell? ⟨wa.heap.size, 2, none⟩ = some (.string qual) := RU.c.cell 2
            have k3 : w21.cell? ⟨wa.heap.size, 3, none⟩ = some (.int .u64 0) := RU.c.cell 3
            have OK22 := OK.put V21 row fam qual 0 none 0 0 [] HK.out ⟨#[]⟩ (by decide) 7 (by decide) (by decide) (Sl.nothing V21)
            have CD22 := every_any V21 W1.heap.size ⟨#[]⟩ ⟨#[]⟩ cs2 ⟨7, row, fam, qual, 0, ⟨#[]⟩, ⟨none, 0, 0, []⟩, ⟨none, 0, 0, []⟩, false, none, 0, 0⟩ [] (HTW.out.below RT.b tW) RT.tb (HS2.out.mono (by omega)) OK22 (OWL.nil0 V21)
            rw [HH3.out] at CD22
            unfold OA.val at CD22
            clear OK22
            go_wp2_with fail
            rw [← hV21]
            clear hV21
            refine CD22.mono ?_
            rintro e w22 ⟨⟨ra22, rn22, rc22, rl22, rfl, -, -⟩, X22, K22⟩
            have RU := RT.wr hWp hpk hck K22 X22
            have ltq22 := RU.tb.lt
            have ltk22 := RU.k.lt
            have ltc22 := RU.c.lt
            have D20 := D20.wr K22 (by omega)
            have D21 := D21.wr K22 (by omega)
            unfold resV
            obtain ⟨V22, hV22⟩ : ∃ V, V = w22.alloc (.cells #[.int .i64 7, .slice ra22 rn22 rc22, .bool false] 34) := ⟨_, rfl⟩
            have C22 : Below w22.heap.size w22 V22 := by rw [hV22]; exact (Below.refl _ _).alloc (Nat.le_refl _) _
            have D22 : RC V22 w22.heap.size 7 ra22 rn22 rc22 false := by rw [hV22]; exact heap_alloc_new w22 _
            have D20w := D20
            have D20 := D20.keep C22
            have D21w := D21
            have D21 := D21.keep C22
            have RT := RU.below C22
            clear CD22 K22 X22 k0 k1 k2 k3
            have d0 := D20w.c0
            have d1 := D21w.c0
            have ld0 := D20w.lt
            have ld1 := D21w.lt
            have AV := HAL.out V22 RT.b
            go_wp2_with fail
            rw [← hV22]
            refine AV.mono ?_
            rintro e wz ⟨rfl, Cz⟩
            go_wp2
            go_ret
            exact ⟨rfl, RT.b.trans (Cz.mono RT.b.size)⟩
          | false =>
            rw [hmo] at u2
            have hany : (sl.map CA.c).any (eqK ⟨row, fam, qual, 18446744073709551615⟩) = true := by
              rw [HSL.out, hrs]
              rw [hrs] at hmo
              exact List.any_eq_true.2 ⟨(⟨row, fam, qual, 18446744073709551615, xs, false⟩ : CV), scan_has (c := (⟨row, fam, qual, 18446744073709551615, xs, false⟩ : CV)) HCM.out rfl hmo, decide_eq_true ⟨rfl, rfl, rfl, rfl⟩⟩
            have hsn : sn ≤ 1000 := by
              have h1 := S13.len
              have h2 : sl.length = rs.2.cells.length := by rw [← HSL.out, List.length_map]
              have h3 : rs.2.cells.length ≤ 16 := by rw [hrs]; exact List.length_take_le 16 _
              omega
            have CH := lhas_any zv1 sa sn sc sl ⟨row, fam, qual, 18446744073709551615⟩ S13 hsn hany
            unfold KA.val at CH
            clear hrs hse hmo hr32 HSL hany
            go_wp2_with fail
            refine CH.mono ?_
            rintro e w13 ⟨rfl, C13⟩
            have R14 := R13.below C13
            have P14 := P13.keep C13
            have T14 := T13.keep C13
            have S14 := S13.below C13
            clear CH C13 k0 k1 k2 k3 u0 u1 u2 R13 P13 T13 S13
            have R13 := R14
            have k0 : w13.cell? ⟨W.heap.size, 0, none⟩ = some (.string row) := R13.k.cell 0
            have k1 : w13.cell? ⟨W.heap.size, 1, none⟩ = some (.string fam) := R13.k.cell 1
            have k2 : w13.cell? ⟨W.heap.size, 2, none⟩ = some (.string qual) := R13.k.cell 2
            have k3 : w13.cell? ⟨W.heap.size, 3, none⟩ = some (.int .u64 18446744073709551615) := R13.k.cell 3
            have RT := R13
            obtain ⟨rest, hrest⟩ := HPC.out ⟨row, fam, qual, 18446744073709551615⟩ (decide_eq_true ⟨rfl, rfl, rfl⟩)
            have hgt := gone_there (k := ⟨row, fam, qual, 18446744073709551615⟩) hrest rfl (decide_eq_true ⟨rfl, rfl, rfl, rfl⟩)
            obtain ⟨hga, hgc⟩ := gone_again (cs := cs1) (k := ⟨row, fam, qual, 18446744073709551615⟩) HS1.out.good rfl
            have hmg : CV.good (KA.mark ⟨row, fam, qual, 18446744073709551615⟩).c := ⟨HG.out.right, HG.out.time, Nat.zero_le _, fun _ h => by simp [KA.mark, CA.c] at h, fun _ => rfl⟩
            have hs2 := HS1.out.gone (k := ⟨row, fam, qual, 18446744073709551615⟩) hmg (inRows_all _)
            rw [hgt] at hs2
            obtain ⟨rest2, hrest2⟩ := hgc ⟨row, fam, qual, 0⟩ (decide_eq_true ⟨rfl, rfl, rfl⟩)
            obtain ⟨cs2, hcs2⟩ : ∃ x, x = cIns cs1 (KA.mark ⟨row, fam, qual, 18446744073709551615⟩).c := ⟨_, rfl⟩
            have st1 : mStep cs1 ⟨2, row, fam, qual, 18446744073709551615, ⟨#[]⟩, ⟨none, 0, 0, []⟩, ⟨none, 0, 0, []⟩, false, none, 0, 0⟩ = (cs2, ⟨0, [], false⟩) := by
              show ((mGone cs1 ⟨row, fam, qual, 18446744073709551615⟩).1, (⟨(mGone cs1 ⟨row, fam, qual, 18446744073709551615⟩).2, [], false⟩ : RV)) = _
              rw [hgt, ← hcs2]
            rw [← hcs2] at hga hrest2 hs2
            have st2 : mStep cs2 ⟨2, row, fam, qual, 18446744073709551615, ⟨#[]⟩, ⟨none, 0, 0, []⟩, ⟨none, 0, 0, []⟩, false, none, 0, 0⟩ = (cs2, ⟨7, [], false⟩) := by
              show ((mGone cs2 ⟨row, fam, qual, 18446744073709551615⟩).1, (⟨(mGone cs2 ⟨row, fam, qual, 18446744073709551615⟩).2, [], false⟩ : RV)) = _
              rw [hga]
            have st3 : mStep cs2 ⟨7, row, fam, qual, 0, ⟨#[]⟩, ⟨none, 0, 0, []⟩, ⟨none, 0, 0, []⟩, false, none, 0, 0⟩ = (cs2, ⟨7, [], false⟩) := by
              show (cs2, mGet cs2 ⟨row, fam, qual, 0⟩) = _
              rw [get_gone hrest2 rfl]
            have HST1 := apply_keyed (leaf_del HK.out 18446744073709551615) rfl (show (2 : Int) ≠ 6 by decide) (show (2 : Int) ≠ 8 by decide) st1 rfl
            have HST2 := apply_keyed_bad (leaf_del HK.out 18446744073709551615) rfl (show (2 : Int) ≠ 6 by decide) (show (2 : Int) ≠ 8 by decide) st2 (show (7 : Int) ≠ 0 by decide)
            have HST3 := apply_keyed_bad (leaf_get HK.out) rfl (show (7 : Int) ≠ 6 by decide) (show (7 : Int) ≠ 8 by decide) st3 (show (7 : Int) ≠ 0 by decide)
            have HH1 : Hid (mApply ⟨#[]⟩ ⟨#[]⟩ cs1 ⟨2, row, fam, qual, 18446744073709551615, ⟨#[]⟩, ⟨none, 0, 0, []⟩, ⟨none, 0, 0, []⟩, false, none, 0, 0⟩ [] = (cs2, ⟨0, [], false⟩)) := HST1
            have HH2 : Hid (mApply ⟨#[]⟩ ⟨#[]⟩ cs2 ⟨2, row, fam, qual, 18446744073709551615, ⟨#[]⟩, ⟨none, 0, 0, []⟩, ⟨none, 0, 0, []⟩, false, none, 0, 0⟩ [] = (cs2, ⟨7, [], false⟩)) := HST2
            have HH3 : Hid (mApply ⟨#[]⟩ ⟨#[]⟩ cs2 ⟨7, row, fam, qual, 0, ⟨#[]⟩, ⟨none, 0, 0, []⟩, ⟨none, 0, 0, []⟩, false, none, 0, 0⟩ [] = (cs2, ⟨7, [], false⟩)) := HST3
            have HS2 : Hid (Stand ⟨#[]⟩ ⟨#[]⟩ 162 cs2) := hs2
            clear hrest hgt hga hgc hmg hs2 hrest2 hcs2 st1 st2 st3 HST1 HST2 HST3 HPC HCM HRS HQ
            have OK20 := OK.put w13 row fam qual 18446744073709551615 none 0 0 [] HK.out ⟨#[]⟩ (by decide) 2 (by decide) (by decide) (Sl.nothing w13)
            have CD20 := every_any w13 W1.heap.size ⟨#[]⟩ ⟨#[]⟩ cs1 ⟨2, row, fam, qual, 18446744073709551615, ⟨#[]⟩, ⟨none, 0, 0, []⟩, ⟨none, 0, 0, []⟩, false, none, 0, 0⟩ [] (HTW.out.below RT.b tW) RT.tb (HS1.out.mono (by omega)) OK20 (OWL.nil0 w13)
            rw [HH1.out] at CD20
            unfold OA.val at CD20
            clear OK20
            go_wp2_with fail
            refine CD20.mono ?_
            rintro e w20 ⟨⟨ra20, rn20, rc20, rl20, rfl, -, -⟩, X20, K20⟩
            have RU := RT.wr hWp hpk hck K20 X20
            have ltq20 := RU.tb.lt
            have ltk20 := RU.k.lt
            have ltc20 := RU.c.lt
            unfold resV
            obtain ⟨V20, hV20⟩ : ∃ V, V = w20.alloc (.cells #[.int .i64 0, .slice ra20 rn20 rc20, .bool false] 34) := ⟨_, rfl⟩
            have C20 : Below w20.heap.size w20 V20 := by rw [hV20]; exact (Below.refl _ _).alloc (Nat.le_refl _) _
            have D20 : RC V20 w20.heap.size 0 ra20 rn20 rc20 false := by rw [hV20]; exact heap_alloc_new w20 _
            have RT := RU.below C20
            clear CD20 K20 X20 k0 k1 k2 k3
            have k0 : w20.cell? ⟨W.heap.size, 0, none⟩ = some (.string row) := RU.k.cell 0
            have k1 : w20.cell? ⟨W.heap.size, 1, none⟩ = some (.string fam) := RU.k.cell 1
            have k2 : w20.cell? ⟨W.heap.size, 2, none⟩ = some (.string qual) := RU.k.cell 2
            have k3 : w20.cell? ⟨W.heap.size, 3, none⟩ = some (.int .u64 18446744073709551615) := RU.k.cell 3
            have OK21 := OK.put V20 row fam qual 18446744073709551615 none 0 0 [] HK.out ⟨#[]⟩ (by decide) 2 (by decide) (by decide) (Sl.nothing V20)
            have CD21 := every_any V20 W1.heap.size ⟨#[]⟩ ⟨#[]⟩ cs2 ⟨2, row, fam, qual, 18446744073709551615, ⟨#[]⟩, ⟨none, 0, 0, []⟩, ⟨none, 0, 0, []⟩, false, none, 0, 0⟩ [] (HTW.out.below RT.b tW) RT.tb (HS2.out.mono (by omega)) OK21 (OWL.nil0 V20)
            rw [HH2.out] at CD21
            unfold OA.val at CD21
            clear OK21
            go_wp2_with fail
            rw [← hV20]
            clear hV20
            refine CD21.mono ?_
            rintro e w21 ⟨⟨ra21, rn21, rc21, rl21, rfl, -, -⟩, X21, K21⟩
            have RU := RT.wr hWp hpk hck K21 X21
            have ltq21 := RU.tb.lt
            have ltk21 := RU.k.lt
            have ltc21 := RU.c.lt
            have D20 := D20.wr K21 (by omega)
            unfold resV
            obtain ⟨V21, hV21⟩ : ∃ V, V = w21.alloc (.cells #[.int .i64 7, .slice ra21 rn21 rc21, .bool false] 34) := ⟨_, rfl⟩
            have C21 : Below w21.heap.size w21 V21 := by rw [hV21]; exact (Below.refl _ _).alloc (Nat.le_refl _) _
            have D21 : RC V21 w21.heap.size 7 ra21 rn21 rc21 false := by rw [hV21]; exact heap_alloc_new w21 _
            have D20w := D20
            have D20 := D20.keep C21
            have RT := RU.below C21
            clear CD21 K21 X21 k0 k1 k2 k3
            have k0 : w21.cell? ⟨wa.heap.size, 0, none⟩ = some (.string row) := RU.c.cell 0
            have k1 : w21.cell? ⟨wa.heap.size, 1, none⟩ = some (.string fam) := RU.c.cell 1
            have k2 : w21.cell? ⟨wa.heap.size, 2, none⟩ = some (.string qual) := RU.c.cell 2
            have k3 : w21.cell? ⟨wa.heap.size, 3, none⟩ = some (.int .u64 0) := RU.c.cell 3
            have OK22 := OK.put V21 row fam qual 0 none 0 0 [] HK.out ⟨#[]⟩ (by decide) 7 (by decide) (by decide) (Sl.nothing V21)
            have CD22 := every_any V21 W1.heap.size ⟨#[]⟩ ⟨#[]⟩ cs2 ⟨7, row, fam, qual, 0, ⟨#[]⟩, ⟨none, 0, 0, []⟩, ⟨none, 0, 0, []⟩, false, none, 0, 0⟩ [] (HTW.out.below RT.b tW) RT.tb (HS2.out.mono (by omega)) OK22 (OWL.nil0 V21)
            rw [HH3.out] at CD22
            unfold OA.val at CD22
            clear OK22
            go_wp2_with fail
            rw [← hV21]
            clear hV21
            refine CD22.mono ?_
            rintro e w22 ⟨⟨ra22, rn22, rc22, rl22, rfl, -, -⟩, X22, K22⟩
            have RU := RT.wr hWp hpk hck K22 X22
            have ltq22 := RU.tb.lt
            have ltk22 := RU.k.lt
            have ltc22 := RU.c.lt
            have D20 := D20.wr K22 (by omega)
            have D21 := D21.wr K22 (by omega)
            unfold resV
            obtain ⟨V22, hV22⟩ : ∃ V, V = w22.alloc (.cells #[.int .i64 7, .slice ra22 rn22 rc22, .bool false] 34) := ⟨_, rfl⟩
            have C22 : Below w22.heap.size w22 V22 := by rw [hV22]; exact (Below.refl _ _).alloc (Nat.le_refl _) _
            have D22 : RC V22 w22.heap.size 7 ra22 rn22 rc22 false := by rw [hV22]; exact heap_alloc_new w22 _
            have D20w := D20
            have D20 := D20.keep C22
            have D21w := D21
            have D21 := D21.keep C22
            have RT := RU.below C22
            clear CD22 K22 X22 k0 k1 k2 k3
            have d0 := D20w.c0
            have d1 := D21w.c0
            have ld0 := D20w.lt
            have ld1 := D21w.lt
            have AV := HAL.out V22 RT.b
            go_wp2_with fail
            rw [← hV22]
            refine AV.mono ?_
            rintro e wz ⟨rfl, Cz⟩
            go_wp2
            go_ret
            exact ⟨rfl, RT.b.trans (Cz.mono RT.b.size)⟩
        · have i32 : ¬ (row.size : Int) < 32 := by omega
          have hse : rs.2.e = 6 := by
            rw [HRS.out, apply_wrong]
            rw [right_not6 (show (8 : Int) ≠ 6 by decide), List.map_nil, List.length_nil]
            exact leaf_far _ (by rw [show (row ++ ⟨#[0]⟩ : ByteArray).size = row.size + 1 from ByteArray.size_append]; omega)
          rw [hse] at u0
          clear hse hr32 HSL
          have RT := R13
          obtain ⟨rest, hrest⟩ := HPC.out ⟨row, fam, qual, 18446744073709551615⟩ (decide_eq_true ⟨rfl, rfl, rfl⟩)
          have hgt := gone_there (k := ⟨row, fam, qual, 18446744073709551615⟩) hrest rfl (decide_eq_true ⟨rfl, rfl, rfl, rfl⟩)
          obtain ⟨hga, hgc⟩ := gone_again (cs := cs1) (k := ⟨row, fam, qual, 18446744073709551615⟩) HS1.out.good rfl
          have hmg : CV.good (KA.mark ⟨row, fam, qual, 18446744073709551615⟩).c := ⟨HG.out.right, HG.out.time, Nat.zero_le _, fun _ h => by simp [KA.mark, CA.c] at h, fun _ => rfl⟩
          have hs2 := HS1.out.gone (k := ⟨row, fam, qual, 18446744073709551615⟩) hmg (inRows_all _)
          rw [hgt] at hs2
          obtain ⟨rest2, hrest2⟩ := hgc ⟨row, fam, qual, 0⟩ (decide_eq_true ⟨rfl, rfl, rfl⟩)
          obtain ⟨cs2, hcs2⟩ : ∃ x, x = cIns cs1 (KA.mark ⟨row, fam, qual, 18446744073709551615⟩).c := ⟨_, rfl⟩
          have st1 : mStep cs1 ⟨2, row, fam, qual, 18446744073709551615, ⟨#[]⟩, ⟨none, 0, 0, []⟩, ⟨none, 0, 0, []⟩, false, none, 0, 0⟩ = (cs2, ⟨0, [], false⟩) := by
            show ((mGone cs1 ⟨row, fam, qual, 18446744073709551615⟩).1, (⟨(mGone cs1 ⟨row, fam, qual, 18446744073709551615⟩).2, [], false⟩ : RV)) = _
            rw [hgt, ← hcs2]
          rw [← hcs2] at hga hrest2 hs2
          have st2 : mStep cs2 ⟨2, row, fam, qual, 18446744073709551615, ⟨#[]⟩, ⟨none, 0, 0, []⟩, ⟨none, 0, 0, []⟩, false, none, 0, 0⟩ = (cs2, ⟨7, [], false⟩) := by
            show ((mGone cs2 ⟨row, fam, qual, 18446744073709551615⟩).1, (⟨(mGone cs2 ⟨row, fam, qual, 18446744073709551615⟩).2, [], false⟩ : RV)) = _
            rw [hga]
          have st3 : mStep cs2 ⟨7, row, fam, qual, 0, ⟨#[]⟩, ⟨none, 0, 0, []⟩, ⟨none, 0, 0, []⟩, false, none, 0, 0⟩ = (cs2, ⟨7, [], false⟩) := by
            show (cs2, mGet cs2 ⟨row, fam, qual, 0⟩) = _
            rw [get_gone hrest2 rfl]
          have HST1 := apply_keyed (leaf_del HK.out 18446744073709551615) rfl (show (2 : Int) ≠ 6 by decide) (show (2 : Int) ≠ 8 by decide) st1 rfl
          have HST2 := apply_keyed_bad (leaf_del HK.out 18446744073709551615) rfl (show (2 : Int) ≠ 6 by decide) (show (2 : Int) ≠ 8 by decide) st2 (show (7 : Int) ≠ 0 by decide)
          have HST3 := apply_keyed_bad (leaf_get HK.out) rfl (show (7 : Int) ≠ 6 by decide) (show (7 : Int) ≠ 8 by decide) st3 (show (7 : Int) ≠ 0 by decide)
          have HH1 : Hid (mApply ⟨#[]⟩ ⟨#[]⟩ cs1 ⟨2, row, fam, qual, 18446744073709551615, ⟨#[]⟩, ⟨none, 0, 0, []⟩, ⟨none, 0, 0, []⟩, false, none, 0, 0⟩ [] = (cs2, ⟨0, [], false⟩)) := HST1
          have HH2 : Hid (mApply ⟨#[]⟩ ⟨#[]⟩ cs2 ⟨2, row, fam, qual, 18446744073709551615, ⟨#[]⟩, ⟨none, 0, 0, []⟩, ⟨none, 0, 0, []⟩, false, none, 0, 0⟩ [] = (cs2, ⟨7, [], false⟩)) := HST2
          have HH3 : Hid (mApply ⟨#[]⟩ ⟨#[]⟩ cs2 ⟨7, row, fam, qual, 0, ⟨#[]⟩, ⟨none, 0, 0, []⟩, ⟨none, 0, 0, []⟩, false, none, 0, 0⟩ [] = (cs2, ⟨7, [], false⟩)) := HST3
          have HS2 : Hid (Stand ⟨#[]⟩ ⟨#[]⟩ 162 cs2) := hs2
          clear hrest hgt hga hgc hmg hs2 hrest2 hcs2 st1 st2 st3 HST1 HST2 HST3 HPC HCM HRS HQ
          have OK20 := OK.put zv1 row fam qual 18446744073709551615 none 0 0 [] HK.out ⟨#[]⟩ (by decide) 2 (by decide) (by decide) (Sl.nothing zv1)
          have CD20 := every_any zv1 W1.heap.size ⟨#[]⟩ ⟨#[]⟩ cs1 ⟨2, row, fam, qual, 18446744073709551615, ⟨#[]⟩, ⟨none, 0, 0, []⟩, ⟨none, 0, 0, []⟩, false, none, 0, 0⟩ [] (HTW.out.below RT.b tW) RT.tb (HS1.out.mono (by omega)) OK20 (OWL.nil0 zv1)
          rw [HH1.out] at CD20
          unfold OA.val at CD20
          clear OK20
          go_wp2_with fail
          refine CD20.mono ?_
          rintro e w20 ⟨⟨ra20, rn20, rc20, rl20, rfl, -, -⟩, X20, K20⟩
          have RU := RT.wr hWp hpk hck K20 X20
          have ltq20 := RU.tb.lt
          have ltk20 := RU.k.lt
          have ltc20 := RU.c.lt
          unfold resV
          obtain ⟨V20, hV20⟩ : ∃ V, V = w20.alloc (.cells #[.int .i64 0, .slice ra20 rn20 rc20, .bool false] 34) := ⟨_, rfl⟩
          have C20 : Below w20.heap.size w20 V20 := by rw [hV20]; exact (Below.refl _ _).alloc (Nat.le_refl _) _
          have D20 : RC V20 w20.heap.size 0 ra20 rn20 rc20 false := by rw [hV20]; exact heap_alloc_new w20 _
          have RT := RU.below C20
          clear CD20 K20 X20 k0 k1 k2 k3
          have k0 : w20.cell? ⟨W.heap.size, 0, none⟩ = some (.string row) := RU.k.cell 0
          have k1 : w20.cell? ⟨W.heap.size, 1, none⟩ = some (.string fam) := RU.k.cell 1
          have k2 : w20.cell? ⟨W.heap.size, 2, none⟩ = some (.string qual) := RU.k.cell 2
          have k3 : w20.cell? ⟨W.heap.size, 3, none⟩ = some (.int .u64 18446744073709551615) := RU.k.cell 3
          have OK21 := OK.put V20 row fam qual 18446744073709551615 none 0 0 [] HK.out ⟨#[]⟩ (by decide) 2 (by decide) (by decide) (Sl.nothing V20)
          have CD21 := every_any V20 W1.heap.size ⟨#[]⟩ ⟨#[]⟩ cs2 ⟨2, row, fam, qual, 18446744073709551615, ⟨#[]⟩, ⟨none, 0, 0, []⟩, ⟨none, 0, 0, []⟩, false, none, 0, 0⟩ [] (HTW.out.below RT.b tW) RT.tb (HS2.out.mono (by omega)) OK21 (OWL.nil0 V20)
          rw [HH2.out] at CD21
          unfold OA.val at CD21
          clear OK21
          go_wp2_with fail
          rw [← hV20]
          clear hV20
          refine CD21.mono ?_
          rintro e w21 ⟨⟨ra21, rn21, rc21, rl21, rfl, -, -⟩, X21, K21⟩
          have RU := RT.wr hWp hpk hck K21 X21
          have ltq21 := RU.tb.lt
          have ltk21 := RU.k.lt
          have ltc21 := RU.c.lt
          have D20 := D20.wr K21 (by omega)
          unfold resV
          obtain ⟨V21, hV21⟩ : ∃ V, V = w21.alloc (.cells #[.int .i64 7, .slice ra21 rn21 rc21, .bool false] 34) := ⟨_, rfl⟩
          have C21 : Below w21.heap.size w21 V21 := by rw [hV21]; exact (Below.refl _ _).alloc (Nat.le_refl _) _
          have D21 : RC V21 w21.heap.size 7 ra21 rn21 rc21 false := by rw [hV21]; exact heap_alloc_new w21 _
          have D20w := D20
          have D20 := D20.keep C21
          have RT := RU.below C21
          clear CD21 K21 X21 k0 k1 k2 k3
          have k0 : w21.cell? ⟨wa.heap.size, 0, none⟩ = some (.string row) := RU.c.cell 0
          have k1 : w21.cell? ⟨wa.heap.size, 1, none⟩ = some (.string fam) := RU.c.cell 1
          have k2 : w21.cell? ⟨wa.heap.size, 2, none⟩ = some (.string qual) := RU.c.cell 2
          have k3 : w21.cell? ⟨wa.heap.size, 3, none⟩ = some (.int .u64 0) := RU.c.cell 3
          have OK22 := OK.put V21 row fam qual 0 none 0 0 [] HK.out ⟨#[]⟩ (by decide) 7 (by decide) (by decide) (Sl.nothing V21)
          have CD22 := every_any V21 W1.heap.size ⟨#[]⟩ ⟨#[]⟩ cs2 ⟨7, row, fam, qual, 0, ⟨#[]⟩, ⟨none, 0, 0, []⟩, ⟨none, 0, 0, []⟩, false, none, 0, 0⟩ [] (HTW.out.below RT.b tW) RT.tb (HS2.out.mono (by omega)) OK22 (OWL.nil0 V21)
          rw [HH3.out] at CD22
          unfold OA.val at CD22
          clear OK22
          go_wp2_with fail
          rw [← hV21]
          clear hV21
          refine CD22.mono ?_
          rintro e w22 ⟨⟨ra22, rn22, rc22, rl22, rfl, -, -⟩, X22, K22⟩
          have RU := RT.wr hWp hpk hck K22 X22
          have ltq22 := RU.tb.lt
          have ltk22 := RU.k.lt
          have ltc22 := RU.c.lt
          have D20 := D20.wr K22 (by omega)
          have D21 := D21.wr K22 (by omega)
          unfold resV
          obtain ⟨V22, hV22⟩ : ∃ V, V = w22.alloc (.cells #[.int .i64 7, .slice ra22 rn22 rc22, .bool false] 34) := ⟨_, rfl⟩
          have C22 : Below w22.heap.size w22 V22 := by rw [hV22]; exact (Below.refl _ _).alloc (Nat.le_refl _) _
          have D22 : RC V22 w22.heap.size 7 ra22 rn22 rc22 false := by rw [hV22]; exact heap_alloc_new w22 _
          have D20w := D20
          have D20 := D20.keep C22
          have D21w := D21
          have D21 := D21.keep C22
          have RT := RU.below C22
          clear CD22 K22 X22 k0 k1 k2 k3
          have d0 := D20w.c0
          have d1 := D21w.c0
          have ld0 := D20w.lt
          have ld1 := D21w.lt
          have AV := HAL.out V22 RT.b
          go_wp2_with fail
          rw [← hV22]
          refine AV.mono ?_
          rintro e wz ⟨rfl, Cz⟩
          go_wp2
          go_ret
          exact ⟨rfl, RT.b.trans (Cz.mono RT.b.size)⟩
end Go.Proofs.YthlpccajnmkbjaaGreatDoor

/-
  Texts in one: SePut, POr2, Same, Take, AppR, State, RLink, Thr, Meth, RUint, RMore, RBytes, PText, RdOr, BsBlk, PRdRM, SeMath, SeRdMath, SeRdM, RBytesB, KeyT, Read, HRegB, PRdR.
-/
import Derived.Test.YtoagkffokfbpfaaDoorSessionBackQFL
import Derived.Test.YtoagkffokfbpfaaDoorSessionBackQ5
import Derived.Test.YtoagkffokfbpfaaDoorSessionBackQ0
import Derived.Deep.QuietTactic
import Derived.BigQuiet
import Derived.Test.YtoagkffokfbpfaaDoorSessionBackQ1
import Derived.Test.YtoagkffokfbpfaaDoorSessionBackQ4
import Derived.Test.YtoagkffokfbpfaaDoorSessionBackQ3
namespace Go.Proofs.YtoagkffokfbpfaaDoor
open Go.RowKit
def putE (l : List EN) (c s : Nat) (r : RV) : List EN × Int :=
  match fnd l c with
  | none => (l, 15)
  | some i => if s ≤ (l[i]?.map EN.st).getD 0 then (l, 16) else if rightR r = true then (l.set i ⟨c, s, r⟩, 0) else (l, 1)
theorem putE_none {l : List EN} {c s : Nat} {r : RV} (h : fnd l c = none) : putE l c s r = (l, 15) := by unfold putE; rw [h]
theorem putE_stale {l : List EN} {c s i : Nat} {r : RV} (h : fnd l c = some i) (hi : i < l.length) (hs : s ≤ l[i].st) : putE l c s r = (l, 16) := by
  unfold putE
  rw [h]
  simp only [List.getElem?_eq_getElem hi, Option.map_some, Option.getD_some]
  rw [if_pos hs]
theorem putE_bad {l : List EN} {c s i : Nat} {r : RV} (h : fnd l c = some i) (hi : i < l.length) (hs : l[i].st < s) (hr : rightR r = false) : putE l c s r = (l, 1) := by
  unfold putE
  rw [h]
  simp only [List.getElem?_eq_getElem hi, Option.map_some, Option.getD_some]
  rw [if_neg (by omega), if_neg (by rw [hr]; simp)]
theorem putE_ok {l : List EN} {c s i : Nat} {r : RV} (h : fnd l c = some i) (hi : i < l.length) (hs : l[i].st < s) (hr : rightR r = true) : putE l c s r = (l.set i ⟨c, s, r⟩, 0) := by
  unfold putE
  rw [h]
  simp only [List.getElem?_eq_getElem hi, Option.map_some, Option.getD_some]
  rw [if_neg (by omega), if_pos hr]
theorem ok_of {w w' : World} {c s : Nat} {e : Int} {cs : List CA} {m : Bool} {bo : Option Addr} {bn bc : Nat} (hc : c < 18446744073709551616) (hs : s < 18446744073709551616) (hr : rightR (resR e cs m) = true) (hl : ∀ c ∈ cs, c.ok w) (S : Sl w' bo bn bc (putR (resR e cs m))) : EN.ok ⟨c, s, resR e cs m⟩ := by
  obtain ⟨h1, h2⟩ := res_back hr hl
  exact ⟨hc, hs, hr, S.byte, by show (putR (resR e cs m)).length ≤ _; omega, h1, fun x hx => by
    obtain ⟨y, hy, rfl⟩ := List.mem_map.1 hx
    exact (hl y hy).wf⟩
theorem grown_of_below {a b c : World} {g : Nat} (h : Below a.heap.size a b) (k : b.grownBy c (some g)) : a.grownBy c (some g) :=
  ⟨k.os.trans h.os, k.tape.trans h.tape, k.output.trans h.output, Nat.le_trans h.size k.size, fun x hx hn => (k.block x (Nat.lt_of_lt_of_le hx h.size) hn).trans (h.block x hx)⟩
set_option maxRecDepth 100000 in
set_option maxHeartbeats 8000000 in
theorem cPut_any (w : World) (p g c s : Nat) (l : List EN) (h : TS w p g l) (hc : c < 18446744073709551616) (hs : s < 18446744073709551616) (e : Int) (ao : Option Addr) (n cap : Nat) (cs : List CA) (m : Bool) (L : CL w ao n cap cs) :
    Calls Tryd.prog 13 #[.pointer (some ⟨p, 0, none⟩), .int .u64 c, .int .u64 s, resV e ao n cap m] w fun x w' => x = .returned (.int .i64 (putE l c s (resR e cs m)).2) ∧ TS w' p g (putE l c s (resR e cs m)).1 ∧ w.grownBy w' (some g) := by
  have B0 : Below w.heap.size w (w.alloc (.cells #[.int .i64 e, .slice ao n cap, .bool m] 37)) := (Below.refl _ w).alloc (Nat.le_refl _) _
  have K0 : RC (w.alloc (.cells #[.int .i64 e, .slice ao n cap, .bool m] 37)) w.heap.size e ao n cap m := heap_alloc_new w _
  have T1 := h.below B0
  have L1 := L.below B0
  have CF := find_any _ p g c l T1
  unfold resV
  clear L
  go_enter Tryd.func13, Tryd.ntmps13
  go_wp2_with fail
  obtain ⟨w1, hw1⟩ : ∃ W, W = w.alloc (.cells #[.int .i64 e, .slice ao n cap, .bool m] 37) := ⟨_, rfl⟩
  obtain ⟨N, hN⟩ : ∃ N, N = w.heap.size := ⟨_, rfl⟩
  rw [← hw1] at B0 K0 T1 L1 CF ⊢
  rw [← hN] at K0 ⊢
  clear hw1 hN
  refine CF.mono ?_
  rintro x w2 ⟨r, rfl, hr, C2⟩
  have T2 := T1.below C2
  have K2 := K0.keep C2
  have L2 := L1.below C2
  have B2 := B0.trans (C2.mono B0.size)
  clear CF T1 L1 K0 C2 B0
  rcases hr with ⟨rfl, hf⟩ | ⟨k, rfl, hf⟩
  · have HV : Hid (putE l c s (resR e cs m) = (l, 15)) := putE_none hf
    clear hf K2 L2
    go_wp2
    go_ret
    rw [HV.out]
    exact ⟨rfl, T2, grown_of_below B2 (World.grownBy.refl _ _)⟩
  obtain ⟨hk, hcl⟩ := fnd_some hf
  have HF : Hid (fnd l c = some k) := hf
  obtain ⟨cp0, t0, R2, hcp0⟩ := T2.tab
  have q1 := R2.cell k hk 1 _ rfl
  have ki : (k : Int) < (l.length : Int) := by omega
  have k0 : decide ((k : Int) < 0) = false := by simp
  have n8 : (l.length : Int) ≤ 8 := by have := h.n8; omega
  have hst : l[k].st < 18446744073709551616 := (h.ok _ (List.getElem_mem hk)).st
  have HC : Hid (l[k].cl = c) := hcl
  clear hf hcl R2
  by_cases hle : s ≤ l[k].st
  · have i1 : (s : Int) ≤ (l[k].st : Int) := by omega
    have HV : Hid (putE l c s (resR e cs m) = (l, 16)) := putE_stale HF.out hk hle
    clear hle K2 L2
    go_wp2
    go_ret
    rw [HV.out]
    exact ⟨rfl, T2, grown_of_below B2 (World.grownBy.refl _ _)⟩
  have i1 : decide ((s : Int) ≤ (l[k].st : Int)) = false := by simp; omega
  have CR := presult_any w2 e ao n cap cs m L2
  have HLK : Hid (∀ z ∈ cs, z.ok w2) := L2.ok
  have r0 := K2.c0
  have r1 := K2.c1
  have r2 := K2.c2
  clear L2
  go_wp2_with fail
  refine CR.mono ?_
  rintro x w4 ⟨⟨bo, bn, bc, rfl, S4⟩, C4⟩
  have T4 := T2.below C4
  have B4 := B2.trans (C4.mono B2.size)
  clear CR T2 B2 C4 r0 r1 r2 q1 t0 hcp0
  cases hr : rightR (resR e cs m) with
  | false =>
    have hkd : kindR (resR e cs m) = 1 := by unfold kindR; rw [hr]; rfl
    have HV : Hid (putE l c s (resR e cs m) = (l, 1)) := putE_bad HF.out hk (by omega) hr
    rw [hkd]
    clear hr S4 hkd
    go_wp2
    go_ret
    rw [HV.out]
    exact ⟨rfl, T4, grown_of_below B4 (World.grownBy.refl _ _)⟩
  | true =>
    have hkd : kindR (resR e cs m) = 0 := by unfold kindR; rw [hr]; rfl
    have HV : Hid (putE l c s (resR e cs m) = (l.set k ⟨c, s, resR e cs m⟩, 0)) := putE_ok HF.out hk (by omega) hr
    rw [if_pos hr] at S4
    have hok : EN.ok ⟨c, s, resR e cs m⟩ := ok_of hc hs hr HLK.out S4
    obtain ⟨cp, t4, _, hcp⟩ := T4.tab
    have HT4 : Hid (∀ V, Below w4.heap.size w4 V → V.cell? ⟨p, 0, none⟩ = some (.slice (some ⟨g, 0, none⟩) l.length cp) ∧ True) := fun V hV => ⟨(hV.cell (World.block_lt_of_cell? _ _ t4)).trans t4, trivial⟩
    clear t4
    have HPT : Hid (∀ V, TS V p g l → TS ((V.setCell ⟨g, k * 3 + 1, none⟩ (.int .u64 (s : Nat))).setCell ⟨g, k * 3 + 2, none⟩ (.string (strOfNums (putR (resR e cs m))))) p g (l.set k ⟨c, s, resR e cs m⟩) ∧ V.grownBy ((V.setCell ⟨g, k * 3 + 1, none⟩ (.int .u64 (s : Nat))).setCell ⟨g, k * 3 + 2, none⟩ (.string (strOfNums (putR (resR e cs m))))) (some g) ∧
        V.cell? ⟨g, k * 3 + 1, none⟩ = some (.int .u64 (l[k].st : Nat)) ∧ V.cell? ⟨g, k * 3 + 2, none⟩ = some (.string l[k].an) ∧ V.frozen? ⟨g, k * 3 + 1, none⟩ = false ∧ V.frozen? ⟨g, k * 3 + 2, none⟩ = false) := by
      intro V hV
      obtain ⟨cp2, _, R4, _⟩ := hV.tab
      refine ⟨hV.put k hk ⟨c, s, resR e cs m⟩ hok HC.out.symm, put_grown _ _ _ _ _ _, R4.cell k hk 1 _ rfl, R4.cell k hk 2 _ rfl, R4.fz _, R4.fz _⟩
    obtain ⟨ys, hys⟩ : ∃ ys, ys = putR (resR e cs m) := ⟨_, rfl⟩
    rw [← hys] at S4 HPT
    rw [hkd]
    clear hkd hr hys hok HLK HC HF
    go_wp2_with fail
    have E0 : Below w4.heap.size w4 w4.drew := (Below.refl _ _).drew
    refine wp_region_noPanic ?_
    refine wp_region_held_drew (S := fun _ => True) (by kernel_rfl) trivial (fun _ => ?_)
    obtain ⟨v0, hv0⟩ : ∃ v, v = w4.drew := ⟨_, rfl⟩
    rw [← hv0] at E0 ⊢
    clear hv0
    refine hr_take_w 0 (some 38) (.pointer (some ⟨p, 0, none⟩)) rfl rfl (by kernel_rfl) (by kernel_rfl) (by kernel_rfl) rfl (fun W hW => by go_simp) trivial ?_
    simp only [FL]
    refine hr_take_w 1 (some 39) (.pointer (some ⟨p, 0, none⟩)) rfl rfl (by kernel_rfl) (by kernel_rfl) (by kernel_rfl) rfl (fun W hW => by go_simp) trivial ?_
    simp only [FL]
    refine hr_take_w 2 (some 40) (.pointer (some ⟨p, 0, none⟩)) rfl rfl (by kernel_rfl) (by kernel_rfl) (by kernel_rfl) rfl (fun W hW => by go_simp) trivial ?_
    simp only [FL]
    refine hr_take_w 4 (some 42) (.int .i64 (k : Nat)) rfl rfl (by kernel_rfl) (by kernel_rfl) (by kernel_rfl) rfl (fun W hW => by go_simp) trivial ?_
    simp only [FL]
    refine hr_take_w 5 (some 43) (.pointer (some ⟨p, 0, none⟩)) rfl rfl (by kernel_rfl) (by kernel_rfl) (by kernel_rfl) rfl (fun W hW => by go_simp) trivial ?_
    simp only [FL]
    refine hr_take_w 6 (some 44) (.pointer (some ⟨p, 0, none⟩)) rfl rfl (by kernel_rfl) (by kernel_rfl) (by kernel_rfl) rfl (fun W hW => by go_simp) trivial ?_
    simp only [FL]
    refine hr_take_w 7 (some 45) (.pointer (some ⟨p, 0, none⟩)) rfl rfl (by kernel_rfl) (by kernel_rfl) (by kernel_rfl) rfl (fun W hW => by go_simp) trivial ?_
    simp only [FL]
    refine hr_take_w 9 (some 47) (.int .i64 (k : Nat)) rfl rfl (by kernel_rfl) (by kernel_rfl) (by kernel_rfl) rfl (fun W hW => by go_simp) trivial ?_
    simp only [FL]
    refine hr_take_w 10 (some 48) (.int .u64 (s : Nat)) rfl rfl (by kernel_rfl) (by kernel_rfl) (by kernel_rfl) rfl (fun W hW => by go_simp) trivial ?_
    simp only [FL]
    refine hr_take_w 11 (some 49) (.slice bo bn bc) rfl rfl (by kernel_rfl) (by kernel_rfl) (by kernel_rfl) rfl (fun W hW => by go_simp) trivial ?_
    simp only [FL]
    refine wpAnyH_effto 6 (fun zi zv zw => (zi = 3 → zv = .slice (some ⟨g, 0, none⟩) l.length cp) ∧ (zi = 8 → zv = .slice (some ⟨g, 0, none⟩) l.length cp) ∧ (zi = 12 → zv = .string (strOfNums ys))) [(3, 41), (8, 46), (12, 50)] 55 (by kernel_rfl) (by decide) (by decide) rfl ?_ (fun _ _ => trivial) ?_ ?_
    · intro zi v w w' h hb
      refine ⟨fun e => ?_, fun e => ?_, fun e => ?_⟩
      · have h := h.1 e
        exact h
      · have h := h.2.1 e
        exact h
      · have h := h.2.2 e
        exact h
    · intro zp zhi o a w ho hs hb hdep
      have EB := E0.trans (hb.mono E0.size)
      simp only [List.mem_cons, List.not_mem_nil, or_false] at zhi
      rcases zhi with rfl | rfl | rfl
      · obtain rfl : _ = o := Option.some.inj (show some _ = some o from ho)
        have t40 : a.tmps[40]? = some (.pointer (some ⟨p, 0, none⟩)) := hs.get 40 (by kernel_rfl) rfl
        have lc := (HT4.out w EB).1
        exact .inl ⟨.slice (some ⟨g, 0, none⟩) l.length cp, w, by go_simp, ⟨fun _ => rfl, fun e => absurd e (by decide), fun e => absurd e (by decide)⟩, Below.refl _ _⟩
      · obtain rfl : _ = o := Option.some.inj (show some _ = some o from ho)
        have t45 : a.tmps[45]? = some (.pointer (some ⟨p, 0, none⟩)) := hs.get 45 (by kernel_rfl) rfl
        have lc := (HT4.out w EB).1
        exact .inl ⟨.slice (some ⟨g, 0, none⟩) l.length cp, w, by go_simp, ⟨fun e => absurd e (by decide), fun _ => rfl, fun e => absurd e (by decide)⟩, Below.refl _ _⟩
      · obtain rfl : _ = o := Option.some.inj (show some _ = some o from ho)
        have t49 : a.tmps[49]? = some (.slice bo bn bc) := hs.get 49 (by kernel_rfl) rfl
        have cv := conv_str (S4.below EB)
        exact .inl ⟨.string (strOfNums ys), w, by simp [execOp, Act.eval, cv, t49], ⟨fun e => absurd e (by decide), fun e => absurd e (by decide), fun _ => rfl⟩, Below.refl _ _⟩
    intro zf v1 hb hh
    have E1 := E0.trans (hb.mono E0.size)
    obtain e3 := (hh (3, 41) (by simp)).1 rfl
    obtain e8 := (hh (8, 46) (by simp)).2.1 rfl
    obtain e12 := (hh (12, 50) (by simp)).2.2 rfl
    clear hh hb
    simp only [putL, List.foldl_cons, List.foldl_nil, e3, e8, e12]
    clear e3 e8 e12
    simp only [FL]
    have T5 := T4.below E1
    obtain ⟨T6, G6, lc1, lc2, lf1, lf2⟩ := HPT.out v1 T5
    refine hr_take_w 13 (some 51) (.pointer (some ⟨g, k * 3, none⟩)) rfl rfl (by kernel_rfl) (by kernel_rfl) (by kernel_rfl) rfl (fun W hW => by go_simp) trivial ?_
    simp only [FL]
    refine hr_take_w 14 (some 52) (.pointer (some ⟨g, k * 3 + 1, none⟩)) rfl rfl (by kernel_rfl) (by kernel_rfl) (by kernel_rfl) rfl (fun W hW => by go_simp) trivial ?_
    simp only [FL]
    refine hr_skip 15 none (w' := v1.setCell ⟨g, k * 3 + 1, none⟩ (.int .u64 (s : Nat))) rfl rfl (by kernel_rfl) rfl (by go_simp) trivial ?_
    simp only [Act.put]
    refine hr_take_w 16 (some 53) (.pointer (some ⟨g, k * 3, none⟩)) rfl rfl (by kernel_rfl) (by kernel_rfl) (by kernel_rfl) rfl (fun W hW => by go_simp) trivial ?_
    simp only [FL]
    refine hr_take_w 17 (some 54) (.pointer (some ⟨g, k * 3 + 2, none⟩)) rfl rfl (by kernel_rfl) (by kernel_rfl) (by kernel_rfl) rfl (fun W hW => by go_simp) trivial ?_
    simp only [FL]
    refine hr_skip 18 none (w' := (v1.setCell ⟨g, k * 3 + 1, none⟩ (.int .u64 (s : Nat))).setCell ⟨g, k * 3 + 2, none⟩ (.string (strOfNums ys))) rfl rfl (by kernel_rfl) rfl (by go_simp) trivial ?_
    simp only [Act.put]
    refine wpAnyH_done (by kernel_rfl) ?_ _
    refine NoPanic.normal ?_
    clear lc1 lf1 lc2 lf2 HPT HT4
    have G7 := grown_of_below (B4.trans (E1.mono B4.size)) G6
    clear G6
    obtain ⟨w7, hw7⟩ : ∃ W, W = (v1.setCell ⟨g, k * 3 + 1, none⟩ (.int .u64 (s : Nat))).setCell ⟨g, k * 3 + 2, none⟩ (.string (strOfNums ys)) := ⟨_, rfl⟩
    rw [← hw7] at T6 G7 ⊢
    clear hw7
    go_wp2
    go_ret
    rw [HV.out]
    exact ⟨rfl, T6, G7⟩
open Go.RowKit
def or2 (a b : Int) : Int := if a = 0 then b else a
set_option maxRecDepth 100000 in
set_option maxHeartbeats 2000000 in
theorem por2_any (w : World) (g : Nat) (c0 c1 : Int) (hg : w.heap[g]? = some (.cells #[.int .i64 c0, .int .i64 c1] 27)) :
    Calls Tryd.prog 49 #[.slice (some ⟨g, 0, none⟩) 2 2] w fun e w' => e = .returned (.int .i64 (or2 c0 c1)) ∧ w' = w := by
  have q0 : w.cell? ⟨g, 0, none⟩ = some (.int .i64 c0) := cell_of_row w g 0 _ _ _ hg
  have q1 : w.cell? ⟨g, 1, none⟩ = some (.int .i64 c1) := cell_of_row w g 1 _ _ _ hg
  clear hg
  go_enter Tryd.func49, Tryd.ntmps49
  go_wp2_with fail
  go_loopw [5, 8] (fun _ i wr => wr = w ∧ ∃ j : Nat, i = .int .i64 j ∧ j ≤ 2 ∧ (0 < j → c0 = 0) ∧ (1 < j → c1 = 0)) (fun _ i _ => 2 - (intOf i).toNat)
  case atStart => exact ⟨rfl, 0, rfl, by omega, by omega, by omega⟩
  case round =>
    obtain ⟨rfl, j, rfl, hj, h1, h2⟩ := hrel
    obtain rfl | rfl | rfl : j = 0 ∨ j = 1 ∨ j = 2 := by omega
    · by_cases z : c0 = 0
      · subst z
        clear h1 h2
        go_wp2
        go_roundw
        case rel => exact ⟨trivial, 1, rfl, by omega, fun _ => trivial, by omega⟩
        case measure => simp [intOf]
      · have zb : (c0 != 0) = true := by simp [z]
        have zc : (c0 == 0) = false := by simp [z]
        have hv : Hid (or2 c0 c1 = c0) := if_neg z
        clear h1 h2 z
        go_wp2
        go_ret
        exact ⟨by rw [hv.out] <;> rfl, rfl⟩
    · obtain rfl := h1 (by omega)
      by_cases z : c1 = 0
      · subst z
        clear h1 h2
        go_wp2
        go_roundw
        case rel => exact ⟨trivial, 2, rfl, by omega, fun _ => trivial, fun _ => trivial⟩
        case measure => simp [intOf]
      · have zb : (c1 != 0) = true := by simp [z]
        have zc : (c1 == 0) = false := by simp [z]
        have hv : Hid (or2 0 c1 = c1) := if_pos rfl
        clear h1 h2 z
        go_wp2
        go_ret
        exact ⟨by rw [hv.out] <;> rfl, rfl⟩
    · obtain rfl := h1 (by omega)
      obtain rfl := h2 (by omega)
      clear h1 h2
      go_wp2
      go_ret
      exact ⟨rfl, rfl⟩
open Go.RowKit
theorem lists_of (n : Nat) (xs ys : List Int) (h1 : xs.length = n) (h2 : ys.length = n) (h : ∀ j, j < n → xs.getD j 0 = ys.getD j 0) : xs = ys := by
  apply List.ext_getElem (by omega)
  intro j hj hj2
  have := h j (by omega)
  simpa [List.getD, hj, hj2] using this
theorem Sl.at {w : World} {ao : Option Addr} {n cap : Nat} {xs : List Int} (h : Sl w ao n cap xs) (hn : 0 < n) :
    ∃ b off, ao = some ⟨b, off, none⟩ ∧ ∀ i, i < n → w.cell? ⟨b, off + i, none⟩ = some (.int .u8 (xs.getD i 0)) := by
  cases ao with
  | none => have := (h.nil rfl).1; omega
  | some a =>
    obtain ⟨b, off, spot⟩ := a
    have hc := h.cell _ rfl 0 hn
    have hs : spot = none := by simpa [Addr.add] using World.cell?_spot hc
    subst hs
    exact ⟨b, off, rfl, fun i hi => by have := h.cell _ rfl i hi; rw [Addr.add_lit] at this; exact this⟩
set_option maxHeartbeats 800000 in
theorem same_any (w : World) (ao bo : Option Addr) (n cap m cap2 : Nat) (xs ys : List Int) (h : Sl w ao n cap xs) (h2 : Sl w bo m cap2 ys) :
    Calls Tryd.prog 20 #[.slice ao n cap, .slice bo m cap2] w fun e w' =>
      e = .returned (.bool (decide (xs = ys))) ∧ ∃ q, w' = w.drewN q := by
  have hl := h.len
  have hl2 := h2.len
  have hle := h.le
  have hmx := h.mx
  unfold maxLen at hmx
  by_cases hnm : n = m
  · subst hnm
    have hne : ((n : Int) != (n : Int)) = false := by simp
    go_enter Tryd.func20, Tryd.ntmps20
    go_wp2
    go_loopw [5] (fun i wr => ∃ k q : Nat, k ≤ n ∧ i = .int .i64 k ∧ wr = w.drewN q ∧ ∀ j, j < k → xs.getD j 0 = ys.getD j 0) (fun i _ => n - (intOf i).toNat)
    case atStart => exact ⟨0, 0, Nat.zero_le _, rfl, rfl, fun j hj => by omega⟩
    case round =>
      obtain ⟨k, q, hk, rfl, rfl, heq⟩ := hrel
      by_cases hlt : k < n
      · obtain ⟨b, off, rfl, hc⟩ := h.at (by omega)
        obtain ⟨b2, off2, rfl, hc2⟩ := h2.at (by omega)
        have c1 := hc k hlt
        have c2 := hc2 k hlt
        have hlt1 : (k : Int) < (n : Int) := by omega
        clear hc hc2
        have k1 : k < xs.length := by omega
        have k2 : k < ys.length := by omega
        by_cases he : xs[k] = ys[k]
        · have hb : (xs[k] != ys[k]) = false := by simp [he]
          have hE : Hid (xs[k] = ys[k]) := he
          clear he
          go_wp2
          go_quiet (fail)
          go_wp2
          go_roundw
          case rel =>
            refine ⟨k + 1, _, by omega, by go_num, rfl, fun j hj => ?_⟩
            by_cases hjk : j < k
            · exact heq j hjk
            · obtain rfl : j = k := by omega
              simpa [List.getD, k1, k2] using hE.out
          case measure => simp [intOf]; omega
        · have hb : (xs[k] != ys[k]) = true := by simp [he]
          have hE : Hid (¬ xs[k] = ys[k]) := he
          clear he
          go_wp2
          go_quiet (fail)
          go_wp2
          go_ret
          have hd : decide (xs = ys) = false := decide_eq_false (fun hx => by subst hx; exact hE.out rfl)
          rw [hd, World.drewN_drewN]
          exact ⟨rfl, _, rfl⟩
      · obtain rfl : k = n := by omega
        go_wp2
        go_ret
        have hd : decide (xs = ys) = true := decide_eq_true (lists_of k xs ys hl hl2 heq)
        rw [hd]
        exact ⟨rfl, _, rfl⟩
  · have hne : ((n : Int) != (m : Int)) = true := by simp; omega
    go_enter Tryd.func20, Tryd.ntmps20
    go_wp2
    go_ret
    have hd : decide (xs = ys) = false := decide_eq_false (fun hx => by subst hx; omega)
    rw [hd]
    exact ⟨rfl, 0, rfl⟩
open Go.RowKit
theorem pow128 (i : Nat) : (128 : Nat) ^ i = 2 ^ (7 * i) := by rw [Nat.pow_mul]
theorem orShl (acc i : Nat) (c : Int) (hacc : acc < 128 ^ i) (hc : 0 ≤ c) (hi : i ≤ 9) (h9 : i = 9 → c ≤ 1) :
    bits BinOp.or IntKind.u64 (acc : Int) (IntKind.u64.wrap (c % 128 * 2 ^ (7 * i))) = ((acc + (c % 128).toNat * 128 ^ i : Nat) : Int) ∧ acc + (c % 128).toNat * 128 ^ i < 18446744073709551616 := by
  obtain ⟨x, hx⟩ : ∃ x : Nat, c % 128 = x := ⟨(c % 128).toNat, by omega⟩
  rw [hx]
  have hx1 : x < 128 := by omega
  have hx9 : i = 9 → x ≤ 1 := fun h => by have := h9 h; omega
  rw [pow128] at hacc ⊢
  have hpow : (2 : Nat) ^ (7 * i) ≤ 2 ^ 63 := Nat.pow_le_pow_right (by decide) (by omega)
  have hb : x * 2 ^ (7 * i) ≤ 18446744073709551615 - 2 ^ (7 * i) + 1 := by
    by_cases h : i = 9
    · subst h
      have := hx9 rfl
      have : x = 0 ∨ x = 1 := by omega
      rcases this with rfl | rfl <;> decide
    · have h56 : (2 : Nat) ^ (7 * i) ≤ 2 ^ 56 := Nat.pow_le_pow_right (by decide) (by omega)
      have : x * 2 ^ (7 * i) ≤ 127 * 2 ^ 56 := Nat.mul_le_mul (by omega) h56
      have : (2 : Nat) ^ 56 = 72057594037927936 := by decide
      omega
  have hp63 : (2 : Nat) ^ 63 = 9223372036854775808 := by decide
  have e1 : ((x : Nat) : Int) * 2 ^ (7 * i) = ((x * 2 ^ (7 * i) : Nat) : Int) := by
    rw [Int.natCast_mul, Int.natCast_pow]
    rfl
  rw [e1, IntKind.wrap_u64]
  rw [Int.toNat_natCast]
  generalize hA : 2 ^ (7 * i) = A at *
  have e2 : ((x * A : Nat) : Int) % 18446744073709551616 = ((x * A : Nat) : Int) := by omega
  rw [e2, bits_or_u64_nat acc (x * A) (by omega) (by omega)]
  have e3 : acc ||| x * A = acc + x * A := by
    subst hA
    rw [Nat.or_comm, Nat.mul_comm, ← Nat.two_pow_add_eq_or_of_lt hacc x, Nat.add_comm]
  rw [e3]
  exact ⟨rfl, by omega⟩
theorem tk_cons (i acc : Nat) (c : Int) (r : List Int) : tk i acc (c :: r) = if i = 9 ∧ 1 < c then (0, 0, 3) else if c = 0 ∧ 0 < i then (0, 0, 3) else if 128 ≤ c then tk (i + 1) (acc + (c % 128).toNat * 128 ^ i) r else (acc + (c % 128).toNat * 128 ^ i, i + 1, 0) := rfl
set_option maxHeartbeats 800000 in
set_option maxRecDepth 100000 in
theorem takeNumber_any (w : World) (ao : Option Addr) (n cap : Nat) (xs : List Int) (h : Sl w ao n cap xs) :
    Calls Tryd.prog 70 #[.slice ao n cap] w fun e w' =>
      e = .returned (.tuple #[.int .u64 ((tk 0 0 xs).1 : Nat), .int .i64 ((tk 0 0 xs).2.1 : Nat), .int .i64 ((tk 0 0 xs).2.2 : Nat)]) ∧ w' = w := by
  have hl := h.len
  have hle := h.le
  have hmx := h.mx
  unfold maxLen at hmx
  go_enter Tryd.func70, Tryd.ntmps70
  go_wp2
  refine wp_scope_label 0 (fun a' w' => w' = w ∧ ∃ (i acc : Nat) (u5 u6 u7 u8 u9 u10 u11 u12 u13 u14 u15 u16 u17 u18 u19 u20 u21 u22 u23 u24 u25 u26 u27 u28 u29 u30 u31 u32 u33 u34 u35 u36 u37 u38 u39 : Value), a' = { tmps := #[.slice ao n cap, undef, .int .u64 acc, .int .i64 i, .int .i64 0, u5, u6, u7, u8, u9, u10, u11, u12, u13, u14, u15, u16, u17, u18, u19, u20, u21, u22, u23, u24, u25, u26, u27, u28, u29, u30, u31, u32, u33, u34, u35, u36, u37, u38, u39], defers := [] } ∧ i ≤ n ∧ i ≤ 9 ∧ acc < 128 ^ i ∧ tk i acc (xs.drop i) = tk 0 0 xs) (fun a' _ => n - (intOf (a'.tmps.getD 3 undef)).toNat) ?_ ?_
  · exact ⟨rfl, 0, 0, _, _, _, _, _, _, _, _, _, _, _, _, _, _, _, _, _, _, _, _, _, _, _, _, _, _, _, _, _, _, _, _, _, _, _, rfl, by omega, by omega, by decide, rfl⟩
  · rintro a' w' ⟨rfl, i, acc, u5, u6, u7, u8, u9, u10, u11, u12, u13, u14, u15, u16, u17, u18, u19, u20, u21, u22, u23, u24, u25, u26, u27, u28, u29, u30, u31, u32, u33, u34, u35, u36, u37, u38, u39, rfl, hin, hi9, hacc, htk⟩
    have HT : Hid (tk i acc (xs.drop i) = tk 0 0 xs) := htk
    clear htk
    by_cases hend : i = n
    · have hb : ((i : Int) == (n : Int)) = true := by simp [hend]
      have ht : tk 0 0 xs = (0, 0, 2) := by
        rw [← HT.out, List.drop_eq_nil_of_le (by omega)]
        rfl
      have HT2 : Hid (tk 0 0 xs = (0, 0, 2)) := ht
      clear ht
      go_wp2
      try simp only [Exit.jump]
      go_ret3
      rw [HT2.out]
      exact ⟨rfl, rfl⟩
    · have hb : ((i : Int) == (n : Int)) = false := by simp; omega
      obtain ⟨b, off, rfl, hc⟩ := h.at (by omega)
      have c1 := hc i (by omega)
      have k1 : i < xs.length := by omega
      have hby := h.byte _ (List.getElem_mem k1)
      have hlt1 : (i : Int) < (n : Int) := by omega
      have hg : xs.getD i 0 = xs[i] := by simp [List.getD, k1]
      rw [hg] at c1
      have hd : xs.drop i = xs[i] :: xs.drop (i + 1) := List.drop_eq_getElem_cons k1
      have HD : Hid (xs.drop i = xs[i] :: xs.drop (i + 1)) := hd
      clear hc hd hg
      generalize xs[i] = c at c1 hby HD
      have ht := HT.out
      rw [HD.out, tk_cons] at ht
      by_cases hA : i = 9 ∧ 1 < c
      · rw [if_pos hA] at ht
        obtain ⟨h9, h1⟩ := hA
        subst h9
        have HT2 : Hid ((0, 0, 3) = tk 0 0 xs) := ht
        clear ht
        go_wp2
        try simp only [Exit.jump]
        go_ret3
        rw [← HT2.out]
        exact ⟨rfl, rfl⟩
      · rw [if_neg hA] at ht
        by_cases hB : c = 0 ∧ 0 < i
        · rw [if_pos hB] at ht
          have HT2 : Hid ((0, 0, 3) = tk 0 0 xs) := ht
          obtain ⟨h0, hip⟩ := hB
          subst h0
          clear ht hA
          by_cases h9 : i = 9
          · subst h9
            go_wp2
            try simp only [Exit.jump]
            go_ret3
            rw [← HT2.out]
            exact ⟨rfl, rfl⟩
          · have hb9 : ((i : Int) == 9) = false := by simp; omega
            go_wp2
            try simp only [Exit.jump]
            go_ret3
            rw [← HT2.out]
            exact ⟨rfl, rfl⟩
        · rw [if_neg hB] at ht
          obtain ⟨ho, hsum⟩ := orShl acc i c hacc (by omega) hi9 (by omega)
          have hpw : acc + (c % 128).toNat * 128 ^ i < 128 ^ (i + 1) := by
            have h1 : (c % 128).toNat * 128 ^ i ≤ 127 * 128 ^ i := Nat.mul_le_mul (by omega) (Nat.le_refl _)
            rw [Nat.pow_succ]
            omega
          generalize acc + (c % 128).toNat * 128 ^ i = s at ho hsum ht hpw
          by_cases hC : 128 ≤ c
          · have h9 : ((i : Int) == 9) = false := by simp; omega
            have h0 : (c == 0) = false := by simp; omega
            rw [if_pos hC] at ht
            have HT2 : Hid (_ = tk 0 0 xs) := ht
            have hi8 : i ≤ 8 := by omega
            clear hA hB ht
            go_wp2
            go_step3
            rw [show ((i : Int) + 1) = ((i + 1 : Nat) : Int) from by omega]
            refine ⟨rfl, ⟨rfl, i + 1, s, _, _, _, _, _, _, _, _, _, _, _, _, _, _, _, _, _, _, _, _, _, _, _, _, _, _, _, _, _, _, _, _, _, _, _, rfl, by omega, by omega, hpw, HT2.out⟩, ?_⟩
            simp [intOf]
            omega
          · rw [if_neg hC] at ht
            have HT2 : Hid (_ = tk 0 0 xs) := ht
            clear ht
            by_cases h9 : i = 9
            · have hb9 : ((i : Int) == 9) = true := by simp; omega
              have hc1 : c ≤ 1 := by omega
              have h0 : (c == 0) = false := by simp; omega
              have h9l : 9 ≤ i := by omega
              clear hA hB h9
              go_wp2
              try simp only [Exit.jump]
              go_ret3
              rw [← HT2.out]
              exact ⟨rfl, rfl⟩
            · have hb9 : ((i : Int) == 9) = false := by simp; omega
              clear hA
              by_cases h0 : c = 0
              · have hb0 : (c == 0) = true := by simp; omega
                have hc0 : c ≤ 0 := by omega
                have hi0 : i ≤ 0 := by omega
                clear hB h0
                go_wp2
                try simp only [Exit.jump]
                go_ret3
                rw [← HT2.out]
                exact ⟨rfl, rfl⟩
              · have h0 : (c == 0) = false := by simp; omega
                clear hB
                go_wp2
                try simp only [Exit.jump]
                go_ret3
                rw [← HT2.out]
                exact ⟨rfl, rfl⟩
open Go.RowKit
theorem grown_trans {a b c : World} {r : Option Nat} (h : a.grownBy b r) (k : b.grownBy c r) : a.grownBy c r :=
  ⟨k.os.trans h.os, k.tape.trans h.tape, k.output.trans h.output, Nat.le_trans h.size k.size, fun i hi hne => (k.block i (Nat.lt_of_lt_of_le hi h.size) hne).trans (h.block i hi hne)⟩
theorem grown_below {a b : World} {r : Option Nat} (h : Below a.heap.size a b) : a.grownBy b r := ⟨h.os, h.tape, h.output, h.size, fun i hi _ => h.block i hi⟩
theorem below_grown {a b : World} {B p : Nat} (h : a.grownBy b (some p)) (hB : B ≤ a.heap.size) (hp : B ≤ p) : Below B a b :=
  ⟨h.os, h.tape, h.output, h.size, fun i hi => h.block i (by omega) (by simp; omega)⟩
open Go.RowKit
structure Rd (w : World) (p L : Nat) (ao : Option Addr) (n cap : Nat) (xs : List Int) (k : Int) : Prop where
  c0 : w.cell? ⟨p, 0, none⟩ = some (.slice ao n cap)
  c1 : w.cell? ⟨p, 1, none⟩ = some (.int .i64 k)
  f0 : w.frozen? ⟨p, 0, none⟩ = false
  f1 : w.frozen? ⟨p, 1, none⟩ = false
  sl : Sl w ao n cap xs
  low : ∀ a, ao = some a → 0 < n → a.block < L
  le : L ≤ p
  sm : n ≤ 1000000
def R (w : World) (p L : Nat) (xs : List Int) (k : Int) : Prop := ∃ ao n cap, Rd w p L ao n cap xs k
theorem Rd.plt {w : World} {p L : Nat} {ao : Option Addr} {n cap : Nat} {xs : List Int} {k : Int} (h : Rd w p L ao n cap xs k) : p < w.heap.size := World.block_lt_of_cell? w _ h.c0
theorem Rd.below {w w' : World} {p L : Nat} {ao : Option Addr} {n cap : Nat} {xs : List Int} {k : Int} (h : Rd w p L ao n cap xs k) (hb : Below w.heap.size w w') : Rd w' p L ao n cap xs k :=
  ⟨(hb.cell (p := ⟨p, 0, none⟩) h.plt).trans h.c0, (hb.cell (p := ⟨p, 1, none⟩) h.plt).trans h.c1, (hb.frozen (p := ⟨p, 0, none⟩) h.plt).trans h.f0, (hb.frozen (p := ⟨p, 1, none⟩) h.plt).trans h.f1, h.sl.below hb, h.low, h.le, h.sm⟩
theorem R.below {w w' : World} {p L : Nat} {xs : List Int} {k : Int} (h : R w p L xs k) (hb : Below w.heap.size w w') : R w' p L xs k := by
  obtain ⟨ao, n, cap, h⟩ := h
  exact ⟨ao, n, cap, h.below hb⟩
theorem Sl.keep {w w' : World} {L q : Nat} {ao : Option Addr} {n cap : Nat} {xs : List Int} (h : Sl w ao n cap xs) (low : ∀ a, ao = some a → 0 < n → a.block < L) (hL : L ≤ q) (hg : w.grownBy w' (some q)) : Sl w' ao n cap xs := by
  refine ⟨h.len, h.le, h.mx, h.nil, fun a ha i hi => hg.cell (h.cell a ha i hi) ?_, h.byte⟩
  have := low a ha (by omega)
  have e : (a.add i).block = a.block := by unfold Addr.add; split <;> rfl
  rw [e]
  simp
  omega
theorem R.keep {w w' : World} {p L q : Nat} {xs : List Int} {k : Int} (h : R w p L xs k) (hne : p ≠ q) (hL : L ≤ q) (hg : w.grownBy w' (some q)) : R w' p L xs k := by
  obtain ⟨ao, n, cap, h⟩ := h
  have hb : w'.heap[p]? = w.heap[p]? := hg.block p h.plt (by simp; omega)
  exact ⟨ao, n, cap, hg.cell h.c0 (by simp; omega), hg.cell h.c1 (by simp; omega), (World.frozen?_of_block (a := ⟨p, 0, none⟩) hb).trans h.f0, (World.frozen?_of_block (a := ⟨p, 1, none⟩) hb).trans h.f1, h.sl.keep h.low hL hg, h.low, h.le, h.sm⟩
theorem Sl.drop {w : World} {ao : Option Addr} {n cap : Nat} {xs : List Int} (h : Sl w ao n cap xs) (u : Nat) (hu : u ≤ n) : Sl w (ao.map (fun x => x.add u)) (n - u) (cap - u) (xs.drop u) := by
  have h1 := h.le
  have h2 := h.mx
  refine ⟨by rw [List.length_drop, h.len], by omega, by omega, fun hn => ?_, fun a ha i hi => ?_, h.byte.drop u⟩
  · have := h.nil (by simpa using hn)
    omega
  · obtain ⟨b, off, rfl, hc⟩ := h.at (by omega)
    simp only [Option.map_some, Option.some.injEq] at ha
    subst ha
    rw [Addr.add_lit, Addr.add_lit, Nat.add_assoc, hc (u + i) (by omega)]
    simp [List.getD]
theorem Sl.dropAll {w : World} {ao : Option Addr} {n : Nat} {xs : List Int} {u : Nat} (h : Sl w ao n u xs) (hu : u ≤ n) : Sl w ao (n - u) 0 (xs.drop u) := by
  have h1 := h.le
  refine ⟨by rw [List.length_drop, h.len], by omega, Nat.zero_le _, fun hn => ⟨?_, rfl⟩, fun a ha i hi => by omega, h.byte.drop u⟩
  omega
theorem low_drop {ao : Option Addr} {n L u m : Nat} (h : ∀ a, ao = some a → 0 < n → a.block < L) (hm : m ≤ n) : ∀ a, ao.map (fun x => x.add u) = some a → 0 < m → a.block < L := by
  intro a ha hp
  cases ao with
  | none => simp at ha
  | some x =>
    simp only [Option.map_some, Option.some.injEq] at ha
    subst ha
    have e : (x.add u).block = x.block := by unfold Addr.add; split <;> rfl
    rw [e]
    exact h x rfl (by omega)
theorem grown_setCell (w : World) (p o : Nat) (v : Value) : w.grownBy (w.setCell ⟨p, o, none⟩ v) (some p) :=
  ⟨rfl, rfl, rfl, by simp, fun k _ hne => Below.heap_setCell _ _ _ _ (by simpa using hne)⟩
theorem Rd.rest {w : World} {p L : Nat} {ao : Option Addr} {n cap : Nat} {xs : List Int} {k : Int} (h : Rd w p L ao n cap xs k) {bo : Option Addr} {m c : Nat} {ys : List Int} (hs : Sl w bo m c ys) (hlow : ∀ a, bo = some a → 0 < m → a.block < L) (hm : m ≤ n) :
    Rd (w.setCell ⟨p, 0, none⟩ (.slice bo m c)) p L bo m c ys k :=
  ⟨World.cell?_setCell_same _ _ _ h.c0, (World.cell?_setCell_other _ _ _ _ (by simp)).trans h.c1, by simpa using h.f0, by simpa using h.f1, hs.keep hlow h.le (grown_setCell _ _ _ _), hlow, h.le, Nat.le_trans hm h.sm⟩
theorem Rd.wrong {w : World} {p L : Nat} {ao : Option Addr} {n cap : Nat} {xs : List Int} {k : Int} (h : Rd w p L ao n cap xs k) (q : Int) :
    Rd (w.setCell ⟨p, 1, none⟩ (.int .i64 q)) p L ao n cap xs q :=
  ⟨(World.cell?_setCell_other _ _ _ _ (by simp)).trans h.c0, World.cell?_setCell_same _ _ _ h.c1, by simpa using h.f0, by simpa using h.f1, h.sl.keep h.low h.le (grown_setCell _ _ _ _), h.low, h.le, h.sm⟩
theorem uintS_bad {xs : List Int} {k : Int} (h : pUint xs = .inl k) : uintS xs 0 = (0, [], k) ∧ k ≠ 0 := by
  unfold pUint at h
  unfold uintS
  by_cases c : (tk 0 0 xs).2.2 = 0
  · rw [if_pos c] at h; simp at h
  · rw [if_neg c] at h
    rw [if_pos rfl, if_neg c, Sum.inl.inj h]
    refine ⟨rfl, ?_⟩
    rw [← Sum.inl.inj h]
    omega
theorem uintS_ok {xs r : List Int} {n : Nat} (h : pUint xs = .inr (n, r)) : uintS xs 0 = (n, r, 0) := by
  unfold pUint at h
  unfold uintS
  by_cases c : (tk 0 0 xs).2.2 = 0
  · rw [if_pos c] at h
    have := Sum.inr.inj h
    rw [if_pos rfl, if_pos c, (Prod.mk.inj this).1, (Prod.mk.inj this).2]
  · rw [if_neg c] at h; simp at h
theorem intS_bad {xs : List Int} {k : Int} {most : Nat} (h : pInt most xs = .inl k) : intS xs 0 most = (0, [], k) ∧ k ≠ 0 := by
  unfold pInt then_ at h
  unfold intS
  match e : pUint xs, h with
  | .inl q, h =>
    obtain ⟨e1, e2⟩ := uintS_bad e
    obtain rfl := Sum.inl.inj h
    rw [e1]
    simp [e2]
  | .inr (n, r), h =>
    have e1 := uintS_ok e
    simp only at h
    by_cases c : most < n
    · rw [if_pos c] at h
      obtain rfl := Sum.inl.inj h
      rw [e1]
      simp only [if_true]
      rw [if_pos (by omega)]
      simp
    · rw [if_neg c] at h; simp at h
theorem intS_ok {xs r : List Int} {n most : Nat} (h : pInt most xs = .inr (n, r)) : intS xs 0 most = (n, r, 0) ∧ n ≤ most := by
  unfold pInt then_ at h
  unfold intS
  match e : pUint xs, h with
  | .inl q, h => simp at h
  | .inr (m, s), h =>
    have e1 := uintS_ok e
    simp only at h
    by_cases c : most < m
    · rw [if_pos c] at h; simp at h
    · rw [if_neg c] at h
      have := Prod.mk.inj (Sum.inr.inj h)
      obtain ⟨rfl, rfl⟩ := this
      rw [e1]
      simp only [if_true]
      rw [if_neg (by omega)]
      exact ⟨rfl, by omega⟩
theorem bytesS_bad {xs : List Int} {k : Int} {most : Nat} (h : pBytes most xs = .inl k) : bytesS xs 0 most = ([], [], k) ∧ k ≠ 0 := by
  unfold pBytes then_ at h
  unfold bytesS
  match e : pInt most xs, h with
  | .inl q, h =>
    obtain ⟨e1, e2⟩ := intS_bad e
    obtain rfl := Sum.inl.inj h
    rw [e1]
    simp [e2]
  | .inr (n, r), h =>
    have e1 := (intS_ok e).1
    simp only at h
    by_cases c : r.length < n
    · rw [if_pos c] at h
      obtain rfl := Sum.inl.inj h
      rw [e1]
      simp only [if_true]
      rw [if_pos c]
      simp
    · rw [if_neg c] at h; simp at h
theorem bytesS_ok {xs r l : List Int} {most : Nat} (h : pBytes most xs = .inr (l, r)) : bytesS xs 0 most = (l, r, 0) ∧ l.length ≤ most := by
  unfold pBytes then_ at h
  unfold bytesS
  match e : pInt most xs, h with
  | .inl q, h => simp at h
  | .inr (m, s), h =>
    obtain ⟨e1, e2⟩ := intS_ok e
    simp only at h
    by_cases c : s.length < m
    · rw [if_pos c] at h; simp at h
    · rw [if_neg c] at h
      have := Prod.mk.inj (Sum.inr.inj h)
      obtain ⟨rfl, rfl⟩ := this
      rw [e1]
      simp only [if_true]
      rw [if_neg c]
      refine ⟨rfl, ?_⟩
      rw [List.length_take]
      omega
theorem boolS_bad {xs : List Int} {k : Int} (h : pBool xs = .inl k) : boolS xs 0 = (false, [], k) ∧ k ≠ 0 := by
  cases xs with
  | nil =>
    obtain rfl := Sum.inl.inj h
    exact ⟨rfl, by decide⟩
  | cons c r =>
    simp only [pBool] at h
    by_cases d : 1 < c
    · rw [if_pos d] at h
      obtain rfl := Sum.inl.inj h
      refine ⟨?_, by decide⟩
      simp [boolS, d]
    · rw [if_neg d] at h; simp at h
theorem boolS_ok {xs r : List Int} {b : Bool} (h : pBool xs = .inr (b, r)) : boolS xs 0 = (b, r, 0) := by
  cases xs with
  | nil => simp [pBool] at h
  | cons c s =>
    simp only [pBool] at h
    by_cases d : 1 < c
    · rw [if_pos d] at h; simp at h
    · rw [if_neg d] at h
      have := Prod.mk.inj (Sum.inr.inj h)
      obtain ⟨rfl, rfl⟩ := this
      simp [boolS, d]
theorem uintS_stuck {xs : List Int} {k : Int} (h : k ≠ 0) : uintS xs k = (0, xs, k) := by
  unfold uintS; rw [if_neg h]
theorem intS_stuck {xs : List Int} {k : Int} (h : k ≠ 0) (most : Int) : intS xs k most = (0, xs, k) := by
  unfold intS; rw [uintS_stuck h]; simp [h]
theorem bytesS_stuck {xs : List Int} {k : Int} (h : k ≠ 0) (most : Int) : bytesS xs k most = ([], xs, k) := by
  unfold bytesS; rw [intS_stuck h]; simp [h]
theorem boolS_stuck {xs : List Int} {k : Int} (h : k ≠ 0) : boolS xs k = (false, xs, k) := by
  unfold boolS; rw [if_neg h]
abbrev Th (α : Type) := List Int → Int → α × List Int × Int
structure Thr {α : Type} (P : List Int → Rs α) (f : Th α) : Prop where
  ok : ∀ xs v r, P xs = .inr (v, r) → f xs 0 = (v, r, 0)
  bad : ∀ xs q, P xs = .inl q → (f xs 0).2.2 = q ∧ q ≠ 0
  stuck : ∀ xs k, k ≠ 0 → (f xs k).2.2 = k
def andT {α β : Type} (f : Th α) (g : Th β) : Th (α × β) := fun xs k => (((f xs k).1, (g (f xs k).2.1 (f xs k).2.2).1), (g (f xs k).2.1 (f xs k).2.2).2)
theorem Thr.andThen {α β : Type} {P : List Int → Rs α} {Q : List Int → Rs β} {f : Th α} {g : Th β} (h : Thr P f) (k : Thr Q g) : Thr (andThen P fun _ => Q) (andT f g) := by
  refine ⟨?_, ?_, ?_⟩
  · rintro xs ⟨a, b⟩ r hx
    obtain ⟨a', r', e1, hx⟩ := then_good hx
    obtain ⟨b', r'', e2, hx⟩ := then_good hx
    simp only [Sum.inr.injEq, Prod.mk.injEq] at hx
    obtain ⟨⟨rfl, rfl⟩, rfl⟩ := hx
    unfold andT
    rw [h.ok _ _ _ e1]
    simp only
    rw [k.ok _ _ _ e2]
  · intro xs q hx
    unfold Go.Proofs.YtoagkffokfbpfaaDoor.andThen then_ at hx
    unfold andT
    match e : P xs, hx with
    | .inl q', hx =>
      obtain rfl := Sum.inl.inj hx
      obtain ⟨e1, e2⟩ := h.bad _ _ e
      refine ⟨?_, e2⟩
      rw [← e1] at e2 ⊢
      exact k.stuck _ _ e2
    | .inr (v, r), hx =>
      rw [h.ok _ _ _ e]
      simp only at hx ⊢
      match e' : Q r, hx with
      | .inl q', hx =>
        obtain rfl := Sum.inl.inj hx
        exact k.bad _ _ e'
      | .inr (v', r'), hx => simp at hx
  · intro xs q hq
    have e1 := h.stuck xs q hq
    have e2 : (f xs q).2.2 ≠ 0 := by rw [e1]; exact hq
    exact (k.stuck _ _ e2).trans e1
def mapT {α β : Type} (t : α → β) (f : Th α) : Th β := fun xs k => (t (f xs k).1, (f xs k).2)
theorem Thr.map {α β : Type} {P : List Int → Rs α} {f : Th α} (h : Thr P f) (t : α → β) : Thr (fun xs => dress t (P xs)) (mapT t f) := by
  refine ⟨?_, ?_, ?_⟩
  · intro xs b r hx
    obtain ⟨a, e, rfl⟩ := dress_good hx
    unfold mapT
    rw [h.ok _ _ _ e]
  · intro xs q hx
    unfold mapT
    match e : P xs, hx with
    | .inl q', hx =>
      obtain rfl := Sum.inl.inj hx
      exact h.bad _ _ e
    | .inr (v, r), hx =>
      simp [dress] at hx
  · intro xs q hq
    exact h.stuck xs q hq
def intT' (most : Nat) : Th Nat := fun xs k => intS xs k most
def byT (most : Nat) : Th (List Int) := fun xs k => bytesS xs k most
def txT (most : Nat) : Th ByteArray := mapT strOfNums (byT most)
theorem thr_uint : Thr pUint uintS := ⟨fun _ _ _ h => uintS_ok h, fun _ _ h => by rw [(uintS_bad h).1]; exact ⟨rfl, (uintS_bad h).2⟩, fun _ _ h => by rw [uintS_stuck h]⟩
theorem thr_int (most : Nat) : Thr (pInt most) (intT' most) := ⟨fun _ _ _ h => (intS_ok h).1, fun _ _ h => by show (intS _ 0 most).2.2 = _ ∧ _; rw [(intS_bad h).1]; exact ⟨rfl, (intS_bad h).2⟩, fun _ _ h => by show (intS _ _ _).2.2 = _; rw [intS_stuck h]⟩
theorem thr_bytes (most : Nat) : Thr (pBytes most) (byT most) := ⟨fun _ _ _ h => (bytesS_ok h).1, fun _ _ h => by show (bytesS _ 0 most).2.2 = _ ∧ _; rw [(bytesS_bad h).1]; exact ⟨rfl, (bytesS_bad h).2⟩, fun _ _ h => by show (bytesS _ _ _).2.2 = _; rw [bytesS_stuck h]⟩
theorem thr_bool : Thr pBool boolS := ⟨fun _ _ _ h => boolS_ok h, fun _ _ h => by rw [(boolS_bad h).1]; exact ⟨rfl, (boolS_bad h).2⟩, fun _ _ h => by rw [boolS_stuck h]⟩
theorem thr_text (most : Nat) : Thr (pText most) (txT most) := (thr_bytes most).map strOfNums
def keyT : Th (ByteArray × ByteArray × ByteArray × Nat) := andT (txT 32) (andT (txT 32) (andT (txT 32) uintS))
def rawT (most : Nat) : Th Raw := andT (intT' 100) (andT (txT 32) (andT (txT 32) (andT (txT 32) (andT uintS (andT (txT 32) (andT (byT 256) (andT (byT 256) (andT boolS (intT' most)))))))))
def sT (most : Nat) : Th SN := mapT toS (rawT most)
def andD {α β : Type} (f : Th α) (g : α → Th β) : Th (α × β) := fun xs k => (((f xs k).1, (g (f xs k).1 (f xs k).2.1 (f xs k).2.2).1), (g (f xs k).1 (f xs k).2.1 (f xs k).2.2).2)
theorem Thr.dep {α β : Type} {P : List Int → Rs α} {Q : α → List Int → Rs β} {f : Th α} {g : α → Th β} (h : Thr P f) (k : ∀ a, Thr (Q a) (g a)) : Thr (Go.Proofs.YtoagkffokfbpfaaDoor.andThen P Q) (andD f g) := by
  refine ⟨?_, ?_, ?_⟩
  · rintro xs ⟨a, b⟩ r hx
    obtain ⟨a', r', e1, hx⟩ := then_good hx
    obtain ⟨b', r'', e2, hx⟩ := then_good hx
    simp only [Sum.inr.injEq, Prod.mk.injEq] at hx
    obtain ⟨⟨rfl, rfl⟩, rfl⟩ := hx
    unfold andD
    rw [h.ok _ _ _ e1]
    simp only
    rw [(k _).ok _ _ _ e2]
  · intro xs q hx
    unfold Go.Proofs.YtoagkffokfbpfaaDoor.andThen then_ at hx
    unfold andD
    match e : P xs, hx with
    | .inl q', hx =>
      obtain rfl := Sum.inl.inj hx
      obtain ⟨e1, e2⟩ := h.bad _ _ e
      refine ⟨?_, e2⟩
      rw [← e1] at e2 ⊢
      exact (k _).stuck _ _ e2
    | .inr (v, r), hx =>
      rw [h.ok _ _ _ e]
      simp only at hx ⊢
      match e' : Q v r, hx with
      | .inl q', hx =>
        obtain rfl := Sum.inl.inj hx
        exact (k _).bad _ _ e'
      | .inr (v', r'), hx => simp at hx
  · intro xs q hq
    have e1 := h.stuck xs q hq
    have e2 : (f xs q).2.2 ≠ 0 := by rw [e1]; exact hq
    exact ((k _).stuck _ _ e2).trans e1
def repT {α : Type} (f : Th α) : Nat → Th (List α)
  | 0 => fun xs k => ([], xs, k)
  | n + 1 => fun xs k => ((f xs k).1 :: (repT f n (f xs k).2.1 (f xs k).2.2).1, (repT f n (f xs k).2.1 (f xs k).2.2).2)
theorem Thr.rep {α : Type} {P : List Int → Rs α} {f : Th α} (h : Thr P f) : ∀ n, Thr (pRep P n) (repT f n)
  | 0 => ⟨fun xs v r e => by simp only [pRep, Sum.inr.injEq, Prod.mk.injEq] at e; rw [← e.1, ← e.2]; rfl, fun xs q e => by simp [pRep] at e, fun _ _ _ => rfl⟩
  | n + 1 => by
    have ih := h.rep n
    refine ⟨?_, ?_, ?_⟩
    · rintro xs l r hx
      obtain ⟨a, r', e1, hx⟩ := then_good hx
      obtain ⟨l', r'', e2, hx⟩ := then_good hx
      simp only [Sum.inr.injEq, Prod.mk.injEq] at hx
      obtain ⟨rfl, rfl⟩ := hx
      unfold repT
      rw [h.ok _ _ _ e1]
      simp only
      rw [ih.ok _ _ _ e2]
    · intro xs q hx
      unfold pRep then_ at hx
      unfold repT
      match e : P xs, hx with
      | .inl q', hx =>
        obtain rfl := Sum.inl.inj hx
        obtain ⟨e1, e2⟩ := h.bad _ _ e
        refine ⟨?_, e2⟩
        rw [← e1] at e2 ⊢
        exact ih.stuck _ _ e2
      | .inr (v, r), hx =>
        rw [h.ok _ _ _ e]
        simp only at hx ⊢
        match e' : pRep P n r, hx with
        | .inl q', hx =>
          obtain rfl := Sum.inl.inj hx
          exact ih.bad _ _ e'
        | .inr (v', r'), hx => simp at hx
    · intro xs q hq
      have e1 := h.stuck xs q hq
      have e2 : (f xs q).2.2 ≠ 0 := by rw [e1]; exact hq
      exact (ih.stuck _ _ e2).trans e1
theorem repT_snoc {α : Type} (f : Th α) : ∀ (n : Nat) (xs : List Int) (k : Int), repT f (n + 1) xs k = ((repT f n xs k).1 ++ [(f (repT f n xs k).2.1 (repT f n xs k).2.2).1], (f (repT f n xs k).2.1 (repT f n xs k).2.2).2)
  | 0, xs, k => rfl
  | n + 1, xs, k => by
    have := repT_snoc f n (f xs k).2.1 (f xs k).2.2
    show ((f xs k).1 :: (repT f (n + 1) (f xs k).2.1 (f xs k).2.2).1, (repT f (n + 1) (f xs k).2.1 (f xs k).2.2).2) = _
    rw [this]
    rfl
def rdT {α : Type} (f : Th α) (kind : α → Int) (xs : List Int) : Sum Int α :=
  if doneS (f xs 0).2.1 (f xs 0).2.2 = 0 then (if kind (f xs 0).1 = 0 then .inr (f xs 0).1 else .inl (kind (f xs 0).1)) else .inl (doneS (f xs 0).2.1 (f xs 0).2.2)
theorem rd_thr {α : Type} {P : List Int → Rs α} {f : Th α} (h : Thr P f) (kind : α → Int) (xs : List Int) : rdAll P kind xs = rdT f kind xs := by
  unfold rdAll rdT
  match e : P xs with
  | .inl q =>
    obtain ⟨e1, e2⟩ := h.bad _ _ e
    rw [e1]
    unfold doneS
    rw [if_neg e2, if_neg e2]
  | .inr (v, r) =>
    rw [h.ok _ _ _ e]
    simp only
    unfold doneS
    by_cases c : r = []
    · rw [if_pos c, if_pos rfl, if_pos c, if_pos rfl]
    · rw [if_neg c, if_pos rfl, if_neg c]
      simp
theorem intS_le (xs : List Int) (k : Int) (most : Nat) : (intS xs k most).1 ≤ most := by
  unfold intS
  split
  · split
    · simp
    · rename_i h
      simp only [not_or] at h
      omega
  · simp
theorem bytesS_le (xs : List Int) (k : Int) (most : Nat) : (bytesS xs k most).1.length ≤ most := by
  unfold bytesS
  have := intS_le xs k most
  split
  · split
    · simp
    · simp only [List.length_take]
      omega
  · simp
theorem bytesS_byt {xs : List Int} (h : Byt xs) (k : Int) (most : Nat) : Byt (bytesS xs k most).1 ∧ Byt (bytesS xs k most).2.1 := by
  have hu : Byt (uintS xs k).2.1 := by
    unfold uintS
    split
    · split
      · exact h.drop _
      · intro x hx; simp at hx
    · exact h
  have hi : Byt (intS xs k most).2.1 := by
    unfold intS
    split
    · split
      · intro x hx; simp at hx
      · exact hu
    · exact hu
  unfold bytesS
  split
  · split
    · exact ⟨fun x hx => by simp at hx, fun x hx => by simp at hx⟩
    · exact ⟨hi.take _, hi.drop _⟩
  · exact ⟨fun x hx => by simp at hx, hi⟩
theorem str_size {l : List Int} (h : Byt l) : (strOfNums l).size = l.length := by rw [← sb_len, sb_str h]
open Go.RowKit
theorem failed_any (w : World) (p : Nat) (k : Int) (h : w.cell? ⟨p, 1, none⟩ = some (.int .i64 k)) : Calls Tryd.prog 69 #[.pointer (some ⟨p, 0, none⟩)] w fun e w' => e = .returned (.bool (k != 0)) ∧ w' = w := by
  go_enter Tryd.func69, Tryd.ntmps69
  go_wp2
  go_ret
  exact ⟨rfl, rfl⟩
theorem fail_not (w : World) (p : Nat) (k q : Int) (h : w.cell? ⟨p, 1, none⟩ = some (.int .i64 k)) (hq : k ≠ 0 ∨ q = 0) : Calls Tryd.prog 47 #[.pointer (some ⟨p, 0, none⟩), .int .i64 q] w fun e w' => e = .returned (.tuple #[]) ∧ w' = w := by
  by_cases hk : k = 0
  · have hb : (k != 0) = false := by simp [hk]
    have hq0 : (q == 0) = true := by simp; omega
    clear hk hq
    go_enter Tryd.func47, Tryd.ntmps47
    go_wp2_with (go_at_call 69; refine (failed_any _ p k h).mono ?_; rintro e w' ⟨rfl, rfl⟩)
    (try simp only [Exit.inBlock, Exit.then]); refine bodyPost_ret (results_none rfl _ _ _) rfl ?_
    exact ⟨rfl, rfl⟩
  · have hb : (k != 0) = true := by simp [hk]
    clear hk hq
    go_enter Tryd.func47, Tryd.ntmps47
    go_wp2_with (go_at_call 69; refine (failed_any _ p k h).mono ?_; rintro e w' ⟨rfl, rfl⟩)
    (try simp only [Exit.inBlock, Exit.then]); refine bodyPost_ret (results_none rfl _ _ _) rfl ?_
    exact ⟨rfl, rfl⟩
theorem fail_any (w : World) (p L : Nat) (xs : List Int) (q : Int) (h : R w p L xs 0) (hq : q ≠ 0) : Calls Tryd.prog 47 #[.pointer (some ⟨p, 0, none⟩), .int .i64 q] w fun e w' => e = .returned (.tuple #[]) ∧ R w' p L [] q ∧ w.grownBy w' (some p) := by
  obtain ⟨ao, n, cap, hr⟩ := h
  have h0 := hr.c0
  have h1 := hr.c1
  have f0 := hr.f0
  have f1 := hr.f1
  have hb : (q == 0) = false := by simp [hq]
  have hfin : R ((w.setCell ⟨p, 1, none⟩ (.int .i64 q)).setCell ⟨p, 0, none⟩ (.slice none 0 0)) p L [] q :=
    ⟨none, 0, 0, (hr.wrong q).rest (Sl.nothing _) (fun a ha => by simp at ha) (Nat.zero_le _)⟩
  have hgr := grown_trans (grown_setCell w p 1 (.int .i64 q)) (grown_setCell (w.setCell ⟨p, 1, none⟩ (.int .i64 q)) p 0 (.slice none 0 0))
  clear hr hq
  go_enter Tryd.func47, Tryd.ntmps47
  go_wp2_with (go_at_call 69; refine (failed_any _ p 0 h1).mono ?_; rintro e w' ⟨rfl, rfl⟩)
  go_end0
  exact ⟨rfl, hfin, hgr⟩
theorem done_any (w : World) (p L : Nat) (xs : List Int) (k : Int) (h : R w p L xs k) : Calls Tryd.prog 50 #[.pointer (some ⟨p, 0, none⟩)] w fun e w' => e = .returned (.int .i64 (doneS xs k)) ∧ w' = w := by
  obtain ⟨ao, n, cap, hr⟩ := h
  have h0 := hr.c0
  have h1 := hr.c1
  have hl := hr.sl.len
  clear hr
  by_cases hk : k = 0
  · subst hk
    cases xs with
    | nil =>
      have hn : n = 0 := by simpa using hl.symm
      subst hn
      clear hl
      go_enter Tryd.func50, Tryd.ntmps50
      go_wp2
      go_ret
      exact ⟨rfl, rfl⟩
    | cons c r =>
      have hn : 0 < n := by rw [← hl]; simp
      clear hl
      go_enter Tryd.func50, Tryd.ntmps50
      go_wp2
      go_ret
      exact ⟨rfl, rfl⟩
  · have hb : (k == 0) = false := by simp [hk]
    have hd : doneS xs k = k := by simp [doneS, hk]
    rw [hd]
    clear hk hd
    go_enter Tryd.func50, Tryd.ntmps50
    go_wp2
    go_ret
    exact ⟨rfl, rfl⟩
open Go.RowKit
theorem uint_any (w : World) (p L : Nat) (xs : List Int) (k : Int) (h : R w p L xs k) : Calls Tryd.prog 45 #[.pointer (some ⟨p, 0, none⟩)] w fun e w' =>
    e = .returned (.int .u64 ((uintS xs k).1 : Nat)) ∧ R w' p L (uintS xs k).2.1 (uintS xs k).2.2 ∧ w.grownBy w' (some p) := by
  have hR := h
  obtain ⟨ao, n, cap, hr⟩ := h
  have h0 := hr.c0
  have h1 := hr.c1
  have f0 := hr.f0
  by_cases hk : k = 0
  · subst hk
    have ht := takeNumber_any w ao n cap xs hr.sl
    have hu := tk_used xs 0 0
    unfold uintS
    rw [if_pos rfl]
    have HT : Hid (Calls _ _ _ _ _) := ht
    clear ht
    generalize tk 0 0 xs = T at *
    obtain ⟨m, u, q⟩ := T
    simp only at hu HT ⊢
    by_cases hq : q = 0
    · subst hq
      have hu := hu rfl
      rw [if_pos rfl]
      have hl := hr.sl.len
      have hle := hr.sl.le
      have hmx := hr.sl.mx
      unfold maxLen at hmx
      go_enter Tryd.func45, Tryd.ntmps45
      go_wp2_with (first | (go_at_call 69; refine (failed_any _ p 0 h1).mono ?_; rintro e w' ⟨rfl, rfl⟩) | (go_at_call 70; refine HT.out.mono ?_; rintro e w' ⟨rfl, rfl⟩))
      · have hfin : R (w'.setCell ⟨p, 0, none⟩ (.slice ao (n - u) 0)) p L (xs.drop u) 0 := by
          have hcu : cap = u := by assumption
          subst hcu
          exact ⟨_, _, _, hr.rest (hr.sl.dropAll (by omega)) (fun a ha hp => by omega) (by omega)⟩
        go_ret
        exact ⟨rfl, hfin, grown_setCell _ _ _ _⟩
      · have hfin : R (w'.setCell ⟨p, 0, none⟩ (.slice (ao.map (fun x => x.add u)) (n - u) (cap - u))) p L (xs.drop u) 0 :=
          ⟨_, _, _, hr.rest (hr.sl.drop u (by omega)) (low_drop hr.low (by omega)) (by omega)⟩
        go_ret
        exact ⟨rfl, hfin, grown_setCell _ _ _ _⟩
    · rw [if_neg hq]
      have hqb : ((q : Int) != 0) = true := by simp; omega
      have hf := fail_any w p L xs q hR (by omega)
      have HF : Hid (Calls _ _ _ _ _) := hf
      clear hf hu hR hr
      go_enter Tryd.func45, Tryd.ntmps45
      go_wp2_with (first | (go_at_call 69; refine (failed_any _ p 0 h1).mono ?_; rintro e w' ⟨rfl, rfl⟩) | (go_at_call 70; refine HT.out.mono ?_; rintro e w' ⟨rfl, rfl⟩) | (go_at_call 47; refine HF.out.mono ?_; rintro e w2 ⟨rfl, hr2, hg2⟩))
      go_ret
      exact ⟨rfl, hr2, hg2⟩
  · have hb : (k != 0) = true := by simp [hk]
    have hs : uintS xs k = (0, xs, k) := by simp [uintS, hk]
    rw [hs]
    clear hr hk hs
    go_enter Tryd.func45, Tryd.ntmps45
    go_wp2_with (go_at_call 69; refine (failed_any _ p k h1).mono ?_; rintro e w' ⟨rfl, rfl⟩)
    go_ret
    exact ⟨rfl, hR, World.grownBy.refl _ _⟩
open Go.RowKit
theorem R.kind {w : World} {p L : Nat} {xs : List Int} {k : Int} (h : R w p L xs k) : w.cell? ⟨p, 1, none⟩ = some (.int .i64 k) := by
  obtain ⟨ao, n, cap, hr⟩ := h
  exact hr.c1
set_option maxHeartbeats 400000 in
theorem int_any (w : World) (p L : Nat) (xs : List Int) (k most : Int) (hmost : most ≤ 9223372036854775807) (hb : Byt xs) (h : R w p L xs k) : Calls Tryd.prog 44 #[.pointer (some ⟨p, 0, none⟩), .int .i64 most] w fun e w' =>
    e = .returned (.int .i64 ((intS xs k most).1 : Nat)) ∧ R w' p L (intS xs k most).2.1 (intS xs k most).2.2 ∧ w.grownBy w' (some p) := by
  have hU := uint_any w p L xs k h
  have hlt := uintS_lt (k := k) hb
  unfold intS
  generalize uintS xs k = T at *
  obtain ⟨m, rs, q⟩ := T
  simp only at hU hlt ⊢
  have HU : Hid (Calls _ _ _ _ _) := hU
  clear hU h hb
  by_cases hq : q = 0
  · subst hq
    rw [if_pos rfl]
    by_cases hbad : most < 0 ∨ most < (m : Int)
    · rw [if_pos hbad]
      by_cases hneg : most < 0
      · clear hbad
        go_enter Tryd.func44, Tryd.ntmps44
        go_wp2_with fail
        refine HU.out.mono ?_
        rintro e w1 ⟨rfl, hR1, hg1⟩
        clear HU
        have hc1 := hR1.kind
        go_wp2_with (first | (go_at_call 69; refine (failed_any _ p 0 hc1).mono ?_; rintro e w' ⟨rfl, rfl⟩) | (go_at_call 47; refine (fail_any _ p L rs 4 hR1 (by decide)).mono ?_; rintro e w2 ⟨rfl, hr2, hg2⟩))
        have hg := grown_trans hg1 hg2
        go_ret
        exact ⟨rfl, hr2, hg⟩
      · have hlt2 : most < (m : Int) := by omega
        clear hbad
        go_enter Tryd.func44, Tryd.ntmps44
        go_wp2_with fail
        refine HU.out.mono ?_
        rintro e w1 ⟨rfl, hR1, hg1⟩
        clear HU
        have hc1 := hR1.kind
        go_wp2_with (first | (go_at_call 69; refine (failed_any _ p 0 hc1).mono ?_; rintro e w' ⟨rfl, rfl⟩) | (go_at_call 47; refine (fail_any _ p L rs 4 hR1 (by decide)).mono ?_; rintro e w2 ⟨rfl, hr2, hg2⟩))
        have hg := grown_trans hg1 hg2
        go_ret
        exact ⟨rfl, hr2, hg⟩
    · rw [if_neg hbad]
      have h1 : 0 ≤ most := by omega
      have h2 : (m : Int) ≤ most := by omega
      clear hbad
      go_enter Tryd.func44, Tryd.ntmps44
      go_wp2_with fail
      refine HU.out.mono ?_
      rintro e w1 ⟨rfl, hR1, hg1⟩
      clear HU
      have hc1 := hR1.kind
      go_wp2_with (go_at_call 69; refine (failed_any _ p 0 hc1).mono ?_; rintro e w' ⟨rfl, rfl⟩)
      go_ret
      exact ⟨rfl, hR1, hg1⟩
  · rw [if_neg hq]
    have hqb : (q != 0) = true := by simp [hq]
    clear hq
    go_enter Tryd.func44, Tryd.ntmps44
    go_wp2_with fail
    refine HU.out.mono ?_
    rintro e w1 ⟨rfl, hR1, hg1⟩
    clear HU
    have hc1 := hR1.kind
    go_wp2_with (go_at_call 69; refine (failed_any _ p q hc1).mono ?_; rintro e w' ⟨rfl, rfl⟩)
    go_ret
    exact ⟨rfl, hR1, hg1⟩
open Go.RowKit
theorem R.byte {w : World} {p L : Nat} {xs : List Int} {k : Int} (h : R w p L xs k) : Byt xs := by
  obtain ⟨ao, n, cap, hr⟩ := h
  exact hr.sl.byte
theorem Sl.keepNe {w w' : World} {q : Nat} {ao : Option Addr} {n cap : Nat} {xs : List Int} (h : Sl w ao n cap xs) (hne : ∀ a, ao = some a → 0 < n → a.block ≠ q) (hg : w.grownBy w' (some q)) : Sl w' ao n cap xs := by
  refine ⟨h.len, h.le, h.mx, h.nil, fun a ha i hi => hg.cell (h.cell a ha i hi) ?_, h.byte⟩
  have := hne a ha (by omega)
  have e : (a.add i).block = a.block := by unfold Addr.add; split <;> rfl
  rw [e]
  simp
  exact this
theorem Sl.ofOwn {w : World} {base : Nat} {ao : Option Addr} {n cap : Nat} {xs : List Int} (h : w.ownsRow base 5 1 (.slice ao n cap) n (bv xs)) (hb : Byt xs) : Sl w ao n cap xs := by
  obtain ⟨bo, c, he, hs, _⟩ := Sl.own h hb
  simp only [Value.slice.injEq] at he
  obtain ⟨rfl, _, rfl⟩ := he
  exact hs
theorem bytes_end {w w' w2 : World} {p L m n cap : Nat} {ao bo : Option Addr} {c : Nat} {rs : List Int} {k : Int} (hg1 : w.grownBy w' (some p)) (hr : Rd w' p L ao n cap rs k) (hb2 : Below w'.heap.size w' w2)
    (hown : w2.ownsRow w'.heap.size 5 1 (.slice (some ⟨w'.heap.size, 0, none⟩) m (m + 0)) m (bv (rs.take m))) (hs : Sl w2 bo (n - m) c (rs.drop m)) (hlow : ∀ a, bo = some a → 0 < n - m → a.block < L) :
    Sl (w2.setCell ⟨p, 0, none⟩ (.slice bo (n - m) c)) (some ⟨w'.heap.size, 0, none⟩) m m (rs.take m) ∧ (∀ a, some (⟨w'.heap.size, 0, none⟩ : Addr) = some a → w.heap.size ≤ a.block) ∧
      R (w2.setCell ⟨p, 0, none⟩ (.slice bo (n - m) c)) p L (rs.drop m) k ∧ w.grownBy (w2.setCell ⟨p, 0, none⟩ (.slice bo (n - m) c)) (some p) := by
  have hp := hr.plt
  refine ⟨(Sl.ofOwn hown (hr.sl.byte.take m)).keepNe ?_ (grown_setCell _ _ _ _), ?_, ⟨_, _, _, (hr.below hb2).rest hs hlow (by omega)⟩, grown_trans hg1 (grown_trans (grown_below hb2) (grown_setCell _ _ _ _))⟩
  · intro a ha _
    obtain rfl := Option.some.inj ha
    show w'.heap.size ≠ p
    omega
  · intro a ha
    obtain rfl := Option.some.inj ha
    exact hg1.size
set_option maxHeartbeats 800000 in
theorem bytes_any (w : World) (p L : Nat) (xs : List Int) (k most : Int) (hmost : most ≤ 9223372036854775807) (h : R w p L xs k) : Calls Tryd.prog 46 #[.pointer (some ⟨p, 0, none⟩), .int .i64 most] w fun e w' =>
    ∃ ao n cap, e = .returned (.slice ao n cap) ∧ Sl w' ao n cap (bytesS xs k most).1 ∧ (∀ a, ao = some a → w.heap.size ≤ a.block) ∧ R w' p L (bytesS xs k most).2.1 (bytesS xs k most).2.2 ∧ w.grownBy w' (some p) := by
  have hU := int_any w p L xs k most hmost h.byte h
  unfold bytesS
  generalize intS xs k most = T at *
  obtain ⟨m, rs, q⟩ := T
  simp only at hU ⊢
  have HU : Hid (Calls _ _ _ _ _) := hU
  clear hU h
  by_cases hq : q = 0
  · subst hq
    rw [if_pos rfl]
    by_cases hbad : rs.length < m
    · rw [if_pos hbad]
      go_enter Tryd.func46, Tryd.ntmps46
      go_wp2_with fail
      refine HU.out.mono ?_
      rintro e w1 ⟨rfl, hR1, hg1⟩
      clear HU
      have hR1' := hR1
      obtain ⟨ao, n, cap, hr⟩ := hR1'
      have hc0 := hr.c0
      have hc1 := hr.c1
      have hl := hr.sl.len
      have hlt : (n : Int) < (m : Int) := by omega
      clear hr hl hbad
      go_wp2_with (first | (go_at_call 69; refine (failed_any _ p 0 hc1).mono ?_; rintro e w' ⟨rfl, rfl⟩) | (go_at_call 47; refine (fail_any _ p L rs 2 hR1 (by decide)).mono ?_; rintro e w2 ⟨rfl, hr2, hg2⟩))
      have hg := grown_trans hg1 hg2
      go_ret
      exact ⟨none, 0, 0, rfl, Sl.nothing _, fun a ha => by simp at ha, hr2, hg⟩
    · rw [if_neg hbad]
      go_enter Tryd.func46, Tryd.ntmps46
      go_wp2_with fail
      refine HU.out.mono ?_
      rintro e w1 ⟨rfl, hR1, hg1⟩
      clear HU
      obtain ⟨ao, n, cap, hr⟩ := hR1
      have hc0 := hr.c0
      have hc1 := hr.c1
      have hl := hr.sl.len
      have hle := hr.sl.le
      have hmx := hr.sl.mx
      unfold maxLen at hmx
      have hsm := hr.sm
      have hmn : m ≤ n := by omega
      have hsl := hr.sl.take m hmn
      clear hbad
      go_wp2_with (first | (go_at_call 69; refine (failed_any _ p 0 hc1).mono ?_; rintro e w' ⟨rfl, rfl⟩) | fail)
      refine (withRoom_any _ _ _ _ 0 _ hsl (by omega)).mono ?_
      rintro e w2 ⟨rfl, hown2, hb2⟩
      have hr2 := hr.below hb2
      have hd0 := hr2.c0
      have hf0 := hr2.f0
      by_cases hcm : cap = m
      · subst hcm
        have hfin := bytes_end hg1 hr hb2 hown2 (hr2.sl.dropAll hmn) (fun a ha hp => by omega)
        rw [show n - cap = 0 from by omega] at hfin
        go_wp2_with fail
        go_ret
        exact ⟨_, _, _, rfl, hfin⟩
      · have hfin := bytes_end hg1 hr hb2 hown2 (hr2.sl.drop m hmn) (low_drop hr.low (by omega))
        go_wp2_with fail
        go_ret
        exact ⟨_, _, _, rfl, hfin⟩
  · rw [if_neg hq]
    have hqb : (q != 0) = true := by simp [hq]
    clear hq
    go_enter Tryd.func46, Tryd.ntmps46
    go_wp2_with fail
    refine HU.out.mono ?_
    rintro e w1 ⟨rfl, hR1, hg1⟩
    clear HU
    have hc1 := hR1.kind
    go_wp2_with (go_at_call 69; refine (failed_any _ p q hc1).mono ?_; rintro e w' ⟨rfl, rfl⟩)
    go_ret
    exact ⟨none, 0, 0, rfl, Sl.nothing _, fun a ha => by simp at ha, hR1, hg1⟩
open Go.RowKit
def Left (w : World) (p L : Nat) (t : List Int × Int) (w' : World) : Prop := R w' p L t.1 t.2 ∧ w.grownBy w' (some p)
set_option maxRecDepth 100000 in
set_option maxHeartbeats 1000000 in
theorem ttext_any (w : World) (p L : Nat) (xs : List Int) (k : Int) (h : R w p L xs k) :
    Calls Tryd.prog 84 #[.pointer (some ⟨p, 0, none⟩)] w fun e w' => e = .returned (.string (txT 32 xs k).1) ∧ Left w p L (txT 32 xs k).2 w' := by
  go_enter Tryd.func84, Tryd.ntmps84
  go_wp2_with fail
  refine (bytes_any w p L xs k 32 (by decide) h).mono ?_
  rintro e w1 ⟨ao, n, cap, rfl, S1, _, R1, G1⟩
  have c1 := conv_str S1
  obtain ⟨y, hy⟩ : ∃ y, y = strOfNums (bytesS xs k 32).1 := ⟨_, rfl⟩
  have HY : Hid (y = strOfNums (bytesS xs k 32).1) := hy
  rw [← hy] at c1
  have HR : Hid (R w1 p L (bytesS xs k 32).2.1 (bytesS xs k 32).2.2) := R1
  clear hy S1 R1 h
  go_wp2
  go_ret
  exact ⟨by show Ending.returned (Value.string y) = _; rw [HY.out]; exact rfl, HR.out, G1⟩
theorem grown_own {w W : World} {p q i : Nat} {v : Value} (h : w.grownBy W (some p)) (hq : w.heap.size ≤ q) : w.grownBy (W.setCell ⟨q, i, none⟩ v) (some p) :=
  ⟨h.os, h.tape, h.output, by rw [World.size_setCell]; exact h.size, fun j hj hne => (Below.heap_setCell W ⟨q, i, none⟩ v j (by show j ≠ q; omega)).trans (h.block j hj hne)⟩
theorem R.own {W : World} {p L q i : Nat} {v : Value} {xs : List Int} {k : Int} (h : R W p L xs k) (hp : p < q) (hL : L ≤ q) : R (W.setCell ⟨q, i, none⟩ v) p L xs k := h.keep (by omega) hL (grown_setCell W q i v)
theorem R.plt {W : World} {p L : Nat} {xs : List Int} {k : Int} (h : R W p L xs k) : p < W.heap.size ∧ L ≤ p := by
  obtain ⟨ao, n, cap, h⟩ := h
  exact ⟨h.plt, h.le⟩
def zeroKA : KA := ⟨⟨#[]⟩, ⟨#[]⟩, ⟨#[]⟩, 0⟩
def keyOf (q : ByteArray × ByteArray × ByteArray × Nat) : KA := ⟨q.1, q.2.1, q.2.2.1, q.2.2.2⟩
theorem KyC.grown {V V' : World} {q p : Nat} {k : KA} (h : KyC V q k) (hg : V.grownBy V' (some p)) (hne : q ≠ p) : KyC V' q k := (hg.block q h.lt (by simp; omega)).trans h
set_option maxRecDepth 100000 in
set_option maxHeartbeats 4000000 in
theorem tkey_any (w : World) (p L : Nat) (xs : List Int) (k : Int) (h : R w p L xs k) :
    Calls Tryd.prog 74 #[.pointer (some ⟨p, 0, none⟩)] w fun e w' => e = .returned (keyOf (keyT xs k).1).val ∧ Left w p L (keyT xs k).2 w' := by
  have hpl := h.plt
  have K0 : KyC (w.alloc (.cells #[.string ⟨#[]⟩, .string ⟨#[]⟩, .string ⟨#[]⟩, .int .u64 0] 74)) w.heap.size zeroKA := heap_alloc_new w _
  have B0 : Below w.heap.size w (w.alloc (.cells #[.string ⟨#[]⟩, .string ⟨#[]⟩, .string ⟨#[]⟩, .int .u64 0] 74)) := (Below.refl _ w).alloc (Nat.le_refl _) _
  have R0 := h.below B0
  have G0 : w.grownBy _ (some p) := grown_below B0
  clear h
  go_enter Tryd.func74, Tryd.ntmps74
  go_wp2_with fail
  obtain ⟨w0, hw0⟩ : ∃ W, W = w.alloc (.cells #[.string ⟨#[]⟩, .string ⟨#[]⟩, .string ⟨#[]⟩, .int .u64 0] 74) := ⟨_, rfl⟩
  obtain ⟨N, hN⟩ : ∃ N, N = w.heap.size := ⟨_, rfl⟩
  rw [← hw0] at K0 R0 G0 ⊢
  rw [← hN] at K0 ⊢
  have HN : Hid (N = w.heap.size) := hN
  have hne : N ≠ p := by omega
  have hpN : p < N ∧ L ≤ N := by omega
  clear hw0 hN B0
  refine (ttext_any w0 p L xs k R0).mono ?_
  rintro e w1 ⟨rfl, R1, G1⟩
  obtain ⟨r1, e1⟩ : ∃ r, r = txT 32 xs k := ⟨_, rfl⟩
  have E1 : Hid (r1 = txT 32 xs k) := e1
  rw [← e1] at R1 ⊢
  clear e1
  have K1 := K0.grown G1 hne
  have G1 := grown_trans G0 G1
  clear K0 R0 G0
  go_wp2_with fail
  refine (ttext_any w1 p L r1.2.1 r1.2.2 R1).mono ?_
  rintro e w2 ⟨rfl, R2, G2⟩
  obtain ⟨r2, e2⟩ : ∃ r, r = txT 32 r1.2.1 r1.2.2 := ⟨_, rfl⟩
  have E2 : Hid (r2 = txT 32 r1.2.1 r1.2.2) := e2
  rw [← e2] at R2 ⊢
  clear e2
  have K2 := K1.grown G2 hne
  have G2 := grown_trans G1 G2
  clear K1 R1 G1
  go_wp2_with fail
  refine (ttext_any w2 p L r2.2.1 r2.2.2 R2).mono ?_
  rintro e w3 ⟨rfl, R3, G3⟩
  obtain ⟨r3, e3⟩ : ∃ r, r = txT 32 r2.2.1 r2.2.2 := ⟨_, rfl⟩
  have E3 : Hid (r3 = txT 32 r2.2.1 r2.2.2) := e3
  rw [← e3] at R3 ⊢
  clear e3
  have K3 := K2.grown G3 hne
  have G3 := grown_trans G2 G3
  clear K2 R2 G2
  go_wp2_with fail
  refine (uint_any w3 p L r3.2.1 r3.2.2 R3).mono ?_
  rintro e w4 ⟨rfl, R4, G4⟩
  obtain ⟨r4, e4⟩ : ∃ r, r = uintS r3.2.1 r3.2.2 := ⟨_, rfl⟩
  have E4 : Hid (r4 = uintS r3.2.1 r3.2.2) := e4
  rw [← e4] at R4 ⊢
  clear e4
  have K4 := K3.grown G4 hne
  have G4 := grown_trans G3 G4
  clear K3 R3 G3
  have q0 := K4.c0
  have q1 := K4.c1
  have q2 := K4.c2
  have q3 := K4.c3
  have f0 : w4.frozen? ⟨N, 0, none⟩ = false := frozen_of_row w4 N 0 _ _ K4
  have f1 : w4.frozen? ⟨N, 1, none⟩ = false := frozen_of_row w4 N 1 _ _ K4
  have f2 : w4.frozen? ⟨N, 2, none⟩ = false := frozen_of_row w4 N 2 _ _ K4
  have f3 : w4.frozen? ⟨N, 3, none⟩ = false := frozen_of_row w4 N 3 _ _ K4
  have lt := K4.lt
  have hwN : w.heap.size ≤ N := by rw [HN.out]; exact Nat.le_refl _
  have RF : R ((((w4.setCell ⟨N, 0, none⟩ (.string r1.1)).setCell ⟨N, 1, none⟩ (.string r2.1)).setCell ⟨N, 2, none⟩ (.string r3.1)).setCell ⟨N, 3, none⟩ (.int .u64 r4.1)) p L r4.2.1 r4.2.2 := (((R4.own hpN.1 hpN.2).own hpN.1 hpN.2).own hpN.1 hpN.2).own hpN.1 hpN.2
  have GF : w.grownBy ((((w4.setCell ⟨N, 0, none⟩ (.string r1.1)).setCell ⟨N, 1, none⟩ (.string r2.1)).setCell ⟨N, 2, none⟩ (.string r3.1)).setCell ⟨N, 3, none⟩ (.int .u64 r4.1)) (some p) := grown_own (grown_own (grown_own (grown_own G4 hwN) hwN) hwN) hwN
  have HK : Hid (keyT xs k = ((r1.1, r2.1, r3.1, r4.1), r4.2)) := by
    show _ = _
    unfold keyT andT
    rw [← E1.out, ← E2.out, ← E3.out, ← E4.out]
  clear hne hpN G4 R4 K4
  go_wp2
  refine bodyPost_ret (v := .agg #[.string r1.1, .string r2.1, .string r3.1, .int .u64 r4.1]) (by simp [results, Tryd.results74, go_sem, q0, q1, q2, q3]) rfl ⟨?_, ?_⟩
  · rw [HK.out]
    rfl
  · rw [HK.out]
    exact ⟨RF, GF⟩
open Go.RowKit
theorem rd_or {α : Type} (f : Th α) (kind : α → Int) (xs : List Int) : rdT f kind xs = if or2 (doneS (f xs 0).2.1 (f xs 0).2.2) (kind (f xs 0).1) = 0 then .inr (f xs 0).1 else .inl (or2 (doneS (f xs 0).2.1 (f xs 0).2.2) (kind (f xs 0).1)) := by
  unfold rdT or2
  by_cases c : doneS (f xs 0).2.1 (f xs 0).2.2 = 0
  · simp only [c, if_true]
  · simp only [c, if_false]
open Go.RowKit
def Bs.blk (b : Bs) (x : Nat) : Prop := ∃ a, b.ao = some a ∧ 0 < b.n ∧ a.block = x
theorem Sl.blk_lt {w : World} {b : Bs} (h : Sl w b.ao b.n b.cap b.xs) {x : Nat} (hx : b.blk x) : x < w.heap.size := by
  obtain ⟨a, ha, hn, rfl⟩ := hx
  exact h.lt a ha hn
theorem Sl.kept {w w' : World} {b : Bs} (h : Sl w b.ao b.n b.cap b.xs) (hk : ∀ x, b.blk x → w'.heap[x]? = w.heap[x]?) : Sl w' b.ao b.n b.cap b.xs := by
  refine ⟨h.len, h.le, h.mx, h.nil, fun a ha i hi => ?_, h.byte⟩
  have hb : (a.add i).block = a.block := by unfold Addr.add; split <;> rfl
  rw [← h.cell a ha i hi]
  exact World.cell?_of_block (by rw [hb]; exact hk _ ⟨a, ha, by omega, rfl⟩)
open Go.RowKit
def cT : Th CV := mapT toC (andT (txT 32) (andT (txT 32) (andT (txT 32) (andT uintS (andT (byT 256) boolS)))))
theorem thr_c : Thr pC cT := ((thr_text 32).andThen ((thr_text 32).andThen ((thr_text 32).andThen (thr_uint.andThen ((thr_bytes 256).andThen thr_bool))))).map toC
def resTh : Th RV := mapT toR (andT (intT' 100) (andD (intT' 16) fun n => andT (repT cT n) boolS))
theorem thr_r : Thr pR resTh := ((thr_int 100).andThen ((thr_int 16).dep fun n => (thr_c.rep n).andThen thr_bool)).map toR
theorem cT_key (xs : List Int) (k : Int) : cT xs k = (⟨(keyT xs k).1.1, (keyT xs k).1.2.1, (keyT xs k).1.2.2.1, (keyT xs k).1.2.2.2, (bytesS (keyT xs k).2.1 (keyT xs k).2.2 256).1, (boolS (bytesS (keyT xs k).2.1 (keyT xs k).2.2 256).2.1 (bytesS (keyT xs k).2.1 (keyT xs k).2.2 256).2.2).1⟩, (boolS (bytesS (keyT xs k).2.1 (keyT xs k).2.2 256).2.1 (bytesS (keyT xs k).2.1 (keyT xs k).2.2 256).2.2).2) := by
  have e : ((256 : Nat) : Int) = 256 := rfl
  unfold cT mapT
  simp only [andT, keyT, byT, toC, e]
theorem CA.ok.blk_lt {c : CA} {w : World} (h : c.ok w) {x : Nat} (hx : c.va.blk x) : x < w.heap.size := h.va.blk_lt hx
theorem CA.ok.kept {c : CA} {w w' : World} (h : c.ok w) (hk : ∀ x, c.va.blk x → w'.heap[x]? = w.heap[x]?) : c.ok w' := ⟨h.row, h.fam, h.qual, h.time, h.va.kept hk⟩
def sblk (ao : Option Addr) (n x : Nat) : Prop := ∃ a, ao = some a ∧ 0 < n ∧ a.block = x
theorem CL.kept {w w' : World} {ao : Option Addr} {n cap : Nat} {l : List CA} (h : CL w ao n cap l) (hk : ∀ x, (sblk ao n x ∨ ∃ c ∈ l, c.va.blk x) → w'.heap[x]? = w.heap[x]?) : CL w' ao n cap l := by
  refine ⟨h.len, h.le, h.mx, h.nil, fun a ha i hi j v hv => ?_, fun y hy => (h.ok y hy).kept fun x hx => hk x (.inr ⟨y, hy, hx⟩)⟩
  have hb : (a.add (i * 6 + j)).block = a.block := by unfold Addr.add; split <;> rfl
  rw [← h.cell a ha i hi j v hv]
  exact World.cell?_of_block (by rw [hb]; exact hk _ (.inl ⟨a, ha, by have := h.len; omega, rfl⟩))
def RW (V : World) (p : Nat) (e : Int) (v : Value) (m : Bool) : Prop := V.heap[p]? = some (.cells #[.int .i64 e, v, .bool m] 37)
theorem RW.lt {V : World} {p : Nat} {e : Int} {v : Value} {m : Bool} (h : RW V p e v m) : p < V.heap.size := (Array.getElem?_eq_some_iff.1 h).1
theorem RW.kept {V V' : World} {p : Nat} {e : Int} {v : Value} {m : Bool} (h : RW V p e v m) (hk : V'.heap[p]? = V.heap[p]?) : RW V' p e v m := hk.trans h
theorem RW.c0 {V : World} {p : Nat} {e : Int} {v : Value} {m : Bool} (h : RW V p e v m) : V.cell? ⟨p, 0, none⟩ = some (.int .i64 e) := cell_of_row V p 0 _ _ _ h
theorem RW.c1 {V : World} {p : Nat} {e : Int} {v : Value} {m : Bool} (h : RW V p e v m) : V.cell? ⟨p, 1, none⟩ = some v := cell_of_row V p 1 _ _ _ h
theorem RW.c2 {V : World} {p : Nat} {e : Int} {v : Value} {m : Bool} (h : RW V p e v m) : V.cell? ⟨p, 2, none⟩ = some (.bool m) := cell_of_row V p 2 _ _ _ h
theorem RW.fz {V : World} {p : Nat} {e : Int} {v : Value} {m : Bool} (h : RW V p e v m) (i : Nat) : V.frozen? ⟨p, i, none⟩ = false := frozen_of_row V p i _ _ h
theorem RW.setL {V : World} {p : Nat} {e : Int} {v : Value} {m : Bool} (h : RW V p e v m) (u : Value) : RW (V.setCell ⟨p, 1, none⟩ u) p e u m := heap_setCell_same V p 1 _ _ _ h
theorem RW.setM {V : World} {p : Nat} {e : Int} {v : Value} {m : Bool} (h : RW V p e v m) (b : Bool) : RW (V.setCell ⟨p, 2, none⟩ (.bool b)) p e v b := heap_setCell_same V p 2 _ _ _ h
structure ResInv (w : World) (p L N M parts : Nat) (e : Int) (hx : List Int) (hk : Int) (V : World) (v : Value) (l : List CA) : Prop where
  rd : R V p L (repT cT l.length hx hk).2.1 (repT cT l.length hx hk).2.2
  ov : RW V M e v false
  res : RW V N 0 (.slice none 0 0) false
  own : V.ownsRow (M + 1) 76 6 v l.length (cellsC l)
  oks : ∀ y ∈ l, y.ok V
  far : ∀ x, (∃ y ∈ l, y.va.blk x) → M < x ∧ v.ownBlock ≠ some x
  thr : l.map CA.c = (repT cT l.length hx hk).1
  bel : Below N w V
  le : l.length ≤ parts
  pos : L ≤ p ∧ p < M ∧ N < p
theorem ResInv.drew {w : World} {p L N M parts : Nat} {e : Int} {hx : List Int} {hk : Int} {V : World} {v : Value} {l : List CA} (h : ResInv w p L N M parts e hx hk V v l) : ResInv w p L N M parts e hx hk V.drew v l :=
  ⟨h.rd.below (Below.refl _ _).drew, h.ov, h.res, h.own.drew, fun y hy => (h.oks y hy).below (Below.refl _ _).drew, h.far, h.thr, h.bel.drew, h.le, h.pos⟩
theorem ResInv.ownlt {w : World} {p L N M parts : Nat} {e : Int} {hx : List Int} {hk : Int} {V : World} {v : Value} {l : List CA} (h : ResInv w p L N M parts e hx hk V v l) {g : Nat} (hg : v.ownBlock = some g) : M < g ∧ g < V.heap.size := by
  have := h.own.lt g hg
  omega
theorem ResInv.step {w : World} {p L N M parts : Nat} {e : Int} {hx : List Int} {hk : Int} {V : World} {v : Value} {l : List CA} (h : ResInv w p L N M parts e hx hk V v l) (hlt : l.length < parts)
    {y : CA} {V1 V3 : World} {v' : Value} {ob : Obj} (y1 : y.ok V1) (y2 : ∀ x, y.va.blk x → V.heap.size ≤ x) (y3 : y.c = (cT (repT cT l.length hx hk).2.1 (repT cT l.length hx hk).2.2).1)
    (y4 : R V1 p L (cT (repT cT l.length hx hk).2.1 (repT cT l.length hx hk).2.2).2.1 (cT (repT cT l.length hx hk).2.1 (repT cT l.length hx hk).2.2).2.2) (y5 : V.grownBy V1 (some p))
    (a1 : V3.ownsRow (M + 1) 76 6 v' (l.length + 1) (cellsC l ++ y.cells)) (a2 : (V1.alloc ob).grownBy V3 v.ownBlock) (a3 : ∀ g, v'.ownBlock = some g → v.ownBlock = some g ∨ (V1.alloc ob).heap.size ≤ g) :
    ResInv w p L N M parts e hx hk (V3.setCell ⟨M, 1, none⟩ v') v' (l ++ [y]) := by
  have hp := h.pos
  have sz1 := y5.size
  have sz2 : (V1.alloc ob).heap.size = V1.heap.size + 1 := by simp
  have sz3 := a2.size
  have key : ∀ x, x < V1.heap.size → v.ownBlock ≠ some x → V3.heap[x]? = V1.heap[x]? := fun x hx1 hx2 => (a2.block x (by omega) (fun e => hx2 e.symm)).trans (heap_alloc_old V1 ob hx1)
  have own1 : ∀ x, x ≤ M → v.ownBlock ≠ some x := fun x hx1 hx2 => by have := (h.ownlt hx2).1; omega
  have hM : M < V.heap.size := h.ov.lt
  have RB : ∀ x, x < V.heap.size → x ≠ p → V1.heap[x]? = V.heap[x]? := fun x hx1 hx2 => y5.block x hx1 (by simp; exact hx2)
  have ov3 : RW V3 M e v false := (h.ov.kept (RB M hM (by omega))).kept (key M (by omega) (own1 M (Nat.le_refl _)))
  have hset : ∀ x, x ≠ M → (V3.setCell ⟨M, 1, none⟩ v').heap[x]? = V3.heap[x]? := (same_set V3 M 1 v').2
  have fin : ∀ x, x < V.heap.size → x ≠ p → x ≠ M → v.ownBlock ≠ some x → (V3.setCell ⟨M, 1, none⟩ v').heap[x]? = V.heap[x]? := fun x b1 b2 b3 b4 => ((hset x b3).trans (key x (by omega) b4)).trans (RB x b1 b2)
  refine ⟨?_, ov3.setL v', ?_, ?_, ?_, ?_, ?_, ?_, ?_, hp⟩
  · rw [List.length_append, List.length_singleton, repT_snoc]
    obtain ⟨ao, n, cap, r⟩ := y4
    have r3 : R V3 p L (cT (repT cT l.length hx hk).2.1 (repT cT l.length hx hk).2.2).2.1 (cT (repT cT l.length hx hk).2.1 (repT cT l.length hx hk).2.2).2.2 := by
      have rp : p < V1.heap.size := r.plt
      have hbk := key p rp (own1 p (by omega))
      refine ⟨ao, n, cap, (World.cell?_of_block (a := ⟨p, 0, none⟩) hbk).trans r.c0, (World.cell?_of_block (a := ⟨p, 1, none⟩) hbk).trans r.c1, (World.frozen?_of_block (a := ⟨p, 0, none⟩) hbk).trans r.f0, (World.frozen?_of_block (a := ⟨p, 1, none⟩) hbk).trans r.f1, ?_, r.low, r.le, r.sm⟩
      exact Sl.kept (b := ⟨ao, n, cap, _⟩) r.sl (fun x hx1 => by
        obtain ⟨a, ha, hn, rfl⟩ := hx1
        have hl1 := r.low a ha hn
        exact key _ (by omega) (own1 _ (by omega)))
    exact r3.own (by omega) (by omega)
  · exact h.res.kept (fin N h.res.lt (by omega) (by omega) (own1 N (by omega)))
  · rw [List.length_append, List.length_singleton]
    have e : cellsC (l ++ [y]) = cellsC l ++ y.cells := by unfold cellsC; simp
    rw [e]
    refine own_kept a1 fun g hg => hset g ?_
    have := (a1.lt g hg).1
    omega
  · intro q hq
    rcases List.mem_append.1 hq with hq | hq
    · exact (h.oks q hq).kept fun x hx1 => fin x ((h.oks q hq).blk_lt hx1) (by have := (h.far x ⟨q, hq, hx1⟩).1; omega) (by have := (h.far x ⟨q, hq, hx1⟩).1; omega) (h.far x ⟨q, hq, hx1⟩).2
    · rw [List.mem_singleton.1 hq]
      refine y1.kept fun x hx1 => ?_
      have c1 := y2 x hx1
      have c2 := y1.blk_lt hx1
      have c3 : v.ownBlock ≠ some x := fun e => by have := h.ownlt e; omega
      exact (hset x (by omega)).trans (key x c2 c3)
  · intro x hx1
    have old : ∀ x, x < V1.heap.size → v.ownBlock ≠ some x → v'.ownBlock ≠ some x := fun x b1 b2 b3 => by
      rcases a3 x b3 with c | c
      · exact b2 c
      · omega
    obtain ⟨q, hq, hx1⟩ := hx1
    rcases List.mem_append.1 hq with hq | hq
    · have := h.far x ⟨q, hq, hx1⟩
      exact ⟨this.1, old x (by have := (h.oks q hq).blk_lt hx1; omega) this.2⟩
    · rw [List.mem_singleton.1 hq] at hx1
      have c1 := y2 x hx1
      have c2 := y1.blk_lt hx1
      refine ⟨by omega, old x c2 fun e => ?_⟩
      have := h.ownlt e
      omega
  · rw [List.length_append, List.length_singleton, repT_snoc, List.map_append, h.thr, ← y3]
    rfl
  · have hb := h.bel.size
    refine Below.setCell (h.bel.trans ⟨?_, ?_, ?_, ?_, ?_⟩) (by show N ≤ M; omega) _
    · rw [a2.os]; exact y5.os
    · rw [a2.tape]; exact y5.tape
    · rw [a2.output]; exact y5.output
    · omega
    · intro x b1
      have b2 := h.res.lt
      exact (key x (by omega) (own1 x (by omega))).trans (RB x (by omega) (by omega))
  · rw [List.length_append, List.length_singleton]
    omega
open Go.RowKit
theorem putE_cl (l : List EN) (c s : Nat) (r : RV) : (putE l c s r).1.map EN.cl = l.map EN.cl := by
  unfold putE
  cases hf : fnd l c with
  | none => rfl
  | some i =>
    obtain ⟨hi, hc⟩ := fnd_some hf
    simp only
    by_cases h1 : s ≤ (l[i]?.map EN.st).getD 0
    · rw [if_pos h1]
    · rw [if_neg h1]
      by_cases h2 : rightR r = true
      · rw [if_pos h2]
        simp only [List.map_set]
        have : (l.map EN.cl)[i]? = some c := by rw [List.getElem?_map, List.getElem?_eq_getElem hi]; simp [hc]
        apply List.ext_getElem?
        intro j
        by_cases e : i = j
        · subst e
          rw [List.getElem?_set_self (by simpa using hi), this]
        · rw [List.getElem?_set_ne e]
      · rw [if_neg h2]
def wrE (l : List EN) (c s : Nat) (r : RV) : Option (Nat × EN) :=
  match fnd l c with
  | none => none
  | some i => if s ≤ (l[i]?.map EN.st).getD 0 then none else if rightR r = true then some (i, ⟨c, s, r⟩) else none
theorem putE_wr (l : List EN) (c s : Nat) (r : RV) : (putE l c s r).1 = match wrE l c s r with
    | none => l
    | some (i, e) => l.set i e := by
  unfold putE wrE
  cases fnd l c with
  | none => rfl
  | some i =>
    simp only
    by_cases h1 : s ≤ (l[i]?.map EN.st).getD 0
    · rw [if_pos h1, if_pos h1]
    · rw [if_neg h1, if_neg h1]
      by_cases h2 : rightR r = true
      · rw [if_pos h2, if_pos h2]
      · rw [if_neg h2, if_neg h2]
open Go.RowKit
structure RE where
  cl : Nat
  st : Nat
  a : List Int
def EN.raw (e : EN) : RE := ⟨e.cl, e.st, putR e.r⟩
def jud (st : Nat) (a : List Int) : Int :=
  match rdR a with
  | .inl k => k
  | .inr _ => if st = 0 ∧ a ≠ [0, 0, 0] then 1 else 0
def failS (xs : List Int) (k q : Int) : List Int × Int := if k = 0 then (if q = 0 then (xs, 0) else ([], q)) else (xs, k)
def eC (xs : List Int) (k : Int) : Nat × List Int × Int := uintS xs k
def eS (xs : List Int) (k : Int) : Nat × List Int × Int := uintS (eC xs k).2.1 (eC xs k).2.2
def eB (xs : List Int) (k : Int) : List Int × List Int × Int := bytesS (eS xs k).2.1 (eS xs k).2.2 65536
def eT : Th RE := fun xs k => (⟨(eC xs k).1, (eS xs k).1, (eB xs k).1⟩, failS (eB xs k).2.1 (eB xs k).2.2 (jud (eS xs k).1 (eB xs k).1))
def bytR (e : RE) : List Int := enc e.cl ++ (enc e.st ++ byts e.a)
structure RE.good (e : RE) : Prop where
  cl : e.cl < 18446744073709551616
  st : e.st < 18446744073709551616
  len : e.a.length ≤ 65536
  byt : Byt e.a
  jd : jud e.st e.a = 0
theorem thr_b65 : Thr (pBytes 65536) (byT 65536) := thr_bytes 65536
theorem eT_put {e : RE} (h : e.good) (rest : List Int) : eT (bytR e ++ rest) 0 = (e, rest, 0) := by
  have h1 : eC (bytR e ++ rest) 0 = (e.cl, enc e.st ++ byts e.a ++ rest, 0) := by
    refine thr_uint.ok _ _ _ ?_
    have := good_uint.put e.cl (enc e.st ++ byts e.a ++ rest) h.cl
    unfold bytR
    simp only [List.append_assoc] at this ⊢
    exact this
  have h2 : eS (bytR e ++ rest) 0 = (e.st, byts e.a ++ rest, 0) := by
    unfold eS
    rw [h1]
    refine thr_uint.ok _ _ _ ?_
    have := good_uint.put e.st (byts e.a ++ rest) h.st
    simp only [List.append_assoc] at this ⊢
    exact this
  have h3 : eB (bytR e ++ rest) 0 = (e.a, rest, 0) := by
    unfold eB
    rw [h2]
    have := thr_b65.ok (byts e.a ++ rest) e.a rest ((good_bytes 65536 (by decide)).put e.a rest ⟨h.len, h.byt⟩)
    exact this
  unfold eT failS
  rw [h1, h2, h3]
  simp only
  rw [h.jd]
  rfl
theorem eT_stuck {xs : List Int} {k : Int} (h : k ≠ 0) : (eT xs k).2.2 = k := by
  have h1 : (eC xs k).2.2 = k := thr_uint.stuck xs k h
  have h2 : (eS xs k).2.2 = k := by
    have := thr_uint.stuck (eC xs k).2.1 (eC xs k).2.2 (by rw [h1]; exact h)
    unfold eS
    rw [this, h1]
  have h3 : (eB xs k).2.2 = k := by
    have := thr_b65.stuck (eS xs k).2.1 (eS xs k).2.2 (by rw [h2]; exact h)
    unfold eB
    exact this.trans h2
  unfold eT failS
  simp only
  rw [h3, if_neg h]
theorem thr_back {α : Type} {P : List Int → Rs α} {f : α → List Int} {ok : α → Prop} {t : Th α} (h : Thr P t) (g : Good P f ok) {xs : List Int} (hb : Byt xs) {k : Int} (hk : (t xs k).2.2 = 0) : k = 0 ∧ xs = f (t xs k).1 ++ (t xs k).2.1 ∧ ok (t xs k).1 := by
  by_cases h0 : k = 0
  · subst h0
    match e : P xs with
    | .inl q => exact absurd hk (by rw [(h.bad xs q e).1]; exact (h.bad xs q e).2)
    | .inr (v, r) =>
      have e1 := h.ok xs v r e
      obtain ⟨e2, e3⟩ := g.back xs v r hb e
      rw [e1]
      exact ⟨rfl, e2, e3⟩
  · rw [h.stuck xs k h0] at hk
    exact absurd hk h0
theorem eT_back {xs : List Int} {k : Int} (hb : Byt xs) (hk : (eT xs k).2.2 = 0) : k = 0 ∧ xs = bytR (eT xs k).1 ++ (eT xs k).2.1 ∧ (eT xs k).1.good ∧ Byt (eT xs k).2.1 := by
  have hq : (eB xs k).2.2 = 0 ∧ jud (eS xs k).1 (eB xs k).1 = 0 := by
    unfold eT failS at hk
    simp only at hk
    by_cases c : (eB xs k).2.2 = 0
    · rw [if_pos c] at hk
      by_cases d : jud (eS xs k).1 (eB xs k).1 = 0
      · exact ⟨c, d⟩
      · rw [if_neg d] at hk
        exact absurd hk d
    · rw [if_neg c] at hk
      exact absurd hk c
  have er : (eT xs k).2.1 = (eB xs k).2.1 := by
    unfold eT failS
    simp only
    rw [if_pos hq.1, if_pos hq.2]
  have e1 : (eT xs k).1 = ⟨(eC xs k).1, (eS xs k).1, (eB xs k).1⟩ := rfl
  have c2 : (eS xs k).2.2 = 0 := by
    by_cases c : (eS xs k).2.2 = 0
    · exact c
    · have := thr_b65.stuck (eS xs k).2.1 (eS xs k).2.2 c
      exact this.symm.trans hq.1
  have c1 : (eC xs k).2.2 = 0 := by
    by_cases c : (eC xs k).2.2 = 0
    · exact c
    · have := thr_uint.stuck (eC xs k).2.1 (eC xs k).2.2 c
      exact this.symm.trans c2
  obtain ⟨k0, x1, o1⟩ := thr_back thr_uint good_uint hb (k := k) c1
  have b1 : Byt (eC xs k).2.1 := by rw [x1] at hb; exact byt_right hb
  obtain ⟨_, x2, o2⟩ := thr_back thr_uint good_uint b1 (k := (eC xs k).2.2) c2
  have b2 : Byt (eS xs k).2.1 := by
    have : Byt (enc (eS xs k).1 ++ (eS xs k).2.1) := by
      have := b1
      rw [x2] at this
      exact this
    exact byt_right this
  obtain ⟨_, x3, o3⟩ := thr_back thr_b65 (good_bytes 65536 (by decide)) b2 (k := (eS xs k).2.2) hq.1
  have x3' : (eS xs k).2.1 = byts (eB xs k).1 ++ (eB xs k).2.1 := x3
  have x2' : (eC xs k).2.1 = enc (eS xs k).1 ++ (eS xs k).2.1 := x2
  have x1' : xs = enc (eC xs k).1 ++ (eC xs k).2.1 := x1
  refine ⟨k0, ?_, ?_, ?_⟩
  · rw [er, e1]
    unfold bytR
    simp only
    rw [List.append_assoc, List.append_assoc, ← x3', ← x2', ← x1']
  · rw [e1]
    exact ⟨o1, o2, o3.1, o3.2, hq.2⟩
  · rw [er]
    rw [x3'] at b2
    exact byt_right b2
theorem repT_len {α : Type} (f : Th α) : ∀ (n : Nat) (xs : List Int) (k : Int), (repT f n xs k).1.length = n
  | 0, _, _ => rfl
  | n + 1, xs, k => by
    show ((f xs k).1 :: (repT f n (f xs k).2.1 (f xs k).2.2).1).length = n + 1
    rw [List.length_cons, repT_len f n]
theorem rep_put : ∀ (l : List RE), (∀ e ∈ l, e.good) → ∀ rest, repT eT l.length ((l.map bytR).flatten ++ rest) 0 = (l, rest, 0)
  | [], _, rest => rfl
  | e :: l, h, rest => by
    have h1 := eT_put (h e (List.mem_cons_self ..)) ((l.map bytR).flatten ++ rest)
    have h2 := rep_put l (fun x hx => h x (List.mem_cons_of_mem _ hx)) rest
    have e0 : ((e :: l).map bytR).flatten ++ rest = bytR e ++ ((l.map bytR).flatten ++ rest) := by simp
    rw [e0]
    show ((eT (bytR e ++ ((l.map bytR).flatten ++ rest)) 0).1 :: (repT eT l.length (eT (bytR e ++ ((l.map bytR).flatten ++ rest)) 0).2.1 (eT (bytR e ++ ((l.map bytR).flatten ++ rest)) 0).2.2).1, (repT eT l.length (eT (bytR e ++ ((l.map bytR).flatten ++ rest)) 0).2.1 (eT (bytR e ++ ((l.map bytR).flatten ++ rest)) 0).2.2).2) = (e :: l, rest, 0)
    rw [h1]
    simp only
    rw [h2]
theorem rep_back : ∀ (n : Nat) (xs : List Int) (k : Int), Byt xs → (repT eT n xs k).2.2 = 0 → k = 0 ∧ xs = (((repT eT n xs k).1.map bytR).flatten) ++ (repT eT n xs k).2.1 ∧ ∀ e ∈ (repT eT n xs k).1, e.good
  | 0, xs, k, _, h => ⟨h, rfl, fun _ h => by cases h⟩
  | n + 1, xs, k, hb, h => by
    have h' : (repT eT n (eT xs k).2.1 (eT xs k).2.2).2.2 = 0 := h
    have e0 : (repT eT (n + 1) xs k).1 = (eT xs k).1 :: (repT eT n (eT xs k).2.1 (eT xs k).2.2).1 := rfl
    have e1 : (repT eT (n + 1) xs k).2.1 = (repT eT n (eT xs k).2.1 (eT xs k).2.2).2.1 := rfl
    have hk : (eT xs k).2.2 = 0 := by
      by_cases c : (eT xs k).2.2 = 0
      · exact c
      · have st : ∀ (m : Nat) (ys : List Int) (q : Int), q ≠ 0 → (repT eT m ys q).2.2 = q := by
          intro m
          induction m with
          | zero => intro ys q _; rfl
          | succ m ih =>
            intro ys q hq
            show (repT eT m (eT ys q).2.1 (eT ys q).2.2).2.2 = q
            rw [ih _ _ (by rw [eT_stuck hq]; exact hq), eT_stuck hq]
        rw [st n _ _ c] at h'
        exact h'
    obtain ⟨k0, x1, g1, b1⟩ := eT_back hb hk
    obtain ⟨_, x2, g2⟩ := rep_back n _ _ b1 h'
    refine ⟨k0, ?_, ?_⟩
    · rw [e0, e1, List.map_cons, List.flatten_cons, List.append_assoc, ← x2, ← x1]
    · rw [e0]
      intro e he
      rcases List.mem_cons.1 he with rfl | he
      · exact g1
      · exact g2 e he
theorem RE.good.en {e : RE} (h : e.good) : ∃ x : EN, x.ok ∧ x.raw = e := by
  have hj := h.jd
  unfold jud at hj
  match q : rdR e.a, hj with
  | .inl k, hj =>
    have h1 : rdT resTh kindR e.a = .inl k := (rd_thr thr_r kindR e.a).symm.trans q
    rw [rd_or] at h1
    by_cases c : or2 (doneS (resTh e.a 0).2.1 (resTh e.a 0).2.2) (kindR (resTh e.a 0).1) = 0
    · rw [if_pos c] at h1; cases h1
    · rw [if_neg c] at h1
      simp only [Sum.inl.injEq] at h1
      have hj : k = 0 := hj
      rw [hj] at h1
      exact absurd h1 c
  | .inr r, hj =>
    obtain ⟨e1, f1, k1⟩ := rdAll_back good_r kindR h.byt q
    have hr : rightR r = true := by
      unfold kindR at k1
      by_cases c : rightR r = true
      · exact c
      · rw [if_neg c] at k1; cases k1
    refine ⟨⟨e.cl, e.st, r⟩, ⟨h.cl, h.st, hr, by show Byt (putR r); rw [← e1]; exact h.byt, by show (putR r).length ≤ _; rw [← e1]; exact h.len, by show rdR (putR r) = .inr r; rw [← e1]; exact q, fun c hc => ⟨(f1.2.2 c hc).time, (f1.2.2 c hc).value.2⟩⟩, ?_⟩
    unfold EN.raw
    simp only
    rw [← e1]
theorem raws {l : List RE} (h : ∀ e ∈ l, e.good) : ∃ m : List EN, (∀ e ∈ m, e.ok) ∧ m.map EN.raw = l := by
  induction l with
  | nil => exact ⟨[], (fun _ h => by cases h), rfl⟩
  | cons e l ih =>
    obtain ⟨m, h1, h2⟩ := ih (fun x hx => h x (List.mem_cons_of_mem _ hx))
    obtain ⟨x, h3, h4⟩ := (h e (List.mem_cons_self ..)).en
    exact ⟨x :: m, fun y hy => by
      rcases List.mem_cons.1 hy with rfl | hy
      · exact h3
      · exact h1 y hy, by rw [List.map_cons, h2, h4]⟩
def NZ (l : List EN) : Prop := ∀ e ∈ l, e.st = 0 → e.r = zRV
theorem raw_good {e : EN} (h : e.ok) (hz : e.st = 0 → e.r = zRV) : e.raw.good := by
  refine ⟨h.cl, h.st, h.len, h.byt, ?_⟩
  show jud e.st (putR e.r) = 0
  unfold jud
  rw [h.rd]
  simp only
  rw [if_neg]
  rintro ⟨a, b⟩
  rw [hz a, zRV_put] at b
  exact b rfl
theorem raw_inj {l m : List EN} (hl : ∀ e ∈ l, e.ok) (hm : ∀ e ∈ m, e.ok) (h : l.map EN.raw = m.map EN.raw) : l = m := by
  induction l generalizing m with
  | nil => cases m with
    | nil => rfl
    | cons a m => simp at h
  | cons a l ih =>
    cases m with
    | nil => simp at h
    | cons b m =>
      simp only [List.map_cons, List.cons.injEq] at h
      have h1 := ih (fun e he => hl e (List.mem_cons_of_mem _ he)) (fun e he => hm e (List.mem_cons_of_mem _ he)) h.2
      have h2 := (hl a (List.mem_cons_self ..)).rd
      have h3 := (hm b (List.mem_cons_self ..)).rd
      have h4 := h.1
      unfold EN.raw at h4
      simp only [RE.mk.injEq] at h4
      rw [h4.2.2, h3] at h2
      obtain ⟨a1, a2, a3⟩ := a
      obtain ⟨b1, b2, b3⟩ := b
      simp only [Sum.inr.injEq] at h2
      simp only at h4
      rw [h1, h4.1, h4.2.1, ← h2]
def cntR (xs : List Int) : Nat × List Int × Int := intS xs 0 8
def repR (xs : List Int) : List RE × List Int × Int := repT eT (cntR xs).1 (cntR xs).2.1 (cntR xs).2.2
def dR (xs : List Int) : Int := or2 (doneS (repR xs).2.1 (repR xs).2.2) (jdg ((repR xs).1.map RE.cl))
theorem rd_put {l : List EN} (hl : ∀ e ∈ l, e.ok) (hz : NZ l) (hj : jdg (l.map EN.cl) = 0) (h8 : l.length ≤ 8) : dR (bytT l) = 0 ∧ (repR (bytT l)).1 = l.map EN.raw := by
  have h1 : cntR (bytT l) = (l.length, (l.map bytE).flatten, 0) := (thr_int 8).ok _ _ _ ((good_int 8 (by decide)).put l.length _ h8)
  have h2 : repR (bytT l) = (l.map EN.raw, [], 0) := by
    unfold repR
    rw [h1]
    have := rep_put (l.map EN.raw) (fun e he => by
      obtain ⟨x, hx, rfl⟩ := List.mem_map.1 he
      exact raw_good (hl x hx) (hz x hx)) []
    rw [List.length_map, List.map_map, List.append_nil] at this
    exact this
  unfold dR
  rw [h2]
  refine ⟨?_, rfl⟩
  simp only [List.map_map]
  exact hj
theorem rd_back {xs : List Int} (hb : Byt xs) (hd : dR xs = 0) : ∃ l : List EN, (∀ e ∈ l, e.ok) ∧ l.map EN.raw = (repR xs).1 ∧ bytT l = xs ∧ jdg (l.map EN.cl) = 0 ∧ 1 ≤ l.length ∧ l.length ≤ 8 := by
  have hq : doneS (repR xs).2.1 (repR xs).2.2 = 0 ∧ jdg ((repR xs).1.map RE.cl) = 0 := by
    unfold dR or2 at hd
    by_cases c : doneS (repR xs).2.1 (repR xs).2.2 = 0
    · rw [if_pos c] at hd
      exact ⟨c, hd⟩
    · rw [if_neg c] at hd
      exact absurd hd c
  have hk : (repR xs).2.2 = 0 ∧ (repR xs).2.1 = [] := by
    have := hq.1
    unfold doneS at this
    by_cases c : (repR xs).2.2 = 0
    · rw [if_pos c] at this
      by_cases d : (repR xs).2.1 = []
      · exact ⟨c, d⟩
      · rw [if_neg d] at this; cases this
    · rw [if_neg c] at this
      exact absurd this c
  have hc : (cntR xs).2.2 = 0 := by
    by_cases c : (cntR xs).2.2 = 0
    · exact c
    · have st : ∀ (m : Nat) (ys : List Int) (q : Int), q ≠ 0 → (repT eT m ys q).2.2 = q := by
        intro m
        induction m with
        | zero => intro ys q _; rfl
        | succ m ih =>
          intro ys q hq
          show (repT eT m (eT ys q).2.1 (eT ys q).2.2).2.2 = q
          rw [ih _ _ (by rw [eT_stuck hq]; exact hq), eT_stuck hq]
      have := hk.1
      unfold repR at this
      rw [st _ _ _ c] at this
      exact this
  obtain ⟨_, x1, o1⟩ := thr_back (thr_int 8) (good_int 8 (by decide)) hb (k := 0) hc
  have x1' : xs = enc (cntR xs).1 ++ (cntR xs).2.1 := x1
  have b1 : Byt (cntR xs).2.1 := by rw [x1'] at hb; exact byt_right hb
  obtain ⟨_, x2, g2⟩ := rep_back (cntR xs).1 (cntR xs).2.1 (cntR xs).2.2 b1 hk.1
  have x2' : (cntR xs).2.1 = ((repR xs).1.map bytR).flatten ++ (repR xs).2.1 := x2
  obtain ⟨l, h1, h2⟩ := raws (l := (repR xs).1) g2
  have hlen : l.length = (cntR xs).1 := by
    have a1 := congrArg List.length h2
    rw [List.length_map] at a1
    have a2 : (repR xs).1.length = (cntR xs).1 := repT_len eT _ _ _
    omega
  have hcl : l.map EN.cl = (repR xs).1.map RE.cl := by
    rw [← h2, List.map_map]
    rfl
  refine ⟨l, h1, h2, ?_, by rw [hcl]; exact hq.2, ?_, by rw [hlen]; exact o1⟩
  · unfold bytT
    have : l.map bytE = (repR xs).1.map bytR := by
      rw [← h2, List.map_map]
      rfl
    rw [this, hlen]
    rw [hk.2, List.append_nil] at x2'
    rw [← x2', ← x1']
  · have hj := hq.2
    unfold jdg at hj
    by_cases q : 1 ≤ ((repR xs).1.map RE.cl).length ∧ ((repR xs).1.map RE.cl).length ≤ 8 ∧ riseF 0 ((repR xs).1.map RE.cl) = true
    · have := q.1
      rw [← hcl, List.length_map] at this
      exact this
    · rw [if_neg q] at hj
      cases hj
theorem putE_nz {l : List EN} (h : NZ l) (c s : Nat) (r : RV) : NZ (putE l c s r).1 := by
  rw [putE_wr]
  match q : wrE l c s r with
  | none => exact h
  | some (i, e) =>
    simp only
    intro x hx hz
    rcases List.mem_or_eq_of_mem_set hx with hx | rfl
    · exact h x hx hz
    · unfold wrE at q
      match f : fnd l c, q with
      | some j, q =>
        simp only at q
        by_cases c1 : s ≤ (l[j]?.map EN.st).getD 0
        · rw [if_pos c1] at q; cases q
        · rw [if_neg c1] at q
          by_cases c2 : rightR r = true
          · rw [if_pos c2] at q
            simp only [Option.some.injEq, Prod.mk.injEq] at q
            rw [← q.2] at hz
            simp only at hz
            omega
          · rw [if_neg c2] at q; cases q
theorem newT_nz (ns : List Nat) : NZ (newT ns) := fun e he _ => by
  obtain ⟨c, _, rfl⟩ := List.mem_map.1 he
  rfl
open Go.RowKit
def RE.cells (e : RE) : List Value := [.int .u64 e.cl, .int .u64 e.st, .string (strOfNums e.a)]
def cellsR (l : List RE) : List Value := (l.map RE.cells).flatten
theorem cellsR_raw (l : List EN) : cellsR (l.map EN.raw) = cellsE l := by
  unfold cellsR cellsE
  rw [List.map_map]
  rfl
def nums (ns : List Nat) : List Value := ns.map fun x => Value.int .u64 (x : Nat)
theorem u64Info : (Tryd.prog.info? 34).map (fun i => (i.zero, i.size, i.bytes)) = some (some (.int .u64 0), 1, 8) := by kernel_rfl
theorem re_one (e : RE) : ∀ u ∈ e.cells, u.oneCell' = true := by
  intro u hu
  unfold RE.cells at hu
  simp only [List.mem_cons, List.not_mem_nil, or_false] at hu
  rcases hu with rfl | rfl | rfl <;> rfl
theorem R.low {W W' : World} {rp B : Nat} {xs : List Int} {k : Int} (h : R W rp rp xs k) (hb : Below B W W') (hB : rp < B) : R W' rp rp xs k := by
  obtain ⟨ao, n, cap, r⟩ := h
  have hbk := hb.block rp hB
  refine ⟨ao, n, cap, (World.cell?_of_block (a := ⟨rp, 0, none⟩) hbk).trans r.c0, (World.cell?_of_block (a := ⟨rp, 1, none⟩) hbk).trans r.c1, (World.frozen?_of_block (a := ⟨rp, 0, none⟩) hbk).trans r.f0, (World.frozen?_of_block (a := ⟨rp, 1, none⟩) hbk).trans r.f1, ?_, r.low, r.le, r.sm⟩
  exact Sl.kept (b := ⟨ao, n, cap, _⟩) r.sl (fun x hx => by
    obtain ⟨a, ha, hn, rfl⟩ := hx
    have hl1 := r.low a ha hn
    exact hb.block _ (by omega))
structure RdI (W : World) (rp p : Nat) (v cv : Value) (l : List RE) (ns : List Nat) (xs : List Int) (k : Int) : Prop where
  rd : R W rp rp xs k
  tab : W.heap[p]? = some (.cells #[v] 63)
  own : W.ownsRow (p + 1) 66 3 v l.length (cellsR l)
  cs : W.ownsRow (p + 1) 34 1 cv ns.length (nums ns)
  ne : ∀ x, v.ownBlock = some x → cv.ownBlock ≠ some x
  pos : rp < p
theorem RdI.plt {W : World} {rp p : Nat} {v cv : Value} {l : List RE} {ns : List Nat} {xs : List Int} {k : Int} (h : RdI W rp p v cv l ns xs k) : p < W.heap.size := (Array.getElem?_eq_some_iff.1 h.tab).1
theorem RdI.below {W W' : World} {rp p : Nat} {v cv : Value} {l : List RE} {ns : List Nat} {xs : List Int} {k : Int} (h : RdI W rp p v cv l ns xs k) (hb : Below W.heap.size W W') : RdI W' rp p v cv l ns xs k :=
  ⟨h.rd.below hb, (hb.block p h.plt).trans h.tab, own_kept h.own fun x hx => hb.block x (h.own.lt x hx).2, own_kept h.cs fun x hx => hb.block x (h.cs.lt x hx).2, h.ne, h.pos⟩
theorem RdI.rdr {W W' : World} {rp p : Nat} {v cv : Value} {l : List RE} {ns : List Nat} {xs ys : List Int} {k q : Int} (h : RdI W rp p v cv l ns xs k) (hg : W.grownBy W' (some rp)) (hr : R W' rp rp ys q) : RdI W' rp p v cv l ns ys q := by
  have hp := h.pos
  have key : ∀ x, x < W.heap.size → p ≤ x → W'.heap[x]? = W.heap[x]? := fun x h1 h2 => hg.block x h1 (by simp; omega)
  exact ⟨hr, (key p h.plt (Nat.le_refl _)).trans h.tab, own_kept h.own fun x hx => key x (h.own.lt x hx).2 (by have := (h.own.lt x hx).1; omega), own_kept h.cs fun x hx => key x (h.cs.lt x hx).2 (by have := (h.cs.lt x hx).1; omega), h.ne, h.pos⟩
theorem RdI.vslice {W : World} {rp p : Nat} {v cv : Value} {l : List RE} {ns : List Nat} {xs : List Int} {k : Int} (h : RdI W rp p v cv l ns xs k) : ∃ ao n cap, v = .slice ao n cap := by
  rcases h.own.2 with ⟨rfl, _⟩ | ⟨g, cap, cur, rfl, _⟩
  · exact ⟨none, 0, 0, rfl⟩
  · exact ⟨_, _, cap, rfl⟩
theorem RdI.cslice {W : World} {rp p : Nat} {v cv : Value} {l : List RE} {ns : List Nat} {xs : List Int} {k : Int} (h : RdI W rp p v cv l ns xs k) : ∃ ao n cap, cv = .slice ao n cap := by
  rcases h.cs.2 with ⟨rfl, _⟩ | ⟨g, cap, cur, rfl, _⟩
  · exact ⟨none, 0, 0, rfl⟩
  · exact ⟨_, _, cap, rfl⟩
theorem RdI.num {W : World} {rp p : Nat} {v cv : Value} {l : List RE} {ns : List Nat} {xs : List Int} {k : Int} (h : RdI W rp p v cv l ns xs k) (ty : TypeId) {g cp c : Nat} {t' : TypeId} (hG : W.heap[g]? = some (.cells #[.int .u64 (c : Nat)] t')) (hn : ns.length ≤ 1000) :
    ∃ cv' W1, (Builtin.append_ #[22, 22] ty #[cv, .slice (some ⟨g, 0, none⟩) 1 cp]).run Tryd.prog W = .ok cv' W1 ∧ RdI W1 rp p v cv' l (ns ++ [c]) xs k ∧ Below (p + 1) W W1 ∧ (∀ x, x < W.heap.size → cv.ownBlock ≠ some x → W1.heap[x]? = W.heap[x]?) ∧ ∃ ao n cap, cv' = .slice ao n cap := by
  obtain ⟨i0, hi, hz0, hz1, hz2⟩ := info_parts u64Info
  have hp := h.plt
  obtain ⟨v', W1, hr, ho, hg, ha⟩ := run_append_own2 (P := Tryd.prog) W (p + 1) 22 ty 34 i0 _ 1 8 Tryd.underlying22 hi hz0 hz1 hz2 rfl (by decide) cv ns.length (nums ns) h.cs ⟨g, 0, none⟩ 1 cp [.int .u64 (c : Nat)] rfl
    (fun j u hu => by
      rw [Addr.add_lit, Nat.zero_add, cell_of_row W g j _ _ _ hG]
      simpa using hu) (fun u hu => by rw [List.mem_singleton.1 hu]; rfl) (by unfold maxLen; omega) (by omega) (by omega)
  have hb1 : Below (p + 1) W W1 := (Below.refl _ W).grown hg (by omega) (fun k hk => (h.cs.lt k hk).1)
  have key : ∀ x, x < W.heap.size → cv.ownBlock ≠ some x → W1.heap[x]? = W.heap[x]? := fun x h1 h2 => hg.block x h1 (fun e => h2 e.symm)
  refine ⟨v', W1, hr, ⟨h.rd.low hb1 (by have := h.pos; omega), (hb1.block p (by omega)).trans h.tab, own_kept h.own fun x hx => key x (h.own.lt x hx).2 (h.ne x hx), ?_, fun x hx e => ?_, h.pos⟩, hb1, key, ?_⟩
  · have e1 : nums (ns ++ [c]) = nums ns ++ [.int .u64 (c : Nat)] := by simp [nums]
    rw [e1, List.length_append]
    exact ho
  · rcases ha x e with q | q
    · exact h.ne x hx q
    · have := (h.own.lt x hx).2
      omega
  · rcases ho.2 with ⟨rfl, _⟩ | ⟨g, cap, cur, rfl, _⟩
    · exact ⟨none, 0, 0, rfl⟩
    · exact ⟨_, _, cap, rfl⟩
theorem RdI.ent {W : World} {rp p : Nat} {v cv : Value} {l : List RE} {ns : List Nat} {xs : List Int} {k : Int} (h : RdI W rp p v cv l ns xs k) (ty : TypeId) {g cp : Nat} {e : RE} (hG : W.heap[g]? = some (.cells #[.int .u64 e.cl, .int .u64 e.st, .string (strOfNums e.a)] 66)) (hn : l.length ≤ 1000) :
    ∃ v' W1, (Builtin.append_ #[61, 61] ty #[v, .slice (some ⟨g, 0, none⟩) 1 cp]).run Tryd.prog W = .ok v' W1 ∧ W1.heap[p]? = some (.cells #[v] 63) ∧ RdI (W1.setCell ⟨p, 0, none⟩ v') rp p v' cv (l ++ [e]) ns xs k ∧ Below p W (W1.setCell ⟨p, 0, none⟩ v') ∧ ∃ ao n cap, v' = .slice ao n cap := by
  obtain ⟨i0, hi, hz0, hz1, hz2⟩ := info_parts entInfo
  have hp := h.plt
  obtain ⟨v', W1, hr, ho, hg, ha⟩ := run_append_own2 (P := Tryd.prog) W (p + 1) 61 ty 66 i0 _ 3 32 Tryd.underlying61 hi hz0 hz1 hz2 rfl (by decide) v l.length (cellsR l) h.own ⟨g, 0, none⟩ 1 cp e.cells rfl
    (fun j u hu => by
      rw [Addr.add_lit, Nat.zero_add, cell_of_row W g j _ _ _ hG]
      simpa [RE.cells] using hu) (re_one e) (by unfold maxLen; omega) (by omega) (by omega)
  have hb1 : Below (p + 1) W W1 := (Below.refl _ W).grown hg (by omega) (fun k hk => (h.own.lt k hk).1)
  have hpb : W1.heap[p]? = W.heap[p]? := hb1.block p (by omega)
  have hset := (same_set W1 p 0 v').2
  have hb2 : Below p W (W1.setCell ⟨p, 0, none⟩ v') := Below.setCell (hb1.mono (Nat.le_succ p)) (by show p ≤ p; exact Nat.le_refl _) _
  have hown : W1.ownsRow (p + 1) 66 3 v' (l ++ [e]).length (cellsR (l ++ [e])) := by
    have e1 : cellsR (l ++ [e]) = cellsR l ++ e.cells := by simp [cellsR]
    rw [e1, List.length_append]
    exact ho
  have hcs : ∀ x, cv.ownBlock = some x → (W1.setCell ⟨p, 0, none⟩ v').heap[x]? = W.heap[x]? := fun x hx => by
    have h1 := h.cs.lt x hx
    refine (hset x (by omega)).trans (hg.block x h1.2 (fun e => ?_))
    exact h.ne x e.symm hx
  refine ⟨v', W1, hr, hpb.trans h.tab, ⟨h.rd.low hb2 h.pos, heap_setCell_same W1 p 0 _ _ v' (hpb.trans h.tab), own_kept hown fun x hx => hset x ?_, own_kept h.cs hcs, fun x hx e => ?_, h.pos⟩, hb2, ?_⟩
  · have := (hown.lt x hx).1
    omega
  · rcases ha x hx with q | q
    · exact h.ne x q e
    · have := (h.cs.lt x e).2
      omega
  · rcases ho.2 with ⟨rfl, _⟩ | ⟨g, cap, cur, rfl, _⟩
    · exact ⟨none, 0, 0, rfl⟩
    · exact ⟨_, _, cap, rfl⟩
theorem RdI.nl {W : World} {rp p : Nat} {v cv : Value} {l : List RE} {ns : List Nat} {xs : List Int} {k : Int} (h : RdI W rp p v cv l ns xs k) (hb : ∀ x ∈ ns, x < 18446744073709551616) : ∃ ao cap, cv = .slice ao ns.length cap ∧ NL W ao ns.length cap ns := by
  rcases h.cs.2 with ⟨rfl, e⟩ | ⟨g, cap, cur, rfl, a1, a2, a3, a4, a5, a6⟩
  · have : ns = [] := List.eq_nil_of_length_eq_zero e
    subst this
    exact ⟨none, 0, rfl, NL.nothing W⟩
  · refine ⟨some ⟨g, 0, none⟩, cap, rfl, rfl, a3, a4, fun h => by simp at h, fun a ha i hi => ?_, hb⟩
    obtain rfl := Option.some.inj ha
    refine h.cs.cells (g := g) rfl i _ ?_
    simp [nums, List.getD, hi]
theorem RdI.done {W : World} {rp p : Nat} {v cv : Value} {l : List RE} {ns : List Nat} {xs : List Int} {k : Int} (h : RdI W rp p v cv l ns xs k) {m : List EN} (hm : m.map EN.raw = l) (ok : ∀ e ∈ m, e.ok) (h1 : 1 ≤ m.length) (h8 : m.length ≤ 8) : ∃ g, TS W p g m ∧ p < g := by
  have hl : l.length = m.length := by rw [← hm, List.length_map]
  have N : NewI W p v m := ⟨h.tab, by
    have := h.own
    rw [hl, ← hm, cellsR_raw] at this
    exact this, ok⟩
  exact N.done h1 h8
theorem fail_gen (w : World) (p L : Nat) (xs : List Int) (k q : Int) (h : R w p L xs k) : Calls Tryd.prog 47 #[.pointer (some ⟨p, 0, none⟩), .int .i64 q] w fun e w' => e = .returned (.tuple #[]) ∧ R w' p L (failS xs k q).1 (failS xs k q).2 ∧ w.grownBy w' (some p) := by
  by_cases hk : k = 0
  · by_cases hq : q = 0
    · have hf : failS xs k q = (xs, k) := by unfold failS; rw [if_pos hk, if_pos hq, hk]
      rw [hf]
      obtain ⟨ao, n, cap, hr⟩ := h
      refine (fail_not w p k q hr.c1 (.inr hq)).mono ?_
      rintro e w' ⟨rfl, rfl⟩
      exact ⟨rfl, ⟨ao, n, cap, hr⟩, World.grownBy.refl _ _⟩
    · have hf : failS xs k q = ([], q) := by unfold failS; rw [if_pos hk, if_neg hq]
      rw [hf]
      subst hk
      exact fail_any w p L xs q h hq
  · have hf : failS xs k q = (xs, k) := by unfold failS; rw [if_neg hk]
    rw [hf]
    obtain ⟨ao, n, cap, hr⟩ := h
    refine (fail_not w p k q hr.c1 (.inl hk)).mono ?_
    rintro e w' ⟨rfl, rfl⟩
    exact ⟨rfl, ⟨ao, n, cap, hr⟩, World.grownBy.refl _ _⟩
open Go.RowKit
set_option maxHeartbeats 800000 in
theorem bool_any (w : World) (p L : Nat) (xs : List Int) (k : Int) (h : R w p L xs k) : Calls Tryd.prog 75 #[.pointer (some ⟨p, 0, none⟩)] w fun e w' =>
    e = .returned (.bool (boolS xs k).1) ∧ R w' p L (boolS xs k).2.1 (boolS xs k).2.2 ∧ w.grownBy w' (some p) := by
  have hR := h
  obtain ⟨ao, n, cap, hr⟩ := h
  have hc0 := hr.c0
  have hc1 := hr.c1
  have hf0 := hr.f0
  have hl := hr.sl.len
  by_cases hk : k = 0
  · subst hk
    cases xs with
    | nil =>
      obtain rfl : n = 0 := by simpa using hl.symm
      rw [show boolS [] 0 = (false, [], 2) from rfl]
      clear hr hl
      go_enter Tryd.func75, Tryd.ntmps75
      go_wp2_with (first | (go_at_call 69; refine (failed_any _ p 0 hc1).mono ?_; rintro e w' ⟨rfl, rfl⟩) | (go_at_call 47; refine (fail_any _ p L [] 2 hR (by decide)).mono ?_; rintro e w2 ⟨rfl, hr2, hg2⟩))
      go_ret
      exact ⟨rfl, hr2, hg2⟩
    | cons c r =>
      have hn : 0 < n := by rw [← hl]; simp
      have hnb : ((n : Int) == 0) = false := by simp; omega
      have hn1 : (0 : Int) < (n : Int) := by omega
      have hn2 : (1 : Int) ≤ (n : Int) := by omega
      have hby := hr.sl.byte c (by simp)
      obtain ⟨b, off, rfl, hcell⟩ := hr.sl.at hn
      have c0 := hcell 0 hn
      rw [Nat.add_zero, show (c :: r).getD 0 0 = c from rfl] at c0
      have hle := hr.sl.le
      have hmx := hr.sl.mx
      unfold maxLen at hmx
      clear hcell
      by_cases hbig : 1 < c
      · rw [show boolS (c :: r) 0 = (false, [], 3) from by simp [boolS, hbig]]
        clear hr
        go_enter Tryd.func75, Tryd.ntmps75
        go_wp2_with (first | (go_at_call 69; refine (failed_any _ p 0 hc1).mono ?_; rintro e w' ⟨rfl, rfl⟩) | (go_at_call 47; refine (fail_any _ p L (c :: r) 3 hR (by decide)).mono ?_; rintro e w2 ⟨rfl, hr2, hg2⟩))
        go_ret
        exact ⟨rfl, hr2, hg2⟩
      · have hc1' : c ≤ 1 := by omega
        rw [show boolS (c :: r) 0 = (c == 1, r, 0) from by simp [boolS, hbig]]
        have hsd := hr.sl.drop 1 hn
        rw [show (c :: r).drop 1 = r from rfl] at hsd
        have hsa : cap = 1 → Sl w (some ⟨b, off, none⟩) (n - 1) 0 r := by
          intro hc
          subst hc
          exact hr.sl.dropAll hn
        clear hbig
        go_enter Tryd.func75, Tryd.ntmps75
        go_wp2_with (first | (go_at_call 69; refine (failed_any _ p 0 hc1).mono ?_; rintro e w' ⟨rfl, rfl⟩) | fail)
        · have hcap : cap = 1 := by assumption
          have hfin : R (w'.setCell ⟨p, 0, none⟩ (.slice (some ⟨b, off, none⟩) (n - 1) 0)) p L r 0 := ⟨_, _, _, hr.rest (hsa hcap) (fun a ha hp => by omega) (by omega)⟩
          go_ret
          exact ⟨rfl, hfin, grown_setCell _ _ _ _⟩
        · have hfin := hr.rest hsd (low_drop hr.low (by omega)) (by omega)
          rw [show Option.map (fun x => x.add 1) (some (⟨b, off, none⟩ : Addr)) = some ⟨b, off + 1, none⟩ from by rw [Option.map_some, Addr.add_lit]] at hfin
          go_ret
          exact ⟨rfl, ⟨_, _, _, hfin⟩, grown_setCell _ _ _ _⟩
  · have hb : (k != 0) = true := by simp [hk]
    have hs : boolS xs k = (false, xs, k) := by simp [boolS, hk]
    rw [hs]
    clear hr hk hs
    go_enter Tryd.func75, Tryd.ntmps75
    go_wp2_with (go_at_call 69; refine (failed_any _ p k hc1).mono ?_; rintro e w' ⟨rfl, rfl⟩)
    go_ret
    exact ⟨rfl, hR, World.grownBy.refl _ _⟩
open Go.RowKit
theorem txT_ok {xs : List Int} (h : Byt xs) {k : Int} : (txT 32 xs k).1.size ≤ 32 := by
  show (strOfNums (bytesS xs k ((32 : Nat) : Int)).1).size ≤ 32
  rw [str_size (bytesS_byt h k 32).1]
  exact bytesS_le xs k 32
theorem txT_byt {xs : List Int} (h : Byt xs) {k : Int} : Byt (txT 32 xs k).2.1 := (bytesS_byt h k 32).2
theorem keyT_ok {xs : List Int} (h : Byt xs) {k : Int} : (keyT xs k).1.1.size ≤ 32 ∧ (keyT xs k).1.2.1.size ≤ 32 ∧ (keyT xs k).1.2.2.1.size ≤ 32 ∧ (keyT xs k).1.2.2.2 < 18446744073709551616 :=
  ⟨txT_ok h, txT_ok (txT_byt h), txT_ok (txT_byt (txT_byt h)), uintS_lt (txT_byt (txT_byt (txT_byt h)))⟩
open Go.RowKit
set_option maxHeartbeats 400000 in
theorem clone_any (w : World) (ao : Option Addr) (n cap : Nat) (xs : List Int) (h : Sl w ao n cap xs) (hr : n ≤ 140737488355328) :
    Calls Tryd.prog 68 #[.slice ao n cap] w fun e w' => ∃ v, e = .returned v ∧ w'.ownsRow w.heap.size 5 1 v n (bv xs) ∧ Below w.heap.size w w' := by
  have hA := h.below ((Below.refl w.heap.size w).alloc (Nat.le_refl _) (.cells #[] 5))
  have hO := own_empty w
  have hq : ∀ W, (binOp .eql 50 (.slice ao n cap) (.slice none 0 0)).run Tryd.prog W = .ok (.bool ao.isNone) W := fun W => Lib.run_eql_slice_nil W _ _ ao n cap 0 0 Tryd.underlying50
  cases ao with
  | none =>
    obtain ⟨rfl, rfl⟩ := h.nil rfl
    obtain rfl : xs = [] := List.eq_nil_of_length_eq_zero h.len
    go_enter Tryd.func68, Tryd.ntmps68
    go_wp2
    go_ret
    exact ⟨_, rfl, World.ownsRow_nil _ _ _ _, Below.refl _ _⟩
  | some a =>
    go_enter Tryd.func68, Tryd.ntmps68
    go_wp2_with (at_builtin; refine wpList_app rfl _ _ rfl w.heap.size _ _ _ rfl hO _ _ _ _ rfl hA (by omega) (by simp) ?_; intro v1 w1 hown1 hb1)
    simp only [Nat.zero_add, List.nil_append] at hown1
    have hb2 := ((Below.refl w.heap.size w).alloc (Nat.le_refl _) _).trans hb1
    clear hb1 hO hA hq
    go_ret
    exact ⟨v1, rfl, hown1, hb2⟩
theorem new_reader (w : World) (t : TypeId) (bo : Option Addr) (n c : Nat) (xs : List Int) (hsl : Sl w bo n c xs) (hlt : ∀ a, bo = some a → 0 < n → a.block < w.heap.size) (hn : n ≤ 1000000) :
    R (w.alloc (.cells #[.slice bo n c, .int .i64 0] t)) w.heap.size w.heap.size xs 0 := by
  refine ⟨bo, n, c, ?_, ?_, ?_, ?_, hsl.below ((Below.refl _ w).alloc (Nat.le_refl _) _), hlt, Nat.le_refl _, hn⟩
  · go_simp
  · go_simp
  · go_simp
  · go_simp
set_option maxHeartbeats 400000 in
theorem read_any (w : World) (ao : Option Addr) (n cap : Nat) (xs : List Int) (h : Sl w ao n cap xs) (hr : n ≤ 1000000) :
    Calls Tryd.prog 43 #[.slice ao n cap] w fun e w' => ∃ p, e = .returned (.pointer (some ⟨p, 0, none⟩)) ∧ w.heap.size ≤ p ∧ R w' p p xs 0 ∧ Below w.heap.size w w' := by
  go_enter Tryd.func43, Tryd.ntmps43
  go_wp2_with fail
  refine (clone_any w ao n cap xs h (by omega)).mono ?_
  rintro e w1 ⟨v1, rfl, hown1, hb1⟩
  obtain ⟨bo, c2, rfl, hsl, hbo⟩ := Sl.own hown1 h.byte
  have hs := hb1.size
  have hfin := new_reader w1 104 bo n c2 xs hsl (fun a ha _ => (hbo a ha).2.1) hr
  have hb2 := hb1.alloc hs (.cells #[.slice bo n c2, .int .i64 0] 104)
  clear hown1 hsl hbo hb1
  go_wp2
  go_ret
  exact ⟨w1.heap.size, rfl, hs, hfin, hb2⟩
end Go.Proofs.YtoagkffokfbpfaaDoor
namespace Go
section
variable {P : Program} {ops : Array Oper} {S : World → Prop} {Q : Exit → Act → World → Prop} {fuel : Nat} {listed : Array Bool} {a : Act} {w : World}
theorem op_do (i : Nat) (d : Option Tmp) (v : Value) {oi : Oper} {w' : World} (hi : ops[i]? = some oi) (hd : oi.dst = d) (hg : oi.guard = none) (hrun : (execOp a.eval oi).run P w = .ok (.value v) w') (hS : S w')
    (h : wpAnyH P .any ops (NoPanic Q) S fuel (listed.setIfInBounds i true) (a.put d v) w') : wpOp P ops (NoPanic Q) i (fun a' w' => S w' ∧ wpAnyH P .any ops (NoPanic Q) S fuel (listed.setIfInBounds i true) a' w') a w := by
  have hw : Region.wanted oi (yielded ops a.tmps) = true := by simp [Region.wanted, hg]
  unfold wpOp
  simp only [hi, hw, if_true, Oper.wp, hrun, Oper.upon, hd]
  exact .inl ⟨hS, h⟩
theorem op_call (i : Nat) (d : Option Tmp) {oi : Oper} (f : FuncId) (args : Array Value) (hi : ops[i]? = some oi) (hd : oi.dst = d) (hg : oi.guard = none) (hrun : (execOp a.eval oi).run P w = .ok (.enter f args) w)
    (R : Value → World → Prop) (hc : Calls P f args w fun e w' => ∃ v, e = .returned v ∧ R v w')
    (h : ∀ v w', R v w' → S w' ∧ wpAnyH P .any ops (NoPanic Q) S fuel (listed.setIfInBounds i true) (a.put d v) w') : wpOp P ops (NoPanic Q) i (fun a' w' => S w' ∧ wpAnyH P .any ops (NoPanic Q) S fuel (listed.setIfInBounds i true) a' w') a w := by
  have hw : Region.wanted oi (yielded ops a.tmps) = true := by simp [Region.wanted, hg]
  unfold wpOp
  simp only [hi, hw, if_true, Oper.wp, hrun, Oper.upon, hd]
  refine .inl (hc.mono ?_)
  rintro e w' ⟨v, rfl, hR⟩
  exact h v w' hR
theorem hr_two {i j : Nat} (hr : Region.ready .any ops listed = [i, j]) (h1 : wpOp P ops (NoPanic Q) i (fun a' w' => S w' ∧ wpAnyH P .any ops (NoPanic Q) S fuel (listed.setIfInBounds i true) a' w') a w)
    (h2 : wpOp P ops (NoPanic Q) j (fun a' w' => S w' ∧ wpAnyH P .any ops (NoPanic Q) S fuel (listed.setIfInBounds j true) a' w') a w) : wpAnyH P .any ops (NoPanic Q) S (fuel + 1) listed a w := by
  refine wpAnyH_all hr (by simp) fun k hk => ?_
  simp only [List.mem_cons, List.not_mem_nil, or_false] at hk
  rcases hk with rfl | rfl
  · exact h1
  · exact h2
theorem hr_own (i : Nat) (d : Option Tmp) {oi : Oper} (hi : ops[i]? = some oi) (hd : oi.dst = d) (hr : Region.ready .any ops listed = [i]) (hg : oi.guard = none) (s x : Operand) (t : TypeId)
    (ho : oi.op = .call { callee := .builtin .append, args := #[s, x], argTypes := #[t, t] })
    (base : Nat) (e : TypeId) (inf : TypeInfo) (z : Value) (size bytes : Nat) (ht : P.underlying t = some (.slice e)) (hinf : P.info? e = some inf) (hz : inf.zero = some z)
    (hsize : inf.size = size) (hby : inf.bytes = bytes) (hzs : z.cells.size = size) (hsz : 0 < size)
    (v : Value) (n : Nat) (xs : List Value) (hs : a.eval s = v) (hown : w.ownsRow base e size v n xs)
    (ad : Addr) (m c : Nat) (news : List Value) (hx : a.eval x = .slice (some ad) m c) (hl : news.length = m * size) (hnews : ∀ j u, news[j]? = some u → w.cell? (ad.add j) = some u) (h1 : ∀ u ∈ news, u.oneCell' = true)
    (h63 : n + m ≤ maxLen) (hbytes : (n + m) * bytes ≤ 140737488355328) (hbase : base ≤ w.heap.size)
    (h : ∀ v' w', w'.ownsRow base e size v' (n + m) (xs ++ news) → w.grownBy w' v.ownBlock → (∀ g, v'.ownBlock = some g → v.ownBlock = some g ∨ w.heap.size ≤ g) → S w' ∧ wpAnyH P .any ops (NoPanic Q) S fuel (listed.setIfInBounds i true) (a.put d v') w') : wpAnyH P .any ops (NoPanic Q) S (fuel + 1) listed a w := by
  refine wpAnyH_all hr (by simp) fun j hj => ?_
  obtain rfl := List.mem_singleton.1 hj
  have hw : Region.wanted oi (yielded ops a.tmps) = true := by simp [Region.wanted, hg]
  obtain ⟨v', w', hrun, h2, h3, h4⟩ := Go.Proofs.YtoagkffokfbpfaaDoor.run_append_own2 (P := P) w base t oi.type e inf z size bytes ht hinf hz hsize hby hzs hsz v n xs hown ad m c news hl hnews h1 h63 hbytes hbase
  unfold wpOp
  simp only [hi, hw, if_true]
  refine .inl ?_
  unfold Oper.wp execOp
  simp only [ho, resolve, invoke, builtin, Sem.run_bind, Sem.run_pure, Result.andThen_ok, List.map_toArray, List.map_cons, List.map_nil, hs, hx, hrun, Oper.upon, hd]
  exact h v' w' h2 h3 h4
end
end Go
namespace Go.Proofs.YtoagkffokfbpfaaDoor
open Go.RowKit
theorem resTh_eq {xs : List Int} {r1 r2 : Nat × List Int × Int} {c : List CV × List Int × Int} {b : Bool × List Int × Int} (h1 : r1 = intS xs 0 100) (h2 : r2 = intS r1.2.1 r1.2.2 16) (h3 : c = repT cT r2.1 r2.2.1 r2.2.2) (h4 : b = boolS c.2.1 c.2.2) : resTh xs 0 = (⟨(r1.1 : Int), c.1, b.1⟩, b.2) := by
  have e1 : ((100 : Nat) : Int) = 100 := rfl
  have e2 : ((16 : Nat) : Int) = 16 := rfl
  subst h4 h3 h2 h1
  unfold resTh mapT
  simp only [andT, andD, intT', toR, e1, e2]
theorem sblk_own {ao : Option Addr} {n cap x : Nat} (h : sblk ao n x) : (Value.slice ao n cap).ownBlock = some x := by
  obtain ⟨a, rfl, _, rfl⟩ := h
  rfl
end Go.Proofs.YtoagkffokfbpfaaDoor

/-
  Texts in one: CConv, ChAlive, PicksLaw16, OWt, GOpen, ChOpen, Laid2.
-/
import Derived.Test.YtdcebokfnbgkaaaDoorChoosePicksQ0
import Derived.Test.YtdcebokfnbgkaaaDoorChoosePicksQ2
import Derived.BigQuiet
import Derived.Laws.BytesArg
import Derived.Laws.IdiomStrings
import Derived.Lib.SmallJoins
import Derived.Test.YtdcebokfnbgkaaaDoorChoosePicksQ7
import Derived.Test.YtdcebokfnbgkaaaDoorChoosePicksQ8
import Derived.Test.YtdcebokfnbgkaaaDoorChoosePicksQ9
import Derived.Deep.Slices
import Derived.ChangeSame
import Derived.ChangeSlices
import Derived.SizedLaws
import Derived.Test.YtdcebokfnbgkaaaDoorRows
import Derived.ProofKit
import Derived.LaidMore
import Derived.Lay
import Derived.OpenShut
import Derived.Lib.LaidU8
import Derived.Stop.Joined
namespace Go.Proofs.YtdcebokfnbgkaaaDoor
open Go.RowKit
theorem conv_str {w : World} {ao : Option Addr} {n cap : Nat} {xs : List Int} (h : Sl w ao n cap xs) : (convert 38 9 (.slice ao n cap)).run Tryd.prog w = .ok (.string (strOfNums xs)) w := by
  cases ao with
  | none =>
    obtain ⟨rfl, rfl⟩ := h.nil rfl
    obtain rfl : xs = [] := List.eq_nil_of_length_eq_zero h.len
    exact run_convert_bytes_nil w _ _ Tryd.underlying38 Tryd.underlying5 _ _ _ Tryd.underlying9
  | some a =>
    have hl := h.len
    have hc := run_convert_bytes_back (P := Tryd.prog) w 38 9 5 a cap (xs.map fun n => UInt8.ofNat n.toNat) Tryd.underlying38 Tryd.underlying5 Tryd.underlying9 (fun j hj => by
      have hj' : j < xs.length := by simpa using hj
      have hb := h.byte xs[j] (List.getElem_mem hj')
      rw [h.cells a rfl j _ (bv_get xs j hj')]
      simp only [List.getElem_map, UInt8.toNat_ofNat', List.getD, List.getElem?_eq_getElem hj', Option.getD_some, Option.some.injEq, Value.int.injEq, true_and]
      omega)
    rw [List.length_map, hl] at hc
    exact hc
open Go.RowKit
theorem sl_mark16 (w : World) (c : Int) (h : 0 ≤ c ∧ c ≤ 255) : Sl (w.alloc (.cells #[.int .u8 c] 5 (1, 2))) (some ⟨w.heap.size, 0, none⟩) 1 1 [c] := by
  refine ⟨rfl, Nat.le_refl _, by decide, fun h => by simp at h, fun a ha i hi => ?_, fun x hx => by simp at hx; omega⟩
  obtain rfl := Option.some.inj ha
  obtain rfl : i = 0 := by omega
  rw [Addr.add_lit, World.cell?_alloc_mark]
  rfl
theorem GL.ofArr {α : Type} {E : El α} (F : E.Fine) {W : World} {g : Nat} {t : TypeId} {l : List α} (A : Arr W g t ((l.map E.c).flatten)) (ok : ∀ x ∈ l, E.ok x W) (hm : l.length ≤ maxLen) : GL E W (some ⟨g, 0, none⟩) l.length l.length l := by
  refine ⟨rfl, Nat.le_refl _, hm, fun h => (by cases h), fun a ha i hi j v hv => ?_, ok⟩
  obtain rfl := Option.some.inj ha
  have hj : j < E.sz := by have := (List.getElem?_eq_some_iff.1 hv).1; rw [F.len] at this; exact this
  rw [Addr.add_lit, Nat.zero_add, A.cell, flat_get E.c E.sz F.len l i j hi hj]
  exact hv
def cE (a : Nat) : CA := ⟨a, 0, ⟨none, 0, 0, []⟩, ⟨none, 0, 0, []⟩⟩
theorem cE_ok (w : World) (a : Nat) (h : a < 18446744073709551616) : (cE a).ok w := ⟨h, by show 0 < _; omega, Sl.nothing w, GL.nothing _ w⟩
def pE (s : Nat) : PA := ⟨1, 3, ⟨some ⟨s, 0, none⟩, 1, 1, [120]⟩⟩
def lE (s : Nat) : List CA := [cE 1, ⟨2, 0, ⟨none, 0, 0, []⟩, ⟨some ⟨s + 1, 0, none⟩, 1, 1, [pE s]⟩⟩, cE 3]
def lF : List CA := [cE 1, cE 2, cE 4]
theorem lE_bad (s : Nat) : badC 1 ((lE s).map CA.cv) = false := rfl
theorem lE_picks (s : Nat) : picksV nullX (lowC ((lE s).map CA.cv)) (allP ((lE s).map CA.cv)) = [(1, 3, [120])] := rfl
theorem lE_low (s : Nat) : lowC ((lE s).map CA.cv) = 0 := rfl
theorem lF_bad : badC 1 (lF.map CA.cv) = false := rfl
theorem lF_picks : picksV nullX (lowC (lF.map CA.cv)) (allP (lF.map CA.cv)) = [] := rfl
theorem lF_low : lowC (lF.map CA.cv) = 0 := rfl
theorem s120 : strOfNums [120] = ⟨#[120]⟩ := by decide
set_option maxRecDepth 100000 in
set_option maxHeartbeats 4000000 in
theorem alive16 (w : World) (hT : Tabs w) : Calls Tryd.prog 7 #[] w fun e w' => e = .returned (.bool true) ∧ Below w.heap.size w w' := by
  have kc := fun (w : World) (C : Array Value) (n c g : Nat) (hg : g = w.heap.size) => Joins.run_convert_bytes_const_at (P := Tryd.prog) w 38 5 C n c g hg Tryd.underlying38 Tryd.underlying5
  obtain ⟨W1, hW1⟩ : ∃ W, W = w.alloc (.cells #[.int .u8 120] 5 (1, 2)) := ⟨_, rfl⟩
  have z1 : W1.heap.size = w.heap.size + 1 := by rw [hW1]; simp
  obtain ⟨W2, hW2⟩ : ∃ W, W = W1.alloc (.cells #[.int .u64 1, .int .u64 3, .slice (some ⟨w.heap.size, 0, none⟩) 1 1] 46) := ⟨_, rfl⟩
  have z2 : W2.heap.size = w.heap.size + 1 + 1 := by rw [hW2]; simp [z1]
  obtain ⟨W3, hW3⟩ : ∃ W, W = W2.alloc (.cells #[.int .u64 1, .int .u64 0, .slice none 0 0, .slice none 0 0, .int .u64 2, .int .u64 0, .slice none 0 0, .slice (some ⟨w.heap.size + 1, 0, none⟩) 1 1, .int .u64 3, .int .u64 0, .slice none 0 0, .slice none 0 0] 49) := ⟨_, rfl⟩
  have C1 : Below w.heap.size w W1 := by rw [hW1]; exact (Below.refl _ _).alloc (Nat.le_refl _) _
  have C2 : Below W1.heap.size W1 W2 := by rw [hW2]; exact (Below.refl _ _).alloc (Nat.le_refl _) _
  have C3 : Below W2.heap.size W2 W3 := by rw [hW3]; exact (Below.refl _ _).alloc (Nat.le_refl _) _
  have S1 : Sl W1 (some ⟨w.heap.size, 0, none⟩) 1 1 [120] := by rw [hW1]; exact sl_mark16 w 120 (by omega)
  have A2 : Arr W2 (w.heap.size + 1) 46 (([pE w.heap.size].map elP.c).flatten) := by rw [hW2, ← z1]; exact heap_alloc_new W1 _
  have A3 : Arr W3 (w.heap.size + 1 + 1) 49 (((lE w.heap.size).map elC.c).flatten) := by rw [hW3, ← z2]; exact heap_alloc_new W2 _
  have S3 := Sl.below (Sl.below S1 C2) C3
  have G2 : GL elP W2 (some ⟨w.heap.size + 1, 0, none⟩) 1 1 [pE w.heap.size] := GL.ofArr elP_fine A2 (fun x hx => by rw [List.mem_singleton.1 hx]; exact ⟨by show 1 < _; omega, by show 3 < _; omega, Sl.below S1 C2⟩) (by show 1 ≤ maxLen; decide)
  have G3 : GL elC W3 (some ⟨w.heap.size + 1 + 1, 0, none⟩) 3 3 (lE w.heap.size) := GL.ofArr elC_fine A3 (fun x hx => by
    unfold lE at hx
    simp only [List.mem_cons, List.not_mem_nil, or_false] at hx
    rcases hx with rfl | rfl | rfl
    · exact cE_ok _ 1 (by omega)
    · exact ⟨by show 2 < _; omega, by show 0 < _; omega, Sl.nothing _, G2.below elP_fine C3⟩
    · exact cE_ok _ 3 (by omega)) (by show 3 ≤ maxLen; decide)
  have E3 : Below w.heap.size w W3 := (C1.trans (C2.mono C1.size)).trans (C3.mono (by omega))
  have CP := pick_any W3 1 _ 3 3 _ G3 (by omega) (fun c hc => by
    unfold lE at hc
    simp only [List.mem_cons, List.not_mem_nil, or_false] at hc
    rcases hc with rfl | rfl | rfl
    · exact Nat.zero_le _
    · show 1 ≤ 1000; omega
    · exact Nat.zero_le _) (fun c hc p hp => by
    unfold lE at hc
    simp only [List.mem_cons, List.not_mem_nil, or_false] at hc
    rcases hc with rfl | rfl | rfl
    · exact absurd hp List.not_mem_nil
    · rw [List.mem_singleton.1 hp]; show 1 ≤ 1000000; omega
    · exact absurd hp List.not_mem_nil) (hT.below E3 hT.two)
  have HE3 : Hid (Below w.heap.size w W3) := E3
  clear C1 C2 C3 S1 A2 A3 S3 G2 G3 E3
  go_enter Tryd.func7, Tryd.ntmps7
  go_wp2_with fail
  rw [← hW1, ← hW2, ← hW3]
  clear kc hW1 hW2 hW3 z1 z2
  refine CP.mono ?_
  rintro e w4 ⟨E4, ⟨hb, -⟩ | ⟨-, po, pn, pc, ys, rfl, GP, hys⟩⟩
  · rw [lE_bad] at hb
    cases hb
  rw [lE_picks] at hys
  rw [lE_low]
  obtain ⟨p0, rfl, hp0⟩ := List.map_eq_singleton_iff.1 hys
  have hpn : pn = 1 := GP.len.symm
  subst hpn
  obtain ⟨W5, hW5⟩ : ∃ W, W = w4.alloc (.cells #[.int .u64 1, .int .u64 0, .slice none 0 0, .slice none 0 0, .int .u64 2, .int .u64 0, .slice none 0 0, .slice none 0 0, .int .u64 4, .int .u64 0, .slice none 0 0, .slice none 0 0] 49) := ⟨_, rfl⟩
  have C5 : Below w4.heap.size w4 W5 := by rw [hW5]; exact (Below.refl _ _).alloc (Nat.le_refl _) _
  have A5 : Arr W5 w4.heap.size 49 ((lF.map elC.c).flatten) := by rw [hW5]; exact heap_alloc_new w4 _
  have G5 : GL elC W5 (some ⟨w4.heap.size, 0, none⟩) 3 3 lF := GL.ofArr elC_fine A5 (fun x hx => by
    unfold lF at hx
    simp only [List.mem_cons, List.not_mem_nil, or_false] at hx
    rcases hx with rfl | rfl | rfl
    · exact cE_ok _ 1 (by omega)
    · exact cE_ok _ 2 (by omega)
    · exact cE_ok _ 4 (by omega)) (by show 3 ≤ maxLen; decide)
  have E5 := HE3.out.trans ((E4.trans (C5.mono E4.size)).mono HE3.out.size)
  have CQ := pick_any W5 1 _ 3 3 _ G5 (by omega) (fun c hc => by
    unfold lF at hc
    simp only [List.mem_cons, List.not_mem_nil, or_false] at hc
    rcases hc with rfl | rfl | rfl <;> exact Nat.zero_le _) (fun c hc p hp => by
    unfold lF at hc
    simp only [List.mem_cons, List.not_mem_nil, or_false] at hc
    rcases hc with rfl | rfl | rfl <;> exact absurd hp List.not_mem_nil) (hT.below E5 hT.two)
  have GP5 := GP.below elP_fine C5
  have HE5 : Hid (Below w.heap.size w W5) := E5
  clear CP hys GP A5 G5 E4 C5 E5 HE3
  go_wp2_with fail
  rw [← hW5]
  clear hW5
  refine CQ.mono ?_
  rintro e w6 ⟨E6, ⟨hb, -⟩ | ⟨-, qo, qn, qc, zs, rfl, GQ, hzs⟩⟩
  · rw [lF_bad] at hb
    cases hb
  rw [lF_picks] at hzs
  rw [lF_low]
  obtain rfl : zs = [] := List.map_eq_nil_iff.1 hzs
  have hqn : qn = 0 := GQ.len.symm
  subst hqn
  have GP6 := GP5.below elP_fine E6
  obtain ⟨pb, poff, rfl, hP⟩ := GP6.atP (by omega)
  have p2 := (hP 0 (by show 0 < 1; omega)).c2
  have p2 : w6.cell? ⟨pb, poff + 2, none⟩ = some (.slice p0.b.ao p0.b.n p0.b.cap) := by
    have e : poff + 0 * 3 + 2 = poff + 2 := by omega
    rw [e] at p2
    exact p2
  have hpx : p0.b.xs = [120] := congrArg (fun t => t.2.2) hp0
  have hS := (GP6.ok p0 (List.mem_singleton.2 rfl)).b
  rw [hpx] at hS
  have hcv := conv_str hS
  rw [s120] at hcv
  have E6b := HE5.out.trans (E6.mono HE5.out.size)
  have CN := null_any w6 (hT.below E6b hT.two)
  have HE6 : Hid (Below w.heap.size w w6) := E6b
  clear CQ hzs GP5 GP6 hP GQ E6 HE5 E6b hS hpx hp0
  go_wp2_with (go_at_call 14; refine CN.mono ?_; rintro e w7 ⟨ro, rc, rfl, -, E7, -⟩)
  go_ret
  exact ⟨rfl, HE6.out.trans (E7.mono HE6.out.size)⟩
open Go.RowKit
theorem picks_len {qs : List PA} {nx : List Int} {low : Nat} {ps : List PA} (h : qs.map PA.pv = picksV nx low ps) : qs.length ≤ 8 := by
  have h1 := congrArg List.length h
  rw [List.length_map] at h1
  unfold picksV at h1
  rw [List.length_map, List.length_range] at h1
  have := topP_le low ps
  omega
set_option maxRecDepth 100000 in
set_option maxHeartbeats 16000000 in
theorem choosePicks_any (w : World) (f : Int) (ao : Option Addr) (n cap : Nat) (l : List CA) (_ : (Lit.int .i64 f).wf = true) (G : GL elC w ao n cap l) (hT : Tabs w) : Calls Tryd.prog 3 #[.int .i64 f, .slice ao n cap] w fun e w' => e = .returned (.bool true) ∧ Below w.heap.size w w' := by
  have CL := light16 w ao n cap l G
  have hl := G.len
  have HTb : Hid (∀ V, Below w.heap.size w V → Tabs V) := fun V hV => hT.below hV hT.two
  go_enter Tryd.func3, Tryd.ntmps3
  go_wp2_with fail
  refine CL.mono ?_
  rintro e w1 ⟨b, rfl, hw1, hlt⟩
  replace hw1 := hw1.symm
  subst hw1
  cases b with
  | false =>
    have CA_ := alive16 w hT
    clear CL hlt
    go_wp2_with (go_at_call 7; refine CA_.mono ?_; rintro e w9 ⟨rfl, E9⟩)
    go_ret
    exact ⟨rfl, E9⟩
  | true =>
    have hL := hlt rfl
    have hsn : ∀ d ∈ l, d.s.l.length = d.s.n := fun d hd => (G.ok d hd).s.len
    have hn20 : n ≤ 20 := by have := hL.1; omega
    have hs1 : ∀ c ∈ l, c.s.l.length ≤ 1000 := fun c hc => by rw [hsn c hc]; have := (hL.2 c hc).1; omega
    have CO := own16 w ao n cap l G (by omega) hs1
    clear CL hlt
    go_wp2_with fail
    refine CO.mono ?_
    rintro e w2 ⟨bo, bc, ys, rfl, GY, hcv, E2⟩
    rw [hl] at GY ⊢
    have hob := own_bounds hcv hL hsn
    have CP := pick_any w2 f bo n bc ys GY (by omega) hob.1 hob.2 (HTb.out w2 E2)
    have HCV : Hid (ys.map CA.cv = l.map CA.cv) := hcv
    clear CO GY hob hcv
    go_wp2_with fail
    refine CP.mono ?_
    rintro e w3 ⟨E3, ⟨hb, rfl⟩ | ⟨hb, po, pn, pc, qs, rfl, GQ, hqs⟩⟩
    · rw [HCV.out] at hb
      have E30 := E2.trans (E3.mono E2.size)
      have CR := rpick_any w3 f ao n cap l (G.below elC_fine E30) (by omega) hs1
      have HB : Hid (badC f (l.map CA.cv) = true) := hb
      clear CP hb
      go_wp2_with fail
      refine CR.mono ?_
      rintro e w4 ⟨E4, ⟨-, rfl⟩ | ⟨hb2, -⟩⟩
      · have E40 := E30.trans (E4.mono E30.size)
        clear CR
        have CB := back16 w4 none 0 0 [] (GL.nothing elP w4) (by omega)
        go_wp2_with fail
        refine CB.mono ?_
        rintro e w5 ⟨xo, xn, xc, rfl, GX, E5⟩
        have E05 := (E40).trans (E5.mono (E40).size)
        have CSm := rsame16 w5 xo none xn xc 0 0 _ _ GX ((GL.nothing elP w4).below elP_fine E5) rfl (by have := GX.len; have := ((GL.nothing elP w4)).len; omega)
        clear CB GX
        go_wp2_with fail
        refine CSm.mono ?_
        rintro e w6 ⟨rfl, E6⟩
        have E06 := E05.trans (E6.mono E05.size)
        have CNu := null_any w6 (HTb.out w6 E06)
        clear CSm
        go_wp2_with fail
        refine CNu.mono ?_
        rintro e w7 ⟨ro, rc, rfl, S7, E7, -⟩
        have E07 := E06.trans (E7.mono E06.size)
        have CNr := rnull_any w7
        clear CNu
        go_wp2_with fail
        refine CNr.mono ?_
        rintro e w8 ⟨so, sc, rfl, S8, E8, -⟩
        have E08 := E07.trans (E8.mono E07.size)
        have CQ := same_any w8 ro so 32 rc 32 sc nullX nullX (Sl.below S7 E8) S8
        rw [decide_eq_true rfl] at CQ
        clear CNr S7 S8
        go_wp2_with (go_at_call 13; refine CQ.mono ?_; rintro e w9 ⟨rfl, q9, rfl⟩; have E09 := E08.trans ((below_drewN w8 q9 w8.heap.size).mono E08.size); have CA_ := alive16 _ (HTb.out _ E09))
        refine CA_.mono ?_
        rintro e wz ⟨rfl, Ez⟩
        go_wp2
        go_ret
        exact ⟨rfl, E09.trans (Ez.mono E09.size)⟩
      · rw [HB.out] at hb2
        cases hb2
    · rw [HCV.out] at hb hqs ⊢
      have E30 := E2.trans (E3.mono E2.size)
      have CR := rpick_any w3 f ao n cap l (G.below elC_fine E30) (by omega) hs1
      have HB : Hid (badC f (l.map CA.cv) = false) := hb
      have HQS : Hid (qs.map PA.pv = picksV nullX (lowC (l.map CA.cv)) (allP (l.map CA.cv))) := hqs
      clear CP hb hqs
      obtain ⟨low, hlow⟩ : ∃ v, v = lowC (l.map CA.cv) := ⟨_, rfl⟩
      have HLOW : Hid (low = lowC (l.map CA.cv)) := hlow
      rw [← hlow]
      clear hlow
      go_wp2_with fail
      refine CR.mono ?_
      rintro e w4 ⟨E4, ⟨hb2, -⟩ | ⟨-, so, sn, sc, rs, rfl, GR, hrs⟩⟩
      · rw [HB.out] at hb2
        cases hb2
      · rw [← HLOW.out] at hrs ⊢
        have E40 := E30.trans (E4.mono E30.size)
        have GQ4 := GQ.below elP_fine E4
        have heq : qs.map PA.pv = rs.map PA.pv := by rw [hrs, HQS.out, ← HLOW.out]
        have hq8 := picks_len HQS.out
        have hpn := GQ.len
        have HHE : Hid (qs.map PA.pv = rs.map PA.pv) := heq
        clear CR hrs heq GQ
        have CB := back16 w4 po pn pc qs GQ4 (by omega)
        go_wp2_with fail
        refine CB.mono ?_
        rintro e w5 ⟨xo, xn, xc, rfl, GX, E5⟩
        have E05 := (E40).trans (E5.mono (E40).size)
        have CSm := rsame16 w5 xo so xn xc sn sc _ _ GX ((GR).below elP_fine E5) HHE.out (by have := GX.len; have := (GQ4).len; omega)
        clear CB GX
        go_wp2_with fail
        refine CSm.mono ?_
        rintro e w6 ⟨rfl, E6⟩
        have E06 := E05.trans (E6.mono E05.size)
        have CNu := null_any w6 (HTb.out w6 E06)
        clear CSm
        go_wp2_with fail
        refine CNu.mono ?_
        rintro e w7 ⟨ro, rc, rfl, S7, E7, -⟩
        have E07 := E06.trans (E7.mono E06.size)
        have CNr := rnull_any w7
        clear CNu
        go_wp2_with fail
        refine CNr.mono ?_
        rintro e w8 ⟨so, sc, rfl, S8, E8, -⟩
        have E08 := E07.trans (E8.mono E07.size)
        have CQ := same_any w8 ro so 32 rc 32 sc nullX nullX (Sl.below S7 E8) S8
        rw [decide_eq_true rfl] at CQ
        clear CNr S7 S8
        go_wp2_with (go_at_call 13; refine CQ.mono ?_; rintro e w9 ⟨rfl, q9, rfl⟩; have E09 := E08.trans ((below_drewN w8 q9 w8.heap.size).mono E08.size); have CA_ := alive16 _ (HTb.out _ E09))
        refine CA_.mono ?_
        rintro e wz ⟨rfl, Ez⟩
        go_wp2
        go_ret
        exact ⟨rfl, E09.trans (Ez.mono E09.size)⟩
end Go.Proofs.YtdcebokfnbgkaaaDoor
namespace Go.Proofs.YtdcebokfnbgkaaaDoor
open Go.RowKit Go.ChangeShapes Go.WideShapes
variable {H : Type} {enc : TypeId × Value → H} {P : Program} {w : World} {base : Nat} {spare : Nat → Bool} {held : Bool}
def Wt (P : Program) (d : DataW H) (t : TypeId) : Prop := ∀ n ∈ d.weights P t, n ≤ reachBytes
theorem weights_mem_all : ∀ {e : TypeId} {ds : List (DataW H)} {j : Nat} {d : DataW H}, ds[j]? = some d → ∀ n ∈ d.weights P e, n ∈ DataW.weightsAll P e ds
  | e, d0 :: ds, 0, d, hd, n, hn => by
    simp only [List.getElem?_cons_zero, Option.some.injEq] at hd
    subst hd
    simp only [DataW.weightsAll, List.mem_append]
    exact Or.inl hn
  | e, d0 :: ds, j + 1, d, hd, n, hn => by
    simp only [List.getElem?_cons_succ] at hd
    simp only [DataW.weightsAll, List.mem_append]
    exact Or.inr (weights_mem_all hd n hn)
  | _, [], _, _, hd, _, _ => by simp at hd
theorem Sl.of_ints {tB tE : TypeId} {fuel : Nat} {v : Value} {x : DataW H × List MemPlace} (ht : P.underlying tB = some (.slice tE)) (he : P.underlying tE = some (.int .u8)) (hc : P.cellsOf tE = 1)
    (hb8 : P.bytesOf tE = 1) (h : DataW.trod enc P w base spare held fuel tB [v] = some x) : ∃ b : Bs, v = .slice b.ao b.n b.cap ∧ Sl w b.ao b.n b.cap b.xs ∧ (Wt P x.1 tB → b.n ≤ 140737488351232) := by
  rcases open_ints ht he hc h with ⟨hcs, _⟩ | ⟨a, l, c, zs, hcs, _, hl, hm, hz, hx, hcell, hwz⟩
  · simp at hcs
    exact ⟨⟨none, 0, 0, []⟩, hcs, Sl.nothing w, fun _ => Nat.zero_le _⟩
  · simp at hcs
    have hlz : l ≤ zs.length := by rw [hz]; split <;> omega
    refine ⟨⟨some a, l, c, zs.take l⟩, hcs, ⟨by simp; omega, hl, hm, fun h => by simp at h, fun b hb i hi => ?_, fun z hz => ?_⟩, fun hwt => ?_⟩
    · obtain rfl := Option.some.inj hb
      have hi : i < l := hi
      rw [hcell i (by omega)]
      simp [List.getD, hi]
    · have := hwz z (List.mem_of_mem_take hz)
      simp [Lit.wf, IntKind.min, IntKind.max, IntKind.signed, IntKind.bits] at this
      omega
    · rw [hx] at hwt
      have := hwt (zs.length * 1) (by simp only [DataW.weights, ht, hb8]; simp [ChangeShapes.lits]; omega)
      simp only [reachBytes] at this
      show l ≤ _
      omega
theorem gather_list {α : Type} {p : Nat → α → Prop} : ∀ l : Nat, (∀ i, i < l → ∃ y, p i y) → ∃ z : List α, z.length = l ∧ ∀ i (h : i < z.length), p i z[i]
  | 0, _ => ⟨[], rfl, fun i h => by simp at h⟩
  | l + 1, key => by
    obtain ⟨z, hz1, hz2⟩ := gather_list l (fun i hi => key i (by omega))
    obtain ⟨y, hy⟩ := key l (by omega)
    refine ⟨z ++ [y], by simp [hz1], fun i h => ?_⟩
    by_cases c : i < z.length
    · rw [List.getElem_append_left c]
      exact hz2 i c
    · have hi : i = z.length := by simp at h; omega
      subst hi
      rw [List.getElem_append_right (Nat.le_refl _)]
      simp only [Nat.sub_self, List.getElem_singleton]
      rw [hz1]
      exact hy
end Go.Proofs.YtdcebokfnbgkaaaDoor
namespace Go.Proofs.YtdcebokfnbgkaaaDoor
open Go.RowKit Go.ChangeShapes Go.WideShapes
variable {H : Type} {enc : TypeId × Value → H} {P : Program} {w : World} {base : Nat} {spare : Nat → Bool} {held : Bool}
theorem open_gl {α : Type} (E : El α) (N : α → Prop) {sl t : TypeId} (hsl : P.underlying sl = some (.slice t)) (ct : P.cellsOf t = E.sz)
    (one : ∀ {fuel : Nat} {l : List Value} {x : DataW H × List MemPlace}, DataW.trod enc P w base spare held fuel t l = some x → ∃ y, l = E.c y ∧ E.ok y w ∧ (Wt P x.1 t → N y))
    {fuel : Nat} {v : Value} {x : DataW H × List MemPlace} (h : DataW.trod enc P w base spare held fuel sl [v] = some x) :
    ∃ (ao : Option Addr) (n cap : Nat) (l : List α), v = .slice ao n cap ∧ GL E w ao n cap l ∧ (Wt P x.1 sl → ∀ y ∈ l, N y) := by
  rcases Deep.open_slice hsl h with ⟨hcs, _⟩ | ⟨a, l, c, m, n, D, Pl, hcs, _, hl, hm, hmm, hy0, hx⟩
  · exact ⟨none, 0, 0, [], by simpa using hcs, GL.nothing _ _, fun _ _ h => absurd h List.not_mem_nil⟩
  · have hlm : l ≤ m := by rw [hmm]; split <;> omega
    obtain ⟨z, hz1, hz2⟩ := gather_list (p := fun i (y : α) => (∀ j v, (E.c y)[j]? = some v → w.cell? (a.add (i * E.sz + j)) = some v) ∧ E.ok y w ∧ (Wt P (D i) t → N y)) l (fun i hi => by
      obtain ⟨cs', h1, h2⟩ := hx i (by omega)
      rw [ct] at h1
      obtain ⟨_, hlen, hcell⟩ := World.cells?_some h1
      obtain ⟨y, e1, w1, n1⟩ := one h2
      refine ⟨y, fun j v hv => ?_, w1, n1⟩
      rw [← e1] at hv
      have hj : j < cs'.length := (List.getElem?_eq_some_iff.1 hv).1
      have := hcell j (by omega)
      rw [Deep.add_add, hv] at this
      exact this)
    refine ⟨some a, l, c, z, by simpa using hcs, ⟨hz1, hl, hm, fun h => by simp at h, fun b hb i hi => ?_, fun q hq => ?_⟩, fun hwt y hy => ?_⟩
    · obtain rfl := Option.some.inj hb
      exact (hz2 i hi).1
    · obtain ⟨i, hi, rfl⟩ := List.getElem_of_mem hq
      exact (hz2 i hi).2.1
    · obtain ⟨i, hi, rfl⟩ := List.getElem_of_mem hy
      refine (hz2 i hi).2.2 fun n hn2 => hwt n ?_
      rw [hy0]
      simp only [DataW.weights, hsl]
      refine List.mem_cons_of_mem _ (List.mem_append_left _ (weights_mem_all (j := i) ?_ n hn2))
      rw [List.getElem?_map, List.getElem?_range (by omega)]
      rfl
end Go.Proofs.YtdcebokfnbgkaaaDoor
namespace Go.Proofs.YtdcebokfnbgkaaaDoor
open Go.RowKit Go.ChangeShapes Go.WideShapes
structure P16 (P : Program) where
  u64 : TypeId
  bys : TypeId
  u8 : TypeId
  pr : TypeId
  prs : TypeId
  f0 : Field
  f1 : Field
  f2 : Field
  hu64 : P.underlying u64 = some (.int .u64)
  hbys : P.underlying bys = some (.slice u8)
  hu8 : P.underlying u8 = some (.int .u8)
  hpr : P.underlying pr = some (.struct #[f0, f1, f2])
  hprs : P.underlying prs = some (.slice pr)
  cu64 : P.cellsOf u64 = 1
  cbys : P.cellsOf bys = 1
  cu8 : P.cellsOf u8 = 1
  bu8 : P.bytesOf u8 = 1
  cpr : P.cellsOf pr = 3
  cprs : P.cellsOf prs = 1
  o0 : f0.type = u64 ∧ f0.offset = 0
  o1 : f1.type = u64 ∧ f1.offset = 1
  o2 : f2.type = bys ∧ f2.offset = 2
structure C16 (P : Program) (T : P16 P) where
  cl : TypeId
  cls : TypeId
  g0 : Field
  g1 : Field
  g2 : Field
  g3 : Field
  hcl : P.underlying cl = some (.struct #[g0, g1, g2, g3])
  hcls : P.underlying cls = some (.slice cl)
  ccl : P.cellsOf cl = 4
  p0 : g0.type = T.u64 ∧ g0.offset = 0
  p1 : g1.type = T.u64 ∧ g1.offset = 1
  p2 : g2.type = T.bys ∧ g2.offset = 2
  p3 : g3.type = T.prs ∧ g3.offset = 3
variable {H : Type} {enc : TypeId × Value → H} {P : Program} {w : World} {base : Nat} {spare : Nat → Bool} {held : Bool}
theorem nat64 {z : Int} (h : (Lit.int .u64 z).wf = true) : 0 ≤ z ∧ z < 18446744073709551616 := by
  simp [Lit.wf, IntKind.min, IntKind.max, IntKind.signed, IntKind.bits] at h
  omega
theorem open_pre16 (T : P16 P) {fuel : Nat} {l : List Value} {x : DataW H × List MemPlace} (h : DataW.trod enc P w base spare held fuel T.pr l = some x) : ∃ y : PA, l = elP.c y ∧ elP.ok y w ∧ (Wt P x.1 T.pr → True) := by
  obtain ⟨xs, k, _, hx, hl, hlen, hf⟩ := DataW.trod_struct T.hpr h
  rw [T.cpr] at hl
  obtain ⟨c0, c1, c2, rfl⟩ : ∃ c0 c1 c2, l = [c0, c1, c2] := by
    match l, hl with
    | [c0, c1, c2], _ => exact ⟨_, _, _, rfl⟩
  obtain ⟨x0, x1, x2, rfl⟩ : ∃ x0 x1 x2, xs = [x0, x1, x2] := by
    match xs, hlen with
    | [x0, x1, x2], _ => exact ⟨_, _, _, rfl⟩
  have e0 := hf 0 T.f0 rfl
  have e1 := hf 1 T.f1 rfl
  have e2 := hf 2 T.f2 rfl
  rw [T.o0.1, T.o0.2, T.cu64] at e0
  rw [T.o1.1, T.o1.2, T.cu64] at e1
  rw [T.o2.1, T.o2.2, T.cbys] at e2
  simp only [List.drop_succ_cons, List.drop_zero, List.take_succ_cons, List.take_zero, List.getElem?_cons_zero, List.getElem?_cons_succ] at e0 e1 e2
  obtain ⟨z0, q0, _, w0⟩ := DataW.trod_int T.hu64 e0
  obtain rfl : c0 = .int .u64 z0 := by simpa using q0
  obtain ⟨z1, q1, _, w1⟩ := DataW.trod_int T.hu64 e1
  obtain rfl : c1 = .int .u64 z1 := by simpa using q1
  obtain ⟨b, rfl, s1, _⟩ := Sl.of_ints T.hbys T.hu8 T.cu8 T.bu8 e2
  have g0 := nat64 w0
  have g1 := nat64 w1
  refine ⟨⟨z0.toNat, z1.toNat, b⟩, ?_, ⟨by show z0.toNat < _; omega, by show z1.toNat < _; omega, s1⟩, fun _ => trivial⟩
  show _ = PA.cells _
  unfold PA.cells
  simp only
  rw [Int.toNat_of_nonneg g0.1, Int.toNat_of_nonneg g1.1]
theorem open_claim16 (T : P16 P) (U : C16 P T) {fuel : Nat} {l : List Value} {x : DataW H × List MemPlace} (h : DataW.trod enc P w base spare held fuel U.cl l = some x) : ∃ y : CA, l = elC.c y ∧ elC.ok y w ∧ (Wt P x.1 U.cl → True) := by
  obtain ⟨xs, k, _, hx, hl, hlen, hf⟩ := DataW.trod_struct U.hcl h
  rw [U.ccl] at hl
  obtain ⟨c0, c1, c2, c3, rfl⟩ : ∃ c0 c1 c2 c3, l = [c0, c1, c2, c3] := by
    match l, hl with
    | [c0, c1, c2, c3], _ => exact ⟨_, _, _, _, rfl⟩
  obtain ⟨x0, x1, x2, x3, rfl⟩ : ∃ x0 x1 x2 x3, xs = [x0, x1, x2, x3] := by
    match xs, hlen with
    | [x0, x1, x2, x3], _ => exact ⟨_, _, _, _, rfl⟩
  have e0 := hf 0 U.g0 rfl
  have e1 := hf 1 U.g1 rfl
  have e2 := hf 2 U.g2 rfl
  have e3 := hf 3 U.g3 rfl
  rw [U.p0.1, U.p0.2, T.cu64] at e0
  rw [U.p1.1, U.p1.2, T.cu64] at e1
  rw [U.p2.1, U.p2.2, T.cbys] at e2
  rw [U.p3.1, U.p3.2, T.cprs] at e3
  simp only [List.drop_succ_cons, List.drop_zero, List.take_succ_cons, List.take_zero, List.getElem?_cons_zero, List.getElem?_cons_succ] at e0 e1 e2 e3
  obtain ⟨z0, q0, _, w0⟩ := DataW.trod_int T.hu64 e0
  obtain rfl : c0 = .int .u64 z0 := by simpa using q0
  obtain ⟨z1, q1, _, w1⟩ := DataW.trod_int T.hu64 e1
  obtain rfl : c1 = .int .u64 z1 := by simpa using q1
  obtain ⟨b, rfl, s1, _⟩ := Sl.of_ints T.hbys T.hu8 T.cu8 T.bu8 e2
  obtain ⟨so, sn, sc, sl, rfl, sg, _⟩ := open_gl elP (fun _ => True) T.hprs T.cpr (fun h => open_pre16 T h) e3
  have g0 := nat64 w0
  have g1 := nat64 w1
  refine ⟨⟨z0.toNat, z1.toNat, b, ⟨so, sn, sc, sl⟩⟩, ?_, ⟨by show z0.toNat < _; omega, by show z1.toNat < _; omega, s1, sg⟩, fun _ => trivial⟩
  show _ = CA.cells _
  unfold CA.cells
  simp only
  rw [Int.toNat_of_nonneg g0.1, Int.toNat_of_nonneg g1.1]
def preT16 : P16 Tryd.prog where
  u64 := 25
  bys := 38
  u8 := 5
  pr := 42
  prs := 32
  f0 := { name := "Seq", type := 25, offset := 0, embedded := false, tag := "", pkgPath := "", byteOffset := 0 }
  f1 := { name := "View", type := 25, offset := 1, embedded := false, tag := "", pkgPath := "", byteOffset := 8 }
  f2 := { name := "Sum", type := 38, offset := 2, embedded := false, tag := "", pkgPath := "", byteOffset := 16 }
  hu64 := Tryd.underlying25
  hbys := Tryd.underlying38
  hu8 := Tryd.underlying5
  hpr := Tryd.underlying42
  hprs := Tryd.underlying32
  cu64 := by kernel_rfl
  cbys := by kernel_rfl
  cu8 := by kernel_rfl
  bu8 := by kernel_rfl
  cpr := by kernel_rfl
  cprs := by kernel_rfl
  o0 := ⟨rfl, rfl⟩
  o1 := ⟨rfl, rfl⟩
  o2 := ⟨rfl, rfl⟩
def claimT16 : C16 Tryd.prog preT16 where
  cl := 44
  cls := 22
  g0 := { name := "From", type := 25, offset := 0, embedded := false, tag := "", pkgPath := "", byteOffset := 0 }
  g1 := { name := "Low", type := 25, offset := 1, embedded := false, tag := "", pkgPath := "", byteOffset := 8 }
  g2 := { name := "Low0", type := 38, offset := 2, embedded := false, tag := "", pkgPath := "", byteOffset := 16 }
  g3 := { name := "Pres", type := 32, offset := 3, embedded := false, tag := "", pkgPath := "", byteOffset := 40 }
  hcl := Tryd.underlying44
  hcls := Tryd.underlying22
  ccl := by kernel_rfl
  p0 := ⟨rfl, rfl⟩
  p1 := ⟨rfl, rfl⟩
  p2 := ⟨rfl, rfl⟩
  p3 := ⟨rfl, rfl⟩
theorem open_claims16 {fuel : Nat} {v : Value} {x : DataW H × List MemPlace} {w : World} (h : DataW.trod enc Tryd.prog w base spare held fuel 22 [v] = some x) : ∃ (ao : Option Addr) (n cap : Nat) (l : List CA), v = .slice ao n cap ∧ GL elC w ao n cap l := by
  obtain ⟨ao, n, cap, l, e, g, _⟩ := open_gl elC (fun _ => True) (t := 44) Tryd.underlying22 claimT16.ccl (fun h => open_claim16 preT16 claimT16 h) h
  exact ⟨ao, n, cap, l, e, g⟩
end Go.Proofs.YtdcebokfnbgkaaaDoor
namespace Go.Proofs.YtdcebokfnbgkaaaDoor
open Go.RowKit
abbrev laidL : List (String × DataW Unit) := [("bulwark/digest.firstWords", Rows.laid_bulwark_digest_firstWords), ("bulwark/digest.roundWords", Rows.laid_bulwark_digest_roundWords)]
theorem gFirst : Tryd.prog.globalNamed "bulwark/digest.firstWords" = some 1 := by kernel_rfl
theorem gRound : Tryd.prog.globalNamed "bulwark/digest.roundWords" = some 0 := by kernel_rfl
theorem tFirst : (Tryd.prog.globals[1]?).map (·.type) = some 86 := by kernel_rfl
theorem tRound : (Tryd.prog.globals[0]?).map (·.type) = some 101 := by kernel_rfl
theorem laidL_plain : (laidL.all fun x => x.2.handleName?.isNone) = true := by kernel_rfl
theorem all_met (os : Os) (args : Array Value) : laidMetH Tryd.prog laidL ((World.laidAll Tryd.prog os laidL).forCall (fun _ _ => 0) ⟨#[], args, []⟩).memory := by
  rw [MakeChecks.laidMetH_plain _ _ _ laidL_plain]
  exact laidMet_laidAll _ (by kernel_rfl) (by kernel_rfl)
theorem words_of {H : Type} {enc : TypeId × Value → H} {w : World} {base : Nat} {sp : Nat → Bool} {held : Bool} {fuel n : Nat} {t : TypeId} {cs : List Value} {zs : List Int} {p : List MemPlace}
    (ht : Tryd.prog.underlying t = some (.array n 85)) (h : DataW.trod enc Tryd.prog w base sp held fuel t cs = some (.agg (zs.map fun z => .lit (.int .u32 z)), p)) (hz : zs.length = n) :
    ∀ (j : Nat) (v : Value), (wv zs)[j]? = some v → cs[j]? = some v := by
  intro j v hv
  have hj : j < zs.length := by have := (List.getElem?_eq_some_iff.1 hv).1; rwa [wv_length] at this
  rw [wv_get zs j hj] at hv
  obtain rfl := Option.some.inj hv
  obtain ⟨f', d, q, hd, he⟩ := Lib.array_elem ht h j (by omega)
  have c1 : Tryd.prog.cellsOf 85 = 1 := by kernel_rfl
  rw [c1, Nat.mul_one] at he
  obtain ⟨k, e1, e2, _⟩ := DataW.trod_int Tryd.underlying85 he
  simp only [Prod.mk.injEq] at e2
  rw [e2.1] at hd
  simp only [List.getElem?_map, List.getElem?_eq_getElem hj, Option.map_some, Option.some.injEq, DataW.lit.injEq, Lit.int.injEq, true_and] at hd
  have : (cs.drop j)[0]? = some (.int .u32 k) := by
    have := congrArg (fun l : List Value => l[0]?) e1
    simpa [List.getElem?_take] using this
  rw [List.getElem?_drop, Nat.add_zero] at this
  rw [this, ← hd]
  simp [List.getD, hj]
theorem tabs_of {W : World} (h : laidMetH Tryd.prog laidL W) : Tabs W := by
  rw [MakeChecks.laidMetH_plain _ _ _ laidL_plain] at h
  obtain ⟨ps, ⟨g0, t0, cs0, f0, p0, q0, hg0, ht0, hv0, hd0, ⟨g1, t1, cs1, f1, p1, q1, hg1, ht1, hv1, hd1, _, _⟩, _⟩, _, _⟩ := h
  obtain rfl := Option.some.inj (gFirst.symm.trans hg0)
  obtain rfl := Option.some.inj (gRound.symm.trans hg1)
  obtain rfl := Option.some.inj (tFirst.symm.trans ht0)
  obtain rfl := Option.some.inj (tRound.symm.trans ht1)
  have hA := words_of (zs := H0) Tryd.underlying86 hd0 rfl
  have hB := words_of (zs := K0) Tryd.underlying101 hd1 rfl
  have cA : ∀ j v, (wv H0)[j]? = some v → W.cell? ⟨1, j, none⟩ = some v := fun j v hv => by
    rw [World.var?_cell hg0 hv0 j]
    simpa using hA j v hv
  refine ⟨cA, fun j v hv => ?_, ?_⟩
  · rw [World.var?_cell hg1 hv1 j]
    simpa using hB j v hv
  · have := block_lt_of_cell (cA 0 _ rfl)
    exact this
end Go.Proofs.YtdcebokfnbgkaaaDoor

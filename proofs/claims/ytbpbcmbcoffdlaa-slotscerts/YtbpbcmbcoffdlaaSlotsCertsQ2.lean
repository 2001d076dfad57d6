/-
  Texts in one: HRegX, SlMem, SlNew, SlSlot, SlMath, SlLog, SlSlotL, HRegB, SlPrep.
-/
import Derived.Test.YtbpbcmbcoffdlaaSlotsCertsQFL
import Derived.Test.YtbpbcmbcoffdlaaSlotsCertsQ0
import Derived.Test.YtbpbcmbcoffdlaaSlotsCertsQ1
import Derived.Lib.ConvBytes
namespace Go
section
variable {P : Program} {ops : Array Oper} {S : World → Prop} {Q : Exit → Act → World → Prop} {fuel : Nat} {listed : Array Bool} {a : Act} {w : World}
theorem hr_ex (i : Nat) (d : Option Tmp) {oi : Oper} {R : Value → World → Prop} (hi : ops[i]? = some oi) (hd : oi.dst = d) (hr : Region.ready .any ops listed = [i]) (hw : Region.wanted oi (yielded ops a.tmps) = true)
    (hrun : ∃ v w', (execOp a.eval oi).run P w = .ok (.value v) w' ∧ R v w')
    (h : ∀ v w', R v w' → S w' ∧ wpAnyH P .any ops (NoPanic Q) S fuel (listed.setIfInBounds i true) (a.put d v) w') : wpAnyH P .any ops (NoPanic Q) S (fuel + 1) listed a w := by
  refine wpAnyH_all hr (by simp) fun j hj => ?_
  obtain rfl := List.mem_singleton.1 hj
  obtain ⟨v, w', hrun, hR⟩ := hrun
  unfold wpOp
  simp only [hi, hw, if_true, Oper.wp, hrun, Oper.upon, hd]
  exact .inl (h v w' hR)
theorem op_ex (i : Nat) (d : Option Tmp) {oi : Oper} {R : Value → World → Prop} (hi : ops[i]? = some oi) (hd : oi.dst = d) (hw : Region.wanted oi (yielded ops a.tmps) = true)
    (hrun : ∃ v w', (execOp a.eval oi).run P w = .ok (.value v) w' ∧ R v w')
    (h : ∀ v w', R v w' → S w' ∧ wpAnyH P .any ops (NoPanic Q) S fuel (listed.setIfInBounds i true) (a.put d v) w') : wpOp P ops (NoPanic Q) i (fun a' w' => S w' ∧ wpAnyH P .any ops (NoPanic Q) S fuel (listed.setIfInBounds i true) a' w') a w := by
  obtain ⟨v, w', hrun, hR⟩ := hrun
  unfold wpOp
  simp only [hi, hw, if_true, Oper.wp, hrun, Oper.upon, hd]
  exact .inl (h v w' hR)
end
end Go
namespace Go.Proofs.Ytbpbcmbcoffdlaa
open Go.RowKit
def LC (w : World) (L f low view M : Nat) : Prop := Arr w L 69 [.int .i64 (f : Nat), .int .u64 (low : Nat), .int .u64 (view : Nat), .map (some M)]
theorem LC.lt {w : World} {L f low view M : Nat} (h : LC w L f low view M) : L < w.heap.size := Arr.lt h
theorem LC.below {w w' : World} {L f low view M : Nat} (h : LC w L f low view M) (hb : Below w.heap.size w w') : LC w' L f low view M := Arr.below h hb h.lt
theorem LC.cell {w : World} {L f low view M : Nat} (h : LC w L f low view M) (j : Nat) : w.cell? ⟨L, j, none⟩ = ([.int .i64 (f : Nat), .int .u64 (low : Nat), .int .u64 (view : Nat), .map (some M)] : List Value)[j]? := Arr.cell h j
def jdgS (f low fr seq : Nat) : Int := if seq ≤ low ∨ 8 < seq - low then 13 else if fr = 0 ∨ 3 * f + 1 < fr then 15 else 0
set_option maxRecDepth 100000 in
set_option maxHeartbeats 4000000 in
theorem judge_log (w : World) (L f low view M fr seq : Nat) (h : LC w L f low view M) (h1 : 1 ≤ f) (h4 : f ≤ 4) (hl : low < 18446744073709551616) (hs : seq < 18446744073709551616) :
    Calls Try.prog 48 #[.pointer (some ⟨L, 0, none⟩), .int .u64 (fr : Nat), .int .u64 (seq : Nat)] w fun e w' => e = .returned (.int .i64 (jdgS f low fr seq)) ∧ w' = w := by
  have x0 : w.cell? ⟨L, 0, none⟩ = some (.int .i64 (f : Nat)) := h.cell 0
  have x1 : w.cell? ⟨L, 1, none⟩ = some (.int .u64 (low : Nat)) := h.cell 1
  have CN := n_any f w
  rw [nF_t 3 (okF_t (by omega) (by omega))] at CN
  have iw : IntKind.u64.wrap (3 * (f : Int) + 1) = 3 * (f : Int) + 1 := by
    unfold IntKind.wrap
    simp [IntKind.bits, IntKind.signed]
    omega
  clear h
  by_cases c1 : seq ≤ low
  · have t1 : (seq : Int) ≤ (low : Int) := by omega
    have d1 : decide ((seq : Int) ≤ (low : Int)) = true := decide_eq_true t1
    have hv : Hid (jdgS f low fr seq = 13) := if_pos (.inl c1)
    go_enter Try.func48, Try.ntmps48
    go_wp2
    go_ret
    exact ⟨by rw [hv.out] <;> rfl, rfl⟩
  have t1 : ¬ (seq : Int) ≤ (low : Int) := by omega
  have d1 : decide ((seq : Int) ≤ (low : Int)) = false := decide_eq_false t1
  have sw : IntKind.u64.wrap ((seq : Int) - (low : Int)) = (seq : Int) - (low : Int) := by
    unfold IntKind.wrap
    simp [IntKind.bits, IntKind.signed]
    omega
  by_cases c2 : 8 < seq - low
  · have t2 : (8 : Int) < (seq : Int) - (low : Int) := by omega
    have d2 : decide ((8 : Int) < (seq : Int) - (low : Int)) = true := decide_eq_true t2
    have hv : Hid (jdgS f low fr seq = 13) := if_pos (.inr c2)
    go_enter Try.func48, Try.ntmps48
    go_wp2
    go_ret
    exact ⟨by rw [hv.out] <;> rfl, rfl⟩
  have t2 : ¬ (8 : Int) < (seq : Int) - (low : Int) := by omega
  have d2 : decide ((8 : Int) < (seq : Int) - (low : Int)) = false := decide_eq_false t2
  by_cases c3 : fr = 0
  · have t3 : ((fr : Int) == 0) = true := by simp; omega
    have hv : Hid (jdgS f low fr seq = 15) := (if_neg (by omega)).trans (if_pos (.inl c3))
    clear c3
    go_enter Try.func48, Try.ntmps48
    go_wp2
    go_ret
    exact ⟨by rw [hv.out] <;> rfl, rfl⟩
  have t3 : ((fr : Int) == 0) = false := by simp; omega
  by_cases c4 : 3 * f + 1 < fr
  · have t4 : 3 * (f : Int) + 1 < (fr : Int) := by omega
    have d4 : decide (3 * (f : Int) + 1 < (fr : Int)) = true := decide_eq_true t4
    have hv : Hid (jdgS f low fr seq = 15) := (if_neg (by omega)).trans (if_pos (.inr c4))
    go_enter Try.func48, Try.ntmps48
    go_wp2_with (go_at_call 70; refine CN.mono ?_; rintro e w' ⟨rfl, rfl⟩)
    go_ret
    exact ⟨by rw [hv.out] <;> rfl, rfl⟩
  have t4 : ¬ 3 * (f : Int) + 1 < (fr : Int) := by omega
  have d4 : decide (3 * (f : Int) + 1 < (fr : Int)) = false := decide_eq_false t4
  have hv : Hid (jdgS f low fr seq = 0) := (if_neg (by omega)).trans (if_neg (by omega))
  go_enter Try.func48, Try.ntmps48
  go_wp2_with (go_at_call 70; refine CN.mono ?_; rintro e w' ⟨rfl, rfl⟩)
  go_ret
  exact ⟨by rw [hv.out] <;> rfl, rfl⟩
theorem prim_below (view f : Nat) (hv : view < 18446744073709551616) (w : World) : Calls Try.prog 71 #[.int .u64 (view : Nat), .int .i64 (f : Nat)] w fun e w' => e = .returned (.int .u64 (prF view f : Nat)) ∧ Below w.heap.size w w' :=
  (prim_any view f hv w).mono fun _ _ h => ⟨h.1, by rw [h.2]; exact Below.refl _ _⟩
set_option maxRecDepth 100000 in
set_option maxHeartbeats 4000000 in
theorem primary_log (w : World) (L f low view M : Nat) (h : LC w L f low view M) (hv : view < 18446744073709551616) :
    Calls Try.prog 49 #[.pointer (some ⟨L, 0, none⟩)] w fun e w' => e = .returned (.int .u64 (prF view f : Nat)) ∧ Below w.heap.size w w' := by
  go_enter Try.func49, Try.ntmps49
  go_wp2_with fail
  have tHS : Hid (∀ V, Below w.heap.size w V → V.cell? ⟨L, 0, none⟩ = some (.int .i64 (f : Nat)) ∧ V.cell? ⟨L, 2, none⟩ = some (.int .u64 (view : Nat))) := fun V hV => by have K := h.below hV; exact ⟨K.cell 0, K.cell 2⟩
  have tE0 : Below w.heap.size w w.drew := (Below.refl _ _).drew
  refine wp_region_noPanic ?_
  refine wp_region_held_drew (S := fun V => V.cell? ⟨L, 0, none⟩ = some (.int .i64 (f : Nat)) ∧ V.cell? ⟨L, 2, none⟩ = some (.int .u64 (view : Nat))) (by kernel_rfl) (tHS.out _ tE0) (fun tH0 => ?_)
  obtain ⟨tv0, hv0⟩ : ∃ v, v = w.drew := ⟨_, rfl⟩
  rw [← hv0] at tH0 tE0 ⊢
  clear hv0
  refine hr_take_w 0 (some 3) (.pointer (some ⟨L, 0, none⟩)) rfl rfl (by kernel_rfl) (by kernel_rfl) (by kernel_rfl) rfl (fun W hW => by obtain ⟨h0, h1⟩ := hW; go_simp) tH0 ?_
  simp only [FL]
  refine hr_take_w 1 (some 4) (.pointer (some ⟨L, 0, none⟩)) rfl rfl (by kernel_rfl) (by kernel_rfl) (by kernel_rfl) rfl (fun W hW => by obtain ⟨h0, h1⟩ := hW; go_simp) tH0 ?_
  simp only [FL]
  refine hr_take_w 2 (some 5) (.pointer (some ⟨L, 2, none⟩)) rfl rfl (by kernel_rfl) (by kernel_rfl) (by kernel_rfl) rfl (fun W hW => by obtain ⟨h0, h1⟩ := hW; go_simp) tH0 ?_
  simp only [FL]
  refine hr_take_w 3 (some 6) (.int .u64 (view : Nat)) rfl rfl (by kernel_rfl) (by kernel_rfl) (by kernel_rfl) rfl (fun W hW => by obtain ⟨h0, h1⟩ := hW; go_simp) tH0 ?_
  simp only [FL]
  refine hr_take_w 4 (some 7) (.pointer (some ⟨L, 0, none⟩)) rfl rfl (by kernel_rfl) (by kernel_rfl) (by kernel_rfl) rfl (fun W hW => by obtain ⟨h0, h1⟩ := hW; go_simp) tH0 ?_
  simp only [FL]
  refine hr_take_w 5 (some 8) (.pointer (some ⟨L, 0, none⟩)) rfl rfl (by kernel_rfl) (by kernel_rfl) (by kernel_rfl) rfl (fun W hW => by obtain ⟨h0, h1⟩ := hW; go_simp) tH0 ?_
  simp only [FL]
  refine hr_take_w 6 (some 9) (.pointer (some ⟨L, 0, none⟩)) rfl rfl (by kernel_rfl) (by kernel_rfl) (by kernel_rfl) rfl (fun W hW => by obtain ⟨h0, h1⟩ := hW; go_simp) tH0 ?_
  simp only [FL]
  refine hr_take_w 7 (some 10) (.int .i64 (f : Nat)) rfl rfl (by kernel_rfl) (by kernel_rfl) (by kernel_rfl) rfl (fun W hW => by obtain ⟨h0, h1⟩ := hW; go_simp) tH0 ?_
  simp only [FL]
  refine hr_call_w 8 (some 11) 71 #[.int .u64 (view : Nat), .int .i64 (f : Nat)] rfl rfl (by kernel_rfl) rfl (by go_simp) (fun v w' => v = .int .u64 (prF view f : Nat) ∧ Below tv0.heap.size tv0 w') ((prim_below view f hv tv0).mono (by
    rintro e w' ⟨rfl, C⟩
    exact ⟨_, rfl, rfl, C⟩)) ?_
  rintro v tv1 ⟨rfl, tC0⟩
  have tE1 := tE0.trans (tC0.mono tE0.size)
  have tH1 := tHS.out tv1 tE1
  refine ⟨tH1, ?_⟩
  simp only [FL]
  refine hr_take_w 9 (some 2) (.int .u64 (prF view f : Nat)) rfl rfl (by kernel_rfl) (by kernel_rfl) (by kernel_rfl) rfl (fun W hW => by obtain ⟨h0, h1⟩ := hW; go_simp) tH1 ?_
  simp only [FL]
  refine wpAnyH_done (by kernel_rfl) ?_ _
  refine NoPanic.normal ?_
  go_wp2
  go_ret
  exact ⟨rfl, tE1⟩
open Go.RowKit
def RC0 (w : World) (r : Nat) : Prop := Arr w r 83 [.bool false, .string ⟨#[]⟩, .int .u64 0, .slice none 0 0, .slice none 0 0, .pointer none, .pointer none]
set_option maxRecDepth 100000 in
set_option maxHeartbeats 4000000 in
theorem newRound_any (w : World) (f : Nat) (h1 : 1 ≤ f) (h4 : f ≤ 4) :
    Calls Try.prog 56 #[.int .i64 (f : Nat)] w fun e w' => ∃ p q, e = .returned (.agg #[.bool false, .string ⟨#[]⟩, .int .u64 0, .slice none 0 0, .slice none 0 0, .pointer (some ⟨p, 0, none⟩), .pointer (some ⟨q, 0, none⟩)]) ∧ w.heap.size < p ∧ p < q ∧ QS w' p f noVotes ∧ QS w' q f noVotes ∧ Below w.heap.size w w' := by
  have CN := fun W => new_good W f h1 h4
  have HA : Hid (RC0 (w.alloc (.cells #[.bool false, .string ⟨#[]⟩, .int .u64 0, .slice none 0 0, .slice none 0 0, .pointer none, .pointer none] 83)) w.heap.size) := heap_alloc_new w _
  have HB : Hid (Below w.heap.size w (w.alloc (.cells #[.bool false, .string ⟨#[]⟩, .int .u64 0, .slice none 0 0, .slice none 0 0, .pointer none, .pointer none] 83))) := (Below.refl _ _).alloc (Nat.le_refl _) _
  go_enter Try.func56, Try.ntmps56
  go_wp2_with (go_at_call 75; refine (CN _).mono ?_; first
    | (rintro e w' ⟨p, rfl, hp, hQ, hB⟩
       have kD : Hid (_ ∧ _ ∧ _ ∧ _) := ⟨kC.out.1.below hB (Arr.lt kC.out.1), kC.out.2.1.below hB, kC.out.2.2.trans (hB.mono kC.out.2.2.size), Nat.lt_of_lt_of_le kC.out.2.1.lt hp⟩
       have kE : Hid (_ ∧ _) := ⟨hQ, hp⟩
       have kR := kD.out.1
       have k0 := kR.cell 0
       have k1 := kR.cell 1
       have k2 := kR.cell 2
       have k3 := kR.cell 3
       have k4 := kR.cell 4
       have k5 := kR.cell 5
       have k6 := kR.cell 6
       have f0 := kR.free 0
       have f1 := kR.free 1
       have f2 := kR.free 2
       have f3 := kR.free 3
       have f4 := kR.free 4
       have f5 := kR.free 5
       have f6 := kR.free 6
       clear kR hp hQ hB)
    | (rintro e w0 ⟨p0, rfl, hp, hQ, hB⟩
       have kC : Hid (Arr _ w.heap.size _ _ ∧ QS _ p0 f noVotes ∧ Below w.heap.size w _) := ⟨HA.out.below hB (Arr.lt HA.out), hQ, HB.out.trans (hB.mono HB.out.size)⟩
       have kP : Hid (w.heap.size < p0) := Nat.lt_of_lt_of_le (Arr.lt HA.out) hp
       clear hp hQ hB))
  have kS := kD.out.1
  refine bodyPost_ret (v := .agg #[.bool false, .string ⟨#[]⟩, .int .u64 0, .slice none 0 0, .slice none 0 0, .pointer (some ⟨p0, 0, none⟩), .pointer (some ⟨p, 0, none⟩)]) (results_cell_row rfl _ _ w.heap.size 83 _ _ _ rfl (((((((kS.set 0 _).set 1 _).set 2 _).set 3 _).set 4 _).set 5 _).set 6 _) (by rfl) (by rfl) (by rfl)) rfl ?_
  refine ⟨_, _, rfl, kP.out, kD.out.2.2.2, ?_, ?_, ?_⟩
  · have hn : p0 ≠ w.heap.size := Nat.ne_of_gt kP.out
    exact kD.out.2.1.keep (by iterate 7 rw [heap_setCell_other _ _ _ _ hn])
  · have hn : p ≠ w.heap.size := Nat.ne_of_gt (Nat.lt_trans kP.out kD.out.2.2.2)
    exact kE.out.1.keep (by iterate 7 rw [heap_setCell_other _ _ _ _ hn])
  · exact ((((((kD.out.2.2.1.setCell (Nat.le_refl _) _).setCell (Nat.le_refl _) _).setCell (Nat.le_refl _) _).setCell (Nat.le_refl _) _).setCell (Nat.le_refl _) _).setCell (Nat.le_refl _) _).setCell (Nat.le_refl _) _
theorem slNew_bad (w : World) (f : Int) (h : f < 1 ∨ 4 < f) : Calls Try.prog 11 #[.int .i64 f] w fun x w' => x = .returned (.tuple #[.pointer none, .int .i64 1]) ∧ w' = w := by
  by_cases c1 : f < 1
  · have d1 : decide (f < 1) = true := decide_eq_true c1
    go_enter Try.func11, Try.ntmps11
    go_wp2
    go_ret2
    exact ⟨rfl, rfl⟩
  · have d1 : decide (f < 1) = false := decide_eq_false c1
    have c2 : 4 < f := by omega
    have d2 : decide ((4 : Int) < f) = true := decide_eq_true c2
    go_enter Try.func11, Try.ntmps11
    go_wp2
    go_ret2
    exact ⟨rfl, rfl⟩
theorem slNew_good (w : World) (f : Nat) (h1 : 1 ≤ f) (h4 : f ≤ 4) : Calls Try.prog 11 #[.int .i64 (f : Nat)] w fun x w' => x = .returned (.tuple #[.pointer (some ⟨w.heap.size + 1, 0, none⟩), .int .i64 0]) ∧ LC w' (w.heap.size + 1) f 0 0 w.heap.size ∧ MF w' 30 w.heap.size 0 (fun _ => none) ∧ Below w.heap.size w w' := by
  have c1 : ¬ (f : Int) < 1 := by omega
  have d1 : decide ((f : Int) < 1) = false := decide_eq_false c1
  have c2 : ¬ (4 : Int) < (f : Int) := by omega
  have d2 : decide ((4 : Int) < (f : Int)) = false := decide_eq_false c2
  have hmm := @run_makeMap Try.prog
  have s1 : (w.alloc (.map #[] 0)).heap.size = w.heap.size + 1 := by simp
  have HB : Hid (Below w.heap.size w ((w.alloc (.map #[] 0)).alloc (.cells #[.int .i64 (f : Nat), .int .u64 0, .int .u64 0, .map (some w.heap.size)] 69))) := ((Below.refl _ w).alloc (Nat.le_refl _) _).alloc (by omega) _
  have HM : Hid (MF ((w.alloc (.map #[] 0)).alloc (.cells #[.int .i64 (f : Nat), .int .u64 0, .int .u64 0, .map (some w.heap.size)] 69)) 30 w.heap.size 0 (fun _ => none)) := (MF.made w _).kept (World.grownBy_alloc _ _ none) (by simp)
  have HL : Hid (LC ((w.alloc (.map #[] 0)).alloc (.cells #[.int .i64 (f : Nat), .int .u64 0, .int .u64 0, .map (some w.heap.size)] 69)) (w.heap.size + 1) f 0 0 w.heap.size) := by
    have := heap_alloc_new (w.alloc (.map #[] 0)) (.cells #[.int .i64 (f : Nat), .int .u64 0, .int .u64 0, .map (some w.heap.size)] 69)
    rw [s1] at this
    exact this
  clear s1
  go_enter Try.func11, Try.ntmps11
  go_wp2
  go_ret2
  exact ⟨rfl, HL.out, HM.out, HB.out⟩
theorem slLow_log (w : World) (L f low view M : Nat) (h : LC w L f low view M) : Calls Try.prog 24 #[.pointer (some ⟨L, 0, none⟩)] w fun x w' => x = .returned (.int .u64 (low : Nat)) ∧ w' = w := by
  have x1 : w.cell? ⟨L, 1, none⟩ = some (.int .u64 (low : Nat)) := h.cell 1
  clear h
  go_enter Try.func24, Try.ntmps24
  go_wp2
  go_ret
  exact ⟨rfl, rfl⟩
end Go.Proofs.Ytbpbcmbcoffdlaa
namespace Go
theorem exec_mapUpdate15 {P : Program} {a : Act} {w : World} {o : Oper} {t : TypeId} {m x v : Operand} {mv xv vv : Value} {R : World → Prop} (ho : o.op = .mapUpdate t m x v) (hm : a.eval m = mv) (hx : a.eval x = xv) (hv : a.eval v = vv) (hr : ∃ w', (Instr.mapUpdate t mv xv vv).run P w = .ok () w' ∧ R w') :
    ∃ w', (execOp a.eval o).run P w = .ok .skip w' ∧ R w' := by
  obtain ⟨w', h1, h2⟩ := hr
  refine ⟨w', ?_, h2⟩
  unfold execOp
  simp only [ho, hm, hx, hv, h1, Sem.run_bind, Sem.run_pure, Result.andThen_ok]
theorem wpList_mapUpdate_F15 {P : Program} {ops : Array Oper} {rest : List Oper} {a : Act} {w : World} {Q : Exit → Act → World → Prop} {o : Oper} (hgd : o.guard = none) {t : TypeId} {m x v : Operand} {mv xv vv : Value} {R : World → Prop} (ho : o.op = .mapUpdate t m x v) (hm : a.eval m = mv) (hx : a.eval x = xv) (hv : a.eval v = vv) (hr : ∃ w', (Instr.mapUpdate t mv xv vv).run P w = .ok () w' ∧ R w')
    (h : ∀ w', R w' → wpList P ops Q rest (a.put o.dst undef) w') : wpList P ops Q (o :: rest) a w := by
  refine wpList_plain hgd fun K hK => ?_
  obtain ⟨w', h1, h2⟩ := exec_mapUpdate15 ho hm hx hv hr
  unfold Oper.wp
  rw [h1, Oper.upon_skip]
  exact hK _ _ (h w' h2)
end Go
namespace Go.Proofs.Ytbpbcmbcoffdlaa
open Go.RowKit
theorem kU : Maps.Keyed Try.prog 30 := Maps.int_keyed Try.underlying30
theorem keyU (n : Nat) (h : n < 18446744073709551616) : keyOf Try.prog 30 (.int .u64 (n : Nat)) = some (.int .u64 (n : Nat)) :=
  Maps.keyOf_int_mk Try.underlying30 (by simp [Lit.wf, IntKind.min, IntKind.max, IntKind.signed, IntKind.bits]; omega)
theorem zSlot (w : World) : (zeroValue 80).run Try.prog w = .ok (.pointer none) w := by kernel_rfl
theorem slot_there (w : World) (L f low view M n seq X : Nat) (F : Value → Option Value) (h : LC w L f low view M) (hM : MF w 30 M n F) (hs : seq < 18446744073709551616) (hX : F (.int .u64 (seq : Nat)) = some (.pointer (some ⟨X, 0, none⟩))) :
    Calls Try.prog 50 #[.pointer (some ⟨L, 0, none⟩), .int .u64 (seq : Nat)] w fun e w' => e = .returned (.pointer (some ⟨X, 0, none⟩)) ∧ w' = w := by
  have x3 : w.cell? ⟨L, 3, none⟩ = some (.map (some M)) := h.cell 3
  have hl := hM.look1 kU Try.underlying67 (zSlot w) (keyU seq hs)
  rw [hX] at hl
  simp only [Option.getD_some] at hl
  clear h hM hX
  go_enter Try.func50, Try.ntmps50
  go_wp2
  go_ret
  exact ⟨rfl, rfl⟩
def SlC (w : World) (X : Nat) (r : List Value) (c : List Value) : Prop := Arr w X 87 (r ++ c)
set_option maxRecDepth 100000 in
set_option maxHeartbeats 4000000 in
theorem slot_none (w : World) (L f low view M n seq : Nat) (F : Value → Option Value) (h : LC w L f low view M) (h1 : 1 ≤ f) (h4 : f ≤ 4) (hM : MF w 30 M n F) (hn : n < maxLen) (hs : seq < 18446744073709551616) (hX : F (.int .u64 (seq : Nat)) = none) :
    Calls Try.prog 50 #[.pointer (some ⟨L, 0, none⟩), .int .u64 (seq : Nat)] w fun e w' => ∃ X p q F', e = .returned (.pointer (some ⟨X, 0, none⟩)) ∧ w.heap.size < p ∧ p < q ∧ q < X ∧ QS w' p f noVotes ∧ QS w' q f noVotes ∧
      SlC w' X [.bool false, .string ⟨#[]⟩, .int .u64 0, .slice none 0 0, .slice none 0 0, .pointer (some ⟨p, 0, none⟩), .pointer (some ⟨q, 0, none⟩)] [.bool false, .int .u64 0, .string ⟨#[]⟩, .slice none 0 0] ∧
      MF w' 30 M (n + 1) F' ∧ F' (.int .u64 (seq : Nat)) = some (.pointer (some ⟨X, 0, none⟩)) ∧ (∀ y, y ≠ .int .u64 (seq : Nat) → F' y = F y) ∧ w.grownBy w' (some M) := by
  have x0 : w.cell? ⟨L, 0, none⟩ = some (.int .i64 (f : Nat)) := h.cell 0
  have x3 : w.cell? ⟨L, 3, none⟩ = some (.map (some M)) := h.cell 3
  have hl := hM.look1 kU Try.underlying67 (zSlot w) (keyU seq hs)
  rw [hX] at hl
  simp only [Option.getD_none] at hl
  have HH : Hid (LC w L f low view M ∧ MF w 30 M n F ∧ F (.int .u64 (seq : Nat)) = none) := ⟨h, hM, hX⟩
  clear h hM hX
  have CN := newRound_any w f h1 h4
  go_enter Try.func50, Try.ntmps50
  go_wp2_with (first
    | (go_at_call 56; refine CN.mono ?_; rintro e w1 ⟨p, q, rfl, hp, hpq, hQ, hR, hB⟩
       have kL := HH.out.1.below hB
       have k3 : ∀ o, (w1.alloc o).cell? ⟨L, 3, none⟩ = some (.map (some M)) := fun o => (LC.below kL ((Below.refl _ w1).alloc (Nat.le_refl _) o)).cell 3
       have kK : Hid (w.heap.size < p ∧ p < q ∧ QS w1 p f noVotes ∧ QS w1 q f noVotes ∧ Below w.heap.size w w1) := ⟨hp, hpq, hQ, hR, hB⟩
       have kM : Hid (∀ o, MF (w1.alloc o) 30 M n F) := fun o => (HH.out.2.1.below hB HH.out.2.1.lt).below ((Below.refl _ w1).alloc (Nat.le_refl _) o) (Nat.lt_of_lt_of_le HH.out.2.1.lt hB.size)
       clear kL hp hpq hQ hR hB)
    | (at_mapUpdate; refine wpList_mapUpdate_F15 (R := fun w4 => ∃ F', MF w4 30 M (n + 1) F' ∧ World.grownBy (w1.alloc (.cells #[.bool false, .string ⟨#[]⟩, .int .u64 0, .slice none 0 0, .slice none 0 0, .pointer (some ⟨p, 0, none⟩), .pointer (some ⟨q, 0, none⟩), .bool false, .int .u64 0, .string ⟨#[]⟩, .slice none 0 0] 87)) w4 (some M) ∧ F' (.int .u64 (seq : Nat)) = some (.pointer (some ⟨w1.heap.size, 0, none⟩)) ∧ (∀ y, y ≠ .int .u64 (seq : Nat) → F' y = F y)) rfl rfl rfl rfl rfl (by
          obtain ⟨w4, F', n', r1, r2, r3, r4, r5, r6, r7⟩ := (kM.out _).update kU Try.underlying67 hn (key := .int .u64 (seq : Nat)) (val := .pointer (some ⟨w1.heap.size, 0, none⟩)) (keyU seq hs)
          obtain rfl := r6 HH.out.2.2
          exact ⟨w4, r1, F', r2, r3, r4, r5⟩) ?_; rintro w4 ⟨F', M4, G4, q1, q2⟩; go_frame))
  go_ret
  obtain ⟨c1, c2, c3, c4, c5⟩ := kK.out
  have lM := HH.out.2.1.lt
  have lq := c4.lt
  have lp := c3.lt
  have BA : Below w1.heap.size w1 (w1.alloc (.cells #[.bool false, .string ⟨#[]⟩, .int .u64 0, .slice none 0 0, .slice none 0 0, .pointer (some ⟨p, 0, none⟩), .pointer (some ⟨q, 0, none⟩), .bool false, .int .u64 0, .string ⟨#[]⟩, .slice none 0 0] 87)) := (Below.refl _ w1).alloc (Nat.le_refl _) _
  have sz := BA.size
  have AX : Arr (w1.alloc (.cells #[.bool false, .string ⟨#[]⟩, .int .u64 0, .slice none 0 0, .slice none 0 0, .pointer (some ⟨p, 0, none⟩), .pointer (some ⟨q, 0, none⟩), .bool false, .int .u64 0, .string ⟨#[]⟩, .slice none 0 0] 87)) w1.heap.size 87 ([.bool false, .string ⟨#[]⟩, .int .u64 0, .slice none 0 0, .slice none 0 0, .pointer (some ⟨p, 0, none⟩), .pointer (some ⟨q, 0, none⟩)] ++ [.bool false, .int .u64 0, .string ⟨#[]⟩, .slice none 0 0]) := heap_alloc_new w1 _
  have nM : ∀ k : Nat, w.heap.size < k → some k ≠ some M := fun k hk g => by
    have := Option.some.inj g
    omega
  refine ⟨w1.heap.size, p, q, F', rfl, c1, c2, lq, (c3.below BA).keep (G4.block p (by omega) (nM p c1)), (c4.below BA).keep (G4.block q (by omega) (nM q (by omega))), AX.grown G4 (nM _ (by omega)), M4, q1, q2, ?_⟩
  exact (bel_grown (c5.trans (BA.mono c5.size)) (some M)).trans G4
structure CT where
  view : Nat
  sum : ByteArray
  texts : List SV
structure ST where
  has : Bool
  sum : ByteArray
  pre : SV
  pv : List VT
  cv : List VT
  cert : Option CT
def newST : ST := ⟨false, ⟨#[]⟩, ⟨0, [], []⟩, noVotes, noVotes, none⟩
def cvw (c : Option CT) : Nat := match c with | none => 0 | some c => c.view
def csm (c : Option CT) : ByteArray := match c with | none => ⟨#[]⟩ | some c => c.sum
def ctx (c : Option CT) : List SV := match c with | none => [] | some c => c.texts
def prepS (f : Nat) (x : ST) : Bool := x.has && decide (2 * f ≤ cntV x.sum x.pv)
def certIn (v : Nat) (x : ST) : Bool := x.cert.isSome && decide (cvw x.cert = v)
def certS (f v : Nat) (x : ST) : ST := if (certIn v x || !prepS f x) = true then x else { x with cert := some ⟨v, x.sum, x.pre :: (prfV x.sum 0 x.pv).take (2 * f)⟩ }
structure GT where
  f : Nat
  low : Nat
  view : Nat
  s : Nat → Option ST
def GT.slot (g : GT) (k : Nat) : ST := (g.s k).getD newST
def GT.put (g : GT) (k : Nat) (x : ST) : GT := { g with s := fun j => if j = k then some x else g.s j }
theorem GT.put_same (g : GT) (k : Nat) (x : ST) : (g.put k x).s k = some x := if_pos rfl
theorem GT.put_other (g : GT) (k : Nat) (x : ST) {j : Nat} (h : j ≠ k) : (g.put k x).s j = g.s j := if_neg h
theorem GT.put_put (g : GT) (k : Nat) (x y : ST) : (g.put k x).put k y = g.put k y := by
  unfold GT.put
  simp only [GT.mk.injEq, true_and]
  funext j
  by_cases h : j = k <;> simp [h]
theorem GT.put_slot (g : GT) (k : Nat) (x : ST) (h : g.s k = some x) : g.put k x = g := by
  unfold GT.put
  cases g
  simp only [GT.mk.injEq, true_and] at h ⊢
  funext j
  by_cases e : j = k
  · rw [if_pos e, e, h]
  · rw [if_neg e]
def preG (g : GT) (sv : SV) (seq : Nat) (sum : ByteArray) : GT × Int :=
  if jdgS g.f g.low sv.fr seq ≠ 0 then (g, jdgS g.f g.low sv.fr seq)
  else if sv.fr ≠ prF g.view g.f then (g, 18)
  else if (g.slot seq).has = true then (g.put seq (g.slot seq), if (g.slot seq).sum = sum then 0 else 18)
  else (g.put seq (certS g.f g.view { g.slot seq with has := true, sum := sum, pre := sv }), 0)
def vtOf (sv : SV) (sum : ByteArray) : VT := ⟨true, sum, strOfNums sv.b, strOfNums sv.tag⟩
def addPv (g : GT) (sv : SV) (seq : Nat) (sum : ByteArray) : List VT × Int := addV g.f (g.slot seq).pv sv.fr (vtOf sv sum)
def addCv (g : GT) (sv : SV) (seq : Nat) (sum : ByteArray) : List VT × Int := addV g.f (g.slot seq).cv sv.fr (vtOf sv sum)
def parG (g : GT) (sv : SV) (seq : Nat) (sum : ByteArray) : GT × Int :=
  if jdgS g.f g.low sv.fr seq ≠ 0 then (g, jdgS g.f g.low sv.fr seq)
  else if sv.fr = prF g.view g.f then (g, 18)
  else if (addPv g sv seq sum).2 ≠ 0 then (g.put seq { g.slot seq with pv := (addPv g sv seq sum).1 }, (addPv g sv seq sum).2)
  else (g.put seq (certS g.f g.view { g.slot seq with pv := (addPv g sv seq sum).1 }), 0)
def comG (g : GT) (sv : SV) (seq : Nat) (sum : ByteArray) : GT × Int :=
  if jdgS g.f g.low sv.fr seq ≠ 0 then (g, jdgS g.f g.low sv.fr seq)
  else (g.put seq { g.slot seq with cv := (addCv g sv seq sum).1 }, (addCv g sv seq sum).2)
def turnS (x : ST) : Option ST := if x.cert.isSome = true then some { newST with cert := x.cert } else none
def entG (g : GT) (v : Nat) : GT × Int :=
  if 4611686018427387903 < v then (g, 14) else if v ≤ g.view then (g, 12) else ({ g with view := v, s := fun k => (g.s k).bind turnS }, 0)
def advG (g : GT) (l : Nat) : GT × Int :=
  if l < g.low ∨ 4611686018427387895 < l then (g, 13) else ({ g with low := l, s := fun k => if k ≤ l then none else g.s k }, 0)
def newG (f : Nat) : GT := ⟨f, 0, 0, fun _ => none⟩
end Go.Proofs.Ytbpbcmbcoffdlaa
namespace Go.Proofs.Ytbpbcmbcoffdlaa
open Go.RowKit
theorem MF.same {w w' : World} {K : TypeId} {b n : Nat} {F : Value → Option Value} (h : MF w K b n F) (e : w'.heap[b]? = w.heap[b]?) : MF w' K b n F := by
  obtain ⟨D, ⟨es, clock, hb, r⟩, h2⟩ := h
  exact ⟨D, ⟨es, clock, e.trans hb, r⟩, h2⟩
structure SB where
  X : Nat
  p : Nat
  q : Nat
  s : SA
  ao : Option Addr
  n : Nat
  cap : Nat
  l : List SA
def SB.rc (b : SB) (x : ST) : List Value := [.bool x.has, .string x.sum, .int .u64 b.s.fr, .slice b.s.b.ao b.s.b.n b.s.b.cap, .slice b.s.tag.ao b.s.tag.n b.s.tag.cap, .pointer (some ⟨b.p, 0, none⟩), .pointer (some ⟨b.q, 0, none⟩)]
def SB.cc (b : SB) (x : ST) : List Value := [.bool x.cert.isSome, .int .u64 (cvw x.cert : Nat), .string (csm x.cert), .slice b.ao b.n b.cap]
def SB.imm (b : SB) (z : Nat) : Prop := b.s.blk z ∨ GLb elS b.ao b.n b.l z
structure SlotAt (w : World) (f : Nat) (b : SB) (x : ST) : Prop where
  mem : SlC w b.X (b.rc x) (b.cc x)
  sok : b.s.ok w
  sv : b.s.v = x.pre
  P : QS w b.p f x.pv
  Q : QS w b.q f x.cv
  L : GL elS w b.ao b.n b.cap b.l
  lv : b.l.map SA.v = ctx x.cert
  sz : x.sum.size ≤ 1000000
  cz : (csm x.cert).size ≤ 1000000
  vz : cvw x.cert < 18446744073709551616
  pz : b.s.b.n ≤ 1000000 ∧ b.s.tag.n ≤ 1000000
  tz : ∀ s ∈ b.l, s.b.n ≤ 1000000 ∧ s.tag.n ≤ 1000000
  ln : b.n ≤ 100
theorem SlotAt.imm_lt {w : World} {f : Nat} {b : SB} {x : ST} (h : SlotAt w f b x) {z : Nat} (hz : b.imm z) : z < w.heap.size :=
  hz.elim (elS_fine.lt _ w z h.sok) (h.L.lt elS_fine)
theorem SlotAt.keep {w w' : World} {f : Nat} {b : SB} {x : ST} (h : SlotAt w f b x) (hX : w'.heap[b.X]? = w.heap[b.X]?) (hp : w'.heap[b.p]? = w.heap[b.p]?) (hq : w'.heap[b.q]? = w.heap[b.q]?) (hi : ∀ z, b.imm z → w'.heap[z]? = w.heap[z]?) : SlotAt w' f b x :=
  { h with
    mem := hX.trans h.mem
    sok := elS_fine.kept b.s w w' h.sok fun z hz => hi z (.inl hz)
    P := h.P.keep hp
    Q := h.Q.keep hq
    L := h.L.kept elS_fine fun z hz => hi z (.inr hz) }
theorem SlotAt.cell {w : World} {f : Nat} {b : SB} {x : ST} (h : SlotAt w f b x) (j : Nat) : w.cell? ⟨b.X, j, none⟩ = (b.rc x ++ b.cc x)[j]? := Arr.cell h.mem j
theorem SlotAt.lt {w : World} {f : Nat} {b : SB} {x : ST} (h : SlotAt w f b x) : b.X < w.heap.size := Arr.lt h.mem
structure LG (w : World) (base L M n : Nat) (g : GT) (F : Value → Option Value) (B : Nat → SB) (ρ : Nat → Nat) : Prop where
  f1 : 1 ≤ g.f
  f4 : g.f ≤ 4
  lowz : g.low ≤ 4611686018427387895
  viewz : g.view ≤ 4611686018427387903
  lc : LC w L g.f g.low g.view M
  mf : MF w 30 M n F
  here : ∀ k x, g.s k = some x → F (.int .u64 (k : Nat)) = some (.pointer (some ⟨(B k).X, 0, none⟩)) ∧ SlotAt w g.f (B k) x
  win : ∀ k x, g.s k = some x → g.low < k ∧ k ≤ g.low + 8
  no : ∀ v, F v ≠ none → ∃ k : Nat, v = .int .u64 (k : Nat) ∧ g.s k ≠ none
  rL : ρ L = 1
  rM : ρ M = 2
  ro : ∀ k x, g.s k = some x → ρ (B k).X = 3 * k + 4 ∧ ρ (B k).p = 3 * k + 5 ∧ ρ (B k).q = 3 * k + 6 ∧ ∀ z, (B k).imm z → ρ z = 0
  lo : ∀ z, z < base → ρ z = 0
structure Stp (base : Nat) (w w' : World) (ρ ρ' : Nat → Nat) : Prop where
  bel : Below base w w'
  role : ∀ z, z < w.heap.size → ρ' z = ρ z
  keep : ∀ z, z < w.heap.size → ρ z = 0 ∨ ρ z = 3 → w'.heap[z]? = w.heap[z]?
theorem Stp.refl (base : Nat) (w : World) (ρ : Nat → Nat) : Stp base w w ρ ρ := ⟨Below.refl _ _, fun _ _ => rfl, fun _ _ _ => rfl⟩
theorem Stp.trans {base : Nat} {w w1 w2 : World} {ρ ρ1 ρ2 : Nat → Nat} (h : Stp base w w1 ρ ρ1) (k : Stp base w1 w2 ρ1 ρ2) : Stp base w w2 ρ ρ2 :=
  ⟨h.bel.trans k.bel, fun z hz => (k.role z (Nat.lt_of_lt_of_le hz h.bel.size)).trans (h.role z hz), fun z hz h0 => (k.keep z (Nat.lt_of_lt_of_le hz h.bel.size) (by rw [h.role z hz]; exact h0)).trans (h.keep z hz h0)⟩
theorem Stp.sl {base : Nat} {w w' : World} {ρ ρ' : Nat → Nat} (h : Stp base w w' ρ ρ') {ao : Option Addr} {n cap : Nat} {xs : List Int} (S : Sl w ao n cap xs) (hr : ∀ z, sblk ao n z → ρ z = 0) : Sl w' ao n cap xs ∧ ∀ z, sblk ao n z → ρ' z = 0 := by
  have lt : ∀ z, sblk ao n z → z < w.heap.size := fun z hz => Sl.blk_lt (b := ⟨ao, n, cap, xs⟩) S hz
  exact ⟨Sl.kept (b := ⟨ao, n, cap, xs⟩) S fun z hz => h.keep z (lt z hz) (.inl (hr z hz)), fun z hz => (h.role z (lt z hz)).trans (hr z hz)⟩
theorem Stp.sa {base : Nat} {w w' : World} {ρ ρ' : Nat → Nat} (h : Stp base w w' ρ ρ') {s : SA} (S : s.ok w) (hr : ∀ z, s.blk z → ρ z = 0) : s.ok w' ∧ ∀ z, s.blk z → ρ' z = 0 :=
  ⟨elS_fine.kept s w w' S fun z hz => h.keep z (elS_fine.lt s w z S hz) (.inl (hr z hz)), fun z hz => (h.role z (elS_fine.lt s w z S hz)).trans (hr z hz)⟩
section
variable {w w' : World} {base L M n : Nat} {g : GT} {F : Value → Option Value} {B : Nat → SB} {ρ : Nat → Nat}
theorem LG.Llt (h : LG w base L M n g F B ρ) : L < w.heap.size := h.lc.lt
theorem LG.baseL (h : LG w base L M n g F B ρ) : base ≤ L := by
  refine Nat.le_of_not_lt fun hl => ?_
  have := h.lo L hl
  rw [h.rL] at this
  cases this
theorem LG.base_of (h : LG w base L M n g F B ρ) {z : Nat} (hz : ρ z ≠ 0) : base ≤ z := Nat.le_of_not_lt fun hl => hz (h.lo z hl)
theorem LG.step (h : LG w base L M n g F B ρ) {n' : Nat} {F' : Value → Option Value} {b' : SB} {x' : ST} {ρ' : Nat → Nat} (k : Nat) (hlow : g.low < k ∧ k ≤ g.low + 8)
    (hρ : ∀ z, z < w.heap.size → ρ' z = ρ z)
    (hk : ∀ z, z < w.heap.size → ρ z ≠ 2 → ρ z ≠ 3 * k + 4 → ρ z ≠ 3 * k + 5 → ρ z ≠ 3 * k + 6 → w'.heap[z]? = w.heap[z]?)
    (mf' : MF w' 30 M n' F') (hF : F' (.int .u64 (k : Nat)) = some (.pointer (some ⟨b'.X, 0, none⟩))) (hF2 : ∀ y, y ≠ .int .u64 (k : Nat) → F' y = F y)
    (sl : SlotAt w' g.f b' x') (rX : ρ' b'.X = 3 * k + 4) (rp : ρ' b'.p = 3 * k + 5) (rq : ρ' b'.q = 3 * k + 6) (ri : ∀ z, b'.imm z → ρ' z = 0) :
    LG w' base L M n' (g.put k x') F' (fun j => if j = k then b' else B j) ρ' := by
  have hb : base ≤ w.heap.size := Nat.le_trans h.baseL (Nat.le_of_lt h.Llt)
  refine { f1 := h.f1, f4 := h.f4, lowz := h.lowz, viewz := h.viewz, lc := ?_, mf := mf', here := fun j y hy => ?_, win := fun j y hy => ?_, no := fun v hv => ?_, rL := (hρ L h.Llt).trans h.rL, rM := (hρ M h.mf.lt).trans h.rM, ro := fun j y hy => ?_, lo := fun z hz => (hρ z (Nat.lt_of_lt_of_le hz hb)).trans (h.lo z hz) }
  · exact (hk L h.Llt (by rw [h.rL]; omega) (by rw [h.rL]; omega) (by rw [h.rL]; omega) (by rw [h.rL]; omega)).trans h.lc
  · by_cases e : j = k
    · subst e
      rw [g.put_same] at hy
      obtain rfl := Option.some.inj hy
      rw [if_pos rfl]
      exact ⟨hF, sl⟩
    · rw [g.put_other _ _ e] at hy
      rw [if_neg e]
      obtain ⟨h1, h2⟩ := h.here j y hy
      obtain ⟨r1, r2, r3, r4⟩ := h.ro j y hy
      refine ⟨(hF2 _ fun q => e ?_).trans h1, h2.keep (hk _ h2.lt ?_ ?_ ?_ ?_) (hk _ h2.P.lt ?_ ?_ ?_ ?_) (hk _ h2.Q.lt ?_ ?_ ?_ ?_) fun z hz => hk z (h2.imm_lt hz) ?_ ?_ ?_ ?_⟩
      · simp only [Value.int.injEq, true_and] at q
        omega
      all_goals first | (rw [r1]; omega) | (rw [r2]; omega) | (rw [r3]; omega) | (rw [r4 z hz]; omega)
  · by_cases e : j = k
    · rw [e]
      exact hlow
    · rw [g.put_other _ _ e] at hy
      exact h.win j y hy
  · by_cases e : v = .int .u64 (k : Nat)
    · exact ⟨k, e, by rw [g.put_same]; simp⟩
    · rw [hF2 v e] at hv
      obtain ⟨j, rfl, hj⟩ := h.no v hv
      exact ⟨j, rfl, by rw [g.put_other _ _ (fun q => e (by rw [q]))]; exact hj⟩
  · by_cases e : j = k
    · subst e
      rw [if_pos rfl]
      exact ⟨rX, rp, rq, ri⟩
    · rw [g.put_other _ _ e] at hy
      rw [if_neg e]
      obtain ⟨h1, h2⟩ := h.here j y hy
      obtain ⟨r1, r2, r3, r4⟩ := h.ro j y hy
      exact ⟨(hρ _ h2.lt).trans r1, (hρ _ h2.P.lt).trans r2, (hρ _ h2.Q.lt).trans r3, fun z hz => (hρ z (h2.imm_lt hz)).trans (r4 z hz)⟩
def rho (w : World) (ρ : Nat → Nat) (z : Nat) : Nat := if z < w.heap.size then ρ z else 0
theorem rho_old {z : Nat} (hz : z < w.heap.size) : rho w ρ z = ρ z := if_pos hz
theorem rho_new {z : Nat} (hz : w.heap.size ≤ z) : rho w ρ z = 0 := if_neg (by omega)
theorem LG.below (h : LG w base L M n g F B ρ) (hb : Below w.heap.size w w') : LG w' base L M n g F B (rho w ρ) ∧ Stp base w w' ρ (rho w ρ) := by
  have hbs : base ≤ w.heap.size := Nat.le_trans h.baseL (Nat.le_of_lt h.Llt)
  refine ⟨{ h with lc := h.lc.below hb, mf := h.mf.same (hb.block M h.mf.lt), here := fun j y hy => ?_, rL := (rho_old h.Llt).trans h.rL, rM := (rho_old h.mf.lt).trans h.rM, ro := fun j y hy => ?_, lo := fun z hz => (rho_old (Nat.lt_of_lt_of_le hz hbs)).trans (h.lo z hz) }, ⟨hb.mono hbs, fun z hz => rho_old hz, fun z hz _ => hb.block z hz⟩⟩
  · obtain ⟨h1, h2⟩ := h.here j y hy
    exact ⟨h1, h2.keep (hb.block _ h2.lt) (hb.block _ h2.P.lt) (hb.block _ h2.Q.lt) fun z hz => hb.block z (h2.imm_lt hz)⟩
  · obtain ⟨h1, h2⟩ := h.here j y hy
    obtain ⟨r1, r2, r3, r4⟩ := h.ro j y hy
    exact ⟨(rho_old h2.lt).trans r1, (rho_old h2.P.lt).trans r2, (rho_old h2.Q.lt).trans r3, fun z hz => (rho_old (h2.imm_lt hz)).trans (r4 z hz)⟩
end
end Go.Proofs.Ytbpbcmbcoffdlaa
namespace Go.Proofs.Ytbpbcmbcoffdlaa
open Go.RowKit
theorem newST_at {w : World} {f X p q : Nat} (hX : SlC w X [.bool false, .string ⟨#[]⟩, .int .u64 0, .slice none 0 0, .slice none 0 0, .pointer (some ⟨p, 0, none⟩), .pointer (some ⟨q, 0, none⟩)] [.bool false, .int .u64 0, .string ⟨#[]⟩, .slice none 0 0])
    (hp : QS w p f noVotes) (hq : QS w q f noVotes) : SlotAt w f ⟨X, p, q, ⟨0, ⟨none, 0, 0, []⟩, ⟨none, 0, 0, []⟩⟩, none, 0, 0, []⟩ newST where
  mem := hX
  sok := ⟨by show 0 < _; omega, Sl.nothing w, Sl.nothing w⟩
  sv := rfl
  P := hp
  Q := hq
  L := GL.nothing _ _
  lv := rfl
  sz := Nat.zero_le _
  cz := Nat.zero_le _
  vz := by show 0 < _; omega
  pz := ⟨Nat.zero_le _, Nat.zero_le _⟩
  tz := fun _ h => absurd h List.not_mem_nil
  ln := Nat.zero_le _
theorem imm_none {X p q z : Nat} : ¬ SB.imm ⟨X, p, q, ⟨0, ⟨none, 0, 0, []⟩, ⟨none, 0, 0, []⟩⟩, none, 0, 0, []⟩ z := by
  rintro ((⟨a, h, _⟩ | ⟨a, h, _⟩) | (⟨a, h, _⟩ | ⟨x, h, _⟩))
  · cases h
  · cases h
  · cases h
  · cases h
theorem LG.none_at {w : World} {base L M n : Nat} {g : GT} {F : Value → Option Value} {B : Nat → SB} {ρ : Nat → Nat} (h : LG w base L M n g F B ρ) {k : Nat} (hk : g.s k = none) : F (.int .u64 (k : Nat)) = none := by
  cases hf : F (.int .u64 (k : Nat)) with
  | none => rfl
  | some v =>
    obtain ⟨j, e, hj⟩ := h.no _ (by rw [hf]; simp)
    simp only [Value.int.injEq, true_and] at e
    obtain rfl : j = k := by omega
    exact absurd hk hj
def SlotPost (w : World) (base L M n : Nat) (g : GT) (ρ : Nat → Nat) (seq : Nat) (e : Ending) (w' : World) : Prop :=
  ∃ n' F' B' ρ', e = .returned (.pointer (some ⟨(B' seq).X, 0, none⟩)) ∧ LG w' base L M n' (g.put seq (g.slot seq)) F' B' ρ' ∧ Stp base w w' ρ ρ' ∧ n' ≤ n + 1
theorem slot_any (w : World) (base L M n : Nat) (g : GT) (F : Value → Option Value) (B : Nat → SB) (ρ : Nat → Nat) (h : LG w base L M n g F B ρ) (hn : n < maxLen) (seq : Nat) (hs : g.low < seq ∧ seq ≤ g.low + 8) :
    Calls Try.prog 50 #[.pointer (some ⟨L, 0, none⟩), .int .u64 (seq : Nat)] w (SlotPost w base L M n g ρ seq) := by
  have lz := h.lowz
  cases hx : g.s seq with
  | some x =>
    obtain ⟨h1, h2⟩ := h.here seq x hx
    refine (slot_there w L g.f g.low g.view M n seq _ F h.lc h.mf (by omega) h1).mono ?_
    rintro e w' ⟨rfl, rfl⟩
    refine ⟨n, F, B, ρ, rfl, ?_, Stp.refl _ _ _, by omega⟩
    have : g.slot seq = x := by unfold GT.slot; rw [hx]; rfl
    rw [this, g.put_slot seq x hx]
    exact h
  | none =>
    refine (slot_none w L g.f g.low g.view M n seq F h.lc h.f1 h.f4 h.mf hn (by omega) (h.none_at hx)).mono ?_
    rintro e w' ⟨X, p, q, F', rfl, hp, hpq, hqX, Q1, Q2, hX, hM, hF, hF2, hG⟩
    have hsz : g.slot seq = newST := by unfold GT.slot; rw [hx]; rfl
    have hb : base ≤ w.heap.size := Nat.le_trans h.baseL (Nat.le_of_lt h.Llt)
    have hML : base ≤ M := h.base_of (by rw [h.rM]; decide)
    have a1 : X ≠ p := by omega
    have a2 : X ≠ q := by omega
    have a3 : p ≠ q := by omega
    refine ⟨n + 1, F', _, fun z => if z < w.heap.size then ρ z else if z = X then 3 * seq + 4 else if z = p then 3 * seq + 5 else if z = q then 3 * seq + 6 else 0, ?_, h.step (b' := ⟨X, p, q, ⟨0, ⟨none, 0, 0, []⟩, ⟨none, 0, 0, []⟩⟩, none, 0, 0, []⟩) seq hs (fun z hz => if_pos hz) (fun z hz r2 _ _ _ => hG.block z hz fun e => r2 ?_) hM hF hF2 ?_ ?_ ?_ ?_ fun z hz => absurd hz imm_none, ⟨⟨hG.os, hG.tape, hG.output, hG.size, fun z hz => hG.block z (by omega) fun e => ?_⟩, fun z hz => if_pos hz, fun z hz h0 => hG.block z hz fun e => ?_⟩, Nat.le_refl _⟩
    · simp only [if_true]
    · obtain rfl := Option.some.inj e
      exact h.rM
    · rw [hsz]
      exact newST_at hX Q1 Q2
    · show (if X < w.heap.size then _ else _) = _
      rw [if_neg (by omega), if_pos rfl]
    · show (if p < w.heap.size then _ else _) = _
      rw [if_neg (by omega), if_neg (fun e => a1 e.symm), if_pos rfl]
    · show (if q < w.heap.size then _ else _) = _
      rw [if_neg (by omega), if_neg (fun e => a2 e.symm), if_neg (fun e => a3 e.symm), if_pos rfl]
    · have := Option.some.inj e
      omega
    · obtain rfl := Option.some.inj e
      rw [h.rM] at h0
      omega
end Go.Proofs.Ytbpbcmbcoffdlaa
namespace Go
section
variable {P : Program} {ops : Array Oper} {S : World → Prop} {Q : Exit → Act → World → Prop} {fuel : Nat} {listed : Array Bool} {a : Act} {w : World}
theorem hr_two {i j : Nat} (hr : Region.ready .any ops listed = [i, j]) (h1 : wpOp P ops (NoPanic Q) i (fun a' w' => S w' ∧ wpAnyH P .any ops (NoPanic Q) S fuel (listed.setIfInBounds i true) a' w') a w)
    (h2 : wpOp P ops (NoPanic Q) j (fun a' w' => S w' ∧ wpAnyH P .any ops (NoPanic Q) S fuel (listed.setIfInBounds j true) a' w') a w) : wpAnyH P .any ops (NoPanic Q) S (fuel + 1) listed a w := by
  refine wpAnyH_all hr (by simp) fun k hk => ?_
  simp only [List.mem_cons, List.not_mem_nil, or_false] at hk
  rcases hk with rfl | rfl
  · exact h1
  · exact h2
end
end Go
namespace Go.Proofs.Ytbpbcmbcoffdlaa
open Go.RowKit
theorem str_sb (s : ByteArray) : strOfNums (sb s) = s := sb_inj (sb_str (sb_byte s))
theorem count_sb (w : World) (p f : Nat) (l : List VT) (h : QS w p f l) (ao : Option Addr) (n cap : Nat) (s : ByteArray) (S : Sl w ao n cap (sb s)) : Calls Try.prog 45 #[.pointer (some ⟨p, 0, none⟩), .slice ao n cap] w fun x w' =>
    x = .returned (.int .i64 (cntV s l : Nat)) ∧ Below w.heap.size w w' := by
  have := count_any w p f l h ao n cap (sb s) S
  rw [str_sb] at this
  exact this
theorem certIn_any (w : World) (f : Nat) (b : SB) (x : ST) (h : SlotAt w f b x) (view : Nat) :
    Calls Try.prog 73 #[.pointer (some ⟨b.X, 0, none⟩), .int .u64 (view : Nat)] w fun e w' => e = .returned (.bool (certIn view x)) ∧ w' = w := by
  have x7 : w.cell? ⟨b.X, 7, none⟩ = some (.bool x.cert.isSome) := h.cell 7
  have x8 : w.cell? ⟨b.X, 8, none⟩ = some (.int .u64 (cvw x.cert : Nat)) := h.cell 8
  have hz := h.vz
  unfold certIn
  clear h
  cases hc : x.cert.isSome with
  | false =>
    rw [hc] at x7
    rw [Bool.false_and]
    go_enter Try.func73, Try.ntmps73
    go_wp2
    go_ret
    exact ⟨rfl, rfl⟩
  | true =>
    rw [hc] at x7
    rw [Bool.true_and]
    by_cases e : cvw x.cert = view
    · have t : ((cvw x.cert : Int) == (view : Int)) = true := by simp; omega
      rw [decide_eq_true e]
      clear e
      go_enter Try.func73, Try.ntmps73
      go_wp2
      go_ret
      exact ⟨rfl, rfl⟩
    · have t : ((cvw x.cert : Int) == (view : Int)) = false := by simp; omega
      rw [decide_eq_false e]
      clear e
      go_enter Try.func73, Try.ntmps73
      go_wp2
      go_ret
      exact ⟨rfl, rfl⟩
set_option maxRecDepth 100000 in
set_option maxHeartbeats 4000000 in
theorem isPrep_any (w : World) (L f low view M : Nat) (hL : LC w L f low view M) (f4 : f ≤ 4) (b : SB) (x : ST) (h : SlotAt w f b x) :
    Calls Try.prog 44 #[.pointer (some ⟨L, 0, none⟩), .pointer (some ⟨b.X, 0, none⟩)] w fun e w' => e = .returned (.bool (prepS f x)) ∧ Below w.heap.size w w' := by
  have HS0 : Hid (∀ V, Below w.heap.size w V → V.cell? ⟨b.X, 0, none⟩ = some (.bool x.has) ∧ V.cell? ⟨b.X, 1, none⟩ = some (.string x.sum) ∧ V.cell? ⟨b.X, 5, none⟩ = some (.pointer (some ⟨b.p, 0, none⟩)) ∧ V.cell? ⟨L, 0, none⟩ = some (.int .i64 (f : Nat))) := fun V hV => by
    have A := Arr.below h.mem hV h.lt
    exact ⟨A.cell 0, A.cell 1, A.cell 5, (hL.below hV).cell 0⟩
  have HQ : Hid (∀ V, Below w.heap.size w V → QS V b.p f x.pv) := fun V hV => h.P.below hV
  have HZ : Hid (x.sum.size ≤ 1000000) := h.sz
  have HF : Hid (∀ c : Bool, x.has = c → prepS f x = (c && decide (2 * f ≤ cntV x.sum x.pv))) := fun c e => by unfold prepS; rw [e]
  have mw : IntKind.i64.wrap (2 * (f : Int)) = 2 * (f : Int) := by rw [IntKind.wrap_i64]; omega
  clear h hL
  cases hh : x.has with
  | false =>
    rw [HF.out _ hh, Bool.false_and]
    rw [hh] at HS0
    clear HF
    go_enter Try.func44, Try.ntmps44
    go_wp2_with fail
    have tHS : Hid (∀ V, Below w.heap.size w V → V.cell? ⟨b.X, 0, none⟩ = some (.bool false) ∧ V.cell? ⟨b.X, 1, none⟩ = some (.string x.sum) ∧ V.cell? ⟨b.X, 5, none⟩ = some (.pointer (some ⟨b.p, 0, none⟩)) ∧ V.cell? ⟨L, 0, none⟩ = some (.int .i64 (f : Nat))) := fun V hV => ⟨(HS0.out V hV).1, (HS0.out V hV).2.1, (HS0.out V hV).2.2.1, (HS0.out V hV).2.2.2⟩
    have tE0 : Below w.heap.size w w.drew := (Below.refl _ _).drew
    refine wp_region_noPanic ?_
    refine wp_region_held_drew (S := fun V => V.cell? ⟨b.X, 0, none⟩ = some (.bool false) ∧ V.cell? ⟨b.X, 1, none⟩ = some (.string x.sum) ∧ V.cell? ⟨b.X, 5, none⟩ = some (.pointer (some ⟨b.p, 0, none⟩)) ∧ V.cell? ⟨L, 0, none⟩ = some (.int .i64 (f : Nat))) (by kernel_rfl) (tHS.out _ tE0) (fun tH0 => ?_)
    obtain ⟨tv0, hv0⟩ : ∃ v, v = w.drew := ⟨_, rfl⟩
    rw [← hv0] at tH0 tE0 ⊢
    clear hv0
    refine hr_take_w 0 (some 5) (.pointer (some ⟨b.X, 0, none⟩)) rfl rfl (by kernel_rfl) (by kernel_rfl) (by kernel_rfl) rfl (fun W hW => by obtain ⟨h0, h1, h2, h3⟩ := hW; go_simp) tH0 ?_
    simp only [FL]
    refine hr_take_w 1 (some 6) (.pointer (some ⟨b.X, 0, none⟩)) rfl rfl (by kernel_rfl) (by kernel_rfl) (by kernel_rfl) rfl (fun W hW => by obtain ⟨h0, h1, h2, h3⟩ := hW; go_simp) tH0 ?_
    simp only [FL]
    refine hr_take_w 2 (some 7) (.pointer (some ⟨b.X, 0, none⟩)) rfl rfl (by kernel_rfl) (by kernel_rfl) (by kernel_rfl) rfl (fun W hW => by obtain ⟨h0, h1, h2, h3⟩ := hW; go_simp) tH0 ?_
    simp only [FL]
    refine hr_take_w 3 (some 8) (.pointer (some ⟨b.X, 0, none⟩)) rfl rfl (by kernel_rfl) (by kernel_rfl) (by kernel_rfl) rfl (fun W hW => by obtain ⟨h0, h1, h2, h3⟩ := hW; go_simp) tH0 ?_
    simp only [FL]
    refine hr_take_w 4 (some 9) (.bool false) rfl rfl (by kernel_rfl) (by kernel_rfl) (by kernel_rfl) rfl (fun W hW => by obtain ⟨h0, h1, h2, h3⟩ := hW; go_simp) tH0 ?_
    simp only [FL]
    refine hr_take_w 5 (some 10) (.bool false) rfl rfl (by kernel_rfl) (by kernel_rfl) (by kernel_rfl) rfl (fun W hW => by obtain ⟨h0, h1, h2, h3⟩ := hW; go_simp) tH0 ?_
    simp only [FL]
    refine hr_none 6 (some 11) rfl rfl (by kernel_rfl) (by kernel_rfl) (by kernel_rfl) rfl tH0 ?_
    simp only [FL]
    refine hr_none 7 (some 12) rfl rfl (by kernel_rfl) (by kernel_rfl) (by kernel_rfl) rfl tH0 ?_
    simp only [FL]
    refine hr_none 8 (some 13) rfl rfl (by kernel_rfl) (by kernel_rfl) (by kernel_rfl) rfl tH0 ?_
    simp only [FL]
    refine hr_none 9 (some 14) rfl rfl (by kernel_rfl) (by kernel_rfl) (by kernel_rfl) rfl tH0 ?_
    simp only [FL]
    refine hr_none 10 (some 15) rfl rfl (by kernel_rfl) (by kernel_rfl) (by kernel_rfl) rfl tH0 ?_
    simp only [FL]
    refine hr_none 11 (some 16) rfl rfl (by kernel_rfl) (by kernel_rfl) (by kernel_rfl) rfl tH0 ?_
    simp only [FL]
    refine hr_none 12 (some 17) rfl rfl (by kernel_rfl) (by kernel_rfl) (by kernel_rfl) rfl tH0 ?_
    simp only [FL]
    refine hr_none 13 (some 18) rfl rfl (by kernel_rfl) (by kernel_rfl) (by kernel_rfl) rfl tH0 ?_
    simp only [FL]
    refine hr_none 14 (some 19) rfl rfl (by kernel_rfl) (by kernel_rfl) (by kernel_rfl) rfl tH0 ?_
    simp only [FL]
    refine hr_none 15 (some 20) rfl rfl (by kernel_rfl) (by kernel_rfl) (by kernel_rfl) rfl tH0 ?_
    simp only [FL]
    refine hr_none 16 (some 21) rfl rfl (by kernel_rfl) (by kernel_rfl) (by kernel_rfl) rfl tH0 ?_
    simp only [FL]
    refine hr_none 17 (some 22) rfl rfl (by kernel_rfl) (by kernel_rfl) (by kernel_rfl) rfl tH0 ?_
    simp only [FL]
    refine hr_none 18 (some 23) rfl rfl (by kernel_rfl) (by kernel_rfl) (by kernel_rfl) rfl tH0 ?_
    simp only [FL]
    refine hr_none 19 (some 24) rfl rfl (by kernel_rfl) (by kernel_rfl) (by kernel_rfl) rfl tH0 ?_
    simp only [FL]
    refine hr_none 20 (some 25) rfl rfl (by kernel_rfl) (by kernel_rfl) (by kernel_rfl) rfl tH0 ?_
    simp only [FL]
    refine hr_none 21 (some 26) rfl rfl (by kernel_rfl) (by kernel_rfl) (by kernel_rfl) rfl tH0 ?_
    simp only [FL]
    refine hr_none 22 (some 27) rfl rfl (by kernel_rfl) (by kernel_rfl) (by kernel_rfl) rfl tH0 ?_
    simp only [FL]
    refine hr_none 23 (some 28) rfl rfl (by kernel_rfl) (by kernel_rfl) (by kernel_rfl) rfl tH0 ?_
    simp only [FL]
    refine hr_take_w 24 (some 29) (.bool false) rfl rfl (by kernel_rfl) (by kernel_rfl) (by kernel_rfl) rfl (fun W hW => by obtain ⟨h0, h1, h2, h3⟩ := hW; go_simp) tH0 ?_
    simp only [FL]
    refine hr_take_w 25 (some 4) (.bool false) rfl rfl (by kernel_rfl) (by kernel_rfl) (by kernel_rfl) rfl (fun W hW => by obtain ⟨h0, h1, h2, h3⟩ := hW; go_simp) tH0 ?_
    simp only [FL]
    refine wpAnyH_done (by kernel_rfl) ?_ _
    refine NoPanic.normal ?_
    go_wp2
    go_ret
    exact ⟨rfl, tE0⟩
  | true =>
    rw [HF.out _ hh, Bool.true_and]
    rw [hh] at HS0
    clear HF
    by_cases c2 : 2 * f ≤ cntV x.sum x.pv
    · have i2 : 2 * (f : Int) ≤ (cntV x.sum x.pv : Int) := by omega
      have d2 : decide (2 * (f : Int) ≤ (cntV x.sum x.pv : Int)) = true := decide_eq_true i2
      rw [decide_eq_true c2]
      go_enter Try.func44, Try.ntmps44
      go_wp2_with fail
      have tHS : Hid (∀ V, Below w.heap.size w V → V.cell? ⟨b.X, 0, none⟩ = some (.bool true) ∧ V.cell? ⟨b.X, 1, none⟩ = some (.string x.sum) ∧ V.cell? ⟨b.X, 5, none⟩ = some (.pointer (some ⟨b.p, 0, none⟩)) ∧ V.cell? ⟨L, 0, none⟩ = some (.int .i64 (f : Nat))) := fun V hV => ⟨(HS0.out V hV).1, (HS0.out V hV).2.1, (HS0.out V hV).2.2.1, (HS0.out V hV).2.2.2⟩
      have tE0 : Below w.heap.size w w.drew := (Below.refl _ _).drew
      refine wp_region_noPanic ?_
      refine wp_region_held_drew (S := fun V => V.cell? ⟨b.X, 0, none⟩ = some (.bool true) ∧ V.cell? ⟨b.X, 1, none⟩ = some (.string x.sum) ∧ V.cell? ⟨b.X, 5, none⟩ = some (.pointer (some ⟨b.p, 0, none⟩)) ∧ V.cell? ⟨L, 0, none⟩ = some (.int .i64 (f : Nat))) (by kernel_rfl) (tHS.out _ tE0) (fun tH0 => ?_)
      obtain ⟨tv0, hv0⟩ : ∃ v, v = w.drew := ⟨_, rfl⟩
      rw [← hv0] at tH0 tE0 ⊢
      clear hv0
      refine hr_take_w 0 (some 5) (.pointer (some ⟨b.X, 0, none⟩)) rfl rfl (by kernel_rfl) (by kernel_rfl) (by kernel_rfl) rfl (fun W hW => by obtain ⟨h0, h1, h2, h3⟩ := hW; go_simp) tH0 ?_
      simp only [FL]
      refine hr_take_w 1 (some 6) (.pointer (some ⟨b.X, 0, none⟩)) rfl rfl (by kernel_rfl) (by kernel_rfl) (by kernel_rfl) rfl (fun W hW => by obtain ⟨h0, h1, h2, h3⟩ := hW; go_simp) tH0 ?_
      simp only [FL]
      refine hr_take_w 2 (some 7) (.pointer (some ⟨b.X, 0, none⟩)) rfl rfl (by kernel_rfl) (by kernel_rfl) (by kernel_rfl) rfl (fun W hW => by obtain ⟨h0, h1, h2, h3⟩ := hW; go_simp) tH0 ?_
      simp only [FL]
      refine hr_take_w 3 (some 8) (.pointer (some ⟨b.X, 0, none⟩)) rfl rfl (by kernel_rfl) (by kernel_rfl) (by kernel_rfl) rfl (fun W hW => by obtain ⟨h0, h1, h2, h3⟩ := hW; go_simp) tH0 ?_
      simp only [FL]
      refine hr_take_w 4 (some 9) (.bool true) rfl rfl (by kernel_rfl) (by kernel_rfl) (by kernel_rfl) rfl (fun W hW => by obtain ⟨h0, h1, h2, h3⟩ := hW; go_simp) tH0 ?_
      simp only [FL]
      refine hr_take_w 5 (some 10) (.bool true) rfl rfl (by kernel_rfl) (by kernel_rfl) (by kernel_rfl) rfl (fun W hW => by obtain ⟨h0, h1, h2, h3⟩ := hW; go_simp) tH0 ?_
      simp only [FL]
      refine hr_take_w 6 (some 11) (.pointer (some ⟨b.X, 0, none⟩)) rfl rfl (by kernel_rfl) (by kernel_rfl) (by kernel_rfl) rfl (fun W hW => by obtain ⟨h0, h1, h2, h3⟩ := hW; go_simp) tH0 ?_
      simp only [FL]
      refine hr_take_w 7 (some 12) (.pointer (some ⟨b.X, 0, none⟩)) rfl rfl (by kernel_rfl) (by kernel_rfl) (by kernel_rfl) rfl (fun W hW => by obtain ⟨h0, h1, h2, h3⟩ := hW; go_simp) tH0 ?_
      simp only [FL]
      refine hr_take_w 8 (some 13) (.pointer (some ⟨b.X, 0, none⟩)) rfl rfl (by kernel_rfl) (by kernel_rfl) (by kernel_rfl) rfl (fun W hW => by obtain ⟨h0, h1, h2, h3⟩ := hW; go_simp) tH0 ?_
      simp only [FL]
      refine hr_take_w 9 (some 14) (.pointer (some ⟨b.X, 5, none⟩)) rfl rfl (by kernel_rfl) (by kernel_rfl) (by kernel_rfl) rfl (fun W hW => by obtain ⟨h0, h1, h2, h3⟩ := hW; go_simp) tH0 ?_
      simp only [FL]
      refine hr_take_w 10 (some 15) (.pointer (some ⟨b.p, 0, none⟩)) rfl rfl (by kernel_rfl) (by kernel_rfl) (by kernel_rfl) rfl (fun W hW => by obtain ⟨h0, h1, h2, h3⟩ := hW; go_simp) tH0 ?_
      simp only [FL]
      refine hr_take_w 11 (some 16) (.pointer (some ⟨b.X, 0, none⟩)) rfl rfl (by kernel_rfl) (by kernel_rfl) (by kernel_rfl) rfl (fun W hW => by obtain ⟨h0, h1, h2, h3⟩ := hW; go_simp) tH0 ?_
      simp only [FL]
      refine hr_take_w 12 (some 17) (.pointer (some ⟨b.X, 0, none⟩)) rfl rfl (by kernel_rfl) (by kernel_rfl) (by kernel_rfl) rfl (fun W hW => by obtain ⟨h0, h1, h2, h3⟩ := hW; go_simp) tH0 ?_
      simp only [FL]
      refine hr_take_w 13 (some 18) (.pointer (some ⟨b.X, 0, none⟩)) rfl rfl (by kernel_rfl) (by kernel_rfl) (by kernel_rfl) rfl (fun W hW => by obtain ⟨h0, h1, h2, h3⟩ := hW; go_simp) tH0 ?_
      simp only [FL]
      refine hr_take_w 14 (some 19) (.pointer (some ⟨b.X, 1, none⟩)) rfl rfl (by kernel_rfl) (by kernel_rfl) (by kernel_rfl) rfl (fun W hW => by obtain ⟨h0, h1, h2, h3⟩ := hW; go_simp) tH0 ?_
      simp only [FL]
      refine hr_take_w 15 (some 20) (.string x.sum) rfl rfl (by kernel_rfl) (by kernel_rfl) (by kernel_rfl) rfl (fun W hW => by obtain ⟨h0, h1, h2, h3⟩ := hW; go_simp) tH0 ?_
      simp only [FL]
      refine hr_take_w 18 (some 23) (.pointer (some ⟨L, 0, none⟩)) rfl rfl (by kernel_rfl) (by kernel_rfl) (by kernel_rfl) rfl (fun W hW => by obtain ⟨h0, h1, h2, h3⟩ := hW; go_simp) tH0 ?_
      simp only [FL]
      refine hr_take_w 19 (some 24) (.pointer (some ⟨L, 0, none⟩)) rfl rfl (by kernel_rfl) (by kernel_rfl) (by kernel_rfl) rfl (fun W hW => by obtain ⟨h0, h1, h2, h3⟩ := hW; go_simp) tH0 ?_
      simp only [FL]
      refine hr_take_w 20 (some 25) (.pointer (some ⟨L, 0, none⟩)) rfl rfl (by kernel_rfl) (by kernel_rfl) (by kernel_rfl) rfl (fun W hW => by obtain ⟨h0, h1, h2, h3⟩ := hW; go_simp) tH0 ?_
      simp only [FL]
      refine hr_take_w 21 (some 26) (.int .i64 (f : Nat)) rfl rfl (by kernel_rfl) (by kernel_rfl) (by kernel_rfl) rfl (fun W hW => by obtain ⟨h0, h1, h2, h3⟩ := hW; go_simp) tH0 ?_
      simp only [FL]
      refine hr_take_w 22 (some 27) (.int .i64 (2 * (f : Int))) rfl rfl (by kernel_rfl) (by kernel_rfl) (by kernel_rfl) rfl (fun W hW => by obtain ⟨h0, h1, h2, h3⟩ := hW; go_simp) tH0 ?_
      simp only [FL]
      refine hr_ex 16 (some 21) rfl rfl (by kernel_rfl) rfl (R := fun v w' => ∃ g c, v = .slice (some ⟨g, 0, none⟩) x.sum.size c ∧ Sl w' (some ⟨g, 0, none⟩) x.sum.size c (sb x.sum) ∧ Below tv0.heap.size tv0 w') (by have hr := Lib.run_convert_string_bytes (P := Try.prog) tv0 9 35 5 x.sum Try.underlying9 Try.underlying35 Try.underlying5; exact ⟨_, _, by go_simp, _, _, rfl, bytesWorld_sl tv0 x.sum (by have := HZ.out; omega), bytesWorld_below tv0 x.sum⟩) ?_
      rintro v tv1 ⟨g, c, rfl, tG0, tC0⟩
      have tE1 := tE0.trans (tC0.mono tE0.size)
      have tH1 := tHS.out tv1 tE1
      refine ⟨tH1, ?_⟩
      simp only [FL]
      refine hr_call_w 17 (some 22) 45 #[.pointer (some ⟨b.p, 0, none⟩), .slice (some ⟨g, 0, none⟩) x.sum.size c] rfl rfl (by kernel_rfl) rfl (by go_simp) (fun v w' => v = .int .i64 (cntV x.sum x.pv : Nat) ∧ Below tv1.heap.size tv1 w') ((count_sb tv1 b.p f x.pv (HQ.out tv1 tE1) _ _ _ x.sum tG0).mono (by
        rintro e w' ⟨rfl, C⟩
        exact ⟨_, rfl, rfl, C⟩)) ?_
      rintro v tv2 ⟨rfl, tC1⟩
      have tE2 := tE1.trans (tC1.mono tE1.size)
      have tH2 := tHS.out tv2 tE2
      refine ⟨tH2, ?_⟩
      simp only [FL]
      refine hr_take_w 23 (some 28) (.bool true) rfl rfl (by kernel_rfl) (by kernel_rfl) (by kernel_rfl) rfl (fun W hW => by obtain ⟨h0, h1, h2, h3⟩ := hW; go_simp) tH2 ?_
      simp only [FL]
      refine hr_take_w 24 (some 29) (.bool true) rfl rfl (by kernel_rfl) (by kernel_rfl) (by kernel_rfl) rfl (fun W hW => by obtain ⟨h0, h1, h2, h3⟩ := hW; go_simp) tH2 ?_
      simp only [FL]
      refine hr_take_w 25 (some 4) (.bool true) rfl rfl (by kernel_rfl) (by kernel_rfl) (by kernel_rfl) rfl (fun W hW => by obtain ⟨h0, h1, h2, h3⟩ := hW; go_simp) tH2 ?_
      simp only [FL]
      refine wpAnyH_done (by kernel_rfl) ?_ _
      refine NoPanic.normal ?_
      go_wp2
      go_ret
      exact ⟨rfl, tE2⟩
    · have i2 : ¬ 2 * (f : Int) ≤ (cntV x.sum x.pv : Int) := by omega
      have d2 : decide (2 * (f : Int) ≤ (cntV x.sum x.pv : Int)) = false := decide_eq_false i2
      rw [decide_eq_false c2]
      go_enter Try.func44, Try.ntmps44
      go_wp2_with fail
      have tHS : Hid (∀ V, Below w.heap.size w V → V.cell? ⟨b.X, 0, none⟩ = some (.bool true) ∧ V.cell? ⟨b.X, 1, none⟩ = some (.string x.sum) ∧ V.cell? ⟨b.X, 5, none⟩ = some (.pointer (some ⟨b.p, 0, none⟩)) ∧ V.cell? ⟨L, 0, none⟩ = some (.int .i64 (f : Nat))) := fun V hV => ⟨(HS0.out V hV).1, (HS0.out V hV).2.1, (HS0.out V hV).2.2.1, (HS0.out V hV).2.2.2⟩
      have tE0 : Below w.heap.size w w.drew := (Below.refl _ _).drew
      refine wp_region_noPanic ?_
      refine wp_region_held_drew (S := fun V => V.cell? ⟨b.X, 0, none⟩ = some (.bool true) ∧ V.cell? ⟨b.X, 1, none⟩ = some (.string x.sum) ∧ V.cell? ⟨b.X, 5, none⟩ = some (.pointer (some ⟨b.p, 0, none⟩)) ∧ V.cell? ⟨L, 0, none⟩ = some (.int .i64 (f : Nat))) (by kernel_rfl) (tHS.out _ tE0) (fun tH0 => ?_)
      obtain ⟨tv0, hv0⟩ : ∃ v, v = w.drew := ⟨_, rfl⟩
      rw [← hv0] at tH0 tE0 ⊢
      clear hv0
      refine hr_take_w 0 (some 5) (.pointer (some ⟨b.X, 0, none⟩)) rfl rfl (by kernel_rfl) (by kernel_rfl) (by kernel_rfl) rfl (fun W hW => by obtain ⟨h0, h1, h2, h3⟩ := hW; go_simp) tH0 ?_
      simp only [FL]
      refine hr_take_w 1 (some 6) (.pointer (some ⟨b.X, 0, none⟩)) rfl rfl (by kernel_rfl) (by kernel_rfl) (by kernel_rfl) rfl (fun W hW => by obtain ⟨h0, h1, h2, h3⟩ := hW; go_simp) tH0 ?_
      simp only [FL]
      refine hr_take_w 2 (some 7) (.pointer (some ⟨b.X, 0, none⟩)) rfl rfl (by kernel_rfl) (by kernel_rfl) (by kernel_rfl) rfl (fun W hW => by obtain ⟨h0, h1, h2, h3⟩ := hW; go_simp) tH0 ?_
      simp only [FL]
      refine hr_take_w 3 (some 8) (.pointer (some ⟨b.X, 0, none⟩)) rfl rfl (by kernel_rfl) (by kernel_rfl) (by kernel_rfl) rfl (fun W hW => by obtain ⟨h0, h1, h2, h3⟩ := hW; go_simp) tH0 ?_
      simp only [FL]
      refine hr_take_w 4 (some 9) (.bool true) rfl rfl (by kernel_rfl) (by kernel_rfl) (by kernel_rfl) rfl (fun W hW => by obtain ⟨h0, h1, h2, h3⟩ := hW; go_simp) tH0 ?_
      simp only [FL]
      refine hr_take_w 5 (some 10) (.bool true) rfl rfl (by kernel_rfl) (by kernel_rfl) (by kernel_rfl) rfl (fun W hW => by obtain ⟨h0, h1, h2, h3⟩ := hW; go_simp) tH0 ?_
      simp only [FL]
      refine hr_take_w 6 (some 11) (.pointer (some ⟨b.X, 0, none⟩)) rfl rfl (by kernel_rfl) (by kernel_rfl) (by kernel_rfl) rfl (fun W hW => by obtain ⟨h0, h1, h2, h3⟩ := hW; go_simp) tH0 ?_
      simp only [FL]
      refine hr_take_w 7 (some 12) (.pointer (some ⟨b.X, 0, none⟩)) rfl rfl (by kernel_rfl) (by kernel_rfl) (by kernel_rfl) rfl (fun W hW => by obtain ⟨h0, h1, h2, h3⟩ := hW; go_simp) tH0 ?_
      simp only [FL]
      refine hr_take_w 8 (some 13) (.pointer (some ⟨b.X, 0, none⟩)) rfl rfl (by kernel_rfl) (by kernel_rfl) (by kernel_rfl) rfl (fun W hW => by obtain ⟨h0, h1, h2, h3⟩ := hW; go_simp) tH0 ?_
      simp only [FL]
      refine hr_take_w 9 (some 14) (.pointer (some ⟨b.X, 5, none⟩)) rfl rfl (by kernel_rfl) (by kernel_rfl) (by kernel_rfl) rfl (fun W hW => by obtain ⟨h0, h1, h2, h3⟩ := hW; go_simp) tH0 ?_
      simp only [FL]
      refine hr_take_w 10 (some 15) (.pointer (some ⟨b.p, 0, none⟩)) rfl rfl (by kernel_rfl) (by kernel_rfl) (by kernel_rfl) rfl (fun W hW => by obtain ⟨h0, h1, h2, h3⟩ := hW; go_simp) tH0 ?_
      simp only [FL]
      refine hr_take_w 11 (some 16) (.pointer (some ⟨b.X, 0, none⟩)) rfl rfl (by kernel_rfl) (by kernel_rfl) (by kernel_rfl) rfl (fun W hW => by obtain ⟨h0, h1, h2, h3⟩ := hW; go_simp) tH0 ?_
      simp only [FL]
      refine hr_take_w 12 (some 17) (.pointer (some ⟨b.X, 0, none⟩)) rfl rfl (by kernel_rfl) (by kernel_rfl) (by kernel_rfl) rfl (fun W hW => by obtain ⟨h0, h1, h2, h3⟩ := hW; go_simp) tH0 ?_
      simp only [FL]
      refine hr_take_w 13 (some 18) (.pointer (some ⟨b.X, 0, none⟩)) rfl rfl (by kernel_rfl) (by kernel_rfl) (by kernel_rfl) rfl (fun W hW => by obtain ⟨h0, h1, h2, h3⟩ := hW; go_simp) tH0 ?_
      simp only [FL]
      refine hr_take_w 14 (some 19) (.pointer (some ⟨b.X, 1, none⟩)) rfl rfl (by kernel_rfl) (by kernel_rfl) (by kernel_rfl) rfl (fun W hW => by obtain ⟨h0, h1, h2, h3⟩ := hW; go_simp) tH0 ?_
      simp only [FL]
      refine hr_take_w 15 (some 20) (.string x.sum) rfl rfl (by kernel_rfl) (by kernel_rfl) (by kernel_rfl) rfl (fun W hW => by obtain ⟨h0, h1, h2, h3⟩ := hW; go_simp) tH0 ?_
      simp only [FL]
      refine hr_take_w 18 (some 23) (.pointer (some ⟨L, 0, none⟩)) rfl rfl (by kernel_rfl) (by kernel_rfl) (by kernel_rfl) rfl (fun W hW => by obtain ⟨h0, h1, h2, h3⟩ := hW; go_simp) tH0 ?_
      simp only [FL]
      refine hr_take_w 19 (some 24) (.pointer (some ⟨L, 0, none⟩)) rfl rfl (by kernel_rfl) (by kernel_rfl) (by kernel_rfl) rfl (fun W hW => by obtain ⟨h0, h1, h2, h3⟩ := hW; go_simp) tH0 ?_
      simp only [FL]
      refine hr_take_w 20 (some 25) (.pointer (some ⟨L, 0, none⟩)) rfl rfl (by kernel_rfl) (by kernel_rfl) (by kernel_rfl) rfl (fun W hW => by obtain ⟨h0, h1, h2, h3⟩ := hW; go_simp) tH0 ?_
      simp only [FL]
      refine hr_take_w 21 (some 26) (.int .i64 (f : Nat)) rfl rfl (by kernel_rfl) (by kernel_rfl) (by kernel_rfl) rfl (fun W hW => by obtain ⟨h0, h1, h2, h3⟩ := hW; go_simp) tH0 ?_
      simp only [FL]
      refine hr_take_w 22 (some 27) (.int .i64 (2 * (f : Int))) rfl rfl (by kernel_rfl) (by kernel_rfl) (by kernel_rfl) rfl (fun W hW => by obtain ⟨h0, h1, h2, h3⟩ := hW; go_simp) tH0 ?_
      simp only [FL]
      refine hr_ex 16 (some 21) rfl rfl (by kernel_rfl) rfl (R := fun v w' => ∃ g c, v = .slice (some ⟨g, 0, none⟩) x.sum.size c ∧ Sl w' (some ⟨g, 0, none⟩) x.sum.size c (sb x.sum) ∧ Below tv0.heap.size tv0 w') (by have hr := Lib.run_convert_string_bytes (P := Try.prog) tv0 9 35 5 x.sum Try.underlying9 Try.underlying35 Try.underlying5; exact ⟨_, _, by go_simp, _, _, rfl, bytesWorld_sl tv0 x.sum (by have := HZ.out; omega), bytesWorld_below tv0 x.sum⟩) ?_
      rintro v tv1 ⟨g, c, rfl, tG0, tC0⟩
      have tE1 := tE0.trans (tC0.mono tE0.size)
      have tH1 := tHS.out tv1 tE1
      refine ⟨tH1, ?_⟩
      simp only [FL]
      refine hr_call_w 17 (some 22) 45 #[.pointer (some ⟨b.p, 0, none⟩), .slice (some ⟨g, 0, none⟩) x.sum.size c] rfl rfl (by kernel_rfl) rfl (by go_simp) (fun v w' => v = .int .i64 (cntV x.sum x.pv : Nat) ∧ Below tv1.heap.size tv1 w') ((count_sb tv1 b.p f x.pv (HQ.out tv1 tE1) _ _ _ x.sum tG0).mono (by
        rintro e w' ⟨rfl, C⟩
        exact ⟨_, rfl, rfl, C⟩)) ?_
      rintro v tv2 ⟨rfl, tC1⟩
      have tE2 := tE1.trans (tC1.mono tE1.size)
      have tH2 := tHS.out tv2 tE2
      refine ⟨tH2, ?_⟩
      simp only [FL]
      refine hr_take_w 23 (some 28) (.bool false) rfl rfl (by kernel_rfl) (by kernel_rfl) (by kernel_rfl) rfl (fun W hW => by obtain ⟨h0, h1, h2, h3⟩ := hW; go_simp) tH2 ?_
      simp only [FL]
      refine hr_take_w 24 (some 29) (.bool false) rfl rfl (by kernel_rfl) (by kernel_rfl) (by kernel_rfl) rfl (fun W hW => by obtain ⟨h0, h1, h2, h3⟩ := hW; go_simp) tH2 ?_
      simp only [FL]
      refine hr_take_w 25 (some 4) (.bool false) rfl rfl (by kernel_rfl) (by kernel_rfl) (by kernel_rfl) rfl (fun W hW => by obtain ⟨h0, h1, h2, h3⟩ := hW; go_simp) tH2 ?_
      simp only [FL]
      refine wpAnyH_done (by kernel_rfl) ?_ _
      refine NoPanic.normal ?_
      go_wp2
      go_ret
      exact ⟨rfl, tE2⟩
end Go.Proofs.Ytbpbcmbcoffdlaa

/-
  Texts in one: SlAsk.
-/
import Derived.Test.YtbpbcmbcoffdlaaSlotsOnceQFL
import Derived.Test.YtbpbcmbcoffdlaaSlotsOnceQ3
import Derived.Test.YtbpbcmbcoffdlaaSlotsOnceQ1
import Derived.OwnWalk
namespace Go.Proofs.Ytbpbcmbcoffdlaa
open Go.RowKit
theorem most_at (w : World) (f : Nat) (h1 : 1 ≤ f) (h4 : f ≤ 4) : Calls Try.prog 46 #[.int .i64 (f : Nat)] w fun e w' => e = .returned (.int .i64 (2 * (f : Int) + 1)) ∧ Below w.heap.size w w' := by
  refine (most_any (f : Int) w).mono ?_
  rintro e w' ⟨rfl, rfl⟩
  exact ⟨by rw [nF_t 2 (okF_t (by omega) (by omega))], Below.refl _ _⟩
def ptrS (B : Nat → SB) (g : GT) (seq : Nat) : Value := if (g.s seq).isSome = true then .pointer (some ⟨(B seq).X, 0, none⟩) else .pointer none
theorem find_any (w : World) (base L M n : Nat) (g : GT) (F : Value → Option Value) (B : Nat → SB) (ρ : Nat → Nat) (h : LG w base L M n g F B ρ) (seq : Nat) (hs : seq < 18446744073709551616) :
    Calls Try.prog 43 #[.pointer (some ⟨L, 0, none⟩), .int .u64 (seq : Nat)] w fun e w' => e = .returned (ptrS B g seq) ∧ w' = w := by
  have x3 : w.cell? ⟨L, 3, none⟩ = some (.map (some M)) := h.lc.cell 3
  have hl := h.mf.look1 kU Try.underlying67 (zSlot w) (keyU seq hs)
  have hp : Hid ((F (.int .u64 (seq : Nat))).getD (.pointer none) = ptrS B g seq) := by
    show _ = _
    unfold ptrS
    cases hx : g.s seq with
    | none =>
      rw [h.none_at hx]
      rfl
    | some x =>
      rw [(h.here seq x hx).1]
      rfl
  rw [hp.out] at hl
  generalize ptrS B g seq = pv at *
  clear h hp
  go_enter Try.func43, Try.ntmps43
  go_wp2
  go_ret
  exact ⟨rfl, rfl⟩
def RetO (w : World) (o : Option ByteArray) (e : Ending) (w' : World) : Prop := ∃ ao n cap, e = .returned (.tuple #[.slice ao n cap, .bool o.isSome]) ∧ Sl w' ao n cap (match o with | none => [] | some s => sb s) ∧ Below w.heap.size w w'
def sumO (g : GT) (seq : Nat) : Option ByteArray := (g.s seq).bind fun x => if x.has = true then some x.sum else none
def comO (g : GT) (seq : Nat) : Option ByteArray := (g.s seq).bind fun x => if commS g.f x = true then some x.sum else none
def preO (g : GT) (seq : Nat) : Bool := match g.s seq with | none => false | some x => prepS g.f x
def crtO (g : GT) (seq : Nat) : Option CT := (g.s seq).bind ST.cert
set_option maxRecDepth 100000 in
set_option maxHeartbeats 4000000 in
theorem prep_any15 (w : World) (base L M n : Nat) (g : GT) (F : Value → Option Value) (B : Nat → SB) (ρ : Nat → Nat) (HG : LG w base L M n g F B ρ) (seq : Nat) (hs : seq < 18446744073709551616) :
    Calls Try.prog 20 #[.pointer (some ⟨L, 0, none⟩), .int .u64 (seq : Nat)] w (fun e w' => e = .returned (.bool (preO g seq)) ∧ Below w.heap.size w w') := by
  have CF := find_any w base L M n g F B ρ HG seq hs
  cases hx : g.s seq with
  | none =>
    have e1 : ptrS B g seq = .pointer none := by unfold ptrS; rw [hx]; rfl
    have e2 : preO g seq = false := by unfold preO; rw [hx]
    rw [e1] at CF
    rw [e2]
    clear e1 e2 HG hx
    go_enter Try.func20, Try.ntmps20
    go_wp2_with (go_at_call 43; refine CF.mono ?_; rintro e w1 ⟨rfl, hw1⟩; have hw1 := hw1.symm; subst hw1)
    go_ret
    exact ⟨rfl, Below.refl _ _⟩
  | some x =>
    have e1 : ptrS B g seq = .pointer (some ⟨(B seq).X, 0, none⟩) := by unfold ptrS; rw [hx]; rfl
    have e2 : preO g seq = prepS g.f x := by unfold preO; rw [hx]
    obtain ⟨-, HX⟩ := HG.here seq x hx
    have CP := isPrep_any w L g.f g.low g.view M HG.lc HG.f4 (B seq) x HX
    rw [e1] at CF
    rw [e2]
    clear e1 e2 HG hx HX
    go_enter Try.func20, Try.ntmps20
    go_wp2_with (first
      | (go_at_call 43; refine CF.mono ?_; rintro e w1 ⟨rfl, hw1⟩; have hw1 := hw1.symm; subst hw1)
      | (go_at_call 44; refine CP.mono ?_; rintro e w2 ⟨rfl, E2⟩))
    go_ret
    exact ⟨rfl, E2⟩
set_option maxRecDepth 100000 in
set_option maxHeartbeats 4000000 in
theorem comm_any15 (w : World) (base L M n : Nat) (g : GT) (F : Value → Option Value) (B : Nat → SB) (ρ : Nat → Nat) (HG : LG w base L M n g F B ρ) (seq : Nat) (hs : seq < 18446744073709551616) :
    Calls Try.prog 19 #[.pointer (some ⟨L, 0, none⟩), .int .u64 (seq : Nat)] w (RetO w (comO g seq)) := by
  have CF := find_any w base L M n g F B ρ HG seq hs
  cases hx : g.s seq with
  | none =>
    have e1 : ptrS B g seq = .pointer none := by unfold ptrS; rw [hx]; rfl
    have e2 : comO g seq = none := by unfold comO; rw [hx]; rfl
    rw [e1] at CF
    rw [e2]
    clear e1 e2 HG hx
    go_enter Try.func19, Try.ntmps19
    go_wp2_with (go_at_call 43; refine CF.mono ?_; rintro e w1 ⟨rfl, hw1⟩; have hw1 := hw1.symm; subst hw1)
    go_wp2_with fail
    have tHS : Hid (∀ V, Below w.heap.size w V → True) := fun _ _ => trivial
    have tE0 : Below w.heap.size w w.drew := (Below.refl _ _).drew
    refine wp_region_noPanic ?_
    refine wp_region_held_drew (S := fun V => True) (by kernel_rfl) (tHS.out _ tE0) (fun tH0 => ?_)
    obtain ⟨tv0, hv0⟩ : ∃ v, v = w.drew := ⟨_, rfl⟩
    rw [← hv0] at tE0 ⊢
    clear hv0
    refine hr_take_w 0 (some 10) (.pointer none) rfl rfl (by kernel_rfl) (by kernel_rfl) (by kernel_rfl) rfl (fun W hW => by go_simp) tH0 ?_
    simp only [FL]
    refine hr_take_w 1 (some 11) (.bool true) rfl rfl (by kernel_rfl) (by kernel_rfl) (by kernel_rfl) rfl (fun W hW => by go_simp) tH0 ?_
    simp only [FL]
    refine hr_take_w 2 (some 12) (.bool true) rfl rfl (by kernel_rfl) (by kernel_rfl) (by kernel_rfl) rfl (fun W hW => by go_simp) tH0 ?_
    simp only [FL]
    refine hr_none 3 (some 13) rfl rfl (by kernel_rfl) (by kernel_rfl) (by kernel_rfl) rfl tH0 ?_
    simp only [FL]
    refine hr_none 4 (some 14) rfl rfl (by kernel_rfl) (by kernel_rfl) (by kernel_rfl) rfl tH0 ?_
    simp only [FL]
    refine hr_none 5 (some 15) rfl rfl (by kernel_rfl) (by kernel_rfl) (by kernel_rfl) rfl tH0 ?_
    simp only [FL]
    refine hr_none 6 (some 16) rfl rfl (by kernel_rfl) (by kernel_rfl) (by kernel_rfl) rfl tH0 ?_
    simp only [FL]
    refine hr_take_w 7 (some 17) (.bool true) rfl rfl (by kernel_rfl) (by kernel_rfl) (by kernel_rfl) rfl (fun W hW => by go_simp) tH0 ?_
    simp only [FL]
    refine hr_take_w 8 (some 18) (.bool true) rfl rfl (by kernel_rfl) (by kernel_rfl) (by kernel_rfl) rfl (fun W hW => by go_simp) tH0 ?_
    simp only [FL]
    refine hr_none 9 (some 19) rfl rfl (by kernel_rfl) (by kernel_rfl) (by kernel_rfl) rfl tH0 ?_
    simp only [FL]
    refine hr_none 10 (some 20) rfl rfl (by kernel_rfl) (by kernel_rfl) (by kernel_rfl) rfl tH0 ?_
    simp only [FL]
    refine hr_none 11 (some 21) rfl rfl (by kernel_rfl) (by kernel_rfl) (by kernel_rfl) rfl tH0 ?_
    simp only [FL]
    refine hr_none 12 (some 22) rfl rfl (by kernel_rfl) (by kernel_rfl) (by kernel_rfl) rfl tH0 ?_
    simp only [FL]
    refine hr_none 13 (some 23) rfl rfl (by kernel_rfl) (by kernel_rfl) (by kernel_rfl) rfl tH0 ?_
    simp only [FL]
    refine hr_none 14 (some 24) rfl rfl (by kernel_rfl) (by kernel_rfl) (by kernel_rfl) rfl tH0 ?_
    simp only [FL]
    refine hr_none 15 (some 25) rfl rfl (by kernel_rfl) (by kernel_rfl) (by kernel_rfl) rfl tH0 ?_
    simp only [FL]
    refine hr_none 16 (some 26) rfl rfl (by kernel_rfl) (by kernel_rfl) (by kernel_rfl) rfl tH0 ?_
    simp only [FL]
    refine hr_none 17 (some 27) rfl rfl (by kernel_rfl) (by kernel_rfl) (by kernel_rfl) rfl tH0 ?_
    simp only [FL]
    refine hr_none 18 (some 28) rfl rfl (by kernel_rfl) (by kernel_rfl) (by kernel_rfl) rfl tH0 ?_
    simp only [FL]
    refine hr_none 19 (some 29) rfl rfl (by kernel_rfl) (by kernel_rfl) (by kernel_rfl) rfl tH0 ?_
    simp only [FL]
    refine hr_none 20 (some 30) rfl rfl (by kernel_rfl) (by kernel_rfl) (by kernel_rfl) rfl tH0 ?_
    simp only [FL]
    refine hr_none 21 (some 31) rfl rfl (by kernel_rfl) (by kernel_rfl) (by kernel_rfl) rfl tH0 ?_
    simp only [FL]
    refine hr_none 22 (some 32) rfl rfl (by kernel_rfl) (by kernel_rfl) (by kernel_rfl) rfl tH0 ?_
    simp only [FL]
    refine hr_none 23 (some 33) rfl rfl (by kernel_rfl) (by kernel_rfl) (by kernel_rfl) rfl tH0 ?_
    simp only [FL]
    refine hr_none 24 (some 34) rfl rfl (by kernel_rfl) (by kernel_rfl) (by kernel_rfl) rfl tH0 ?_
    simp only [FL]
    refine hr_none 25 (some 35) rfl rfl (by kernel_rfl) (by kernel_rfl) (by kernel_rfl) rfl tH0 ?_
    simp only [FL]
    refine hr_none 26 (some 36) rfl rfl (by kernel_rfl) (by kernel_rfl) (by kernel_rfl) rfl tH0 ?_
    simp only [FL]
    refine hr_take_w 27 (some 37) (.bool true) rfl rfl (by kernel_rfl) (by kernel_rfl) (by kernel_rfl) rfl (fun W hW => by go_simp) tH0 ?_
    simp only [FL]
    refine wpAnyH_done (by kernel_rfl) ?_ _
    refine NoPanic.normal ?_
    go_wp2
    go_ret2
    exact ⟨none, 0, 0, rfl, Sl.nothing _, tE0⟩
  | some x =>
    have e1 : ptrS B g seq = .pointer (some ⟨(B seq).X, 0, none⟩) := by unfold ptrS; rw [hx]; rfl
    obtain ⟨-, HX⟩ := HG.here seq x hx
    have sz := HX.sz
    have e2 : comO g seq = if commS g.f x = true then some x.sum else none := by unfold comO; rw [hx]; rfl
    rw [e1] at CF
    rw [e2]
    have HXB : ∀ V, Below w.heap.size w V → SlotAt V g.f (B seq) x := fun V hV => HX.keep (hV.block _ HX.lt) (hV.block _ HX.P.lt) (hV.block _ HX.Q.lt) fun z hz => hV.block z (HX.imm_lt hz)
    generalize B seq = b at *
    cases hp : prepS g.f x with
    | false =>
      have e3 : commS g.f x = false := by unfold commS; rw [hp]; rfl
      rw [e3]
      clear e1 e2 hx e3
      go_enter Try.func19, Try.ntmps19
      go_wp2_with (go_at_call 43; refine CF.mono ?_; rintro e w1 ⟨rfl, hw1⟩; have hw1 := hw1.symm; subst hw1)
      go_wp2_with fail
      have tHS : Hid (∀ V, Below w.heap.size w V → V.cell? ⟨b.X, 1, none⟩ = some (.string x.sum) ∧ V.cell? ⟨b.X, 6, none⟩ = some (.pointer (some ⟨b.q, 0, none⟩)) ∧ V.cell? ⟨L, 0, none⟩ = some (.int .i64 (g.f : Nat))) := fun V hV => by have K := Arr.below HX.mem hV HX.lt; exact ⟨K.cell 1, K.cell 6, (HG.lc.below hV).cell 0⟩
      have tE0 : Below w.heap.size w w.drew := (Below.refl _ _).drew
      refine wp_region_noPanic ?_
      refine wp_region_held_drew (S := fun V => V.cell? ⟨b.X, 1, none⟩ = some (.string x.sum) ∧ V.cell? ⟨b.X, 6, none⟩ = some (.pointer (some ⟨b.q, 0, none⟩)) ∧ V.cell? ⟨L, 0, none⟩ = some (.int .i64 (g.f : Nat))) (by kernel_rfl) (tHS.out _ tE0) (fun tH0 => ?_)
      obtain ⟨tv0, hv0⟩ : ∃ v, v = w.drew := ⟨_, rfl⟩
      rw [← hv0] at tH0 tE0 ⊢
      clear hv0
      refine hr_take_w 0 (some 10) (.pointer (some ⟨b.X, 0, none⟩)) rfl rfl (by kernel_rfl) (by kernel_rfl) (by kernel_rfl) rfl (fun W hW => by obtain ⟨h0, h1, h2⟩ := hW; go_simp) tH0 ?_
      simp only [FL]
      refine hr_take_w 1 (some 11) (.bool false) rfl rfl (by kernel_rfl) (by kernel_rfl) (by kernel_rfl) rfl (fun W hW => by obtain ⟨h0, h1, h2⟩ := hW; go_simp) tH0 ?_
      simp only [FL]
      refine hr_take_w 2 (some 12) (.bool false) rfl rfl (by kernel_rfl) (by kernel_rfl) (by kernel_rfl) rfl (fun W hW => by obtain ⟨h0, h1, h2⟩ := hW; go_simp) tH0 ?_
      simp only [FL]
      refine hr_take_w 3 (some 13) (.pointer (some ⟨L, 0, none⟩)) rfl rfl (by kernel_rfl) (by kernel_rfl) (by kernel_rfl) rfl (fun W hW => by obtain ⟨h0, h1, h2⟩ := hW; go_simp) tH0 ?_
      simp only [FL]
      refine hr_take_w 4 (some 14) (.pointer (some ⟨b.X, 0, none⟩)) rfl rfl (by kernel_rfl) (by kernel_rfl) (by kernel_rfl) rfl (fun W hW => by obtain ⟨h0, h1, h2⟩ := hW; go_simp) tH0 ?_
      simp only [FL]
      refine hr_call_w 5 (some 15) 44 #[.pointer (some ⟨L, 0, none⟩), .pointer (some ⟨b.X, 0, none⟩)] rfl rfl (by kernel_rfl) rfl (by go_simp) (fun v w' => v = .bool (prepS g.f x) ∧ Below tv0.heap.size tv0 w') ((isPrep_any tv0 L g.f g.low g.view M (HG.lc.below tE0) HG.f4 b x (HXB tv0 tE0)).mono (by
        rintro e w' ⟨rfl, C⟩
        exact ⟨_, rfl, rfl, C⟩)) ?_
      rintro v tv1 ⟨rfl, tC0⟩
      have tE1 := tE0.trans (tC0.mono tE0.size)
      have tH1 := tHS.out tv1 tE1
      refine ⟨tH1, ?_⟩
      simp only [FL]
      refine hr_take_w 6 (some 16) (.bool true) rfl rfl (by kernel_rfl) (by kernel_rfl) (by kernel_rfl) rfl (fun W hW => by obtain ⟨h0, h1, h2⟩ := hW; go_simp) tH1 ?_
      simp only [FL]
      refine hr_take_w 7 (some 17) (.bool true) rfl rfl (by kernel_rfl) (by kernel_rfl) (by kernel_rfl) rfl (fun W hW => by obtain ⟨h0, h1, h2⟩ := hW; go_simp) tH1 ?_
      simp only [FL]
      refine hr_take_w 8 (some 18) (.bool true) rfl rfl (by kernel_rfl) (by kernel_rfl) (by kernel_rfl) rfl (fun W hW => by obtain ⟨h0, h1, h2⟩ := hW; go_simp) tH1 ?_
      simp only [FL]
      refine hr_none 9 (some 19) rfl rfl (by kernel_rfl) (by kernel_rfl) (by kernel_rfl) rfl tH1 ?_
      simp only [FL]
      refine hr_none 10 (some 20) rfl rfl (by kernel_rfl) (by kernel_rfl) (by kernel_rfl) rfl tH1 ?_
      simp only [FL]
      refine hr_none 11 (some 21) rfl rfl (by kernel_rfl) (by kernel_rfl) (by kernel_rfl) rfl tH1 ?_
      simp only [FL]
      refine hr_none 12 (some 22) rfl rfl (by kernel_rfl) (by kernel_rfl) (by kernel_rfl) rfl tH1 ?_
      simp only [FL]
      refine hr_none 13 (some 23) rfl rfl (by kernel_rfl) (by kernel_rfl) (by kernel_rfl) rfl tH1 ?_
      simp only [FL]
      refine hr_none 14 (some 24) rfl rfl (by kernel_rfl) (by kernel_rfl) (by kernel_rfl) rfl tH1 ?_
      simp only [FL]
      refine hr_none 15 (some 25) rfl rfl (by kernel_rfl) (by kernel_rfl) (by kernel_rfl) rfl tH1 ?_
      simp only [FL]
      refine hr_none 16 (some 26) rfl rfl (by kernel_rfl) (by kernel_rfl) (by kernel_rfl) rfl tH1 ?_
      simp only [FL]
      refine hr_none 17 (some 27) rfl rfl (by kernel_rfl) (by kernel_rfl) (by kernel_rfl) rfl tH1 ?_
      simp only [FL]
      refine hr_none 18 (some 28) rfl rfl (by kernel_rfl) (by kernel_rfl) (by kernel_rfl) rfl tH1 ?_
      simp only [FL]
      refine hr_none 19 (some 29) rfl rfl (by kernel_rfl) (by kernel_rfl) (by kernel_rfl) rfl tH1 ?_
      simp only [FL]
      refine hr_none 20 (some 30) rfl rfl (by kernel_rfl) (by kernel_rfl) (by kernel_rfl) rfl tH1 ?_
      simp only [FL]
      refine hr_none 21 (some 31) rfl rfl (by kernel_rfl) (by kernel_rfl) (by kernel_rfl) rfl tH1 ?_
      simp only [FL]
      refine hr_none 22 (some 32) rfl rfl (by kernel_rfl) (by kernel_rfl) (by kernel_rfl) rfl tH1 ?_
      simp only [FL]
      refine hr_none 23 (some 33) rfl rfl (by kernel_rfl) (by kernel_rfl) (by kernel_rfl) rfl tH1 ?_
      simp only [FL]
      refine hr_none 24 (some 34) rfl rfl (by kernel_rfl) (by kernel_rfl) (by kernel_rfl) rfl tH1 ?_
      simp only [FL]
      refine hr_none 25 (some 35) rfl rfl (by kernel_rfl) (by kernel_rfl) (by kernel_rfl) rfl tH1 ?_
      simp only [FL]
      refine hr_none 26 (some 36) rfl rfl (by kernel_rfl) (by kernel_rfl) (by kernel_rfl) rfl tH1 ?_
      simp only [FL]
      refine hr_take_w 27 (some 37) (.bool true) rfl rfl (by kernel_rfl) (by kernel_rfl) (by kernel_rfl) rfl (fun W hW => by obtain ⟨h0, h1, h2⟩ := hW; go_simp) tH1 ?_
      simp only [FL]
      refine wpAnyH_done (by kernel_rfl) ?_ _
      refine NoPanic.normal ?_
      go_wp2
      go_ret2
      exact ⟨none, 0, 0, rfl, Sl.nothing _, tE1⟩
    | true =>
      by_cases hc : 2 * g.f + 1 ≤ cntV x.sum x.cv
      · have e3 : commS g.f x = true := by unfold commS; rw [hp, decide_eq_true hc]; rfl
        rw [e3]
        have i2 : ¬ (cntV x.sum x.cv : Int) < 2 * (g.f : Int) + 1 := by omega
        have d2 : decide ((cntV x.sum x.cv : Int) < 2 * (g.f : Int) + 1) = false := decide_eq_false i2
        clear e1 e2 hx e3
        go_enter Try.func19, Try.ntmps19
        go_wp2_with (go_at_call 43; refine CF.mono ?_; rintro e w1 ⟨rfl, hw1⟩; have hw1 := hw1.symm; subst hw1)
        go_wp2_with fail
        have tHS : Hid (∀ V, Below w.heap.size w V → V.cell? ⟨b.X, 1, none⟩ = some (.string x.sum) ∧ V.cell? ⟨b.X, 6, none⟩ = some (.pointer (some ⟨b.q, 0, none⟩)) ∧ V.cell? ⟨L, 0, none⟩ = some (.int .i64 (g.f : Nat))) := fun V hV => by have K := Arr.below HX.mem hV HX.lt; exact ⟨K.cell 1, K.cell 6, (HG.lc.below hV).cell 0⟩
        have tE0 : Below w.heap.size w w.drew := (Below.refl _ _).drew
        refine wp_region_noPanic ?_
        refine wp_region_held_drew (S := fun V => V.cell? ⟨b.X, 1, none⟩ = some (.string x.sum) ∧ V.cell? ⟨b.X, 6, none⟩ = some (.pointer (some ⟨b.q, 0, none⟩)) ∧ V.cell? ⟨L, 0, none⟩ = some (.int .i64 (g.f : Nat))) (by kernel_rfl) (tHS.out _ tE0) (fun tH0 => ?_)
        obtain ⟨tv0, hv0⟩ : ∃ v, v = w.drew := ⟨_, rfl⟩
        rw [← hv0] at tH0 tE0 ⊢
        clear hv0
        refine hr_take_w 0 (some 10) (.pointer (some ⟨b.X, 0, none⟩)) rfl rfl (by kernel_rfl) (by kernel_rfl) (by kernel_rfl) rfl (fun W hW => by obtain ⟨h0, h1, h2⟩ := hW; go_simp) tH0 ?_
        simp only [FL]
        refine hr_take_w 1 (some 11) (.bool false) rfl rfl (by kernel_rfl) (by kernel_rfl) (by kernel_rfl) rfl (fun W hW => by obtain ⟨h0, h1, h2⟩ := hW; go_simp) tH0 ?_
        simp only [FL]
        refine hr_take_w 2 (some 12) (.bool false) rfl rfl (by kernel_rfl) (by kernel_rfl) (by kernel_rfl) rfl (fun W hW => by obtain ⟨h0, h1, h2⟩ := hW; go_simp) tH0 ?_
        simp only [FL]
        refine hr_take_w 3 (some 13) (.pointer (some ⟨L, 0, none⟩)) rfl rfl (by kernel_rfl) (by kernel_rfl) (by kernel_rfl) rfl (fun W hW => by obtain ⟨h0, h1, h2⟩ := hW; go_simp) tH0 ?_
        simp only [FL]
        refine hr_take_w 4 (some 14) (.pointer (some ⟨b.X, 0, none⟩)) rfl rfl (by kernel_rfl) (by kernel_rfl) (by kernel_rfl) rfl (fun W hW => by obtain ⟨h0, h1, h2⟩ := hW; go_simp) tH0 ?_
        simp only [FL]
        refine hr_call_w 5 (some 15) 44 #[.pointer (some ⟨L, 0, none⟩), .pointer (some ⟨b.X, 0, none⟩)] rfl rfl (by kernel_rfl) rfl (by go_simp) (fun v w' => v = .bool (prepS g.f x) ∧ Below tv0.heap.size tv0 w') ((isPrep_any tv0 L g.f g.low g.view M (HG.lc.below tE0) HG.f4 b x (HXB tv0 tE0)).mono (by
          rintro e w' ⟨rfl, C⟩
          exact ⟨_, rfl, rfl, C⟩)) ?_
        rintro v tv1 ⟨rfl, tC0⟩
        have tE1 := tE0.trans (tC0.mono tE0.size)
        have tH1 := tHS.out tv1 tE1
        refine ⟨tH1, ?_⟩
        simp only [FL]
        refine hr_take_w 6 (some 16) (.bool false) rfl rfl (by kernel_rfl) (by kernel_rfl) (by kernel_rfl) rfl (fun W hW => by obtain ⟨h0, h1, h2⟩ := hW; go_simp) tH1 ?_
        simp only [FL]
        refine hr_take_w 7 (some 17) (.bool false) rfl rfl (by kernel_rfl) (by kernel_rfl) (by kernel_rfl) rfl (fun W hW => by obtain ⟨h0, h1, h2⟩ := hW; go_simp) tH1 ?_
        simp only [FL]
        refine hr_take_w 8 (some 18) (.bool false) rfl rfl (by kernel_rfl) (by kernel_rfl) (by kernel_rfl) rfl (fun W hW => by obtain ⟨h0, h1, h2⟩ := hW; go_simp) tH1 ?_
        simp only [FL]
        refine hr_take_w 9 (some 19) (.pointer (some ⟨b.X, 0, none⟩)) rfl rfl (by kernel_rfl) (by kernel_rfl) (by kernel_rfl) rfl (fun W hW => by obtain ⟨h0, h1, h2⟩ := hW; go_simp) tH1 ?_
        simp only [FL]
        refine hr_take_w 10 (some 20) (.pointer (some ⟨b.X, 0, none⟩)) rfl rfl (by kernel_rfl) (by kernel_rfl) (by kernel_rfl) rfl (fun W hW => by obtain ⟨h0, h1, h2⟩ := hW; go_simp) tH1 ?_
        simp only [FL]
        refine hr_take_w 11 (some 21) (.pointer (some ⟨b.X, 0, none⟩)) rfl rfl (by kernel_rfl) (by kernel_rfl) (by kernel_rfl) rfl (fun W hW => by obtain ⟨h0, h1, h2⟩ := hW; go_simp) tH1 ?_
        simp only [FL]
        refine hr_take_w 12 (some 22) (.pointer (some ⟨b.X, 6, none⟩)) rfl rfl (by kernel_rfl) (by kernel_rfl) (by kernel_rfl) rfl (fun W hW => by obtain ⟨h0, h1, h2⟩ := hW; go_simp) tH1 ?_
        simp only [FL]
        refine hr_take_w 13 (some 23) (.pointer (some ⟨b.q, 0, none⟩)) rfl rfl (by kernel_rfl) (by kernel_rfl) (by kernel_rfl) rfl (fun W hW => by obtain ⟨h0, h1, h2⟩ := hW; go_simp) tH1 ?_
        simp only [FL]
        refine hr_take_w 14 (some 24) (.pointer (some ⟨b.X, 0, none⟩)) rfl rfl (by kernel_rfl) (by kernel_rfl) (by kernel_rfl) rfl (fun W hW => by obtain ⟨h0, h1, h2⟩ := hW; go_simp) tH1 ?_
        simp only [FL]
        refine hr_take_w 15 (some 25) (.pointer (some ⟨b.X, 0, none⟩)) rfl rfl (by kernel_rfl) (by kernel_rfl) (by kernel_rfl) rfl (fun W hW => by obtain ⟨h0, h1, h2⟩ := hW; go_simp) tH1 ?_
        simp only [FL]
        refine hr_take_w 16 (some 26) (.pointer (some ⟨b.X, 0, none⟩)) rfl rfl (by kernel_rfl) (by kernel_rfl) (by kernel_rfl) rfl (fun W hW => by obtain ⟨h0, h1, h2⟩ := hW; go_simp) tH1 ?_
        simp only [FL]
        refine hr_take_w 17 (some 27) (.pointer (some ⟨b.X, 1, none⟩)) rfl rfl (by kernel_rfl) (by kernel_rfl) (by kernel_rfl) rfl (fun W hW => by obtain ⟨h0, h1, h2⟩ := hW; go_simp) tH1 ?_
        simp only [FL]
        refine hr_take_w 18 (some 28) (.string x.sum) rfl rfl (by kernel_rfl) (by kernel_rfl) (by kernel_rfl) rfl (fun W hW => by obtain ⟨h0, h1, h2⟩ := hW; go_simp) tH1 ?_
        simp only [FL]
        refine hr_take_w 21 (some 31) (.pointer (some ⟨L, 0, none⟩)) rfl rfl (by kernel_rfl) (by kernel_rfl) (by kernel_rfl) rfl (fun W hW => by obtain ⟨h0, h1, h2⟩ := hW; go_simp) tH1 ?_
        simp only [FL]
        refine hr_take_w 22 (some 32) (.pointer (some ⟨L, 0, none⟩)) rfl rfl (by kernel_rfl) (by kernel_rfl) (by kernel_rfl) rfl (fun W hW => by obtain ⟨h0, h1, h2⟩ := hW; go_simp) tH1 ?_
        simp only [FL]
        refine hr_take_w 23 (some 33) (.pointer (some ⟨L, 0, none⟩)) rfl rfl (by kernel_rfl) (by kernel_rfl) (by kernel_rfl) rfl (fun W hW => by obtain ⟨h0, h1, h2⟩ := hW; go_simp) tH1 ?_
        simp only [FL]
        refine hr_take_w 24 (some 34) (.int .i64 (g.f : Nat)) rfl rfl (by kernel_rfl) (by kernel_rfl) (by kernel_rfl) rfl (fun W hW => by obtain ⟨h0, h1, h2⟩ := hW; go_simp) tH1 ?_
        simp only [FL]
        refine hr_ex 19 (some 29) rfl rfl (by kernel_rfl) rfl (R := fun v w' => ∃ g, v = .slice (some ⟨g, 0, none⟩) x.sum.size (grownCap tv1 x.sum.size 0 5) ∧ Sl w' (some ⟨g, 0, none⟩) x.sum.size (grownCap tv1 x.sum.size 0 5) (sb x.sum) ∧ Below tv1.heap.size tv1 w') (by have hr := Lib.run_convert_string_bytes (P := Try.prog) tv1 9 35 5 x.sum Try.underlying9 Try.underlying35 Try.underlying5; exact ⟨_, _, by go_simp, _, rfl, bytesWorld_sl tv1 x.sum (by have := HX.sz; omega), bytesWorld_below tv1 x.sum⟩) ?_
        rintro v tv2 ⟨cg, rfl, tG0, tC1⟩
        have tE2 := tE1.trans (tC1.mono tE1.size)
        have tH2 := tHS.out tv2 tE2
        refine ⟨tH2, ?_⟩
        simp only [FL]
        refine hr_call_w 20 (some 30) 45 #[.pointer (some ⟨b.q, 0, none⟩), .slice (some ⟨cg, 0, none⟩) x.sum.size (grownCap tv1 x.sum.size 0 5)] rfl rfl (by kernel_rfl) rfl (by go_simp) (fun v w' => v = .int .i64 (cntV x.sum x.cv : Nat) ∧ Below tv2.heap.size tv2 w') ((count_sb tv2 b.q g.f x.cv (HX.Q.below tE2) _ _ _ x.sum tG0).mono (by
          rintro e w' ⟨rfl, C⟩
          exact ⟨_, rfl, rfl, C⟩)) ?_
        rintro v tv3 ⟨rfl, tC2⟩
        have tE3 := tE2.trans (tC2.mono tE2.size)
        have tH3 := tHS.out tv3 tE3
        refine ⟨tH3, ?_⟩
        simp only [FL]
        refine hr_call_w 25 (some 35) 46 #[.int .i64 (g.f : Nat)] rfl rfl (by kernel_rfl) rfl (by go_simp) (fun v w' => v = .int .i64 (2 * (g.f : Int) + 1) ∧ Below tv3.heap.size tv3 w') ((most_at tv3 g.f HG.f1 HG.f4).mono (by
          rintro e w' ⟨rfl, C⟩
          exact ⟨_, rfl, rfl, C⟩)) ?_
        rintro v tv4 ⟨rfl, tC3⟩
        have tE4 := tE3.trans (tC3.mono tE3.size)
        have tH4 := tHS.out tv4 tE4
        refine ⟨tH4, ?_⟩
        simp only [FL]
        refine hr_take_w 26 (some 36) (.bool false) rfl rfl (by kernel_rfl) (by kernel_rfl) (by kernel_rfl) rfl (fun W hW => by obtain ⟨h0, h1, h2⟩ := hW; go_simp) tH4 ?_
        simp only [FL]
        refine hr_take_w 27 (some 37) (.bool false) rfl rfl (by kernel_rfl) (by kernel_rfl) (by kernel_rfl) rfl (fun W hW => by obtain ⟨h0, h1, h2⟩ := hW; go_simp) tH4 ?_
        simp only [FL]
        refine wpAnyH_done (by kernel_rfl) ?_ _
        refine NoPanic.normal ?_
        have x1 := tH4.1
        go_wp2_with (refine stop_at (.convert 9 35 (Operand.tmp 42)) rfl ?_)
        refine ⟨?_⟩
        refine wpList_conv_bytes rfl (Operand.tmp 42) rfl x.sum rfl (by omega) ?_
        rintro gg cc w3 - S3 C3
        go_wp2
        go_ret2
        exact ⟨_, _, _, rfl, S3, tE4.trans (C3.mono tE4.size)⟩
      · have e3 : commS g.f x = false := by unfold commS; rw [hp, decide_eq_false hc]; rfl
        rw [e3]
        have i2 : (cntV x.sum x.cv : Int) < 2 * (g.f : Int) + 1 := by omega
        have d2 : decide ((cntV x.sum x.cv : Int) < 2 * (g.f : Int) + 1) = true := decide_eq_true i2
        clear e1 e2 hx e3
        go_enter Try.func19, Try.ntmps19
        go_wp2_with (go_at_call 43; refine CF.mono ?_; rintro e w1 ⟨rfl, hw1⟩; have hw1 := hw1.symm; subst hw1)
        go_wp2_with fail
        have tHS : Hid (∀ V, Below w.heap.size w V → V.cell? ⟨b.X, 1, none⟩ = some (.string x.sum) ∧ V.cell? ⟨b.X, 6, none⟩ = some (.pointer (some ⟨b.q, 0, none⟩)) ∧ V.cell? ⟨L, 0, none⟩ = some (.int .i64 (g.f : Nat))) := fun V hV => by have K := Arr.below HX.mem hV HX.lt; exact ⟨K.cell 1, K.cell 6, (HG.lc.below hV).cell 0⟩
        have tE0 : Below w.heap.size w w.drew := (Below.refl _ _).drew
        refine wp_region_noPanic ?_
        refine wp_region_held_drew (S := fun V => V.cell? ⟨b.X, 1, none⟩ = some (.string x.sum) ∧ V.cell? ⟨b.X, 6, none⟩ = some (.pointer (some ⟨b.q, 0, none⟩)) ∧ V.cell? ⟨L, 0, none⟩ = some (.int .i64 (g.f : Nat))) (by kernel_rfl) (tHS.out _ tE0) (fun tH0 => ?_)
        obtain ⟨tv0, hv0⟩ : ∃ v, v = w.drew := ⟨_, rfl⟩
        rw [← hv0] at tH0 tE0 ⊢
        clear hv0
        refine hr_take_w 0 (some 10) (.pointer (some ⟨b.X, 0, none⟩)) rfl rfl (by kernel_rfl) (by kernel_rfl) (by kernel_rfl) rfl (fun W hW => by obtain ⟨h0, h1, h2⟩ := hW; go_simp) tH0 ?_
        simp only [FL]
        refine hr_take_w 1 (some 11) (.bool false) rfl rfl (by kernel_rfl) (by kernel_rfl) (by kernel_rfl) rfl (fun W hW => by obtain ⟨h0, h1, h2⟩ := hW; go_simp) tH0 ?_
        simp only [FL]
        refine hr_take_w 2 (some 12) (.bool false) rfl rfl (by kernel_rfl) (by kernel_rfl) (by kernel_rfl) rfl (fun W hW => by obtain ⟨h0, h1, h2⟩ := hW; go_simp) tH0 ?_
        simp only [FL]
        refine hr_take_w 3 (some 13) (.pointer (some ⟨L, 0, none⟩)) rfl rfl (by kernel_rfl) (by kernel_rfl) (by kernel_rfl) rfl (fun W hW => by obtain ⟨h0, h1, h2⟩ := hW; go_simp) tH0 ?_
        simp only [FL]
        refine hr_take_w 4 (some 14) (.pointer (some ⟨b.X, 0, none⟩)) rfl rfl (by kernel_rfl) (by kernel_rfl) (by kernel_rfl) rfl (fun W hW => by obtain ⟨h0, h1, h2⟩ := hW; go_simp) tH0 ?_
        simp only [FL]
        refine hr_call_w 5 (some 15) 44 #[.pointer (some ⟨L, 0, none⟩), .pointer (some ⟨b.X, 0, none⟩)] rfl rfl (by kernel_rfl) rfl (by go_simp) (fun v w' => v = .bool (prepS g.f x) ∧ Below tv0.heap.size tv0 w') ((isPrep_any tv0 L g.f g.low g.view M (HG.lc.below tE0) HG.f4 b x (HXB tv0 tE0)).mono (by
          rintro e w' ⟨rfl, C⟩
          exact ⟨_, rfl, rfl, C⟩)) ?_
        rintro v tv1 ⟨rfl, tC0⟩
        have tE1 := tE0.trans (tC0.mono tE0.size)
        have tH1 := tHS.out tv1 tE1
        refine ⟨tH1, ?_⟩
        simp only [FL]
        refine hr_take_w 6 (some 16) (.bool false) rfl rfl (by kernel_rfl) (by kernel_rfl) (by kernel_rfl) rfl (fun W hW => by obtain ⟨h0, h1, h2⟩ := hW; go_simp) tH1 ?_
        simp only [FL]
        refine hr_take_w 7 (some 17) (.bool false) rfl rfl (by kernel_rfl) (by kernel_rfl) (by kernel_rfl) rfl (fun W hW => by obtain ⟨h0, h1, h2⟩ := hW; go_simp) tH1 ?_
        simp only [FL]
        refine hr_take_w 8 (some 18) (.bool false) rfl rfl (by kernel_rfl) (by kernel_rfl) (by kernel_rfl) rfl (fun W hW => by obtain ⟨h0, h1, h2⟩ := hW; go_simp) tH1 ?_
        simp only [FL]
        refine hr_take_w 9 (some 19) (.pointer (some ⟨b.X, 0, none⟩)) rfl rfl (by kernel_rfl) (by kernel_rfl) (by kernel_rfl) rfl (fun W hW => by obtain ⟨h0, h1, h2⟩ := hW; go_simp) tH1 ?_
        simp only [FL]
        refine hr_take_w 10 (some 20) (.pointer (some ⟨b.X, 0, none⟩)) rfl rfl (by kernel_rfl) (by kernel_rfl) (by kernel_rfl) rfl (fun W hW => by obtain ⟨h0, h1, h2⟩ := hW; go_simp) tH1 ?_
        simp only [FL]
        refine hr_take_w 11 (some 21) (.pointer (some ⟨b.X, 0, none⟩)) rfl rfl (by kernel_rfl) (by kernel_rfl) (by kernel_rfl) rfl (fun W hW => by obtain ⟨h0, h1, h2⟩ := hW; go_simp) tH1 ?_
        simp only [FL]
        refine hr_take_w 12 (some 22) (.pointer (some ⟨b.X, 6, none⟩)) rfl rfl (by kernel_rfl) (by kernel_rfl) (by kernel_rfl) rfl (fun W hW => by obtain ⟨h0, h1, h2⟩ := hW; go_simp) tH1 ?_
        simp only [FL]
        refine hr_take_w 13 (some 23) (.pointer (some ⟨b.q, 0, none⟩)) rfl rfl (by kernel_rfl) (by kernel_rfl) (by kernel_rfl) rfl (fun W hW => by obtain ⟨h0, h1, h2⟩ := hW; go_simp) tH1 ?_
        simp only [FL]
        refine hr_take_w 14 (some 24) (.pointer (some ⟨b.X, 0, none⟩)) rfl rfl (by kernel_rfl) (by kernel_rfl) (by kernel_rfl) rfl (fun W hW => by obtain ⟨h0, h1, h2⟩ := hW; go_simp) tH1 ?_
        simp only [FL]
        refine hr_take_w 15 (some 25) (.pointer (some ⟨b.X, 0, none⟩)) rfl rfl (by kernel_rfl) (by kernel_rfl) (by kernel_rfl) rfl (fun W hW => by obtain ⟨h0, h1, h2⟩ := hW; go_simp) tH1 ?_
        simp only [FL]
        refine hr_take_w 16 (some 26) (.pointer (some ⟨b.X, 0, none⟩)) rfl rfl (by kernel_rfl) (by kernel_rfl) (by kernel_rfl) rfl (fun W hW => by obtain ⟨h0, h1, h2⟩ := hW; go_simp) tH1 ?_
        simp only [FL]
        refine hr_take_w 17 (some 27) (.pointer (some ⟨b.X, 1, none⟩)) rfl rfl (by kernel_rfl) (by kernel_rfl) (by kernel_rfl) rfl (fun W hW => by obtain ⟨h0, h1, h2⟩ := hW; go_simp) tH1 ?_
        simp only [FL]
        refine hr_take_w 18 (some 28) (.string x.sum) rfl rfl (by kernel_rfl) (by kernel_rfl) (by kernel_rfl) rfl (fun W hW => by obtain ⟨h0, h1, h2⟩ := hW; go_simp) tH1 ?_
        simp only [FL]
        refine hr_take_w 21 (some 31) (.pointer (some ⟨L, 0, none⟩)) rfl rfl (by kernel_rfl) (by kernel_rfl) (by kernel_rfl) rfl (fun W hW => by obtain ⟨h0, h1, h2⟩ := hW; go_simp) tH1 ?_
        simp only [FL]
        refine hr_take_w 22 (some 32) (.pointer (some ⟨L, 0, none⟩)) rfl rfl (by kernel_rfl) (by kernel_rfl) (by kernel_rfl) rfl (fun W hW => by obtain ⟨h0, h1, h2⟩ := hW; go_simp) tH1 ?_
        simp only [FL]
        refine hr_take_w 23 (some 33) (.pointer (some ⟨L, 0, none⟩)) rfl rfl (by kernel_rfl) (by kernel_rfl) (by kernel_rfl) rfl (fun W hW => by obtain ⟨h0, h1, h2⟩ := hW; go_simp) tH1 ?_
        simp only [FL]
        refine hr_take_w 24 (some 34) (.int .i64 (g.f : Nat)) rfl rfl (by kernel_rfl) (by kernel_rfl) (by kernel_rfl) rfl (fun W hW => by obtain ⟨h0, h1, h2⟩ := hW; go_simp) tH1 ?_
        simp only [FL]
        refine hr_ex 19 (some 29) rfl rfl (by kernel_rfl) rfl (R := fun v w' => ∃ g, v = .slice (some ⟨g, 0, none⟩) x.sum.size (grownCap tv1 x.sum.size 0 5) ∧ Sl w' (some ⟨g, 0, none⟩) x.sum.size (grownCap tv1 x.sum.size 0 5) (sb x.sum) ∧ Below tv1.heap.size tv1 w') (by have hr := Lib.run_convert_string_bytes (P := Try.prog) tv1 9 35 5 x.sum Try.underlying9 Try.underlying35 Try.underlying5; exact ⟨_, _, by go_simp, _, rfl, bytesWorld_sl tv1 x.sum (by have := HX.sz; omega), bytesWorld_below tv1 x.sum⟩) ?_
        rintro v tv2 ⟨cg, rfl, tG0, tC1⟩
        have tE2 := tE1.trans (tC1.mono tE1.size)
        have tH2 := tHS.out tv2 tE2
        refine ⟨tH2, ?_⟩
        simp only [FL]
        refine hr_call_w 20 (some 30) 45 #[.pointer (some ⟨b.q, 0, none⟩), .slice (some ⟨cg, 0, none⟩) x.sum.size (grownCap tv1 x.sum.size 0 5)] rfl rfl (by kernel_rfl) rfl (by go_simp) (fun v w' => v = .int .i64 (cntV x.sum x.cv : Nat) ∧ Below tv2.heap.size tv2 w') ((count_sb tv2 b.q g.f x.cv (HX.Q.below tE2) _ _ _ x.sum tG0).mono (by
          rintro e w' ⟨rfl, C⟩
          exact ⟨_, rfl, rfl, C⟩)) ?_
        rintro v tv3 ⟨rfl, tC2⟩
        have tE3 := tE2.trans (tC2.mono tE2.size)
        have tH3 := tHS.out tv3 tE3
        refine ⟨tH3, ?_⟩
        simp only [FL]
        refine hr_call_w 25 (some 35) 46 #[.int .i64 (g.f : Nat)] rfl rfl (by kernel_rfl) rfl (by go_simp) (fun v w' => v = .int .i64 (2 * (g.f : Int) + 1) ∧ Below tv3.heap.size tv3 w') ((most_at tv3 g.f HG.f1 HG.f4).mono (by
          rintro e w' ⟨rfl, C⟩
          exact ⟨_, rfl, rfl, C⟩)) ?_
        rintro v tv4 ⟨rfl, tC3⟩
        have tE4 := tE3.trans (tC3.mono tE3.size)
        have tH4 := tHS.out tv4 tE4
        refine ⟨tH4, ?_⟩
        simp only [FL]
        refine hr_take_w 26 (some 36) (.bool true) rfl rfl (by kernel_rfl) (by kernel_rfl) (by kernel_rfl) rfl (fun W hW => by obtain ⟨h0, h1, h2⟩ := hW; go_simp) tH4 ?_
        simp only [FL]
        refine hr_take_w 27 (some 37) (.bool true) rfl rfl (by kernel_rfl) (by kernel_rfl) (by kernel_rfl) rfl (fun W hW => by obtain ⟨h0, h1, h2⟩ := hW; go_simp) tH4 ?_
        simp only [FL]
        refine wpAnyH_done (by kernel_rfl) ?_ _
        refine NoPanic.normal ?_
        go_wp2
        go_ret2
        exact ⟨none, 0, 0, rfl, Sl.nothing _, tE4⟩
def RetN (w : World) (o : Option CT) (e : Ending) (w' : World) : Prop := ∃ ao n cap, e = .returned (.tuple #[.int .u64 (cvw o : Nat), .slice ao n cap, .bool o.isSome]) ∧ Sl w' ao n cap (match o with | none => [] | some s => sb s.sum) ∧ Below w.heap.size w w' ∧ ∀ z, sblk ao n z → w.heap.size ≤ z
set_option maxRecDepth 100000 in
set_option maxHeartbeats 4000000 in
theorem best_new15 (w : World) (base L M n : Nat) (g : GT) (F : Value → Option Value) (B : Nat → SB) (ρ : Nat → Nat) (HG : LG w base L M n g F B ρ) (seq : Nat) (hs : seq < 18446744073709551616) :
    Calls Try.prog 21 #[.pointer (some ⟨L, 0, none⟩), .int .u64 (seq : Nat)] w (RetN w (crtO g seq)) := by
  have CF := find_any w base L M n g F B ρ HG seq hs
  cases hx : g.s seq with
  | none =>
    have e1 : ptrS B g seq = .pointer none := by unfold ptrS; rw [hx]; rfl
    have e2 : crtO g seq = none := by unfold crtO; rw [hx]; rfl
    rw [e1] at CF
    rw [e2]
    clear e1 e2 HG hx
    go_enter Try.func21, Try.ntmps21
    go_wp2_with (go_at_call 43; refine CF.mono ?_; rintro e w1 ⟨rfl, hw1⟩; have hw1 := hw1.symm; subst hw1)
    go_ret3
    exact ⟨none, 0, 0, rfl, Sl.nothing _, Below.refl _ _, fun z hz => by obtain ⟨a, ha, _⟩ := hz; cases ha⟩
  | some x =>
    have e1 : ptrS B g seq = .pointer (some ⟨(B seq).X, 0, none⟩) := by unfold ptrS; rw [hx]; rfl
    have e2 : crtO g seq = x.cert := by unfold crtO; rw [hx]; rfl
    obtain ⟨-, HX⟩ := HG.here seq x hx
    have sz := HX.cz
    have x7 : w.cell? ⟨(B seq).X, 7, none⟩ = some (.bool x.cert.isSome) := HX.cell 7
    rw [e1] at CF
    rw [e2]
    generalize B seq = b at *
    cases hc : x.cert with
    | none =>
      rw [hc] at x7
      clear e1 e2 HG hx HX hc sz
      go_enter Try.func21, Try.ntmps21
      go_wp2_with (go_at_call 43; refine CF.mono ?_; rintro e w1 ⟨rfl, hw1⟩; have hw1 := hw1.symm; subst hw1)
      go_ret3
      exact ⟨none, 0, 0, rfl, Sl.nothing _, Below.refl _ _, fun z hz => by obtain ⟨a, ha, _⟩ := hz; cases ha⟩
    | some c =>
      rw [← hc]
      have hi : x.cert.isSome = true := by rw [hc]; rfl
      rw [hi] at x7
      have HC : Hid (x.cert = some c) := hc
      clear e1 e2 hx hc
      go_enter Try.func21, Try.ntmps21
      go_wp2_with (go_at_call 43; refine CF.mono ?_; rintro e w1 ⟨rfl, hw1⟩; have hw1 := hw1.symm; subst hw1)
      go_wp2_with fail
      have tHS : Hid (∀ V, Below w.heap.size w V → V.cell? ⟨b.X, 8, none⟩ = some (.int .u64 (cvw x.cert : Nat)) ∧ V.cell? ⟨b.X, 9, none⟩ = some (.string (csm x.cert))) := fun V hV => by have K := Arr.below HX.mem hV HX.lt; exact ⟨K.cell 8, K.cell 9⟩
      have tE0 : Below w.heap.size w w.drew := (Below.refl _ _).drew
      refine wp_region_noPanic ?_
      refine wp_region_held_drew (S := fun V => V.cell? ⟨b.X, 8, none⟩ = some (.int .u64 (cvw x.cert : Nat)) ∧ V.cell? ⟨b.X, 9, none⟩ = some (.string (csm x.cert))) (by kernel_rfl) (tHS.out _ tE0) (fun tH0 => ?_)
      obtain ⟨tv0, hv0⟩ : ∃ v, v = w.drew := ⟨_, rfl⟩
      rw [← hv0] at tH0 tE0 ⊢
      clear hv0
      refine hr_take_w 0 (some 21) (.pointer (some ⟨b.X, 0, none⟩)) rfl rfl (by kernel_rfl) (by kernel_rfl) (by kernel_rfl) rfl (fun W hW => by obtain ⟨h0, h1⟩ := hW; go_simp) tH0 ?_
      simp only [FL]
      refine hr_take_w 1 (some 22) (.pointer (some ⟨b.X, 0, none⟩)) rfl rfl (by kernel_rfl) (by kernel_rfl) (by kernel_rfl) rfl (fun W hW => by obtain ⟨h0, h1⟩ := hW; go_simp) tH0 ?_
      simp only [FL]
      refine hr_take_w 2 (some 23) (.pointer (some ⟨b.X, 7, none⟩)) rfl rfl (by kernel_rfl) (by kernel_rfl) (by kernel_rfl) rfl (fun W hW => by obtain ⟨h0, h1⟩ := hW; go_simp) tH0 ?_
      simp only [FL]
      refine hr_take_w 3 (some 24) (.pointer (some ⟨b.X, 8, none⟩)) rfl rfl (by kernel_rfl) (by kernel_rfl) (by kernel_rfl) rfl (fun W hW => by obtain ⟨h0, h1⟩ := hW; go_simp) tH0 ?_
      simp only [FL]
      refine hr_take_w 4 (some 25) (.int .u64 (cvw x.cert : Nat)) rfl rfl (by kernel_rfl) (by kernel_rfl) (by kernel_rfl) rfl (fun W hW => by obtain ⟨h0, h1⟩ := hW; go_simp) tH0 ?_
      simp only [FL]
      refine hr_take_w 5 (some 26) (.pointer (some ⟨b.X, 0, none⟩)) rfl rfl (by kernel_rfl) (by kernel_rfl) (by kernel_rfl) rfl (fun W hW => by obtain ⟨h0, h1⟩ := hW; go_simp) tH0 ?_
      simp only [FL]
      refine hr_take_w 6 (some 27) (.pointer (some ⟨b.X, 0, none⟩)) rfl rfl (by kernel_rfl) (by kernel_rfl) (by kernel_rfl) rfl (fun W hW => by obtain ⟨h0, h1⟩ := hW; go_simp) tH0 ?_
      simp only [FL]
      refine hr_take_w 7 (some 28) (.pointer (some ⟨b.X, 7, none⟩)) rfl rfl (by kernel_rfl) (by kernel_rfl) (by kernel_rfl) rfl (fun W hW => by obtain ⟨h0, h1⟩ := hW; go_simp) tH0 ?_
      simp only [FL]
      refine hr_take_w 8 (some 29) (.pointer (some ⟨b.X, 9, none⟩)) rfl rfl (by kernel_rfl) (by kernel_rfl) (by kernel_rfl) rfl (fun W hW => by obtain ⟨h0, h1⟩ := hW; go_simp) tH0 ?_
      simp only [FL]
      refine hr_take_w 9 (some 30) (.string (csm x.cert)) rfl rfl (by kernel_rfl) (by kernel_rfl) (by kernel_rfl) rfl (fun W hW => by obtain ⟨h0, h1⟩ := hW; go_simp) tH0 ?_
      simp only [FL]
      refine hr_take_w 11 (some 4) (.int .u64 (cvw x.cert : Nat)) rfl rfl (by kernel_rfl) (by kernel_rfl) (by kernel_rfl) rfl (fun W hW => by obtain ⟨h0, h1⟩ := hW; go_simp) tH0 ?_
      simp only [FL]
      refine hr_ex 10 (some 31) rfl rfl (by kernel_rfl) rfl (R := fun v w' => ∃ g, v = .slice (some ⟨g, 0, none⟩) (csm x.cert).size (grownCap tv0 (csm x.cert).size 0 5) ∧ (Sl w' (some ⟨g, 0, none⟩) (csm x.cert).size (grownCap tv0 (csm x.cert).size 0 5) (sb (csm x.cert)) ∧ tv0.heap.size ≤ g) ∧ Below tv0.heap.size tv0 w') (by have hr := Lib.run_convert_string_bytes (P := Try.prog) tv0 9 35 5 (csm x.cert) Try.underlying9 Try.underlying35 Try.underlying5; exact ⟨_, _, by go_simp, _, rfl, ⟨bytesWorld_sl tv0 (csm x.cert) (by have := HX.cz; omega), Nat.le_refl _⟩, bytesWorld_below tv0 (csm x.cert)⟩) ?_
      rintro v tv1 ⟨cg, rfl, tG0, tC0⟩
      have tE1 := tE0.trans (tC0.mono tE0.size)
      have tH1 := tHS.out tv1 tE1
      refine ⟨tH1, ?_⟩
      simp only [FL]
      refine hr_take_w 12 (some 5) (.slice (some ⟨cg, 0, none⟩) (csm x.cert).size (grownCap tv0 (csm x.cert).size 0 5)) rfl rfl (by kernel_rfl) (by kernel_rfl) (by kernel_rfl) rfl (fun W hW => by obtain ⟨h0, h1⟩ := hW; go_simp) tH1 ?_
      simp only [FL]
      refine hr_take_w 13 (some 6) (.bool true) rfl rfl (by kernel_rfl) (by kernel_rfl) (by kernel_rfl) rfl (fun W hW => by obtain ⟨h0, h1⟩ := hW; go_simp) tH1 ?_
      simp only [FL]
      refine wpAnyH_done (by kernel_rfl) ?_ _
      refine NoPanic.normal ?_
      go_wp2
      go_ret3
      refine ⟨_, _, _, by rw [hi]; rfl, ?_, tE1, fun z hz => ?_⟩
      · rw [HC.out] at tG0 ⊢
        exact tG0.1
      · obtain ⟨a, ha, _, e⟩ := hz
        have ha := Option.some.inj ha
        subst ha
        have := tE0.size
        have := tG0.2
        have e : cg = z := e
        omega
end Go.Proofs.Ytbpbcmbcoffdlaa

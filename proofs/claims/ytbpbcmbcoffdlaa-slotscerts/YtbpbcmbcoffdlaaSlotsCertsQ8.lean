/-
  Texts in one: SlAsk.
-/
import Derived.Test.YtbpbcmbcoffdlaaSlotsCertsQFL
import Derived.Test.YtbpbcmbcoffdlaaSlotsCertsQ3
import Derived.Test.YtbpbcmbcoffdlaaSlotsCertsQ1
import Derived.OwnWalk
namespace Go.Proofs.Ytbpbcmbcoffdlaa
open Go.RowKit
def ptrS (B : Nat → SB) (g : GT) (seq : Nat) : Value := if (g.s seq).isSome = true then .pointer (some ⟨(B seq).X, 0, none⟩) else .pointer none
theorem find_any (w : World) (base L M n : Nat) (g : GT) (F : Value → Option Value) (B : Nat → SB) (ρ : Nat → Nat) (h : LG w base L M n g F B ρ) (seq : Nat) (hs : seq < 18446744073709551616) :
    Calls Try.prog 43 #[.pointer (some ⟨L, 0, none⟩), .int .u64 (seq : Nat)] w fun e w' => e = .returned (ptrS B g seq) ∧ w' = w := by
  have x3 : w.cell? ⟨L, 3, none⟩ = some (.map (some M)) := h.lc.cell 3
  have hl := h.mf.look1 kU Try.underlying67 (zSlot w) (keyU seq hs)
  have hp : Hid ((F (.int .u64 (seq : Nat))).getD (.pointer none) = ptrS B g seq) := by
    show _ = _
    unfold ptrS
    cases hx : g.s seq with
    | none =>
      rw [h.none_at hx]
      rfl
    | some x =>
      rw [(h.here seq x hx).1]
      rfl
  rw [hp.out] at hl
  generalize ptrS B g seq = pv at *
  clear h hp
  go_enter Try.func43, Try.ntmps43
  go_wp2
  go_ret
  exact ⟨rfl, rfl⟩
def preO (g : GT) (seq : Nat) : Bool := match g.s seq with | none => false | some x => prepS g.f x
def crtO (g : GT) (seq : Nat) : Option CT := (g.s seq).bind ST.cert
set_option maxRecDepth 100000 in
set_option maxHeartbeats 4000000 in
theorem prep_any15 (w : World) (base L M n : Nat) (g : GT) (F : Value → Option Value) (B : Nat → SB) (ρ : Nat → Nat) (HG : LG w base L M n g F B ρ) (seq : Nat) (hs : seq < 18446744073709551616) :
    Calls Try.prog 20 #[.pointer (some ⟨L, 0, none⟩), .int .u64 (seq : Nat)] w (fun e w' => e = .returned (.bool (preO g seq)) ∧ Below w.heap.size w w') := by
  have CF := find_any w base L M n g F B ρ HG seq hs
  cases hx : g.s seq with
  | none =>
    have e1 : ptrS B g seq = .pointer none := by unfold ptrS; rw [hx]; rfl
    have e2 : preO g seq = false := by unfold preO; rw [hx]
    rw [e1] at CF
    rw [e2]
    clear e1 e2 HG hx
    go_enter Try.func20, Try.ntmps20
    go_wp2_with (go_at_call 43; refine CF.mono ?_; rintro e w1 ⟨rfl, hw1⟩; have hw1 := hw1.symm; subst hw1)
    go_ret
    exact ⟨rfl, Below.refl _ _⟩
  | some x =>
    have e1 : ptrS B g seq = .pointer (some ⟨(B seq).X, 0, none⟩) := by unfold ptrS; rw [hx]; rfl
    have e2 : preO g seq = prepS g.f x := by unfold preO; rw [hx]
    obtain ⟨-, HX⟩ := HG.here seq x hx
    have CP := isPrep_any w L g.f g.low g.view M HG.lc HG.f4 (B seq) x HX
    rw [e1] at CF
    rw [e2]
    clear e1 e2 HG hx HX
    go_enter Try.func20, Try.ntmps20
    go_wp2_with (first
      | (go_at_call 43; refine CF.mono ?_; rintro e w1 ⟨rfl, hw1⟩; have hw1 := hw1.symm; subst hw1)
      | (go_at_call 44; refine CP.mono ?_; rintro e w2 ⟨rfl, E2⟩))
    go_ret
    exact ⟨rfl, E2⟩
def RetN (w : World) (o : Option CT) (e : Ending) (w' : World) : Prop := ∃ ao n cap, e = .returned (.tuple #[.int .u64 (cvw o : Nat), .slice ao n cap, .bool o.isSome]) ∧ Sl w' ao n cap (match o with | none => [] | some s => sb s.sum) ∧ Below w.heap.size w w' ∧ ∀ z, sblk ao n z → w.heap.size ≤ z
set_option maxRecDepth 100000 in
set_option maxHeartbeats 4000000 in
theorem best_new15 (w : World) (base L M n : Nat) (g : GT) (F : Value → Option Value) (B : Nat → SB) (ρ : Nat → Nat) (HG : LG w base L M n g F B ρ) (seq : Nat) (hs : seq < 18446744073709551616) :
    Calls Try.prog 21 #[.pointer (some ⟨L, 0, none⟩), .int .u64 (seq : Nat)] w (RetN w (crtO g seq)) := by
  have CF := find_any w base L M n g F B ρ HG seq hs
  cases hx : g.s seq with
  | none =>
    have e1 : ptrS B g seq = .pointer none := by unfold ptrS; rw [hx]; rfl
    have e2 : crtO g seq = none := by unfold crtO; rw [hx]; rfl
    rw [e1] at CF
    rw [e2]
    clear e1 e2 HG hx
    go_enter Try.func21, Try.ntmps21
    go_wp2_with (go_at_call 43; refine CF.mono ?_; rintro e w1 ⟨rfl, hw1⟩; have hw1 := hw1.symm; subst hw1)
    go_ret3
    exact ⟨none, 0, 0, rfl, Sl.nothing _, Below.refl _ _, fun z hz => by obtain ⟨a, ha, _⟩ := hz; cases ha⟩
  | some x =>
    have e1 : ptrS B g seq = .pointer (some ⟨(B seq).X, 0, none⟩) := by unfold ptrS; rw [hx]; rfl
    have e2 : crtO g seq = x.cert := by unfold crtO; rw [hx]; rfl
    obtain ⟨-, HX⟩ := HG.here seq x hx
    have sz := HX.cz
    have x7 : w.cell? ⟨(B seq).X, 7, none⟩ = some (.bool x.cert.isSome) := HX.cell 7
    rw [e1] at CF
    rw [e2]
    generalize B seq = b at *
    cases hc : x.cert with
    | none =>
      rw [hc] at x7
      clear e1 e2 HG hx HX hc sz
      go_enter Try.func21, Try.ntmps21
      go_wp2_with (go_at_call 43; refine CF.mono ?_; rintro e w1 ⟨rfl, hw1⟩; have hw1 := hw1.symm; subst hw1)
      go_ret3
      exact ⟨none, 0, 0, rfl, Sl.nothing _, Below.refl _ _, fun z hz => by obtain ⟨a, ha, _⟩ := hz; cases ha⟩
    | some c =>
      rw [← hc]
      have hi : x.cert.isSome = true := by rw [hc]; rfl
      rw [hi] at x7
      have HC : Hid (x.cert = some c) := hc
      clear e1 e2 hx hc
      go_enter Try.func21, Try.ntmps21
      go_wp2_with (go_at_call 43; refine CF.mono ?_; rintro e w1 ⟨rfl, hw1⟩; have hw1 := hw1.symm; subst hw1)
      go_wp2_with fail
      have tHS : Hid (∀ V, Below w.heap.size w V → V.cell? ⟨b.X, 8, none⟩ = some (.int .u64 (cvw x.cert : Nat)) ∧ V.cell? ⟨b.X, 9, none⟩ = some (.string (csm x.cert))) := fun V hV => by have K := Arr.below HX.mem hV HX.lt; exact ⟨K.cell 8, K.cell 9⟩
      have tE0 : Below w.heap.size w w.drew := (Below.refl _ _).drew
      refine wp_region_noPanic ?_
      refine wp_region_held_drew (S := fun V => V.cell? ⟨b.X, 8, none⟩ = some (.int .u64 (cvw x.cert : Nat)) ∧ V.cell? ⟨b.X, 9, none⟩ = some (.string (csm x.cert))) (by kernel_rfl) (tHS.out _ tE0) (fun tH0 => ?_)
      obtain ⟨tv0, hv0⟩ : ∃ v, v = w.drew := ⟨_, rfl⟩
      rw [← hv0] at tH0 tE0 ⊢
      clear hv0
      refine hr_take_w 0 (some 21) (.pointer (some ⟨b.X, 0, none⟩)) rfl rfl (by kernel_rfl) (by kernel_rfl) (by kernel_rfl) rfl (fun W hW => by obtain ⟨h0, h1⟩ := hW; go_simp) tH0 ?_
      simp only [FL]
      refine hr_take_w 1 (some 22) (.pointer (some ⟨b.X, 0, none⟩)) rfl rfl (by kernel_rfl) (by kernel_rfl) (by kernel_rfl) rfl (fun W hW => by obtain ⟨h0, h1⟩ := hW; go_simp) tH0 ?_
      simp only [FL]
      refine hr_take_w 2 (some 23) (.pointer (some ⟨b.X, 7, none⟩)) rfl rfl (by kernel_rfl) (by kernel_rfl) (by kernel_rfl) rfl (fun W hW => by obtain ⟨h0, h1⟩ := hW; go_simp) tH0 ?_
      simp only [FL]
      refine hr_take_w 3 (some 24) (.pointer (some ⟨b.X, 8, none⟩)) rfl rfl (by kernel_rfl) (by kernel_rfl) (by kernel_rfl) rfl (fun W hW => by obtain ⟨h0, h1⟩ := hW; go_simp) tH0 ?_
      simp only [FL]
      refine hr_take_w 4 (some 25) (.int .u64 (cvw x.cert : Nat)) rfl rfl (by kernel_rfl) (by kernel_rfl) (by kernel_rfl) rfl (fun W hW => by obtain ⟨h0, h1⟩ := hW; go_simp) tH0 ?_
      simp only [FL]
      refine hr_take_w 5 (some 26) (.pointer (some ⟨b.X, 0, none⟩)) rfl rfl (by kernel_rfl) (by kernel_rfl) (by kernel_rfl) rfl (fun W hW => by obtain ⟨h0, h1⟩ := hW; go_simp) tH0 ?_
      simp only [FL]
      refine hr_take_w 6 (some 27) (.pointer (some ⟨b.X, 0, none⟩)) rfl rfl (by kernel_rfl) (by kernel_rfl) (by kernel_rfl) rfl (fun W hW => by obtain ⟨h0, h1⟩ := hW; go_simp) tH0 ?_
      simp only [FL]
      refine hr_take_w 7 (some 28) (.pointer (some ⟨b.X, 7, none⟩)) rfl rfl (by kernel_rfl) (by kernel_rfl) (by kernel_rfl) rfl (fun W hW => by obtain ⟨h0, h1⟩ := hW; go_simp) tH0 ?_
      simp only [FL]
      refine hr_take_w 8 (some 29) (.pointer (some ⟨b.X, 9, none⟩)) rfl rfl (by kernel_rfl) (by kernel_rfl) (by kernel_rfl) rfl (fun W hW => by obtain ⟨h0, h1⟩ := hW; go_simp) tH0 ?_
      simp only [FL]
      refine hr_take_w 9 (some 30) (.string (csm x.cert)) rfl rfl (by kernel_rfl) (by kernel_rfl) (by kernel_rfl) rfl (fun W hW => by obtain ⟨h0, h1⟩ := hW; go_simp) tH0 ?_
      simp only [FL]
      refine hr_take_w 11 (some 4) (.int .u64 (cvw x.cert : Nat)) rfl rfl (by kernel_rfl) (by kernel_rfl) (by kernel_rfl) rfl (fun W hW => by obtain ⟨h0, h1⟩ := hW; go_simp) tH0 ?_
      simp only [FL]
      refine hr_ex 10 (some 31) rfl rfl (by kernel_rfl) rfl (R := fun v w' => ∃ g, v = .slice (some ⟨g, 0, none⟩) (csm x.cert).size (grownCap tv0 (csm x.cert).size 0 5) ∧ (Sl w' (some ⟨g, 0, none⟩) (csm x.cert).size (grownCap tv0 (csm x.cert).size 0 5) (sb (csm x.cert)) ∧ tv0.heap.size ≤ g) ∧ Below tv0.heap.size tv0 w') (by have hr := Lib.run_convert_string_bytes (P := Try.prog) tv0 9 35 5 (csm x.cert) Try.underlying9 Try.underlying35 Try.underlying5; exact ⟨_, _, by go_simp, _, rfl, ⟨bytesWorld_sl tv0 (csm x.cert) (by have := HX.cz; omega), Nat.le_refl _⟩, bytesWorld_below tv0 (csm x.cert)⟩) ?_
      rintro v tv1 ⟨cg, rfl, tG0, tC0⟩
      have tE1 := tE0.trans (tC0.mono tE0.size)
      have tH1 := tHS.out tv1 tE1
      refine ⟨tH1, ?_⟩
      simp only [FL]
      refine hr_take_w 12 (some 5) (.slice (some ⟨cg, 0, none⟩) (csm x.cert).size (grownCap tv0 (csm x.cert).size 0 5)) rfl rfl (by kernel_rfl) (by kernel_rfl) (by kernel_rfl) rfl (fun W hW => by obtain ⟨h0, h1⟩ := hW; go_simp) tH1 ?_
      simp only [FL]
      refine hr_take_w 13 (some 6) (.bool true) rfl rfl (by kernel_rfl) (by kernel_rfl) (by kernel_rfl) rfl (fun W hW => by obtain ⟨h0, h1⟩ := hW; go_simp) tH1 ?_
      simp only [FL]
      refine wpAnyH_done (by kernel_rfl) ?_ _
      refine NoPanic.normal ?_
      go_wp2
      go_ret3
      refine ⟨_, _, _, by rw [hi]; rfl, ?_, tE1, fun z hz => ?_⟩
      · rw [HC.out] at tG0 ⊢
        exact tG0.1
      · obtain ⟨a, ha, _, e⟩ := hz
        have ha := Option.some.inj ha
        subst ha
        have := tE0.size
        have := tG0.2
        have e : cg = z := e
        omega
end Go.Proofs.Ytbpbcmbcoffdlaa

/-
  Texts in one: SlAsk.
-/
import Derived.Test.YtbpbcmbcoffdlaaSlotsNilsQFL
import Derived.Test.YtbpbcmbcoffdlaaSlotsNilsQ3
import Derived.Test.YtbpbcmbcoffdlaaSlotsNilsQ1
import Derived.OwnWalk
namespace Go.Proofs.Ytbpbcmbcoffdlaa
open Go.RowKit
def ptrS (B : Nat → SB) (g : GT) (seq : Nat) : Value := if (g.s seq).isSome = true then .pointer (some ⟨(B seq).X, 0, none⟩) else .pointer none
theorem find_nil (w : World) (v : Value) : Calls Try.prog 43 #[.pointer none, v] w fun e w' => e = .returned (.pointer none) ∧ w' = w := by
  go_enter Try.func43, Try.ntmps43
  go_wp2
  go_ret
  exact ⟨rfl, rfl⟩
theorem find_any (w : World) (base L M n : Nat) (g : GT) (F : Value → Option Value) (B : Nat → SB) (ρ : Nat → Nat) (h : LG w base L M n g F B ρ) (seq : Nat) (hs : seq < 18446744073709551616) :
    Calls Try.prog 43 #[.pointer (some ⟨L, 0, none⟩), .int .u64 (seq : Nat)] w fun e w' => e = .returned (ptrS B g seq) ∧ w' = w := by
  have x3 : w.cell? ⟨L, 3, none⟩ = some (.map (some M)) := h.lc.cell 3
  have hl := h.mf.look1 kU Try.underlying67 (zSlot w) (keyU seq hs)
  have hp : Hid ((F (.int .u64 (seq : Nat))).getD (.pointer none) = ptrS B g seq) := by
    show _ = _
    unfold ptrS
    cases hx : g.s seq with
    | none =>
      rw [h.none_at hx]
      rfl
    | some x =>
      rw [(h.here seq x hx).1]
      rfl
  rw [hp.out] at hl
  generalize ptrS B g seq = pv at *
  clear h hp
  go_enter Try.func43, Try.ntmps43
  go_wp2
  go_ret
  exact ⟨rfl, rfl⟩
def RetO (w : World) (o : Option ByteArray) (e : Ending) (w' : World) : Prop := ∃ ao n cap, e = .returned (.tuple #[.slice ao n cap, .bool o.isSome]) ∧ Sl w' ao n cap (match o with | none => [] | some s => sb s) ∧ Below w.heap.size w w'
def preO (g : GT) (seq : Nat) : Bool := match g.s seq with | none => false | some x => prepS g.f x
theorem sum_nil15 (w : World) (v : Value) : Calls Try.prog 25 #[.pointer none, v] w (RetO w none) := by
  have CF := find_nil w v
  go_enter Try.func25, Try.ntmps25
  go_wp2_with (go_at_call 43; refine CF.mono ?_; rintro e w1 ⟨rfl, hw1⟩; have hw1 := hw1.symm; subst hw1)
  go_ret2
  exact ⟨none, 0, 0, rfl, Sl.nothing _, Below.refl _ _⟩
theorem prep_nil15 (w : World) (v : Value) : Calls Try.prog 20 #[.pointer none, v] w fun e w' => e = .returned (.bool false) ∧ w' = w := by
  have CF := find_nil w v
  go_enter Try.func20, Try.ntmps20
  go_wp2_with (go_at_call 43; refine CF.mono ?_; rintro e w1 ⟨rfl, hw1⟩; have hw1 := hw1.symm; subst hw1)
  go_ret
  exact ⟨rfl, rfl⟩
set_option maxRecDepth 100000 in
set_option maxHeartbeats 4000000 in
theorem prep_any15 (w : World) (base L M n : Nat) (g : GT) (F : Value → Option Value) (B : Nat → SB) (ρ : Nat → Nat) (HG : LG w base L M n g F B ρ) (seq : Nat) (hs : seq < 18446744073709551616) :
    Calls Try.prog 20 #[.pointer (some ⟨L, 0, none⟩), .int .u64 (seq : Nat)] w (fun e w' => e = .returned (.bool (preO g seq)) ∧ Below w.heap.size w w') := by
  have CF := find_any w base L M n g F B ρ HG seq hs
  cases hx : g.s seq with
  | none =>
    have e1 : ptrS B g seq = .pointer none := by unfold ptrS; rw [hx]; rfl
    have e2 : preO g seq = false := by unfold preO; rw [hx]
    rw [e1] at CF
    rw [e2]
    clear e1 e2 HG hx
    go_enter Try.func20, Try.ntmps20
    go_wp2_with (go_at_call 43; refine CF.mono ?_; rintro e w1 ⟨rfl, hw1⟩; have hw1 := hw1.symm; subst hw1)
    go_ret
    exact ⟨rfl, Below.refl _ _⟩
  | some x =>
    have e1 : ptrS B g seq = .pointer (some ⟨(B seq).X, 0, none⟩) := by unfold ptrS; rw [hx]; rfl
    have e2 : preO g seq = prepS g.f x := by unfold preO; rw [hx]
    obtain ⟨-, HX⟩ := HG.here seq x hx
    have CP := isPrep_any w L g.f g.low g.view M HG.lc HG.f4 (B seq) x HX
    rw [e1] at CF
    rw [e2]
    clear e1 e2 HG hx HX
    go_enter Try.func20, Try.ntmps20
    go_wp2_with (first
      | (go_at_call 43; refine CF.mono ?_; rintro e w1 ⟨rfl, hw1⟩; have hw1 := hw1.symm; subst hw1)
      | (go_at_call 44; refine CP.mono ?_; rintro e w2 ⟨rfl, E2⟩))
    go_ret
    exact ⟨rfl, E2⟩
theorem comm_nil15 (w : World) (v : Value) : Calls Try.prog 19 #[.pointer none, v] w (RetO w none) := by
  have CF := find_nil w v
  go_enter Try.func19, Try.ntmps19
  go_wp2_with (go_at_call 43; refine CF.mono ?_; rintro e w1 ⟨rfl, hw1⟩; have hw1 := hw1.symm; subst hw1)
  go_wp2_with fail
  have tHS : Hid (∀ V, Below w.heap.size w V → True) := fun _ _ => trivial
  have tE0 : Below w.heap.size w w.drew := (Below.refl _ _).drew
  refine wp_region_noPanic ?_
  refine wp_region_held_drew (S := fun V => True) (by kernel_rfl) (tHS.out _ tE0) (fun tH0 => ?_)
  obtain ⟨tv0, hv0⟩ : ∃ v, v = w.drew := ⟨_, rfl⟩
  rw [← hv0] at tE0 ⊢
  clear hv0
  refine hr_take_w 0 (some 10) (.pointer none) rfl rfl (by kernel_rfl) (by kernel_rfl) (by kernel_rfl) rfl (fun W hW => by go_simp) tH0 ?_
  simp only [FL]
  refine hr_take_w 1 (some 11) (.bool true) rfl rfl (by kernel_rfl) (by kernel_rfl) (by kernel_rfl) rfl (fun W hW => by go_simp) tH0 ?_
  simp only [FL]
  refine hr_take_w 2 (some 12) (.bool true) rfl rfl (by kernel_rfl) (by kernel_rfl) (by kernel_rfl) rfl (fun W hW => by go_simp) tH0 ?_
  simp only [FL]
  refine hr_none 3 (some 13) rfl rfl (by kernel_rfl) (by kernel_rfl) (by kernel_rfl) rfl tH0 ?_
  simp only [FL]
  refine hr_none 4 (some 14) rfl rfl (by kernel_rfl) (by kernel_rfl) (by kernel_rfl) rfl tH0 ?_
  simp only [FL]
  refine hr_none 5 (some 15) rfl rfl (by kernel_rfl) (by kernel_rfl) (by kernel_rfl) rfl tH0 ?_
  simp only [FL]
  refine hr_none 6 (some 16) rfl rfl (by kernel_rfl) (by kernel_rfl) (by kernel_rfl) rfl tH0 ?_
  simp only [FL]
  refine hr_take_w 7 (some 17) (.bool true) rfl rfl (by kernel_rfl) (by kernel_rfl) (by kernel_rfl) rfl (fun W hW => by go_simp) tH0 ?_
  simp only [FL]
  refine hr_take_w 8 (some 18) (.bool true) rfl rfl (by kernel_rfl) (by kernel_rfl) (by kernel_rfl) rfl (fun W hW => by go_simp) tH0 ?_
  simp only [FL]
  refine hr_none 9 (some 19) rfl rfl (by kernel_rfl) (by kernel_rfl) (by kernel_rfl) rfl tH0 ?_
  simp only [FL]
  refine hr_none 10 (some 20) rfl rfl (by kernel_rfl) (by kernel_rfl) (by kernel_rfl) rfl tH0 ?_
  simp only [FL]
  refine hr_none 11 (some 21) rfl rfl (by kernel_rfl) (by kernel_rfl) (by kernel_rfl) rfl tH0 ?_
  simp only [FL]
  refine hr_none 12 (some 22) rfl rfl (by kernel_rfl) (by kernel_rfl) (by kernel_rfl) rfl tH0 ?_
  simp only [FL]
  refine hr_none 13 (some 23) rfl rfl (by kernel_rfl) (by kernel_rfl) (by kernel_rfl) rfl tH0 ?_
  simp only [FL]
  refine hr_none 14 (some 24) rfl rfl (by kernel_rfl) (by kernel_rfl) (by kernel_rfl) rfl tH0 ?_
  simp only [FL]
  refine hr_none 15 (some 25) rfl rfl (by kernel_rfl) (by kernel_rfl) (by kernel_rfl) rfl tH0 ?_
  simp only [FL]
  refine hr_none 16 (some 26) rfl rfl (by kernel_rfl) (by kernel_rfl) (by kernel_rfl) rfl tH0 ?_
  simp only [FL]
  refine hr_none 17 (some 27) rfl rfl (by kernel_rfl) (by kernel_rfl) (by kernel_rfl) rfl tH0 ?_
  simp only [FL]
  refine hr_none 18 (some 28) rfl rfl (by kernel_rfl) (by kernel_rfl) (by kernel_rfl) rfl tH0 ?_
  simp only [FL]
  refine hr_none 19 (some 29) rfl rfl (by kernel_rfl) (by kernel_rfl) (by kernel_rfl) rfl tH0 ?_
  simp only [FL]
  refine hr_none 20 (some 30) rfl rfl (by kernel_rfl) (by kernel_rfl) (by kernel_rfl) rfl tH0 ?_
  simp only [FL]
  refine hr_none 21 (some 31) rfl rfl (by kernel_rfl) (by kernel_rfl) (by kernel_rfl) rfl tH0 ?_
  simp only [FL]
  refine hr_none 22 (some 32) rfl rfl (by kernel_rfl) (by kernel_rfl) (by kernel_rfl) rfl tH0 ?_
  simp only [FL]
  refine hr_none 23 (some 33) rfl rfl (by kernel_rfl) (by kernel_rfl) (by kernel_rfl) rfl tH0 ?_
  simp only [FL]
  refine hr_none 24 (some 34) rfl rfl (by kernel_rfl) (by kernel_rfl) (by kernel_rfl) rfl tH0 ?_
  simp only [FL]
  refine hr_none 25 (some 35) rfl rfl (by kernel_rfl) (by kernel_rfl) (by kernel_rfl) rfl tH0 ?_
  simp only [FL]
  refine hr_none 26 (some 36) rfl rfl (by kernel_rfl) (by kernel_rfl) (by kernel_rfl) rfl tH0 ?_
  simp only [FL]
  refine hr_take_w 27 (some 37) (.bool true) rfl rfl (by kernel_rfl) (by kernel_rfl) (by kernel_rfl) rfl (fun W hW => by go_simp) tH0 ?_
  simp only [FL]
  refine wpAnyH_done (by kernel_rfl) ?_ _
  refine NoPanic.normal ?_
  go_wp2
  go_ret2
  exact ⟨none, 0, 0, rfl, Sl.nothing _, tE0⟩
def RetB (w : World) (o : Option CT) (e : Ending) (w' : World) : Prop := ∃ ao n cap, e = .returned (.tuple #[.int .u64 (cvw o : Nat), .slice ao n cap, .bool o.isSome]) ∧ Sl w' ao n cap (match o with | none => [] | some s => sb s.sum) ∧ Below w.heap.size w w'
theorem best_nil15 (w : World) (v : Value) : Calls Try.prog 21 #[.pointer none, v] w (RetB w none) := by
  have CF := find_nil w v
  go_enter Try.func21, Try.ntmps21
  go_wp2_with (go_at_call 43; refine CF.mono ?_; rintro e w1 ⟨rfl, hw1⟩; have hw1 := hw1.symm; subst hw1)
  go_ret3
  exact ⟨none, 0, 0, rfl, Sl.nothing _, Below.refl _ _⟩
end Go.Proofs.Ytbpbcmbcoffdlaa

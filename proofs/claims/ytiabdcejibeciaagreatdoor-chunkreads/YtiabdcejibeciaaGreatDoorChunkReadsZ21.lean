/-
  Texts in one: ReadsLaw9, Laid7, RowIn.
-/
import Derived.Test.YtiabdcejibeciaaGreatDoorChunkReadsZ15
import Derived.Test.YtiabdcejibeciaaGreatDoorChunkReadsZ18
import Derived.Test.YtiabdcejibeciaaGreatDoorChunkReadsZ20
import Derived.Test.YtiabdcejibeciaaGreatDoorRows
import Derived.Test.YtiabdcejibeciaaGreatDoorChunkReadsZ0
import Derived.ProofKit
import Derived.LaidMore
import Derived.Lay
import Derived.OpenShut
import Derived.Lib.LaidU8
import Derived.Stop.Joined
namespace Go.Proofs.YtiabdcejibeciaaGreatDoor
open Go.RowKit

theorem smI_nil : smI [] [] = true := rfl
theorem smI_it {a b : List IP} (h : a.map IP.it = b.map IP.it) : smI a b = true := by
  refine decide_eq_true ?_
  have e : ∀ l : List IP, l.map itP = (l.map IP.it).map fun x => (x.k, x.v) := fun l => by
    rw [List.map_map]
    rfl
  rw [e a, e b, h]

set_option maxHeartbeats 8000000 in
set_option maxRecDepth 100000 in
theorem chunkReads_any (W : World) (a0 : Option Addr) (n0 c0 : Nat) (x0 : List Int) (h0 : Sl W a0 n0 c0 x0) (hT : Tabs W) :
    Calls Tryz.prog 4 #[.slice a0 n0 c0] W fun e w' => e = .returned (.bool true) ∧ Below W.heap.size W w' := by
  have t2 := hT.two
  by_cases hbig : 20000 < n0
  · have hb : (20000 : Int) < (n0 : Int) := by omega
    have AL := alive9 W hT
    go_enter Tryz.func4, Tryz.ntmps4
    go_wp2_with fail
    refine AL.mono ?_
    rintro e w1 ⟨rfl, B⟩
    go_wp2
    go_ret
    exact ⟨rfl, B⟩
  have hb : ¬ (20000 : Int) < (n0 : Int) := by omega
  have CR := ckread_any W a0 n0 c0 x0 h0 (by omega)
  have CQ : ∀ V, Below W.heap.size W V → Calls Tryz.prog 13 #[.slice a0 n0 c0] V (RCkPost V (rdCk x0)) := fun V hV => rckread_any V a0 n0 c0 x0 (h0.below hV) (by omega)
  have HT : Hid (Tabs W) := hT
  cases hrd : rdCk x0 with
  | inl z =>
    rw [hrd] at CR CQ
    clear hrd hT
    go_enter Tryz.func4, Tryz.ntmps4
    go_wp2_with fail
    refine CR.mono ?_
    rintro e w1 P1
    obtain ⟨rfl, hz⟩ := P1.bad z rfl
    have B1 := P1.bel
    clear P1 CR
    go_wp2_with fail
    refine (CQ w1 B1).mono ?_
    rintro e w2 P2
    obtain ⟨rfl, -⟩ := P2.bad z rfl
    have B2 := B1.trans (P2.bel.mono B1.size)
    have CS := rsame7_any w2 none none 0 0 0 0 [] [] (IL.nothing _) (IL.nothing _)
    rw [smI_nil] at CS
    clear P2 CQ hz
    go_wp2_with fail
    refine CS.mono ?_
    rintro e w3 ⟨rfl, C3⟩
    have B3 := B2.trans (C3.mono B2.size)
    have AL := alive9 w3 (HT.out.below B3 t2)
    have hzz : (z == z) = true := by simp
    clear CS
    go_wp2_with fail
    refine AL.mono ?_
    rintro e w4 ⟨rfl, C4⟩
    have B4 := B3.trans (C4.mono B3.size)
    go_wp2
    go_ret
    exact ⟨rfl, B4⟩
  | inr l =>
    rw [hrd] at CR CQ
    clear hrd hT
    go_enter Tryz.func4, Tryz.ntmps4
    go_wp2_with fail
    refine CR.mono ?_
    rintro e w1 P1
    obtain ⟨io, im, ic, js, rfl, IL1, hjs, -⟩ := P1.good l rfl
    have B1 := P1.bel
    have HJS : Hid (js.map IP.it = l) := hjs
    clear P1 CR hjs
    go_wp2_with fail
    refine (CQ w1 B1).mono ?_
    rintro e w2 P2
    obtain ⟨ko, km, kc, ks, rfl, IL2, hks⟩ := P2.good l rfl
    have B2 := B1.trans (P2.bel.mono B1.size)
    have CS := rsame7_any w2 io ko im ic km kc js ks (IL1.below P2.bel) IL2
    rw [smI_it (HJS.out.trans hks.symm)] at CS
    clear P2 CQ hks IL1 IL2
    go_wp2_with fail
    refine CS.mono ?_
    rintro e w3 ⟨rfl, C3⟩
    have B3 := B2.trans (C3.mono B2.size)
    have AL := alive9 w3 (HT.out.below B3 t2)
    clear CS
    go_wp2_with fail
    refine AL.mono ?_
    rintro e w4 ⟨rfl, C4⟩
    have B4 := B3.trans (C4.mono B3.size)
    go_wp2
    go_ret
    exact ⟨rfl, B4⟩
end Go.Proofs.YtiabdcejibeciaaGreatDoor

namespace Go.Proofs.YtiabdcejibeciaaGreatDoor
open Go.RowKit

abbrev laidL : List (String × DataW Unit) := [("unicode/utf8.acceptRanges", Rows.laid_unicode_utf8_acceptRanges), ("bulwark/digest.firstWords", Rows.laid_bulwark_digest_firstWords), ("bulwark/digest.roundWords", Rows.laid_bulwark_digest_roundWords), ("unicode/utf8.first", Rows.laid_unicode_utf8_first)]

theorem gFirst : Tryz.prog.globalNamed "bulwark/digest.firstWords" = some 2 := by kernel_rfl
theorem gRound : Tryz.prog.globalNamed "bulwark/digest.roundWords" = some 1 := by kernel_rfl
theorem tFirst : (Tryz.prog.globals[2]?).map (·.type) = some 132 := by kernel_rfl
theorem tRound : (Tryz.prog.globals[1]?).map (·.type) = some 149 := by kernel_rfl
theorem laidL_plain : (laidL.all fun x => x.2.handleName?.isNone) = true := by kernel_rfl

/-- A world in which the four read so. -/
theorem all_met (os : Os) (args : Array Value) : laidMetH Tryz.prog laidL ((World.laidAll Tryz.prog os laidL).forCall (fun _ _ => 0) ⟨#[], args, []⟩).memory := by
  rw [MakeChecks.laidMetH_plain _ _ _ laidL_plain]
  exact laidMet_laidAll _ (by kernel_rfl) (by kernel_rfl)

/-- An array of words that reads as some numbers has them in its cells. -/
theorem words_of {H : Type} {enc : TypeId × Value → H} {w : World} {base : Nat} {sp : Nat → Bool} {held : Bool} {fuel n : Nat} {t : TypeId} {cs : List Value} {zs : List Int} {p : List MemPlace}
    (ht : Tryz.prog.underlying t = some (.array n 124)) (h : DataW.trod enc Tryz.prog w base sp held fuel t cs = some (.agg (zs.map fun z => .lit (.int .u32 z)), p)) (hz : zs.length = n) :
    ∀ (j : Nat) (v : Value), (wv zs)[j]? = some v → cs[j]? = some v := by
  intro j v hv
  have hj : j < zs.length := by have := (List.getElem?_eq_some_iff.1 hv).1; rwa [wv_length] at this
  rw [wv_get zs j hj] at hv
  obtain rfl := Option.some.inj hv
  obtain ⟨f', d, q, hd, he⟩ := Lib.array_elem ht h j (by omega)
  have c1 : Tryz.prog.cellsOf 124 = 1 := by kernel_rfl
  rw [c1, Nat.mul_one] at he
  obtain ⟨k, e1, e2, _⟩ := DataW.trod_int Tryz.underlying124 he
  simp only [Prod.mk.injEq] at e2
  rw [e2.1] at hd
  simp only [List.getElem?_map, List.getElem?_eq_getElem hj, Option.map_some, Option.some.injEq, DataW.lit.injEq, Lit.int.injEq, true_and] at hd
  have : (cs.drop j)[0]? = some (.int .u32 k) := by
    have := congrArg (fun l : List Value => l[0]?) e1
    simpa [List.getElem?_take] using this
  rw [List.getElem?_drop, Nat.add_zero] at this
  rw [this, ← hd]
  simp [List.getD, hj]

/-- WHAT THE CONDITION GIVES THE WALKS. -/
theorem tabs_of {W : World} (h : laidMetH Tryz.prog laidL W) : Tabs W := by
  rw [MakeChecks.laidMetH_plain _ _ _ laidL_plain] at h
  obtain ⟨ps, ⟨gx, tx, csx, fx, px, qx, _, _, _, _, ⟨g0, t0, cs0, f0, p0, q0, hg0, ht0, hv0, hd0, ⟨g1, t1, cs1, f1, p1, q1, hg1, ht1, hv1, hd1, _, _⟩, _⟩, _⟩, _, _⟩ := h
  obtain rfl := Option.some.inj (gFirst.symm.trans hg0)
  obtain rfl := Option.some.inj (gRound.symm.trans hg1)
  obtain rfl := Option.some.inj (tFirst.symm.trans ht0)
  obtain rfl := Option.some.inj (tRound.symm.trans ht1)
  have hA := words_of (zs := H0) Tryz.underlying132 hd0 rfl
  have hB := words_of (zs := K0) Tryz.underlying149 hd1 rfl
  have cA : ∀ j v, (wv H0)[j]? = some v → W.cell? ⟨2, j, none⟩ = some v := fun j v hv => by
    rw [World.var?_cell hg0 hv0 j]
    simpa using hA j v hv
  refine ⟨cA, fun j v hv => ?_, ?_⟩
  · rw [World.var?_cell hg1 hv1 j]
    simpa using hB j v hv
  · have := block_lt_of_cell (cA 0 _ rfl)
    exact this

end Go.Proofs.YtiabdcejibeciaaGreatDoor

namespace Go.Proofs.YtiabdcejibeciaaGreatDoor
open Go.RowKit

/-- A slice of bytes that came in, as the frame of a proof tells it. -/
theorem Sl.row {w : World} {a : Option Addr} {n cap : Nat} {zs : List Int} (h : (a = none ∧ n = 0 ∧ cap = 0 ∧ zs = []) ∨
    ∃ x, a = some x ∧ n ≤ cap ∧ cap ≤ maxLen ∧ zs.length = cap ∧ (∀ i, i < zs.length → w.cell? (x.add i) = some (.int .u8 (zs.getD i 0))) ∧ ∀ z ∈ zs, (Lit.int .u8 z).wf = true) : Sl w a n cap (zs.take n) := by
  rcases h with ⟨rfl, rfl, rfl, rfl⟩ | ⟨x, rfl, hl, hm, hz, hc, hw⟩
  · exact Sl.nothing w
  · refine ⟨by simp; omega, hl, hm, fun h => by simp at h, fun b hb i hi => ?_, fun z hz => ?_⟩
    · obtain rfl := Option.some.inj hb
      rw [hc i (by omega)]
      simp [List.getD, hi]
    · have := hw z (List.mem_of_mem_take hz)
      simp [Lit.wf, IntKind.min, IntKind.max, IntKind.signed, IntKind.bits] at this
      omega
end Go.Proofs.YtiabdcejibeciaaGreatDoor

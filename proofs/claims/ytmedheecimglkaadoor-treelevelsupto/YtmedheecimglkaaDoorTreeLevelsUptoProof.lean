/-
  Where what it reads is of bulk at most 1048576 the function TreeLevels answers true, and changes nothing that was there; the tables read as the program lays them (tied by the card).
-/
import Derived.Test.YtmedheecimglkaaDoorRows
import Derived.Test.YtmedheecimglkaaDoorGD
import Derived.Test.YtmedheecimglkaaDoorLaid7
import Derived.Test.YtmedheecimglkaaDoorTie
import Derived.Test.YtmedheecimglkaaDoorCards
import Derived.Test.YtmedheecimglkaaDoorRowIn
import Derived.LaidMore
import Derived.Stop.Joined
import Derived.SevenTiedAt
import Derived.WalkKit
import Derived.ProofKit
import Derived.OpenShut
import Derived.ShutString
import Derived.ChangeOld
import Derived.Below
import Derived.Deep.Slices
import Derived.Deep.DeepHandedRow
import Derived.Lib.SmallJoins
namespace Go.Proofs.YtmedheecimglkaaDoor.treeLevels
open Go.ChangeShapes Go.WideShapes Go.ChangeAt Go.RowKit
set_option linter.unusedVariables false

theorem own : ownKnob Tryd.prog.godebug = none := by kernel_rfl
theorem laidOut : laidOutB Tryd.prog = true := by kernel_rfl

set_option maxRecDepth 100000 in
set_option maxHeartbeats 1000000 in
theorem contract (H : Type) (enc : TypeId × Value → H) (W : World) (base : Nat) (args : Array Value) (ds gs : List (DataW H)) (before : List MemPlace)
    (hval : ∀ (j : Nat) t v, Tryd.f4.params[j]? = some t → args[j]? = some v → Value.okWide Tryd.prog W .any base t v)
    (hW : DataW.Whole enc Tryd.prog Tryd.f4.params.toList Rows.treeLevelsSpec.vars false W args.toList ds gs before) (hk : Rows.uptoSmall H (ds ++ gs) = true) (hL : laidMetH Tryd.prog laidL W) :
    Calls Tryd.prog 4 args W fun e W' => ∃ v, e = .returned v ∧ Rows.treeLevelsSpec.post enc Tryd.prog Tryd.f4 false true false false W args v W' := by
  have hW' := hW
  obtain ⟨p, q, hA0, hV, rfl, hfz, hnd⟩ := hW
  have hA : DataW.TrodAll enc Tryd.prog W 0 (fun _ => true) true Tryd.f4.params.toList args.toList ds p := hA0
  rw [Tryd.params4] at hA hval
  obtain ⟨v0, vs0, d0, ds0, p0, q0, hargs, rfl, rfl, h0, r0⟩ := trodAll_cons hA
  obtain ⟨v1, vs1, d1, ds1, p1, q1, rfl, rfl, rfl, h1, r1⟩ := trodAll_cons r0
  obtain ⟨v2, vs2, d2, ds2, p2, q2, rfl, rfl, rfl, h2, r2⟩ := trodAll_cons r1
  obtain ⟨v3, vs3, d3, ds3, p3, q3, rfl, rfl, rfl, h3, r3⟩ := trodAll_cons r2
  obtain ⟨v4, vs4, d4, ds4, p4, q4, rfl, rfl, rfl, h4, r4⟩ := trodAll_cons r3
  obtain ⟨rfl, rfl, rfl⟩ := trodAll_nil r4
  obtain rfl : args = #[v0, v1, v2, v3, v4] := by cases args; simp_all
  obtain ⟨rfl, rfl⟩ := trodVars_none hV
  obtain ⟨a0, len0, cap0, rfl⟩ := okWide_slice Tryd.underlying23 (hval 0 23 v0 rfl rfl)
  have k0 := h0
  have lt0 : ∀ x ∈ p0, x.block < W.heap.size := by obtain ⟨m, hm⟩ := k0; exact DataW.trod_lt m _ _ _ hm
  have u0 : Rows.uptoBulk d0 ≤ 1048576 := bulk_small hk (by simp)
  obtain ⟨x0, s0, b0⟩ : ∃ xs, Sl W a0 len0 cap0 xs ∧ len0 ≤ 1048576 := by
    obtain ⟨fuel, hf⟩ := h0
    rcases open_ints Tryd.underlying23 Tryd.underlying5 (by kernel_rfl) hf with ⟨hcs, _⟩ | ⟨x, l, c, zs, hcs, _, hl, hm, hz, hd, hcell, hwz⟩
    · simp [Value.cells] at hcs
      obtain ⟨rfl, rfl, rfl⟩ := hcs
      exact ⟨[], Sl.nothing W, by omega⟩
    · simp [Value.cells] at hcs
      obtain ⟨rfl, rfl, rfl⟩ := hcs
      have hz' : zs.length = cap0 := by simpa using hz
      have hn : len0 ≤ Rows.uptoBulk d0 := by rw [(Prod.mk.inj hd).1]; exact bulk_row (by simp only [lits, List.length_map, List.length_take]; omega)
      exact ⟨_, Sl.row (zs := zs) (.inr ⟨_, rfl, hl, hm, by simpa using hz, hcell, hwz⟩), by omega⟩
  obtain ⟨a1, rfl, rfl, rfl, w1⟩ := open_int Tryd.underlying3 (hval 1 3 v1 rfl rfl) h1
  have z1 : -9223372036854775808 ≤ a1 ∧ a1 ≤ 9223372036854775807 := by
    have := w1
    simp [Lit.wf, IntKind.min, IntKind.max, IntKind.signed, IntKind.bits] at this
    omega
  obtain ⟨a2, len2, cap2, rfl⟩ := okWide_slice Tryd.underlying57 (hval 2 57 v2 rfl rfl)
  have k2 := h2
  have lt2 : ∀ x ∈ p2, x.block < W.heap.size := by obtain ⟨m, hm⟩ := k2; exact DataW.trod_lt m _ _ _ hm
  have u2 : Rows.uptoBulk d2 ≤ 1048576 := bulk_small hk (by simp)
  obtain ⟨x2, s2, o2, b2⟩ : ∃ ps, PL W a2 len2 cap2 ps ∧ (∀ q ∈ ps, q.n ≤ 1048576) ∧ len2 ≤ 1048576 := by
    obtain ⟨fuel, hf⟩ := h2
    rcases Deep.open_slice1 Tryd.underlying57 (by kernel_rfl) hf with ⟨hcs, _⟩ | ⟨x, l, c, m, k, V, D, Pl, hcs, _, hl, hm, hmm, hd, hcell⟩
    · simp [Value.cells] at hcs
      obtain ⟨rfl, rfl, rfl⟩ := hcs
      exact ⟨[], PL.nothing W, by simp, by omega⟩
    · simp [Value.cells] at hcs
      obtain ⟨rfl, rfl, rfl⟩ := hcs
      have hlm : len2 ≤ m := by rw [hmm]; split <;> omega
      have hdd := (Prod.mk.inj hd).1
      have hn : len2 ≤ Rows.uptoBulk d2 := by rw [hdd]; exact bulk_row (by simp)
      obtain ⟨ps, hps, hq⟩ := PL.makeP (Q := fun q => q.n ≤ 1048576) hl hm fun i hi => by
        obtain ⟨e0, t0⟩ := hcell i (by omega)
        have hi' : Rows.uptoBulk (D i) ≤ Rows.uptoBulk d2 := by rw [hdd]; exact bulk_elem (List.mem_map.2 ⟨i, List.mem_range.2 hi, rfl⟩)
        rcases open_ints Tryd.underlying23 Tryd.underlying5 (by kernel_rfl) t0 with ⟨hcs, _⟩ | ⟨y, l, c, zs, hcs, _, hl, hm, hz, hy, hc, hwz⟩
        · simp at hcs
          exact ⟨⟨none, 0, 0, []⟩, by rw [e0, hcs]; rfl, Sl.nothing W, Nat.zero_le _⟩
        · simp at hcs
          have hz' : zs.length = c := by simpa using hz
          have hn : l ≤ Rows.uptoBulk (D i) := by rw [(Prod.mk.inj hy).1]; exact bulk_row (by simp only [lits, List.length_map, List.length_take]; omega)
          exact ⟨⟨some y, l, c, zs.take l⟩, by rw [e0, hcs]; rfl, Sl.row (zs := zs) (.inr ⟨_, rfl, hl, hm, by simpa using hz, hc, hwz⟩), by show l ≤ _; omega⟩
      exact ⟨ps, hps, hq, by omega⟩
  obtain ⟨a3, len3, cap3, rfl⟩ := okWide_slice Tryd.underlying57 (hval 3 57 v3 rfl rfl)
  have k3 := h3
  have lt3 : ∀ x ∈ p3, x.block < W.heap.size := by obtain ⟨m, hm⟩ := k3; exact DataW.trod_lt m _ _ _ hm
  have u3 : Rows.uptoBulk d3 ≤ 1048576 := bulk_small hk (by simp)
  obtain ⟨x3, s3, o3, b3⟩ : ∃ ps, PL W a3 len3 cap3 ps ∧ (∀ q ∈ ps, q.n ≤ 1048576) ∧ len3 ≤ 1048576 := by
    obtain ⟨fuel, hf⟩ := h3
    rcases Deep.open_slice1 Tryd.underlying57 (by kernel_rfl) hf with ⟨hcs, _⟩ | ⟨x, l, c, m, k, V, D, Pl, hcs, _, hl, hm, hmm, hd, hcell⟩
    · simp [Value.cells] at hcs
      obtain ⟨rfl, rfl, rfl⟩ := hcs
      exact ⟨[], PL.nothing W, by simp, by omega⟩
    · simp [Value.cells] at hcs
      obtain ⟨rfl, rfl, rfl⟩ := hcs
      have hlm : len3 ≤ m := by rw [hmm]; split <;> omega
      have hdd := (Prod.mk.inj hd).1
      have hn : len3 ≤ Rows.uptoBulk d3 := by rw [hdd]; exact bulk_row (by simp)
      obtain ⟨ps, hps, hq⟩ := PL.makeP (Q := fun q => q.n ≤ 1048576) hl hm fun i hi => by
        obtain ⟨e0, t0⟩ := hcell i (by omega)
        have hi' : Rows.uptoBulk (D i) ≤ Rows.uptoBulk d3 := by rw [hdd]; exact bulk_elem (List.mem_map.2 ⟨i, List.mem_range.2 hi, rfl⟩)
        rcases open_ints Tryd.underlying23 Tryd.underlying5 (by kernel_rfl) t0 with ⟨hcs, _⟩ | ⟨y, l, c, zs, hcs, _, hl, hm, hz, hy, hc, hwz⟩
        · simp at hcs
          exact ⟨⟨none, 0, 0, []⟩, by rw [e0, hcs]; rfl, Sl.nothing W, Nat.zero_le _⟩
        · simp at hcs
          have hz' : zs.length = c := by simpa using hz
          have hn : l ≤ Rows.uptoBulk (D i) := by rw [(Prod.mk.inj hy).1]; exact bulk_row (by simp only [lits, List.length_map, List.length_take]; omega)
          exact ⟨⟨some y, l, c, zs.take l⟩, by rw [e0, hcs]; rfl, Sl.row (zs := zs) (.inr ⟨_, rfl, hl, hm, by simpa using hz, hc, hwz⟩), by show l ≤ _; omega⟩
      exact ⟨ps, hps, hq, by omega⟩
  obtain ⟨a4, len4, cap4, rfl⟩ := okWide_slice Tryd.underlying57 (hval 4 57 v4 rfl rfl)
  have k4 := h4
  have lt4 : ∀ x ∈ p4, x.block < W.heap.size := by obtain ⟨m, hm⟩ := k4; exact DataW.trod_lt m _ _ _ hm
  have u4 : Rows.uptoBulk d4 ≤ 1048576 := bulk_small hk (by simp)
  obtain ⟨x4, s4, o4, b4⟩ : ∃ ps, PL W a4 len4 cap4 ps ∧ (∀ q ∈ ps, q.n ≤ 1048576) ∧ len4 ≤ 1048576 := by
    obtain ⟨fuel, hf⟩ := h4
    rcases Deep.open_slice1 Tryd.underlying57 (by kernel_rfl) hf with ⟨hcs, _⟩ | ⟨x, l, c, m, k, V, D, Pl, hcs, _, hl, hm, hmm, hd, hcell⟩
    · simp [Value.cells] at hcs
      obtain ⟨rfl, rfl, rfl⟩ := hcs
      exact ⟨[], PL.nothing W, by simp, by omega⟩
    · simp [Value.cells] at hcs
      obtain ⟨rfl, rfl, rfl⟩ := hcs
      have hlm : len4 ≤ m := by rw [hmm]; split <;> omega
      have hdd := (Prod.mk.inj hd).1
      have hn : len4 ≤ Rows.uptoBulk d4 := by rw [hdd]; exact bulk_row (by simp)
      obtain ⟨ps, hps, hq⟩ := PL.makeP (Q := fun q => q.n ≤ 1048576) hl hm fun i hi => by
        obtain ⟨e0, t0⟩ := hcell i (by omega)
        have hi' : Rows.uptoBulk (D i) ≤ Rows.uptoBulk d4 := by rw [hdd]; exact bulk_elem (List.mem_map.2 ⟨i, List.mem_range.2 hi, rfl⟩)
        rcases open_ints Tryd.underlying23 Tryd.underlying5 (by kernel_rfl) t0 with ⟨hcs, _⟩ | ⟨y, l, c, zs, hcs, _, hl, hm, hz, hy, hc, hwz⟩
        · simp at hcs
          exact ⟨⟨none, 0, 0, []⟩, by rw [e0, hcs]; rfl, Sl.nothing W, Nat.zero_le _⟩
        · simp at hcs
          have hz' : zs.length = c := by simpa using hz
          have hn : l ≤ Rows.uptoBulk (D i) := by rw [(Prod.mk.inj hy).1]; exact bulk_row (by simp only [lits, List.length_map, List.length_take]; omega)
          exact ⟨⟨some y, l, c, zs.take l⟩, by rw [e0, hcs]; rfl, Sl.row (zs := zs) (.inr ⟨_, rfl, hl, hm, by simpa using hz, hc, hwz⟩), by show l ≤ _; omega⟩
      exact ⟨ps, hps, hq, by omega⟩
  clear hA0
  refine (treeLevels_any W a0 a2 a3 a4 len0 cap0 len2 cap2 len3 cap3 len4 cap4 a1 x0 x2 x3 x4 (tabs_of hL) s0 s2 s3 s4 z1.1 z1.2 o2 o3 o4 b0 b2 b3 b4).mono fun e W' ⟨he, bel⟩ => ?_
  subst he
  exact ⟨_, rfl, _, _, _, [], _, [], hW', trodAll_mk1 (shut_bool Tryd.underlying4 _), (trodAll_cons_mk (Below.trod laidOut (by kernel_rfl) (of_decide_eq_true (by kernel_rfl)) k0 bel lt0) (trodAll_cons_mk (shut_int Tryd.underlying3 w1) (trodAll_cons_mk (Below.trod laidOut (by kernel_rfl) (of_decide_eq_true (by kernel_rfl)) k2 bel lt2) (trodAll_cons_mk (Below.trod laidOut (by kernel_rfl) (of_decide_eq_true (by kernel_rfl)) k3 bel lt3) (trodAll_cons_mk (Below.trod laidOut (by kernel_rfl) (of_decide_eq_true (by kernel_rfl)) k4 bel lt4) trodAll_mk0))))), rfl, bel.frame _, fun h => by cases h⟩

theorem reads (os : Os) {H : Type} (enc : TypeId × Value → H) : ∃ places, DataW.whole enc Tryd.prog ((World.laidAll Tryd.prog os laidL).forCall (fun _ _ => 0) ⟨#[], #[.slice none 0 0, .int .i64 0, .slice none 0 0, .slice none 0 0, .slice none 0 0], []⟩).memory Tryd.f4.params.toList Rows.treeLevelsSpec.vars false (#[.slice none 0 0, .int .i64 0, .slice none 0 0, .slice none 0 0, .slice none 0 0] : Array Value).toList 8 = some ([.nil, .lit (.int .i64 0), .nil, .nil, .nil], [], places) :=
  ⟨[], by kernel_rfl⟩

set_option maxRecDepth 100000 in
theorem lifted (os : Os) (started : os.Started) (H : Type) (enc : TypeId × Value → H) (F : Stop.Interp) :
    ReturnsInHanded {} Tryd.checked os 4 .any ((Rows.OpenSpec.upto Rows.treeLevelsSpec).preRow enc Tryd.prog Tryd.f4 Rows.treeLevelsUptoRow.domain false Rows.treeLevelsUptoRow.laid) (((Rows.OpenSpec.upto Rows.treeLevelsSpec).at F).post enc Tryd.prog Tryd.f4 false true false false) := by
  obtain ⟨places, hx⟩ := reads os enc
  have hok : Input.okWideB Tryd.prog ((World.laidAll Tryd.prog os laidL).forCall (fun _ _ => 0) ⟨#[], #[.slice none 0 0, .int .i64 0, .slice none 0 0, .slice none 0 0, .slice none 0 0], []⟩) 4 ⟨#[], #[.slice none 0 0, .int .i64 0, .slice none 0 0, .slice none 0 0, .slice none 0 0], []⟩ = true := by kernel_rfl
  refine returnsInHanded_of_row (C := Tryd.checked) (s := (Rows.OpenSpec.upto Rows.treeLevelsSpec)) own started (by kernel_rfl) Tryd.func4
    ⟨World.laidAll Tryd.prog os laidL, fun _ _ => 0, ⟨#[], #[.slice none 0 0, .int .i64 0, .slice none 0 0, .slice none 0 0, .slice none 0 0], []⟩, World.laidAll_os _ _ _, World.shaped_of_ZipB (by kernel_rfl) (by kernel_rfl), (Input.okWide_of_okWideB (base := 0) hok).1, (Input.okWide_of_okWideB hok).2,
      OpenSpec.preRow_of_cond 8 hx (by kernel_rfl) (fun k hk => by cases hk; kernel_rfl) (by kernel_rfl) (all_met os _), by
        simp only [Assume.holds]
        exact ⟨by simp, by simp, fun _ => Modest.zero, by simp, by simp⟩⟩ ?_
  intro W base args ds gs before hval hW _ hc _ hL _ _
  exact contract H enc W base args ds gs before hval hW (hc _ rfl) hL

theorem proved : Rows.TreeLevelsUptoSaid :=
  OpenClaim.holds_of_cond 4 Tryd.f4 rfl rfl rfl rfl rfl rfl rfl ⟨rfl, rfl, rfl, rfl, rfl⟩ rfl rfl rfl rfl rfl (by kernel_rfl) Tryd.func4 (by kernel_rfl)
    (of_decide_eq_true (by kernel_rfl)) (by unfold Func.isWrapper; first | (rw [if_pos (by decide +kernel)]; kernel_rfl) | (rw [if_neg (by decide +kernel)]; exact ⟨rfl, rfl⟩))
    (fun os started H enc _ F => by rw [OpenClaim.pre_eq_preRow]; exact lifted os started H enc F)

theorem plain (f : FuncId) (fn : Func) (hf : Tryd.pinned.checked.prog.funcNamed "bulwark/bulwarklaw07.TreeLevels" = some f) (hfn : Tryd.pinned.checked.prog.funcs[f]? = some fn) :
    false = Tryd.pinned.checked.prog.looks [] ∧ ∀ (j : Nat) t, fn.params[j]? = some t → Tryd.pinned.checked.prog.wantsStandIn t = false := by
  obtain rfl : f = 4 := Option.some.inj ((show Tryd.prog.funcNamed "bulwark/bulwarklaw07.TreeLevels" = some 4 by kernel_rfl).symm.trans hf) |>.symm
  obtain rfl : fn = Tryd.f4 := (Option.some.inj (Tryd.func4.symm.trans hfn)).symm
  refine ⟨by kernel_rfl, fun j t ht => ?_⟩
  rw [Tryd.params4] at ht
  have hm : t ∈ [23, 3, 57, 57, 57] := by simpa using Array.mem_of_getElem? ht
  have hall : ([23, 3, 57, 57, 57].all fun u => !Tryd.prog.wantsStandIn u) = true := by kernel_rfl
  exact (show Tryd.prog.wantsStandIn t = false by simpa using List.all_eq_true.1 hall t hm)
end Go.Proofs.YtmedheecimglkaaDoor.treeLevels

namespace Go.Proofs.YtmedheecimglkaaDoor
open Go
theorem treeLevelsUpto_holds : Rows.TreeLevelsUptoCardSaid :=
  Claim7.holds_tied_plain_at .later [] _ _ _ _ treeLevels.proved (fun _ h => by cases h) (by kernel_rfl) (fun _ h => by cases h) treeLevelsUpto_row_tie rfl ⟨rfl, rfl⟩ (by kernel_rfl) rfl treeLevels.plain (by kernel_rfl)
end Go.Proofs.YtmedheecimglkaaDoor
#print axioms Go.Proofs.YtmedheecimglkaaDoor.treeLevelsUpto_holds

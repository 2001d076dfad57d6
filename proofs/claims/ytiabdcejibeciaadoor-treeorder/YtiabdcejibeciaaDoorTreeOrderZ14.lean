/-
  Texts in one: State, Meth, RUint, RMore, RBytes, Read, CkMem, PFormOf, PClone, PChgW.
-/
import Derived.Test.YtiabdcejibeciaaDoorTreeOrderZ13
import Derived.Test.YtiabdcejibeciaaDoorTreeOrderZ12
import Derived.Test.YtiabdcejibeciaaDoorTreeOrderZ3
import Derived.Test.YtiabdcejibeciaaDoorTreeOrderZ4
import Derived.Test.YtiabdcejibeciaaDoorTreeOrderZ10
import Derived.Test.YtiabdcejibeciaaDoorTreeOrderZ6
import Derived.Test.YtiabdcejibeciaaDoorTreeOrderZ8
import Derived.Lib.SliceRun
namespace Go.Proofs.YtiabdcejibeciaaDoor
open Go.RowKit

/-- The struct at the head of block p holds the bytes xs, in an array below block L, and the kind k. -/
structure Rd (w : World) (p L : Nat) (ao : Option Addr) (n cap : Nat) (xs : List Int) (k : Int) : Prop where
  c0 : w.cell? ⟨p, 0, none⟩ = some (.slice ao n cap)
  c1 : w.cell? ⟨p, 1, none⟩ = some (.int .i64 k)
  f0 : w.frozen? ⟨p, 0, none⟩ = false
  f1 : w.frozen? ⟨p, 1, none⟩ = false
  sl : Sl w ao n cap xs
  low : ∀ a, ao = some a → 0 < n → a.block < L
  le : L ≤ p
  sm : n ≤ 1000000

/-- The same, wherever its bytes lie. -/
def R (w : World) (p L : Nat) (xs : List Int) (k : Int) : Prop := ∃ ao n cap, Rd w p L ao n cap xs k

theorem Rd.plt {w : World} {p L : Nat} {ao : Option Addr} {n cap : Nat} {xs : List Int} {k : Int} (h : Rd w p L ao n cap xs k) : p < w.heap.size := World.block_lt_of_cell? w _ h.c0

theorem Rd.below {w w' : World} {p L : Nat} {ao : Option Addr} {n cap : Nat} {xs : List Int} {k : Int} (h : Rd w p L ao n cap xs k) (hb : Below w.heap.size w w') : Rd w' p L ao n cap xs k :=
  ⟨(hb.cell (p := ⟨p, 0, none⟩) h.plt).trans h.c0, (hb.cell (p := ⟨p, 1, none⟩) h.plt).trans h.c1, (hb.frozen (p := ⟨p, 0, none⟩) h.plt).trans h.f0, (hb.frozen (p := ⟨p, 1, none⟩) h.plt).trans h.f1, h.sl.below hb, h.low, h.le, h.sm⟩
theorem R.below {w w' : World} {p L : Nat} {xs : List Int} {k : Int} (h : R w p L xs k) (hb : Below w.heap.size w w') : R w' p L xs k := by
  obtain ⟨ao, n, cap, h⟩ := h
  exact ⟨ao, n, cap, h.below hb⟩

/-- Bytes that lie below block L still do where block q, from L on, was written. -/
theorem Sl.keep {w w' : World} {L q : Nat} {ao : Option Addr} {n cap : Nat} {xs : List Int} (h : Sl w ao n cap xs) (low : ∀ a, ao = some a → 0 < n → a.block < L) (hL : L ≤ q) (hg : w.grownBy w' (some q)) : Sl w' ao n cap xs := by
  refine ⟨h.len, h.le, h.mx, h.nil, fun a ha i hi => hg.cell (h.cell a ha i hi) ?_, h.byte⟩
  have := low a ha (by omega)
  have e : (a.add i).block = a.block := by unfold Addr.add; split <;> rfl
  rw [e]
  simp
  omega

/-- A reader is as it was where another block q is written, from L on. -/
theorem R.keep {w w' : World} {p L q : Nat} {xs : List Int} {k : Int} (h : R w p L xs k) (hne : p ≠ q) (hL : L ≤ q) (hg : w.grownBy w' (some q)) : R w' p L xs k := by
  obtain ⟨ao, n, cap, h⟩ := h
  have hb : w'.heap[p]? = w.heap[p]? := hg.block p h.plt (by simp; omega)
  exact ⟨ao, n, cap, hg.cell h.c0 (by simp; omega), hg.cell h.c1 (by simp; omega), (World.frozen?_of_block (a := ⟨p, 0, none⟩) hb).trans h.f0, (World.frozen?_of_block (a := ⟨p, 1, none⟩) hb).trans h.f1, h.sl.keep h.low hL hg, h.low, h.le, h.sm⟩

/-- What is left behind the first u bytes. -/
theorem Sl.drop {w : World} {ao : Option Addr} {n cap : Nat} {xs : List Int} (h : Sl w ao n cap xs) (u : Nat) (hu : u ≤ n) : Sl w (ao.map (fun x => x.add u)) (n - u) (cap - u) (xs.drop u) := by
  have h1 := h.le
  have h2 := h.mx
  refine ⟨by rw [List.length_drop, h.len], by omega, by omega, fun hn => ?_, fun a ha i hi => ?_, h.byte.drop u⟩
  · have := h.nil (by simpa using hn)
    omega
  · obtain ⟨b, off, rfl, hc⟩ := h.at (by omega)
    simp only [Option.map_some, Option.some.injEq] at ha
    subst ha
    rw [Addr.add_lit, Addr.add_lit, Nat.add_assoc, hc (u + i) (by omega)]
    simp [List.getD]
theorem Sl.dropAll {w : World} {ao : Option Addr} {n : Nat} {xs : List Int} {u : Nat} (h : Sl w ao n u xs) (hu : u ≤ n) : Sl w ao (n - u) 0 (xs.drop u) := by
  have h1 := h.le
  refine ⟨by rw [List.length_drop, h.len], by omega, Nat.zero_le _, fun hn => ⟨?_, rfl⟩, fun a ha i hi => by omega, h.byte.drop u⟩
  omega
theorem low_drop {ao : Option Addr} {n L u m : Nat} (h : ∀ a, ao = some a → 0 < n → a.block < L) (hm : m ≤ n) : ∀ a, ao.map (fun x => x.add u) = some a → 0 < m → a.block < L := by
  intro a ha hp
  cases ao with
  | none => simp at ha
  | some x =>
    simp only [Option.map_some, Option.some.injEq] at ha
    subst ha
    have e : (x.add u).block = x.block := by unfold Addr.add; split <;> rfl
    rw [e]
    exact h x rfl (by omega)

theorem grown_setCell (w : World) (p o : Nat) (v : Value) : w.grownBy (w.setCell ⟨p, o, none⟩ v) (some p) :=
  ⟨rfl, rfl, rfl, by simp, fun k _ hne => Below.heap_setCell _ _ _ _ (by simpa using hne)⟩
theorem grown_trans {a b c : World} {r : Option Nat} (h : a.grownBy b r) (k : b.grownBy c r) : a.grownBy c r :=
  ⟨k.os.trans h.os, k.tape.trans h.tape, k.output.trans h.output, Nat.le_trans h.size k.size, fun i hi hne => (k.block i (Nat.lt_of_lt_of_le hi h.size) hne).trans (h.block i hi hne)⟩
theorem grown_below {a b : World} {r : Option Nat} (h : Below a.heap.size a b) : a.grownBy b r := ⟨h.os, h.tape, h.output, h.size, fun i hi _ => h.block i hi⟩
theorem below_grown {a b : World} {B p : Nat} (h : a.grownBy b (some p)) (hB : B ≤ a.heap.size) (hp : B ≤ p) : Below B a b :=
  ⟨h.os, h.tape, h.output, h.size, fun i hi => h.block i (by omega) (by simp; omega)⟩

/-- The reader behind a store into its bytes. -/
theorem Rd.rest {w : World} {p L : Nat} {ao : Option Addr} {n cap : Nat} {xs : List Int} {k : Int} (h : Rd w p L ao n cap xs k) {bo : Option Addr} {m c : Nat} {ys : List Int} (hs : Sl w bo m c ys) (hlow : ∀ a, bo = some a → 0 < m → a.block < L) (hm : m ≤ n) :
    Rd (w.setCell ⟨p, 0, none⟩ (.slice bo m c)) p L bo m c ys k :=
  ⟨World.cell?_setCell_same _ _ _ h.c0, (World.cell?_setCell_other _ _ _ _ (by simp)).trans h.c1, by simpa using h.f0, by simpa using h.f1, hs.keep hlow h.le (grown_setCell _ _ _ _), hlow, h.le, Nat.le_trans hm h.sm⟩
theorem Rd.wrong {w : World} {p L : Nat} {ao : Option Addr} {n cap : Nat} {xs : List Int} {k : Int} (h : Rd w p L ao n cap xs k) (q : Int) :
    Rd (w.setCell ⟨p, 1, none⟩ (.int .i64 q)) p L ao n cap xs q :=
  ⟨(World.cell?_setCell_other _ _ _ _ (by simp)).trans h.c0, World.cell?_setCell_same _ _ _ h.c1, by simpa using h.f0, by simpa using h.f1, h.sl.keep h.low h.le (grown_setCell _ _ _ _), h.low, h.le, h.sm⟩

end Go.Proofs.YtiabdcejibeciaaDoor

namespace Go.Proofs.YtiabdcejibeciaaDoor
open Go.RowKit

theorem failed_nil (w : World) : Calls Tryd.prog 72 #[.pointer none] w fun e w' => e = .returned (.bool true) ∧ w' = w := by
  go_enter Tryd.func72, Tryd.ntmps72
  go_wp2
  go_ret
  exact ⟨rfl, rfl⟩
theorem failed_any (w : World) (p : Nat) (k : Int) (h : w.cell? ⟨p, 1, none⟩ = some (.int .i64 k)) : Calls Tryd.prog 72 #[.pointer (some ⟨p, 0, none⟩)] w fun e w' => e = .returned (.bool (k != 0)) ∧ w' = w := by
  go_enter Tryd.func72, Tryd.ntmps72
  go_wp2
  go_ret
  exact ⟨rfl, rfl⟩

theorem fail_nil (w : World) (q : Int) : Calls Tryd.prog 73 #[.pointer none, .int .i64 q] w fun e w' => e = .returned (.tuple #[]) ∧ w' = w := by
  go_enter Tryd.func73, Tryd.ntmps73
  go_wp2_with (go_at_call 72; refine (failed_nil _).mono ?_; rintro e w' ⟨rfl, rfl⟩)
  (try simp only [Exit.inBlock, Exit.then]); refine bodyPost_ret (results_none rfl _ _ _) rfl ?_
  exact ⟨rfl, rfl⟩

/-- Fail where it has failed, or with nothing that is wrong. -/
theorem fail_not (w : World) (p : Nat) (k q : Int) (h : w.cell? ⟨p, 1, none⟩ = some (.int .i64 k)) (hq : k ≠ 0 ∨ q = 0) : Calls Tryd.prog 73 #[.pointer (some ⟨p, 0, none⟩), .int .i64 q] w fun e w' => e = .returned (.tuple #[]) ∧ w' = w := by
  by_cases hk : k = 0
  · have hb : (k != 0) = false := by simp [hk]
    have hq0 : (q == 0) = true := by simp; omega
    clear hk hq
    go_enter Tryd.func73, Tryd.ntmps73
    go_wp2_with (go_at_call 72; refine (failed_any _ p k h).mono ?_; rintro e w' ⟨rfl, rfl⟩)
    (try simp only [Exit.inBlock, Exit.then]); refine bodyPost_ret (results_none rfl _ _ _) rfl ?_
    exact ⟨rfl, rfl⟩
  · have hb : (k != 0) = true := by simp [hk]
    clear hk hq
    go_enter Tryd.func73, Tryd.ntmps73
    go_wp2_with (go_at_call 72; refine (failed_any _ p k h).mono ?_; rintro e w' ⟨rfl, rfl⟩)
    (try simp only [Exit.inBlock, Exit.then]); refine bodyPost_ret (results_none rfl _ _ _) rfl ?_
    exact ⟨rfl, rfl⟩

theorem fail_any (w : World) (p L : Nat) (xs : List Int) (q : Int) (h : R w p L xs 0) (hq : q ≠ 0) : Calls Tryd.prog 73 #[.pointer (some ⟨p, 0, none⟩), .int .i64 q] w fun e w' => e = .returned (.tuple #[]) ∧ R w' p L [] q ∧ w.grownBy w' (some p) := by
  obtain ⟨ao, n, cap, hr⟩ := h
  have h0 := hr.c0
  have h1 := hr.c1
  have f0 := hr.f0
  have f1 := hr.f1
  have hb : (q == 0) = false := by simp [hq]
  have hfin : R ((w.setCell ⟨p, 1, none⟩ (.int .i64 q)).setCell ⟨p, 0, none⟩ (.slice none 0 0)) p L [] q :=
    ⟨none, 0, 0, (hr.wrong q).rest (Sl.nothing _) (fun a ha => by simp at ha) (Nat.zero_le _)⟩
  have hgr := grown_trans (grown_setCell w p 1 (.int .i64 q)) (grown_setCell (w.setCell ⟨p, 1, none⟩ (.int .i64 q)) p 0 (.slice none 0 0))
  clear hr hq
  go_enter Tryd.func73, Tryd.ntmps73
  go_wp2_with (go_at_call 72; refine (failed_any _ p 0 h1).mono ?_; rintro e w' ⟨rfl, rfl⟩)
  go_end0
  exact ⟨rfl, hfin, hgr⟩

theorem done_nil (w : World) : Calls Tryd.prog 47 #[.pointer none] w fun e w' => e = .returned (.int .i64 17) ∧ w' = w := by
  go_enter Tryd.func47, Tryd.ntmps47
  go_wp2
  go_ret
  exact ⟨rfl, rfl⟩
theorem done_any (w : World) (p L : Nat) (xs : List Int) (k : Int) (h : R w p L xs k) : Calls Tryd.prog 47 #[.pointer (some ⟨p, 0, none⟩)] w fun e w' => e = .returned (.int .i64 (doneS xs k)) ∧ w' = w := by
  obtain ⟨ao, n, cap, hr⟩ := h
  have h0 := hr.c0
  have h1 := hr.c1
  have hl := hr.sl.len
  clear hr
  by_cases hk : k = 0
  · subst hk
    cases xs with
    | nil =>
      have hn : n = 0 := by simpa using hl.symm
      subst hn
      clear hl
      go_enter Tryd.func47, Tryd.ntmps47
      go_wp2
      go_ret
      exact ⟨rfl, rfl⟩
    | cons c r =>
      have hn : 0 < n := by rw [← hl]; simp
      clear hl
      go_enter Tryd.func47, Tryd.ntmps47
      go_wp2
      go_ret
      exact ⟨rfl, rfl⟩
  · have hb : (k == 0) = false := by simp [hk]
    have hd : doneS xs k = k := by simp [doneS, hk]
    rw [hd]
    clear hk hd
    go_enter Tryd.func47, Tryd.ntmps47
    go_wp2
    go_ret
    exact ⟨rfl, rfl⟩
end Go.Proofs.YtiabdcejibeciaaDoor

namespace Go.Proofs.YtiabdcejibeciaaDoor
open Go.RowKit

theorem uint_nil (w : World) : Calls Tryd.prog 71 #[.pointer none] w fun e w' => e = .returned (.int .u64 0) ∧ w' = w := by
  go_enter Tryd.func71, Tryd.ntmps71
  go_wp2_with (go_at_call 72; refine (failed_nil _).mono ?_; rintro e w' ⟨rfl, rfl⟩)
  go_ret
  exact ⟨rfl, rfl⟩

theorem uint_any (w : World) (p L : Nat) (xs : List Int) (k : Int) (h : R w p L xs k) : Calls Tryd.prog 71 #[.pointer (some ⟨p, 0, none⟩)] w fun e w' =>
    e = .returned (.int .u64 ((uintS xs k).1 : Nat)) ∧ R w' p L (uintS xs k).2.1 (uintS xs k).2.2 ∧ w.grownBy w' (some p) := by
  have hR := h
  obtain ⟨ao, n, cap, hr⟩ := h
  have h0 := hr.c0
  have h1 := hr.c1
  have f0 := hr.f0
  by_cases hk : k = 0
  · subst hk
    have ht := takeNumber_any w ao n cap xs hr.sl
    have hu := tk_used xs 0 0
    unfold uintS
    rw [if_pos rfl]
    have HT : Hid (Calls _ _ _ _ _) := ht
    clear ht
    generalize tk 0 0 xs = T at *
    obtain ⟨m, u, q⟩ := T
    simp only at hu HT ⊢
    by_cases hq : q = 0
    · subst hq
      have hu := hu rfl
      rw [if_pos rfl]
      have hl := hr.sl.len
      have hle := hr.sl.le
      have hmx := hr.sl.mx
      unfold maxLen at hmx
      go_enter Tryd.func71, Tryd.ntmps71
      go_wp2_with (first | (go_at_call 72; refine (failed_any _ p 0 h1).mono ?_; rintro e w' ⟨rfl, rfl⟩) | (go_at_call 102; refine HT.out.mono ?_; rintro e w' ⟨rfl, rfl⟩))
      · have hfin : R (w'.setCell ⟨p, 0, none⟩ (.slice ao (n - u) 0)) p L (xs.drop u) 0 := by
          have hcu : cap = u := by assumption
          subst hcu
          exact ⟨_, _, _, hr.rest (hr.sl.dropAll (by omega)) (fun a ha hp => by omega) (by omega)⟩
        go_ret
        exact ⟨rfl, hfin, grown_setCell _ _ _ _⟩
      · have hfin : R (w'.setCell ⟨p, 0, none⟩ (.slice (ao.map (fun x => x.add u)) (n - u) (cap - u))) p L (xs.drop u) 0 :=
          ⟨_, _, _, hr.rest (hr.sl.drop u (by omega)) (low_drop hr.low (by omega)) (by omega)⟩
        go_ret
        exact ⟨rfl, hfin, grown_setCell _ _ _ _⟩
    · rw [if_neg hq]
      have hqb : ((q : Int) != 0) = true := by simp; omega
      have hf := fail_any w p L xs q hR (by omega)
      have HF : Hid (Calls _ _ _ _ _) := hf
      clear hf hu hR hr
      go_enter Tryd.func71, Tryd.ntmps71
      go_wp2_with (first | (go_at_call 72; refine (failed_any _ p 0 h1).mono ?_; rintro e w' ⟨rfl, rfl⟩) | (go_at_call 102; refine HT.out.mono ?_; rintro e w' ⟨rfl, rfl⟩) | (go_at_call 73; refine HF.out.mono ?_; rintro e w2 ⟨rfl, hr2, hg2⟩))
      go_ret
      exact ⟨rfl, hr2, hg2⟩
  · have hb : (k != 0) = true := by simp [hk]
    have hs : uintS xs k = (0, xs, k) := by simp [uintS, hk]
    rw [hs]
    clear hr hk hs
    go_enter Tryd.func71, Tryd.ntmps71
    go_wp2_with (go_at_call 72; refine (failed_any _ p k h1).mono ?_; rintro e w' ⟨rfl, rfl⟩)
    go_ret
    exact ⟨rfl, hR, World.grownBy.refl _ _⟩
end Go.Proofs.YtiabdcejibeciaaDoor

namespace Go.Proofs.YtiabdcejibeciaaDoor
open Go.RowKit

theorem R.kind {w : World} {p L : Nat} {xs : List Int} {k : Int} (h : R w p L xs k) : w.cell? ⟨p, 1, none⟩ = some (.int .i64 k) := by
  obtain ⟨ao, n, cap, hr⟩ := h
  exact hr.c1

theorem int_nil (w : World) (most : Int) : Calls Tryd.prog 44 #[.pointer none, .int .i64 most] w fun e w' => e = .returned (.int .i64 0) ∧ w' = w := by
  go_enter Tryd.func44, Tryd.ntmps44
  go_wp2_with (first | (go_at_call 71; refine (uint_nil _).mono ?_; rintro e w' ⟨rfl, rfl⟩) | (go_at_call 72; refine (failed_nil _).mono ?_; rintro e w' ⟨rfl, rfl⟩))
  go_ret
  exact ⟨rfl, rfl⟩

set_option maxHeartbeats 400000 in
theorem int_any (w : World) (p L : Nat) (xs : List Int) (k most : Int) (hmost : most ≤ 9223372036854775807) (hb : Byt xs) (h : R w p L xs k) : Calls Tryd.prog 44 #[.pointer (some ⟨p, 0, none⟩), .int .i64 most] w fun e w' =>
    e = .returned (.int .i64 ((intS xs k most).1 : Nat)) ∧ R w' p L (intS xs k most).2.1 (intS xs k most).2.2 ∧ w.grownBy w' (some p) := by
  have hU := uint_any w p L xs k h
  have hlt := uintS_lt (k := k) hb
  unfold intS
  generalize uintS xs k = T at *
  obtain ⟨m, rs, q⟩ := T
  simp only at hU hlt ⊢
  have HU : Hid (Calls _ _ _ _ _) := hU
  clear hU h hb
  by_cases hq : q = 0
  · subst hq
    rw [if_pos rfl]
    by_cases hbad : most < 0 ∨ most < (m : Int)
    · rw [if_pos hbad]
      by_cases hneg : most < 0
      · clear hbad
        go_enter Tryd.func44, Tryd.ntmps44
        go_wp2_with fail
        refine HU.out.mono ?_
        rintro e w1 ⟨rfl, hR1, hg1⟩
        clear HU
        have hc1 := hR1.kind
        go_wp2_with (first | (go_at_call 72; refine (failed_any _ p 0 hc1).mono ?_; rintro e w' ⟨rfl, rfl⟩) | (go_at_call 73; refine (fail_any _ p L rs 4 hR1 (by decide)).mono ?_; rintro e w2 ⟨rfl, hr2, hg2⟩))
        have hg := grown_trans hg1 hg2
        go_ret
        exact ⟨rfl, hr2, hg⟩
      · have hlt2 : most < (m : Int) := by omega
        clear hbad
        go_enter Tryd.func44, Tryd.ntmps44
        go_wp2_with fail
        refine HU.out.mono ?_
        rintro e w1 ⟨rfl, hR1, hg1⟩
        clear HU
        have hc1 := hR1.kind
        go_wp2_with (first | (go_at_call 72; refine (failed_any _ p 0 hc1).mono ?_; rintro e w' ⟨rfl, rfl⟩) | (go_at_call 73; refine (fail_any _ p L rs 4 hR1 (by decide)).mono ?_; rintro e w2 ⟨rfl, hr2, hg2⟩))
        have hg := grown_trans hg1 hg2
        go_ret
        exact ⟨rfl, hr2, hg⟩
    · rw [if_neg hbad]
      have h1 : 0 ≤ most := by omega
      have h2 : (m : Int) ≤ most := by omega
      clear hbad
      go_enter Tryd.func44, Tryd.ntmps44
      go_wp2_with fail
      refine HU.out.mono ?_
      rintro e w1 ⟨rfl, hR1, hg1⟩
      clear HU
      have hc1 := hR1.kind
      go_wp2_with (go_at_call 72; refine (failed_any _ p 0 hc1).mono ?_; rintro e w' ⟨rfl, rfl⟩)
      go_ret
      exact ⟨rfl, hR1, hg1⟩
  · rw [if_neg hq]
    have hqb : (q != 0) = true := by simp [hq]
    clear hq
    go_enter Tryd.func44, Tryd.ntmps44
    go_wp2_with fail
    refine HU.out.mono ?_
    rintro e w1 ⟨rfl, hR1, hg1⟩
    clear HU
    have hc1 := hR1.kind
    go_wp2_with (go_at_call 72; refine (failed_any _ p q hc1).mono ?_; rintro e w' ⟨rfl, rfl⟩)
    go_ret
    exact ⟨rfl, hR1, hg1⟩

theorem bytes_nil (w : World) (most : Int) : Calls Tryd.prog 45 #[.pointer none, .int .i64 most] w fun e w' => e = .returned (.slice none 0 0) ∧ w' = w := by
  go_enter Tryd.func45, Tryd.ntmps45
  go_wp2_with (first | (go_at_call 44; refine (int_nil _ _).mono ?_; rintro e w' ⟨rfl, rfl⟩) | (go_at_call 72; refine (failed_nil _).mono ?_; rintro e w' ⟨rfl, rfl⟩))
  go_ret
  exact ⟨rfl, rfl⟩
end Go.Proofs.YtiabdcejibeciaaDoor

namespace Go.Proofs.YtiabdcejibeciaaDoor
open Go.RowKit

theorem R.byte {w : World} {p L : Nat} {xs : List Int} {k : Int} (h : R w p L xs k) : Byt xs := by
  obtain ⟨ao, n, cap, hr⟩ := h
  exact hr.sl.byte

theorem Sl.keepNe {w w' : World} {q : Nat} {ao : Option Addr} {n cap : Nat} {xs : List Int} (h : Sl w ao n cap xs) (hne : ∀ a, ao = some a → 0 < n → a.block ≠ q) (hg : w.grownBy w' (some q)) : Sl w' ao n cap xs := by
  refine ⟨h.len, h.le, h.mx, h.nil, fun a ha i hi => hg.cell (h.cell a ha i hi) ?_, h.byte⟩
  have := hne a ha (by omega)
  have e : (a.add i).block = a.block := by unfold Addr.add; split <;> rfl
  rw [e]
  simp
  exact this
theorem Sl.ofOwn {w : World} {base : Nat} {ao : Option Addr} {n cap : Nat} {xs : List Int} (h : w.ownsRow base 5 1 (.slice ao n cap) n (bv xs)) (hb : Byt xs) : Sl w ao n cap xs := by
  obtain ⟨bo, c, he, hs, _⟩ := Sl.own h hb
  simp only [Value.slice.injEq] at he
  obtain ⟨rfl, _, rfl⟩ := he
  exact hs

/-- The end of Bytes where there are enough: the copy, and the reader behind it. -/
theorem bytes_end {w w' w2 : World} {p L m n cap : Nat} {ao bo : Option Addr} {c : Nat} {rs : List Int} {k : Int} (hg1 : w.grownBy w' (some p)) (hr : Rd w' p L ao n cap rs k) (hb2 : Below w'.heap.size w' w2)
    (hown : w2.ownsRow w'.heap.size 5 1 (.slice (some ⟨w'.heap.size, 0, none⟩) m (m + 0)) m (bv (rs.take m))) (hs : Sl w2 bo (n - m) c (rs.drop m)) (hlow : ∀ a, bo = some a → 0 < n - m → a.block < L) :
    Sl (w2.setCell ⟨p, 0, none⟩ (.slice bo (n - m) c)) (some ⟨w'.heap.size, 0, none⟩) m m (rs.take m) ∧ (∀ a, some (⟨w'.heap.size, 0, none⟩ : Addr) = some a → w.heap.size ≤ a.block) ∧
      R (w2.setCell ⟨p, 0, none⟩ (.slice bo (n - m) c)) p L (rs.drop m) k ∧ w.grownBy (w2.setCell ⟨p, 0, none⟩ (.slice bo (n - m) c)) (some p) := by
  have hp := hr.plt
  refine ⟨(Sl.ofOwn hown (hr.sl.byte.take m)).keepNe ?_ (grown_setCell _ _ _ _), ?_, ⟨_, _, _, (hr.below hb2).rest hs hlow (by omega)⟩, grown_trans hg1 (grown_trans (grown_below hb2) (grown_setCell _ _ _ _))⟩
  · intro a ha _
    obtain rfl := Option.some.inj ha
    show w'.heap.size ≠ p
    omega
  · intro a ha
    obtain rfl := Option.some.inj ha
    exact hg1.size

set_option maxHeartbeats 800000 in
theorem bytes_any (w : World) (p L : Nat) (xs : List Int) (k most : Int) (hmost : most ≤ 9223372036854775807) (h : R w p L xs k) : Calls Tryd.prog 45 #[.pointer (some ⟨p, 0, none⟩), .int .i64 most] w fun e w' =>
    ∃ ao n cap, e = .returned (.slice ao n cap) ∧ Sl w' ao n cap (bytesS xs k most).1 ∧ (∀ a, ao = some a → w.heap.size ≤ a.block) ∧ R w' p L (bytesS xs k most).2.1 (bytesS xs k most).2.2 ∧ w.grownBy w' (some p) := by
  have hU := int_any w p L xs k most hmost h.byte h
  unfold bytesS
  generalize intS xs k most = T at *
  obtain ⟨m, rs, q⟩ := T
  simp only at hU ⊢
  have HU : Hid (Calls _ _ _ _ _) := hU
  clear hU h
  by_cases hq : q = 0
  · subst hq
    rw [if_pos rfl]
    by_cases hbad : rs.length < m
    · rw [if_pos hbad]
      go_enter Tryd.func45, Tryd.ntmps45
      go_wp2_with fail
      refine HU.out.mono ?_
      rintro e w1 ⟨rfl, hR1, hg1⟩
      clear HU
      have hR1' := hR1
      obtain ⟨ao, n, cap, hr⟩ := hR1'
      have hc0 := hr.c0
      have hc1 := hr.c1
      have hl := hr.sl.len
      have hlt : (n : Int) < (m : Int) := by omega
      clear hr hl hbad
      go_wp2_with (first | (go_at_call 72; refine (failed_any _ p 0 hc1).mono ?_; rintro e w' ⟨rfl, rfl⟩) | (go_at_call 73; refine (fail_any _ p L rs 2 hR1 (by decide)).mono ?_; rintro e w2 ⟨rfl, hr2, hg2⟩))
      have hg := grown_trans hg1 hg2
      go_ret
      exact ⟨none, 0, 0, rfl, Sl.nothing _, fun a ha => by simp at ha, hr2, hg⟩
    · rw [if_neg hbad]
      go_enter Tryd.func45, Tryd.ntmps45
      go_wp2_with fail
      refine HU.out.mono ?_
      rintro e w1 ⟨rfl, hR1, hg1⟩
      clear HU
      obtain ⟨ao, n, cap, hr⟩ := hR1
      have hc0 := hr.c0
      have hc1 := hr.c1
      have hl := hr.sl.len
      have hle := hr.sl.le
      have hmx := hr.sl.mx
      unfold maxLen at hmx
      have hsm := hr.sm
      have hmn : m ≤ n := by omega
      have hsl := hr.sl.take m hmn
      clear hbad
      go_wp2_with (first | (go_at_call 72; refine (failed_any _ p 0 hc1).mono ?_; rintro e w' ⟨rfl, rfl⟩) | fail)
      refine (withRoom_any _ _ _ _ 0 _ hsl (by omega)).mono ?_
      rintro e w2 ⟨rfl, hown2, hb2⟩
      have hr2 := hr.below hb2
      have hd0 := hr2.c0
      have hf0 := hr2.f0
      by_cases hcm : cap = m
      · subst hcm
        have hfin := bytes_end hg1 hr hb2 hown2 (hr2.sl.dropAll hmn) (fun a ha hp => by omega)
        rw [show n - cap = 0 from by omega] at hfin
        go_wp2_with fail
        go_ret
        exact ⟨_, _, _, rfl, hfin⟩
      · have hfin := bytes_end hg1 hr hb2 hown2 (hr2.sl.drop m hmn) (low_drop hr.low (by omega))
        go_wp2_with fail
        go_ret
        exact ⟨_, _, _, rfl, hfin⟩
  · rw [if_neg hq]
    have hqb : (q != 0) = true := by simp [hq]
    clear hq
    go_enter Tryd.func45, Tryd.ntmps45
    go_wp2_with fail
    refine HU.out.mono ?_
    rintro e w1 ⟨rfl, hR1, hg1⟩
    clear HU
    have hc1 := hR1.kind
    go_wp2_with (go_at_call 72; refine (failed_any _ p q hc1).mono ?_; rintro e w' ⟨rfl, rfl⟩)
    go_ret
    exact ⟨none, 0, 0, rfl, Sl.nothing _, fun a ha => by simp at ha, hR1, hg1⟩

end Go.Proofs.YtiabdcejibeciaaDoor

namespace Go.Proofs.YtiabdcejibeciaaDoor
open Go.RowKit

set_option maxHeartbeats 400000 in
theorem clone_any (w : World) (ao : Option Addr) (n cap : Nat) (xs : List Int) (h : Sl w ao n cap xs) (hr : n ≤ 140737488355328) :
    Calls Tryd.prog 70 #[.slice ao n cap] w fun e w' => ∃ v, e = .returned v ∧ w'.ownsRow w.heap.size 5 1 v n (bv xs) ∧ Below w.heap.size w w' := by
  have hA := h.below ((Below.refl w.heap.size w).alloc (Nat.le_refl _) (.cells #[] 5))
  have hO := own_empty w
  have hq : ∀ W, (binOp .eql 26 (.slice ao n cap) (.slice none 0 0)).run Tryd.prog W = .ok (.bool ao.isNone) W := fun W => Lib.run_eql_slice_nil W _ _ ao n cap 0 0 Tryd.underlying26
  cases ao with
  | none =>
    obtain ⟨rfl, rfl⟩ := h.nil rfl
    obtain rfl : xs = [] := List.eq_nil_of_length_eq_zero h.len
    go_enter Tryd.func70, Tryd.ntmps70
    go_wp2
    go_ret
    exact ⟨_, rfl, World.ownsRow_nil _ _ _ _, Below.refl _ _⟩
  | some a =>
    go_enter Tryd.func70, Tryd.ntmps70
    go_wp2_with (at_builtin; refine wpList_app rfl _ _ rfl w.heap.size _ _ _ rfl hO _ _ _ _ rfl hA (by omega) (by simp) ?_; intro v1 w1 hown1 hb1)
    simp only [Nat.zero_add, List.nil_append] at hown1
    have hb2 := ((Below.refl w.heap.size w).alloc (Nat.le_refl _) _).trans hb1
    clear hb1 hO hA hq
    go_ret
    exact ⟨v1, rfl, hown1, hb2⟩

theorem new_reader (w : World) (t : TypeId) (bo : Option Addr) (n c : Nat) (xs : List Int) (hsl : Sl w bo n c xs) (hlt : ∀ a, bo = some a → 0 < n → a.block < w.heap.size) (hn : n ≤ 1000000) :
    R (w.alloc (.cells #[.slice bo n c, .int .i64 0] t)) w.heap.size w.heap.size xs 0 := by
  refine ⟨bo, n, c, ?_, ?_, ?_, ?_, hsl.below ((Below.refl _ w).alloc (Nat.le_refl _) _), hlt, Nat.le_refl _, hn⟩
  · go_simp
  · go_simp
  · go_simp
  · go_simp

set_option maxHeartbeats 400000 in
theorem read_any (w : World) (ao : Option Addr) (n cap : Nat) (xs : List Int) (h : Sl w ao n cap xs) (hr : n ≤ 1000000) :
    Calls Tryd.prog 43 #[.slice ao n cap] w fun e w' => ∃ p, e = .returned (.pointer (some ⟨p, 0, none⟩)) ∧ w.heap.size ≤ p ∧ R w' p p xs 0 ∧ Below w.heap.size w w' := by
  go_enter Tryd.func43, Tryd.ntmps43
  go_wp2_with fail
  refine (clone_any w ao n cap xs h (by omega)).mono ?_
  rintro e w1 ⟨v1, rfl, hown1, hb1⟩
  obtain ⟨bo, c2, rfl, hsl, hbo⟩ := Sl.own hown1 h.byte
  have hs := hb1.size
  have hfin := new_reader w1 113 bo n c2 xs hsl (fun a ha _ => (hbo a ha).2.1) hr
  have hb2 := hb1.alloc hs (.cells #[.slice bo n c2, .int .i64 0] 113)
  clear hown1 hsl hbo hb1
  go_wp2
  go_ret
  exact ⟨w1.heap.size, rfl, hs, hfin, hb2⟩
end Go.Proofs.YtiabdcejibeciaaDoor

namespace Go.Proofs.YtiabdcejibeciaaDoor
open Go.RowKit

/-- append, where its run is known. -/
theorem wpList_appR {P : Program} {w w' : World} {ops : Array Oper} {rest : List Oper} {o : Oper} {a : Act} {Q : Exit → Act → World → Prop} (hgd : o.guard = none) (s x : Operand) (t t' : TypeId)
    (ho : o.op = .call { callee := .builtin .append, args := #[s, x], argTypes := #[t, t'] }) (v u v' : Value) (hs : a.eval s = v) (hx : a.eval x = u) (hr : (Builtin.append_ #[t, t'] o.type #[v, u]).run P w = .ok v' w')
    (h : wpList P ops Q rest (a.put o.dst v') w') : wpList P ops Q (o :: rest) a w := by
  refine wpList_plain hgd fun _ hK => ?_
  unfold Oper.wp execOp
  simp only [ho, resolve, invoke, builtin, Sem.run_bind, Sem.run_pure, Result.andThen_ok, List.map_toArray, List.map_cons, List.map_nil, hs, hx, hr, Oper.upon]
  exact hK _ _ h
/-- The block that holds some bytes. -/
def blkP (q : Part) (x : Nat) : Prop := ∃ a, q.ao = some a ∧ 0 < q.n ∧ a.block = x
theorem Sl.keptP {w w' : World} {q : Part} (h : Sl w q.ao q.n q.cap q.xs) (hk : ∀ x, blkP q x → w'.heap[x]? = w.heap[x]?) : Sl w' q.ao q.n q.cap q.xs := by
  refine ⟨h.len, h.le, h.mx, h.nil, fun a ha i hi => ?_, h.byte⟩
  have hb : (a.add i).block = a.block := by unfold Addr.add; split <;> rfl
  rw [← h.cell a ha i hi]
  exact World.cell?_of_block (by rw [hb]; exact hk _ ⟨a, ha, by omega, rfl⟩)
theorem Sl.ltP {w : World} {q : Part} (h : Sl w q.ao q.n q.cap q.xs) {x : Nat} (hx : blkP q x) : x < w.heap.size := by
  obtain ⟨a, ha, hn, rfl⟩ := hx
  exact h.lt a ha hn
def IP.blk (q : IP) (x : Nat) : Prop := blkP q.k x ∨ blkP q.v x
theorem IP.ok.kept {w w' : World} {q : IP} (h : q.ok w) (hk : ∀ x, q.blk x → w'.heap[x]? = w.heap[x]?) : q.ok w' := ⟨h.1.keptP fun x hx => hk x (.inl hx), h.2.keptP fun x hx => hk x (.inr hx)⟩
theorem IP.ok.lt {w : World} {q : IP} (h : q.ok w) {x : Nat} (hx : q.blk x) : x < w.heap.size := by
  rcases hx with hx | hx
  · exact h.1.ltP hx
  · exact h.2.ltP hx
/-- A reader where another block is written. -/
theorem R.keepO {w w' : World} {p L : Nat} {o : Option Nat} {xs : List Int} {k : Int} (h : R w p L xs k) (hg : w.grownBy w' o) (ho : ∀ q, o = some q → p ≠ q ∧ L ≤ q) : R w' p L xs k := by
  cases o with
  | some q => exact h.keep (ho q rfl).1 (ho q rfl).2 hg
  | none => exact h.below ⟨hg.os, hg.tape, hg.output, hg.size, fun i hi => hg.block i hi (by simp)⟩
/-- Items while they are read, by a reader at block p. -/
structure CkInv (w : World) (N p base : Nat) (f : Nat → List It × List Int × Int) (V : World) (v : Value) (ps : List IP) : Prop where
  rd : R V p p (f ps.length).2.1 (f ps.length).2.2
  own : V.ownsRow base 28 2 v ps.length (flatI ps)
  oks : ∀ q ∈ ps, q.ok V
  far : ∀ q ∈ ps, ∀ x, q.blk x → x ≠ p ∧ v.ownBlock ≠ some x
  new : ∀ q ∈ ps, ∀ x, q.blk x → N ≤ x
  thr : ps.map IP.it = (f ps.length).1
  bel : Below w.heap.size w V
  pos : w.heap.size ≤ p ∧ p < base ∧ base ≤ V.heap.size
theorem CkInv.row {w : World} {N p base : Nat} {f : Nat → List It × List Int × Int} {V : World} {v : Value} {ps : List IP} (h : CkInv w N p base f V v ps) : ∃ ao cap, v = .slice ao ps.length cap ∧ IL V ao ps.length cap ps := own_items h.own h.oks
/-- The reader has read on: what was read is as it was. -/
theorem CkInv.grown {w : World} {N p base : Nat} {f : Nat → List It × List Int × Int} {V V1 : World} {v : Value} {ps : List IP} (h : CkInv w N p base f V v ps) (hg : V.grownBy V1 (some p)) :
    V1.ownsRow base 28 2 v ps.length (flatI ps) ∧ (∀ q ∈ ps, q.ok V1) ∧ Below w.heap.size w V1 ∧ base ≤ V1.heap.size := by
  have hpos := h.pos
  refine ⟨own_kept h.own fun g hgv => hg.block g (h.own.lt g hgv).2 fun e => ?_, fun q hq => (h.oks q hq).kept fun x hx => hg.block x ((h.oks q hq).lt hx) fun e => (h.far q hq x hx).1 (Option.some.inj e), ?_, by have := hg.size; omega⟩
  · have := (h.own.lt g hgv).1
    have := Option.some.inj e
    omega
  · exact h.bel.trans (below_grown hg h.bel.size hpos.1)
/-- One item more. -/
theorem CkInv.step {w : World} {N p base : Nat} {f : Nat → List It × List Int × Int} {V V2 V3 : World} {v : Value} {ps : List IP} {q : IP} (h : CkInv w N p base f V v ps) (hg : V.grownBy V2 (some p)) (hq : q.ok V2)
    (hfar : ∀ x, q.blk x → x ≠ p ∧ v.ownBlock ≠ some x) (hnew : ∀ x, q.blk x → N ≤ x) (hf : f (ps.length + 1) = ((f ps.length).1 ++ [q.it], (f (ps.length + 1)).2)) (hr : R V2 p p (f (ps.length + 1)).2.1 (f (ps.length + 1)).2.2) (hn : ps.length ≤ 100000) (h3 : V3 = V2.alloc (.cells #[q.k.val, q.v.val] 28)) (ty : TypeId) (c : Nat) :
    ∃ v' V4, (Builtin.append_ #[22, 22] ty #[v, .slice (some ⟨V2.heap.size, 0, none⟩) 1 c]).run Tryd.prog V3 = .ok v' V4 ∧ CkInv w N p base f V4 v' (ps ++ [q]) := by
  obtain ⟨o2, k2, b2, s2⟩ := h.grown hg
  have B3 : Below V2.heap.size V2 V3 := by rw [h3]; exact (Below.refl _ _).alloc (Nat.le_refl _) _
  have o3 := own_kept (w' := V3) o2 fun g hgv => B3.block g (o2.lt g hgv).2
  have hx : V3.heap[V2.heap.size]? = some (.cells #[q.k.val, q.v.val] 28) := by rw [h3]; exact heap_alloc_new V2 _
  have hs3 := B3.size
  have hpos := h.pos
  obtain ⟨i0, hi, hz0, hz1, hz2⟩ := info_parts itemInfo
  obtain ⟨v', V4, hrun, own4, g4, w4⟩ := run_append_own2 (P := Tryd.prog) V3 base 22 ty 28 i0 _ 2 48 Tryd.underlying22 hi hz0 hz1 hz2 rfl (by decide) v ps.length (flatI ps) o3 ⟨V2.heap.size, 0, none⟩ 1 c [q.k.val, q.v.val] rfl
    (fun j u hu => by
      rw [Addr.add_lit, Nat.zero_add, cell_of_row V3 V2.heap.size j _ _ _ hx]
      simpa using hu) (fun u hu => by
      simp only [List.mem_cons, List.not_mem_nil, or_false] at hu
      rcases hu with rfl | rfl <;> rfl) (by unfold maxLen; omega) (by omega) (by omega)
  have hpl : p < V2.heap.size := by
    obtain ⟨_, _, _, hR⟩ := hr
    exact hR.plt
  have rowne : ∀ g, v.ownBlock = some g → p ≠ g ∧ p ≤ g := fun g hgv => by
    have := (h.own.lt g hgv).1
    omega
  have kp : ∀ r : IP, r.ok V2 → (∀ x, r.blk x → x ≠ p ∧ v.ownBlock ≠ some x) → r.ok V4 ∧ ∀ x, r.blk x → x ≠ p ∧ v'.ownBlock ≠ some x := fun r hr hf => by
    refine ⟨(hr.below B3).kept fun x hx => g4.block x ((hr.below B3).lt hx) fun e => (hf x hx).2 e.symm, fun x hx => ⟨(hf x hx).1, fun e => ?_⟩⟩
    rcases w4 x e with e' | e'
    · exact (hf x hx).2 e'
    · have := hr.lt hx
      omega
  refine ⟨v', V4, hrun, ?_, ?_, ?_, ?_, ?_, ?_, ?_, ?_⟩
  · rw [List.length_append]
    exact (hr.below B3).keepO g4 rowne
  · rw [List.length_append, flatI_snoc]
    exact own4
  · intro r hm
    rcases List.mem_append.1 hm with hm | hm
    · exact (kp r (k2 r hm) (h.far r hm)).1
    · rw [List.mem_singleton.1 hm]
      exact (kp q hq hfar).1
  · intro r hm
    rcases List.mem_append.1 hm with hm | hm
    · exact (kp r (k2 r hm) (h.far r hm)).2
    · rw [List.mem_singleton.1 hm]
      exact (kp q hq hfar).2
  · intro r hm
    rcases List.mem_append.1 hm with hm | hm
    · exact h.new r hm
    · rw [List.mem_singleton.1 hm]
      exact hnew
  · rw [List.map_append, h.thr, List.length_append]
    show _ = (f (ps.length + 1)).1
    rw [hf]
    rfl
  · refine (b2.trans (B3.mono b2.size)).trans ?_
    cases ho : v.ownBlock with
    | none => rw [ho] at g4; exact ⟨g4.os, g4.tape, g4.output, g4.size, fun i hi => g4.block i (by have := (b2.trans (B3.mono b2.size)).size; omega) (by simp)⟩
    | some g => rw [ho] at g4; exact below_grown g4 (b2.trans (B3.mono b2.size)).size (by have := rowne g ho; omega)
  · refine ⟨hpos.1, hpos.2.1, ?_⟩
    have := g4.size
    omega
end Go.Proofs.YtiabdcejibeciaaDoor

namespace Go.Proofs.YtiabdcejibeciaaDoor
open Go.RowKit

theorem take_snoc {α β : Type} (f : α → β) (l : List α) (k : Nat) (h : k < l.length) : (l.map f).take (k + 1) = (l.map f).take k ++ [f l[k]] := by
  rw [List.take_succ_eq_append_getElem (by simpa using h), List.getElem_map]
def FormOfPost (w0 W : World) (m : Nat) (F : List (Nat × Value)) (P : List (Nat × List It)) (FF : List Int) (e : Ending) (W' : World) : Prop :=
  ∃ fo fn fc F', e = .returned (.slice fo fn fc) ∧ SlT W' ⟨fo, fn, fc, FF⟩ ∧ HI w0 W' m F' P ∧ (∀ p ∈ F, ∃ q ∈ F', q.1 = p.1) ∧ W.grownBy W' (some m)

set_option maxHeartbeats 8000000 in
set_option maxRecDepth 100000 in
theorem formOf_any (n : Nat) (IH : HashOk n) (w0 W : World) (m : Nat) (d : Nd) (l : List It) (segs : List (List It)) (xs : List It) (F : List (Nat × Value)) (P : List (Nat × List It)) (hN : Nod w0 l d segs xs) (hln : l.length ≤ n + 1) (hI : HI w0 W m F P) (hP : ∀ q ∈ P, l.length ≤ q.2.length) (hT : Tabs w0) (hz : Szs l) :
    Calls Tryd.prog 101 #[d.ptr, .map (some m)] W (FormOfPost w0 W m F P (formN d.L (xs.map It.k) (xs.map fun x => sumL x.v) (segs.map hashI))) := by
  have KW := hI.kc
  have nk := hN.nk
  have nv := hN.nv
  have nc := hN.nc
  have hml := hN.many
  have hzl := hz.1
  have HZ : Hid (Szs l) := hz
  have HIH : Hid (HashOk n) := IH
  have HP : Hid (∀ q ∈ P, l.length ≤ q.2.length) := hP
  have HN : Hid (Nod w0 l d segs xs) := hN
  have b2 := KW.cell hN.ok.c2
  have HT : Hid (Tabs w0) := hT
  have HNK : Hid (d.ks.length = xs.length ∧ d.vs.length = xs.length ∧ d.cs.length = xs.length + 1) := ⟨nk, nv, nc⟩
  have hx1 : xs.length ≤ 10000 := by omega
  have HKC : Hid (KC w0 W) := KW
  obtain ⟨vn, hvn⟩ : ∃ n, n = d.vs.length := ⟨_, rfl⟩
  have HVN : Hid (vn = d.vs.length) := hvn
  rw [← hvn] at b2
  have hvx1 : vn ≤ xs.length := by omega
  have hvx2 : xs.length ≤ vn := by omega
  clear KW nk nv nc hvn IH hz hT hP
  unfold Nd.ptr
  go_enter Tryd.func101, Tryd.ntmps101
  go_wp2_with fail
  go_loopw [5, 16] (fun v i wr => ∃ (k : Nat) (qs : List Part), k ≤ vn ∧ i = .int .i64 k ∧ RwI W.heap.size wr v qs ∧ Hid (qs.map Part.xs = (xs.map fun x => sumL x.v).take k) ∧ Below W.heap.size W wr) (fun _ i _ => vn - (intOf i).toNat)
  case atStart => exact ⟨0, [], Nat.zero_le _, rfl, RwI.nil W, rfl, Below.refl _ _⟩
  case round =>
    obtain ⟨k, qs, hkn, rfl, K, HQ, hB⟩ := hrel
    have HQL : Hid (qs.length = k) := by
      show _ = _
      have := congrArg List.length HQ.out
      rw [List.length_map, List.length_take, List.length_map] at this
      omega
    by_cases hlt : k < vn
    · have hki : (k : Int) < (vn : Int) := by omega
      have hkv : k < d.vs.length := by have := HVN.out; omega
      have hkx : k < xs.length := by omega
      have KR := HKC.out.trans (KC.below hB)
      have VLr := HN.out.ok.vl.kc KR
      obtain ⟨b, off, e0, hc⟩ := VLr.vl.at (by rw [← HVN.out]; omega)
      have c1 := hc k (by simpa using hkv)
      rw [List.getElem_map] at c1
      have S := VLr.sl d.vs[k] (List.getElem_mem hkv)
      rw [HN.out.valAt k hkv hkx] at S
      have HTK : Hid ((xs.map fun x => sumL x.v).take (k + 1) = (xs.map fun x => sumL x.v).take k ++ [sumL xs[k].v]) := take_snoc (fun x : It => sumL x.v) xs k hkx
      obtain ⟨y, hy⟩ : ∃ y, y = xs[k].v := ⟨_, rfl⟩
      rw [← hy] at S HTK
      obtain ⟨q, hq⟩ : ∃ q, q = d.vs[k] := ⟨_, rfl⟩
      rw [← hq] at c1 S
      unfold Part.val at c1
      have b2' := b2
      rw [e0] at b2'
      have CS := sumT wr q.ao q.n q.cap y (HT.out.kc KR) S
      clear hc hq hy S VLr KR
      rw [e0]
      go_wp2_with fail
      refine CS.mono ?_
      rintro e w1 ⟨s1, sc1, rfl, S1, C1⟩
      have K1 := K.kc (KC.below C1)
      have hB1 := hB.trans (C1.mono hB.size)
      obtain ⟨v', W3, hrun, K3, B3, -⟩ := K1.step S1 rfl (by have := HQL.out; omega) 51 1
      unfold Part.val at hrun
      have HRUN : Hid ((Builtin.append_ #[51, 51] 51 #[_, .slice (some ⟨w1.heap.size, 0, none⟩) 1 1]).run Tryd.prog (w1.alloc (.cells #[.slice s1 32 sc1] 26)) = .ok v' W3) := hrun
      have HK3 : Hid (RwI W.heap.size W3 v' (qs ++ [⟨s1, 32, sc1, sumL y⟩])) := K3
      have hB3 := hB1.trans B3
      clear CS S1 C1 K1 hrun K3 B3 K hB1 b2'
      go_wp2_with (at_builtin; refine wpList_appR rfl _ _ _ _ rfl _ _ _ rfl rfl HRUN.out ?_)
      go_roundw
      case rel =>
        refine ⟨k + 1, qs ++ [⟨s1, 32, sc1, sumL y⟩], by omega, by go_num, HK3.out, ?_, hB3⟩
        show _ = _
        rw [List.map_append, HQ.out, HTK.out]
        rfl
      case measure => simp [intOf]; omega
    · have hge : ¬ (k : Int) < (vn : Int) := by omega
      obtain ⟨wa, rfl⟩ : ∃ W', W' = wr := ⟨wr, rfl⟩
      have HSX : Hid (qs.map Part.xs = xs.map fun x => sumL x.v) := by
        show _ = _
        rw [HQ.out, List.take_of_length_le (by rw [List.length_map]; omega)]
      obtain ⟨so, sc, rfl, KLs⟩ := K.kl
      have hIa := hI.below hB
      have KA := hIa.kc
      have b3 := KA.cell HN.out.ok.c3
      obtain ⟨sn, hsn⟩ : ∃ n, n = qs.length := ⟨_, rfl⟩
      have HSN : Hid (sn = xs.length) := by show _ = _; rw [hsn, HQL.out]; omega
      rw [← hsn] at KLs ⊢
      obtain ⟨cn, hcn⟩ : ∃ n, n = d.cs.length := ⟨_, rfl⟩
      have HCN : Hid (cn = d.cs.length) := hcn
      rw [← hcn] at b3
      have hcx1 : cn ≤ xs.length + 1 := by have := HNK.out.2.2; omega
      have hcx2 : xs.length + 1 ≤ cn := by have := HNK.out.2.2; omega
      have HIA : Hid (HI w0 wa m F P) := hIa
      have HKS : Hid (KL wa so sn sc qs) := KLs
      have HBA : Hid (Below W.heap.size W wa) := hB
      clear K HQ hsn hcn KA hIa KLs hB HQL hI b2
      go_wp2_with fail
      go_loopw [6, 31] (fun v i wr => ∃ (k : Nat) (ks : List Part) (F' : List (Nat × Value)), k ≤ cn ∧ i = .int .i64 k ∧ RwI wa.heap.size wr v ks ∧ Hid (ks.map Part.xs = (segs.map hashI).take k) ∧ HI w0 wr m F' P ∧ Hid (∀ p ∈ F, ∃ q ∈ F', q.1 = p.1) ∧ wa.grownBy wr (some m)) (fun _ i _ => cn - (intOf i).toNat)
      case atStart => exact ⟨0, [], F, Nat.zero_le _, rfl, RwI.nil wa, rfl, HIA.out, fun p hp => ⟨p, hp, rfl⟩, World.grownBy.refl _ _⟩
      case round =>
        obtain ⟨k, ks, F', hkn, rfl, K, HQ, hI', HKF, hG⟩ := hrel
        have HQL : Hid (ks.length = k) := by
          show _ = _
          have := congrArg List.length HQ.out
          rw [List.length_map, List.length_take, List.length_map] at this
          have := HN.out.shp.len
          omega
        by_cases hlt : k < cn
        · have hki : (k : Int) < (cn : Int) := by omega
          have hks : k < segs.length := by have := HN.out.shp.len; omega
          obtain ⟨b, off, s, u, e0, hs, hu, c1, ht, hsl⟩ := HN.out.kidAt k (by omega)
          have hsm : s ∈ segs := List.mem_of_getElem? hs
          have c1' := hI'.kc.cell c1
          have HTK : Hid ((segs.map hashI).take (k + 1) = (segs.map hashI).take k ++ [hashI s]) := by
            show _ = _
            rw [take_snoc hashI segs k hks]
            have : segs[k] = s := by rw [List.getElem?_eq_getElem hks] at hs; exact Option.some.inj hs
            rw [this]
          have CH := HIH.out w0 wr m u s F' P (by omega) ht hI' (fun q hq => by have := HP.out q hq; omega) HT.out ⟨by have := HZ.out.1; omega, fun x hx => HZ.out.2 x (HN.out.shp.seg s hsm x hx)⟩
          have HPM : Hid (PM wr m F') := hI'.pm
          rw [e0]
          clear hu ht hs c1 hI'
          go_wp2_with fail
          refine CH.mono ?_
          rintro e w1 ⟨h1, hc1, F1, rfl, S1, I1, kf1, G1⟩
          have K1 := K.kc (KC.grown HPM.out G1)
          have hG1 := grown_trans hG G1
          obtain ⟨v', W3, hrun, K3, B3, kp3⟩ := K1.step S1 rfl (by have := HQL.out; omega) 51 1
          unfold Part.val at hrun
          have HRUN : Hid ((Builtin.append_ #[51, 51] 51 #[_, .slice (some ⟨w1.heap.size, 0, none⟩) 1 1]).run Tryd.prog (w1.alloc (.cells #[.slice h1 32 hc1] 26)) = .ok v' W3) := hrun
          have HK3 : Hid (RwI wa.heap.size W3 v' (ks ++ [⟨h1, 32, hc1, hashI s⟩])) := K3
          have HI3 : Hid (HI w0 W3 m F1 P) := I1.keep B3 HIA.out.g.size kp3
          have hG3 := grown_keep hG1 B3 (Nat.le_refl _)
          have HKF3 : Hid (∀ p ∈ F, ∃ q ∈ F1, q.1 = p.1) := fun p hp => by
            obtain ⟨q, hq, e⟩ := HKF.out p hp
            obtain ⟨q', hq', e'⟩ := kf1 q hq
            exact ⟨q', hq', e'.trans e⟩
          clear CH S1 I1 kf1 G1 K1 hrun K3 B3 kp3 K hG1
          go_wp2_with (at_builtin; refine wpList_appR rfl _ _ _ _ rfl _ _ _ rfl rfl HRUN.out ?_)
          go_roundw
          case rel =>
            refine ⟨k + 1, ks ++ [⟨h1, 32, hc1, hashI s⟩], F1, by omega, by go_num, HK3.out, ?_, HI3.out, HKF3.out, hG3⟩
            show _ = _
            rw [List.map_append, HQ.out, HTK.out]
            rfl
          case measure => simp [intOf]; omega
        · have hge2 : ¬ (k : Int) < (cn : Int) := by omega
          have HCX : Hid (ks.map Part.xs = segs.map hashI) := by
            show _ = _
            rw [HQ.out, List.take_of_length_le (by rw [List.length_map, HN.out.shp.len]; omega)]
          obtain ⟨co, cc, rfl, KLc⟩ := K.kl
          obtain ⟨kn, hkn2⟩ : ∃ n, n = ks.length := ⟨_, rfl⟩
          have hkn1 : kn ≤ 10001 := by rw [hkn2, HQL.out]; omega
          rw [← hkn2] at KLc ⊢
          have KR := hI'.kc
          have c0 := KR.cell HN.out.ok.c0
          have c1 := KR.cell HN.out.ok.c1
          have KLk := HN.out.ok.kl.kc KR
          have KLs := HKS.out.kc (KC.grown HIA.out.pm hG)
          have ek : pxs d.ks = xs.map It.k := HN.out.ek
          have es : pxs qs = xs.map fun x => sumL x.v := HSX.out
          have ec : pxs ks = segs.map hashI := HCX.out
          have hL := HN.out.L_le
          obtain ⟨FF, hFF⟩ : ∃ FF, FF = formN d.L (xs.map It.k) (xs.map fun x => sumL x.v) (segs.map hashI) := ⟨_, rfl⟩
          have hB1 : ∀ x ∈ xs.map It.k, x.length ≤ 1000 := fun x hx => by
            obtain ⟨y, hy, rfl⟩ := List.mem_map.1 hx
            exact (HZ.out.2 y (HN.out.shp.key y hy)).1
          have hB2 : ∀ x ∈ (xs.map fun x => sumL x.v), x.length ≤ 1000 := fun x hx => by
            obtain ⟨y, hy, rfl⟩ := List.mem_map.1 hx
            rw [sumL_len]
            omega
          have hB3 : ∀ x ∈ segs.map hashI, x.length ≤ 1000 := fun x hx => by
            obtain ⟨y, hy, rfl⟩ := List.mem_map.1 hx
            rw [hashI_len]
            omega
          have hFL : FF.length ≤ 1000000000 := by
            have := formN_len (B := 1000) (L := d.L) (by decide) (by omega) (by rw [List.length_map]; omega) hB1 hB2 hB3
            rw [← hFF, List.length_map] at this
            have h3 : xs.length * (3 * (1000 + 10)) ≤ 10000 * (3 * (1000 + 10)) := Nat.mul_le_mul_right _ hx1
            omega
          have hFB : Byt FF := by
            rw [hFF]
            refine formN_byte (B := 1000) (by decide) (by omega) (by rw [List.length_map]; omega) (fun x hx => ⟨hB1 x hx, ?_⟩) (fun x hx => ⟨hB2 x hx, ?_⟩) (fun x hx => ⟨hB3 x hx, ?_⟩)
            · rw [← ek] at hx
              obtain ⟨y, hy, rfl⟩ := List.mem_map.1 hx
              exact (KLk.sl y hy).byte
            · obtain ⟨y, hy, rfl⟩ := List.mem_map.1 hx
              exact sumL_byte _
            · rw [← ec] at hx
              obtain ⟨y, hy, rfl⟩ := List.mem_map.1 hx
              exact (KLc.sl y hy).byte
          have CF : ∀ V, Below wr.heap.size wr V → Calls Tryd.prog 120 #[.int .i64 d.L, .slice d.ko d.ks.length d.kc, .slice so sn sc, .slice co kn cc] V fun e w' => ∃ fo fn fc, e = .returned (.slice fo fn fc) ∧ SlT w' ⟨fo, fn, fc, FF⟩ ∧ Below V.heap.size V w' := fun V hV => by
            refine (form_any V d.L d.ko so co d.ks.length d.kc sn sc kn cc d.ks qs ks (KLk.below hV).pl (KLs.below hV).pl (KLc.below hV).pl (by omega) (by have := HNK.out.1; omega) (by have := HSN.out; omega) (by omega) (by rw [ek, es, ec, ← hFF]; exact hFL)).mono ?_
            rintro e w' ⟨v, rfl, own, B⟩
            rw [ek, es, ec, ← hFF] at own
            obtain ⟨fo, fc, rfl, S⟩ := SlT.own own hFB
            exact ⟨fo, _, fc, rfl, S, B⟩
          have HI' : Hid (HI w0 wr m F' P) := hI'
          have HGG : Hid (W.grownBy wr (some m)) := grown_trans (grown_below HBA.out) hG
          have HFF : Hid (FF = formN d.L (xs.map It.k) (xs.map fun x => sumL x.v) (segs.map hashI)) := hFF
          clear K HQ hkn2 hI' KR KLk KLs KLc ek es ec hL hFF hB1 hB2 hB3 hFL hFB hG b3
          go_wp2_with fail
          have HS : Hid (∀ V, Below wr.heap.size wr V → V.cell? ⟨d.b, 0, none⟩ = some (.int .i64 d.L) ∧ V.cell? ⟨d.b, 1, none⟩ = some (.slice d.ko d.ks.length d.kc)) := fun V hV => ⟨(hV.cell (World.block_lt_of_cell? _ _ c0)).trans c0, (hV.cell (World.block_lt_of_cell? _ _ c1)).trans c1⟩
          have E0 : Below wr.heap.size wr wr.drew := (Below.refl _ _).drew
          refine wp_region_noPanic ?_
          refine wp_region_held_drew (S := fun V => V.cell? ⟨d.b, 0, none⟩ = some (.int .i64 d.L) ∧ V.cell? ⟨d.b, 1, none⟩ = some (.slice d.ko d.ks.length d.kc)) (by kernel_rfl) (HS.out _ E0) (fun H0 => ?_)
          obtain ⟨v0, hv0⟩ : ∃ v, v = wr.drew := ⟨_, rfl⟩
          rw [← hv0] at H0 E0 ⊢
          clear hv0
          refine hr_take_w 0 (some 42) (.pointer (some ⟨d.b, 0, none⟩)) rfl rfl (by kernel_rfl) (by kernel_rfl) (by kernel_rfl) rfl (fun W hW => by obtain ⟨h0, h1⟩ := hW; go_simp) H0 ?_
          simp only [Act.put, List.setIfInBounds_toArray, List.set_cons_zero, List.set_cons_succ]
          refine hr_take_w 1 (some 43) (.pointer (some ⟨d.b, 0, none⟩)) rfl rfl (by kernel_rfl) (by kernel_rfl) (by kernel_rfl) rfl (fun W hW => by obtain ⟨h0, h1⟩ := hW; go_simp) H0 ?_
          simp only [Act.put, List.setIfInBounds_toArray, List.set_cons_zero, List.set_cons_succ]
          refine hr_take_w 2 (some 44) (.pointer (some ⟨d.b, 0, none⟩)) rfl rfl (by kernel_rfl) (by kernel_rfl) (by kernel_rfl) rfl (fun W hW => by obtain ⟨h0, h1⟩ := hW; go_simp) H0 ?_
          simp only [Act.put, List.setIfInBounds_toArray, List.set_cons_zero, List.set_cons_succ]
          refine hr_take_w 3 (some 45) (.int .i64 d.L) rfl rfl (by kernel_rfl) (by kernel_rfl) (by kernel_rfl) rfl (fun W hW => by obtain ⟨h0, h1⟩ := hW; go_simp) H0 ?_
          simp only [Act.put, List.setIfInBounds_toArray, List.set_cons_zero, List.set_cons_succ]
          refine hr_take_w 4 (some 46) (.pointer (some ⟨d.b, 0, none⟩)) rfl rfl (by kernel_rfl) (by kernel_rfl) (by kernel_rfl) rfl (fun W hW => by obtain ⟨h0, h1⟩ := hW; go_simp) H0 ?_
          simp only [Act.put, List.setIfInBounds_toArray, List.set_cons_zero, List.set_cons_succ]
          refine hr_take_w 5 (some 47) (.pointer (some ⟨d.b, 0, none⟩)) rfl rfl (by kernel_rfl) (by kernel_rfl) (by kernel_rfl) rfl (fun W hW => by obtain ⟨h0, h1⟩ := hW; go_simp) H0 ?_
          simp only [Act.put, List.setIfInBounds_toArray, List.set_cons_zero, List.set_cons_succ]
          refine hr_take_w 6 (some 48) (.pointer (some ⟨d.b, 1, none⟩)) rfl rfl (by kernel_rfl) (by kernel_rfl) (by kernel_rfl) rfl (fun W hW => by obtain ⟨h0, h1⟩ := hW; go_simp) H0 ?_
          simp only [Act.put, List.setIfInBounds_toArray, List.set_cons_zero, List.set_cons_succ]
          refine hr_take_w 7 (some 49) (.slice d.ko d.ks.length d.kc) rfl rfl (by kernel_rfl) (by kernel_rfl) (by kernel_rfl) rfl (fun W hW => by obtain ⟨h0, h1⟩ := hW; go_simp) H0 ?_
          simp only [Act.put, List.setIfInBounds_toArray, List.set_cons_zero, List.set_cons_succ]
          refine hr_take_w 8 (some 50) (.slice so sn sc) rfl rfl (by kernel_rfl) (by kernel_rfl) (by kernel_rfl) rfl (fun W hW => by obtain ⟨h0, h1⟩ := hW; go_simp) H0 ?_
          simp only [Act.put, List.setIfInBounds_toArray, List.set_cons_zero, List.set_cons_succ]
          refine hr_take_w 9 (some 51) (.slice co kn cc) rfl rfl (by kernel_rfl) (by kernel_rfl) (by kernel_rfl) rfl (fun W hW => by obtain ⟨h0, h1⟩ := hW; go_simp) H0 ?_
          simp only [Act.put, List.setIfInBounds_toArray, List.set_cons_zero, List.set_cons_succ]
          refine hr_call_w 10 (some 52) 120 #[.int .i64 d.L, .slice d.ko d.ks.length d.kc, .slice so sn sc, .slice co kn cc] rfl rfl (by kernel_rfl) rfl (by go_simp) (fun v w' => ∃ fo fn fc, v = .slice fo fn fc ∧ SlT w' ⟨fo, fn, fc, FF⟩ ∧ Below v0.heap.size v0 w') ((CF v0 E0).mono (by
            rintro e w' ⟨fo, fn, fc, rfl, F, C⟩
            exact ⟨_, rfl, fo, fn, fc, rfl, F, C⟩)) ?_
          rintro v v1 ⟨fo, fn, fc, rfl, F0, C0⟩
          have E1 := E0.trans (C0.mono E0.size)
          have H1 := HS.out v1 E1
          refine ⟨H1, ?_⟩
          simp only [Act.put, List.setIfInBounds_toArray, List.set_cons_zero, List.set_cons_succ]
          refine hr_take_w 11 (some 4) (.slice fo fn fc) rfl rfl (by kernel_rfl) (by kernel_rfl) (by kernel_rfl) rfl (fun W hW => by obtain ⟨h0, h1⟩ := hW; go_simp) H1 ?_
          simp only [Act.put, List.setIfInBounds_toArray, List.set_cons_zero, List.set_cons_succ]
          refine wpAnyH_done (by kernel_rfl) ?_ _
          refine NoPanic.normal ?_
          have HI1 : Hid (HI w0 v1 m F' P) := HI'.out.below E1
          have HG1 : Hid (W.grownBy v1 (some m)) := grown_keep HGG.out E1 HGG.out.size
          clear CF c0 c1
          go_wp2
          go_ret
          exact ⟨fo, fn, fc, F', rfl, by rw [← HFF.out]; exact F0, HI1.out, HKF.out, HG1.out⟩
end Go.Proofs.YtiabdcejibeciaaDoor

namespace Go.Proofs.YtiabdcejibeciaaDoor
open Go.RowKit

set_option maxHeartbeats 400000 in
set_option maxRecDepth 100000 in
theorem bclone_any (w : World) (ao : Option Addr) (n cap : Nat) (xs : List Int) (h : Sl w ao n cap xs) (hn : n ≤ 1000000) :
    Calls Tryd.prog 40 #[.slice ao n cap] w (RetB w n xs) := by
  cases ao with
  | none =>
    obtain ⟨rfl, rfl⟩ := h.nil rfl
    obtain rfl : xs = [] := List.eq_nil_of_length_eq_zero h.len
    have hq : ∀ W, _ := fun W => Lib.run_eql_slice_nil (P := Tryd.prog) W 26 5 none 0 0 0 0 Tryd.underlying26
    go_enter Tryd.func40, Tryd.ntmps40
    go_wp2
    go_ret
    exact ⟨none, 0, rfl, Sl.nothing w, Below.refl _ _⟩
  | some a =>
    have B0 : Below w.heap.size w (w.alloc (.cells #[] 5)) := (Below.refl _ w).alloc (Nat.le_refl _) _
    have h0 := h.below B0
    have o0 := own_nothing w
    have hb := h.byte
    have hq : ∀ W, _ := fun W => Lib.run_eql_slice_nil (P := Tryd.prog) W 26 5 (some a) n cap 0 0 Tryd.underlying26
    go_enter Tryd.func40, Tryd.ntmps40
    go_wp2_with (at_builtin; refine wpList_app rfl _ _ rfl w.heap.size _ _ _ rfl o0 _ _ _ _ rfl h0 (by omega) (by simp) ?_; intro v1 w1 own1 B1)
    simp only [Nat.zero_add, List.nil_append] at own1
    obtain ⟨ro, rc, rfl, S, -⟩ := Sl.own own1 hb
    go_wp2
    go_ret
    exact ⟨ro, rc, rfl, S, B0.trans B1⟩
end Go.Proofs.YtiabdcejibeciaaDoor

namespace Go.Proofs.YtiabdcejibeciaaDoor
open Go.RowKit

set_option maxHeartbeats 1000000 in
set_option maxRecDepth 100000 in
theorem chgK_any (w : World) (ao bo : Option Addr) (n cap m c i j : Nat) (vs ys : List Value) (h : VL w ao n cap vs) (hx : VL w bo m c ys) (h1 : ∀ u ∈ vs, u.oneCell' = true) (h2 : ∀ u ∈ ys, u.oneCell' = true) (hij : i ≤ j) (hj : j ≤ n) (hn : n + m ≤ 1000000) :
    Calls Tryd.prog 58 #[.slice ao n cap, .int .i64 i, .int .i64 j, .slice bo m c] w fun e w' =>
      ∃ ro rc, e = .returned (.slice ro (i + m + (n - j)) rc) ∧ VL w' ro (i + m + (n - j)) rc (vs.take i ++ ys ++ vs.drop j) ∧ Below w.heap.size w w' := by
  obtain ⟨i0, hi, hz0, hz1, hz2⟩ := info_parts kinfo
  have hle := h.le
  have F1 : ∀ W, _ := fun W => run_front (P := Tryd.prog) (W := W) (t := 51) (ao := ao) (n := n) (cap := cap) (i := i) (c := i) Tryd.underlying51 (Nat.le_refl _) (by omega) ksize
  have F2 : ∀ W, _ := fun W => run_back (P := Tryd.prog) (W := W) (t := 51) (ao := ao) (n := n) (cap := cap) (j := j) Tryd.underlying51 (by omega) ksize
  go_enter Tryd.func58, Tryd.ntmps58
  go_wp2
  have HS : Hid (∀ V, Below w.heap.size w V → True) := fun _ _ => trivial
  have E0 : Below w.heap.size w w.drew := (Below.refl _ _).drew
  refine wp_region_noPanic ?_
  refine wp_region_held_drew (S := fun V => True) (by kernel_rfl) (HS.out _ E0) (fun H0 => ?_)
  obtain ⟨v0, hv0⟩ : ∃ v, v = w.drew := ⟨_, rfl⟩
  rw [← hv0] at E0 ⊢
  clear hv0
  refine hr_take_w 0 (some 9) (.slice ao n cap) rfl rfl (by kernel_rfl) (by kernel_rfl) (by kernel_rfl) rfl (fun W hW => by go_simp) H0 ?_
  simp only [Act.put, List.setIfInBounds_toArray, List.set_cons_zero, List.set_cons_succ]
  refine hr_take_w 1 (some 10) (.int .i64 i) rfl rfl (by kernel_rfl) (by kernel_rfl) (by kernel_rfl) rfl (fun W hW => by go_simp) H0 ?_
  simp only [Act.put, List.setIfInBounds_toArray, List.set_cons_zero, List.set_cons_succ]
  refine hr_take_w 2 (some 11) (.int .i64 i) rfl rfl (by kernel_rfl) (by kernel_rfl) (by kernel_rfl) rfl (fun W hW => by go_simp) H0 ?_
  simp only [Act.put, List.setIfInBounds_toArray, List.set_cons_zero, List.set_cons_succ]
  refine hr_take_w 3 (some 12) (.slice ao i i) rfl rfl (by kernel_rfl) (by kernel_rfl) (by kernel_rfl) rfl (fun W hW => by simp [execOp, Act.eval, F1]) H0 ?_
  simp only [Act.put, List.setIfInBounds_toArray, List.set_cons_zero, List.set_cons_succ]
  refine hr_take_w 4 (some 13) (.slice bo m c) rfl rfl (by kernel_rfl) (by kernel_rfl) (by kernel_rfl) rfl (fun W hW => by go_simp) H0 ?_
  simp only [Act.put, List.setIfInBounds_toArray, List.set_cons_zero, List.set_cons_succ]
  refine hr_take_w 6 (some 15) (.slice ao n cap) rfl rfl (by kernel_rfl) (by kernel_rfl) (by kernel_rfl) rfl (fun W hW => by go_simp) H0 ?_
  simp only [Act.put, List.setIfInBounds_toArray, List.set_cons_zero, List.set_cons_succ]
  refine hr_take_w 7 (some 16) (.int .i64 j) rfl rfl (by kernel_rfl) (by kernel_rfl) (by kernel_rfl) rfl (fun W hW => by go_simp) H0 ?_
  simp only [Act.put, List.setIfInBounds_toArray, List.set_cons_zero, List.set_cons_succ]
  refine hr_take_w 8 (some 17) (.slice (bk ao cap j) (n - j) (cap - j)) rfl rfl (by kernel_rfl) (by kernel_rfl) (by kernel_rfl) rfl (fun W hW => by simp [execOp, Act.eval, F2]) H0 ?_
  simp only [Act.put, List.setIfInBounds_toArray, List.set_cons_zero, List.set_cons_succ]
  refine hr_ex 5 (some 14) rfl rfl (by kernel_rfl) rfl (R := fun v w' => Apd w' w.heap.size 26 v (i + m) (vs.take i ++ ys) ∧ Below v0.heap.size v0 w') (by obtain ⟨v', w', hr, h3, h4⟩ := run_apd (P := Tryd.prog) (w := v0) (base := v0.heap.size) (t := 51) (ty := 51) Tryd.underlying51 hi hz0 hz1 hz2 rfl (.inl ⟨ao, rfl, (h.below E0).front i i (by omega) (Nat.le_refl _) (by omega)⟩) (Nat.le_refl _) (hx.below E0) h2 (by omega) (by decide); exact ⟨v', w', by simp [execOp, Act.eval, resolve, invoke, builtin, hr], h3.base E0.size, h4⟩) ?_
  rintro v v1 ⟨A1, C0⟩
  have E1 := E0.trans (C0.mono E0.size)
  have H1 := HS.out v1 E1
  refine ⟨H1, ?_⟩
  simp only [Act.put, List.setIfInBounds_toArray, List.set_cons_zero, List.set_cons_succ]
  refine hr_ex 9 (some 18) rfl rfl (by kernel_rfl) rfl (R := fun u w' => Apd w' w.heap.size 26 u (i + m + (n - j)) (vs.take i ++ ys ++ vs.drop j) ∧ Below w.heap.size v1 w') (by obtain ⟨v', w', hr, h3, h4⟩ := run_apd (P := Tryd.prog) (w := v1) (base := w.heap.size) (t := 51) (ty := 51) Tryd.underlying51 hi hz0 hz1 hz2 rfl A1 E1.size ((h.below E1).from j hj) (fun u hu => h1 u (List.mem_of_mem_drop hu)) (by omega) (by decide); exact ⟨v', w', by simp [execOp, Act.eval, resolve, invoke, builtin, hr], h3, h4⟩) ?_
  rintro v v2 ⟨A2, C1⟩
  have E2 := E1.trans C1
  have H2 := HS.out v2 E2
  refine ⟨H2, ?_⟩
  simp only [Act.put, List.setIfInBounds_toArray, List.set_cons_zero, List.set_cons_succ]
  refine hr_take_w 10 (some 8) (v) rfl rfl (by kernel_rfl) (by kernel_rfl) (by kernel_rfl) rfl (fun W hW => by go_simp) H2 ?_
  simp only [Act.put, List.setIfInBounds_toArray, List.set_cons_zero, List.set_cons_succ]
  refine wpAnyH_done (by kernel_rfl) ?_ _
  refine NoPanic.normal ?_
  obtain ⟨ro, rc, rfl, hv⟩ := A2.vl
  go_wp2
  go_ret
  exact ⟨ro, rc, rfl, hv, E2⟩

set_option maxHeartbeats 1000000 in
set_option maxRecDepth 100000 in
theorem chgN_any (w : World) (ao bo : Option Addr) (n cap m c i j : Nat) (vs ys : List Value) (h : VL w ao n cap vs) (hx : VL w bo m c ys) (h1 : ∀ u ∈ vs, u.oneCell' = true) (h2 : ∀ u ∈ ys, u.oneCell' = true) (hij : i ≤ j) (hj : j ≤ n) (hn : n + m ≤ 1000000) :
    Calls Tryd.prog 59 #[.slice ao n cap, .int .i64 i, .int .i64 j, .slice bo m c] w fun e w' =>
      ∃ ro rc, e = .returned (.slice ro (i + m + (n - j)) rc) ∧ VL w' ro (i + m + (n - j)) rc (vs.take i ++ ys ++ vs.drop j) ∧ Below w.heap.size w w' := by
  obtain ⟨i0, hi, hz0, hz1, hz2⟩ := info_parts ninfo
  have hle := h.le
  have F1 : ∀ W, _ := fun W => run_front (P := Tryd.prog) (W := W) (t := 71) (ao := ao) (n := n) (cap := cap) (i := i) (c := i) Tryd.underlying71 (Nat.le_refl _) (by omega) nsize
  have F2 : ∀ W, _ := fun W => run_back (P := Tryd.prog) (W := W) (t := 71) (ao := ao) (n := n) (cap := cap) (j := j) Tryd.underlying71 (by omega) nsize
  go_enter Tryd.func59, Tryd.ntmps59
  go_wp2
  have HS : Hid (∀ V, Below w.heap.size w V → True) := fun _ _ => trivial
  have E0 : Below w.heap.size w w.drew := (Below.refl _ _).drew
  refine wp_region_noPanic ?_
  refine wp_region_held_drew (S := fun V => True) (by kernel_rfl) (HS.out _ E0) (fun H0 => ?_)
  obtain ⟨v0, hv0⟩ : ∃ v, v = w.drew := ⟨_, rfl⟩
  rw [← hv0] at E0 ⊢
  clear hv0
  refine hr_take_w 0 (some 9) (.slice ao n cap) rfl rfl (by kernel_rfl) (by kernel_rfl) (by kernel_rfl) rfl (fun W hW => by go_simp) H0 ?_
  simp only [Act.put, List.setIfInBounds_toArray, List.set_cons_zero, List.set_cons_succ]
  refine hr_take_w 1 (some 10) (.int .i64 i) rfl rfl (by kernel_rfl) (by kernel_rfl) (by kernel_rfl) rfl (fun W hW => by go_simp) H0 ?_
  simp only [Act.put, List.setIfInBounds_toArray, List.set_cons_zero, List.set_cons_succ]
  refine hr_take_w 2 (some 11) (.int .i64 i) rfl rfl (by kernel_rfl) (by kernel_rfl) (by kernel_rfl) rfl (fun W hW => by go_simp) H0 ?_
  simp only [Act.put, List.setIfInBounds_toArray, List.set_cons_zero, List.set_cons_succ]
  refine hr_take_w 3 (some 12) (.slice ao i i) rfl rfl (by kernel_rfl) (by kernel_rfl) (by kernel_rfl) rfl (fun W hW => by simp [execOp, Act.eval, F1]) H0 ?_
  simp only [Act.put, List.setIfInBounds_toArray, List.set_cons_zero, List.set_cons_succ]
  refine hr_take_w 4 (some 13) (.slice bo m c) rfl rfl (by kernel_rfl) (by kernel_rfl) (by kernel_rfl) rfl (fun W hW => by go_simp) H0 ?_
  simp only [Act.put, List.setIfInBounds_toArray, List.set_cons_zero, List.set_cons_succ]
  refine hr_take_w 6 (some 15) (.slice ao n cap) rfl rfl (by kernel_rfl) (by kernel_rfl) (by kernel_rfl) rfl (fun W hW => by go_simp) H0 ?_
  simp only [Act.put, List.setIfInBounds_toArray, List.set_cons_zero, List.set_cons_succ]
  refine hr_take_w 7 (some 16) (.int .i64 j) rfl rfl (by kernel_rfl) (by kernel_rfl) (by kernel_rfl) rfl (fun W hW => by go_simp) H0 ?_
  simp only [Act.put, List.setIfInBounds_toArray, List.set_cons_zero, List.set_cons_succ]
  refine hr_take_w 8 (some 17) (.slice (bk ao cap j) (n - j) (cap - j)) rfl rfl (by kernel_rfl) (by kernel_rfl) (by kernel_rfl) rfl (fun W hW => by simp [execOp, Act.eval, F2]) H0 ?_
  simp only [Act.put, List.setIfInBounds_toArray, List.set_cons_zero, List.set_cons_succ]
  refine hr_ex 5 (some 14) rfl rfl (by kernel_rfl) rfl (R := fun v w' => Apd w' w.heap.size 46 v (i + m) (vs.take i ++ ys) ∧ Below v0.heap.size v0 w') (by obtain ⟨v', w', hr, h3, h4⟩ := run_apd (P := Tryd.prog) (w := v0) (base := v0.heap.size) (t := 71) (ty := 71) Tryd.underlying71 hi hz0 hz1 hz2 rfl (.inl ⟨ao, rfl, (h.below E0).front i i (by omega) (Nat.le_refl _) (by omega)⟩) (Nat.le_refl _) (hx.below E0) h2 (by omega) (by decide); exact ⟨v', w', by simp [execOp, Act.eval, resolve, invoke, builtin, hr], h3.base E0.size, h4⟩) ?_
  rintro v v1 ⟨A1, C0⟩
  have E1 := E0.trans (C0.mono E0.size)
  have H1 := HS.out v1 E1
  refine ⟨H1, ?_⟩
  simp only [Act.put, List.setIfInBounds_toArray, List.set_cons_zero, List.set_cons_succ]
  refine hr_ex 9 (some 18) rfl rfl (by kernel_rfl) rfl (R := fun u w' => Apd w' w.heap.size 46 u (i + m + (n - j)) (vs.take i ++ ys ++ vs.drop j) ∧ Below w.heap.size v1 w') (by obtain ⟨v', w', hr, h3, h4⟩ := run_apd (P := Tryd.prog) (w := v1) (base := w.heap.size) (t := 71) (ty := 71) Tryd.underlying71 hi hz0 hz1 hz2 rfl A1 E1.size ((h.below E1).from j hj) (fun u hu => h1 u (List.mem_of_mem_drop hu)) (by omega) (by decide); exact ⟨v', w', by simp [execOp, Act.eval, resolve, invoke, builtin, hr], h3, h4⟩) ?_
  rintro v v2 ⟨A2, C1⟩
  have E2 := E1.trans C1
  have H2 := HS.out v2 E2
  refine ⟨H2, ?_⟩
  simp only [Act.put, List.setIfInBounds_toArray, List.set_cons_zero, List.set_cons_succ]
  refine hr_take_w 10 (some 8) (v) rfl rfl (by kernel_rfl) (by kernel_rfl) (by kernel_rfl) rfl (fun W hW => by go_simp) H2 ?_
  simp only [Act.put, List.setIfInBounds_toArray, List.set_cons_zero, List.set_cons_succ]
  refine wpAnyH_done (by kernel_rfl) ?_ _
  refine NoPanic.normal ?_
  obtain ⟨ro, rc, rfl, hv⟩ := A2.vl
  go_wp2
  go_ret
  exact ⟨ro, rc, rfl, hv, E2⟩
end Go.Proofs.YtiabdcejibeciaaDoor

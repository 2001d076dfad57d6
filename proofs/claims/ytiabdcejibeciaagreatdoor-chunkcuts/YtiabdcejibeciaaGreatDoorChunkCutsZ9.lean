/-
  Texts in one: State, Meth, RUint, RMore, RBytes, Read, CkMem, CkForm, RMem7.
-/
import Derived.Test.YtiabdcejibeciaaGreatDoorChunkCutsZ8
import Derived.Test.YtiabdcejibeciaaGreatDoorChunkCutsZ7
import Derived.Test.YtiabdcejibeciaaGreatDoorChunkCutsZ2
import Derived.Test.YtiabdcejibeciaaGreatDoorChunkCutsZ3
import Derived.Test.YtiabdcejibeciaaGreatDoorChunkCutsZ5
namespace Go.Proofs.YtiabdcejibeciaaGreatDoor
open Go.RowKit

/-- The struct at the head of block p holds the bytes xs, in an array below block L, and the kind k. -/
structure Rd (w : World) (p L : Nat) (ao : Option Addr) (n cap : Nat) (xs : List Int) (k : Int) : Prop where
  c0 : w.cell? ⟨p, 0, none⟩ = some (.slice ao n cap)
  c1 : w.cell? ⟨p, 1, none⟩ = some (.int .i64 k)
  f0 : w.frozen? ⟨p, 0, none⟩ = false
  f1 : w.frozen? ⟨p, 1, none⟩ = false
  sl : Sl w ao n cap xs
  low : ∀ a, ao = some a → 0 < n → a.block < L
  le : L ≤ p
  sm : n ≤ 1000000

/-- The same, wherever its bytes lie. -/
def R (w : World) (p L : Nat) (xs : List Int) (k : Int) : Prop := ∃ ao n cap, Rd w p L ao n cap xs k

theorem Rd.plt {w : World} {p L : Nat} {ao : Option Addr} {n cap : Nat} {xs : List Int} {k : Int} (h : Rd w p L ao n cap xs k) : p < w.heap.size := World.block_lt_of_cell? w _ h.c0

theorem Rd.below {w w' : World} {p L : Nat} {ao : Option Addr} {n cap : Nat} {xs : List Int} {k : Int} (h : Rd w p L ao n cap xs k) (hb : Below w.heap.size w w') : Rd w' p L ao n cap xs k :=
  ⟨(hb.cell (p := ⟨p, 0, none⟩) h.plt).trans h.c0, (hb.cell (p := ⟨p, 1, none⟩) h.plt).trans h.c1, (hb.frozen (p := ⟨p, 0, none⟩) h.plt).trans h.f0, (hb.frozen (p := ⟨p, 1, none⟩) h.plt).trans h.f1, h.sl.below hb, h.low, h.le, h.sm⟩
theorem R.below {w w' : World} {p L : Nat} {xs : List Int} {k : Int} (h : R w p L xs k) (hb : Below w.heap.size w w') : R w' p L xs k := by
  obtain ⟨ao, n, cap, h⟩ := h
  exact ⟨ao, n, cap, h.below hb⟩

/-- Bytes that lie below block L still do where block q, from L on, was written. -/
theorem Sl.keep {w w' : World} {L q : Nat} {ao : Option Addr} {n cap : Nat} {xs : List Int} (h : Sl w ao n cap xs) (low : ∀ a, ao = some a → 0 < n → a.block < L) (hL : L ≤ q) (hg : w.grownBy w' (some q)) : Sl w' ao n cap xs := by
  refine ⟨h.len, h.le, h.mx, h.nil, fun a ha i hi => hg.cell (h.cell a ha i hi) ?_, h.byte⟩
  have := low a ha (by omega)
  have e : (a.add i).block = a.block := by unfold Addr.add; split <;> rfl
  rw [e]
  simp
  omega

/-- A reader is as it was where another block q is written, from L on. -/
theorem R.keep {w w' : World} {p L q : Nat} {xs : List Int} {k : Int} (h : R w p L xs k) (hne : p ≠ q) (hL : L ≤ q) (hg : w.grownBy w' (some q)) : R w' p L xs k := by
  obtain ⟨ao, n, cap, h⟩ := h
  have hb : w'.heap[p]? = w.heap[p]? := hg.block p h.plt (by simp; omega)
  exact ⟨ao, n, cap, hg.cell h.c0 (by simp; omega), hg.cell h.c1 (by simp; omega), (World.frozen?_of_block (a := ⟨p, 0, none⟩) hb).trans h.f0, (World.frozen?_of_block (a := ⟨p, 1, none⟩) hb).trans h.f1, h.sl.keep h.low hL hg, h.low, h.le, h.sm⟩

/-- What is left behind the first u bytes. -/
theorem Sl.drop {w : World} {ao : Option Addr} {n cap : Nat} {xs : List Int} (h : Sl w ao n cap xs) (u : Nat) (hu : u ≤ n) : Sl w (ao.map (fun x => x.add u)) (n - u) (cap - u) (xs.drop u) := by
  have h1 := h.le
  have h2 := h.mx
  refine ⟨by rw [List.length_drop, h.len], by omega, by omega, fun hn => ?_, fun a ha i hi => ?_, h.byte.drop u⟩
  · have := h.nil (by simpa using hn)
    omega
  · obtain ⟨b, off, rfl, hc⟩ := h.at (by omega)
    simp only [Option.map_some, Option.some.injEq] at ha
    subst ha
    rw [Addr.add_lit, Addr.add_lit, Nat.add_assoc, hc (u + i) (by omega)]
    simp [List.getD]
theorem Sl.dropAll {w : World} {ao : Option Addr} {n : Nat} {xs : List Int} {u : Nat} (h : Sl w ao n u xs) (hu : u ≤ n) : Sl w ao (n - u) 0 (xs.drop u) := by
  have h1 := h.le
  refine ⟨by rw [List.length_drop, h.len], by omega, Nat.zero_le _, fun hn => ⟨?_, rfl⟩, fun a ha i hi => by omega, h.byte.drop u⟩
  omega
theorem low_drop {ao : Option Addr} {n L u m : Nat} (h : ∀ a, ao = some a → 0 < n → a.block < L) (hm : m ≤ n) : ∀ a, ao.map (fun x => x.add u) = some a → 0 < m → a.block < L := by
  intro a ha hp
  cases ao with
  | none => simp at ha
  | some x =>
    simp only [Option.map_some, Option.some.injEq] at ha
    subst ha
    have e : (x.add u).block = x.block := by unfold Addr.add; split <;> rfl
    rw [e]
    exact h x rfl (by omega)

theorem grown_setCell (w : World) (p o : Nat) (v : Value) : w.grownBy (w.setCell ⟨p, o, none⟩ v) (some p) :=
  ⟨rfl, rfl, rfl, by simp, fun k _ hne => Below.heap_setCell _ _ _ _ (by simpa using hne)⟩
theorem grown_trans {a b c : World} {r : Option Nat} (h : a.grownBy b r) (k : b.grownBy c r) : a.grownBy c r :=
  ⟨k.os.trans h.os, k.tape.trans h.tape, k.output.trans h.output, Nat.le_trans h.size k.size, fun i hi hne => (k.block i (Nat.lt_of_lt_of_le hi h.size) hne).trans (h.block i hi hne)⟩
theorem grown_below {a b : World} {r : Option Nat} (h : Below a.heap.size a b) : a.grownBy b r := ⟨h.os, h.tape, h.output, h.size, fun i hi _ => h.block i hi⟩
theorem below_grown {a b : World} {B p : Nat} (h : a.grownBy b (some p)) (hB : B ≤ a.heap.size) (hp : B ≤ p) : Below B a b :=
  ⟨h.os, h.tape, h.output, h.size, fun i hi => h.block i (by omega) (by simp; omega)⟩

/-- The reader behind a store into its bytes. -/
theorem Rd.rest {w : World} {p L : Nat} {ao : Option Addr} {n cap : Nat} {xs : List Int} {k : Int} (h : Rd w p L ao n cap xs k) {bo : Option Addr} {m c : Nat} {ys : List Int} (hs : Sl w bo m c ys) (hlow : ∀ a, bo = some a → 0 < m → a.block < L) (hm : m ≤ n) :
    Rd (w.setCell ⟨p, 0, none⟩ (.slice bo m c)) p L bo m c ys k :=
  ⟨World.cell?_setCell_same _ _ _ h.c0, (World.cell?_setCell_other _ _ _ _ (by simp)).trans h.c1, by simpa using h.f0, by simpa using h.f1, hs.keep hlow h.le (grown_setCell _ _ _ _), hlow, h.le, Nat.le_trans hm h.sm⟩
theorem Rd.wrong {w : World} {p L : Nat} {ao : Option Addr} {n cap : Nat} {xs : List Int} {k : Int} (h : Rd w p L ao n cap xs k) (q : Int) :
    Rd (w.setCell ⟨p, 1, none⟩ (.int .i64 q)) p L ao n cap xs q :=
  ⟨(World.cell?_setCell_other _ _ _ _ (by simp)).trans h.c0, World.cell?_setCell_same _ _ _ h.c1, by simpa using h.f0, by simpa using h.f1, h.sl.keep h.low h.le (grown_setCell _ _ _ _), h.low, h.le, h.sm⟩

end Go.Proofs.YtiabdcejibeciaaGreatDoor

namespace Go.Proofs.YtiabdcejibeciaaGreatDoor
open Go.RowKit

theorem failed_nil (w : World) : Calls Tryz.prog 61 #[.pointer none] w fun e w' => e = .returned (.bool true) ∧ w' = w := by
  go_enter Tryz.func61, Tryz.ntmps61
  go_wp2
  go_ret
  exact ⟨rfl, rfl⟩
theorem failed_any (w : World) (p : Nat) (k : Int) (h : w.cell? ⟨p, 1, none⟩ = some (.int .i64 k)) : Calls Tryz.prog 61 #[.pointer (some ⟨p, 0, none⟩)] w fun e w' => e = .returned (.bool (k != 0)) ∧ w' = w := by
  go_enter Tryz.func61, Tryz.ntmps61
  go_wp2
  go_ret
  exact ⟨rfl, rfl⟩

theorem fail_nil (w : World) (q : Int) : Calls Tryz.prog 62 #[.pointer none, .int .i64 q] w fun e w' => e = .returned (.tuple #[]) ∧ w' = w := by
  go_enter Tryz.func62, Tryz.ntmps62
  go_wp2_with (go_at_call 61; refine (failed_nil _).mono ?_; rintro e w' ⟨rfl, rfl⟩)
  (try simp only [Exit.inBlock, Exit.then]); refine bodyPost_ret (results_none rfl _ _ _) rfl ?_
  exact ⟨rfl, rfl⟩

/-- Fail where it has failed, or with nothing that is wrong. -/
theorem fail_not (w : World) (p : Nat) (k q : Int) (h : w.cell? ⟨p, 1, none⟩ = some (.int .i64 k)) (hq : k ≠ 0 ∨ q = 0) : Calls Tryz.prog 62 #[.pointer (some ⟨p, 0, none⟩), .int .i64 q] w fun e w' => e = .returned (.tuple #[]) ∧ w' = w := by
  by_cases hk : k = 0
  · have hb : (k != 0) = false := by simp [hk]
    have hq0 : (q == 0) = true := by simp; omega
    clear hk hq
    go_enter Tryz.func62, Tryz.ntmps62
    go_wp2_with (go_at_call 61; refine (failed_any _ p k h).mono ?_; rintro e w' ⟨rfl, rfl⟩)
    (try simp only [Exit.inBlock, Exit.then]); refine bodyPost_ret (results_none rfl _ _ _) rfl ?_
    exact ⟨rfl, rfl⟩
  · have hb : (k != 0) = true := by simp [hk]
    clear hk hq
    go_enter Tryz.func62, Tryz.ntmps62
    go_wp2_with (go_at_call 61; refine (failed_any _ p k h).mono ?_; rintro e w' ⟨rfl, rfl⟩)
    (try simp only [Exit.inBlock, Exit.then]); refine bodyPost_ret (results_none rfl _ _ _) rfl ?_
    exact ⟨rfl, rfl⟩

theorem fail_any (w : World) (p L : Nat) (xs : List Int) (q : Int) (h : R w p L xs 0) (hq : q ≠ 0) : Calls Tryz.prog 62 #[.pointer (some ⟨p, 0, none⟩), .int .i64 q] w fun e w' => e = .returned (.tuple #[]) ∧ R w' p L [] q ∧ w.grownBy w' (some p) := by
  obtain ⟨ao, n, cap, hr⟩ := h
  have h0 := hr.c0
  have h1 := hr.c1
  have f0 := hr.f0
  have f1 := hr.f1
  have hb : (q == 0) = false := by simp [hq]
  have hfin : R ((w.setCell ⟨p, 1, none⟩ (.int .i64 q)).setCell ⟨p, 0, none⟩ (.slice none 0 0)) p L [] q :=
    ⟨none, 0, 0, (hr.wrong q).rest (Sl.nothing _) (fun a ha => by simp at ha) (Nat.zero_le _)⟩
  have hgr := grown_trans (grown_setCell w p 1 (.int .i64 q)) (grown_setCell (w.setCell ⟨p, 1, none⟩ (.int .i64 q)) p 0 (.slice none 0 0))
  clear hr hq
  go_enter Tryz.func62, Tryz.ntmps62
  go_wp2_with (go_at_call 61; refine (failed_any _ p 0 h1).mono ?_; rintro e w' ⟨rfl, rfl⟩)
  go_end0
  exact ⟨rfl, hfin, hgr⟩

theorem done_nil (w : World) : Calls Tryz.prog 37 #[.pointer none] w fun e w' => e = .returned (.int .i64 17) ∧ w' = w := by
  go_enter Tryz.func37, Tryz.ntmps37
  go_wp2
  go_ret
  exact ⟨rfl, rfl⟩
theorem done_any (w : World) (p L : Nat) (xs : List Int) (k : Int) (h : R w p L xs k) : Calls Tryz.prog 37 #[.pointer (some ⟨p, 0, none⟩)] w fun e w' => e = .returned (.int .i64 (doneS xs k)) ∧ w' = w := by
  obtain ⟨ao, n, cap, hr⟩ := h
  have h0 := hr.c0
  have h1 := hr.c1
  have hl := hr.sl.len
  clear hr
  by_cases hk : k = 0
  · subst hk
    cases xs with
    | nil =>
      have hn : n = 0 := by simpa using hl.symm
      subst hn
      clear hl
      go_enter Tryz.func37, Tryz.ntmps37
      go_wp2
      go_ret
      exact ⟨rfl, rfl⟩
    | cons c r =>
      have hn : 0 < n := by rw [← hl]; simp
      clear hl
      go_enter Tryz.func37, Tryz.ntmps37
      go_wp2
      go_ret
      exact ⟨rfl, rfl⟩
  · have hb : (k == 0) = false := by simp [hk]
    have hd : doneS xs k = k := by simp [doneS, hk]
    rw [hd]
    clear hk hd
    go_enter Tryz.func37, Tryz.ntmps37
    go_wp2
    go_ret
    exact ⟨rfl, rfl⟩
end Go.Proofs.YtiabdcejibeciaaGreatDoor

namespace Go.Proofs.YtiabdcejibeciaaGreatDoor
open Go.RowKit

theorem uint_nil (w : World) : Calls Tryz.prog 60 #[.pointer none] w fun e w' => e = .returned (.int .u64 0) ∧ w' = w := by
  go_enter Tryz.func60, Tryz.ntmps60
  go_wp2_with (go_at_call 61; refine (failed_nil _).mono ?_; rintro e w' ⟨rfl, rfl⟩)
  go_ret
  exact ⟨rfl, rfl⟩

theorem uint_any (w : World) (p L : Nat) (xs : List Int) (k : Int) (h : R w p L xs k) : Calls Tryz.prog 60 #[.pointer (some ⟨p, 0, none⟩)] w fun e w' =>
    e = .returned (.int .u64 ((uintS xs k).1 : Nat)) ∧ R w' p L (uintS xs k).2.1 (uintS xs k).2.2 ∧ w.grownBy w' (some p) := by
  have hR := h
  obtain ⟨ao, n, cap, hr⟩ := h
  have h0 := hr.c0
  have h1 := hr.c1
  have f0 := hr.f0
  by_cases hk : k = 0
  · subst hk
    have ht := takeNumber_any w ao n cap xs hr.sl
    have hu := tk_used xs 0 0
    unfold uintS
    rw [if_pos rfl]
    have HT : Hid (Calls _ _ _ _ _) := ht
    clear ht
    generalize tk 0 0 xs = T at *
    obtain ⟨m, u, q⟩ := T
    simp only at hu HT ⊢
    by_cases hq : q = 0
    · subst hq
      have hu := hu rfl
      rw [if_pos rfl]
      have hl := hr.sl.len
      have hle := hr.sl.le
      have hmx := hr.sl.mx
      unfold maxLen at hmx
      go_enter Tryz.func60, Tryz.ntmps60
      go_wp2_with (first | (go_at_call 61; refine (failed_any _ p 0 h1).mono ?_; rintro e w' ⟨rfl, rfl⟩) | (go_at_call 89; refine HT.out.mono ?_; rintro e w' ⟨rfl, rfl⟩))
      · have hfin : R (w'.setCell ⟨p, 0, none⟩ (.slice ao (n - u) 0)) p L (xs.drop u) 0 := by
          have hcu : cap = u := by assumption
          subst hcu
          exact ⟨_, _, _, hr.rest (hr.sl.dropAll (by omega)) (fun a ha hp => by omega) (by omega)⟩
        go_ret
        exact ⟨rfl, hfin, grown_setCell _ _ _ _⟩
      · have hfin : R (w'.setCell ⟨p, 0, none⟩ (.slice (ao.map (fun x => x.add u)) (n - u) (cap - u))) p L (xs.drop u) 0 :=
          ⟨_, _, _, hr.rest (hr.sl.drop u (by omega)) (low_drop hr.low (by omega)) (by omega)⟩
        go_ret
        exact ⟨rfl, hfin, grown_setCell _ _ _ _⟩
    · rw [if_neg hq]
      have hqb : ((q : Int) != 0) = true := by simp; omega
      have hf := fail_any w p L xs q hR (by omega)
      have HF : Hid (Calls _ _ _ _ _) := hf
      clear hf hu hR hr
      go_enter Tryz.func60, Tryz.ntmps60
      go_wp2_with (first | (go_at_call 61; refine (failed_any _ p 0 h1).mono ?_; rintro e w' ⟨rfl, rfl⟩) | (go_at_call 89; refine HT.out.mono ?_; rintro e w' ⟨rfl, rfl⟩) | (go_at_call 62; refine HF.out.mono ?_; rintro e w2 ⟨rfl, hr2, hg2⟩))
      go_ret
      exact ⟨rfl, hr2, hg2⟩
  · have hb : (k != 0) = true := by simp [hk]
    have hs : uintS xs k = (0, xs, k) := by simp [uintS, hk]
    rw [hs]
    clear hr hk hs
    go_enter Tryz.func60, Tryz.ntmps60
    go_wp2_with (go_at_call 61; refine (failed_any _ p k h1).mono ?_; rintro e w' ⟨rfl, rfl⟩)
    go_ret
    exact ⟨rfl, hR, World.grownBy.refl _ _⟩
end Go.Proofs.YtiabdcejibeciaaGreatDoor

namespace Go.Proofs.YtiabdcejibeciaaGreatDoor
open Go.RowKit

theorem R.kind {w : World} {p L : Nat} {xs : List Int} {k : Int} (h : R w p L xs k) : w.cell? ⟨p, 1, none⟩ = some (.int .i64 k) := by
  obtain ⟨ao, n, cap, hr⟩ := h
  exact hr.c1

theorem int_nil (w : World) (most : Int) : Calls Tryz.prog 34 #[.pointer none, .int .i64 most] w fun e w' => e = .returned (.int .i64 0) ∧ w' = w := by
  go_enter Tryz.func34, Tryz.ntmps34
  go_wp2_with (first | (go_at_call 60; refine (uint_nil _).mono ?_; rintro e w' ⟨rfl, rfl⟩) | (go_at_call 61; refine (failed_nil _).mono ?_; rintro e w' ⟨rfl, rfl⟩))
  go_ret
  exact ⟨rfl, rfl⟩

set_option maxHeartbeats 400000 in
theorem int_any (w : World) (p L : Nat) (xs : List Int) (k most : Int) (hmost : most ≤ 9223372036854775807) (hb : Byt xs) (h : R w p L xs k) : Calls Tryz.prog 34 #[.pointer (some ⟨p, 0, none⟩), .int .i64 most] w fun e w' =>
    e = .returned (.int .i64 ((intS xs k most).1 : Nat)) ∧ R w' p L (intS xs k most).2.1 (intS xs k most).2.2 ∧ w.grownBy w' (some p) := by
  have hU := uint_any w p L xs k h
  have hlt := uintS_lt (k := k) hb
  unfold intS
  generalize uintS xs k = T at *
  obtain ⟨m, rs, q⟩ := T
  simp only at hU hlt ⊢
  have HU : Hid (Calls _ _ _ _ _) := hU
  clear hU h hb
  by_cases hq : q = 0
  · subst hq
    rw [if_pos rfl]
    by_cases hbad : most < 0 ∨ most < (m : Int)
    · rw [if_pos hbad]
      by_cases hneg : most < 0
      · clear hbad
        go_enter Tryz.func34, Tryz.ntmps34
        go_wp2_with fail
        refine HU.out.mono ?_
        rintro e w1 ⟨rfl, hR1, hg1⟩
        clear HU
        have hc1 := hR1.kind
        go_wp2_with (first | (go_at_call 61; refine (failed_any _ p 0 hc1).mono ?_; rintro e w' ⟨rfl, rfl⟩) | (go_at_call 62; refine (fail_any _ p L rs 4 hR1 (by decide)).mono ?_; rintro e w2 ⟨rfl, hr2, hg2⟩))
        have hg := grown_trans hg1 hg2
        go_ret
        exact ⟨rfl, hr2, hg⟩
      · have hlt2 : most < (m : Int) := by omega
        clear hbad
        go_enter Tryz.func34, Tryz.ntmps34
        go_wp2_with fail
        refine HU.out.mono ?_
        rintro e w1 ⟨rfl, hR1, hg1⟩
        clear HU
        have hc1 := hR1.kind
        go_wp2_with (first | (go_at_call 61; refine (failed_any _ p 0 hc1).mono ?_; rintro e w' ⟨rfl, rfl⟩) | (go_at_call 62; refine (fail_any _ p L rs 4 hR1 (by decide)).mono ?_; rintro e w2 ⟨rfl, hr2, hg2⟩))
        have hg := grown_trans hg1 hg2
        go_ret
        exact ⟨rfl, hr2, hg⟩
    · rw [if_neg hbad]
      have h1 : 0 ≤ most := by omega
      have h2 : (m : Int) ≤ most := by omega
      clear hbad
      go_enter Tryz.func34, Tryz.ntmps34
      go_wp2_with fail
      refine HU.out.mono ?_
      rintro e w1 ⟨rfl, hR1, hg1⟩
      clear HU
      have hc1 := hR1.kind
      go_wp2_with (go_at_call 61; refine (failed_any _ p 0 hc1).mono ?_; rintro e w' ⟨rfl, rfl⟩)
      go_ret
      exact ⟨rfl, hR1, hg1⟩
  · rw [if_neg hq]
    have hqb : (q != 0) = true := by simp [hq]
    clear hq
    go_enter Tryz.func34, Tryz.ntmps34
    go_wp2_with fail
    refine HU.out.mono ?_
    rintro e w1 ⟨rfl, hR1, hg1⟩
    clear HU
    have hc1 := hR1.kind
    go_wp2_with (go_at_call 61; refine (failed_any _ p q hc1).mono ?_; rintro e w' ⟨rfl, rfl⟩)
    go_ret
    exact ⟨rfl, hR1, hg1⟩

theorem bytes_nil (w : World) (most : Int) : Calls Tryz.prog 35 #[.pointer none, .int .i64 most] w fun e w' => e = .returned (.slice none 0 0) ∧ w' = w := by
  go_enter Tryz.func35, Tryz.ntmps35
  go_wp2_with (first | (go_at_call 34; refine (int_nil _ _).mono ?_; rintro e w' ⟨rfl, rfl⟩) | (go_at_call 61; refine (failed_nil _).mono ?_; rintro e w' ⟨rfl, rfl⟩))
  go_ret
  exact ⟨rfl, rfl⟩
end Go.Proofs.YtiabdcejibeciaaGreatDoor

namespace Go.Proofs.YtiabdcejibeciaaGreatDoor
open Go.RowKit

theorem R.byte {w : World} {p L : Nat} {xs : List Int} {k : Int} (h : R w p L xs k) : Byt xs := by
  obtain ⟨ao, n, cap, hr⟩ := h
  exact hr.sl.byte

theorem Sl.keepNe {w w' : World} {q : Nat} {ao : Option Addr} {n cap : Nat} {xs : List Int} (h : Sl w ao n cap xs) (hne : ∀ a, ao = some a → 0 < n → a.block ≠ q) (hg : w.grownBy w' (some q)) : Sl w' ao n cap xs := by
  refine ⟨h.len, h.le, h.mx, h.nil, fun a ha i hi => hg.cell (h.cell a ha i hi) ?_, h.byte⟩
  have := hne a ha (by omega)
  have e : (a.add i).block = a.block := by unfold Addr.add; split <;> rfl
  rw [e]
  simp
  exact this
theorem Sl.ofOwn {w : World} {base : Nat} {ao : Option Addr} {n cap : Nat} {xs : List Int} (h : w.ownsRow base 5 1 (.slice ao n cap) n (bv xs)) (hb : Byt xs) : Sl w ao n cap xs := by
  obtain ⟨bo, c, he, hs, _⟩ := Sl.own h hb
  simp only [Value.slice.injEq] at he
  obtain ⟨rfl, _, rfl⟩ := he
  exact hs

/-- The end of Bytes where there are enough: the copy, and the reader behind it. -/
theorem bytes_end {w w' w2 : World} {p L m n cap : Nat} {ao bo : Option Addr} {c : Nat} {rs : List Int} {k : Int} (hg1 : w.grownBy w' (some p)) (hr : Rd w' p L ao n cap rs k) (hb2 : Below w'.heap.size w' w2)
    (hown : w2.ownsRow w'.heap.size 5 1 (.slice (some ⟨w'.heap.size, 0, none⟩) m (m + 0)) m (bv (rs.take m))) (hs : Sl w2 bo (n - m) c (rs.drop m)) (hlow : ∀ a, bo = some a → 0 < n - m → a.block < L) :
    Sl (w2.setCell ⟨p, 0, none⟩ (.slice bo (n - m) c)) (some ⟨w'.heap.size, 0, none⟩) m m (rs.take m) ∧ (∀ a, some (⟨w'.heap.size, 0, none⟩ : Addr) = some a → w.heap.size ≤ a.block) ∧
      R (w2.setCell ⟨p, 0, none⟩ (.slice bo (n - m) c)) p L (rs.drop m) k ∧ w.grownBy (w2.setCell ⟨p, 0, none⟩ (.slice bo (n - m) c)) (some p) := by
  have hp := hr.plt
  refine ⟨(Sl.ofOwn hown (hr.sl.byte.take m)).keepNe ?_ (grown_setCell _ _ _ _), ?_, ⟨_, _, _, (hr.below hb2).rest hs hlow (by omega)⟩, grown_trans hg1 (grown_trans (grown_below hb2) (grown_setCell _ _ _ _))⟩
  · intro a ha _
    obtain rfl := Option.some.inj ha
    show w'.heap.size ≠ p
    omega
  · intro a ha
    obtain rfl := Option.some.inj ha
    exact hg1.size

set_option maxHeartbeats 800000 in
theorem bytes_any (w : World) (p L : Nat) (xs : List Int) (k most : Int) (hmost : most ≤ 9223372036854775807) (h : R w p L xs k) : Calls Tryz.prog 35 #[.pointer (some ⟨p, 0, none⟩), .int .i64 most] w fun e w' =>
    ∃ ao n cap, e = .returned (.slice ao n cap) ∧ Sl w' ao n cap (bytesS xs k most).1 ∧ (∀ a, ao = some a → w.heap.size ≤ a.block) ∧ R w' p L (bytesS xs k most).2.1 (bytesS xs k most).2.2 ∧ w.grownBy w' (some p) := by
  have hU := int_any w p L xs k most hmost h.byte h
  unfold bytesS
  generalize intS xs k most = T at *
  obtain ⟨m, rs, q⟩ := T
  simp only at hU ⊢
  have HU : Hid (Calls _ _ _ _ _) := hU
  clear hU h
  by_cases hq : q = 0
  · subst hq
    rw [if_pos rfl]
    by_cases hbad : rs.length < m
    · rw [if_pos hbad]
      go_enter Tryz.func35, Tryz.ntmps35
      go_wp2_with fail
      refine HU.out.mono ?_
      rintro e w1 ⟨rfl, hR1, hg1⟩
      clear HU
      have hR1' := hR1
      obtain ⟨ao, n, cap, hr⟩ := hR1'
      have hc0 := hr.c0
      have hc1 := hr.c1
      have hl := hr.sl.len
      have hlt : (n : Int) < (m : Int) := by omega
      clear hr hl hbad
      go_wp2_with (first | (go_at_call 61; refine (failed_any _ p 0 hc1).mono ?_; rintro e w' ⟨rfl, rfl⟩) | (go_at_call 62; refine (fail_any _ p L rs 2 hR1 (by decide)).mono ?_; rintro e w2 ⟨rfl, hr2, hg2⟩))
      have hg := grown_trans hg1 hg2
      go_ret
      exact ⟨none, 0, 0, rfl, Sl.nothing _, fun a ha => by simp at ha, hr2, hg⟩
    · rw [if_neg hbad]
      go_enter Tryz.func35, Tryz.ntmps35
      go_wp2_with fail
      refine HU.out.mono ?_
      rintro e w1 ⟨rfl, hR1, hg1⟩
      clear HU
      obtain ⟨ao, n, cap, hr⟩ := hR1
      have hc0 := hr.c0
      have hc1 := hr.c1
      have hl := hr.sl.len
      have hle := hr.sl.le
      have hmx := hr.sl.mx
      unfold maxLen at hmx
      have hsm := hr.sm
      have hmn : m ≤ n := by omega
      have hsl := hr.sl.take m hmn
      clear hbad
      go_wp2_with (first | (go_at_call 61; refine (failed_any _ p 0 hc1).mono ?_; rintro e w' ⟨rfl, rfl⟩) | fail)
      refine (withRoom_any _ _ _ _ 0 _ hsl (by omega)).mono ?_
      rintro e w2 ⟨rfl, hown2, hb2⟩
      have hr2 := hr.below hb2
      have hd0 := hr2.c0
      have hf0 := hr2.f0
      by_cases hcm : cap = m
      · subst hcm
        have hfin := bytes_end hg1 hr hb2 hown2 (hr2.sl.dropAll hmn) (fun a ha hp => by omega)
        rw [show n - cap = 0 from by omega] at hfin
        go_wp2_with fail
        go_ret
        exact ⟨_, _, _, rfl, hfin⟩
      · have hfin := bytes_end hg1 hr hb2 hown2 (hr2.sl.drop m hmn) (low_drop hr.low (by omega))
        go_wp2_with fail
        go_ret
        exact ⟨_, _, _, rfl, hfin⟩
  · rw [if_neg hq]
    have hqb : (q != 0) = true := by simp [hq]
    clear hq
    go_enter Tryz.func35, Tryz.ntmps35
    go_wp2_with fail
    refine HU.out.mono ?_
    rintro e w1 ⟨rfl, hR1, hg1⟩
    clear HU
    have hc1 := hR1.kind
    go_wp2_with (go_at_call 61; refine (failed_any _ p q hc1).mono ?_; rintro e w' ⟨rfl, rfl⟩)
    go_ret
    exact ⟨none, 0, 0, rfl, Sl.nothing _, fun a ha => by simp at ha, hR1, hg1⟩

end Go.Proofs.YtiabdcejibeciaaGreatDoor

namespace Go.Proofs.YtiabdcejibeciaaGreatDoor
open Go.RowKit

set_option maxHeartbeats 400000 in
theorem clone_any (w : World) (ao : Option Addr) (n cap : Nat) (xs : List Int) (h : Sl w ao n cap xs) (hr : n ≤ 140737488355328) :
    Calls Tryz.prog 59 #[.slice ao n cap] w fun e w' => ∃ v, e = .returned v ∧ w'.ownsRow w.heap.size 5 1 v n (bv xs) ∧ Below w.heap.size w w' := by
  have hA := h.below ((Below.refl w.heap.size w).alloc (Nat.le_refl _) (.cells #[] 5))
  have hO := own_empty w
  have hq : ∀ W, (binOp .eql 30 (.slice ao n cap) (.slice none 0 0)).run Tryz.prog W = .ok (.bool ao.isNone) W := fun W => Lib.run_eql_slice_nil W _ _ ao n cap 0 0 Tryz.underlying30
  cases ao with
  | none =>
    obtain ⟨rfl, rfl⟩ := h.nil rfl
    obtain rfl : xs = [] := List.eq_nil_of_length_eq_zero h.len
    go_enter Tryz.func59, Tryz.ntmps59
    go_wp2
    go_ret
    exact ⟨_, rfl, World.ownsRow_nil _ _ _ _, Below.refl _ _⟩
  | some a =>
    go_enter Tryz.func59, Tryz.ntmps59
    go_wp2_with (at_builtin; refine wpList_app rfl _ _ rfl w.heap.size _ _ _ rfl hO _ _ _ _ rfl hA (by omega) (by simp) ?_; intro v1 w1 hown1 hb1)
    simp only [Nat.zero_add, List.nil_append] at hown1
    have hb2 := ((Below.refl w.heap.size w).alloc (Nat.le_refl _) _).trans hb1
    clear hb1 hO hA hq
    go_ret
    exact ⟨v1, rfl, hown1, hb2⟩

theorem new_reader (w : World) (t : TypeId) (bo : Option Addr) (n c : Nat) (xs : List Int) (hsl : Sl w bo n c xs) (hlt : ∀ a, bo = some a → 0 < n → a.block < w.heap.size) (hn : n ≤ 1000000) :
    R (w.alloc (.cells #[.slice bo n c, .int .i64 0] t)) w.heap.size w.heap.size xs 0 := by
  refine ⟨bo, n, c, ?_, ?_, ?_, ?_, hsl.below ((Below.refl _ w).alloc (Nat.le_refl _) _), hlt, Nat.le_refl _, hn⟩
  · go_simp
  · go_simp
  · go_simp
  · go_simp

set_option maxHeartbeats 400000 in
theorem read_any (w : World) (ao : Option Addr) (n cap : Nat) (xs : List Int) (h : Sl w ao n cap xs) (hr : n ≤ 1000000) :
    Calls Tryz.prog 33 #[.slice ao n cap] w fun e w' => ∃ p, e = .returned (.pointer (some ⟨p, 0, none⟩)) ∧ w.heap.size ≤ p ∧ R w' p p xs 0 ∧ Below w.heap.size w w' := by
  go_enter Tryz.func33, Tryz.ntmps33
  go_wp2_with fail
  refine (clone_any w ao n cap xs h (by omega)).mono ?_
  rintro e w1 ⟨v1, rfl, hown1, hb1⟩
  obtain ⟨bo, c2, rfl, hsl, hbo⟩ := Sl.own hown1 h.byte
  have hs := hb1.size
  have hfin := new_reader w1 96 bo n c2 xs hsl (fun a ha _ => (hbo a ha).2.1) hr
  have hb2 := hb1.alloc hs (.cells #[.slice bo n c2, .int .i64 0] 96)
  clear hown1 hsl hbo hb1
  go_wp2
  go_ret
  exact ⟨w1.heap.size, rfl, hs, hfin, hb2⟩
end Go.Proofs.YtiabdcejibeciaaGreatDoor

namespace Go.Proofs.YtiabdcejibeciaaGreatDoor
open Go.RowKit

/-- append, where its run is known. -/
theorem wpList_appR {P : Program} {w w' : World} {ops : Array Oper} {rest : List Oper} {o : Oper} {a : Act} {Q : Exit → Act → World → Prop} (hgd : o.guard = none) (s x : Operand) (t t' : TypeId)
    (ho : o.op = .call { callee := .builtin .append, args := #[s, x], argTypes := #[t, t'] }) (v u v' : Value) (hs : a.eval s = v) (hx : a.eval x = u) (hr : (Builtin.append_ #[t, t'] o.type #[v, u]).run P w = .ok v' w')
    (h : wpList P ops Q rest (a.put o.dst v') w') : wpList P ops Q (o :: rest) a w := by
  refine wpList_plain hgd fun _ hK => ?_
  unfold Oper.wp execOp
  simp only [ho, resolve, invoke, builtin, Sem.run_bind, Sem.run_pure, Result.andThen_ok, List.map_toArray, List.map_cons, List.map_nil, hs, hx, hr, Oper.upon]
  exact hK _ _ h
/-- The block that holds some bytes. -/
def blkP (q : Part) (x : Nat) : Prop := ∃ a, q.ao = some a ∧ 0 < q.n ∧ a.block = x
theorem Sl.keptP {w w' : World} {q : Part} (h : Sl w q.ao q.n q.cap q.xs) (hk : ∀ x, blkP q x → w'.heap[x]? = w.heap[x]?) : Sl w' q.ao q.n q.cap q.xs := by
  refine ⟨h.len, h.le, h.mx, h.nil, fun a ha i hi => ?_, h.byte⟩
  have hb : (a.add i).block = a.block := by unfold Addr.add; split <;> rfl
  rw [← h.cell a ha i hi]
  exact World.cell?_of_block (by rw [hb]; exact hk _ ⟨a, ha, by omega, rfl⟩)
theorem Sl.ltP {w : World} {q : Part} (h : Sl w q.ao q.n q.cap q.xs) {x : Nat} (hx : blkP q x) : x < w.heap.size := by
  obtain ⟨a, ha, hn, rfl⟩ := hx
  exact h.lt a ha hn
def IP.blk (q : IP) (x : Nat) : Prop := blkP q.k x ∨ blkP q.v x
theorem IP.ok.kept {w w' : World} {q : IP} (h : q.ok w) (hk : ∀ x, q.blk x → w'.heap[x]? = w.heap[x]?) : q.ok w' := ⟨h.1.keptP fun x hx => hk x (.inl hx), h.2.keptP fun x hx => hk x (.inr hx)⟩
theorem IP.ok.lt {w : World} {q : IP} (h : q.ok w) {x : Nat} (hx : q.blk x) : x < w.heap.size := by
  rcases hx with hx | hx
  · exact h.1.ltP hx
  · exact h.2.ltP hx
/-- A reader where another block is written. -/
theorem R.keepO {w w' : World} {p L : Nat} {o : Option Nat} {xs : List Int} {k : Int} (h : R w p L xs k) (hg : w.grownBy w' o) (ho : ∀ q, o = some q → p ≠ q ∧ L ≤ q) : R w' p L xs k := by
  cases o with
  | some q => exact h.keep (ho q rfl).1 (ho q rfl).2 hg
  | none => exact h.below ⟨hg.os, hg.tape, hg.output, hg.size, fun i hi => hg.block i hi (by simp)⟩
/-- Items while they are read, by a reader at block p. -/
structure CkInv (w : World) (N p base : Nat) (f : Nat → List It × List Int × Int) (V : World) (v : Value) (ps : List IP) : Prop where
  rd : R V p p (f ps.length).2.1 (f ps.length).2.2
  own : V.ownsRow base 32 2 v ps.length (flatI ps)
  oks : ∀ q ∈ ps, q.ok V
  far : ∀ q ∈ ps, ∀ x, q.blk x → x ≠ p ∧ v.ownBlock ≠ some x
  new : ∀ q ∈ ps, ∀ x, q.blk x → N ≤ x
  thr : ps.map IP.it = (f ps.length).1
  bel : Below w.heap.size w V
  pos : w.heap.size ≤ p ∧ p < base ∧ base ≤ V.heap.size
theorem CkInv.row {w : World} {N p base : Nat} {f : Nat → List It × List Int × Int} {V : World} {v : Value} {ps : List IP} (h : CkInv w N p base f V v ps) : ∃ ao cap, v = .slice ao ps.length cap ∧ IL V ao ps.length cap ps := own_items h.own h.oks
/-- The reader has read on: what was read is as it was. -/
theorem CkInv.grown {w : World} {N p base : Nat} {f : Nat → List It × List Int × Int} {V V1 : World} {v : Value} {ps : List IP} (h : CkInv w N p base f V v ps) (hg : V.grownBy V1 (some p)) :
    V1.ownsRow base 32 2 v ps.length (flatI ps) ∧ (∀ q ∈ ps, q.ok V1) ∧ Below w.heap.size w V1 ∧ base ≤ V1.heap.size := by
  have hpos := h.pos
  refine ⟨own_kept h.own fun g hgv => hg.block g (h.own.lt g hgv).2 fun e => ?_, fun q hq => (h.oks q hq).kept fun x hx => hg.block x ((h.oks q hq).lt hx) fun e => (h.far q hq x hx).1 (Option.some.inj e), ?_, by have := hg.size; omega⟩
  · have := (h.own.lt g hgv).1
    have := Option.some.inj e
    omega
  · exact h.bel.trans (below_grown hg h.bel.size hpos.1)
/-- One item more. -/
theorem CkInv.step {w : World} {N p base : Nat} {f : Nat → List It × List Int × Int} {V V2 V3 : World} {v : Value} {ps : List IP} {q : IP} (h : CkInv w N p base f V v ps) (hg : V.grownBy V2 (some p)) (hq : q.ok V2)
    (hfar : ∀ x, q.blk x → x ≠ p ∧ v.ownBlock ≠ some x) (hnew : ∀ x, q.blk x → N ≤ x) (hf : f (ps.length + 1) = ((f ps.length).1 ++ [q.it], (f (ps.length + 1)).2)) (hr : R V2 p p (f (ps.length + 1)).2.1 (f (ps.length + 1)).2.2) (hn : ps.length ≤ 100000) (h3 : V3 = V2.alloc (.cells #[q.k.val, q.v.val] 32)) (ty : TypeId) (c : Nat) :
    ∃ v' V4, (Builtin.append_ #[22, 22] ty #[v, .slice (some ⟨V2.heap.size, 0, none⟩) 1 c]).run Tryz.prog V3 = .ok v' V4 ∧ CkInv w N p base f V4 v' (ps ++ [q]) := by
  obtain ⟨o2, k2, b2, s2⟩ := h.grown hg
  have B3 : Below V2.heap.size V2 V3 := by rw [h3]; exact (Below.refl _ _).alloc (Nat.le_refl _) _
  have o3 := own_kept (w' := V3) o2 fun g hgv => B3.block g (o2.lt g hgv).2
  have hx : V3.heap[V2.heap.size]? = some (.cells #[q.k.val, q.v.val] 32) := by rw [h3]; exact heap_alloc_new V2 _
  have hs3 := B3.size
  have hpos := h.pos
  obtain ⟨i0, hi, hz0, hz1, hz2⟩ := info_parts itemInfo
  obtain ⟨v', V4, hrun, own4, g4, w4⟩ := run_append_own2 (P := Tryz.prog) V3 base 22 ty 32 i0 _ 2 48 Tryz.underlying22 hi hz0 hz1 hz2 rfl (by decide) v ps.length (flatI ps) o3 ⟨V2.heap.size, 0, none⟩ 1 c [q.k.val, q.v.val] rfl
    (fun j u hu => by
      rw [Addr.add_lit, Nat.zero_add, cell_of_row V3 V2.heap.size j _ _ _ hx]
      simpa using hu) (fun u hu => by
      simp only [List.mem_cons, List.not_mem_nil, or_false] at hu
      rcases hu with rfl | rfl <;> rfl) (by unfold maxLen; omega) (by omega) (by omega)
  have hpl : p < V2.heap.size := by
    obtain ⟨_, _, _, hR⟩ := hr
    exact hR.plt
  have rowne : ∀ g, v.ownBlock = some g → p ≠ g ∧ p ≤ g := fun g hgv => by
    have := (h.own.lt g hgv).1
    omega
  have kp : ∀ r : IP, r.ok V2 → (∀ x, r.blk x → x ≠ p ∧ v.ownBlock ≠ some x) → r.ok V4 ∧ ∀ x, r.blk x → x ≠ p ∧ v'.ownBlock ≠ some x := fun r hr hf => by
    refine ⟨(hr.below B3).kept fun x hx => g4.block x ((hr.below B3).lt hx) fun e => (hf x hx).2 e.symm, fun x hx => ⟨(hf x hx).1, fun e => ?_⟩⟩
    rcases w4 x e with e' | e'
    · exact (hf x hx).2 e'
    · have := hr.lt hx
      omega
  refine ⟨v', V4, hrun, ?_, ?_, ?_, ?_, ?_, ?_, ?_, ?_⟩
  · rw [List.length_append]
    exact (hr.below B3).keepO g4 rowne
  · rw [List.length_append, flatI_snoc]
    exact own4
  · intro r hm
    rcases List.mem_append.1 hm with hm | hm
    · exact (kp r (k2 r hm) (h.far r hm)).1
    · rw [List.mem_singleton.1 hm]
      exact (kp q hq hfar).1
  · intro r hm
    rcases List.mem_append.1 hm with hm | hm
    · exact (kp r (k2 r hm) (h.far r hm)).2
    · rw [List.mem_singleton.1 hm]
      exact (kp q hq hfar).2
  · intro r hm
    rcases List.mem_append.1 hm with hm | hm
    · exact h.new r hm
    · rw [List.mem_singleton.1 hm]
      exact hnew
  · rw [List.map_append, h.thr, List.length_append]
    show _ = (f (ps.length + 1)).1
    rw [hf]
    rfl
  · refine (b2.trans (B3.mono b2.size)).trans ?_
    cases ho : v.ownBlock with
    | none => rw [ho] at g4; exact ⟨g4.os, g4.tape, g4.output, g4.size, fun i hi => g4.block i (by have := (b2.trans (B3.mono b2.size)).size; omega) (by simp)⟩
    | some g => rw [ho] at g4; exact below_grown g4 (b2.trans (B3.mono b2.size)).size (by have := rowne g ho; omega)
  · refine ⟨hpos.1, hpos.2.1, ?_⟩
    have := g4.size
    omega
end Go.Proofs.YtiabdcejibeciaaGreatDoor

namespace Go.Proofs.YtiabdcejibeciaaGreatDoor
open Go.RowKit

/-- append(out, x...), and which block alone is written. -/
theorem wpList_appG {w : World} {ops : Array Oper} {rest : List Oper} {o : Oper} {a : Act} {Q : Exit → Act → World → Prop} (hgd : o.guard = none) (s x : Operand)
    (ho : o.op = .call { callee := .builtin .append, args := #[s, x], argTypes := #[30, 30] })
    (base : Nat) (v : Value) (n : Nat) (xs : List Int) (hs : a.eval s = v) (hown : w.ownsRow base 5 1 v n (bv xs))
    (bo : Option Addr) (m c : Nat) (ys : List Int) (hx : a.eval x = .slice bo m c) (hsl : Sl w bo m c ys) (hb : n + m ≤ 140737488355328) (hbase : base ≤ w.heap.size)
    (h : ∀ v' w', w'.ownsRow base 5 1 v' (n + m) (bv (xs ++ ys)) → w.grownBy w' v.ownBlock → wpList Tryz.prog ops Q rest (a.put o.dst v') w') : wpList Tryz.prog ops Q (o :: rest) a w := by
  obtain ⟨i0, hi, hz0, hz1, hz2⟩ := info_parts u8info
  cases bo with
  | some ad =>
    refine wpList_append_own w hgd s x 30 ho base 5 i0 (.int .u8 0) 1 1 Tryz.underlying30 hi hz0 hz1 hz2 rfl (by decide) v n (bv xs) hs hown ad m c (bv ys) hx (by rw [bv_length, hsl.len, Nat.mul_one]) (hsl.cells ad rfl) (bv_one ys) (by unfold maxLen; omega) (by omega) hbase ?_
    intro v' w' h1 h2 _
    rw [← bv_append] at h1
    exact h v' w' h1 h2
  | none =>
    obtain ⟨rfl, rfl⟩ := hsl.nil rfl
    obtain rfl : ys = [] := List.eq_nil_of_length_eq_zero hsl.len
    refine wpList_append_own_none hgd s x 30 ho base 5 i0 1 Tryz.underlying30 hi v n (bv xs) hs hown hx ?_
    exact h v w (by simpa using hown) (World.grownBy.refl _ _)
theorem box_not_row {w : World} {g base : Nat} {cs : Array Value} {v : Value} {n : Nat} {xs : List Value} (h : w.heap[g]? = some (.cells cs 32)) (hr : w.ownsRow base 5 1 v n xs) : some g ≠ v.ownBlock := by
  intro e
  rcases hr.2 with ⟨rfl, _⟩ | ⟨b, cap, cur, rfl, _, hb, _⟩
  · simp [Value.ownBlock] at e
  · obtain rfl : g = b := by simpa [Value.ownBlock] using e
    rw [hb] at h
    simp at h
def formTk (n : Nat) (l : List It) : List Int := enc n ++ (l.map putI).flatten
theorem formTk_snoc (n : Nat) (l : List It) (x : It) : formTk n (l ++ [x]) = (formTk n l ++ bytF x.k) ++ bytF x.v := by
  unfold formTk putI
  simp
theorem bytF_len (l : List Int) (h : l.length ≤ 1000000) : (bytF l).length ≤ 1000010 := by
  have := enc_length (n := l.length) (by omega)
  unfold bytF
  rw [List.length_append]
  omega
theorem formTk_len (n : Nat) (hn : n ≤ 1000000) : ∀ l : List It, (∀ x ∈ l, x.k.length ≤ 1000000 ∧ x.v.length ≤ 1000000) → (formTk n l).length ≤ 10 + l.length * 2000020
  | [], _ => by
    have := enc_length (n := n) (by omega)
    unfold formTk
    simp
    omega
  | x :: l, h => by
    have ih := formTk_len n hn l (fun y hy => h y (List.mem_cons_of_mem _ hy))
    have h1 := bytF_len x.k (h x (List.mem_cons_self ..)).1
    have h2 := bytF_len x.v (h x (List.mem_cons_self ..)).2
    unfold formTk putI at *
    simp only [List.map_cons, List.flatten_cons, List.length_append, List.length_cons] at *
    omega
theorem formTk_byt (n : Nat) (hn : n ≤ 1000000) (l : List It) (h : ∀ x ∈ l, (x.k.length ≤ 1000000 ∧ Byt x.k) ∧ x.v.length ≤ 1000000 ∧ Byt x.v) : Byt (formTk n l) := fun y hy => by
  rcases List.mem_append.1 hy with hy | hy
  · exact enc_byte (by omega) y hy
  · obtain ⟨s, hs, hy⟩ := List.mem_flatten.1 hy
    obtain ⟨x, hx, rfl⟩ := List.mem_map.1 hs
    rcases List.mem_append.1 hy with hy | hy
    · exact bytF_byt (h x hx).1.2 (h x hx).1.1 y hy
    · exact bytF_byt (h x hx).2.2 (h x hx).2.1 y hy

set_option maxHeartbeats 4000000 in
set_option maxRecDepth 100000 in
theorem ckform_any (w : World) (ao : Option Addr) (n cap : Nat) (its : List IP) (h : IL w ao n cap its) (hn : n ≤ 50000) (hb : ∀ q ∈ its, q.k.n ≤ 1000000 ∧ q.v.n ≤ 1000000) :
    Calls Tryz.prog 30 #[.slice ao n cap] w fun e w' => ∃ v, e = .returned v ∧ w'.ownsRow w.heap.size 5 1 v (putCk (its.map IP.it)).length (bv (putCk (its.map IP.it))) ∧ Below w.heap.size w w' := by
  have hl1 := Nat.le_of_eq h.len
  have hl2 := Nat.le_of_eq h.len.symm
  have hni : (n : Int) ≤ 50000 := by omega
  have HB : Hid (∀ q ∈ its, q.k.n ≤ 1000000 ∧ q.v.n ≤ 1000000) := hb
  have HLB : Hid (∀ x ∈ its.map IP.it, x.k.length ≤ 1000000 ∧ x.v.length ≤ 1000000) := by
    intro x hx
    obtain ⟨q, hq, rfl⟩ := List.mem_map.1 hx
    have h1 := (h.sl q hq).1.len
    have h2 := (h.sl q hq).2.len
    have := hb q hq
    exact ⟨by show q.k.xs.length ≤ _; omega, by show q.v.xs.length ≤ _; omega⟩
  have HE : Hid (putCk (its.map IP.it) = formTk n (its.map IP.it)) := by
    show _ = _
    unfold putCk formTk
    rw [List.length_map, h.len]
  clear hb
  go_enter Tryz.func30, Tryz.ntmps30
  go_wp2_with fail
  refine (wUint_any w none 0 0 n [] (Sl.nothing w) (by omega) (by omega)).mono ?_
  rintro e w1 ⟨v1, rfl, own1, B1⟩
  simp only [Nat.zero_add, List.nil_append] at own1
  go_wp2_with fail
  go_loopw [3, 12] (fun v i wr => ∃ k : Nat, k ≤ n ∧ i = .int .i64 k ∧ wr.ownsRow w.heap.size 5 1 v (formTk n ((its.map IP.it).take k)).length (bv (formTk n ((its.map IP.it).take k))) ∧ Below w.heap.size w wr) (fun _ i _ => n - (intOf i).toNat)
  case atStart =>
    refine ⟨0, Nat.zero_le _, rfl, ?_, B1⟩
    have e : formTk n ((its.map IP.it).take 0) = enc n := by simp [formTk]
    rw [e]
    exact own1
  case round =>
    clear own1 B1
    obtain ⟨k, hkn, rfl, own, hB⟩ := hrel
    by_cases hlt : k < n
    · have hki : (k : Int) < (n : Int) := by omega
      have hkl : k < its.length := by omega
      obtain ⟨b, off, rfl, hc⟩ := (h.below hB).at (by omega)
      obtain ⟨c1, c2⟩ := hc k hkl
      have S := (h.below hB).sl its[k] (List.getElem_mem hkl)
      have HSQ : Hid (∀ W, Below w.heap.size w W → its[k].ok W) := fun W hW => (h.below hW).sl its[k] (List.getElem_mem hkl)
      have hq := HB.out its[k] (List.getElem_mem hkl)
      have HT : Hid ((its.map IP.it).take (k + 1) = (its.map IP.it).take k ++ [its[k].it]) := by show _ = _; rw [List.take_succ_eq_append_getElem (by simpa using hkl), List.getElem_map]
      obtain ⟨q, hqe⟩ : ∃ q, q = its[k] := ⟨_, rfl⟩
      rw [← hqe] at c1 c2 S hq HT HSQ
      obtain ⟨q1, q2⟩ := hq
      have HF : (formTk n ((its.map IP.it).take k)).length ≤ 10 + n * 2000020 := by
        have := formTk_len n (by omega) ((its.map IP.it).take k) (fun x hx => HLB.out x (List.mem_of_mem_take hx))
        rw [List.length_take] at this
        have h3 : min k (its.map IP.it).length * 2000020 ≤ n * 2000020 := Nat.mul_le_mul_right _ (by omega)
        exact Nat.le_trans this (Nat.add_le_add_left h3 _)
      have HF2 : (formTk n ((its.map IP.it).take k)).length ≤ 110000000000 := Nat.le_trans HF (by omega)
      clear HF
      obtain ⟨F, hF⟩ : ∃ F, F = formTk n ((its.map IP.it).take k) := ⟨_, rfl⟩
      have HFE : Hid (F = formTk n ((its.map IP.it).take k)) := hF
      rw [← hF] at own HF2
      clear hF
      obtain ⟨FL, hFL⟩ : ∃ m, m = F.length := ⟨_, rfl⟩
      rw [← hFL] at own HF2
      have HFL : Hid (FL = F.length) := hFL
      clear hFL
      unfold Part.val at c1 c2
      clear hc hqe
      obtain ⟨W0, hW0⟩ : ∃ W, W = wr.alloc (.cells #[.slice q.k.ao q.k.n q.k.cap, .slice q.v.ao q.v.n q.v.cap] 32) := ⟨_, rfl⟩
      have B0 : Below wr.heap.size wr W0 := by rw [hW0]; exact (Below.refl _ _).alloc (Nat.le_refl _) _
      have A0 : W0.heap[wr.heap.size]? = some (.cells #[.slice q.k.ao q.k.n q.k.cap, .slice q.v.ao q.v.n q.v.cap] 32) := by rw [hW0]; exact heap_alloc_new wr _
      have hg : wr.heap.size < W0.heap.size := (Array.getElem?_eq_some_iff.1 A0).1
      have HAB0 : Hid (W0.heap[wr.heap.size]? = some (.cells #[.slice q.k.ao q.k.n q.k.cap, .slice q.v.ao q.v.n q.v.cap] 32)) := A0
      have d1 : W0.cell? ⟨wr.heap.size, 0, none⟩ = some (.slice q.k.ao q.k.n q.k.cap) := cell_of_row _ _ 0 _ _ _ A0
      have d2 : W0.cell? ⟨wr.heap.size, 1, none⟩ = some (.slice q.v.ao q.v.n q.v.cap) := cell_of_row _ _ 1 _ _ _ A0
      have S0 := S.below B0
      have own0 := own_below own B0
      have E0 := hB.trans (B0.mono hB.size)
      clear S own A0 hB B0
      go_wp2_with fail
      rw [← hW0]
      clear hW0 c1 c2
      refine (wBytes_any W0 none _ 0 0 _ _ [] _ (Sl.nothing W0) S0.1 (by omega)).mono ?_
      rintro e W1 ⟨u1, rfl, o1, C1⟩
      simp only [Nat.zero_add, List.nil_append] at o1
      have hl3 := S0.1.len
      have own2 := own_below own0 C1
      have hs1 := C1.size
      have E1 := E0.trans (C1.mono E0.size)
      have hs0 := E1.size
      have hel := enc_length (n := q.k.n) (by omega)
      have hby : Byt (enc q.k.n ++ q.k.xs) := fun y hy => by
        rcases List.mem_append.1 hy with hy | hy
        · exact enc_byte (by omega) y hy
        · exact S0.1.byte y hy
      obtain ⟨r1, rc1, rfl, SS1, -⟩ := Sl.own o1 hby
      have S1 := S0.below C1
      have d3 := (C1.cell (p := ⟨wr.heap.size, 1, none⟩) hg).trans d2
      have HAB : Hid (W1.heap[wr.heap.size]? = some (.cells #[.slice q.k.ao q.k.n q.k.cap, .slice q.v.ao q.v.n q.v.cap] 32)) := (C1.block _ hg).trans HAB0.out
      clear HAB0
      obtain ⟨m1, hm1⟩ : ∃ m, m = (enc q.k.n).length + q.k.n := ⟨_, rfl⟩
      rw [← hm1] at SS1 ⊢
      have HM1 : Hid (m1 = (enc q.k.n).length + q.k.n) := hm1
      have hm1' : m1 ≤ 1000010 := by omega
      clear hm1 S0 own0 o1 C1 E0 d1 d2
      go_wp2_with (at_builtin; refine wpList_appG rfl _ _ rfl w.heap.size _ _ _ rfl own2 _ _ _ _ rfl SS1 (by omega) (by omega) ?_; intro v2 W2 own3 G2; have d4 : W2.cell? ⟨wr.heap.size, 1, none⟩ = some (.slice q.v.ao q.v.n q.v.cap) := (G2.cell d3 (box_not_row HAB.out own2)))
      have C2 : Below w.heap.size W1 W2 := (Below.refl _ _).grown G2 (by omega) (fun g hgv => (own2.lt g hgv).1)
      have E2 := E1.trans C2
      have S2 := HSQ.out W2 E2
      have hs2 := E2.size
      clear S1 SS1 C2 own2 d3 HAB G2 hby
      go_wp2_with fail
      refine (wBytes_any W2 none _ 0 0 _ _ [] _ (Sl.nothing W2) S2.2 (by omega)).mono ?_
      rintro e W3 ⟨u3, rfl, o3, C3⟩
      simp only [Nat.zero_add, List.nil_append] at o3
      have own4 := own_below own3 C3
      have hs3 := C3.size
      have E3 := E2.trans (C3.mono E2.size)
      have hel2 := enc_length (n := q.v.n) (by omega)
      have hby2 : Byt (enc q.v.n ++ q.v.xs) := fun y hy => by
        rcases List.mem_append.1 hy with hy | hy
        · exact enc_byte (by omega) y hy
        · exact S2.2.byte y hy
      obtain ⟨r3, rc3, rfl, SS3, -⟩ := Sl.own o3 hby2
      have hs4 := E3.size
      obtain ⟨m3, hm3⟩ : ∃ m, m = (enc q.v.n).length + q.v.n := ⟨_, rfl⟩
      rw [← hm3] at SS3 ⊢
      have hm3' : m3 ≤ 1000010 := by omega
      have hl5 := S2.2.len
      have HFIN : Hid (F ++ (enc q.k.n ++ q.k.xs) ++ (enc q.v.n ++ q.v.xs) = formTk n ((its.map IP.it).take (k + 1)) ∧ FL + m1 + m3 = (formTk n ((its.map IP.it).take (k + 1))).length) := by
        have e : F ++ (enc q.k.n ++ q.k.xs) ++ (enc q.v.n ++ q.v.xs) = formTk n ((its.map IP.it).take (k + 1)) := by
          rw [HT.out, formTk_snoc, ← HFE.out]
          show _ = F ++ (enc q.k.xs.length ++ q.k.xs) ++ (enc q.v.xs.length ++ q.v.xs)
          rw [hl3, hl5]
        refine ⟨e, ?_⟩
        rw [← e, HFL.out, HM1.out, hm3]
        simp only [List.length_append, hl3, hl5]
      clear hm3 S2 own3 o3 C3 E2 HT HFE d4 HSQ hl3 hl5
      go_wp2_with (at_builtin; refine wpList_app rfl _ _ rfl w.heap.size _ _ _ rfl own4 _ _ _ _ rfl SS3 (by omega) (by omega) ?_; intro v4 W4 own5 C4)
      have E4 := E3.trans C4
      clear own4 SS3 C4 E3
      go_wp2
      go_roundw
      case rel =>
        refine ⟨k + 1, by omega, by go_num, ?_, E4⟩
        rw [HFIN.out.1, HFIN.out.2] at own5
        exact own5
      case measure => simp [intOf]; omega
    · have hge : ¬ (k : Int) < (n : Int) := by omega
      have HR : Hid ((its.map IP.it).take k = its.map IP.it) := by
        show _ = _
        exact List.take_of_length_le (by simp; omega)
      rw [HR.out] at own
      go_wp2
      go_ret
      refine ⟨_, rfl, ?_, hB⟩
      rw [HE.out]
      exact own
end Go.Proofs.YtiabdcejibeciaaGreatDoor

namespace Go.Proofs.YtiabdcejibeciaaGreatDoor
open Go.RowKit

theorem size2 (w : World) : (sizeOf 32).run Tryz.prog w = .ok 2 w := by
  have hI := itemInfo
  cases hi : Tryz.prog.info? 32 with
  | none => rw [hi] at hI; simp at hI
  | some i =>
    rw [hi] at hI
    simp only [Option.map_some, Option.some.injEq, Prod.mk.injEq] at hI
    simp [sizeOf, typeInfo, hi, hI.2.1]
/-- l[:i] -/
theorem run_upto2 {W : World} {ao : Option Addr} {n cap i : Nat} (h1 : i ≤ cap) :
    (Instr.sliceAt 22 (.slice ao n cap) none (some (.int .i64 (i : Nat))) none).run Tryz.prog W = .ok (.slice ao i cap) W := by
  have ht := Tryz.underlying22
  have he : Tryz.prog.elem 22 = 32 := by simp [Program.elem, ht]
  rw [run_sliceAt_slice W 22 _ _ _ _ (by rw [he]; exact ht), run_slice_h W 22 ao n cap (by rw [he]; exact ht) .i64 i (by omega) (by omega), he, size2]
  simp only [Result.andThen_ok, sliced, Int.toNat_natCast, Nat.zero_mul, Nat.sub_zero]
  cases ao with
  | none => simp
  | some a => simp [Addr.add_nought]
/-- Where l[j:] lies. -/
def bk2 (ao : Option Addr) (cap j : Nat) : Option Addr := if cap = j then ao else ao.map (·.add (j * 2))
/-- l[j:] -/
theorem run_back2 {W : World} {ao : Option Addr} {n cap j : Nat} (h1 : j ≤ n) :
    (Instr.sliceAt 22 (.slice ao n cap) (some (.int .i64 (j : Nat))) none none).run Tryz.prog W = .ok (.slice (bk2 ao cap j) (n - j) (cap - j)) W := by
  have ht := Tryz.underlying22
  have he : Tryz.prog.elem 22 = 32 := by simp [Program.elem, ht]
  rw [run_sliceAt_slice W 22 _ _ _ _ (by rw [he]; exact ht), run_slice_l W 22 ao n cap (by rw [he]; exact ht) .i64 j (by omega) (by omega), he, size2]
  simp only [Result.andThen_ok, sliced, Int.toNat_natCast, bk2]
theorem IL.front {w : World} {ao : Option Addr} {n cap : Nat} {its : List IP} (h : IL w ao n cap its) (i : Nat) (hi : i ≤ n) : IL w ao i cap (its.take i) := by
  have h1 := h.len
  have h2 := h.le
  refine ⟨by simp; omega, by omega, h.mx, fun hn => ?_, fun a ha j hj => ?_, fun q hq => h.sl q (List.mem_of_mem_take hq)⟩
  · have := h.nil hn
    omega
  · simp only [List.length_take] at hj
    have := h.cell a ha j (by omega)
    simpa using this
theorem IL.from {w : World} {ao : Option Addr} {n cap : Nat} {its : List IP} (h : IL w ao n cap its) (j : Nat) (hj : j ≤ n) : IL w (bk2 ao cap j) (n - j) (cap - j) (its.drop j) := by
  have h1 := h.len
  have h2 := h.mx
  have h3 := h.le
  refine ⟨by simp; omega, by omega, by omega, fun hn => ?_, fun b hb i hi => ?_, fun q hq => h.sl q (List.mem_of_mem_drop hq)⟩
  · unfold bk2 at hn
    by_cases hc : cap = j
    · omega
    · rw [if_neg hc] at hn
      have := h.nil (by simpa using hn)
      omega
  · simp only [List.length_drop] at hi
    have hc : cap ≠ j := by omega
    unfold bk2 at hb
    rw [if_neg hc] at hb
    cases ao with
    | none => simp at hb
    | some a =>
      have hb' : a.add (j * 2) = b := by simpa using hb
      have := h.cell a rfl (j + i) (by omega)
      rw [← hb', Addr.add_add, Addr.add_add, List.getElem_drop, ← Nat.add_mul, ← Nat.add_assoc, ← Nat.add_mul]
      exact this
theorem flatI_app (ps qs : List IP) : flatI (ps ++ qs) = flatI ps ++ flatI qs := by simp [flatI]
/-- append of items. -/
theorem run_appI {w : World} {base : Nat} {v : Value} {ps qs : List IP} (ty : TypeId) (h : w.ownsRow base 32 2 v ps.length (flatI ps)) (hb : base ≤ w.heap.size) {bo : Option Addr} {m c : Nat} (hx : IL w bo m c qs) (hn : ps.length + m ≤ 1000000) :
    ∃ v' w', (Builtin.append_ #[22, 22] ty #[v, .slice bo m c]).run Tryz.prog w = .ok v' w' ∧ w'.ownsRow base 32 2 v' (ps ++ qs).length (flatI (ps ++ qs)) ∧ Below base w w' := by
  obtain ⟨i0, hi, hz0, hz1, hz2⟩ := info_parts itemInfo
  have hlen := hx.len
  by_cases hm : m = 0
  · subst hm
    obtain rfl : qs = [] := List.eq_nil_of_length_eq_zero hlen
    have hv : ∃ ao cap, v = .slice ao ps.length cap ∧ ps.length ≤ cap := by
      rcases h.2 with ⟨rfl, e⟩ | ⟨g, cap, cur, rfl, hg, hh, hle, _⟩
      · rw [e]
        exact ⟨none, 0, rfl, Nat.le_refl _⟩
      · exact ⟨_, cap, rfl, hle⟩
    obtain ⟨ao, cap, rfl, hle⟩ := hv
    refine ⟨_, w, run_append_nothing w 22 22 ty 32 i0 Tryz.underlying22 hi ao ps.length cap hle _ (src_none Tryz.underlying22), ?_, Below.refl _ _⟩
    simpa using h
  · obtain ⟨ad, rfl⟩ : ∃ ad, bo = some ad := by
      cases bo with
      | none => have := (hx.nil rfl).1; omega
      | some ad => exact ⟨ad, rfl⟩
    obtain ⟨v', w', h1, h2, h3, -⟩ := run_append_own (P := Tryz.prog) w base 22 ty 32 i0 _ 2 48 Tryz.underlying22 hi hz0 hz1 hz2 rfl (by decide) v ps.length (flatI ps) h ad m c (flatI qs) (by rw [flatI_length, hlen])
      (fun j u hu => by
        have hj := (List.getElem?_eq_some_iff.1 hu).1
        rw [flatI_length] at hj
        have hq : j / 2 < qs.length := by omega
        obtain ⟨e1, e2⟩ := flatI_get qs (j / 2) hq
        obtain ⟨d1, d2⟩ := hx.cell ad rfl (j / 2) hq
        rcases Nat.mod_two_eq_zero_or_one j with hp | hp
        · have ej : j / 2 * 2 = j := by omega
          rw [ej] at e1 d1
          rw [d1, ← hu, e1]
        · have ej : j / 2 * 2 + 1 = j := by omega
          rw [ej] at e2 d2
          rw [d2, ← hu, e2]) (flatI_one qs) (by unfold maxLen; omega) (by omega) hb
    refine ⟨v', w', h1, ?_, (Below.refl _ w).grown h3 hb (fun k hk => (h.lt k hk).1)⟩
    rw [flatI_app, List.length_append, hlen]
    exact h2
theorem own_none (w : World) : (w.alloc (.cells #[] 32)).ownsRow w.heap.size 32 2 (.slice (some ⟨w.heap.size, 0, none⟩) 0 0) ([] : List IP).length (flatI []) :=
  World.ownsRow_made w #[] 0 (Nat.le_refl _) (Nat.zero_le _) rfl
end Go.Proofs.YtiabdcejibeciaaGreatDoor

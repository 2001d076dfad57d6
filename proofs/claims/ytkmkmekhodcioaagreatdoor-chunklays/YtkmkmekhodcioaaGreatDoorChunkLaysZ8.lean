/-
  Texts in one: State, Meth, RUint, RMore, RBytes, Read, CkMem, CkBelow, CkJudge, POr2, CkRead.
-/
import Derived.Test.YtkmkmekhodcioaaGreatDoorChunkLaysZ7
import Derived.Test.YtkmkmekhodcioaaGreatDoorChunkLaysZ6
import Derived.Test.YtkmkmekhodcioaaGreatDoorChunkLaysZ1
import Derived.Test.YtkmkmekhodcioaaGreatDoorChunkLaysZ0
import Derived.Test.YtkmkmekhodcioaaGreatDoorChunkLaysZ4
import Derived.Test.YtkmkmekhodcioaaGreatDoorChunkLaysZ2
namespace Go.Proofs.YtkmkmekhodcioaaGreatDoor
open Go.RowKit

/-- The struct at the head of block p holds the bytes xs, in an array below block L, and the kind k. -/
structure Rd (w : World) (p L : Nat) (ao : Option Addr) (n cap : Nat) (xs : List Int) (k : Int) : Prop where
  c0 : w.cell? ⟨p, 0, none⟩ = some (.slice ao n cap)
  c1 : w.cell? ⟨p, 1, none⟩ = some (.int .i64 k)
  f0 : w.frozen? ⟨p, 0, none⟩ = false
  f1 : w.frozen? ⟨p, 1, none⟩ = false
  sl : Sl w ao n cap xs
  low : ∀ a, ao = some a → 0 < n → a.block < L
  le : L ≤ p
  sm : n ≤ 1000000

/-- The same, wherever its bytes lie. -/
def R (w : World) (p L : Nat) (xs : List Int) (k : Int) : Prop := ∃ ao n cap, Rd w p L ao n cap xs k

theorem Rd.plt {w : World} {p L : Nat} {ao : Option Addr} {n cap : Nat} {xs : List Int} {k : Int} (h : Rd w p L ao n cap xs k) : p < w.heap.size := World.block_lt_of_cell? w _ h.c0

theorem Rd.below {w w' : World} {p L : Nat} {ao : Option Addr} {n cap : Nat} {xs : List Int} {k : Int} (h : Rd w p L ao n cap xs k) (hb : Below w.heap.size w w') : Rd w' p L ao n cap xs k :=
  ⟨(hb.cell (p := ⟨p, 0, none⟩) h.plt).trans h.c0, (hb.cell (p := ⟨p, 1, none⟩) h.plt).trans h.c1, (hb.frozen (p := ⟨p, 0, none⟩) h.plt).trans h.f0, (hb.frozen (p := ⟨p, 1, none⟩) h.plt).trans h.f1, h.sl.below hb, h.low, h.le, h.sm⟩
theorem R.below {w w' : World} {p L : Nat} {xs : List Int} {k : Int} (h : R w p L xs k) (hb : Below w.heap.size w w') : R w' p L xs k := by
  obtain ⟨ao, n, cap, h⟩ := h
  exact ⟨ao, n, cap, h.below hb⟩

/-- Bytes that lie below block L still do where block q, from L on, was written. -/
theorem Sl.keep {w w' : World} {L q : Nat} {ao : Option Addr} {n cap : Nat} {xs : List Int} (h : Sl w ao n cap xs) (low : ∀ a, ao = some a → 0 < n → a.block < L) (hL : L ≤ q) (hg : w.grownBy w' (some q)) : Sl w' ao n cap xs := by
  refine ⟨h.len, h.le, h.mx, h.nil, fun a ha i hi => hg.cell (h.cell a ha i hi) ?_, h.byte⟩
  have := low a ha (by omega)
  have e : (a.add i).block = a.block := by unfold Addr.add; split <;> rfl
  rw [e]
  simp
  omega

/-- A reader is as it was where another block q is written, from L on. -/
theorem R.keep {w w' : World} {p L q : Nat} {xs : List Int} {k : Int} (h : R w p L xs k) (hne : p ≠ q) (hL : L ≤ q) (hg : w.grownBy w' (some q)) : R w' p L xs k := by
  obtain ⟨ao, n, cap, h⟩ := h
  have hb : w'.heap[p]? = w.heap[p]? := hg.block p h.plt (by simp; omega)
  exact ⟨ao, n, cap, hg.cell h.c0 (by simp; omega), hg.cell h.c1 (by simp; omega), (World.frozen?_of_block (a := ⟨p, 0, none⟩) hb).trans h.f0, (World.frozen?_of_block (a := ⟨p, 1, none⟩) hb).trans h.f1, h.sl.keep h.low hL hg, h.low, h.le, h.sm⟩

/-- What is left behind the first u bytes. -/
theorem Sl.drop {w : World} {ao : Option Addr} {n cap : Nat} {xs : List Int} (h : Sl w ao n cap xs) (u : Nat) (hu : u ≤ n) : Sl w (ao.map (fun x => x.add u)) (n - u) (cap - u) (xs.drop u) := by
  have h1 := h.le
  have h2 := h.mx
  refine ⟨by rw [List.length_drop, h.len], by omega, by omega, fun hn => ?_, fun a ha i hi => ?_, h.byte.drop u⟩
  · have := h.nil (by simpa using hn)
    omega
  · obtain ⟨b, off, rfl, hc⟩ := h.at (by omega)
    simp only [Option.map_some, Option.some.injEq] at ha
    subst ha
    rw [Addr.add_lit, Addr.add_lit, Nat.add_assoc, hc (u + i) (by omega)]
    simp [List.getD]
theorem Sl.dropAll {w : World} {ao : Option Addr} {n : Nat} {xs : List Int} {u : Nat} (h : Sl w ao n u xs) (hu : u ≤ n) : Sl w ao (n - u) 0 (xs.drop u) := by
  have h1 := h.le
  refine ⟨by rw [List.length_drop, h.len], by omega, Nat.zero_le _, fun hn => ⟨?_, rfl⟩, fun a ha i hi => by omega, h.byte.drop u⟩
  omega
theorem low_drop {ao : Option Addr} {n L u m : Nat} (h : ∀ a, ao = some a → 0 < n → a.block < L) (hm : m ≤ n) : ∀ a, ao.map (fun x => x.add u) = some a → 0 < m → a.block < L := by
  intro a ha hp
  cases ao with
  | none => simp at ha
  | some x =>
    simp only [Option.map_some, Option.some.injEq] at ha
    subst ha
    have e : (x.add u).block = x.block := by unfold Addr.add; split <;> rfl
    rw [e]
    exact h x rfl (by omega)

theorem grown_setCell (w : World) (p o : Nat) (v : Value) : w.grownBy (w.setCell ⟨p, o, none⟩ v) (some p) :=
  ⟨rfl, rfl, rfl, by simp, fun k _ hne => Below.heap_setCell _ _ _ _ (by simpa using hne)⟩
theorem grown_trans {a b c : World} {r : Option Nat} (h : a.grownBy b r) (k : b.grownBy c r) : a.grownBy c r :=
  ⟨k.os.trans h.os, k.tape.trans h.tape, k.output.trans h.output, Nat.le_trans h.size k.size, fun i hi hne => (k.block i (Nat.lt_of_lt_of_le hi h.size) hne).trans (h.block i hi hne)⟩
theorem grown_below {a b : World} {r : Option Nat} (h : Below a.heap.size a b) : a.grownBy b r := ⟨h.os, h.tape, h.output, h.size, fun i hi _ => h.block i hi⟩
theorem below_grown {a b : World} {B p : Nat} (h : a.grownBy b (some p)) (hB : B ≤ a.heap.size) (hp : B ≤ p) : Below B a b :=
  ⟨h.os, h.tape, h.output, h.size, fun i hi => h.block i (by omega) (by simp; omega)⟩

/-- The reader behind a store into its bytes. -/
theorem Rd.rest {w : World} {p L : Nat} {ao : Option Addr} {n cap : Nat} {xs : List Int} {k : Int} (h : Rd w p L ao n cap xs k) {bo : Option Addr} {m c : Nat} {ys : List Int} (hs : Sl w bo m c ys) (hlow : ∀ a, bo = some a → 0 < m → a.block < L) (hm : m ≤ n) :
    Rd (w.setCell ⟨p, 0, none⟩ (.slice bo m c)) p L bo m c ys k :=
  ⟨World.cell?_setCell_same _ _ _ h.c0, (World.cell?_setCell_other _ _ _ _ (by simp)).trans h.c1, by simpa using h.f0, by simpa using h.f1, hs.keep hlow h.le (grown_setCell _ _ _ _), hlow, h.le, Nat.le_trans hm h.sm⟩
theorem Rd.wrong {w : World} {p L : Nat} {ao : Option Addr} {n cap : Nat} {xs : List Int} {k : Int} (h : Rd w p L ao n cap xs k) (q : Int) :
    Rd (w.setCell ⟨p, 1, none⟩ (.int .i64 q)) p L ao n cap xs q :=
  ⟨(World.cell?_setCell_other _ _ _ _ (by simp)).trans h.c0, World.cell?_setCell_same _ _ _ h.c1, by simpa using h.f0, by simpa using h.f1, h.sl.keep h.low h.le (grown_setCell _ _ _ _), h.low, h.le, h.sm⟩

end Go.Proofs.YtkmkmekhodcioaaGreatDoor

namespace Go.Proofs.YtkmkmekhodcioaaGreatDoor
open Go.RowKit

theorem failed_nil (w : World) : Calls Tryz.prog 73 #[.pointer none] w fun e w' => e = .returned (.bool true) ∧ w' = w := by
  go_enter Tryz.func73, Tryz.ntmps73
  go_wp2
  go_ret
  exact ⟨rfl, rfl⟩
theorem failed_any (w : World) (p : Nat) (k : Int) (h : w.cell? ⟨p, 1, none⟩ = some (.int .i64 k)) : Calls Tryz.prog 73 #[.pointer (some ⟨p, 0, none⟩)] w fun e w' => e = .returned (.bool (k != 0)) ∧ w' = w := by
  go_enter Tryz.func73, Tryz.ntmps73
  go_wp2
  go_ret
  exact ⟨rfl, rfl⟩

theorem fail_nil (w : World) (q : Int) : Calls Tryz.prog 74 #[.pointer none, .int .i64 q] w fun e w' => e = .returned (.tuple #[]) ∧ w' = w := by
  go_enter Tryz.func74, Tryz.ntmps74
  go_wp2_with (go_at_call 73; refine (failed_nil _).mono ?_; rintro e w' ⟨rfl, rfl⟩)
  (try simp only [Exit.inBlock, Exit.then]); refine bodyPost_ret (results_none rfl _ _ _) rfl ?_
  exact ⟨rfl, rfl⟩

/-- Fail where it has failed, or with nothing that is wrong. -/
theorem fail_not (w : World) (p : Nat) (k q : Int) (h : w.cell? ⟨p, 1, none⟩ = some (.int .i64 k)) (hq : k ≠ 0 ∨ q = 0) : Calls Tryz.prog 74 #[.pointer (some ⟨p, 0, none⟩), .int .i64 q] w fun e w' => e = .returned (.tuple #[]) ∧ w' = w := by
  by_cases hk : k = 0
  · have hb : (k != 0) = false := by simp [hk]
    have hq0 : (q == 0) = true := by simp; omega
    clear hk hq
    go_enter Tryz.func74, Tryz.ntmps74
    go_wp2_with (go_at_call 73; refine (failed_any _ p k h).mono ?_; rintro e w' ⟨rfl, rfl⟩)
    (try simp only [Exit.inBlock, Exit.then]); refine bodyPost_ret (results_none rfl _ _ _) rfl ?_
    exact ⟨rfl, rfl⟩
  · have hb : (k != 0) = true := by simp [hk]
    clear hk hq
    go_enter Tryz.func74, Tryz.ntmps74
    go_wp2_with (go_at_call 73; refine (failed_any _ p k h).mono ?_; rintro e w' ⟨rfl, rfl⟩)
    (try simp only [Exit.inBlock, Exit.then]); refine bodyPost_ret (results_none rfl _ _ _) rfl ?_
    exact ⟨rfl, rfl⟩

theorem fail_any (w : World) (p L : Nat) (xs : List Int) (q : Int) (h : R w p L xs 0) (hq : q ≠ 0) : Calls Tryz.prog 74 #[.pointer (some ⟨p, 0, none⟩), .int .i64 q] w fun e w' => e = .returned (.tuple #[]) ∧ R w' p L [] q ∧ w.grownBy w' (some p) := by
  obtain ⟨ao, n, cap, hr⟩ := h
  have h0 := hr.c0
  have h1 := hr.c1
  have f0 := hr.f0
  have f1 := hr.f1
  have hb : (q == 0) = false := by simp [hq]
  have hfin : R ((w.setCell ⟨p, 1, none⟩ (.int .i64 q)).setCell ⟨p, 0, none⟩ (.slice none 0 0)) p L [] q :=
    ⟨none, 0, 0, (hr.wrong q).rest (Sl.nothing _) (fun a ha => by simp at ha) (Nat.zero_le _)⟩
  have hgr := grown_trans (grown_setCell w p 1 (.int .i64 q)) (grown_setCell (w.setCell ⟨p, 1, none⟩ (.int .i64 q)) p 0 (.slice none 0 0))
  clear hr hq
  go_enter Tryz.func74, Tryz.ntmps74
  go_wp2_with (go_at_call 73; refine (failed_any _ p 0 h1).mono ?_; rintro e w' ⟨rfl, rfl⟩)
  go_end0
  exact ⟨rfl, hfin, hgr⟩

theorem done_nil (w : World) : Calls Tryz.prog 44 #[.pointer none] w fun e w' => e = .returned (.int .i64 17) ∧ w' = w := by
  go_enter Tryz.func44, Tryz.ntmps44
  go_wp2
  go_ret
  exact ⟨rfl, rfl⟩
theorem done_any (w : World) (p L : Nat) (xs : List Int) (k : Int) (h : R w p L xs k) : Calls Tryz.prog 44 #[.pointer (some ⟨p, 0, none⟩)] w fun e w' => e = .returned (.int .i64 (doneS xs k)) ∧ w' = w := by
  obtain ⟨ao, n, cap, hr⟩ := h
  have h0 := hr.c0
  have h1 := hr.c1
  have hl := hr.sl.len
  clear hr
  by_cases hk : k = 0
  · subst hk
    cases xs with
    | nil =>
      have hn : n = 0 := by simpa using hl.symm
      subst hn
      clear hl
      go_enter Tryz.func44, Tryz.ntmps44
      go_wp2
      go_ret
      exact ⟨rfl, rfl⟩
    | cons c r =>
      have hn : 0 < n := by rw [← hl]; simp
      clear hl
      go_enter Tryz.func44, Tryz.ntmps44
      go_wp2
      go_ret
      exact ⟨rfl, rfl⟩
  · have hb : (k == 0) = false := by simp [hk]
    have hd : doneS xs k = k := by simp [doneS, hk]
    rw [hd]
    clear hk hd
    go_enter Tryz.func44, Tryz.ntmps44
    go_wp2
    go_ret
    exact ⟨rfl, rfl⟩
end Go.Proofs.YtkmkmekhodcioaaGreatDoor

namespace Go.Proofs.YtkmkmekhodcioaaGreatDoor
open Go.RowKit

theorem uint_nil (w : World) : Calls Tryz.prog 72 #[.pointer none] w fun e w' => e = .returned (.int .u64 0) ∧ w' = w := by
  go_enter Tryz.func72, Tryz.ntmps72
  go_wp2_with (go_at_call 73; refine (failed_nil _).mono ?_; rintro e w' ⟨rfl, rfl⟩)
  go_ret
  exact ⟨rfl, rfl⟩

theorem uint_any (w : World) (p L : Nat) (xs : List Int) (k : Int) (h : R w p L xs k) : Calls Tryz.prog 72 #[.pointer (some ⟨p, 0, none⟩)] w fun e w' =>
    e = .returned (.int .u64 ((uintS xs k).1 : Nat)) ∧ R w' p L (uintS xs k).2.1 (uintS xs k).2.2 ∧ w.grownBy w' (some p) := by
  have hR := h
  obtain ⟨ao, n, cap, hr⟩ := h
  have h0 := hr.c0
  have h1 := hr.c1
  have f0 := hr.f0
  by_cases hk : k = 0
  · subst hk
    have ht := takeNumber_any w ao n cap xs hr.sl
    have hu := tk_used xs 0 0
    unfold uintS
    rw [if_pos rfl]
    have HT : Hid (Calls _ _ _ _ _) := ht
    clear ht
    generalize tk 0 0 xs = T at *
    obtain ⟨m, u, q⟩ := T
    simp only at hu HT ⊢
    by_cases hq : q = 0
    · subst hq
      have hu := hu rfl
      rw [if_pos rfl]
      have hl := hr.sl.len
      have hle := hr.sl.le
      have hmx := hr.sl.mx
      unfold maxLen at hmx
      go_enter Tryz.func72, Tryz.ntmps72
      go_wp2_with (first | (go_at_call 73; refine (failed_any _ p 0 h1).mono ?_; rintro e w' ⟨rfl, rfl⟩) | (go_at_call 106; refine HT.out.mono ?_; rintro e w' ⟨rfl, rfl⟩))
      · have hfin : R (w'.setCell ⟨p, 0, none⟩ (.slice ao (n - u) 0)) p L (xs.drop u) 0 := by
          have hcu : cap = u := by assumption
          subst hcu
          exact ⟨_, _, _, hr.rest (hr.sl.dropAll (by omega)) (fun a ha hp => by omega) (by omega)⟩
        go_ret
        exact ⟨rfl, hfin, grown_setCell _ _ _ _⟩
      · have hfin : R (w'.setCell ⟨p, 0, none⟩ (.slice (ao.map (fun x => x.add u)) (n - u) (cap - u))) p L (xs.drop u) 0 :=
          ⟨_, _, _, hr.rest (hr.sl.drop u (by omega)) (low_drop hr.low (by omega)) (by omega)⟩
        go_ret
        exact ⟨rfl, hfin, grown_setCell _ _ _ _⟩
    · rw [if_neg hq]
      have hqb : ((q : Int) != 0) = true := by simp; omega
      have hf := fail_any w p L xs q hR (by omega)
      have HF : Hid (Calls _ _ _ _ _) := hf
      clear hf hu hR hr
      go_enter Tryz.func72, Tryz.ntmps72
      go_wp2_with (first | (go_at_call 73; refine (failed_any _ p 0 h1).mono ?_; rintro e w' ⟨rfl, rfl⟩) | (go_at_call 106; refine HT.out.mono ?_; rintro e w' ⟨rfl, rfl⟩) | (go_at_call 74; refine HF.out.mono ?_; rintro e w2 ⟨rfl, hr2, hg2⟩))
      go_ret
      exact ⟨rfl, hr2, hg2⟩
  · have hb : (k != 0) = true := by simp [hk]
    have hs : uintS xs k = (0, xs, k) := by simp [uintS, hk]
    rw [hs]
    clear hr hk hs
    go_enter Tryz.func72, Tryz.ntmps72
    go_wp2_with (go_at_call 73; refine (failed_any _ p k h1).mono ?_; rintro e w' ⟨rfl, rfl⟩)
    go_ret
    exact ⟨rfl, hR, World.grownBy.refl _ _⟩
end Go.Proofs.YtkmkmekhodcioaaGreatDoor

namespace Go.Proofs.YtkmkmekhodcioaaGreatDoor
open Go.RowKit

theorem R.kind {w : World} {p L : Nat} {xs : List Int} {k : Int} (h : R w p L xs k) : w.cell? ⟨p, 1, none⟩ = some (.int .i64 k) := by
  obtain ⟨ao, n, cap, hr⟩ := h
  exact hr.c1

theorem int_nil (w : World) (most : Int) : Calls Tryz.prog 41 #[.pointer none, .int .i64 most] w fun e w' => e = .returned (.int .i64 0) ∧ w' = w := by
  go_enter Tryz.func41, Tryz.ntmps41
  go_wp2_with (first | (go_at_call 72; refine (uint_nil _).mono ?_; rintro e w' ⟨rfl, rfl⟩) | (go_at_call 73; refine (failed_nil _).mono ?_; rintro e w' ⟨rfl, rfl⟩))
  go_ret
  exact ⟨rfl, rfl⟩

set_option maxHeartbeats 400000 in
theorem int_any (w : World) (p L : Nat) (xs : List Int) (k most : Int) (hmost : most ≤ 9223372036854775807) (hb : Byt xs) (h : R w p L xs k) : Calls Tryz.prog 41 #[.pointer (some ⟨p, 0, none⟩), .int .i64 most] w fun e w' =>
    e = .returned (.int .i64 ((intS xs k most).1 : Nat)) ∧ R w' p L (intS xs k most).2.1 (intS xs k most).2.2 ∧ w.grownBy w' (some p) := by
  have hU := uint_any w p L xs k h
  have hlt := uintS_lt (k := k) hb
  unfold intS
  generalize uintS xs k = T at *
  obtain ⟨m, rs, q⟩ := T
  simp only at hU hlt ⊢
  have HU : Hid (Calls _ _ _ _ _) := hU
  clear hU h hb
  by_cases hq : q = 0
  · subst hq
    rw [if_pos rfl]
    by_cases hbad : most < 0 ∨ most < (m : Int)
    · rw [if_pos hbad]
      by_cases hneg : most < 0
      · clear hbad
        go_enter Tryz.func41, Tryz.ntmps41
        go_wp2_with fail
        refine HU.out.mono ?_
        rintro e w1 ⟨rfl, hR1, hg1⟩
        clear HU
        have hc1 := hR1.kind
        go_wp2_with (first | (go_at_call 73; refine (failed_any _ p 0 hc1).mono ?_; rintro e w' ⟨rfl, rfl⟩) | (go_at_call 74; refine (fail_any _ p L rs 4 hR1 (by decide)).mono ?_; rintro e w2 ⟨rfl, hr2, hg2⟩))
        have hg := grown_trans hg1 hg2
        go_ret
        exact ⟨rfl, hr2, hg⟩
      · have hlt2 : most < (m : Int) := by omega
        clear hbad
        go_enter Tryz.func41, Tryz.ntmps41
        go_wp2_with fail
        refine HU.out.mono ?_
        rintro e w1 ⟨rfl, hR1, hg1⟩
        clear HU
        have hc1 := hR1.kind
        go_wp2_with (first | (go_at_call 73; refine (failed_any _ p 0 hc1).mono ?_; rintro e w' ⟨rfl, rfl⟩) | (go_at_call 74; refine (fail_any _ p L rs 4 hR1 (by decide)).mono ?_; rintro e w2 ⟨rfl, hr2, hg2⟩))
        have hg := grown_trans hg1 hg2
        go_ret
        exact ⟨rfl, hr2, hg⟩
    · rw [if_neg hbad]
      have h1 : 0 ≤ most := by omega
      have h2 : (m : Int) ≤ most := by omega
      clear hbad
      go_enter Tryz.func41, Tryz.ntmps41
      go_wp2_with fail
      refine HU.out.mono ?_
      rintro e w1 ⟨rfl, hR1, hg1⟩
      clear HU
      have hc1 := hR1.kind
      go_wp2_with (go_at_call 73; refine (failed_any _ p 0 hc1).mono ?_; rintro e w' ⟨rfl, rfl⟩)
      go_ret
      exact ⟨rfl, hR1, hg1⟩
  · rw [if_neg hq]
    have hqb : (q != 0) = true := by simp [hq]
    clear hq
    go_enter Tryz.func41, Tryz.ntmps41
    go_wp2_with fail
    refine HU.out.mono ?_
    rintro e w1 ⟨rfl, hR1, hg1⟩
    clear HU
    have hc1 := hR1.kind
    go_wp2_with (go_at_call 73; refine (failed_any _ p q hc1).mono ?_; rintro e w' ⟨rfl, rfl⟩)
    go_ret
    exact ⟨rfl, hR1, hg1⟩

theorem bytes_nil (w : World) (most : Int) : Calls Tryz.prog 42 #[.pointer none, .int .i64 most] w fun e w' => e = .returned (.slice none 0 0) ∧ w' = w := by
  go_enter Tryz.func42, Tryz.ntmps42
  go_wp2_with (first | (go_at_call 41; refine (int_nil _ _).mono ?_; rintro e w' ⟨rfl, rfl⟩) | (go_at_call 73; refine (failed_nil _).mono ?_; rintro e w' ⟨rfl, rfl⟩))
  go_ret
  exact ⟨rfl, rfl⟩
end Go.Proofs.YtkmkmekhodcioaaGreatDoor

namespace Go.Proofs.YtkmkmekhodcioaaGreatDoor
open Go.RowKit

theorem R.byte {w : World} {p L : Nat} {xs : List Int} {k : Int} (h : R w p L xs k) : Byt xs := by
  obtain ⟨ao, n, cap, hr⟩ := h
  exact hr.sl.byte

theorem Sl.keepNe {w w' : World} {q : Nat} {ao : Option Addr} {n cap : Nat} {xs : List Int} (h : Sl w ao n cap xs) (hne : ∀ a, ao = some a → 0 < n → a.block ≠ q) (hg : w.grownBy w' (some q)) : Sl w' ao n cap xs := by
  refine ⟨h.len, h.le, h.mx, h.nil, fun a ha i hi => hg.cell (h.cell a ha i hi) ?_, h.byte⟩
  have := hne a ha (by omega)
  have e : (a.add i).block = a.block := by unfold Addr.add; split <;> rfl
  rw [e]
  simp
  exact this
theorem Sl.ofOwn {w : World} {base : Nat} {ao : Option Addr} {n cap : Nat} {xs : List Int} (h : w.ownsRow base 5 1 (.slice ao n cap) n (bv xs)) (hb : Byt xs) : Sl w ao n cap xs := by
  obtain ⟨bo, c, he, hs, _⟩ := Sl.own h hb
  simp only [Value.slice.injEq] at he
  obtain ⟨rfl, _, rfl⟩ := he
  exact hs

/-- The end of Bytes where there are enough: the copy, and the reader behind it. -/
theorem bytes_end {w w' w2 : World} {p L m n cap : Nat} {ao bo : Option Addr} {c : Nat} {rs : List Int} {k : Int} (hg1 : w.grownBy w' (some p)) (hr : Rd w' p L ao n cap rs k) (hb2 : Below w'.heap.size w' w2)
    (hown : w2.ownsRow w'.heap.size 5 1 (.slice (some ⟨w'.heap.size, 0, none⟩) m (m + 0)) m (bv (rs.take m))) (hs : Sl w2 bo (n - m) c (rs.drop m)) (hlow : ∀ a, bo = some a → 0 < n - m → a.block < L) :
    Sl (w2.setCell ⟨p, 0, none⟩ (.slice bo (n - m) c)) (some ⟨w'.heap.size, 0, none⟩) m m (rs.take m) ∧ (∀ a, some (⟨w'.heap.size, 0, none⟩ : Addr) = some a → w.heap.size ≤ a.block) ∧
      R (w2.setCell ⟨p, 0, none⟩ (.slice bo (n - m) c)) p L (rs.drop m) k ∧ w.grownBy (w2.setCell ⟨p, 0, none⟩ (.slice bo (n - m) c)) (some p) := by
  have hp := hr.plt
  refine ⟨(Sl.ofOwn hown (hr.sl.byte.take m)).keepNe ?_ (grown_setCell _ _ _ _), ?_, ⟨_, _, _, (hr.below hb2).rest hs hlow (by omega)⟩, grown_trans hg1 (grown_trans (grown_below hb2) (grown_setCell _ _ _ _))⟩
  · intro a ha _
    obtain rfl := Option.some.inj ha
    show w'.heap.size ≠ p
    omega
  · intro a ha
    obtain rfl := Option.some.inj ha
    exact hg1.size

set_option maxHeartbeats 800000 in
theorem bytes_any (w : World) (p L : Nat) (xs : List Int) (k most : Int) (hmost : most ≤ 9223372036854775807) (h : R w p L xs k) : Calls Tryz.prog 42 #[.pointer (some ⟨p, 0, none⟩), .int .i64 most] w fun e w' =>
    ∃ ao n cap, e = .returned (.slice ao n cap) ∧ Sl w' ao n cap (bytesS xs k most).1 ∧ (∀ a, ao = some a → w.heap.size ≤ a.block) ∧ R w' p L (bytesS xs k most).2.1 (bytesS xs k most).2.2 ∧ w.grownBy w' (some p) := by
  have hU := int_any w p L xs k most hmost h.byte h
  unfold bytesS
  generalize intS xs k most = T at *
  obtain ⟨m, rs, q⟩ := T
  simp only at hU ⊢
  have HU : Hid (Calls _ _ _ _ _) := hU
  clear hU h
  by_cases hq : q = 0
  · subst hq
    rw [if_pos rfl]
    by_cases hbad : rs.length < m
    · rw [if_pos hbad]
      go_enter Tryz.func42, Tryz.ntmps42
      go_wp2_with fail
      refine HU.out.mono ?_
      rintro e w1 ⟨rfl, hR1, hg1⟩
      clear HU
      have hR1' := hR1
      obtain ⟨ao, n, cap, hr⟩ := hR1'
      have hc0 := hr.c0
      have hc1 := hr.c1
      have hl := hr.sl.len
      have hlt : (n : Int) < (m : Int) := by omega
      clear hr hl hbad
      go_wp2_with (first | (go_at_call 73; refine (failed_any _ p 0 hc1).mono ?_; rintro e w' ⟨rfl, rfl⟩) | (go_at_call 74; refine (fail_any _ p L rs 2 hR1 (by decide)).mono ?_; rintro e w2 ⟨rfl, hr2, hg2⟩))
      have hg := grown_trans hg1 hg2
      go_ret
      exact ⟨none, 0, 0, rfl, Sl.nothing _, fun a ha => by simp at ha, hr2, hg⟩
    · rw [if_neg hbad]
      go_enter Tryz.func42, Tryz.ntmps42
      go_wp2_with fail
      refine HU.out.mono ?_
      rintro e w1 ⟨rfl, hR1, hg1⟩
      clear HU
      obtain ⟨ao, n, cap, hr⟩ := hR1
      have hc0 := hr.c0
      have hc1 := hr.c1
      have hl := hr.sl.len
      have hle := hr.sl.le
      have hmx := hr.sl.mx
      unfold maxLen at hmx
      have hsm := hr.sm
      have hmn : m ≤ n := by omega
      have hsl := hr.sl.take m hmn
      clear hbad
      go_wp2_with (first | (go_at_call 73; refine (failed_any _ p 0 hc1).mono ?_; rintro e w' ⟨rfl, rfl⟩) | fail)
      refine (withRoom_any _ _ _ _ 0 _ hsl (by omega)).mono ?_
      rintro e w2 ⟨rfl, hown2, hb2⟩
      have hr2 := hr.below hb2
      have hd0 := hr2.c0
      have hf0 := hr2.f0
      by_cases hcm : cap = m
      · subst hcm
        have hfin := bytes_end hg1 hr hb2 hown2 (hr2.sl.dropAll hmn) (fun a ha hp => by omega)
        rw [show n - cap = 0 from by omega] at hfin
        go_wp2_with fail
        go_ret
        exact ⟨_, _, _, rfl, hfin⟩
      · have hfin := bytes_end hg1 hr hb2 hown2 (hr2.sl.drop m hmn) (low_drop hr.low (by omega))
        go_wp2_with fail
        go_ret
        exact ⟨_, _, _, rfl, hfin⟩
  · rw [if_neg hq]
    have hqb : (q != 0) = true := by simp [hq]
    clear hq
    go_enter Tryz.func42, Tryz.ntmps42
    go_wp2_with fail
    refine HU.out.mono ?_
    rintro e w1 ⟨rfl, hR1, hg1⟩
    clear HU
    have hc1 := hR1.kind
    go_wp2_with (go_at_call 73; refine (failed_any _ p q hc1).mono ?_; rintro e w' ⟨rfl, rfl⟩)
    go_ret
    exact ⟨none, 0, 0, rfl, Sl.nothing _, fun a ha => by simp at ha, hR1, hg1⟩

end Go.Proofs.YtkmkmekhodcioaaGreatDoor

namespace Go.Proofs.YtkmkmekhodcioaaGreatDoor
open Go.RowKit

set_option maxHeartbeats 400000 in
theorem clone_any (w : World) (ao : Option Addr) (n cap : Nat) (xs : List Int) (h : Sl w ao n cap xs) (hr : n ≤ 140737488355328) :
    Calls Tryz.prog 71 #[.slice ao n cap] w fun e w' => ∃ v, e = .returned v ∧ w'.ownsRow w.heap.size 5 1 v n (bv xs) ∧ Below w.heap.size w w' := by
  have hA := h.below ((Below.refl w.heap.size w).alloc (Nat.le_refl _) (.cells #[] 5))
  have hO := own_empty w
  have hq : ∀ W, (binOp .eql 23 (.slice ao n cap) (.slice none 0 0)).run Tryz.prog W = .ok (.bool ao.isNone) W := fun W => Lib.run_eql_slice_nil W _ _ ao n cap 0 0 Tryz.underlying23
  cases ao with
  | none =>
    obtain ⟨rfl, rfl⟩ := h.nil rfl
    obtain rfl : xs = [] := List.eq_nil_of_length_eq_zero h.len
    go_enter Tryz.func71, Tryz.ntmps71
    go_wp2
    go_ret
    exact ⟨_, rfl, World.ownsRow_nil _ _ _ _, Below.refl _ _⟩
  | some a =>
    go_enter Tryz.func71, Tryz.ntmps71
    go_wp2_with (at_builtin; refine wpList_app rfl _ _ rfl w.heap.size _ _ _ rfl hO _ _ _ _ rfl hA (by omega) (by simp) ?_; intro v1 w1 hown1 hb1)
    simp only [Nat.zero_add, List.nil_append] at hown1
    have hb2 := ((Below.refl w.heap.size w).alloc (Nat.le_refl _) _).trans hb1
    clear hb1 hO hA hq
    go_ret
    exact ⟨v1, rfl, hown1, hb2⟩

theorem new_reader (w : World) (t : TypeId) (bo : Option Addr) (n c : Nat) (xs : List Int) (hsl : Sl w bo n c xs) (hlt : ∀ a, bo = some a → 0 < n → a.block < w.heap.size) (hn : n ≤ 1000000) :
    R (w.alloc (.cells #[.slice bo n c, .int .i64 0] t)) w.heap.size w.heap.size xs 0 := by
  refine ⟨bo, n, c, ?_, ?_, ?_, ?_, hsl.below ((Below.refl _ w).alloc (Nat.le_refl _) _), hlt, Nat.le_refl _, hn⟩
  · go_simp
  · go_simp
  · go_simp
  · go_simp

set_option maxHeartbeats 400000 in
theorem read_any (w : World) (ao : Option Addr) (n cap : Nat) (xs : List Int) (h : Sl w ao n cap xs) (hr : n ≤ 1000000) :
    Calls Tryz.prog 40 #[.slice ao n cap] w fun e w' => ∃ p, e = .returned (.pointer (some ⟨p, 0, none⟩)) ∧ w.heap.size ≤ p ∧ R w' p p xs 0 ∧ Below w.heap.size w w' := by
  go_enter Tryz.func40, Tryz.ntmps40
  go_wp2_with fail
  refine (clone_any w ao n cap xs h (by omega)).mono ?_
  rintro e w1 ⟨v1, rfl, hown1, hb1⟩
  obtain ⟨bo, c2, rfl, hsl, hbo⟩ := Sl.own hown1 h.byte
  have hs := hb1.size
  have hfin := new_reader w1 112 bo n c2 xs hsl (fun a ha _ => (hbo a ha).2.1) hr
  have hb2 := hb1.alloc hs (.cells #[.slice bo n c2, .int .i64 0] 112)
  clear hown1 hsl hbo hb1
  go_wp2
  go_ret
  exact ⟨w1.heap.size, rfl, hs, hfin, hb2⟩
end Go.Proofs.YtkmkmekhodcioaaGreatDoor

namespace Go.Proofs.YtkmkmekhodcioaaGreatDoor
open Go.RowKit

/-- append, where its run is known. -/
theorem wpList_appR {P : Program} {w w' : World} {ops : Array Oper} {rest : List Oper} {o : Oper} {a : Act} {Q : Exit → Act → World → Prop} (hgd : o.guard = none) (s x : Operand) (t t' : TypeId)
    (ho : o.op = .call { callee := .builtin .append, args := #[s, x], argTypes := #[t, t'] }) (v u v' : Value) (hs : a.eval s = v) (hx : a.eval x = u) (hr : (Builtin.append_ #[t, t'] o.type #[v, u]).run P w = .ok v' w')
    (h : wpList P ops Q rest (a.put o.dst v') w') : wpList P ops Q (o :: rest) a w := by
  refine wpList_plain hgd fun _ hK => ?_
  unfold Oper.wp execOp
  simp only [ho, resolve, invoke, builtin, Sem.run_bind, Sem.run_pure, Result.andThen_ok, List.map_toArray, List.map_cons, List.map_nil, hs, hx, hr, Oper.upon]
  exact hK _ _ h
/-- The block that holds some bytes. -/
def blkP (q : Part) (x : Nat) : Prop := ∃ a, q.ao = some a ∧ 0 < q.n ∧ a.block = x
theorem Sl.keptP {w w' : World} {q : Part} (h : Sl w q.ao q.n q.cap q.xs) (hk : ∀ x, blkP q x → w'.heap[x]? = w.heap[x]?) : Sl w' q.ao q.n q.cap q.xs := by
  refine ⟨h.len, h.le, h.mx, h.nil, fun a ha i hi => ?_, h.byte⟩
  have hb : (a.add i).block = a.block := by unfold Addr.add; split <;> rfl
  rw [← h.cell a ha i hi]
  exact World.cell?_of_block (by rw [hb]; exact hk _ ⟨a, ha, by omega, rfl⟩)
theorem Sl.ltP {w : World} {q : Part} (h : Sl w q.ao q.n q.cap q.xs) {x : Nat} (hx : blkP q x) : x < w.heap.size := by
  obtain ⟨a, ha, hn, rfl⟩ := hx
  exact h.lt a ha hn
def IP.blk (q : IP) (x : Nat) : Prop := blkP q.k x ∨ blkP q.v x
theorem IP.ok.kept {w w' : World} {q : IP} (h : q.ok w) (hk : ∀ x, q.blk x → w'.heap[x]? = w.heap[x]?) : q.ok w' := ⟨h.1.keptP fun x hx => hk x (.inl hx), h.2.keptP fun x hx => hk x (.inr hx)⟩
theorem IP.ok.lt {w : World} {q : IP} (h : q.ok w) {x : Nat} (hx : q.blk x) : x < w.heap.size := by
  rcases hx with hx | hx
  · exact h.1.ltP hx
  · exact h.2.ltP hx
/-- A reader where another block is written. -/
theorem R.keepO {w w' : World} {p L : Nat} {o : Option Nat} {xs : List Int} {k : Int} (h : R w p L xs k) (hg : w.grownBy w' o) (ho : ∀ q, o = some q → p ≠ q ∧ L ≤ q) : R w' p L xs k := by
  cases o with
  | some q => exact h.keep (ho q rfl).1 (ho q rfl).2 hg
  | none => exact h.below ⟨hg.os, hg.tape, hg.output, hg.size, fun i hi => hg.block i hi (by simp)⟩
/-- Items while they are read, by a reader at block p. -/
structure CkInv (w : World) (N p base : Nat) (f : Nat → List It × List Int × Int) (V : World) (v : Value) (ps : List IP) : Prop where
  rd : R V p p (f ps.length).2.1 (f ps.length).2.2
  own : V.ownsRow base 43 2 v ps.length (flatI ps)
  oks : ∀ q ∈ ps, q.ok V
  far : ∀ q ∈ ps, ∀ x, q.blk x → x ≠ p ∧ v.ownBlock ≠ some x
  new : ∀ q ∈ ps, ∀ x, q.blk x → N ≤ x
  thr : ps.map IP.it = (f ps.length).1
  bel : Below w.heap.size w V
  pos : w.heap.size ≤ p ∧ p < base ∧ base ≤ V.heap.size
theorem CkInv.row {w : World} {N p base : Nat} {f : Nat → List It × List Int × Int} {V : World} {v : Value} {ps : List IP} (h : CkInv w N p base f V v ps) : ∃ ao cap, v = .slice ao ps.length cap ∧ IL V ao ps.length cap ps := own_items h.own h.oks
/-- The reader has read on: what was read is as it was. -/
theorem CkInv.grown {w : World} {N p base : Nat} {f : Nat → List It × List Int × Int} {V V1 : World} {v : Value} {ps : List IP} (h : CkInv w N p base f V v ps) (hg : V.grownBy V1 (some p)) :
    V1.ownsRow base 43 2 v ps.length (flatI ps) ∧ (∀ q ∈ ps, q.ok V1) ∧ Below w.heap.size w V1 ∧ base ≤ V1.heap.size := by
  have hpos := h.pos
  refine ⟨own_kept h.own fun g hgv => hg.block g (h.own.lt g hgv).2 fun e => ?_, fun q hq => (h.oks q hq).kept fun x hx => hg.block x ((h.oks q hq).lt hx) fun e => (h.far q hq x hx).1 (Option.some.inj e), ?_, by have := hg.size; omega⟩
  · have := (h.own.lt g hgv).1
    have := Option.some.inj e
    omega
  · exact h.bel.trans (below_grown hg h.bel.size hpos.1)
/-- One item more. -/
theorem CkInv.step {w : World} {N p base : Nat} {f : Nat → List It × List Int × Int} {V V2 V3 : World} {v : Value} {ps : List IP} {q : IP} (h : CkInv w N p base f V v ps) (hg : V.grownBy V2 (some p)) (hq : q.ok V2)
    (hfar : ∀ x, q.blk x → x ≠ p ∧ v.ownBlock ≠ some x) (hnew : ∀ x, q.blk x → N ≤ x) (hf : f (ps.length + 1) = ((f ps.length).1 ++ [q.it], (f (ps.length + 1)).2)) (hr : R V2 p p (f (ps.length + 1)).2.1 (f (ps.length + 1)).2.2) (hn : ps.length ≤ 100000) (h3 : V3 = V2.alloc (.cells #[q.k.val, q.v.val] 43)) (ty : TypeId) (c : Nat) :
    ∃ v' V4, (Builtin.append_ #[30, 30] ty #[v, .slice (some ⟨V2.heap.size, 0, none⟩) 1 c]).run Tryz.prog V3 = .ok v' V4 ∧ CkInv w N p base f V4 v' (ps ++ [q]) := by
  obtain ⟨o2, k2, b2, s2⟩ := h.grown hg
  have B3 : Below V2.heap.size V2 V3 := by rw [h3]; exact (Below.refl _ _).alloc (Nat.le_refl _) _
  have o3 := own_kept (w' := V3) o2 fun g hgv => B3.block g (o2.lt g hgv).2
  have hx : V3.heap[V2.heap.size]? = some (.cells #[q.k.val, q.v.val] 43) := by rw [h3]; exact heap_alloc_new V2 _
  have hs3 := B3.size
  have hpos := h.pos
  obtain ⟨i0, hi, hz0, hz1, hz2⟩ := info_parts itemInfo
  obtain ⟨v', V4, hrun, own4, g4, w4⟩ := run_append_own2 (P := Tryz.prog) V3 base 30 ty 43 i0 _ 2 48 Tryz.underlying30 hi hz0 hz1 hz2 rfl (by decide) v ps.length (flatI ps) o3 ⟨V2.heap.size, 0, none⟩ 1 c [q.k.val, q.v.val] rfl
    (fun j u hu => by
      rw [Addr.add_lit, Nat.zero_add, cell_of_row V3 V2.heap.size j _ _ _ hx]
      simpa using hu) (fun u hu => by
      simp only [List.mem_cons, List.not_mem_nil, or_false] at hu
      rcases hu with rfl | rfl <;> rfl) (by unfold maxLen; omega) (by omega) (by omega)
  have hpl : p < V2.heap.size := by
    obtain ⟨_, _, _, hR⟩ := hr
    exact hR.plt
  have rowne : ∀ g, v.ownBlock = some g → p ≠ g ∧ p ≤ g := fun g hgv => by
    have := (h.own.lt g hgv).1
    omega
  have kp : ∀ r : IP, r.ok V2 → (∀ x, r.blk x → x ≠ p ∧ v.ownBlock ≠ some x) → r.ok V4 ∧ ∀ x, r.blk x → x ≠ p ∧ v'.ownBlock ≠ some x := fun r hr hf => by
    refine ⟨(hr.below B3).kept fun x hx => g4.block x ((hr.below B3).lt hx) fun e => (hf x hx).2 e.symm, fun x hx => ⟨(hf x hx).1, fun e => ?_⟩⟩
    rcases w4 x e with e' | e'
    · exact (hf x hx).2 e'
    · have := hr.lt hx
      omega
  refine ⟨v', V4, hrun, ?_, ?_, ?_, ?_, ?_, ?_, ?_, ?_⟩
  · rw [List.length_append]
    exact (hr.below B3).keepO g4 rowne
  · rw [List.length_append, flatI_snoc]
    exact own4
  · intro r hm
    rcases List.mem_append.1 hm with hm | hm
    · exact (kp r (k2 r hm) (h.far r hm)).1
    · rw [List.mem_singleton.1 hm]
      exact (kp q hq hfar).1
  · intro r hm
    rcases List.mem_append.1 hm with hm | hm
    · exact (kp r (k2 r hm) (h.far r hm)).2
    · rw [List.mem_singleton.1 hm]
      exact (kp q hq hfar).2
  · intro r hm
    rcases List.mem_append.1 hm with hm | hm
    · exact h.new r hm
    · rw [List.mem_singleton.1 hm]
      exact hnew
  · rw [List.map_append, h.thr, List.length_append]
    show _ = (f (ps.length + 1)).1
    rw [hf]
    rfl
  · refine (b2.trans (B3.mono b2.size)).trans ?_
    cases ho : v.ownBlock with
    | none => rw [ho] at g4; exact ⟨g4.os, g4.tape, g4.output, g4.size, fun i hi => g4.block i (by have := (b2.trans (B3.mono b2.size)).size; omega) (by simp)⟩
    | some g => rw [ho] at g4; exact below_grown g4 (b2.trans (B3.mono b2.size)).size (by have := rowne g ho; omega)
  · refine ⟨hpos.1, hpos.2.1, ?_⟩
    have := g4.size
    omega
end Go.Proofs.YtkmkmekhodcioaaGreatDoor

namespace Go.Proofs.YtkmkmekhodcioaaGreatDoor
open Go.RowKit

set_option maxHeartbeats 1000000 in
set_option maxRecDepth 100000 in
theorem ckbelow_any (w : World) (p q : IP) (hp : p.ok w) (hq : q.ok w) :
    Calls Tryz.prog 17 #[.agg #[p.k.val, p.v.val], .agg #[q.k.val, q.v.val]] w fun e w' => e = .returned (.bool (decide (cmpL p.k.xs q.k.xs < 0))) ∧ Below w.heap.size w w' := by
  obtain ⟨w1, h1⟩ : ∃ W, W = w.alloc (.cells #[p.k.val, p.v.val] 43) := ⟨_, rfl⟩
  obtain ⟨w2, h2⟩ : ∃ W, W = w1.alloc (.cells #[q.k.val, q.v.val] 43) := ⟨_, rfl⟩
  have B1 : Below w.heap.size w w1 := by rw [h1]; exact (Below.refl _ w).alloc (Nat.le_refl _) _
  have B2 : Below w1.heap.size w1 w2 := by rw [h2]; exact (Below.refl _ w1).alloc (Nat.le_refl _) _
  have B : Below w.heap.size w w2 := B1.trans (B2.mono B1.size)
  have S1 := (hp.below B).1
  have S2 := (hq.below B).1
  have C := bcmp_any w2 _ _ _ _ _ _ _ _ S1 S2
  obtain ⟨z, hz⟩ : ∃ z, z = cmpL p.k.xs q.k.xs := ⟨_, rfl⟩
  rw [← hz] at C ⊢
  unfold Part.val at h1 h2 ⊢
  clear hz hp hq S1 S2 B1 B2
  go_enter Tryz.func17, Tryz.ntmps17
  go_wp2_with fail
  rw [← h1, ← h2]
  clear h1 h2
  refine C.mono ?_
  rintro e w' ⟨rfl, hw⟩
  obtain rfl := hw.symm
  go_wp2
  go_ret
  exact ⟨rfl, B⟩
end Go.Proofs.YtkmkmekhodcioaaGreatDoor

namespace Go.Proofs.YtkmkmekhodcioaaGreatDoor
open Go.RowKit

theorem kindCk_rise {l : List It} (h : headIs l = true) : kindCk l = if rises l then 0 else 3 := by
  unfold kindCk
  rw [h, Bool.true_and]

set_option maxHeartbeats 4000000 in
set_option maxRecDepth 100000 in
theorem ckjudge_any (w : World) (ao : Option Addr) (n cap : Nat) (its : List IP) (h : IL w ao n cap its) (hn : n ≤ 1000000) :
    Calls Tryz.prog 45 #[.slice ao n cap] w fun e w' => e = .returned (.int .i64 (kindCk (its.map IP.it))) ∧ Below w.heap.size w w' := by
  have hl1 := Nat.le_of_eq h.len
  have hl2 := Nat.le_of_eq h.len.symm
  have hni : (n : Int) ≤ 1000000 := by omega
  by_cases h0 : n = 0
  · subst h0
    obtain rfl : its = [] := List.eq_nil_of_length_eq_zero (by omega)
    clear h
    go_enter Tryz.func45, Tryz.ntmps45
    go_wp2
    go_ret
    exact ⟨rfl, Below.refl _ _⟩
  obtain ⟨b, off, rfl, hc⟩ := h.at (by omega)
  have HC : Hid (∀ i (hi : i < its.length), w.cell? ⟨b, off + i * 2, none⟩ = some its[i].k.val ∧ w.cell? ⟨b, off + i * 2 + 1, none⟩ = some its[i].v.val) := hc
  have hnb : ((n : Int) == 0) = false := by simp; omega
  have hn1 : (0 : Int) < (n : Int) := by omega
  have c0 := (hc 0 (by omega)).1
  rw [Nat.zero_mul, Nat.add_zero] at c0
  have HS := h.sl its[0] (List.getElem_mem (by omega))
  have H0 : Hid (its.map IP.it = its[0].it :: (its.map IP.it).drop 1) := by
    show _ = _
    rw [← List.map_drop, ← List.map_cons, ← List.drop_eq_getElem_cons (by omega), List.drop_zero]
  obtain ⟨p0, hp0⟩ : ∃ p, p = its[0] := ⟨_, rfl⟩
  rw [← hp0] at c0 HS H0
  unfold Part.val at c0
  have hlen := HS.1.len
  clear hc hp0 h0
  by_cases hk : p0.k.n = 0
  · have hkb : ((p0.k.n : Int) == 0) = true := by simp [hk]
    have HR : Hid (kindCk (its.map IP.it) = 3) := by
      show _ = _
      have e : p0.k.xs = [] := List.eq_nil_of_length_eq_zero (by omega)
      have : headIs (its.map IP.it) = false := by
        rw [H0.out]
        show decide (p0.k.xs ≠ []) = false
        rw [e]
        rfl
      unfold kindCk
      rw [this]
      rfl
    clear HS hlen hk h
    go_enter Tryz.func45, Tryz.ntmps45
    go_wp2
    go_ret
    rw [HR.out]
    exact ⟨rfl, Below.refl _ _⟩
  have hkb : ((p0.k.n : Int) == 0) = false := by simp [hk]
  have HH : Hid (headIs (its.map IP.it) = true) := by
    show _ = _
    rw [H0.out]
    show decide (p0.k.xs ≠ []) = true
    refine decide_eq_true fun e => hk ?_
    rw [← hlen, e]
    rfl
  clear HS hlen hk H0
  go_enter Tryz.func45, Tryz.ntmps45
  go_wp2_with fail
  go_loopw [18] (fun i wr => ∃ k : Nat, k + 1 ≤ n ∧ i = .int .i64 k ∧ Hid (∀ j (h : j + 1 < its.length), j < k → cmpL its[j].k.xs its[j + 1].k.xs < 0) ∧ Below w.heap.size w wr) (fun i _ => n - 1 - (intOf i).toNat)
  case atStart => exact ⟨0, by omega, rfl, fun j _ hj => by omega, Below.refl _ _⟩
  case round =>
    obtain ⟨k, hkn, rfl, HJ, hB⟩ := hrel
    by_cases hlt : k + 1 < n
    · have hki : (k : Int) < (n : Int) - 1 := by omega
      have hki1 : (k : Int) < (n : Int) := by omega
      have hki2 : (k : Int) + 1 < (n : Int) := by omega
      have hkl : k < its.length := by omega
      have hkl2 : k + 1 < its.length := by omega
      obtain ⟨c1, c2⟩ := HC.out k hkl
      obtain ⟨d1, d2⟩ := HC.out (k + 1) hkl2
      have S1 := (h.sl its[k] (List.getElem_mem hkl))
      have S2 := (h.sl its[k + 1] (List.getElem_mem hkl2))
      have HG : Hid (∀ (z : k + 1 < its.length), cmpL its[k].k.xs its[k + 1].k.xs < 0 ↔ cmpL its[k].k.xs its[k + 1].k.xs < 0) := fun _ => Iff.rfl
      obtain ⟨p, hp⟩ : ∃ p, p = its[k] := ⟨_, rfl⟩
      obtain ⟨q, hq⟩ : ∃ q, q = its[k + 1] := ⟨_, rfl⟩
      have HP : Hid (p = its[k] ∧ q = its[k + 1]) := ⟨hp, hq⟩
      rw [← hp] at c1 c2 S1
      rw [← hq] at d1 d2 S2
      rw [← hB.cell (World.block_lt_of_cell? _ _ c1)] at c1
      rw [← hB.cell (World.block_lt_of_cell? _ _ c2)] at c2
      rw [← hB.cell (World.block_lt_of_cell? _ _ d1)] at d1
      rw [← hB.cell (World.block_lt_of_cell? _ _ d2)] at d2
      have CB : ∀ W, Below wr.heap.size wr W → Calls Tryz.prog 17 #[.agg #[p.k.val, p.v.val], .agg #[q.k.val, q.v.val]] W fun e w' => e = .returned (.bool (decide (cmpL p.k.xs q.k.xs < 0))) ∧ Below W.heap.size W w' := fun W hW => ckbelow_any W p q ((S1.below hB).below hW) ((S2.below hB).below hW)
      unfold Part.val at c1 c2 d1 d2 CB
      have HWR : Hid (IntKind.i64.wrap ((k : Int) + 1) = (k : Int) + 1) := by
        show _ = _
        have := wrap_nat (k := k + 1) (by omega)
        simpa using this
      clear hp hq S1 S2 HG
      by_cases hc : cmpL p.k.xs q.k.xs < 0
      · rw [decide_eq_true hc] at CB
        have HCC : Hid (cmpL p.k.xs q.k.xs < 0) := hc
        clear hc
        go_wp2_with fail
        have HS : Hid (∀ V, Below wr.heap.size wr V → V.cell? ⟨b, off + k * 2, none⟩ = some (.slice p.k.ao p.k.n p.k.cap) ∧ V.cell? ⟨b, off + k * 2 + 1, none⟩ = some (.slice p.v.ao p.v.n p.v.cap) ∧ V.cell? ⟨b, off + (k + 1) * 2, none⟩ = some (.slice q.k.ao q.k.n q.k.cap) ∧ V.cell? ⟨b, off + (k + 1) * 2 + 1, none⟩ = some (.slice q.v.ao q.v.n q.v.cap)) := fun V hV => ⟨(hV.cell (World.block_lt_of_cell? _ _ c1)).trans c1, (hV.cell (World.block_lt_of_cell? _ _ c2)).trans c2, (hV.cell (World.block_lt_of_cell? _ _ d1)).trans d1, (hV.cell (World.block_lt_of_cell? _ _ d2)).trans d2⟩
        have E0 : Below wr.heap.size wr wr.drew := (Below.refl _ _).drew
        refine wp_region_noPanic ?_
        refine wp_region_held_drew (S := fun V => V.cell? ⟨b, off + k * 2, none⟩ = some (.slice p.k.ao p.k.n p.k.cap) ∧ V.cell? ⟨b, off + k * 2 + 1, none⟩ = some (.slice p.v.ao p.v.n p.v.cap) ∧ V.cell? ⟨b, off + (k + 1) * 2, none⟩ = some (.slice q.k.ao q.k.n q.k.cap) ∧ V.cell? ⟨b, off + (k + 1) * 2 + 1, none⟩ = some (.slice q.v.ao q.v.n q.v.cap)) (by kernel_rfl) (HS.out _ E0) (fun H0 => ?_)
        obtain ⟨v0, hv0⟩ : ∃ v, v = wr.drew := ⟨_, rfl⟩
        rw [← hv0] at H0 E0 ⊢
        clear hv0
        refine hr_take_w 0 (some 21) (.slice (some ⟨b, off, none⟩) n cap) rfl rfl (by kernel_rfl) (by kernel_rfl) (by kernel_rfl) rfl (fun W hW => by obtain ⟨h0, h1, h2, h3⟩ := hW; go_simp) H0 ?_
        simp only [Act.put, List.setIfInBounds_toArray, List.set_cons_zero, List.set_cons_succ]
        refine hr_take_w 1 (some 22) (.int .i64 k) rfl rfl (by kernel_rfl) (by kernel_rfl) (by kernel_rfl) rfl (fun W hW => by obtain ⟨h0, h1, h2, h3⟩ := hW; go_simp) H0 ?_
        simp only [Act.put, List.setIfInBounds_toArray, List.set_cons_zero, List.set_cons_succ]
        refine hr_take_w 2 (some 23) (.pointer (some ⟨b, off + k * 2, none⟩)) rfl rfl (by kernel_rfl) (by kernel_rfl) (by kernel_rfl) rfl (fun W hW => by obtain ⟨h0, h1, h2, h3⟩ := hW; go_simp) H0 ?_
        simp only [Act.put, List.setIfInBounds_toArray, List.set_cons_zero, List.set_cons_succ]
        refine hr_take_w 3 (some 24) (.agg #[.slice p.k.ao p.k.n p.k.cap, .slice p.v.ao p.v.n p.v.cap]) rfl rfl (by kernel_rfl) (by kernel_rfl) (by kernel_rfl) rfl (fun W hW => by obtain ⟨h0, h1, h2, h3⟩ := hW; go_simp) H0 ?_
        simp only [Act.put, List.setIfInBounds_toArray, List.set_cons_zero, List.set_cons_succ]
        refine hr_take_w 4 (some 25) (.slice (some ⟨b, off, none⟩) n cap) rfl rfl (by kernel_rfl) (by kernel_rfl) (by kernel_rfl) rfl (fun W hW => by obtain ⟨h0, h1, h2, h3⟩ := hW; go_simp) H0 ?_
        simp only [Act.put, List.setIfInBounds_toArray, List.set_cons_zero, List.set_cons_succ]
        refine hr_take_w 5 (some 26) (.int .i64 k) rfl rfl (by kernel_rfl) (by kernel_rfl) (by kernel_rfl) rfl (fun W hW => by obtain ⟨h0, h1, h2, h3⟩ := hW; go_simp) H0 ?_
        simp only [Act.put, List.setIfInBounds_toArray, List.set_cons_zero, List.set_cons_succ]
        refine hr_take_w 6 (some 27) (.int .i64 (k + 1)) rfl rfl (by kernel_rfl) (by kernel_rfl) (by kernel_rfl) rfl (fun W hW => by obtain ⟨h0, h1, h2, h3⟩ := hW; go_simp; exact HWR.out) H0 ?_
        simp only [Act.put, List.setIfInBounds_toArray, List.set_cons_zero, List.set_cons_succ]
        refine hr_take_w 7 (some 28) (.pointer (some ⟨b, off + (k + 1) * 2, none⟩)) rfl rfl (by kernel_rfl) (by kernel_rfl) (by kernel_rfl) rfl (fun W hW => by obtain ⟨h0, h1, h2, h3⟩ := hW; go_simp; intro hneg; omega) H0 ?_
        simp only [Act.put, List.setIfInBounds_toArray, List.set_cons_zero, List.set_cons_succ]
        refine hr_take_w 8 (some 29) (.agg #[.slice q.k.ao q.k.n q.k.cap, .slice q.v.ao q.v.n q.v.cap]) rfl rfl (by kernel_rfl) (by kernel_rfl) (by kernel_rfl) rfl (fun W hW => by obtain ⟨h0, h1, h2, h3⟩ := hW; go_simp) H0 ?_
        simp only [Act.put, List.setIfInBounds_toArray, List.set_cons_zero, List.set_cons_succ]
        refine hr_call_w 9 (some 30) 17 #[.agg #[.slice p.k.ao p.k.n p.k.cap, .slice p.v.ao p.v.n p.v.cap], .agg #[.slice q.k.ao q.k.n q.k.cap, .slice q.v.ao q.v.n q.v.cap]] rfl rfl (by kernel_rfl) rfl (by go_simp) (fun v w' => v = .bool true ∧ Below v0.heap.size v0 w') ((CB v0 E0).mono (by
          rintro e w' ⟨rfl, C⟩
          exact ⟨_, rfl, rfl, C⟩)) ?_
        rintro v v1 ⟨rfl, C0⟩
        have E1 := E0.trans (C0.mono E0.size)
        have H1 := HS.out v1 E1
        refine ⟨H1, ?_⟩
        simp only [Act.put, List.setIfInBounds_toArray, List.set_cons_zero, List.set_cons_succ]
        refine hr_take_w 10 (some 31) (.bool false) rfl rfl (by kernel_rfl) (by kernel_rfl) (by kernel_rfl) rfl (fun W hW => by obtain ⟨h0, h1, h2, h3⟩ := hW; go_simp) H1 ?_
        simp only [Act.put, List.setIfInBounds_toArray, List.set_cons_zero, List.set_cons_succ]
        refine wpAnyH_done (by kernel_rfl) ?_ _
        refine NoPanic.normal ?_
        clear CB c1 c2 d1 d2
        go_wp2
        go_roundw
        case rel =>
          refine ⟨k + 1, by omega, by go_num, fun j hj hjk => ?_, hB.trans (E1.mono hB.size)⟩
          by_cases e : j = k
          · subst e
            have := HCC.out
            rw [HP.out.1, HP.out.2] at this
            exact this
          · exact HJ.out j hj (by omega)
        case measure => simp [intOf]; omega
      · rw [decide_eq_false hc] at CB
        have HR : Hid (kindCk (its.map IP.it) = 3) := by
          show _ = _
          rw [kindCk_rise HH.out, if_neg]
          intro hr
          have := (rises_at _).1 hr k (by simpa using hkl2)
          simp only [List.getElem_map] at this
          rw [← HP.out.1, ← HP.out.2] at this
          exact hc this
        clear hc
        go_wp2_with fail
        have HS : Hid (∀ V, Below wr.heap.size wr V → V.cell? ⟨b, off + k * 2, none⟩ = some (.slice p.k.ao p.k.n p.k.cap) ∧ V.cell? ⟨b, off + k * 2 + 1, none⟩ = some (.slice p.v.ao p.v.n p.v.cap) ∧ V.cell? ⟨b, off + (k + 1) * 2, none⟩ = some (.slice q.k.ao q.k.n q.k.cap) ∧ V.cell? ⟨b, off + (k + 1) * 2 + 1, none⟩ = some (.slice q.v.ao q.v.n q.v.cap)) := fun V hV => ⟨(hV.cell (World.block_lt_of_cell? _ _ c1)).trans c1, (hV.cell (World.block_lt_of_cell? _ _ c2)).trans c2, (hV.cell (World.block_lt_of_cell? _ _ d1)).trans d1, (hV.cell (World.block_lt_of_cell? _ _ d2)).trans d2⟩
        have E0 : Below wr.heap.size wr wr.drew := (Below.refl _ _).drew
        refine wp_region_noPanic ?_
        refine wp_region_held_drew (S := fun V => V.cell? ⟨b, off + k * 2, none⟩ = some (.slice p.k.ao p.k.n p.k.cap) ∧ V.cell? ⟨b, off + k * 2 + 1, none⟩ = some (.slice p.v.ao p.v.n p.v.cap) ∧ V.cell? ⟨b, off + (k + 1) * 2, none⟩ = some (.slice q.k.ao q.k.n q.k.cap) ∧ V.cell? ⟨b, off + (k + 1) * 2 + 1, none⟩ = some (.slice q.v.ao q.v.n q.v.cap)) (by kernel_rfl) (HS.out _ E0) (fun H0 => ?_)
        obtain ⟨v0, hv0⟩ : ∃ v, v = wr.drew := ⟨_, rfl⟩
        rw [← hv0] at H0 E0 ⊢
        clear hv0
        refine hr_take_w 0 (some 21) (.slice (some ⟨b, off, none⟩) n cap) rfl rfl (by kernel_rfl) (by kernel_rfl) (by kernel_rfl) rfl (fun W hW => by obtain ⟨h0, h1, h2, h3⟩ := hW; go_simp) H0 ?_
        simp only [Act.put, List.setIfInBounds_toArray, List.set_cons_zero, List.set_cons_succ]
        refine hr_take_w 1 (some 22) (.int .i64 k) rfl rfl (by kernel_rfl) (by kernel_rfl) (by kernel_rfl) rfl (fun W hW => by obtain ⟨h0, h1, h2, h3⟩ := hW; go_simp) H0 ?_
        simp only [Act.put, List.setIfInBounds_toArray, List.set_cons_zero, List.set_cons_succ]
        refine hr_take_w 2 (some 23) (.pointer (some ⟨b, off + k * 2, none⟩)) rfl rfl (by kernel_rfl) (by kernel_rfl) (by kernel_rfl) rfl (fun W hW => by obtain ⟨h0, h1, h2, h3⟩ := hW; go_simp) H0 ?_
        simp only [Act.put, List.setIfInBounds_toArray, List.set_cons_zero, List.set_cons_succ]
        refine hr_take_w 3 (some 24) (.agg #[.slice p.k.ao p.k.n p.k.cap, .slice p.v.ao p.v.n p.v.cap]) rfl rfl (by kernel_rfl) (by kernel_rfl) (by kernel_rfl) rfl (fun W hW => by obtain ⟨h0, h1, h2, h3⟩ := hW; go_simp) H0 ?_
        simp only [Act.put, List.setIfInBounds_toArray, List.set_cons_zero, List.set_cons_succ]
        refine hr_take_w 4 (some 25) (.slice (some ⟨b, off, none⟩) n cap) rfl rfl (by kernel_rfl) (by kernel_rfl) (by kernel_rfl) rfl (fun W hW => by obtain ⟨h0, h1, h2, h3⟩ := hW; go_simp) H0 ?_
        simp only [Act.put, List.setIfInBounds_toArray, List.set_cons_zero, List.set_cons_succ]
        refine hr_take_w 5 (some 26) (.int .i64 k) rfl rfl (by kernel_rfl) (by kernel_rfl) (by kernel_rfl) rfl (fun W hW => by obtain ⟨h0, h1, h2, h3⟩ := hW; go_simp) H0 ?_
        simp only [Act.put, List.setIfInBounds_toArray, List.set_cons_zero, List.set_cons_succ]
        refine hr_take_w 6 (some 27) (.int .i64 (k + 1)) rfl rfl (by kernel_rfl) (by kernel_rfl) (by kernel_rfl) rfl (fun W hW => by obtain ⟨h0, h1, h2, h3⟩ := hW; go_simp; exact HWR.out) H0 ?_
        simp only [Act.put, List.setIfInBounds_toArray, List.set_cons_zero, List.set_cons_succ]
        refine hr_take_w 7 (some 28) (.pointer (some ⟨b, off + (k + 1) * 2, none⟩)) rfl rfl (by kernel_rfl) (by kernel_rfl) (by kernel_rfl) rfl (fun W hW => by obtain ⟨h0, h1, h2, h3⟩ := hW; go_simp; intro hneg; omega) H0 ?_
        simp only [Act.put, List.setIfInBounds_toArray, List.set_cons_zero, List.set_cons_succ]
        refine hr_take_w 8 (some 29) (.agg #[.slice q.k.ao q.k.n q.k.cap, .slice q.v.ao q.v.n q.v.cap]) rfl rfl (by kernel_rfl) (by kernel_rfl) (by kernel_rfl) rfl (fun W hW => by obtain ⟨h0, h1, h2, h3⟩ := hW; go_simp) H0 ?_
        simp only [Act.put, List.setIfInBounds_toArray, List.set_cons_zero, List.set_cons_succ]
        refine hr_call_w 9 (some 30) 17 #[.agg #[.slice p.k.ao p.k.n p.k.cap, .slice p.v.ao p.v.n p.v.cap], .agg #[.slice q.k.ao q.k.n q.k.cap, .slice q.v.ao q.v.n q.v.cap]] rfl rfl (by kernel_rfl) rfl (by go_simp) (fun v w' => v = .bool false ∧ Below v0.heap.size v0 w') ((CB v0 E0).mono (by
          rintro e w' ⟨rfl, C⟩
          exact ⟨_, rfl, rfl, C⟩)) ?_
        rintro v v1 ⟨rfl, C0⟩
        have E1 := E0.trans (C0.mono E0.size)
        have H1 := HS.out v1 E1
        refine ⟨H1, ?_⟩
        simp only [Act.put, List.setIfInBounds_toArray, List.set_cons_zero, List.set_cons_succ]
        refine hr_take_w 10 (some 31) (.bool true) rfl rfl (by kernel_rfl) (by kernel_rfl) (by kernel_rfl) rfl (fun W hW => by obtain ⟨h0, h1, h2, h3⟩ := hW; go_simp) H1 ?_
        simp only [Act.put, List.setIfInBounds_toArray, List.set_cons_zero, List.set_cons_succ]
        refine wpAnyH_done (by kernel_rfl) ?_ _
        refine NoPanic.normal ?_
        clear CB c1 c2 d1 d2
        go_wp2
        go_ret
        rw [HR.out]
        exact ⟨rfl, hB.trans (E1.mono hB.size)⟩
    · have hge : ¬ (k : Int) < (n : Int) - 1 := by omega
      have HR : Hid (kindCk (its.map IP.it) = 0) := by
        show _ = _
        rw [kindCk_rise HH.out, if_pos]
        refine (rises_at _).2 fun j hj => ?_
        simp only [List.length_map] at hj
        simp only [List.getElem_map]
        exact HJ.out j hj (by omega)
      go_wp2
      go_ret
      rw [HR.out]
      exact ⟨rfl, hB⟩
end Go.Proofs.YtkmkmekhodcioaaGreatDoor

namespace Go.Proofs.YtkmkmekhodcioaaGreatDoor
open Go.RowKit

def or2 (a b : Int) : Int := if a = 0 then b else a
set_option maxRecDepth 100000 in
set_option maxHeartbeats 2000000 in
theorem por2_any (w : World) (g : Nat) (c0 c1 : Int) (hg : w.heap[g]? = some (.cells #[.int .i64 c0, .int .i64 c1] 27)) :
    Calls Tryz.prog 43 #[.slice (some ⟨g, 0, none⟩) 2 2] w fun e w' => e = .returned (.int .i64 (or2 c0 c1)) ∧ w' = w := by
  have q0 : w.cell? ⟨g, 0, none⟩ = some (.int .i64 c0) := cell_of_row w g 0 _ _ _ hg
  have q1 : w.cell? ⟨g, 1, none⟩ = some (.int .i64 c1) := cell_of_row w g 1 _ _ _ hg
  clear hg
  go_enter Tryz.func43, Tryz.ntmps43
  go_wp2_with fail
  go_loopw [5, 8] (fun _ i wr => wr = w ∧ ∃ j : Nat, i = .int .i64 j ∧ j ≤ 2 ∧ (0 < j → c0 = 0) ∧ (1 < j → c1 = 0)) (fun _ i _ => 2 - (intOf i).toNat)
  case atStart => exact ⟨rfl, 0, rfl, by omega, by omega, by omega⟩
  case round =>
    obtain ⟨rfl, j, rfl, hj, h1, h2⟩ := hrel
    obtain rfl | rfl | rfl : j = 0 ∨ j = 1 ∨ j = 2 := by omega
    · by_cases z : c0 = 0
      · subst z
        clear h1 h2
        go_wp2
        go_roundw
        case rel => exact ⟨trivial, 1, rfl, by omega, fun _ => trivial, by omega⟩
        case measure => simp [intOf]
      · have zb : (c0 != 0) = true := by simp [z]
        have zc : (c0 == 0) = false := by simp [z]
        have hv : Hid (or2 c0 c1 = c0) := if_neg z
        clear h1 h2 z
        go_wp2
        go_ret
        exact ⟨by rw [hv.out] <;> rfl, rfl⟩
    · obtain rfl := h1 (by omega)
      by_cases z : c1 = 0
      · subst z
        clear h1 h2
        go_wp2
        go_roundw
        case rel => exact ⟨trivial, 2, rfl, by omega, fun _ => trivial, fun _ => trivial⟩
        case measure => simp [intOf]
      · have zb : (c1 != 0) = true := by simp [z]
        have zc : (c1 == 0) = false := by simp [z]
        have hv : Hid (or2 0 c1 = c1) := if_pos rfl
        clear h1 h2 z
        go_wp2
        go_ret
        exact ⟨by rw [hv.out] <;> rfl, rfl⟩
    · obtain rfl := h1 (by omega)
      obtain rfl := h2 (by omega)
      clear h1 h2
      go_wp2
      go_ret
      exact ⟨rfl, rfl⟩
end Go.Proofs.YtkmkmekhodcioaaGreatDoor

namespace Go.Proofs.YtkmkmekhodcioaaGreatDoor
open Go.RowKit

/-- What Read answers of some bytes. -/
structure CkPost (w : World) (t : Sum Int (List It)) (e : Ending) (w' : World) : Prop where
  bad : ∀ k, t = .inl k → e = .returned (.tuple #[.slice none 0 0, .int .i64 k]) ∧ k ≠ 0
  good : ∀ l, t = .inr l → ∃ ao n cap ps, e = .returned (.tuple #[.slice ao n cap, .int .i64 0]) ∧ IL w' ao n cap ps ∧ ps.map IP.it = l ∧ ∀ q ∈ ps, ∀ x, q.blk x → w.heap.size ≤ x
  bel : Below w.heap.size w w'

theorem itT_eq (xs : List Int) (k : Int) : itT xs k = (⟨(bytesS xs k 256).1, (bytesS (bytesS xs k 256).2.1 (bytesS xs k 256).2.2 1024).1⟩, (bytesS (bytesS xs k 256).2.1 (bytesS xs k 256).2.2 1024).2) := rfl
theorem rdT_or {α : Type} (f : Th α) (kind : α → Int) (xs : List Int) {v : α} {r : List Int} {q : Int} (hf : f xs 0 = (v, r, q)) : rdT f kind xs = if or2 (doneS r q) (kind v) = 0 then .inr v else .inl (or2 (doneS r q) (kind v)) := by
  unfold rdT or2
  rw [hf]
  simp only
  by_cases h : doneS r q = 0
  · rw [if_pos h, if_pos h]
  · rw [if_neg h, if_neg h, if_neg h]

set_option maxHeartbeats 8000000 in
set_option maxRecDepth 100000 in
theorem ckread_any (w : World) (ao : Option Addr) (n cap : Nat) (xs : List Int) (h : Sl w ao n cap xs) (hn : n ≤ 1000000) :
    Calls Tryz.prog 18 #[.slice ao n cap] w (CkPost w (rdCk xs)) := by
  have HRD : Hid (rdCk xs = rdT chT kindCk xs) := rdCk_T xs
  go_enter Tryz.func18, Tryz.ntmps18
  go_wp2_with fail
  refine (read_any w ao n cap xs h (by omega)).mono ?_
  rintro e w1 ⟨p, rfl, hp, R1, B1⟩
  clear h
  go_wp2_with fail
  refine (int_any w1 p p xs 0 64 (by decide) R1.byte R1).mono ?_
  rintro e w2 ⟨rfl, R2, G2⟩
  obtain ⟨r, hr⟩ : ∃ r, r = intS xs 0 64 := ⟨_, rfl⟩
  have ER : Hid (r = intS xs 0 64) := hr
  have Z2 : r.1 ≤ 64 := by rw [hr]; exact intS_le _ _ 64
  rw [← hr] at R2 ⊢
  have hpl : p < w1.heap.size := by obtain ⟨_, _, _, hR⟩ := R1; exact hR.plt
  have B2 : Below w.heap.size w w2 := B1.trans (below_grown G2 B1.size hp)
  have hpl2 : p < w2.heap.size := by have := G2.size; omega
  obtain ⟨M, hM⟩ : ∃ M, M = w2.heap.size := ⟨_, rfl⟩
  have inv0 : CkInv w w.heap.size p M (fun m => repT itT m r.2.1 r.2.2) w2 (.slice none 0 0) [] := ⟨R2, ⟨rfl, .inl ⟨rfl, rfl⟩⟩, fun _ h => by simp at h, fun _ h => by simp at h, fun _ h => by simp at h, rfl, B2, hp, by omega, by omega⟩
  clear hr R1 R2 B1 B2 G2 hpl hpl2 hM
  go_wp2_with fail
  go_loopw [5, 11] (fun v i wr => ∃ ps : List IP, i = .int .i64 (ps.length : Nat) ∧ ps.length ≤ r.1 ∧ CkInv w w.heap.size p M (fun m => repT itT m r.2.1 r.2.2) wr v ps) (fun _ i _ => r.1 - (intOf i).toNat)
  case atStart => exact ⟨[], rfl, Nat.zero_le _, inv0⟩
  case round =>
    clear inv0
    obtain ⟨ps, rfl, hle, inv⟩ := hrel
    obtain ⟨ao1, cap1, rfl, hIL⟩ := inv.row
    obtain ⟨k, hk⟩ : ∃ k, k = ps.length := ⟨_, rfl⟩
    have HK : Hid (k = ps.length) := hk
    by_cases hlt : ps.length < r.1
    · rw [← hk] at hlt ⊢
      have hki : (k : Int) < (r.1 : Int) := by omega
      clear hIL
      obtain ⟨T, hT⟩ : ∃ T, T = repT itT ps.length r.2.1 r.2.2 := ⟨_, rfl⟩
      have R0 : R wr p p T.2.1 T.2.2 := by rw [hT]; exact inv.rd
      have HI : Hid (CkInv w w.heap.size p M (fun m => repT itT m r.2.1 r.2.2) wr (.slice ao1 ps.length cap1) ps) := inv
      have HT : Hid (T = repT itT ps.length r.2.1 r.2.2) := hT
      clear inv hT hk
      go_wp2_with fail
      refine (bytes_any wr p p T.2.1 T.2.2 256 (by decide) R0).mono ?_
      rintro e w3 ⟨k0, kn, kc, rfl, S3, L3, R3, G3⟩
      obtain ⟨t1, ht1⟩ : ∃ t, t = bytesS T.2.1 T.2.2 256 := ⟨_, rfl⟩
      have HT1 : Hid (t1 = bytesS T.2.1 T.2.2 256) := ht1
      rw [← ht1] at S3 R3
      clear R0 ht1
      go_wp2_with fail
      refine (bytes_any w3 p p t1.2.1 t1.2.2 1024 (by decide) R3).mono ?_
      rintro e w4 ⟨v0, vn, vc, rfl, S4, L4, R4, G4⟩
      obtain ⟨t2, ht2⟩ : ∃ t, t = bytesS t1.2.1 t1.2.2 1024 := ⟨_, rfl⟩
      have HT2 : Hid (t2 = bytesS t1.2.1 t1.2.2 1024) := ht2
      rw [← ht2] at S4 R4
      have hpl : p < wr.heap.size := by
        have := HI.out.pos
        omega
      have far3 : ∀ a, k0 = some a → 0 < kn → a.block ≠ p := fun a ha _ => by have := L3 a ha; omega
      have S5 : Sl w4 k0 kn kc t1.1 := S3.keepNe far3 G4
      obtain ⟨q, hq⟩ : ∃ q : IP, q = ⟨⟨k0, kn, kc, t1.1⟩, ⟨v0, vn, vc, t2.1⟩⟩ := ⟨_, rfl⟩
      have hqo : q.ok w4 := by rw [hq]; exact ⟨S5, S4⟩
      have hfar : ∀ x, q.blk x → x ≠ p ∧ (Value.slice ao1 ps.length cap1).ownBlock ≠ some x := by
        intro x hx
        have hge : wr.heap.size ≤ x := by
          rw [hq] at hx
          rcases hx with ⟨a, ha, _, rfl⟩ | ⟨a, ha, _, rfl⟩
          · exact L3 a ha
          · have := L4 a ha
            have := G3.size
            omega
        refine ⟨by omega, fun e => ?_⟩
        have := (HI.out.own.lt x e).2
        omega
      have hnew : ∀ x, q.blk x → w.heap.size ≤ x := by
        intro x hx
        have h1 := HI.out.bel.size
        rw [hq] at hx
        rcases hx with ⟨a, ha, _, rfl⟩ | ⟨a, ha, _, rfl⟩
        · have := L3 a ha
          omega
        · have := L4 a ha
          have := G3.size
          omega
      have hit : q.it = (itT T.2.1 T.2.2).1 := by
        rw [itT_eq, ← HT1.out, ← HT2.out, hq]
        rfl
      have hsn := repT_snoc itT ps.length r.2.1 r.2.2
      rw [← HT.out, ← hit] at hsn
      have hrest : (itT T.2.1 T.2.2).2 = t2.2 := by rw [itT_eq, ← HT1.out, ← HT2.out]
      rw [hrest] at hsn
      have hfin : ∀ ty c, ∃ v' V4, (Builtin.append_ #[30, 30] ty #[.slice ao1 ps.length cap1, .slice (some ⟨w4.heap.size, 0, none⟩) 1 c]).run Tryz.prog (w4.alloc (.cells #[q.k.val, q.v.val] 43)) = .ok v' V4 ∧ CkInv w w.heap.size p M (fun m => repT itT m r.2.1 r.2.2) V4 v' (ps ++ [q]) := fun ty c =>
        HI.out.step (grown_trans G3 G4) hqo hfar hnew (by simp only [hsn, ← HT.out]) (by simp only [hsn]; exact R4) (by have := HK.out; omega) rfl ty c
      have hql : (Value.slice k0 kn kc = q.k.val) ∧ (Value.slice v0 vn vc = q.v.val) := by rw [hq]; exact ⟨rfl, rfl⟩
      clear S3 S4 S5 L3 L4 R3 R4 G3 G4 far3 hqo hfar hnew hit hsn hrest ht2 hq
      obtain ⟨v', V4, hrun, inv4⟩ := hfin 30 1
      rw [← hql.1, ← hql.2] at hrun
      rw [← HK.out] at hrun
      have HF : Hid (CkInv w w.heap.size p M (fun m => repT itT m r.2.1 r.2.2) V4 v' (ps ++ [q])) := inv4
      have HRUN : Hid ((Builtin.append_ #[30, 30] 30 #[.slice ao1 k cap1, .slice (some ⟨w4.heap.size, 0, none⟩) 1 1]).run Tryz.prog (w4.alloc (.cells #[.slice k0 kn kc, .slice v0 vn vc] 43)) = .ok v' V4) := hrun
      clear hfin hql inv4 hrun
      go_wp2_with (at_builtin; refine wpList_appR rfl _ _ _ _ rfl _ _ _ rfl rfl HRUN.out ?_)
      go_roundw
      case rel => exact ⟨ps ++ [q], by rw [List.length_append, ← HK.out]; go_num, by rw [List.length_append]; have := HK.out; simp only [List.length_cons, List.length_nil]; omega, HF.out⟩
      case measure => simp [intOf]; omega
    · have hge : ¬ (k : Int) < (r.1 : Int) := by omega
      have hke : ps.length = r.1 := by omega
      rw [← hk] at ⊢
      obtain ⟨T, hT⟩ : ∃ T, T = repT itT ps.length r.2.1 r.2.2 := ⟨_, rfl⟩
      have R0 : R wr p p T.2.1 T.2.2 := by rw [hT]; exact inv.rd
      have HL : Hid (ps.map IP.it = T.1) := by show _ = _; rw [hT]; exact inv.thr
      have hB := inv.bel
      have HNEW : Hid (∀ q ∈ ps, ∀ x, q.blk x → w.heap.size ≤ x) := inv.new
      have HOR : Hid (rdCk xs = if or2 (doneS T.2.1 T.2.2) (kindCk (ps.map IP.it)) = 0 then .inr (ps.map IP.it) else .inl (or2 (doneS T.2.1 T.2.2) (kindCk (ps.map IP.it)))) := by
        show _ = _
        rw [HRD.out, HL.out]
        refine rdT_or chT kindCk xs (v := T.1) (r := T.2.1) (q := T.2.2) ?_
        show ((repT itT (intS xs 0 64).1 (intS xs 0 64).2.1 (intS xs 0 64).2.2).1, (repT itT (intS xs 0 64).1 (intS xs 0 64).2.1 (intS xs 0 64).2.2).2) = _
        rw [← ER.out, ← hke, ← hT]
      have CJ : ∀ W, Below wr.heap.size wr W → Calls Tryz.prog 45 #[.slice ao1 ps.length cap1] W fun e w' => e = .returned (.int .i64 (kindCk (ps.map IP.it))) ∧ Below W.heap.size W w' := fun W hW => ckjudge_any W _ _ _ _ (hIL.below hW) (by omega)
      rw [← hk] at CJ
      obtain ⟨d, hd⟩ : ∃ d, d = doneS T.2.1 T.2.2 := ⟨_, rfl⟩
      obtain ⟨j, hj⟩ : ∃ j, j = kindCk (ps.map IP.it) := ⟨_, rfl⟩
      have CD := done_any wr p p T.2.1 T.2.2 R0
      have HIL : Hid (IL wr ao1 k cap1 ps) := by show _; rw [hk]; exact hIL
      rw [← hd, ← hj] at HOR
      rw [← hd] at CD
      rw [← hj] at CJ
      clear inv hT hd hj R0 hIL hk hke
      go_wp2_with fail
      refine CD.mono ?_
      rintro e w3 ⟨rfl, hw⟩
      obtain rfl := hw.symm
      clear CD
      go_wp2_with fail
      refine (CJ _ (Below.refl _ _)).mono ?_
      rintro e w4 ⟨rfl, B4⟩
      clear CJ
      obtain ⟨w5, h5⟩ : ∃ W, W = w4.alloc (.cells #[.int .i64 d, .int .i64 j] 27) := ⟨_, rfl⟩
      have B5 : Below w4.heap.size w4 w5 := by rw [h5]; exact (Below.refl _ _).alloc (Nat.le_refl _) _
      have CO := por2_any w5 w4.heap.size d j (by rw [h5]; exact heap_alloc_new w4 _)
      have B6 : Below w.heap.size w w5 := (hB.trans (B4.mono hB.size)).trans (B5.mono (hB.trans (B4.mono hB.size)).size)
      have HI5 : Hid (IL w5 ao1 k cap1 ps) := (HIL.out.below B4).below B5
      clear HIL hB B4 B5
      go_wp2_with fail
      rw [← h5]
      clear h5
      refine CO.mono ?_
      rintro e w6 ⟨rfl, hw⟩
      obtain rfl := hw.symm
      clear CO
      obtain ⟨z, hz⟩ : ∃ z, z = or2 d j := ⟨_, rfl⟩
      rw [← hz] at HOR ⊢
      clear hz
      by_cases hz : z = 0
      · subst hz
        have HOK : Hid (rdCk xs = .inr (ps.map IP.it)) := by show _ = _; rw [HOR.out, if_pos rfl]
        clear HOR
        go_wp2
        go_ret2
        refine ⟨fun q hq => ?_, fun l hl => ?_, B6⟩
        · rw [HOK.out] at hq
          cases hq
        · rw [HOK.out] at hl
          obtain rfl := Sum.inr.inj hl
          exact ⟨_, _, _, ps, rfl, HI5.out, rfl, HNEW.out⟩
      · have hzb : (z != 0) = true := by simp [hz]
        have HOK : Hid (rdCk xs = .inl z ∧ z ≠ 0) := ⟨by rw [HOR.out, if_neg hz], hz⟩
        clear hz HOR
        go_wp2
        go_ret2
        refine ⟨fun q hq => ?_, fun l hl => ?_, B6⟩
        · rw [HOK.out.1] at hq
          obtain rfl := Sum.inl.inj hq
          exact ⟨rfl, HOK.out.2⟩
        · rw [HOK.out.1] at hl
          cases hl
end Go.Proofs.YtkmkmekhodcioaaGreatDoor

/-
  Plain facts: the program's reader and the reference's tell the same, and stay alike.
-/
import Derived.Test.YtimnjkhfjkcfbaaRefMore
namespace Go.Proofs.Ytimnjkhfjkcfbaa
open Go.RowKit

theorem uint_same {xs ys : List Int} {k : Int} (h : k = 0 → xs = ys) : (uintT ys k).1 = (uintS xs k).1 ∧ (uintT ys k).2.2 = (uintS xs k).2.2 ∧ ((uintS xs k).2.2 = 0 → (uintS xs k).2.1 = (uintT ys k).2.1) := by
  unfold uintS uintT
  by_cases hk : k = 0
  · obtain rfl := h hk
    rw [if_pos hk, if_pos hk]
    by_cases hq : (tk 0 0 xs).2.2 = 0
    · rw [if_pos hq, if_pos hq]; exact ⟨rfl, rfl, fun _ => rfl⟩
    · rw [if_neg hq, if_neg hq]; exact ⟨rfl, rfl, fun h => by simp at h; omega⟩
  · rw [if_neg hk, if_neg hk]; exact ⟨rfl, rfl, fun h => absurd h hk⟩

theorem int_same {xs ys : List Int} {k : Int} (h : k = 0 → xs = ys) (most : Int) : (intT ys k most).1 = (intS xs k most).1 ∧ (intT ys k most).2.2 = (intS xs k most).2.2 ∧ ((intS xs k most).2.2 = 0 → (intS xs k most).2.1 = (intT ys k most).2.1) := by
  obtain ⟨h1, h2, h3⟩ := uint_same h
  unfold intS intT
  rw [h1, h2]
  by_cases hq : (uintS xs k).2.2 = 0
  · rw [if_pos hq, if_pos hq]
    by_cases hb : most < 0 ∨ most < ((uintS xs k).1 : Int)
    · rw [if_pos hb, if_pos hb]; exact ⟨rfl, rfl, fun h => by simp at h⟩
    · rw [if_neg hb, if_neg hb]; exact ⟨h1, h2, h3⟩
  · rw [if_neg hq, if_neg hq]; exact ⟨rfl, h2, h3⟩

theorem bytes_same {xs ys : List Int} {k : Int} (h : k = 0 → xs = ys) (most : Int) : (bytesT ys k most).1 = (bytesS xs k most).1 ∧ (bytesT ys k most).2.2 = (bytesS xs k most).2.2 ∧ ((bytesS xs k most).2.2 = 0 → (bytesS xs k most).2.1 = (bytesT ys k most).2.1) := by
  obtain ⟨h1, h2, h3⟩ := int_same h most
  unfold bytesS bytesT
  rw [h1, h2]
  by_cases hq : (intS xs k most).2.2 = 0
  · rw [if_pos hq, if_pos hq, ← h3 hq]
    by_cases hb : (intS xs k most).2.1.length < (intS xs k most).1
    · rw [if_pos hb, if_pos hb]; exact ⟨rfl, rfl, fun h => by simp at h⟩
    · rw [if_neg hb, if_neg hb]; exact ⟨rfl, rfl, fun _ => rfl⟩
  · rw [if_neg hq, if_neg hq]; exact ⟨rfl, h2, h3⟩

theorem bool_same {xs ys : List Int} {k : Int} (h : k = 0 → xs = ys) : (boolT ys k).1 = (boolS xs k).1 ∧ (boolT ys k).2.2 = (boolS xs k).2.2 ∧ ((boolS xs k).2.2 = 0 → (boolS xs k).2.1 = (boolT ys k).2.1) := by
  by_cases hk : k = 0
  · obtain rfl := h hk
    subst hk
    cases xs with
    | nil => exact ⟨rfl, rfl, fun h => by simp [boolS] at h⟩
    | cons c r =>
      by_cases hc : 1 < c
      · simp [boolS, boolT, hc]
      · simp [boolS, boolT, hc]
  · simp [boolS, boolT, hk]

theorem left_same {xs ys : List Int} {k : Int} (h : k = 0 → xs = ys) : (if k = 0 then (ys.length : Int) else 0) = (if k = 0 then (xs.length : Int) else 0) := by
  by_cases hk : k = 0
  · rw [h hk]
  · rw [if_neg hk, if_neg hk]
theorem done_same {xs ys : List Int} {k : Int} (h : k = 0 → xs = ys) : doneS ys k = doneS xs k := by
  by_cases hk : k = 0
  · rw [h hk]
  · simp [doneS, hk]

/-- Both readers, in one world. -/
structure Two (w wr : World) (p q : Nat) (xs ys : List Int) (k : Int) : Prop where
  r : R wr p p xs k
  m : R wr q w.heap.size ys k
  same : k = 0 → xs = ys
  pq : p < q
  lp : w.heap.size ≤ p
  bel : Below w.heap.size w wr

theorem Two.stepR {w wr w2 : World} {p q : Nat} {xs ys : List Int} {k : Int} (h : Two w wr p q xs ys k) (hg : wr.grownBy w2 (some p)) : R w2 q w.heap.size ys k ∧ Below w.heap.size w w2 :=
  ⟨h.m.keep (by have := h.pq; omega) h.lp hg, h.bel.trans (below_grown hg h.bel.size h.lp)⟩
theorem Two.stepM {w wr w3 : World} {p q : Nat} {xs : List Int} {k : Int} (hr : R wr p p xs k) (hpq : p < q) (hlp : w.heap.size ≤ p) (hb : Below w.heap.size w wr) (hg : wr.grownBy w3 (some q)) : R w3 p p xs k ∧ Below w.heap.size w w3 :=
  ⟨hr.keep (by omega) (by omega) hg, hb.trans (below_grown hg hb.size (by omega))⟩

theorem R.ofHeap {w w' : World} {p L : Nat} {xs : List Int} {k : Int} (h : R w p L xs k) (e : w'.heap = w.heap) : R w' p L xs k := by
  obtain ⟨ao, n, cap, hr⟩ := h
  have hc : ∀ a, w'.cell? a = w.cell? a := fun a => World.cell?_of_block (by rw [e])
  have hf : ∀ a, w'.frozen? a = w.frozen? a := fun a => World.frozen?_of_block (by rw [e])
  exact ⟨ao, n, cap, (hc _).trans hr.c0, (hc _).trans hr.c1, (hf _).trans hr.f0, (hf _).trans hr.f1, ⟨hr.sl.len, hr.sl.le, hr.sl.mx, hr.sl.nil, fun a ha i hi => (hc _).trans (hr.sl.cell a ha i hi), hr.sl.byte⟩, hr.low, hr.le, hr.sm⟩
theorem Sl.ofHeap {w w' : World} {ao : Option Addr} {n cap : Nat} {xs : List Int} (h : Sl w ao n cap xs) (e : w'.heap = w.heap) : Sl w' ao n cap xs := by
  have hc : ∀ a, w'.cell? a = w.cell? a := fun a => World.cell?_of_block (by rw [e])
  exact ⟨h.len, h.le, h.mx, h.nil, fun a ha i hi => (hc _).trans (h.cell a ha i hi), h.byte⟩
theorem R.plt {w : World} {p L : Nat} {xs : List Int} {k : Int} (h : R w p L xs k) : p < w.heap.size := by
  obtain ⟨_, _, _, hr⟩ := h
  exact hr.plt
theorem grown_of {a a' b : World} {r : Option Nat} (h : a'.grownBy b r) (e1 : a'.os = a.os) (e2 : a'.tape = a.tape) (e3 : a'.output = a.output) (e4 : a'.heap = a.heap) : a.grownBy b r :=
  ⟨h.os.trans e1, h.tape.trans e2, h.output.trans e3, by rw [← e4]; exact h.size, fun k hk hne => by rw [← e4]; exact h.block k (by rw [e4]; exact hk) hne⟩

/-- What was asked: kinds and bounds. -/
structure Asks (w : World) (lo : Option Addr) (m lcap : Nat) (K M : Nat → Int) : Prop where
  nil : lo = none → m = 0
  cell : ∀ a, lo = some a → ∀ i, i < m → w.cell? (a.add (i * 2)) = some (.int .i64 (K i)) ∧ w.cell? (a.add (i * 2 + 1)) = some (.int .i64 (M i))
  bound : ∀ i, i < m → -9223372036854775808 ≤ M i ∧ M i ≤ 9223372036854775807
  mx : m ≤ 9223372036854775807
theorem Asks.at {w : World} {lo : Option Addr} {m lcap : Nat} {K M : Nat → Int} (h : Asks w lo m lcap K M) (hm : 0 < m) : ∃ b off, lo = some ⟨b, off, none⟩ ∧ b < w.heap.size ∧
    ∀ i, i < m → w.cell? ⟨b, off + i * 2, none⟩ = some (.int .i64 (K i)) ∧ w.cell? ⟨b, off + (i * 2 + 1), none⟩ = some (.int .i64 (M i)) := by
  cases lo with
  | none => have := h.nil rfl; omega
  | some a =>
    obtain ⟨b, off, spot⟩ := a
    have hc := (h.cell _ rfl 0 hm).1
    have hs : spot = none := by simpa [Addr.add] using World.cell?_spot hc
    subst hs
    refine ⟨b, off, rfl, by simpa [Addr.add] using World.block_lt_of_cell? w _ hc, fun i hi => ?_⟩
    have := h.cell _ rfl i hi
    rw [Addr.add_lit, Addr.add_lit] at this
    exact this
end Go.Proofs.Ytimnjkhfjkcfbaa

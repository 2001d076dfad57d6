/-
  Small texts in one.
-/
import Derived.Test.YtbfcilfdeemnpaaMA
import Derived.Deep.QuietTactic
import Derived.BigQuiet
namespace Go.Proofs.Ytbfcilfdeemnpaa
open Go.RowKit

theorem below_drewN (w : World) (q B : Nat) : Below B w (w.drewN q) := ⟨rfl, rfl, rfl, Nat.le_refl _, fun _ _ => rfl⟩

theorem lists_of (n : Nat) (xs ys : List Int) (h1 : xs.length = n) (h2 : ys.length = n) (h : ∀ j, j < n → xs.getD j 0 = ys.getD j 0) : xs = ys := by
  apply List.ext_getElem (by omega)
  intro j hj hj2
  have := h j (by omega)
  simpa [List.getD, hj, hj2] using this

/-- Where an element is read the slice has an address without a spot. -/
theorem Sl.at {w : World} {ao : Option Addr} {n cap : Nat} {xs : List Int} (h : Sl w ao n cap xs) (hn : 0 < n) :
    ∃ b off, ao = some ⟨b, off, none⟩ ∧ ∀ i, i < n → w.cell? ⟨b, off + i, none⟩ = some (.int .u8 (xs.getD i 0)) := by
  cases ao with
  | none => have := (h.nil rfl).1; omega
  | some a =>
    obtain ⟨b, off, spot⟩ := a
    have hc := h.cell _ rfl 0 hn
    have hs : spot = none := by simpa [Addr.add] using World.cell?_spot hc
    subst hs
    exact ⟨b, off, rfl, fun i hi => by have := h.cell _ rfl i hi; rw [Addr.add_lit] at this; exact this⟩

set_option maxHeartbeats 800000 in
theorem same_any (w : World) (ao bo : Option Addr) (n cap m cap2 : Nat) (xs ys : List Int) (h : Sl w ao n cap xs) (h2 : Sl w bo m cap2 ys) :
    Calls Try.prog 15 #[.slice ao n cap, .slice bo m cap2] w fun e w' =>
      e = .returned (.bool (decide (xs = ys))) ∧ ∃ q, w' = w.drewN q := by
  have hl := h.len
  have hl2 := h2.len
  have hle := h.le
  have hmx := h.mx
  unfold maxLen at hmx
  by_cases hnm : n = m
  · subst hnm
    have hne : ((n : Int) != (n : Int)) = false := by simp
    go_enter Try.func15, Try.ntmps15
    go_wp2
    go_loopw [5] (fun i wr => ∃ k q : Nat, k ≤ n ∧ i = .int .i64 k ∧ wr = w.drewN q ∧ ∀ j, j < k → xs.getD j 0 = ys.getD j 0) (fun i _ => n - (intOf i).toNat)
    case atStart => exact ⟨0, 0, Nat.zero_le _, rfl, rfl, fun j hj => by omega⟩
    case round =>
      obtain ⟨k, q, hk, rfl, rfl, heq⟩ := hrel
      by_cases hlt : k < n
      · obtain ⟨b, off, rfl, hc⟩ := h.at (by omega)
        obtain ⟨b2, off2, rfl, hc2⟩ := h2.at (by omega)
        have c1 := hc k hlt
        have c2 := hc2 k hlt
        have hlt1 : (k : Int) < (n : Int) := by omega
        clear hc hc2
        have k1 : k < xs.length := by omega
        have k2 : k < ys.length := by omega
        by_cases he : xs[k] = ys[k]
        · have hb : (xs[k] != ys[k]) = false := by simp [he]
          have hE : Hid (xs[k] = ys[k]) := he
          clear he
          go_wp2
          go_quiet (fail)
          go_wp2
          go_roundw
          case rel =>
            refine ⟨k + 1, _, by omega, by go_num, rfl, fun j hj => ?_⟩
            by_cases hjk : j < k
            · exact heq j hjk
            · obtain rfl : j = k := by omega
              simpa [List.getD, k1, k2] using hE.out
          case measure => simp [intOf]; omega
        · have hb : (xs[k] != ys[k]) = true := by simp [he]
          have hE : Hid (¬ xs[k] = ys[k]) := he
          clear he
          go_wp2
          go_quiet (fail)
          go_wp2
          go_ret
          have hd : decide (xs = ys) = false := decide_eq_false (fun hx => by subst hx; exact hE.out rfl)
          rw [hd, World.drewN_drewN]
          exact ⟨rfl, _, rfl⟩
      · obtain rfl : k = n := by omega
        go_wp2
        go_ret
        have hd : decide (xs = ys) = true := decide_eq_true (lists_of k xs ys hl hl2 heq)
        rw [hd]
        exact ⟨rfl, _, rfl⟩
  · have hne : ((n : Int) != (m : Int)) = true := by simp; omega
    go_enter Try.func15, Try.ntmps15
    go_wp2
    go_ret
    have hd : decide (xs = ys) = false := decide_eq_false (fun hx => by subst hx; omega)
    rw [hd]
    exact ⟨rfl, 0, rfl⟩
end Go.Proofs.Ytbfcilfdeemnpaa

namespace Go.Proofs.Ytbfcilfdeemnpaa
open Go.RowKit

theorem pow128 (i : Nat) : (128 : Nat) ^ i = 2 ^ (7 * i) := by rw [Nat.pow_mul]

/-- A group, moved to its place, and what the groups ahead of it told: the sum of the two. -/
theorem orShl (acc i : Nat) (c : Int) (hacc : acc < 128 ^ i) (hc : 0 ≤ c) (hi : i ≤ 9) (h9 : i = 9 → c ≤ 1) :
    bits BinOp.or IntKind.u64 (acc : Int) (IntKind.u64.wrap (c % 128 * 2 ^ (7 * i))) = ((acc + (c % 128).toNat * 128 ^ i : Nat) : Int) ∧ acc + (c % 128).toNat * 128 ^ i < 18446744073709551616 := by
  obtain ⟨x, hx⟩ : ∃ x : Nat, c % 128 = x := ⟨(c % 128).toNat, by omega⟩
  rw [hx]
  have hx1 : x < 128 := by omega
  have hx9 : i = 9 → x ≤ 1 := fun h => by have := h9 h; omega
  rw [pow128] at hacc ⊢
  have hpow : (2 : Nat) ^ (7 * i) ≤ 2 ^ 63 := Nat.pow_le_pow_right (by decide) (by omega)
  have hb : x * 2 ^ (7 * i) ≤ 18446744073709551615 - 2 ^ (7 * i) + 1 := by
    by_cases h : i = 9
    · subst h
      have := hx9 rfl
      have : x = 0 ∨ x = 1 := by omega
      rcases this with rfl | rfl <;> decide
    · have h56 : (2 : Nat) ^ (7 * i) ≤ 2 ^ 56 := Nat.pow_le_pow_right (by decide) (by omega)
      have : x * 2 ^ (7 * i) ≤ 127 * 2 ^ 56 := Nat.mul_le_mul (by omega) h56
      have : (2 : Nat) ^ 56 = 72057594037927936 := by decide
      omega
  have hp63 : (2 : Nat) ^ 63 = 9223372036854775808 := by decide
  have e1 : ((x : Nat) : Int) * 2 ^ (7 * i) = ((x * 2 ^ (7 * i) : Nat) : Int) := by
    rw [Int.natCast_mul, Int.natCast_pow]
    rfl
  rw [e1, IntKind.wrap_u64]
  rw [Int.toNat_natCast]
  generalize hA : 2 ^ (7 * i) = A at *
  have e2 : ((x * A : Nat) : Int) % 18446744073709551616 = ((x * A : Nat) : Int) := by omega
  rw [e2, bits_or_u64_nat acc (x * A) (by omega) (by omega)]
  have e3 : acc ||| x * A = acc + x * A := by
    subst hA
    rw [Nat.or_comm, Nat.mul_comm, ← Nat.two_pow_add_eq_or_of_lt hacc x, Nat.add_comm]
  rw [e3]
  exact ⟨rfl, by omega⟩

theorem tk_cons (i acc : Nat) (c : Int) (r : List Int) : tk i acc (c :: r) = if i = 9 ∧ 1 < c then (0, 0, 3) else if c = 0 ∧ 0 < i then (0, 0, 3) else if 128 ≤ c then tk (i + 1) (acc + (c % 128).toNat * 128 ^ i) r else (acc + (c % 128).toNat * 128 ^ i, i + 1, 0) := rfl

set_option maxHeartbeats 800000 in
set_option maxRecDepth 100000 in
theorem takeNumber_any (w : World) (ao : Option Addr) (n cap : Nat) (xs : List Int) (h : Sl w ao n cap xs) :
    Calls Try.prog 69 #[.slice ao n cap] w fun e w' =>
      e = .returned (.tuple #[.int .u64 ((tk 0 0 xs).1 : Nat), .int .i64 ((tk 0 0 xs).2.1 : Nat), .int .i64 ((tk 0 0 xs).2.2 : Nat)]) ∧ w' = w := by
  have hl := h.len
  have hle := h.le
  have hmx := h.mx
  unfold maxLen at hmx
  go_enter Try.func69, Try.ntmps69
  go_wp2
  refine wp_scope_label 0 (fun a' w' => w' = w ∧ ∃ (i acc : Nat) (u5 u6 u7 u8 u9 u10 u11 u12 u13 u14 u15 u16 u17 u18 u19 u20 u21 u22 u23 u24 u25 u26 u27 u28 u29 u30 u31 u32 u33 u34 u35 u36 u37 u38 u39 : Value), a' = { tmps := #[.slice ao n cap, undef, .int .u64 acc, .int .i64 i, .int .i64 0, u5, u6, u7, u8, u9, u10, u11, u12, u13, u14, u15, u16, u17, u18, u19, u20, u21, u22, u23, u24, u25, u26, u27, u28, u29, u30, u31, u32, u33, u34, u35, u36, u37, u38, u39], defers := [] } ∧ i ≤ n ∧ i ≤ 9 ∧ acc < 128 ^ i ∧ tk i acc (xs.drop i) = tk 0 0 xs) (fun a' _ => n - (intOf (a'.tmps.getD 3 undef)).toNat) ?_ ?_
  · exact ⟨rfl, 0, 0, _, _, _, _, _, _, _, _, _, _, _, _, _, _, _, _, _, _, _, _, _, _, _, _, _, _, _, _, _, _, _, _, _, _, _, rfl, by omega, by omega, by decide, rfl⟩
  · rintro a' w' ⟨rfl, i, acc, u5, u6, u7, u8, u9, u10, u11, u12, u13, u14, u15, u16, u17, u18, u19, u20, u21, u22, u23, u24, u25, u26, u27, u28, u29, u30, u31, u32, u33, u34, u35, u36, u37, u38, u39, rfl, hin, hi9, hacc, htk⟩
    have HT : Hid (tk i acc (xs.drop i) = tk 0 0 xs) := htk
    clear htk
    by_cases hend : i = n
    · have hb : ((i : Int) == (n : Int)) = true := by simp [hend]
      have ht : tk 0 0 xs = (0, 0, 2) := by
        rw [← HT.out, List.drop_eq_nil_of_le (by omega)]
        rfl
      have HT2 : Hid (tk 0 0 xs = (0, 0, 2)) := ht
      clear ht
      go_wp2
      try simp only [Exit.jump]
      go_ret3
      rw [HT2.out]
      exact ⟨rfl, rfl⟩
    · have hb : ((i : Int) == (n : Int)) = false := by simp; omega
      obtain ⟨b, off, rfl, hc⟩ := h.at (by omega)
      have c1 := hc i (by omega)
      have k1 : i < xs.length := by omega
      have hby := h.byte _ (List.getElem_mem k1)
      have hlt1 : (i : Int) < (n : Int) := by omega
      have hg : xs.getD i 0 = xs[i] := by simp [List.getD, k1]
      rw [hg] at c1
      have hd : xs.drop i = xs[i] :: xs.drop (i + 1) := List.drop_eq_getElem_cons k1
      have HD : Hid (xs.drop i = xs[i] :: xs.drop (i + 1)) := hd
      clear hc hd hg
      generalize xs[i] = c at c1 hby HD
      have ht := HT.out
      rw [HD.out, tk_cons] at ht
      by_cases hA : i = 9 ∧ 1 < c
      · rw [if_pos hA] at ht
        obtain ⟨h9, h1⟩ := hA
        subst h9
        have HT2 : Hid ((0, 0, 3) = tk 0 0 xs) := ht
        clear ht
        go_wp2
        try simp only [Exit.jump]
        go_ret3
        rw [← HT2.out]
        exact ⟨rfl, rfl⟩
      · rw [if_neg hA] at ht
        by_cases hB : c = 0 ∧ 0 < i
        · rw [if_pos hB] at ht
          have HT2 : Hid ((0, 0, 3) = tk 0 0 xs) := ht
          obtain ⟨h0, hip⟩ := hB
          subst h0
          clear ht hA
          by_cases h9 : i = 9
          · subst h9
            go_wp2
            try simp only [Exit.jump]
            go_ret3
            rw [← HT2.out]
            exact ⟨rfl, rfl⟩
          · have hb9 : ((i : Int) == 9) = false := by simp; omega
            go_wp2
            try simp only [Exit.jump]
            go_ret3
            rw [← HT2.out]
            exact ⟨rfl, rfl⟩
        · rw [if_neg hB] at ht
          obtain ⟨ho, hsum⟩ := orShl acc i c hacc (by omega) hi9 (by omega)
          have hpw : acc + (c % 128).toNat * 128 ^ i < 128 ^ (i + 1) := by
            have h1 : (c % 128).toNat * 128 ^ i ≤ 127 * 128 ^ i := Nat.mul_le_mul (by omega) (Nat.le_refl _)
            rw [Nat.pow_succ]
            omega
          generalize acc + (c % 128).toNat * 128 ^ i = s at ho hsum ht hpw
          by_cases hC : 128 ≤ c
          · have h9 : ((i : Int) == 9) = false := by simp; omega
            have h0 : (c == 0) = false := by simp; omega
            rw [if_pos hC] at ht
            have HT2 : Hid (_ = tk 0 0 xs) := ht
            have hi8 : i ≤ 8 := by omega
            clear hA hB ht
            go_wp2
            go_step3
            rw [show ((i : Int) + 1) = ((i + 1 : Nat) : Int) from by omega]
            refine ⟨rfl, ⟨rfl, i + 1, s, _, _, _, _, _, _, _, _, _, _, _, _, _, _, _, _, _, _, _, _, _, _, _, _, _, _, _, _, _, _, _, _, _, _, _, rfl, by omega, by omega, hpw, HT2.out⟩, ?_⟩
            simp [intOf]
            omega
          · rw [if_neg hC] at ht
            have HT2 : Hid (_ = tk 0 0 xs) := ht
            clear ht
            by_cases h9 : i = 9
            · have hb9 : ((i : Int) == 9) = true := by simp; omega
              have hc1 : c ≤ 1 := by omega
              have h0 : (c == 0) = false := by simp; omega
              have h9l : 9 ≤ i := by omega
              clear hA hB h9
              go_wp2
              try simp only [Exit.jump]
              go_ret3
              rw [← HT2.out]
              exact ⟨rfl, rfl⟩
            · have hb9 : ((i : Int) == 9) = false := by simp; omega
              clear hA
              by_cases h0 : c = 0
              · have hb0 : (c == 0) = true := by simp; omega
                have hc0 : c ≤ 0 := by omega
                have hi0 : i ≤ 0 := by omega
                clear hB h0
                go_wp2
                try simp only [Exit.jump]
                go_ret3
                rw [← HT2.out]
                exact ⟨rfl, rfl⟩
              · have h0 : (c == 0) = false := by simp; omega
                clear hB
                go_wp2
                try simp only [Exit.jump]
                go_ret3
                rw [← HT2.out]
                exact ⟨rfl, rfl⟩
end Go.Proofs.Ytbfcilfdeemnpaa

namespace Go.Proofs.Ytbfcilfdeemnpaa
open Go.RowKit

/-- The struct at the head of block p holds the bytes xs, in an array below block L, and the kind k. -/
structure Rd (w : World) (p L : Nat) (ao : Option Addr) (n cap : Nat) (xs : List Int) (k : Int) : Prop where
  c0 : w.cell? ⟨p, 0, none⟩ = some (.slice ao n cap)
  c1 : w.cell? ⟨p, 1, none⟩ = some (.int .i64 k)
  f0 : w.frozen? ⟨p, 0, none⟩ = false
  f1 : w.frozen? ⟨p, 1, none⟩ = false
  sl : Sl w ao n cap xs
  low : ∀ a, ao = some a → 0 < n → a.block < L
  le : L ≤ p
  sm : n ≤ 1000000

/-- The same, wherever its bytes lie. -/
def R (w : World) (p L : Nat) (xs : List Int) (k : Int) : Prop := ∃ ao n cap, Rd w p L ao n cap xs k

theorem Rd.plt {w : World} {p L : Nat} {ao : Option Addr} {n cap : Nat} {xs : List Int} {k : Int} (h : Rd w p L ao n cap xs k) : p < w.heap.size := World.block_lt_of_cell? w _ h.c0

theorem Rd.below {w w' : World} {p L : Nat} {ao : Option Addr} {n cap : Nat} {xs : List Int} {k : Int} (h : Rd w p L ao n cap xs k) (hb : Below w.heap.size w w') : Rd w' p L ao n cap xs k :=
  ⟨(hb.cell (p := ⟨p, 0, none⟩) h.plt).trans h.c0, (hb.cell (p := ⟨p, 1, none⟩) h.plt).trans h.c1, (hb.frozen (p := ⟨p, 0, none⟩) h.plt).trans h.f0, (hb.frozen (p := ⟨p, 1, none⟩) h.plt).trans h.f1, h.sl.below hb, h.low, h.le, h.sm⟩
theorem R.below {w w' : World} {p L : Nat} {xs : List Int} {k : Int} (h : R w p L xs k) (hb : Below w.heap.size w w') : R w' p L xs k := by
  obtain ⟨ao, n, cap, h⟩ := h
  exact ⟨ao, n, cap, h.below hb⟩

/-- Bytes that lie below block L still do where block q, from L on, was written. -/
theorem Sl.keep {w w' : World} {L q : Nat} {ao : Option Addr} {n cap : Nat} {xs : List Int} (h : Sl w ao n cap xs) (low : ∀ a, ao = some a → 0 < n → a.block < L) (hL : L ≤ q) (hg : w.grownBy w' (some q)) : Sl w' ao n cap xs := by
  refine ⟨h.len, h.le, h.mx, h.nil, fun a ha i hi => hg.cell (h.cell a ha i hi) ?_, h.byte⟩
  have := low a ha (by omega)
  have e : (a.add i).block = a.block := by unfold Addr.add; split <;> rfl
  rw [e]
  simp
  omega

/-- A reader is as it was where another block q is written, from L on. -/
theorem R.keep {w w' : World} {p L q : Nat} {xs : List Int} {k : Int} (h : R w p L xs k) (hne : p ≠ q) (hL : L ≤ q) (hg : w.grownBy w' (some q)) : R w' p L xs k := by
  obtain ⟨ao, n, cap, h⟩ := h
  have hb : w'.heap[p]? = w.heap[p]? := hg.block p h.plt (by simp; omega)
  exact ⟨ao, n, cap, hg.cell h.c0 (by simp; omega), hg.cell h.c1 (by simp; omega), (World.frozen?_of_block (a := ⟨p, 0, none⟩) hb).trans h.f0, (World.frozen?_of_block (a := ⟨p, 1, none⟩) hb).trans h.f1, h.sl.keep h.low hL hg, h.low, h.le, h.sm⟩

/-- What is left behind the first u bytes. -/
theorem Sl.drop {w : World} {ao : Option Addr} {n cap : Nat} {xs : List Int} (h : Sl w ao n cap xs) (u : Nat) (hu : u ≤ n) : Sl w (ao.map (fun x => x.add u)) (n - u) (cap - u) (xs.drop u) := by
  have h1 := h.le
  have h2 := h.mx
  refine ⟨by rw [List.length_drop, h.len], by omega, by omega, fun hn => ?_, fun a ha i hi => ?_, h.byte.drop u⟩
  · have := h.nil (by simpa using hn)
    omega
  · obtain ⟨b, off, rfl, hc⟩ := h.at (by omega)
    simp only [Option.map_some, Option.some.injEq] at ha
    subst ha
    rw [Addr.add_lit, Addr.add_lit, Nat.add_assoc, hc (u + i) (by omega)]
    simp [List.getD]
theorem Sl.dropAll {w : World} {ao : Option Addr} {n : Nat} {xs : List Int} {u : Nat} (h : Sl w ao n u xs) (hu : u ≤ n) : Sl w ao (n - u) 0 (xs.drop u) := by
  have h1 := h.le
  refine ⟨by rw [List.length_drop, h.len], by omega, Nat.zero_le _, fun hn => ⟨?_, rfl⟩, fun a ha i hi => by omega, h.byte.drop u⟩
  omega
theorem low_drop {ao : Option Addr} {n L u m : Nat} (h : ∀ a, ao = some a → 0 < n → a.block < L) (hm : m ≤ n) : ∀ a, ao.map (fun x => x.add u) = some a → 0 < m → a.block < L := by
  intro a ha hp
  cases ao with
  | none => simp at ha
  | some x =>
    simp only [Option.map_some, Option.some.injEq] at ha
    subst ha
    have e : (x.add u).block = x.block := by unfold Addr.add; split <;> rfl
    rw [e]
    exact h x rfl (by omega)

theorem grown_setCell (w : World) (p o : Nat) (v : Value) : w.grownBy (w.setCell ⟨p, o, none⟩ v) (some p) :=
  ⟨rfl, rfl, rfl, by simp, fun k _ hne => Below.heap_setCell _ _ _ _ (by simpa using hne)⟩
theorem grown_trans {a b c : World} {r : Option Nat} (h : a.grownBy b r) (k : b.grownBy c r) : a.grownBy c r :=
  ⟨k.os.trans h.os, k.tape.trans h.tape, k.output.trans h.output, Nat.le_trans h.size k.size, fun i hi hne => (k.block i (Nat.lt_of_lt_of_le hi h.size) hne).trans (h.block i hi hne)⟩
theorem grown_below {a b : World} {r : Option Nat} (h : Below a.heap.size a b) : a.grownBy b r := ⟨h.os, h.tape, h.output, h.size, fun i hi _ => h.block i hi⟩
theorem below_grown {a b : World} {B p : Nat} (h : a.grownBy b (some p)) (hB : B ≤ a.heap.size) (hp : B ≤ p) : Below B a b :=
  ⟨h.os, h.tape, h.output, h.size, fun i hi => h.block i (by omega) (by simp; omega)⟩

/-- The reader behind a store into its bytes. -/
theorem Rd.rest {w : World} {p L : Nat} {ao : Option Addr} {n cap : Nat} {xs : List Int} {k : Int} (h : Rd w p L ao n cap xs k) {bo : Option Addr} {m c : Nat} {ys : List Int} (hs : Sl w bo m c ys) (hlow : ∀ a, bo = some a → 0 < m → a.block < L) (hm : m ≤ n) :
    Rd (w.setCell ⟨p, 0, none⟩ (.slice bo m c)) p L bo m c ys k :=
  ⟨World.cell?_setCell_same _ _ _ h.c0, (World.cell?_setCell_other _ _ _ _ (by simp)).trans h.c1, by simpa using h.f0, by simpa using h.f1, hs.keep hlow h.le (grown_setCell _ _ _ _), hlow, h.le, Nat.le_trans hm h.sm⟩
theorem Rd.wrong {w : World} {p L : Nat} {ao : Option Addr} {n cap : Nat} {xs : List Int} {k : Int} (h : Rd w p L ao n cap xs k) (q : Int) :
    Rd (w.setCell ⟨p, 1, none⟩ (.int .i64 q)) p L ao n cap xs q :=
  ⟨(World.cell?_setCell_other _ _ _ _ (by simp)).trans h.c0, World.cell?_setCell_same _ _ _ h.c1, by simpa using h.f0, by simpa using h.f1, h.sl.keep h.low h.le (grown_setCell _ _ _ _), h.low, h.le, h.sm⟩

end Go.Proofs.Ytbfcilfdeemnpaa

namespace Go.Proofs.Ytbfcilfdeemnpaa
open Go.RowKit

theorem failed_nil (w : World) : Calls Try.prog 68 #[.pointer none] w fun e w' => e = .returned (.bool true) ∧ w' = w := by
  go_enter Try.func68, Try.ntmps68
  go_wp2
  go_ret
  exact ⟨rfl, rfl⟩
theorem failed_any (w : World) (p : Nat) (k : Int) (h : w.cell? ⟨p, 1, none⟩ = some (.int .i64 k)) : Calls Try.prog 68 #[.pointer (some ⟨p, 0, none⟩)] w fun e w' => e = .returned (.bool (k != 0)) ∧ w' = w := by
  go_enter Try.func68, Try.ntmps68
  go_wp2
  go_ret
  exact ⟨rfl, rfl⟩

theorem fail_nil (w : World) (q : Int) : Calls Try.prog 70 #[.pointer none, .int .i64 q] w fun e w' => e = .returned (.tuple #[]) ∧ w' = w := by
  go_enter Try.func70, Try.ntmps70
  go_wp2_with (go_at_call 68; refine (failed_nil _).mono ?_; rintro e w' ⟨rfl, rfl⟩)
  (try simp only [Exit.inBlock, Exit.then]); refine bodyPost_ret (results_none rfl _ _ _) rfl ?_
  exact ⟨rfl, rfl⟩

/-- Fail where it has failed, or with nothing that is wrong. -/
theorem fail_not (w : World) (p : Nat) (k q : Int) (h : w.cell? ⟨p, 1, none⟩ = some (.int .i64 k)) (hq : k ≠ 0 ∨ q = 0) : Calls Try.prog 70 #[.pointer (some ⟨p, 0, none⟩), .int .i64 q] w fun e w' => e = .returned (.tuple #[]) ∧ w' = w := by
  by_cases hk : k = 0
  · have hb : (k != 0) = false := by simp [hk]
    have hq0 : (q == 0) = true := by simp; omega
    clear hk hq
    go_enter Try.func70, Try.ntmps70
    go_wp2_with (go_at_call 68; refine (failed_any _ p k h).mono ?_; rintro e w' ⟨rfl, rfl⟩)
    (try simp only [Exit.inBlock, Exit.then]); refine bodyPost_ret (results_none rfl _ _ _) rfl ?_
    exact ⟨rfl, rfl⟩
  · have hb : (k != 0) = true := by simp [hk]
    clear hk hq
    go_enter Try.func70, Try.ntmps70
    go_wp2_with (go_at_call 68; refine (failed_any _ p k h).mono ?_; rintro e w' ⟨rfl, rfl⟩)
    (try simp only [Exit.inBlock, Exit.then]); refine bodyPost_ret (results_none rfl _ _ _) rfl ?_
    exact ⟨rfl, rfl⟩

theorem fail_any (w : World) (p L : Nat) (xs : List Int) (q : Int) (h : R w p L xs 0) (hq : q ≠ 0) : Calls Try.prog 70 #[.pointer (some ⟨p, 0, none⟩), .int .i64 q] w fun e w' => e = .returned (.tuple #[]) ∧ R w' p L [] q ∧ w.grownBy w' (some p) := by
  obtain ⟨ao, n, cap, hr⟩ := h
  have h0 := hr.c0
  have h1 := hr.c1
  have f0 := hr.f0
  have f1 := hr.f1
  have hb : (q == 0) = false := by simp [hq]
  have hfin : R ((w.setCell ⟨p, 1, none⟩ (.int .i64 q)).setCell ⟨p, 0, none⟩ (.slice none 0 0)) p L [] q :=
    ⟨none, 0, 0, (hr.wrong q).rest (Sl.nothing _) (fun a ha => by simp at ha) (Nat.zero_le _)⟩
  have hgr := grown_trans (grown_setCell w p 1 (.int .i64 q)) (grown_setCell (w.setCell ⟨p, 1, none⟩ (.int .i64 q)) p 0 (.slice none 0 0))
  clear hr hq
  go_enter Try.func70, Try.ntmps70
  go_wp2_with (go_at_call 68; refine (failed_any _ p 0 h1).mono ?_; rintro e w' ⟨rfl, rfl⟩)
  go_end0
  exact ⟨rfl, hfin, hgr⟩

theorem done_nil (w : World) : Calls Try.prog 38 #[.pointer none] w fun e w' => e = .returned (.int .i64 17) ∧ w' = w := by
  go_enter Try.func38, Try.ntmps38
  go_wp2
  go_ret
  exact ⟨rfl, rfl⟩
theorem done_any (w : World) (p L : Nat) (xs : List Int) (k : Int) (h : R w p L xs k) : Calls Try.prog 38 #[.pointer (some ⟨p, 0, none⟩)] w fun e w' => e = .returned (.int .i64 (doneS xs k)) ∧ w' = w := by
  obtain ⟨ao, n, cap, hr⟩ := h
  have h0 := hr.c0
  have h1 := hr.c1
  have hl := hr.sl.len
  clear hr
  by_cases hk : k = 0
  · subst hk
    cases xs with
    | nil =>
      have hn : n = 0 := by simpa using hl.symm
      subst hn
      clear hl
      go_enter Try.func38, Try.ntmps38
      go_wp2
      go_ret
      exact ⟨rfl, rfl⟩
    | cons c r =>
      have hn : 0 < n := by rw [← hl]; simp
      clear hl
      go_enter Try.func38, Try.ntmps38
      go_wp2
      go_ret
      exact ⟨rfl, rfl⟩
  · have hb : (k == 0) = false := by simp [hk]
    have hd : doneS xs k = k := by simp [doneS, hk]
    rw [hd]
    clear hk hd
    go_enter Try.func38, Try.ntmps38
    go_wp2
    go_ret
    exact ⟨rfl, rfl⟩
end Go.Proofs.Ytbfcilfdeemnpaa

namespace Go.Proofs.Ytbfcilfdeemnpaa
open Go.RowKit

theorem uint_nil (w : World) : Calls Try.prog 41 #[.pointer none] w fun e w' => e = .returned (.int .u64 0) ∧ w' = w := by
  go_enter Try.func41, Try.ntmps41
  go_wp2_with (go_at_call 68; refine (failed_nil _).mono ?_; rintro e w' ⟨rfl, rfl⟩)
  go_ret
  exact ⟨rfl, rfl⟩

theorem uint_any (w : World) (p L : Nat) (xs : List Int) (k : Int) (h : R w p L xs k) : Calls Try.prog 41 #[.pointer (some ⟨p, 0, none⟩)] w fun e w' =>
    e = .returned (.int .u64 ((uintS xs k).1 : Nat)) ∧ R w' p L (uintS xs k).2.1 (uintS xs k).2.2 ∧ w.grownBy w' (some p) := by
  have hR := h
  obtain ⟨ao, n, cap, hr⟩ := h
  have h0 := hr.c0
  have h1 := hr.c1
  have f0 := hr.f0
  by_cases hk : k = 0
  · subst hk
    have ht := takeNumber_any w ao n cap xs hr.sl
    have hu := tk_used xs 0 0
    unfold uintS
    rw [if_pos rfl]
    have HT : Hid (Calls _ _ _ _ _) := ht
    clear ht
    generalize tk 0 0 xs = T at *
    obtain ⟨m, u, q⟩ := T
    simp only at hu HT ⊢
    by_cases hq : q = 0
    · subst hq
      have hu := hu rfl
      rw [if_pos rfl]
      have hl := hr.sl.len
      have hle := hr.sl.le
      have hmx := hr.sl.mx
      unfold maxLen at hmx
      go_enter Try.func41, Try.ntmps41
      go_wp2_with (first | (go_at_call 68; refine (failed_any _ p 0 h1).mono ?_; rintro e w' ⟨rfl, rfl⟩) | (go_at_call 69; refine HT.out.mono ?_; rintro e w' ⟨rfl, rfl⟩))
      · have hfin : R (w'.setCell ⟨p, 0, none⟩ (.slice ao (n - u) 0)) p L (xs.drop u) 0 := by
          have hcu : cap = u := by assumption
          subst hcu
          exact ⟨_, _, _, hr.rest (hr.sl.dropAll (by omega)) (fun a ha hp => by omega) (by omega)⟩
        go_ret
        exact ⟨rfl, hfin, grown_setCell _ _ _ _⟩
      · have hfin : R (w'.setCell ⟨p, 0, none⟩ (.slice (ao.map (fun x => x.add u)) (n - u) (cap - u))) p L (xs.drop u) 0 :=
          ⟨_, _, _, hr.rest (hr.sl.drop u (by omega)) (low_drop hr.low (by omega)) (by omega)⟩
        go_ret
        exact ⟨rfl, hfin, grown_setCell _ _ _ _⟩
    · rw [if_neg hq]
      have hqb : ((q : Int) != 0) = true := by simp; omega
      have hf := fail_any w p L xs q hR (by omega)
      have HF : Hid (Calls _ _ _ _ _) := hf
      clear hf hu hR hr
      go_enter Try.func41, Try.ntmps41
      go_wp2_with (first | (go_at_call 68; refine (failed_any _ p 0 h1).mono ?_; rintro e w' ⟨rfl, rfl⟩) | (go_at_call 69; refine HT.out.mono ?_; rintro e w' ⟨rfl, rfl⟩) | (go_at_call 70; refine HF.out.mono ?_; rintro e w2 ⟨rfl, hr2, hg2⟩))
      go_ret
      exact ⟨rfl, hr2, hg2⟩
  · have hb : (k != 0) = true := by simp [hk]
    have hs : uintS xs k = (0, xs, k) := by simp [uintS, hk]
    rw [hs]
    clear hr hk hs
    go_enter Try.func41, Try.ntmps41
    go_wp2_with (go_at_call 68; refine (failed_any _ p k h1).mono ?_; rintro e w' ⟨rfl, rfl⟩)
    go_ret
    exact ⟨rfl, hR, World.grownBy.refl _ _⟩
end Go.Proofs.Ytbfcilfdeemnpaa

namespace Go.Proofs.Ytbfcilfdeemnpaa
open Go.RowKit

theorem R.kind {w : World} {p L : Nat} {xs : List Int} {k : Int} (h : R w p L xs k) : w.cell? ⟨p, 1, none⟩ = some (.int .i64 k) := by
  obtain ⟨ao, n, cap, hr⟩ := h
  exact hr.c1

theorem int_nil (w : World) (most : Int) : Calls Try.prog 43 #[.pointer none, .int .i64 most] w fun e w' => e = .returned (.int .i64 0) ∧ w' = w := by
  go_enter Try.func43, Try.ntmps43
  go_wp2_with (first | (go_at_call 41; refine (uint_nil _).mono ?_; rintro e w' ⟨rfl, rfl⟩) | (go_at_call 68; refine (failed_nil _).mono ?_; rintro e w' ⟨rfl, rfl⟩))
  go_ret
  exact ⟨rfl, rfl⟩

set_option maxHeartbeats 400000 in
theorem int_any (w : World) (p L : Nat) (xs : List Int) (k most : Int) (hmost : most ≤ 9223372036854775807) (hb : Byt xs) (h : R w p L xs k) : Calls Try.prog 43 #[.pointer (some ⟨p, 0, none⟩), .int .i64 most] w fun e w' =>
    e = .returned (.int .i64 ((intS xs k most).1 : Nat)) ∧ R w' p L (intS xs k most).2.1 (intS xs k most).2.2 ∧ w.grownBy w' (some p) := by
  have hU := uint_any w p L xs k h
  have hlt := uintS_lt (k := k) hb
  unfold intS
  generalize uintS xs k = T at *
  obtain ⟨m, rs, q⟩ := T
  simp only at hU hlt ⊢
  have HU : Hid (Calls _ _ _ _ _) := hU
  clear hU h hb
  by_cases hq : q = 0
  · subst hq
    rw [if_pos rfl]
    by_cases hbad : most < 0 ∨ most < (m : Int)
    · rw [if_pos hbad]
      by_cases hneg : most < 0
      · clear hbad
        go_enter Try.func43, Try.ntmps43
        go_wp2_with fail
        refine HU.out.mono ?_
        rintro e w1 ⟨rfl, hR1, hg1⟩
        clear HU
        have hc1 := hR1.kind
        go_wp2_with (first | (go_at_call 68; refine (failed_any _ p 0 hc1).mono ?_; rintro e w' ⟨rfl, rfl⟩) | (go_at_call 70; refine (fail_any _ p L rs 4 hR1 (by decide)).mono ?_; rintro e w2 ⟨rfl, hr2, hg2⟩))
        have hg := grown_trans hg1 hg2
        go_ret
        exact ⟨rfl, hr2, hg⟩
      · have hlt2 : most < (m : Int) := by omega
        clear hbad
        go_enter Try.func43, Try.ntmps43
        go_wp2_with fail
        refine HU.out.mono ?_
        rintro e w1 ⟨rfl, hR1, hg1⟩
        clear HU
        have hc1 := hR1.kind
        go_wp2_with (first | (go_at_call 68; refine (failed_any _ p 0 hc1).mono ?_; rintro e w' ⟨rfl, rfl⟩) | (go_at_call 70; refine (fail_any _ p L rs 4 hR1 (by decide)).mono ?_; rintro e w2 ⟨rfl, hr2, hg2⟩))
        have hg := grown_trans hg1 hg2
        go_ret
        exact ⟨rfl, hr2, hg⟩
    · rw [if_neg hbad]
      have h1 : 0 ≤ most := by omega
      have h2 : (m : Int) ≤ most := by omega
      clear hbad
      go_enter Try.func43, Try.ntmps43
      go_wp2_with fail
      refine HU.out.mono ?_
      rintro e w1 ⟨rfl, hR1, hg1⟩
      clear HU
      have hc1 := hR1.kind
      go_wp2_with (go_at_call 68; refine (failed_any _ p 0 hc1).mono ?_; rintro e w' ⟨rfl, rfl⟩)
      go_ret
      exact ⟨rfl, hR1, hg1⟩
  · rw [if_neg hq]
    have hqb : (q != 0) = true := by simp [hq]
    clear hq
    go_enter Try.func43, Try.ntmps43
    go_wp2_with fail
    refine HU.out.mono ?_
    rintro e w1 ⟨rfl, hR1, hg1⟩
    clear HU
    have hc1 := hR1.kind
    go_wp2_with (go_at_call 68; refine (failed_any _ p q hc1).mono ?_; rintro e w' ⟨rfl, rfl⟩)
    go_ret
    exact ⟨rfl, hR1, hg1⟩

theorem bool_nil (w : World) : Calls Try.prog 46 #[.pointer none] w fun e w' => e = .returned (.bool false) ∧ w' = w := by
  go_enter Try.func46, Try.ntmps46
  go_wp2_with (go_at_call 68; refine (failed_nil _).mono ?_; rintro e w' ⟨rfl, rfl⟩)
  go_ret
  exact ⟨rfl, rfl⟩

theorem bytes_nil (w : World) (most : Int) : Calls Try.prog 45 #[.pointer none, .int .i64 most] w fun e w' => e = .returned (.slice none 0 0) ∧ w' = w := by
  go_enter Try.func45, Try.ntmps45
  go_wp2_with (first | (go_at_call 43; refine (int_nil _ _).mono ?_; rintro e w' ⟨rfl, rfl⟩) | (go_at_call 68; refine (failed_nil _).mono ?_; rintro e w' ⟨rfl, rfl⟩))
  go_ret
  exact ⟨rfl, rfl⟩
end Go.Proofs.Ytbfcilfdeemnpaa

namespace Go.Proofs.Ytbfcilfdeemnpaa
open Go.RowKit

theorem R.byte {w : World} {p L : Nat} {xs : List Int} {k : Int} (h : R w p L xs k) : Byt xs := by
  obtain ⟨ao, n, cap, hr⟩ := h
  exact hr.sl.byte

theorem Sl.keepNe {w w' : World} {q : Nat} {ao : Option Addr} {n cap : Nat} {xs : List Int} (h : Sl w ao n cap xs) (hne : ∀ a, ao = some a → 0 < n → a.block ≠ q) (hg : w.grownBy w' (some q)) : Sl w' ao n cap xs := by
  refine ⟨h.len, h.le, h.mx, h.nil, fun a ha i hi => hg.cell (h.cell a ha i hi) ?_, h.byte⟩
  have := hne a ha (by omega)
  have e : (a.add i).block = a.block := by unfold Addr.add; split <;> rfl
  rw [e]
  simp
  exact this
theorem Sl.ofOwn {w : World} {base : Nat} {ao : Option Addr} {n cap : Nat} {xs : List Int} (h : w.ownsRow base 5 1 (.slice ao n cap) n (bv xs)) (hb : Byt xs) : Sl w ao n cap xs := by
  obtain ⟨bo, c, he, hs, _⟩ := Sl.own h hb
  simp only [Value.slice.injEq] at he
  obtain ⟨rfl, _, rfl⟩ := he
  exact hs

/-- The end of Bytes where there are enough: the copy, and the reader behind it. -/
theorem bytes_end {w w' w2 : World} {p L m n cap : Nat} {ao bo : Option Addr} {c : Nat} {rs : List Int} {k : Int} (hg1 : w.grownBy w' (some p)) (hr : Rd w' p L ao n cap rs k) (hb2 : Below w'.heap.size w' w2)
    (hown : w2.ownsRow w'.heap.size 5 1 (.slice (some ⟨w'.heap.size, 0, none⟩) m (m + 0)) m (bv (rs.take m))) (hs : Sl w2 bo (n - m) c (rs.drop m)) (hlow : ∀ a, bo = some a → 0 < n - m → a.block < L) :
    Sl (w2.setCell ⟨p, 0, none⟩ (.slice bo (n - m) c)) (some ⟨w'.heap.size, 0, none⟩) m m (rs.take m) ∧ (∀ a, some (⟨w'.heap.size, 0, none⟩ : Addr) = some a → w.heap.size ≤ a.block) ∧
      R (w2.setCell ⟨p, 0, none⟩ (.slice bo (n - m) c)) p L (rs.drop m) k ∧ w.grownBy (w2.setCell ⟨p, 0, none⟩ (.slice bo (n - m) c)) (some p) := by
  have hp := hr.plt
  refine ⟨(Sl.ofOwn hown (hr.sl.byte.take m)).keepNe ?_ (grown_setCell _ _ _ _), ?_, ⟨_, _, _, (hr.below hb2).rest hs hlow (by omega)⟩, grown_trans hg1 (grown_trans (grown_below hb2) (grown_setCell _ _ _ _))⟩
  · intro a ha _
    obtain rfl := Option.some.inj ha
    show w'.heap.size ≠ p
    omega
  · intro a ha
    obtain rfl := Option.some.inj ha
    exact hg1.size

set_option maxHeartbeats 800000 in
theorem bytes_any (w : World) (p L : Nat) (xs : List Int) (k most : Int) (hmost : most ≤ 9223372036854775807) (h : R w p L xs k) : Calls Try.prog 45 #[.pointer (some ⟨p, 0, none⟩), .int .i64 most] w fun e w' =>
    ∃ ao n cap, e = .returned (.slice ao n cap) ∧ Sl w' ao n cap (bytesS xs k most).1 ∧ (∀ a, ao = some a → w.heap.size ≤ a.block) ∧ R w' p L (bytesS xs k most).2.1 (bytesS xs k most).2.2 ∧ w.grownBy w' (some p) := by
  have hU := int_any w p L xs k most hmost h.byte h
  unfold bytesS
  generalize intS xs k most = T at *
  obtain ⟨m, rs, q⟩ := T
  simp only at hU ⊢
  have HU : Hid (Calls _ _ _ _ _) := hU
  clear hU h
  by_cases hq : q = 0
  · subst hq
    rw [if_pos rfl]
    by_cases hbad : rs.length < m
    · rw [if_pos hbad]
      go_enter Try.func45, Try.ntmps45
      go_wp2_with fail
      refine HU.out.mono ?_
      rintro e w1 ⟨rfl, hR1, hg1⟩
      clear HU
      have hR1' := hR1
      obtain ⟨ao, n, cap, hr⟩ := hR1'
      have hc0 := hr.c0
      have hc1 := hr.c1
      have hl := hr.sl.len
      have hlt : (n : Int) < (m : Int) := by omega
      clear hr hl hbad
      go_wp2_with (first | (go_at_call 68; refine (failed_any _ p 0 hc1).mono ?_; rintro e w' ⟨rfl, rfl⟩) | (go_at_call 70; refine (fail_any _ p L rs 2 hR1 (by decide)).mono ?_; rintro e w2 ⟨rfl, hr2, hg2⟩))
      have hg := grown_trans hg1 hg2
      go_ret
      exact ⟨none, 0, 0, rfl, Sl.nothing _, fun a ha => by simp at ha, hr2, hg⟩
    · rw [if_neg hbad]
      go_enter Try.func45, Try.ntmps45
      go_wp2_with fail
      refine HU.out.mono ?_
      rintro e w1 ⟨rfl, hR1, hg1⟩
      clear HU
      obtain ⟨ao, n, cap, hr⟩ := hR1
      have hc0 := hr.c0
      have hc1 := hr.c1
      have hl := hr.sl.len
      have hle := hr.sl.le
      have hmx := hr.sl.mx
      unfold maxLen at hmx
      have hsm := hr.sm
      have hmn : m ≤ n := by omega
      have hsl := hr.sl.take m hmn
      clear hbad
      go_wp2_with (first | (go_at_call 68; refine (failed_any _ p 0 hc1).mono ?_; rintro e w' ⟨rfl, rfl⟩) | fail)
      refine (withRoom_any _ _ _ _ 0 _ hsl (by omega)).mono ?_
      rintro e w2 ⟨rfl, hown2, hb2⟩
      have hr2 := hr.below hb2
      have hd0 := hr2.c0
      have hf0 := hr2.f0
      by_cases hcm : cap = m
      · subst hcm
        have hfin := bytes_end hg1 hr hb2 hown2 (hr2.sl.dropAll hmn) (fun a ha hp => by omega)
        rw [show n - cap = 0 from by omega] at hfin
        go_wp2_with fail
        go_ret
        exact ⟨_, _, _, rfl, hfin⟩
      · have hfin := bytes_end hg1 hr hb2 hown2 (hr2.sl.drop m hmn) (low_drop hr.low (by omega))
        go_wp2_with fail
        go_ret
        exact ⟨_, _, _, rfl, hfin⟩
  · rw [if_neg hq]
    have hqb : (q != 0) = true := by simp [hq]
    clear hq
    go_enter Try.func45, Try.ntmps45
    go_wp2_with fail
    refine HU.out.mono ?_
    rintro e w1 ⟨rfl, hR1, hg1⟩
    clear HU
    have hc1 := hR1.kind
    go_wp2_with (go_at_call 68; refine (failed_any _ p q hc1).mono ?_; rintro e w' ⟨rfl, rfl⟩)
    go_ret
    exact ⟨none, 0, 0, rfl, Sl.nothing _, fun a ha => by simp at ha, hR1, hg1⟩

set_option maxHeartbeats 800000 in
theorem bool_any (w : World) (p L : Nat) (xs : List Int) (k : Int) (h : R w p L xs k) : Calls Try.prog 46 #[.pointer (some ⟨p, 0, none⟩)] w fun e w' =>
    e = .returned (.bool (boolS xs k).1) ∧ R w' p L (boolS xs k).2.1 (boolS xs k).2.2 ∧ w.grownBy w' (some p) := by
  have hR := h
  obtain ⟨ao, n, cap, hr⟩ := h
  have hc0 := hr.c0
  have hc1 := hr.c1
  have hf0 := hr.f0
  have hl := hr.sl.len
  by_cases hk : k = 0
  · subst hk
    cases xs with
    | nil =>
      obtain rfl : n = 0 := by simpa using hl.symm
      rw [show boolS [] 0 = (false, [], 2) from rfl]
      clear hr hl
      go_enter Try.func46, Try.ntmps46
      go_wp2_with (first | (go_at_call 68; refine (failed_any _ p 0 hc1).mono ?_; rintro e w' ⟨rfl, rfl⟩) | (go_at_call 70; refine (fail_any _ p L [] 2 hR (by decide)).mono ?_; rintro e w2 ⟨rfl, hr2, hg2⟩))
      go_ret
      exact ⟨rfl, hr2, hg2⟩
    | cons c r =>
      have hn : 0 < n := by rw [← hl]; simp
      have hnb : ((n : Int) == 0) = false := by simp; omega
      have hn1 : (0 : Int) < (n : Int) := by omega
      have hn2 : (1 : Int) ≤ (n : Int) := by omega
      have hby := hr.sl.byte c (by simp)
      obtain ⟨b, off, rfl, hcell⟩ := hr.sl.at hn
      have c0 := hcell 0 hn
      rw [Nat.add_zero, show (c :: r).getD 0 0 = c from rfl] at c0
      have hle := hr.sl.le
      have hmx := hr.sl.mx
      unfold maxLen at hmx
      clear hcell
      by_cases hbig : 1 < c
      · rw [show boolS (c :: r) 0 = (false, [], 3) from by simp [boolS, hbig]]
        clear hr
        go_enter Try.func46, Try.ntmps46
        go_wp2_with (first | (go_at_call 68; refine (failed_any _ p 0 hc1).mono ?_; rintro e w' ⟨rfl, rfl⟩) | (go_at_call 70; refine (fail_any _ p L (c :: r) 3 hR (by decide)).mono ?_; rintro e w2 ⟨rfl, hr2, hg2⟩))
        go_ret
        exact ⟨rfl, hr2, hg2⟩
      · have hc1' : c ≤ 1 := by omega
        rw [show boolS (c :: r) 0 = (c == 1, r, 0) from by simp [boolS, hbig]]
        have hsd := hr.sl.drop 1 hn
        rw [show (c :: r).drop 1 = r from rfl] at hsd
        have hsa : cap = 1 → Sl w (some ⟨b, off, none⟩) (n - 1) 0 r := by
          intro hc
          subst hc
          exact hr.sl.dropAll hn
        clear hbig
        go_enter Try.func46, Try.ntmps46
        go_wp2_with (first | (go_at_call 68; refine (failed_any _ p 0 hc1).mono ?_; rintro e w' ⟨rfl, rfl⟩) | fail)
        · have hcap : cap = 1 := by assumption
          have hfin : R (w'.setCell ⟨p, 0, none⟩ (.slice (some ⟨b, off, none⟩) (n - 1) 0)) p L r 0 := ⟨_, _, _, hr.rest (hsa hcap) (fun a ha hp => by omega) (by omega)⟩
          go_ret
          exact ⟨rfl, hfin, grown_setCell _ _ _ _⟩
        · have hfin := hr.rest hsd (low_drop hr.low (by omega)) (by omega)
          rw [show Option.map (fun x => x.add 1) (some (⟨b, off, none⟩ : Addr)) = some ⟨b, off + 1, none⟩ from by rw [Option.map_some, Addr.add_lit]] at hfin
          go_ret
          exact ⟨rfl, ⟨_, _, _, hfin⟩, grown_setCell _ _ _ _⟩
  · have hb : (k != 0) = true := by simp [hk]
    have hs : boolS xs k = (false, xs, k) := by simp [boolS, hk]
    rw [hs]
    clear hr hk hs
    go_enter Try.func46, Try.ntmps46
    go_wp2_with (go_at_call 68; refine (failed_any _ p k hc1).mono ?_; rintro e w' ⟨rfl, rfl⟩)
    go_ret
    exact ⟨rfl, hR, World.grownBy.refl _ _⟩
end Go.Proofs.Ytbfcilfdeemnpaa

namespace Go.Proofs.Ytbfcilfdeemnpaa
open Go.RowKit

theorem own_snoc {w : World} {base : Nat} {v : Value} {k : Nat} {xs ys : List Int} {c : Int} (h : w.ownsRow base 5 1 v (k + ys.length + 1) (bv (xs ++ ys) ++ [.int .u8 c])) :
    w.ownsRow base 5 1 v (k + (ys ++ [c]).length) (bv (xs ++ (ys ++ [c]))) := by
  have e : bv (xs ++ (ys ++ [c])) = bv (xs ++ ys) ++ [.int .u8 c] := by simp [bv]
  have l : k + (ys ++ [c]).length = k + ys.length + 1 := by simp; omega
  rw [e, l]
  exact h

set_option maxHeartbeats 800000 in
set_option maxRecDepth 100000 in
theorem putNumber_any (w : World) (base : Nat) (v : Value) (k n : Nat) (xs : List Int) (hn : n < 18446744073709551616) (hk : k + 20 ≤ 140737488355328) (hbase : base ≤ w.heap.size) (hown : w.ownsRow base 5 1 v k (bv xs)) :
    Calls Try.prog 64 #[v, .int .u64 n] w fun e w' =>
      ∃ v', e = .returned v' ∧ w'.ownsRow base 5 1 v' (k + (enc n).length) (bv (xs ++ enc n)) ∧ Below base w w' := by
  obtain ⟨i0, hi, hz0, hz1, hz2⟩ := info_parts u8info
  go_enter Try.func64, Try.ntmps64
  go_wp2
  refine wp_scope_label 0 (fun a' w' => Below base w w' ∧ ∃ (m : Nat) (v' u5 u6 u7 u8 u9 u10 u11 u12 u13 u14 u15 u16 u17 u18 u19 u20 : Value) (ys : List Int), a' = { tmps := #[v', .int .u64 m, undef, undef, .slice none 0 0, u5, u6, u7, u8, u9, u10, u11, u12, u13, u14, u15, u16, u17, u18, u19, u20], defers := [] } ∧ m < 18446744073709551616 ∧ ys ++ enc m = enc n ∧ ys.length + (enc m).length ≤ 10 ∧ w'.ownsRow base 5 1 v' (k + ys.length) (bv (xs ++ ys))) (fun a' _ => (intOf (a'.tmps.getD 1 undef)).toNat) ?_ ?_
  · exact ⟨Below.refl _ _, n, v, _, _, _, _, _, _, _, _, _, _, _, _, _, _, _, _, [], rfl, hn, rfl, by simpa using enc_length hn, by simpa using hown⟩
  · rintro a' w' ⟨hbel, m, v', u5, u6, u7, u8, u9, u10, u11, u12, u13, u14, u15, u16, u17, u18, u19, u20, ys, rfl, hm, hys, hy9, hown'⟩
    have hp := enc_pos m
    have hsz := hbel.size
    by_cases hlt : m < 128
    · have HY : Hid (ys ++ enc m = enc n) := hys
      clear hys
      go_wp2_with (at_builtin; refine wpList_append_own _ rfl _ _ 25 rfl base 5 i0 (.int .u8 0) 1 1 Try.underlying25 hi hz0 hz1 hz2 rfl (by decide) _ _ _ rfl (hown'.alloc _) ⟨w'.heap.size, 0, none⟩ 1 1 [.int .u8 m] rfl rfl (cell_one_new _ _ _) (by simp [Value.oneCell']) (by unfold maxLen; omega) (by omega) (by simp; omega) ?_; intro v2 w2 hown2 hgrow2 hn2)
      have e1 : enc m = [(m : Int)] := enc_small hlt
      have e2 := HY.out
      rw [e1] at e2
      have ho := own_snoc hown2
      rw [e2] at ho
      have hb2 : Below base w w2 := (hbel.alloc (by omega) _).grown hgrow2 (by simp; omega) (fun j hj => (hown'.lt j hj).1)
      clear hown2 hgrow2 hn2
      simp only [Exit.jump]
      go_ret
      exact ⟨v2, rfl, ho, hb2⟩
    · have HY : Hid (ys ++ enc m = enc n) := hys
      clear hys
      have ho := or128 m
      go_wp2_with (at_builtin; refine wpList_append_own _ rfl _ _ 25 rfl base 5 i0 (.int .u8 0) 1 1 Try.underlying25 hi hz0 hz1 hz2 rfl (by decide) _ _ _ rfl (hown'.alloc _) ⟨w'.heap.size, 0, none⟩ 1 1 [.int .u8 ((m % 128 + 128 : Nat) : Int)] rfl rfl (cell_one_new _ _ _) (by simp [Value.oneCell']) (by unfold maxLen; omega) (by omega) (by simp; omega) ?_; intro v2 w2 hown2 hgrow2 hn2)
      have e1 := enc_big (n := m) (by omega) hm
      have e2 := HY.out
      rw [e1] at e2
      have hl : (enc m).length = (enc (m / 128)).length + 1 := by rw [e1]; rfl
      have ho2 := own_snoc hown2
      have hb2 : Below base w w2 := (hbel.alloc (by omega) _).grown hgrow2 (by simp; omega) (fun j hj => (hown'.lt j hj).1)
      clear hown2 hgrow2 hn2
      go_step3
      rw [show ((m : Int) / 128) = ((m / 128 : Nat) : Int) from by omega]
      refine ⟨rfl, ⟨hb2, m / 128, v2, _, _, _, _, _, _, _, _, _, _, _, _, _, _, _, _, ys ++ [((m % 128 + 128 : Nat) : Int)], rfl, by omega, by rw [← e2]; simp, by simp; omega, ho2⟩, ?_⟩
      simp [intOf]
      omega
end Go.Proofs.Ytbfcilfdeemnpaa

namespace Go.Proofs.Ytbfcilfdeemnpaa
open Go.RowKit

theorem own_empty (w : World) : (w.alloc (.cells #[] 5)).ownsRow w.heap.size 5 1 (.slice (some ⟨w.heap.size, 0, none⟩) 0 0) 0 (bv []) :=
  World.ownsRow_made w #[] 0 (Nat.le_refl _) (Nat.zero_le _) rfl

set_option maxHeartbeats 400000 in
theorem wUint_any (w : World) (ao : Option Addr) (n cap m : Nat) (xs : List Int) (h : Sl w ao n cap xs) (hr : n + 30 ≤ 140737488355328) (hm : m < 18446744073709551616) :
    Calls Try.prog 33 #[.slice ao n cap, .int .u64 m] w fun e w' =>
      ∃ v, e = .returned v ∧ w'.ownsRow w.heap.size 5 1 v (n + (enc m).length) (bv (xs ++ enc m)) ∧ Below w.heap.size w w' := by
  go_enter Try.func33, Try.ntmps33
  go_wp2_with fail
  refine (withRoom_any w ao n cap 10 xs h (by omega)).mono ?_
  rintro e w1 ⟨rfl, hown1, hb1⟩
  have hs := hb1.size
  go_wp2_with fail
  refine (putNumber_any w1 w.heap.size _ n m xs hm (by omega) hs hown1).mono ?_
  rintro e w2 ⟨v2, rfl, hown2, hb2⟩
  have hb := hb1.trans hb2
  clear hown1 hb1 hb2
  go_wp2_with fail
  go_ret
  exact ⟨v2, rfl, hown2, hb⟩

set_option maxHeartbeats 400000 in
theorem wBytes_any (w : World) (ao bo : Option Addr) (n cap m cap2 : Nat) (xs ys : List Int) (h : Sl w ao n cap xs) (h2 : Sl w bo m cap2 ys) (hr : n + m + 60 ≤ 140737488355328) :
    Calls Try.prog 54 #[.slice ao n cap, .slice bo m cap2] w fun e w' =>
      ∃ v, e = .returned v ∧ w'.ownsRow w.heap.size 5 1 v (n + (enc m).length + m) (bv (xs ++ enc m ++ ys)) ∧ Below w.heap.size w w' := by
  obtain ⟨i0, hi, hz0, hz1, hz2⟩ := info_parts u8info
  go_enter Try.func54, Try.ntmps54
  go_wp2_with fail
  rw [show (10 + (m : Int)) = ((10 + m : Nat) : Int) from by omega]
  refine (withRoom_any w ao n cap (10 + m) xs h (by omega)).mono ?_
  rintro e w1 ⟨rfl, hown1, hb1⟩
  have hs := hb1.size
  go_wp2_with fail
  refine (putNumber_any w1 w.heap.size _ n m xs (by omega) (by omega) hs hown1).mono ?_
  rintro e w2 ⟨v2, rfl, hown2, hb2⟩
  have hs2 := hb2.size
  have hb := hb1.trans hb2
  have hl := enc_length (n := m) (by omega)
  have h3 := h2.below hb
  clear hown1 hb1 hb2
  go_wp2_with (at_builtin; refine wpList_app rfl _ _ rfl w.heap.size _ _ _ rfl hown2 _ _ _ _ rfl h3 (by omega) (by omega) ?_; intro v3 w3 hown3 hb3)
  have hb4 := hb.trans hb3
  clear hb hown2 hb3 h3
  go_ret
  exact ⟨v3, rfl, hown3, hb4⟩
end Go.Proofs.Ytbfcilfdeemnpaa

namespace Go.Proofs.Ytbfcilfdeemnpaa
open Go.RowKit

set_option maxHeartbeats 400000 in
theorem wBool_any (w : World) (ao : Option Addr) (n cap : Nat) (b : Bool) (xs : List Int) (h : Sl w ao n cap xs) (hr : n + 30 ≤ 140737488355328) :
    Calls Try.prog 55 #[.slice ao n cap, .bool b] w fun e w' =>
      ∃ v, e = .returned v ∧ w'.ownsRow w.heap.size 5 1 v (n + 1) (bv (xs ++ enb b)) ∧ Below w.heap.size w w' := by
  cases b
  all_goals
    go_enter Try.func55, Try.ntmps55
    go_wp2_with fail
    refine (withRoom_any w ao n cap 1 xs h (by omega)).mono ?_
    rintro e w1 ⟨rfl, hown1, hb1⟩
    have hs := hb1.size
    go_wp2_with (at_builtin; refine wpList_app rfl _ _ rfl w.heap.size _ _ _ rfl (hown1.alloc _) _ _ _ _ rfl (Sl.one w1 _ (by decide)) (by omega) (by simp; omega) ?_; intro v3 w3 hown3 hb3)
    have hb4 := (hb1.alloc hs _).trans hb3
    clear hb1 hown1 hb3
    go_ret
    exact ⟨v3, rfl, hown3, hb4⟩
end Go.Proofs.Ytbfcilfdeemnpaa

namespace Go.Proofs.Ytbfcilfdeemnpaa
open Go.RowKit

set_option maxHeartbeats 400000 in
theorem clone_any (w : World) (ao : Option Addr) (n cap : Nat) (xs : List Int) (h : Sl w ao n cap xs) (hr : n ≤ 140737488355328) :
    Calls Try.prog 66 #[.slice ao n cap] w fun e w' => ∃ v, e = .returned v ∧ w'.ownsRow w.heap.size 5 1 v n (bv xs) ∧ Below w.heap.size w w' := by
  have hA := h.below ((Below.refl w.heap.size w).alloc (Nat.le_refl _) (.cells #[] 5))
  have hO := own_empty w
  have hq : ∀ W, (binOp .eql 25 (.slice ao n cap) (.slice none 0 0)).run Try.prog W = .ok (.bool ao.isNone) W := fun W => Lib.run_eql_slice_nil W _ _ ao n cap 0 0 Try.underlying25
  cases ao with
  | none =>
    obtain ⟨rfl, rfl⟩ := h.nil rfl
    obtain rfl : xs = [] := List.eq_nil_of_length_eq_zero h.len
    go_enter Try.func66, Try.ntmps66
    go_wp2
    go_ret
    exact ⟨_, rfl, World.ownsRow_nil _ _ _ _, Below.refl _ _⟩
  | some a =>
    go_enter Try.func66, Try.ntmps66
    go_wp2_with (at_builtin; refine wpList_app rfl _ _ rfl w.heap.size _ _ _ rfl hO _ _ _ _ rfl hA (by omega) (by simp) ?_; intro v1 w1 hown1 hb1)
    simp only [Nat.zero_add, List.nil_append] at hown1
    have hb2 := ((Below.refl w.heap.size w).alloc (Nat.le_refl _) _).trans hb1
    clear hb1 hO hA hq
    go_ret
    exact ⟨v1, rfl, hown1, hb2⟩

theorem new_reader (w : World) (t : TypeId) (bo : Option Addr) (n c : Nat) (xs : List Int) (hsl : Sl w bo n c xs) (hlt : ∀ a, bo = some a → 0 < n → a.block < w.heap.size) (hn : n ≤ 1000000) :
    R (w.alloc (.cells #[.slice bo n c, .int .i64 0] t)) w.heap.size w.heap.size xs 0 := by
  refine ⟨bo, n, c, ?_, ?_, ?_, ?_, hsl.below ((Below.refl _ w).alloc (Nat.le_refl _) _), hlt, Nat.le_refl _, hn⟩
  · go_simp
  · go_simp
  · go_simp
  · go_simp

set_option maxHeartbeats 400000 in
theorem read_any (w : World) (ao : Option Addr) (n cap : Nat) (xs : List Int) (h : Sl w ao n cap xs) (hr : n ≤ 1000000) :
    Calls Try.prog 35 #[.slice ao n cap] w fun e w' => ∃ p, e = .returned (.pointer (some ⟨p, 0, none⟩)) ∧ w.heap.size ≤ p ∧ R w' p p xs 0 ∧ Below w.heap.size w w' := by
  go_enter Try.func35, Try.ntmps35
  go_wp2_with fail
  refine (clone_any w ao n cap xs h (by omega)).mono ?_
  rintro e w1 ⟨v1, rfl, hown1, hb1⟩
  obtain ⟨bo, c2, rfl, hsl, hbo⟩ := Sl.own hown1 h.byte
  have hs := hb1.size
  have hfin := new_reader w1 89 bo n c2 xs hsl (fun a ha _ => (hbo a ha).2.1) hr
  have hb2 := hb1.alloc hs (.cells #[.slice bo n c2, .int .i64 0] 89)
  clear hown1 hsl hbo hb1
  go_wp2
  go_ret
  exact ⟨w1.heap.size, rfl, hs, hfin, hb2⟩
end Go.Proofs.Ytbfcilfdeemnpaa

/-
  Texts in one: Take, AppR, State, RLink, Thr, Meth, RUint, RMore, Take2.
-/
import Derived.Test.YtkjaapomaaakmaaGreatMessageBytesQ0
import Derived.Test.YtkjaapomaaakmaaGreatMessageBytesQ10
namespace Go.Proofs.YtkjaapomaaakmaaGreat
open Go.RowKit
theorem pow128 (i : Nat) : (128 : Nat) ^ i = 2 ^ (7 * i) := by rw [Nat.pow_mul]
theorem orShl (acc i : Nat) (c : Int) (hacc : acc < 128 ^ i) (hc : 0 ≤ c) (hi : i ≤ 9) (h9 : i = 9 → c ≤ 1) :
  bits BinOp.or IntKind.u64 (acc : Int) (IntKind.u64.wrap (c % 128 * 2 ^ (7 * i))) = ((acc + (c % 128).toNat * 128 ^ i : Nat) : Int) ∧ acc + (c % 128).toNat * 128 ^ i < 18446744073709551616 := by
 obtain ⟨x, hx⟩ : ∃ x : Nat, c % 128 = x := ⟨(c % 128).toNat, by omega⟩
 rw [hx]
 have hx1 : x < 128 := by omega
 have hx9 : i = 9 → x ≤ 1 := fun h => by have := h9 h; omega
 rw [pow128] at hacc ⊢
 have hpow : (2 : Nat) ^ (7 * i) ≤ 2 ^ 63 := Nat.pow_le_pow_right (by decide) (by omega)
 have hb : x * 2 ^ (7 * i) ≤ 18446744073709551615 - 2 ^ (7 * i) + 1 := by
  by_cases h : i = 9
  ·subst h
   have := hx9 rfl
   have : x = 0 ∨ x = 1 := by omega
   rcases this with rfl | rfl <;> decide
  ·have h56 : (2 : Nat) ^ (7 * i) ≤ 2 ^ 56 := Nat.pow_le_pow_right (by decide) (by omega)
   have : x * 2 ^ (7 * i) ≤ 127 * 2 ^ 56 := Nat.mul_le_mul (by omega) h56
   have : (2 : Nat) ^ 56 = 72057594037927936 := by decide
   omega
 have hp63 : (2 : Nat) ^ 63 = 9223372036854775808 := by decide
 have e1 : ((x : Nat) : Int) * 2 ^ (7 * i) = ((x * 2 ^ (7 * i) : Nat) : Int) := by
  rw [Int.natCast_mul, Int.natCast_pow]
  rfl
 rw [e1, IntKind.wrap_u64]
 rw [Int.toNat_natCast]
 generalize hA : 2 ^ (7 * i) = A at *
 have e2 : ((x * A : Nat) : Int) % 18446744073709551616 = ((x * A : Nat) : Int) := by omega
 rw [e2, bits_or_u64_nat acc (x * A) (by omega) (by omega)]
 have e3 : acc ||| x * A = acc + x * A := by
  subst hA
  rw [Nat.or_comm, Nat.mul_comm, ← Nat.two_pow_add_eq_or_of_lt hacc x, Nat.add_comm]
 rw [e3]
 exact ⟨rfl, by omega⟩
theorem tk_cons (i acc : Nat) (c : Int) (r : List Int) : tk i acc (c :: r) = if i = 9 ∧ 1 < c then (0, 0, 3) else if c = 0 ∧ 0 < i then (0, 0, 3) else if 128 ≤ c then tk (i + 1) (acc + (c % 128).toNat * 128 ^ i) r else (acc + (c % 128).toNat * 128 ^ i, i + 1, 0) := rfl
set_option maxHeartbeats 800000 in
set_option maxRecDepth 100000 in
theorem takeNumber_any (w : World) (ao : Option Addr) (n cap : Nat) (xs : List Int) (h : Sl w ao n cap xs) :
  Calls Tryz.prog 88 #[.slice ao n cap] w fun e w' =>
   e = .returned (.tuple #[.int .u64 ((tk 0 0 xs).1 : Nat), .int .i64 ((tk 0 0 xs).2.1 : Nat), .int .i64 ((tk 0 0 xs).2.2 : Nat)]) ∧ w' = w := by
 have hl := h.len
 have hle := h.le
 have hmx := h.mx
 unfold maxLen at hmx
 go_enter Tryz.func88, Tryz.ntmps88
 go_wp2
 refine wp_scope_label 0 (fun a' w' => w' = w ∧ ∃ (i acc : Nat) (u5 u6 u7 u8 u9 u10 u11 u12 u13 u14 u15 u16 u17 u18 u19 u20 u21 u22 u23 u24 u25 u26 u27 u28 u29 u30 u31 u32 u33 u34 u35 u36 u37 u38 u39 : Value), a' = { tmps := #[.slice ao n cap, undef, .int .u64 acc, .int .i64 i, .int .i64 0, u5, u6, u7, u8, u9, u10, u11, u12, u13, u14, u15, u16, u17, u18, u19, u20, u21, u22, u23, u24, u25, u26, u27, u28, u29, u30, u31, u32, u33, u34, u35, u36, u37, u38, u39], defers := [] } ∧ i ≤ n ∧ i ≤ 9 ∧ acc < 128 ^ i ∧ tk i acc (xs.drop i) = tk 0 0 xs) (fun a' _ => n - (intOf (a'.tmps.getD 3 undef)).toNat) ?_ ?_
 ·exact ⟨rfl, 0, 0, _, _, _, _, _, _, _, _, _, _, _, _, _, _, _, _, _, _, _, _, _, _, _, _, _, _, _, _, _, _, _, _, _, _, _, rfl, by omega, by omega, by decide, rfl⟩
 ·rintro a' w' ⟨rfl, i, acc, u5, u6, u7, u8, u9, u10, u11, u12, u13, u14, u15, u16, u17, u18, u19, u20, u21, u22, u23, u24, u25, u26, u27, u28, u29, u30, u31, u32, u33, u34, u35, u36, u37, u38, u39, rfl, hin, hi9, hacc, htk⟩
  have HT : Hid (tk i acc (xs.drop i) = tk 0 0 xs) := htk
  clear htk
  by_cases hend : i = n
  ·have hb : ((i : Int) == (n : Int)) = true := by simp [hend]
   have ht : tk 0 0 xs = (0, 0, 2) := by
    rw [← HT.out, List.drop_eq_nil_of_le (by omega)]
    rfl
   have HT2 : Hid (tk 0 0 xs = (0, 0, 2)) := ht
   clear ht
   go_wp2
   try simp only [Exit.jump]
   go_ret3
   rw [HT2.out]
   exact ⟨rfl, rfl⟩
  ·have hb : ((i : Int) == (n : Int)) = false := by simp; omega
   obtain ⟨b, off, rfl, hc⟩ := h.at (by omega)
   have c1 := hc i (by omega)
   have k1 : i < xs.length := by omega
   have hby := h.byte _ (List.getElem_mem k1)
   have hlt1 : (i : Int) < (n : Int) := by omega
   have hg : xs.getD i 0 = xs[i] := by simp [List.getD, k1]
   rw [hg] at c1
   have hd : xs.drop i = xs[i] :: xs.drop (i + 1) := List.drop_eq_getElem_cons k1
   have HD : Hid (xs.drop i = xs[i] :: xs.drop (i + 1)) := hd
   clear hc hd hg
   generalize xs[i] = c at c1 hby HD
   have ht := HT.out
   rw [HD.out, tk_cons] at ht
   by_cases hA : i = 9 ∧ 1 < c
   ·rw [if_pos hA] at ht
    obtain ⟨h9, h1⟩ := hA
    subst h9
    have HT2 : Hid ((0, 0, 3) = tk 0 0 xs) := ht
    clear ht
    go_wp2
    try simp only [Exit.jump]
    go_ret3
    rw [← HT2.out]
    exact ⟨rfl, rfl⟩
   ·rw [if_neg hA] at ht
    by_cases hB : c = 0 ∧ 0 < i
    ·rw [if_pos hB] at ht
     have HT2 : Hid ((0, 0, 3) = tk 0 0 xs) := ht
     obtain ⟨h0, hip⟩ := hB
     subst h0
     clear ht hA
     by_cases h9 : i = 9
     ·subst h9
      go_wp2
      try simp only [Exit.jump]
      go_ret3
      rw [← HT2.out]
      exact ⟨rfl, rfl⟩
     ·have hb9 : ((i : Int) == 9) = false := by simp; omega
      go_wp2
      try simp only [Exit.jump]
      go_ret3
      rw [← HT2.out]
      exact ⟨rfl, rfl⟩
    ·rw [if_neg hB] at ht
     obtain ⟨ho, hsum⟩ := orShl acc i c hacc (by omega) hi9 (by omega)
     have hpw : acc + (c % 128).toNat * 128 ^ i < 128 ^ (i + 1) := by
      have h1 : (c % 128).toNat * 128 ^ i ≤ 127 * 128 ^ i := Nat.mul_le_mul (by omega) (Nat.le_refl _)
      rw [Nat.pow_succ]
      omega
     generalize acc + (c % 128).toNat * 128 ^ i = s at ho hsum ht hpw
     by_cases hC : 128 ≤ c
     ·have h9 : ((i : Int) == 9) = false := by simp; omega
      have h0 : (c == 0) = false := by simp; omega
      rw [if_pos hC] at ht
      have HT2 : Hid (_ = tk 0 0 xs) := ht
      have hi8 : i ≤ 8 := by omega
      clear hA hB ht
      go_wp2
      go_step3
      rw [show ((i : Int) + 1) = ((i + 1 : Nat) : Int) from by omega]
      refine ⟨rfl, ⟨rfl, i + 1, s, _, _, _, _, _, _, _, _, _, _, _, _, _, _, _, _, _, _, _, _, _, _, _, _, _, _, _, _, _, _, _, _, _, _, _, rfl, by omega, by omega, hpw, HT2.out⟩, ?_⟩
      simp [intOf]
      omega
     ·rw [if_neg hC] at ht
      have HT2 : Hid (_ = tk 0 0 xs) := ht
      clear ht
      by_cases h9 : i = 9
      ·have hb9 : ((i : Int) == 9) = true := by simp; omega
       have hc1 : c ≤ 1 := by omega
       have h0 : (c == 0) = false := by simp; omega
       have h9l : 9 ≤ i := by omega
       clear hA hB h9
       go_wp2
       try simp only [Exit.jump]
       go_ret3
       rw [← HT2.out]
       exact ⟨rfl, rfl⟩
      ·have hb9 : ((i : Int) == 9) = false := by simp; omega
       clear hA
       by_cases h0 : c = 0
       ·have hb0 : (c == 0) = true := by simp; omega
        have hc0 : c ≤ 0 := by omega
        have hi0 : i ≤ 0 := by omega
        clear hB h0
        go_wp2
        try simp only [Exit.jump]
        go_ret3
        rw [← HT2.out]
        exact ⟨rfl, rfl⟩
       ·have h0 : (c == 0) = false := by simp; omega
        clear hB
        go_wp2
        try simp only [Exit.jump]
        go_ret3
        rw [← HT2.out]
        exact ⟨rfl, rfl⟩
open Go.RowKit
theorem grown_trans {a b c : World} {r : Option Nat} (h : a.grownBy b r) (k : b.grownBy c r) : a.grownBy c r :=
 ⟨k.os.trans h.os, k.tape.trans h.tape, k.output.trans h.output, Nat.le_trans h.size k.size, fun i hi hne => (k.block i (Nat.lt_of_lt_of_le hi h.size) hne).trans (h.block i hi hne)⟩
theorem grown_below {a b : World} {r : Option Nat} (h : Below a.heap.size a b) : a.grownBy b r := ⟨h.os, h.tape, h.output, h.size, fun i hi _ => h.block i hi⟩
theorem below_grown {a b : World} {B p : Nat} (h : a.grownBy b (some p)) (hB : B ≤ a.heap.size) (hp : B ≤ p) : Below B a b :=
 ⟨h.os, h.tape, h.output, h.size, fun i hi => h.block i (by omega) (by simp; omega)⟩
open Go.RowKit
structure Rd (w : World) (p L : Nat) (ao : Option Addr) (n cap : Nat) (xs : List Int) (k : Int) : Prop where
 c0 : w.cell? ⟨p, 0, none⟩ = some (.slice ao n cap)
 c1 : w.cell? ⟨p, 1, none⟩ = some (.int .i64 k)
 f0 : w.frozen? ⟨p, 0, none⟩ = false
 f1 : w.frozen? ⟨p, 1, none⟩ = false
 sl : Sl w ao n cap xs
 low : ∀ a, ao = some a → 0 < n → a.block < L
 le : L ≤ p
 sm : n ≤ 1000000
def R (w : World) (p L : Nat) (xs : List Int) (k : Int) : Prop := ∃ ao n cap, Rd w p L ao n cap xs k
theorem Rd.plt {w : World} {p L : Nat} {ao : Option Addr} {n cap : Nat} {xs : List Int} {k : Int} (h : Rd w p L ao n cap xs k) : p < w.heap.size := World.block_lt_of_cell? w _ h.c0
theorem Rd.below {w w' : World} {p L : Nat} {ao : Option Addr} {n cap : Nat} {xs : List Int} {k : Int} (h : Rd w p L ao n cap xs k) (hb : Below w.heap.size w w') : Rd w' p L ao n cap xs k :=
 ⟨(hb.cell (p := ⟨p, 0, none⟩) h.plt).trans h.c0, (hb.cell (p := ⟨p, 1, none⟩) h.plt).trans h.c1, (hb.frozen (p := ⟨p, 0, none⟩) h.plt).trans h.f0, (hb.frozen (p := ⟨p, 1, none⟩) h.plt).trans h.f1, h.sl.below hb, h.low, h.le, h.sm⟩
theorem R.below {w w' : World} {p L : Nat} {xs : List Int} {k : Int} (h : R w p L xs k) (hb : Below w.heap.size w w') : R w' p L xs k := by
 obtain ⟨ao, n, cap, h⟩ := h
 exact ⟨ao, n, cap, h.below hb⟩
theorem Sl.keep {w w' : World} {L q : Nat} {ao : Option Addr} {n cap : Nat} {xs : List Int} (h : Sl w ao n cap xs) (low : ∀ a, ao = some a → 0 < n → a.block < L) (hL : L ≤ q) (hg : w.grownBy w' (some q)) : Sl w' ao n cap xs := by
 refine ⟨h.len, h.le, h.mx, h.nil, fun a ha i hi => hg.cell (h.cell a ha i hi) ?_, h.byte⟩
 have := low a ha (by omega)
 have e : (a.add i).block = a.block := by unfold Addr.add; split <;> rfl
 rw [e]
 simp
 omega
theorem R.keep {w w' : World} {p L q : Nat} {xs : List Int} {k : Int} (h : R w p L xs k) (hne : p ≠ q) (hL : L ≤ q) (hg : w.grownBy w' (some q)) : R w' p L xs k := by
 obtain ⟨ao, n, cap, h⟩ := h
 have hb : w'.heap[p]? = w.heap[p]? := hg.block p h.plt (by simp; omega)
 exact ⟨ao, n, cap, hg.cell h.c0 (by simp; omega), hg.cell h.c1 (by simp; omega), (World.frozen?_of_block (a := ⟨p, 0, none⟩) hb).trans h.f0, (World.frozen?_of_block (a := ⟨p, 1, none⟩) hb).trans h.f1, h.sl.keep h.low hL hg, h.low, h.le, h.sm⟩
theorem Sl.drop {w : World} {ao : Option Addr} {n cap : Nat} {xs : List Int} (h : Sl w ao n cap xs) (u : Nat) (hu : u ≤ n) : Sl w (ao.map (fun x => x.add u)) (n - u) (cap - u) (xs.drop u) := by
 have h1 := h.le
 have h2 := h.mx
 refine ⟨by rw [List.length_drop, h.len], by omega, by omega, fun hn => ?_, fun a ha i hi => ?_, h.byte.drop u⟩
 ·have := h.nil (by simpa using hn)
  omega
 ·obtain ⟨b, off, rfl, hc⟩ := h.at (by omega)
  simp only [Option.map_some, Option.some.injEq] at ha
  subst ha
  rw [Addr.add_lit, Addr.add_lit, Nat.add_assoc, hc (u + i) (by omega)]
  simp [List.getD]
theorem Sl.dropAll {w : World} {ao : Option Addr} {n : Nat} {xs : List Int} {u : Nat} (h : Sl w ao n u xs) (hu : u ≤ n) : Sl w ao (n - u) 0 (xs.drop u) := by
 have h1 := h.le
 refine ⟨by rw [List.length_drop, h.len], by omega, Nat.zero_le _, fun hn => ⟨?_, rfl⟩, fun a ha i hi => by omega, h.byte.drop u⟩
 omega
theorem low_drop {ao : Option Addr} {n L u m : Nat} (h : ∀ a, ao = some a → 0 < n → a.block < L) (hm : m ≤ n) : ∀ a, ao.map (fun x => x.add u) = some a → 0 < m → a.block < L := by
 intro a ha hp
 cases ao with
 | none => simp at ha
 | some x =>
  simp only [Option.map_some, Option.some.injEq] at ha
  subst ha
  have e : (x.add u).block = x.block := by unfold Addr.add; split <;> rfl
  rw [e]
  exact h x rfl (by omega)
theorem grown_setCell (w : World) (p o : Nat) (v : Value) : w.grownBy (w.setCell ⟨p, o, none⟩ v) (some p) :=
 ⟨rfl, rfl, rfl, by simp, fun k _ hne => Below.heap_setCell _ _ _ _ (by simpa using hne)⟩
theorem Rd.rest {w : World} {p L : Nat} {ao : Option Addr} {n cap : Nat} {xs : List Int} {k : Int} (h : Rd w p L ao n cap xs k) {bo : Option Addr} {m c : Nat} {ys : List Int} (hs : Sl w bo m c ys) (hlow : ∀ a, bo = some a → 0 < m → a.block < L) (hm : m ≤ n) :
  Rd (w.setCell ⟨p, 0, none⟩ (.slice bo m c)) p L bo m c ys k :=
 ⟨World.cell?_setCell_same _ _ _ h.c0, (World.cell?_setCell_other _ _ _ _ (by simp)).trans h.c1, by simpa using h.f0, by simpa using h.f1, hs.keep hlow h.le (grown_setCell _ _ _ _), hlow, h.le, Nat.le_trans hm h.sm⟩
theorem Rd.wrong {w : World} {p L : Nat} {ao : Option Addr} {n cap : Nat} {xs : List Int} {k : Int} (h : Rd w p L ao n cap xs k) (q : Int) :
  Rd (w.setCell ⟨p, 1, none⟩ (.int .i64 q)) p L ao n cap xs q :=
 ⟨(World.cell?_setCell_other _ _ _ _ (by simp)).trans h.c0, World.cell?_setCell_same _ _ _ h.c1, by simpa using h.f0, by simpa using h.f1, h.sl.keep h.low h.le (grown_setCell _ _ _ _), h.low, h.le, h.sm⟩
theorem uintS_bad {xs : List Int} {k : Int} (h : pUint xs = .inl k) : uintS xs 0 = (0, [], k) ∧ k ≠ 0 := by
 unfold pUint at h
 unfold uintS
 by_cases c : (tk 0 0 xs).2.2 = 0
 ·rw [if_pos c] at h; simp at h
 ·rw [if_neg c] at h
  rw [if_pos rfl, if_neg c, Sum.inl.inj h]
  refine ⟨rfl, ?_⟩
  rw [← Sum.inl.inj h]
  omega
theorem uintS_ok {xs r : List Int} {n : Nat} (h : pUint xs = .inr (n, r)) : uintS xs 0 = (n, r, 0) := by
 unfold pUint at h
 unfold uintS
 by_cases c : (tk 0 0 xs).2.2 = 0
 ·rw [if_pos c] at h
  have := Sum.inr.inj h
  rw [if_pos rfl, if_pos c, (Prod.mk.inj this).1, (Prod.mk.inj this).2]
 ·rw [if_neg c] at h; simp at h
theorem intS_bad {xs : List Int} {k : Int} {most : Nat} (h : pInt most xs = .inl k) : intS xs 0 most = (0, [], k) ∧ k ≠ 0 := by
 unfold pInt then_ at h
 unfold intS
 match e : pUint xs, h with
 | .inl q, h =>
  obtain ⟨e1, e2⟩ := uintS_bad e
  obtain rfl := Sum.inl.inj h
  rw [e1]
  simp [e2]
 | .inr (n, r), h =>
  have e1 := uintS_ok e
  simp only at h
  by_cases c : most < n
  ·rw [if_pos c] at h
   obtain rfl := Sum.inl.inj h
   rw [e1]
   simp only [if_true]
   rw [if_pos (by omega)]
   simp
  ·rw [if_neg c] at h; simp at h
theorem intS_ok {xs r : List Int} {n most : Nat} (h : pInt most xs = .inr (n, r)) : intS xs 0 most = (n, r, 0) ∧ n ≤ most := by
 unfold pInt then_ at h
 unfold intS
 match e : pUint xs, h with
 | .inl q, h => simp at h
 | .inr (m, s), h =>
  have e1 := uintS_ok e
  simp only at h
  by_cases c : most < m
  ·rw [if_pos c] at h; simp at h
  ·rw [if_neg c] at h
   have := Prod.mk.inj (Sum.inr.inj h)
   obtain ⟨rfl, rfl⟩ := this
   rw [e1]
   simp only [if_true]
   rw [if_neg (by omega)]
   exact ⟨rfl, by omega⟩
theorem bytesS_bad {xs : List Int} {k : Int} {most : Nat} (h : pBytes most xs = .inl k) : bytesS xs 0 most = ([], [], k) ∧ k ≠ 0 := by
 unfold pBytes then_ at h
 unfold bytesS
 match e : pInt most xs, h with
 | .inl q, h =>
  obtain ⟨e1, e2⟩ := intS_bad e
  obtain rfl := Sum.inl.inj h
  rw [e1]
  simp [e2]
 | .inr (n, r), h =>
  have e1 := (intS_ok e).1
  simp only at h
  by_cases c : r.length < n
  ·rw [if_pos c] at h
   obtain rfl := Sum.inl.inj h
   rw [e1]
   simp only [if_true]
   rw [if_pos c]
   simp
  ·rw [if_neg c] at h; simp at h
theorem bytesS_ok {xs r l : List Int} {most : Nat} (h : pBytes most xs = .inr (l, r)) : bytesS xs 0 most = (l, r, 0) ∧ l.length ≤ most := by
 unfold pBytes then_ at h
 unfold bytesS
 match e : pInt most xs, h with
 | .inl q, h => simp at h
 | .inr (m, s), h =>
  obtain ⟨e1, e2⟩ := intS_ok e
  simp only at h
  by_cases c : s.length < m
  ·rw [if_pos c] at h; simp at h
  ·rw [if_neg c] at h
   have := Prod.mk.inj (Sum.inr.inj h)
   obtain ⟨rfl, rfl⟩ := this
   rw [e1]
   simp only [if_true]
   rw [if_neg c]
   refine ⟨rfl, ?_⟩
   rw [List.length_take]
   omega
theorem boolS_bad {xs : List Int} {k : Int} (h : pBool xs = .inl k) : boolS xs 0 = (false, [], k) ∧ k ≠ 0 := by
 cases xs with
 | nil =>
  obtain rfl := Sum.inl.inj h
  exact ⟨rfl, by decide⟩
 | cons c r =>
  simp only [pBool] at h
  by_cases d : 1 < c
  ·rw [if_pos d] at h
   obtain rfl := Sum.inl.inj h
   refine ⟨?_, by decide⟩
   simp [boolS, d]
  ·rw [if_neg d] at h; simp at h
theorem boolS_ok {xs r : List Int} {b : Bool} (h : pBool xs = .inr (b, r)) : boolS xs 0 = (b, r, 0) := by
 cases xs with
 | nil => simp [pBool] at h
 | cons c s =>
  simp only [pBool] at h
  by_cases d : 1 < c
  ·rw [if_pos d] at h; simp at h
  ·rw [if_neg d] at h
   have := Prod.mk.inj (Sum.inr.inj h)
   obtain ⟨rfl, rfl⟩ := this
   simp [boolS, d]
theorem uintS_stuck {xs : List Int} {k : Int} (h : k ≠ 0) : uintS xs k = (0, xs, k) := by
 unfold uintS; rw [if_neg h]
theorem intS_stuck {xs : List Int} {k : Int} (h : k ≠ 0) (most : Int) : intS xs k most = (0, xs, k) := by
 unfold intS; rw [uintS_stuck h]; simp [h]
theorem bytesS_stuck {xs : List Int} {k : Int} (h : k ≠ 0) (most : Int) : bytesS xs k most = ([], xs, k) := by
 unfold bytesS; rw [intS_stuck h]; simp [h]
theorem boolS_stuck {xs : List Int} {k : Int} (h : k ≠ 0) : boolS xs k = (false, xs, k) := by
 unfold boolS; rw [if_neg h]
abbrev Th (α : Type) := List Int → Int → α × List Int × Int
structure Thr {α : Type} (P : List Int → Rs α) (f : Th α) : Prop where
 ok : ∀ xs v r, P xs = .inr (v, r) → f xs 0 = (v, r, 0)
 bad : ∀ xs q, P xs = .inl q → (f xs 0).2.2 = q ∧ q ≠ 0
 stuck : ∀ xs k, k ≠ 0 → (f xs k).2.2 = k
def andT {α β : Type} (f : Th α) (g : Th β) : Th (α × β) := fun xs k => (((f xs k).1, (g (f xs k).2.1 (f xs k).2.2).1), (g (f xs k).2.1 (f xs k).2.2).2)
theorem Thr.andThen {α β : Type} {P : List Int → Rs α} {Q : List Int → Rs β} {f : Th α} {g : Th β} (h : Thr P f) (k : Thr Q g) : Thr (andThen P fun _ => Q) (andT f g) := by
 refine ⟨?_, ?_, ?_⟩
 ·rintro xs ⟨a, b⟩ r hx
  obtain ⟨a', r', e1, hx⟩ := then_good hx
  obtain ⟨b', r'', e2, hx⟩ := then_good hx
  simp only [Sum.inr.injEq, Prod.mk.injEq] at hx
  obtain ⟨⟨rfl, rfl⟩, rfl⟩ := hx
  unfold andT
  rw [h.ok _ _ _ e1]
  simp only
  rw [k.ok _ _ _ e2]
 ·intro xs q hx
  unfold Go.Proofs.YtkjaapomaaakmaaGreat.andThen then_ at hx
  unfold andT
  match e : P xs, hx with
  | .inl q', hx =>
   obtain rfl := Sum.inl.inj hx
   obtain ⟨e1, e2⟩ := h.bad _ _ e
   refine ⟨?_, e2⟩
   rw [← e1] at e2 ⊢
   exact k.stuck _ _ e2
  | .inr (v, r), hx =>
   rw [h.ok _ _ _ e]
   simp only at hx ⊢
   match e' : Q r, hx with
   | .inl q', hx =>
    obtain rfl := Sum.inl.inj hx
    exact k.bad _ _ e'
   | .inr (v', r'), hx => simp at hx
 ·intro xs q hq
  have e1 := h.stuck xs q hq
  have e2 : (f xs q).2.2 ≠ 0 := by rw [e1]; exact hq
  exact (k.stuck _ _ e2).trans e1
def mapT {α β : Type} (t : α → β) (f : Th α) : Th β := fun xs k => (t (f xs k).1, (f xs k).2)
theorem Thr.map {α β : Type} {P : List Int → Rs α} {f : Th α} (h : Thr P f) (t : α → β) : Thr (fun xs => dress t (P xs)) (mapT t f) := by
 refine ⟨?_, ?_, ?_⟩
 ·intro xs b r hx
  obtain ⟨a, e, rfl⟩ := dress_good hx
  unfold mapT
  rw [h.ok _ _ _ e]
 ·intro xs q hx
  unfold mapT
  match e : P xs, hx with
  | .inl q', hx =>
   obtain rfl := Sum.inl.inj hx
   exact h.bad _ _ e
  | .inr (v, r), hx =>
   simp [dress] at hx
 ·intro xs q hq
  exact h.stuck xs q hq
def intT' (most : Nat) : Th Nat := fun xs k => intS xs k most
def byT (most : Nat) : Th (List Int) := fun xs k => bytesS xs k most
def txT (most : Nat) : Th ByteArray := mapT strOfNums (byT most)
theorem thr_uint : Thr pUint uintS := ⟨fun _ _ _ h => uintS_ok h, fun _ _ h => by rw [(uintS_bad h).1]; exact ⟨rfl, (uintS_bad h).2⟩, fun _ _ h => by rw [uintS_stuck h]⟩
theorem thr_int (most : Nat) : Thr (pInt most) (intT' most) := ⟨fun _ _ _ h => (intS_ok h).1, fun _ _ h => by show (intS _ 0 most).2.2 = _ ∧ _; rw [(intS_bad h).1]; exact ⟨rfl, (intS_bad h).2⟩, fun _ _ h => by show (intS _ _ _).2.2 = _; rw [intS_stuck h]⟩
theorem thr_bytes (most : Nat) : Thr (pBytes most) (byT most) := ⟨fun _ _ _ h => (bytesS_ok h).1, fun _ _ h => by show (bytesS _ 0 most).2.2 = _ ∧ _; rw [(bytesS_bad h).1]; exact ⟨rfl, (bytesS_bad h).2⟩, fun _ _ h => by show (bytesS _ _ _).2.2 = _; rw [bytesS_stuck h]⟩
theorem thr_bool : Thr pBool boolS := ⟨fun _ _ _ h => boolS_ok h, fun _ _ h => by rw [(boolS_bad h).1]; exact ⟨rfl, (boolS_bad h).2⟩, fun _ _ h => by rw [boolS_stuck h]⟩
theorem thr_text (most : Nat) : Thr (pText most) (txT most) := (thr_bytes most).map strOfNums
def keyT : Th (ByteArray × ByteArray × ByteArray × Nat) := andT (txT 32) (andT (txT 32) (andT (txT 32) uintS))
def rawT (most : Nat) : Th Raw := andT (intT' 100) (andT (txT 32) (andT (txT 32) (andT (txT 32) (andT uintS (andT (txT 32) (andT (byT 256) (andT (byT 256) (andT boolS (intT' most)))))))))
theorem thr_raw (most : Nat) : Thr (pRaw most) (rawT most) :=
 (thr_int 100).andThen ((thr_text 32).andThen ((thr_text 32).andThen ((thr_text 32).andThen (thr_uint.andThen ((thr_text 32).andThen ((thr_bytes 256).andThen ((thr_bytes 256).andThen (thr_bool.andThen (thr_int most)))))))))
def sT (most : Nat) : Th SN := mapT toS (rawT most)
theorem thr_s (most : Nat) : Thr (pS most) (sT most) := (thr_raw most).map toS
def andD {α β : Type} (f : Th α) (g : α → Th β) : Th (α × β) := fun xs k => (((f xs k).1, (g (f xs k).1 (f xs k).2.1 (f xs k).2.2).1), (g (f xs k).1 (f xs k).2.1 (f xs k).2.2).2)
theorem Thr.dep {α β : Type} {P : List Int → Rs α} {Q : α → List Int → Rs β} {f : Th α} {g : α → Th β} (h : Thr P f) (k : ∀ a, Thr (Q a) (g a)) : Thr (Go.Proofs.YtkjaapomaaakmaaGreat.andThen P Q) (andD f g) := by
 refine ⟨?_, ?_, ?_⟩
 ·rintro xs ⟨a, b⟩ r hx
  obtain ⟨a', r', e1, hx⟩ := then_good hx
  obtain ⟨b', r'', e2, hx⟩ := then_good hx
  simp only [Sum.inr.injEq, Prod.mk.injEq] at hx
  obtain ⟨⟨rfl, rfl⟩, rfl⟩ := hx
  unfold andD
  rw [h.ok _ _ _ e1]
  simp only
  rw [(k _).ok _ _ _ e2]
 ·intro xs q hx
  unfold Go.Proofs.YtkjaapomaaakmaaGreat.andThen then_ at hx
  unfold andD
  match e : P xs, hx with
  | .inl q', hx =>
   obtain rfl := Sum.inl.inj hx
   obtain ⟨e1, e2⟩ := h.bad _ _ e
   refine ⟨?_, e2⟩
   rw [← e1] at e2 ⊢
   exact (k _).stuck _ _ e2
  | .inr (v, r), hx =>
   rw [h.ok _ _ _ e]
   simp only at hx ⊢
   match e' : Q v r, hx with
   | .inl q', hx =>
    obtain rfl := Sum.inl.inj hx
    exact (k _).bad _ _ e'
   | .inr (v', r'), hx => simp at hx
 ·intro xs q hq
  have e1 := h.stuck xs q hq
  have e2 : (f xs q).2.2 ≠ 0 := by rw [e1]; exact hq
  exact ((k _).stuck _ _ e2).trans e1
def repT {α : Type} (f : Th α) : Nat → Th (List α)
 | 0 => fun xs k => ([], xs, k)
 | n + 1 => fun xs k => ((f xs k).1 :: (repT f n (f xs k).2.1 (f xs k).2.2).1, (repT f n (f xs k).2.1 (f xs k).2.2).2)
theorem Thr.rep {α : Type} {P : List Int → Rs α} {f : Th α} (h : Thr P f) : ∀ n, Thr (pRep P n) (repT f n)
 | 0 => ⟨fun xs v r e => by simp only [pRep, Sum.inr.injEq, Prod.mk.injEq] at e; rw [← e.1, ← e.2]; rfl, fun xs q e => by simp [pRep] at e, fun _ _ _ => rfl⟩
 | n + 1 => by
  have ih := h.rep n
  refine ⟨?_, ?_, ?_⟩
  ·rintro xs l r hx
   obtain ⟨a, r', e1, hx⟩ := then_good hx
   obtain ⟨l', r'', e2, hx⟩ := then_good hx
   simp only [Sum.inr.injEq, Prod.mk.injEq] at hx
   obtain ⟨rfl, rfl⟩ := hx
   unfold repT
   rw [h.ok _ _ _ e1]
   simp only
   rw [ih.ok _ _ _ e2]
  ·intro xs q hx
   unfold pRep then_ at hx
   unfold repT
   match e : P xs, hx with
   | .inl q', hx =>
    obtain rfl := Sum.inl.inj hx
    obtain ⟨e1, e2⟩ := h.bad _ _ e
    refine ⟨?_, e2⟩
    rw [← e1] at e2 ⊢
    exact ih.stuck _ _ e2
   | .inr (v, r), hx =>
    rw [h.ok _ _ _ e]
    simp only at hx ⊢
    match e' : pRep P n r, hx with
    | .inl q', hx =>
     obtain rfl := Sum.inl.inj hx
     exact ih.bad _ _ e'
    | .inr (v', r'), hx => simp at hx
  ·intro xs q hq
   have e1 := h.stuck xs q hq
   have e2 : (f xs q).2.2 ≠ 0 := by rw [e1]; exact hq
   exact (ih.stuck _ _ e2).trans e1
theorem repT_snoc {α : Type} (f : Th α) : ∀ (n : Nat) (xs : List Int) (k : Int), repT f (n + 1) xs k = ((repT f n xs k).1 ++ [(f (repT f n xs k).2.1 (repT f n xs k).2.2).1], (f (repT f n xs k).2.1 (repT f n xs k).2.2).2)
 | 0, xs, k => rfl
 | n + 1, xs, k => by
  have := repT_snoc f n (f xs k).2.1 (f xs k).2.2
  show ((f xs k).1 :: (repT f (n + 1) (f xs k).2.1 (f xs k).2.2).1, (repT f (n + 1) (f xs k).2.1 (f xs k).2.2).2) = _
  rw [this]
  rfl
def opTh : Th OP := mapT toP (andD (sT 8) fun p => repT (sT 0) p.2)
theorem thr_p : Thr pP opTh := ((thr_s 8).dep fun p => (thr_s 0).rep p.2).map toP
def reqTh : Th QV := andT uintS (andT uintS opTh)
theorem thr_q : Thr pQ reqTh := thr_uint.andThen (thr_uint.andThen thr_p)
def rdT {α : Type} (f : Th α) (kind : α → Int) (xs : List Int) : Sum Int α :=
 if doneS (f xs 0).2.1 (f xs 0).2.2 = 0 then (if kind (f xs 0).1 = 0 then .inr (f xs 0).1 else .inl (kind (f xs 0).1)) else .inl (doneS (f xs 0).2.1 (f xs 0).2.2)
theorem rd_thr {α : Type} {P : List Int → Rs α} {f : Th α} (h : Thr P f) (kind : α → Int) (xs : List Int) : rdAll P kind xs = rdT f kind xs := by
 unfold rdAll rdT
 match e : P xs with
 | .inl q =>
  obtain ⟨e1, e2⟩ := h.bad _ _ e
  rw [e1]
  unfold doneS
  rw [if_neg e2, if_neg e2]
 | .inr (v, r) =>
  rw [h.ok _ _ _ e]
  simp only
  unfold doneS
  by_cases c : r = []
  ·rw [if_pos c, if_pos rfl, if_pos c, if_pos rfl]
  ·rw [if_neg c, if_pos rfl, if_neg c]
   simp
theorem intS_le (xs : List Int) (k : Int) (most : Nat) : (intS xs k most).1 ≤ most := by
 unfold intS
 split
 ·split
  ·simp
  ·rename_i h
   simp only [not_or] at h
   omega
 ·simp
theorem bytesS_le (xs : List Int) (k : Int) (most : Nat) : (bytesS xs k most).1.length ≤ most := by
 unfold bytesS
 have := intS_le xs k most
 split
 ·split
  ·simp
  ·simp only [List.length_take]
   omega
 ·simp
theorem bytesS_byt {xs : List Int} (h : Byt xs) (k : Int) (most : Nat) : Byt (bytesS xs k most).1 ∧ Byt (bytesS xs k most).2.1 := by
 have hu : Byt (uintS xs k).2.1 := by
  unfold uintS
  split
  ·split
   ·exact h.drop _
   ·intro x hx; simp at hx
  ·exact h
 have hi : Byt (intS xs k most).2.1 := by
  unfold intS
  split
  ·split
   ·intro x hx; simp at hx
   ·exact hu
  ·exact hu
 unfold bytesS
 split
 ·split
  ·exact ⟨fun x hx => by simp at hx, fun x hx => by simp at hx⟩
  ·exact ⟨hi.take _, hi.drop _⟩
 ·exact ⟨fun x hx => by simp at hx, hi⟩
theorem str_size {l : List Int} (h : Byt l) : (strOfNums l).size = l.length := by rw [← sb_len, sb_str h]
open Go.RowKit
theorem failed_any (w : World) (p : Nat) (k : Int) (h : w.cell? ⟨p, 1, none⟩ = some (.int .i64 k)) : Calls Tryz.prog 86 #[.pointer (some ⟨p, 0, none⟩)] w fun e w' => e = .returned (.bool (k != 0)) ∧ w' = w := by
 go_enter Tryz.func86, Tryz.ntmps86
 go_wp2
 go_ret
 exact ⟨rfl, rfl⟩
theorem fail_not (w : World) (p : Nat) (k q : Int) (h : w.cell? ⟨p, 1, none⟩ = some (.int .i64 k)) (hq : k ≠ 0 ∨ q = 0) : Calls Tryz.prog 87 #[.pointer (some ⟨p, 0, none⟩), .int .i64 q] w fun e w' => e = .returned (.tuple #[]) ∧ w' = w := by
 by_cases hk : k = 0
 ·have hb : (k != 0) = false := by simp [hk]
  have hq0 : (q == 0) = true := by simp; omega
  clear hk hq
  go_enter Tryz.func87, Tryz.ntmps87
  go_wp2_with (go_at_call 86; refine (failed_any _ p k h).mono ?_; rintro e w' ⟨rfl, rfl⟩)
  (try simp only [Exit.inBlock, Exit.then]); refine bodyPost_ret (results_none rfl _ _ _) rfl ?_
  exact ⟨rfl, rfl⟩
 ·have hb : (k != 0) = true := by simp [hk]
  clear hk hq
  go_enter Tryz.func87, Tryz.ntmps87
  go_wp2_with (go_at_call 86; refine (failed_any _ p k h).mono ?_; rintro e w' ⟨rfl, rfl⟩)
  (try simp only [Exit.inBlock, Exit.then]); refine bodyPost_ret (results_none rfl _ _ _) rfl ?_
  exact ⟨rfl, rfl⟩
theorem fail_any (w : World) (p L : Nat) (xs : List Int) (q : Int) (h : R w p L xs 0) (hq : q ≠ 0) : Calls Tryz.prog 87 #[.pointer (some ⟨p, 0, none⟩), .int .i64 q] w fun e w' => e = .returned (.tuple #[]) ∧ R w' p L [] q ∧ w.grownBy w' (some p) := by
 obtain ⟨ao, n, cap, hr⟩ := h
 have h0 := hr.c0
 have h1 := hr.c1
 have f0 := hr.f0
 have f1 := hr.f1
 have hb : (q == 0) = false := by simp [hq]
 have hfin : R ((w.setCell ⟨p, 1, none⟩ (.int .i64 q)).setCell ⟨p, 0, none⟩ (.slice none 0 0)) p L [] q :=
  ⟨none, 0, 0, (hr.wrong q).rest (Sl.nothing _) (fun a ha => by simp at ha) (Nat.zero_le _)⟩
 have hgr := grown_trans (grown_setCell w p 1 (.int .i64 q)) (grown_setCell (w.setCell ⟨p, 1, none⟩ (.int .i64 q)) p 0 (.slice none 0 0))
 clear hr hq
 go_enter Tryz.func87, Tryz.ntmps87
 go_wp2_with (go_at_call 86; refine (failed_any _ p 0 h1).mono ?_; rintro e w' ⟨rfl, rfl⟩)
 go_end0
 exact ⟨rfl, hfin, hgr⟩
theorem done_any (w : World) (p L : Nat) (xs : List Int) (k : Int) (h : R w p L xs k) : Calls Tryz.prog 51 #[.pointer (some ⟨p, 0, none⟩)] w fun e w' => e = .returned (.int .i64 (doneS xs k)) ∧ w' = w := by
 obtain ⟨ao, n, cap, hr⟩ := h
 have h0 := hr.c0
 have h1 := hr.c1
 have hl := hr.sl.len
 clear hr
 by_cases hk : k = 0
 ·subst hk
  cases xs with
  | nil =>
   have hn : n = 0 := by simpa using hl.symm
   subst hn
   clear hl
   go_enter Tryz.func51, Tryz.ntmps51
   go_wp2
   go_ret
   exact ⟨rfl, rfl⟩
  | cons c r =>
   have hn : 0 < n := by rw [← hl]; simp
   clear hl
   go_enter Tryz.func51, Tryz.ntmps51
   go_wp2
   go_ret
   exact ⟨rfl, rfl⟩
 ·have hb : (k == 0) = false := by simp [hk]
  have hd : doneS xs k = k := by simp [doneS, hk]
  rw [hd]
  clear hk hd
  go_enter Tryz.func51, Tryz.ntmps51
  go_wp2
  go_ret
  exact ⟨rfl, rfl⟩
open Go.RowKit
theorem uint_any (w : World) (p L : Nat) (xs : List Int) (k : Int) (h : R w p L xs k) : Calls Tryz.prog 46 #[.pointer (some ⟨p, 0, none⟩)] w fun e w' =>
  e = .returned (.int .u64 ((uintS xs k).1 : Nat)) ∧ R w' p L (uintS xs k).2.1 (uintS xs k).2.2 ∧ w.grownBy w' (some p) := by
 have hR := h
 obtain ⟨ao, n, cap, hr⟩ := h
 have h0 := hr.c0
 have h1 := hr.c1
 have f0 := hr.f0
 by_cases hk : k = 0
 ·subst hk
  have ht := takeNumber_any w ao n cap xs hr.sl
  have hu := tk_used xs 0 0
  unfold uintS
  rw [if_pos rfl]
  have HT : Hid (Calls _ _ _ _ _) := ht
  clear ht
  generalize tk 0 0 xs = T at *
  obtain ⟨m, u, q⟩ := T
  simp only at hu HT ⊢
  by_cases hq : q = 0
  ·subst hq
   have hu := hu rfl
   rw [if_pos rfl]
   have hl := hr.sl.len
   have hle := hr.sl.le
   have hmx := hr.sl.mx
   unfold maxLen at hmx
   go_enter Tryz.func46, Tryz.ntmps46
   go_wp2_with (first | (go_at_call 86; refine (failed_any _ p 0 h1).mono ?_; rintro e w' ⟨rfl, rfl⟩) | (go_at_call 88; refine HT.out.mono ?_; rintro e w' ⟨rfl, rfl⟩))
   ·have hfin : R (w'.setCell ⟨p, 0, none⟩ (.slice ao (n - u) 0)) p L (xs.drop u) 0 := by
     have hcu : cap = u := by assumption
     subst hcu
     exact ⟨_, _, _, hr.rest (hr.sl.dropAll (by omega)) (fun a ha hp => by omega) (by omega)⟩
    go_ret
    exact ⟨rfl, hfin, grown_setCell _ _ _ _⟩
   ·have hfin : R (w'.setCell ⟨p, 0, none⟩ (.slice (ao.map (fun x => x.add u)) (n - u) (cap - u))) p L (xs.drop u) 0 :=
     ⟨_, _, _, hr.rest (hr.sl.drop u (by omega)) (low_drop hr.low (by omega)) (by omega)⟩
    go_ret
    exact ⟨rfl, hfin, grown_setCell _ _ _ _⟩
  ·rw [if_neg hq]
   have hqb : ((q : Int) != 0) = true := by simp; omega
   have hf := fail_any w p L xs q hR (by omega)
   have HF : Hid (Calls _ _ _ _ _) := hf
   clear hf hu hR hr
   go_enter Tryz.func46, Tryz.ntmps46
   go_wp2_with (first | (go_at_call 86; refine (failed_any _ p 0 h1).mono ?_; rintro e w' ⟨rfl, rfl⟩) | (go_at_call 88; refine HT.out.mono ?_; rintro e w' ⟨rfl, rfl⟩) | (go_at_call 87; refine HF.out.mono ?_; rintro e w2 ⟨rfl, hr2, hg2⟩))
   go_ret
   exact ⟨rfl, hr2, hg2⟩
 ·have hb : (k != 0) = true := by simp [hk]
  have hs : uintS xs k = (0, xs, k) := by simp [uintS, hk]
  rw [hs]
  clear hr hk hs
  go_enter Tryz.func46, Tryz.ntmps46
  go_wp2_with (go_at_call 86; refine (failed_any _ p k h1).mono ?_; rintro e w' ⟨rfl, rfl⟩)
  go_ret
  exact ⟨rfl, hR, World.grownBy.refl _ _⟩
open Go.RowKit
theorem R.kind {w : World} {p L : Nat} {xs : List Int} {k : Int} (h : R w p L xs k) : w.cell? ⟨p, 1, none⟩ = some (.int .i64 k) := by
 obtain ⟨ao, n, cap, hr⟩ := h
 exact hr.c1
set_option maxHeartbeats 400000 in
theorem int_any (w : World) (p L : Nat) (xs : List Int) (k most : Int) (hmost : most ≤ 9223372036854775807) (hb : Byt xs) (h : R w p L xs k) : Calls Tryz.prog 45 #[.pointer (some ⟨p, 0, none⟩), .int .i64 most] w fun e w' =>
  e = .returned (.int .i64 ((intS xs k most).1 : Nat)) ∧ R w' p L (intS xs k most).2.1 (intS xs k most).2.2 ∧ w.grownBy w' (some p) := by
 have hU := uint_any w p L xs k h
 have hlt := uintS_lt (k := k) hb
 unfold intS
 generalize uintS xs k = T at *
 obtain ⟨m, rs, q⟩ := T
 simp only at hU hlt ⊢
 have HU : Hid (Calls _ _ _ _ _) := hU
 clear hU h hb
 by_cases hq : q = 0
 ·subst hq
  rw [if_pos rfl]
  by_cases hbad : most < 0 ∨ most < (m : Int)
  ·rw [if_pos hbad]
   by_cases hneg : most < 0
   ·clear hbad
    go_enter Tryz.func45, Tryz.ntmps45
    go_wp2_with fail
    refine HU.out.mono ?_
    rintro e w1 ⟨rfl, hR1, hg1⟩
    clear HU
    have hc1 := hR1.kind
    go_wp2_with (first | (go_at_call 86; refine (failed_any _ p 0 hc1).mono ?_; rintro e w' ⟨rfl, rfl⟩) | (go_at_call 87; refine (fail_any _ p L rs 4 hR1 (by decide)).mono ?_; rintro e w2 ⟨rfl, hr2, hg2⟩))
    have hg := grown_trans hg1 hg2
    go_ret
    exact ⟨rfl, hr2, hg⟩
   ·have hlt2 : most < (m : Int) := by omega
    clear hbad
    go_enter Tryz.func45, Tryz.ntmps45
    go_wp2_with fail
    refine HU.out.mono ?_
    rintro e w1 ⟨rfl, hR1, hg1⟩
    clear HU
    have hc1 := hR1.kind
    go_wp2_with (first | (go_at_call 86; refine (failed_any _ p 0 hc1).mono ?_; rintro e w' ⟨rfl, rfl⟩) | (go_at_call 87; refine (fail_any _ p L rs 4 hR1 (by decide)).mono ?_; rintro e w2 ⟨rfl, hr2, hg2⟩))
    have hg := grown_trans hg1 hg2
    go_ret
    exact ⟨rfl, hr2, hg⟩
  ·rw [if_neg hbad]
   have h1 : 0 ≤ most := by omega
   have h2 : (m : Int) ≤ most := by omega
   clear hbad
   go_enter Tryz.func45, Tryz.ntmps45
   go_wp2_with fail
   refine HU.out.mono ?_
   rintro e w1 ⟨rfl, hR1, hg1⟩
   clear HU
   have hc1 := hR1.kind
   go_wp2_with (go_at_call 86; refine (failed_any _ p 0 hc1).mono ?_; rintro e w' ⟨rfl, rfl⟩)
   go_ret
   exact ⟨rfl, hR1, hg1⟩
 ·rw [if_neg hq]
  have hqb : (q != 0) = true := by simp [hq]
  clear hq
  go_enter Tryz.func45, Tryz.ntmps45
  go_wp2_with fail
  refine HU.out.mono ?_
  rintro e w1 ⟨rfl, hR1, hg1⟩
  clear HU
  have hc1 := hR1.kind
  go_wp2_with (go_at_call 86; refine (failed_any _ p q hc1).mono ?_; rintro e w' ⟨rfl, rfl⟩)
  go_ret
  exact ⟨rfl, hR1, hg1⟩
open Go.RowKit
theorem Sl.take {w : World} {ao : Option Addr} {n cap : Nat} {xs : List Int} (h : Sl w ao n cap xs) (k : Nat) (hk : k ≤ n) : Sl w ao k cap (xs.take k) := by
 have h1 := h.le
 have h2 := h.len
 refine ⟨by simp; omega, by omega, h.mx, fun hn => ?_, fun a ha i hi => ?_, h.byte.take k⟩
 ·have := h.nil hn
  omega
 ·rw [h.cell a ha i (by omega)]
  simp [List.getD, hi]
end Go.Proofs.YtkjaapomaaakmaaGreat

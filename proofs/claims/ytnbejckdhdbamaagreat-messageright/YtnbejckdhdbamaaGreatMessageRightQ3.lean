/-
  Texts in one: AppR, State, RLink, Thr, Meth, RUint, Room, RMore, Take2, RBytes, CKeys, PText, SameBut, PRdRM, Put, Forms, FormsB, PPut, HRegA.
-/
import Derived.Test.YtnbejckdhdbamaaGreatMessageRightQ0
import Derived.Test.YtnbejckdhdbamaaGreatMessageRightQ2
import Derived.Test.YtnbejckdhdbamaaGreatMessageRightQ1
import Derived.Deep.RegionHeld3
namespace Go.Proofs.YtnbejckdhdbamaaGreat
open Go.RowKit
theorem grown_trans {a b c : World} {r : Option Nat} (h : a.grownBy b r) (k : b.grownBy c r) : a.grownBy c r :=
 ⟨k.os.trans h.os, k.tape.trans h.tape, k.output.trans h.output, Nat.le_trans h.size k.size, fun i hi hne => (k.block i (Nat.lt_of_lt_of_le hi h.size) hne).trans (h.block i hi hne)⟩
theorem grown_below {a b : World} {r : Option Nat} (h : Below a.heap.size a b) : a.grownBy b r := ⟨h.os, h.tape, h.output, h.size, fun i hi _ => h.block i hi⟩
theorem below_grown {a b : World} {B p : Nat} (h : a.grownBy b (some p)) (hB : B ≤ a.heap.size) (hp : B ≤ p) : Below B a b :=
 ⟨h.os, h.tape, h.output, h.size, fun i hi => h.block i (by omega) (by simp; omega)⟩
open Go.RowKit
structure Rd (w : World) (p L : Nat) (ao : Option Addr) (n cap : Nat) (xs : List Int) (k : Int) : Prop where
 c0 : w.cell? ⟨p, 0, none⟩ = some (.slice ao n cap)
 c1 : w.cell? ⟨p, 1, none⟩ = some (.int .i64 k)
 f0 : w.frozen? ⟨p, 0, none⟩ = false
 f1 : w.frozen? ⟨p, 1, none⟩ = false
 sl : Sl w ao n cap xs
 low : ∀ a, ao = some a → 0 < n → a.block < L
 le : L ≤ p
 sm : n ≤ 1000000
def R (w : World) (p L : Nat) (xs : List Int) (k : Int) : Prop := ∃ ao n cap, Rd w p L ao n cap xs k
theorem Rd.plt {w : World} {p L : Nat} {ao : Option Addr} {n cap : Nat} {xs : List Int} {k : Int} (h : Rd w p L ao n cap xs k) : p < w.heap.size := World.block_lt_of_cell? w _ h.c0
theorem Rd.below {w w' : World} {p L : Nat} {ao : Option Addr} {n cap : Nat} {xs : List Int} {k : Int} (h : Rd w p L ao n cap xs k) (hb : Below w.heap.size w w') : Rd w' p L ao n cap xs k :=
 ⟨(hb.cell (p := ⟨p, 0, none⟩) h.plt).trans h.c0, (hb.cell (p := ⟨p, 1, none⟩) h.plt).trans h.c1, (hb.frozen (p := ⟨p, 0, none⟩) h.plt).trans h.f0, (hb.frozen (p := ⟨p, 1, none⟩) h.plt).trans h.f1, h.sl.below hb, h.low, h.le, h.sm⟩
theorem R.below {w w' : World} {p L : Nat} {xs : List Int} {k : Int} (h : R w p L xs k) (hb : Below w.heap.size w w') : R w' p L xs k := by
 obtain ⟨ao, n, cap, h⟩ := h
 exact ⟨ao, n, cap, h.below hb⟩
theorem Sl.keep {w w' : World} {L q : Nat} {ao : Option Addr} {n cap : Nat} {xs : List Int} (h : Sl w ao n cap xs) (low : ∀ a, ao = some a → 0 < n → a.block < L) (hL : L ≤ q) (hg : w.grownBy w' (some q)) : Sl w' ao n cap xs := by
 refine ⟨h.len, h.le, h.mx, h.nil, fun a ha i hi => hg.cell (h.cell a ha i hi) ?_, h.byte⟩
 have := low a ha (by omega)
 have e : (a.add i).block = a.block := by unfold Addr.add; split <;> rfl
 rw [e]
 simp
 omega
theorem R.keep {w w' : World} {p L q : Nat} {xs : List Int} {k : Int} (h : R w p L xs k) (hne : p ≠ q) (hL : L ≤ q) (hg : w.grownBy w' (some q)) : R w' p L xs k := by
 obtain ⟨ao, n, cap, h⟩ := h
 have hb : w'.heap[p]? = w.heap[p]? := hg.block p h.plt (by simp; omega)
 exact ⟨ao, n, cap, hg.cell h.c0 (by simp; omega), hg.cell h.c1 (by simp; omega), (World.frozen?_of_block (a := ⟨p, 0, none⟩) hb).trans h.f0, (World.frozen?_of_block (a := ⟨p, 1, none⟩) hb).trans h.f1, h.sl.keep h.low hL hg, h.low, h.le, h.sm⟩
theorem Sl.drop {w : World} {ao : Option Addr} {n cap : Nat} {xs : List Int} (h : Sl w ao n cap xs) (u : Nat) (hu : u ≤ n) : Sl w (ao.map (fun x => x.add u)) (n - u) (cap - u) (xs.drop u) := by
 have h1 := h.le
 have h2 := h.mx
 refine ⟨by rw [List.length_drop, h.len], by omega, by omega, fun hn => ?_, fun a ha i hi => ?_, h.byte.drop u⟩
 ·have := h.nil (by simpa using hn)
  omega
 ·obtain ⟨b, off, rfl, hc⟩ := h.at (by omega)
  simp only [Option.map_some, Option.some.injEq] at ha
  subst ha
  rw [Addr.add_lit, Addr.add_lit, Nat.add_assoc, hc (u + i) (by omega)]
  simp [List.getD]
theorem Sl.dropAll {w : World} {ao : Option Addr} {n : Nat} {xs : List Int} {u : Nat} (h : Sl w ao n u xs) (hu : u ≤ n) : Sl w ao (n - u) 0 (xs.drop u) := by
 have h1 := h.le
 refine ⟨by rw [List.length_drop, h.len], by omega, Nat.zero_le _, fun hn => ⟨?_, rfl⟩, fun a ha i hi => by omega, h.byte.drop u⟩
 omega
theorem low_drop {ao : Option Addr} {n L u m : Nat} (h : ∀ a, ao = some a → 0 < n → a.block < L) (hm : m ≤ n) : ∀ a, ao.map (fun x => x.add u) = some a → 0 < m → a.block < L := by
 intro a ha hp
 cases ao with
 | none => simp at ha
 | some x =>
  simp only [Option.map_some, Option.some.injEq] at ha
  subst ha
  have e : (x.add u).block = x.block := by unfold Addr.add; split <;> rfl
  rw [e]
  exact h x rfl (by omega)
theorem grown_setCell (w : World) (p o : Nat) (v : Value) : w.grownBy (w.setCell ⟨p, o, none⟩ v) (some p) :=
 ⟨rfl, rfl, rfl, by simp, fun k _ hne => Below.heap_setCell _ _ _ _ (by simpa using hne)⟩
theorem Rd.rest {w : World} {p L : Nat} {ao : Option Addr} {n cap : Nat} {xs : List Int} {k : Int} (h : Rd w p L ao n cap xs k) {bo : Option Addr} {m c : Nat} {ys : List Int} (hs : Sl w bo m c ys) (hlow : ∀ a, bo = some a → 0 < m → a.block < L) (hm : m ≤ n) :
  Rd (w.setCell ⟨p, 0, none⟩ (.slice bo m c)) p L bo m c ys k :=
 ⟨World.cell?_setCell_same _ _ _ h.c0, (World.cell?_setCell_other _ _ _ _ (by simp)).trans h.c1, by simpa using h.f0, by simpa using h.f1, hs.keep hlow h.le (grown_setCell _ _ _ _), hlow, h.le, Nat.le_trans hm h.sm⟩
theorem Rd.wrong {w : World} {p L : Nat} {ao : Option Addr} {n cap : Nat} {xs : List Int} {k : Int} (h : Rd w p L ao n cap xs k) (q : Int) :
  Rd (w.setCell ⟨p, 1, none⟩ (.int .i64 q)) p L ao n cap xs q :=
 ⟨(World.cell?_setCell_other _ _ _ _ (by simp)).trans h.c0, World.cell?_setCell_same _ _ _ h.c1, by simpa using h.f0, by simpa using h.f1, h.sl.keep h.low h.le (grown_setCell _ _ _ _), h.low, h.le, h.sm⟩
theorem uintS_bad {xs : List Int} {k : Int} (h : pUint xs = .inl k) : uintS xs 0 = (0, [], k) ∧ k ≠ 0 := by
 unfold pUint at h
 unfold uintS
 by_cases c : (tk 0 0 xs).2.2 = 0
 ·rw [if_pos c] at h; simp at h
 ·rw [if_neg c] at h
  rw [if_pos rfl, if_neg c, Sum.inl.inj h]
  refine ⟨rfl, ?_⟩
  rw [← Sum.inl.inj h]
  omega
theorem uintS_ok {xs r : List Int} {n : Nat} (h : pUint xs = .inr (n, r)) : uintS xs 0 = (n, r, 0) := by
 unfold pUint at h
 unfold uintS
 by_cases c : (tk 0 0 xs).2.2 = 0
 ·rw [if_pos c] at h
  have := Sum.inr.inj h
  rw [if_pos rfl, if_pos c, (Prod.mk.inj this).1, (Prod.mk.inj this).2]
 ·rw [if_neg c] at h; simp at h
theorem intS_bad {xs : List Int} {k : Int} {most : Nat} (h : pInt most xs = .inl k) : intS xs 0 most = (0, [], k) ∧ k ≠ 0 := by
 unfold pInt then_ at h
 unfold intS
 match e : pUint xs, h with
 | .inl q, h =>
  obtain ⟨e1, e2⟩ := uintS_bad e
  obtain rfl := Sum.inl.inj h
  rw [e1]
  simp [e2]
 | .inr (n, r), h =>
  have e1 := uintS_ok e
  simp only at h
  by_cases c : most < n
  ·rw [if_pos c] at h
   obtain rfl := Sum.inl.inj h
   rw [e1]
   simp only [if_true]
   rw [if_pos (by omega)]
   simp
  ·rw [if_neg c] at h; simp at h
theorem intS_ok {xs r : List Int} {n most : Nat} (h : pInt most xs = .inr (n, r)) : intS xs 0 most = (n, r, 0) ∧ n ≤ most := by
 unfold pInt then_ at h
 unfold intS
 match e : pUint xs, h with
 | .inl q, h => simp at h
 | .inr (m, s), h =>
  have e1 := uintS_ok e
  simp only at h
  by_cases c : most < m
  ·rw [if_pos c] at h; simp at h
  ·rw [if_neg c] at h
   have := Prod.mk.inj (Sum.inr.inj h)
   obtain ⟨rfl, rfl⟩ := this
   rw [e1]
   simp only [if_true]
   rw [if_neg (by omega)]
   exact ⟨rfl, by omega⟩
theorem bytesS_bad {xs : List Int} {k : Int} {most : Nat} (h : pBytes most xs = .inl k) : bytesS xs 0 most = ([], [], k) ∧ k ≠ 0 := by
 unfold pBytes then_ at h
 unfold bytesS
 match e : pInt most xs, h with
 | .inl q, h =>
  obtain ⟨e1, e2⟩ := intS_bad e
  obtain rfl := Sum.inl.inj h
  rw [e1]
  simp [e2]
 | .inr (n, r), h =>
  have e1 := (intS_ok e).1
  simp only at h
  by_cases c : r.length < n
  ·rw [if_pos c] at h
   obtain rfl := Sum.inl.inj h
   rw [e1]
   simp only [if_true]
   rw [if_pos c]
   simp
  ·rw [if_neg c] at h; simp at h
theorem bytesS_ok {xs r l : List Int} {most : Nat} (h : pBytes most xs = .inr (l, r)) : bytesS xs 0 most = (l, r, 0) ∧ l.length ≤ most := by
 unfold pBytes then_ at h
 unfold bytesS
 match e : pInt most xs, h with
 | .inl q, h => simp at h
 | .inr (m, s), h =>
  obtain ⟨e1, e2⟩ := intS_ok e
  simp only at h
  by_cases c : s.length < m
  ·rw [if_pos c] at h; simp at h
  ·rw [if_neg c] at h
   have := Prod.mk.inj (Sum.inr.inj h)
   obtain ⟨rfl, rfl⟩ := this
   rw [e1]
   simp only [if_true]
   rw [if_neg c]
   refine ⟨rfl, ?_⟩
   rw [List.length_take]
   omega
theorem boolS_bad {xs : List Int} {k : Int} (h : pBool xs = .inl k) : boolS xs 0 = (false, [], k) ∧ k ≠ 0 := by
 cases xs with
 | nil =>
  obtain rfl := Sum.inl.inj h
  exact ⟨rfl, by decide⟩
 | cons c r =>
  simp only [pBool] at h
  by_cases d : 1 < c
  ·rw [if_pos d] at h
   obtain rfl := Sum.inl.inj h
   refine ⟨?_, by decide⟩
   simp [boolS, d]
  ·rw [if_neg d] at h; simp at h
theorem boolS_ok {xs r : List Int} {b : Bool} (h : pBool xs = .inr (b, r)) : boolS xs 0 = (b, r, 0) := by
 cases xs with
 | nil => simp [pBool] at h
 | cons c s =>
  simp only [pBool] at h
  by_cases d : 1 < c
  ·rw [if_pos d] at h; simp at h
  ·rw [if_neg d] at h
   have := Prod.mk.inj (Sum.inr.inj h)
   obtain ⟨rfl, rfl⟩ := this
   simp [boolS, d]
theorem uintS_stuck {xs : List Int} {k : Int} (h : k ≠ 0) : uintS xs k = (0, xs, k) := by
 unfold uintS; rw [if_neg h]
theorem intS_stuck {xs : List Int} {k : Int} (h : k ≠ 0) (most : Int) : intS xs k most = (0, xs, k) := by
 unfold intS; rw [uintS_stuck h]; simp [h]
theorem bytesS_stuck {xs : List Int} {k : Int} (h : k ≠ 0) (most : Int) : bytesS xs k most = ([], xs, k) := by
 unfold bytesS; rw [intS_stuck h]; simp [h]
theorem boolS_stuck {xs : List Int} {k : Int} (h : k ≠ 0) : boolS xs k = (false, xs, k) := by
 unfold boolS; rw [if_neg h]
abbrev Th (α : Type) := List Int → Int → α × List Int × Int
structure Thr {α : Type} (P : List Int → Rs α) (f : Th α) : Prop where
 ok : ∀ xs v r, P xs = .inr (v, r) → f xs 0 = (v, r, 0)
 bad : ∀ xs q, P xs = .inl q → (f xs 0).2.2 = q ∧ q ≠ 0
 stuck : ∀ xs k, k ≠ 0 → (f xs k).2.2 = k
def andT {α β : Type} (f : Th α) (g : Th β) : Th (α × β) := fun xs k => (((f xs k).1, (g (f xs k).2.1 (f xs k).2.2).1), (g (f xs k).2.1 (f xs k).2.2).2)
theorem Thr.andThen {α β : Type} {P : List Int → Rs α} {Q : List Int → Rs β} {f : Th α} {g : Th β} (h : Thr P f) (k : Thr Q g) : Thr (andThen P fun _ => Q) (andT f g) := by
 refine ⟨?_, ?_, ?_⟩
 ·rintro xs ⟨a, b⟩ r hx
  obtain ⟨a', r', e1, hx⟩ := then_good hx
  obtain ⟨b', r'', e2, hx⟩ := then_good hx
  simp only [Sum.inr.injEq, Prod.mk.injEq] at hx
  obtain ⟨⟨rfl, rfl⟩, rfl⟩ := hx
  unfold andT
  rw [h.ok _ _ _ e1]
  simp only
  rw [k.ok _ _ _ e2]
 ·intro xs q hx
  unfold Go.Proofs.YtnbejckdhdbamaaGreat.andThen then_ at hx
  unfold andT
  match e : P xs, hx with
  | .inl q', hx =>
   obtain rfl := Sum.inl.inj hx
   obtain ⟨e1, e2⟩ := h.bad _ _ e
   refine ⟨?_, e2⟩
   rw [← e1] at e2 ⊢
   exact k.stuck _ _ e2
  | .inr (v, r), hx =>
   rw [h.ok _ _ _ e]
   simp only at hx ⊢
   match e' : Q r, hx with
   | .inl q', hx =>
    obtain rfl := Sum.inl.inj hx
    exact k.bad _ _ e'
   | .inr (v', r'), hx => simp at hx
 ·intro xs q hq
  have e1 := h.stuck xs q hq
  have e2 : (f xs q).2.2 ≠ 0 := by rw [e1]; exact hq
  exact (k.stuck _ _ e2).trans e1
def mapT {α β : Type} (t : α → β) (f : Th α) : Th β := fun xs k => (t (f xs k).1, (f xs k).2)
theorem Thr.map {α β : Type} {P : List Int → Rs α} {f : Th α} (h : Thr P f) (t : α → β) : Thr (fun xs => dress t (P xs)) (mapT t f) := by
 refine ⟨?_, ?_, ?_⟩
 ·intro xs b r hx
  obtain ⟨a, e, rfl⟩ := dress_good hx
  unfold mapT
  rw [h.ok _ _ _ e]
 ·intro xs q hx
  unfold mapT
  match e : P xs, hx with
  | .inl q', hx =>
   obtain rfl := Sum.inl.inj hx
   exact h.bad _ _ e
  | .inr (v, r), hx =>
   simp [dress] at hx
 ·intro xs q hq
  exact h.stuck xs q hq
def intT' (most : Nat) : Th Nat := fun xs k => intS xs k most
def byT (most : Nat) : Th (List Int) := fun xs k => bytesS xs k most
def txT (most : Nat) : Th ByteArray := mapT strOfNums (byT most)
theorem thr_uint : Thr pUint uintS := ⟨fun _ _ _ h => uintS_ok h, fun _ _ h => by rw [(uintS_bad h).1]; exact ⟨rfl, (uintS_bad h).2⟩, fun _ _ h => by rw [uintS_stuck h]⟩
theorem thr_int (most : Nat) : Thr (pInt most) (intT' most) := ⟨fun _ _ _ h => (intS_ok h).1, fun _ _ h => by show (intS _ 0 most).2.2 = _ ∧ _; rw [(intS_bad h).1]; exact ⟨rfl, (intS_bad h).2⟩, fun _ _ h => by show (intS _ _ _).2.2 = _; rw [intS_stuck h]⟩
theorem thr_bytes (most : Nat) : Thr (pBytes most) (byT most) := ⟨fun _ _ _ h => (bytesS_ok h).1, fun _ _ h => by show (bytesS _ 0 most).2.2 = _ ∧ _; rw [(bytesS_bad h).1]; exact ⟨rfl, (bytesS_bad h).2⟩, fun _ _ h => by show (bytesS _ _ _).2.2 = _; rw [bytesS_stuck h]⟩
theorem thr_bool : Thr pBool boolS := ⟨fun _ _ _ h => boolS_ok h, fun _ _ h => by rw [(boolS_bad h).1]; exact ⟨rfl, (boolS_bad h).2⟩, fun _ _ h => by rw [boolS_stuck h]⟩
theorem thr_text (most : Nat) : Thr (pText most) (txT most) := (thr_bytes most).map strOfNums
def keyT : Th (ByteArray × ByteArray × ByteArray × Nat) := andT (txT 32) (andT (txT 32) (andT (txT 32) uintS))
def rawT (most : Nat) : Th Raw := andT (intT' 100) (andT (txT 32) (andT (txT 32) (andT (txT 32) (andT uintS (andT (txT 32) (andT (byT 256) (andT (byT 256) (andT boolS (intT' most)))))))))
theorem thr_raw (most : Nat) : Thr (pRaw most) (rawT most) :=
 (thr_int 100).andThen ((thr_text 32).andThen ((thr_text 32).andThen ((thr_text 32).andThen (thr_uint.andThen ((thr_text 32).andThen ((thr_bytes 256).andThen ((thr_bytes 256).andThen (thr_bool.andThen (thr_int most)))))))))
def sT (most : Nat) : Th SN := mapT toS (rawT most)
theorem thr_s (most : Nat) : Thr (pS most) (sT most) := (thr_raw most).map toS
def andD {α β : Type} (f : Th α) (g : α → Th β) : Th (α × β) := fun xs k => (((f xs k).1, (g (f xs k).1 (f xs k).2.1 (f xs k).2.2).1), (g (f xs k).1 (f xs k).2.1 (f xs k).2.2).2)
theorem Thr.dep {α β : Type} {P : List Int → Rs α} {Q : α → List Int → Rs β} {f : Th α} {g : α → Th β} (h : Thr P f) (k : ∀ a, Thr (Q a) (g a)) : Thr (Go.Proofs.YtnbejckdhdbamaaGreat.andThen P Q) (andD f g) := by
 refine ⟨?_, ?_, ?_⟩
 ·rintro xs ⟨a, b⟩ r hx
  obtain ⟨a', r', e1, hx⟩ := then_good hx
  obtain ⟨b', r'', e2, hx⟩ := then_good hx
  simp only [Sum.inr.injEq, Prod.mk.injEq] at hx
  obtain ⟨⟨rfl, rfl⟩, rfl⟩ := hx
  unfold andD
  rw [h.ok _ _ _ e1]
  simp only
  rw [(k _).ok _ _ _ e2]
 ·intro xs q hx
  unfold Go.Proofs.YtnbejckdhdbamaaGreat.andThen then_ at hx
  unfold andD
  match e : P xs, hx with
  | .inl q', hx =>
   obtain rfl := Sum.inl.inj hx
   obtain ⟨e1, e2⟩ := h.bad _ _ e
   refine ⟨?_, e2⟩
   rw [← e1] at e2 ⊢
   exact (k _).stuck _ _ e2
  | .inr (v, r), hx =>
   rw [h.ok _ _ _ e]
   simp only at hx ⊢
   match e' : Q v r, hx with
   | .inl q', hx =>
    obtain rfl := Sum.inl.inj hx
    exact (k _).bad _ _ e'
   | .inr (v', r'), hx => simp at hx
 ·intro xs q hq
  have e1 := h.stuck xs q hq
  have e2 : (f xs q).2.2 ≠ 0 := by rw [e1]; exact hq
  exact ((k _).stuck _ _ e2).trans e1
def repT {α : Type} (f : Th α) : Nat → Th (List α)
 | 0 => fun xs k => ([], xs, k)
 | n + 1 => fun xs k => ((f xs k).1 :: (repT f n (f xs k).2.1 (f xs k).2.2).1, (repT f n (f xs k).2.1 (f xs k).2.2).2)
theorem Thr.rep {α : Type} {P : List Int → Rs α} {f : Th α} (h : Thr P f) : ∀ n, Thr (pRep P n) (repT f n)
 | 0 => ⟨fun xs v r e => by simp only [pRep, Sum.inr.injEq, Prod.mk.injEq] at e; rw [← e.1, ← e.2]; rfl, fun xs q e => by simp [pRep] at e, fun _ _ _ => rfl⟩
 | n + 1 => by
  have ih := h.rep n
  refine ⟨?_, ?_, ?_⟩
  ·rintro xs l r hx
   obtain ⟨a, r', e1, hx⟩ := then_good hx
   obtain ⟨l', r'', e2, hx⟩ := then_good hx
   simp only [Sum.inr.injEq, Prod.mk.injEq] at hx
   obtain ⟨rfl, rfl⟩ := hx
   unfold repT
   rw [h.ok _ _ _ e1]
   simp only
   rw [ih.ok _ _ _ e2]
  ·intro xs q hx
   unfold pRep then_ at hx
   unfold repT
   match e : P xs, hx with
   | .inl q', hx =>
    obtain rfl := Sum.inl.inj hx
    obtain ⟨e1, e2⟩ := h.bad _ _ e
    refine ⟨?_, e2⟩
    rw [← e1] at e2 ⊢
    exact ih.stuck _ _ e2
   | .inr (v, r), hx =>
    rw [h.ok _ _ _ e]
    simp only at hx ⊢
    match e' : pRep P n r, hx with
    | .inl q', hx =>
     obtain rfl := Sum.inl.inj hx
     exact ih.bad _ _ e'
    | .inr (v', r'), hx => simp at hx
  ·intro xs q hq
   have e1 := h.stuck xs q hq
   have e2 : (f xs q).2.2 ≠ 0 := by rw [e1]; exact hq
   exact (ih.stuck _ _ e2).trans e1
theorem repT_snoc {α : Type} (f : Th α) : ∀ (n : Nat) (xs : List Int) (k : Int), repT f (n + 1) xs k = ((repT f n xs k).1 ++ [(f (repT f n xs k).2.1 (repT f n xs k).2.2).1], (f (repT f n xs k).2.1 (repT f n xs k).2.2).2)
 | 0, xs, k => rfl
 | n + 1, xs, k => by
  have := repT_snoc f n (f xs k).2.1 (f xs k).2.2
  show ((f xs k).1 :: (repT f (n + 1) (f xs k).2.1 (f xs k).2.2).1, (repT f (n + 1) (f xs k).2.1 (f xs k).2.2).2) = _
  rw [this]
  rfl
def opTh : Th OP := mapT toP (andD (sT 8) fun p => repT (sT 0) p.2)
theorem thr_p : Thr pP opTh := ((thr_s 8).dep fun p => (thr_s 0).rep p.2).map toP
def reqTh : Th QV := andT uintS (andT uintS opTh)
theorem thr_q : Thr pQ reqTh := thr_uint.andThen (thr_uint.andThen thr_p)
def rdT {α : Type} (f : Th α) (kind : α → Int) (xs : List Int) : Sum Int α :=
 if doneS (f xs 0).2.1 (f xs 0).2.2 = 0 then (if kind (f xs 0).1 = 0 then .inr (f xs 0).1 else .inl (kind (f xs 0).1)) else .inl (doneS (f xs 0).2.1 (f xs 0).2.2)
theorem rd_thr {α : Type} {P : List Int → Rs α} {f : Th α} (h : Thr P f) (kind : α → Int) (xs : List Int) : rdAll P kind xs = rdT f kind xs := by
 unfold rdAll rdT
 match e : P xs with
 | .inl q =>
  obtain ⟨e1, e2⟩ := h.bad _ _ e
  rw [e1]
  unfold doneS
  rw [if_neg e2, if_neg e2]
 | .inr (v, r) =>
  rw [h.ok _ _ _ e]
  simp only
  unfold doneS
  by_cases c : r = []
  ·rw [if_pos c, if_pos rfl, if_pos c, if_pos rfl]
  ·rw [if_neg c, if_pos rfl, if_neg c]
   simp
theorem intS_le (xs : List Int) (k : Int) (most : Nat) : (intS xs k most).1 ≤ most := by
 unfold intS
 split
 ·split
  ·simp
  ·rename_i h
   simp only [not_or] at h
   omega
 ·simp
theorem bytesS_le (xs : List Int) (k : Int) (most : Nat) : (bytesS xs k most).1.length ≤ most := by
 unfold bytesS
 have := intS_le xs k most
 split
 ·split
  ·simp
  ·simp only [List.length_take]
   omega
 ·simp
theorem bytesS_byt {xs : List Int} (h : Byt xs) (k : Int) (most : Nat) : Byt (bytesS xs k most).1 ∧ Byt (bytesS xs k most).2.1 := by
 have hu : Byt (uintS xs k).2.1 := by
  unfold uintS
  split
  ·split
   ·exact h.drop _
   ·intro x hx; simp at hx
  ·exact h
 have hi : Byt (intS xs k most).2.1 := by
  unfold intS
  split
  ·split
   ·intro x hx; simp at hx
   ·exact hu
  ·exact hu
 unfold bytesS
 split
 ·split
  ·exact ⟨fun x hx => by simp at hx, fun x hx => by simp at hx⟩
  ·exact ⟨hi.take _, hi.drop _⟩
 ·exact ⟨fun x hx => by simp at hx, hi⟩
theorem str_size {l : List Int} (h : Byt l) : (strOfNums l).size = l.length := by rw [← sb_len, sb_str h]
open Go.RowKit
theorem failed_any (w : World) (p : Nat) (k : Int) (h : w.cell? ⟨p, 1, none⟩ = some (.int .i64 k)) : Calls Tryz.prog 75 #[.pointer (some ⟨p, 0, none⟩)] w fun e w' => e = .returned (.bool (k != 0)) ∧ w' = w := by
 go_enter Tryz.func75, Tryz.ntmps75
 go_wp2
 go_ret
 exact ⟨rfl, rfl⟩
theorem fail_not (w : World) (p : Nat) (k q : Int) (h : w.cell? ⟨p, 1, none⟩ = some (.int .i64 k)) (hq : k ≠ 0 ∨ q = 0) : Calls Tryz.prog 76 #[.pointer (some ⟨p, 0, none⟩), .int .i64 q] w fun e w' => e = .returned (.tuple #[]) ∧ w' = w := by
 by_cases hk : k = 0
 ·have hb : (k != 0) = false := by simp [hk]
  have hq0 : (q == 0) = true := by simp; omega
  clear hk hq
  go_enter Tryz.func76, Tryz.ntmps76
  go_wp2_with (go_at_call 75; refine (failed_any _ p k h).mono ?_; rintro e w' ⟨rfl, rfl⟩)
  (try simp only [Exit.inBlock, Exit.then]); refine bodyPost_ret (results_none rfl _ _ _) rfl ?_
  exact ⟨rfl, rfl⟩
 ·have hb : (k != 0) = true := by simp [hk]
  clear hk hq
  go_enter Tryz.func76, Tryz.ntmps76
  go_wp2_with (go_at_call 75; refine (failed_any _ p k h).mono ?_; rintro e w' ⟨rfl, rfl⟩)
  (try simp only [Exit.inBlock, Exit.then]); refine bodyPost_ret (results_none rfl _ _ _) rfl ?_
  exact ⟨rfl, rfl⟩
theorem fail_any (w : World) (p L : Nat) (xs : List Int) (q : Int) (h : R w p L xs 0) (hq : q ≠ 0) : Calls Tryz.prog 76 #[.pointer (some ⟨p, 0, none⟩), .int .i64 q] w fun e w' => e = .returned (.tuple #[]) ∧ R w' p L [] q ∧ w.grownBy w' (some p) := by
 obtain ⟨ao, n, cap, hr⟩ := h
 have h0 := hr.c0
 have h1 := hr.c1
 have f0 := hr.f0
 have f1 := hr.f1
 have hb : (q == 0) = false := by simp [hq]
 have hfin : R ((w.setCell ⟨p, 1, none⟩ (.int .i64 q)).setCell ⟨p, 0, none⟩ (.slice none 0 0)) p L [] q :=
  ⟨none, 0, 0, (hr.wrong q).rest (Sl.nothing _) (fun a ha => by simp at ha) (Nat.zero_le _)⟩
 have hgr := grown_trans (grown_setCell w p 1 (.int .i64 q)) (grown_setCell (w.setCell ⟨p, 1, none⟩ (.int .i64 q)) p 0 (.slice none 0 0))
 clear hr hq
 go_enter Tryz.func76, Tryz.ntmps76
 go_wp2_with (go_at_call 75; refine (failed_any _ p 0 h1).mono ?_; rintro e w' ⟨rfl, rfl⟩)
 go_end0
 exact ⟨rfl, hfin, hgr⟩
theorem done_any (w : World) (p L : Nat) (xs : List Int) (k : Int) (h : R w p L xs k) : Calls Tryz.prog 43 #[.pointer (some ⟨p, 0, none⟩)] w fun e w' => e = .returned (.int .i64 (doneS xs k)) ∧ w' = w := by
 obtain ⟨ao, n, cap, hr⟩ := h
 have h0 := hr.c0
 have h1 := hr.c1
 have hl := hr.sl.len
 clear hr
 by_cases hk : k = 0
 ·subst hk
  cases xs with
  | nil =>
   have hn : n = 0 := by simpa using hl.symm
   subst hn
   clear hl
   go_enter Tryz.func43, Tryz.ntmps43
   go_wp2
   go_ret
   exact ⟨rfl, rfl⟩
  | cons c r =>
   have hn : 0 < n := by rw [← hl]; simp
   clear hl
   go_enter Tryz.func43, Tryz.ntmps43
   go_wp2
   go_ret
   exact ⟨rfl, rfl⟩
 ·have hb : (k == 0) = false := by simp [hk]
  have hd : doneS xs k = k := by simp [doneS, hk]
  rw [hd]
  clear hk hd
  go_enter Tryz.func43, Tryz.ntmps43
  go_wp2
  go_ret
  exact ⟨rfl, rfl⟩
open Go.RowKit
theorem uint_any (w : World) (p L : Nat) (xs : List Int) (k : Int) (h : R w p L xs k) : Calls Tryz.prog 38 #[.pointer (some ⟨p, 0, none⟩)] w fun e w' =>
  e = .returned (.int .u64 ((uintS xs k).1 : Nat)) ∧ R w' p L (uintS xs k).2.1 (uintS xs k).2.2 ∧ w.grownBy w' (some p) := by
 have hR := h
 obtain ⟨ao, n, cap, hr⟩ := h
 have h0 := hr.c0
 have h1 := hr.c1
 have f0 := hr.f0
 by_cases hk : k = 0
 ·subst hk
  have ht := takeNumber_any w ao n cap xs hr.sl
  have hu := tk_used xs 0 0
  unfold uintS
  rw [if_pos rfl]
  have HT : Hid (Calls _ _ _ _ _) := ht
  clear ht
  generalize tk 0 0 xs = T at *
  obtain ⟨m, u, q⟩ := T
  simp only at hu HT ⊢
  by_cases hq : q = 0
  ·subst hq
   have hu := hu rfl
   rw [if_pos rfl]
   have hl := hr.sl.len
   have hle := hr.sl.le
   have hmx := hr.sl.mx
   unfold maxLen at hmx
   go_enter Tryz.func38, Tryz.ntmps38
   go_wp2_with (first | (go_at_call 75; refine (failed_any _ p 0 h1).mono ?_; rintro e w' ⟨rfl, rfl⟩) | (go_at_call 77; refine HT.out.mono ?_; rintro e w' ⟨rfl, rfl⟩))
   ·have hfin : R (w'.setCell ⟨p, 0, none⟩ (.slice ao (n - u) 0)) p L (xs.drop u) 0 := by
     have hcu : cap = u := by assumption
     subst hcu
     exact ⟨_, _, _, hr.rest (hr.sl.dropAll (by omega)) (fun a ha hp => by omega) (by omega)⟩
    go_ret
    exact ⟨rfl, hfin, grown_setCell _ _ _ _⟩
   ·have hfin : R (w'.setCell ⟨p, 0, none⟩ (.slice (ao.map (fun x => x.add u)) (n - u) (cap - u))) p L (xs.drop u) 0 :=
     ⟨_, _, _, hr.rest (hr.sl.drop u (by omega)) (low_drop hr.low (by omega)) (by omega)⟩
    go_ret
    exact ⟨rfl, hfin, grown_setCell _ _ _ _⟩
  ·rw [if_neg hq]
   have hqb : ((q : Int) != 0) = true := by simp; omega
   have hf := fail_any w p L xs q hR (by omega)
   have HF : Hid (Calls _ _ _ _ _) := hf
   clear hf hu hR hr
   go_enter Tryz.func38, Tryz.ntmps38
   go_wp2_with (first | (go_at_call 75; refine (failed_any _ p 0 h1).mono ?_; rintro e w' ⟨rfl, rfl⟩) | (go_at_call 77; refine HT.out.mono ?_; rintro e w' ⟨rfl, rfl⟩) | (go_at_call 76; refine HF.out.mono ?_; rintro e w2 ⟨rfl, hr2, hg2⟩))
   go_ret
   exact ⟨rfl, hr2, hg2⟩
 ·have hb : (k != 0) = true := by simp [hk]
  have hs : uintS xs k = (0, xs, k) := by simp [uintS, hk]
  rw [hs]
  clear hr hk hs
  go_enter Tryz.func38, Tryz.ntmps38
  go_wp2_with (go_at_call 75; refine (failed_any _ p k h1).mono ?_; rintro e w' ⟨rfl, rfl⟩)
  go_ret
  exact ⟨rfl, hR, World.grownBy.refl _ _⟩
open Go.RowKit
set_option maxHeartbeats 400000 in
theorem withRoom_any (w : World) (ao : Option Addr) (n cap r : Nat) (xs : List Int) (h : Sl w ao n cap xs) (hr : n + r ≤ 140737488355328) :
  Calls Tryz.prog 78 #[.slice ao n cap, .int .i64 r] w fun e w' =>
   e = .returned (.slice (some ⟨w.heap.size, 0, none⟩) n (n + r)) ∧ w'.ownsRow w.heap.size 5 1 (.slice (some ⟨w.heap.size, 0, none⟩) n (n + r)) n (bv xs) ∧ Below w.heap.size w w' := by
 obtain ⟨i0, hi, hz0, hz1, hz2⟩ := info_parts u8info
 have hl := h.len
 have hnil := h.nil
 have hcells := h.cells
 go_enter Tryz.func78, Tryz.ntmps78
 go_wp2_with (first | (at_make; refine wpList_make_own _ rfl _ _ 23 rfl w.heap.size 5 i0 (.int .u8 0) 1 Tryz.underlying23 hi hz0 hz1 _ _ _ (n + r) rfl rfl (by omega) (by rw [hz2]; omega) (by unfold maxLen; omega) (Nat.le_refl _) ?_; intro w1 hown1 hgrow1) | (at_builtin; refine wpList_append_fits_any _ rfl _ _ 23 rfl w.heap.size 5 i0 1 Tryz.underlying23 hi hz1 w.heap.size 0 (n + r) [] rfl hown1 ao n cap (bv xs) rfl (by rw [bv_length]; omega) hnil (fun ad had j u hu => hgrow1.cell (hcells ad had j u hu) (by simp)) (bv_one xs) (by omega) ?_; intro w2 hown2 hgrow2; simp only [Nat.zero_add, List.nil_append] at hown2) | fail)
 have hb : Below w.heap.size w w2 := ((Below.refl _ w).grown hgrow1 (Nat.le_refl _) (fun k hk => by simp at hk)).grown hgrow2 hgrow1.size (fun k hk => by simp at hk; omega)
 go_ret
 exact ⟨rfl, hown2, hb⟩
open Go.RowKit
theorem R.kind {w : World} {p L : Nat} {xs : List Int} {k : Int} (h : R w p L xs k) : w.cell? ⟨p, 1, none⟩ = some (.int .i64 k) := by
 obtain ⟨ao, n, cap, hr⟩ := h
 exact hr.c1
set_option maxHeartbeats 400000 in
theorem int_any (w : World) (p L : Nat) (xs : List Int) (k most : Int) (hmost : most ≤ 9223372036854775807) (hb : Byt xs) (h : R w p L xs k) : Calls Tryz.prog 37 #[.pointer (some ⟨p, 0, none⟩), .int .i64 most] w fun e w' =>
  e = .returned (.int .i64 ((intS xs k most).1 : Nat)) ∧ R w' p L (intS xs k most).2.1 (intS xs k most).2.2 ∧ w.grownBy w' (some p) := by
 have hU := uint_any w p L xs k h
 have hlt := uintS_lt (k := k) hb
 unfold intS
 generalize uintS xs k = T at *
 obtain ⟨m, rs, q⟩ := T
 simp only at hU hlt ⊢
 have HU : Hid (Calls _ _ _ _ _) := hU
 clear hU h hb
 by_cases hq : q = 0
 ·subst hq
  rw [if_pos rfl]
  by_cases hbad : most < 0 ∨ most < (m : Int)
  ·rw [if_pos hbad]
   by_cases hneg : most < 0
   ·clear hbad
    go_enter Tryz.func37, Tryz.ntmps37
    go_wp2_with fail
    refine HU.out.mono ?_
    rintro e w1 ⟨rfl, hR1, hg1⟩
    clear HU
    have hc1 := hR1.kind
    go_wp2_with (first | (go_at_call 75; refine (failed_any _ p 0 hc1).mono ?_; rintro e w' ⟨rfl, rfl⟩) | (go_at_call 76; refine (fail_any _ p L rs 4 hR1 (by decide)).mono ?_; rintro e w2 ⟨rfl, hr2, hg2⟩))
    have hg := grown_trans hg1 hg2
    go_ret
    exact ⟨rfl, hr2, hg⟩
   ·have hlt2 : most < (m : Int) := by omega
    clear hbad
    go_enter Tryz.func37, Tryz.ntmps37
    go_wp2_with fail
    refine HU.out.mono ?_
    rintro e w1 ⟨rfl, hR1, hg1⟩
    clear HU
    have hc1 := hR1.kind
    go_wp2_with (first | (go_at_call 75; refine (failed_any _ p 0 hc1).mono ?_; rintro e w' ⟨rfl, rfl⟩) | (go_at_call 76; refine (fail_any _ p L rs 4 hR1 (by decide)).mono ?_; rintro e w2 ⟨rfl, hr2, hg2⟩))
    have hg := grown_trans hg1 hg2
    go_ret
    exact ⟨rfl, hr2, hg⟩
  ·rw [if_neg hbad]
   have h1 : 0 ≤ most := by omega
   have h2 : (m : Int) ≤ most := by omega
   clear hbad
   go_enter Tryz.func37, Tryz.ntmps37
   go_wp2_with fail
   refine HU.out.mono ?_
   rintro e w1 ⟨rfl, hR1, hg1⟩
   clear HU
   have hc1 := hR1.kind
   go_wp2_with (go_at_call 75; refine (failed_any _ p 0 hc1).mono ?_; rintro e w' ⟨rfl, rfl⟩)
   go_ret
   exact ⟨rfl, hR1, hg1⟩
 ·rw [if_neg hq]
  have hqb : (q != 0) = true := by simp [hq]
  clear hq
  go_enter Tryz.func37, Tryz.ntmps37
  go_wp2_with fail
  refine HU.out.mono ?_
  rintro e w1 ⟨rfl, hR1, hg1⟩
  clear HU
  have hc1 := hR1.kind
  go_wp2_with (go_at_call 75; refine (failed_any _ p q hc1).mono ?_; rintro e w' ⟨rfl, rfl⟩)
  go_ret
  exact ⟨rfl, hR1, hg1⟩
open Go.RowKit
theorem Sl.take {w : World} {ao : Option Addr} {n cap : Nat} {xs : List Int} (h : Sl w ao n cap xs) (k : Nat) (hk : k ≤ n) : Sl w ao k cap (xs.take k) := by
 have h1 := h.le
 have h2 := h.len
 refine ⟨by simp; omega, by omega, h.mx, fun hn => ?_, fun a ha i hi => ?_, h.byte.take k⟩
 ·have := h.nil hn
  omega
 ·rw [h.cell a ha i (by omega)]
  simp [List.getD, hi]
open Go.RowKit
theorem R.byte {w : World} {p L : Nat} {xs : List Int} {k : Int} (h : R w p L xs k) : Byt xs := by
 obtain ⟨ao, n, cap, hr⟩ := h
 exact hr.sl.byte
theorem Sl.keepNe {w w' : World} {q : Nat} {ao : Option Addr} {n cap : Nat} {xs : List Int} (h : Sl w ao n cap xs) (hne : ∀ a, ao = some a → 0 < n → a.block ≠ q) (hg : w.grownBy w' (some q)) : Sl w' ao n cap xs := by
 refine ⟨h.len, h.le, h.mx, h.nil, fun a ha i hi => hg.cell (h.cell a ha i hi) ?_, h.byte⟩
 have := hne a ha (by omega)
 have e : (a.add i).block = a.block := by unfold Addr.add; split <;> rfl
 rw [e]
 simp
 exact this
theorem Sl.ofOwn {w : World} {base : Nat} {ao : Option Addr} {n cap : Nat} {xs : List Int} (h : w.ownsRow base 5 1 (.slice ao n cap) n (bv xs)) (hb : Byt xs) : Sl w ao n cap xs := by
 obtain ⟨bo, c, he, hs, _⟩ := Sl.own h hb
 simp only [Value.slice.injEq] at he
 obtain ⟨rfl, _, rfl⟩ := he
 exact hs
theorem bytes_end {w w' w2 : World} {p L m n cap : Nat} {ao bo : Option Addr} {c : Nat} {rs : List Int} {k : Int} (hg1 : w.grownBy w' (some p)) (hr : Rd w' p L ao n cap rs k) (hb2 : Below w'.heap.size w' w2)
  (hown : w2.ownsRow w'.heap.size 5 1 (.slice (some ⟨w'.heap.size, 0, none⟩) m (m + 0)) m (bv (rs.take m))) (hs : Sl w2 bo (n - m) c (rs.drop m)) (hlow : ∀ a, bo = some a → 0 < n - m → a.block < L) :
  Sl (w2.setCell ⟨p, 0, none⟩ (.slice bo (n - m) c)) (some ⟨w'.heap.size, 0, none⟩) m m (rs.take m) ∧ (∀ a, some (⟨w'.heap.size, 0, none⟩ : Addr) = some a → w.heap.size ≤ a.block) ∧
   R (w2.setCell ⟨p, 0, none⟩ (.slice bo (n - m) c)) p L (rs.drop m) k ∧ w.grownBy (w2.setCell ⟨p, 0, none⟩ (.slice bo (n - m) c)) (some p) := by
 have hp := hr.plt
 refine ⟨(Sl.ofOwn hown (hr.sl.byte.take m)).keepNe ?_ (grown_setCell _ _ _ _), ?_, ⟨_, _, _, (hr.below hb2).rest hs hlow (by omega)⟩, grown_trans hg1 (grown_trans (grown_below hb2) (grown_setCell _ _ _ _))⟩
 ·intro a ha _
  obtain rfl := Option.some.inj ha
  show w'.heap.size ≠ p
  omega
 ·intro a ha
  obtain rfl := Option.some.inj ha
  exact hg1.size
set_option maxHeartbeats 800000 in
theorem bytes_any (w : World) (p L : Nat) (xs : List Int) (k most : Int) (hmost : most ≤ 9223372036854775807) (h : R w p L xs k) : Calls Tryz.prog 39 #[.pointer (some ⟨p, 0, none⟩), .int .i64 most] w fun e w' =>
  ∃ ao n cap, e = .returned (.slice ao n cap) ∧ Sl w' ao n cap (bytesS xs k most).1 ∧ (∀ a, ao = some a → w.heap.size ≤ a.block) ∧ R w' p L (bytesS xs k most).2.1 (bytesS xs k most).2.2 ∧ w.grownBy w' (some p) := by
 have hU := int_any w p L xs k most hmost h.byte h
 unfold bytesS
 generalize intS xs k most = T at *
 obtain ⟨m, rs, q⟩ := T
 simp only at hU ⊢
 have HU : Hid (Calls _ _ _ _ _) := hU
 clear hU h
 by_cases hq : q = 0
 ·subst hq
  rw [if_pos rfl]
  by_cases hbad : rs.length < m
  ·rw [if_pos hbad]
   go_enter Tryz.func39, Tryz.ntmps39
   go_wp2_with fail
   refine HU.out.mono ?_
   rintro e w1 ⟨rfl, hR1, hg1⟩
   clear HU
   have hR1' := hR1
   obtain ⟨ao, n, cap, hr⟩ := hR1'
   have hc0 := hr.c0
   have hc1 := hr.c1
   have hl := hr.sl.len
   have hlt : (n : Int) < (m : Int) := by omega
   clear hr hl hbad
   go_wp2_with (first | (go_at_call 75; refine (failed_any _ p 0 hc1).mono ?_; rintro e w' ⟨rfl, rfl⟩) | (go_at_call 76; refine (fail_any _ p L rs 2 hR1 (by decide)).mono ?_; rintro e w2 ⟨rfl, hr2, hg2⟩))
   have hg := grown_trans hg1 hg2
   go_ret
   exact ⟨none, 0, 0, rfl, Sl.nothing _, fun a ha => by simp at ha, hr2, hg⟩
  ·rw [if_neg hbad]
   go_enter Tryz.func39, Tryz.ntmps39
   go_wp2_with fail
   refine HU.out.mono ?_
   rintro e w1 ⟨rfl, hR1, hg1⟩
   clear HU
   obtain ⟨ao, n, cap, hr⟩ := hR1
   have hc0 := hr.c0
   have hc1 := hr.c1
   have hl := hr.sl.len
   have hle := hr.sl.le
   have hmx := hr.sl.mx
   unfold maxLen at hmx
   have hsm := hr.sm
   have hmn : m ≤ n := by omega
   have hsl := hr.sl.take m hmn
   clear hbad
   go_wp2_with (first | (go_at_call 75; refine (failed_any _ p 0 hc1).mono ?_; rintro e w' ⟨rfl, rfl⟩) | fail)
   refine (withRoom_any _ _ _ _ 0 _ hsl (by omega)).mono ?_
   rintro e w2 ⟨rfl, hown2, hb2⟩
   have hr2 := hr.below hb2
   have hd0 := hr2.c0
   have hf0 := hr2.f0
   by_cases hcm : cap = m
   ·subst hcm
    have hfin := bytes_end hg1 hr hb2 hown2 (hr2.sl.dropAll hmn) (fun a ha hp => by omega)
    rw [show n - cap = 0 from by omega] at hfin
    go_wp2_with fail
    go_ret
    exact ⟨_, _, _, rfl, hfin⟩
   ·have hfin := bytes_end hg1 hr hb2 hown2 (hr2.sl.drop m hmn) (low_drop hr.low (by omega))
    go_wp2_with fail
    go_ret
    exact ⟨_, _, _, rfl, hfin⟩
 ·rw [if_neg hq]
  have hqb : (q != 0) = true := by simp [hq]
  clear hq
  go_enter Tryz.func39, Tryz.ntmps39
  go_wp2_with fail
  refine HU.out.mono ?_
  rintro e w1 ⟨rfl, hR1, hg1⟩
  clear HU
  have hc1 := hR1.kind
  go_wp2_with (go_at_call 75; refine (failed_any _ p q hc1).mono ?_; rintro e w' ⟨rfl, rfl⟩)
  go_ret
  exact ⟨none, 0, 0, rfl, Sl.nothing _, fun a ha => by simp at ha, hR1, hg1⟩
open Go.RowKit
def KyC (V : World) (p : Nat) (k : KA) : Prop := V.heap[p]? = some (.cells #[.string k.row, .string k.fam, .string k.qual, .int .u64 k.time] 55)
theorem KyC.lt {V : World} {p : Nat} {k : KA} (h : KyC V p k) : p < V.heap.size := (Array.getElem?_eq_some_iff.1 h).1
theorem KyC.below {V V' : World} {p n : Nat} {k : KA} (h : KyC V p k) (hb : Below n V V') (hp : p < n) : KyC V' p k := (hb.block p hp).trans h
theorem KyC.keep {V V' : World} {p : Nat} {k : KA} (h : KyC V p k) (hb : Below V.heap.size V V') : KyC V' p k := h.below hb h.lt
theorem KyC.new (w : World) (k : KA) : KyC (w.alloc (.cells #[.string k.row, .string k.fam, .string k.qual, .int .u64 k.time] 55)) w.heap.size k := heap_alloc_new w _
theorem KyC.c0 {V : World} {p : Nat} {k : KA} (h : KyC V p k) : V.cell? ⟨p, 0, none⟩ = some (.string k.row) := cell_of_row V p 0 _ _ _ h
theorem KyC.c1 {V : World} {p : Nat} {k : KA} (h : KyC V p k) : V.cell? ⟨p, 1, none⟩ = some (.string k.fam) := cell_of_row V p 1 _ _ _ h
theorem KyC.c2 {V : World} {p : Nat} {k : KA} (h : KyC V p k) : V.cell? ⟨p, 2, none⟩ = some (.string k.qual) := cell_of_row V p 2 _ _ _ h
theorem KyC.c3 {V : World} {p : Nat} {k : KA} (h : KyC V p k) : V.cell? ⟨p, 3, none⟩ = some (.int .u64 k.time) := cell_of_row V p 3 _ _ _ h
open Go.RowKit
def Left (w : World) (p L : Nat) (t : List Int × Int) (w' : World) : Prop := R w' p L t.1 t.2 ∧ w.grownBy w' (some p)
set_option maxRecDepth 100000 in
set_option maxHeartbeats 1000000 in
theorem ttext_any (w : World) (p L : Nat) (xs : List Int) (k : Int) (h : R w p L xs k) :
  Calls Tryz.prog 121 #[.pointer (some ⟨p, 0, none⟩)] w fun e w' => e = .returned (.string (txT 32 xs k).1) ∧ Left w p L (txT 32 xs k).2 w' := by
 go_enter Tryz.func121, Tryz.ntmps121
 go_wp2_with fail
 refine (bytes_any w p L xs k 32 (by decide) h).mono ?_
 rintro e w1 ⟨ao, n, cap, rfl, S1, _, R1, G1⟩
 have c1 := conv_str S1
 obtain ⟨y, hy⟩ : ∃ y, y = strOfNums (bytesS xs k 32).1 := ⟨_, rfl⟩
 have HY : Hid (y = strOfNums (bytesS xs k 32).1) := hy
 rw [← hy] at c1
 have HR : Hid (R w1 p L (bytesS xs k 32).2.1 (bytesS xs k 32).2.2) := R1
 clear hy S1 R1 h
 go_wp2
 go_ret
 exact ⟨by show Ending.returned (Value.string y) = _; rw [HY.out]; exact rfl, HR.out, G1⟩
theorem grown_own {w W : World} {p q i : Nat} {v : Value} (h : w.grownBy W (some p)) (hq : w.heap.size ≤ q) : w.grownBy (W.setCell ⟨q, i, none⟩ v) (some p) :=
 ⟨h.os, h.tape, h.output, by rw [World.size_setCell]; exact h.size, fun j hj hne => (Below.heap_setCell W ⟨q, i, none⟩ v j (by show j ≠ q; omega)).trans (h.block j hj hne)⟩
theorem R.own {W : World} {p L q i : Nat} {v : Value} {xs : List Int} {k : Int} (h : R W p L xs k) (hp : p < q) (hL : L ≤ q) : R (W.setCell ⟨q, i, none⟩ v) p L xs k := h.keep (by omega) hL (grown_setCell W q i v)
theorem R.plt {W : World} {p L : Nat} {xs : List Int} {k : Int} (h : R W p L xs k) : p < W.heap.size ∧ L ≤ p := by
 obtain ⟨ao, n, cap, h⟩ := h
 exact ⟨h.plt, h.le⟩
def zeroKA : KA := ⟨⟨#[]⟩, ⟨#[]⟩, ⟨#[]⟩, 0⟩
def keyOf (q : ByteArray × ByteArray × ByteArray × Nat) : KA := ⟨q.1, q.2.1, q.2.2.1, q.2.2.2⟩
theorem KyC.grown {V V' : World} {q p : Nat} {k : KA} (h : KyC V q k) (hg : V.grownBy V' (some p)) (hne : q ≠ p) : KyC V' q k := (hg.block q h.lt (by simp; omega)).trans h
set_option maxRecDepth 100000 in
set_option maxHeartbeats 4000000 in
theorem tkey_any (w : World) (p L : Nat) (xs : List Int) (k : Int) (h : R w p L xs k) :
  Calls Tryz.prog 110 #[.pointer (some ⟨p, 0, none⟩)] w fun e w' => e = .returned (keyOf (keyT xs k).1).val ∧ Left w p L (keyT xs k).2 w' := by
 have hpl := h.plt
 have K0 : KyC (w.alloc (.cells #[.string ⟨#[]⟩, .string ⟨#[]⟩, .string ⟨#[]⟩, .int .u64 0] 55)) w.heap.size zeroKA := heap_alloc_new w _
 have B0 : Below w.heap.size w (w.alloc (.cells #[.string ⟨#[]⟩, .string ⟨#[]⟩, .string ⟨#[]⟩, .int .u64 0] 55)) := (Below.refl _ w).alloc (Nat.le_refl _) _
 have R0 := h.below B0
 have G0 : w.grownBy _ (some p) := grown_below B0
 clear h
 go_enter Tryz.func110, Tryz.ntmps110
 go_wp2_with fail
 obtain ⟨w0, hw0⟩ : ∃ W, W = w.alloc (.cells #[.string ⟨#[]⟩, .string ⟨#[]⟩, .string ⟨#[]⟩, .int .u64 0] 55) := ⟨_, rfl⟩
 obtain ⟨N, hN⟩ : ∃ N, N = w.heap.size := ⟨_, rfl⟩
 rw [← hw0] at K0 R0 G0 ⊢
 rw [← hN] at K0 ⊢
 have HN : Hid (N = w.heap.size) := hN
 have hne : N ≠ p := by omega
 have hpN : p < N ∧ L ≤ N := by omega
 clear hw0 hN B0
 refine (ttext_any w0 p L xs k R0).mono ?_
 rintro e w1 ⟨rfl, R1, G1⟩
 obtain ⟨r1, e1⟩ : ∃ r, r = txT 32 xs k := ⟨_, rfl⟩
 have E1 : Hid (r1 = txT 32 xs k) := e1
 rw [← e1] at R1 ⊢
 clear e1
 have K1 := K0.grown G1 hne
 have G1 := grown_trans G0 G1
 clear K0 R0 G0
 go_wp2_with fail
 refine (ttext_any w1 p L r1.2.1 r1.2.2 R1).mono ?_
 rintro e w2 ⟨rfl, R2, G2⟩
 obtain ⟨r2, e2⟩ : ∃ r, r = txT 32 r1.2.1 r1.2.2 := ⟨_, rfl⟩
 have E2 : Hid (r2 = txT 32 r1.2.1 r1.2.2) := e2
 rw [← e2] at R2 ⊢
 clear e2
 have K2 := K1.grown G2 hne
 have G2 := grown_trans G1 G2
 clear K1 R1 G1
 go_wp2_with fail
 refine (ttext_any w2 p L r2.2.1 r2.2.2 R2).mono ?_
 rintro e w3 ⟨rfl, R3, G3⟩
 obtain ⟨r3, e3⟩ : ∃ r, r = txT 32 r2.2.1 r2.2.2 := ⟨_, rfl⟩
 have E3 : Hid (r3 = txT 32 r2.2.1 r2.2.2) := e3
 rw [← e3] at R3 ⊢
 clear e3
 have K3 := K2.grown G3 hne
 have G3 := grown_trans G2 G3
 clear K2 R2 G2
 go_wp2_with fail
 refine (uint_any w3 p L r3.2.1 r3.2.2 R3).mono ?_
 rintro e w4 ⟨rfl, R4, G4⟩
 obtain ⟨r4, e4⟩ : ∃ r, r = uintS r3.2.1 r3.2.2 := ⟨_, rfl⟩
 have E4 : Hid (r4 = uintS r3.2.1 r3.2.2) := e4
 rw [← e4] at R4 ⊢
 clear e4
 have K4 := K3.grown G4 hne
 have G4 := grown_trans G3 G4
 clear K3 R3 G3
 have q0 := K4.c0
 have q1 := K4.c1
 have q2 := K4.c2
 have q3 := K4.c3
 have f0 : w4.frozen? ⟨N, 0, none⟩ = false := frozen_of_row w4 N 0 _ _ K4
 have f1 : w4.frozen? ⟨N, 1, none⟩ = false := frozen_of_row w4 N 1 _ _ K4
 have f2 : w4.frozen? ⟨N, 2, none⟩ = false := frozen_of_row w4 N 2 _ _ K4
 have f3 : w4.frozen? ⟨N, 3, none⟩ = false := frozen_of_row w4 N 3 _ _ K4
 have lt := K4.lt
 have hwN : w.heap.size ≤ N := by rw [HN.out]; exact Nat.le_refl _
 have RF : R ((((w4.setCell ⟨N, 0, none⟩ (.string r1.1)).setCell ⟨N, 1, none⟩ (.string r2.1)).setCell ⟨N, 2, none⟩ (.string r3.1)).setCell ⟨N, 3, none⟩ (.int .u64 r4.1)) p L r4.2.1 r4.2.2 := (((R4.own hpN.1 hpN.2).own hpN.1 hpN.2).own hpN.1 hpN.2).own hpN.1 hpN.2
 have GF : w.grownBy ((((w4.setCell ⟨N, 0, none⟩ (.string r1.1)).setCell ⟨N, 1, none⟩ (.string r2.1)).setCell ⟨N, 2, none⟩ (.string r3.1)).setCell ⟨N, 3, none⟩ (.int .u64 r4.1)) (some p) := grown_own (grown_own (grown_own (grown_own G4 hwN) hwN) hwN) hwN
 have HK : Hid (keyT xs k = ((r1.1, r2.1, r3.1, r4.1), r4.2)) := by
  show _ = _
  unfold keyT andT
  rw [← E1.out, ← E2.out, ← E3.out, ← E4.out]
 clear hne hpN G4 R4 K4
 go_wp2
 refine bodyPost_ret (v := .agg #[.string r1.1, .string r2.1, .string r3.1, .int .u64 r4.1]) (by simp [results, Tryz.results110, go_sem, q0, q1, q2, q3]) rfl ⟨?_, ?_⟩
 ·rw [HK.out]
  rfl
 ·rw [HK.out]
  exact ⟨RF, GF⟩
open Go.RowKit
theorem SameBut.trans {N : Nat} {a b c : World} (h : b.heap.size = a.heap.size ∧ ∀ j, j ≠ N → b.heap[j]? = a.heap[j]?) (k : c.heap.size = b.heap.size ∧ ∀ j, j ≠ N → c.heap[j]? = b.heap[j]?) : c.heap.size = a.heap.size ∧ ∀ j, j ≠ N → c.heap[j]? = a.heap[j]? :=
 ⟨k.1.trans h.1, fun j hj => (k.2 j hj).trans (h.2 j hj)⟩
theorem same_set (w : World) (N i : Nat) (v : Value) : (w.setCell ⟨N, i, none⟩ v).heap.size = w.heap.size ∧ ∀ j, j ≠ N → (w.setCell ⟨N, i, none⟩ v).heap[j]? = w.heap[j]? :=
 ⟨World.size_setCell .., fun j hj => Below.heap_setCell w ⟨N, i, none⟩ v j hj⟩
open Go.RowKit
def cT : Th CV := mapT toC (andT (txT 32) (andT (txT 32) (andT (txT 32) (andT uintS (andT (byT 256) boolS)))))
theorem thr_c : Thr pC cT := ((thr_text 32).andThen ((thr_text 32).andThen ((thr_text 32).andThen (thr_uint.andThen ((thr_bytes 256).andThen thr_bool))))).map toC
def resTh : Th RV := mapT toR (andT (intT' 100) (andD (intT' 16) fun n => andT (repT cT n) boolS))
theorem thr_r : Thr pR resTh := ((thr_int 100).andThen ((thr_int 16).dep fun n => (thr_c.rep n).andThen thr_bool)).map toR
theorem cT_key (xs : List Int) (k : Int) : cT xs k = (⟨(keyT xs k).1.1, (keyT xs k).1.2.1, (keyT xs k).1.2.2.1, (keyT xs k).1.2.2.2, (bytesS (keyT xs k).2.1 (keyT xs k).2.2 256).1, (boolS (bytesS (keyT xs k).2.1 (keyT xs k).2.2 256).2.1 (bytesS (keyT xs k).2.1 (keyT xs k).2.2 256).2.2).1⟩, (boolS (bytesS (keyT xs k).2.1 (keyT xs k).2.2 256).2.1 (bytesS (keyT xs k).2.1 (keyT xs k).2.2 256).2.2).2) := by
 have e : ((256 : Nat) : Int) = 256 := rfl
 unfold cT mapT
 simp only [andT, keyT, byT, toC, e]
theorem CA.ok.blk_lt {c : CA} {w : World} (h : c.ok w) {x : Nat} (hx : c.va.blk x) : x < w.heap.size := h.va.blk_lt hx
theorem CA.ok.kept {c : CA} {w w' : World} (h : c.ok w) (hk : ∀ x, c.va.blk x → w'.heap[x]? = w.heap[x]?) : c.ok w' := ⟨h.row, h.fam, h.qual, h.time, h.va.kept hk⟩
theorem CL.kept {w w' : World} {ao : Option Addr} {n cap : Nat} {l : List CA} (h : CL w ao n cap l) (hk : ∀ x, (sblk ao n x ∨ ∃ c ∈ l, c.va.blk x) → w'.heap[x]? = w.heap[x]?) : CL w' ao n cap l := by
 refine ⟨h.len, h.le, h.mx, h.nil, fun a ha i hi j v hv => ?_, fun y hy => (h.ok y hy).kept fun x hx => hk x (.inr ⟨y, hy, hx⟩)⟩
 have hb : (a.add (i * 6 + j)).block = a.block := by unfold Addr.add; split <;> rfl
 rw [← h.cell a ha i hi j v hv]
 exact World.cell?_of_block (by rw [hb]; exact hk _ (.inl ⟨a, ha, by have := h.len; omega, rfl⟩))
def RW (V : World) (p : Nat) (e : Int) (v : Value) (m : Bool) : Prop := V.heap[p]? = some (.cells #[.int .i64 e, v, .bool m] 28)
theorem RW.lt {V : World} {p : Nat} {e : Int} {v : Value} {m : Bool} (h : RW V p e v m) : p < V.heap.size := (Array.getElem?_eq_some_iff.1 h).1
theorem RW.kept {V V' : World} {p : Nat} {e : Int} {v : Value} {m : Bool} (h : RW V p e v m) (hk : V'.heap[p]? = V.heap[p]?) : RW V' p e v m := hk.trans h
theorem RW.c0 {V : World} {p : Nat} {e : Int} {v : Value} {m : Bool} (h : RW V p e v m) : V.cell? ⟨p, 0, none⟩ = some (.int .i64 e) := cell_of_row V p 0 _ _ _ h
theorem RW.c1 {V : World} {p : Nat} {e : Int} {v : Value} {m : Bool} (h : RW V p e v m) : V.cell? ⟨p, 1, none⟩ = some v := cell_of_row V p 1 _ _ _ h
theorem RW.c2 {V : World} {p : Nat} {e : Int} {v : Value} {m : Bool} (h : RW V p e v m) : V.cell? ⟨p, 2, none⟩ = some (.bool m) := cell_of_row V p 2 _ _ _ h
theorem RW.fz {V : World} {p : Nat} {e : Int} {v : Value} {m : Bool} (h : RW V p e v m) (i : Nat) : V.frozen? ⟨p, i, none⟩ = false := frozen_of_row V p i _ _ h
theorem RW.setL {V : World} {p : Nat} {e : Int} {v : Value} {m : Bool} (h : RW V p e v m) (u : Value) : RW (V.setCell ⟨p, 1, none⟩ u) p e u m := heap_setCell_same V p 1 _ _ _ h
theorem RW.setM {V : World} {p : Nat} {e : Int} {v : Value} {m : Bool} (h : RW V p e v m) (b : Bool) : RW (V.setCell ⟨p, 2, none⟩ (.bool b)) p e v b := heap_setCell_same V p 2 _ _ _ h
structure ResInv (w : World) (p L N M parts : Nat) (e : Int) (hx : List Int) (hk : Int) (V : World) (v : Value) (l : List CA) : Prop where
 rd : R V p L (repT cT l.length hx hk).2.1 (repT cT l.length hx hk).2.2
 ov : RW V M e v false
 res : RW V N 0 (.slice none 0 0) false
 own : V.ownsRow (M + 1) 98 6 v l.length (cellsC l)
 oks : ∀ y ∈ l, y.ok V
 far : ∀ x, (∃ y ∈ l, y.va.blk x) → M < x ∧ v.ownBlock ≠ some x
 thr : l.map CA.c = (repT cT l.length hx hk).1
 bel : Below N w V
 le : l.length ≤ parts
 pos : L ≤ p ∧ p < M ∧ N < p
theorem ResInv.drew {w : World} {p L N M parts : Nat} {e : Int} {hx : List Int} {hk : Int} {V : World} {v : Value} {l : List CA} (h : ResInv w p L N M parts e hx hk V v l) : ResInv w p L N M parts e hx hk V.drew v l :=
 ⟨h.rd.below (Below.refl _ _).drew, h.ov, h.res, h.own.drew, fun y hy => (h.oks y hy).below (Below.refl _ _).drew, h.far, h.thr, h.bel.drew, h.le, h.pos⟩
theorem ResInv.ownlt {w : World} {p L N M parts : Nat} {e : Int} {hx : List Int} {hk : Int} {V : World} {v : Value} {l : List CA} (h : ResInv w p L N M parts e hx hk V v l) {g : Nat} (hg : v.ownBlock = some g) : M < g ∧ g < V.heap.size := by
 have := h.own.lt g hg
 omega
theorem ResInv.step {w : World} {p L N M parts : Nat} {e : Int} {hx : List Int} {hk : Int} {V : World} {v : Value} {l : List CA} (h : ResInv w p L N M parts e hx hk V v l) (hlt : l.length < parts)
  {y : CA} {V1 V3 : World} {v' : Value} {ob : Obj} (y1 : y.ok V1) (y2 : ∀ x, y.va.blk x → V.heap.size ≤ x) (y3 : y.c = (cT (repT cT l.length hx hk).2.1 (repT cT l.length hx hk).2.2).1)
  (y4 : R V1 p L (cT (repT cT l.length hx hk).2.1 (repT cT l.length hx hk).2.2).2.1 (cT (repT cT l.length hx hk).2.1 (repT cT l.length hx hk).2.2).2.2) (y5 : V.grownBy V1 (some p))
  (a1 : V3.ownsRow (M + 1) 98 6 v' (l.length + 1) (cellsC l ++ y.cells)) (a2 : (V1.alloc ob).grownBy V3 v.ownBlock) (a3 : ∀ g, v'.ownBlock = some g → v.ownBlock = some g ∨ (V1.alloc ob).heap.size ≤ g) :
  ResInv w p L N M parts e hx hk (V3.setCell ⟨M, 1, none⟩ v') v' (l ++ [y]) := by
 have hp := h.pos
 have sz1 := y5.size
 have sz2 : (V1.alloc ob).heap.size = V1.heap.size + 1 := by simp
 have sz3 := a2.size
 have key : ∀ x, x < V1.heap.size → v.ownBlock ≠ some x → V3.heap[x]? = V1.heap[x]? := fun x hx1 hx2 => (a2.block x (by omega) (fun e => hx2 e.symm)).trans (heap_alloc_old V1 ob hx1)
 have own1 : ∀ x, x ≤ M → v.ownBlock ≠ some x := fun x hx1 hx2 => by have := (h.ownlt hx2).1; omega
 have hM : M < V.heap.size := h.ov.lt
 have RB : ∀ x, x < V.heap.size → x ≠ p → V1.heap[x]? = V.heap[x]? := fun x hx1 hx2 => y5.block x hx1 (by simp; exact hx2)
 have ov3 : RW V3 M e v false := (h.ov.kept (RB M hM (by omega))).kept (key M (by omega) (own1 M (Nat.le_refl _)))
 have hset : ∀ x, x ≠ M → (V3.setCell ⟨M, 1, none⟩ v').heap[x]? = V3.heap[x]? := (same_set V3 M 1 v').2
 have fin : ∀ x, x < V.heap.size → x ≠ p → x ≠ M → v.ownBlock ≠ some x → (V3.setCell ⟨M, 1, none⟩ v').heap[x]? = V.heap[x]? := fun x b1 b2 b3 b4 => ((hset x b3).trans (key x (by omega) b4)).trans (RB x b1 b2)
 refine ⟨?_, ov3.setL v', ?_, ?_, ?_, ?_, ?_, ?_, ?_, hp⟩
 ·rw [List.length_append, List.length_singleton, repT_snoc]
  obtain ⟨ao, n, cap, r⟩ := y4
  have r3 : R V3 p L (cT (repT cT l.length hx hk).2.1 (repT cT l.length hx hk).2.2).2.1 (cT (repT cT l.length hx hk).2.1 (repT cT l.length hx hk).2.2).2.2 := by
   have rp : p < V1.heap.size := r.plt
   have hbk := key p rp (own1 p (by omega))
   refine ⟨ao, n, cap, (World.cell?_of_block (a := ⟨p, 0, none⟩) hbk).trans r.c0, (World.cell?_of_block (a := ⟨p, 1, none⟩) hbk).trans r.c1, (World.frozen?_of_block (a := ⟨p, 0, none⟩) hbk).trans r.f0, (World.frozen?_of_block (a := ⟨p, 1, none⟩) hbk).trans r.f1, ?_, r.low, r.le, r.sm⟩
   exact Sl.kept (b := ⟨ao, n, cap, _⟩) r.sl (fun x hx1 => by
    obtain ⟨a, ha, hn, rfl⟩ := hx1
    have hl1 := r.low a ha hn
    exact key _ (by omega) (own1 _ (by omega)))
  exact r3.own (by omega) (by omega)
 ·exact h.res.kept (fin N h.res.lt (by omega) (by omega) (own1 N (by omega)))
 ·rw [List.length_append, List.length_singleton]
  have e : cellsC (l ++ [y]) = cellsC l ++ y.cells := by unfold cellsC; simp
  rw [e]
  refine own_kept a1 fun g hg => hset g ?_
  have := (a1.lt g hg).1
  omega
 ·intro q hq
  rcases List.mem_append.1 hq with hq | hq
  ·exact (h.oks q hq).kept fun x hx1 => fin x ((h.oks q hq).blk_lt hx1) (by have := (h.far x ⟨q, hq, hx1⟩).1; omega) (by have := (h.far x ⟨q, hq, hx1⟩).1; omega) (h.far x ⟨q, hq, hx1⟩).2
  ·rw [List.mem_singleton.1 hq]
   refine y1.kept fun x hx1 => ?_
   have c1 := y2 x hx1
   have c2 := y1.blk_lt hx1
   have c3 : v.ownBlock ≠ some x := fun e => by have := h.ownlt e; omega
   exact (hset x (by omega)).trans (key x c2 c3)
 ·intro x hx1
  have old : ∀ x, x < V1.heap.size → v.ownBlock ≠ some x → v'.ownBlock ≠ some x := fun x b1 b2 b3 => by
   rcases a3 x b3 with c | c
   ·exact b2 c
   ·omega
  obtain ⟨q, hq, hx1⟩ := hx1
  rcases List.mem_append.1 hq with hq | hq
  ·have := h.far x ⟨q, hq, hx1⟩
   exact ⟨this.1, old x (by have := (h.oks q hq).blk_lt hx1; omega) this.2⟩
  ·rw [List.mem_singleton.1 hq] at hx1
   have c1 := y2 x hx1
   have c2 := y1.blk_lt hx1
   refine ⟨by omega, old x c2 fun e => ?_⟩
   have := h.ownlt e
   omega
 ·rw [List.length_append, List.length_singleton, repT_snoc, List.map_append, h.thr, ← y3]
  rfl
 ·have hb := h.bel.size
  refine Below.setCell (h.bel.trans ⟨?_, ?_, ?_, ?_, ?_⟩) (by show N ≤ M; omega) _
  ·rw [a2.os]; exact y5.os
  ·rw [a2.tape]; exact y5.tape
  ·rw [a2.output]; exact y5.output
  ·omega
  ·intro x b1
   have b2 := h.res.lt
   exact (key x (by omega) (own1 x (by omega))).trans (RB x (by omega) (by omega))
 ·rw [List.length_append, List.length_singleton]
  omega
open Go.RowKit
theorem own_snoc {w : World} {base : Nat} {v : Value} {k : Nat} {xs ys : List Int} {c : Int} (h : w.ownsRow base 5 1 v (k + ys.length + 1) (bv (xs ++ ys) ++ [.int .u8 c])) :
  w.ownsRow base 5 1 v (k + (ys ++ [c]).length) (bv (xs ++ (ys ++ [c]))) := by
 have e : bv (xs ++ (ys ++ [c])) = bv (xs ++ ys) ++ [.int .u8 c] := by simp [bv]
 have l : k + (ys ++ [c]).length = k + ys.length + 1 := by simp; omega
 rw [e, l]
 exact h
set_option maxHeartbeats 800000 in
set_option maxRecDepth 100000 in
theorem putNumber_any (w : World) (base : Nat) (v : Value) (k n : Nat) (xs : List Int) (hn : n < 18446744073709551616) (hk : k + 20 ≤ 140737488355328) (hbase : base ≤ w.heap.size) (hown : w.ownsRow base 5 1 v k (bv xs)) :
  Calls Tryz.prog 113 #[v, .int .u64 n] w fun e w' =>
   ∃ v', e = .returned v' ∧ w'.ownsRow base 5 1 v' (k + (enc n).length) (bv (xs ++ enc n)) ∧ Below base w w' := by
 obtain ⟨i0, hi, hz0, hz1, hz2⟩ := info_parts u8info
 go_enter Tryz.func113, Tryz.ntmps113
 go_wp2
 refine wp_scope_label 0 (fun a' w' => Below base w w' ∧ ∃ (m : Nat) (v' u5 u6 u7 u8 u9 u10 u11 u12 u13 u14 u15 u16 u17 u18 u19 u20 : Value) (ys : List Int), a' = { tmps := #[v', .int .u64 m, undef, undef, .slice none 0 0, u5, u6, u7, u8, u9, u10, u11, u12, u13, u14, u15, u16, u17, u18, u19, u20], defers := [] } ∧ m < 18446744073709551616 ∧ ys ++ enc m = enc n ∧ ys.length + (enc m).length ≤ 10 ∧ w'.ownsRow base 5 1 v' (k + ys.length) (bv (xs ++ ys))) (fun a' _ => (intOf (a'.tmps.getD 1 undef)).toNat) ?_ ?_
 ·exact ⟨Below.refl _ _, n, v, _, _, _, _, _, _, _, _, _, _, _, _, _, _, _, _, [], rfl, hn, rfl, by simpa using enc_length hn, by simpa using hown⟩
 ·rintro a' w' ⟨hbel, m, v', u5, u6, u7, u8, u9, u10, u11, u12, u13, u14, u15, u16, u17, u18, u19, u20, ys, rfl, hm, hys, hy9, hown'⟩
  have hp := enc_pos m
  have hsz := hbel.size
  by_cases hlt : m < 128
  ·have HY : Hid (ys ++ enc m = enc n) := hys
   clear hys
   go_wp2_with (at_builtin; refine wpList_append_own _ rfl _ _ 23 rfl base 5 i0 (.int .u8 0) 1 1 Tryz.underlying23 hi hz0 hz1 hz2 rfl (by decide) _ _ _ rfl (hown'.alloc _) ⟨w'.heap.size, 0, none⟩ 1 1 [.int .u8 m] rfl rfl (cell_one_new _ _ _) (by simp [Value.oneCell']) (by unfold maxLen; omega) (by omega) (by simp; omega) ?_; intro v2 w2 hown2 hgrow2 hn2)
   have e1 : enc m = [(m : Int)] := enc_small hlt
   have e2 := HY.out
   rw [e1] at e2
   have ho := own_snoc hown2
   rw [e2] at ho
   have hb2 : Below base w w2 := (hbel.alloc (by omega) _).grown hgrow2 (by simp; omega) (fun j hj => (hown'.lt j hj).1)
   clear hown2 hgrow2 hn2
   simp only [Exit.jump]
   go_ret
   exact ⟨v2, rfl, ho, hb2⟩
  ·have HY : Hid (ys ++ enc m = enc n) := hys
   clear hys
   have ho := or128 m
   go_wp2_with (at_builtin; refine wpList_append_own _ rfl _ _ 23 rfl base 5 i0 (.int .u8 0) 1 1 Tryz.underlying23 hi hz0 hz1 hz2 rfl (by decide) _ _ _ rfl (hown'.alloc _) ⟨w'.heap.size, 0, none⟩ 1 1 [.int .u8 ((m % 128 + 128 : Nat) : Int)] rfl rfl (cell_one_new _ _ _) (by simp [Value.oneCell']) (by unfold maxLen; omega) (by omega) (by simp; omega) ?_; intro v2 w2 hown2 hgrow2 hn2)
   have e1 := enc_big (n := m) (by omega) hm
   have e2 := HY.out
   rw [e1] at e2
   have hl : (enc m).length = (enc (m / 128)).length + 1 := by rw [e1]; rfl
   have ho2 := own_snoc hown2
   have hb2 : Below base w w2 := (hbel.alloc (by omega) _).grown hgrow2 (by simp; omega) (fun j hj => (hown'.lt j hj).1)
   clear hown2 hgrow2 hn2
   go_step3
   rw [show ((m : Int) / 128) = ((m / 128 : Nat) : Int) from by omega]
   refine ⟨rfl, ⟨hb2, m / 128, v2, _, _, _, _, _, _, _, _, _, _, _, _, _, _, _, _, ys ++ [((m % 128 + 128 : Nat) : Int)], rfl, by omega, by rw [← e2]; simp, by simp; omega, ho2⟩, ?_⟩
   simp [intOf]
   omega
open Go.RowKit
theorem own_empty (w : World) : (w.alloc (.cells #[] 5)).ownsRow w.heap.size 5 1 (.slice (some ⟨w.heap.size, 0, none⟩) 0 0) 0 (bv []) :=
 World.ownsRow_made w #[] 0 (Nat.le_refl _) (Nat.zero_le _) rfl
set_option maxHeartbeats 400000 in
theorem wUint_any (w : World) (ao : Option Addr) (n cap m : Nat) (xs : List Int) (h : Sl w ao n cap xs) (hr : n + 30 ≤ 140737488355328) (hm : m < 18446744073709551616) :
  Calls Tryz.prog 86 #[.slice ao n cap, .int .u64 m] w fun e w' =>
   ∃ v, e = .returned v ∧ w'.ownsRow w.heap.size 5 1 v (n + (enc m).length) (bv (xs ++ enc m)) ∧ Below w.heap.size w w' := by
 go_enter Tryz.func86, Tryz.ntmps86
 go_wp2_with fail
 refine (withRoom_any w ao n cap 10 xs h (by omega)).mono ?_
 rintro e w1 ⟨rfl, hown1, hb1⟩
 have hs := hb1.size
 go_wp2_with fail
 refine (putNumber_any w1 w.heap.size _ n m xs hm (by omega) hs hown1).mono ?_
 rintro e w2 ⟨v2, rfl, hown2, hb2⟩
 have hb := hb1.trans hb2
 clear hown1 hb1 hb2
 go_wp2_with fail
 go_ret
 exact ⟨v2, rfl, hown2, hb⟩
set_option maxHeartbeats 400000 in
theorem wBytes_any (w : World) (ao bo : Option Addr) (n cap m cap2 : Nat) (xs ys : List Int) (h : Sl w ao n cap xs) (h2 : Sl w bo m cap2 ys) (hr : n + m + 60 ≤ 140737488355328) :
  Calls Tryz.prog 87 #[.slice ao n cap, .slice bo m cap2] w fun e w' =>
   ∃ v, e = .returned v ∧ w'.ownsRow w.heap.size 5 1 v (n + (enc m).length + m) (bv (xs ++ enc m ++ ys)) ∧ Below w.heap.size w w' := by
 obtain ⟨i0, hi, hz0, hz1, hz2⟩ := info_parts u8info
 go_enter Tryz.func87, Tryz.ntmps87
 go_wp2_with fail
 rw [show (10 + (m : Int)) = ((10 + m : Nat) : Int) from by omega]
 refine (withRoom_any w ao n cap (10 + m) xs h (by omega)).mono ?_
 rintro e w1 ⟨rfl, hown1, hb1⟩
 have hs := hb1.size
 go_wp2_with fail
 refine (putNumber_any w1 w.heap.size _ n m xs (by omega) (by omega) hs hown1).mono ?_
 rintro e w2 ⟨v2, rfl, hown2, hb2⟩
 have hs2 := hb2.size
 have hb := hb1.trans hb2
 have hl := enc_length (n := m) (by omega)
 have h3 := h2.below hb
 clear hown1 hb1 hb2
 go_wp2_with (at_builtin; refine wpList_app rfl _ _ rfl w.heap.size _ _ _ rfl hown2 _ _ _ _ rfl h3 (by omega) (by omega) ?_; intro v3 w3 hown3 hb3)
 have hb4 := hb.trans hb3
 clear hb hown2 hb3 h3
 go_ret
 exact ⟨v3, rfl, hown3, hb4⟩
open Go.RowKit
set_option maxHeartbeats 400000 in
theorem wBool_any (w : World) (ao : Option Addr) (n cap : Nat) (b : Bool) (xs : List Int) (h : Sl w ao n cap xs) (hr : n + 30 ≤ 140737488355328) :
  Calls Tryz.prog 117 #[.slice ao n cap, .bool b] w fun e w' =>
   ∃ v, e = .returned v ∧ w'.ownsRow w.heap.size 5 1 v (n + 1) (bv (xs ++ enb b)) ∧ Below w.heap.size w w' := by
 cases b
 all_goals
  go_enter Tryz.func117, Tryz.ntmps117
  go_wp2_with fail
  refine (withRoom_any w ao n cap 1 xs h (by omega)).mono ?_
  rintro e w1 ⟨rfl, hown1, hb1⟩
  have hs := hb1.size
  go_wp2_with (at_builtin; refine wpList_app rfl _ _ rfl w.heap.size _ _ _ rfl (hown1.alloc _) _ _ _ _ rfl (Sl.one w1 _ (by decide)) (by omega) (by simp; omega) ?_; intro v3 w3 hown3 hb3)
  have hb4 := (hb1.alloc hs _).trans hb3
  clear hb1 hown1 hb3
  go_ret
  exact ⟨v3, rfl, hown3, hb4⟩
open Go.RowKit
theorem sl_of_own {w w' : World} {v : Value} {n : Nat} {xs : List Int} (h : w'.ownsRow w.heap.size 5 1 v n (bv xs)) (hb : Byt xs) : ∃ ao m cap, v = .slice ao m cap ∧ Sl w' ao m cap xs := by
 obtain ⟨ao, cap, e, s, _⟩ := Sl.own h hb
 exact ⟨ao, n, cap, e, s⟩
theorem fUint (w : World) (ao : Option Addr) (n cap m : Nat) (xs : List Int) (h : Sl w ao n cap xs) (hr : n ≤ 1000000) (hm : m < 18446744073709551616) :
  Calls Tryz.prog 86 #[.slice ao n cap, .int .u64 m] w fun e w' => ∃ bo k c, e = .returned (.slice bo k c) ∧ Sl w' bo k c (xs ++ enc m) ∧ Below w.heap.size w w' := by
 refine (wUint_any w ao n cap m xs h (by omega) hm).mono ?_
 rintro e w' ⟨v, rfl, O, B⟩
 obtain ⟨bo, k, c, rfl, s⟩ := sl_of_own O (h.byte.append (enc_byte hm))
 exact ⟨bo, k, c, rfl, s, B⟩
theorem fBytes (w : World) (ao bo : Option Addr) (n cap m cap2 : Nat) (xs ys : List Int) (h : Sl w ao n cap xs) (h2 : Sl w bo m cap2 ys) (hr : n ≤ 1000000) (hr2 : m ≤ 1000000) :
  Calls Tryz.prog 87 #[.slice ao n cap, .slice bo m cap2] w fun e w' => ∃ bo k c, e = .returned (.slice bo k c) ∧ Sl w' bo k c (xs ++ byts ys) ∧ Below w.heap.size w w' := by
 refine (wBytes_any w ao bo n cap m cap2 xs ys h h2 (by omega)).mono ?_
 rintro e w' ⟨v, rfl, O, B⟩
 have e1 : xs ++ enc m ++ ys = xs ++ byts ys := by unfold byts; rw [h2.len, List.append_assoc]
 rw [e1] at O
 obtain ⟨bo, k, c, rfl, s⟩ := sl_of_own O (h.byte.append (by unfold byts; rw [h2.len]; exact Byt.append (enc_byte (n := m) (by omega)) h2.byte))
 exact ⟨bo, k, c, rfl, s, B⟩
theorem fBool (w : World) (ao : Option Addr) (n cap : Nat) (b : Bool) (xs : List Int) (h : Sl w ao n cap xs) (hr : n ≤ 1000000) :
  Calls Tryz.prog 117 #[.slice ao n cap, .bool b] w fun e w' => ∃ bo k c, e = .returned (.slice bo k c) ∧ Sl w' bo k c (xs ++ enb b) ∧ Below w.heap.size w w' := by
 refine (wBool_any w ao n cap b xs h (by omega)).mono ?_
 rintro e w' ⟨v, rfl, O, B⟩
 obtain ⟨bo, k, c, rfl, s⟩ := sl_of_own O (h.byte.append (enb_byte b))
 exact ⟨bo, k, c, rfl, s, B⟩
theorem txt_len {s : ByteArray} (h : s.size ≤ 32) : (txt s).length ≤ 42 := by
 have := enc_length (n := s.size) (by omega)
 unfold txt
 rw [List.length_append, sb_len]
 omega
theorem txt_byts (s : ByteArray) : byts (sb s) = txt s := by unfold byts txt; rw [sb_len]
set_option maxRecDepth 100000 in
set_option maxHeartbeats 1000000 in
theorem ptexts_any (w : World) (ao : Option Addr) (n cap : Nat) (xs : List Int) (h : Sl w ao n cap xs) (hr : n ≤ 900000) (g : Nat) (ss : List ByteArray) (hs : ∀ i (hi : i < ss.length), w.cell? ⟨g, i, none⟩ = some (.string ss[i])) (hl : ss.length ≤ 3) (h32 : ∀ s ∈ ss, s.size ≤ 32) :
  Calls Tryz.prog 116 #[.slice ao n cap, .slice (some ⟨g, 0, none⟩) ss.length ss.length] w fun e w' => ∃ bo k c, e = .returned (.slice bo k c) ∧ Sl w' bo k c (xs ++ (ss.map txt).flatten) ∧ Below w.heap.size w w' := by
 have hxl := h.len
 go_enter Tryz.func116, Tryz.ntmps116
 go_wp2
 go_loopw [0, 6, 9] (fun b _ i wr => ∃ (k : Nat) (bo : Option Addr) (m c : Nat), k ≤ ss.length ∧ i = .int .i64 k ∧ b = .slice bo m c ∧ Sl wr bo m c (xs ++ ((ss.take k).map txt).flatten) ∧ m ≤ n + 42 * k ∧ Below w.heap.size w wr) (fun _ _ i _ => ss.length - (intOf i).toNat)
 case atStart => exact ⟨0, ao, n, cap, Nat.zero_le _, rfl, rfl, by simpa using h, by omega, Below.refl _ _⟩
 case round =>
  obtain ⟨k, bo, m, c, hk, rfl, rfl, S, hm, B⟩ := hrel
  by_cases hlt : k < ss.length
  ·have i1 : (k : Int) < (ss.length : Int) := by omega
   have q1 : wr.cell? ⟨g, k, none⟩ = some (.string ss[k]) := (B.cell (World.block_lt_of_cell? w _ (hs k hlt))).trans (hs k hlt)
   have z1 := h32 _ (List.getElem_mem hlt)
   have HT : Hid (((ss.take (k + 1)).map txt).flatten = ((ss.take k).map txt).flatten ++ txt ss[k]) := by
    show _ = _
    rw [List.take_succ_eq_append_getElem hlt, List.map_append, List.flatten_append]
    simp
   obtain ⟨s, hs1⟩ : ∃ s, s = ss[k] := ⟨_, rfl⟩
   obtain ⟨p, hp⟩ : ∃ p, p = ((ss.take k).map txt).flatten := ⟨_, rfl⟩
   rw [← hs1] at q1 z1 HT
   rw [← hp] at S HT
   clear hs1 hp hs h32
   have hm1 : m ≤ 1000000 := by omega
   have hm2 : s.size ≤ 1000000 := by omega
   go_wp2_with (refine wpList_conv_bytes rfl (.tmp 14) rfl s rfl (by omega) ?_; intro g1 c1 w1 hg1 S1 B1; have D1 : Below w.heap.size w w1 := B.trans (B1.mono B.size); have T1 := S.below B1; have hl1 := S.len; clear B1 S hg1)
   refine (fBytes w1 bo (some ⟨g1, 0, none⟩) m c s.size c1 (xs ++ p) (sb s) T1 S1 hm1 hm2).mono ?_
   rintro e w2 ⟨bo2, m2, c2, rfl, S2, B2⟩
   have D2 := D1.trans (B2.mono D1.size)
   have l2 := S2.len
   rw [txt_byts] at S2 l2
   clear B2 T1 S1
   go_wp2
   have hl2 := txt_len z1
   go_roundw
   case rel => exact ⟨k + 1, bo2, m2, c2, by omega, by go_num, rfl, by rw [HT.out, ← List.append_assoc]; exact S2, by simp only [List.length_append] at l2 hl1; omega, D2⟩
   case measure => simp [intOf]; omega
  ·have i1 : (ss.length : Int) ≤ (k : Int) := by omega
   rw [List.take_of_length_le (by omega)] at S
   go_wp2
   go_ret
   exact ⟨bo, m, c, rfl, S, B⟩
end Go.Proofs.YtnbejckdhdbamaaGreat
namespace Go
section
variable {P : Program} {ops : Array Oper} {S : World → Prop} {Q : Exit → Act → World → Prop} {fuel : Nat} {listed : Array Bool} {a : Act} {w : World}
theorem hr_take (i : Nat) (d : Option Tmp) (v : Value) {oi : Oper} (hi : ops[i]? = some oi) (hd : oi.dst = d) (hs : Region.noSelect ops = true) (hf : Region.free .any ops listed i = true) (hr : (Region.ready .any ops listed).contains i = true)
  (hg : oi.guard = none) (hrun : ∀ W, S W → (execOp a.eval oi).run P W = .ok (.value v) W) (hS : S w) (h : wpAnyH P .any ops (NoPanic Q) S fuel (listed.setIfInBounds i true) (a.put d v) w) : wpAnyH P .any ops (NoPanic Q) S (fuel + 1) listed a w :=
 wpAnyH_take hi hs hf hr (fun _ _ _ h => h) (.inl ⟨by simp [Region.wanted, hg], hrun⟩) hS (by rw [hd]; exact h)
theorem hr_take_w (i : Nat) (d : Option Tmp) (v : Value) {oi : Oper} (hi : ops[i]? = some oi) (hd : oi.dst = d) (hs : Region.noSelect ops = true) (hf : Region.free .any ops listed i = true) (hr : (Region.ready .any ops listed).contains i = true)
  (hw : Region.wanted oi (yielded ops a.tmps) = true) (hrun : ∀ W, S W → (execOp a.eval oi).run P W = .ok (.value v) W) (hS : S w) (h : wpAnyH P .any ops (NoPanic Q) S fuel (listed.setIfInBounds i true) (a.put d v) w) : wpAnyH P .any ops (NoPanic Q) S (fuel + 1) listed a w :=
 wpAnyH_take hi hs hf hr (fun _ _ _ h => h) (.inl ⟨hw, hrun⟩) hS (by rw [hd]; exact h)
theorem hr_none (i : Nat) (d : Option Tmp) {oi : Oper} (hi : ops[i]? = some oi) (hd : oi.dst = d) (hs : Region.noSelect ops = true) (hf : Region.free .any ops listed i = true) (hr : (Region.ready .any ops listed).contains i = true)
  (hw : Region.wanted oi (yielded ops a.tmps) = false) (hS : S w) (h : wpAnyH P .any ops (NoPanic Q) S fuel (listed.setIfInBounds i true) (a.put d undef) w) : wpAnyH P .any ops (NoPanic Q) S (fuel + 1) listed a w :=
 wpAnyH_take hi hs hf hr (fun _ _ _ h => h) (.inr ⟨hw, rfl⟩) hS (by rw [hd]; exact h)
theorem hr_do (i : Nat) (d : Option Tmp) (v : Value) {oi : Oper} {w' : World} (hi : ops[i]? = some oi) (hd : oi.dst = d) (hr : Region.ready .any ops listed = [i]) (hg : oi.guard = none) (hrun : (execOp a.eval oi).run P w = .ok (.value v) w') (hS : S w')
  (h : wpAnyH P .any ops (NoPanic Q) S fuel (listed.setIfInBounds i true) (a.put d v) w') : wpAnyH P .any ops (NoPanic Q) S (fuel + 1) listed a w := by
 refine wpAnyH_all hr (by simp) fun j hj => ?_
 obtain rfl := List.mem_singleton.1 hj
 have hw : Region.wanted oi (yielded ops a.tmps) = true := by simp [Region.wanted, hg]
 unfold wpOp
 simp only [hi, hw, if_true, Oper.wp, hrun, Oper.upon, hd]
 exact .inl ⟨hS, h⟩
theorem hr_skip (i : Nat) (d : Option Tmp) {oi : Oper} {w' : World} (hi : ops[i]? = some oi) (hd : oi.dst = d) (hr : Region.ready .any ops listed = [i]) (hg : oi.guard = none) (hrun : (execOp a.eval oi).run P w = .ok .skip w') (hS : S w')
  (h : wpAnyH P .any ops (NoPanic Q) S fuel (listed.setIfInBounds i true) (a.put d undef) w') : wpAnyH P .any ops (NoPanic Q) S (fuel + 1) listed a w := by
 refine wpAnyH_all hr (by simp) fun j hj => ?_
 obtain rfl := List.mem_singleton.1 hj
 have hw : Region.wanted oi (yielded ops a.tmps) = true := by simp [Region.wanted, hg]
 unfold wpOp
 simp only [hi, hw, if_true, Oper.wp, hrun, Oper.upon, hd]
 exact .inl ⟨hS, h⟩
theorem hr_call (i : Nat) (d : Option Tmp) {oi : Oper} (f : FuncId) (args : Array Value) (hi : ops[i]? = some oi) (hd : oi.dst = d) (hr : Region.ready .any ops listed = [i]) (hg : oi.guard = none) (hrun : (execOp a.eval oi).run P w = .ok (.enter f args) w)
  (R : Value → World → Prop) (hc : Calls P f args w fun e w' => ∃ v, e = .returned v ∧ R v w')
  (h : ∀ v w', R v w' → S w' ∧ wpAnyH P .any ops (NoPanic Q) S fuel (listed.setIfInBounds i true) (a.put d v) w') : wpAnyH P .any ops (NoPanic Q) S (fuel + 1) listed a w := by
 refine wpAnyH_all hr (by simp) fun j hj => ?_
 obtain rfl := List.mem_singleton.1 hj
 have hw : Region.wanted oi (yielded ops a.tmps) = true := by simp [Region.wanted, hg]
 unfold wpOp
 simp only [hi, hw, if_true, Oper.wp, hrun, Oper.upon, hd]
 refine .inl (hc.mono ?_)
 rintro e w' ⟨v, rfl, hR⟩
 exact h v w' hR
theorem hr_call_w (i : Nat) (d : Option Tmp) {oi : Oper} (f : FuncId) (args : Array Value) (hi : ops[i]? = some oi) (hd : oi.dst = d) (hr : Region.ready .any ops listed = [i]) (hw : Region.wanted oi (yielded ops a.tmps) = true) (hrun : (execOp a.eval oi).run P w = .ok (.enter f args) w)
  (R : Value → World → Prop) (hc : Calls P f args w fun e w' => ∃ v, e = .returned v ∧ R v w')
  (h : ∀ v w', R v w' → S w' ∧ wpAnyH P .any ops (NoPanic Q) S fuel (listed.setIfInBounds i true) (a.put d v) w') : wpAnyH P .any ops (NoPanic Q) S (fuel + 1) listed a w := by
 refine wpAnyH_all hr (by simp) fun j hj => ?_
 obtain rfl := List.mem_singleton.1 hj
 unfold wpOp
 simp only [hi, hw, if_true, Oper.wp, hrun, Oper.upon, hd]
 refine .inl (hc.mono ?_)
 rintro e w' ⟨v, rfl, hR⟩
 exact h v w' hR
end
end Go

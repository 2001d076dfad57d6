/-
  Texts in one: Base, CMath, TMath, Rot, DBase, Words, Sched, Mix, Take2, Add, AddW, Pad, SumM, SumOf, Parts, TMem, Room, Math, Put, Forms.
-/
import Derived.Test.YtnicnfjickknjaaDoorProg
import Derived.WalkKit
import Derived.WalkSpells
import Derived.WalkMore
import Derived.ScopeJumps
import Derived.Laws.AppendOwnNone
import Derived.KernelRfl
import Derived.Laws.BitsAllLaws
import Derived.Laws.ShiftsVarLaws
import Derived.Deep.WholeRow
import Derived.Deep.Draws
import Derived.BigQuiet
import Derived.RegionTactic
import Derived.BigRegion
import Derived.Laws.CopyOwn
import Derived.Deep.RegionLaw
import Derived.Deep.Slices
import Derived.ArgAppend
import Derived.Deep.Upon
import Derived.DataElems
namespace Go.Proofs.YtnicnfjickknjaaDoor
open Go.RowKit

theorem u8info : (Tryd.prog.info? 5).map (fun i => (i.zero, i.size, i.bytes)) = some (some (.int .u8 0), 1, 1) := by kernel_rfl

/-- The cells of some bytes. -/
def bv (xs : List Int) : List Value := xs.map (Value.int .u8)
theorem bv_length (xs : List Int) : (bv xs).length = xs.length := by simp [bv]
theorem bv_append (xs ys : List Int) : bv (xs ++ ys) = bv xs ++ bv ys := by simp [bv]
theorem bv_one (xs : List Int) : ∀ u ∈ bv xs, u.oneCell' = true := ints_oneCell .u8 xs
theorem bv_get (xs : List Int) (j : Nat) (h : j < xs.length) : (bv xs)[j]? = some (.int .u8 (xs.getD j 0)) := by
  simp [bv, h]

/-- Each is a byte. -/
def Byt (xs : List Int) : Prop := ∀ x ∈ xs, 0 ≤ x ∧ x ≤ 255
theorem Byt.append {xs ys : List Int} (h : Byt xs) (k : Byt ys) : Byt (xs ++ ys) := by
  intro x hx
  rcases List.mem_append.1 hx with h1 | h1
  · exact h x h1
  · exact k x h1
theorem Byt.drop {xs : List Int} (h : Byt xs) (n : Nat) : Byt (xs.drop n) := fun x hx => h x (List.mem_of_mem_drop hx)
theorem Byt.take {xs : List Int} (h : Byt xs) (n : Nat) : Byt (xs.take n) := fun x hx => h x (List.mem_of_mem_take hx)
theorem Byt.at {xs : List Int} (h : Byt xs) (j : Nat) : 0 ≤ xs[j]?.getD 0 ∧ xs[j]?.getD 0 ≤ 255 := by
  by_cases hj : j < xs.length
  · simp [hj]
    exact h _ (List.getElem_mem hj)
  · simp [hj]

/-- The slice at ao, of n elements, up to cap, reads as the bytes xs. -/
structure Sl (w : World) (ao : Option Addr) (n cap : Nat) (xs : List Int) : Prop where
  len : xs.length = n
  le : n ≤ cap
  mx : cap ≤ maxLen
  nil : ao = none → n = 0 ∧ cap = 0
  cell : ∀ a, ao = some a → ∀ i, i < n → w.cell? (a.add i) = some (.int .u8 (xs.getD i 0))
  byte : Byt xs

theorem Sl.cells {w : World} {ao : Option Addr} {n cap : Nat} {xs : List Int} (h : Sl w ao n cap xs) : ∀ ad, ao = some ad → ∀ j u, (bv xs)[j]? = some u → w.cell? (ad.add j) = some u := by
  intro ad had j u hu
  have hj : j < xs.length := by
    have := (List.getElem?_eq_some_iff.1 hu).1
    simpa [bv] using this
  rw [bv_get xs j hj] at hu
  rw [h.cell ad had j (by rw [← h.len]; exact hj)]
  exact hu

theorem Sl.lt {w : World} {ao : Option Addr} {n cap : Nat} {xs : List Int} (h : Sl w ao n cap xs) : ∀ a, ao = some a → 0 < n → a.block < w.heap.size := by
  intro a ha hn
  have := World.block_lt_of_cell? w _ (h.cell a ha 0 hn)
  simpa [Addr.add] using this

/-- What reads so still does where all that lies below w's end is as it was. -/
theorem Sl.below {w w' : World} {ao : Option Addr} {n cap : Nat} {xs : List Int} (h : Sl w ao n cap xs) (hb : Below w.heap.size w w') : Sl w' ao n cap xs := by
  refine ⟨h.len, h.le, h.mx, h.nil, fun a ha i hi => ?_, h.byte⟩
  have hc := h.cell a ha i hi
  rw [← hc]
  exact hb.cell (World.block_lt_of_cell? w _ hc)

theorem Sl.nothing (w : World) : Sl w none 0 0 [] := ⟨rfl, Nat.le_refl _, Nat.zero_le _, fun _ => ⟨rfl, rfl⟩, fun _ h => by simp at h, fun _ h => by simp at h⟩

/-- One byte that lies in a block of its own. -/
theorem Sl.one (w : World) (c : Int) (h : 0 ≤ c ∧ c ≤ 255) : Sl (w.alloc (.cells #[.int .u8 c] 5)) (some ⟨w.heap.size, 0, none⟩) 1 1 [c] := by
  refine ⟨rfl, Nat.le_refl _, by decide, fun h => by simp at h, fun a ha i hi => ?_, fun x hx => by simp at hx; omega⟩
  obtain rfl := Option.some.inj ha
  obtain rfl : i = 0 := by omega
  exact cell_one_new _ _ _ 0 _ (by simp)

/-- Bytes that are written out, in a block of their own. -/
theorem Sl.new (w : World) (xs : List Int) (h : Byt xs) (hn : xs.length ≤ maxLen) : Sl (w.alloc (.cells (bv xs).toArray 5)) (some ⟨w.heap.size, 0, none⟩) xs.length xs.length xs := by
  refine ⟨rfl, Nat.le_refl _, hn, fun h => by simp at h, fun a ha i hi => ?_, h⟩
  obtain rfl := Option.some.inj ha
  rw [Addr.add_lit, Nat.zero_add, cell_of_row _ w.heap.size i (bv xs).toArray 5 (0, 0) (heap_alloc_new w _)]
  simpa using bv_get xs i hi

/-- What the call owns reads as its bytes. -/
theorem Sl.own {w : World} {base : Nat} {v : Value} {n : Nat} {xs : List Int} (h : w.ownsRow base 5 1 v n (bv xs)) (hb : Byt xs) :
    ∃ ao cap, v = .slice ao n cap ∧ Sl w ao n cap xs ∧ ∀ a, ao = some a → base ≤ a.block ∧ a.block < w.heap.size ∧ a.off = 0 ∧ a.spot = none := by
  have hl : xs.length = n := by have := h.1; rw [bv_length] at this; omega
  rcases h.2 with ⟨rfl, rfl⟩ | ⟨g, cap, cur, rfl, hg, hh, hle, hmx, hcs, htk⟩
  · obtain rfl : xs = [] := List.eq_nil_of_length_eq_zero hl
    exact ⟨none, 0, rfl, Sl.nothing w, fun a ha => by simp at ha⟩
  · refine ⟨some ⟨g, 0, none⟩, cap, rfl, ⟨hl, hle, hmx, fun h => by simp at h, fun a ha i hi => ?_, hb⟩, fun a ha => ?_⟩
    · obtain rfl := Option.some.inj ha
      exact h.cells (g := g) rfl i _ (bv_get xs i (by omega))
    · obtain rfl := Option.some.inj ha
      exact ⟨hg, (Array.getElem?_eq_some_iff.1 hh).1, rfl, rfl⟩

/-- append(out, x...), out the call's own, x whatever slice of bytes. -/
theorem wpList_app {w : World} {ops : Array Oper} {rest : List Oper} {o : Oper} {a : Act} {Q : Exit → Act → World → Prop} (hgd : o.guard = none) (s x : Operand)
    (ho : o.op = .call { callee := .builtin .append, args := #[s, x], argTypes := #[23, 23] })
    (base : Nat) (v : Value) (n : Nat) (xs : List Int) (hs : a.eval s = v) (hown : w.ownsRow base 5 1 v n (bv xs))
    (bo : Option Addr) (m c : Nat) (ys : List Int) (hx : a.eval x = .slice bo m c) (hsl : Sl w bo m c ys) (hb : n + m ≤ 140737488355328) (hbase : base ≤ w.heap.size)
    (h : ∀ v' w', w'.ownsRow base 5 1 v' (n + m) (bv (xs ++ ys)) → Below base w w' → wpList Tryd.prog ops Q rest (a.put o.dst v') w') : wpList Tryd.prog ops Q (o :: rest) a w := by
  obtain ⟨i0, hi, hz0, hz1, hz2⟩ := info_parts u8info
  cases bo with
  | some ad =>
    refine wpList_append_own w hgd s x 23 ho base 5 i0 (.int .u8 0) 1 1 Tryd.underlying23 hi hz0 hz1 hz2 rfl (by decide) v n (bv xs) hs hown ad m c (bv ys) hx (by rw [bv_length, hsl.len, Nat.mul_one]) (hsl.cells ad rfl) (bv_one ys) (by unfold maxLen; omega) (by omega) hbase ?_
    intro v' w' h1 h2 _
    rw [← bv_append] at h1
    exact h v' w' h1 ((Below.refl _ w).grown h2 hbase (fun k hk => (hown.lt k hk).1))
  | none =>
    obtain ⟨rfl, rfl⟩ := hsl.nil rfl
    obtain rfl : ys = [] := List.eq_nil_of_length_eq_zero hsl.len
    refine wpList_append_own_none hgd s x 23 ho base 5 i0 1 Tryd.underlying23 hi v n (bv xs) hs hown hx ?_
    exact h v w (by simpa using hown) (Below.refl _ _)

theorem or128 (m : Nat) : bits BinOp.or IntKind.u8 128 ((m : Int) % 128) = ((m % 128 + 128 : Nat) : Int) := by
  have key : ∀ x : Fin 128, bits BinOp.or IntKind.u8 128 ((x.val : Nat) : Int) = ((x.val + 128 : Nat) : Int) := by decide
  have h := key ⟨m % 128, Nat.mod_lt _ (by decide)⟩
  simpa using h

/-- A scope that begins with a label, to which the run jumps back: what holds there each time, and a measure that falls. -/
theorem wp_scope_label {P : Program} {Q : Exit → Act → World → Prop} {a : Act} {w : World} {y : Code} (l : Nat) (J : Act → World → Prop) (μ : Act → World → Nat) (h0 : J a w)
    (pass : ∀ a w, J a w → y.wp P (Exit.jump l (fun a' w' => J a' w' ∧ μ a' w' < μ a w) Q) a w) : (Code.scope ((Code.label l).seq y)).wp P Q a w := by
  refine wp_scope_jumps l J μ (rest := .seq .skip y) (by simp [findLabel]) ?_ ?_
  · refine wp_seq (wp_label ?_)
    show y.wp P _ a w
    refine wp_mono (pass a w h0) ?_
    intro e a' w' h
    cases e with
    | goto l' => exact ⟨h.1, h.2.1⟩
    | _ => exact h
  · intro a w hJ
    exact wp_seq (wp_skip (pass a w hJ))

end Go.Proofs.YtnicnfjickknjaaDoor

namespace Go.Proofs.YtnicnfjickknjaaDoor

/-- A name's bytes. -/
def nm : List Int → List Int
  | [] => [0, 1]
  | c :: t => if c = 0 then 0 :: 255 :: nm t else c :: nm t
/-- The order of texts. -/
def cmpL : List Int → List Int → Int
  | [], [] => 0
  | [], _ :: _ => -1
  | _ :: _, [] => 1
  | a :: s, b :: t => if a = b then cmpL s t else if a < b then -1 else 1
theorem cmpL_self : ∀ s, cmpL s s = 0
  | [] => rfl
  | a :: s => by simp [cmpL, cmpL_self s]
theorem cmpL_eq : ∀ s t, cmpL s t = 0 → s = t
  | [], [], _ => rfl
  | [], _ :: _, h => by simp [cmpL] at h
  | _ :: _, [], h => by simp [cmpL] at h
  | a :: s, b :: t, h => by
    unfold cmpL at h
    by_cases e : a = b
    · rw [if_pos e] at h; rw [e, cmpL_eq s t h]
    · rw [if_neg e] at h; split at h <;> simp at h
theorem cmpL_three : ∀ s t, cmpL s t = -1 ∨ cmpL s t = 0 ∨ cmpL s t = 1
  | [], [] => .inr (.inl rfl)
  | [], _ :: _ => .inl rfl
  | _ :: _, [] => .inr (.inr rfl)
  | a :: s, b :: t => by
    unfold cmpL
    split
    · exact cmpL_three s t
    · split <;> simp
theorem cmpL_neg : ∀ s t, cmpL t s = -cmpL s t
  | [], [] => rfl
  | [], _ :: _ => rfl
  | _ :: _, [] => rfl
  | a :: s, b :: t => by
    unfold cmpL
    by_cases e : a = b
    · rw [if_pos e, if_pos e.symm]; exact cmpL_neg s t
    · rw [if_neg e, if_neg (fun h => e h.symm)]
      by_cases l : a < b
      · rw [if_pos l, if_neg (by omega)]; rfl
      · rw [if_neg l, if_pos (by omega)]
theorem cmpL_nil (u : List Int) : 0 ≤ cmpL u [] := by
  cases u <;> simp [cmpL]
/-- Names' bytes, whatever stands behind: as the names; of one name as what stands behind. -/
theorem nm_cmp : ∀ (s t : List Int), Byt s → Byt t → ∀ u v, cmpL (nm s ++ u) (nm t ++ v) = if cmpL s t = 0 then cmpL u v else cmpL s t
  | [], [], _, _, u, v => by simp [nm, cmpL]
  | [], b :: t, _, h, u, v => by
    have hb := h b (List.mem_cons_self ..)
    by_cases e : b = 0
    · simp [nm, cmpL, e]
    · have : (0 : Int) ≠ b := fun h => e h.symm
      have l : (0 : Int) < b := by omega
      simp [nm, cmpL, e, this, l]
  | a :: s, [], h, _, u, v => by
    have hb := h a (List.mem_cons_self ..)
    by_cases e : a = 0
    · simp [nm, cmpL, e]
    · have l : ¬ a < 0 := by omega
      simp [nm, cmpL, e, l]
  | a :: s, b :: t, hs, ht, u, v => by
    have ha := hs a (List.mem_cons_self ..)
    have hb := ht b (List.mem_cons_self ..)
    have ih := nm_cmp s t (fun x hx => hs x (List.mem_cons_of_mem _ hx)) (fun x hx => ht x (List.mem_cons_of_mem _ hx)) u v
    by_cases e : a = b
    · subst e
      by_cases z : a = 0
      · simp [nm, cmpL, z, ih]
      · simp [nm, cmpL, z, ih]
    · by_cases l : a < b
      · by_cases z : a = 0
        · subst z
          have n : b ≠ 0 := fun h => e h.symm
          simp [nm, cmpL, n, e, l]
        · have n : b ≠ 0 := by omega
          simp [nm, cmpL, z, n, e, l]
      · have z : a ≠ 0 := by omega
        by_cases n : b = 0
        · subst n
          simp [nm, cmpL, z, l]
        · simp [nm, cmpL, z, n, e, l]
theorem nm_byte : ∀ (s : List Int), Byt s → Byt (nm s)
  | [], _ => by intro x hx; simp [nm] at hx; omega
  | a :: s, h => by
    have ih := nm_byte s (fun x hx => h x (List.mem_cons_of_mem _ hx))
    have ha := h a (List.mem_cons_self ..)
    intro x hx
    unfold nm at hx
    split at hx
    · rcases List.mem_cons.1 hx with rfl | hx
      · omega
      rcases List.mem_cons.1 hx with rfl | hx
      · omega
      exact ih x hx
    · rcases List.mem_cons.1 hx with rfl | hx
      · exact ha
      exact ih x hx
theorem nm_len : ∀ (s : List Int), 2 ≤ (nm s).length ∧ (nm s).length ≤ 2 * s.length + 2
  | [] => by simp [nm]
  | a :: s => by
    have ih := nm_len s
    unfold nm
    split <;> simp only [List.length_cons] <;> omega
/-- No name's bytes begin another one's. -/
theorem nm_prefix : ∀ (s t : List Int), ∀ u v, nm s ++ u <+: nm t ++ v → s = t ∧ u <+: v
  | [], [], u, v, h => by
    simp only [nm, List.cons_append, List.nil_append, List.cons_prefix_cons, true_and] at h
    exact ⟨rfl, h⟩
  | [], b :: t, u, v, h => by
    by_cases e : b = 0
    · simp [nm, e, List.cons_prefix_cons] at h
    · simp [nm, e, List.cons_prefix_cons] at h
      exact absurd h.1.symm e
  | a :: s, [], u, v, h => by
    by_cases e : a = 0
    · simp [nm, e, List.cons_prefix_cons] at h
    · simp [nm, e, List.cons_prefix_cons] at h
  | a :: s, b :: t, u, v, h => by
    by_cases e : a = 0
    · by_cases n : b = 0
      · simp only [nm, e, n, if_true, List.cons_append, List.cons_prefix_cons, true_and] at h
        have ih := nm_prefix s t u v h
        exact ⟨by rw [e, n, ih.1], ih.2⟩
      · simp [nm, e, n, List.cons_prefix_cons] at h
        exact absurd h.1.symm n
    · by_cases n : b = 0
      · simp [nm, e, n, List.cons_prefix_cons] at h
      · simp only [nm, e, n, if_false, List.cons_append, List.cons_prefix_cons] at h
        have ih := nm_prefix s t u v h.2
        exact ⟨by rw [h.1, ih.1], ih.2⟩

/-- A name off the front. -/
def cutL : List Int → Option (List Int × List Int)
  | [] => none
  | [c] => if c = 0 then none else none
  | c :: d :: r => if c = 0 then (if d = 1 then some ([], r) else if d = 255 then (cutL r).map fun p => (0 :: p.1, p.2) else none) else (cutL (d :: r)).map fun p => (c :: p.1, p.2)
theorem cutL_nm : ∀ (s : List Int) (u : List Int), cutL (nm s ++ u) = some (s, u)
  | [], u => by simp [nm, cutL]
  | a :: s, u => by
    have ih := cutL_nm s u
    by_cases e : a = 0
    · simp [nm, e, cutL, ih]
    · have h := (nm_len s).1
      obtain ⟨d, r, hr⟩ : ∃ d r, nm s ++ u = d :: r := by
        cases hh : nm s ++ u with
        | nil => have := congrArg List.length hh; rw [List.length_append, List.length_nil] at this; omega
        | cons d r => exact ⟨d, r, rfl⟩
      rw [hr] at ih
      simp [nm, e, cutL, hr, ih]
theorem nm_of_cutL : ∀ (n : Nat) (b s r : List Int), b.length ≤ n → cutL b = some (s, r) → b = nm s ++ r
  | 0, b, s, r, hn, h => by
    have : b = [] := List.length_eq_zero_iff.1 (by omega)
    subst this
    simp [cutL] at h
  | n + 1, [], s, r, _, h => by simp [cutL] at h
  | n + 1, [c], s, r, _, h => by simp [cutL] at h
  | n + 1, c :: d :: t, s, r, hn, h => by
    simp only [List.length_cons] at hn
    unfold cutL at h
    by_cases e : c = 0
    · rw [if_pos e] at h
      by_cases e1 : d = 1
      · rw [if_pos e1] at h
        simp only [Option.some.injEq, Prod.mk.injEq] at h
        rw [← h.1, ← h.2, e, e1]; rfl
      · rw [if_neg e1] at h
        by_cases e2 : d = 255
        · rw [if_pos e2] at h
          obtain ⟨p, hp, he⟩ := Option.map_eq_some_iff.1 h
          simp only [Prod.mk.injEq] at he
          have := nm_of_cutL n t p.1 p.2 (by omega) hp
          rw [← he.1, ← he.2, e, e2, this]
          simp [nm]
        · rw [if_neg e2] at h; simp at h
    · rw [if_neg e] at h
      obtain ⟨p, hp, he⟩ := Option.map_eq_some_iff.1 h
      simp only [Prod.mk.injEq] at he
      have := nm_of_cutL n (d :: t) p.1 p.2 (by simp only [List.length_cons]; omega) hp
      rw [← he.1, ← he.2, this]
      simp [nm, e]

/-- A number's n bytes, each turned, the great ones first. -/
def beL : Nat → Nat → List Int
  | 0, _ => []
  | n + 1, T => (255 - ((T / 256 ^ n % 256 : Nat) : Int)) :: beL n T
theorem beL_len : ∀ n T, (beL n T).length = n
  | 0, _ => rfl
  | n + 1, T => by simp [beL, beL_len n]
theorem beL_byte : ∀ n T, Byt (beL n T)
  | 0, _ => fun x hx => by simp [beL] at hx
  | n + 1, T => fun x hx => by
    rcases List.mem_cons.1 hx with rfl | h
    · omega
    · exact beL_byte n T x h
theorem mod_split (a n : Nat) : a % 256 ^ (n + 1) = a / 256 ^ n % 256 * 256 ^ n + a % 256 ^ n := by
  rw [Nat.pow_succ, Nat.mod_mul, Nat.mul_comm (256 ^ n), Nat.add_comm]
theorem beL_cmp : ∀ n a b, cmpL (beL n a) (beL n b) = if a % 256 ^ n = b % 256 ^ n then 0 else if b % 256 ^ n < a % 256 ^ n then -1 else 1
  | 0, a, b => by simp [beL, cmpL, Nat.mod_one]
  | n + 1, a, b => by
    have ih := beL_cmp n a b
    have ha := mod_split a n
    have hb := mod_split b n
    have la : a % 256 ^ n < 256 ^ n := Nat.mod_lt _ (Nat.pow_pos (by omega))
    have lb : b % 256 ^ n < 256 ^ n := Nat.mod_lt _ (Nat.pow_pos (by omega))
    have xa : a / 256 ^ n % 256 < 256 := Nat.mod_lt _ (by omega)
    have xb : b / 256 ^ n % 256 < 256 := Nat.mod_lt _ (by omega)
    unfold beL cmpL
    generalize a / 256 ^ n % 256 = x at *
    generalize b / 256 ^ n % 256 = y at *
    generalize 256 ^ n = P at *
    rw [ih, ha, hb]
    generalize a % P = p at *
    generalize b % P = q at *
    by_cases e : x = y
    · subst e
      simp
    · rw [if_neg (by omega)]
      by_cases l : y < x
      · have : y * P + P ≤ x * P := by rw [← Nat.succ_mul]; exact Nat.mul_le_mul_right _ l
        rw [if_pos (by omega), if_neg (by omega), if_pos (by omega)]
      · have : x * P + P ≤ y * P := by rw [← Nat.succ_mul]; exact Nat.mul_le_mul_right _ (by omega)
        rw [if_neg (by omega), if_neg (by omega), if_neg (by omega)]

/-- A key: its texts as bytes, its time. -/
structure KV where
  row : List Int
  fam : List Int
  qual : List Int
  time : Nat
def KV.byt (k : KV) : Prop := Byt k.row ∧ Byt k.fam ∧ Byt k.qual ∧ k.time < 18446744073709551616
abbrev KV.right (k : KV) : Prop := 1 ≤ k.row.length ∧ k.row.length ≤ 32 ∧ 1 ≤ k.fam.length ∧ k.fam.length ≤ 32 ∧ k.qual.length ≤ 32
def keyL (k : KV) : List Int := nm k.row ++ (nm k.fam ++ (nm k.qual ++ beL 8 k.time))
def cmpT (a b : Nat) : Int := if a = b then 0 else if b < a then -1 else 1
/-- The order of keys. -/
def cmpK (a b : KV) : Int :=
  if cmpL a.row b.row = 0 then (if cmpL a.fam b.fam = 0 then (if cmpL a.qual b.qual = 0 then cmpT a.time b.time else cmpL a.qual b.qual) else cmpL a.fam b.fam) else cmpL a.row b.row
theorem beL8_cmp (a b : Nat) (ha : a < 18446744073709551616) (hb : b < 18446744073709551616) : cmpL (beL 8 a) (beL 8 b) = cmpT a b := by
  have h := beL_cmp 8 a b
  rw [show (256 : Nat) ^ 8 = 18446744073709551616 from rfl, Nat.mod_eq_of_lt ha, Nat.mod_eq_of_lt hb] at h
  exact h
/-- Keys stand as their bytes do. -/
theorem keyL_cmp (a b : KV) (ha : a.byt) (hb : b.byt) : cmpL (keyL a) (keyL b) = cmpK a b := by
  unfold keyL cmpK
  rw [nm_cmp _ _ ha.1 hb.1, nm_cmp _ _ ha.2.1 hb.2.1, nm_cmp _ _ ha.2.2.1 hb.2.2.1, beL8_cmp _ _ ha.2.2.2 hb.2.2.2]
theorem cmpT_zero (a b : Nat) : cmpT a b = 0 ↔ a = b := by
  unfold cmpT
  constructor
  · intro h; split at h
    · assumption
    · split at h <;> simp at h
  · intro h; rw [if_pos h]
theorem cmpT_neg (a b : Nat) : cmpT b a = -cmpT a b := by
  unfold cmpT
  by_cases e : a = b
  · rw [if_pos e, if_pos e.symm]; rfl
  · rw [if_neg e, if_neg (fun h => e h.symm)]
    by_cases l : b < a
    · rw [if_pos l, if_neg (by omega)]; rfl
    · rw [if_neg l, if_pos (by omega)]
theorem cmpK_zero (a b : KV) : cmpK a b = 0 ↔ a = b := by
  constructor
  · intro h
    unfold cmpK at h
    by_cases e1 : cmpL a.row b.row = 0
    · rw [if_pos e1] at h
      by_cases e2 : cmpL a.fam b.fam = 0
      · rw [if_pos e2] at h
        by_cases e3 : cmpL a.qual b.qual = 0
        · rw [if_pos e3] at h
          have h1 := cmpL_eq _ _ e1
          have h2 := cmpL_eq _ _ e2
          have h3 := cmpL_eq _ _ e3
          have h4 := (cmpT_zero _ _).1 h
          cases a; cases b
          simp_all
        · rw [if_neg e3] at h; exact absurd h e3
      · rw [if_neg e2] at h; exact absurd h e2
    · rw [if_neg e1] at h; exact absurd h e1
  · rintro rfl
    simp [cmpK, cmpL_self, cmpT]
theorem cmpK_neg (a b : KV) : cmpK b a = -cmpK a b := by
  unfold cmpK
  rw [cmpL_neg a.row b.row, cmpL_neg a.fam b.fam, cmpL_neg a.qual b.qual, cmpT_neg a.time b.time]
  simp only [Int.neg_eq_zero]
  split
  · split
    · split <;> rfl
    · rfl
  · rfl
/-- No key's bytes begin another one's. -/
theorem keyL_prefix (a b : KV) (h : keyL a <+: keyL b) : (keyL a).length = (keyL b).length := by
  unfold keyL at *
  obtain ⟨e1, h⟩ := nm_prefix _ _ _ _ h
  obtain ⟨e2, h⟩ := nm_prefix _ _ _ _ h
  obtain ⟨e3, h⟩ := nm_prefix _ _ _ _ h
  rw [e1, e2, e3]
  simp only [List.length_append, beL_len]
theorem keyL_len (k : KV) : 14 ≤ (keyL k).length := by
  unfold keyL
  have h1 := (nm_len k.row).1
  have h2 := (nm_len k.fam).1
  have h3 := (nm_len k.qual).1
  simp only [List.length_append, beL_len]
  omega
theorem keyL_byte (k : KV) (h : k.byt) : Byt (keyL k) := by
  intro x hx
  unfold keyL at hx
  simp only [List.mem_append] at hx
  rcases hx with hx | hx | hx | hx
  · exact nm_byte _ h.1 x hx
  · exact nm_byte _ h.2.1 x hx
  · exact nm_byte _ h.2.2.1 x hx
  · exact beL_byte _ _ x hx
def colK (a b : KV) : Bool := decide (a.row = b.row ∧ a.fam = b.fam ∧ a.qual = b.qual)
theorem cmpL_sandwich (s t : List Int) (h1 : cmpL s t ≤ 0) (h2 : cmpL t s ≤ 0) : s = t := by
  rw [cmpL_neg s t] at h2
  exact cmpL_eq _ _ (by omega)
/-- Between two keys of one column stands no key of another. -/
theorem colK_between (a b c : KV) (hb : b.row = a.row ∧ b.fam = a.fam ∧ b.qual = a.qual) (h1 : cmpK a c ≤ 0) (h2 : cmpK c b ≤ 0) : a.row = c.row ∧ a.fam = c.fam ∧ a.qual = c.qual := by
  unfold cmpK at h1 h2
  rw [hb.1, hb.2.1, hb.2.2] at h2
  rw [cmpL_neg a.row c.row, cmpL_neg a.fam c.fam, cmpL_neg a.qual c.qual] at h2
  simp only [Int.neg_eq_zero] at h2
  by_cases e1 : cmpL a.row c.row = 0
  · rw [if_pos e1] at h1 h2
    by_cases e2 : cmpL a.fam c.fam = 0
    · rw [if_pos e2] at h1 h2
      by_cases e3 : cmpL a.qual c.qual = 0
      · exact ⟨cmpL_eq _ _ e1, cmpL_eq _ _ e2, cmpL_eq _ _ e3⟩
      · rw [if_neg e3] at h1 h2; omega
    · rw [if_neg e2] at h1 h2; omega
  · rw [if_neg e1] at h1 h2; omega
theorem cmpK_col (a b : KV) (h : a.row = b.row ∧ a.fam = b.fam ∧ a.qual = b.qual) : cmpK a b = cmpT a.time b.time := by
  unfold cmpK
  rw [h.1, h.2.1, h.2.2, cmpL_self, cmpL_self, cmpL_self]
  rfl
/-- Behind 33 bytes of 255 stands no name of up to 32. -/
theorem nm_top : ∀ (s : List Int) (u : List Int) (k : Nat), Byt s → s.length ≤ k → cmpL (nm s ++ u) (List.replicate (k + 1) 255) = -1
  | [], u, k, _, _ => by simp [nm, List.replicate_succ, cmpL]
  | a :: s, u, k + 1, h, hk => by
    have ha := h a (List.mem_cons_self ..)
    have ih := nm_top s u k (fun x hx => h x (List.mem_cons_of_mem _ hx)) (by simpa using hk)
    rw [List.replicate_succ]
    by_cases e : a = 0
    · simp [nm, e, cmpL]
    · by_cases f : a = 255
      · subst f
        simp [nm, cmpL, ih]
      · have l : a < 255 := by omega
        simp [nm, e, cmpL, f, l]
/-- Where a key stands, beside a name's bytes. -/
theorem keyL_below (k : KV) (t : List Int) (hk : k.byt) (ht : Byt t) : cmpL (keyL k) (nm t) < 0 ↔ cmpL k.row t < 0 := by
  have h := nm_cmp k.row t hk.1 ht (nm k.fam ++ (nm k.qual ++ beL 8 k.time)) []
  rw [List.append_nil] at h
  unfold keyL
  rw [h]
  have hn := cmpL_nil (nm k.fam ++ (nm k.qual ++ beL 8 k.time))
  by_cases e : cmpL k.row t = 0
  · rw [if_pos e, e]; omega
  · rw [if_neg e]

/-- The number of bytes that were turned. -/
def ofBe : List Int → Nat → Nat
  | [], t => t
  | c :: r, t => ofBe r (t * 256 + (255 - c).toNat)
theorem ofBe_beL : ∀ n T t, ofBe (beL n T) t = t * 256 ^ n + T % 256 ^ n
  | 0, T, t => by simp [beL, ofBe, Nat.mod_one]
  | n + 1, T, t => by
    have xa : T / 256 ^ n % 256 < 256 := Nat.mod_lt _ (by omega)
    rw [beL, ofBe, ofBe_beL n T, mod_split T n, Nat.pow_succ]
    generalize T / 256 ^ n % 256 = x at *
    rw [show (255 - (255 - (x : Int))).toNat = x by omega, Nat.add_mul, Nat.mul_assoc, Nat.mul_comm 256, Nat.add_assoc]
theorem ofBe_lt : ∀ (l : List Int), Byt l → ∀ t, ofBe l t < (t + 1) * 256 ^ l.length
  | [], _, t => by simp [ofBe]
  | c :: r, h, t => by
    have hc := h c (List.mem_cons_self ..)
    have ih := ofBe_lt r (fun x hx => h x (List.mem_cons_of_mem _ hx)) (t * 256 + (255 - c).toNat)
    rw [ofBe, List.length_cons, Nat.pow_succ]
    refine Nat.lt_of_lt_of_le ih ?_
    rw [Nat.mul_comm (256 ^ r.length), ← Nat.mul_assoc]
    exact Nat.mul_le_mul_right _ (by omega)
theorem beL_high : ∀ n T t, beL n (t * 256 ^ n + T) = beL n T
  | 0, _, _ => rfl
  | n + 1, T, t => by
    have h : t * 256 ^ (n + 1) + T = (t * 256) * 256 ^ n + T := by rw [Nat.pow_succ, Nat.mul_comm (256 ^ n), Nat.mul_assoc]
    rw [beL, beL, h, beL_high n T (t * 256)]
    congr 3
    rw [Nat.mul_comm (t * 256), Nat.mul_add_div (Nat.pow_pos (by omega))]
    omega
theorem ofBe_ge : ∀ (l : List Int), ∀ t, t * 256 ^ l.length ≤ ofBe l t
  | [], t => by simp [ofBe]
  | c :: r, t => by
    rw [ofBe, List.length_cons, Nat.pow_succ, Nat.mul_comm (256 ^ r.length), ← Nat.mul_assoc]
    exact Nat.le_trans (Nat.mul_le_mul_right _ (by omega)) (ofBe_ge r _)
theorem ofBe_div (l : List Int) (h : Byt l) (t : Nat) : ofBe l t / 256 ^ l.length = t := by
  have h1 := ofBe_ge l t
  have h2 := ofBe_lt l h t
  exact Nat.div_eq_of_lt_le h1 h2
theorem byt_of_nm : ∀ (s : List Int), Byt (nm s) → Byt s
  | [], _ => fun x hx => by simp at hx
  | a :: s, h => by
    unfold nm at h
    intro x hx
    by_cases e : a = 0
    · rw [if_pos e] at h
      have ih := byt_of_nm s (fun y hy => h y (List.mem_cons_of_mem _ (List.mem_cons_of_mem _ hy)))
      rcases List.mem_cons.1 hx with rfl | hx
      · omega
      · exact ih x hx
    · rw [if_neg e] at h
      have ih := byt_of_nm s (fun y hy => h y (List.mem_cons_of_mem _ hy))
      rcases List.mem_cons.1 hx with rfl | hx
      · exact h x (List.mem_cons_self ..)
      · exact ih x hx
theorem beL_ofBe : ∀ (l : List Int), Byt l → ∀ t, beL l.length (ofBe l t) = l
  | [], _, _ => rfl
  | c :: r, h, t => by
    have hc := h c (List.mem_cons_self ..)
    have hr : Byt r := fun x hx => h x (List.mem_cons_of_mem _ hx)
    have ih := beL_ofBe r hr (t * 256 + (255 - c).toNat)
    rw [List.length_cons, beL, ofBe, ih]
    have hd : ofBe r (t * 256 + (255 - c).toNat) / 256 ^ r.length = t * 256 + (255 - c).toNat := ofBe_div r hr _
    rw [hd]
    congr 1
    omega
/-- A key of bytes. -/
def readL (b : List Int) : Option KV :=
  (cutL b).bind fun p => (cutL p.2).bind fun q => (cutL q.2).bind fun r =>
    if r.2.length = 8 ∧ KV.right ⟨p.1, q.1, r.1, ofBe r.2 0⟩ then some ⟨p.1, q.1, r.1, ofBe r.2 0⟩ else none
theorem readL_keyL (k : KV) (hk : k.byt) (hr : k.right) : readL (keyL k) = some k := by
  have h8 : ofBe (beL 8 k.time) 0 = k.time := by
    rw [ofBe_beL, Nat.zero_mul, Nat.zero_add]
    exact Nat.mod_eq_of_lt hk.2.2.2
  unfold readL keyL
  simp only [cutL_nm, Option.bind_some, beL_len, h8]
  exact if_pos ⟨trivial, hr⟩
theorem cutL_byte {b s r : List Int} (hb : Byt b) (h : cutL b = some (s, r)) : b = nm s ++ r ∧ Byt s ∧ Byt r := by
  have e := nm_of_cutL b.length b s r (Nat.le_refl _) h
  have hr : Byt r := fun x hx => hb x (by rw [e]; exact List.mem_append_right _ hx)
  have hn : Byt (nm s) := fun x hx => hb x (by rw [e]; exact List.mem_append_left _ hx)
  exact ⟨e, byt_of_nm s hn, hr⟩
theorem keyL_readL {b : List Int} {k : KV} (hb : Byt b) (h : readL b = some k) : keyL k = b ∧ k.right ∧ k.byt := by
  unfold readL at h
  obtain ⟨⟨r, b1⟩, h1, h⟩ := Option.bind_eq_some_iff.1 h
  obtain ⟨⟨f, b2⟩, h2, h⟩ := Option.bind_eq_some_iff.1 h
  obtain ⟨⟨q, b3⟩, h3, h⟩ := Option.bind_eq_some_iff.1 h
  obtain ⟨e1, r1, k1⟩ := cutL_byte hb h1
  obtain ⟨e2, r2, k2⟩ := cutL_byte k1 h2
  obtain ⟨e3, r3, k3⟩ := cutL_byte k2 h3
  split at h
  · next hc =>
    obtain rfl := Option.some.inj h
    have hl := ofBe_lt b3 k3 0
    have hx := beL_ofBe b3 k3 0
    rw [hc.1] at hl hx
    refine ⟨?_, hc.2, r1, r2, r3, ?_⟩
    · show nm r ++ (nm f ++ (nm q ++ beL 8 (ofBe b3 0))) = b
      rw [hx, e1, e2, e3]
    · show ofBe b3 0 < 18446744073709551616
      simpa using hl
  · simp at h

end Go.Proofs.YtnicnfjickknjaaDoor

namespace Go.Proofs.YtnicnfjickknjaaDoor

theorem cmpL_lt_trans : ∀ (a b c : List Int), cmpL a b < 0 → cmpL b c < 0 → cmpL a c < 0
  | [], [], _, h, _ => by simp [cmpL] at h
  | [], _ :: _, [], _, k => by simp [cmpL] at k
  | [], _ :: _, _ :: _, _, _ => by simp [cmpL]
  | _ :: _, [], _, h, _ => by simp [cmpL] at h
  | _ :: _, _ :: _, [], _, k => by simp [cmpL] at k
  | x :: a, y :: b, z :: c, h, k => by
    have ih := cmpL_lt_trans a b c
    simp only [cmpL] at h k ⊢
    by_cases e1 : x = y
    · subst e1
      rw [if_pos rfl] at h
      by_cases e2 : x = z
      · subst e2
        rw [if_pos rfl] at k ⊢
        exact ih h k
      · rw [if_neg e2] at k ⊢
        exact k
    · rw [if_neg e1] at h
      have l1 : x < y := by
        by_cases l : x < y
        · exact l
        · rw [if_neg l] at h; omega
      by_cases e2 : y = z
      · subst e2
        rw [if_neg e1, if_pos l1]
        omega
      · rw [if_neg e2] at k
        have l2 : y < z := by
          by_cases l : y < z
          · exact l
          · rw [if_neg l] at k; omega
        rw [if_neg (by omega), if_pos (by omega)]
        omega
theorem cmpL_irr (a : List Int) : ¬ cmpL a a < 0 := by rw [cmpL_self]; omega
theorem cmpL_asym {a b : List Int} (h : cmpL a b < 0) : ¬ cmpL b a < 0 := by rw [cmpL_neg]; omega
theorem cmpL_total (a b : List Int) : cmpL a b < 0 ∨ a = b ∨ cmpL b a < 0 := by
  rcases cmpL_three a b with h | h | h
  · exact .inl (by omega)
  · exact .inr (.inl (cmpL_eq a b h))
  · exact .inr (.inr (by rw [cmpL_neg]; omega))
theorem cmpL_lt_ne {a b : List Int} (h : cmpL a b < 0) : a ≠ b := fun e => by rw [e] at h; exact cmpL_irr b h

/-- An item: a key, a value. -/
structure It where
  k : List Int
  v : List Int
/-- Keys rise. -/
def Srt (l : List It) : Prop := l.Pairwise fun a b => cmpL a.k b.k < 0
/-- The items below a key, and above it. -/
def lo (k : List Int) (l : List It) : List It := l.filter fun x => decide (cmpL x.k k < 0)
def hi (k : List Int) (l : List It) : List It := l.filter fun x => decide (cmpL k x.k < 0)
/-- With an item; without a key. -/
def ins (l : List It) (x : It) : List It := lo x.k l ++ x :: hi x.k l
def del (l : List It) (k : List Int) : List It := lo k l ++ hi k l
/-- Is a key there? -/
def has (k : List Int) (l : List It) : Prop := ∃ x ∈ l, x.k = k

theorem lo_append (k : List Int) (a b : List It) : lo k (a ++ b) = lo k a ++ lo k b := by simp [lo]
theorem hi_append (k : List Int) (a b : List It) : hi k (a ++ b) = hi k a ++ hi k b := by simp [hi]
theorem lo_all {k : List Int} {l : List It} (h : ∀ x ∈ l, cmpL x.k k < 0) : lo k l = l := List.filter_eq_self.2 fun x hx => decide_eq_true (h x hx)
theorem hi_all {k : List Int} {l : List It} (h : ∀ x ∈ l, cmpL k x.k < 0) : hi k l = l := List.filter_eq_self.2 fun x hx => decide_eq_true (h x hx)
theorem lo_none {k : List Int} {l : List It} (h : ∀ x ∈ l, ¬ cmpL x.k k < 0) : lo k l = [] := List.filter_eq_nil_iff.2 fun x hx => by simpa using h x hx
theorem hi_none {k : List Int} {l : List It} (h : ∀ x ∈ l, ¬ cmpL k x.k < 0) : hi k l = [] := List.filter_eq_nil_iff.2 fun x hx => by simpa using h x hx
theorem mem_lo {k : List Int} {l : List It} {x : It} : x ∈ lo k l ↔ x ∈ l ∧ cmpL x.k k < 0 := by simp [lo]
theorem mem_hi {k : List Int} {l : List It} {x : It} : x ∈ hi k l ↔ x ∈ l ∧ cmpL k x.k < 0 := by simp [hi]
theorem lo_len (k : List Int) (l : List It) : (lo k l).length ≤ l.length := List.length_filter_le _ _
theorem hi_len (k : List Int) (l : List It) : (hi k l).length ≤ l.length := List.length_filter_le _ _

theorem Srt.app {a b : List It} (h : Srt (a ++ b)) : Srt a ∧ Srt b ∧ ∀ x ∈ a, ∀ y ∈ b, cmpL x.k y.k < 0 := List.pairwise_append.1 h
theorem Srt.mk {a b : List It} (ha : Srt a) (hb : Srt b) (h : ∀ x ∈ a, ∀ y ∈ b, cmpL x.k y.k < 0) : Srt (a ++ b) := List.pairwise_append.2 ⟨ha, hb, h⟩
theorem Srt.cons {x : It} {l : List It} (h : Srt (x :: l)) : (∀ y ∈ l, cmpL x.k y.k < 0) ∧ Srt l := List.pairwise_cons.1 h
theorem Srt.ofLo {l : List It} (h : Srt l) (k : List Int) : Srt (lo k l) := List.Pairwise.filter _ h
theorem Srt.ofHi {l : List It} (h : Srt l) (k : List Int) : Srt (hi k l) := List.Pairwise.filter _ h
theorem Srt.one (x : It) : Srt [x] := List.pairwise_singleton _ _
theorem Srt.ofIns {l : List It} (h : Srt l) (x : It) : Srt (ins l x) := by
  refine Srt.mk (h.ofLo _) (List.pairwise_cons.2 ⟨fun y hy => (mem_hi.1 hy).2, h.ofHi _⟩) fun a ha b hb => ?_
  have h1 := (mem_lo.1 ha).2
  rcases List.mem_cons.1 hb with rfl | hb
  · exact h1
  · exact cmpL_lt_trans _ _ _ h1 (mem_hi.1 hb).2
theorem Srt.ofDel {l : List It} (h : Srt l) (k : List Int) : Srt (del l k) :=
  Srt.mk (h.ofLo _) (h.ofHi _) fun _ ha _ hb => cmpL_lt_trans _ _ _ (mem_lo.1 ha).2 (mem_hi.1 hb).2
/-- Where a key stands. -/
theorem Srt.split {l : List It} (h : Srt l) {x : It} {a b : List It} (e : l = a ++ x :: b) : lo x.k l = a ∧ hi x.k l = b := by
  subst e
  obtain ⟨ha, hb, hab⟩ := h.app
  obtain ⟨hx, hb'⟩ := hb.cons
  have h1 : ∀ y ∈ a, cmpL y.k x.k < 0 := fun y hy => hab y hy x (List.mem_cons_self ..)
  constructor
  · rw [lo_append, lo_all h1, lo_none (fun y hy => ?_), List.append_nil]
    rcases List.mem_cons.1 hy with rfl | hy
    · exact cmpL_irr _
    · exact cmpL_asym (hx y hy)
  · have e2 : hi x.k (x :: b) = b := by
      rw [show x :: b = [x] ++ b from rfl, hi_append, hi_all hx, hi_none (fun y hy => by rw [List.mem_singleton.1 hy]; exact cmpL_irr _), List.nil_append]
    rw [hi_append, hi_none (fun y hy => cmpL_asym (h1 y hy)), e2, List.nil_append]
/-- Where it is not: the list is what stands below and above. -/
theorem Srt.parts {l : List It} (h : Srt l) {k : List Int} (hn : ¬ has k l) : lo k l ++ hi k l = l := by
  induction l with
  | nil => rfl
  | cons x l ih =>
    obtain ⟨hx, hl⟩ := h.cons
    have hn' : ¬ has k l := fun ⟨y, hy, e⟩ => hn ⟨y, List.mem_cons_of_mem _ hy, e⟩
    have ne : x.k ≠ k := fun e => hn ⟨x, List.mem_cons_self .., e⟩
    rcases cmpL_total x.k k with h1 | h1 | h1
    · have e1 : lo k (x :: l) = x :: lo k l := by simp [lo, h1]
      have e2 : hi k (x :: l) = hi k l := by
        have := cmpL_asym h1
        simp [hi, this]
      rw [e1, e2, List.cons_append, ih hl hn']
    · exact absurd h1 ne
    · have h2 : ∀ y ∈ l, cmpL k y.k < 0 := fun y hy => cmpL_lt_trans _ _ _ h1 (hx y hy)
      have h3 : ∀ y ∈ x :: l, cmpL k y.k < 0 := fun y hy => by
        rcases List.mem_cons.1 hy with rfl | hy
        · exact h1
        · exact h2 y hy
      rw [lo_none (fun y hy => cmpL_asym (h3 y hy)), hi_all h3, List.nil_append]
theorem del_none {l : List It} (h : Srt l) {k : List Int} (hn : ¬ has k l) : del l k = l := h.parts hn
theorem has_split {l : List It} {k : List Int} (h : has k l) : ∃ a x b, l = a ++ x :: b ∧ x.k = k := by
  obtain ⟨x, hx, e⟩ := h
  obtain ⟨a, b, h⟩ := List.append_of_mem hx
  exact ⟨a, x, b, h, e⟩
/-- Keys of sorted items: one place at most. -/
theorem Srt.inj {l : List It} (h : Srt l) {x y : It} (hx : x ∈ l) (hy : y ∈ l) (e : x.k = y.k) : x = y := by
  induction l with
  | nil => simp at hx
  | cons z l ih =>
    obtain ⟨hz, hl⟩ := h.cons
    rcases List.mem_cons.1 hx with h1 | h1
    · rcases List.mem_cons.1 hy with h2 | h2
      · rw [h1, h2]
      · rw [h1] at e
        exact absurd e (cmpL_lt_ne (hz y h2))
    · rcases List.mem_cons.1 hy with h2 | h2
      · rw [h2] at e
        exact absurd e.symm (cmpL_lt_ne (hz x h1))
      · exact ih hl h1 h2

/-! ## Segments and the items between them -/
/-- Segments, each but the last with an item behind it. -/
def weave : List (List It) → List It → List It
  | [], _ => []
  | s :: _, [] => s
  | s :: ss, x :: xs => s ++ x :: weave ss xs
/-- The same, each with an item behind it. -/
def wvA : List (List It) → List It → List It
  | s :: ss, x :: xs => s ++ x :: wvA ss xs
  | _, _ => []
theorem weave_app : ∀ (P Q : List (List It)) (xs ys : List It), P.length = xs.length → weave (P ++ Q) (xs ++ ys) = wvA P xs ++ weave Q ys
  | [], Q, [], ys, _ => rfl
  | [], _, _ :: _, _, h => by simp at h
  | _ :: _, _, [], _, h => by simp at h
  | s :: P, Q, x :: xs, ys, h => by
    simp only [List.cons_append, weave, wvA, List.append_assoc]
    rw [weave_app P Q xs ys (by simpa using h)]
theorem wvA_app : ∀ (P Q : List (List It)) (xs ys : List It), P.length = xs.length → wvA (P ++ Q) (xs ++ ys) = wvA P xs ++ wvA Q ys
  | [], Q, [], ys, _ => rfl
  | [], _, _ :: _, _, h => by simp at h
  | _ :: _, _, [], _, h => by simp at h
  | s :: P, Q, x :: xs, ys, h => by
    simp only [List.cons_append, wvA, List.append_assoc]
    rw [wvA_app P Q xs ys (by simpa using h)]
theorem mem_wvA : ∀ (P : List (List It)) (xs : List It) (y : It), y ∈ wvA P xs → y ∈ xs ∨ ∃ s ∈ P, y ∈ s
  | [], _, y, h => by simp [wvA] at h
  | _ :: _, [], y, h => by simp [wvA] at h
  | s :: P, x :: xs, y, h => by
    simp only [wvA, List.mem_append, List.mem_cons] at h
    rcases h with h | h | h
    · exact .inr ⟨s, List.mem_cons_self .., h⟩
    · exact .inl (by rw [h]; exact List.mem_cons_self ..)
    · rcases mem_wvA P xs y h with h | ⟨t, ht, h⟩
      · exact .inl (List.mem_cons_of_mem _ h)
      · exact .inr ⟨t, List.mem_cons_of_mem _ ht, h⟩
theorem mem_weave : ∀ (P : List (List It)) (xs : List It) (y : It), y ∈ weave P xs → y ∈ xs ∨ ∃ s ∈ P, y ∈ s
  | [], _, y, h => by simp [weave] at h
  | s :: P, [], y, h => .inr ⟨s, List.mem_cons_self .., h⟩
  | s :: P, x :: xs, y, h => by
    simp only [weave, List.mem_append, List.mem_cons] at h
    rcases h with h | h | h
    · exact .inr ⟨s, List.mem_cons_self .., h⟩
    · exact .inl (by rw [h]; exact List.mem_cons_self ..)
    · rcases mem_weave P xs y h with h | ⟨t, ht, h⟩
      · exact .inl (List.mem_cons_of_mem _ h)
      · exact .inr ⟨t, List.mem_cons_of_mem _ ht, h⟩
theorem weave_key : ∀ (P : List (List It)) (xs : List It), P.length = xs.length + 1 → ∀ x ∈ xs, x ∈ weave P xs
  | [], xs, h, x, hx => by simp at h
  | s :: P, [], _, x, hx => by simp at hx
  | s :: P, y :: xs, h, x, hx => by
    simp only [weave, List.mem_append, List.mem_cons]
    rcases List.mem_cons.1 hx with rfl | hx
    · exact .inr (.inl rfl)
    · exact .inr (.inr (weave_key P xs (by simpa using h) x hx))
theorem weave_seg : ∀ (P : List (List It)) (xs : List It), P.length = xs.length + 1 → ∀ s ∈ P, ∀ x ∈ s, x ∈ weave P xs
  | [], xs, h, s, hs, x, hx => by simp at h
  | t :: P, [], h, s, hs, x, hx => by
    have : P = [] := List.eq_nil_of_length_eq_zero (by simpa using h)
    subst this
    rw [List.mem_singleton.1 hs] at hx
    exact hx
  | t :: P, y :: xs, h, s, hs, x, hx => by
    simp only [weave, List.mem_append, List.mem_cons]
    rcases List.mem_cons.1 hs with rfl | hs
    · exact .inl hx
    · exact .inr (.inr (weave_seg P xs (by simpa using h) s hs x hx))
theorem weave_len : ∀ (P : List (List It)) (xs : List It), P.length = xs.length + 1 → ∀ s ∈ P, s.length + xs.length ≤ (weave P xs).length
  | [], xs, h, s, hs => by simp at h
  | t :: P, [], h, s, hs => by
    have : P = [] := List.eq_nil_of_length_eq_zero (by simpa using h)
    subst this
    rw [List.mem_singleton.1 hs]
    simp [weave]
  | t :: P, y :: xs, h, s, hs => by
    simp only [weave, List.length_append, List.length_cons]
    have hl : P.length = xs.length + 1 := by simpa using h
    rcases List.mem_cons.1 hs with rfl | hs
    · cases P with
      | nil => simp at hl
      | cons u P =>
        have := weave_len (u :: P) xs hl u (List.mem_cons_self ..)
        omega
    · have := weave_len P xs hl s hs
      omega

/-- The items l as a node has them: its level, the segments of lesser levels, the items of its level. -/
structure Shp (lv : List Int → Nat) (l : List It) (L : Nat) (segs : List (List It)) (xs : List It) : Prop where
  len : segs.length = xs.length + 1
  pos : 0 < xs.length
  eq : l = weave segs xs
  top : ∀ x ∈ xs, lv x.k = L
  low : ∀ s ∈ segs, ∀ x ∈ s, lv x.k < L

section
variable {lv : List Int → Nat} {l : List It} {L : Nat} {segs : List (List It)} {xs : List It}
theorem Shp.shorter (h : Shp lv l L segs xs) : ∀ s ∈ segs, s.length < l.length := fun s hs => by
  have := weave_len segs xs h.len s hs
  have := h.pos
  rw [h.eq]
  omega
theorem Shp.le (h : Shp lv l L segs xs) : ∀ x ∈ l, lv x.k ≤ L := fun x hx => by
  rw [h.eq] at hx
  rcases mem_weave _ _ _ hx with h1 | ⟨s, hs, h1⟩
  · rw [h.top x h1]
    exact Nat.le_refl _
  · exact Nat.le_of_lt (h.low s hs x h1)
theorem Shp.key (h : Shp lv l L segs xs) : ∀ x ∈ xs, x ∈ l := fun x hx => by rw [h.eq]; exact weave_key _ _ h.len x hx
theorem Shp.seg (h : Shp lv l L segs xs) : ∀ s ∈ segs, ∀ x ∈ s, x ∈ l := fun s hs x hx => by rw [h.eq]; exact weave_seg _ _ h.len s hs x hx
/-- Parted at a place. -/
theorem Shp.at (h : Shp lv l L segs xs) (i : Nat) (hi : i ≤ xs.length) : ∃ s, segs[i]? = some s ∧ segs = segs.take i ++ s :: segs.drop (i + 1) ∧
    l = wvA (segs.take i) (xs.take i) ++ (s ++ (weave ([] :: segs.drop (i + 1)) (xs.drop i))) := by
  have hl := h.len
  have hlt : i < segs.length := by omega
  refine ⟨segs[i], List.getElem?_eq_getElem hlt, ?_, ?_⟩
  · rw [← List.drop_eq_getElem_cons hlt, List.take_append_drop]
  · conv => lhs; rw [h.eq, ← List.take_append_drop i segs, ← List.take_append_drop i xs]
    rw [weave_app _ _ _ _ (by simp; omega), List.drop_eq_getElem_cons hlt]
    congr 1
    cases hx : xs.drop i with
    | nil =>
      have : segs.drop (i + 1) = [] := by
        have := congrArg List.length hx
        simp at this
        apply List.drop_eq_nil_of_le
        omega
      rw [this]
      simp [weave]
    | cons y ys => simp [weave]
end

/-- How the items' shape is told by them alone. -/
def maxV (lv : List Int → Nat) : List It → Nat
  | [] => 0
  | x :: l => max (lv x.k) (maxV lv l)
def segsF (lv : List Int → Nat) (L : Nat) : List It → List (List It)
  | [] => [[]]
  | x :: l => if lv x.k = L then [] :: segsF lv L l else match segsF lv L l with
    | [] => [[x]]
    | s :: ss => (x :: s) :: ss
def keysF (lv : List Int → Nat) (L : Nat) (l : List It) : List It := l.filter fun x => decide (lv x.k = L)
theorem maxV_le (lv : List Int → Nat) : ∀ (l : List It) (L : Nat), (∀ x ∈ l, lv x.k ≤ L) → maxV lv l ≤ L
  | [], L, _ => Nat.zero_le _
  | x :: l, L, h => by
    have h1 := h x (List.mem_cons_self ..)
    have h2 := maxV_le lv l L (fun y hy => h y (List.mem_cons_of_mem _ hy))
    simp only [maxV]
    omega
theorem le_maxV (lv : List Int → Nat) : ∀ (l : List It), ∀ x ∈ l, lv x.k ≤ maxV lv l
  | [], x, h => by simp at h
  | y :: l, x, h => by
    simp only [maxV]
    rcases List.mem_cons.1 h with rfl | h
    · omega
    · have := le_maxV lv l x h
      omega
theorem segsF_low (lv : List Int → Nat) (L : Nat) : ∀ (s rest : List It), (∀ x ∈ s, lv x.k < L) → segsF lv L (s ++ rest) = match segsF lv L rest with
    | [] => [s]
    | t :: ss => (s ++ t) :: ss
  | [], rest, _ => by
    cases h : segsF lv L rest with
    | nil =>
      cases rest with
      | nil => simp [segsF] at h
      | cons y l =>
        simp only [segsF] at h
        split at h
        · simp at h
        · split at h <;> simp at h
    | cons t ss => simp [h]
  | x :: s, rest, hx => by
    have ih := segsF_low lv L s rest (fun y hy => hx y (List.mem_cons_of_mem _ hy))
    have h1 := hx x (List.mem_cons_self ..)
    rw [List.cons_append, segsF, if_neg (by omega), ih]
    cases segsF lv L rest <;> rfl
theorem segsF_weave (lv : List Int → Nat) (L : Nat) : ∀ (segs : List (List It)) (xs : List It), segs.length = xs.length + 1 → (∀ x ∈ xs, lv x.k = L) → (∀ s ∈ segs, ∀ x ∈ s, lv x.k < L) →
    segsF lv L (weave segs xs) = segs ∧ keysF lv L (weave segs xs) = xs
  | [], xs, h, _, _ => by simp at h
  | s :: ss, [], h, _, hl => by
    have : ss = [] := List.eq_nil_of_length_eq_zero (by simpa using h)
    subst this
    have h1 := hl s (List.mem_cons_self ..)
    have h2 := segsF_low lv L s [] h1
    constructor
    · simpa [weave, segsF] using h2
    · simp only [weave, keysF]
      exact List.filter_eq_nil_iff.2 fun x hx => by have := h1 x hx; simp; omega
  | s :: ss, x :: xs, h, ht, hl => by
    have ih := segsF_weave lv L ss xs (by simpa using h) (fun y hy => ht y (List.mem_cons_of_mem _ hy)) (fun t ht' => hl t (List.mem_cons_of_mem _ ht'))
    have h1 := hl s (List.mem_cons_self ..)
    have hx := ht x (List.mem_cons_self ..)
    have h2 := segsF_low lv L s (x :: weave ss xs) h1
    constructor
    · rw [weave, h2, segsF, if_pos hx, ih.1]
      simp
    · rw [weave]
      unfold keysF at ih ⊢
      rw [List.filter_append, List.filter_cons, ih.2, if_pos (by simpa using hx), List.filter_eq_nil_iff.2 (fun y hy => by have := h1 y hy; simp; omega), List.nil_append]
theorem Shp.unique {lv : List Int → Nat} {l : List It} {L : Nat} {segs : List (List It)} {xs : List It} (h : Shp lv l L segs xs) : L = maxV lv l ∧ segs = segsF lv L l ∧ xs = keysF lv L l := by
  have h1 := segsF_weave lv L segs xs h.len h.top h.low
  rw [← h.eq] at h1
  refine ⟨?_, h1.1.symm, h1.2.symm⟩
  apply Nat.le_antisymm
  · have hp := h.pos
    have hm := h.key xs[0] (List.getElem_mem hp)
    have := le_maxV lv l _ hm
    rw [h.top _ (List.getElem_mem hp)] at this
    exact this
  · exact maxV_le lv l L h.le
end Go.Proofs.YtnicnfjickknjaaDoor

namespace Go.Proofs.YtnicnfjickknjaaDoor
open Go.RowKit

/-- A word turned right by n places. -/
def rotr (n : Nat) (x : Int) : Int := bits .or .u32 (IntKind.u32.wrap (x * 2 ^ (32 - n))) (x / 2 ^ n)

set_option maxRecDepth 100000 in
set_option maxHeartbeats 1000000 in
theorem rot_2 (x : Int) (w : World) :
    Calls Tryd.prog 90 #[.int .u32 x, .int .i64 (-2)] w fun e w' => e = .returned (.int .u32 (rotr 2 x)) ∧ w' = w := by
  have hb : bits .and .u64 (IntKind.u64.wrap (-2)) 31 = 30 := by decide
  go_enter Tryd.func90, Tryd.ntmps90
  go_wp2
  go_ret
  exact ⟨rfl, rfl⟩

set_option maxRecDepth 100000 in
set_option maxHeartbeats 1000000 in
theorem rot_6 (x : Int) (w : World) :
    Calls Tryd.prog 90 #[.int .u32 x, .int .i64 (-6)] w fun e w' => e = .returned (.int .u32 (rotr 6 x)) ∧ w' = w := by
  have hb : bits .and .u64 (IntKind.u64.wrap (-6)) 31 = 26 := by decide
  go_enter Tryd.func90, Tryd.ntmps90
  go_wp2
  go_ret
  exact ⟨rfl, rfl⟩

set_option maxRecDepth 100000 in
set_option maxHeartbeats 1000000 in
theorem rot_7 (x : Int) (w : World) :
    Calls Tryd.prog 90 #[.int .u32 x, .int .i64 (-7)] w fun e w' => e = .returned (.int .u32 (rotr 7 x)) ∧ w' = w := by
  have hb : bits .and .u64 (IntKind.u64.wrap (-7)) 31 = 25 := by decide
  go_enter Tryd.func90, Tryd.ntmps90
  go_wp2
  go_ret
  exact ⟨rfl, rfl⟩

set_option maxRecDepth 100000 in
set_option maxHeartbeats 1000000 in
theorem rot_11 (x : Int) (w : World) :
    Calls Tryd.prog 90 #[.int .u32 x, .int .i64 (-11)] w fun e w' => e = .returned (.int .u32 (rotr 11 x)) ∧ w' = w := by
  have hb : bits .and .u64 (IntKind.u64.wrap (-11)) 31 = 21 := by decide
  go_enter Tryd.func90, Tryd.ntmps90
  go_wp2
  go_ret
  exact ⟨rfl, rfl⟩

set_option maxRecDepth 100000 in
set_option maxHeartbeats 1000000 in
theorem rot_13 (x : Int) (w : World) :
    Calls Tryd.prog 90 #[.int .u32 x, .int .i64 (-13)] w fun e w' => e = .returned (.int .u32 (rotr 13 x)) ∧ w' = w := by
  have hb : bits .and .u64 (IntKind.u64.wrap (-13)) 31 = 19 := by decide
  go_enter Tryd.func90, Tryd.ntmps90
  go_wp2
  go_ret
  exact ⟨rfl, rfl⟩

set_option maxRecDepth 100000 in
set_option maxHeartbeats 1000000 in
theorem rot_17 (x : Int) (w : World) :
    Calls Tryd.prog 90 #[.int .u32 x, .int .i64 (-17)] w fun e w' => e = .returned (.int .u32 (rotr 17 x)) ∧ w' = w := by
  have hb : bits .and .u64 (IntKind.u64.wrap (-17)) 31 = 15 := by decide
  go_enter Tryd.func90, Tryd.ntmps90
  go_wp2
  go_ret
  exact ⟨rfl, rfl⟩

set_option maxRecDepth 100000 in
set_option maxHeartbeats 1000000 in
theorem rot_18 (x : Int) (w : World) :
    Calls Tryd.prog 90 #[.int .u32 x, .int .i64 (-18)] w fun e w' => e = .returned (.int .u32 (rotr 18 x)) ∧ w' = w := by
  have hb : bits .and .u64 (IntKind.u64.wrap (-18)) 31 = 14 := by decide
  go_enter Tryd.func90, Tryd.ntmps90
  go_wp2
  go_ret
  exact ⟨rfl, rfl⟩

set_option maxRecDepth 100000 in
set_option maxHeartbeats 1000000 in
theorem rot_19 (x : Int) (w : World) :
    Calls Tryd.prog 90 #[.int .u32 x, .int .i64 (-19)] w fun e w' => e = .returned (.int .u32 (rotr 19 x)) ∧ w' = w := by
  have hb : bits .and .u64 (IntKind.u64.wrap (-19)) 31 = 13 := by decide
  go_enter Tryd.func90, Tryd.ntmps90
  go_wp2
  go_ret
  exact ⟨rfl, rfl⟩

set_option maxRecDepth 100000 in
set_option maxHeartbeats 1000000 in
theorem rot_22 (x : Int) (w : World) :
    Calls Tryd.prog 90 #[.int .u32 x, .int .i64 (-22)] w fun e w' => e = .returned (.int .u32 (rotr 22 x)) ∧ w' = w := by
  have hb : bits .and .u64 (IntKind.u64.wrap (-22)) 31 = 10 := by decide
  go_enter Tryd.func90, Tryd.ntmps90
  go_wp2
  go_ret
  exact ⟨rfl, rfl⟩

set_option maxRecDepth 100000 in
set_option maxHeartbeats 1000000 in
theorem rot_25 (x : Int) (w : World) :
    Calls Tryd.prog 90 #[.int .u32 x, .int .i64 (-25)] w fun e w' => e = .returned (.int .u32 (rotr 25 x)) ∧ w' = w := by
  have hb : bits .and .u64 (IntKind.u64.wrap (-25)) 31 = 7 := by decide
  go_enter Tryd.func90, Tryd.ntmps90
  go_wp2
  go_ret
  exact ⟨rfl, rfl⟩

/-- A word turned by k places as RotateLeft32 counts them. -/
def rl (k : Int) (x : Int) : Int := rotr (-k).toNat x

theorem rot_at (x k : Int) (w : World) (hk : k = -2 ∨ k = -6 ∨ k = -7 ∨ k = -11 ∨ k = -13 ∨ k = -17 ∨ k = -18 ∨ k = -19 ∨ k = -22 ∨ k = -25) :
    Calls Tryd.prog 90 #[.int .u32 x, .int .i64 k] w fun e w' => e = .returned (.int .u32 (rl k x)) ∧ w' = w := by
  rcases hk with rfl | rfl | rfl | rfl | rfl | rfl | rfl | rfl | rfl | rfl
  · exact rot_2 x w
  · exact rot_6 x w
  · exact rot_7 x w
  · exact rot_11 x w
  · exact rot_13 x w
  · exact rot_17 x w
  · exact rot_18 x w
  · exact rot_19 x w
  · exact rot_22 x w
  · exact rot_25 x w

end Go.Proofs.YtnicnfjickknjaaDoor

namespace Go

/-- Cells that lie behind one another, loaded as one value. -/
theorem run_loadVar_cells {P : Program} (w : World) (ad : Addr) (ty : TypeId) (cs : List Value) (hc : ∀ j v, cs[j]? = some v → w.cell? (ad.add j) = some v)
    (hagg : (isAgg ty).run P w = .ok true w) (hi : (P.info? ty).map (·.size) = some cs.length) :
    (loadVar ty ad).run P w = .ok (.agg cs.toArray) w := by
  have hl : (loadCells ad cs.length).run P w = .ok cs.toArray w := run_loadCells_list (P := P) w ad cs hc
  cases hq : P.info? ty with
  | none => simp [hq] at hi
  | some i =>
    have hs : i.size = cs.length := by simpa [hq] using hi
    simp [loadVar, Sem.run_bind, hagg, sizeOf, typeInfo, hq, hs, hl]

theorem wpList_load_cells {P : Program} {ops : Array Oper} {rest : List Oper} {o : Oper} {a : Act} {w : World} {Q : Exit → Act → World → Prop} (hgd : o.guard = none) (ty : TypeId) (x : Operand) (ho : o.op = .load ty x)
    (ad : Addr) (hx : a.eval x = .pointer (some ad)) (cs : List Value) (hc : ∀ j v, cs[j]? = some v → w.cell? (ad.add j) = some v)
    (hagg : ∀ w, (isAgg ty).run P w = .ok true w) (hi : (P.info? ty).map (·.size) = some cs.length)
    (h : wpList P ops Q rest (a.put o.dst (.agg cs.toArray)) w) : wpList P ops Q (o :: rest) a w := by
  refine wpList_plain hgd fun K hK => ?_
  unfold Oper.wp execOp
  simp only [ho, hx, Instr.loadAt, Instr.sureAddr, Sem.run_bind, Sem.run_pure, Result.andThen_ok, run_loadVar_cells w ad ty cs hc (hagg w) hi]
  exact hK _ _ h

/-- A result that is handed back through a cell of many cells. -/
theorem results_cells {P : Program} {fn : Func} {p : Tmp} {ty : TypeId} (h : fn.results = #[.cell p ty]) (tmps : Array Value) (w : World) (ad : Addr) (hp : tmps.getD p undef = .pointer (some ad)) (cs : List Value)
    (hc : ∀ j v, cs[j]? = some v → w.cell? (ad.add j) = some v) (hagg : (isAgg ty).run P w = .ok true w) (hi : (P.info? ty).map (·.size) = some cs.length) :
    (results fn tmps).run P w = .ok (.agg cs.toArray) w := by
  have hp' : tmps[p]?.getD undef = .pointer (some ad) := by simpa using hp
  simp [results, h, hp', asAddr, run_loadVar_cells w ad ty cs hc hagg hi]

/-- A new variable of many cells, the world behind it by a name. -/
theorem wpList_alloc_named {P : Program} {ops : Array Oper} {rest : List Oper} {o : Oper} {a : Act} {w : World} {Q : Exit → Act → World → Prop} (hgd : o.guard = none) (d : Tmp) (hd : o.dst = some d) (ty : TypeId) (ho : o.op = .alloc ty)
    (N : Nat) (hN : w.heap.size = N) (cs : List Value) (n : Nat) (hz : (P.info? ty).map (fun i => (i.zero, i.size)) = some (some (.agg cs.toArray), n))
    (h : ∀ w', w'.heap[N]? = some (.cells cs.toArray ty) → w'.heap.size = N + 1 → w.grownBy w' none → wpList P ops Q rest (a.put (some d) (.pointer (some ⟨N, 0, none⟩))) w') : wpList P ops Q (o :: rest) a w := by
  refine wpList_plain hgd fun K hK => ?_
  rw [← hd] at h
  subst hN
  have h0 : (zeroValue ty).run P w = .ok (.agg cs.toArray) w := (zero_of_info hz).1 w
  have hr : (execOp a.eval o).run P w = .ok (.value (.pointer (some ⟨w.heap.size, 0, none⟩))) (w.alloc (.cells cs.toArray ty)) := by
    unfold execOp
    simp [ho, Instr.alloc, h0, newVar, newRow, Value.cells]
  unfold Oper.wp
  rw [hr, Oper.upon_value]
  exact hK _ _ (h _ (heap_alloc_new _ _) (by simp) (World.grownBy_alloc _ _ _))

/-- A whole row stored over another, the world behind it by a name. -/
theorem wpList_store_named {P : Program} {ops : Array Oper} {rest : List Oper} {o : Oper} {a : Act} {w : World} {Q : Exit → Act → World → Prop} (hgd : o.guard = none) (ty : TypeId) (x y : Operand) (ho : o.op = .store ty x y)
    (g : Nat) (cells : List Value) (hx : a.eval x = .pointer (some ⟨g, 0, none⟩)) (hy : a.eval y = .agg cells.toArray)
    (t : TypeId) (old : List Value) (hg : w.heap[g]? = some (.cells old.toArray t)) (N : Nat) (hN : w.heap.size = N) (hi : (P.info? ty).map (·.size) = some cells.length)
    (hold : old.length = cells.length) (h1 : ∀ u ∈ cells, u.oneCell' = true)
    (h : ∀ w', w'.heap[g]? = some (.cells cells.toArray t) → w'.heap.size = N → w.grownBy w' (some g) → wpList P ops Q rest (a.put o.dst undef) w') : wpList P ops Q (o :: rest) a w := by
  refine wpList_store_row hgd ty x y ho g cells.toArray hx hy t old.toArray hg (by simpa using hi) (by simpa using hold) (by simpa using h1) ?_
  exact h _ (setRow_heap w g _ _ t _ hg) (by simpa using hN) ⟨rfl, rfl, rfl, by simp, fun k _ hk => setRow_other w g k _ (fun e => hk (by rw [e]))⟩

theorem add_at (b i j : Nat) : (⟨b, i, none⟩ : Addr).add j = ⟨b, i + j, none⟩ := by unfold Addr.add; split <;> simp_all

end Go

namespace Go.Proofs.YtnicnfjickknjaaDoor
open Go.RowKit

/-- The cells of some words. -/
def wv (xs : List Int) : List Value := xs.map (Value.int .u32)
theorem wv_length (xs : List Int) : (wv xs).length = xs.length := by simp [wv]
theorem wv_one (xs : List Int) : ∀ u ∈ wv xs, u.oneCell' = true := ints_oneCell .u32 xs
theorem wv_get (xs : List Int) (j : Nat) (h : j < xs.length) : (wv xs)[j]? = some (.int .u32 (xs.getD j 0)) := by
  simp [wv, h]
theorem wv_set (xs : List Int) (j : Nat) (x : Int) : (wv xs).set j (.int .u32 x) = wv (xs.set j x) := by
  simp [wv, List.map_set]

/-- The first words and the rounds' words, as the program's variables hold them. -/
def H0 : List Int := [1779033703, 3144134277, 1013904242, 2773480762, 1359893119, 2600822924, 528734635, 1541459225]
def K0 : List Int := [1116352408, 1899447441, 3049323471, 3921009573, 961987163, 1508970993, 2453635748, 2870763221, 3624381080, 310598401, 607225278, 1426881987, 1925078388, 2162078206, 2614888103, 3248222580, 3835390401, 4022224774, 264347078, 604807628, 770255983, 1249150122, 1555081692, 1996064986, 2554220882, 2821834349, 2952996808, 3210313671, 3336571891, 3584528711, 113926993, 338241895, 666307205, 773529912, 1294757372, 1396182291, 1695183700, 1986661051, 2177026350, 2456956037, 2730485921, 2820302411, 3259730800, 3345764771, 3516065817, 3600352804, 4094571909, 275423344, 430227734, 506948616, 659060556, 883997877, 958139571, 1322822218, 1537002063, 1747873779, 1955562222, 2024104815, 2227730452, 2361852424, 2428436474, 2756734187, 3204031479, 3329325298]

/-- A block of many cells. -/
def Arr (w : World) (b : Nat) (t : TypeId) (cs : List Value) : Prop := w.heap[b]? = some (.cells cs.toArray t)
theorem Arr.lt {w : World} {b : Nat} {t : TypeId} {cs : List Value} (h : Arr w b t cs) : b < w.heap.size := (Array.getElem?_eq_some_iff.1 h).1
theorem Arr.cell {w : World} {b : Nat} {t : TypeId} {cs : List Value} (h : Arr w b t cs) (j : Nat) : w.cell? ⟨b, j, none⟩ = cs[j]? := by
  rw [cell_of_row w b j _ _ _ h]; simp
theorem Arr.free {w : World} {b : Nat} {t : TypeId} {cs : List Value} (h : Arr w b t cs) (j : Nat) : w.frozen? ⟨b, j, none⟩ = false := frozen_of_row w b j _ _ h
theorem Arr.grown {w w' : World} {b : Nat} {t : TypeId} {cs : List Value} {row : Option Nat} (h : Arr w b t cs) (hg : w.grownBy w' row) (hne : some b ≠ row) : Arr w' b t cs := (hg.block b h.lt hne).trans h
theorem Arr.below {w w' : World} {b : Nat} {t : TypeId} {cs : List Value} {n : Nat} (h : Arr w b t cs) (hg : Below n w w') (hne : b < n) : Arr w' b t cs := (hg.block b hne).trans h
theorem Arr.set {w : World} {b : Nat} {t : TypeId} {cs : List Value} (h : Arr w b t cs) (j : Nat) (v : Value) : Arr (w.setCell ⟨b, j, none⟩ v) b t (cs.set j v) := by
  unfold Arr
  rw [heap_setCell_same w b j _ t v h]
  simp
theorem Arr.other {w : World} {b : Nat} {t : TypeId} {cs : List Value} (h : Arr w b t cs) (a : Addr) (v : Value) (hne : b ≠ a.block) : Arr (w.setCell a v) b t cs := (heap_setCell_other w a b v hne).trans h
theorem Arr.drew {w : World} {b : Nat} {t : TypeId} {cs : List Value} (h : Arr w b t cs) : Arr w.drew b t cs := h

structure Tabs (w : World) : Prop where
  first : ∀ j v, (wv H0)[j]? = some v → w.cell? ⟨2, j, none⟩ = some v
  cubes : ∀ j v, (wv K0)[j]? = some v → w.cell? ⟨1, j, none⟩ = some v
  two : 3 ≤ w.heap.size

theorem Tabs.below {w w' : World} {n : Nat} (h : Tabs w) (hb : Below n w w') (hn : 3 ≤ n) : Tabs w' :=
  ⟨fun j v hv => (hb.cell (p := ⟨2, j, none⟩) (by show 2 < n; omega)).trans (h.first j v hv), fun j v hv => (hb.cell (p := ⟨1, j, none⟩) (by show 1 < n; omega)).trans (h.cubes j v hv), by have := hb.size; have := h.two; omega⟩

/-- The cells of a hash: its words, its block, how many bytes came. -/
def hv (A B : List Int) (n : Nat) : List Value := wv A ++ bv B ++ [.int .u64 n]

structure HB (w : World) (p : Nat) (A B : List Int) (n : Nat) : Prop where
  heap : w.heap[p]? = some (.cells (hv A B n).toArray 123)
  lenA : A.length = 8
  lenB : B.length = 64
  byte : Byt B
  size : n < 18446744073709551616

theorem HB.lt {w : World} {p : Nat} {A B : List Int} {n : Nat} (h : HB w p A B n) : p < w.heap.size := (Array.getElem?_eq_some_iff.1 h.heap).1
theorem HB.below {w w' : World} {p m : Nat} {A B : List Int} {n : Nat} (h : HB w p A B n) (hb : Below m w w') (hp : p < m) : HB w' p A B n :=
  ⟨(hb.block p hp).trans h.heap, h.lenA, h.lenB, h.byte, h.size⟩
theorem HB.word {w : World} {p : Nat} {A B : List Int} {n : Nat} (h : HB w p A B n) (j : Nat) (hj : j < 8) : w.cell? ⟨p, j, none⟩ = some (.int .u32 (A.getD j 0)) := by
  rw [cell_of_row w p j _ _ _ h.heap]
  have := h.lenA
  simp [hv, wv, List.getElem?_append, this, hj]
theorem HB.wordv {w : World} {p : Nat} {A B : List Int} {n : Nat} (h : HB w p A B n) (j : Nat) (v : Value) (hv' : (wv A)[j]? = some v) : w.cell? ⟨p, j, none⟩ = some v := by
  have h1 := (List.getElem?_eq_some_iff.1 hv').1
  rw [wv_length] at h1
  rw [wv_get A j h1] at hv'
  rw [h.word j (by have := h.lenA; omega)]
  exact hv'
theorem HB.byteAt {w : World} {p : Nat} {A B : List Int} {n : Nat} (h : HB w p A B n) (j : Nat) (hj : j < 64) : w.cell? ⟨p, 8 + j, none⟩ = some (.int .u8 (B.getD j 0)) := by
  rw [cell_of_row w p _ _ _ _ h.heap]
  have := h.lenA
  have := h.lenB
  have h2 : ¬ 8 + j < 8 := by omega
  simp [hv, wv, bv, List.getElem?_append, *]
theorem HB.count {w : World} {p : Nat} {A B : List Int} {n : Nat} (h : HB w p A B n) : w.cell? ⟨p, 72, none⟩ = some (.int .u64 n) := by
  rw [cell_of_row w p _ _ _ _ h.heap]
  have := h.lenA
  have := h.lenB
  simp [hv, wv, bv, *]
theorem bel_grown {w w' : World} (h : Below w.heap.size w w') (row : Option Nat) : w.grownBy w' row := ⟨h.os, h.tape, h.output, h.size, fun k hk _ => h.block k hk⟩
theorem gro_trans {a b c : World} {row : Option Nat} (h : a.grownBy b row) (k : b.grownBy c row) : a.grownBy c row :=
  ⟨k.os.trans h.os, k.tape.trans h.tape, k.output.trans h.output, Nat.le_trans h.size k.size, fun i hi hn => (k.block i (Nat.lt_of_lt_of_le hi h.size) hn).trans (h.block i hi hn)⟩
theorem grown_set {a b : World} {p : Nat} (h : a.grownBy b (some p)) (j : Nat) (v : Value) : a.grownBy (b.setCell ⟨p, j, none⟩ v) (some p) :=
  ⟨h.os, h.tape, h.output, by simpa using h.size, fun i hi hn => (heap_setCell_other b _ i v (fun e => hn (by rw [e]))).trans (h.block i hi hn)⟩
theorem grown_drewN {a b : World} {row : Option Nat} (h : a.grownBy b row) (q : Nat) : a.grownBy (b.drewN q) row := ⟨h.os, h.tape, h.output, h.size, h.block⟩
theorem HB.drewN {w : World} {p : Nat} {A B : List Int} {n : Nat} (h : HB w p A B n) (q : Nat) : HB (w.drewN q) p A B n := ⟨h.heap, h.lenA, h.lenB, h.byte, h.size⟩
theorem hv_setA (A B : List Int) (n : Nat) (j : Nat) (x : Int) (h : j < A.length) : (hv A B n).set j (.int .u32 x) = hv (A.set j x) B n := by
  have h1 : j < (wv A ++ bv B).length := by simp [wv]; omega
  have h2 : j < (wv A).length := by simp [wv]; omega
  unfold hv
  rw [List.set_append_left _ _ h1, List.set_append_left _ _ h2, wv_set]
theorem HB.setA {w : World} {p : Nat} {A B : List Int} {n : Nat} (h : HB w p A B n) (j : Nat) (x : Int) (hj : j < 8) : HB (w.setCell ⟨p, j, none⟩ (.int .u32 x)) p (A.set j x) B n := by
  refine ⟨?_, by simp [h.lenA], h.lenB, h.byte, h.size⟩
  have := Arr.set (show Arr w p _ (hv A B n) from h.heap) j (.int .u32 x)
  rw [hv_setA _ _ _ _ _ (by rw [h.lenA]; exact hj)] at this
  exact this
theorem HB.free {w : World} {p : Nat} {A B : List Int} {n : Nat} (h : HB w p A B n) (j : Nat) : w.frozen? ⟨p, j, none⟩ = false := frozen_of_row w p j _ _ h.heap

end Go.Proofs.YtnicnfjickknjaaDoor

namespace Go.Proofs.YtnicnfjickknjaaDoor
open Go.RowKit

/-- Two words, by their lowest 32 bits. -/
def ad (x y : Int) : Int := IntKind.u32.wrap (x + y)

/-- The first i words have been added. -/
def part (X A : List Int) (i : Nat) : List Int := (List.range 8).map fun j => if j < i then ad (X.getD j 0) (A.getD j 0) else X.getD j 0

theorem g48 (w : World) : (isAgg 120).run Tryd.prog w = .ok true w := by
  simp [isAgg, run_underlying Tryd.underlying120 w]
theorem a48 : (Tryd.prog.info? 120).map (·.size) = some 8 := by kernel_rfl
theorem z48 : (Tryd.prog.info? 120).map (fun i => (i.zero, i.size)) = some (some (.agg (List.replicate 8 (Value.int .u32 0)).toArray), 8) := by kernel_rfl

theorem s42 : (Tryd.prog.info? 83).map (·.size) = some 1 := by kernel_rfl
/-- A word out of an array that is held as a value. -/
theorem index48 (A : List Int) (k : Nat) (hA : A.length = 8) (hk : k < 8) (w : World) : (Instr.index 120 (.agg (wv A).toArray) (.int .i64 k)).run Tryd.prog w = .ok (.int .u32 (A.getD k 0)) w := by
  have h1 : k < A.length := by omega
  cases hq : Tryd.prog.info? 83 with
  | none => have := s42; rw [hq] at this; simp at this
  | some i =>
    have hs : i.size = 1 := by have := s42; rw [hq] at this; simpa using this
    simp [Instr.index, asIntOf, run_underlying Tryd.underlying120 w, sizeOf, typeInfo, hq, hs, Go.part, isAgg, wv, h1]
    omega

theorem part_len (X A : List Int) (i : Nat) : (part X A i).length = 8 := by simp [part]
theorem part_get (X A : List Int) (i j : Nat) (hj : j < 8) : (part X A i).getD j 0 = if j < i then ad (X.getD j 0) (A.getD j 0) else X.getD j 0 := by simp [part, List.getD, hj]
theorem part_zero (X A : List Int) (h : X.length = 8) : part X A 0 = X := by
  refine List.ext_getElem? fun j => ?_
  by_cases hj : j < 8
  · simp [part, hj, List.getD, h]
  · simp [part, hj, h]
theorem part_succ (X A : List Int) (i : Nat) : (part X A i).set i (ad (X.getD i 0) (A.getD i 0)) = part X A (i + 1) := by
  refine List.ext_getElem? fun j => ?_
  by_cases hj : j < 8
  · by_cases hij : i = j
    · subst hij
      simp [part, hj]
    · have h1 : (j < i + 1) = (j < i) := by simp; omega
      simp [part, hj, hij, h1]
  · simp [part, hj]

set_option maxRecDepth 100000 in
set_option maxHeartbeats 1000000 in
theorem words_any (w : World) (p : Nat) (A B : List Int) (n : Nat) (hT : Tabs w) (h : HB w p A B n) :
    Calls Tryd.prog 83 #[.pointer (some ⟨p, 0, none⟩)] w fun e w' => e = .returned (.agg (wv (part H0 A 8)).toArray) ∧ Below w.heap.size w w' := by
  have h2 := hT.two
  have hp := h.lt
  go_enter Tryd.func83, Tryd.ntmps83
  go_wp2_with (first
    | (refine wpList_alloc_named rfl 2 rfl 120 rfl w.heap.size rfl _ 8 z48 ?_; intro w1 a1 s1 g1; have B1 : Below w.heap.size w w1 := (Below.refl _ w).grown g1 (Nat.le_refl _) (by simp); have T1 := hT.below B1 h2; clear g1)
    | (refine wpList_load_cells rfl 120 (Operand.global 2) rfl ⟨2, 0, none⟩ rfl (wv H0) (fun j v hv => by rw [add_at, Nat.zero_add]; exact T1.first j v hv) g48 a48 ?_)
    | (refine wpList_alloc_named rfl 3 rfl 120 rfl (w.heap.size + 1) s1 _ 8 z48 ?_; intro w2 a2 s2 g2; have B2 : Below w.heap.size w w2 := B1.grown g2 (by omega) (by simp); have A2 : Arr w2 w.heap.size 120 _ := Arr.grown a1 g2 (by simp); clear g2 B1 a1 s1 T1)
    | (refine wpList_store_named rfl 120 (Operand.tmp 3) _ rfl (w.heap.size + 1) (wv H0) rfl rfl 120 _ a2 _ s2 a48 rfl (wv_one _) ?_; intro w3 a3 s3 g3; have B3 : Below w.heap.size w w3 := B2.grown g3 (by omega) (by intro k hk; cases hk; omega); have A3 : Arr w3 w.heap.size 120 _ := Arr.grown A2 g3 (by simp); have h3 := h.below B3 hp; clear g3 B2 A2 a2 s2)
    | (refine wpList_load_cells rfl 120 (Operand.tmp 9) rfl ⟨p, 0, none⟩ rfl (wv A) (fun j v hv => by rw [add_at, Nat.zero_add]; exact h3.wordv j v hv) g48 (a48.trans (by rw [wv_length, h3.lenA])) ?_))
  go_loopw [11] (fun i wr => ∃ k : Nat, k ≤ 8 ∧ i = .int .i64 k ∧ Below w.heap.size w wr ∧ Arr wr w.heap.size 120 (List.replicate 8 (Value.int .u32 0)) ∧ Arr wr (w.heap.size + 1) 120 (wv (part H0 A k)) ∧ wr.heap.size = w.heap.size + 1 + 1) (fun i _ => 8 - (intOf i).toNat)
  case atStart => exact ⟨0, by omega, rfl, B3, A3, by rw [part_zero _ _ rfl]; exact a3, s3⟩
  case round =>
    obtain ⟨k, hk, rfl, B4, A4, a4, s4⟩ := hrel
    by_cases hlt : k < 8
    · have c1 := a4.cell k
      rw [wv_get _ k (by rw [part_len]; exact hlt), part_get _ _ _ _ hlt] at c1
      simp only [Nat.lt_irrefl, if_false] at c1
      have c2 := a4.free k
      have hi : (k : Int) < 8 := by omega
      have hx := index48 A k h.lenA hlt
      go_wp2
      go_roundw
      case rel =>
        refine ⟨k + 1, by omega, by go_num, B4.setCell (by show w.heap.size ≤ w.heap.size + 1; omega) _, A4.other _ _ (by show w.heap.size ≠ w.heap.size + 1; omega), ?_, by simpa using s4⟩
        have := a4.set k (.int .u32 (ad (H0.getD k 0) (A.getD k 0)))
        rw [wv_set, part_succ] at this
        exact this
      case measure => simp [intOf]; omega
    · obtain rfl : k = 8 := by omega
      go_wp2_with (first
        | (refine wpList_load_cells rfl 120 (Operand.tmp 3) rfl ⟨w.heap.size + 1, 0, none⟩ rfl (wv (part H0 A 8)) (fun j v hv => by rw [add_at, Nat.zero_add, a4.cell]; exact hv) g48 (a48.trans (by rw [wv_length, part_len])) ?_)
        | (refine wpList_store_named rfl 120 (Operand.tmp 2) _ rfl w.heap.size (wv (part H0 A 8)) rfl rfl 120 _ A4 _ s4 (a48.trans (by rw [wv_length, part_len])) (by rw [wv_length, part_len]; rfl) (wv_one _) ?_; intro w5 a5 s5 g5; have B5 : Below w.heap.size w w5 := B4.grown g5 (by omega) (by intro k hk; cases hk; omega); clear g5))
      refine bodyPost_ret (v := .agg (wv (part H0 A 8)).toArray) ?_ rfl ⟨rfl, B5⟩
      exact results_cells rfl _ w5 ⟨w.heap.size, 0, none⟩ rfl (wv (part H0 A 8)) (fun j v hv => by rw [add_at, Nat.zero_add, Arr.cell a5]; exact hv) (g48 w5) (a48.trans (by rw [wv_length, part_len]))
end Go.Proofs.YtnicnfjickknjaaDoor

namespace Go.Proofs.YtnicnfjickknjaaDoor
open Go.RowKit

/-- A byte behind a word. -/
def sh (x b : Int) : Int := bits .or .u32 (IntKind.u32.wrap (x * 256)) b
/-- The word of the first j of four bytes from 4 t on. -/
def be (B : List Int) (t : Nat) : Nat → Int
  | 0 => 0
  | j + 1 => sh (be B t j) (B.getD (4 * t + j) 0)
def xr (x y : Int) : Int := bits .xor .u32 x y
def s0 (x : Int) : Int := xr (xr (rl (-7) x) (rl (-18) x)) (x / 8)
def s1 (x : Int) : Int := xr (xr (rl (-17) x) (rl (-19) x)) (x / 1024)
def nxt (l : List Int) (t : Nat) : Int := ad (ad (ad (l.getD (t - 16) 0) (s0 (l.getD (t - 15) 0))) (l.getD (t - 7) 0)) (s1 (l.getD (t - 2) 0))
/-- The first n words of a block. -/
def W (B : List Int) : Nat → List Int
  | 0 => []
  | t + 1 => W B t ++ [if t < 16 then be B t 4 else nxt (W B t) t]
theorem W_len (B : List Int) (n : Nat) : (W B n).length = n := by induction n with
  | zero => rfl
  | succ n ih => simp [W, ih]
/-- The array while it is filled: t words, the bytes of the next one up to j. -/
def arrW (B : List Int) (t : Nat) (x : Int) : List Int := W B t ++ x :: List.replicate (63 - t) 0
theorem arrW_len (B : List Int) (t : Nat) (x : Int) (h : t ≤ 63) : (arrW B t x).length = 64 := by simp [arrW, W_len]; omega
theorem arrW_at (B : List Int) (t : Nat) (x : Int) : (arrW B t x).getD t 0 = x := by simp [arrW, List.getD, W_len]
theorem arrW_low (B : List Int) (t j : Nat) (x : Int) (h : j < t) : (arrW B t x).getD j 0 = (W B t).getD j 0 := by simp [arrW, List.getD, W_len, List.getElem?_append, h]
theorem arrW_set (B : List Int) (t : Nat) (x y : Int) : (arrW B t x).set t y = arrW B t y := by simp [arrW, W_len]
/-- The array with t words. -/
def fillW (B : List Int) (t : Nat) : List Int := W B t ++ List.replicate (64 - t) 0
theorem fillW_len (B : List Int) (t : Nat) (h : t ≤ 64) : (fillW B t).length = 64 := by simp [fillW, W_len]; omega
theorem fillW_arr (B : List Int) (t : Nat) (h : t < 64) : fillW B t = arrW B t 0 := by
  have e : 64 - t = (63 - t) + 1 := by omega
  simp only [arrW, fillW, e, List.replicate_succ]
theorem arrW_next (B : List Int) (t : Nat) (h : t < 64) : arrW B t (if t < 16 then be B t 4 else nxt (W B t) t) = fillW B (t + 1) := by
  have e : 63 - t = 64 - (t + 1) := by omega
  simp only [arrW, fillW, W, e, List.append_assoc, List.singleton_append]
theorem fillW_low (B : List Int) (t j : Nat) (h : j < t) : (fillW B t).getD j 0 = (W B t).getD j 0 := by simp [fillW, List.getD, W_len, List.getElem?_append, h]
theorem fillW_all (B : List Int) : fillW B 64 = W B 64 := by simp [fillW]

theorem g55 (w : World) : (isAgg 130).run Tryd.prog w = .ok true w := by
  simp [isAgg, run_underlying Tryd.underlying130 w]
theorem a55 : (Tryd.prog.info? 130).map (·.size) = some 64 := by kernel_rfl
theorem z55 : (Tryd.prog.info? 130).map (fun i => (i.zero, i.size)) = some (some (.agg (List.replicate 64 (Value.int .u32 0)).toArray), 64) := by kernel_rfl

theorem u49 : Tryd.prog.underlying 121 = some (.array (Tryd.prog.arrayLen 121) (Tryd.prog.elem 121)) := by kernel_rfl
theorem al49 : Tryd.prog.arrayLen 121 = 64 := by kernel_rfl
theorem el49 : Tryd.prog.elem 121 = 5 := by kernel_rfl
theorem size8 (w : World) : (sizeOf 5).run Tryd.prog w = .ok 1 w := by
  obtain ⟨i0, hi, hz0, hz1, hz2⟩ := info_parts u8info
  simp [sizeOf, typeInfo, hi, hz1]
/-- Bytes of a block, as a slice: between two places; from a place on. -/
theorem slice49 (kl : IntKind) (p o l h : Nat) (hl : l ≤ h) (hh : h ≤ 64) (h64 : l < 64) (L H : Int) (eL : L = l) (eH : H = h) (w : World) : (Instr.sliceAt 121 (.pointer (some ⟨p, o, none⟩)) (some (.int kl L)) (some (.int kl H)) none).run Tryd.prog w = .ok (.slice (some ⟨p, o + l, none⟩) (h - l) (64 - l)) w := by
  subst eL eH
  rw [run_sliceAt_array_lh w 121 ⟨p, o, none⟩ u49 kl kl l h (by omega) (by omega) (by rw [al49]; omega), el49, al49, size8]
  have e : ¬ 64 = l := by omega
  simp [slicedAt, add_at, e]
theorem slice49l (kl : IntKind) (p o l : Nat) (h64 : l < 64) (L : Int) (eL : L = l) (w : World) : (Instr.sliceAt 121 (.pointer (some ⟨p, o, none⟩)) (some (.int kl L)) none none).run Tryd.prog w = .ok (.slice (some ⟨p, o + l, none⟩) (64 - l) (64 - l)) w := by
  subst eL
  rw [run_sliceAt_array_l w 121 ⟨p, o, none⟩ u49 kl l (by omega) (by rw [al49]; omega), el49, al49, size8]
  have e : ¬ 64 = l := by omega
  simp [slicedAt, add_at, e]

theorem bel_drewN {n : Nat} {a w : World} (h : Below n a w) (q : Nat) : Below n a (w.drewN q) := by
  have e0 : (w.drewN q).heap = w.heap := by simp
  exact ⟨by rw [← h.os]; rfl, by rw [← h.tape]; rfl, by rw [← h.output]; rfl, by rw [e0]; exact h.size, fun k hk => by rw [e0]; exact h.block k hk⟩

set_option maxRecDepth 100000 in
set_option maxHeartbeats 1000000 in
theorem sched_any (w : World) (p : Nat) (A B : List Int) (n : Nat) (hT : Tabs w) (h : HB w p A B n) :
    Calls Tryd.prog 89 #[.pointer (some ⟨p, 0, none⟩)] w fun e w' => e = .returned (.agg (wv (W B 64)).toArray) ∧ Below w.heap.size w w' := by
  have h2 := hT.two
  have hp := h.lt
  go_enter Tryd.func89, Tryd.ntmps89
  go_wp2_with (first
    | (refine wpList_alloc_named rfl 2 rfl 130 rfl w.heap.size rfl _ 64 z55 ?_; intro w1 a1 s1 g1; have B1 : Below w.heap.size w w1 := (Below.refl _ w).grown g1 (Nat.le_refl _) (by simp); clear g1)
    | (refine wpList_alloc_named rfl 3 rfl 130 rfl (w.heap.size + 1) s1 _ 64 z55 ?_; intro w2 a2 s2 g2; have B2 : Below w.heap.size w w2 := B1.grown g2 (by omega) (by simp); have A2 : Arr w2 w.heap.size 130 _ := Arr.grown a1 g2 (by simp); clear g2 B1 a1 s1))
  go_loopw [12] (fun i wr => ∃ k : Nat, k ≤ 16 ∧ i = .int .i64 k ∧ Below w.heap.size w wr ∧ Arr wr w.heap.size 130 (List.replicate 64 (Value.int .u32 0)) ∧ Arr wr (w.heap.size + 1) 130 (wv (fillW B k)) ∧ wr.heap.size = w.heap.size + 1 + 1) (fun i _ => 16 - (intOf i).toNat)
  case atStart => exact ⟨0, by omega, rfl, B2, A2, a2, s2⟩
  case round =>
    obtain ⟨k, hk, rfl, B4, A4, a4, s4⟩ := hrel
    have h4 := h.below B4 hp
    clear a2 A2 B2 s2
    by_cases hlt : k < 16
    · have hi : (k : Int) < 16 := by omega
      have hsl := slice49 .i64 p 8 (4 * k) (4 * (k + 1)) (by omega) (by omega) (by omega) (4 * (k : Int)) (4 * ((k : Int) + 1)) (by omega) (by omega)
      rw [show 4 * (k + 1) - 4 * k = 4 by omega] at hsl
      go_wp2
      go_loopw [25] (fun i wr => ∃ j : Nat, j ≤ 4 ∧ i = .int .i64 j ∧ Below w.heap.size w wr ∧ Arr wr w.heap.size 130 (List.replicate 64 (Value.int .u32 0)) ∧ Arr wr (w.heap.size + 1) 130 (wv (arrW B k (be B k j))) ∧ wr.heap.size = w.heap.size + 1 + 1) (fun i _ => 4 - (intOf i).toNat)
      case atStart => exact ⟨0, by omega, rfl, B4, A4, by rw [fillW_arr _ _ (by omega)] at a4; exact a4, s4⟩
      case round =>
        obtain ⟨j, hj, rfl, B5, A5, a5, s5⟩ := hrel
        have h5 := h.below B5 hp
        clear a4 A4 B4 s4 h4
        by_cases hjt : j < 4
        · have hji : (j : Int) < 4 := by omega
          have c1 := a5.cell k
          rw [wv_get _ k (by rw [arrW_len _ _ _ (by omega)]; omega), arrW_at] at c1
          have c2 := a5.free k
          have c3 := h5.byteAt (4 * k + j) (by omega)
          rw [← Nat.add_assoc] at c3
          go_wp2
          go_roundw
          case rel =>
            refine ⟨j + 1, by omega, by go_num, B5.setCell (by show w.heap.size ≤ w.heap.size + 1; omega) _, A5.other _ _ (by show w.heap.size ≠ w.heap.size + 1; omega), ?_, by simpa using s5⟩
            have hb := h.byte.at (4 * k + j)
            have e : B[4 * k + j]?.getD 0 % 4294967296 = B[4 * k + j]?.getD 0 := by omega
            have := a5.set k (.int .u32 (be B k (j + 1)))
            rw [wv_set, arrW_set] at this
            rw [e]
            exact this
          case measure => simp [intOf]; omega
        · obtain rfl : j = 4 := by omega
          go_wp2
          go_roundw
          case rel =>
            refine ⟨k + 1, by omega, by go_num, B5, A5, ?_, s5⟩
            have e := arrW_next B k (by omega)
            rw [if_pos hlt] at e
            rw [← e]
            exact a5
          case measure => simp [intOf]; omega
    · have hge : (16 : Int) ≤ (k : Int) := by omega
      go_wp2
      go_loopw [7] (fun i wr => ∃ k : Nat, 16 ≤ k ∧ k ≤ 64 ∧ i = .int .i64 k ∧ Below w.heap.size w wr ∧ Arr wr w.heap.size 130 (List.replicate 64 (Value.int .u32 0)) ∧ Arr wr (w.heap.size + 1) 130 (wv (fillW B k)) ∧ wr.heap.size = w.heap.size + 1 + 1) (fun i _ => 64 - (intOf i).toNat)
      case atStart =>
        obtain rfl : k = 16 := by omega
        exact ⟨16, by omega, by omega, rfl, B4, A4, a4, s4⟩
      case round =>
        clear a4 A4 B4 s4 h4 hge hlt hk
        obtain ⟨k, hk16, hk, rfl, B5, A5, a5, s5⟩ := hrel
        by_cases hkt : k < 64
        · have hki : (k : Int) < 64 := by omega
          have cs : ∀ j, j < k → wr.cell? ⟨w.heap.size + 1, j, none⟩ = some (.int .u32 ((W B k).getD j 0)) := by
            intro j hj
            rw [a5.cell, wv_get _ _ (by rw [fillW_len _ _ (by omega)]; omega), fillW_low _ _ _ hj]
          have c15 := cs (k - 15) (by omega)
          have c2 := cs (k - 2) (by omega)
          have c16 := cs (k - 16) (by omega)
          have c7 := cs (k - 7) (by omega)
          have c0 := a5.cell k
          rw [wv_get _ _ (by rw [fillW_len _ _ (by omega)]; omega)] at c0
          have cf := a5.free k
          obtain ⟨x15, hx15⟩ : ∃ x, x = (W B k).getD (k - 15) 0 := ⟨_, rfl⟩
          obtain ⟨x2, hx2⟩ : ∃ x, x = (W B k).getD (k - 2) 0 := ⟨_, rfl⟩
          obtain ⟨x16, hx16⟩ : ∃ x, x = (W B k).getD (k - 16) 0 := ⟨_, rfl⟩
          obtain ⟨x7, hx7⟩ : ∃ x, x = (W B k).getD (k - 7) 0 := ⟨_, rfl⟩
          have HX : Hid (nxt (W B k) k = ad (ad (ad x16 (s0 x15)) x7) (s1 x2)) := by rw [hx15, hx2, hx16, hx7]; rfl
          rw [← hx15] at c15
          rw [← hx2] at c2
          rw [← hx16] at c16
          rw [← hx7] at c7
          clear hx15 hx2 hx16 hx7 cs
          have e15 : ((k : Int) - 15).toNat = k - 15 := by omega
          have e2 : ((k : Int) - 2).toNat = k - 2 := by omega
          have e16 : ((k : Int) - 16).toNat = k - 16 := by omega
          have e7 : ((k : Int) - 7).toNat = k - 7 := by omega
          have f15 : 0 ≤ ((k : Int) - 15) := by omega
          have f2 : 0 ≤ ((k : Int) - 2) := by omega
          have f16 : 0 ≤ ((k : Int) - 16) := by omega
          have f7 : 0 ≤ ((k : Int) - 7) := by omega
          have g15 : ((k : Int) - 15) < 64 := by omega
          have g2 : ((k : Int) - 2) < 64 := by omega
          have g16 : ((k : Int) - 16) < 64 := by omega
          have g7 : ((k : Int) - 7) < 64 := by omega
          go_wp2
          go_quiet (fail)
          go_wp2_with (go_at_call 90; refine (rot_at _ _ _ (by simp)).mono ?_; rintro e w' ⟨rfl, rfl⟩)
          clear f15 f2 g15 g2 e15 e2 c15 c2
          go_region
          all_goals go_wp2
          go_roundw
          case rel =>
            have e0 : ∀ q, (wr.drewN q).heap = wr.heap := fun q => by simp
            have a6 : Arr (wr.drewN (nq + 1)) (w.heap.size + 1) 130 (wv (fillW B k)) := by unfold Arr; rw [e0]; exact a5
            have A6 : Arr (wr.drewN (nq + 1)) w.heap.size 130 (List.replicate 64 (Value.int .u32 0)) := by unfold Arr; rw [e0]; exact A5
            refine ⟨k + 1, by omega, by omega, by go_num, (bel_drewN B5 _).setCell (by show w.heap.size ≤ w.heap.size + 1; omega) _, A6.other _ _ (by show w.heap.size ≠ w.heap.size + 1; omega), ?_, by simpa using s5⟩
            have a7 := a6.set k (.int .u32 (nxt (W B k) k))
            have e := arrW_next B k hkt
            rw [if_neg (by omega)] at e
            rw [wv_set, fillW_arr _ _ hkt, arrW_set, e] at a7
            rw [HX.out] at a7
            have e3 : ad (ad (ad x16 (s0 x15)) x7) (s1 x2) = (x16 + bits BinOp.xor IntKind.u32 (bits BinOp.xor IntKind.u32 (rl (-7) x15) (rl (-18) x15)) (x15 / 8) + x7 + bits BinOp.xor IntKind.u32 (bits BinOp.xor IntKind.u32 (rl (-17) x2) (rl (-19) x2)) (x2 / 1024)) % 4294967296 := by
              simp only [ad, IntKind.wrap_u32', s0, s1, xr]
              omega
            rw [e3] at a7
            exact a7
          case measure => simp [intOf]; omega
        · obtain rfl : k = 64 := by omega
          rw [fillW_all] at a5
          go_wp2_with (first
            | (refine wpList_load_cells rfl 130 (Operand.tmp 3) rfl ⟨w.heap.size + 1, 0, none⟩ rfl (wv (W B 64)) (fun j v hv => by rw [add_at, Nat.zero_add, a5.cell]; exact hv) g55 (a55.trans (by rw [wv_length, W_len])) ?_)
            | (refine wpList_store_named rfl 130 (Operand.tmp 2) _ rfl w.heap.size (wv (W B 64)) rfl rfl 130 _ A5 _ s5 (a55.trans (by rw [wv_length, W_len])) (by rw [wv_length, W_len]; rfl) (wv_one _) ?_; intro w6 a6 s6 g6; have B6 : Below w.heap.size w w6 := B5.grown g6 (by omega) (by intro k hk; cases hk; omega); clear g6))
          refine bodyPost_ret (v := .agg (wv (W B 64)).toArray) ?_ rfl ⟨rfl, B6⟩
          exact results_cells rfl _ w6 ⟨w.heap.size, 0, none⟩ rfl (wv (W B 64)) (fun j v hv => by rw [add_at, Nat.zero_add, Arr.cell a6]; exact hv) (g55 w6) (a55.trans (by rw [wv_length, W_len]))
end Go.Proofs.YtnicnfjickknjaaDoor

namespace Go.Proofs.YtnicnfjickknjaaDoor
open Go.RowKit

def an (x y : Int) : Int := bits .and .u32 x y
def nt (x : Int) : Int := bits .xor .u32 4294967295 x
def t1 (e f g l k w : Int) : Int := ad (ad (ad (ad l (xr (xr (rl (-6) e) (rl (-11) e)) (rl (-25) e))) (xr (an e f) (an (nt e) g))) k) w
def t2 (a b c : Int) : Int := ad (xr (xr (rl (-2) a) (rl (-13) a)) (rl (-22) a)) (xr (xr (an a b) (an a c)) (an b c))
/-- One round. -/
def rnd (s : List Int) (k w : Int) : List Int :=
  match s with
  | [a, b, c, d, e, f, g, l] => [ad (t1 e f g l k w) (t2 a b c), a, b, c, ad d (t1 e f g l k w), e, f, g]
  | _ => s
/-- t rounds. -/
def Rr (X Ws : List Int) : Nat → List Int
  | 0 => X
  | t + 1 => rnd (Rr X Ws t) (K0.getD t 0) (Ws.getD t 0)
/-- What the words are to which a block is mixed. -/
def mixA (A B : List Int) : List Int := part A (Rr (part H0 A 8) (W B 64) 64) 8

set_option maxRecDepth 100000 in
set_option maxHeartbeats 2000000 in
theorem mix_any (w : World) (p : Nat) (A B : List Int) (n : Nat) (hT : Tabs w) (h : HB w p A B n) :
    Calls Tryd.prog 79 #[.pointer (some ⟨p, 0, none⟩)] w fun e w' => (∃ v, e = .returned v) ∧ HB w' p (mixA A B) B n ∧ w.grownBy w' (some p) := by
  have h2 := hT.two
  have hp := h.lt
  go_enter Tryd.func79, Tryd.ntmps79
  go_wp2_with (first
    | (go_at_call 89; refine (sched_any w p A B n hT h).mono ?_; rintro e w1 ⟨rfl, B1⟩; have T1 := hT.below B1 h2; have H1 := h.below B1 hp; have S1 := B1.size)
    | (refine wpList_alloc_named rfl 2 rfl 130 rfl w1.heap.size rfl _ 64 z55 ?_; intro w2 a2 s2 g2; have B2 : Below w.heap.size w w2 := B1.grown g2 S1 (by simp); clear g2 B1)
    | (refine wpList_store_named rfl 130 (Operand.tmp 2) _ rfl w1.heap.size (wv (W B 64)) rfl rfl 130 _ a2 _ s2 (a55.trans (by rw [wv_length, W_len])) (by rw [wv_length, W_len]; rfl) (wv_one _) ?_; intro w3 a3 s3 g3; have B3 : Below w.heap.size w w3 := B2.grown g3 (by omega) (by intro k hk; cases hk; omega); have T3 := hT.below B3 h2; have H3 := h.below B3 hp; clear g3 B2 a2 s2 T1 H1)
    | (go_at_call 83; refine (words_any w3 p A B n T3 H3).mono ?_; rintro e w4 ⟨rfl, C4⟩; have B4 : Below w.heap.size w w4 := B3.trans (C4.mono (by omega)); have a4 : Arr w4 w1.heap.size 130 (wv (W B 64)) := Arr.below a3 C4 (by omega); have S4 := C4.size; clear C4 B3 T3 H3 a3)
    | (refine wpList_alloc_named rfl 3 rfl 120 rfl w4.heap.size rfl _ 8 z48 ?_; intro w5 a5 s5 g5; have B5 : Below w.heap.size w w5 := B4.grown g5 (by omega) (by simp); have A5 := a4.grown g5 (by simp); clear g5 B4 a4)
    | (refine wpList_store_named rfl 120 (Operand.tmp 3) _ rfl w4.heap.size (wv (part H0 A 8)) rfl rfl 120 _ a5 _ s5 (a48.trans (by rw [wv_length, part_len])) (by rw [wv_length, part_len]; rfl) (wv_one _) ?_; intro w6 a6 s6 g6; have B6 : Below w.heap.size w w6 := B5.grown g6 (by omega) (by intro k hk; cases hk; omega); have A6 := A5.grown g6 (by intro e; have := Option.some.inj e; omega); clear g6 B5 a5 s5 A5))
  have hc : ∀ j, j < 8 → w6.cell? ⟨w4.heap.size, j, none⟩ = some (.int .u32 ((part H0 A 8).getD j 0)) := by
    intro j hj
    rw [Arr.cell a6, wv_get _ _ (by rw [part_len]; exact hj)]
  have c0 := hc 0 (by omega)
  have c1 := hc 1 (by omega)
  have c2 := hc 2 (by omega)
  have c3 := hc 3 (by omega)
  have c4 := hc 4 (by omega)
  have c5 := hc 5 (by omega)
  have c6 := hc 6 (by omega)
  have c7 := hc 7 (by omega)
  clear hc
  obtain ⟨x0, x1, x2, x3, x4, x5, x6, x7, hX⟩ : ∃ x0 x1 x2 x3 x4 x5 x6 x7, part H0 A 8 = [x0, x1, x2, x3, x4, x5, x6, x7] := ⟨_, _, _, _, _, _, _, _, rfl⟩
  rw [hX] at c0 c1 c2 c3 c4 c5 c6 c7
  simp only [List.getD_cons_zero, List.getD_cons_succ] at c0 c1 c2 c3 c4 c5 c6 c7
  have HX : Hid (part H0 A 8 = [x0, x1, x2, x3, x4, x5, x6, x7]) := hX
  clear hX
  go_wp2
  go_quiet (fail)
  rename Nat => q1
  go_wp2
  go_quiet (fail)
  rename Nat => q2
  go_wp2
  clear c0 c1 c2 c3 c4 c5 c6 c7
  have T6 := hT.below B6 h2
  go_loopw [4, 5, 6, 7, 8, 9, 10, 11, 39] (fun va vb vc vd ve vf vg vh i wr => ∃ (k q : Nat) (a b c d e f g l : Int), k ≤ 64 ∧ i = .int .i64 k ∧ wr = w6.drewN q ∧ Hid (Rr (part H0 A 8) (W B 64) k = [a, b, c, d, e, f, g, l]) ∧ va = .int .u32 a ∧ vb = .int .u32 b ∧ vc = .int .u32 c ∧ vd = .int .u32 d ∧ ve = .int .u32 e ∧ vf = .int .u32 f ∧ vg = .int .u32 g ∧ vh = .int .u32 l) (fun _ _ _ _ _ _ _ _ i _ => 64 - (intOf i).toNat)
  case atStart => exact ⟨0, q1 + q2, x0, x1, x2, x3, x4, x5, x6, x7, by omega, rfl, by simp, HX, rfl, rfl, rfl, rfl, rfl, rfl, rfl, rfl⟩
  case round =>
    obtain ⟨k, q, a, b, c, d, e, f, g, l, hk, rfl, rfl, HR, rfl, rfl, rfl, rfl, rfl, rfl, rfl, rfl⟩ := hrel
    by_cases hlt : k < 64
    · have hki : (k : Int) < 64 := by omega
      have ck := T6.cubes k _ (wv_get K0 k hlt)
      have cw : w6.cell? ⟨w1.heap.size, k, none⟩ = some (.int .u32 ((W B 64).getD k 0)) := by
        rw [Arr.cell A6, wv_get _ _ (by rw [W_len]; exact hlt)]
      obtain ⟨xk, hxk⟩ : ∃ x, x = K0.getD k 0 := ⟨_, rfl⟩
      obtain ⟨xw, hxw⟩ : ∃ x, x = (W B 64).getD k 0 := ⟨_, rfl⟩
      have HN : Hid (Rr (part H0 A 8) (W B 64) (k + 1) = rnd [a, b, c, d, e, f, g, l] xk xw) := by
        have : Rr (part H0 A 8) (W B 64) (k + 1) = rnd (Rr (part H0 A 8) (W B 64) k) (K0.getD k 0) ((W B 64).getD k 0) := rfl
        rw [HR.out, ← hxk, ← hxw] at this
        exact this
      rw [← hxk] at ck
      rw [← hxw] at cw
      clear hxk hxw
      go_wp2_with (go_at_call 90; refine (rot_at _ _ _ (by simp)).mono ?_; rintro e w' ⟨rfl, rfl⟩)
      go_quiet (fail)
      go_wp2_with (go_at_call 90; refine (rot_at _ _ _ (by simp)).mono ?_; rintro e w' ⟨rfl, rfl⟩)
      go_roundw
      case rel =>
        refine ⟨k + 1, _, ad (t1 e f g l xk xw) (t2 a b c), a, b, c, ad d (t1 e f g l xk xw), e, f, g, by omega, by go_num, rfl, HN.out, ?_, rfl, rfl, rfl, ?_, rfl, rfl, rfl⟩
        · have e0 : (if IntKind.u32.signed = true then -1 else IntKind.u32.max) = 4294967295 := by decide
          rw [e0]
          refine congrArg _ ?_
          simp only [ad, IntKind.wrap_u32', t1, t2, xr, an, nt]
          omega
        · have e0 : (if IntKind.u32.signed = true then -1 else IntKind.u32.max) = 4294967295 := by decide
          rw [e0]
          refine congrArg _ ?_
          simp only [ad, IntKind.wrap_u32', t1, xr, an, nt]
          omega
      case measure => simp [intOf]; omega
    · have hge : (64 : Int) ≤ (k : Int) := by omega
      have HR' : Hid (Rr (part H0 A 8) (W B 64) 64 = [a, b, c, d, e, f, g, l]) := by
        obtain rfl : k = 64 := by omega
        exact HR
      clear HR
      go_wp2
      have h7 : HB (w6.drewN q) p (part A [a, b, c, d, e, f, g, l] 0) B n := by
        rw [part_zero _ _ h.lenA]
        exact (h.below B6 hp).drewN q
      have G7 : w.grownBy (w6.drewN q) (some p) := grown_drewN (bel_grown B6 _) q
      clear a6 s6 B6 A6 T6 hk hlt hge HX
      generalize w6.drewN q = w7 at h7 G7
      go_loopw [113] (fun i wr => ∃ j : Nat, j ≤ 8 ∧ i = .int .i64 j ∧ HB wr p (part A [a, b, c, d, e, f, g, l] j) B n ∧ w.grownBy wr (some p)) (fun i _ => 8 - (intOf i).toNat)
      case atStart => exact ⟨0, by omega, rfl, h7, G7⟩
      case round =>
        obtain ⟨j, hj, rfl, h8, G8⟩ := hrel
        clear h7 G7
        by_cases hjt : j < 8
        · have hji : (j : Int) < 8 := by omega
          have hx : ∀ w, (Instr.index 120 (.agg #[.int .u32 a, .int .u32 b, .int .u32 c, .int .u32 d, .int .u32 e, .int .u32 f, .int .u32 g, .int .u32 l]) (.int .i64 j)).run Tryd.prog w = .ok (.int .u32 ([a, b, c, d, e, f, g, l].getD j 0)) w := fun w => index48 [a, b, c, d, e, f, g, l] j rfl hjt w
          have c1 := h8.word j hjt
          rw [part_get _ _ _ _ hjt] at c1
          simp only [Nat.lt_irrefl, if_false] at c1
          have cf := h8.free j
          obtain ⟨x, hx'⟩ : ∃ x, x = [a, b, c, d, e, f, g, l].getD j 0 := ⟨_, rfl⟩
          obtain ⟨y, hy'⟩ : ∃ y, y = A.getD j 0 := ⟨_, rfl⟩
          have HXY : Hid (part A [a, b, c, d, e, f, g, l] (j + 1) = (part A [a, b, c, d, e, f, g, l] j).set j (ad y x)) := by rw [hx', hy']; exact (part_succ _ _ _).symm
          rw [← hx'] at hx
          rw [← hy'] at c1
          clear hx' hy'
          go_wp2
          go_region
          all_goals go_wp2
          go_roundw
          case rel =>
            refine ⟨j + 1, by omega, by go_num, ?_, ?_⟩
            · rw [HXY.out]
              exact (h8.drewN 1).setA j (ad y x) hjt
            · exact grown_set (grown_drewN G8 1) j _
          case measure => simp [intOf]; omega
        · obtain rfl : j = 8 := by omega
          go_wp2
          go_end0
          refine ⟨⟨_, rfl⟩, ?_, G8⟩
          unfold mixA
          rw [HR'.out]
          exact h8
end Go.Proofs.YtnicnfjickknjaaDoor

namespace Go.Proofs.YtnicnfjickknjaaDoor
open Go.RowKit

/-- The first k bytes. -/
theorem Sl.take {w : World} {ao : Option Addr} {n cap : Nat} {xs : List Int} (h : Sl w ao n cap xs) (k : Nat) (hk : k ≤ n) : Sl w ao k cap (xs.take k) := by
  have h1 := h.le
  have h2 := h.len
  refine ⟨by simp; omega, by omega, h.mx, fun hn => ?_, fun a ha i hi => ?_, h.byte.take k⟩
  · have := h.nil hn
    omega
  · rw [h.cell a ha i (by omega)]
    simp [List.getD, hi]

end Go.Proofs.YtnicnfjickknjaaDoor

namespace Go

/-- A copy within a region that draws its order, into a row, the world behind it by a name. -/
theorem step_copy_named {P : Program} {ops : Array Oper} {o : Oper} {a : Act} {w : World} {K : Act → World → Prop} {Q : Exit → Act → World → Prop} {E : Prop} (hgd : o.guard = none) (d s : Operand) (dT sT : TypeId)
    (ho : o.op = .call { callee := .builtin .copy, args := #[d, s], argTypes := #[dT, sT] }) (elem : TypeId) (hu : P.underlying dT = some (.slice elem)) (hsz : (P.info? elem).map (·.size) = some 1)
    (g off : Nat) (ad : Addr) (dLen dCap sLen sCap : Nat) (hd : a.eval d = .slice (some ⟨g, off, none⟩) dLen dCap) (hs : a.eval s = .slice (some ad) sLen sCap)
    (cur : List Value) (t : TypeId) (hg : w.heap[g]? = some (.cells cur.toArray t (0, 0))) (cs : List Value) (hn : cs.length = Nat.min sLen dLen)
    (hsrc : ∀ j v, cs[j]? = some v → w.cell? (ad.add j) = some v)
    (hfit : off + cs.length ≤ cur.length) (h1 : ∀ v ∈ cs, v.oneCell' = true)
    (N : Nat) (hN : cs.length = N)
    (h : ∀ w', RowKit.Hid (w'.heap[g]? = some (.cells (splice cur off cs).toArray t (0, 0))) → w.grownBy w' (some g) → K (a.put o.dst (.int .i64 N)) w') :
    if Region.wanted o (yielded ops a.tmps) = true then Oper.wp P o a w K Q else E := by
  have hw : Region.wanted o (yielded ops a.tmps) = true := by simp [Region.wanted, hgd]
  subst hN
  rw [if_pos hw]
  have hrun := run_copy_row (P := P) w dT sT o.type elem g off dLen dCap ad sLen sCap cur.toArray t cs hu hsz hg hn hsrc (by simpa using hfit) h1
  unfold Oper.wp
  simp [execOp, ho, resolve, invoke, builtin, hd, hs, hrun, Result.andThen]
  exact h _ (show _ = _ by simpa [splice] using setRow_heap w g _ _ t _ hg) ⟨rfl, rfl, rfl, by simp, fun k _ hk => setRow_other w g k _ (fun e => hk (by rw [e]))⟩

end Go

namespace Go.Proofs.YtnicnfjickknjaaDoor
open Go.RowKit

/-- The block i of some bytes. -/
def blk (bs : List Int) (i : Nat) : List Int := (bs.drop (64 * i)).take 64
/-- What the first i blocks have added to the first words. -/
def AA (bs : List Int) : Nat → List Int
  | 0 => List.replicate 8 0
  | i + 1 => mixA (AA bs i) (blk bs i)
theorem AA_append (bs cs : List Int) (i : Nat) (h : 64 * i ≤ bs.length) : AA (bs ++ cs) i = AA bs i := by
  induction i with
  | zero => rfl
  | succ i ih =>
    have e : blk (bs ++ cs) i = blk bs i := by
      unfold blk
      rw [List.drop_append_of_le_length (by omega), List.take_append_of_le_length (by simp; omega)]
    simp only [AA]
    rw [ih (by omega), e]
theorem AA_len (bs : List Int) (i : Nat) : (AA bs i).length = 8 := by
  cases i with
  | zero => simp [AA]
  | succ i => simp [AA, mixA, part_len]

/-- The hash at block p has taken the bytes bs. -/
def HS (w : World) (p : Nat) (bs : List Int) : Prop :=
  ∃ B, HB w p (AA bs (bs.length / 64)) B bs.length ∧ B.take (bs.length % 64) = bs.drop (64 * (bs.length / 64))

theorem HS.lt {w : World} {p : Nat} {bs : List Int} (h : HS w p bs) : p < w.heap.size := by obtain ⟨B, h, _⟩ := h; exact h.lt
theorem HS.below {w w' : World} {p m : Nat} {bs : List Int} (h : HS w p bs) (hb : Below m w w') (hp : p < m) : HS w' p bs := by
  obtain ⟨B, h, e⟩ := h
  exact ⟨B, h.below hb hp, e⟩
theorem HB.grown {w w' : World} {p : Nat} {A B : List Int} {n : Nat} {row : Option Nat} (h : HB w p A B n) (hg : w.grownBy w' row) (hne : some p ≠ row) : HB w' p A B n :=
  ⟨(hg.block p h.lt hne).trans h.heap, h.lenA, h.lenB, h.byte, h.size⟩
theorem HS.grown {w w' : World} {p : Nat} {bs : List Int} {row : Option Nat} (h : HS w p bs) (hg : w.grownBy w' row) (hne : some p ≠ row) : HS w' p bs := by
  obtain ⟨B, h, e⟩ := h
  exact ⟨B, h.grown hg hne, e⟩
theorem Tabs.grown {w w' : World} {p : Nat} (h : Tabs w) (hg : w.grownBy w' (some p)) (hp : 3 ≤ p) : Tabs w' :=
  have h2 := h.two
  ⟨fun j v hv => hg.cell (h.first j v hv) (by intro e; have := Option.some.inj e; simp only at this; omega), fun j v hv => hg.cell (h.cubes j v hv) (by intro e; have := Option.some.inj e; simp only at this; omega), by have := hg.size; omega⟩
theorem Sl.grown {w w' : World} {ao : Option Addr} {n cap p : Nat} {xs : List Int} (h : Sl w ao n cap xs) (hg : w.grownBy w' (some p)) (hne : ∀ a, ao = some a → 0 < n → a.block ≠ p) : Sl w' ao n cap xs :=
  ⟨h.len, h.le, h.mx, h.nil, fun a ha i hi => hg.cell (h.cell a ha i hi) (by intro e; have := Option.some.inj e; exact hne a ha (by omega) (by rw [← this]; unfold Addr.add; split <;> rfl)), h.byte⟩

/-- A slice of bytes from a place on. -/
theorem Sl.cut {w : World} {a : Addr} {n cap : Nat} {xs : List Int} (h : Sl w (some a) n cap xs) (u : Nat) (hu : u ≤ n) : Sl w (some (if cap = u then a else a.add u)) (n - u) (cap - u) (xs.drop u) := by
  refine ⟨by simp [h.len], by have := h.le; omega, by have := h.mx; omega, fun e => by simp at e, fun b hb i hi => ?_, h.byte.drop u⟩
  have hle := h.le
  rw [if_neg (by omega)] at hb
  obtain rfl := Option.some.inj hb
  have e : (a.add u).add i = a.add (u + i) := by
    rcases Nat.eq_zero_or_pos u with rfl | h1
    · simp [Addr.add]
    · rcases Nat.eq_zero_or_pos i with rfl | h2
      · simp [Addr.add]
      · have h3 : ¬ u = 0 := by omega
        have h4 : ¬ i = 0 := by omega
        simp [Addr.add, h3, h4, Nat.add_assoc]
  rw [e, h.cell a rfl (u + i) (by omega)]
  simp [List.getD]
theorem u22 : Tryd.prog.underlying 23 = some (.slice (Tryd.prog.elem 23)) := by kernel_rfl
theorem el22 : Tryd.prog.elem 23 = 5 := by kernel_rfl
theorem slice22l (a : Addr) (n cap k : Nat) (hk : k ≤ n) (w : World) : (Instr.slice 23 (.slice (some a) n cap) (some (.int .i64 k)) none none).run Tryd.prog w = .ok (.slice (some (if cap = k then a else a.add k)) (n - k) (cap - k)) w := by
  rw [run_slice_l w 23 (some a) n cap u22 .i64 k (by omega) (by omega), el22, size8]
  simp [sliced]
  split <;> rfl

/-- The row of a hash behind a copy into its block. -/
theorem splice_hv (A B Y : List Int) (n r : Nat) (hA : A.length = 8) (hB : B.length = 64) (hr : r + Y.length ≤ 64) : splice (hv A B n) (8 + r) (bv Y) = hv A (B.take r ++ Y ++ B.drop (r + Y.length)) n := by
  unfold hv splice
  have l1 : (wv A).length = 8 := by simp [wv, hA]
  have e1 : (wv A ++ bv B ++ [Value.int .u64 n]).take (8 + r) = wv A ++ bv (B.take r) := by
    rw [List.append_assoc, ← l1, List.take_length_add_append, List.take_append_of_le_length (by simp [bv]; omega)]
    simp [bv, List.map_take]
  have e2 : (wv A ++ bv B ++ [Value.int .u64 n]).drop (8 + r + (bv Y).length) = bv (B.drop (r + Y.length)) ++ [Value.int .u64 n] := by
    rw [List.append_assoc, ← l1, Nat.add_assoc, List.drop_length_add_append, List.drop_append_of_le_length (by simp [bv]; omega)]
    simp [bv, List.map_drop]
  rw [e1, e2]
  simp [bv]

theorem HB.setN {w : World} {p : Nat} {A B : List Int} {n : Nat} (h : HB w p A B n) (m : Nat) (hm : m < 18446744073709551616) : HB (w.setCell ⟨p, 72, none⟩ (.int .u64 m)) p A B m := by
  refine ⟨?_, h.lenA, h.lenB, h.byte, hm⟩
  have := Arr.set (show Arr w p _ (hv A B n) from h.heap) 72 (.int .u64 m)
  have e : (hv A B n).set 72 (.int .u64 m) = hv A B m := by
    unfold hv
    rw [List.set_append_right _ _ (by simp [wv, bv, h.lenA, h.lenB])]
    simp [wv, bv, h.lenA, h.lenB]
  rw [e] at this
  exact this

/-- Fewer bytes than fill the block. -/
theorem HS_less {w : World} {p : Nat} {ys B Y : List Int} (h : HB w p (AA ys (ys.length / 64)) (B.take (ys.length % 64) ++ Y ++ B.drop (ys.length % 64 + Y.length)) (ys.length + Y.length)) (hB : B.take (ys.length % 64) = ys.drop (64 * (ys.length / 64)))
    (hl : ys.length % 64 + Y.length < 64) : HS w p (ys ++ Y) := by
  have e1 : (ys ++ Y).length / 64 = ys.length / 64 := by simp; omega
  have e2 : (ys ++ Y).length % 64 = ys.length % 64 + Y.length := by simp; omega
  refine ⟨B.take (ys.length % 64) ++ Y ++ B.drop (ys.length % 64 + Y.length), ?_, ?_⟩
  · rw [e1, AA_append _ _ _ (by omega)]
    simpa using h
  · rw [e1, e2, hB, List.drop_append_of_le_length (by omega)]
    rw [List.take_append_of_le_length (by simp; omega)]
    rw [List.take_of_length_le (by simp; omega)]

/-- Bytes that fill it. -/
theorem HS_full {w : World} {p : Nat} {ys B Y : List Int} (h : HB w p (mixA (AA ys (ys.length / 64)) (B.take (ys.length % 64) ++ Y ++ B.drop (ys.length % 64 + Y.length))) (B.take (ys.length % 64) ++ Y ++ B.drop (ys.length % 64 + Y.length)) (ys.length + Y.length)) (hB : B.take (ys.length % 64) = ys.drop (64 * (ys.length / 64)))
    (hl : ys.length % 64 + Y.length = 64) (hb : B.length = 64) : HS w p (ys ++ Y) := by
  have e1 : (ys ++ Y).length / 64 = ys.length / 64 + 1 := by simp; omega
  have e2 : (ys ++ Y).length % 64 = 0 := by simp; omega
  have e3 : B.take (ys.length % 64) ++ Y ++ B.drop (ys.length % 64 + Y.length) = blk (ys ++ Y) (ys.length / 64) := by
    rw [hl, List.drop_of_length_le (by omega), List.append_nil, hB]
    unfold blk
    rw [List.drop_append_of_le_length (by omega), List.take_of_length_le (by simp; omega)]
  rw [e3] at h
  refine ⟨blk (ys ++ Y) (ys.length / 64), ?_, ?_⟩
  · rw [e1]
    simp only [AA]
    rw [AA_append _ _ _ (by omega)]
    simpa using h
  · rw [e1, e2, List.take_zero, List.drop_of_length_le (by simp; omega)]

end Go.Proofs.YtnicnfjickknjaaDoor

namespace Go.Proofs.YtnicnfjickknjaaDoor
open Go.RowKit

theorem s5 : (Tryd.prog.info? 5).map (·.size) = some 1 := by kernel_rfl

def lenOf : Value → Nat | .slice _ n _ => n | _ => 0

/-- A nil hash takes nothing. -/
theorem add_nil (w : World) (v : Value) : Calls Tryd.prog 66 #[.pointer none, v] w fun e w' => (∃ v, e = .returned v) ∧ w' = w := by
  go_enter Tryd.func66, Tryd.ntmps66
  go_wp2
  refine bodyPost_ret (results_none rfl _ _ _) rfl ?_
  exact ⟨⟨_, rfl⟩, rfl⟩

set_option maxRecDepth 100000 in
set_option maxHeartbeats 2000000 in
theorem add_any (w : World) (p : Nat) (bs : List Int) (ao : Option Addr) (n cap : Nat) (xs : List Int) (hT : Tabs w) (h : HS w p bs) (hp2 : 3 ≤ p) (hS : Sl w ao n cap xs) (hne : ∀ a, ao = some a → 0 < n → a.block ≠ p) (hl : bs.length + xs.length < 18446744073709551616) :
    Calls Tryd.prog 66 #[.pointer (some ⟨p, 0, none⟩), .slice ao n cap] w fun e w' => (∃ v, e = .returned v) ∧ HS w' p (bs ++ xs) ∧ w.grownBy w' (some p) := by
  go_enter Tryd.func66, Tryd.ntmps66
  go_wp2
  go_loopw [1] (fun v wr => ∃ (ys zs : List Int) (ao : Option Addr) (n cap : Nat), Hid (bs ++ xs = ys ++ zs) ∧ HS wr p ys ∧ v = .slice ao n cap ∧ Sl wr ao n cap zs ∧ (∀ a, ao = some a → 0 < n → a.block ≠ p) ∧ w.grownBy wr (some p)) (fun v _ => lenOf v)
  case atStart => exact ⟨bs, xs, ao, n, cap, rfl, h, rfl, hS, hne, World.grownBy.refl _ _⟩
  case round =>
    clear h hS hne
    obtain ⟨ys, zs, ao, n, cap, HE, h, rfl, hS, hne, G⟩ := hrel
    have T := hT.grown G hp2
    have hlen : ys.length + zs.length < 18446744073709551616 := by
      have := congrArg List.length HE.out
      simp at this
      omega
    by_cases hn : n = 0
    · have hz : zs = [] := List.eq_nil_of_length_eq_zero (by rw [hS.len]; exact hn)
      subst hn
      go_wp2
      go_end0
      refine ⟨⟨_, rfl⟩, ?_, G⟩
      rw [HE.out, hz, List.append_nil]
      exact h
    · obtain ⟨a, rfl⟩ : ∃ a, ao = some a := by
        cases ao with
        | none => exact absurd (hS.nil rfl).1 hn
        | some a => exact ⟨a, rfl⟩
      obtain ⟨B, hB, eB⟩ := h
      obtain ⟨m, hm⟩ : ∃ m, m = ys.length := ⟨_, rfl⟩
      obtain ⟨k, hk⟩ : ∃ k, k = min n (64 - m % 64) := ⟨_, rfl⟩
      have hk' : k = n ∨ k = 64 - m % 64 := by rw [hk]; omega
      have hkn : k ≤ n := by rw [hk]; omega
      have hk64 : m % 64 + k ≤ 64 := by rw [hk]; omega
      have hk0 : 0 < k := by rw [hk]; omega
      have hle := hS.le
      have hzl := hS.len
      have hY : (zs.take k).length = k := by simp; omega
      have HB0 : Hid (HB wr p (AA ys (m / 64)) B m ∧ B.take (m % 64) = ys.drop (64 * (m / 64)) ∧ k = min n (64 - m % 64)) := ⟨by rw [hm]; exact hB, by rw [hm]; exact eB, hk⟩
      have hpos : (0 : Int) < (n : Int) := by omega
      have c1 := hB.count
      have f1 := hB.free 72
      rw [← hm] at c1 hlen
      have HM : Hid (m = ys.length) := hm
      have hsl := slice49l .u64 p 8 (m % 64) (by omega) ((m : Int).tmod 64) (by rw [Int.tmod_eq_emod_of_nonneg (by omega)]; omega)
      clear hB eB hm hk
      have hs2 := slice22l a n cap k hkn
      go_wp2
      go_region_law (refine step_copy_named rfl (.tmp 18) (.tmp 19) 23 23 rfl 5 Tryd.underlying23 s5 p (8 + m % 64) a (64 - m % 64) (64 - m % 64) n cap (by simp [Act.eval, Act.put]) (by simp [Act.eval, Act.put]) (hv (AA ys (m / 64)) B m) 123 HB0.out.1.heap (bv (zs.take k)) (by rw [bv_length, hY]; exact HB0.out.2.2) ((hS.take k hkn).cells a rfl) (by rw [bv_length, hY]; simp [hv, wv, bv, HB0.out.1.lenA, HB0.out.1.lenB]; omega) (bv_one _) k (by rw [bv_length]; exact hY) ?_; intro w1 a1 g1)
      have g2 : wr.grownBy w1 (some p) := ⟨g1.os, g1.tape, g1.output, g1.size, g1.block⟩
      obtain ⟨Bn, hBn⟩ : ∃ Bn, Bn = B.take (m % 64) ++ zs.take k ++ B.drop (m % 64 + (zs.take k).length) := ⟨_, rfl⟩
      have H1 : HB w1 p (AA ys (m / 64)) Bn m := by
        have hb0 := HB0.out.1
        refine ⟨?_, hb0.lenA, ?_, ?_, hb0.size⟩
        · rw [hBn, ← splice_hv _ _ _ _ _ hb0.lenA hb0.lenB (by rw [hY]; exact hk64)]
          exact a1.out
        · have := hb0.lenB
          rw [hBn]
          simp
          omega
        · rw [hBn]
          exact ((hb0.byte.take _).append (hS.byte.take _)).append (hb0.byte.drop _)
      have S1 : Sl w1 (some a) n cap zs := hS.grown g2 hne
      have G1 : w.grownBy w1 (some p) := gro_trans G g2
      have T1 := T.grown g2 hp2
      have HN : Hid (Bn = B.take (m % 64) ++ zs.take k ++ B.drop (m % 64 + (zs.take k).length)) := hBn
      clear a1 g1 g2 G T hS c1 f1 hBn hsl
      have c2 := H1.count
      have f2 := H1.free 72
      have hmk : (m : Int) + k ≤ 18446744073709551615 := by omega
      have hm0 : (0 : Int) ≤ (m : Int) + k := by omega
      have S2 := S1.cut k hkn
      have hne2 : ∀ b, some (if cap = k then a else a.add k) = some b → 0 < n - k → b.block ≠ p := by
        intro b hb _
        obtain rfl := Option.some.inj hb
        split
        · exact hne a rfl (by omega)
        · have := hne a rfl (by omega)
          intro e
          apply this
          rw [← e]
          unfold Addr.add
          split <;> rfl
      obtain ⟨a2, ha2⟩ : ∃ a2, a2 = if cap = k then a else a.add k := ⟨_, rfl⟩
      rw [← ha2] at S2 hne2 hs2
      clear ha2
      have W1 := (H1.setN (m + k) (by omega))
      have hk64' : m % 64 + k = 64 ∨ m % 64 + k < 64 := by omega
      rcases hk64' with hf | hf
      · have ht : (((m : Int) + k).tmod 64 == 0) = true := by
          rw [Int.tmod_eq_emod_of_nonneg hm0]
          simp
          omega
        go_wp2_with (go_at_call 79; refine (mix_any _ p _ _ _ (T1.grown (grown_set (World.grownBy.refl _ _) 72 _) hp2) W1).mono ?_; rintro e w2 ⟨⟨v, rfl⟩, H2, g2⟩)
        go_roundw
        case rel =>
          have hgs : w1.grownBy w2 (some p) := gro_trans (grown_set (World.grownBy.refl w1 _) 72 _) g2
          refine ⟨ys ++ zs.take k, zs.drop k, some a2, n - k, cap - k, ?_, ?_, rfl, S2.grown hgs hne2, hne2, gro_trans G1 hgs⟩
          · have := HE.out
            show bs ++ xs = _
            rw [this, List.append_assoc, List.take_append_drop]
          · have hm := HM.out
            have hN := HN.out
            have h0 := HB0.out
            subst hm
            rw [hN] at H2
            refine HS_full (B := B) ?_ h0.2.1 (by rw [hY]; exact hf) h0.1.lenB
            rw [hY]
            rw [hY] at H2
            exact H2
        case measure => simp [lenOf]; omega
      · have ht : (((m : Int) + k).tmod 64 == 0) = false := by
          rw [Int.tmod_eq_emod_of_nonneg hm0]
          simp
          omega
        go_wp2
        go_roundw
        case rel =>
          have hgs : w1.grownBy (w1.setCell ⟨p, 72, none⟩ (.int .u64 (m + k))) (some p) := grown_set (World.grownBy.refl w1 _) 72 _
          refine ⟨ys ++ zs.take k, zs.drop k, some a2, n - k, cap - k, ?_, ?_, rfl, S2.grown hgs hne2, hne2, gro_trans G1 hgs⟩
          · have := HE.out
            show bs ++ xs = _
            rw [this, List.append_assoc, List.take_append_drop]
          · have hm := HM.out
            have hN := HN.out
            have h0 := HB0.out
            subst hm
            rw [hN] at W1
            refine HS_less (B := B) ?_ h0.2.1 (by rw [hY]; exact hf)
            rw [hY]
            rw [hY] at W1
            exact W1
        case measure => simp [lenOf]; omega
end Go.Proofs.YtnicnfjickknjaaDoor

namespace Go.Proofs.YtnicnfjickknjaaDoor
open Go.RowKit

/-- How many bytes end n bytes. -/
def pe (n : Nat) : Nat := if 64 - n % 64 ≤ 8 then 128 - n % 64 else 64 - n % 64
/-- The last array: a mark, noughts, and the lowest i bytes of L ahead of e. -/
def tl (e L i : Nat) : List Int := (List.range 72).map fun q => if e ≤ q + i ∧ q < e then ((L / 2 ^ (8 * (e - 1 - q)) % 256 : Nat) : Int) else if q = 0 then 128 else 0
theorem tl_len (e L i : Nat) : (tl e L i).length = 72 := by simp [tl]
theorem tl_zero (e L : Nat) : tl e L 0 = 128 :: List.replicate 71 0 := by
  have h : tl e L 0 = (List.range 72).map fun q => if q = 0 then 128 else 0 := by
    refine List.map_congr_left fun q _ => ?_
    rw [if_neg (by omega)]
  rw [h]
  decide
theorem tl_succ (e L i : Nat) (hi : i < 8) (he : 8 < e) : (tl e L i).set (e - 1 - i) ((L / 2 ^ (8 * i) % 256 : Nat) : Int) = tl e L (i + 1) := by
  refine List.ext_getElem? fun q => ?_
  by_cases hq : q < 72
  · by_cases hj : e - 1 - i = q
    · have h1 : e ≤ q + (i + 1) ∧ q < e := by omega
      have h2 : e - 1 - q = i := by omega
      simp only [tl, hj, List.getElem?_set_self', List.getElem?_map, List.getElem?_range hq, Option.map_some, if_pos h1, h2]
      rfl
    · have h1 : (e ≤ q + (i + 1) ∧ q < e) ↔ (e ≤ q + i ∧ q < e) := by omega
      simp only [tl, List.getElem?_set_ne hj, List.getElem?_map, List.getElem?_range hq, Option.map_some, h1]
  · simp [tl, hq]
theorem tl_byte (e L i : Nat) : Byt (tl e L i) := by
  intro x hx
  simp only [tl, List.mem_map] at hx
  obtain ⟨q, _, rfl⟩ := hx
  split
  · omega
  · split <;> omega
/-- What ends n bytes. -/
def padL (n : Nat) : List Int := (tl (pe n) (n * 8 % 18446744073709551616) 8).take (pe n)
theorem pe_le (n : Nat) : 8 < pe n ∧ pe n ≤ 72 := by unfold pe; split <;> omega
theorem padL_len (n : Nat) : (padL n).length = pe n := by
  have := pe_le n
  simp [padL, tl_len]
  omega

theorem bv_set (xs : List Int) (j : Nat) (x : Int) : (bv xs).set j (.int .u8 x) = bv (xs.set j x) := by
  simp [bv, List.map_set]
theorem z58 : (Tryd.prog.info? 133).map (fun i => (i.zero, i.size)) = some (some (.agg (List.replicate 72 (Value.int .u8 0)).toArray), 72) := by kernel_rfl
theorem u58 : Tryd.prog.underlying 133 = some (.array (Tryd.prog.arrayLen 133) (Tryd.prog.elem 133)) := by kernel_rfl
theorem al58 : Tryd.prog.arrayLen 133 = 72 := by kernel_rfl
theorem el58 : Tryd.prog.elem 133 = 5 := by kernel_rfl
theorem slice58h (p h : Nat) (hh : h ≤ 72) (w : World) : (Instr.sliceAt 133 (.pointer (some ⟨p, 0, none⟩)) none (some (.int .u64 h)) none).run Tryd.prog w = .ok (.slice (some ⟨p, 0, none⟩) h 72) w := by
  rw [run_sliceAt_array_h w 133 ⟨p, 0, none⟩ u58 .u64 h (by omega) (by rw [al58]; omega), el58, al58, size8]
  simp [slicedAt, Addr.add]

set_option maxRecDepth 100000 in
set_option maxHeartbeats 2000000 in
theorem pad_any (w : World) (p : Nat) (bs : List Int) (hT : Tabs w) (h : HS w p bs) (hp2 : 3 ≤ p) (hl : bs.length + 72 < 18446744073709551616) :
    Calls Tryd.prog 82 #[.pointer (some ⟨p, 0, none⟩)] w fun e w' => (∃ v, e = .returned v) ∧ HS w' p (bs ++ padL bs.length) ∧ w.grownBy w' (some p) := by
  have h2 := hT.two
  have hp := h.lt
  obtain ⟨B, hB, eB⟩ := h
  have HH : Hid (HS w p bs) := ⟨B, hB, eB⟩
  have c1 := hB.count
  clear hB eB
  obtain ⟨m, hm⟩ : ∃ m, m = bs.length := ⟨_, rfl⟩
  have HM : Hid (m = bs.length) := hm
  rw [← hm] at c1 hl
  clear hm
  have he := pe_le m
  have hcase : (8 < 64 - (m : Int) % 64 ∧ 64 - (m : Int) % 64 = ((pe m : Nat) : Int)) ∨ (64 - (m : Int) % 64 ≤ 8 ∧ 64 - (m : Int) % 64 + 64 = ((pe m : Nat) : Int)) := by
    unfold pe
    split <;> omega
  obtain ⟨e, hee⟩ : ∃ e, e = pe m := ⟨_, rfl⟩
  obtain ⟨L, hL⟩ : ∃ L, L = m * 8 % 18446744073709551616 := ⟨_, rfl⟩
  have HL : Hid (IntKind.u64.wrap ((m : Int) * 8) = (L : Int)) := by
    show _ = _
    rw [IntKind.wrap_u64, hL]
    omega
  have HP : Hid (padL m = (tl e L 8).take e) := by rw [hee, hL]; rfl
  rw [← hee] at he hcase
  clear hee hL
  rcases hcase with ⟨hc, ec⟩ | ⟨hc, ec⟩
  all_goals
    go_enter Tryd.func82, Tryd.ntmps82
    go_wp2_with (refine wpList_alloc_named rfl 2 rfl 133 rfl w.heap.size rfl _ 72 z58 ?_; intro w1 a1 s1 g1; have B1 : Below w.heap.size w w1 := (Below.refl _ w).grown g1 (Nat.le_refl _) (by simp); have A1 : Arr w1 w.heap.size 133 (bv (List.replicate 72 0)) := a1; clear g1 a1; have d1 := A1.cell 0; have d2 := A1.free 0; have d3 := (B1.cell (p := ⟨p, 72, none⟩) hp).trans c1; simp only [bv, List.map_replicate, List.getElem?_replicate, Nat.zero_lt_succ, if_true] at d1)
    clear ec
    have A2 := A1.set 0 (.int .u8 128)
    have e2 : (bv (List.replicate 72 0)).set 0 (.int .u8 128) = bv (tl e L 0) := by rw [tl_zero]; rfl
    rw [e2] at A2
    have B2 : Below w.heap.size w (w1.setCell ⟨w.heap.size, 0, none⟩ (.int .u8 128)) := B1.setCell (Nat.le_refl _) _
    have s2 : (w1.setCell ⟨w.heap.size, 0, none⟩ (.int .u8 128)).heap.size = w.heap.size + 1 := by simpa using s1
    clear e2 d1 d2 d3 A1 B1 s1
    generalize w1.setCell ⟨w.heap.size, 0, none⟩ (.int .u8 128) = w2 at A2 B2 s2
    go_loopw [22] (fun i wr => ∃ k : Nat, k ≤ 8 ∧ i = .int .u64 k ∧ Below w.heap.size w wr ∧ Arr wr w.heap.size 133 (bv (tl e L k)) ∧ wr.heap.size = w.heap.size + 1) (fun i _ => 8 - (intOf i).toNat)
    case atStart => exact ⟨0, by omega, rfl, B2, A2, s2⟩
    case round =>
      obtain ⟨k, hk, rfl, B3, A3, s3⟩ := hrel
      by_cases hlt : k < 8
      · have hki : (k : Int) < 8 := by omega
        have i1 : ((e : Int) - 1 - k).toNat = e - 1 - k := by omega
        have i2 : 0 ≤ ((e : Int) - 1 - k) := by omega
        have i3 : ((e : Int) - 1 - k) < 72 := by omega
        have i4 : 0 ≤ ((e : Int) - 1) := by omega
        have c3 := A3.cell (e - 1 - k)
        rw [bv_get _ _ (by rw [tl_len]; omega)] at c3
        have f3 := A3.free (e - 1 - k)
        go_wp2
        go_roundw
        case rel =>
          rw [HL.out]
          have ev : (L : Int) / 2 ^ (8 * k) % 256 = ((L / 2 ^ (8 * k) % 256 : Nat) : Int) := by simp
          rw [ev]
          refine ⟨k + 1, by omega, by go_num, B3.setCell (Nat.le_refl _) _, ?_, by simpa using s3⟩
          have := A3.set (e - 1 - k) (.int .u8 ((L / 2 ^ (8 * k) % 256 : Nat) : Int))
          rw [bv_set, tl_succ e L k hlt he.1] at this
          exact this
        case measure => simp [intOf]; omega
      · obtain rfl : k = 8 := by omega
        have T3 := hT.below B3 h2
        have h3 := HH.out.below B3 hp
        have S3 : Sl wr (some ⟨w.heap.size, 0, none⟩) e 72 ((tl e L 8).take e) := by
          refine ⟨by simp [tl_len]; omega, he.2, by unfold maxLen; omega, fun h => by simp at h, fun a ha i hi => ?_, (tl_byte e L 8).take e⟩
          obtain rfl := Option.some.inj ha
          rw [add_at, Nat.zero_add, A3.cell, bv_get _ _ (by rw [tl_len]; omega)]
          simp [List.getD, hi]
        have hsl := slice58h w.heap.size e he.2
        go_wp2_with (go_at_call 66; refine (add_any wr p bs _ e 72 _ T3 h3 hp2 S3 (fun a ha _ => by obtain rfl := Option.some.inj ha; show w.heap.size ≠ p; omega) (by have := HM.out; rw [S3.len]; omega)).mono ?_; rintro e5 w5 ⟨⟨v, rfl⟩, h5, g5⟩)
        go_end0
        refine ⟨⟨_, rfl⟩, ?_, gro_trans (bel_grown B3 _) g5⟩
        have hm := HM.out
        rw [← hm, HP.out]
        exact h5
end Go.Proofs.YtnicnfjickknjaaDoor

namespace Go.Proofs.YtnicnfjickknjaaDoor
open Go.RowKit

/-- A word's four bytes, the highest first. -/
def b4 (x : Int) : List Int := [x / 16777216 % 256, x / 65536 % 256, x / 256 % 256, x % 256]
/-- The words of all that came. -/
def wds (bs : List Int) : List Int := part H0 (AA (bs ++ padL bs.length) ((bs ++ padL bs.length).length / 64)) 8
/-- The sum of some bytes. -/
def sumL (bs : List Int) : List Int := (wds bs).flatMap b4
def outL (X : List Int) (i : Nat) : List Int := (X.take i).flatMap b4
theorem b4_len (x : Int) : (b4 x).length = 4 := rfl
theorem b4_byte (x : Int) : Byt (b4 x) := by
  intro y hy
  simp only [b4, List.mem_cons, List.not_mem_nil, or_false] at hy
  omega
theorem outL_succ (X : List Int) (i : Nat) (h : i < X.length) : outL X (i + 1) = outL X i ++ b4 (X.getD i 0) := by
  have e : X.getD i 0 = X[i] := by simp [List.getD, h]
  unfold outL
  rw [List.take_add_one, List.getElem?_eq_getElem h, List.flatMap_append, e]
  simp only [Option.toList_some, List.flatMap_cons, List.flatMap_nil, List.append_nil]
theorem outL_len (X : List Int) (i : Nat) (h : i ≤ X.length) : (outL X i).length = 4 * i := by
  induction i with
  | zero => rfl
  | succ i ih => rw [outL_succ X i (by omega), List.length_append, ih (by omega), b4_len]; omega
theorem outL_byte (X : List Int) (i : Nat) : Byt (outL X i) := by
  intro x hx
  simp only [outL, List.mem_flatMap] at hx
  obtain ⟨y, _, hy⟩ := hx
  exact b4_byte y x hy
theorem wds_len (bs : List Int) : (wds bs).length = 8 := part_len _ _ _
theorem outL_all (bs : List Int) : outL (wds bs) 8 = sumL bs := by
  unfold outL sumL
  rw [List.take_of_length_le (by rw [wds_len]; omega)]
theorem sumL_len (bs : List Int) : (sumL bs).length = 32 := by rw [← outL_all, outL_len _ _ (by rw [wds_len]; omega)]
theorem sumL_byte (bs : List Int) : Byt (sumL bs) := by rw [← outL_all]; exact outL_byte _ _

theorem z51 : (Tryd.prog.info? 123).map (fun i => (i.zero, i.size)) = some (some (.agg (hv (List.replicate 8 0) (List.replicate 64 0) 0).toArray), 73) := by kernel_rfl
theorem a51 : (Tryd.prog.info? 123).map (·.size) = some 73 := by kernel_rfl
theorem g51 (w : World) : (isAgg 123).run Tryd.prog w = .ok true w := by
  simp [isAgg, run_underlying Tryd.underlying123 w]
theorem hv_len (A B : List Int) (n : Nat) (hA : A.length = 8) (hB : B.length = 64) : (hv A B n).length = 73 := by simp [hv, wv, bv, hA, hB]
theorem hv_one (A B : List Int) (n : Nat) : ∀ u ∈ hv A B n, u.oneCell' = true := by
  intro u hu
  simp only [hv, List.mem_append, List.mem_singleton] at hu
  rcases hu with (hu | hu) | rfl
  · exact wv_one A u hu
  · exact bv_one B u hu
  · rfl

set_option maxRecDepth 100000 in
set_option maxHeartbeats 1000000 in
/-- New: a hash of nothing, in a new block. -/
theorem new_any (w : World) : Calls Tryd.prog 65 #[] w fun e w' => e = .returned (.pointer (some ⟨w.heap.size, 0, none⟩)) ∧ HS w' w.heap.size [] ∧ w.grownBy w' none := by
  go_enter Tryd.func65, Tryd.ntmps65
  go_wp2_with (refine wpList_alloc_named rfl 1 rfl 123 rfl w.heap.size rfl _ 73 z51 ?_; intro w1 a1 s1 g1)
  go_ret
  refine ⟨rfl, ⟨List.replicate 64 0, ⟨?_, by simp [AA], by simp, ?_, by simp⟩, rfl⟩, g1⟩
  · exact a1
  · intro x hx
    obtain ⟨_, rfl⟩ := List.mem_replicate.1 hx
    omega

/-- A nil hash's sum is nothing. -/
theorem hsum_nil (w : World) : Calls Tryd.prog 69 #[.pointer none] w fun e w' => e = .returned (.slice none 0 0) ∧ w' = w := by
  go_enter Tryd.func69, Tryd.ntmps69
  go_wp2
  go_ret
  exact ⟨rfl, rfl⟩

theorem words_hs (w : World) (p : Nat) (bs : List Int) (hT : Tabs w) (h : HS w p bs) :
    Calls Tryd.prog 83 #[.pointer (some ⟨p, 0, none⟩)] w fun e w' => e = .returned (.agg (wv (part H0 (AA bs (bs.length / 64)) 8)).toArray) ∧ Below w.heap.size w w' := by
  obtain ⟨B, hB, _⟩ := h
  exact words_any w p _ B _ hT hB

set_option maxRecDepth 100000 in
set_option maxHeartbeats 2000000 in
theorem hsum_any (w : World) (p : Nat) (bs : List Int) (hT : Tabs w) (h : HS w p bs) (hl : bs.length + 72 < 18446744073709551616) :
    Calls Tryd.prog 69 #[.pointer (some ⟨p, 0, none⟩)] w fun e w' => ∃ v, e = .returned v ∧ w'.ownsRow w.heap.size 5 1 v 32 (bv (sumL bs)) ∧ Below w.heap.size w w' := by
  obtain ⟨i0, hi, hz0, hz1, hz2⟩ := info_parts u8info
  have h2 := hT.two
  have hp := h.lt
  obtain ⟨B, hB, eB⟩ := h
  obtain ⟨A, hA⟩ : ∃ A, A = AA bs (bs.length / 64) := ⟨_, rfl⟩
  rw [← hA] at hB
  have HA : Hid (A = AA bs (bs.length / 64)) := hA
  clear hA
  go_enter Tryd.func69, Tryd.ntmps69
  go_wp2_with (first
    | (refine wpList_load_cells rfl 123 (Operand.tmp 10) rfl ⟨p, 0, none⟩ rfl (hv A B bs.length) (fun j v hv' => by rw [add_at, Nat.zero_add, Arr.cell hB.heap]; exact hv') g51 (a51.trans (by rw [hv_len _ _ _ hB.lenA hB.lenB])) ?_)
    | (refine wpList_alloc_named rfl 3 rfl 123 rfl w.heap.size rfl _ 73 z51 ?_; intro w1 a1 s1 g1; have B1 : Below w.heap.size w w1 := (Below.refl _ w).grown g1 (Nat.le_refl _) (by simp); clear g1)
    | (refine wpList_store_named rfl 123 (Operand.tmp 3) _ rfl w.heap.size (hv A B bs.length) rfl rfl 123 _ a1 _ s1 (a51.trans (by rw [hv_len _ _ _ hB.lenA hB.lenB])) (by rw [hv_len _ _ _ hB.lenA hB.lenB]; rfl) (hv_one _ _ _) ?_; intro w2 a2 s2 g2; have B2 : Below w.heap.size w w2 := B1.grown g2 (by omega) (by intro k hk; cases hk; omega); have T2 := hT.below B2 h2; have H2 : HS w2 w.heap.size bs := ⟨B, by rw [← HA.out]; exact ⟨a2, hB.lenA, hB.lenB, hB.byte, hB.size⟩, eB⟩; clear g2 a2 B1 a1 s1)
    | (go_at_call 82; refine (pad_any w2 w.heap.size bs T2 H2 h2 hl).mono ?_; rintro e w3 ⟨⟨v, rfl⟩, H3, g3⟩; have B3 : Below w.heap.size w w3 := B2.grown g3 (by omega) (by intro k hk; cases hk; omega); have T3 := hT.below B3 h2; have s3 := g3.size; clear g3 B2 H2 T2)
    | (at_make; refine wpList_make_own _ rfl _ _ 23 rfl w.heap.size 5 i0 (.int .u8 0) 1 Tryd.underlying23 hi hz0 hz1 _ _ _ 32 rfl rfl rfl (by rw [hz2]; decide) (by decide) (by omega) ?_; intro w4 own4 g4; have B4 : Below w.heap.size w w4 := B3.grown g4 (by omega) (by simp); have T4 := hT.below B4 h2; have H4 : HS w4 w.heap.size (bs ++ padL bs.length) := H3.grown g4 (by simp); have s4 := g4.size; clear g4 B3 H3 T3))
  refine (words_hs w4 w.heap.size _ T4 H4).mono ?_
  rintro e w5 ⟨rfl, B5⟩
  have C5 : Below w.heap.size w w5 := B4.trans (B5.mono (by omega))
  have own5 : w5.ownsRow w.heap.size 5 1 (.slice (some ⟨w3.heap.size, 0, none⟩) 0 32) 0 (bv (outL (wds bs) 0)) := own4.kept (bel_grown B5 none) (by simp [Value.ownBlock])
  have eW : part H0 (AA (bs ++ padL bs.length) ((bs ++ padL bs.length).length / 64)) 8 = wds bs := rfl
  rw [eW]
  have hWl := wds_len bs
  have hs5 : w.heap.size ≤ w5.heap.size := C5.size
  generalize Value.slice (some ⟨w3.heap.size, 0, none⟩) 0 32 = v0 at own5
  have HWE : Hid (outL (wds bs) 8 = sumL bs) := outL_all bs
  generalize wds bs = X at own5 hWl HWE
  clear eW B5 B4 T4 H4 own4 hB eB HA s2 s3 s4
  go_wp2
  go_loopw [4, 15] (fun v i wr => ∃ k : Nat, k ≤ 8 ∧ i = .int .i64 k ∧ Below w.heap.size w wr ∧ wr.ownsRow w.heap.size 5 1 v (4 * k) (bv (outL X k))) (fun _ i _ => 8 - (intOf i).toNat)
  case atStart => exact ⟨0, by omega, rfl, C5, own5⟩
  case round =>
    obtain ⟨k, hk, rfl, B6, own6⟩ := hrel
    have hs6 := B6.size
    by_cases hlt : k < 8
    · have hki : (k : Int) < 8 := by omega
      have hx := index48 X k hWl hlt
      obtain ⟨x, hx'⟩ : ∃ x, x = X.getD k 0 := ⟨_, rfl⟩
      have HX : Hid (x = X.getD k 0) := hx'
      rw [← hx'] at hx
      clear hx'
      go_wp2_with (at_builtin; refine wpList_app rfl _ _ rfl w.heap.size _ (4 * k) (outL X k) rfl (own6.alloc _) _ 4 4 (b4 x) rfl (Sl.new wr (b4 x) (b4_byte x) (by simp [b4, maxLen])) (by omega) (by simp; omega) ?_; intro v7 w7 own7 C7)
      go_roundw
      case rel =>
        refine ⟨k + 1, by omega, by go_num, (B6.alloc hs6 _).trans C7, ?_⟩
        rw [outL_succ X k (by omega), ← HX.out, Nat.mul_add]
        exact own7
      case measure => simp [intOf]; omega
    · obtain rfl : k = 8 := by omega
      go_wp2
      go_ret
      refine ⟨_, rfl, ?_, B6⟩
      rw [← HWE.out]
      exact own6
end Go.Proofs.YtnicnfjickknjaaDoor

namespace Go.Proofs.YtnicnfjickknjaaDoor
open Go.RowKit

/-- A part: where it lies, its length and capacity, its bytes. -/
structure Part where
  ao : Option Addr
  n : Nat
  cap : Nat
  xs : List Int
def Part.val (q : Part) : Value := .slice q.ao q.n q.cap
/-- The cells from a on hold these parts. -/
def Pts (w : World) (a : Addr) (ps : List Part) : Prop := ∀ i (h : i < ps.length), w.cell? (a.add i) = some ps[i].val ∧ Sl w ps[i].ao ps[i].n ps[i].cap ps[i].xs
def allB (ps : List Part) : List Int := ps.flatMap Part.xs
theorem allB_take (ps : List Part) (k : Nat) (h : k < ps.length) : allB (ps.take (k + 1)) = allB (ps.take k) ++ ps[k].xs := by
  unfold allB
  rw [List.take_add_one, List.getElem?_eq_getElem h, List.flatMap_append]
  simp only [Option.toList_some, List.flatMap_cons, List.flatMap_nil, List.append_nil]
theorem allB_le (ps : List Part) (k : Nat) : (allB (ps.take k)).length ≤ (allB ps).length := by
  have : ps = ps.take k ++ ps.drop k := (List.take_append_drop k ps).symm
  have e : allB ps = allB (ps.take k) ++ allB (ps.drop k) := by
    unfold allB
    rw [← List.flatMap_append, List.take_append_drop]
  rw [e, List.length_append]
  omega
theorem Pts.below {w w' : World} {a : Addr} {ps : List Part} (h : Pts w a ps) (hb : Below w.heap.size w w') : Pts w' a ps := by
  intro i hi
  obtain ⟨h1, h2⟩ := h i hi
  exact ⟨(hb.cell (World.block_lt_of_cell? w _ h1)).trans h1, h2.below hb⟩

theorem own_base {w : World} {base base' : Nat} {e : TypeId} {size : Nat} {v : Value} {n : Nat} {xs : List Value} (h : w.ownsRow base e size v n xs) (hb : base' ≤ base) : w.ownsRow base' e size v n xs := by
  refine ⟨h.1, ?_⟩
  rcases h.2 with h | ⟨g, cap, cur, h1, h2, h3⟩
  · exact .inl h
  · exact .inr ⟨g, cap, cur, h1, Nat.le_trans hb h2, h3⟩

end Go.Proofs.YtnicnfjickknjaaDoor

namespace Go.Proofs.YtnicnfjickknjaaDoor
open Go.RowKit


/-- The slice at ao, of n slices of bytes, reads as the parts ps. -/
structure PL (w : World) (ao : Option Addr) (n cap : Nat) (ps : List Part) : Prop where
  len : ps.length = n
  le : n ≤ cap
  mx : cap ≤ maxLen
  nil : ao = none → n = 0
  cell : ∀ a, ao = some a → ∀ i (h : i < ps.length), w.cell? (a.add i) = some ps[i].val
  sl : ∀ q ∈ ps, Sl w q.ao q.n q.cap q.xs

theorem PL.nothing (w : World) : PL w none 0 0 [] := ⟨rfl, Nat.le_refl _, Nat.zero_le _, fun _ => rfl, fun _ h => by simp at h, fun _ h => by simp at h⟩

theorem PL.make {w : World} {a : Addr} {n cap : Nat} (hl : n ≤ cap) (hm : cap ≤ maxLen) (h : ∀ i, i < n → ∃ q : Part, w.cell? (a.add i) = some q.val ∧ Sl w q.ao q.n q.cap q.xs) : ∃ ps, PL w (some a) n cap ps := by
  have : Inhabited Part := ⟨⟨none, 0, 0, []⟩⟩
  obtain ⟨z, hz⟩ := Deep.choose_lt h
  refine ⟨(List.range n).map z, by simp, hl, hm, fun h => by simp at h, fun b hb i hi => ?_, fun q hq => ?_⟩
  · obtain rfl := Option.some.inj hb
    have hi' : i < n := by simpa using hi
    simpa using (hz i hi').1
  · obtain ⟨i, hi, rfl⟩ := List.mem_map.1 hq
    exact (hz i (List.mem_range.1 hi)).2

theorem PL.below {w w' : World} {ao : Option Addr} {n cap : Nat} {ps : List Part} (h : PL w ao n cap ps) (hb : Below w.heap.size w w') : PL w' ao n cap ps :=
  ⟨h.len, h.le, h.mx, h.nil, fun a ha i hi => by have hc := h.cell a ha i hi; rw [← hc]; exact hb.cell (World.block_lt_of_cell? w _ hc), fun q hq => (h.sl q hq).below hb⟩

/-- Where an element is read the slice has an address without a spot. -/
theorem PL.at {w : World} {ao : Option Addr} {n cap : Nat} {ps : List Part} (h : PL w ao n cap ps) (hn : 0 < n) :
    ∃ b off, ao = some ⟨b, off, none⟩ ∧ ∀ i (hi : i < ps.length), w.cell? ⟨b, off + i, none⟩ = some ps[i].val := by
  have hl := h.len
  cases ao with
  | none => have := h.nil rfl; omega
  | some a =>
    obtain ⟨b, off, spot⟩ := a
    have hc := h.cell _ rfl 0 (by omega)
    have hs : spot = none := by simpa [Addr.add] using World.cell?_spot hc
    subst hs
    exact ⟨b, off, rfl, fun i hi => by have := h.cell _ rfl i hi; rw [Addr.add_lit] at this; exact this⟩

theorem allB_short (ps : List Part) (k : Nat) (hk : ps.length ≤ k) (h : ∀ q ∈ ps, q.xs.length ≤ 200) : (allB ps).length ≤ 200 * k := by
  induction ps generalizing k with
  | nil => simp [allB]
  | cons q ps ih =>
    cases k with
    | zero => simp at hk
    | succ k =>
      have h1 := ih k (by simpa using hk) (fun q hq => h q (List.mem_cons_of_mem _ hq))
      have h2 := h q (List.mem_cons_self ..)
      have e : allB (q :: ps) = q.xs ++ allB ps := by simp [allB]
      rw [e, List.length_append]
      omega

end Go.Proofs.YtnicnfjickknjaaDoor

namespace Go.Proofs.YtnicnfjickknjaaDoor
open Go.RowKit

/-- The slice at ao, of n values of one cell each, up to cap, holds vs. -/
structure VL (w : World) (ao : Option Addr) (n cap : Nat) (vs : List Value) : Prop where
  len : vs.length = n
  le : n ≤ cap
  mx : cap ≤ maxLen
  nil : ao = none → n = 0 ∧ cap = 0
  cell : ∀ a, ao = some a → ∀ i (h : i < vs.length), w.cell? (a.add i) = some vs[i]

section
variable {w w' : World} {ao : Option Addr} {n cap : Nat} {vs : List Value}
theorem VL.below (h : VL w ao n cap vs) (hb : Below w.heap.size w w') : VL w' ao n cap vs :=
  ⟨h.len, h.le, h.mx, h.nil, fun a ha i hi => by have hc := h.cell a ha i hi; rw [← hc]; exact hb.cell (World.block_lt_of_cell? w _ hc)⟩
theorem VL.at (h : VL w ao n cap vs) (hn : 0 < n) : ∃ b off, ao = some ⟨b, off, none⟩ ∧ ∀ i (hi : i < vs.length), w.cell? ⟨b, off + i, none⟩ = some vs[i] := by
  have hl := h.len
  cases ao with
  | none => have := (h.nil rfl).1; omega
  | some a =>
    obtain ⟨b, off, spot⟩ := a
    have hc := h.cell _ rfl 0 (by omega)
    have hs : spot = none := by simpa [Addr.add] using World.cell?_spot hc
    subst hs
    exact ⟨b, off, rfl, fun i hi => by have := h.cell _ rfl i hi; rw [Addr.add_lit] at this; exact this⟩
theorem VL.cells (h : VL w ao n cap vs) : ∀ a, ao = some a → ∀ j u, vs[j]? = some u → w.cell? (a.add j) = some u := fun a ha j u hu => by
  obtain ⟨hj, rfl⟩ := List.getElem?_eq_some_iff.1 hu
  exact h.cell a ha j hj
theorem VL.nothing (w : World) : VL w none 0 0 [] := ⟨rfl, Nat.le_refl _, Nat.zero_le _, fun _ => ⟨rfl, rfl⟩, fun _ h => by simp at h⟩
/-- The first i, and no room behind them. -/
theorem VL.front (h : VL w ao n cap vs) (i c : Nat) (hi : i ≤ n) (hc : i ≤ c) (hcc : c ≤ cap) : VL w ao i c (vs.take i) := by
  have h1 := h.len
  have h2 := h.mx
  refine ⟨by simp; omega, hc, by omega, fun hn => ?_, fun a ha j hj => ?_⟩
  · have := h.nil hn
    omega
  · simp only [List.length_take] at hj
    rw [h.cell a ha j (by omega), List.getElem_take]
/-- Those from j on. -/
theorem VL.back {a : Addr} (h : VL w (some a) n cap vs) (j : Nat) (hj : j ≤ n) : VL w (some (if cap = j then a else a.add j)) (n - j) (cap - j) (vs.drop j) := by
  have h1 := h.len
  have h2 := h.mx
  have h3 := h.le
  refine ⟨by simp; omega, by omega, by omega, fun hn => by simp at hn, fun b hb i hi => ?_⟩
  have hb' := Option.some.inj hb
  simp only [List.length_drop] at hi
  by_cases hcj : cap = j
  · omega
  · rw [if_neg hcj] at hb'
    have hc := h.cell a rfl (j + i) (by omega)
    rw [← hb', Addr.add_add, hc, List.getElem_drop]
theorem VL.own {base : Nat} {e : TypeId} {v : Value} (h : w.ownsRow base e 1 v n vs) : ∃ ao cap, v = .slice ao n cap ∧ VL w ao n cap vs ∧ ∀ a, ao = some a → base ≤ a.block ∧ a.block < w.heap.size ∧ a.off = 0 ∧ a.spot = none := by
  have hl : vs.length = n := by have := h.1; omega
  rcases h.2 with ⟨rfl, rfl⟩ | ⟨g, cap, cur, rfl, hg, hh, hle, hmx, hcs, htk⟩
  · obtain rfl : vs = [] := List.eq_nil_of_length_eq_zero hl
    exact ⟨none, 0, rfl, VL.nothing w, fun a ha => by simp at ha⟩
  · refine ⟨some ⟨g, 0, none⟩, cap, rfl, ⟨hl, hle, hmx, fun h => by simp at h, fun a ha i hi => ?_⟩, fun a ha => ?_⟩
    · obtain rfl := Option.some.inj ha
      exact h.cells (g := g) rfl i _ (List.getElem?_eq_getElem hi)
    · obtain rfl := Option.some.inj ha
      exact ⟨hg, (Array.getElem?_eq_some_iff.1 hh).1, rfl, rfl⟩
/-- Values laid in a new block. -/
theorem VL.new (w : World) (vs : List Value) (t : TypeId) (hn : vs.length ≤ maxLen) : VL (w.alloc (.cells vs.toArray t)) (some ⟨w.heap.size, 0, none⟩) vs.length vs.length vs := by
  refine ⟨rfl, Nat.le_refl _, hn, fun h => by simp at h, fun a ha i hi => ?_⟩
  obtain rfl := Option.some.inj ha
  rw [Addr.add_lit, Nat.zero_add, cell_of_row _ w.heap.size i vs.toArray t (0, 0) (heap_alloc_new w _)]
  simp
end

/-- What may be appended to without a look at others: a slice without room, or the call's own row. -/
def Apd (w : World) (base : Nat) (e : TypeId) (v : Value) (n : Nat) (vs : List Value) : Prop :=
  (∃ ao, v = .slice ao n n ∧ VL w ao n n vs) ∨ w.ownsRow base e 1 v n vs
theorem Apd.vl {w : World} {base : Nat} {e : TypeId} {v : Value} {n : Nat} {vs : List Value} (h : Apd w base e v n vs) : ∃ ao cap, v = .slice ao n cap ∧ VL w ao n cap vs := by
  rcases h with ⟨ao, rfl, h⟩ | h
  · exact ⟨ao, n, rfl, h⟩
  · obtain ⟨ao, cap, rfl, h, -⟩ := VL.own h
    exact ⟨ao, cap, rfl, h⟩
theorem src_none {P : Program} {w : World} {t e : TypeId} {i : TypeInfo} {bo : Option Addr} {c : Nat} (ht : P.underlying t = some (.slice e)) : Src P i.size t (.slice bo 0 c) 0 [] w := by
  refine ⟨.inl ⟨e, ht⟩, fun w' => rfl, ?_, ?_, by simp, by simp⟩ <;> cases bo <;> simp [Builtin.firstCells] <;> rfl
/-- append. -/
theorem run_apd {P : Program} {w : World} {base : Nat} {t ty e : TypeId} {i : TypeInfo} {z : Value} {bytes : Nat} {v : Value} {n : Nat} {vs : List Value} (ht : P.underlying t = some (.slice e)) (hi : P.info? e = some i) (hz : i.zero = some z)
    (hsize : i.size = 1) (hby : i.bytes = bytes) (hzs : z.cells.size = 1) (h : Apd w base e v n vs) (hbase : base ≤ w.heap.size) {bo : Option Addr} {m c : Nat} {ys : List Value} (hx : VL w bo m c ys) (h1 : ∀ u ∈ ys, u.oneCell' = true)
    (hb : (n + m) * bytes ≤ 140737488355328) (hb1 : 0 < bytes) :
    ∃ v' w', (Builtin.append_ #[t, t] ty #[v, .slice bo m c]).run P w = .ok v' w' ∧ Apd w' base e v' (n + m) (vs ++ ys) ∧ Below base w w' := by
  have hlen := hx.len
  have h63 : n + m ≤ maxLen := by
    have : n + m ≤ (n + m) * bytes := Nat.le_mul_of_pos_right _ hb1
    unfold maxLen
    omega
  by_cases hm : m = 0
  · subst hm
    obtain rfl : ys = [] := List.eq_nil_of_length_eq_zero hlen
    obtain ⟨ao, cap, rfl, hv⟩ := h.vl
    refine ⟨_, w, run_append_nothing w t t ty e i ht hi ao n cap hv.le _ (src_none ht), ?_, Below.refl _ _⟩
    simpa using h
  · obtain ⟨ad, rfl⟩ : ∃ ad, bo = some ad := by
      cases bo with
      | none => have := (hx.nil rfl).1; omega
      | some ad => exact ⟨ad, rfl⟩
    rcases h with ⟨ao, rfl, hv⟩ | hown
    · cases ao with
      | some b =>
        obtain ⟨v', w', hr, h2, h3⟩ := run_append_arg_grows (P := P) w t ty e i z 1 bytes ht hi hz hsize hby hzs (by decide) b n n vs (by have := hv.len; omega) (hv.cells b rfl) ad m c ys (by omega) (hx.cells ad rfl) (by omega) h63 hb
        exact ⟨v', w', hr, .inr (own_base h2 hbase), (Below.refl _ w).grown h3 hbase (by simp)⟩
      | none =>
        obtain ⟨rfl, -⟩ := hv.nil rfl
        obtain rfl : vs = [] := List.eq_nil_of_length_eq_zero hv.len
        obtain ⟨v', w', hr, h2, h3, -⟩ := run_append_own (P := P) w base t ty e i z 1 bytes ht hi hz hsize hby hzs (by decide) (.slice none 0 0) 0 [] (World.ownsRow_nil w _ e 1) ad m c ys (by omega) (hx.cells ad rfl) h1 h63 hb hbase
        exact ⟨v', w', hr, .inr h2, (Below.refl _ w).grown h3 hbase (by simp [Value.ownBlock])⟩
    · obtain ⟨v', w', hr, h2, h3, -⟩ := run_append_own (P := P) w base t ty e i z 1 bytes ht hi hz hsize hby hzs (by decide) v n vs hown ad m c ys (by omega) (hx.cells ad rfl) h1 h63 hb hbase
      exact ⟨v', w', hr, .inr h2, (Below.refl _ w).grown h3 hbase (fun k hk => (hown.lt k hk).1)⟩

/-- Slices of slices of bytes: cells that hold the parts' values, and each part reads as its bytes. -/
structure KL (w : World) (ao : Option Addr) (n cap : Nat) (ps : List Part) : Prop where
  vl : VL w ao n cap (ps.map Part.val)
  sl : ∀ q ∈ ps, Sl w q.ao q.n q.cap q.xs
theorem KL.below {w w' : World} {ao : Option Addr} {n cap : Nat} {ps : List Part} (h : KL w ao n cap ps) (hb : Below w.heap.size w w') : KL w' ao n cap ps :=
  ⟨h.vl.below hb, fun q hq => (h.sl q hq).below hb⟩
theorem KL.len {w : World} {ao : Option Addr} {n cap : Nat} {ps : List Part} (h : KL w ao n cap ps) : ps.length = n := by simpa using h.vl.len
theorem KL.pl {w : World} {ao : Option Addr} {n cap : Nat} {ps : List Part} (h : KL w ao n cap ps) : PL w ao n cap ps :=
  ⟨h.len, h.vl.le, h.vl.mx, fun e => (h.vl.nil e).1, fun a ha i hi => by have := h.vl.cell a ha i (by simpa using hi); simpa using this, h.sl⟩
theorem part_one (ps : List Part) : ∀ u ∈ ps.map Part.val, u.oneCell' = true := fun u hu => by
  obtain ⟨q, -, rfl⟩ := List.mem_map.1 hu
  rfl
end Go.Proofs.YtnicnfjickknjaaDoor

namespace Go.Proofs.YtnicnfjickknjaaDoor
open Go.RowKit

set_option maxHeartbeats 400000 in
theorem withRoom_any (w : World) (ao : Option Addr) (n cap r : Nat) (xs : List Int) (h : Sl w ao n cap xs) (hr : n + r ≤ 140737488355328) :
    Calls Tryd.prog 81 #[.slice ao n cap, .int .i64 r] w fun e w' =>
      e = .returned (.slice (some ⟨w.heap.size, 0, none⟩) n (n + r)) ∧ w'.ownsRow w.heap.size 5 1 (.slice (some ⟨w.heap.size, 0, none⟩) n (n + r)) n (bv xs) ∧ Below w.heap.size w w' := by
  obtain ⟨i0, hi, hz0, hz1, hz2⟩ := info_parts u8info
  have hl := h.len
  have hnil := h.nil
  have hcells := h.cells
  go_enter Tryd.func81, Tryd.ntmps81
  go_wp2_with (first | (at_make; refine wpList_make_own _ rfl _ _ 23 rfl w.heap.size 5 i0 (.int .u8 0) 1 Tryd.underlying23 hi hz0 hz1 _ _ _ (n + r) rfl rfl (by omega) (by rw [hz2]; omega) (by unfold maxLen; omega) (Nat.le_refl _) ?_; intro w1 hown1 hgrow1) | (at_builtin; refine wpList_append_fits_any _ rfl _ _ 23 rfl w.heap.size 5 i0 1 Tryd.underlying23 hi hz1 w.heap.size 0 (n + r) [] rfl hown1 ao n cap (bv xs) rfl (by rw [bv_length]; omega) hnil (fun ad had j u hu => hgrow1.cell (hcells ad had j u hu) (by simp)) (bv_one xs) (by omega) ?_; intro w2 hown2 hgrow2; simp only [Nat.zero_add, List.nil_append] at hown2) | fail)
  have hb : Below w.heap.size w w2 := ((Below.refl _ w).grown hgrow1 (Nat.le_refl _) (fun k hk => by simp at hk)).grown hgrow2 hgrow1.size (fun k hk => by simp at hk; omega)
  go_ret
  exact ⟨rfl, hown2, hb⟩
end Go.Proofs.YtnicnfjickknjaaDoor

namespace Go.Proofs.YtnicnfjickknjaaDoor

def encF : Nat → Nat → List Int
  | 0, n => [(n : Int)]
  | f + 1, n => if n < 128 then [(n : Int)] else ((n % 128 + 128 : Nat) : Int) :: encF f (n / 128)
/-- A number's form. -/
def enc (n : Nat) : List Int := encF 10 n

theorem encF_succ (f n : Nat) : encF (f + 1) n = if n < 128 then [(n : Int)] else ((n % 128 + 128 : Nat) : Int) :: encF f (n / 128) := rfl
theorem encF_stable (f : Nat) : ∀ n, n < 128 ^ (f + 1) → encF (f + 1) n = encF f n := by
  induction f with
  | zero => intro n h; simp [encF]; omega
  | succ f ih =>
    intro n h
    rw [encF_succ (f + 1) n, encF_succ f n]
    split
    · rfl
    · rw [ih (n / 128) (by rw [Nat.div_lt_iff_lt_mul (by decide)]; rw [Nat.pow_succ] at h; exact h)]
theorem enc_small {n : Nat} (h : n < 128) : enc n = [(n : Int)] := by simp [enc, encF, h]
theorem enc_big {n : Nat} (h : 128 ≤ n) (h2 : n < 18446744073709551616) : enc n = ((n % 128 + 128 : Nat) : Int) :: enc (n / 128) := by
  have : enc n = ((n % 128 + 128 : Nat) : Int) :: encF 9 (n / 128) := by
    unfold enc
    rw [encF_succ, if_neg (by omega)]
  rw [this]
  unfold enc
  rw [encF_stable 9 (n / 128) (by omega)]
theorem encF_length (f : Nat) : ∀ n, (encF f n).length ≤ f + 1 := by
  induction f with
  | zero => intro n; simp [encF]
  | succ f ih =>
    intro n
    rw [encF_succ]
    split
    · simp
    · have := ih (n / 128)
      simp; omega
theorem enc_length {n : Nat} (h : n < 18446744073709551616) : (enc n).length ≤ 10 := by
  unfold enc
  rw [encF_stable 9 n (by omega)]
  exact encF_length 9 n
theorem enc_pos (n : Nat) : 1 ≤ (enc n).length := by
  unfold enc
  rw [encF_succ]
  split <;> simp
theorem encF_byte (f : Nat) : ∀ n, n < 128 ^ (f + 1) → ∀ x ∈ encF f n, 0 ≤ x ∧ x ≤ 255 := by
  induction f with
  | zero => intro n h x hx; simp [encF] at hx; omega
  | succ f ih =>
    intro n h x hx
    rw [encF_succ] at hx
    split at hx
    · simp at hx; omega
    · simp only [List.mem_cons] at hx
      rcases hx with hx | hx
      · omega
      · exact ih (n / 128) (by rw [Nat.div_lt_iff_lt_mul (by decide)]; rw [Nat.pow_succ] at h; exact h) x hx
theorem enc_byte {n : Nat} (h : n < 18446744073709551616) : ∀ x ∈ enc n, 0 ≤ x ∧ x ≤ 255 := by
  intro x hx
  exact encF_byte 10 n (by omega) x hx

/-- What is read of a number: the number, how many bytes it took, and what was wrong (0: nothing, 2: too short, 3: no form). i bytes are read, acc is what they tell. -/
def tk : Nat → Nat → List Int → Nat × Nat × Nat
  | _, _, [] => (0, 0, 2)
  | i, acc, c :: r =>
    if i = 9 ∧ 1 < c then (0, 0, 3) else
    if c = 0 ∧ 0 < i then (0, 0, 3) else
    if 128 ≤ c then tk (i + 1) (acc + (c % 128).toNat * 128 ^ i) r else (acc + (c % 128).toNat * 128 ^ i, i + 1, 0)

theorem tk_used : ∀ (xs : List Int) (i acc : Nat), (tk i acc xs).2.2 = 0 → i < (tk i acc xs).2.1 ∧ (tk i acc xs).2.1 ≤ i + xs.length := by
  intro xs
  induction xs with
  | nil => intro i acc h; simp [tk] at h
  | cons c r ih =>
    intro i acc h
    unfold tk at h ⊢
    split at h
    · simp at h
    · rename_i h1
      rw [if_neg h1]
      split at h
      · simp at h
      · rename_i h2
        rw [if_neg h2]
        split at h
        · rename_i h3
          rw [if_pos h3]
          have := ih _ _ h
          simp only [List.length_cons]
          omega
        · rename_i h3
          rw [if_neg h3]
          simp

theorem pow_le_63 (i : Nat) (h : i ≤ 9) : (128 : Nat) ^ i ≤ 9223372036854775808 :=
  Nat.le_trans (Nat.pow_le_pow_right (by decide) h) (by decide)
theorem sum_lt (acc i : Nat) (c : Int) (hacc : acc < 128 ^ i) (hi : i ≤ 9) (h9 : i = 9 → c ≤ 1) (hc : 0 ≤ c) :
    acc + (c % 128).toNat * 128 ^ i < 18446744073709551616 ∧ acc + (c % 128).toNat * 128 ^ i < 128 ^ (i + 1) := by
  have hx : (c % 128).toNat ≤ 127 := by omega
  constructor
  · by_cases h : i = 9
    · subst h
      have := h9 rfl
      have h1 : (c % 128).toNat ≤ 1 := by omega
      have := Nat.mul_le_mul_right (128 ^ 9) h1
      have e : (128 : Nat) ^ 9 = 9223372036854775808 := by decide
      rw [e] at *
      omega
    · have h8 : (128 : Nat) ^ i ≤ 128 ^ 8 := Nat.pow_le_pow_right (by decide) (by omega)
      have e : (128 : Nat) ^ 8 = 72057594037927936 := by decide
      have := Nat.mul_le_mul hx h8
      rw [e] at *
      omega
  · rw [Nat.pow_succ]
    have := Nat.mul_le_mul_right (128 ^ i) hx
    omega

theorem tk_lt : ∀ (xs : List Int) (i acc : Nat), (∀ x ∈ xs, 0 ≤ x ∧ x ≤ 255) → i ≤ 9 → acc < 128 ^ i → (tk i acc xs).1 < 18446744073709551616 := by
  intro xs
  induction xs with
  | nil => intro i acc _ _ _; simp [tk]
  | cons c r ih =>
    intro i acc hb hi hacc
    have hc := hb c (by simp)
    unfold tk
    split
    · simp
    · rename_i h1
      split
      · simp
      · have hs := sum_lt acc i c hacc hi (by omega) hc.1
        split
        · exact ih _ _ (fun x hx => hb x (by simp [hx])) (by omega) hs.2
        · exact hs.1

end Go.Proofs.YtnicnfjickknjaaDoor

namespace Go.Proofs.YtnicnfjickknjaaDoor
open Go.RowKit

theorem own_snoc {w : World} {base : Nat} {v : Value} {k : Nat} {xs ys : List Int} {c : Int} (h : w.ownsRow base 5 1 v (k + ys.length + 1) (bv (xs ++ ys) ++ [.int .u8 c])) :
    w.ownsRow base 5 1 v (k + (ys ++ [c]).length) (bv (xs ++ (ys ++ [c]))) := by
  have e : bv (xs ++ (ys ++ [c])) = bv (xs ++ ys) ++ [.int .u8 c] := by simp [bv]
  have l : k + (ys ++ [c]).length = k + ys.length + 1 := by simp; omega
  rw [e, l]
  exact h

set_option maxHeartbeats 800000 in
set_option maxRecDepth 100000 in
theorem putNumber_any (w : World) (base : Nat) (v : Value) (k n : Nat) (xs : List Int) (hn : n < 18446744073709551616) (hk : k + 20 ≤ 140737488355328) (hbase : base ≤ w.heap.size) (hown : w.ownsRow base 5 1 v k (bv xs)) :
    Calls Tryd.prog 80 #[v, .int .u64 n] w fun e w' =>
      ∃ v', e = .returned v' ∧ w'.ownsRow base 5 1 v' (k + (enc n).length) (bv (xs ++ enc n)) ∧ Below base w w' := by
  obtain ⟨i0, hi, hz0, hz1, hz2⟩ := info_parts u8info
  go_enter Tryd.func80, Tryd.ntmps80
  go_wp2
  refine wp_scope_label 0 (fun a' w' => Below base w w' ∧ ∃ (m : Nat) (v' u5 u6 u7 u8 u9 u10 u11 u12 u13 u14 u15 u16 u17 u18 u19 u20 : Value) (ys : List Int), a' = { tmps := #[v', .int .u64 m, undef, undef, .slice none 0 0, u5, u6, u7, u8, u9, u10, u11, u12, u13, u14, u15, u16, u17, u18, u19, u20], defers := [] } ∧ m < 18446744073709551616 ∧ ys ++ enc m = enc n ∧ ys.length + (enc m).length ≤ 10 ∧ w'.ownsRow base 5 1 v' (k + ys.length) (bv (xs ++ ys))) (fun a' _ => (intOf (a'.tmps.getD 1 undef)).toNat) ?_ ?_
  · exact ⟨Below.refl _ _, n, v, _, _, _, _, _, _, _, _, _, _, _, _, _, _, _, _, [], rfl, hn, rfl, by simpa using enc_length hn, by simpa using hown⟩
  · rintro a' w' ⟨hbel, m, v', u5, u6, u7, u8, u9, u10, u11, u12, u13, u14, u15, u16, u17, u18, u19, u20, ys, rfl, hm, hys, hy9, hown'⟩
    have hp := enc_pos m
    have hsz := hbel.size
    by_cases hlt : m < 128
    · have HY : Hid (ys ++ enc m = enc n) := hys
      clear hys
      go_wp2_with (at_builtin; refine wpList_append_own _ rfl _ _ 23 rfl base 5 i0 (.int .u8 0) 1 1 Tryd.underlying23 hi hz0 hz1 hz2 rfl (by decide) _ _ _ rfl (hown'.alloc _) ⟨w'.heap.size, 0, none⟩ 1 1 [.int .u8 m] rfl rfl (cell_one_new _ _ _) (by simp [Value.oneCell']) (by unfold maxLen; omega) (by omega) (by simp; omega) ?_; intro v2 w2 hown2 hgrow2 hn2)
      have e1 : enc m = [(m : Int)] := enc_small hlt
      have e2 := HY.out
      rw [e1] at e2
      have ho := own_snoc hown2
      rw [e2] at ho
      have hb2 : Below base w w2 := (hbel.alloc (by omega) _).grown hgrow2 (by simp; omega) (fun j hj => (hown'.lt j hj).1)
      clear hown2 hgrow2 hn2
      simp only [Exit.jump]
      go_ret
      exact ⟨v2, rfl, ho, hb2⟩
    · have HY : Hid (ys ++ enc m = enc n) := hys
      clear hys
      have ho := or128 m
      go_wp2_with (at_builtin; refine wpList_append_own _ rfl _ _ 23 rfl base 5 i0 (.int .u8 0) 1 1 Tryd.underlying23 hi hz0 hz1 hz2 rfl (by decide) _ _ _ rfl (hown'.alloc _) ⟨w'.heap.size, 0, none⟩ 1 1 [.int .u8 ((m % 128 + 128 : Nat) : Int)] rfl rfl (cell_one_new _ _ _) (by simp [Value.oneCell']) (by unfold maxLen; omega) (by omega) (by simp; omega) ?_; intro v2 w2 hown2 hgrow2 hn2)
      have e1 := enc_big (n := m) (by omega) hm
      have e2 := HY.out
      rw [e1] at e2
      have hl : (enc m).length = (enc (m / 128)).length + 1 := by rw [e1]; rfl
      have ho2 := own_snoc hown2
      have hb2 : Below base w w2 := (hbel.alloc (by omega) _).grown hgrow2 (by simp; omega) (fun j hj => (hown'.lt j hj).1)
      clear hown2 hgrow2 hn2
      go_step3
      rw [show ((m : Int) / 128) = ((m / 128 : Nat) : Int) from by omega]
      refine ⟨rfl, ⟨hb2, m / 128, v2, _, _, _, _, _, _, _, _, _, _, _, _, _, _, _, _, ys ++ [((m % 128 + 128 : Nat) : Int)], rfl, by omega, by rw [← e2]; simp, by simp; omega, ho2⟩, ?_⟩
      simp [intOf]
      omega
end Go.Proofs.YtnicnfjickknjaaDoor

namespace Go.Proofs.YtnicnfjickknjaaDoor
open Go.RowKit

theorem own_empty (w : World) : (w.alloc (.cells #[] 5)).ownsRow w.heap.size 5 1 (.slice (some ⟨w.heap.size, 0, none⟩) 0 0) 0 (bv []) :=
  World.ownsRow_made w #[] 0 (Nat.le_refl _) (Nat.zero_le _) rfl

set_option maxHeartbeats 400000 in
theorem wUint_any (w : World) (ao : Option Addr) (n cap m : Nat) (xs : List Int) (h : Sl w ao n cap xs) (hr : n + 30 ≤ 140737488355328) (hm : m < 18446744073709551616) :
    Calls Tryd.prog 68 #[.slice ao n cap, .int .u64 m] w fun e w' =>
      ∃ v, e = .returned v ∧ w'.ownsRow w.heap.size 5 1 v (n + (enc m).length) (bv (xs ++ enc m)) ∧ Below w.heap.size w w' := by
  go_enter Tryd.func68, Tryd.ntmps68
  go_wp2_with fail
  refine (withRoom_any w ao n cap 10 xs h (by omega)).mono ?_
  rintro e w1 ⟨rfl, hown1, hb1⟩
  have hs := hb1.size
  go_wp2_with fail
  refine (putNumber_any w1 w.heap.size _ n m xs hm (by omega) hs hown1).mono ?_
  rintro e w2 ⟨v2, rfl, hown2, hb2⟩
  have hb := hb1.trans hb2
  clear hown1 hb1 hb2
  go_wp2_with fail
  go_ret
  exact ⟨v2, rfl, hown2, hb⟩

set_option maxHeartbeats 400000 in
theorem wBytes_any (w : World) (ao bo : Option Addr) (n cap m cap2 : Nat) (xs ys : List Int) (h : Sl w ao n cap xs) (h2 : Sl w bo m cap2 ys) (hr : n + m + 60 ≤ 140737488355328) :
    Calls Tryd.prog 67 #[.slice ao n cap, .slice bo m cap2] w fun e w' =>
      ∃ v, e = .returned v ∧ w'.ownsRow w.heap.size 5 1 v (n + (enc m).length + m) (bv (xs ++ enc m ++ ys)) ∧ Below w.heap.size w w' := by
  obtain ⟨i0, hi, hz0, hz1, hz2⟩ := info_parts u8info
  go_enter Tryd.func67, Tryd.ntmps67
  go_wp2_with fail
  rw [show (10 + (m : Int)) = ((10 + m : Nat) : Int) from by omega]
  refine (withRoom_any w ao n cap (10 + m) xs h (by omega)).mono ?_
  rintro e w1 ⟨rfl, hown1, hb1⟩
  have hs := hb1.size
  go_wp2_with fail
  refine (putNumber_any w1 w.heap.size _ n m xs (by omega) (by omega) hs hown1).mono ?_
  rintro e w2 ⟨v2, rfl, hown2, hb2⟩
  have hs2 := hb2.size
  have hb := hb1.trans hb2
  have hl := enc_length (n := m) (by omega)
  have h3 := h2.below hb
  clear hown1 hb1 hb2
  go_wp2_with (at_builtin; refine wpList_app rfl _ _ rfl w.heap.size _ _ _ rfl hown2 _ _ _ _ rfl h3 (by omega) (by omega) ?_; intro v3 w3 hown3 hb3)
  have hb4 := hb.trans hb3
  clear hb hown2 hb3 h3
  go_ret
  exact ⟨v3, rfl, hown3, hb4⟩
end Go.Proofs.YtnicnfjickknjaaDoor

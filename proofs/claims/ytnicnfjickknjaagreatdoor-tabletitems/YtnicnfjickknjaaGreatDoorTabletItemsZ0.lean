/-
  Texts in one: Base, CMath, TMath, Math, Laws, RDefs, Parse, Conv, CStr, CConv, OMath, ORight, CKA, TbMath, Rot, DBase, Words, Sched.
-/
import Derived.Test.YtnicnfjickknjaaGreatDoorProg
import Derived.WalkKit
import Derived.WalkSpells
import Derived.WalkMore
import Derived.ScopeJumps
import Derived.Laws.AppendOwnNone
import Derived.KernelRfl
import Derived.Lib.ConvBytes
import Derived.BigQuiet
import Derived.Laws.BytesArg
import Derived.Laws.IdiomStrings
import Derived.Laws.BitsAllLaws
import Derived.Laws.ShiftsVarLaws
import Derived.Deep.WholeRow
import Derived.Deep.Draws
import Derived.RegionTactic
import Derived.BigRegion
namespace Go.Proofs.YtnicnfjickknjaaGreatDoor
open Go.RowKit

theorem u8info : (Tryz.prog.info? 5).map (fun i => (i.zero, i.size, i.bytes)) = some (some (.int .u8 0), 1, 1) := by kernel_rfl

/-- The cells of some bytes. -/
def bv (xs : List Int) : List Value := xs.map (Value.int .u8)
theorem bv_length (xs : List Int) : (bv xs).length = xs.length := by simp [bv]
theorem bv_append (xs ys : List Int) : bv (xs ++ ys) = bv xs ++ bv ys := by simp [bv]
theorem bv_one (xs : List Int) : ∀ u ∈ bv xs, u.oneCell' = true := ints_oneCell .u8 xs
theorem bv_get (xs : List Int) (j : Nat) (h : j < xs.length) : (bv xs)[j]? = some (.int .u8 (xs.getD j 0)) := by
  simp [bv, h]

/-- Each is a byte. -/
def Byt (xs : List Int) : Prop := ∀ x ∈ xs, 0 ≤ x ∧ x ≤ 255
theorem Byt.append {xs ys : List Int} (h : Byt xs) (k : Byt ys) : Byt (xs ++ ys) := by
  intro x hx
  rcases List.mem_append.1 hx with h1 | h1
  · exact h x h1
  · exact k x h1
theorem Byt.drop {xs : List Int} (h : Byt xs) (n : Nat) : Byt (xs.drop n) := fun x hx => h x (List.mem_of_mem_drop hx)
theorem Byt.take {xs : List Int} (h : Byt xs) (n : Nat) : Byt (xs.take n) := fun x hx => h x (List.mem_of_mem_take hx)
theorem Byt.at {xs : List Int} (h : Byt xs) (j : Nat) : 0 ≤ xs[j]?.getD 0 ∧ xs[j]?.getD 0 ≤ 255 := by
  by_cases hj : j < xs.length
  · simp [hj]
    exact h _ (List.getElem_mem hj)
  · simp [hj]

/-- The slice at ao, of n elements, up to cap, reads as the bytes xs. -/
structure Sl (w : World) (ao : Option Addr) (n cap : Nat) (xs : List Int) : Prop where
  len : xs.length = n
  le : n ≤ cap
  mx : cap ≤ maxLen
  nil : ao = none → n = 0 ∧ cap = 0
  cell : ∀ a, ao = some a → ∀ i, i < n → w.cell? (a.add i) = some (.int .u8 (xs.getD i 0))
  byte : Byt xs

theorem Sl.cells {w : World} {ao : Option Addr} {n cap : Nat} {xs : List Int} (h : Sl w ao n cap xs) : ∀ ad, ao = some ad → ∀ j u, (bv xs)[j]? = some u → w.cell? (ad.add j) = some u := by
  intro ad had j u hu
  have hj : j < xs.length := by
    have := (List.getElem?_eq_some_iff.1 hu).1
    simpa [bv] using this
  rw [bv_get xs j hj] at hu
  rw [h.cell ad had j (by rw [← h.len]; exact hj)]
  exact hu

theorem Sl.lt {w : World} {ao : Option Addr} {n cap : Nat} {xs : List Int} (h : Sl w ao n cap xs) : ∀ a, ao = some a → 0 < n → a.block < w.heap.size := by
  intro a ha hn
  have := World.block_lt_of_cell? w _ (h.cell a ha 0 hn)
  simpa [Addr.add] using this

/-- What reads so still does where all that lies below w's end is as it was. -/
theorem Sl.below {w w' : World} {ao : Option Addr} {n cap : Nat} {xs : List Int} (h : Sl w ao n cap xs) (hb : Below w.heap.size w w') : Sl w' ao n cap xs := by
  refine ⟨h.len, h.le, h.mx, h.nil, fun a ha i hi => ?_, h.byte⟩
  have hc := h.cell a ha i hi
  rw [← hc]
  exact hb.cell (World.block_lt_of_cell? w _ hc)

theorem Sl.nothing (w : World) : Sl w none 0 0 [] := ⟨rfl, Nat.le_refl _, Nat.zero_le _, fun _ => ⟨rfl, rfl⟩, fun _ h => by simp at h, fun _ h => by simp at h⟩

/-- One byte that lies in a block of its own. -/
theorem Sl.one (w : World) (c : Int) (h : 0 ≤ c ∧ c ≤ 255) : Sl (w.alloc (.cells #[.int .u8 c] 5)) (some ⟨w.heap.size, 0, none⟩) 1 1 [c] := by
  refine ⟨rfl, Nat.le_refl _, by decide, fun h => by simp at h, fun a ha i hi => ?_, fun x hx => by simp at hx; omega⟩
  obtain rfl := Option.some.inj ha
  obtain rfl : i = 0 := by omega
  exact cell_one_new _ _ _ 0 _ (by simp)

/-- Bytes that are written out, in a block of their own. -/
theorem Sl.new (w : World) (xs : List Int) (h : Byt xs) (hn : xs.length ≤ maxLen) : Sl (w.alloc (.cells (bv xs).toArray 5)) (some ⟨w.heap.size, 0, none⟩) xs.length xs.length xs := by
  refine ⟨rfl, Nat.le_refl _, hn, fun h => by simp at h, fun a ha i hi => ?_, h⟩
  obtain rfl := Option.some.inj ha
  rw [Addr.add_lit, Nat.zero_add, cell_of_row _ w.heap.size i (bv xs).toArray 5 (0, 0) (heap_alloc_new w _)]
  simpa using bv_get xs i hi

/-- What the call owns reads as its bytes. -/
theorem Sl.own {w : World} {base : Nat} {v : Value} {n : Nat} {xs : List Int} (h : w.ownsRow base 5 1 v n (bv xs)) (hb : Byt xs) :
    ∃ ao cap, v = .slice ao n cap ∧ Sl w ao n cap xs ∧ ∀ a, ao = some a → base ≤ a.block ∧ a.block < w.heap.size ∧ a.off = 0 ∧ a.spot = none := by
  have hl : xs.length = n := by have := h.1; rw [bv_length] at this; omega
  rcases h.2 with ⟨rfl, rfl⟩ | ⟨g, cap, cur, rfl, hg, hh, hle, hmx, hcs, htk⟩
  · obtain rfl : xs = [] := List.eq_nil_of_length_eq_zero hl
    exact ⟨none, 0, rfl, Sl.nothing w, fun a ha => by simp at ha⟩
  · refine ⟨some ⟨g, 0, none⟩, cap, rfl, ⟨hl, hle, hmx, fun h => by simp at h, fun a ha i hi => ?_, hb⟩, fun a ha => ?_⟩
    · obtain rfl := Option.some.inj ha
      exact h.cells (g := g) rfl i _ (bv_get xs i (by omega))
    · obtain rfl := Option.some.inj ha
      exact ⟨hg, (Array.getElem?_eq_some_iff.1 hh).1, rfl, rfl⟩

/-- append(out, x...), out the call's own, x whatever slice of bytes. -/
theorem wpList_app {w : World} {ops : Array Oper} {rest : List Oper} {o : Oper} {a : Act} {Q : Exit → Act → World → Prop} (hgd : o.guard = none) (s x : Operand)
    (ho : o.op = .call { callee := .builtin .append, args := #[s, x], argTypes := #[25, 25] })
    (base : Nat) (v : Value) (n : Nat) (xs : List Int) (hs : a.eval s = v) (hown : w.ownsRow base 5 1 v n (bv xs))
    (bo : Option Addr) (m c : Nat) (ys : List Int) (hx : a.eval x = .slice bo m c) (hsl : Sl w bo m c ys) (hb : n + m ≤ 140737488355328) (hbase : base ≤ w.heap.size)
    (h : ∀ v' w', w'.ownsRow base 5 1 v' (n + m) (bv (xs ++ ys)) → Below base w w' → wpList Tryz.prog ops Q rest (a.put o.dst v') w') : wpList Tryz.prog ops Q (o :: rest) a w := by
  obtain ⟨i0, hi, hz0, hz1, hz2⟩ := info_parts u8info
  cases bo with
  | some ad =>
    refine wpList_append_own w hgd s x 25 ho base 5 i0 (.int .u8 0) 1 1 Tryz.underlying25 hi hz0 hz1 hz2 rfl (by decide) v n (bv xs) hs hown ad m c (bv ys) hx (by rw [bv_length, hsl.len, Nat.mul_one]) (hsl.cells ad rfl) (bv_one ys) (by unfold maxLen; omega) (by omega) hbase ?_
    intro v' w' h1 h2 _
    rw [← bv_append] at h1
    exact h v' w' h1 ((Below.refl _ w).grown h2 hbase (fun k hk => (hown.lt k hk).1))
  | none =>
    obtain ⟨rfl, rfl⟩ := hsl.nil rfl
    obtain rfl : ys = [] := List.eq_nil_of_length_eq_zero hsl.len
    refine wpList_append_own_none hgd s x 25 ho base 5 i0 1 Tryz.underlying25 hi v n (bv xs) hs hown hx ?_
    exact h v w (by simpa using hown) (Below.refl _ _)

theorem or128 (m : Nat) : bits BinOp.or IntKind.u8 128 ((m : Int) % 128) = ((m % 128 + 128 : Nat) : Int) := by
  have key : ∀ x : Fin 128, bits BinOp.or IntKind.u8 128 ((x.val : Nat) : Int) = ((x.val + 128 : Nat) : Int) := by decide
  have h := key ⟨m % 128, Nat.mod_lt _ (by decide)⟩
  simpa using h

/-- A scope that begins with a label, to which the run jumps back: what holds there each time, and a measure that falls. -/
theorem wp_scope_label {P : Program} {Q : Exit → Act → World → Prop} {a : Act} {w : World} {y : Code} (l : Nat) (J : Act → World → Prop) (μ : Act → World → Nat) (h0 : J a w)
    (pass : ∀ a w, J a w → y.wp P (Exit.jump l (fun a' w' => J a' w' ∧ μ a' w' < μ a w) Q) a w) : (Code.scope ((Code.label l).seq y)).wp P Q a w := by
  refine wp_scope_jumps l J μ (rest := .seq .skip y) (by simp [findLabel]) ?_ ?_
  · refine wp_seq (wp_label ?_)
    show y.wp P _ a w
    refine wp_mono (pass a w h0) ?_
    intro e a' w' h
    cases e with
    | goto l' => exact ⟨h.1, h.2.1⟩
    | _ => exact h
  · intro a w hJ
    exact wp_seq (wp_skip (pass a w hJ))

end Go.Proofs.YtnicnfjickknjaaGreatDoor

namespace Go.Proofs.YtnicnfjickknjaaGreatDoor

/-- A name's bytes. -/
def nm : List Int → List Int
  | [] => [0, 1]
  | c :: t => if c = 0 then 0 :: 255 :: nm t else c :: nm t
/-- The order of texts. -/
def cmpL : List Int → List Int → Int
  | [], [] => 0
  | [], _ :: _ => -1
  | _ :: _, [] => 1
  | a :: s, b :: t => if a = b then cmpL s t else if a < b then -1 else 1
theorem cmpL_self : ∀ s, cmpL s s = 0
  | [] => rfl
  | a :: s => by simp [cmpL, cmpL_self s]
theorem cmpL_eq : ∀ s t, cmpL s t = 0 → s = t
  | [], [], _ => rfl
  | [], _ :: _, h => by simp [cmpL] at h
  | _ :: _, [], h => by simp [cmpL] at h
  | a :: s, b :: t, h => by
    unfold cmpL at h
    by_cases e : a = b
    · rw [if_pos e] at h; rw [e, cmpL_eq s t h]
    · rw [if_neg e] at h; split at h <;> simp at h
theorem cmpL_three : ∀ s t, cmpL s t = -1 ∨ cmpL s t = 0 ∨ cmpL s t = 1
  | [], [] => .inr (.inl rfl)
  | [], _ :: _ => .inl rfl
  | _ :: _, [] => .inr (.inr rfl)
  | a :: s, b :: t => by
    unfold cmpL
    split
    · exact cmpL_three s t
    · split <;> simp
theorem cmpL_neg : ∀ s t, cmpL t s = -cmpL s t
  | [], [] => rfl
  | [], _ :: _ => rfl
  | _ :: _, [] => rfl
  | a :: s, b :: t => by
    unfold cmpL
    by_cases e : a = b
    · rw [if_pos e, if_pos e.symm]; exact cmpL_neg s t
    · rw [if_neg e, if_neg (fun h => e h.symm)]
      by_cases l : a < b
      · rw [if_pos l, if_neg (by omega)]; rfl
      · rw [if_neg l, if_pos (by omega)]
theorem cmpL_nil (u : List Int) : 0 ≤ cmpL u [] := by
  cases u <;> simp [cmpL]
/-- Names' bytes, whatever stands behind: as the names; of one name as what stands behind. -/
theorem nm_cmp : ∀ (s t : List Int), Byt s → Byt t → ∀ u v, cmpL (nm s ++ u) (nm t ++ v) = if cmpL s t = 0 then cmpL u v else cmpL s t
  | [], [], _, _, u, v => by simp [nm, cmpL]
  | [], b :: t, _, h, u, v => by
    have hb := h b (List.mem_cons_self ..)
    by_cases e : b = 0
    · simp [nm, cmpL, e]
    · have : (0 : Int) ≠ b := fun h => e h.symm
      have l : (0 : Int) < b := by omega
      simp [nm, cmpL, e, this, l]
  | a :: s, [], h, _, u, v => by
    have hb := h a (List.mem_cons_self ..)
    by_cases e : a = 0
    · simp [nm, cmpL, e]
    · have l : ¬ a < 0 := by omega
      simp [nm, cmpL, e, l]
  | a :: s, b :: t, hs, ht, u, v => by
    have ha := hs a (List.mem_cons_self ..)
    have hb := ht b (List.mem_cons_self ..)
    have ih := nm_cmp s t (fun x hx => hs x (List.mem_cons_of_mem _ hx)) (fun x hx => ht x (List.mem_cons_of_mem _ hx)) u v
    by_cases e : a = b
    · subst e
      by_cases z : a = 0
      · simp [nm, cmpL, z, ih]
      · simp [nm, cmpL, z, ih]
    · by_cases l : a < b
      · by_cases z : a = 0
        · subst z
          have n : b ≠ 0 := fun h => e h.symm
          simp [nm, cmpL, n, e, l]
        · have n : b ≠ 0 := by omega
          simp [nm, cmpL, z, n, e, l]
      · have z : a ≠ 0 := by omega
        by_cases n : b = 0
        · subst n
          simp [nm, cmpL, z, l]
        · simp [nm, cmpL, z, n, e, l]
theorem nm_byte : ∀ (s : List Int), Byt s → Byt (nm s)
  | [], _ => by intro x hx; simp [nm] at hx; omega
  | a :: s, h => by
    have ih := nm_byte s (fun x hx => h x (List.mem_cons_of_mem _ hx))
    have ha := h a (List.mem_cons_self ..)
    intro x hx
    unfold nm at hx
    split at hx
    · rcases List.mem_cons.1 hx with rfl | hx
      · omega
      rcases List.mem_cons.1 hx with rfl | hx
      · omega
      exact ih x hx
    · rcases List.mem_cons.1 hx with rfl | hx
      · exact ha
      exact ih x hx
theorem nm_len : ∀ (s : List Int), 2 ≤ (nm s).length ∧ (nm s).length ≤ 2 * s.length + 2
  | [] => by simp [nm]
  | a :: s => by
    have ih := nm_len s
    unfold nm
    split <;> simp only [List.length_cons] <;> omega
/-- No name's bytes begin another one's. -/
theorem nm_prefix : ∀ (s t : List Int), ∀ u v, nm s ++ u <+: nm t ++ v → s = t ∧ u <+: v
  | [], [], u, v, h => by
    simp only [nm, List.cons_append, List.nil_append, List.cons_prefix_cons, true_and] at h
    exact ⟨rfl, h⟩
  | [], b :: t, u, v, h => by
    by_cases e : b = 0
    · simp [nm, e, List.cons_prefix_cons] at h
    · simp [nm, e, List.cons_prefix_cons] at h
      exact absurd h.1.symm e
  | a :: s, [], u, v, h => by
    by_cases e : a = 0
    · simp [nm, e, List.cons_prefix_cons] at h
    · simp [nm, e, List.cons_prefix_cons] at h
  | a :: s, b :: t, u, v, h => by
    by_cases e : a = 0
    · by_cases n : b = 0
      · simp only [nm, e, n, if_true, List.cons_append, List.cons_prefix_cons, true_and] at h
        have ih := nm_prefix s t u v h
        exact ⟨by rw [e, n, ih.1], ih.2⟩
      · simp [nm, e, n, List.cons_prefix_cons] at h
        exact absurd h.1.symm n
    · by_cases n : b = 0
      · simp [nm, e, n, List.cons_prefix_cons] at h
      · simp only [nm, e, n, if_false, List.cons_append, List.cons_prefix_cons] at h
        have ih := nm_prefix s t u v h.2
        exact ⟨by rw [h.1, ih.1], ih.2⟩

/-- A name off the front. -/
def cutL : List Int → Option (List Int × List Int)
  | [] => none
  | [c] => if c = 0 then none else none
  | c :: d :: r => if c = 0 then (if d = 1 then some ([], r) else if d = 255 then (cutL r).map fun p => (0 :: p.1, p.2) else none) else (cutL (d :: r)).map fun p => (c :: p.1, p.2)
theorem cutL_nm : ∀ (s : List Int) (u : List Int), cutL (nm s ++ u) = some (s, u)
  | [], u => by simp [nm, cutL]
  | a :: s, u => by
    have ih := cutL_nm s u
    by_cases e : a = 0
    · simp [nm, e, cutL, ih]
    · have h := (nm_len s).1
      obtain ⟨d, r, hr⟩ : ∃ d r, nm s ++ u = d :: r := by
        cases hh : nm s ++ u with
        | nil => have := congrArg List.length hh; rw [List.length_append, List.length_nil] at this; omega
        | cons d r => exact ⟨d, r, rfl⟩
      rw [hr] at ih
      simp [nm, e, cutL, hr, ih]
theorem nm_of_cutL : ∀ (n : Nat) (b s r : List Int), b.length ≤ n → cutL b = some (s, r) → b = nm s ++ r
  | 0, b, s, r, hn, h => by
    have : b = [] := List.length_eq_zero_iff.1 (by omega)
    subst this
    simp [cutL] at h
  | n + 1, [], s, r, _, h => by simp [cutL] at h
  | n + 1, [c], s, r, _, h => by simp [cutL] at h
  | n + 1, c :: d :: t, s, r, hn, h => by
    simp only [List.length_cons] at hn
    unfold cutL at h
    by_cases e : c = 0
    · rw [if_pos e] at h
      by_cases e1 : d = 1
      · rw [if_pos e1] at h
        simp only [Option.some.injEq, Prod.mk.injEq] at h
        rw [← h.1, ← h.2, e, e1]; rfl
      · rw [if_neg e1] at h
        by_cases e2 : d = 255
        · rw [if_pos e2] at h
          obtain ⟨p, hp, he⟩ := Option.map_eq_some_iff.1 h
          simp only [Prod.mk.injEq] at he
          have := nm_of_cutL n t p.1 p.2 (by omega) hp
          rw [← he.1, ← he.2, e, e2, this]
          simp [nm]
        · rw [if_neg e2] at h; simp at h
    · rw [if_neg e] at h
      obtain ⟨p, hp, he⟩ := Option.map_eq_some_iff.1 h
      simp only [Prod.mk.injEq] at he
      have := nm_of_cutL n (d :: t) p.1 p.2 (by simp only [List.length_cons]; omega) hp
      rw [← he.1, ← he.2, this]
      simp [nm, e]

/-- A number's n bytes, each turned, the great ones first. -/
def beL : Nat → Nat → List Int
  | 0, _ => []
  | n + 1, T => (255 - ((T / 256 ^ n % 256 : Nat) : Int)) :: beL n T
theorem beL_len : ∀ n T, (beL n T).length = n
  | 0, _ => rfl
  | n + 1, T => by simp [beL, beL_len n]
theorem beL_byte : ∀ n T, Byt (beL n T)
  | 0, _ => fun x hx => by simp [beL] at hx
  | n + 1, T => fun x hx => by
    rcases List.mem_cons.1 hx with rfl | h
    · omega
    · exact beL_byte n T x h
theorem mod_split (a n : Nat) : a % 256 ^ (n + 1) = a / 256 ^ n % 256 * 256 ^ n + a % 256 ^ n := by
  rw [Nat.pow_succ, Nat.mod_mul, Nat.mul_comm (256 ^ n), Nat.add_comm]
theorem beL_cmp : ∀ n a b, cmpL (beL n a) (beL n b) = if a % 256 ^ n = b % 256 ^ n then 0 else if b % 256 ^ n < a % 256 ^ n then -1 else 1
  | 0, a, b => by simp [beL, cmpL, Nat.mod_one]
  | n + 1, a, b => by
    have ih := beL_cmp n a b
    have ha := mod_split a n
    have hb := mod_split b n
    have la : a % 256 ^ n < 256 ^ n := Nat.mod_lt _ (Nat.pow_pos (by omega))
    have lb : b % 256 ^ n < 256 ^ n := Nat.mod_lt _ (Nat.pow_pos (by omega))
    have xa : a / 256 ^ n % 256 < 256 := Nat.mod_lt _ (by omega)
    have xb : b / 256 ^ n % 256 < 256 := Nat.mod_lt _ (by omega)
    unfold beL cmpL
    generalize a / 256 ^ n % 256 = x at *
    generalize b / 256 ^ n % 256 = y at *
    generalize 256 ^ n = P at *
    rw [ih, ha, hb]
    generalize a % P = p at *
    generalize b % P = q at *
    by_cases e : x = y
    · subst e
      simp
    · rw [if_neg (by omega)]
      by_cases l : y < x
      · have : y * P + P ≤ x * P := by rw [← Nat.succ_mul]; exact Nat.mul_le_mul_right _ l
        rw [if_pos (by omega), if_neg (by omega), if_pos (by omega)]
      · have : x * P + P ≤ y * P := by rw [← Nat.succ_mul]; exact Nat.mul_le_mul_right _ (by omega)
        rw [if_neg (by omega), if_neg (by omega), if_neg (by omega)]

/-- A key: its texts as bytes, its time. -/
structure KV where
  row : List Int
  fam : List Int
  qual : List Int
  time : Nat
def KV.byt (k : KV) : Prop := Byt k.row ∧ Byt k.fam ∧ Byt k.qual ∧ k.time < 18446744073709551616
abbrev KV.right (k : KV) : Prop := 1 ≤ k.row.length ∧ k.row.length ≤ 32 ∧ 1 ≤ k.fam.length ∧ k.fam.length ≤ 32 ∧ k.qual.length ≤ 32
def keyL (k : KV) : List Int := nm k.row ++ (nm k.fam ++ (nm k.qual ++ beL 8 k.time))
def cmpT (a b : Nat) : Int := if a = b then 0 else if b < a then -1 else 1
/-- The order of keys. -/
def cmpK (a b : KV) : Int :=
  if cmpL a.row b.row = 0 then (if cmpL a.fam b.fam = 0 then (if cmpL a.qual b.qual = 0 then cmpT a.time b.time else cmpL a.qual b.qual) else cmpL a.fam b.fam) else cmpL a.row b.row
theorem beL8_cmp (a b : Nat) (ha : a < 18446744073709551616) (hb : b < 18446744073709551616) : cmpL (beL 8 a) (beL 8 b) = cmpT a b := by
  have h := beL_cmp 8 a b
  rw [show (256 : Nat) ^ 8 = 18446744073709551616 from rfl, Nat.mod_eq_of_lt ha, Nat.mod_eq_of_lt hb] at h
  exact h
/-- Keys stand as their bytes do. -/
theorem keyL_cmp (a b : KV) (ha : a.byt) (hb : b.byt) : cmpL (keyL a) (keyL b) = cmpK a b := by
  unfold keyL cmpK
  rw [nm_cmp _ _ ha.1 hb.1, nm_cmp _ _ ha.2.1 hb.2.1, nm_cmp _ _ ha.2.2.1 hb.2.2.1, beL8_cmp _ _ ha.2.2.2 hb.2.2.2]
theorem cmpT_zero (a b : Nat) : cmpT a b = 0 ↔ a = b := by
  unfold cmpT
  constructor
  · intro h; split at h
    · assumption
    · split at h <;> simp at h
  · intro h; rw [if_pos h]
theorem cmpT_neg (a b : Nat) : cmpT b a = -cmpT a b := by
  unfold cmpT
  by_cases e : a = b
  · rw [if_pos e, if_pos e.symm]; rfl
  · rw [if_neg e, if_neg (fun h => e h.symm)]
    by_cases l : b < a
    · rw [if_pos l, if_neg (by omega)]; rfl
    · rw [if_neg l, if_pos (by omega)]
theorem cmpK_zero (a b : KV) : cmpK a b = 0 ↔ a = b := by
  constructor
  · intro h
    unfold cmpK at h
    by_cases e1 : cmpL a.row b.row = 0
    · rw [if_pos e1] at h
      by_cases e2 : cmpL a.fam b.fam = 0
      · rw [if_pos e2] at h
        by_cases e3 : cmpL a.qual b.qual = 0
        · rw [if_pos e3] at h
          have h1 := cmpL_eq _ _ e1
          have h2 := cmpL_eq _ _ e2
          have h3 := cmpL_eq _ _ e3
          have h4 := (cmpT_zero _ _).1 h
          cases a; cases b
          simp_all
        · rw [if_neg e3] at h; exact absurd h e3
      · rw [if_neg e2] at h; exact absurd h e2
    · rw [if_neg e1] at h; exact absurd h e1
  · rintro rfl
    simp [cmpK, cmpL_self, cmpT]
theorem cmpK_neg (a b : KV) : cmpK b a = -cmpK a b := by
  unfold cmpK
  rw [cmpL_neg a.row b.row, cmpL_neg a.fam b.fam, cmpL_neg a.qual b.qual, cmpT_neg a.time b.time]
  simp only [Int.neg_eq_zero]
  split
  · split
    · split <;> rfl
    · rfl
  · rfl
/-- No key's bytes begin another one's. -/
theorem keyL_prefix (a b : KV) (h : keyL a <+: keyL b) : (keyL a).length = (keyL b).length := by
  unfold keyL at *
  obtain ⟨e1, h⟩ := nm_prefix _ _ _ _ h
  obtain ⟨e2, h⟩ := nm_prefix _ _ _ _ h
  obtain ⟨e3, h⟩ := nm_prefix _ _ _ _ h
  rw [e1, e2, e3]
  simp only [List.length_append, beL_len]
theorem keyL_len (k : KV) : 14 ≤ (keyL k).length := by
  unfold keyL
  have h1 := (nm_len k.row).1
  have h2 := (nm_len k.fam).1
  have h3 := (nm_len k.qual).1
  simp only [List.length_append, beL_len]
  omega
theorem keyL_byte (k : KV) (h : k.byt) : Byt (keyL k) := by
  intro x hx
  unfold keyL at hx
  simp only [List.mem_append] at hx
  rcases hx with hx | hx | hx | hx
  · exact nm_byte _ h.1 x hx
  · exact nm_byte _ h.2.1 x hx
  · exact nm_byte _ h.2.2.1 x hx
  · exact beL_byte _ _ x hx
def colK (a b : KV) : Bool := decide (a.row = b.row ∧ a.fam = b.fam ∧ a.qual = b.qual)
theorem cmpL_sandwich (s t : List Int) (h1 : cmpL s t ≤ 0) (h2 : cmpL t s ≤ 0) : s = t := by
  rw [cmpL_neg s t] at h2
  exact cmpL_eq _ _ (by omega)
/-- Between two keys of one column stands no key of another. -/
theorem colK_between (a b c : KV) (hb : b.row = a.row ∧ b.fam = a.fam ∧ b.qual = a.qual) (h1 : cmpK a c ≤ 0) (h2 : cmpK c b ≤ 0) : a.row = c.row ∧ a.fam = c.fam ∧ a.qual = c.qual := by
  unfold cmpK at h1 h2
  rw [hb.1, hb.2.1, hb.2.2] at h2
  rw [cmpL_neg a.row c.row, cmpL_neg a.fam c.fam, cmpL_neg a.qual c.qual] at h2
  simp only [Int.neg_eq_zero] at h2
  by_cases e1 : cmpL a.row c.row = 0
  · rw [if_pos e1] at h1 h2
    by_cases e2 : cmpL a.fam c.fam = 0
    · rw [if_pos e2] at h1 h2
      by_cases e3 : cmpL a.qual c.qual = 0
      · exact ⟨cmpL_eq _ _ e1, cmpL_eq _ _ e2, cmpL_eq _ _ e3⟩
      · rw [if_neg e3] at h1 h2; omega
    · rw [if_neg e2] at h1 h2; omega
  · rw [if_neg e1] at h1 h2; omega
theorem cmpK_col (a b : KV) (h : a.row = b.row ∧ a.fam = b.fam ∧ a.qual = b.qual) : cmpK a b = cmpT a.time b.time := by
  unfold cmpK
  rw [h.1, h.2.1, h.2.2, cmpL_self, cmpL_self, cmpL_self]
  rfl
/-- Behind 33 bytes of 255 stands no name of up to 32. -/
theorem nm_top : ∀ (s : List Int) (u : List Int) (k : Nat), Byt s → s.length ≤ k → cmpL (nm s ++ u) (List.replicate (k + 1) 255) = -1
  | [], u, k, _, _ => by simp [nm, List.replicate_succ, cmpL]
  | a :: s, u, k + 1, h, hk => by
    have ha := h a (List.mem_cons_self ..)
    have ih := nm_top s u k (fun x hx => h x (List.mem_cons_of_mem _ hx)) (by simpa using hk)
    rw [List.replicate_succ]
    by_cases e : a = 0
    · simp [nm, e, cmpL]
    · by_cases f : a = 255
      · subst f
        simp [nm, cmpL, ih]
      · have l : a < 255 := by omega
        simp [nm, e, cmpL, f, l]
/-- Where a key stands, beside a name's bytes. -/
theorem keyL_below (k : KV) (t : List Int) (hk : k.byt) (ht : Byt t) : cmpL (keyL k) (nm t) < 0 ↔ cmpL k.row t < 0 := by
  have h := nm_cmp k.row t hk.1 ht (nm k.fam ++ (nm k.qual ++ beL 8 k.time)) []
  rw [List.append_nil] at h
  unfold keyL
  rw [h]
  have hn := cmpL_nil (nm k.fam ++ (nm k.qual ++ beL 8 k.time))
  by_cases e : cmpL k.row t = 0
  · rw [if_pos e, e]; omega
  · rw [if_neg e]

/-- The number of bytes that were turned. -/
def ofBe : List Int → Nat → Nat
  | [], t => t
  | c :: r, t => ofBe r (t * 256 + (255 - c).toNat)
theorem ofBe_beL : ∀ n T t, ofBe (beL n T) t = t * 256 ^ n + T % 256 ^ n
  | 0, T, t => by simp [beL, ofBe, Nat.mod_one]
  | n + 1, T, t => by
    have xa : T / 256 ^ n % 256 < 256 := Nat.mod_lt _ (by omega)
    rw [beL, ofBe, ofBe_beL n T, mod_split T n, Nat.pow_succ]
    generalize T / 256 ^ n % 256 = x at *
    rw [show (255 - (255 - (x : Int))).toNat = x by omega, Nat.add_mul, Nat.mul_assoc, Nat.mul_comm 256, Nat.add_assoc]
theorem ofBe_lt : ∀ (l : List Int), Byt l → ∀ t, ofBe l t < (t + 1) * 256 ^ l.length
  | [], _, t => by simp [ofBe]
  | c :: r, h, t => by
    have hc := h c (List.mem_cons_self ..)
    have ih := ofBe_lt r (fun x hx => h x (List.mem_cons_of_mem _ hx)) (t * 256 + (255 - c).toNat)
    rw [ofBe, List.length_cons, Nat.pow_succ]
    refine Nat.lt_of_lt_of_le ih ?_
    rw [Nat.mul_comm (256 ^ r.length), ← Nat.mul_assoc]
    exact Nat.mul_le_mul_right _ (by omega)
theorem beL_high : ∀ n T t, beL n (t * 256 ^ n + T) = beL n T
  | 0, _, _ => rfl
  | n + 1, T, t => by
    have h : t * 256 ^ (n + 1) + T = (t * 256) * 256 ^ n + T := by rw [Nat.pow_succ, Nat.mul_comm (256 ^ n), Nat.mul_assoc]
    rw [beL, beL, h, beL_high n T (t * 256)]
    congr 3
    rw [Nat.mul_comm (t * 256), Nat.mul_add_div (Nat.pow_pos (by omega))]
    omega
theorem ofBe_ge : ∀ (l : List Int), ∀ t, t * 256 ^ l.length ≤ ofBe l t
  | [], t => by simp [ofBe]
  | c :: r, t => by
    rw [ofBe, List.length_cons, Nat.pow_succ, Nat.mul_comm (256 ^ r.length), ← Nat.mul_assoc]
    exact Nat.le_trans (Nat.mul_le_mul_right _ (by omega)) (ofBe_ge r _)
theorem ofBe_div (l : List Int) (h : Byt l) (t : Nat) : ofBe l t / 256 ^ l.length = t := by
  have h1 := ofBe_ge l t
  have h2 := ofBe_lt l h t
  exact Nat.div_eq_of_lt_le h1 h2
theorem byt_of_nm : ∀ (s : List Int), Byt (nm s) → Byt s
  | [], _ => fun x hx => by simp at hx
  | a :: s, h => by
    unfold nm at h
    intro x hx
    by_cases e : a = 0
    · rw [if_pos e] at h
      have ih := byt_of_nm s (fun y hy => h y (List.mem_cons_of_mem _ (List.mem_cons_of_mem _ hy)))
      rcases List.mem_cons.1 hx with rfl | hx
      · omega
      · exact ih x hx
    · rw [if_neg e] at h
      have ih := byt_of_nm s (fun y hy => h y (List.mem_cons_of_mem _ hy))
      rcases List.mem_cons.1 hx with rfl | hx
      · exact h x (List.mem_cons_self ..)
      · exact ih x hx
theorem beL_ofBe : ∀ (l : List Int), Byt l → ∀ t, beL l.length (ofBe l t) = l
  | [], _, _ => rfl
  | c :: r, h, t => by
    have hc := h c (List.mem_cons_self ..)
    have hr : Byt r := fun x hx => h x (List.mem_cons_of_mem _ hx)
    have ih := beL_ofBe r hr (t * 256 + (255 - c).toNat)
    rw [List.length_cons, beL, ofBe, ih]
    have hd : ofBe r (t * 256 + (255 - c).toNat) / 256 ^ r.length = t * 256 + (255 - c).toNat := ofBe_div r hr _
    rw [hd]
    congr 1
    omega
/-- A key of bytes. -/
def readL (b : List Int) : Option KV :=
  (cutL b).bind fun p => (cutL p.2).bind fun q => (cutL q.2).bind fun r =>
    if r.2.length = 8 ∧ KV.right ⟨p.1, q.1, r.1, ofBe r.2 0⟩ then some ⟨p.1, q.1, r.1, ofBe r.2 0⟩ else none
theorem readL_keyL (k : KV) (hk : k.byt) (hr : k.right) : readL (keyL k) = some k := by
  have h8 : ofBe (beL 8 k.time) 0 = k.time := by
    rw [ofBe_beL, Nat.zero_mul, Nat.zero_add]
    exact Nat.mod_eq_of_lt hk.2.2.2
  unfold readL keyL
  simp only [cutL_nm, Option.bind_some, beL_len, h8]
  exact if_pos ⟨trivial, hr⟩
theorem cutL_byte {b s r : List Int} (hb : Byt b) (h : cutL b = some (s, r)) : b = nm s ++ r ∧ Byt s ∧ Byt r := by
  have e := nm_of_cutL b.length b s r (Nat.le_refl _) h
  have hr : Byt r := fun x hx => hb x (by rw [e]; exact List.mem_append_right _ hx)
  have hn : Byt (nm s) := fun x hx => hb x (by rw [e]; exact List.mem_append_left _ hx)
  exact ⟨e, byt_of_nm s hn, hr⟩
theorem keyL_readL {b : List Int} {k : KV} (hb : Byt b) (h : readL b = some k) : keyL k = b ∧ k.right ∧ k.byt := by
  unfold readL at h
  obtain ⟨⟨r, b1⟩, h1, h⟩ := Option.bind_eq_some_iff.1 h
  obtain ⟨⟨f, b2⟩, h2, h⟩ := Option.bind_eq_some_iff.1 h
  obtain ⟨⟨q, b3⟩, h3, h⟩ := Option.bind_eq_some_iff.1 h
  obtain ⟨e1, r1, k1⟩ := cutL_byte hb h1
  obtain ⟨e2, r2, k2⟩ := cutL_byte k1 h2
  obtain ⟨e3, r3, k3⟩ := cutL_byte k2 h3
  split at h
  · next hc =>
    obtain rfl := Option.some.inj h
    have hl := ofBe_lt b3 k3 0
    have hx := beL_ofBe b3 k3 0
    rw [hc.1] at hl hx
    refine ⟨?_, hc.2, r1, r2, r3, ?_⟩
    · show nm r ++ (nm f ++ (nm q ++ beL 8 (ofBe b3 0))) = b
      rw [hx, e1, e2, e3]
    · show ofBe b3 0 < 18446744073709551616
      simpa using hl
  · simp at h

end Go.Proofs.YtnicnfjickknjaaGreatDoor

namespace Go.Proofs.YtnicnfjickknjaaGreatDoor

theorem cmpL_lt_trans : ∀ (a b c : List Int), cmpL a b < 0 → cmpL b c < 0 → cmpL a c < 0
  | [], [], _, h, _ => by simp [cmpL] at h
  | [], _ :: _, [], _, k => by simp [cmpL] at k
  | [], _ :: _, _ :: _, _, _ => by simp [cmpL]
  | _ :: _, [], _, h, _ => by simp [cmpL] at h
  | _ :: _, _ :: _, [], _, k => by simp [cmpL] at k
  | x :: a, y :: b, z :: c, h, k => by
    have ih := cmpL_lt_trans a b c
    simp only [cmpL] at h k ⊢
    by_cases e1 : x = y
    · subst e1
      rw [if_pos rfl] at h
      by_cases e2 : x = z
      · subst e2
        rw [if_pos rfl] at k ⊢
        exact ih h k
      · rw [if_neg e2] at k ⊢
        exact k
    · rw [if_neg e1] at h
      have l1 : x < y := by
        by_cases l : x < y
        · exact l
        · rw [if_neg l] at h; omega
      by_cases e2 : y = z
      · subst e2
        rw [if_neg e1, if_pos l1]
        omega
      · rw [if_neg e2] at k
        have l2 : y < z := by
          by_cases l : y < z
          · exact l
          · rw [if_neg l] at k; omega
        rw [if_neg (by omega), if_pos (by omega)]
        omega
theorem cmpL_irr (a : List Int) : ¬ cmpL a a < 0 := by rw [cmpL_self]; omega
theorem cmpL_asym {a b : List Int} (h : cmpL a b < 0) : ¬ cmpL b a < 0 := by rw [cmpL_neg]; omega
theorem cmpL_total (a b : List Int) : cmpL a b < 0 ∨ a = b ∨ cmpL b a < 0 := by
  rcases cmpL_three a b with h | h | h
  · exact .inl (by omega)
  · exact .inr (.inl (cmpL_eq a b h))
  · exact .inr (.inr (by rw [cmpL_neg]; omega))
theorem cmpL_lt_ne {a b : List Int} (h : cmpL a b < 0) : a ≠ b := fun e => by rw [e] at h; exact cmpL_irr b h

/-- An item: a key, a value. -/
structure It where
  k : List Int
  v : List Int
/-- Keys rise. -/
def Srt (l : List It) : Prop := l.Pairwise fun a b => cmpL a.k b.k < 0
/-- The items below a key, and above it. -/
def lo (k : List Int) (l : List It) : List It := l.filter fun x => decide (cmpL x.k k < 0)
def hi (k : List Int) (l : List It) : List It := l.filter fun x => decide (cmpL k x.k < 0)
/-- With an item; without a key. -/
def ins (l : List It) (x : It) : List It := lo x.k l ++ x :: hi x.k l
def del (l : List It) (k : List Int) : List It := lo k l ++ hi k l
/-- Is a key there? -/
def has (k : List Int) (l : List It) : Prop := ∃ x ∈ l, x.k = k

theorem lo_append (k : List Int) (a b : List It) : lo k (a ++ b) = lo k a ++ lo k b := by simp [lo]
theorem hi_append (k : List Int) (a b : List It) : hi k (a ++ b) = hi k a ++ hi k b := by simp [hi]
theorem lo_all {k : List Int} {l : List It} (h : ∀ x ∈ l, cmpL x.k k < 0) : lo k l = l := List.filter_eq_self.2 fun x hx => decide_eq_true (h x hx)
theorem hi_all {k : List Int} {l : List It} (h : ∀ x ∈ l, cmpL k x.k < 0) : hi k l = l := List.filter_eq_self.2 fun x hx => decide_eq_true (h x hx)
theorem lo_none {k : List Int} {l : List It} (h : ∀ x ∈ l, ¬ cmpL x.k k < 0) : lo k l = [] := List.filter_eq_nil_iff.2 fun x hx => by simpa using h x hx
theorem hi_none {k : List Int} {l : List It} (h : ∀ x ∈ l, ¬ cmpL k x.k < 0) : hi k l = [] := List.filter_eq_nil_iff.2 fun x hx => by simpa using h x hx
theorem mem_lo {k : List Int} {l : List It} {x : It} : x ∈ lo k l ↔ x ∈ l ∧ cmpL x.k k < 0 := by simp [lo]
theorem mem_hi {k : List Int} {l : List It} {x : It} : x ∈ hi k l ↔ x ∈ l ∧ cmpL k x.k < 0 := by simp [hi]
theorem lo_len (k : List Int) (l : List It) : (lo k l).length ≤ l.length := List.length_filter_le _ _
theorem hi_len (k : List Int) (l : List It) : (hi k l).length ≤ l.length := List.length_filter_le _ _

theorem Srt.app {a b : List It} (h : Srt (a ++ b)) : Srt a ∧ Srt b ∧ ∀ x ∈ a, ∀ y ∈ b, cmpL x.k y.k < 0 := List.pairwise_append.1 h
theorem Srt.mk {a b : List It} (ha : Srt a) (hb : Srt b) (h : ∀ x ∈ a, ∀ y ∈ b, cmpL x.k y.k < 0) : Srt (a ++ b) := List.pairwise_append.2 ⟨ha, hb, h⟩
theorem Srt.cons {x : It} {l : List It} (h : Srt (x :: l)) : (∀ y ∈ l, cmpL x.k y.k < 0) ∧ Srt l := List.pairwise_cons.1 h
theorem Srt.ofLo {l : List It} (h : Srt l) (k : List Int) : Srt (lo k l) := List.Pairwise.filter _ h
theorem Srt.ofHi {l : List It} (h : Srt l) (k : List Int) : Srt (hi k l) := List.Pairwise.filter _ h
theorem Srt.one (x : It) : Srt [x] := List.pairwise_singleton _ _
theorem Srt.ofIns {l : List It} (h : Srt l) (x : It) : Srt (ins l x) := by
  refine Srt.mk (h.ofLo _) (List.pairwise_cons.2 ⟨fun y hy => (mem_hi.1 hy).2, h.ofHi _⟩) fun a ha b hb => ?_
  have h1 := (mem_lo.1 ha).2
  rcases List.mem_cons.1 hb with rfl | hb
  · exact h1
  · exact cmpL_lt_trans _ _ _ h1 (mem_hi.1 hb).2
theorem Srt.ofDel {l : List It} (h : Srt l) (k : List Int) : Srt (del l k) :=
  Srt.mk (h.ofLo _) (h.ofHi _) fun _ ha _ hb => cmpL_lt_trans _ _ _ (mem_lo.1 ha).2 (mem_hi.1 hb).2
/-- Where a key stands. -/
theorem Srt.split {l : List It} (h : Srt l) {x : It} {a b : List It} (e : l = a ++ x :: b) : lo x.k l = a ∧ hi x.k l = b := by
  subst e
  obtain ⟨ha, hb, hab⟩ := h.app
  obtain ⟨hx, hb'⟩ := hb.cons
  have h1 : ∀ y ∈ a, cmpL y.k x.k < 0 := fun y hy => hab y hy x (List.mem_cons_self ..)
  constructor
  · rw [lo_append, lo_all h1, lo_none (fun y hy => ?_), List.append_nil]
    rcases List.mem_cons.1 hy with rfl | hy
    · exact cmpL_irr _
    · exact cmpL_asym (hx y hy)
  · have e2 : hi x.k (x :: b) = b := by
      rw [show x :: b = [x] ++ b from rfl, hi_append, hi_all hx, hi_none (fun y hy => by rw [List.mem_singleton.1 hy]; exact cmpL_irr _), List.nil_append]
    rw [hi_append, hi_none (fun y hy => cmpL_asym (h1 y hy)), e2, List.nil_append]
/-- Where it is not: the list is what stands below and above. -/
theorem Srt.parts {l : List It} (h : Srt l) {k : List Int} (hn : ¬ has k l) : lo k l ++ hi k l = l := by
  induction l with
  | nil => rfl
  | cons x l ih =>
    obtain ⟨hx, hl⟩ := h.cons
    have hn' : ¬ has k l := fun ⟨y, hy, e⟩ => hn ⟨y, List.mem_cons_of_mem _ hy, e⟩
    have ne : x.k ≠ k := fun e => hn ⟨x, List.mem_cons_self .., e⟩
    rcases cmpL_total x.k k with h1 | h1 | h1
    · have e1 : lo k (x :: l) = x :: lo k l := by simp [lo, h1]
      have e2 : hi k (x :: l) = hi k l := by
        have := cmpL_asym h1
        simp [hi, this]
      rw [e1, e2, List.cons_append, ih hl hn']
    · exact absurd h1 ne
    · have h2 : ∀ y ∈ l, cmpL k y.k < 0 := fun y hy => cmpL_lt_trans _ _ _ h1 (hx y hy)
      have h3 : ∀ y ∈ x :: l, cmpL k y.k < 0 := fun y hy => by
        rcases List.mem_cons.1 hy with rfl | hy
        · exact h1
        · exact h2 y hy
      rw [lo_none (fun y hy => cmpL_asym (h3 y hy)), hi_all h3, List.nil_append]
theorem del_none {l : List It} (h : Srt l) {k : List Int} (hn : ¬ has k l) : del l k = l := h.parts hn
theorem has_split {l : List It} {k : List Int} (h : has k l) : ∃ a x b, l = a ++ x :: b ∧ x.k = k := by
  obtain ⟨x, hx, e⟩ := h
  obtain ⟨a, b, h⟩ := List.append_of_mem hx
  exact ⟨a, x, b, h, e⟩
/-- Keys of sorted items: one place at most. -/
theorem Srt.inj {l : List It} (h : Srt l) {x y : It} (hx : x ∈ l) (hy : y ∈ l) (e : x.k = y.k) : x = y := by
  induction l with
  | nil => simp at hx
  | cons z l ih =>
    obtain ⟨hz, hl⟩ := h.cons
    rcases List.mem_cons.1 hx with h1 | h1
    · rcases List.mem_cons.1 hy with h2 | h2
      · rw [h1, h2]
      · rw [h1] at e
        exact absurd e (cmpL_lt_ne (hz y h2))
    · rcases List.mem_cons.1 hy with h2 | h2
      · rw [h2] at e
        exact absurd e.symm (cmpL_lt_ne (hz x h1))
      · exact ih hl h1 h2

/-! ## Segments and the items between them -/
/-- Segments, each but the last with an item behind it. -/
def weave : List (List It) → List It → List It
  | [], _ => []
  | s :: _, [] => s
  | s :: ss, x :: xs => s ++ x :: weave ss xs
/-- The same, each with an item behind it. -/
def wvA : List (List It) → List It → List It
  | s :: ss, x :: xs => s ++ x :: wvA ss xs
  | _, _ => []
theorem weave_app : ∀ (P Q : List (List It)) (xs ys : List It), P.length = xs.length → weave (P ++ Q) (xs ++ ys) = wvA P xs ++ weave Q ys
  | [], Q, [], ys, _ => rfl
  | [], _, _ :: _, _, h => by simp at h
  | _ :: _, _, [], _, h => by simp at h
  | s :: P, Q, x :: xs, ys, h => by
    simp only [List.cons_append, weave, wvA, List.append_assoc]
    rw [weave_app P Q xs ys (by simpa using h)]
theorem wvA_app : ∀ (P Q : List (List It)) (xs ys : List It), P.length = xs.length → wvA (P ++ Q) (xs ++ ys) = wvA P xs ++ wvA Q ys
  | [], Q, [], ys, _ => rfl
  | [], _, _ :: _, _, h => by simp at h
  | _ :: _, _, [], _, h => by simp at h
  | s :: P, Q, x :: xs, ys, h => by
    simp only [List.cons_append, wvA, List.append_assoc]
    rw [wvA_app P Q xs ys (by simpa using h)]
theorem mem_wvA : ∀ (P : List (List It)) (xs : List It) (y : It), y ∈ wvA P xs → y ∈ xs ∨ ∃ s ∈ P, y ∈ s
  | [], _, y, h => by simp [wvA] at h
  | _ :: _, [], y, h => by simp [wvA] at h
  | s :: P, x :: xs, y, h => by
    simp only [wvA, List.mem_append, List.mem_cons] at h
    rcases h with h | h | h
    · exact .inr ⟨s, List.mem_cons_self .., h⟩
    · exact .inl (by rw [h]; exact List.mem_cons_self ..)
    · rcases mem_wvA P xs y h with h | ⟨t, ht, h⟩
      · exact .inl (List.mem_cons_of_mem _ h)
      · exact .inr ⟨t, List.mem_cons_of_mem _ ht, h⟩
theorem mem_weave : ∀ (P : List (List It)) (xs : List It) (y : It), y ∈ weave P xs → y ∈ xs ∨ ∃ s ∈ P, y ∈ s
  | [], _, y, h => by simp [weave] at h
  | s :: P, [], y, h => .inr ⟨s, List.mem_cons_self .., h⟩
  | s :: P, x :: xs, y, h => by
    simp only [weave, List.mem_append, List.mem_cons] at h
    rcases h with h | h | h
    · exact .inr ⟨s, List.mem_cons_self .., h⟩
    · exact .inl (by rw [h]; exact List.mem_cons_self ..)
    · rcases mem_weave P xs y h with h | ⟨t, ht, h⟩
      · exact .inl (List.mem_cons_of_mem _ h)
      · exact .inr ⟨t, List.mem_cons_of_mem _ ht, h⟩
theorem weave_key : ∀ (P : List (List It)) (xs : List It), P.length = xs.length + 1 → ∀ x ∈ xs, x ∈ weave P xs
  | [], xs, h, x, hx => by simp at h
  | s :: P, [], _, x, hx => by simp at hx
  | s :: P, y :: xs, h, x, hx => by
    simp only [weave, List.mem_append, List.mem_cons]
    rcases List.mem_cons.1 hx with rfl | hx
    · exact .inr (.inl rfl)
    · exact .inr (.inr (weave_key P xs (by simpa using h) x hx))
theorem weave_seg : ∀ (P : List (List It)) (xs : List It), P.length = xs.length + 1 → ∀ s ∈ P, ∀ x ∈ s, x ∈ weave P xs
  | [], xs, h, s, hs, x, hx => by simp at h
  | t :: P, [], h, s, hs, x, hx => by
    have : P = [] := List.eq_nil_of_length_eq_zero (by simpa using h)
    subst this
    rw [List.mem_singleton.1 hs] at hx
    exact hx
  | t :: P, y :: xs, h, s, hs, x, hx => by
    simp only [weave, List.mem_append, List.mem_cons]
    rcases List.mem_cons.1 hs with rfl | hs
    · exact .inl hx
    · exact .inr (.inr (weave_seg P xs (by simpa using h) s hs x hx))
theorem weave_len : ∀ (P : List (List It)) (xs : List It), P.length = xs.length + 1 → ∀ s ∈ P, s.length + xs.length ≤ (weave P xs).length
  | [], xs, h, s, hs => by simp at h
  | t :: P, [], h, s, hs => by
    have : P = [] := List.eq_nil_of_length_eq_zero (by simpa using h)
    subst this
    rw [List.mem_singleton.1 hs]
    simp [weave]
  | t :: P, y :: xs, h, s, hs => by
    simp only [weave, List.length_append, List.length_cons]
    have hl : P.length = xs.length + 1 := by simpa using h
    rcases List.mem_cons.1 hs with rfl | hs
    · cases P with
      | nil => simp at hl
      | cons u P =>
        have := weave_len (u :: P) xs hl u (List.mem_cons_self ..)
        omega
    · have := weave_len P xs hl s hs
      omega

/-- The items l as a node has them: its level, the segments of lesser levels, the items of its level. -/
structure Shp (lv : List Int → Nat) (l : List It) (L : Nat) (segs : List (List It)) (xs : List It) : Prop where
  len : segs.length = xs.length + 1
  pos : 0 < xs.length
  eq : l = weave segs xs
  top : ∀ x ∈ xs, lv x.k = L
  low : ∀ s ∈ segs, ∀ x ∈ s, lv x.k < L

section
variable {lv : List Int → Nat} {l : List It} {L : Nat} {segs : List (List It)} {xs : List It}
theorem Shp.shorter (h : Shp lv l L segs xs) : ∀ s ∈ segs, s.length < l.length := fun s hs => by
  have := weave_len segs xs h.len s hs
  have := h.pos
  rw [h.eq]
  omega
theorem Shp.le (h : Shp lv l L segs xs) : ∀ x ∈ l, lv x.k ≤ L := fun x hx => by
  rw [h.eq] at hx
  rcases mem_weave _ _ _ hx with h1 | ⟨s, hs, h1⟩
  · rw [h.top x h1]
    exact Nat.le_refl _
  · exact Nat.le_of_lt (h.low s hs x h1)
theorem Shp.key (h : Shp lv l L segs xs) : ∀ x ∈ xs, x ∈ l := fun x hx => by rw [h.eq]; exact weave_key _ _ h.len x hx
theorem Shp.seg (h : Shp lv l L segs xs) : ∀ s ∈ segs, ∀ x ∈ s, x ∈ l := fun s hs x hx => by rw [h.eq]; exact weave_seg _ _ h.len s hs x hx
/-- Parted at a place. -/
theorem Shp.at (h : Shp lv l L segs xs) (i : Nat) (hi : i ≤ xs.length) : ∃ s, segs[i]? = some s ∧ segs = segs.take i ++ s :: segs.drop (i + 1) ∧
    l = wvA (segs.take i) (xs.take i) ++ (s ++ (weave ([] :: segs.drop (i + 1)) (xs.drop i))) := by
  have hl := h.len
  have hlt : i < segs.length := by omega
  refine ⟨segs[i], List.getElem?_eq_getElem hlt, ?_, ?_⟩
  · rw [← List.drop_eq_getElem_cons hlt, List.take_append_drop]
  · conv => lhs; rw [h.eq, ← List.take_append_drop i segs, ← List.take_append_drop i xs]
    rw [weave_app _ _ _ _ (by simp; omega), List.drop_eq_getElem_cons hlt]
    congr 1
    cases hx : xs.drop i with
    | nil =>
      have : segs.drop (i + 1) = [] := by
        have := congrArg List.length hx
        simp at this
        apply List.drop_eq_nil_of_le
        omega
      rw [this]
      simp [weave]
    | cons y ys => simp [weave]
end

/-- How the items' shape is told by them alone. -/
def maxV (lv : List Int → Nat) : List It → Nat
  | [] => 0
  | x :: l => max (lv x.k) (maxV lv l)
def segsF (lv : List Int → Nat) (L : Nat) : List It → List (List It)
  | [] => [[]]
  | x :: l => if lv x.k = L then [] :: segsF lv L l else match segsF lv L l with
    | [] => [[x]]
    | s :: ss => (x :: s) :: ss
def keysF (lv : List Int → Nat) (L : Nat) (l : List It) : List It := l.filter fun x => decide (lv x.k = L)
theorem maxV_le (lv : List Int → Nat) : ∀ (l : List It) (L : Nat), (∀ x ∈ l, lv x.k ≤ L) → maxV lv l ≤ L
  | [], L, _ => Nat.zero_le _
  | x :: l, L, h => by
    have h1 := h x (List.mem_cons_self ..)
    have h2 := maxV_le lv l L (fun y hy => h y (List.mem_cons_of_mem _ hy))
    simp only [maxV]
    omega
theorem le_maxV (lv : List Int → Nat) : ∀ (l : List It), ∀ x ∈ l, lv x.k ≤ maxV lv l
  | [], x, h => by simp at h
  | y :: l, x, h => by
    simp only [maxV]
    rcases List.mem_cons.1 h with rfl | h
    · omega
    · have := le_maxV lv l x h
      omega
theorem segsF_low (lv : List Int → Nat) (L : Nat) : ∀ (s rest : List It), (∀ x ∈ s, lv x.k < L) → segsF lv L (s ++ rest) = match segsF lv L rest with
    | [] => [s]
    | t :: ss => (s ++ t) :: ss
  | [], rest, _ => by
    cases h : segsF lv L rest with
    | nil =>
      cases rest with
      | nil => simp [segsF] at h
      | cons y l =>
        simp only [segsF] at h
        split at h
        · simp at h
        · split at h <;> simp at h
    | cons t ss => simp [h]
  | x :: s, rest, hx => by
    have ih := segsF_low lv L s rest (fun y hy => hx y (List.mem_cons_of_mem _ hy))
    have h1 := hx x (List.mem_cons_self ..)
    rw [List.cons_append, segsF, if_neg (by omega), ih]
    cases segsF lv L rest <;> rfl
theorem segsF_weave (lv : List Int → Nat) (L : Nat) : ∀ (segs : List (List It)) (xs : List It), segs.length = xs.length + 1 → (∀ x ∈ xs, lv x.k = L) → (∀ s ∈ segs, ∀ x ∈ s, lv x.k < L) →
    segsF lv L (weave segs xs) = segs ∧ keysF lv L (weave segs xs) = xs
  | [], xs, h, _, _ => by simp at h
  | s :: ss, [], h, _, hl => by
    have : ss = [] := List.eq_nil_of_length_eq_zero (by simpa using h)
    subst this
    have h1 := hl s (List.mem_cons_self ..)
    have h2 := segsF_low lv L s [] h1
    constructor
    · simpa [weave, segsF] using h2
    · simp only [weave, keysF]
      exact List.filter_eq_nil_iff.2 fun x hx => by have := h1 x hx; simp; omega
  | s :: ss, x :: xs, h, ht, hl => by
    have ih := segsF_weave lv L ss xs (by simpa using h) (fun y hy => ht y (List.mem_cons_of_mem _ hy)) (fun t ht' => hl t (List.mem_cons_of_mem _ ht'))
    have h1 := hl s (List.mem_cons_self ..)
    have hx := ht x (List.mem_cons_self ..)
    have h2 := segsF_low lv L s (x :: weave ss xs) h1
    constructor
    · rw [weave, h2, segsF, if_pos hx, ih.1]
      simp
    · rw [weave]
      unfold keysF at ih ⊢
      rw [List.filter_append, List.filter_cons, ih.2, if_pos (by simpa using hx), List.filter_eq_nil_iff.2 (fun y hy => by have := h1 y hy; simp; omega), List.nil_append]
theorem Shp.unique {lv : List Int → Nat} {l : List It} {L : Nat} {segs : List (List It)} {xs : List It} (h : Shp lv l L segs xs) : L = maxV lv l ∧ segs = segsF lv L l ∧ xs = keysF lv L l := by
  have h1 := segsF_weave lv L segs xs h.len h.top h.low
  rw [← h.eq] at h1
  refine ⟨?_, h1.1.symm, h1.2.symm⟩
  apply Nat.le_antisymm
  · have hp := h.pos
    have hm := h.key xs[0] (List.getElem_mem hp)
    have := le_maxV lv l _ hm
    rw [h.top _ (List.getElem_mem hp)] at this
    exact this
  · exact maxV_le lv l L h.le
end Go.Proofs.YtnicnfjickknjaaGreatDoor

namespace Go.Proofs.YtnicnfjickknjaaGreatDoor

def encF : Nat → Nat → List Int
  | 0, n => [(n : Int)]
  | f + 1, n => if n < 128 then [(n : Int)] else ((n % 128 + 128 : Nat) : Int) :: encF f (n / 128)
/-- A number's form. -/
def enc (n : Nat) : List Int := encF 10 n

theorem encF_succ (f n : Nat) : encF (f + 1) n = if n < 128 then [(n : Int)] else ((n % 128 + 128 : Nat) : Int) :: encF f (n / 128) := rfl
theorem encF_stable (f : Nat) : ∀ n, n < 128 ^ (f + 1) → encF (f + 1) n = encF f n := by
  induction f with
  | zero => intro n h; simp [encF]; omega
  | succ f ih =>
    intro n h
    rw [encF_succ (f + 1) n, encF_succ f n]
    split
    · rfl
    · rw [ih (n / 128) (by rw [Nat.div_lt_iff_lt_mul (by decide)]; rw [Nat.pow_succ] at h; exact h)]
theorem enc_small {n : Nat} (h : n < 128) : enc n = [(n : Int)] := by simp [enc, encF, h]
theorem enc_big {n : Nat} (h : 128 ≤ n) (h2 : n < 18446744073709551616) : enc n = ((n % 128 + 128 : Nat) : Int) :: enc (n / 128) := by
  have : enc n = ((n % 128 + 128 : Nat) : Int) :: encF 9 (n / 128) := by
    unfold enc
    rw [encF_succ, if_neg (by omega)]
  rw [this]
  unfold enc
  rw [encF_stable 9 (n / 128) (by omega)]
theorem encF_length (f : Nat) : ∀ n, (encF f n).length ≤ f + 1 := by
  induction f with
  | zero => intro n; simp [encF]
  | succ f ih =>
    intro n
    rw [encF_succ]
    split
    · simp
    · have := ih (n / 128)
      simp; omega
theorem enc_length {n : Nat} (h : n < 18446744073709551616) : (enc n).length ≤ 10 := by
  unfold enc
  rw [encF_stable 9 n (by omega)]
  exact encF_length 9 n
theorem enc_pos (n : Nat) : 1 ≤ (enc n).length := by
  unfold enc
  rw [encF_succ]
  split <;> simp
theorem encF_byte (f : Nat) : ∀ n, n < 128 ^ (f + 1) → ∀ x ∈ encF f n, 0 ≤ x ∧ x ≤ 255 := by
  induction f with
  | zero => intro n h x hx; simp [encF] at hx; omega
  | succ f ih =>
    intro n h x hx
    rw [encF_succ] at hx
    split at hx
    · simp at hx; omega
    · simp only [List.mem_cons] at hx
      rcases hx with hx | hx
      · omega
      · exact ih (n / 128) (by rw [Nat.div_lt_iff_lt_mul (by decide)]; rw [Nat.pow_succ] at h; exact h) x hx
theorem enc_byte {n : Nat} (h : n < 18446744073709551616) : ∀ x ∈ enc n, 0 ≤ x ∧ x ≤ 255 := by
  intro x hx
  exact encF_byte 10 n (by omega) x hx

/-- What is read of a number: the number, how many bytes it took, and what was wrong (0: nothing, 2: too short, 3: no form). i bytes are read, acc is what they tell. -/
def tk : Nat → Nat → List Int → Nat × Nat × Nat
  | _, _, [] => (0, 0, 2)
  | i, acc, c :: r =>
    if i = 9 ∧ 1 < c then (0, 0, 3) else
    if c = 0 ∧ 0 < i then (0, 0, 3) else
    if 128 ≤ c then tk (i + 1) (acc + (c % 128).toNat * 128 ^ i) r else (acc + (c % 128).toNat * 128 ^ i, i + 1, 0)

theorem tk_used : ∀ (xs : List Int) (i acc : Nat), (tk i acc xs).2.2 = 0 → i < (tk i acc xs).2.1 ∧ (tk i acc xs).2.1 ≤ i + xs.length := by
  intro xs
  induction xs with
  | nil => intro i acc h; simp [tk] at h
  | cons c r ih =>
    intro i acc h
    unfold tk at h ⊢
    split at h
    · simp at h
    · rename_i h1
      rw [if_neg h1]
      split at h
      · simp at h
      · rename_i h2
        rw [if_neg h2]
        split at h
        · rename_i h3
          rw [if_pos h3]
          have := ih _ _ h
          simp only [List.length_cons]
          omega
        · rename_i h3
          rw [if_neg h3]
          simp

theorem pow_le_63 (i : Nat) (h : i ≤ 9) : (128 : Nat) ^ i ≤ 9223372036854775808 :=
  Nat.le_trans (Nat.pow_le_pow_right (by decide) h) (by decide)
theorem sum_lt (acc i : Nat) (c : Int) (hacc : acc < 128 ^ i) (hi : i ≤ 9) (h9 : i = 9 → c ≤ 1) (hc : 0 ≤ c) :
    acc + (c % 128).toNat * 128 ^ i < 18446744073709551616 ∧ acc + (c % 128).toNat * 128 ^ i < 128 ^ (i + 1) := by
  have hx : (c % 128).toNat ≤ 127 := by omega
  constructor
  · by_cases h : i = 9
    · subst h
      have := h9 rfl
      have h1 : (c % 128).toNat ≤ 1 := by omega
      have := Nat.mul_le_mul_right (128 ^ 9) h1
      have e : (128 : Nat) ^ 9 = 9223372036854775808 := by decide
      rw [e] at *
      omega
    · have h8 : (128 : Nat) ^ i ≤ 128 ^ 8 := Nat.pow_le_pow_right (by decide) (by omega)
      have e : (128 : Nat) ^ 8 = 72057594037927936 := by decide
      have := Nat.mul_le_mul hx h8
      rw [e] at *
      omega
  · rw [Nat.pow_succ]
    have := Nat.mul_le_mul_right (128 ^ i) hx
    omega

theorem tk_lt : ∀ (xs : List Int) (i acc : Nat), (∀ x ∈ xs, 0 ≤ x ∧ x ≤ 255) → i ≤ 9 → acc < 128 ^ i → (tk i acc xs).1 < 18446744073709551616 := by
  intro xs
  induction xs with
  | nil => intro i acc _ _ _; simp [tk]
  | cons c r ih =>
    intro i acc hb hi hacc
    have hc := hb c (by simp)
    unfold tk
    split
    · simp
    · rename_i h1
      split
      · simp
      · have hs := sum_lt acc i c hacc hi (by omega) hc.1
        split
        · exact ih _ _ (fun x hx => hb x (by simp [hx])) (by omega) hs.2
        · exact hs.1

end Go.Proofs.YtnicnfjickknjaaGreatDoor

namespace Go.Proofs.YtnicnfjickknjaaGreatDoor

theorem tk_cons' (i acc : Nat) (c : Int) (r : List Int) : tk i acc (c :: r) = if i = 9 ∧ 1 < c then (0, 0, 3) else if c = 0 ∧ 0 < i then (0, 0, 3) else if 128 ≤ c then tk (i + 1) (acc + (c % 128).toNat * 128 ^ i) r else (acc + (c % 128).toNat * 128 ^ i, i + 1, 0) := rfl

theorem nine_small {n acc : Nat} (h : acc + n * 128 ^ 9 < 18446744073709551616) : n ≤ 1 := by
  have e : (128 : Nat) ^ 9 = 9223372036854775808 := by decide
  rw [e] at h
  omega

theorem tk_last (i acc n : Nat) (rest : List Int) (hn : n < 128) (hi : i ≤ 9) (hs : acc + n * 128 ^ i < 18446744073709551616) (hp : 0 < i → 0 < n) : tk i acc ((n : Int) :: rest) = (acc + n * 128 ^ i, i + 1, 0) := by
  rw [tk_cons']
  have h9 : ¬ (i = 9 ∧ 1 < (n : Int)) := by
    rintro ⟨rfl, h⟩
    have := nine_small hs
    omega
  rw [if_neg h9, if_neg (by omega), if_neg (by omega)]
  rw [show ((n : Int) % 128).toNat = n from by omega]

theorem tk_encF (f : Nat) : ∀ (i acc n : Nat) (rest : List Int), n < 128 ^ (f + 1) → i + f ≤ 9 → acc + n * 128 ^ i < 18446744073709551616 → (0 < i → 0 < n) →
    tk i acc (encF f n ++ rest) = (acc + n * 128 ^ i, i + (encF f n).length, 0) := by
  induction f with
  | zero =>
    intro i acc n rest hn hi hs hp
    exact tk_last i acc n rest (by simpa using hn) (by omega) hs hp
  | succ f ih =>
    intro i acc n rest hn hi hs hp
    rw [encF_succ]
    by_cases h : n < 128
    · rw [if_pos h]
      exact tk_last i acc n rest h (by omega) hs hp
    · rw [if_neg h, List.cons_append, tk_cons', if_neg (by omega), if_neg (by omega), if_pos (by omega)]
      have e1 : (((n % 128 + 128 : Nat) : Int) % 128).toNat = n % 128 := by omega
      have e2 : acc + n % 128 * 128 ^ i + n / 128 * 128 ^ (i + 1) = acc + n * 128 ^ i := by
        have : n / 128 * 128 ^ (i + 1) = (n / 128 * 128) * 128 ^ i := by rw [Nat.pow_succ, Nat.mul_assoc, Nat.mul_comm 128]
        rw [this, Nat.add_assoc, ← Nat.add_mul]
        congr 2
        omega
      rw [e1, ih (i + 1) _ (n / 128) rest (by rw [Nat.div_lt_iff_lt_mul (by decide)]; rw [Nat.pow_succ] at hn; exact hn) (by omega) (by rw [e2]; exact hs) (by omega), e2]
      simp only [List.length_cons]
      congr 2
      omega

theorem enc9 {n : Nat} (h : n < 18446744073709551616) : enc n = encF 9 n := by
  unfold enc
  rw [encF_stable 9 n (by omega)]

/-- What was put is read. -/
theorem tk_enc {n : Nat} (h : n < 18446744073709551616) (rest : List Int) : tk 0 0 (enc n ++ rest) = (n, (enc n).length, 0) := by
  rw [enc9 h, tk_encF 9 0 0 n rest (by omega) (by omega) (by omega) (by omega)]
  simp

/-- What is read is what would be put. -/
theorem tk_form : ∀ (xs : List Int) (i acc m u : Nat), (∀ x ∈ xs, 0 ≤ x ∧ x ≤ 255) → i ≤ 9 → acc < 128 ^ i → tk i acc xs = (m, u, 0) →
    ∃ n, m = acc + n * 128 ^ i ∧ xs.take (u - i) = enc n ∧ (0 < i → 0 < n) ∧ i < u ∧ m < 18446744073709551616 := by
  intro xs
  induction xs with
  | nil => intro i acc m u _ _ _ h; simp [tk] at h
  | cons c r ih =>
    intro i acc m u hb hi hacc h
    have hc := hb c (by simp)
    rw [tk_cons'] at h
    by_cases h1 : i = 9 ∧ 1 < c
    · rw [if_pos h1] at h; simp at h
    · rw [if_neg h1] at h
      by_cases h2 : c = 0 ∧ 0 < i
      · rw [if_pos h2] at h; simp at h
      · rw [if_neg h2] at h
        have hs := sum_lt acc i c hacc hi (by omega) hc.1
        by_cases h3 : 128 ≤ c
        · rw [if_pos h3] at h
          obtain ⟨n, hm, ht, hp, hu, hlt⟩ := ih (i + 1) _ m u (fun x hx => hb x (by simp [hx])) (by omega) hs.2 h
          have hn := hp (by omega)
          obtain ⟨d, hd⟩ : ∃ d : Nat, c = ((d + 128 : Nat) : Int) := ⟨(c - 128).toNat, by omega⟩
          have hd1 : (c % 128).toNat = d := by omega
          have hd2 : d < 128 := by omega
          have e : acc + d * 128 ^ i + n * 128 ^ (i + 1) = acc + (d + n * 128) * 128 ^ i := by
            rw [Nat.pow_succ, Nat.mul_comm (128 ^ i) 128, ← Nat.mul_assoc, Nat.add_assoc, ← Nat.add_mul]
          rw [hd1, e] at hm
          refine ⟨d + n * 128, hm, ?_, by omega, by omega, hlt⟩
          have hge : (d + n * 128) ≤ (d + n * 128) * 128 ^ i := Nat.le_mul_of_pos_right _ (Nat.pow_pos (by decide))
          rw [enc_big (n := d + n * 128) (by omega) (by omega)]
          rw [show (d + n * 128) / 128 = n from by omega, show (d + n * 128) % 128 = d from by omega]
          rw [show u - i = (u - (i + 1)) + 1 from by omega, List.take_succ_cons, ht, hd]
        · rw [if_neg h3] at h
          simp only [Prod.mk.injEq] at h
          obtain ⟨hm, hu, _⟩ := h
          obtain ⟨d, rfl⟩ : ∃ d : Nat, c = (d : Int) := ⟨c.toNat, by omega⟩
          have e1 : ((d : Int) % 128).toNat = d := by omega
          rw [e1] at hm hs
          refine ⟨d, hm.symm, ?_, by omega, by omega, by omega⟩
          rw [← hu, enc_small (by omega), show i + 1 - i = 1 from by omega]
          simp

theorem tk_back {xs : List Int} {m u : Nat} (hb : ∀ x ∈ xs, 0 ≤ x ∧ x ≤ 255) (h : tk 0 0 xs = (m, u, 0)) : xs.take u = enc m ∧ m < 18446744073709551616 := by
  obtain ⟨n, hm, ht, _, _, hlt⟩ := tk_form xs 0 0 m u hb (by omega) (by decide) h
  simp at hm ht
  subst hm
  exact ⟨ht, hlt⟩

/-- How many groups are left. -/
def ln (y : Nat) : Nat := if y = 0 then 0 else (enc y).length
theorem enc_ln {n : Nat} (h : n < 18446744073709551616) : (enc n).length = 1 + ln (n / 128) := by
  unfold ln
  by_cases h1 : n < 128
  · rw [enc_small h1, if_pos (by omega)]; rfl
  · rw [enc_big (by omega) h, if_neg (by omega), List.length_cons]; omega
theorem ln_step {y : Nat} (h0 : 0 < y) (h : y < 18446744073709551616) : ln y = 1 + ln (y / 128) := by
  rw [← enc_ln h]
  unfold ln
  rw [if_neg (by omega)]

theorem encF_mono (f : Nat) : ∀ a b, a ≤ b → (encF f a).length ≤ (encF f b).length := by
  induction f with
  | zero => intro a b _; simp [encF]
  | succ f ih =>
    intro a b h
    rw [encF_succ, encF_succ]
    by_cases h1 : a < 128
    · rw [if_pos h1]
      by_cases h2 : b < 128
      · rw [if_pos h2]; simp
      · rw [if_neg h2]; simp
    · rw [if_neg h1, if_neg (by omega)]
      have := ih (a / 128) (b / 128) (by omega)
      simpa using this
theorem enc_mono {a b : Nat} (h : a ≤ b) : (enc a).length ≤ (enc b).length := encF_mono 10 a b h

/-- No number's form begins another one's. -/
theorem enc_prefix {a b : Nat} (ha : a < 18446744073709551616) (hb : b < 18446744073709551616) (k : Nat) (h : enc a = (enc b).take k) : a = b := by
  have h1 := tk_enc hb []
  have h2 := tk_enc ha ((enc b).drop k)
  rw [List.append_nil] at h1
  rw [h, List.take_append_drop, h1] at h2
  simp only [Prod.mk.injEq] at h2
  omega
theorem enc_inj {a b : Nat} (ha : a < 18446744073709551616) (hb : b < 18446744073709551616) (h : enc a = enc b) : a = b :=
  enc_prefix ha hb (enc b).length (by rw [List.take_length]; exact h)

end Go.Proofs.YtnicnfjickknjaaGreatDoor

namespace Go.Proofs.YtnicnfjickknjaaGreatDoor
open Go.RowKit

/-- What Uint tells, and the reader behind it. -/
def uintS (xs : List Int) (k : Int) : Nat × List Int × Int :=
  if k = 0 then (if (tk 0 0 xs).2.2 = 0 then ((tk 0 0 xs).1, xs.drop (tk 0 0 xs).2.1, 0) else (0, [], ((tk 0 0 xs).2.2 : Nat))) else (0, xs, k)

/-- What Int tells, and the reader behind it. -/
def intS (xs : List Int) (k most : Int) : Nat × List Int × Int :=
  if (uintS xs k).2.2 = 0 then (if most < 0 ∨ most < (uintS xs k).1 then (0, [], 4) else uintS xs k) else (0, (uintS xs k).2)
/-- What Bytes tells, and the reader behind it. -/
def bytesS (xs : List Int) (k most : Int) : List Int × List Int × Int :=
  if (intS xs k most).2.2 = 0 then (if (intS xs k most).2.1.length < (intS xs k most).1 then ([], [], 2) else ((intS xs k most).2.1.take (intS xs k most).1, (intS xs k most).2.1.drop (intS xs k most).1, 0)) else ([], (intS xs k most).2)
/-- What Bool tells, and the reader behind it. -/
def boolS (xs : List Int) (k : Int) : Bool × List Int × Int :=
  if k = 0 then (match xs with
    | [] => (false, [], 2)
    | c :: r => if 1 < c then (false, [], 3) else (c == 1, r, 0)) else (false, xs, k)

theorem uintS_lt {xs : List Int} {k : Int} (hb : Byt xs) : (uintS xs k).1 < 18446744073709551616 := by
  unfold uintS
  split
  · split
    · exact tk_lt xs 0 0 hb (by omega) (by decide)
    · simp
  · simp

/-- What Done tells. -/
def doneS (xs : List Int) (k : Int) : Int := if k = 0 then (if xs = [] then 0 else 3) else k
/-- A truth's form. -/
def enb (b : Bool) : List Int := if b then [1] else [0]
theorem enb_byte (b : Bool) : Byt (enb b) := by
  intro x hx
  cases b <;> simp [enb] at hx <;> omega

theorem uintS_enc {k : Nat} (hk : k < 18446744073709551616) (xs : List Int) : uintS (enc k ++ xs) 0 = (k, xs, 0) := by
  unfold uintS
  rw [if_pos rfl, tk_enc hk xs]
  simp

theorem bytesS_put {xs : List Int} {n : Nat} (hl : xs.length = n) (hn : n < 18446744073709551616) (rest : List Int) (most : Int) :
    bytesS (enc n ++ (xs ++ rest)) 0 most = if most < 0 ∨ most < n then ([], [], 4) else (xs, rest, 0) := by
  unfold bytesS intS
  rw [uintS_enc hn]
  simp only [if_true]
  by_cases h : most < 0 ∨ most < (n : Int)
  · rw [if_pos h]; simp [h]
  · rw [if_neg h]
    simp only [h, if_false]
    rw [if_pos trivial, if_neg (by simp; omega)]
    rw [← hl]
    simp
theorem boolS_put (b : Bool) (rest : List Int) : boolS (enb b ++ rest) 0 = (b, rest, 0) := by
  cases b <;> simp [boolS, enb]
/-- What the reference's Uint tells, and its reader behind it: it keeps its bytes where something is wrong. -/
def uintT (xs : List Int) (k : Int) : Nat × List Int × Int :=
  if k = 0 then (if (tk 0 0 xs).2.2 = 0 then ((tk 0 0 xs).1, xs.drop (tk 0 0 xs).2.1, 0) else (0, xs, ((tk 0 0 xs).2.2 : Nat))) else (0, xs, k)

theorem uintT_ok {xs : List Int} {m u : Nat} (h : tk 0 0 xs = (m, u, 0)) : uintT xs 0 = (m, xs.drop u, 0) := by
  unfold uintT
  rw [if_pos rfl, h]
  rfl
theorem uintT_bad {xs : List Int} {m u q : Nat} (h : tk 0 0 xs = (m, u, q)) (hq : q ≠ 0) : uintT xs 0 = (0, xs, (q : Int)) := by
  unfold uintT
  rw [if_pos rfl, h]
  simp [hq]
def intT (xs : List Int) (k most : Int) : Nat × List Int × Int :=
  if (uintT xs k).2.2 = 0 then (if most < 0 ∨ most < (uintT xs k).1 then (0, (uintT xs k).2.1, 4) else uintT xs k) else (0, (uintT xs k).2)
def bytesT (xs : List Int) (k most : Int) : List Int × List Int × Int :=
  if (intT xs k most).2.2 = 0 then (if (intT xs k most).2.1.length < (intT xs k most).1 then ([], (intT xs k most).2.1, 2) else ((intT xs k most).2.1.take (intT xs k most).1, (intT xs k most).2.1.drop (intT xs k most).1, 0)) else ([], (intT xs k most).2)
def boolT (xs : List Int) (k : Int) : Bool × List Int × Int :=
  if k = 0 then (match xs with
    | [] => (false, [], 2)
    | c :: r => if 1 < c then (false, c :: r, 3) else (c == 1, r, 0)) else (false, xs, k)

theorem uintT_lt {xs : List Int} {k : Int} (hb : Byt xs) : (uintT xs k).1 < 18446744073709551616 := by
  unfold uintT
  split
  · split
    · exact tk_lt xs 0 0 hb (by omega) (by decide)
    · simp
  · simp

theorem uint_same {xs ys : List Int} {k : Int} (h : k = 0 → xs = ys) : (uintT ys k).1 = (uintS xs k).1 ∧ (uintT ys k).2.2 = (uintS xs k).2.2 ∧ ((uintS xs k).2.2 = 0 → (uintS xs k).2.1 = (uintT ys k).2.1) := by
  unfold uintS uintT
  by_cases hk : k = 0
  · obtain rfl := h hk
    rw [if_pos hk, if_pos hk]
    by_cases hq : (tk 0 0 xs).2.2 = 0
    · rw [if_pos hq, if_pos hq]; exact ⟨rfl, rfl, fun _ => rfl⟩
    · rw [if_neg hq, if_neg hq]; exact ⟨rfl, rfl, fun h => by simp at h; omega⟩
  · rw [if_neg hk, if_neg hk]; exact ⟨rfl, rfl, fun h => absurd h hk⟩

theorem int_same {xs ys : List Int} {k : Int} (h : k = 0 → xs = ys) (most : Int) : (intT ys k most).1 = (intS xs k most).1 ∧ (intT ys k most).2.2 = (intS xs k most).2.2 ∧ ((intS xs k most).2.2 = 0 → (intS xs k most).2.1 = (intT ys k most).2.1) := by
  obtain ⟨h1, h2, h3⟩ := uint_same h
  unfold intS intT
  rw [h1, h2]
  by_cases hq : (uintS xs k).2.2 = 0
  · rw [if_pos hq, if_pos hq]
    by_cases hb : most < 0 ∨ most < ((uintS xs k).1 : Int)
    · rw [if_pos hb, if_pos hb]; exact ⟨rfl, rfl, fun h => by simp at h⟩
    · rw [if_neg hb, if_neg hb]; exact ⟨h1, h2, h3⟩
  · rw [if_neg hq, if_neg hq]; exact ⟨rfl, h2, h3⟩

theorem bytes_same {xs ys : List Int} {k : Int} (h : k = 0 → xs = ys) (most : Int) : (bytesT ys k most).1 = (bytesS xs k most).1 ∧ (bytesT ys k most).2.2 = (bytesS xs k most).2.2 ∧ ((bytesS xs k most).2.2 = 0 → (bytesS xs k most).2.1 = (bytesT ys k most).2.1) := by
  obtain ⟨h1, h2, h3⟩ := int_same h most
  unfold bytesS bytesT
  rw [h1, h2]
  by_cases hq : (intS xs k most).2.2 = 0
  · rw [if_pos hq, if_pos hq, ← h3 hq]
    by_cases hb : (intS xs k most).2.1.length < (intS xs k most).1
    · rw [if_pos hb, if_pos hb]; exact ⟨rfl, rfl, fun h => by simp at h⟩
    · rw [if_neg hb, if_neg hb]; exact ⟨rfl, rfl, fun _ => rfl⟩
  · rw [if_neg hq, if_neg hq]; exact ⟨rfl, h2, h3⟩

theorem bool_same {xs ys : List Int} {k : Int} (h : k = 0 → xs = ys) : (boolT ys k).1 = (boolS xs k).1 ∧ (boolT ys k).2.2 = (boolS xs k).2.2 ∧ ((boolS xs k).2.2 = 0 → (boolS xs k).2.1 = (boolT ys k).2.1) := by
  by_cases hk : k = 0
  · obtain rfl := h hk
    subst hk
    cases xs with
    | nil => exact ⟨rfl, rfl, fun h => by simp [boolS] at h⟩
    | cons c r =>
      by_cases hc : 1 < c
      · simp [boolS, boolT, hc]
      · simp [boolS, boolT, hc]
  · simp [boolS, boolT, hk]

theorem left_same {xs ys : List Int} {k : Int} (h : k = 0 → xs = ys) : (if k = 0 then (ys.length : Int) else 0) = (if k = 0 then (xs.length : Int) else 0) := by
  by_cases hk : k = 0
  · rw [h hk]
  · rw [if_neg hk, if_neg hk]
theorem done_same {xs ys : List Int} {k : Int} (h : k = 0 → xs = ys) : doneS ys k = doneS xs k := by
  by_cases hk : k = 0
  · rw [h hk]
  · simp [doneS, hk]

end Go.Proofs.YtnicnfjickknjaaGreatDoor

namespace Go.Proofs.YtnicnfjickknjaaGreatDoor

/-- What a reader tells: what was wrong, or a thing and what is left. -/
abbrev Rs (α : Type) := Sum Int (α × List Int)
def then_ {α β : Type} (r : Rs α) (f : α → List Int → Rs β) : Rs β :=
  match r with
  | .inl k => .inl k
  | .inr (v, rest) => f v rest
theorem then_good {α β : Type} {r : Rs α} {f : α → List Int → Rs β} {b : β} {rest : List Int} (h : then_ r f = .inr (b, rest)) : ∃ a r', r = .inr (a, r') ∧ f a r' = .inr (b, rest) := by
  match r, h with
  | .inl k, h => simp [then_] at h
  | .inr (a, r'), h => exact ⟨a, r', rfl, h⟩

/-- A reader P reads just what f puts, of things that are ok. -/
structure Good {α : Type} (P : List Int → Rs α) (f : α → List Int) (ok : α → Prop) : Prop where
  put : ∀ v rest, ok v → P (f v ++ rest) = .inr (v, rest)
  back : ∀ xs v rest, Byt xs → P xs = .inr (v, rest) → xs = f v ++ rest ∧ ok v
  cut : ∀ v c, ok v → c < (f v).length → P ((f v).take c) = .inl 2

theorem byt_right {xs ys : List Int} (h : Byt (xs ++ ys)) : Byt ys := fun x hx => h x (List.mem_append_right _ hx)
theorem byt_left {xs ys : List Int} (h : Byt (xs ++ ys)) : Byt xs := fun x hx => h x (List.mem_append_left _ hx)

/-- One behind the other; the second may lean on what the first read. -/
def andThen {α β : Type} (P : List Int → Rs α) (Q : α → List Int → Rs β) (xs : List Int) : Rs (α × β) := then_ (P xs) fun a r => then_ (Q a r) fun b r' => .inr ((a, b), r')
theorem Good.andThen {α β : Type} {P : List Int → Rs α} {Q : α → List Int → Rs β} {f : α → List Int} {g : α → β → List Int} {okP : α → Prop} {okQ : α → β → Prop} (h : Good P f okP) (k : ∀ a, okP a → Good (Q a) (g a) (okQ a)) :
    Good (andThen P Q) (fun p => f p.1 ++ g p.1 p.2) (fun p => okP p.1 ∧ okQ p.1 p.2) := by
  refine ⟨?_, ?_, ?_⟩
  · rintro ⟨a, b⟩ rest ⟨h1, h2⟩
    unfold Go.Proofs.YtnicnfjickknjaaGreatDoor.andThen
    simp only [List.append_assoc]
    rw [h.put a _ h1]
    simp only [then_]
    rw [(k a h1).put b _ h2]
  · rintro xs ⟨a, b⟩ rest hb hx
    obtain ⟨a', r', e1, hx⟩ := then_good hx
    obtain ⟨b', r'', e2, hx⟩ := then_good hx
    simp only [Sum.inr.injEq, Prod.mk.injEq] at hx
    obtain ⟨⟨rfl, rfl⟩, rfl⟩ := hx
    obtain ⟨x1, o1⟩ := h.back xs _ _ hb e1
    subst x1
    obtain ⟨x2, o2⟩ := (k _ o1).back _ _ _ (byt_right hb) e2
    refine ⟨?_, o1, o2⟩
    rw [x2, List.append_assoc]
  · rintro ⟨a, b⟩ c ⟨h1, h2⟩ hc
    unfold Go.Proofs.YtnicnfjickknjaaGreatDoor.andThen
    simp only [List.length_append] at hc
    by_cases l : c < (f a).length
    · simp only [List.take_append_of_le_length (Nat.le_of_lt l)]
      rw [h.cut a c h1 l]
      rfl
    · have e : (f a ++ g a b).take c = f a ++ (g a b).take (c - (f a).length) := by
        rw [List.take_append, List.take_of_length_le (by omega)]
      simp only [e]
      rw [h.put a _ h1]
      simp only [then_]
      rw [(k a h1).cut b _ h2 (by omega)]

/-- The same thing in another dress. -/
def dress {α β : Type} (t : α → β) : Rs α → Rs β
  | .inl k => .inl k
  | .inr (v, rest) => .inr (t v, rest)
theorem dress_good {α β : Type} {t : α → β} {r : Rs α} {b : β} {rest : List Int} (h : dress t r = .inr (b, rest)) : ∃ a, r = .inr (a, rest) ∧ t a = b := by
  match r, h with
  | .inl k, h => simp [dress] at h
  | .inr (a, r'), h =>
    simp only [dress, Sum.inr.injEq, Prod.mk.injEq] at h
    exact ⟨a, by rw [h.2], h.1⟩
theorem Good.map {α β : Type} {P : List Int → Rs α} {f : α → List Int} {ok : α → Prop} (h : Good P f ok) (t : α → β) (u : β → α) (ok' : β → Prop) (h1 : ∀ b, ok' b → t (u b) = b ∧ ok (u b)) (h2 : ∀ a, ok a → u (t a) = a ∧ ok' (t a)) :
    Good (fun xs => dress t (P xs)) (fun b => f (u b)) ok' := by
  refine ⟨?_, ?_, ?_⟩
  · intro b rest hb
    simp only [h.put _ rest (h1 b hb).2, dress, (h1 b hb).1]
  · intro xs b rest hx hb
    obtain ⟨a, e, rfl⟩ := dress_good hb
    obtain ⟨x1, o1⟩ := h.back xs a rest hx e
    rw [(h2 a o1).1]
    exact ⟨x1, (h2 a o1).2⟩
  · intro b c hb hc
    simp only [h.cut _ c (h1 b hb).2 hc, dress]
theorem Good.only {α : Type} {P : List Int → Rs α} {f g : α → List Int} {ok ok' : α → Prop} (h : Good P f ok) (hk : ∀ a, ok a ↔ ok' a) (hf : ∀ a, ok a → f a = g a) : Good P g ok' := by
  refine ⟨?_, ?_, ?_⟩
  · intro v rest hv
    rw [← hf v ((hk v).2 hv)]
    exact h.put v rest ((hk v).2 hv)
  · intro xs v rest hb hx
    obtain ⟨e, o⟩ := h.back xs v rest hb hx
    rw [← hf v o]
    exact ⟨e, (hk v).1 o⟩
  · intro v c hv hc
    rw [← hf v ((hk v).2 hv)] at hc ⊢
    exact h.cut v c ((hk v).2 hv) hc

/-- n things, one behind the other. -/
def pRep {α : Type} (P : List Int → Rs α) : Nat → List Int → Rs (List α)
  | 0, xs => .inr ([], xs)
  | n + 1, xs => then_ (P xs) fun a r => then_ (pRep P n r) fun l r' => .inr ((a :: l), r')
theorem Good.rep {α : Type} {P : List Int → Rs α} {f : α → List Int} {ok : α → Prop} (h : Good P f ok) : ∀ n, Good (pRep P n) (fun l => (l.map f).flatten) (fun l => l.length = n ∧ ∀ a ∈ l, ok a)
  | 0 => by
    refine ⟨?_, ?_, ?_⟩
    · rintro l rest ⟨h1, _⟩
      obtain rfl := List.eq_nil_of_length_eq_zero h1
      rfl
    · rintro xs l rest _ hx
      simp only [pRep, Sum.inr.injEq, Prod.mk.injEq] at hx
      obtain ⟨rfl, rfl⟩ := hx
      simp
    · rintro l c ⟨h1, _⟩ hc
      obtain rfl := List.eq_nil_of_length_eq_zero h1
      simp at hc
  | n + 1 => by
    have ih := h.rep n
    refine ⟨?_, ?_, ?_⟩
    · rintro l rest ⟨h1, h2⟩
      cases l with
      | nil => simp at h1
      | cons a l =>
        simp only [List.map_cons, List.flatten_cons, List.append_assoc]
        unfold pRep
        rw [h.put a _ (h2 a (List.mem_cons_self ..))]
        simp only [then_]
        have := ih.put l rest ⟨by simpa using h1, fun x hx => h2 x (List.mem_cons_of_mem _ hx)⟩
        rw [this]
    · rintro xs l rest hb hx
      obtain ⟨a, r', e1, hx⟩ := then_good hx
      obtain ⟨l', r'', e2, hx⟩ := then_good hx
      simp only [Sum.inr.injEq, Prod.mk.injEq] at hx
      obtain ⟨rfl, rfl⟩ := hx
      obtain ⟨x1, o1⟩ := h.back xs a r' hb e1
      subst x1
      obtain ⟨x2, o2, o3⟩ := ih.back _ _ _ (byt_right hb) e2
      refine ⟨?_, by simp [o2], ?_⟩
      · rw [x2]; simp
      · intro x hx
        rcases List.mem_cons.1 hx with rfl | hx
        · exact o1
        · exact o3 x hx
    · rintro l c ⟨h1, h2⟩ hc
      cases l with
      | nil => simp at h1
      | cons a l =>
        simp only [List.map_cons, List.flatten_cons, List.length_append] at hc ⊢
        have ok1 := h2 a (List.mem_cons_self ..)
        unfold pRep
        by_cases q : c < (f a).length
        · rw [List.take_append_of_le_length (Nat.le_of_lt q), h.cut a c ok1 q]
          rfl
        · rw [List.take_append, List.take_of_length_le (by omega), h.put a _ ok1]
          simp only [then_]
          have := ih.cut l (c - (f a).length) ⟨by simpa using h1, fun x hx => h2 x (List.mem_cons_of_mem _ hx)⟩ (by omega)
          simp only [this]

def pUint (xs : List Int) : Rs Nat := if (tk 0 0 xs).2.2 = 0 then .inr ((tk 0 0 xs).1, xs.drop (tk 0 0 xs).2.1) else .inl ((tk 0 0 xs).2.2 : Nat)
def pInt (most : Nat) (xs : List Int) : Rs Nat := then_ (pUint xs) fun n r => if most < n then .inl 4 else .inr (n, r)
def pBytes (most : Nat) (xs : List Int) : Rs (List Int) := then_ (pInt most xs) fun n r => if r.length < n then .inl 2 else .inr ((r.take n), (r.drop n))
def pBool : List Int → Rs Bool
  | [] => .inl 2
  | c :: r => if 1 < c then .inl 3 else .inr ((c == 1), r)

theorem tk_shortF' (f : Nat) : ∀ (i acc n c : Nat), n < 128 ^ (f + 1) → i + f ≤ 9 → c < (encF f n).length → tk i acc ((encF f n).take c) = (0, 0, 2) := by
  induction f with
  | zero =>
    intro i acc n c _ _ hc
    have : (encF 0 n).length = 1 := rfl
    obtain rfl : c = 0 := by omega
    rfl
  | succ f ih =>
    intro i acc n c hn hi hc
    rw [encF_succ] at hc ⊢
    by_cases h : n < 128
    · rw [if_pos h] at hc ⊢
      obtain rfl : c = 0 := by simpa using hc
      rfl
    · rw [if_neg h] at hc ⊢
      cases c with
      | zero => rfl
      | succ c =>
        rw [List.take_succ_cons, tk_cons', if_neg (by omega), if_neg (by omega), if_pos (by omega)]
        exact ih (i + 1) _ (n / 128) c (by rw [Nat.div_lt_iff_lt_mul (by decide)]; rw [Nat.pow_succ] at hn; exact hn) (by omega) (by simpa using hc)
theorem tk_short' {n : Nat} (h : n < 18446744073709551616) (c : Nat) (hc : c < (enc n).length) : tk 0 0 ((enc n).take c) = (0, 0, 2) := by
  rw [enc9 h] at hc ⊢
  exact tk_shortF' 9 0 0 n c (by omega) (by omega) hc

theorem good_uint : Good pUint enc (fun n => n < 18446744073709551616) := by
  refine ⟨?_, ?_, ?_⟩
  · intro n rest hn
    unfold pUint
    rw [tk_enc hn]
    simp
  · intro xs n rest hb hx
    unfold pUint at hx
    by_cases h : (tk 0 0 xs).2.2 = 0
    · rw [if_pos h] at hx
      simp only [Sum.inr.injEq, Prod.mk.injEq] at hx
      obtain ⟨e1, e2⟩ := hx
      have := tk_back (m := n) (u := (tk 0 0 xs).2.1) hb (Prod.ext e1 (Prod.ext rfl h))
      refine ⟨?_, this.2⟩
      rw [← e2, ← this.1, List.take_append_drop]
    · rw [if_neg h] at hx
      simp at hx
  · intro n c hn hc
    unfold pUint
    rw [tk_short' hn c hc]
    rfl
theorem good_int (most : Nat) (hm : most < 18446744073709551616) : Good (pInt most) enc (fun n => n ≤ most) := by
  refine ⟨?_, ?_, ?_⟩
  · intro n rest hn
    unfold pInt
    rw [good_uint.put n rest (by omega)]
    simp only [then_]
    rw [if_neg (by omega)]
  · intro xs n rest hb hx
    obtain ⟨n', r', e1, hx⟩ := then_good hx
    by_cases h : most < n'
    · rw [if_pos h] at hx; simp at hx
    · rw [if_neg h] at hx
      simp only [Sum.inr.injEq, Prod.mk.injEq] at hx
      obtain ⟨rfl, rfl⟩ := hx
      exact ⟨(good_uint.back xs _ _ hb e1).1, by omega⟩
  · intro n c hn hc
    unfold pInt
    rw [good_uint.cut n c (by omega) hc]
    rfl
theorem good_bytes (most : Nat) (hm : most < 18446744073709551616) : Good (pBytes most) (fun l => enc l.length ++ l) (fun l => l.length ≤ most ∧ Byt l) := by
  refine ⟨?_, ?_, ?_⟩
  · rintro l rest ⟨hl, _⟩
    unfold pBytes
    rw [List.append_assoc, (good_int most hm).put _ _ hl]
    simp only [then_]
    rw [if_neg (by simp), List.take_left, List.drop_left]
  · intro xs l rest hb hx
    obtain ⟨n, r', e1, hx⟩ := then_good hx
    obtain ⟨x1, o1⟩ := (good_int most hm).back xs _ _ hb e1
    by_cases h : r'.length < n
    · rw [if_pos h] at hx; simp at hx
    · rw [if_neg h] at hx
      simp only [Sum.inr.injEq, Prod.mk.injEq] at hx
      obtain ⟨rfl, rfl⟩ := hx
      have e2 : (r'.take n).length = n := by rw [List.length_take]; omega
      rw [e2, List.append_assoc, List.take_append_drop]
      refine ⟨x1, o1, ?_⟩
      rw [x1] at hb
      exact (byt_right hb).take n
  · rintro l c ⟨hl, _⟩ hc
    unfold pBytes
    rw [List.length_append] at hc
    by_cases q : c < (enc l.length).length
    · rw [List.take_append_of_le_length (Nat.le_of_lt q), (good_int most hm).cut _ c hl q]
      rfl
    · rw [List.take_append, List.take_of_length_le (by omega), (good_int most hm).put _ _ hl]
      simp only [then_]
      rw [if_pos (by rw [List.length_take]; omega)]
theorem good_bool : Good pBool enb (fun _ => True) := by
  refine ⟨?_, ?_, ?_⟩
  · intro b rest _
    cases b <;> simp [pBool, enb]
  · intro xs b rest hb hx
    cases xs with
    | nil => simp [pBool] at hx
    | cons c r =>
      have hc := hb c (List.mem_cons_self ..)
      simp only [pBool] at hx
      by_cases h : 1 < c
      · rw [if_pos h] at hx; simp at hx
      · rw [if_neg h] at hx
        simp only [Sum.inr.injEq, Prod.mk.injEq] at hx
        obtain ⟨rfl, rfl⟩ := hx
        refine ⟨?_, trivial⟩
        obtain rfl | rfl : c = 0 ∨ c = 1 := by omega
        · rfl
        · rfl
  · intro b c _ hc
    cases b <;> simp [enb] at hc <;> subst hc <;> rfl
end Go.Proofs.YtnicnfjickknjaaGreatDoor

namespace Go.Proofs.YtnicnfjickknjaaGreatDoor
open Go.RowKit

/-- A string's bytes. -/
def sb (s : ByteArray) : List Int := s.data.toList.map fun c => (c.toNat : Int)
theorem sb_len (s : ByteArray) : (sb s).length = s.size := by simp [sb]
theorem sb_byte (s : ByteArray) : Byt (sb s) := by
  intro x hx
  simp only [sb, List.mem_map] at hx
  obtain ⟨c, _, rfl⟩ := hx
  have := c.toNat_lt
  omega
theorem sb_inj {s t : ByteArray} (h : sb s = sb t) : s = t := by
  have h1 : s.data.toList = t.data.toList := by
    refine List.map_inj_right (f := fun c : UInt8 => (c.toNat : Int)) (fun a b e => ?_) |>.1 h
    exact UInt8.toNat_inj.1 (Int.ofNat.inj e)
  exact ByteArray.ext (Array.toList_inj.1 h1)

theorem bytesWorld_sl (w : World) (s : ByteArray) (hs : s.size ≤ 140737488355328) : Sl (Lib.bytesWorld w 5 s) (some ⟨w.heap.size, 0, none⟩) s.size (grownCap w s.size 0 5) (sb s) := by
  refine ⟨sb_len s, grownCap_ge w _ _ _, grownCap_le_maxLen w _ _ _ (by simp only [maxLen]; omega), fun h => by simp at h, fun a ha i hi => ?_, sb_byte s⟩
  obtain rfl := Option.some.inj ha
  rw [Addr.add_lit, Nat.zero_add, Lib.bytesWorld_cell w _ s i hi]
  simp [sb, List.getD, hi]
theorem bytesWorld_below (w : World) (s : ByteArray) : Below w.heap.size w (Lib.bytesWorld w 5 s) :=
  ⟨rfl, rfl, rfl, by rw [Lib.bytesWorld_size]; omega, fun k hk => Lib.bytesWorld_at_old w _ s k hk⟩

/-- []byte(s). -/
theorem wpList_conv_bytes {w : World} {ops : Array Oper} {rest : List Oper} {o : Oper} {a : Act} {Q : Exit → Act → World → Prop} (hgd : o.guard = none) (x : Operand) (ho : o.op = .convert 9 25 x)
    (s : ByteArray) (hx : a.eval x = .string s) (hs : s.size ≤ 140737488355328)
    (h : ∀ g c w', g = w.heap.size → Sl w' (some ⟨g, 0, none⟩) s.size c (sb s) → Below w.heap.size w w' → wpList Tryz.prog ops Q rest (a.put o.dst (.slice (some ⟨g, 0, none⟩) s.size c)) w') : wpList Tryz.prog ops Q (o :: rest) a w := by
  refine wpList_plain hgd fun K hK => ?_
  have hr := Lib.run_convert_string_bytes (P := Tryz.prog) w 9 25 5 s Tryz.underlying9 Tryz.underlying25 Tryz.underlying5
  unfold Oper.wp execOp
  simp only [ho, hx, hr, Sem.run_bind, Sem.run_pure, Result.andThen_ok]
  exact hK _ _ (h _ _ _ rfl (bytesWorld_sl w s hs) (bytesWorld_below w s))

end Go.Proofs.YtnicnfjickknjaaGreatDoor

namespace Go.Proofs.YtnicnfjickknjaaGreatDoor
open Go.RowKit

theorem sb_at (s : ByteArray) (k : Nat) (h : k < s.size) : (sb s).drop k = (s[k].toNat : Int) :: (sb s).drop (k + 1) := by
  have hl : k < (sb s).length := by rw [sb_len]; exact h
  rw [List.drop_eq_getElem_cons hl]
  simp [sb, ByteArray.getElem_eq_getElem_data]
theorem cmpL_cons (a b : Int) (s t : List Int) : cmpL (a :: s) (b :: t) = if a = b then cmpL s t else if a < b then -1 else 1 := by rw [cmpL]
theorem sb_end (s : ByteArray) (k : Nat) (h : s.size ≤ k) : (sb s).drop k = [] := List.drop_eq_nil_of_le (by rw [sb_len]; exact h)

theorem belN {n : Nat} {a w : World} (h : Below n a w) (q : Nat) : Below n a (w.drewN q) := by
  have e0 : (w.drewN q).heap = w.heap := by simp
  exact ⟨by rw [← h.os]; rfl, by rw [← h.tape]; rfl, by rw [← h.output]; rfl, by rw [e0]; exact h.size, fun k hk => by rw [e0]; exact h.block k hk⟩
end Go.Proofs.YtnicnfjickknjaaGreatDoor

namespace Go.Proofs.YtnicnfjickknjaaGreatDoor
open Go.RowKit

theorem sb_str {xs : List Int} (h : Byt xs) : sb (strOfNums xs) = xs := by
  unfold sb
  rw [strOfNums_data, List.map_map]
  refine (List.map_congr_left fun x hx => ?_).trans (List.map_id xs)
  have := h x hx
  simp only [Function.comp_apply, id_eq, UInt8.toNat_ofNat']
  omega
theorem conv_str {w : World} {ao : Option Addr} {n cap : Nat} {xs : List Int} (h : Sl w ao n cap xs) : (convert 25 9 (.slice ao n cap)).run Tryz.prog w = .ok (.string (strOfNums xs)) w := by
  cases ao with
  | none =>
    obtain ⟨rfl, rfl⟩ := h.nil rfl
    obtain rfl : xs = [] := List.eq_nil_of_length_eq_zero h.len
    exact run_convert_bytes_nil w _ _ Tryz.underlying25 Tryz.underlying5 _ _ _ Tryz.underlying9
  | some a =>
    have hl := h.len
    have hc := run_convert_bytes_back (P := Tryz.prog) w 25 9 5 a cap (xs.map fun n => UInt8.ofNat n.toNat) Tryz.underlying25 Tryz.underlying5 Tryz.underlying9 (fun j hj => by
      have hj' : j < xs.length := by simpa using hj
      have hb := h.byte xs[j] (List.getElem_mem hj')
      rw [h.cells a rfl j _ (bv_get xs j hj')]
      simp only [List.getElem_map, UInt8.toNat_ofNat', List.getD, List.getElem?_eq_getElem hj', Option.getD_some, Option.some.injEq, Value.int.injEq, true_and]
      omega)
    rw [List.length_map, hl] at hc
    exact hc
end Go.Proofs.YtnicnfjickknjaaGreatDoor

namespace Go.Proofs.YtnicnfjickknjaaGreatDoor
open Go.RowKit

/-- An operation without its parts. -/
structure SO where
  kind : Int
  row : ByteArray
  fam : ByteArray
  qual : ByteArray
  time : Nat
  to : ByteArray
  value : List Int
  want : List Int
  has : Bool

/-- A text's form. -/
def txt (s : ByteArray) : List Int := enc s.size ++ sb s
def byts (l : List Int) : List Int := enc l.length ++ l
def pText (most : Nat) (xs : List Int) : Rs ByteArray := dress strOfNums (pBytes most xs)
theorem str_sb (s : ByteArray) : strOfNums (sb s) = s := sb_inj (sb_str (sb_byte s))
theorem good_text (most : Nat) (hm : most < 18446744073709551616) : Good (pText most) txt (fun s => s.size ≤ most) := by
  have h := (good_bytes most hm).map strOfNums sb (fun s => s.size ≤ most) (fun s hs => ⟨str_sb s, by rw [sb_len]; exact hs, sb_byte s⟩) (fun a ha => ⟨sb_str ha.2, by rw [← sb_len, sb_str ha.2]; exact ha.1⟩)
  refine h.only (fun _ => Iff.rfl) ?_
  intro s _
  unfold txt
  rw [sb_len]

/-- How many parts, and the operation. -/
abbrev SN := SO × Nat
def putS (o : SO) (n : Nat) : List Int := enc o.kind.toNat ++ (txt o.row ++ (txt o.fam ++ (txt o.qual ++ (enc o.time ++ (txt o.to ++ (byts o.value ++ (byts o.want ++ (enb o.has ++ enc n))))))))
structure SO.fits (o : SO) : Prop where
  kind : 0 ≤ o.kind ∧ o.kind ≤ 100
  row : o.row.size ≤ 32
  fam : o.fam.size ≤ 32
  qual : o.qual.size ≤ 32
  time : o.time < 18446744073709551616
  to : o.to.size ≤ 32
  value : o.value.length ≤ 256 ∧ Byt o.value
  want : o.want.length ≤ 256 ∧ Byt o.want
abbrev Raw := Nat × ByteArray × ByteArray × ByteArray × Nat × ByteArray × List Int × List Int × Bool × Nat
def toS (r : Raw) : SN := (⟨(r.1 : Int), r.2.1, r.2.2.1, r.2.2.2.1, r.2.2.2.2.1, r.2.2.2.2.2.1, r.2.2.2.2.2.2.1, r.2.2.2.2.2.2.2.1, r.2.2.2.2.2.2.2.2.1⟩, r.2.2.2.2.2.2.2.2.2)
def ofS (p : SN) : Raw := (p.1.kind.toNat, p.1.row, p.1.fam, p.1.qual, p.1.time, p.1.to, p.1.value, p.1.want, p.1.has, p.2)
def pRaw (most : Nat) : List Int → Rs Raw :=
  andThen (pInt 100) fun _ => andThen (pText 32) fun _ => andThen (pText 32) fun _ => andThen (pText 32) fun _ => andThen pUint fun _ => andThen (pText 32) fun _ => andThen (pBytes 256) fun _ => andThen (pBytes 256) fun _ => andThen pBool fun _ => pInt most
def pS (most : Nat) (xs : List Int) : Rs SN := dress toS (pRaw most xs)
theorem good_raw (most : Nat) (hm : most < 18446744073709551616) : Good (pRaw most) (fun r => enc r.1 ++ (txt r.2.1 ++ (txt r.2.2.1 ++ (txt r.2.2.2.1 ++ (enc r.2.2.2.2.1 ++ (txt r.2.2.2.2.2.1 ++ (byts r.2.2.2.2.2.2.1 ++ (byts r.2.2.2.2.2.2.2.1 ++ (enb r.2.2.2.2.2.2.2.2.1 ++ enc r.2.2.2.2.2.2.2.2.2)))))))))
    (fun r => r.1 ≤ 100 ∧ r.2.1.size ≤ 32 ∧ r.2.2.1.size ≤ 32 ∧ r.2.2.2.1.size ≤ 32 ∧ r.2.2.2.2.1 < 18446744073709551616 ∧ r.2.2.2.2.2.1.size ≤ 32 ∧ (r.2.2.2.2.2.2.1.length ≤ 256 ∧ Byt r.2.2.2.2.2.2.1) ∧ (r.2.2.2.2.2.2.2.1.length ≤ 256 ∧ Byt r.2.2.2.2.2.2.2.1) ∧ True ∧ r.2.2.2.2.2.2.2.2.2 ≤ most) :=
  (good_int 100 (by decide)).andThen fun _ _ => (good_text 32 (by decide)).andThen fun _ _ => (good_text 32 (by decide)).andThen fun _ _ => (good_text 32 (by decide)).andThen fun _ _ => good_uint.andThen fun _ _ => (good_text 32 (by decide)).andThen fun _ _ => (good_bytes 256 (by decide)).andThen fun _ _ => (good_bytes 256 (by decide)).andThen fun _ _ => good_bool.andThen fun _ _ => good_int most hm
theorem good_s (most : Nat) (hm : most < 18446744073709551616) : Good (pS most) (fun p => putS p.1 p.2) (fun p => p.1.fits ∧ p.2 ≤ most) := by
  refine (good_raw most hm).map toS ofS _ ?_ ?_
  · rintro ⟨o, n⟩ ⟨h, hn⟩
    have hk : 0 ≤ o.kind ∧ o.kind ≤ 100 := h.kind
    refine ⟨?_, ?_⟩
    · unfold toS ofS
      simp only [Int.toNat_of_nonneg hk.1]
    · exact ⟨by show o.kind.toNat ≤ 100; omega, h.row, h.fam, h.qual, h.time, h.to, h.value, h.want, trivial, hn⟩
  · rintro ⟨k, r, f, q, t, x, v, y, b, n⟩ ⟨h1, h2, h3, h4, h5, h6, h7, h8, _, h10⟩
    refine ⟨?_, ⟨⟨by show (0 : Int) ≤ (k : Int); omega, by show (k : Int) ≤ 100; simp only at h1; omega⟩, h2, h3, h4, h5, h6, h7, h8⟩, h10⟩
    unfold toS ofS
    simp

/-- An operation and its parts, none of which has parts. -/
abbrev OP := SO × List SO
def putP (p : OP) : List Int := putS p.1 p.2.length ++ (p.2.map (fun s => putS s 0)).flatten
def OP.fits (p : OP) : Prop := p.1.fits ∧ p.2.length ≤ 8 ∧ ∀ s ∈ p.2, s.fits
def toP (p : SN × List SN) : OP := (p.1.1, p.2.map Prod.fst)
def ofP (p : OP) : SN × List SN := ((p.1, p.2.length), p.2.map fun s => (s, 0))
def pP (xs : List Int) : Rs OP := dress toP (andThen (pS 8) (fun p => pRep (pS 0) p.2) xs)
theorem good_p : Good pP putP OP.fits := by
  have h := (good_s 8 (by decide)).andThen (Q := fun p => pRep (pS 0) p.2) (g := fun _ l => (l.map fun p => putS p.1 p.2).flatten) (okQ := fun p l => l.length = p.2 ∧ ∀ a ∈ l, a.1.fits ∧ a.2 ≤ 0) (fun a _ => (good_s 0 (by decide)).rep a.2)
  refine (h.map toP ofP OP.fits ?_ ?_).only (fun _ => Iff.rfl) ?_
  · rintro ⟨o, l⟩ ⟨h1, h2, h3⟩
    refine ⟨?_, ⟨h1, h2⟩, by simp [ofP], ?_⟩
    · unfold toP ofP
      simp [Function.comp_def]
    · intro a ha
      obtain ⟨s, hs, rfl⟩ := List.mem_map.1 ha
      exact ⟨h3 s hs, Nat.le_refl _⟩
  · rintro ⟨⟨o, n⟩, l⟩ ⟨⟨h1, h2⟩, h3, h4⟩
    simp only at h3 h4 h1 h2
    refine ⟨?_, h1, by show (l.map Prod.fst).length ≤ 8; rw [List.length_map]; omega, ?_⟩
    · unfold toP ofP
      simp only [List.length_map, h3, List.map_map]
      congr 1
      refine (List.map_congr_left fun a ha => ?_).trans (List.map_id l)
      have := (h4 a ha).2
      obtain ⟨s, m⟩ := a
      simp only [Function.comp_apply, id_eq]
      simp only at this
      rw [show m = 0 by omega]
    · intro s hs
      obtain ⟨a, ha, rfl⟩ := List.mem_map.1 hs
      exact (h4 a ha).1
  · rintro ⟨o, l⟩ _
    unfold putP ofP
    simp [Function.comp_def]

/-- A request: client, stamp, operation. -/
abbrev QV := Nat × Nat × OP
def putQ (q : QV) : List Int := enc q.1 ++ (enc q.2.1 ++ putP q.2.2)
def pQ : List Int → Rs QV := andThen pUint fun _ => andThen pUint fun _ => pP
theorem good_q : Good pQ putQ (fun q => q.1 < 18446744073709551616 ∧ q.2.1 < 18446744073709551616 ∧ q.2.2.fits) :=
  good_uint.andThen fun _ _ => good_uint.andThen fun _ _ => good_p

/-- A cell of a result. -/
structure CV where
  row : ByteArray
  fam : ByteArray
  qual : ByteArray
  time : Nat
  value : List Int
  gone : Bool
structure CV.fits (c : CV) : Prop where
  row : c.row.size ≤ 32
  fam : c.fam.size ≤ 32
  qual : c.qual.size ≤ 32
  time : c.time < 18446744073709551616
  value : c.value.length ≤ 256 ∧ Byt c.value
def putC (c : CV) : List Int := txt c.row ++ (txt c.fam ++ (txt c.qual ++ (enc c.time ++ (byts c.value ++ enb c.gone))))
def toC (r : ByteArray × ByteArray × ByteArray × Nat × List Int × Bool) : CV := ⟨r.1, r.2.1, r.2.2.1, r.2.2.2.1, r.2.2.2.2.1, r.2.2.2.2.2⟩
def ofC (c : CV) : ByteArray × ByteArray × ByteArray × Nat × List Int × Bool := (c.row, c.fam, c.qual, c.time, c.value, c.gone)
def pC (xs : List Int) : Rs CV := dress toC (andThen (pText 32) (fun _ => andThen (pText 32) fun _ => andThen (pText 32) fun _ => andThen pUint fun _ => andThen (pBytes 256) fun _ => pBool) xs)
theorem good_c : Good pC putC CV.fits := by
  have h := (good_text 32 (by decide)).andThen fun _ _ => (good_text 32 (by decide)).andThen fun _ _ => (good_text 32 (by decide)).andThen fun _ _ => good_uint.andThen fun _ _ => (good_bytes 256 (by decide)).andThen fun _ _ => good_bool
  refine (h.map toC ofC CV.fits ?_ ?_).only (fun _ => Iff.rfl) (fun _ _ => rfl)
  · intro c hc
    exact ⟨rfl, hc.row, hc.fam, hc.qual, hc.time, hc.value, trivial⟩
  · rintro ⟨a, b, c, t, v, g⟩ ⟨h1, h2, h3, h4, h5, _⟩
    exact ⟨rfl, h1, h2, h3, h4, h5⟩

/-- A result. -/
structure RV where
  e : Int
  cells : List CV
  more : Bool
def RV.fits (r : RV) : Prop := (0 ≤ r.e ∧ r.e ≤ 100) ∧ r.cells.length ≤ 16 ∧ ∀ c ∈ r.cells, c.fits
def putR (r : RV) : List Int := enc r.e.toNat ++ (enc r.cells.length ++ ((r.cells.map putC).flatten ++ enb r.more))
def toR (x : Nat × (Nat × List CV × Bool)) : RV := ⟨(x.1 : Int), x.2.2.1, x.2.2.2⟩
def ofR (r : RV) : Nat × (Nat × List CV × Bool) := (r.e.toNat, (r.cells.length, (r.cells, r.more)))
def pR (xs : List Int) : Rs RV := dress toR (andThen (pInt 100) (fun _ => andThen (pInt 16) fun n => andThen (pRep pC n) fun _ => pBool) xs)
theorem good_r : Good pR putR RV.fits := by
  have h := (good_int 100 (by decide)).andThen fun _ _ => (good_int 16 (by decide)).andThen (Q := fun n => andThen (pRep pC n) fun _ => pBool) fun n _ => (good_c.rep n).andThen fun _ _ => good_bool
  refine (h.map toR ofR RV.fits ?_ ?_).only (fun _ => Iff.rfl) (fun _ _ => rfl)
  · rintro ⟨e, cs, m⟩ ⟨⟨h1, h1'⟩, h2, h3⟩
    simp only at h1 h1' h2 h3
    refine ⟨?_, by show e.toNat ≤ 100; omega, h2, ⟨rfl, h3⟩, trivial⟩
    unfold toR ofR
    simp only [Int.toNat_of_nonneg h1]
  · rintro ⟨e, n, cs, m⟩ ⟨h1, h2, ⟨h3, h4⟩, _⟩
    simp only at h1 h2 h3 h4
    refine ⟨?_, ⟨by show (0 : Int) ≤ (e : Int); omega, by show (e : Int) ≤ 100; omega⟩, by show cs.length ≤ 16; omega, h4⟩
    unfold toR ofR
    simp [h3]
end Go.Proofs.YtnicnfjickknjaaGreatDoor

namespace Go.Proofs.YtnicnfjickknjaaGreatDoor
open Go.RowKit

def noTxt : ByteArray := ⟨#[]⟩
/-- What an operation of its kind has use for. -/
def onlyS (o : SO) : SO :=
  if o.kind = 1 then { o with to := noTxt, want := [], has := false }
  else if o.kind = 2 then { o with to := noTxt, value := [], want := [], has := false }
  else if o.kind = 3 ∨ o.kind = 7 then { o with time := 0, to := noTxt, value := [], want := [], has := false }
  else if o.kind = 5 then { o with to := noTxt, want := if o.has then o.want else [] }
  else if o.kind = 8 then { o with fam := noTxt, qual := noTxt, time := 0, value := [], want := [], has := false }
  else { o with fam := noTxt, qual := noTxt, time := 0, to := noTxt, value := [], want := [], has := false }
/-- Are they the same? -/
def sameS (a b : SO) : Bool := decide (a.kind = b.kind ∧ a.row = b.row ∧ a.fam = b.fam ∧ a.qual = b.qual ∧ a.time = b.time ∧ a.to = b.to ∧ a.value = b.value ∧ a.want = b.want ∧ a.has = b.has)
theorem sameS_iff (a b : SO) : sameS a b = true ↔ a = b := by
  constructor
  · intro h
    obtain ⟨h1, h2, h3, h4, h5, h6, h7, h8, h9⟩ := of_decide_eq_true h
    cases a
    cases b
    simp only at h1 h2 h3 h4 h5 h6 h7 h8 h9
    subst h1 h2 h3 h4 h5 h6 h7 h8 h9
    rfl
  · rintro rfl
    exact decide_eq_true ⟨rfl, rfl, rfl, rfl, rfl, rfl, rfl, rfl, rfl⟩
def keyR (o : SO) : Bool := decide (1 ≤ o.row.size ∧ o.row.size ≤ 32 ∧ 1 ≤ o.fam.size ∧ o.fam.size ≤ 32 ∧ o.qual.size ≤ 32)
def rowR (o : SO) : Bool := decide (1 ≤ o.row.size ∧ o.row.size ≤ 32)
/-- Is it right, its parts aside, of which there are n? -/
def leaf (o : SO) (n : Nat) : Bool :=
  decide (sameS o (onlyS o) = true ∧ (o.kind = 6 ∨ n = 0) ∧ o.value.length ≤ 256 ∧ o.want.length ≤ 256) &&
  (if o.kind = 1 ∨ o.kind = 2 ∨ o.kind = 3 ∨ o.kind = 5 ∨ o.kind = 7 then keyR o
   else if o.kind = 4 then rowR o
   else if o.kind = 6 then rowR o && decide (1 ≤ n ∧ n ≤ 8)
   else if o.kind = 8 then decide (o.row.size ≤ 32 ∧ o.to.size ≤ 32)
   else false)
def partR (o : SO) (s : SN) : Bool := decide (1 ≤ s.1.kind ∧ s.1.kind ≤ 4) && leaf s.1 s.2 && decide (s.1.row = o.row)
def rightO (o : SO) (subs : List SN) : Bool := leaf o subs.length && (decide (o.kind ≠ 6) || subs.all (partR o))
def rightP (p : OP) : Bool := rightO p.1 (p.2.map fun s => (s, 0))
/-- What comes as bytes and numbers at all. -/
def SO.wf (o : SO) : Prop := o.time < 18446744073709551616 ∧ Byt o.value ∧ Byt o.want

theorem leaf_kind {o : SO} {n : Nat} (h : leaf o n = true) : 1 ≤ o.kind ∧ o.kind ≤ 8 := by
  unfold leaf at h
  obtain ⟨_, h⟩ := Bool.and_eq_true_iff.1 h
  by_cases c1 : o.kind = 1 ∨ o.kind = 2 ∨ o.kind = 3 ∨ o.kind = 5 ∨ o.kind = 7
  · omega
  · rw [if_neg c1] at h
    by_cases c2 : o.kind = 4
    · omega
    · rw [if_neg c2] at h
      by_cases c3 : o.kind = 6
      · omega
      · rw [if_neg c3] at h
        by_cases c4 : o.kind = 8
        · omega
        · rw [if_neg c4] at h
          simp at h
theorem leaf_fits {o : SO} {n : Nat} (h : leaf o n = true) (hw : o.wf) : o.fits := by
  have hk := leaf_kind h
  unfold leaf at h
  obtain ⟨h1, h2⟩ := Bool.and_eq_true_iff.1 h
  obtain ⟨e, hn, hv, hwn⟩ := of_decide_eq_true h1
  have e := (sameS_iff _ _).1 e
  have z : noTxt.size = 0 := rfl
  have ht : o.to.size ≤ 32 ∧ (o.kind ≠ 8 → o.to = noTxt) := by
    have e2 : o.to = (onlyS o).to := by rw [← e]
    by_cases c : o.kind = 8
    · refine ⟨?_, fun x => absurd c x⟩
      rw [if_neg (by omega), if_neg (by omega), if_neg (by omega), if_pos c] at h2
      exact (of_decide_eq_true h2).2
    · have : (onlyS o).to = noTxt := by
        unfold onlyS
        split
        · rfl
        · split
          · rfl
          · split
            · rfl
            · split
              · rfl
              · rfl
      rw [this] at e2
      exact ⟨by rw [e2, z]; omega, fun _ => e2⟩
  have hr : o.row.size ≤ 32 ∧ o.fam.size ≤ 32 ∧ o.qual.size ≤ 32 := by
    by_cases c1 : o.kind = 1 ∨ o.kind = 2 ∨ o.kind = 3 ∨ o.kind = 5 ∨ o.kind = 7
    · rw [if_pos c1] at h2
      have := of_decide_eq_true h2
      omega
    · have ef : o.fam = (onlyS o).fam := by rw [← e]
      have eq : o.qual = (onlyS o).qual := by rw [← e]
      have e3 : (onlyS o).fam = noTxt ∧ (onlyS o).qual = noTxt := by
        unfold onlyS
        rw [if_neg (by omega), if_neg (by omega), if_neg (by omega), if_neg (by omega)]
        split
        · exact ⟨rfl, rfl⟩
        · exact ⟨rfl, rfl⟩
      rw [e3.1] at ef
      rw [e3.2] at eq
      rw [ef, eq, z]
      refine ⟨?_, by omega, by omega⟩
      rw [if_neg c1] at h2
      by_cases c2 : o.kind = 4
      · rw [if_pos c2] at h2
        exact (of_decide_eq_true h2).2
      · rw [if_neg c2] at h2
        by_cases c3 : o.kind = 6
        · rw [if_pos c3] at h2
          exact (of_decide_eq_true (Bool.and_eq_true_iff.1 h2).1).2
        · rw [if_neg c3] at h2
          by_cases c4 : o.kind = 8
          · rw [if_pos c4] at h2
            exact (of_decide_eq_true h2).1
          · rw [if_neg c4] at h2
            simp at h2
  exact ⟨by omega, hr.1, hr.2.1, hr.2.2, hw.1, ht.1, ⟨hv, hw.2.1⟩, ⟨hwn, hw.2.2⟩⟩
/-- A right operation's parts have none. -/
theorem right_flat {o : SO} {subs : List SN} (h : rightO o subs = true) : subs = subs.map fun s => (s.1, 0) := by
  unfold rightO at h
  obtain ⟨h1, h2⟩ := Bool.and_eq_true_iff.1 h
  by_cases c : o.kind = 6
  · rw [decide_eq_false (by omega), Bool.false_or, List.all_eq_true] at h2
    refine (List.map_id subs).symm.trans (List.map_congr_left fun s hs => ?_)
    have := h2 s hs
    unfold partR at this
    obtain ⟨h3, _⟩ := Bool.and_eq_true_iff.1 this
    obtain ⟨h3, h4⟩ := Bool.and_eq_true_iff.1 h3
    have hk := of_decide_eq_true h3
    unfold leaf at h4
    have := (of_decide_eq_true (Bool.and_eq_true_iff.1 h4).1).2.1
    obtain ⟨s, n⟩ := s
    simp only at this hk
    rw [show n = 0 by omega]
    rfl
  · unfold leaf at h1
    have := (of_decide_eq_true (Bool.and_eq_true_iff.1 h1).1).2.1
    have h0 : subs.length = 0 := by omega
    rw [List.eq_nil_of_length_eq_zero h0]
    rfl
theorem rightP_of {o : SO} {subs : List SN} (h : rightO o subs = true) : rightP (o, subs.map Prod.fst) = true := by
  unfold rightP
  rw [List.map_map, ← h]
  congr 1
  exact (right_flat h).symm
theorem rightP_fits {p : OP} (h : rightP p = true) (h0 : p.1.wf) (h1 : ∀ s ∈ p.2, s.wf) : p.fits := by
  unfold rightP rightO at h
  obtain ⟨a, b⟩ := Bool.and_eq_true_iff.1 h
  rw [List.length_map] at a
  refine ⟨leaf_fits a h0, ?_, ?_⟩
  · unfold leaf at a
    obtain ⟨a1, a2⟩ := Bool.and_eq_true_iff.1 a
    have hn := (of_decide_eq_true a1).2.1
    by_cases c : p.1.kind = 6
    · rw [if_neg (by omega), if_neg (by omega), if_pos c] at a2
      exact (of_decide_eq_true (Bool.and_eq_true_iff.1 a2).2).2
    · omega
  · intro s hs
    by_cases c : p.1.kind = 6
    · rw [decide_eq_false (by omega), Bool.false_or, List.all_eq_true] at b
      have := b (s, 0) (List.mem_map.2 ⟨s, hs, rfl⟩)
      unfold partR at this
      obtain ⟨h3, _⟩ := Bool.and_eq_true_iff.1 this
      exact leaf_fits (Bool.and_eq_true_iff.1 h3).2 (h1 s hs)
    · unfold leaf at a
      have hn := (of_decide_eq_true (Bool.and_eq_true_iff.1 a).1).2.1
      have h0 : p.2.length = 0 := by omega
      rw [List.eq_nil_of_length_eq_zero h0] at hs
      simp at hs

/-- What is read of bytes: a kind that is not 0, or a thing. -/
def rdAll {α : Type} (P : List Int → Rs α) (kind : α → Int) (b : List Int) : Sum Int α :=
  match P b with
  | .inl k => .inl k
  | .inr (v, rest) => if rest = [] then (if kind v = 0 then .inr v else .inl (kind v)) else .inl 3
theorem rdAll_put {α : Type} {P : List Int → Rs α} {f : α → List Int} {ok : α → Prop} (h : Good P f ok) (kind : α → Int) (v : α) (hv : ok v) (hk : kind v = 0) : rdAll P kind (f v) = .inr v := by
  unfold rdAll
  have := h.put v [] hv
  rw [List.append_nil] at this
  rw [this]
  simp [hk]
theorem rdAll_back {α : Type} {P : List Int → Rs α} {f : α → List Int} {ok : α → Prop} (h : Good P f ok) (kind : α → Int) {b : List Int} {v : α} (hb : Byt b) (hr : rdAll P kind b = .inr v) : b = f v ∧ ok v ∧ kind v = 0 := by
  unfold rdAll at hr
  match e : P b, hr with
  | .inl k, hr => simp at hr
  | .inr (u, rest), hr =>
    simp only at hr
    by_cases c : rest = []
    · rw [if_pos c] at hr
      by_cases d : kind u = 0
      · rw [if_pos d] at hr
        obtain rfl := Sum.inr.inj hr
        obtain ⟨x, o⟩ := h.back b u rest hb e
        rw [c, List.append_nil] at x
        exact ⟨x, o, d⟩
      · rw [if_neg d] at hr; simp at hr
    · rw [if_neg c] at hr; simp at hr
theorem rdAll_cut {α : Type} {P : List Int → Rs α} {f : α → List Int} {ok : α → Prop} (h : Good P f ok) (kind : α → Int) {b : List Int} {v : α} (hb : Byt b) (hr : rdAll P kind b = .inr v) (c : Nat) (hc : c < b.length) : rdAll P kind (b.take c) = .inl 2 := by
  obtain ⟨e, o, _⟩ := rdAll_back h kind hb hr
  rw [e] at hc ⊢
  unfold rdAll
  rw [h.cut v c o hc]
def kindP (p : OP) : Int := if rightP p then 0 else 6
def kindQ (q : QV) : Int := if q.1 = 0 ∨ q.2.1 = 0 then 1 else kindP q.2.2
def cellR (c : CV) : Bool := decide (1 ≤ c.row.size ∧ c.row.size ≤ 32 ∧ 1 ≤ c.fam.size ∧ c.fam.size ≤ 32 ∧ c.qual.size ≤ 32 ∧ c.value.length ≤ 256)
def rightR (r : RV) : Bool := decide (0 ≤ r.e ∧ r.e ≤ 18 ∧ r.cells.length ≤ 16) && r.cells.all cellR
def kindR (r : RV) : Int := if rightR r then 0 else 1
def rdO : List Int → Sum Int OP := rdAll pP kindP
def rdQ : List Int → Sum Int QV := rdAll pQ kindQ
def rdR : List Int → Sum Int RV := rdAll pR kindR
def CV.wf (c : CV) : Prop := c.time < 18446744073709551616 ∧ Byt c.value
theorem rightR_fits {r : RV} (h : rightR r = true) (hw : ∀ c ∈ r.cells, c.wf) : r.fits := by
  unfold rightR at h
  obtain ⟨h1, h2⟩ := Bool.and_eq_true_iff.1 h
  have h1 := of_decide_eq_true h1
  rw [List.all_eq_true] at h2
  refine ⟨by omega, h1.2.2, fun c hc => ?_⟩
  have := of_decide_eq_true (h2 c hc)
  exact ⟨this.2.1, this.2.2.2.1, this.2.2.2.2.1, (hw c hc).1, this.2.2.2.2.2, (hw c hc).2⟩
end Go.Proofs.YtnicnfjickknjaaGreatDoor

namespace Go.Proofs.YtnicnfjickknjaaGreatDoor
open Go.RowKit

/-- A key as it comes: its texts, its time. -/
structure KA where
  row : ByteArray
  fam : ByteArray
  qual : ByteArray
  time : Nat
def KA.val (k : KA) : Value := .agg #[.string k.row, .string k.fam, .string k.qual, .int .u64 k.time]
def KA.kv (k : KA) : KV := ⟨sb k.row, sb k.fam, sb k.qual, k.time⟩
/-- What a key that comes is. -/
structure KA.ok (k : KA) : Prop where
  row : k.row.size ≤ maxLen
  fam : k.fam.size ≤ maxLen
  qual : k.qual.size ≤ maxLen
  time : k.time < 18446744073709551616
theorem KA.kv_byt {k : KA} (h : k.ok) : k.kv.byt := ⟨sb_byte _, sb_byte _, sb_byte _, h.time⟩
theorem KA.kv_inj {a b : KA} (h : a.kv = b.kv) : a = b := by
  cases a; cases b
  simp only [KA.kv, KV.mk.injEq] at h
  rw [sb_inj h.1, sb_inj h.2.1, sb_inj h.2.2.1, h.2.2.2]
end Go.Proofs.YtnicnfjickknjaaGreatDoor

namespace Go.Proofs.YtnicnfjickknjaaGreatDoor

def CV.kv (c : CV) : KV := ⟨sb c.row, sb c.fam, sb c.qual, c.time⟩
/-- A cell that a tablet may have. -/
structure CV.good (c : CV) : Prop where
  right : c.kv.right
  time : c.time < 18446744073709551616
  val : c.value.length ≤ 256
  byt : Byt c.value
  gone : c.gone = true → c.value = []
/-- A cell's item. -/
def itV (c : CV) : List Int := if c.gone then [1] else 0 :: c.value
def itm (c : CV) : It := ⟨keyL c.kv, itV c⟩
theorem CV.kvByt {c : CV} (h : c.time < 18446744073709551616) : c.kv.byt := ⟨sb_byte _, sb_byte _, sb_byte _, h⟩
theorem CV.kv_eq {a b : CV} (h : a.kv = b.kv) : a.row = b.row ∧ a.fam = b.fam ∧ a.qual = b.qual ∧ a.time = b.time := by
  simp only [CV.kv, KV.mk.injEq] at h
  exact ⟨sb_inj h.1, sb_inj h.2.1, sb_inj h.2.2.1, h.2.2.2⟩
theorem keyL_inj {a b : KV} (ha : a.byt) (hb : b.byt) (h : keyL a = keyL b) : a = b := by
  have := keyL_cmp a b ha hb
  rw [h, cmpL_self] at this
  exact (cmpK_zero a b).1 this.symm
theorem itV_inj {a b : CV} (ha : a.gone = true → a.value = []) (hb : b.gone = true → b.value = []) (h : itV a = itV b) : a.gone = b.gone ∧ a.value = b.value := by
  unfold itV at h
  cases ea : a.gone <;> cases eb : b.gone <;> rw [ea, eb] at h <;> simp at h
  · exact ⟨rfl, h⟩
  · exact ⟨rfl, by rw [ha ea, hb eb]⟩
theorem itm_inj {a b : CV} (ha : a.good) (hb : b.good) (h : itm a = itm b) : a = b := by
  simp only [itm, It.mk.injEq] at h
  obtain ⟨h1, h2, h3, h4⟩ := CV.kv_eq (keyL_inj (CV.kvByt ha.time) (CV.kvByt hb.time) h.1)
  obtain ⟨h5, h6⟩ := itV_inj ha.gone hb.gone h.2
  cases a; cases b
  simp only at h1 h2 h3 h4 h5 h6
  subst h1 h2 h3 h4 h5 h6
  rfl
theorem itV_byt {c : CV} (h : Byt c.value) : Byt (itV c) := by
  unfold itV
  split
  · intro x hx; simp at hx; omega
  · intro x hx
    rcases List.mem_cons.1 hx with rfl | hx
    · omega
    · exact h x hx
theorem itV_len (c : CV) : (itV c).length ≤ c.value.length + 1 := by
  unfold itV
  split <;> simp
theorem nm_le (s : List Int) : (nm s).length ≤ 2 * s.length + 2 := (nm_len s).2
theorem keyL_le {k : KV} (h : k.right) : (keyL k).length ≤ 256 := by
  unfold keyL
  obtain ⟨h1, h2, h3, h4, h5⟩ := h
  have a1 := nm_le k.row
  have a2 := nm_le k.fam
  have a3 := nm_le k.qual
  have a4 := beL_len 8 k.time
  simp only [List.length_append]
  omega
/-- Cells by keys. -/
def CSrt (cs : List CV) : Prop := Srt (cs.map itm)
/-- All cells may be. -/
def CGood (cs : List CV) : Prop := ∀ c ∈ cs, c.good
/-- What a tablet has. -/
structure TbOk (f t : ByteArray) (cs : List CV) : Prop where
  srt : CSrt cs
  good : CGood cs
  from_ : f.size ≤ 32
  to_ : t.size ≤ 32
  rows : ∀ c ∈ cs, ¬ cmpL (sb c.row) (sb f) < 0 ∧ (t.size = 0 ∨ cmpL (sb c.row) (sb t) < 0)
  many : cs.length ≤ 32
/-- The cells below a key, above it; with a cell; without a key. -/
def cLo (k : KV) (cs : List CV) : List CV := cs.filter fun x => decide (cmpL (keyL x.kv) (keyL k) < 0)
def cHi (k : KV) (cs : List CV) : List CV := cs.filter fun x => decide (cmpL (keyL k) (keyL x.kv) < 0)
def cIns (cs : List CV) (c : CV) : List CV := cLo c.kv cs ++ c :: cHi c.kv cs
def cDel (cs : List CV) (k : KV) : List CV := cLo k cs ++ cHi k cs
theorem lo_itm (k : KV) (cs : List CV) : lo (keyL k) (cs.map itm) = (cLo k cs).map itm := by
  unfold lo cLo
  rw [List.filter_map]
  rfl
theorem hi_itm (k : KV) (cs : List CV) : hi (keyL k) (cs.map itm) = (cHi k cs).map itm := by
  unfold hi cHi
  rw [List.filter_map]
  rfl
theorem ins_itm (cs : List CV) (c : CV) : ins (cs.map itm) (itm c) = (cIns cs c).map itm := by
  unfold ins cIns
  rw [show (itm c).k = keyL c.kv from rfl, lo_itm, hi_itm, List.map_append, List.map_cons]
theorem del_itm (cs : List CV) (k : KV) : del (cs.map itm) (keyL k) = (cDel cs k).map itm := by
  unfold del cDel
  rw [lo_itm, hi_itm, List.map_append]
theorem mem_cIns {cs : List CV} {c x : CV} (h : x ∈ cIns cs c) : x = c ∨ x ∈ cs := by
  unfold cIns cLo cHi at h
  rcases List.mem_append.1 h with h | h
  · exact .inr (List.mem_filter.1 h).1
  · rcases List.mem_cons.1 h with h | h
    · exact .inl h
    · exact .inr (List.mem_filter.1 h).1
theorem mem_cDel {cs : List CV} {k : KV} {x : CV} (h : x ∈ cDel cs k) : x ∈ cs := by
  unfold cDel cLo cHi at h
  rcases List.mem_append.1 h with h | h
  · exact (List.mem_filter.1 h).1
  · exact (List.mem_filter.1 h).1
theorem CSrt.ins {cs : List CV} (h : CSrt cs) (c : CV) : CSrt (cIns cs c) := by
  have := Srt.ofIns h (itm c)
  rw [ins_itm] at this
  exact this
theorem CSrt.del {cs : List CV} (h : CSrt cs) (k : KV) : CSrt (cDel cs k) := by
  have := Srt.ofDel h (keyL k)
  rw [del_itm] at this
  exact this
theorem CGood.ins {cs : List CV} (h : CGood cs) {c : CV} (hc : c.good) : CGood (cIns cs c) := fun x hx => by
  rcases mem_cIns hx with rfl | hx
  · exact hc
  · exact h x hx
theorem CGood.del {cs : List CV} (h : CGood cs) (k : KV) : CGood (cDel cs k) := fun x hx => h x (mem_cDel hx)
theorem cIns_len (cs : List CV) (c : CV) : (cIns cs c).length ≤ cs.length + 1 := by
  have h1 : ((cLo c.kv cs).map itm).length + ((cHi c.kv cs).map itm).length ≤ cs.length := by
    rw [List.length_map, List.length_map]
    unfold cLo cHi

    induction cs with
    | nil => simp
    | cons x cs ih =>
      simp only [List.filter_cons, List.length_cons]
      rcases cmpL_total (keyL x.kv) (keyL c.kv) with h | h | h
      · rw [decide_eq_true h, decide_eq_false (cmpL_asym h)]
        simp only [if_true, List.length_cons, Bool.false_eq_true, if_false]
        omega
      · rw [h, decide_eq_false (cmpL_irr _)]
        simp only [Bool.false_eq_true, if_false]
        omega
      · rw [decide_eq_true h, decide_eq_false (cmpL_asym h)]
        simp only [if_true, List.length_cons, Bool.false_eq_true, if_false]
        omega
  unfold cIns
  rw [List.length_map, List.length_map] at h1
  rw [List.length_append, List.length_cons]
  omega
theorem cDel_len (cs : List CV) (k : KV) : (cDel cs k).length ≤ cs.length := by
  unfold cDel cLo cHi
  rw [List.length_append]
  induction cs with
  | nil => simp
  | cons x cs ih =>
    simp only [List.filter_cons, List.length_cons]
    rcases cmpL_total (keyL x.kv) (keyL k) with h | h | h
    · rw [decide_eq_true h, decide_eq_false (cmpL_asym h)]
      simp only [if_true, List.length_cons, Bool.false_eq_true, if_false]
      omega
    · rw [h, decide_eq_false (cmpL_irr _)]
      simp only [Bool.false_eq_true, if_false]
      omega
    · rw [decide_eq_true h, decide_eq_false (cmpL_asym h)]
      simp only [if_true, List.length_cons, Bool.false_eq_true, if_false]
      omega
/-- Is a row one of some rows? (An empty end is none.) -/
def inRows (f t : ByteArray) (r : ByteArray) : Bool := decide (¬ cmpL (sb r) (sb f) < 0 ∧ (t.size = 0 ∨ cmpL (sb r) (sb t) < 0))
/-- Of one column? -/
def CV.col (c : CV) (k : KA) : Bool := decide (c.row = k.row ∧ c.fam = k.fam ∧ c.qual = k.qual)
def colC (k : KA) (cs : List CV) : List CV := cs.filter fun c => c.col k
def hasC (k : KA) (cs : List CV) : Bool := cs.any fun c => decide (c.row = k.row ∧ c.fam = k.fam ∧ c.qual = k.qual ∧ c.time = k.time)
end Go.Proofs.YtnicnfjickknjaaGreatDoor

namespace Go.Proofs.YtnicnfjickknjaaGreatDoor
open Go.RowKit

/-- A word turned right by n places. -/
def rotr (n : Nat) (x : Int) : Int := bits .or .u32 (IntKind.u32.wrap (x * 2 ^ (32 - n))) (x / 2 ^ n)

set_option maxRecDepth 100000 in
set_option maxHeartbeats 1000000 in
theorem rot_2 (x : Int) (w : World) :
    Calls Tryz.prog 117 #[.int .u32 x, .int .i64 (-2)] w fun e w' => e = .returned (.int .u32 (rotr 2 x)) ∧ w' = w := by
  have hb : bits .and .u64 (IntKind.u64.wrap (-2)) 31 = 30 := by decide
  go_enter Tryz.func117, Tryz.ntmps117
  go_wp2
  go_ret
  exact ⟨rfl, rfl⟩

set_option maxRecDepth 100000 in
set_option maxHeartbeats 1000000 in
theorem rot_6 (x : Int) (w : World) :
    Calls Tryz.prog 117 #[.int .u32 x, .int .i64 (-6)] w fun e w' => e = .returned (.int .u32 (rotr 6 x)) ∧ w' = w := by
  have hb : bits .and .u64 (IntKind.u64.wrap (-6)) 31 = 26 := by decide
  go_enter Tryz.func117, Tryz.ntmps117
  go_wp2
  go_ret
  exact ⟨rfl, rfl⟩

set_option maxRecDepth 100000 in
set_option maxHeartbeats 1000000 in
theorem rot_7 (x : Int) (w : World) :
    Calls Tryz.prog 117 #[.int .u32 x, .int .i64 (-7)] w fun e w' => e = .returned (.int .u32 (rotr 7 x)) ∧ w' = w := by
  have hb : bits .and .u64 (IntKind.u64.wrap (-7)) 31 = 25 := by decide
  go_enter Tryz.func117, Tryz.ntmps117
  go_wp2
  go_ret
  exact ⟨rfl, rfl⟩

set_option maxRecDepth 100000 in
set_option maxHeartbeats 1000000 in
theorem rot_11 (x : Int) (w : World) :
    Calls Tryz.prog 117 #[.int .u32 x, .int .i64 (-11)] w fun e w' => e = .returned (.int .u32 (rotr 11 x)) ∧ w' = w := by
  have hb : bits .and .u64 (IntKind.u64.wrap (-11)) 31 = 21 := by decide
  go_enter Tryz.func117, Tryz.ntmps117
  go_wp2
  go_ret
  exact ⟨rfl, rfl⟩

set_option maxRecDepth 100000 in
set_option maxHeartbeats 1000000 in
theorem rot_13 (x : Int) (w : World) :
    Calls Tryz.prog 117 #[.int .u32 x, .int .i64 (-13)] w fun e w' => e = .returned (.int .u32 (rotr 13 x)) ∧ w' = w := by
  have hb : bits .and .u64 (IntKind.u64.wrap (-13)) 31 = 19 := by decide
  go_enter Tryz.func117, Tryz.ntmps117
  go_wp2
  go_ret
  exact ⟨rfl, rfl⟩

set_option maxRecDepth 100000 in
set_option maxHeartbeats 1000000 in
theorem rot_17 (x : Int) (w : World) :
    Calls Tryz.prog 117 #[.int .u32 x, .int .i64 (-17)] w fun e w' => e = .returned (.int .u32 (rotr 17 x)) ∧ w' = w := by
  have hb : bits .and .u64 (IntKind.u64.wrap (-17)) 31 = 15 := by decide
  go_enter Tryz.func117, Tryz.ntmps117
  go_wp2
  go_ret
  exact ⟨rfl, rfl⟩

set_option maxRecDepth 100000 in
set_option maxHeartbeats 1000000 in
theorem rot_18 (x : Int) (w : World) :
    Calls Tryz.prog 117 #[.int .u32 x, .int .i64 (-18)] w fun e w' => e = .returned (.int .u32 (rotr 18 x)) ∧ w' = w := by
  have hb : bits .and .u64 (IntKind.u64.wrap (-18)) 31 = 14 := by decide
  go_enter Tryz.func117, Tryz.ntmps117
  go_wp2
  go_ret
  exact ⟨rfl, rfl⟩

set_option maxRecDepth 100000 in
set_option maxHeartbeats 1000000 in
theorem rot_19 (x : Int) (w : World) :
    Calls Tryz.prog 117 #[.int .u32 x, .int .i64 (-19)] w fun e w' => e = .returned (.int .u32 (rotr 19 x)) ∧ w' = w := by
  have hb : bits .and .u64 (IntKind.u64.wrap (-19)) 31 = 13 := by decide
  go_enter Tryz.func117, Tryz.ntmps117
  go_wp2
  go_ret
  exact ⟨rfl, rfl⟩

set_option maxRecDepth 100000 in
set_option maxHeartbeats 1000000 in
theorem rot_22 (x : Int) (w : World) :
    Calls Tryz.prog 117 #[.int .u32 x, .int .i64 (-22)] w fun e w' => e = .returned (.int .u32 (rotr 22 x)) ∧ w' = w := by
  have hb : bits .and .u64 (IntKind.u64.wrap (-22)) 31 = 10 := by decide
  go_enter Tryz.func117, Tryz.ntmps117
  go_wp2
  go_ret
  exact ⟨rfl, rfl⟩

set_option maxRecDepth 100000 in
set_option maxHeartbeats 1000000 in
theorem rot_25 (x : Int) (w : World) :
    Calls Tryz.prog 117 #[.int .u32 x, .int .i64 (-25)] w fun e w' => e = .returned (.int .u32 (rotr 25 x)) ∧ w' = w := by
  have hb : bits .and .u64 (IntKind.u64.wrap (-25)) 31 = 7 := by decide
  go_enter Tryz.func117, Tryz.ntmps117
  go_wp2
  go_ret
  exact ⟨rfl, rfl⟩

/-- A word turned by k places as RotateLeft32 counts them. -/
def rl (k : Int) (x : Int) : Int := rotr (-k).toNat x

theorem rot_at (x k : Int) (w : World) (hk : k = -2 ∨ k = -6 ∨ k = -7 ∨ k = -11 ∨ k = -13 ∨ k = -17 ∨ k = -18 ∨ k = -19 ∨ k = -22 ∨ k = -25) :
    Calls Tryz.prog 117 #[.int .u32 x, .int .i64 k] w fun e w' => e = .returned (.int .u32 (rl k x)) ∧ w' = w := by
  rcases hk with rfl | rfl | rfl | rfl | rfl | rfl | rfl | rfl | rfl | rfl
  · exact rot_2 x w
  · exact rot_6 x w
  · exact rot_7 x w
  · exact rot_11 x w
  · exact rot_13 x w
  · exact rot_17 x w
  · exact rot_18 x w
  · exact rot_19 x w
  · exact rot_22 x w
  · exact rot_25 x w

end Go.Proofs.YtnicnfjickknjaaGreatDoor

namespace Go

/-- Cells that lie behind one another, loaded as one value. -/
theorem run_loadVar_cells {P : Program} (w : World) (ad : Addr) (ty : TypeId) (cs : List Value) (hc : ∀ j v, cs[j]? = some v → w.cell? (ad.add j) = some v)
    (hagg : (isAgg ty).run P w = .ok true w) (hi : (P.info? ty).map (·.size) = some cs.length) :
    (loadVar ty ad).run P w = .ok (.agg cs.toArray) w := by
  have hl : (loadCells ad cs.length).run P w = .ok cs.toArray w := run_loadCells_list (P := P) w ad cs hc
  cases hq : P.info? ty with
  | none => simp [hq] at hi
  | some i =>
    have hs : i.size = cs.length := by simpa [hq] using hi
    simp [loadVar, Sem.run_bind, hagg, sizeOf, typeInfo, hq, hs, hl]

theorem wpList_load_cells {P : Program} {ops : Array Oper} {rest : List Oper} {o : Oper} {a : Act} {w : World} {Q : Exit → Act → World → Prop} (hgd : o.guard = none) (ty : TypeId) (x : Operand) (ho : o.op = .load ty x)
    (ad : Addr) (hx : a.eval x = .pointer (some ad)) (cs : List Value) (hc : ∀ j v, cs[j]? = some v → w.cell? (ad.add j) = some v)
    (hagg : ∀ w, (isAgg ty).run P w = .ok true w) (hi : (P.info? ty).map (·.size) = some cs.length)
    (h : wpList P ops Q rest (a.put o.dst (.agg cs.toArray)) w) : wpList P ops Q (o :: rest) a w := by
  refine wpList_plain hgd fun K hK => ?_
  unfold Oper.wp execOp
  simp only [ho, hx, Instr.loadAt, Instr.sureAddr, Sem.run_bind, Sem.run_pure, Result.andThen_ok, run_loadVar_cells w ad ty cs hc (hagg w) hi]
  exact hK _ _ h

/-- A result that is handed back through a cell of many cells. -/
theorem results_cells {P : Program} {fn : Func} {p : Tmp} {ty : TypeId} (h : fn.results = #[.cell p ty]) (tmps : Array Value) (w : World) (ad : Addr) (hp : tmps.getD p undef = .pointer (some ad)) (cs : List Value)
    (hc : ∀ j v, cs[j]? = some v → w.cell? (ad.add j) = some v) (hagg : (isAgg ty).run P w = .ok true w) (hi : (P.info? ty).map (·.size) = some cs.length) :
    (results fn tmps).run P w = .ok (.agg cs.toArray) w := by
  have hp' : tmps[p]?.getD undef = .pointer (some ad) := by simpa using hp
  simp [results, h, hp', asAddr, run_loadVar_cells w ad ty cs hc hagg hi]

/-- A new variable of many cells, the world behind it by a name. -/
theorem wpList_alloc_named {P : Program} {ops : Array Oper} {rest : List Oper} {o : Oper} {a : Act} {w : World} {Q : Exit → Act → World → Prop} (hgd : o.guard = none) (d : Tmp) (hd : o.dst = some d) (ty : TypeId) (ho : o.op = .alloc ty)
    (N : Nat) (hN : w.heap.size = N) (cs : List Value) (n : Nat) (hz : (P.info? ty).map (fun i => (i.zero, i.size)) = some (some (.agg cs.toArray), n))
    (h : ∀ w', w'.heap[N]? = some (.cells cs.toArray ty) → w'.heap.size = N + 1 → w.grownBy w' none → wpList P ops Q rest (a.put (some d) (.pointer (some ⟨N, 0, none⟩))) w') : wpList P ops Q (o :: rest) a w := by
  refine wpList_plain hgd fun K hK => ?_
  rw [← hd] at h
  subst hN
  have h0 : (zeroValue ty).run P w = .ok (.agg cs.toArray) w := (zero_of_info hz).1 w
  have hr : (execOp a.eval o).run P w = .ok (.value (.pointer (some ⟨w.heap.size, 0, none⟩))) (w.alloc (.cells cs.toArray ty)) := by
    unfold execOp
    simp [ho, Instr.alloc, h0, newVar, newRow, Value.cells]
  unfold Oper.wp
  rw [hr, Oper.upon_value]
  exact hK _ _ (h _ (heap_alloc_new _ _) (by simp) (World.grownBy_alloc _ _ _))

/-- A whole row stored over another, the world behind it by a name. -/
theorem wpList_store_named {P : Program} {ops : Array Oper} {rest : List Oper} {o : Oper} {a : Act} {w : World} {Q : Exit → Act → World → Prop} (hgd : o.guard = none) (ty : TypeId) (x y : Operand) (ho : o.op = .store ty x y)
    (g : Nat) (cells : List Value) (hx : a.eval x = .pointer (some ⟨g, 0, none⟩)) (hy : a.eval y = .agg cells.toArray)
    (t : TypeId) (old : List Value) (hg : w.heap[g]? = some (.cells old.toArray t)) (N : Nat) (hN : w.heap.size = N) (hi : (P.info? ty).map (·.size) = some cells.length)
    (hold : old.length = cells.length) (h1 : ∀ u ∈ cells, u.oneCell' = true)
    (h : ∀ w', w'.heap[g]? = some (.cells cells.toArray t) → w'.heap.size = N → w.grownBy w' (some g) → wpList P ops Q rest (a.put o.dst undef) w') : wpList P ops Q (o :: rest) a w := by
  refine wpList_store_row hgd ty x y ho g cells.toArray hx hy t old.toArray hg (by simpa using hi) (by simpa using hold) (by simpa using h1) ?_
  exact h _ (setRow_heap w g _ _ t _ hg) (by simpa using hN) ⟨rfl, rfl, rfl, by simp, fun k _ hk => setRow_other w g k _ (fun e => hk (by rw [e]))⟩

theorem add_at (b i j : Nat) : (⟨b, i, none⟩ : Addr).add j = ⟨b, i + j, none⟩ := by unfold Addr.add; split <;> simp_all

end Go

namespace Go.Proofs.YtnicnfjickknjaaGreatDoor
open Go.RowKit

/-- The cells of some words. -/
def wv (xs : List Int) : List Value := xs.map (Value.int .u32)
theorem wv_length (xs : List Int) : (wv xs).length = xs.length := by simp [wv]
theorem wv_one (xs : List Int) : ∀ u ∈ wv xs, u.oneCell' = true := ints_oneCell .u32 xs
theorem wv_get (xs : List Int) (j : Nat) (h : j < xs.length) : (wv xs)[j]? = some (.int .u32 (xs.getD j 0)) := by
  simp [wv, h]
theorem wv_set (xs : List Int) (j : Nat) (x : Int) : (wv xs).set j (.int .u32 x) = wv (xs.set j x) := by
  simp [wv, List.map_set]

/-- The first words and the rounds' words, as the program's variables hold them. -/
def H0 : List Int := [1779033703, 3144134277, 1013904242, 2773480762, 1359893119, 2600822924, 528734635, 1541459225]
def K0 : List Int := [1116352408, 1899447441, 3049323471, 3921009573, 961987163, 1508970993, 2453635748, 2870763221, 3624381080, 310598401, 607225278, 1426881987, 1925078388, 2162078206, 2614888103, 3248222580, 3835390401, 4022224774, 264347078, 604807628, 770255983, 1249150122, 1555081692, 1996064986, 2554220882, 2821834349, 2952996808, 3210313671, 3336571891, 3584528711, 113926993, 338241895, 666307205, 773529912, 1294757372, 1396182291, 1695183700, 1986661051, 2177026350, 2456956037, 2730485921, 2820302411, 3259730800, 3345764771, 3516065817, 3600352804, 4094571909, 275423344, 430227734, 506948616, 659060556, 883997877, 958139571, 1322822218, 1537002063, 1747873779, 1955562222, 2024104815, 2227730452, 2361852424, 2428436474, 2756734187, 3204031479, 3329325298]

/-- A block of many cells. -/
def Arr (w : World) (b : Nat) (t : TypeId) (cs : List Value) : Prop := w.heap[b]? = some (.cells cs.toArray t)
theorem Arr.lt {w : World} {b : Nat} {t : TypeId} {cs : List Value} (h : Arr w b t cs) : b < w.heap.size := (Array.getElem?_eq_some_iff.1 h).1
theorem Arr.cell {w : World} {b : Nat} {t : TypeId} {cs : List Value} (h : Arr w b t cs) (j : Nat) : w.cell? ⟨b, j, none⟩ = cs[j]? := by
  rw [cell_of_row w b j _ _ _ h]; simp
theorem Arr.free {w : World} {b : Nat} {t : TypeId} {cs : List Value} (h : Arr w b t cs) (j : Nat) : w.frozen? ⟨b, j, none⟩ = false := frozen_of_row w b j _ _ h
theorem Arr.grown {w w' : World} {b : Nat} {t : TypeId} {cs : List Value} {row : Option Nat} (h : Arr w b t cs) (hg : w.grownBy w' row) (hne : some b ≠ row) : Arr w' b t cs := (hg.block b h.lt hne).trans h
theorem Arr.below {w w' : World} {b : Nat} {t : TypeId} {cs : List Value} {n : Nat} (h : Arr w b t cs) (hg : Below n w w') (hne : b < n) : Arr w' b t cs := (hg.block b hne).trans h
theorem Arr.set {w : World} {b : Nat} {t : TypeId} {cs : List Value} (h : Arr w b t cs) (j : Nat) (v : Value) : Arr (w.setCell ⟨b, j, none⟩ v) b t (cs.set j v) := by
  unfold Arr
  rw [heap_setCell_same w b j _ t v h]
  simp
theorem Arr.other {w : World} {b : Nat} {t : TypeId} {cs : List Value} (h : Arr w b t cs) (a : Addr) (v : Value) (hne : b ≠ a.block) : Arr (w.setCell a v) b t cs := (heap_setCell_other w a b v hne).trans h
theorem Arr.drew {w : World} {b : Nat} {t : TypeId} {cs : List Value} (h : Arr w b t cs) : Arr w.drew b t cs := h

structure Tabs (w : World) : Prop where
  first : ∀ j v, (wv H0)[j]? = some v → w.cell? ⟨1, j, none⟩ = some v
  cubes : ∀ j v, (wv K0)[j]? = some v → w.cell? ⟨0, j, none⟩ = some v
  two : 2 ≤ w.heap.size

theorem Tabs.below {w w' : World} {n : Nat} (h : Tabs w) (hb : Below n w w') (hn : 2 ≤ n) : Tabs w' :=
  ⟨fun j v hv => (hb.cell (p := ⟨1, j, none⟩) (by show 1 < n; omega)).trans (h.first j v hv), fun j v hv => (hb.cell (p := ⟨0, j, none⟩) (by show 0 < n; omega)).trans (h.cubes j v hv), by have := hb.size; have := h.two; omega⟩

/-- The cells of a hash: its words, its block, how many bytes came. -/
def hv (A B : List Int) (n : Nat) : List Value := wv A ++ bv B ++ [.int .u64 n]

structure HB (w : World) (p : Nat) (A B : List Int) (n : Nat) : Prop where
  heap : w.heap[p]? = some (.cells (hv A B n).toArray 133)
  lenA : A.length = 8
  lenB : B.length = 64
  byte : Byt B
  size : n < 18446744073709551616

theorem HB.lt {w : World} {p : Nat} {A B : List Int} {n : Nat} (h : HB w p A B n) : p < w.heap.size := (Array.getElem?_eq_some_iff.1 h.heap).1
theorem HB.below {w w' : World} {p m : Nat} {A B : List Int} {n : Nat} (h : HB w p A B n) (hb : Below m w w') (hp : p < m) : HB w' p A B n :=
  ⟨(hb.block p hp).trans h.heap, h.lenA, h.lenB, h.byte, h.size⟩
theorem HB.word {w : World} {p : Nat} {A B : List Int} {n : Nat} (h : HB w p A B n) (j : Nat) (hj : j < 8) : w.cell? ⟨p, j, none⟩ = some (.int .u32 (A.getD j 0)) := by
  rw [cell_of_row w p j _ _ _ h.heap]
  have := h.lenA
  simp [hv, wv, List.getElem?_append, this, hj]
theorem HB.wordv {w : World} {p : Nat} {A B : List Int} {n : Nat} (h : HB w p A B n) (j : Nat) (v : Value) (hv' : (wv A)[j]? = some v) : w.cell? ⟨p, j, none⟩ = some v := by
  have h1 := (List.getElem?_eq_some_iff.1 hv').1
  rw [wv_length] at h1
  rw [wv_get A j h1] at hv'
  rw [h.word j (by have := h.lenA; omega)]
  exact hv'
theorem HB.byteAt {w : World} {p : Nat} {A B : List Int} {n : Nat} (h : HB w p A B n) (j : Nat) (hj : j < 64) : w.cell? ⟨p, 8 + j, none⟩ = some (.int .u8 (B.getD j 0)) := by
  rw [cell_of_row w p _ _ _ _ h.heap]
  have := h.lenA
  have := h.lenB
  have h2 : ¬ 8 + j < 8 := by omega
  simp [hv, wv, bv, List.getElem?_append, *]
theorem HB.count {w : World} {p : Nat} {A B : List Int} {n : Nat} (h : HB w p A B n) : w.cell? ⟨p, 72, none⟩ = some (.int .u64 n) := by
  rw [cell_of_row w p _ _ _ _ h.heap]
  have := h.lenA
  have := h.lenB
  simp [hv, wv, bv, *]
theorem bel_grown {w w' : World} (h : Below w.heap.size w w') (row : Option Nat) : w.grownBy w' row := ⟨h.os, h.tape, h.output, h.size, fun k hk _ => h.block k hk⟩
theorem gro_trans {a b c : World} {row : Option Nat} (h : a.grownBy b row) (k : b.grownBy c row) : a.grownBy c row :=
  ⟨k.os.trans h.os, k.tape.trans h.tape, k.output.trans h.output, Nat.le_trans h.size k.size, fun i hi hn => (k.block i (Nat.lt_of_lt_of_le hi h.size) hn).trans (h.block i hi hn)⟩
theorem grown_set {a b : World} {p : Nat} (h : a.grownBy b (some p)) (j : Nat) (v : Value) : a.grownBy (b.setCell ⟨p, j, none⟩ v) (some p) :=
  ⟨h.os, h.tape, h.output, by simpa using h.size, fun i hi hn => (heap_setCell_other b _ i v (fun e => hn (by rw [e]))).trans (h.block i hi hn)⟩
theorem grown_drewN {a b : World} {row : Option Nat} (h : a.grownBy b row) (q : Nat) : a.grownBy (b.drewN q) row := ⟨h.os, h.tape, h.output, h.size, h.block⟩
theorem HB.drewN {w : World} {p : Nat} {A B : List Int} {n : Nat} (h : HB w p A B n) (q : Nat) : HB (w.drewN q) p A B n := ⟨h.heap, h.lenA, h.lenB, h.byte, h.size⟩
theorem hv_setA (A B : List Int) (n : Nat) (j : Nat) (x : Int) (h : j < A.length) : (hv A B n).set j (.int .u32 x) = hv (A.set j x) B n := by
  have h1 : j < (wv A ++ bv B).length := by simp [wv]; omega
  have h2 : j < (wv A).length := by simp [wv]; omega
  unfold hv
  rw [List.set_append_left _ _ h1, List.set_append_left _ _ h2, wv_set]
theorem HB.setA {w : World} {p : Nat} {A B : List Int} {n : Nat} (h : HB w p A B n) (j : Nat) (x : Int) (hj : j < 8) : HB (w.setCell ⟨p, j, none⟩ (.int .u32 x)) p (A.set j x) B n := by
  refine ⟨?_, by simp [h.lenA], h.lenB, h.byte, h.size⟩
  have := Arr.set (show Arr w p _ (hv A B n) from h.heap) j (.int .u32 x)
  rw [hv_setA _ _ _ _ _ (by rw [h.lenA]; exact hj)] at this
  exact this
theorem HB.free {w : World} {p : Nat} {A B : List Int} {n : Nat} (h : HB w p A B n) (j : Nat) : w.frozen? ⟨p, j, none⟩ = false := frozen_of_row w p j _ _ h.heap

end Go.Proofs.YtnicnfjickknjaaGreatDoor

namespace Go.Proofs.YtnicnfjickknjaaGreatDoor
open Go.RowKit

/-- Two words, by their lowest 32 bits. -/
def ad (x y : Int) : Int := IntKind.u32.wrap (x + y)

/-- The first i words have been added. -/
def part (X A : List Int) (i : Nat) : List Int := (List.range 8).map fun j => if j < i then ad (X.getD j 0) (A.getD j 0) else X.getD j 0

theorem g48 (w : World) : (isAgg 130).run Tryz.prog w = .ok true w := by
  simp [isAgg, run_underlying Tryz.underlying130 w]
theorem a48 : (Tryz.prog.info? 130).map (·.size) = some 8 := by kernel_rfl
theorem z48 : (Tryz.prog.info? 130).map (fun i => (i.zero, i.size)) = some (some (.agg (List.replicate 8 (Value.int .u32 0)).toArray), 8) := by kernel_rfl

theorem s42 : (Tryz.prog.info? 129).map (·.size) = some 1 := by kernel_rfl
/-- A word out of an array that is held as a value. -/
theorem index48 (A : List Int) (k : Nat) (hA : A.length = 8) (hk : k < 8) (w : World) : (Instr.index 130 (.agg (wv A).toArray) (.int .i64 k)).run Tryz.prog w = .ok (.int .u32 (A.getD k 0)) w := by
  have h1 : k < A.length := by omega
  cases hq : Tryz.prog.info? 129 with
  | none => have := s42; rw [hq] at this; simp at this
  | some i =>
    have hs : i.size = 1 := by have := s42; rw [hq] at this; simpa using this
    simp [Instr.index, asIntOf, run_underlying Tryz.underlying130 w, sizeOf, typeInfo, hq, hs, Go.part, isAgg, wv, h1]
    omega

theorem part_len (X A : List Int) (i : Nat) : (part X A i).length = 8 := by simp [part]
theorem part_get (X A : List Int) (i j : Nat) (hj : j < 8) : (part X A i).getD j 0 = if j < i then ad (X.getD j 0) (A.getD j 0) else X.getD j 0 := by simp [part, List.getD, hj]
theorem part_zero (X A : List Int) (h : X.length = 8) : part X A 0 = X := by
  refine List.ext_getElem? fun j => ?_
  by_cases hj : j < 8
  · simp [part, hj, List.getD, h]
  · simp [part, hj, h]
theorem part_succ (X A : List Int) (i : Nat) : (part X A i).set i (ad (X.getD i 0) (A.getD i 0)) = part X A (i + 1) := by
  refine List.ext_getElem? fun j => ?_
  by_cases hj : j < 8
  · by_cases hij : i = j
    · subst hij
      simp [part, hj]
    · have h1 : (j < i + 1) = (j < i) := by simp; omega
      simp [part, hj, hij, h1]
  · simp [part, hj]

set_option maxRecDepth 100000 in
set_option maxHeartbeats 1000000 in
theorem words_any (w : World) (p : Nat) (A B : List Int) (n : Nat) (hT : Tabs w) (h : HB w p A B n) :
    Calls Tryz.prog 101 #[.pointer (some ⟨p, 0, none⟩)] w fun e w' => e = .returned (.agg (wv (part H0 A 8)).toArray) ∧ Below w.heap.size w w' := by
  have h2 := hT.two
  have hp := h.lt
  go_enter Tryz.func101, Tryz.ntmps101
  go_wp2_with (first
    | (refine wpList_alloc_named rfl 2 rfl 130 rfl w.heap.size rfl _ 8 z48 ?_; intro w1 a1 s1 g1; have B1 : Below w.heap.size w w1 := (Below.refl _ w).grown g1 (Nat.le_refl _) (by simp); have T1 := hT.below B1 h2; clear g1)
    | (refine wpList_load_cells rfl 130 (Operand.global 1) rfl ⟨1, 0, none⟩ rfl (wv H0) (fun j v hv => by rw [add_at, Nat.zero_add]; exact T1.first j v hv) g48 a48 ?_)
    | (refine wpList_alloc_named rfl 3 rfl 130 rfl (w.heap.size + 1) s1 _ 8 z48 ?_; intro w2 a2 s2 g2; have B2 : Below w.heap.size w w2 := B1.grown g2 (by omega) (by simp); have A2 : Arr w2 w.heap.size 130 _ := Arr.grown a1 g2 (by simp); clear g2 B1 a1 s1 T1)
    | (refine wpList_store_named rfl 130 (Operand.tmp 3) _ rfl (w.heap.size + 1) (wv H0) rfl rfl 130 _ a2 _ s2 a48 rfl (wv_one _) ?_; intro w3 a3 s3 g3; have B3 : Below w.heap.size w w3 := B2.grown g3 (by omega) (by intro k hk; cases hk; omega); have A3 : Arr w3 w.heap.size 130 _ := Arr.grown A2 g3 (by simp); have h3 := h.below B3 hp; clear g3 B2 A2 a2 s2)
    | (refine wpList_load_cells rfl 130 (Operand.tmp 9) rfl ⟨p, 0, none⟩ rfl (wv A) (fun j v hv => by rw [add_at, Nat.zero_add]; exact h3.wordv j v hv) g48 (a48.trans (by rw [wv_length, h3.lenA])) ?_))
  go_loopw [11] (fun i wr => ∃ k : Nat, k ≤ 8 ∧ i = .int .i64 k ∧ Below w.heap.size w wr ∧ Arr wr w.heap.size 130 (List.replicate 8 (Value.int .u32 0)) ∧ Arr wr (w.heap.size + 1) 130 (wv (part H0 A k)) ∧ wr.heap.size = w.heap.size + 1 + 1) (fun i _ => 8 - (intOf i).toNat)
  case atStart => exact ⟨0, by omega, rfl, B3, A3, by rw [part_zero _ _ rfl]; exact a3, s3⟩
  case round =>
    obtain ⟨k, hk, rfl, B4, A4, a4, s4⟩ := hrel
    by_cases hlt : k < 8
    · have c1 := a4.cell k
      rw [wv_get _ k (by rw [part_len]; exact hlt), part_get _ _ _ _ hlt] at c1
      simp only [Nat.lt_irrefl, if_false] at c1
      have c2 := a4.free k
      have hi : (k : Int) < 8 := by omega
      have hx := index48 A k h.lenA hlt
      go_wp2
      go_roundw
      case rel =>
        refine ⟨k + 1, by omega, by go_num, B4.setCell (by show w.heap.size ≤ w.heap.size + 1; omega) _, A4.other _ _ (by show w.heap.size ≠ w.heap.size + 1; omega), ?_, by simpa using s4⟩
        have := a4.set k (.int .u32 (ad (H0.getD k 0) (A.getD k 0)))
        rw [wv_set, part_succ] at this
        exact this
      case measure => simp [intOf]; omega
    · obtain rfl : k = 8 := by omega
      go_wp2_with (first
        | (refine wpList_load_cells rfl 130 (Operand.tmp 3) rfl ⟨w.heap.size + 1, 0, none⟩ rfl (wv (part H0 A 8)) (fun j v hv => by rw [add_at, Nat.zero_add, a4.cell]; exact hv) g48 (a48.trans (by rw [wv_length, part_len])) ?_)
        | (refine wpList_store_named rfl 130 (Operand.tmp 2) _ rfl w.heap.size (wv (part H0 A 8)) rfl rfl 130 _ A4 _ s4 (a48.trans (by rw [wv_length, part_len])) (by rw [wv_length, part_len]; rfl) (wv_one _) ?_; intro w5 a5 s5 g5; have B5 : Below w.heap.size w w5 := B4.grown g5 (by omega) (by intro k hk; cases hk; omega); clear g5))
      refine bodyPost_ret (v := .agg (wv (part H0 A 8)).toArray) ?_ rfl ⟨rfl, B5⟩
      exact results_cells rfl _ w5 ⟨w.heap.size, 0, none⟩ rfl (wv (part H0 A 8)) (fun j v hv => by rw [add_at, Nat.zero_add, Arr.cell a5]; exact hv) (g48 w5) (a48.trans (by rw [wv_length, part_len]))
end Go.Proofs.YtnicnfjickknjaaGreatDoor

namespace Go.Proofs.YtnicnfjickknjaaGreatDoor
open Go.RowKit

/-- A byte behind a word. -/
def sh (x b : Int) : Int := bits .or .u32 (IntKind.u32.wrap (x * 256)) b
/-- The word of the first j of four bytes from 4 t on. -/
def be (B : List Int) (t : Nat) : Nat → Int
  | 0 => 0
  | j + 1 => sh (be B t j) (B.getD (4 * t + j) 0)
def xr (x y : Int) : Int := bits .xor .u32 x y
def s0 (x : Int) : Int := xr (xr (rl (-7) x) (rl (-18) x)) (x / 8)
def s1 (x : Int) : Int := xr (xr (rl (-17) x) (rl (-19) x)) (x / 1024)
def nxt (l : List Int) (t : Nat) : Int := ad (ad (ad (l.getD (t - 16) 0) (s0 (l.getD (t - 15) 0))) (l.getD (t - 7) 0)) (s1 (l.getD (t - 2) 0))
/-- The first n words of a block. -/
def W (B : List Int) : Nat → List Int
  | 0 => []
  | t + 1 => W B t ++ [if t < 16 then be B t 4 else nxt (W B t) t]
theorem W_len (B : List Int) (n : Nat) : (W B n).length = n := by induction n with
  | zero => rfl
  | succ n ih => simp [W, ih]
/-- The array while it is filled: t words, the bytes of the next one up to j. -/
def arrW (B : List Int) (t : Nat) (x : Int) : List Int := W B t ++ x :: List.replicate (63 - t) 0
theorem arrW_len (B : List Int) (t : Nat) (x : Int) (h : t ≤ 63) : (arrW B t x).length = 64 := by simp [arrW, W_len]; omega
theorem arrW_at (B : List Int) (t : Nat) (x : Int) : (arrW B t x).getD t 0 = x := by simp [arrW, List.getD, W_len]
theorem arrW_low (B : List Int) (t j : Nat) (x : Int) (h : j < t) : (arrW B t x).getD j 0 = (W B t).getD j 0 := by simp [arrW, List.getD, W_len, List.getElem?_append, h]
theorem arrW_set (B : List Int) (t : Nat) (x y : Int) : (arrW B t x).set t y = arrW B t y := by simp [arrW, W_len]
/-- The array with t words. -/
def fillW (B : List Int) (t : Nat) : List Int := W B t ++ List.replicate (64 - t) 0
theorem fillW_len (B : List Int) (t : Nat) (h : t ≤ 64) : (fillW B t).length = 64 := by simp [fillW, W_len]; omega
theorem fillW_arr (B : List Int) (t : Nat) (h : t < 64) : fillW B t = arrW B t 0 := by
  have e : 64 - t = (63 - t) + 1 := by omega
  simp only [arrW, fillW, e, List.replicate_succ]
theorem arrW_next (B : List Int) (t : Nat) (h : t < 64) : arrW B t (if t < 16 then be B t 4 else nxt (W B t) t) = fillW B (t + 1) := by
  have e : 63 - t = 64 - (t + 1) := by omega
  simp only [arrW, fillW, W, e, List.append_assoc, List.singleton_append]
theorem fillW_low (B : List Int) (t j : Nat) (h : j < t) : (fillW B t).getD j 0 = (W B t).getD j 0 := by simp [fillW, List.getD, W_len, List.getElem?_append, h]
theorem fillW_all (B : List Int) : fillW B 64 = W B 64 := by simp [fillW]

theorem g55 (w : World) : (isAgg 148).run Tryz.prog w = .ok true w := by
  simp [isAgg, run_underlying Tryz.underlying148 w]
theorem a55 : (Tryz.prog.info? 148).map (·.size) = some 64 := by kernel_rfl
theorem z55 : (Tryz.prog.info? 148).map (fun i => (i.zero, i.size)) = some (some (.agg (List.replicate 64 (Value.int .u32 0)).toArray), 64) := by kernel_rfl

theorem u49 : Tryz.prog.underlying 131 = some (.array (Tryz.prog.arrayLen 131) (Tryz.prog.elem 131)) := by kernel_rfl
theorem al49 : Tryz.prog.arrayLen 131 = 64 := by kernel_rfl
theorem el49 : Tryz.prog.elem 131 = 5 := by kernel_rfl
theorem size8 (w : World) : (sizeOf 5).run Tryz.prog w = .ok 1 w := by
  obtain ⟨i0, hi, hz0, hz1, hz2⟩ := info_parts u8info
  simp [sizeOf, typeInfo, hi, hz1]
/-- Bytes of a block, as a slice: between two places; from a place on. -/
theorem slice49 (kl : IntKind) (p o l h : Nat) (hl : l ≤ h) (hh : h ≤ 64) (h64 : l < 64) (L H : Int) (eL : L = l) (eH : H = h) (w : World) : (Instr.sliceAt 131 (.pointer (some ⟨p, o, none⟩)) (some (.int kl L)) (some (.int kl H)) none).run Tryz.prog w = .ok (.slice (some ⟨p, o + l, none⟩) (h - l) (64 - l)) w := by
  subst eL eH
  rw [run_sliceAt_array_lh w 131 ⟨p, o, none⟩ u49 kl kl l h (by omega) (by omega) (by rw [al49]; omega), el49, al49, size8]
  have e : ¬ 64 = l := by omega
  simp [slicedAt, add_at, e]
theorem slice49l (kl : IntKind) (p o l : Nat) (h64 : l < 64) (L : Int) (eL : L = l) (w : World) : (Instr.sliceAt 131 (.pointer (some ⟨p, o, none⟩)) (some (.int kl L)) none none).run Tryz.prog w = .ok (.slice (some ⟨p, o + l, none⟩) (64 - l) (64 - l)) w := by
  subst eL
  rw [run_sliceAt_array_l w 131 ⟨p, o, none⟩ u49 kl l (by omega) (by rw [al49]; omega), el49, al49, size8]
  have e : ¬ 64 = l := by omega
  simp [slicedAt, add_at, e]

theorem bel_drewN {n : Nat} {a w : World} (h : Below n a w) (q : Nat) : Below n a (w.drewN q) := by
  have e0 : (w.drewN q).heap = w.heap := by simp
  exact ⟨by rw [← h.os]; rfl, by rw [← h.tape]; rfl, by rw [← h.output]; rfl, by rw [e0]; exact h.size, fun k hk => by rw [e0]; exact h.block k hk⟩

set_option maxRecDepth 100000 in
set_option maxHeartbeats 1000000 in
theorem sched_any (w : World) (p : Nat) (A B : List Int) (n : Nat) (hT : Tabs w) (h : HB w p A B n) :
    Calls Tryz.prog 116 #[.pointer (some ⟨p, 0, none⟩)] w fun e w' => e = .returned (.agg (wv (W B 64)).toArray) ∧ Below w.heap.size w w' := by
  have h2 := hT.two
  have hp := h.lt
  go_enter Tryz.func116, Tryz.ntmps116
  go_wp2_with (first
    | (refine wpList_alloc_named rfl 2 rfl 148 rfl w.heap.size rfl _ 64 z55 ?_; intro w1 a1 s1 g1; have B1 : Below w.heap.size w w1 := (Below.refl _ w).grown g1 (Nat.le_refl _) (by simp); clear g1)
    | (refine wpList_alloc_named rfl 3 rfl 148 rfl (w.heap.size + 1) s1 _ 64 z55 ?_; intro w2 a2 s2 g2; have B2 : Below w.heap.size w w2 := B1.grown g2 (by omega) (by simp); have A2 : Arr w2 w.heap.size 148 _ := Arr.grown a1 g2 (by simp); clear g2 B1 a1 s1))
  go_loopw [12] (fun i wr => ∃ k : Nat, k ≤ 16 ∧ i = .int .i64 k ∧ Below w.heap.size w wr ∧ Arr wr w.heap.size 148 (List.replicate 64 (Value.int .u32 0)) ∧ Arr wr (w.heap.size + 1) 148 (wv (fillW B k)) ∧ wr.heap.size = w.heap.size + 1 + 1) (fun i _ => 16 - (intOf i).toNat)
  case atStart => exact ⟨0, by omega, rfl, B2, A2, a2, s2⟩
  case round =>
    obtain ⟨k, hk, rfl, B4, A4, a4, s4⟩ := hrel
    have h4 := h.below B4 hp
    clear a2 A2 B2 s2
    by_cases hlt : k < 16
    · have hi : (k : Int) < 16 := by omega
      have hsl := slice49 .i64 p 8 (4 * k) (4 * (k + 1)) (by omega) (by omega) (by omega) (4 * (k : Int)) (4 * ((k : Int) + 1)) (by omega) (by omega)
      rw [show 4 * (k + 1) - 4 * k = 4 by omega] at hsl
      go_wp2
      go_loopw [25] (fun i wr => ∃ j : Nat, j ≤ 4 ∧ i = .int .i64 j ∧ Below w.heap.size w wr ∧ Arr wr w.heap.size 148 (List.replicate 64 (Value.int .u32 0)) ∧ Arr wr (w.heap.size + 1) 148 (wv (arrW B k (be B k j))) ∧ wr.heap.size = w.heap.size + 1 + 1) (fun i _ => 4 - (intOf i).toNat)
      case atStart => exact ⟨0, by omega, rfl, B4, A4, by rw [fillW_arr _ _ (by omega)] at a4; exact a4, s4⟩
      case round =>
        obtain ⟨j, hj, rfl, B5, A5, a5, s5⟩ := hrel
        have h5 := h.below B5 hp
        clear a4 A4 B4 s4 h4
        by_cases hjt : j < 4
        · have hji : (j : Int) < 4 := by omega
          have c1 := a5.cell k
          rw [wv_get _ k (by rw [arrW_len _ _ _ (by omega)]; omega), arrW_at] at c1
          have c2 := a5.free k
          have c3 := h5.byteAt (4 * k + j) (by omega)
          rw [← Nat.add_assoc] at c3
          go_wp2
          go_roundw
          case rel =>
            refine ⟨j + 1, by omega, by go_num, B5.setCell (by show w.heap.size ≤ w.heap.size + 1; omega) _, A5.other _ _ (by show w.heap.size ≠ w.heap.size + 1; omega), ?_, by simpa using s5⟩
            have hb := h.byte.at (4 * k + j)
            have e : B[4 * k + j]?.getD 0 % 4294967296 = B[4 * k + j]?.getD 0 := by omega
            have := a5.set k (.int .u32 (be B k (j + 1)))
            rw [wv_set, arrW_set] at this
            rw [e]
            exact this
          case measure => simp [intOf]; omega
        · obtain rfl : j = 4 := by omega
          go_wp2
          go_roundw
          case rel =>
            refine ⟨k + 1, by omega, by go_num, B5, A5, ?_, s5⟩
            have e := arrW_next B k (by omega)
            rw [if_pos hlt] at e
            rw [← e]
            exact a5
          case measure => simp [intOf]; omega
    · have hge : (16 : Int) ≤ (k : Int) := by omega
      go_wp2
      go_loopw [7] (fun i wr => ∃ k : Nat, 16 ≤ k ∧ k ≤ 64 ∧ i = .int .i64 k ∧ Below w.heap.size w wr ∧ Arr wr w.heap.size 148 (List.replicate 64 (Value.int .u32 0)) ∧ Arr wr (w.heap.size + 1) 148 (wv (fillW B k)) ∧ wr.heap.size = w.heap.size + 1 + 1) (fun i _ => 64 - (intOf i).toNat)
      case atStart =>
        obtain rfl : k = 16 := by omega
        exact ⟨16, by omega, by omega, rfl, B4, A4, a4, s4⟩
      case round =>
        clear a4 A4 B4 s4 h4 hge hlt hk
        obtain ⟨k, hk16, hk, rfl, B5, A5, a5, s5⟩ := hrel
        by_cases hkt : k < 64
        · have hki : (k : Int) < 64 := by omega
          have cs : ∀ j, j < k → wr.cell? ⟨w.heap.size + 1, j, none⟩ = some (.int .u32 ((W B k).getD j 0)) := by
            intro j hj
            rw [a5.cell, wv_get _ _ (by rw [fillW_len _ _ (by omega)]; omega), fillW_low _ _ _ hj]
          have c15 := cs (k - 15) (by omega)
          have c2 := cs (k - 2) (by omega)
          have c16 := cs (k - 16) (by omega)
          have c7 := cs (k - 7) (by omega)
          have c0 := a5.cell k
          rw [wv_get _ _ (by rw [fillW_len _ _ (by omega)]; omega)] at c0
          have cf := a5.free k
          obtain ⟨x15, hx15⟩ : ∃ x, x = (W B k).getD (k - 15) 0 := ⟨_, rfl⟩
          obtain ⟨x2, hx2⟩ : ∃ x, x = (W B k).getD (k - 2) 0 := ⟨_, rfl⟩
          obtain ⟨x16, hx16⟩ : ∃ x, x = (W B k).getD (k - 16) 0 := ⟨_, rfl⟩
          obtain ⟨x7, hx7⟩ : ∃ x, x = (W B k).getD (k - 7) 0 := ⟨_, rfl⟩
          have HX : Hid (nxt (W B k) k = ad (ad (ad x16 (s0 x15)) x7) (s1 x2)) := by rw [hx15, hx2, hx16, hx7]; rfl
          rw [← hx15] at c15
          rw [← hx2] at c2
          rw [← hx16] at c16
          rw [← hx7] at c7
          clear hx15 hx2 hx16 hx7 cs
          have e15 : ((k : Int) - 15).toNat = k - 15 := by omega
          have e2 : ((k : Int) - 2).toNat = k - 2 := by omega
          have e16 : ((k : Int) - 16).toNat = k - 16 := by omega
          have e7 : ((k : Int) - 7).toNat = k - 7 := by omega
          have f15 : 0 ≤ ((k : Int) - 15) := by omega
          have f2 : 0 ≤ ((k : Int) - 2) := by omega
          have f16 : 0 ≤ ((k : Int) - 16) := by omega
          have f7 : 0 ≤ ((k : Int) - 7) := by omega
          have g15 : ((k : Int) - 15) < 64 := by omega
          have g2 : ((k : Int) - 2) < 64 := by omega
          have g16 : ((k : Int) - 16) < 64 := by omega
          have g7 : ((k : Int) - 7) < 64 := by omega
          go_wp2
          go_quiet (fail)
          go_wp2_with (go_at_call 117; refine (rot_at _ _ _ (by simp)).mono ?_; rintro e w' ⟨rfl, rfl⟩)
          clear f15 f2 g15 g2 e15 e2 c15 c2
          go_region
          all_goals go_wp2
          go_roundw
          case rel =>
            have e0 : ∀ q, (wr.drewN q).heap = wr.heap := fun q => by simp
            have a6 : Arr (wr.drewN (nq + 1)) (w.heap.size + 1) 148 (wv (fillW B k)) := by unfold Arr; rw [e0]; exact a5
            have A6 : Arr (wr.drewN (nq + 1)) w.heap.size 148 (List.replicate 64 (Value.int .u32 0)) := by unfold Arr; rw [e0]; exact A5
            refine ⟨k + 1, by omega, by omega, by go_num, (bel_drewN B5 _).setCell (by show w.heap.size ≤ w.heap.size + 1; omega) _, A6.other _ _ (by show w.heap.size ≠ w.heap.size + 1; omega), ?_, by simpa using s5⟩
            have a7 := a6.set k (.int .u32 (nxt (W B k) k))
            have e := arrW_next B k hkt
            rw [if_neg (by omega)] at e
            rw [wv_set, fillW_arr _ _ hkt, arrW_set, e] at a7
            rw [HX.out] at a7
            have e3 : ad (ad (ad x16 (s0 x15)) x7) (s1 x2) = (x16 + bits BinOp.xor IntKind.u32 (bits BinOp.xor IntKind.u32 (rl (-7) x15) (rl (-18) x15)) (x15 / 8) + x7 + bits BinOp.xor IntKind.u32 (bits BinOp.xor IntKind.u32 (rl (-17) x2) (rl (-19) x2)) (x2 / 1024)) % 4294967296 := by
              simp only [ad, IntKind.wrap_u32', s0, s1, xr]
              omega
            rw [e3] at a7
            exact a7
          case measure => simp [intOf]; omega
        · obtain rfl : k = 64 := by omega
          rw [fillW_all] at a5
          go_wp2_with (first
            | (refine wpList_load_cells rfl 148 (Operand.tmp 3) rfl ⟨w.heap.size + 1, 0, none⟩ rfl (wv (W B 64)) (fun j v hv => by rw [add_at, Nat.zero_add, a5.cell]; exact hv) g55 (a55.trans (by rw [wv_length, W_len])) ?_)
            | (refine wpList_store_named rfl 148 (Operand.tmp 2) _ rfl w.heap.size (wv (W B 64)) rfl rfl 148 _ A5 _ s5 (a55.trans (by rw [wv_length, W_len])) (by rw [wv_length, W_len]; rfl) (wv_one _) ?_; intro w6 a6 s6 g6; have B6 : Below w.heap.size w w6 := B5.grown g6 (by omega) (by intro k hk; cases hk; omega); clear g6))
          refine bodyPost_ret (v := .agg (wv (W B 64)).toArray) ?_ rfl ⟨rfl, B6⟩
          exact results_cells rfl _ w6 ⟨w.heap.size, 0, none⟩ rfl (wv (W B 64)) (fun j v hv => by rw [add_at, Nat.zero_add, Arr.cell a6]; exact hv) (g55 w6) (a55.trans (by rw [wv_length, W_len]))
end Go.Proofs.YtnicnfjickknjaaGreatDoor

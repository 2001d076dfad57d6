/-
  Texts in one: Math, Laws, Base, RDefs, Parse, Conv, CStr, CConv, OMath, ORight, BsD, OMem, MgEqB, FlatL, BsBlk, Own2, GRow, SvD, SgMem, MgEqS, OWt.
-/
import Derived.KernelRfl
import Derived.Test.YtnbejckdhdbamaaGreatProg
import Derived.WalkKit
import Derived.WalkSpells
import Derived.WalkMore
import Derived.ScopeJumps
import Derived.Laws.AppendOwnNone
import Derived.Lib.ConvBytes
import Derived.BigQuiet
import Derived.Laws.BytesArg
import Derived.Laws.IdiomStrings
import Derived.Deep.Slices
import Derived.ChangeSame
import Derived.ChangeSlices
import Derived.SizedLaws
namespace Go.Proofs.YtnbejckdhdbamaaGreat
def encF : Nat → Nat → List Int
 | 0, n => [(n : Int)]
 | f + 1, n => if n < 128 then [(n : Int)] else ((n % 128 + 128 : Nat) : Int) :: encF f (n / 128)
def enc (n : Nat) : List Int := encF 10 n
theorem encF_succ (f n : Nat) : encF (f + 1) n = if n < 128 then [(n : Int)] else ((n % 128 + 128 : Nat) : Int) :: encF f (n / 128) := rfl
theorem encF_stable (f : Nat) : ∀ n, n < 128 ^ (f + 1) → encF (f + 1) n = encF f n := by
 induction f with
 | zero => intro n h; simp [encF]; omega
 | succ f ih =>
  intro n h
  rw [encF_succ (f + 1) n, encF_succ f n]
  split
  ·rfl
  ·rw [ih (n / 128) (by rw [Nat.div_lt_iff_lt_mul (by decide)]; rw [Nat.pow_succ] at h; exact h)]
theorem enc_small {n : Nat} (h : n < 128) : enc n = [(n : Int)] := by simp [enc, encF, h]
theorem enc_big {n : Nat} (h : 128 ≤ n) (h2 : n < 18446744073709551616) : enc n = ((n % 128 + 128 : Nat) : Int) :: enc (n / 128) := by
 have : enc n = ((n % 128 + 128 : Nat) : Int) :: encF 9 (n / 128) := by
  unfold enc
  rw [encF_succ, if_neg (by omega)]
 rw [this]
 unfold enc
 rw [encF_stable 9 (n / 128) (by omega)]
theorem encF_length (f : Nat) : ∀ n, (encF f n).length ≤ f + 1 := by
 induction f with
 | zero => intro n; simp [encF]
 | succ f ih =>
  intro n
  rw [encF_succ]
  split
  ·simp
  ·have := ih (n / 128)
   simp; omega
theorem enc_length {n : Nat} (h : n < 18446744073709551616) : (enc n).length ≤ 10 := by
 unfold enc
 rw [encF_stable 9 n (by omega)]
 exact encF_length 9 n
theorem enc_pos (n : Nat) : 1 ≤ (enc n).length := by
 unfold enc
 rw [encF_succ]
 split <;> simp
theorem encF_byte (f : Nat) : ∀ n, n < 128 ^ (f + 1) → ∀ x ∈ encF f n, 0 ≤ x ∧ x ≤ 255 := by
 induction f with
 | zero => intro n h x hx; simp [encF] at hx; omega
 | succ f ih =>
  intro n h x hx
  rw [encF_succ] at hx
  split at hx
  ·simp at hx; omega
  ·simp only [List.mem_cons] at hx
   rcases hx with hx | hx
   ·omega
   ·exact ih (n / 128) (by rw [Nat.div_lt_iff_lt_mul (by decide)]; rw [Nat.pow_succ] at h; exact h) x hx
theorem enc_byte {n : Nat} (h : n < 18446744073709551616) : ∀ x ∈ enc n, 0 ≤ x ∧ x ≤ 255 := by
 intro x hx
 exact encF_byte 10 n (by omega) x hx
def tk : Nat → Nat → List Int → Nat × Nat × Nat
 | _, _, [] => (0, 0, 2)
 | i, acc, c :: r =>
  if i = 9 ∧ 1 < c then (0, 0, 3) else
  if c = 0 ∧ 0 < i then (0, 0, 3) else
  if 128 ≤ c then tk (i + 1) (acc + (c % 128).toNat * 128 ^ i) r else (acc + (c % 128).toNat * 128 ^ i, i + 1, 0)
theorem tk_used : ∀ (xs : List Int) (i acc : Nat), (tk i acc xs).2.2 = 0 → i < (tk i acc xs).2.1 ∧ (tk i acc xs).2.1 ≤ i + xs.length := by
 intro xs
 induction xs with
 | nil => intro i acc h; simp [tk] at h
 | cons c r ih =>
  intro i acc h
  unfold tk at h ⊢
  split at h
  ·simp at h
  ·rename_i h1
   rw [if_neg h1]
   split at h
   ·simp at h
   ·rename_i h2
    rw [if_neg h2]
    split at h
    ·rename_i h3
     rw [if_pos h3]
     have := ih _ _ h
     simp only [List.length_cons]
     omega
    ·rename_i h3
     rw [if_neg h3]
     simp
theorem sum_lt (acc i : Nat) (c : Int) (hacc : acc < 128 ^ i) (hi : i ≤ 9) (h9 : i = 9 → c ≤ 1) (hc : 0 ≤ c) :
  acc + (c % 128).toNat * 128 ^ i < 18446744073709551616 ∧ acc + (c % 128).toNat * 128 ^ i < 128 ^ (i + 1) := by
 have hx : (c % 128).toNat ≤ 127 := by omega
 constructor
 ·by_cases h : i = 9
  ·subst h
   have := h9 rfl
   have h1 : (c % 128).toNat ≤ 1 := by omega
   have := Nat.mul_le_mul_right (128 ^ 9) h1
   have e : (128 : Nat) ^ 9 = 9223372036854775808 := by decide
   rw [e] at *
   omega
  ·have h8 : (128 : Nat) ^ i ≤ 128 ^ 8 := Nat.pow_le_pow_right (by decide) (by omega)
   have e : (128 : Nat) ^ 8 = 72057594037927936 := by decide
   have := Nat.mul_le_mul hx h8
   rw [e] at *
   omega
 ·rw [Nat.pow_succ]
  have := Nat.mul_le_mul_right (128 ^ i) hx
  omega
theorem tk_lt : ∀ (xs : List Int) (i acc : Nat), (∀ x ∈ xs, 0 ≤ x ∧ x ≤ 255) → i ≤ 9 → acc < 128 ^ i → (tk i acc xs).1 < 18446744073709551616 := by
 intro xs
 induction xs with
 | nil => intro i acc _ _ _; simp [tk]
 | cons c r ih =>
  intro i acc hb hi hacc
  have hc := hb c (by simp)
  unfold tk
  split
  ·simp
  ·rename_i h1
   split
   ·simp
   ·have hs := sum_lt acc i c hacc hi (by omega) hc.1
    split
    ·exact ih _ _ (fun x hx => hb x (by simp [hx])) (by omega) hs.2
    ·exact hs.1
theorem tk_cons' (i acc : Nat) (c : Int) (r : List Int) : tk i acc (c :: r) = if i = 9 ∧ 1 < c then (0, 0, 3) else if c = 0 ∧ 0 < i then (0, 0, 3) else if 128 ≤ c then tk (i + 1) (acc + (c % 128).toNat * 128 ^ i) r else (acc + (c % 128).toNat * 128 ^ i, i + 1, 0) := rfl
theorem nine_small {n acc : Nat} (h : acc + n * 128 ^ 9 < 18446744073709551616) : n ≤ 1 := by
 have e : (128 : Nat) ^ 9 = 9223372036854775808 := by decide
 rw [e] at h
 omega
theorem tk_last (i acc n : Nat) (rest : List Int) (hn : n < 128) (hi : i ≤ 9) (hs : acc + n * 128 ^ i < 18446744073709551616) (hp : 0 < i → 0 < n) : tk i acc ((n : Int) :: rest) = (acc + n * 128 ^ i, i + 1, 0) := by
 rw [tk_cons']
 have h9 : ¬ (i = 9 ∧ 1 < (n : Int)) := by
  rintro ⟨rfl, h⟩
  have := nine_small hs
  omega
 rw [if_neg h9, if_neg (by omega), if_neg (by omega)]
 rw [show ((n : Int) % 128).toNat = n from by omega]
theorem tk_encF (f : Nat) : ∀ (i acc n : Nat) (rest : List Int), n < 128 ^ (f + 1) → i + f ≤ 9 → acc + n * 128 ^ i < 18446744073709551616 → (0 < i → 0 < n) →
  tk i acc (encF f n ++ rest) = (acc + n * 128 ^ i, i + (encF f n).length, 0) := by
 induction f with
 | zero =>
  intro i acc n rest hn hi hs hp
  exact tk_last i acc n rest (by simpa using hn) (by omega) hs hp
 | succ f ih =>
  intro i acc n rest hn hi hs hp
  rw [encF_succ]
  by_cases h : n < 128
  ·rw [if_pos h]
   exact tk_last i acc n rest h (by omega) hs hp
  ·rw [if_neg h, List.cons_append, tk_cons', if_neg (by omega), if_neg (by omega), if_pos (by omega)]
   have e1 : (((n % 128 + 128 : Nat) : Int) % 128).toNat = n % 128 := by omega
   have e2 : acc + n % 128 * 128 ^ i + n / 128 * 128 ^ (i + 1) = acc + n * 128 ^ i := by
    have : n / 128 * 128 ^ (i + 1) = (n / 128 * 128) * 128 ^ i := by rw [Nat.pow_succ, Nat.mul_assoc, Nat.mul_comm 128]
    rw [this, Nat.add_assoc, ← Nat.add_mul]
    congr 2
    omega
   rw [e1, ih (i + 1) _ (n / 128) rest (by rw [Nat.div_lt_iff_lt_mul (by decide)]; rw [Nat.pow_succ] at hn; exact hn) (by omega) (by rw [e2]; exact hs) (by omega), e2]
   simp only [List.length_cons]
   congr 2
   omega
theorem enc9 {n : Nat} (h : n < 18446744073709551616) : enc n = encF 9 n := by
 unfold enc
 rw [encF_stable 9 n (by omega)]
theorem tk_enc {n : Nat} (h : n < 18446744073709551616) (rest : List Int) : tk 0 0 (enc n ++ rest) = (n, (enc n).length, 0) := by
 rw [enc9 h, tk_encF 9 0 0 n rest (by omega) (by omega) (by omega) (by omega)]
 simp
theorem tk_form : ∀ (xs : List Int) (i acc m u : Nat), (∀ x ∈ xs, 0 ≤ x ∧ x ≤ 255) → i ≤ 9 → acc < 128 ^ i → tk i acc xs = (m, u, 0) →
  ∃ n, m = acc + n * 128 ^ i ∧ xs.take (u - i) = enc n ∧ (0 < i → 0 < n) ∧ i < u ∧ m < 18446744073709551616 := by
 intro xs
 induction xs with
 | nil => intro i acc m u _ _ _ h; simp [tk] at h
 | cons c r ih =>
  intro i acc m u hb hi hacc h
  have hc := hb c (by simp)
  rw [tk_cons'] at h
  by_cases h1 : i = 9 ∧ 1 < c
  ·rw [if_pos h1] at h; simp at h
  ·rw [if_neg h1] at h
   by_cases h2 : c = 0 ∧ 0 < i
   ·rw [if_pos h2] at h; simp at h
   ·rw [if_neg h2] at h
    have hs := sum_lt acc i c hacc hi (by omega) hc.1
    by_cases h3 : 128 ≤ c
    ·rw [if_pos h3] at h
     obtain ⟨n, hm, ht, hp, hu, hlt⟩ := ih (i + 1) _ m u (fun x hx => hb x (by simp [hx])) (by omega) hs.2 h
     have hn := hp (by omega)
     obtain ⟨d, hd⟩ : ∃ d : Nat, c = ((d + 128 : Nat) : Int) := ⟨(c - 128).toNat, by omega⟩
     have hd1 : (c % 128).toNat = d := by omega
     have hd2 : d < 128 := by omega
     have e : acc + d * 128 ^ i + n * 128 ^ (i + 1) = acc + (d + n * 128) * 128 ^ i := by
      rw [Nat.pow_succ, Nat.mul_comm (128 ^ i) 128, ← Nat.mul_assoc, Nat.add_assoc, ← Nat.add_mul]
     rw [hd1, e] at hm
     refine ⟨d + n * 128, hm, ?_, by omega, by omega, hlt⟩
     have hge : (d + n * 128) ≤ (d + n * 128) * 128 ^ i := Nat.le_mul_of_pos_right _ (Nat.pow_pos (by decide))
     rw [enc_big (n := d + n * 128) (by omega) (by omega)]
     rw [show (d + n * 128) / 128 = n from by omega, show (d + n * 128) % 128 = d from by omega]
     rw [show u - i = (u - (i + 1)) + 1 from by omega, List.take_succ_cons, ht, hd]
    ·rw [if_neg h3] at h
     simp only [Prod.mk.injEq] at h
     obtain ⟨hm, hu, _⟩ := h
     obtain ⟨d, rfl⟩ : ∃ d : Nat, c = (d : Int) := ⟨c.toNat, by omega⟩
     have e1 : ((d : Int) % 128).toNat = d := by omega
     rw [e1] at hm hs
     refine ⟨d, hm.symm, ?_, by omega, by omega, by omega⟩
     rw [← hu, enc_small (by omega), show i + 1 - i = 1 from by omega]
     simp
theorem tk_back {xs : List Int} {m u : Nat} (hb : ∀ x ∈ xs, 0 ≤ x ∧ x ≤ 255) (h : tk 0 0 xs = (m, u, 0)) : xs.take u = enc m ∧ m < 18446744073709551616 := by
 obtain ⟨n, hm, ht, _, _, hlt⟩ := tk_form xs 0 0 m u hb (by omega) (by decide) h
 simp at hm ht
 subst hm
 exact ⟨ht, hlt⟩
open Go.RowKit
theorem u8info : (Tryz.prog.info? 5).map (fun i => (i.zero, i.size, i.bytes)) = some (some (.int .u8 0), 1, 1) := by kernel_rfl
def bv (xs : List Int) : List Value := xs.map (Value.int .u8)
theorem bv_length (xs : List Int) : (bv xs).length = xs.length := by simp [bv]
theorem bv_append (xs ys : List Int) : bv (xs ++ ys) = bv xs ++ bv ys := by simp [bv]
theorem bv_one (xs : List Int) : ∀ u ∈ bv xs, u.oneCell' = true := ints_oneCell .u8 xs
theorem bv_get (xs : List Int) (j : Nat) (h : j < xs.length) : (bv xs)[j]? = some (.int .u8 (xs.getD j 0)) := by
 simp [bv, h]
def Byt (xs : List Int) : Prop := ∀ x ∈ xs, 0 ≤ x ∧ x ≤ 255
theorem Byt.append {xs ys : List Int} (h : Byt xs) (k : Byt ys) : Byt (xs ++ ys) := by
 intro x hx
 rcases List.mem_append.1 hx with h1 | h1
 ·exact h x h1
 ·exact k x h1
theorem Byt.drop {xs : List Int} (h : Byt xs) (n : Nat) : Byt (xs.drop n) := fun x hx => h x (List.mem_of_mem_drop hx)
theorem Byt.take {xs : List Int} (h : Byt xs) (n : Nat) : Byt (xs.take n) := fun x hx => h x (List.mem_of_mem_take hx)
structure Sl (w : World) (ao : Option Addr) (n cap : Nat) (xs : List Int) : Prop where
 len : xs.length = n
 le : n ≤ cap
 mx : cap ≤ maxLen
 nil : ao = none → n = 0 ∧ cap = 0
 cell : ∀ a, ao = some a → ∀ i, i < n → w.cell? (a.add i) = some (.int .u8 (xs.getD i 0))
 byte : Byt xs
theorem Sl.cells {w : World} {ao : Option Addr} {n cap : Nat} {xs : List Int} (h : Sl w ao n cap xs) : ∀ ad, ao = some ad → ∀ j u, (bv xs)[j]? = some u → w.cell? (ad.add j) = some u := by
 intro ad had j u hu
 have hj : j < xs.length := by
  have := (List.getElem?_eq_some_iff.1 hu).1
  simpa [bv] using this
 rw [bv_get xs j hj] at hu
 rw [h.cell ad had j (by rw [← h.len]; exact hj)]
 exact hu
theorem Sl.lt {w : World} {ao : Option Addr} {n cap : Nat} {xs : List Int} (h : Sl w ao n cap xs) : ∀ a, ao = some a → 0 < n → a.block < w.heap.size := by
 intro a ha hn
 have := World.block_lt_of_cell? w _ (h.cell a ha 0 hn)
 simpa [Addr.add] using this
theorem Sl.below {w w' : World} {ao : Option Addr} {n cap : Nat} {xs : List Int} (h : Sl w ao n cap xs) (hb : Below w.heap.size w w') : Sl w' ao n cap xs := by
 refine ⟨h.len, h.le, h.mx, h.nil, fun a ha i hi => ?_, h.byte⟩
 have hc := h.cell a ha i hi
 rw [← hc]
 exact hb.cell (World.block_lt_of_cell? w _ hc)
theorem Sl.nothing (w : World) : Sl w none 0 0 [] := ⟨rfl, Nat.le_refl _, Nat.zero_le _, fun _ => ⟨rfl, rfl⟩, fun _ h => by simp at h, fun _ h => by simp at h⟩
theorem Sl.one (w : World) (c : Int) (h : 0 ≤ c ∧ c ≤ 255) : Sl (w.alloc (.cells #[.int .u8 c] 5)) (some ⟨w.heap.size, 0, none⟩) 1 1 [c] := by
 refine ⟨rfl, Nat.le_refl _, by decide, fun h => by simp at h, fun a ha i hi => ?_, fun x hx => by simp at hx; omega⟩
 obtain rfl := Option.some.inj ha
 obtain rfl : i = 0 := by omega
 exact cell_one_new _ _ _ 0 _ (by simp)
theorem Sl.new (w : World) (xs : List Int) (h : Byt xs) (hn : xs.length ≤ maxLen) : Sl (w.alloc (.cells (bv xs).toArray 5)) (some ⟨w.heap.size, 0, none⟩) xs.length xs.length xs := by
 refine ⟨rfl, Nat.le_refl _, hn, fun h => by simp at h, fun a ha i hi => ?_, h⟩
 obtain rfl := Option.some.inj ha
 rw [Addr.add_lit, Nat.zero_add, cell_of_row _ w.heap.size i (bv xs).toArray 5 (0, 0) (heap_alloc_new w _)]
 simpa using bv_get xs i hi
theorem Sl.own {w : World} {base : Nat} {v : Value} {n : Nat} {xs : List Int} (h : w.ownsRow base 5 1 v n (bv xs)) (hb : Byt xs) :
  ∃ ao cap, v = .slice ao n cap ∧ Sl w ao n cap xs ∧ ∀ a, ao = some a → base ≤ a.block ∧ a.block < w.heap.size ∧ a.off = 0 ∧ a.spot = none := by
 have hl : xs.length = n := by have := h.1; rw [bv_length] at this; omega
 rcases h.2 with ⟨rfl, rfl⟩ | ⟨g, cap, cur, rfl, hg, hh, hle, hmx, hcs, htk⟩
 ·obtain rfl : xs = [] := List.eq_nil_of_length_eq_zero hl
  exact ⟨none, 0, rfl, Sl.nothing w, fun a ha => by simp at ha⟩
 ·refine ⟨some ⟨g, 0, none⟩, cap, rfl, ⟨hl, hle, hmx, fun h => by simp at h, fun a ha i hi => ?_, hb⟩, fun a ha => ?_⟩
  ·obtain rfl := Option.some.inj ha
   exact h.cells (g := g) rfl i _ (bv_get xs i (by omega))
  ·obtain rfl := Option.some.inj ha
   exact ⟨hg, (Array.getElem?_eq_some_iff.1 hh).1, rfl, rfl⟩
theorem wpList_app {w : World} {ops : Array Oper} {rest : List Oper} {o : Oper} {a : Act} {Q : Exit → Act → World → Prop} (hgd : o.guard = none) (s x : Operand)
  (ho : o.op = .call { callee := .builtin .append, args := #[s, x], argTypes := #[23, 23] })
  (base : Nat) (v : Value) (n : Nat) (xs : List Int) (hs : a.eval s = v) (hown : w.ownsRow base 5 1 v n (bv xs))
  (bo : Option Addr) (m c : Nat) (ys : List Int) (hx : a.eval x = .slice bo m c) (hsl : Sl w bo m c ys) (hb : n + m ≤ 140737488355328) (hbase : base ≤ w.heap.size)
  (h : ∀ v' w', w'.ownsRow base 5 1 v' (n + m) (bv (xs ++ ys)) → Below base w w' → wpList Tryz.prog ops Q rest (a.put o.dst v') w') : wpList Tryz.prog ops Q (o :: rest) a w := by
 obtain ⟨i0, hi, hz0, hz1, hz2⟩ := info_parts u8info
 cases bo with
 | some ad =>
  refine wpList_append_own w hgd s x 23 ho base 5 i0 (.int .u8 0) 1 1 Tryz.underlying23 hi hz0 hz1 hz2 rfl (by decide) v n (bv xs) hs hown ad m c (bv ys) hx (by rw [bv_length, hsl.len, Nat.mul_one]) (hsl.cells ad rfl) (bv_one ys) (by unfold maxLen; omega) (by omega) hbase ?_
  intro v' w' h1 h2 _
  rw [← bv_append] at h1
  exact h v' w' h1 ((Below.refl _ w).grown h2 hbase (fun k hk => (hown.lt k hk).1))
 | none =>
  obtain ⟨rfl, rfl⟩ := hsl.nil rfl
  obtain rfl : ys = [] := List.eq_nil_of_length_eq_zero hsl.len
  refine wpList_append_own_none hgd s x 23 ho base 5 i0 1 Tryz.underlying23 hi v n (bv xs) hs hown hx ?_
  exact h v w (by simpa using hown) (Below.refl _ _)
theorem or128 (m : Nat) : bits BinOp.or IntKind.u8 128 ((m : Int) % 128) = ((m % 128 + 128 : Nat) : Int) := by
 have key : ∀ x : Fin 128, bits BinOp.or IntKind.u8 128 ((x.val : Nat) : Int) = ((x.val + 128 : Nat) : Int) := by decide
 have h := key ⟨m % 128, Nat.mod_lt _ (by decide)⟩
 simpa using h
theorem wp_scope_label {P : Program} {Q : Exit → Act → World → Prop} {a : Act} {w : World} {y : Code} (l : Nat) (J : Act → World → Prop) (μ : Act → World → Nat) (h0 : J a w)
  (pass : ∀ a w, J a w → y.wp P (Exit.jump l (fun a' w' => J a' w' ∧ μ a' w' < μ a w) Q) a w) : (Code.scope ((Code.label l).seq y)).wp P Q a w := by
 refine wp_scope_jumps l J μ (rest := .seq .skip y) (by simp [findLabel]) ?_ ?_
 ·refine wp_seq (wp_label ?_)
  show y.wp P _ a w
  refine wp_mono (pass a w h0) ?_
  intro e a' w' h
  cases e with
  | goto l' => exact ⟨h.1, h.2.1⟩
  | _ => exact h
 ·intro a w hJ
  exact wp_seq (wp_skip (pass a w hJ))
open Go.RowKit
def uintS (xs : List Int) (k : Int) : Nat × List Int × Int :=
 if k = 0 then (if (tk 0 0 xs).2.2 = 0 then ((tk 0 0 xs).1, xs.drop (tk 0 0 xs).2.1, 0) else (0, [], ((tk 0 0 xs).2.2 : Nat))) else (0, xs, k)
def intS (xs : List Int) (k most : Int) : Nat × List Int × Int :=
 if (uintS xs k).2.2 = 0 then (if most < 0 ∨ most < (uintS xs k).1 then (0, [], 4) else uintS xs k) else (0, (uintS xs k).2)
def bytesS (xs : List Int) (k most : Int) : List Int × List Int × Int :=
 if (intS xs k most).2.2 = 0 then (if (intS xs k most).2.1.length < (intS xs k most).1 then ([], [], 2) else ((intS xs k most).2.1.take (intS xs k most).1, (intS xs k most).2.1.drop (intS xs k most).1, 0)) else ([], (intS xs k most).2)
def boolS (xs : List Int) (k : Int) : Bool × List Int × Int :=
 if k = 0 then (match xs with
  | [] => (false, [], 2)
  | c :: r => if 1 < c then (false, [], 3) else (c == 1, r, 0)) else (false, xs, k)
theorem uintS_lt {xs : List Int} {k : Int} (hb : Byt xs) : (uintS xs k).1 < 18446744073709551616 := by
 unfold uintS
 split
 ·split
  ·exact tk_lt xs 0 0 hb (by omega) (by decide)
  ·simp
 ·simp
def doneS (xs : List Int) (k : Int) : Int := if k = 0 then (if xs = [] then 0 else 3) else k
def enb (b : Bool) : List Int := if b then [1] else [0]
theorem enb_byte (b : Bool) : Byt (enb b) := by
 intro x hx
 cases b <;> simp [enb] at hx <;> omega
abbrev Rs (α : Type) := Sum Int (α × List Int)
def then_ {α β : Type} (r : Rs α) (f : α → List Int → Rs β) : Rs β :=
 match r with
 | .inl k => .inl k
 | .inr (v, rest) => f v rest
theorem then_good {α β : Type} {r : Rs α} {f : α → List Int → Rs β} {b : β} {rest : List Int} (h : then_ r f = .inr (b, rest)) : ∃ a r', r = .inr (a, r') ∧ f a r' = .inr (b, rest) := by
 match r, h with
 | .inl k, h => simp [then_] at h
 | .inr (a, r'), h => exact ⟨a, r', rfl, h⟩
structure Good {α : Type} (P : List Int → Rs α) (f : α → List Int) (ok : α → Prop) : Prop where
 put : ∀ v rest, ok v → P (f v ++ rest) = .inr (v, rest)
 back : ∀ xs v rest, Byt xs → P xs = .inr (v, rest) → xs = f v ++ rest ∧ ok v
 cut : ∀ v c, ok v → c < (f v).length → P ((f v).take c) = .inl 2
theorem byt_right {xs ys : List Int} (h : Byt (xs ++ ys)) : Byt ys := fun x hx => h x (List.mem_append_right _ hx)
def andThen {α β : Type} (P : List Int → Rs α) (Q : α → List Int → Rs β) (xs : List Int) : Rs (α × β) := then_ (P xs) fun a r => then_ (Q a r) fun b r' => .inr ((a, b), r')
theorem Good.andThen {α β : Type} {P : List Int → Rs α} {Q : α → List Int → Rs β} {f : α → List Int} {g : α → β → List Int} {okP : α → Prop} {okQ : α → β → Prop} (h : Good P f okP) (k : ∀ a, okP a → Good (Q a) (g a) (okQ a)) :
  Good (andThen P Q) (fun p => f p.1 ++ g p.1 p.2) (fun p => okP p.1 ∧ okQ p.1 p.2) := by
 refine ⟨?_, ?_, ?_⟩
 ·rintro ⟨a, b⟩ rest ⟨h1, h2⟩
  unfold Go.Proofs.YtnbejckdhdbamaaGreat.andThen
  simp only [List.append_assoc]
  rw [h.put a _ h1]
  simp only [then_]
  rw [(k a h1).put b _ h2]
 ·rintro xs ⟨a, b⟩ rest hb hx
  obtain ⟨a', r', e1, hx⟩ := then_good hx
  obtain ⟨b', r'', e2, hx⟩ := then_good hx
  simp only [Sum.inr.injEq, Prod.mk.injEq] at hx
  obtain ⟨⟨rfl, rfl⟩, rfl⟩ := hx
  obtain ⟨x1, o1⟩ := h.back xs _ _ hb e1
  subst x1
  obtain ⟨x2, o2⟩ := (k _ o1).back _ _ _ (byt_right hb) e2
  refine ⟨?_, o1, o2⟩
  rw [x2, List.append_assoc]
 ·rintro ⟨a, b⟩ c ⟨h1, h2⟩ hc
  unfold Go.Proofs.YtnbejckdhdbamaaGreat.andThen
  simp only [List.length_append] at hc
  by_cases l : c < (f a).length
  ·simp only [List.take_append_of_le_length (Nat.le_of_lt l)]
   rw [h.cut a c h1 l]
   rfl
  ·have e : (f a ++ g a b).take c = f a ++ (g a b).take (c - (f a).length) := by
    rw [List.take_append, List.take_of_length_le (by omega)]
   simp only [e]
   rw [h.put a _ h1]
   simp only [then_]
   rw [(k a h1).cut b _ h2 (by omega)]
def dress {α β : Type} (t : α → β) : Rs α → Rs β
 | .inl k => .inl k
 | .inr (v, rest) => .inr (t v, rest)
theorem dress_good {α β : Type} {t : α → β} {r : Rs α} {b : β} {rest : List Int} (h : dress t r = .inr (b, rest)) : ∃ a, r = .inr (a, rest) ∧ t a = b := by
 match r, h with
 | .inl k, h => simp [dress] at h
 | .inr (a, r'), h =>
  simp only [dress, Sum.inr.injEq, Prod.mk.injEq] at h
  exact ⟨a, by rw [h.2], h.1⟩
theorem Good.map {α β : Type} {P : List Int → Rs α} {f : α → List Int} {ok : α → Prop} (h : Good P f ok) (t : α → β) (u : β → α) (ok' : β → Prop) (h1 : ∀ b, ok' b → t (u b) = b ∧ ok (u b)) (h2 : ∀ a, ok a → u (t a) = a ∧ ok' (t a)) :
  Good (fun xs => dress t (P xs)) (fun b => f (u b)) ok' := by
 refine ⟨?_, ?_, ?_⟩
 ·intro b rest hb
  simp only [h.put _ rest (h1 b hb).2, dress, (h1 b hb).1]
 ·intro xs b rest hx hb
  obtain ⟨a, e, rfl⟩ := dress_good hb
  obtain ⟨x1, o1⟩ := h.back xs a rest hx e
  rw [(h2 a o1).1]
  exact ⟨x1, (h2 a o1).2⟩
 ·intro b c hb hc
  simp only [h.cut _ c (h1 b hb).2 hc, dress]
theorem Good.only {α : Type} {P : List Int → Rs α} {f g : α → List Int} {ok ok' : α → Prop} (h : Good P f ok) (hk : ∀ a, ok a ↔ ok' a) (hf : ∀ a, ok a → f a = g a) : Good P g ok' := by
 refine ⟨?_, ?_, ?_⟩
 ·intro v rest hv
  rw [← hf v ((hk v).2 hv)]
  exact h.put v rest ((hk v).2 hv)
 ·intro xs v rest hb hx
  obtain ⟨e, o⟩ := h.back xs v rest hb hx
  rw [← hf v o]
  exact ⟨e, (hk v).1 o⟩
 ·intro v c hv hc
  rw [← hf v ((hk v).2 hv)] at hc ⊢
  exact h.cut v c ((hk v).2 hv) hc
def pRep {α : Type} (P : List Int → Rs α) : Nat → List Int → Rs (List α)
 | 0, xs => .inr ([], xs)
 | n + 1, xs => then_ (P xs) fun a r => then_ (pRep P n r) fun l r' => .inr ((a :: l), r')
theorem Good.rep {α : Type} {P : List Int → Rs α} {f : α → List Int} {ok : α → Prop} (h : Good P f ok) : ∀ n, Good (pRep P n) (fun l => (l.map f).flatten) (fun l => l.length = n ∧ ∀ a ∈ l, ok a)
 | 0 => by
  refine ⟨?_, ?_, ?_⟩
  ·rintro l rest ⟨h1, _⟩
   obtain rfl := List.eq_nil_of_length_eq_zero h1
   rfl
  ·rintro xs l rest _ hx
   simp only [pRep, Sum.inr.injEq, Prod.mk.injEq] at hx
   obtain ⟨rfl, rfl⟩ := hx
   simp
  ·rintro l c ⟨h1, _⟩ hc
   obtain rfl := List.eq_nil_of_length_eq_zero h1
   simp at hc
 | n + 1 => by
  have ih := h.rep n
  refine ⟨?_, ?_, ?_⟩
  ·rintro l rest ⟨h1, h2⟩
   cases l with
   | nil => simp at h1
   | cons a l =>
    simp only [List.map_cons, List.flatten_cons, List.append_assoc]
    unfold pRep
    rw [h.put a _ (h2 a (List.mem_cons_self ..))]
    simp only [then_]
    have := ih.put l rest ⟨by simpa using h1, fun x hx => h2 x (List.mem_cons_of_mem _ hx)⟩
    rw [this]
  ·rintro xs l rest hb hx
   obtain ⟨a, r', e1, hx⟩ := then_good hx
   obtain ⟨l', r'', e2, hx⟩ := then_good hx
   simp only [Sum.inr.injEq, Prod.mk.injEq] at hx
   obtain ⟨rfl, rfl⟩ := hx
   obtain ⟨x1, o1⟩ := h.back xs a r' hb e1
   subst x1
   obtain ⟨x2, o2, o3⟩ := ih.back _ _ _ (byt_right hb) e2
   refine ⟨?_, by simp [o2], ?_⟩
   ·rw [x2]; simp
   ·intro x hx
    rcases List.mem_cons.1 hx with rfl | hx
    ·exact o1
    ·exact o3 x hx
  ·rintro l c ⟨h1, h2⟩ hc
   cases l with
   | nil => simp at h1
   | cons a l =>
    simp only [List.map_cons, List.flatten_cons, List.length_append] at hc ⊢
    have ok1 := h2 a (List.mem_cons_self ..)
    unfold pRep
    by_cases q : c < (f a).length
    ·rw [List.take_append_of_le_length (Nat.le_of_lt q), h.cut a c ok1 q]
     rfl
    ·rw [List.take_append, List.take_of_length_le (by omega), h.put a _ ok1]
     simp only [then_]
     have := ih.cut l (c - (f a).length) ⟨by simpa using h1, fun x hx => h2 x (List.mem_cons_of_mem _ hx)⟩ (by omega)
     simp only [this]
def pUint (xs : List Int) : Rs Nat := if (tk 0 0 xs).2.2 = 0 then .inr ((tk 0 0 xs).1, xs.drop (tk 0 0 xs).2.1) else .inl ((tk 0 0 xs).2.2 : Nat)
def pInt (most : Nat) (xs : List Int) : Rs Nat := then_ (pUint xs) fun n r => if most < n then .inl 4 else .inr (n, r)
def pBytes (most : Nat) (xs : List Int) : Rs (List Int) := then_ (pInt most xs) fun n r => if r.length < n then .inl 2 else .inr ((r.take n), (r.drop n))
def pBool : List Int → Rs Bool
 | [] => .inl 2
 | c :: r => if 1 < c then .inl 3 else .inr ((c == 1), r)
theorem tk_shortF' (f : Nat) : ∀ (i acc n c : Nat), n < 128 ^ (f + 1) → i + f ≤ 9 → c < (encF f n).length → tk i acc ((encF f n).take c) = (0, 0, 2) := by
 induction f with
 | zero =>
  intro i acc n c _ _ hc
  have : (encF 0 n).length = 1 := rfl
  obtain rfl : c = 0 := by omega
  rfl
 | succ f ih =>
  intro i acc n c hn hi hc
  rw [encF_succ] at hc ⊢
  by_cases h : n < 128
  ·rw [if_pos h] at hc ⊢
   obtain rfl : c = 0 := by simpa using hc
   rfl
  ·rw [if_neg h] at hc ⊢
   cases c with
   | zero => rfl
   | succ c =>
    rw [List.take_succ_cons, tk_cons', if_neg (by omega), if_neg (by omega), if_pos (by omega)]
    exact ih (i + 1) _ (n / 128) c (by rw [Nat.div_lt_iff_lt_mul (by decide)]; rw [Nat.pow_succ] at hn; exact hn) (by omega) (by simpa using hc)
theorem tk_short' {n : Nat} (h : n < 18446744073709551616) (c : Nat) (hc : c < (enc n).length) : tk 0 0 ((enc n).take c) = (0, 0, 2) := by
 rw [enc9 h] at hc ⊢
 exact tk_shortF' 9 0 0 n c (by omega) (by omega) hc
theorem good_uint : Good pUint enc (fun n => n < 18446744073709551616) := by
 refine ⟨?_, ?_, ?_⟩
 ·intro n rest hn
  unfold pUint
  rw [tk_enc hn]
  simp
 ·intro xs n rest hb hx
  unfold pUint at hx
  by_cases h : (tk 0 0 xs).2.2 = 0
  ·rw [if_pos h] at hx
   simp only [Sum.inr.injEq, Prod.mk.injEq] at hx
   obtain ⟨e1, e2⟩ := hx
   have := tk_back (m := n) (u := (tk 0 0 xs).2.1) hb (Prod.ext e1 (Prod.ext rfl h))
   refine ⟨?_, this.2⟩
   rw [← e2, ← this.1, List.take_append_drop]
  ·rw [if_neg h] at hx
   simp at hx
 ·intro n c hn hc
  unfold pUint
  rw [tk_short' hn c hc]
  rfl
theorem good_int (most : Nat) (hm : most < 18446744073709551616) : Good (pInt most) enc (fun n => n ≤ most) := by
 refine ⟨?_, ?_, ?_⟩
 ·intro n rest hn
  unfold pInt
  rw [good_uint.put n rest (by omega)]
  simp only [then_]
  rw [if_neg (by omega)]
 ·intro xs n rest hb hx
  obtain ⟨n', r', e1, hx⟩ := then_good hx
  by_cases h : most < n'
  ·rw [if_pos h] at hx; simp at hx
  ·rw [if_neg h] at hx
   simp only [Sum.inr.injEq, Prod.mk.injEq] at hx
   obtain ⟨rfl, rfl⟩ := hx
   exact ⟨(good_uint.back xs _ _ hb e1).1, by omega⟩
 ·intro n c hn hc
  unfold pInt
  rw [good_uint.cut n c (by omega) hc]
  rfl
theorem good_bytes (most : Nat) (hm : most < 18446744073709551616) : Good (pBytes most) (fun l => enc l.length ++ l) (fun l => l.length ≤ most ∧ Byt l) := by
 refine ⟨?_, ?_, ?_⟩
 ·rintro l rest ⟨hl, _⟩
  unfold pBytes
  rw [List.append_assoc, (good_int most hm).put _ _ hl]
  simp only [then_]
  rw [if_neg (by simp), List.take_left, List.drop_left]
 ·intro xs l rest hb hx
  obtain ⟨n, r', e1, hx⟩ := then_good hx
  obtain ⟨x1, o1⟩ := (good_int most hm).back xs _ _ hb e1
  by_cases h : r'.length < n
  ·rw [if_pos h] at hx; simp at hx
  ·rw [if_neg h] at hx
   simp only [Sum.inr.injEq, Prod.mk.injEq] at hx
   obtain ⟨rfl, rfl⟩ := hx
   have e2 : (r'.take n).length = n := by rw [List.length_take]; omega
   rw [e2, List.append_assoc, List.take_append_drop]
   refine ⟨x1, o1, ?_⟩
   rw [x1] at hb
   exact (byt_right hb).take n
 ·rintro l c ⟨hl, _⟩ hc
  unfold pBytes
  rw [List.length_append] at hc
  by_cases q : c < (enc l.length).length
  ·rw [List.take_append_of_le_length (Nat.le_of_lt q), (good_int most hm).cut _ c hl q]
   rfl
  ·rw [List.take_append, List.take_of_length_le (by omega), (good_int most hm).put _ _ hl]
   simp only [then_]
   rw [if_pos (by rw [List.length_take]; omega)]
theorem good_bool : Good pBool enb (fun _ => True) := by
 refine ⟨?_, ?_, ?_⟩
 ·intro b rest _
  cases b <;> simp [pBool, enb]
 ·intro xs b rest hb hx
  cases xs with
  | nil => simp [pBool] at hx
  | cons c r =>
   have hc := hb c (List.mem_cons_self ..)
   simp only [pBool] at hx
   by_cases h : 1 < c
   ·rw [if_pos h] at hx; simp at hx
   ·rw [if_neg h] at hx
    simp only [Sum.inr.injEq, Prod.mk.injEq] at hx
    obtain ⟨rfl, rfl⟩ := hx
    refine ⟨?_, trivial⟩
    obtain rfl | rfl : c = 0 ∨ c = 1 := by omega
    ·rfl
    ·rfl
 ·intro b c _ hc
  cases b <;> simp [enb] at hc <;> subst hc <;> rfl
open Go.RowKit
def sb (s : ByteArray) : List Int := s.data.toList.map fun c => (c.toNat : Int)
theorem sb_len (s : ByteArray) : (sb s).length = s.size := by simp [sb]
theorem sb_byte (s : ByteArray) : Byt (sb s) := by
 intro x hx
 simp only [sb, List.mem_map] at hx
 obtain ⟨c, _, rfl⟩ := hx
 have := c.toNat_lt
 omega
theorem sb_inj {s t : ByteArray} (h : sb s = sb t) : s = t := by
 have h1 : s.data.toList = t.data.toList := by
  refine List.map_inj_right (f := fun c : UInt8 => (c.toNat : Int)) (fun a b e => ?_) |>.1 h
  exact UInt8.toNat_inj.1 (Int.ofNat.inj e)
 exact ByteArray.ext (Array.toList_inj.1 h1)
theorem bytesWorld_sl (w : World) (s : ByteArray) (hs : s.size ≤ 140737488355328) : Sl (Lib.bytesWorld w 5 s) (some ⟨w.heap.size, 0, none⟩) s.size (grownCap w s.size 0 5) (sb s) := by
 refine ⟨sb_len s, grownCap_ge w _ _ _, grownCap_le_maxLen w _ _ _ (by simp only [maxLen]; omega), fun h => by simp at h, fun a ha i hi => ?_, sb_byte s⟩
 obtain rfl := Option.some.inj ha
 rw [Addr.add_lit, Nat.zero_add, Lib.bytesWorld_cell w _ s i hi]
 simp [sb, List.getD, hi]
theorem bytesWorld_below (w : World) (s : ByteArray) : Below w.heap.size w (Lib.bytesWorld w 5 s) :=
 ⟨rfl, rfl, rfl, by rw [Lib.bytesWorld_size]; omega, fun k hk => Lib.bytesWorld_at_old w _ s k hk⟩
theorem wpList_conv_bytes {w : World} {ops : Array Oper} {rest : List Oper} {o : Oper} {a : Act} {Q : Exit → Act → World → Prop} (hgd : o.guard = none) (x : Operand) (ho : o.op = .convert 9 23 x)
  (s : ByteArray) (hx : a.eval x = .string s) (hs : s.size ≤ 140737488355328)
  (h : ∀ g c w', g = w.heap.size → Sl w' (some ⟨g, 0, none⟩) s.size c (sb s) → Below w.heap.size w w' → wpList Tryz.prog ops Q rest (a.put o.dst (.slice (some ⟨g, 0, none⟩) s.size c)) w') : wpList Tryz.prog ops Q (o :: rest) a w := by
 refine wpList_plain hgd fun K hK => ?_
 have hr := Lib.run_convert_string_bytes (P := Tryz.prog) w 9 23 5 s Tryz.underlying9 Tryz.underlying23 Tryz.underlying5
 unfold Oper.wp execOp
 simp only [ho, hx, hr, Sem.run_bind, Sem.run_pure, Result.andThen_ok]
 exact hK _ _ (h _ _ _ rfl (bytesWorld_sl w s hs) (bytesWorld_below w s))
open Go.RowKit
theorem belN {n : Nat} {a w : World} (h : Below n a w) (q : Nat) : Below n a (w.drewN q) := by
 have e0 : (w.drewN q).heap = w.heap := by simp
 exact ⟨by rw [← h.os]; rfl, by rw [← h.tape]; rfl, by rw [← h.output]; rfl, by rw [e0]; exact h.size, fun k hk => by rw [e0]; exact h.block k hk⟩
open Go.RowKit
theorem sb_str {xs : List Int} (h : Byt xs) : sb (strOfNums xs) = xs := by
 unfold sb
 rw [strOfNums_data, List.map_map]
 refine (List.map_congr_left fun x hx => ?_).trans (List.map_id xs)
 have := h x hx
 simp only [Function.comp_apply, id_eq, UInt8.toNat_ofNat']
 omega
theorem conv_str {w : World} {ao : Option Addr} {n cap : Nat} {xs : List Int} (h : Sl w ao n cap xs) : (convert 23 9 (.slice ao n cap)).run Tryz.prog w = .ok (.string (strOfNums xs)) w := by
 cases ao with
 | none =>
  obtain ⟨rfl, rfl⟩ := h.nil rfl
  obtain rfl : xs = [] := List.eq_nil_of_length_eq_zero h.len
  exact run_convert_bytes_nil w _ _ Tryz.underlying23 Tryz.underlying5 _ _ _ Tryz.underlying9
 | some a =>
  have hl := h.len
  have hc := run_convert_bytes_back (P := Tryz.prog) w 23 9 5 a cap (xs.map fun n => UInt8.ofNat n.toNat) Tryz.underlying23 Tryz.underlying5 Tryz.underlying9 (fun j hj => by
   have hj' : j < xs.length := by simpa using hj
   have hb := h.byte xs[j] (List.getElem_mem hj')
   rw [h.cells a rfl j _ (bv_get xs j hj')]
   simp only [List.getElem_map, UInt8.toNat_ofNat', List.getD, List.getElem?_eq_getElem hj', Option.getD_some, Option.some.injEq, Value.int.injEq, true_and]
   omega)
  rw [List.length_map, hl] at hc
  exact hc
open Go.RowKit
structure SO where
 kind : Int
 row : ByteArray
 fam : ByteArray
 qual : ByteArray
 time : Nat
 to : ByteArray
 value : List Int
 want : List Int
 has : Bool
def txt (s : ByteArray) : List Int := enc s.size ++ sb s
def byts (l : List Int) : List Int := enc l.length ++ l
def pText (most : Nat) (xs : List Int) : Rs ByteArray := dress strOfNums (pBytes most xs)
theorem str_sb (s : ByteArray) : strOfNums (sb s) = s := sb_inj (sb_str (sb_byte s))
theorem good_text (most : Nat) (hm : most < 18446744073709551616) : Good (pText most) txt (fun s => s.size ≤ most) := by
 have h := (good_bytes most hm).map strOfNums sb (fun s => s.size ≤ most) (fun s hs => ⟨str_sb s, by rw [sb_len]; exact hs, sb_byte s⟩) (fun a ha => ⟨sb_str ha.2, by rw [← sb_len, sb_str ha.2]; exact ha.1⟩)
 refine h.only (fun _ => Iff.rfl) ?_
 intro s _
 unfold txt
 rw [sb_len]
abbrev SN := SO × Nat
def putS (o : SO) (n : Nat) : List Int := enc o.kind.toNat ++ (txt o.row ++ (txt o.fam ++ (txt o.qual ++ (enc o.time ++ (txt o.to ++ (byts o.value ++ (byts o.want ++ (enb o.has ++ enc n))))))))
structure SO.fits (o : SO) : Prop where
 kind : 0 ≤ o.kind ∧ o.kind ≤ 100
 row : o.row.size ≤ 32
 fam : o.fam.size ≤ 32
 qual : o.qual.size ≤ 32
 time : o.time < 18446744073709551616
 to : o.to.size ≤ 32
 value : o.value.length ≤ 256 ∧ Byt o.value
 want : o.want.length ≤ 256 ∧ Byt o.want
abbrev Raw := Nat × ByteArray × ByteArray × ByteArray × Nat × ByteArray × List Int × List Int × Bool × Nat
def toS (r : Raw) : SN := (⟨(r.1 : Int), r.2.1, r.2.2.1, r.2.2.2.1, r.2.2.2.2.1, r.2.2.2.2.2.1, r.2.2.2.2.2.2.1, r.2.2.2.2.2.2.2.1, r.2.2.2.2.2.2.2.2.1⟩, r.2.2.2.2.2.2.2.2.2)
def ofS (p : SN) : Raw := (p.1.kind.toNat, p.1.row, p.1.fam, p.1.qual, p.1.time, p.1.to, p.1.value, p.1.want, p.1.has, p.2)
def pRaw (most : Nat) : List Int → Rs Raw :=
 andThen (pInt 100) fun _ => andThen (pText 32) fun _ => andThen (pText 32) fun _ => andThen (pText 32) fun _ => andThen pUint fun _ => andThen (pText 32) fun _ => andThen (pBytes 256) fun _ => andThen (pBytes 256) fun _ => andThen pBool fun _ => pInt most
def pS (most : Nat) (xs : List Int) : Rs SN := dress toS (pRaw most xs)
theorem good_raw (most : Nat) (hm : most < 18446744073709551616) : Good (pRaw most) (fun r => enc r.1 ++ (txt r.2.1 ++ (txt r.2.2.1 ++ (txt r.2.2.2.1 ++ (enc r.2.2.2.2.1 ++ (txt r.2.2.2.2.2.1 ++ (byts r.2.2.2.2.2.2.1 ++ (byts r.2.2.2.2.2.2.2.1 ++ (enb r.2.2.2.2.2.2.2.2.1 ++ enc r.2.2.2.2.2.2.2.2.2)))))))))
  (fun r => r.1 ≤ 100 ∧ r.2.1.size ≤ 32 ∧ r.2.2.1.size ≤ 32 ∧ r.2.2.2.1.size ≤ 32 ∧ r.2.2.2.2.1 < 18446744073709551616 ∧ r.2.2.2.2.2.1.size ≤ 32 ∧ (r.2.2.2.2.2.2.1.length ≤ 256 ∧ Byt r.2.2.2.2.2.2.1) ∧ (r.2.2.2.2.2.2.2.1.length ≤ 256 ∧ Byt r.2.2.2.2.2.2.2.1) ∧ True ∧ r.2.2.2.2.2.2.2.2.2 ≤ most) :=
 (good_int 100 (by decide)).andThen fun _ _ => (good_text 32 (by decide)).andThen fun _ _ => (good_text 32 (by decide)).andThen fun _ _ => (good_text 32 (by decide)).andThen fun _ _ => good_uint.andThen fun _ _ => (good_text 32 (by decide)).andThen fun _ _ => (good_bytes 256 (by decide)).andThen fun _ _ => (good_bytes 256 (by decide)).andThen fun _ _ => good_bool.andThen fun _ _ => good_int most hm
theorem good_s (most : Nat) (hm : most < 18446744073709551616) : Good (pS most) (fun p => putS p.1 p.2) (fun p => p.1.fits ∧ p.2 ≤ most) := by
 refine (good_raw most hm).map toS ofS _ ?_ ?_
 ·rintro ⟨o, n⟩ ⟨h, hn⟩
  have hk : 0 ≤ o.kind ∧ o.kind ≤ 100 := h.kind
  refine ⟨?_, ?_⟩
  ·unfold toS ofS
   simp only [Int.toNat_of_nonneg hk.1]
  ·exact ⟨by show o.kind.toNat ≤ 100; omega, h.row, h.fam, h.qual, h.time, h.to, h.value, h.want, trivial, hn⟩
 ·rintro ⟨k, r, f, q, t, x, v, y, b, n⟩ ⟨h1, h2, h3, h4, h5, h6, h7, h8, _, h10⟩
  refine ⟨?_, ⟨⟨by show (0 : Int) ≤ (k : Int); omega, by show (k : Int) ≤ 100; simp only at h1; omega⟩, h2, h3, h4, h5, h6, h7, h8⟩, h10⟩
  unfold toS ofS
  simp
abbrev OP := SO × List SO
def putP (p : OP) : List Int := putS p.1 p.2.length ++ (p.2.map (fun s => putS s 0)).flatten
def OP.fits (p : OP) : Prop := p.1.fits ∧ p.2.length ≤ 8 ∧ ∀ s ∈ p.2, s.fits
def toP (p : SN × List SN) : OP := (p.1.1, p.2.map Prod.fst)
def ofP (p : OP) : SN × List SN := ((p.1, p.2.length), p.2.map fun s => (s, 0))
def pP (xs : List Int) : Rs OP := dress toP (andThen (pS 8) (fun p => pRep (pS 0) p.2) xs)
theorem good_p : Good pP putP OP.fits := by
 have h := (good_s 8 (by decide)).andThen (Q := fun p => pRep (pS 0) p.2) (g := fun _ l => (l.map fun p => putS p.1 p.2).flatten) (okQ := fun p l => l.length = p.2 ∧ ∀ a ∈ l, a.1.fits ∧ a.2 ≤ 0) (fun a _ => (good_s 0 (by decide)).rep a.2)
 refine (h.map toP ofP OP.fits ?_ ?_).only (fun _ => Iff.rfl) ?_
 ·rintro ⟨o, l⟩ ⟨h1, h2, h3⟩
  refine ⟨?_, ⟨h1, h2⟩, by simp [ofP], ?_⟩
  ·unfold toP ofP
   simp [Function.comp_def]
  ·intro a ha
   obtain ⟨s, hs, rfl⟩ := List.mem_map.1 ha
   exact ⟨h3 s hs, Nat.le_refl _⟩
 ·rintro ⟨⟨o, n⟩, l⟩ ⟨⟨h1, h2⟩, h3, h4⟩
  simp only at h3 h4 h1 h2
  refine ⟨?_, h1, by show (l.map Prod.fst).length ≤ 8; rw [List.length_map]; omega, ?_⟩
  ·unfold toP ofP
   simp only [List.length_map, h3, List.map_map]
   congr 1
   refine (List.map_congr_left fun a ha => ?_).trans (List.map_id l)
   have := (h4 a ha).2
   obtain ⟨s, m⟩ := a
   simp only [Function.comp_apply, id_eq]
   simp only at this
   rw [show m = 0 by omega]
  ·intro s hs
   obtain ⟨a, ha, rfl⟩ := List.mem_map.1 hs
   exact (h4 a ha).1
 ·rintro ⟨o, l⟩ _
  unfold putP ofP
  simp [Function.comp_def]
abbrev QV := Nat × Nat × OP
def putQ (q : QV) : List Int := enc q.1 ++ (enc q.2.1 ++ putP q.2.2)
def pQ : List Int → Rs QV := andThen pUint fun _ => andThen pUint fun _ => pP
theorem good_q : Good pQ putQ (fun q => q.1 < 18446744073709551616 ∧ q.2.1 < 18446744073709551616 ∧ q.2.2.fits) :=
 good_uint.andThen fun _ _ => good_uint.andThen fun _ _ => good_p
structure CV where
 row : ByteArray
 fam : ByteArray
 qual : ByteArray
 time : Nat
 value : List Int
 gone : Bool
structure CV.fits (c : CV) : Prop where
 row : c.row.size ≤ 32
 fam : c.fam.size ≤ 32
 qual : c.qual.size ≤ 32
 time : c.time < 18446744073709551616
 value : c.value.length ≤ 256 ∧ Byt c.value
def putC (c : CV) : List Int := txt c.row ++ (txt c.fam ++ (txt c.qual ++ (enc c.time ++ (byts c.value ++ enb c.gone))))
def toC (r : ByteArray × ByteArray × ByteArray × Nat × List Int × Bool) : CV := ⟨r.1, r.2.1, r.2.2.1, r.2.2.2.1, r.2.2.2.2.1, r.2.2.2.2.2⟩
def ofC (c : CV) : ByteArray × ByteArray × ByteArray × Nat × List Int × Bool := (c.row, c.fam, c.qual, c.time, c.value, c.gone)
def pC (xs : List Int) : Rs CV := dress toC (andThen (pText 32) (fun _ => andThen (pText 32) fun _ => andThen (pText 32) fun _ => andThen pUint fun _ => andThen (pBytes 256) fun _ => pBool) xs)
theorem good_c : Good pC putC CV.fits := by
 have h := (good_text 32 (by decide)).andThen fun _ _ => (good_text 32 (by decide)).andThen fun _ _ => (good_text 32 (by decide)).andThen fun _ _ => good_uint.andThen fun _ _ => (good_bytes 256 (by decide)).andThen fun _ _ => good_bool
 refine (h.map toC ofC CV.fits ?_ ?_).only (fun _ => Iff.rfl) (fun _ _ => rfl)
 ·intro c hc
  exact ⟨rfl, hc.row, hc.fam, hc.qual, hc.time, hc.value, trivial⟩
 ·rintro ⟨a, b, c, t, v, g⟩ ⟨h1, h2, h3, h4, h5, _⟩
  exact ⟨rfl, h1, h2, h3, h4, h5⟩
structure RV where
 e : Int
 cells : List CV
 more : Bool
def RV.fits (r : RV) : Prop := (0 ≤ r.e ∧ r.e ≤ 100) ∧ r.cells.length ≤ 16 ∧ ∀ c ∈ r.cells, c.fits
def putR (r : RV) : List Int := enc r.e.toNat ++ (enc r.cells.length ++ ((r.cells.map putC).flatten ++ enb r.more))
def toR (x : Nat × (Nat × List CV × Bool)) : RV := ⟨(x.1 : Int), x.2.2.1, x.2.2.2⟩
def ofR (r : RV) : Nat × (Nat × List CV × Bool) := (r.e.toNat, (r.cells.length, (r.cells, r.more)))
def pR (xs : List Int) : Rs RV := dress toR (andThen (pInt 100) (fun _ => andThen (pInt 16) fun n => andThen (pRep pC n) fun _ => pBool) xs)
theorem good_r : Good pR putR RV.fits := by
 have h := (good_int 100 (by decide)).andThen fun _ _ => (good_int 16 (by decide)).andThen (Q := fun n => andThen (pRep pC n) fun _ => pBool) fun n _ => (good_c.rep n).andThen fun _ _ => good_bool
 refine (h.map toR ofR RV.fits ?_ ?_).only (fun _ => Iff.rfl) (fun _ _ => rfl)
 ·rintro ⟨e, cs, m⟩ ⟨⟨h1, h1'⟩, h2, h3⟩
  simp only at h1 h1' h2 h3
  refine ⟨?_, by show e.toNat ≤ 100; omega, h2, ⟨rfl, h3⟩, trivial⟩
  unfold toR ofR
  simp only [Int.toNat_of_nonneg h1]
 ·rintro ⟨e, n, cs, m⟩ ⟨h1, h2, ⟨h3, h4⟩, _⟩
  simp only at h1 h2 h3 h4
  refine ⟨?_, ⟨by show (0 : Int) ≤ (e : Int); omega, by show (e : Int) ≤ 100; omega⟩, by show cs.length ≤ 16; omega, h4⟩
  unfold toR ofR
  simp [h3]
open Go.RowKit
def noTxt : ByteArray := ⟨#[]⟩
def onlyS (o : SO) : SO :=
 if o.kind = 1 then { o with to := noTxt, want := [], has := false }
 else if o.kind = 2 then { o with to := noTxt, value := [], want := [], has := false }
 else if o.kind = 3 ∨ o.kind = 7 then { o with time := 0, to := noTxt, value := [], want := [], has := false }
 else if o.kind = 5 then { o with to := noTxt, want := if o.has then o.want else [] }
 else if o.kind = 8 then { o with fam := noTxt, qual := noTxt, time := 0, value := [], want := [], has := false }
 else { o with fam := noTxt, qual := noTxt, time := 0, to := noTxt, value := [], want := [], has := false }
def sameS (a b : SO) : Bool := decide (a.kind = b.kind ∧ a.row = b.row ∧ a.fam = b.fam ∧ a.qual = b.qual ∧ a.time = b.time ∧ a.to = b.to ∧ a.value = b.value ∧ a.want = b.want ∧ a.has = b.has)
theorem sameS_iff (a b : SO) : sameS a b = true ↔ a = b := by
 constructor
 ·intro h
  obtain ⟨h1, h2, h3, h4, h5, h6, h7, h8, h9⟩ := of_decide_eq_true h
  cases a
  cases b
  simp only at h1 h2 h3 h4 h5 h6 h7 h8 h9
  subst h1 h2 h3 h4 h5 h6 h7 h8 h9
  rfl
 ·rintro rfl
  exact decide_eq_true ⟨rfl, rfl, rfl, rfl, rfl, rfl, rfl, rfl, rfl⟩
def keyR (o : SO) : Bool := decide (1 ≤ o.row.size ∧ o.row.size ≤ 32 ∧ 1 ≤ o.fam.size ∧ o.fam.size ≤ 32 ∧ o.qual.size ≤ 32)
def rowR (o : SO) : Bool := decide (1 ≤ o.row.size ∧ o.row.size ≤ 32)
def leaf (o : SO) (n : Nat) : Bool :=
 decide (sameS o (onlyS o) = true ∧ (o.kind = 6 ∨ n = 0) ∧ o.value.length ≤ 256 ∧ o.want.length ≤ 256) &&
 (if o.kind = 1 ∨ o.kind = 2 ∨ o.kind = 3 ∨ o.kind = 5 ∨ o.kind = 7 then keyR o
 else if o.kind = 4 then rowR o
 else if o.kind = 6 then rowR o && decide (1 ≤ n ∧ n ≤ 8)
 else if o.kind = 8 then decide (o.row.size ≤ 32 ∧ o.to.size ≤ 32)
 else false)
def partR (o : SO) (s : SN) : Bool := decide (1 ≤ s.1.kind ∧ s.1.kind ≤ 4) && leaf s.1 s.2 && decide (s.1.row = o.row)
def rightO (o : SO) (subs : List SN) : Bool := leaf o subs.length && (decide (o.kind ≠ 6) || subs.all (partR o))
def rightP (p : OP) : Bool := rightO p.1 (p.2.map fun s => (s, 0))
def SO.wf (o : SO) : Prop := o.time < 18446744073709551616 ∧ Byt o.value ∧ Byt o.want
theorem leaf_kind {o : SO} {n : Nat} (h : leaf o n = true) : 1 ≤ o.kind ∧ o.kind ≤ 8 := by
 unfold leaf at h
 obtain ⟨_, h⟩ := Bool.and_eq_true_iff.1 h
 by_cases c1 : o.kind = 1 ∨ o.kind = 2 ∨ o.kind = 3 ∨ o.kind = 5 ∨ o.kind = 7
 ·omega
 ·rw [if_neg c1] at h
  by_cases c2 : o.kind = 4
  ·omega
  ·rw [if_neg c2] at h
   by_cases c3 : o.kind = 6
   ·omega
   ·rw [if_neg c3] at h
    by_cases c4 : o.kind = 8
    ·omega
    ·rw [if_neg c4] at h
     simp at h
theorem leaf_fits {o : SO} {n : Nat} (h : leaf o n = true) (hw : o.wf) : o.fits := by
 have hk := leaf_kind h
 unfold leaf at h
 obtain ⟨h1, h2⟩ := Bool.and_eq_true_iff.1 h
 obtain ⟨e, hn, hv, hwn⟩ := of_decide_eq_true h1
 have e := (sameS_iff _ _).1 e
 have z : noTxt.size = 0 := rfl
 have ht : o.to.size ≤ 32 ∧ (o.kind ≠ 8 → o.to = noTxt) := by
  have e2 : o.to = (onlyS o).to := by rw [← e]
  by_cases c : o.kind = 8
  ·refine ⟨?_, fun x => absurd c x⟩
   rw [if_neg (by omega), if_neg (by omega), if_neg (by omega), if_pos c] at h2
   exact (of_decide_eq_true h2).2
  ·have : (onlyS o).to = noTxt := by
    unfold onlyS
    split
    ·rfl
    ·split
     ·rfl
     ·split
      ·rfl
      ·split
       ·rfl
       ·rfl
   rw [this] at e2
   exact ⟨by rw [e2, z]; omega, fun _ => e2⟩
 have hr : o.row.size ≤ 32 ∧ o.fam.size ≤ 32 ∧ o.qual.size ≤ 32 := by
  by_cases c1 : o.kind = 1 ∨ o.kind = 2 ∨ o.kind = 3 ∨ o.kind = 5 ∨ o.kind = 7
  ·rw [if_pos c1] at h2
   have := of_decide_eq_true h2
   omega
  ·have ef : o.fam = (onlyS o).fam := by rw [← e]
   have eq : o.qual = (onlyS o).qual := by rw [← e]
   have e3 : (onlyS o).fam = noTxt ∧ (onlyS o).qual = noTxt := by
    unfold onlyS
    rw [if_neg (by omega), if_neg (by omega), if_neg (by omega), if_neg (by omega)]
    split
    ·exact ⟨rfl, rfl⟩
    ·exact ⟨rfl, rfl⟩
   rw [e3.1] at ef
   rw [e3.2] at eq
   rw [ef, eq, z]
   refine ⟨?_, by omega, by omega⟩
   rw [if_neg c1] at h2
   by_cases c2 : o.kind = 4
   ·rw [if_pos c2] at h2
    exact (of_decide_eq_true h2).2
   ·rw [if_neg c2] at h2
    by_cases c3 : o.kind = 6
    ·rw [if_pos c3] at h2
     exact (of_decide_eq_true (Bool.and_eq_true_iff.1 h2).1).2
    ·rw [if_neg c3] at h2
     by_cases c4 : o.kind = 8
     ·rw [if_pos c4] at h2
      exact (of_decide_eq_true h2).1
     ·rw [if_neg c4] at h2
      simp at h2
 exact ⟨by omega, hr.1, hr.2.1, hr.2.2, hw.1, ht.1, ⟨hv, hw.2.1⟩, ⟨hwn, hw.2.2⟩⟩
theorem right_flat {o : SO} {subs : List SN} (h : rightO o subs = true) : subs = subs.map fun s => (s.1, 0) := by
 unfold rightO at h
 obtain ⟨h1, h2⟩ := Bool.and_eq_true_iff.1 h
 by_cases c : o.kind = 6
 ·rw [decide_eq_false (by omega), Bool.false_or, List.all_eq_true] at h2
  refine (List.map_id subs).symm.trans (List.map_congr_left fun s hs => ?_)
  have := h2 s hs
  unfold partR at this
  obtain ⟨h3, _⟩ := Bool.and_eq_true_iff.1 this
  obtain ⟨h3, h4⟩ := Bool.and_eq_true_iff.1 h3
  have hk := of_decide_eq_true h3
  unfold leaf at h4
  have := (of_decide_eq_true (Bool.and_eq_true_iff.1 h4).1).2.1
  obtain ⟨s, n⟩ := s
  simp only at this hk
  rw [show n = 0 by omega]
  rfl
 ·unfold leaf at h1
  have := (of_decide_eq_true (Bool.and_eq_true_iff.1 h1).1).2.1
  have h0 : subs.length = 0 := by omega
  rw [List.eq_nil_of_length_eq_zero h0]
  rfl
theorem rightP_of {o : SO} {subs : List SN} (h : rightO o subs = true) : rightP (o, subs.map Prod.fst) = true := by
 unfold rightP
 rw [List.map_map, ← h]
 congr 1
 exact (right_flat h).symm
theorem rightP_fits {p : OP} (h : rightP p = true) (h0 : p.1.wf) (h1 : ∀ s ∈ p.2, s.wf) : p.fits := by
 unfold rightP rightO at h
 obtain ⟨a, b⟩ := Bool.and_eq_true_iff.1 h
 rw [List.length_map] at a
 refine ⟨leaf_fits a h0, ?_, ?_⟩
 ·unfold leaf at a
  obtain ⟨a1, a2⟩ := Bool.and_eq_true_iff.1 a
  have hn := (of_decide_eq_true a1).2.1
  by_cases c : p.1.kind = 6
  ·rw [if_neg (by omega), if_neg (by omega), if_pos c] at a2
   exact (of_decide_eq_true (Bool.and_eq_true_iff.1 a2).2).2
  ·omega
 ·intro s hs
  by_cases c : p.1.kind = 6
  ·rw [decide_eq_false (by omega), Bool.false_or, List.all_eq_true] at b
   have := b (s, 0) (List.mem_map.2 ⟨s, hs, rfl⟩)
   unfold partR at this
   obtain ⟨h3, _⟩ := Bool.and_eq_true_iff.1 this
   exact leaf_fits (Bool.and_eq_true_iff.1 h3).2 (h1 s hs)
  ·unfold leaf at a
   have hn := (of_decide_eq_true (Bool.and_eq_true_iff.1 a).1).2.1
   have h0 : p.2.length = 0 := by omega
   rw [List.eq_nil_of_length_eq_zero h0] at hs
   simp at hs
def rdAll {α : Type} (P : List Int → Rs α) (kind : α → Int) (b : List Int) : Sum Int α :=
 match P b with
 | .inl k => .inl k
 | .inr (v, rest) => if rest = [] then (if kind v = 0 then .inr v else .inl (kind v)) else .inl 3
theorem rdAll_put {α : Type} {P : List Int → Rs α} {f : α → List Int} {ok : α → Prop} (h : Good P f ok) (kind : α → Int) (v : α) (hv : ok v) (hk : kind v = 0) : rdAll P kind (f v) = .inr v := by
 unfold rdAll
 have := h.put v [] hv
 rw [List.append_nil] at this
 rw [this]
 simp [hk]
theorem rdAll_back {α : Type} {P : List Int → Rs α} {f : α → List Int} {ok : α → Prop} (h : Good P f ok) (kind : α → Int) {b : List Int} {v : α} (hb : Byt b) (hr : rdAll P kind b = .inr v) : b = f v ∧ ok v ∧ kind v = 0 := by
 unfold rdAll at hr
 match e : P b, hr with
 | .inl k, hr => simp at hr
 | .inr (u, rest), hr =>
  simp only at hr
  by_cases c : rest = []
  ·rw [if_pos c] at hr
   by_cases d : kind u = 0
   ·rw [if_pos d] at hr
    obtain rfl := Sum.inr.inj hr
    obtain ⟨x, o⟩ := h.back b u rest hb e
    rw [c, List.append_nil] at x
    exact ⟨x, o, d⟩
   ·rw [if_neg d] at hr; simp at hr
  ·rw [if_neg c] at hr; simp at hr
def kindP (p : OP) : Int := if rightP p then 0 else 6
def kindQ (q : QV) : Int := if q.1 = 0 ∨ q.2.1 = 0 then 1 else kindP q.2.2
def cellR (c : CV) : Bool := decide (1 ≤ c.row.size ∧ c.row.size ≤ 32 ∧ 1 ≤ c.fam.size ∧ c.fam.size ≤ 32 ∧ c.qual.size ≤ 32 ∧ c.value.length ≤ 256)
def rightR (r : RV) : Bool := decide (0 ≤ r.e ∧ r.e ≤ 18 ∧ r.cells.length ≤ 16) && r.cells.all cellR
def kindR (r : RV) : Int := if rightR r then 0 else 1
def rdQ : List Int → Sum Int QV := rdAll pQ kindQ
def rdR : List Int → Sum Int RV := rdAll pR kindR
def CV.wf (c : CV) : Prop := c.time < 18446744073709551616 ∧ Byt c.value
theorem rightR_fits {r : RV} (h : rightR r = true) (hw : ∀ c ∈ r.cells, c.wf) : r.fits := by
 unfold rightR at h
 obtain ⟨h1, h2⟩ := Bool.and_eq_true_iff.1 h
 have h1 := of_decide_eq_true h1
 rw [List.all_eq_true] at h2
 refine ⟨by omega, h1.2.2, fun c hc => ?_⟩
 have := of_decide_eq_true (h2 c hc)
 exact ⟨this.2.1, this.2.2.2.1, this.2.2.2.2.1, (hw c hc).1, this.2.2.2.2.2, (hw c hc).2⟩
open Go.RowKit
structure Bs where
 ao : Option Addr
 n : Nat
 cap : Nat
 xs : List Int
open Go.RowKit
structure OA where
 kind : Int
 row : ByteArray
 fam : ByteArray
 qual : ByteArray
 time : Nat
 to : ByteArray
 va : Bs
 wa : Bs
 has : Bool
 so : Option Addr
 sn : Nat
 sc : Nat
def OA.cells (o : OA) : List Value := [.int .i64 o.kind, .string o.row, .string o.fam, .string o.qual, .int .u64 o.time, .string o.to, .slice o.va.ao o.va.n o.va.cap, .slice o.wa.ao o.wa.n o.wa.cap, .bool o.has, .slice o.so o.sn o.sc]
def OA.val (o : OA) : Value := .agg #[.int .i64 o.kind, .string o.row, .string o.fam, .string o.qual, .int .u64 o.time, .string o.to, .slice o.va.ao o.va.n o.va.cap, .slice o.wa.ao o.wa.n o.wa.cap, .bool o.has, .slice o.so o.sn o.sc]
def OA.s (o : OA) : SO := ⟨o.kind, o.row, o.fam, o.qual, o.time, o.to, o.va.xs, o.wa.xs, o.has⟩
structure OA.ok (o : OA) (w : World) : Prop where
 kind : -9223372036854775808 ≤ o.kind ∧ o.kind ≤ 9223372036854775807
 row : o.row.size ≤ maxLen
 fam : o.fam.size ≤ maxLen
 qual : o.qual.size ≤ maxLen
 time : o.time < 18446744073709551616
 to : o.to.size ≤ maxLen
 va : Sl w o.va.ao o.va.n o.va.cap o.va.xs
 wa : Sl w o.wa.ao o.wa.n o.wa.cap o.wa.xs
 le : o.sn ≤ o.sc
 mx : o.sc ≤ maxLen
 nil : o.so = none → o.sn = 0 ∧ o.sc = 0
theorem OA.ok.below {o : OA} {w w' : World} (h : o.ok w) (hb : Below w.heap.size w w') : o.ok w' :=
 ⟨h.kind, h.row, h.fam, h.qual, h.time, h.to, h.va.below hb, h.wa.below hb, h.le, h.mx, h.nil⟩
theorem OA.ok.wf {o : OA} {w : World} (h : o.ok w) : o.s.wf := ⟨h.time, h.va.byte, h.wa.byte⟩
def OD : Nat → Type
 | 0 => OA
 | d + 1 => OA × List (OD d)
def topD : (d : Nat) → OD d → OA
 | 0, x => x
 | _ + 1, x => x.1
def OW (w : World) : (d : Nat) → OD d → Prop
 | 0, x => OA.ok x w
 | d + 1, x => x.1.ok w ∧ x.2.length = x.1.sn ∧ (∀ a, x.1.so = some a → ∀ i (h : i < x.2.length), ∀ j v, (topD d x.2[i]).cells[j]? = some v → w.cell? (a.add (i * 10 + j)) = some v) ∧ ∀ y ∈ x.2, OW w d y
theorem OW.top {w : World} : ∀ {d : Nat} {x : OD d}, OW w d x → (topD d x).ok w
 | 0, _, h => h
 | _ + 1, _, h => h.1
theorem OW.below {w w' : World} (hb : Below w.heap.size w w') : ∀ {d : Nat} {x : OD d}, OW w d x → OW w' d x
 | 0, _, h => OA.ok.below h hb
 | _ + 1, _, h => ⟨h.1.below hb, h.2.1, fun a ha i hi j v hv => (hb.cell (World.block_lt_of_cell? w _ (h.2.2.1 a ha i hi j v hv))).trans (h.2.2.1 a ha i hi j v hv), fun y hy => OW.below hb (h.2.2.2 y hy)⟩
structure OA.small (o : OA) : Prop where
 row : o.row.size ≤ 140737488351232
 fam : o.fam.size ≤ 140737488351232
 qual : o.qual.size ≤ 140737488351232
 to : o.to.size ≤ 140737488351232
def OSm : (d : Nat) → OD d → Prop
 | 0, x => OA.small x
 | d + 1, x => x.1.small ∧ ∀ y ∈ x.2, OSm d y
def fitsL (o : OA) : Bool := decide (o.row.size + o.fam.size + o.qual.size + o.to.size ≤ 500 ∧ o.va.n ≤ 600 ∧ o.wa.n ≤ 600 ∧ o.sn ≤ 12)
def lightD : (d : Nat) → OD d → Bool
 | 0, _ => false
 | d + 1, x => fitsL x.1 && x.2.all (lightD d)
def sameL {α : Type} (f : α → α → Bool) : List α → List α → Bool
 | [], [] => true
 | a :: l, b :: m => f a b && sameL f l m
 | _, _ => false
def sameD : (d : Nat) → OD d → OD d → Bool
 | 0, x, y => sameS (OA.s x) (OA.s y)
 | d + 1, x, y => sameS x.1.s y.1.s && sameL (sameD d) x.2 y.2
theorem sameL_self {α : Type} (f : α → α → Bool) : ∀ l : List α, (∀ a ∈ l, f a a = true) → sameL f l l = true
 | [], _ => rfl
 | a :: l, h => by
  rw [sameL, h a (List.mem_cons_self ..), sameL_self f l (fun b hb => h b (List.mem_cons_of_mem _ hb))]
  rfl
theorem sameS_self (a : SO) : sameS a a = true := (sameS_iff a a).2 rfl
theorem sameD_self : ∀ (d : Nat) (x : OD d), sameD d x x = true
 | 0, x => sameS_self _
 | d + 1, x => by
  rw [sameD, sameS_self, sameL_self _ _ (fun y _ => sameD_self d y)]
  rfl
def snD (d : Nat) (x : OD d) : SN := ((topD d x).s, (topD d x).sn)
open Go.RowKit
theorem sameL_len3 {α : Type} {f : α → α → Bool} : ∀ {l m : List α}, sameL f l m = true → l.length = m.length
 | [], [], _ => rfl
 | _ :: l, _ :: m, h => by
  rw [sameL, Bool.and_eq_true] at h
  rw [List.length_cons, List.length_cons, sameL_len3 h.2]
 | [], _ :: _, h => by cases h
 | _ :: _, [], h => by cases h
theorem sameL_drop {α : Type} (f : α → α → Bool) {xs ys : List α} {k : Nat} (h1 : k < xs.length) (h2 : k < ys.length) : sameL f (xs.drop k) (ys.drop k) = (f xs[k] ys[k] && sameL f (xs.drop (k + 1)) (ys.drop (k + 1))) := by
 rw [List.drop_eq_getElem_cons h1, List.drop_eq_getElem_cons h2]
 rfl
def EF {α : Type} (w : World) (f : α → α → Bool) (xs ys : List α) (R : Bool) (i : Value) (wr : World) : Prop := ∃ k : Nat, k ≤ xs.length ∧ i = .int .i64 (k : Nat) ∧ R = sameL f (xs.drop k) (ys.drop k) ∧ Below w.heap.size w wr
open Go.RowKit
theorem flat_get {α : Type} (f : α → List Value) (s : Nat) (hs : ∀ x, (f x).length = s) : ∀ (l : List α) (i j : Nat) (hi : i < l.length), j < s → (l.map f).flatten[i * s + j]? = (f l[i])[j]?
 | [], i, _, hi, _ => by simp at hi
 | a :: l, 0, j, _, hj => by
  rw [List.map_cons, List.flatten_cons, Nat.zero_mul, Nat.zero_add, List.getElem?_append_left (by rw [hs]; exact hj)]
  rfl
 | a :: l, i + 1, j, hi, hj => by
  have e : (i + 1) * s + j = s + (i * s + j) := by rw [Nat.add_mul]; omega
  rw [List.map_cons, List.flatten_cons, e, List.getElem?_append_right (by rw [hs]; omega), hs, Nat.add_sub_cancel_left]
  exact flat_get f s hs l i j (by simpa using hi) hj
theorem flat_len {α : Type} (f : α → List Value) (s : Nat) (hs : ∀ x, (f x).length = s) : ∀ l : List α, (l.map f).flatten.length = l.length * s
 | [] => by simp
 | a :: l => by
  rw [List.map_cons, List.flatten_cons, List.length_append, hs, flat_len f s hs l, List.length_cons, Nat.add_mul]
  omega
def sblk (ao : Option Addr) (n x : Nat) : Prop := ∃ a, ao = some a ∧ 0 < n ∧ a.block = x
open Go.RowKit
def Bs.blk (b : Bs) (x : Nat) : Prop := ∃ a, b.ao = some a ∧ 0 < b.n ∧ a.block = x
theorem Sl.blk_lt {w : World} {b : Bs} (h : Sl w b.ao b.n b.cap b.xs) {x : Nat} (hx : b.blk x) : x < w.heap.size := by
 obtain ⟨a, ha, hn, rfl⟩ := hx
 exact h.lt a ha hn
theorem Sl.kept {w w' : World} {b : Bs} (h : Sl w b.ao b.n b.cap b.xs) (hk : ∀ x, b.blk x → w'.heap[x]? = w.heap[x]?) : Sl w' b.ao b.n b.cap b.xs := by
 refine ⟨h.len, h.le, h.mx, h.nil, fun a ha i hi => ?_, h.byte⟩
 have hb : (a.add i).block = a.block := by unfold Addr.add; split <;> rfl
 rw [← h.cell a ha i hi]
 exact World.cell?_of_block (by rw [hb]; exact hk _ ⟨a, ha, by omega, rfl⟩)
open Go.RowKit
theorem run_append_own2 {P : Program} (w : World) (base : Nat) (t ty e : TypeId) (i : TypeInfo) (z : Value) (size bytes : Nat) (ht : P.underlying t = some (.slice e)) (hi : P.info? e = some i) (hz : i.zero = some z)
  (hsize : i.size = size) (hby : i.bytes = bytes) (hzs : z.cells.size = size) (hsz : 0 < size)
  (v : Value) (n : Nat) (xs : List Value) (hown : w.ownsRow base e size v n xs)
  (a : Addr) (m c : Nat) (news : List Value) (hl : news.length = m * size) (hnews : ∀ j u, news[j]? = some u → w.cell? (a.add j) = some u) (h1 : ∀ u ∈ news, u.oneCell' = true)
  (h63 : n + m ≤ maxLen) (hbytes : (n + m) * bytes ≤ 140737488355328) (hbase : base ≤ w.heap.size) :
  ∃ v' w', (Builtin.append_ #[t, t] ty #[v, .slice (some a) m c]).run P w = .ok v' w' ∧ w'.ownsRow base e size v' (n + m) (xs ++ news) ∧ w.grownBy w' v.ownBlock ∧
   ∀ g, v'.ownBlock = some g → v.ownBlock = some g ∨ w.heap.size ≤ g := by
 obtain ⟨v', w', hr, ho, hg, _⟩ := run_append_own (P := P) w base t ty e i z size bytes ht hi hz hsize hby hzs hsz v n xs hown a m c news hl hnews h1 h63 hbytes hbase
 refine ⟨v', w', hr, ho, hg, ?_⟩
 have hsmall : n + m ≤ 9223372036854775807 := by simp only [maxLen] at h63; omega
 subst hsize
 subst hby
 rcases hown.2 with ⟨rfl, rfl⟩ | ⟨g, cap, cur, rfl, hbg, hgc, hnc, hcm, hcs, htake⟩
 ·have hown2 : w.ownsRow w.heap.size e i.size (.slice none 0 0) 0 xs := ⟨hown.1, .inl ⟨rfl, rfl⟩⟩
  obtain ⟨v2, w2, hr2, ho2, _, _⟩ := run_append_own (P := P) w w.heap.size t ty e i z i.size i.bytes ht hi hz rfl rfl hzs hsz _ 0 xs hown2 a m c news hl hnews h1 h63 hbytes (Nat.le_refl _)
  rw [hr] at hr2
  simp only [Result.ok.injEq] at hr2
  obtain ⟨rfl, rfl⟩ := hr2
  intro g hgv
  exact .inr (ho2.lt g hgv).1
 ·by_cases hroom : n + m ≤ cap
  ·have hfit : n * i.size + news.length ≤ cur.size := by rw [hl, hcs, ← Nat.add_mul]; exact Nat.mul_le_mul_right _ hroom
   have hr2 := run_append_room (P := P) w t ty e i ht hi g n cap cur hgc a m c news hl hnews h1 hroom hfit
   rw [hr] at hr2
   simp only [Result.ok.injEq] at hr2
   obtain ⟨rfl, rfl⟩ := hr2
   intro g' hg'
   exact .inl hg'
  ·have holds : ∀ j u, xs[j]? = some u → w.cell? ((⟨g, 0, none⟩ : Addr).add j) = some u := hown.cells (g := g) rfl
   have hr2 := run_append_grow (P := P) w t ty e i z ht hi hz ⟨g, 0, none⟩ n cap xs hown.1 holds a m c news hl hnews (by omega) (by omega) (growslice_fits (by omega) hbytes)
   rw [hr] at hr2
   simp only [Result.ok.injEq] at hr2
   obtain ⟨rfl, rfl⟩ := hr2
   intro g' hg'
   simp only [Value.ownBlock, Option.some.injEq] at hg'
   exact .inr (by omega)
theorem own_kept {w w' : World} {base : Nat} {e : TypeId} {size : Nat} {v : Value} {n : Nat} {xs : List Value} (h : w.ownsRow base e size v n xs) (hb : ∀ g, v.ownBlock = some g → w'.heap[g]? = w.heap[g]?) : w'.ownsRow base e size v n xs := by
 refine ⟨h.1, ?_⟩
 rcases h.2 with c | ⟨g, cap, cur, rfl, a1, a2, a3, a4, a5, a6⟩
 ·exact .inl c
 ·exact .inr ⟨g, cap, cur, rfl, a1, (hb g rfl).trans a2, a3, a4, a5, a6⟩
end Go.Proofs.YtnbejckdhdbamaaGreat
namespace Go.Proofs.YtnbejckdhdbamaaGreat
open Go.RowKit
structure El (α : Type) where
 c : α → List Value
 sz : Nat
 ok : α → World → Prop
 blk : α → Nat → Prop
structure El.Fine {α : Type} (E : El α) : Prop where
 len : ∀ x, (E.c x).length = E.sz
 pos : 0 < E.sz
 one : ∀ x, ∀ u ∈ E.c x, u.oneCell' = true
 kept : ∀ x w w', E.ok x w → (∀ z, E.blk x z → w'.heap[z]? = w.heap[z]?) → E.ok x w'
 lt : ∀ x w z, E.ok x w → E.blk x z → z < w.heap.size
theorem El.Fine.below {α : Type} {E : El α} (F : E.Fine) {x : α} {w w' : World} (h : E.ok x w) (hb : Below w.heap.size w w') : E.ok x w' := F.kept x w w' h fun z hz => hb.block z (F.lt x w z h hz)
structure GL {α : Type} (E : El α) (w : World) (ao : Option Addr) (n cap : Nat) (l : List α) : Prop where
 len : l.length = n
 le : n ≤ cap
 mx : cap ≤ maxLen
 nil : ao = none → n = 0 ∧ cap = 0
 cell : ∀ a, ao = some a → ∀ i (h : i < l.length), ∀ j v, (E.c l[i])[j]? = some v → w.cell? (a.add (i * E.sz + j)) = some v
 ok : ∀ x ∈ l, E.ok x w
def GLb {α : Type} (E : El α) (ao : Option Addr) (n : Nat) (l : List α) (z : Nat) : Prop := sblk ao n z ∨ ∃ x ∈ l, E.blk x z
variable {α : Type} {E : El α} {w w' : World} {ao : Option Addr} {n cap : Nat} {l : List α}
theorem GL.kept (F : E.Fine) (h : GL E w ao n cap l) (hk : ∀ z, GLb E ao n l z → w'.heap[z]? = w.heap[z]?) : GL E w' ao n cap l := by
 refine ⟨h.len, h.le, h.mx, h.nil, fun a ha i hi j v hv => ?_, fun x hx => F.kept x w w' (h.ok x hx) fun z hz => hk z (.inr ⟨x, hx, hz⟩)⟩
 have hb : (a.add (i * E.sz + j)).block = a.block := by unfold Addr.add; split <;> rfl
 rw [← h.cell a ha i hi j v hv]
 exact World.cell?_of_block (by rw [hb]; exact hk _ (.inl ⟨a, ha, by have := h.len; omega, rfl⟩))
theorem GL.lt (F : E.Fine) (h : GL E w ao n cap l) {z : Nat} (hz : GLb E ao n l z) : z < w.heap.size := by
 rcases hz with ⟨a, ha, hn, rfl⟩ | ⟨x, hx, hz⟩
 ·have hl := h.len
  have hi : 0 < l.length := by omega
  have h1 : 0 < (E.c l[0]).length := by rw [F.len]; exact F.pos
  have h0 := h.cell a ha 0 hi 0 _ (List.getElem?_eq_getElem h1)
  have hlt := World.block_lt_of_cell? w _ h0
  have hb : (a.add (0 * E.sz + 0)).block = a.block := by unfold Addr.add; split <;> rfl
  rw [hb] at hlt
  exact hlt
 ·exact F.lt x w z (h.ok x hx) hz
theorem GL.below (F : E.Fine) (h : GL E w ao n cap l) (hb : Below w.heap.size w w') : GL E w' ao n cap l := h.kept F fun z hz => hb.block z (h.lt F hz)
theorem GL.nothing (E : El α) (w : World) : GL E w none 0 0 [] := ⟨rfl, Nat.le_refl _, Nat.zero_le _, fun _ => ⟨rfl, rfl⟩, fun _ _ _ hi => absurd hi (Nat.not_lt_zero _), fun _ h => absurd h List.not_mem_nil⟩
theorem GL.at (h : GL E w ao n cap l) (hn : 0 < n) : ∃ a, ao = some a := by
 match e : ao with
 | some a => exact ⟨a, rfl⟩
 | none => exact absurd (h.nil rfl).1 (by omega)
theorem GL.pl (F : E.Fine) (h : GL E w ao n cap l) (hn : 0 < n) : ∃ b off, ao = some ⟨b, off, none⟩ ∧ ∀ i (hi : i < l.length), ∀ j v, (E.c l[i])[j]? = some v → w.cell? ⟨b, off + i * E.sz + j, none⟩ = some v := by
 obtain ⟨⟨b, off, spot⟩, rfl⟩ := h.at hn
 have hl := h.len
 have h1 : 0 < (E.c (l[0]'(by omega))).length := by rw [F.len]; exact F.pos
 have hc := h.cell _ rfl 0 (by omega) 0 _ (List.getElem?_eq_getElem h1)
 have hs : spot = none := by simpa [Addr.add] using World.cell?_spot hc
 subst hs
 refine ⟨b, off, rfl, fun i hi j v hv => ?_⟩
 have := h.cell _ rfl i hi j v hv
 rw [Addr.add_lit] at this
 rw [Nat.add_assoc]
 exact this
structure LS (α : Type) where
 ao : Option Addr
 n : Nat
 cap : Nat
 l : List α
def El.lists (E : El α) : El (LS α) := ⟨fun s => [.slice s.ao s.n s.cap], 1, fun s w => GL E w s.ao s.n s.cap s.l, fun s z => GLb E s.ao s.n s.l z⟩
theorem El.Fine.lists (F : E.Fine) : E.lists.Fine := by
 refine ⟨fun _ => rfl, Nat.one_pos, fun x u hu => ?_, fun x w w' h hk => GL.kept F h hk, fun x w z h hz => GL.lt F h hz⟩
 have : u = .slice x.ao x.n x.cap := by simpa [El.lists] using hu
 rw [this]
 rfl
structure GTy (sz bytes : Nat) (z : Value) (t s : TypeId) : Prop where
 info : (Tryz.prog.info? t).map (fun i => (i.zero, i.size, i.bytes)) = some (some z, sz, bytes)
 zs : z.cells.size = sz
 und : Tryz.prog.underlying s = some (.slice t)
structure GI (E : El α) (t : TypeId) (W : World) (base : Nat) (v : Value) (ys : List α) : Prop where
 own : W.ownsRow base t E.sz v ys.length ((ys.map E.c).flatten)
 ok : ∀ y ∈ ys, E.ok y W
 far : ∀ y ∈ ys, ∀ x, E.blk y x → v.ownBlock ≠ some x
variable {t s : TypeId} {W W' : World} {base : Nat} {v : Value} {ys : List α}
theorem GI.nil (E : El α) (t : TypeId) (W : World) (base : Nat) : GI E t W base (.slice none 0 0) [] := ⟨World.ownsRow_nil _ _ _ _, fun _ h => by simp at h, fun _ h => by simp at h⟩
theorem GI.kept (F : E.Fine) (h : GI E t W base v ys) (hk : ∀ z, (v.ownBlock = some z ∨ ∃ y ∈ ys, E.blk y z) → W'.heap[z]? = W.heap[z]?) : GI E t W' base v ys :=
 ⟨own_kept h.own fun g hg => hk g (.inl hg), fun y hy => F.kept y W W' (h.ok y hy) fun z hz => hk z (.inr ⟨y, hy, hz⟩), h.far⟩
theorem GI.lt (F : E.Fine) (h : GI E t W base v ys) {z : Nat} (hz : v.ownBlock = some z ∨ ∃ y ∈ ys, E.blk y z) : z < W.heap.size := by
 rcases hz with hz | ⟨y, hy, hz⟩
 ·exact (h.own.lt z hz).2
 ·exact F.lt y W z (h.ok y hy) hz
theorem GI.below (F : E.Fine) (h : GI E t W base v ys) (hb : Below W.heap.size W W') : GI E t W' base v ys := h.kept F fun z hz => hb.block z (h.lt F hz)
theorem GI.app (F : E.Fine) {bytes : Nat} {z : Value} (hty : GTy E.sz bytes z t s) (h : GI E t W base v ys) (ty : TypeId) {a : Addr} {cp : Nat} {y : α} (hG : ∀ j u, (E.c y)[j]? = some u → W.cell? (a.add j) = some u) (he : E.ok y W) (hf : ∀ x, E.blk y x → v.ownBlock ≠ some x) (hn : (ys.length + 1) * bytes ≤ 140737488355328) (hm : ys.length + 1 ≤ maxLen) (hbase : base ≤ W.heap.size) :
  ∃ v' W1, (Builtin.append_ #[s, s] ty #[v, .slice (some a) 1 cp]).run Tryz.prog W = .ok v' W1 ∧ GI E t W1 base v' (ys ++ [y]) ∧ Below base W W1 ∧ W.grownBy W1 v.ownBlock ∧ ∃ ao n cap, v' = .slice ao n cap := by
 obtain ⟨i0, hi, hz0, hz1, hz2⟩ := info_parts hty.info
 obtain ⟨v', W1, hr, ho, hg, ha⟩ := run_append_own2 (P := Tryz.prog) W base s ty t i0 _ E.sz bytes hty.und hi hz0 hz1 hz2 hty.zs F.pos v ys.length ((ys.map E.c).flatten) h.own a 1 cp (E.c y) (by rw [F.len, Nat.one_mul]) hG (F.one y) hm hn hbase
 have hown : W1.ownsRow base t E.sz v' (ys ++ [y]).length (((ys ++ [y]).map E.c).flatten) := by
  have e1 : ((ys ++ [y]).map E.c).flatten = (ys.map E.c).flatten ++ E.c y := by simp
  rw [e1, List.length_append]
  exact ho
 have key : ∀ z : α, E.ok z W → (∀ x, E.blk z x → v.ownBlock ≠ some x) → E.ok z W1 ∧ ∀ x, E.blk z x → v'.ownBlock ≠ some x := fun z hz hzf => ⟨F.kept z W W1 hz fun x hx => hg.block x (F.lt z W x hz hx) (fun e => hzf x hx e.symm), fun x hx e => by
  rcases ha x e with c | c
  ·exact hzf x hx c
  ·have := F.lt z W x hz hx
   omega⟩
 refine ⟨v', W1, hr, ⟨hown, fun z hz => ?_, fun z hz => ?_⟩, (Below.refl _ W).grown hg hbase (fun k hk => (h.own.lt k hk).1), hg, ?_⟩
 ·rcases List.mem_append.1 hz with hz | hz
  ·exact (key z (h.ok z hz) (h.far z hz)).1
  ·rw [List.mem_singleton.1 hz]; exact (key y he hf).1
 ·rcases List.mem_append.1 hz with hz | hz
  ·exact (key z (h.ok z hz) (h.far z hz)).2
  ·rw [List.mem_singleton.1 hz]; exact (key y he hf).2
 ·rcases ho.2 with ⟨rfl, _⟩ | ⟨g, cap, cur, rfl, _⟩
  ·exact ⟨none, 0, 0, rfl⟩
  ·exact ⟨_, _, cap, rfl⟩
theorem GI.gl (F : E.Fine) (h : GI E t W base v ys) : ∃ ao cap, v = .slice ao ys.length cap ∧ GL E W ao ys.length cap ys ∧ ∀ z, sblk ao ys.length z → base ≤ z := by
 rcases h.own.2 with ⟨rfl, e⟩ | ⟨g, cap, cur, rfl, a1, a2, a3, a4, a5, a6⟩
 ·rw [e]
  have : ys = [] := List.eq_nil_of_length_eq_zero e
  subst this
  exact ⟨none, 0, rfl, GL.nothing E W, fun z hz => by obtain ⟨a, ha, _⟩ := hz; cases ha⟩
 ·refine ⟨some ⟨g, 0, none⟩, cap, rfl, ⟨rfl, a3, a4, fun h => by simp at h, fun a ha i hi j u hu => ?_, h.ok⟩, fun z hz => by obtain ⟨a, ha, _, rfl⟩ := hz; cases ha; exact a1⟩
  obtain rfl := Option.some.inj ha
  have hj : j < E.sz := by have := (List.getElem?_eq_some_iff.1 hu).1; rw [F.len] at this; exact this
  refine h.own.cells (g := g) rfl (i * E.sz + j) u ?_
  rw [flat_get E.c E.sz F.len ys i j hi hj]
  exact hu
end Go.Proofs.YtnbejckdhdbamaaGreat
namespace Go.Proofs.YtnbejckdhdbamaaGreat
structure SV where
 fr : Nat
 b : List Int
 tag : List Int
open Go.RowKit
structure SA where
 fr : Nat
 b : Bs
 tag : Bs
def SA.cells (s : SA) : List Value := [.int .u64 s.fr, .slice s.b.ao s.b.n s.b.cap, .slice s.tag.ao s.tag.n s.tag.cap]
structure SA.ok (s : SA) (w : World) : Prop where
 fr : s.fr < 18446744073709551616
 b : Sl w s.b.ao s.b.n s.b.cap s.b.xs
 tag : Sl w s.tag.ao s.tag.n s.tag.cap s.tag.xs
def SA.blk (s : SA) (z : Nat) : Prop := s.b.blk z ∨ s.tag.blk z
def SA.v (s : SA) : SV := ⟨s.fr, s.b.xs, s.tag.xs⟩
def SA.val (s : SA) : Value := .agg #[.int .u64 s.fr, .slice s.b.ao s.b.n s.b.cap, .slice s.tag.ao s.tag.n s.tag.cap]
def elS : El SA := ⟨SA.cells, 3, SA.ok, SA.blk⟩
theorem elS_fine : elS.Fine := by
 refine ⟨fun _ => rfl, by decide, fun x u hu => ?_, fun x w w' h hk => ⟨h.fr, h.b.kept fun z hz => hk z (.inl hz), h.tag.kept fun z hz => hk z (.inr hz)⟩, fun x w z h hz => ?_⟩
 ·have hu : u ∈ x.cells := hu
  unfold SA.cells at hu
  simp only [List.mem_cons, List.not_mem_nil, or_false] at hu
  rcases hu with rfl | rfl | rfl <;> rfl
 ·rcases hz with hz | hz
  ·exact h.b.blk_lt hz
  ·exact h.tag.blk_lt hz
theorem SA.ok.below {s : SA} {w w' : World} (h : s.ok w) (hb : Below w.heap.size w w') : s.ok w' := elS_fine.below h hb
structure SX (V : World) (b p : Nat) (s : SA) : Prop where
 c0 : V.cell? ⟨b, p, none⟩ = some (.int .u64 s.fr)
 c1 : V.cell? ⟨b, p + 1, none⟩ = some (.slice s.b.ao s.b.n s.b.cap)
 c2 : V.cell? ⟨b, p + 2, none⟩ = some (.slice s.tag.ao s.tag.n s.tag.cap)
theorem SX.below {V V' : World} {b p : Nat} {s : SA} (h : SX V b p s) (hb : Below V.heap.size V V') : SX V' b p s :=
 ⟨(hb.cell (World.block_lt_of_cell? V _ h.c0)).trans h.c0, (hb.cell (World.block_lt_of_cell? V _ h.c1)).trans h.c1, (hb.cell (World.block_lt_of_cell? V _ h.c2)).trans h.c2⟩
theorem GL.atS {w : World} {ao : Option Addr} {n cap : Nat} {l : List SA} (h : GL elS w ao n cap l) (hn : 0 < n) :
  ∃ b off, ao = some ⟨b, off, none⟩ ∧ ∀ i (hi : i < l.length), SX w b (off + i * 3) l[i] := by
 obtain ⟨b, off, e, k⟩ := h.pl elS_fine hn
 exact ⟨b, off, e, fun i hi => ⟨k i hi 0 _ rfl, k i hi 1 _ rfl, k i hi 2 _ rfl⟩⟩
theorem GL.atL {w : World} {ao : Option Addr} {n cap : Nat} {l : List (LS SA)} (h : GL elS.lists w ao n cap l) (hn : 0 < n) :
  ∃ b off, ao = some ⟨b, off, none⟩ ∧ ∀ i (hi : i < l.length), w.cell? ⟨b, off + i, none⟩ = some (.slice l[i].ao l[i].n l[i].cap) := by
 obtain ⟨b, off, e, k⟩ := h.pl elS_fine.lists hn
 refine ⟨b, off, e, fun i hi => ?_⟩
 have := k i hi 0 _ rfl
 rw [show off + i * elS.lists.sz + 0 = off + i by show off + i * 1 + 0 = off + i; omega] at this
 exact this
open Go.RowKit
set_option maxRecDepth 100000 in
set_option maxHeartbeats 4000000 in
theorem eqfS_any (w : World) (ao bo : Option Addr) (n cap m cap2 : Nat) (xs ys : List (SA)) (hx : GL elS w ao n cap xs) (hy : GL elS w bo m cap2 ys) (f : SA → SA → Bool) (hn : n ≤ 1000000)
  (hcb : ∀ V, Below w.heap.size w V → ∀ x ∈ xs, ∀ y ∈ ys, Calls Tryz.prog 71 #[.agg #[.int .u64 x.fr, .slice x.b.ao x.b.n x.b.cap, .slice x.tag.ao x.tag.n x.tag.cap], .agg #[.int .u64 y.fr, .slice y.b.ao y.b.n y.b.cap, .slice y.tag.ao y.tag.n y.tag.cap]] V fun e w' => e = .returned (.bool (f x y)) ∧ Below V.heap.size V w') :
  Calls Tryz.prog 70 #[.slice ao n cap, .slice bo m cap2, .func (.func 71) #[] #[]] w fun e w' => e = .returned (.bool (sameL f xs ys)) ∧ Below w.heap.size w w' := by
 have hxl := hx.len
 have hyl := hy.len
 obtain ⟨R, hR⟩ : ∃ R, R = sameL f xs ys := ⟨_, rfl⟩
 rw [← hR]
 by_cases hnm : n = m
 ·subst hnm
  have E0 : EF w f xs ys R (.int .i64 0) w := ⟨0, Nat.zero_le _, rfl, hR, Below.refl _ _⟩
  clear hR
  go_enter Tryz.func70, Tryz.ntmps70
  go_wp2_with fail
  go_loopw [17] (fun i wr => EF w f xs ys R i wr) (fun i _ => n - (intOf i).toNat)
  case atStart => exact E0
  case round =>
   clear E0
   obtain ⟨k, hk, rfl, hR, E⟩ := hrel
   have HR : Hid (R = sameL f (xs.drop k) (ys.drop k)) := hR
   clear hR
   by_cases hkl : k < n
   ·have hki : (k : Int) < (n : Int) := by omega
    have h1 : k < xs.length := by omega
    have h2 : k < ys.length := by omega
    have hst := sameL_drop f h1 h2
    obtain ⟨ab, aoff, rfl, hA⟩ := (hx.below elS_fine E).atS (by omega)
    have hA := hA k h1
    obtain ⟨x, hxe⟩ : ∃ x, x = xs[k] := ⟨_, rfl⟩
    obtain ⟨y, hye⟩ : ∃ y, y = ys[k] := ⟨_, rfl⟩
    have mx : x ∈ xs := by rw [hxe]; exact List.getElem_mem h1
    have my : y ∈ ys := by rw [hye]; exact List.getElem_mem h2
    rw [← hxe] at hA
    have E1 : Below w.heap.size w (wr.alloc (.cells #[.int .u64 x.fr, .slice x.b.ao x.b.n x.b.cap, .slice x.tag.ao x.tag.n x.tag.cap] 112)) := E.alloc E.size _
    have EC : Below w.heap.size w ((wr.alloc (.cells #[.int .u64 x.fr, .slice x.b.ao x.b.n x.b.cap, .slice x.tag.ao x.tag.n x.tag.cap] 112)).alloc (.cells #[.int .u64 y.fr, .slice y.b.ao y.b.n y.b.cap, .slice y.tag.ao y.tag.n y.tag.cap] 112)) := E1.alloc E1.size _
    obtain ⟨bb, boff, rfl, hB⟩ := (hy.below elS_fine E1).atS (by omega)
    have hB := hB k h2
    rw [← hye] at hB
    have hc := hcb _ EC x mx y my
    rw [← hxe, ← hye] at hst
    have HST : Hid (R = (f x y && sameL f (xs.drop (k + 1)) (ys.drop (k + 1)))) := by show _ = _; rw [HR.out, hst]
    obtain ⟨p0, p1, p2⟩ := hA
    obtain ⟨q0, q1, q2⟩ := hB
    clear mx my E1
    clear hst hxe hye
    cases hf : f x y with
    | true =>
     have HR2 : Hid (R = sameL f (xs.drop (k + 1)) (ys.drop (k + 1))) := by show _ = _; rw [HST.out, hf, Bool.true_and]
     rw [hf] at hc
     clear hf
     go_wp2_with (go_at_call 71; refine hc.mono ?_; rintro e w2 ⟨rfl, E2⟩)
     have RL : ∀ i : Value, i = .int .i64 ((k + 1 : Nat) : Int) → EF w f xs ys R i w2 := fun i hi => ⟨k + 1, by omega, hi, HR2.out, EC.trans (E2.mono EC.size)⟩
     all_goals (try go_big_round)
     all_goals refine ⟨?_, ?_⟩
     all_goals first
      | exact RL _ (by go_num)
      | (simp [intOf]; omega)
    | false =>
     have HR2 : Hid (R = false) := by show _ = _; rw [HST.out, hf, Bool.false_and]
     rw [hf] at hc
     clear hf
     go_wp2_with (go_at_call 71; refine hc.mono ?_; rintro e w2 ⟨rfl, E2⟩)
     go_ret
     exact ⟨by rw [HR2.out] <;> rfl, EC.trans (E2.mono EC.size)⟩
   ·have hki : ¬ (k : Int) < (n : Int) := by omega
    have HR2 : Hid (R = true) := by show _ = _; rw [HR.out, List.drop_of_length_le (by omega), List.drop_of_length_le (by omega)]; rfl
    go_wp2
    go_ret
    exact ⟨by rw [HR2.out] <;> rfl, E⟩
 ·have HR2 : Hid (R = false) := by
   show _ = _
   rw [hR]
   cases hs : sameL f xs ys with
   | false => rfl
   | true => have := sameL_len3 hs; omega
  have i0 : ((n : Int) != m) = true := by simp; omega
  clear hR
  go_enter Tryz.func70, Tryz.ntmps70
  go_wp2
  go_ret
  exact ⟨by rw [HR2.out] <;> rfl, Below.refl _ _⟩
set_option maxRecDepth 100000 in
set_option maxHeartbeats 4000000 in
theorem eqfL_any (w : World) (ao bo : Option Addr) (n cap m cap2 : Nat) (xs ys : List (LS SA)) (hx : GL elS.lists w ao n cap xs) (hy : GL elS.lists w bo m cap2 ys) (f : LS SA → LS SA → Bool) (hn : n ≤ 1000000)
  (hcb : ∀ V, Below w.heap.size w V → ∀ x ∈ xs, ∀ y ∈ ys, Calls Tryz.prog 30 #[.slice x.ao x.n x.cap, .slice y.ao y.n y.cap] V fun e w' => e = .returned (.bool (f x y)) ∧ Below V.heap.size V w') :
  Calls Tryz.prog 31 #[.slice ao n cap, .slice bo m cap2, .func (.func 30) #[] #[]] w fun e w' => e = .returned (.bool (sameL f xs ys)) ∧ Below w.heap.size w w' := by
 have hxl := hx.len
 have hyl := hy.len
 obtain ⟨R, hR⟩ : ∃ R, R = sameL f xs ys := ⟨_, rfl⟩
 rw [← hR]
 by_cases hnm : n = m
 ·subst hnm
  have E0 : EF w f xs ys R (.int .i64 0) w := ⟨0, Nat.zero_le _, rfl, hR, Below.refl _ _⟩
  clear hR
  go_enter Tryz.func31, Tryz.ntmps31
  go_wp2_with fail
  go_loopw [17] (fun i wr => EF w f xs ys R i wr) (fun i _ => n - (intOf i).toNat)
  case atStart => exact E0
  case round =>
   clear E0
   obtain ⟨k, hk, rfl, hR, E⟩ := hrel
   have HR : Hid (R = sameL f (xs.drop k) (ys.drop k)) := hR
   clear hR
   by_cases hkl : k < n
   ·have hki : (k : Int) < (n : Int) := by omega
    have h1 : k < xs.length := by omega
    have h2 : k < ys.length := by omega
    have hst := sameL_drop f h1 h2
    obtain ⟨ab, aoff, rfl, hA0⟩ := (hx.below elS_fine.lists E).atL (by omega)
    obtain ⟨bb, boff, rfl, hB0⟩ := (hy.below elS_fine.lists E).atL (by omega)
    have hA := hA0 k h1
    have hB := hB0 k h2
    clear hA0 hB0
    have hc := hcb wr E _ (List.getElem_mem h1) _ (List.getElem_mem h2)
    have EC := E
    obtain ⟨x, hxe⟩ : ∃ x, x = xs[k] := ⟨_, rfl⟩
    obtain ⟨y, hye⟩ : ∃ y, y = ys[k] := ⟨_, rfl⟩
    rw [← hxe, ← hye] at hst hc
    rw [← hxe] at hA
    rw [← hye] at hB
    have HST : Hid (R = (f x y && sameL f (xs.drop (k + 1)) (ys.drop (k + 1)))) := by show _ = _; rw [HR.out, hst]
    have p0 := hA
    have q0 := hB
    clear hst hxe hye
    cases hf : f x y with
    | true =>
     have HR2 : Hid (R = sameL f (xs.drop (k + 1)) (ys.drop (k + 1))) := by show _ = _; rw [HST.out, hf, Bool.true_and]
     rw [hf] at hc
     clear hf
     go_wp2_with (go_at_call 30; refine hc.mono ?_; rintro e w2 ⟨rfl, E2⟩)
     have RL : ∀ i : Value, i = .int .i64 ((k + 1 : Nat) : Int) → EF w f xs ys R i w2 := fun i hi => ⟨k + 1, by omega, hi, HR2.out, EC.trans (E2.mono EC.size)⟩
     all_goals (try go_big_round)
     all_goals refine ⟨?_, ?_⟩
     all_goals first
      | exact RL _ (by go_num)
      | (simp [intOf]; omega)
    | false =>
     have HR2 : Hid (R = false) := by show _ = _; rw [HST.out, hf, Bool.false_and]
     rw [hf] at hc
     clear hf
     go_wp2_with (go_at_call 30; refine hc.mono ?_; rintro e w2 ⟨rfl, E2⟩)
     go_ret
     exact ⟨by rw [HR2.out] <;> rfl, EC.trans (E2.mono EC.size)⟩
   ·have hki : ¬ (k : Int) < (n : Int) := by omega
    have HR2 : Hid (R = true) := by show _ = _; rw [HR.out, List.drop_of_length_le (by omega), List.drop_of_length_le (by omega)]; rfl
    go_wp2
    go_ret
    exact ⟨by rw [HR2.out] <;> rfl, E⟩
 ·have HR2 : Hid (R = false) := by
   show _ = _
   rw [hR]
   cases hs : sameL f xs ys with
   | false => rfl
   | true => have := sameL_len3 hs; omega
  have i0 : ((n : Int) != m) = true := by simp; omega
  clear hR
  go_enter Tryz.func31, Tryz.ntmps31
  go_wp2
  go_ret
  exact ⟨by rw [HR2.out] <;> rfl, Below.refl _ _⟩
end Go.Proofs.YtnbejckdhdbamaaGreat
namespace Go.Proofs.YtnbejckdhdbamaaGreat
open Go.RowKit Go.ChangeShapes Go.WideShapes
variable {H : Type} {enc : TypeId × Value → H} {P : Program} {w : World} {base : Nat} {spare : Nat → Bool} {held : Bool}
def Wt (P : Program) (d : DataW H) (t : TypeId) : Prop := ∀ n ∈ d.weights P t, n ≤ reachBytes
theorem weights_mem_all : ∀ {e : TypeId} {ds : List (DataW H)} {j : Nat} {d : DataW H}, ds[j]? = some d → ∀ n ∈ d.weights P e, n ∈ DataW.weightsAll P e ds
 | e, d0 :: ds, 0, d, hd, n, hn => by
  simp only [List.getElem?_cons_zero, Option.some.injEq] at hd
  subst hd
  simp only [DataW.weightsAll, List.mem_append]
  exact Or.inl hn
 | e, d0 :: ds, j + 1, d, hd, n, hn => by
  simp only [List.getElem?_cons_succ] at hd
  simp only [DataW.weightsAll, List.mem_append]
  exact Or.inr (weights_mem_all hd n hn)
 | _, [], _, _, hd, _, _ => by simp at hd
theorem Wt.field {t : TypeId} {fs : Array Field} {xs : List (DataW H × List MemPlace)} (ht : P.underlying t = some (.struct fs)) (h : Wt P (.agg (xs.map (·.1))) t) (j : Nat) {u : TypeId} {y : DataW H × List MemPlace} (hu : (fs.toList.map (·.type))[j]? = some u) (hy : xs[j]? = some y) : Wt P y.1 u := fun n hn =>
 h n (by
  simp only [DataW.weights, ht]
  exact DataW.weights_mem_each hu (by rw [List.getElem?_map, hy]; rfl) n hn)
theorem Wt.text {s : ByteArray} {t : TypeId} (h : Wt P (.lit (.string s.data.toList) : DataW H) t) : s.size ≤ 140737488351232 := by
 have := h s.data.toList.length (by simp [DataW.weights])
 simp only [reachBytes] at this
 have e : s.data.toList.length = s.size := by simp
 omega
theorem Sl.of_ints {tB tE : TypeId} {fuel : Nat} {v : Value} {x : DataW H × List MemPlace} (ht : P.underlying tB = some (.slice tE)) (he : P.underlying tE = some (.int .u8)) (hc : P.cellsOf tE = 1)
  (hb8 : P.bytesOf tE = 1) (h : DataW.trod enc P w base spare held fuel tB [v] = some x) : ∃ b : Bs, v = .slice b.ao b.n b.cap ∧ Sl w b.ao b.n b.cap b.xs ∧ (Wt P x.1 tB → b.n ≤ 140737488351232) := by
 rcases open_ints ht he hc h with ⟨hcs, _⟩ | ⟨a, l, c, zs, hcs, _, hl, hm, hz, hx, hcell, hwz⟩
 ·simp at hcs
  exact ⟨⟨none, 0, 0, []⟩, hcs, Sl.nothing w, fun _ => Nat.zero_le _⟩
 ·simp at hcs
  have hlz : l ≤ zs.length := by rw [hz]; split <;> omega
  refine ⟨⟨some a, l, c, zs.take l⟩, hcs, ⟨by simp; omega, hl, hm, fun h => by simp at h, fun b hb i hi => ?_, fun z hz => ?_⟩, fun hwt => ?_⟩
  ·obtain rfl := Option.some.inj hb
   have hi : i < l := hi
   rw [hcell i (by omega)]
   simp [List.getD, hi]
  ·have := hwz z (List.mem_of_mem_take hz)
   simp [Lit.wf, IntKind.min, IntKind.max, IntKind.signed, IntKind.bits] at this
   omega
  ·rw [hx] at hwt
   have := hwt (zs.length * 1) (by simp only [DataW.weights, ht, hb8]; simp [ChangeShapes.lits]; omega)
   simp only [reachBytes] at this
   show l ≤ _
   omega
theorem gather_list {α : Type} {p : Nat → α → Prop} : ∀ l : Nat, (∀ i, i < l → ∃ y, p i y) → ∃ z : List α, z.length = l ∧ ∀ i (h : i < z.length), p i z[i]
 | 0, _ => ⟨[], rfl, fun i h => by simp at h⟩
 | l + 1, key => by
  obtain ⟨z, hz1, hz2⟩ := gather_list l (fun i hi => key i (by omega))
  obtain ⟨y, hy⟩ := key l (by omega)
  refine ⟨z ++ [y], by simp [hz1], fun i h => ?_⟩
  by_cases c : i < z.length
  ·rw [List.getElem_append_left c]
   exact hz2 i c
  ·have hi : i = z.length := by simp at h; omega
   subst hi
   rw [List.getElem_append_right (Nat.le_refl _)]
   simp only [Nat.sub_self, List.getElem_singleton]
   rw [hz1]
   exact hy
end Go.Proofs.YtnbejckdhdbamaaGreat

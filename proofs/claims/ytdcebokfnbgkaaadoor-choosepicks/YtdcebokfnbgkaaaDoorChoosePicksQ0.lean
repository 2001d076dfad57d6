/-
  Texts in one: Base, FlatL, BsD, BsBlk, Own2, GRow, DCells, ChMem, ChMath, MapF, ChBest, HRegA, ChClone, Rot, DBase, Words, Sched.
-/
import Derived.Test.YtdcebokfnbgkaaaDoorProg
import Derived.WalkKit
import Derived.WalkSpells
import Derived.WalkMore
import Derived.ScopeJumps
import Derived.Laws.AppendOwnNone
import Derived.KernelRfl
import Derived.Deep.WholeRow
import Derived.Deep.Draws
import Derived.Maps.OwnSet
import Derived.Lib.MinMax
import Derived.Deep.RegionHeld3
import Derived.Lib.SliceRun
import Derived.Laws.BitsAllLaws
import Derived.Laws.ShiftsVarLaws
import Derived.BigQuiet
import Derived.RegionTactic
import Derived.BigRegion
namespace Go.Proofs.YtdcebokfnbgkaaaDoor
open Go.RowKit
theorem u8info : (Tryd.prog.info? 5).map (fun i => (i.zero, i.size, i.bytes)) = some (some (.int .u8 0), 1, 1) := by kernel_rfl
def bv (xs : List Int) : List Value := xs.map (Value.int .u8)
theorem bv_length (xs : List Int) : (bv xs).length = xs.length := by simp [bv]
theorem bv_append (xs ys : List Int) : bv (xs ++ ys) = bv xs ++ bv ys := by simp [bv]
theorem bv_one (xs : List Int) : ∀ u ∈ bv xs, u.oneCell' = true := ints_oneCell .u8 xs
theorem bv_get (xs : List Int) (j : Nat) (h : j < xs.length) : (bv xs)[j]? = some (.int .u8 (xs.getD j 0)) := by
  simp [bv, h]
def Byt (xs : List Int) : Prop := ∀ x ∈ xs, 0 ≤ x ∧ x ≤ 255
theorem Byt.append {xs ys : List Int} (h : Byt xs) (k : Byt ys) : Byt (xs ++ ys) := by
  intro x hx
  rcases List.mem_append.1 hx with h1 | h1
  · exact h x h1
  · exact k x h1
theorem Byt.drop {xs : List Int} (h : Byt xs) (n : Nat) : Byt (xs.drop n) := fun x hx => h x (List.mem_of_mem_drop hx)
theorem Byt.take {xs : List Int} (h : Byt xs) (n : Nat) : Byt (xs.take n) := fun x hx => h x (List.mem_of_mem_take hx)
theorem Byt.at {xs : List Int} (h : Byt xs) (j : Nat) : 0 ≤ xs[j]?.getD 0 ∧ xs[j]?.getD 0 ≤ 255 := by
  by_cases hj : j < xs.length
  · simp [hj]
    exact h _ (List.getElem_mem hj)
  · simp [hj]
structure Sl (w : World) (ao : Option Addr) (n cap : Nat) (xs : List Int) : Prop where
  len : xs.length = n
  le : n ≤ cap
  mx : cap ≤ maxLen
  nil : ao = none → n = 0 ∧ cap = 0
  cell : ∀ a, ao = some a → ∀ i, i < n → w.cell? (a.add i) = some (.int .u8 (xs.getD i 0))
  byte : Byt xs
theorem Sl.cells {w : World} {ao : Option Addr} {n cap : Nat} {xs : List Int} (h : Sl w ao n cap xs) : ∀ ad, ao = some ad → ∀ j u, (bv xs)[j]? = some u → w.cell? (ad.add j) = some u := by
  intro ad had j u hu
  have hj : j < xs.length := by
    have := (List.getElem?_eq_some_iff.1 hu).1
    simpa [bv] using this
  rw [bv_get xs j hj] at hu
  rw [h.cell ad had j (by rw [← h.len]; exact hj)]
  exact hu
theorem Sl.lt {w : World} {ao : Option Addr} {n cap : Nat} {xs : List Int} (h : Sl w ao n cap xs) : ∀ a, ao = some a → 0 < n → a.block < w.heap.size := by
  intro a ha hn
  have := World.block_lt_of_cell? w _ (h.cell a ha 0 hn)
  simpa [Addr.add] using this
theorem Sl.below {w w' : World} {ao : Option Addr} {n cap : Nat} {xs : List Int} (h : Sl w ao n cap xs) (hb : Below w.heap.size w w') : Sl w' ao n cap xs := by
  refine ⟨h.len, h.le, h.mx, h.nil, fun a ha i hi => ?_, h.byte⟩
  have hc := h.cell a ha i hi
  rw [← hc]
  exact hb.cell (World.block_lt_of_cell? w _ hc)
theorem Sl.nothing (w : World) : Sl w none 0 0 [] := ⟨rfl, Nat.le_refl _, Nat.zero_le _, fun _ => ⟨rfl, rfl⟩, fun _ h => by simp at h, fun _ h => by simp at h⟩
theorem Sl.one (w : World) (c : Int) (h : 0 ≤ c ∧ c ≤ 255) : Sl (w.alloc (.cells #[.int .u8 c] 5)) (some ⟨w.heap.size, 0, none⟩) 1 1 [c] := by
  refine ⟨rfl, Nat.le_refl _, by decide, fun h => by simp at h, fun a ha i hi => ?_, fun x hx => by simp at hx; omega⟩
  obtain rfl := Option.some.inj ha
  obtain rfl : i = 0 := by omega
  exact cell_one_new _ _ _ 0 _ (by simp)
theorem Sl.new (w : World) (xs : List Int) (h : Byt xs) (hn : xs.length ≤ maxLen) : Sl (w.alloc (.cells (bv xs).toArray 5)) (some ⟨w.heap.size, 0, none⟩) xs.length xs.length xs := by
  refine ⟨rfl, Nat.le_refl _, hn, fun h => by simp at h, fun a ha i hi => ?_, h⟩
  obtain rfl := Option.some.inj ha
  rw [Addr.add_lit, Nat.zero_add, cell_of_row _ w.heap.size i (bv xs).toArray 5 (0, 0) (heap_alloc_new w _)]
  simpa using bv_get xs i hi
theorem Sl.own {w : World} {base : Nat} {v : Value} {n : Nat} {xs : List Int} (h : w.ownsRow base 5 1 v n (bv xs)) (hb : Byt xs) :
    ∃ ao cap, v = .slice ao n cap ∧ Sl w ao n cap xs ∧ ∀ a, ao = some a → base ≤ a.block ∧ a.block < w.heap.size ∧ a.off = 0 ∧ a.spot = none := by
  have hl : xs.length = n := by have := h.1; rw [bv_length] at this; omega
  rcases h.2 with ⟨rfl, rfl⟩ | ⟨g, cap, cur, rfl, hg, hh, hle, hmx, hcs, htk⟩
  · obtain rfl : xs = [] := List.eq_nil_of_length_eq_zero hl
    exact ⟨none, 0, rfl, Sl.nothing w, fun a ha => by simp at ha⟩
  · refine ⟨some ⟨g, 0, none⟩, cap, rfl, ⟨hl, hle, hmx, fun h => by simp at h, fun a ha i hi => ?_, hb⟩, fun a ha => ?_⟩
    · obtain rfl := Option.some.inj ha
      exact h.cells (g := g) rfl i _ (bv_get xs i (by omega))
    · obtain rfl := Option.some.inj ha
      exact ⟨hg, (Array.getElem?_eq_some_iff.1 hh).1, rfl, rfl⟩
theorem wpList_app {w : World} {ops : Array Oper} {rest : List Oper} {o : Oper} {a : Act} {Q : Exit → Act → World → Prop} (hgd : o.guard = none) (s x : Operand)
    (ho : o.op = .call { callee := .builtin .append, args := #[s, x], argTypes := #[38, 38] })
    (base : Nat) (v : Value) (n : Nat) (xs : List Int) (hs : a.eval s = v) (hown : w.ownsRow base 5 1 v n (bv xs))
    (bo : Option Addr) (m c : Nat) (ys : List Int) (hx : a.eval x = .slice bo m c) (hsl : Sl w bo m c ys) (hb : n + m ≤ 140737488355328) (hbase : base ≤ w.heap.size)
    (h : ∀ v' w', w'.ownsRow base 5 1 v' (n + m) (bv (xs ++ ys)) → Below base w w' → wpList Tryd.prog ops Q rest (a.put o.dst v') w') : wpList Tryd.prog ops Q (o :: rest) a w := by
  obtain ⟨i0, hi, hz0, hz1, hz2⟩ := info_parts u8info
  cases bo with
  | some ad =>
    refine wpList_append_own w hgd s x 38 ho base 5 i0 (.int .u8 0) 1 1 Tryd.underlying38 hi hz0 hz1 hz2 rfl (by decide) v n (bv xs) hs hown ad m c (bv ys) hx (by rw [bv_length, hsl.len, Nat.mul_one]) (hsl.cells ad rfl) (bv_one ys) (by unfold maxLen; omega) (by omega) hbase ?_
    intro v' w' h1 h2 _
    rw [← bv_append] at h1
    exact h v' w' h1 ((Below.refl _ w).grown h2 hbase (fun k hk => (hown.lt k hk).1))
  | none =>
    obtain ⟨rfl, rfl⟩ := hsl.nil rfl
    obtain rfl : ys = [] := List.eq_nil_of_length_eq_zero hsl.len
    refine wpList_append_own_none hgd s x 38 ho base 5 i0 1 Tryd.underlying38 hi v n (bv xs) hs hown hx ?_
    exact h v w (by simpa using hown) (Below.refl _ _)
theorem or128 (m : Nat) : bits BinOp.or IntKind.u8 128 ((m : Int) % 128) = ((m % 128 + 128 : Nat) : Int) := by
  have key : ∀ x : Fin 128, bits BinOp.or IntKind.u8 128 ((x.val : Nat) : Int) = ((x.val + 128 : Nat) : Int) := by decide
  have h := key ⟨m % 128, Nat.mod_lt _ (by decide)⟩
  simpa using h
theorem wp_scope_label {P : Program} {Q : Exit → Act → World → Prop} {a : Act} {w : World} {y : Code} (l : Nat) (J : Act → World → Prop) (μ : Act → World → Nat) (h0 : J a w)
    (pass : ∀ a w, J a w → y.wp P (Exit.jump l (fun a' w' => J a' w' ∧ μ a' w' < μ a w) Q) a w) : (Code.scope ((Code.label l).seq y)).wp P Q a w := by
  refine wp_scope_jumps l J μ (rest := .seq .skip y) (by simp [findLabel]) ?_ ?_
  · refine wp_seq (wp_label ?_)
    show y.wp P _ a w
    refine wp_mono (pass a w h0) ?_
    intro e a' w' h
    cases e with
    | goto l' => exact ⟨h.1, h.2.1⟩
    | _ => exact h
  · intro a w hJ
    exact wp_seq (wp_skip (pass a w hJ))
open Go.RowKit
theorem flat_get {α : Type} (f : α → List Value) (s : Nat) (hs : ∀ x, (f x).length = s) : ∀ (l : List α) (i j : Nat) (hi : i < l.length), j < s → (l.map f).flatten[i * s + j]? = (f l[i])[j]?
  | [], i, _, hi, _ => by simp at hi
  | a :: l, 0, j, _, hj => by
    rw [List.map_cons, List.flatten_cons, Nat.zero_mul, Nat.zero_add, List.getElem?_append_left (by rw [hs]; exact hj)]
    rfl
  | a :: l, i + 1, j, hi, hj => by
    have e : (i + 1) * s + j = s + (i * s + j) := by rw [Nat.add_mul]; omega
    rw [List.map_cons, List.flatten_cons, e, List.getElem?_append_right (by rw [hs]; omega), hs, Nat.add_sub_cancel_left]
    exact flat_get f s hs l i j (by simpa using hi) hj
def sblk (ao : Option Addr) (n x : Nat) : Prop := ∃ a, ao = some a ∧ 0 < n ∧ a.block = x
open Go.RowKit
structure Bs where
  ao : Option Addr
  n : Nat
  cap : Nat
  xs : List Int
open Go.RowKit
def Bs.blk (b : Bs) (x : Nat) : Prop := ∃ a, b.ao = some a ∧ 0 < b.n ∧ a.block = x
theorem Sl.blk_lt {w : World} {b : Bs} (h : Sl w b.ao b.n b.cap b.xs) {x : Nat} (hx : b.blk x) : x < w.heap.size := by
  obtain ⟨a, ha, hn, rfl⟩ := hx
  exact h.lt a ha hn
theorem Sl.kept {w w' : World} {b : Bs} (h : Sl w b.ao b.n b.cap b.xs) (hk : ∀ x, b.blk x → w'.heap[x]? = w.heap[x]?) : Sl w' b.ao b.n b.cap b.xs := by
  refine ⟨h.len, h.le, h.mx, h.nil, fun a ha i hi => ?_, h.byte⟩
  have hb : (a.add i).block = a.block := by unfold Addr.add; split <;> rfl
  rw [← h.cell a ha i hi]
  exact World.cell?_of_block (by rw [hb]; exact hk _ ⟨a, ha, by omega, rfl⟩)
open Go.RowKit
theorem run_append_own2 {P : Program} (w : World) (base : Nat) (t ty e : TypeId) (i : TypeInfo) (z : Value) (size bytes : Nat) (ht : P.underlying t = some (.slice e)) (hi : P.info? e = some i) (hz : i.zero = some z)
    (hsize : i.size = size) (hby : i.bytes = bytes) (hzs : z.cells.size = size) (hsz : 0 < size)
    (v : Value) (n : Nat) (xs : List Value) (hown : w.ownsRow base e size v n xs)
    (a : Addr) (m c : Nat) (news : List Value) (hl : news.length = m * size) (hnews : ∀ j u, news[j]? = some u → w.cell? (a.add j) = some u) (h1 : ∀ u ∈ news, u.oneCell' = true)
    (h63 : n + m ≤ maxLen) (hbytes : (n + m) * bytes ≤ 140737488355328) (hbase : base ≤ w.heap.size) :
    ∃ v' w', (Builtin.append_ #[t, t] ty #[v, .slice (some a) m c]).run P w = .ok v' w' ∧ w'.ownsRow base e size v' (n + m) (xs ++ news) ∧ w.grownBy w' v.ownBlock ∧
      ∀ g, v'.ownBlock = some g → v.ownBlock = some g ∨ w.heap.size ≤ g := by
  obtain ⟨v', w', hr, ho, hg, _⟩ := run_append_own (P := P) w base t ty e i z size bytes ht hi hz hsize hby hzs hsz v n xs hown a m c news hl hnews h1 h63 hbytes hbase
  refine ⟨v', w', hr, ho, hg, ?_⟩
  have hsmall : n + m ≤ 9223372036854775807 := by simp only [maxLen] at h63; omega
  subst hsize
  subst hby
  rcases hown.2 with ⟨rfl, rfl⟩ | ⟨g, cap, cur, rfl, hbg, hgc, hnc, hcm, hcs, htake⟩
  · have hown2 : w.ownsRow w.heap.size e i.size (.slice none 0 0) 0 xs := ⟨hown.1, .inl ⟨rfl, rfl⟩⟩
    obtain ⟨v2, w2, hr2, ho2, _, _⟩ := run_append_own (P := P) w w.heap.size t ty e i z i.size i.bytes ht hi hz rfl rfl hzs hsz _ 0 xs hown2 a m c news hl hnews h1 h63 hbytes (Nat.le_refl _)
    rw [hr] at hr2
    simp only [Result.ok.injEq] at hr2
    obtain ⟨rfl, rfl⟩ := hr2
    intro g hgv
    exact .inr (ho2.lt g hgv).1
  · by_cases hroom : n + m ≤ cap
    · have hfit : n * i.size + news.length ≤ cur.size := by rw [hl, hcs, ← Nat.add_mul]; exact Nat.mul_le_mul_right _ hroom
      have hr2 := run_append_room (P := P) w t ty e i ht hi g n cap cur hgc a m c news hl hnews h1 hroom hfit
      rw [hr] at hr2
      simp only [Result.ok.injEq] at hr2
      obtain ⟨rfl, rfl⟩ := hr2
      intro g' hg'
      exact .inl hg'
    · have holds : ∀ j u, xs[j]? = some u → w.cell? ((⟨g, 0, none⟩ : Addr).add j) = some u := hown.cells (g := g) rfl
      have hr2 := run_append_grow (P := P) w t ty e i z ht hi hz ⟨g, 0, none⟩ n cap xs hown.1 holds a m c news hl hnews (by omega) (by omega) (growslice_fits (by omega) hbytes)
      rw [hr] at hr2
      simp only [Result.ok.injEq] at hr2
      obtain ⟨rfl, rfl⟩ := hr2
      intro g' hg'
      simp only [Value.ownBlock, Option.some.injEq] at hg'
      exact .inr (by omega)
theorem own_kept {w w' : World} {base : Nat} {e : TypeId} {size : Nat} {v : Value} {n : Nat} {xs : List Value} (h : w.ownsRow base e size v n xs) (hb : ∀ g, v.ownBlock = some g → w'.heap[g]? = w.heap[g]?) : w'.ownsRow base e size v n xs := by
  refine ⟨h.1, ?_⟩
  rcases h.2 with c | ⟨g, cap, cur, rfl, a1, a2, a3, a4, a5, a6⟩
  · exact .inl c
  · exact .inr ⟨g, cap, cur, rfl, a1, (hb g rfl).trans a2, a3, a4, a5, a6⟩
end Go.Proofs.YtdcebokfnbgkaaaDoor
namespace Go.Proofs.YtdcebokfnbgkaaaDoor
open Go.RowKit
structure El (α : Type) where
  c : α → List Value
  sz : Nat
  ok : α → World → Prop
  blk : α → Nat → Prop
structure El.Fine {α : Type} (E : El α) : Prop where
  len : ∀ x, (E.c x).length = E.sz
  pos : 0 < E.sz
  one : ∀ x, ∀ u ∈ E.c x, u.oneCell' = true
  kept : ∀ x w w', E.ok x w → (∀ z, E.blk x z → w'.heap[z]? = w.heap[z]?) → E.ok x w'
  lt : ∀ x w z, E.ok x w → E.blk x z → z < w.heap.size
theorem El.Fine.below {α : Type} {E : El α} (F : E.Fine) {x : α} {w w' : World} (h : E.ok x w) (hb : Below w.heap.size w w') : E.ok x w' := F.kept x w w' h fun z hz => hb.block z (F.lt x w z h hz)
structure GL {α : Type} (E : El α) (w : World) (ao : Option Addr) (n cap : Nat) (l : List α) : Prop where
  len : l.length = n
  le : n ≤ cap
  mx : cap ≤ maxLen
  nil : ao = none → n = 0 ∧ cap = 0
  cell : ∀ a, ao = some a → ∀ i (h : i < l.length), ∀ j v, (E.c l[i])[j]? = some v → w.cell? (a.add (i * E.sz + j)) = some v
  ok : ∀ x ∈ l, E.ok x w
def GLb {α : Type} (E : El α) (ao : Option Addr) (n : Nat) (l : List α) (z : Nat) : Prop := sblk ao n z ∨ ∃ x ∈ l, E.blk x z
variable {α : Type} {E : El α} {w w' : World} {ao : Option Addr} {n cap : Nat} {l : List α}
theorem GL.kept (F : E.Fine) (h : GL E w ao n cap l) (hk : ∀ z, GLb E ao n l z → w'.heap[z]? = w.heap[z]?) : GL E w' ao n cap l := by
  refine ⟨h.len, h.le, h.mx, h.nil, fun a ha i hi j v hv => ?_, fun x hx => F.kept x w w' (h.ok x hx) fun z hz => hk z (.inr ⟨x, hx, hz⟩)⟩
  have hb : (a.add (i * E.sz + j)).block = a.block := by unfold Addr.add; split <;> rfl
  rw [← h.cell a ha i hi j v hv]
  exact World.cell?_of_block (by rw [hb]; exact hk _ (.inl ⟨a, ha, by have := h.len; omega, rfl⟩))
theorem GL.lt (F : E.Fine) (h : GL E w ao n cap l) {z : Nat} (hz : GLb E ao n l z) : z < w.heap.size := by
  rcases hz with ⟨a, ha, hn, rfl⟩ | ⟨x, hx, hz⟩
  · have hl := h.len
    have hi : 0 < l.length := by omega
    have h1 : 0 < (E.c l[0]).length := by rw [F.len]; exact F.pos
    have h0 := h.cell a ha 0 hi 0 _ (List.getElem?_eq_getElem h1)
    have hlt := World.block_lt_of_cell? w _ h0
    have hb : (a.add (0 * E.sz + 0)).block = a.block := by unfold Addr.add; split <;> rfl
    rw [hb] at hlt
    exact hlt
  · exact F.lt x w z (h.ok x hx) hz
theorem GL.below (F : E.Fine) (h : GL E w ao n cap l) (hb : Below w.heap.size w w') : GL E w' ao n cap l := h.kept F fun z hz => hb.block z (h.lt F hz)
theorem GL.nothing (E : El α) (w : World) : GL E w none 0 0 [] := ⟨rfl, Nat.le_refl _, Nat.zero_le _, fun _ => ⟨rfl, rfl⟩, fun _ _ _ hi => absurd hi (Nat.not_lt_zero _), fun _ h => absurd h List.not_mem_nil⟩
theorem GL.at (h : GL E w ao n cap l) (hn : 0 < n) : ∃ a, ao = some a := by
  match e : ao with
  | some a => exact ⟨a, rfl⟩
  | none => exact absurd (h.nil rfl).1 (by omega)
theorem GL.pl (F : E.Fine) (h : GL E w ao n cap l) (hn : 0 < n) : ∃ b off, ao = some ⟨b, off, none⟩ ∧ ∀ i (hi : i < l.length), ∀ j v, (E.c l[i])[j]? = some v → w.cell? ⟨b, off + i * E.sz + j, none⟩ = some v := by
  obtain ⟨⟨b, off, spot⟩, rfl⟩ := h.at hn
  have hl := h.len
  have h1 : 0 < (E.c (l[0]'(by omega))).length := by rw [F.len]; exact F.pos
  have hc := h.cell _ rfl 0 (by omega) 0 _ (List.getElem?_eq_getElem h1)
  have hs : spot = none := by simpa [Addr.add] using World.cell?_spot hc
  subst hs
  refine ⟨b, off, rfl, fun i hi j v hv => ?_⟩
  have := h.cell _ rfl i hi j v hv
  rw [Addr.add_lit] at this
  rw [Nat.add_assoc]
  exact this
structure LS (α : Type) where
  ao : Option Addr
  n : Nat
  cap : Nat
  l : List α
structure GTy (sz bytes : Nat) (z : Value) (t s : TypeId) : Prop where
  info : (Tryd.prog.info? t).map (fun i => (i.zero, i.size, i.bytes)) = some (some z, sz, bytes)
  zs : z.cells.size = sz
  und : Tryd.prog.underlying s = some (.slice t)
structure GI (E : El α) (t : TypeId) (W : World) (base : Nat) (v : Value) (ys : List α) : Prop where
  own : W.ownsRow base t E.sz v ys.length ((ys.map E.c).flatten)
  ok : ∀ y ∈ ys, E.ok y W
  far : ∀ y ∈ ys, ∀ x, E.blk y x → v.ownBlock ≠ some x
variable {t s : TypeId} {W W' : World} {base : Nat} {v : Value} {ys : List α}
theorem GI.nil (E : El α) (t : TypeId) (W : World) (base : Nat) : GI E t W base (.slice none 0 0) [] := ⟨World.ownsRow_nil _ _ _ _, fun _ h => by simp at h, fun _ h => by simp at h⟩
theorem GI.kept (F : E.Fine) (h : GI E t W base v ys) (hk : ∀ z, (v.ownBlock = some z ∨ ∃ y ∈ ys, E.blk y z) → W'.heap[z]? = W.heap[z]?) : GI E t W' base v ys :=
  ⟨own_kept h.own fun g hg => hk g (.inl hg), fun y hy => F.kept y W W' (h.ok y hy) fun z hz => hk z (.inr ⟨y, hy, hz⟩), h.far⟩
theorem GI.lt (F : E.Fine) (h : GI E t W base v ys) {z : Nat} (hz : v.ownBlock = some z ∨ ∃ y ∈ ys, E.blk y z) : z < W.heap.size := by
  rcases hz with hz | ⟨y, hy, hz⟩
  · exact (h.own.lt z hz).2
  · exact F.lt y W z (h.ok y hy) hz
theorem GI.below (F : E.Fine) (h : GI E t W base v ys) (hb : Below W.heap.size W W') : GI E t W' base v ys := h.kept F fun z hz => hb.block z (h.lt F hz)
theorem GI.app (F : E.Fine) {bytes : Nat} {z : Value} (hty : GTy E.sz bytes z t s) (h : GI E t W base v ys) (ty : TypeId) {a : Addr} {cp : Nat} {y : α} (hG : ∀ j u, (E.c y)[j]? = some u → W.cell? (a.add j) = some u) (he : E.ok y W) (hf : ∀ x, E.blk y x → v.ownBlock ≠ some x) (hn : (ys.length + 1) * bytes ≤ 140737488355328) (hm : ys.length + 1 ≤ maxLen) (hbase : base ≤ W.heap.size) :
    ∃ v' W1, (Builtin.append_ #[s, s] ty #[v, .slice (some a) 1 cp]).run Tryd.prog W = .ok v' W1 ∧ GI E t W1 base v' (ys ++ [y]) ∧ Below base W W1 ∧ W.grownBy W1 v.ownBlock ∧ ∃ ao n cap, v' = .slice ao n cap := by
  obtain ⟨i0, hi, hz0, hz1, hz2⟩ := info_parts hty.info
  obtain ⟨v', W1, hr, ho, hg, ha⟩ := run_append_own2 (P := Tryd.prog) W base s ty t i0 _ E.sz bytes hty.und hi hz0 hz1 hz2 hty.zs F.pos v ys.length ((ys.map E.c).flatten) h.own a 1 cp (E.c y) (by rw [F.len, Nat.one_mul]) hG (F.one y) hm hn hbase
  have hown : W1.ownsRow base t E.sz v' (ys ++ [y]).length (((ys ++ [y]).map E.c).flatten) := by
    have e1 : ((ys ++ [y]).map E.c).flatten = (ys.map E.c).flatten ++ E.c y := by simp
    rw [e1, List.length_append]
    exact ho
  have key : ∀ z : α, E.ok z W → (∀ x, E.blk z x → v.ownBlock ≠ some x) → E.ok z W1 ∧ ∀ x, E.blk z x → v'.ownBlock ≠ some x := fun z hz hzf => ⟨F.kept z W W1 hz fun x hx => hg.block x (F.lt z W x hz hx) (fun e => hzf x hx e.symm), fun x hx e => by
    rcases ha x e with c | c
    · exact hzf x hx c
    · have := F.lt z W x hz hx
      omega⟩
  refine ⟨v', W1, hr, ⟨hown, fun z hz => ?_, fun z hz => ?_⟩, (Below.refl _ W).grown hg hbase (fun k hk => (h.own.lt k hk).1), hg, ?_⟩
  · rcases List.mem_append.1 hz with hz | hz
    · exact (key z (h.ok z hz) (h.far z hz)).1
    · rw [List.mem_singleton.1 hz]; exact (key y he hf).1
  · rcases List.mem_append.1 hz with hz | hz
    · exact (key z (h.ok z hz) (h.far z hz)).2
    · rw [List.mem_singleton.1 hz]; exact (key y he hf).2
  · rcases ho.2 with ⟨rfl, _⟩ | ⟨g, cap, cur, rfl, _⟩
    · exact ⟨none, 0, 0, rfl⟩
    · exact ⟨_, _, cap, rfl⟩
theorem GI.gl (F : E.Fine) (h : GI E t W base v ys) : ∃ ao cap, v = .slice ao ys.length cap ∧ GL E W ao ys.length cap ys ∧ ∀ z, sblk ao ys.length z → base ≤ z := by
  rcases h.own.2 with ⟨rfl, e⟩ | ⟨g, cap, cur, rfl, a1, a2, a3, a4, a5, a6⟩
  · rw [e]
    have : ys = [] := List.eq_nil_of_length_eq_zero e
    subst this
    exact ⟨none, 0, rfl, GL.nothing E W, fun z hz => by obtain ⟨a, ha, _⟩ := hz; cases ha⟩
  · refine ⟨some ⟨g, 0, none⟩, cap, rfl, ⟨rfl, a3, a4, fun h => by simp at h, fun a ha i hi j u hu => ?_, h.ok⟩, fun z hz => by obtain ⟨a, ha, _, rfl⟩ := hz; cases ha; exact a1⟩
    obtain rfl := Option.some.inj ha
    have hj : j < E.sz := by have := (List.getElem?_eq_some_iff.1 hu).1; rw [F.len] at this; exact this
    refine h.own.cells (g := g) rfl (i * E.sz + j) u ?_
    rw [flat_get E.c E.sz F.len ys i j hi hj]
    exact hu
end Go.Proofs.YtdcebokfnbgkaaaDoor
namespace Go
theorem run_loadVar_cells {P : Program} (w : World) (ad : Addr) (ty : TypeId) (cs : List Value) (hc : ∀ j v, cs[j]? = some v → w.cell? (ad.add j) = some v)
    (hagg : (isAgg ty).run P w = .ok true w) (hi : (P.info? ty).map (·.size) = some cs.length) :
    (loadVar ty ad).run P w = .ok (.agg cs.toArray) w := by
  have hl : (loadCells ad cs.length).run P w = .ok cs.toArray w := run_loadCells_list (P := P) w ad cs hc
  cases hq : P.info? ty with
  | none => simp [hq] at hi
  | some i =>
    have hs : i.size = cs.length := by simpa [hq] using hi
    simp [loadVar, Sem.run_bind, hagg, sizeOf, typeInfo, hq, hs, hl]
theorem wpList_load_cells {P : Program} {ops : Array Oper} {rest : List Oper} {o : Oper} {a : Act} {w : World} {Q : Exit → Act → World → Prop} (hgd : o.guard = none) (ty : TypeId) (x : Operand) (ho : o.op = .load ty x)
    (ad : Addr) (hx : a.eval x = .pointer (some ad)) (cs : List Value) (hc : ∀ j v, cs[j]? = some v → w.cell? (ad.add j) = some v)
    (hagg : ∀ w, (isAgg ty).run P w = .ok true w) (hi : (P.info? ty).map (·.size) = some cs.length)
    (h : wpList P ops Q rest (a.put o.dst (.agg cs.toArray)) w) : wpList P ops Q (o :: rest) a w := by
  refine wpList_plain hgd fun K hK => ?_
  unfold Oper.wp execOp
  simp only [ho, hx, Instr.loadAt, Instr.sureAddr, Sem.run_bind, Sem.run_pure, Result.andThen_ok, run_loadVar_cells w ad ty cs hc (hagg w) hi]
  exact hK _ _ h
theorem results_cells {P : Program} {fn : Func} {p : Tmp} {ty : TypeId} (h : fn.results = #[.cell p ty]) (tmps : Array Value) (w : World) (ad : Addr) (hp : tmps.getD p undef = .pointer (some ad)) (cs : List Value)
    (hc : ∀ j v, cs[j]? = some v → w.cell? (ad.add j) = some v) (hagg : (isAgg ty).run P w = .ok true w) (hi : (P.info? ty).map (·.size) = some cs.length) :
    (results fn tmps).run P w = .ok (.agg cs.toArray) w := by
  have hp' : tmps[p]?.getD undef = .pointer (some ad) := by simpa using hp
  simp [results, h, hp', asAddr, run_loadVar_cells w ad ty cs hc hagg hi]
theorem wpList_alloc_named {P : Program} {ops : Array Oper} {rest : List Oper} {o : Oper} {a : Act} {w : World} {Q : Exit → Act → World → Prop} (hgd : o.guard = none) (d : Tmp) (hd : o.dst = some d) (ty : TypeId) (ho : o.op = .alloc ty)
    (N : Nat) (hN : w.heap.size = N) (cs : List Value) (n : Nat) (hz : (P.info? ty).map (fun i => (i.zero, i.size)) = some (some (.agg cs.toArray), n))
    (h : ∀ w', w'.heap[N]? = some (.cells cs.toArray ty) → w'.heap.size = N + 1 → w.grownBy w' none → wpList P ops Q rest (a.put (some d) (.pointer (some ⟨N, 0, none⟩))) w') : wpList P ops Q (o :: rest) a w := by
  refine wpList_plain hgd fun K hK => ?_
  rw [← hd] at h
  subst hN
  have h0 : (zeroValue ty).run P w = .ok (.agg cs.toArray) w := (zero_of_info hz).1 w
  have hr : (execOp a.eval o).run P w = .ok (.value (.pointer (some ⟨w.heap.size, 0, none⟩))) (w.alloc (.cells cs.toArray ty)) := by
    unfold execOp
    simp [ho, Instr.alloc, h0, newVar, newRow, Value.cells]
  unfold Oper.wp
  rw [hr, Oper.upon_value]
  exact hK _ _ (h _ (heap_alloc_new _ _) (by simp) (World.grownBy_alloc _ _ _))
theorem wpList_store_named {P : Program} {ops : Array Oper} {rest : List Oper} {o : Oper} {a : Act} {w : World} {Q : Exit → Act → World → Prop} (hgd : o.guard = none) (ty : TypeId) (x y : Operand) (ho : o.op = .store ty x y)
    (g : Nat) (cells : List Value) (hx : a.eval x = .pointer (some ⟨g, 0, none⟩)) (hy : a.eval y = .agg cells.toArray)
    (t : TypeId) (old : List Value) (hg : w.heap[g]? = some (.cells old.toArray t)) (N : Nat) (hN : w.heap.size = N) (hi : (P.info? ty).map (·.size) = some cells.length)
    (hold : old.length = cells.length) (h1 : ∀ u ∈ cells, u.oneCell' = true)
    (h : ∀ w', w'.heap[g]? = some (.cells cells.toArray t) → w'.heap.size = N → w.grownBy w' (some g) → wpList P ops Q rest (a.put o.dst undef) w') : wpList P ops Q (o :: rest) a w := by
  refine wpList_store_row hgd ty x y ho g cells.toArray hx hy t old.toArray hg (by simpa using hi) (by simpa using hold) (by simpa using h1) ?_
  exact h _ (setRow_heap w g _ _ t _ hg) (by simpa using hN) ⟨rfl, rfl, rfl, by simp, fun k _ hk => setRow_other w g k _ (fun e => hk (by rw [e]))⟩
structure StopS (p : Prop) : Prop where
  out : p
theorem stop_at {P : Program} {ops : Array Oper} {rest : List Oper} {o : Oper} {a : Act} {w : World} {Q : Exit → Act → World → Prop} (op : Op) (_ : o.op = op) (h : StopS (wpList P ops Q (o :: rest) a w)) : wpList P ops Q (o :: rest) a w := h.out
theorem add_at (b i j : Nat) : (⟨b, i, none⟩ : Addr).add j = ⟨b, i + j, none⟩ := by unfold Addr.add; split <;> simp_all
end Go
namespace Go.Proofs.YtdcebokfnbgkaaaDoor
open Go.RowKit
def Arr (w : World) (b : Nat) (t : TypeId) (cs : List Value) : Prop := w.heap[b]? = some (.cells cs.toArray t)
theorem Arr.lt {w : World} {b : Nat} {t : TypeId} {cs : List Value} (h : Arr w b t cs) : b < w.heap.size := (Array.getElem?_eq_some_iff.1 h).1
theorem Arr.cell {w : World} {b : Nat} {t : TypeId} {cs : List Value} (h : Arr w b t cs) (j : Nat) : w.cell? ⟨b, j, none⟩ = cs[j]? := by
  rw [cell_of_row w b j _ _ _ h]; simp
theorem Arr.free {w : World} {b : Nat} {t : TypeId} {cs : List Value} (h : Arr w b t cs) (j : Nat) : w.frozen? ⟨b, j, none⟩ = false := frozen_of_row w b j _ _ h
theorem Arr.grown {w w' : World} {b : Nat} {t : TypeId} {cs : List Value} {row : Option Nat} (h : Arr w b t cs) (hg : w.grownBy w' row) (hne : some b ≠ row) : Arr w' b t cs := (hg.block b h.lt hne).trans h
theorem Arr.below {w w' : World} {b : Nat} {t : TypeId} {cs : List Value} {n : Nat} (h : Arr w b t cs) (hg : Below n w w') (hne : b < n) : Arr w' b t cs := (hg.block b hne).trans h
theorem Arr.set {w : World} {b : Nat} {t : TypeId} {cs : List Value} (h : Arr w b t cs) (j : Nat) (v : Value) : Arr (w.setCell ⟨b, j, none⟩ v) b t (cs.set j v) := by
  unfold Arr
  rw [heap_setCell_same w b j _ t v h]
  simp
theorem Arr.other {w : World} {b : Nat} {t : TypeId} {cs : List Value} (h : Arr w b t cs) (a : Addr) (v : Value) (hne : b ≠ a.block) : Arr (w.setCell a v) b t cs := (heap_setCell_other w a b v hne).trans h
theorem Arr.drew {w : World} {b : Nat} {t : TypeId} {cs : List Value} (h : Arr w b t cs) : Arr w.drew b t cs := h
theorem bel_grown {w w' : World} (h : Below w.heap.size w w') (row : Option Nat) : w.grownBy w' row := ⟨h.os, h.tape, h.output, h.size, fun k hk _ => h.block k hk⟩
theorem gro_trans {a b c : World} {row : Option Nat} (h : a.grownBy b row) (k : b.grownBy c row) : a.grownBy c row :=
  ⟨k.os.trans h.os, k.tape.trans h.tape, k.output.trans h.output, Nat.le_trans h.size k.size, fun i hi hn => (k.block i (Nat.lt_of_lt_of_le hi h.size) hn).trans (h.block i hi hn)⟩
theorem grown_set {a b : World} {p : Nat} (h : a.grownBy b (some p)) (j : Nat) (v : Value) : a.grownBy (b.setCell ⟨p, j, none⟩ v) (some p) :=
  ⟨h.os, h.tape, h.output, by simpa using h.size, fun i hi hn => (heap_setCell_other b _ i v (fun e => hn (by rw [e]))).trans (h.block i hi hn)⟩
theorem grown_drewN {a b : World} {row : Option Nat} (h : a.grownBy b row) (q : Nat) : a.grownBy (b.drewN q) row := ⟨h.os, h.tape, h.output, h.size, h.block⟩
open Go.RowKit
structure PA where
  sq : Nat
  vw : Nat
  b : Bs
def PA.cells (x : PA) : List Value := [.int .u64 (x.sq : Nat), .int .u64 (x.vw : Nat), .slice x.b.ao x.b.n x.b.cap]
def PA.val (x : PA) : Value := .agg #[.int .u64 (x.sq : Nat), .int .u64 (x.vw : Nat), .slice x.b.ao x.b.n x.b.cap]
structure PA.ok (x : PA) (w : World) : Prop where
  sq : x.sq < 18446744073709551616
  vw : x.vw < 18446744073709551616
  b : Sl w x.b.ao x.b.n x.b.cap x.b.xs
def elP : El PA := ⟨PA.cells, 3, PA.ok, fun x z => x.b.blk z⟩
theorem elP_fine : elP.Fine := by
  refine ⟨fun _ => rfl, by decide, fun x u hu => ?_, fun x w w' h hk => ⟨h.sq, h.vw, h.b.kept fun z hz => hk z hz⟩, fun x w z h hz => h.b.blk_lt hz⟩
  have hu : u ∈ x.cells := hu
  unfold PA.cells at hu
  simp only [List.mem_cons, List.not_mem_nil, or_false] at hu
  rcases hu with rfl | rfl | rfl <;> rfl
structure PX (V : World) (b p : Nat) (x : PA) : Prop where
  c0 : V.cell? ⟨b, p, none⟩ = some (.int .u64 (x.sq : Nat))
  c1 : V.cell? ⟨b, p + 1, none⟩ = some (.int .u64 (x.vw : Nat))
  c2 : V.cell? ⟨b, p + 2, none⟩ = some (.slice x.b.ao x.b.n x.b.cap)
theorem PX.below {V V' : World} {b p : Nat} {s : PA} (h : PX V b p s) (hb : Below V.heap.size V V') : PX V' b p s :=
  ⟨(hb.cell (World.block_lt_of_cell? V _ h.c0)).trans h.c0, (hb.cell (World.block_lt_of_cell? V _ h.c1)).trans h.c1, (hb.cell (World.block_lt_of_cell? V _ h.c2)).trans h.c2⟩
theorem GL.atP {w : World} {ao : Option Addr} {n cap : Nat} {l : List PA} (h : GL elP w ao n cap l) (hn : 0 < n) :
    ∃ b off, ao = some ⟨b, off, none⟩ ∧ ∀ i (hi : i < l.length), PX w b (off + i * 3) l[i] := by
  obtain ⟨b, off, e, k⟩ := h.pl elP_fine hn
  exact ⟨b, off, e, fun i hi => ⟨k i hi 0 _ rfl, k i hi 1 _ rfl, k i hi 2 _ rfl⟩⟩
structure CA where
  fr : Nat
  low : Nat
  z : Bs
  s : LS PA
def CA.cells (x : CA) : List Value := [.int .u64 (x.fr : Nat), .int .u64 (x.low : Nat), .slice x.z.ao x.z.n x.z.cap, .slice x.s.ao x.s.n x.s.cap]
structure CA.ok (x : CA) (w : World) : Prop where
  fr : x.fr < 18446744073709551616
  low : x.low < 18446744073709551616
  z : Sl w x.z.ao x.z.n x.z.cap x.z.xs
  s : GL elP w x.s.ao x.s.n x.s.cap x.s.l
def elC : El CA := ⟨CA.cells, 4, CA.ok, fun x z => x.z.blk z ∨ GLb elP x.s.ao x.s.n x.s.l z⟩
theorem elC_fine : elC.Fine := by
  refine ⟨fun _ => rfl, by decide, fun x u hu => ?_, fun x w w' h hk => ⟨h.fr, h.low, h.z.kept fun z hz => hk z (.inl hz), h.s.kept elP_fine fun z hz => hk z (.inr hz)⟩, fun x w z h hz => ?_⟩
  · have hu : u ∈ x.cells := hu
    unfold CA.cells at hu
    simp only [List.mem_cons, List.not_mem_nil, or_false] at hu
    rcases hu with rfl | rfl | rfl | rfl <;> rfl
  · rcases hz with hz | hz
    · exact h.z.blk_lt hz
    · exact h.s.lt elP_fine hz
structure CX (V : World) (b p : Nat) (x : CA) : Prop where
  c0 : V.cell? ⟨b, p, none⟩ = some (.int .u64 (x.fr : Nat))
  c1 : V.cell? ⟨b, p + 1, none⟩ = some (.int .u64 (x.low : Nat))
  c2 : V.cell? ⟨b, p + 2, none⟩ = some (.slice x.z.ao x.z.n x.z.cap)
  c3 : V.cell? ⟨b, p + 3, none⟩ = some (.slice x.s.ao x.s.n x.s.cap)
theorem CX.below {V V' : World} {b p : Nat} {s : CA} (h : CX V b p s) (hb : Below V.heap.size V V') : CX V' b p s :=
  ⟨(hb.cell (World.block_lt_of_cell? V _ h.c0)).trans h.c0, (hb.cell (World.block_lt_of_cell? V _ h.c1)).trans h.c1, (hb.cell (World.block_lt_of_cell? V _ h.c2)).trans h.c2, (hb.cell (World.block_lt_of_cell? V _ h.c3)).trans h.c3⟩
theorem GL.atC {w : World} {ao : Option Addr} {n cap : Nat} {l : List CA} (h : GL elC w ao n cap l) (hn : 0 < n) :
    ∃ b off, ao = some ⟨b, off, none⟩ ∧ ∀ i (hi : i < l.length), CX w b (off + i * 4) l[i] := by
  obtain ⟨b, off, e, k⟩ := h.pl elC_fine hn
  exact ⟨b, off, e, fun i hi => ⟨k i hi 0 _ rfl, k i hi 1 _ rfl, k i hi 2 _ rfl, k i hi 3 _ rfl⟩⟩
def LtC (l : List CA) : Prop := l.length ≤ 20 ∧ ∀ c ∈ l, c.s.n ≤ 20 ∧ c.z.n ≤ 100 ∧ ∀ p ∈ c.s.l, p.b.n ≤ 100
def CA.cv (c : CA) : Nat × Nat × List PA := (c.fr, c.low, c.s.l)
theorem tyP : GTy elP.sz 40 (.agg #[.int .u64 0, .int .u64 0, .slice none 0 0]) 46 26 := ⟨by kernel_rfl, rfl, Tryd.underlying26⟩
theorem tyC : GTy elC.sz 64 (.agg #[.int .u64 0, .int .u64 0, .slice none 0 0, .slice none 0 0]) 49 30 := ⟨by kernel_rfl, rfl, Tryd.underlying30⟩
open Go.RowKit
def stepB (b : Option PA) (p : PA) : PA := match b with
  | none => p
  | some c => if c.vw < p.vw then p else c
def bestP (ps : List PA) (q : Nat) : Option PA := ps.foldl (fun b p => if p.sq = q then some (stepB b p) else b) none
theorem bestP_snoc (ps : List PA) (p : PA) (q : Nat) : bestP (ps ++ [p]) q = if p.sq = q then some (stepB (bestP ps q) p) else bestP ps q := by
  unfold bestP
  rw [List.foldl_append]
  rfl
def bestW (low : Nat) (ps : List PA) (q : Nat) : Option PA := if low < q ∧ q ≤ low + 8 then bestP ps q else none
theorem bestW_out {low : Nat} {ps : List PA} {p : PA} (h : ¬ (low < p.sq ∧ p.sq ≤ low + 8)) (q : Nat) : bestW low (ps ++ [p]) q = bestW low ps q := by
  unfold bestW
  split
  · rw [bestP_snoc, if_neg (by rintro rfl; exact h (by assumption))]
  · rfl
theorem bestW_in {low : Nat} {ps : List PA} {p : PA} (h : low < p.sq ∧ p.sq ≤ low + 8) : bestW low (ps ++ [p]) p.sq = some (stepB (bestW low ps p.sq) p) := by
  unfold bestW
  rw [if_pos h, if_pos h, bestP_snoc, if_pos rfl]
theorem bestW_other {low : Nat} {ps : List PA} {p : PA} {q : Nat} (h : q ≠ p.sq) : bestW low (ps ++ [p]) q = bestW low ps q := by
  have e : bestP (ps ++ [p]) q = bestP ps q := by rw [bestP_snoc, if_neg (fun e => h e.symm)]
  unfold bestW
  rw [e]
def topP (low : Nat) (ps : List PA) : Nat := ps.foldl (fun t p => if low < p.sq ∧ p.sq ≤ low + 8 then max t p.sq else t) low
theorem topP_snoc (low : Nat) (ps : List PA) (p : PA) : topP low (ps ++ [p]) = if low < p.sq ∧ p.sq ≤ low + 8 then max (topP low ps) p.sq else topP low ps := by
  unfold topP
  rw [List.foldl_append]
  rfl
theorem snoc_ind {α : Type} {P : List α → Prop} (h0 : P []) (h1 : ∀ l a, P l → P (l ++ [a])) (l : List α) : P l := by
  have : ∀ m : List α, P m.reverse := fun m => by
    induction m with
    | nil => exact h0
    | cons a m ih => rw [List.reverse_cons]; exact h1 _ _ ih
  have h := this l.reverse
  rwa [List.reverse_reverse] at h
theorem topP_le (low : Nat) (ps : List PA) : low ≤ topP low ps ∧ topP low ps ≤ low + 8 := by
  refine snoc_ind (P := fun ps => low ≤ topP low ps ∧ topP low ps ≤ low + 8) ⟨Nat.le_refl _, Nat.le_add_right _ _⟩ (fun ps p h => ?_) ps
  show low ≤ topP low (ps ++ [p]) ∧ topP low (ps ++ [p]) ≤ low + 8
  rw [topP_snoc]
  split <;> omega
theorem topP_lt {low : Nat} (hl : low < 18446744073709551616) (ps : List PA) (hp : ∀ p ∈ ps, p.sq < 18446744073709551616) : topP low ps < 18446744073709551616 := by
  revert hp
  refine snoc_ind (P := fun ps => (∀ p ∈ ps, p.sq < 18446744073709551616) → topP low ps < 18446744073709551616) (fun _ => hl) (fun ps p h hp => ?_) ps
  have h1 := h fun x hx => hp x (List.mem_append_left _ hx)
  have h2 := hp p (List.mem_append_right _ (List.mem_singleton.2 rfl))
  rw [topP_snoc]
  split <;> omega
theorem bestP_some (ps : List PA) (q : Nat) : ∀ c, bestP ps q = some c → c ∈ ps ∧ c.sq = q ∧ ∀ p ∈ ps, p.sq = q → p.vw ≤ c.vw := by
  refine snoc_ind (P := fun ps => ∀ c, bestP ps q = some c → c ∈ ps ∧ c.sq = q ∧ ∀ p ∈ ps, p.sq = q → p.vw ≤ c.vw) (fun c h => by cases h) (fun ps x h c hc => ?_) ps
  rw [bestP_snoc] at hc
  split at hc
  · rename_i hx
    obtain rfl := Option.some.inj hc
    cases hb : bestP ps q with
    | none =>
      have hn : ∀ ps : List PA, bestP ps q = none → ∀ p ∈ ps, p.sq ≠ q := fun ps => by
        refine snoc_ind (P := fun ps => bestP ps q = none → ∀ p ∈ ps, p.sq ≠ q) (fun _ p hp => absurd hp List.not_mem_nil) (fun l a ih e p hp => ?_) ps
        rw [bestP_snoc] at e
        split at e
        · cases e
        · rcases List.mem_append.1 hp with hp | hp
          · exact ih e p hp
          · rw [List.mem_singleton.1 hp]; assumption
      refine ⟨List.mem_append_right _ (List.mem_singleton.2 rfl), hx, fun p hp hq => ?_⟩
      rcases List.mem_append.1 hp with hp | hp
      · exact absurd hq (hn ps hb p hp)
      · rw [List.mem_singleton.1 hp]; exact Nat.le_refl _
    | some d =>
      obtain ⟨h1, h2, h3⟩ := h d hb
      show (if d.vw < x.vw then x else d) ∈ _ ∧ (if d.vw < x.vw then x else d).sq = q ∧ ∀ p ∈ ps ++ [x], p.sq = q → p.vw ≤ (if d.vw < x.vw then x else d).vw
      split
      · refine ⟨List.mem_append_right _ (List.mem_singleton.2 rfl), hx, fun p hp hq => ?_⟩
        rcases List.mem_append.1 hp with hp | hp
        · have := h3 p hp hq
          omega
        · rw [List.mem_singleton.1 hp]; exact Nat.le_refl _
      · refine ⟨List.mem_append_left _ h1, h2, fun p hp hq => ?_⟩
        rcases List.mem_append.1 hp with hp | hp
        · exact h3 p hp hq
        · rw [List.mem_singleton.1 hp]; omega
  · rename_i hx
    obtain ⟨h1, h2, h3⟩ := h c hc
    refine ⟨List.mem_append_left _ h1, h2, fun p hp hq => ?_⟩
    rcases List.mem_append.1 hp with hp | hp
    · exact h3 p hp hq
    · rw [List.mem_singleton.1 hp] at hq
      exact absurd hq hx
def allP (cs : List (Nat × Nat × List PA)) : List PA := cs.flatMap fun c => c.2.2
theorem allP_snoc (cs : List (Nat × Nat × List PA)) (c : Nat × Nat × List PA) : allP (cs ++ [c]) = allP cs ++ c.2.2 := by
  unfold allP
  simp
def lowC (cs : List (Nat × Nat × List PA)) : Nat := cs.foldl (fun m c => max m c.2.1) 0
theorem lowC_snoc (cs : List (Nat × Nat × List PA)) (c : Nat × Nat × List PA) : lowC (cs ++ [c]) = max (lowC cs) c.2.1 := by
  unfold lowC
  rw [List.foldl_append]
  rfl
theorem lowC_lt (cs : List (Nat × Nat × List PA)) (h : ∀ c ∈ cs, c.2.1 < 18446744073709551616) : lowC cs < 18446744073709551616 := by
  revert h
  refine snoc_ind (P := fun cs => (∀ c ∈ cs, c.2.1 < 18446744073709551616) → lowC cs < 18446744073709551616) (fun _ => by decide) (fun cs x h hc => ?_) cs
  have h1 := h fun c hx => hc c (List.mem_append_left _ hx)
  have h2 := hc x (List.mem_append_right _ (List.mem_singleton.2 rfl))
  rw [lowC_snoc]
  omega
def PA.pv (p : PA) : Nat × Nat × List Int := (p.sq, p.vw, p.b.xs)
def pickV (nx : List Int) (ps : List PA) (q : Nat) : Nat × Nat × List Int := match bestP ps q with
  | some p => (q, p.vw, p.b.xs)
  | none => (q, 0, nx)
def picksV (nx : List Int) (low : Nat) (ps : List PA) : List (Nat × Nat × List Int) := (List.range (topP low ps - low)).map fun i => pickV nx ps (low + i + 1)
open Go.RowKit
def vElem (v : Value) : Option (DataW Value × List MemPlace) := some (.held v, [])
def MF (w : World) (K : TypeId) (b n : Nat) (F : Value → Option Value) : Prop :=
  ∃ D : DataW Value, w.ownsMap Tryd.prog K vElem b n D ∧ Maps.size D = n ∧
    ∀ v l, keyOf Tryd.prog K v = some l → (F v = none ∧ Maps.has D l = false ∧ ∀ z, D.atKey l z = z) ∨ ∃ u, F v = some u ∧ Maps.has D l = true ∧ ∀ z, D.atKey l z = .held u
theorem MF.lt {w : World} {K : TypeId} {b n : Nat} {F : Value → Option Value} (h : MF w K b n F) : b < w.heap.size := by
  obtain ⟨D, h1, _⟩ := h
  exact h1.lt
theorem MF.made (w : World) (K : TypeId) : MF (w.alloc (.map #[] 0)) K w.heap.size 0 fun _ => none :=
  ⟨.map [], World.ownsMap_made w _ _ _, rfl, fun _ _ _ => .inl ⟨rfl, rfl, fun _ => rfl⟩⟩
theorem MF.below {w w' : World} {K : TypeId} {b n m : Nat} {F : Value → Option Value} (h : MF w K b n F) (hb : Below m w w') (hm : b < m) : MF w' K b n F := by
  obtain ⟨D, ⟨es, clock, h1, r⟩, h2⟩ := h
  exact ⟨D, ⟨es, clock, by rw [hb.block b hm]; exact h1, r⟩, h2⟩
theorem MF.look {w : World} {K : TypeId} {b n : Nat} {F : Value → Option Value} (h : MF w K b n F) (hK : Maps.Keyed Tryd.prog K) {t e : TypeId} (ht : Tryd.prog.underlying t = some (.map K e)) {z : Value} (hz : (zeroValue e).run Tryd.prog w = .ok z w)
    {v : Value} {l : Lit} (hv : keyOf Tryd.prog K v = some l) : (Instr.lookup t (.map (some b)) v true).run Tryd.prog w = .ok (.tuple #[(F v).getD z, .bool (F v).isSome]) w := by
  obtain ⟨D, h1, _, h3⟩ := h
  obtain ⟨u, ps, hr, hu⟩ := h1.look_ok hK ht hz (zd := .held z) (zp := []) rfl hv
  rw [hr]
  unfold vElem at hu
  rcases h3 v l hv with ⟨e1, e2, e3⟩ | ⟨x, e1, e2, e3⟩
  · rw [e3] at hu
    simp at hu
    rw [e1, e2, hu.1]
    rfl
  · rw [e3] at hu
    simp at hu
    rw [e1, e2, hu.1]
    rfl
theorem MF.update {w : World} {K : TypeId} {b n : Nat} {F : Value → Option Value} (h : MF w K b n F) (hK : Maps.Keyed Tryd.prog K) {t e : TypeId} (ht : Tryd.prog.underlying t = some (.map K e)) (hn : n < maxLen) {key val : Value} {l : Lit} (hkey : keyOf Tryd.prog K key = some l) :
    ∃ w' F' n', (Instr.mapUpdate t (.map (some b)) key val).run Tryd.prog w = .ok () w' ∧ MF w' K b n' F' ∧ w.grownBy w' (some b) ∧ F' key = some val ∧ (∀ x, x ≠ key → F' x = F x) ∧ (F key = none → n' = n + 1) ∧ (F key ≠ none → n' = n) := by
  obtain ⟨D, h1, h2, h3⟩ := h
  obtain ⟨w', hr, h4, h5⟩ := h1.update hK ht hn hkey (d := .held val) (ps := []) rfl
  have hk := hK.key hkey
  have hsz := Maps.size_put (k := l) (h1.tidy hK) (.held val)
  haveI : ∀ x : Value, Decidable (x = key) := fun x => Classical.propDecidable _
  refine ⟨w', fun x => if x = key then some val else F x, Maps.size (D.put l (.held val)), hr, ⟨D.put l (.held val), ?_, rfl, ?_⟩, h5, if_pos rfl, fun x hx => if_neg hx, fun hN => ?_, fun hS => ?_⟩
  · obtain ⟨es, clock, hb, F0, hs, hD⟩ := h4
    refine ⟨es, clock, hb, F0, ?_, hD⟩
    rw [hD]
    simp [Maps.size, length_sorted]
  · intro v l' hv
    by_cases hvk : v = key
    · subst hvk
      rw [hkey] at hv
      obtain rfl := Option.some.inj hv
      exact .inr ⟨val, if_pos rfl, Maps.has_put_same h1.isMap hk _, fun z => Maps.atKey_put_same h1.isMap hk _ z⟩
    · have hne : l' ≠ l := fun e => hvk (hK.inj hv (by rw [e]; exact hkey))
      simp only [hvk, if_false]
      rw [Maps.has_put_other hne]
      rcases h3 v l' hv with ⟨e1, e2, e3⟩ | ⟨u, e1, e2, e3⟩
      · exact .inl ⟨e1, e2, fun z => by rw [Maps.atKey_put_other hne]; exact e3 z⟩
      · exact .inr ⟨u, e1, e2, fun z => by rw [Maps.atKey_put_other hne]; exact e3 z⟩
  · rcases h3 key l hkey with ⟨e1, e2, _⟩ | ⟨u, e1, _⟩
    · rw [hsz, e2, h2]
      simp
    · rw [hN] at e1
      cases e1
  · rcases h3 key l hkey with ⟨e1, _⟩ | ⟨u, e1, e2, _⟩
    · exact absurd e1 hS
    · rw [hsz, e2, h2]
      simp
end Go.Proofs.YtdcebokfnbgkaaaDoor
namespace Go
theorem exec_mapUpdate16 {P : Program} {a : Act} {w : World} {o : Oper} {t : TypeId} {m x v : Operand} {mv xv vv : Value} {R : World → Prop} (ho : o.op = .mapUpdate t m x v) (hm : a.eval m = mv) (hx : a.eval x = xv) (hv : a.eval v = vv) (hr : ∃ w', (Instr.mapUpdate t mv xv vv).run P w = .ok () w' ∧ R w') :
    ∃ w', (execOp a.eval o).run P w = .ok .skip w' ∧ R w' := by
  obtain ⟨w', h1, h2⟩ := hr
  refine ⟨w', ?_, h2⟩
  unfold execOp
  simp only [ho, hm, hx, hv, h1, Sem.run_bind, Sem.run_pure, Result.andThen_ok]
theorem wpList_mapUpdate_F16 {P : Program} {ops : Array Oper} {rest : List Oper} {a : Act} {w : World} {Q : Exit → Act → World → Prop} {o : Oper} (hgd : o.guard = none) {t : TypeId} {m x v : Operand} {mv xv vv : Value} {R : World → Prop} (ho : o.op = .mapUpdate t m x v) (hm : a.eval m = mv) (hx : a.eval x = xv) (hv : a.eval v = vv) (hr : ∃ w', (Instr.mapUpdate t mv xv vv).run P w = .ok () w' ∧ R w')
    (h : ∀ w', R w' → wpList P ops Q rest (a.put o.dst undef) w') : wpList P ops Q (o :: rest) a w := by
  refine wpList_plain hgd fun K hK => ?_
  obtain ⟨w', h1, h2⟩ := exec_mapUpdate16 ho hm hx hv hr
  unfold Oper.wp
  rw [h1, Oper.upon_skip]
  exact hK _ _ (h w' h2)
end Go
namespace Go.Proofs.YtdcebokfnbgkaaaDoor
open Go.RowKit
theorem kU16 : Maps.Keyed Tryd.prog 25 := Maps.int_keyed Tryd.underlying25
theorem keyU16 (n : Nat) (h : n < 18446744073709551616) : keyOf Tryd.prog 25 (.int .u64 (n : Nat)) = some (.int .u64 (n : Nat)) :=
  Maps.keyOf_int_mk Tryd.underlying25 (by simp [Lit.wf, IntKind.min, IntKind.max, IntKind.signed, IntKind.bits]; omega)
theorem zPre (w : World) : (zeroValue 46).run Tryd.prog w = .ok (.agg #[.int .u64 0, .int .u64 0, .slice none 0 0]) w := by kernel_rfl
def FOK (low : Nat) (ps : List PA) (F : Value → Option Value) : Prop := ∀ q : Nat, q < 18446744073709551616 → F (.int .u64 (q : Nat)) = (bestW low ps q).map PA.val
theorem FOK.skip {low : Nat} {ps : List PA} {F : Value → Option Value} (h : FOK low ps F) {p : PA} (hp : ¬ (low < p.sq ∧ p.sq ≤ low + 8)) : FOK low (ps ++ [p]) F := fun q hq => by rw [bestW_out hp]; exact h q hq
theorem FOK.stay {low : Nat} {ps : List PA} {F : Value → Option Value} (h : FOK low ps F) {p c : PA} (hc : bestW low ps p.sq = some c) (hv : ¬ c.vw < p.vw) : FOK low (ps ++ [p]) F := fun q hq => by
  by_cases hw : low < p.sq ∧ p.sq ≤ low + 8
  · by_cases e : q = p.sq
    · subst e
      rw [bestW_in hw, h _ hq, hc]
      show _ = some (PA.val (if c.vw < p.vw then p else c))
      rw [if_neg hv]
      rfl
    · rw [bestW_other e]
      exact h q hq
  · rw [bestW_out hw]
    exact h q hq
theorem FOK.put {low : Nat} {ps : List PA} {F F' : Value → Option Value} (h : FOK low ps F) {p : PA} (hw : low < p.sq ∧ p.sq ≤ low + 8) (hs : stepB (bestW low ps p.sq) p = p) (h1 : F' (.int .u64 (p.sq : Nat)) = some p.val) (h2 : ∀ y, y ≠ .int .u64 (p.sq : Nat) → F' y = F y) : FOK low (ps ++ [p]) F' := fun q hq => by
  by_cases e : q = p.sq
  · subst e
    rw [bestW_in hw, hs, h1]
    rfl
  · rw [bestW_other e, h2 _ (fun e2 => e (by simp at e2; omega))]
    exact h q hq
def BX (w : World) (low : Nat) (ps : List PA) (l : List PA) (top i : Value) (wr : World) : Prop := ∃ (x : Nat) (F : Value → Option Value) (kk : Nat), x ≤ l.length ∧ i = .int .i64 (x : Nat) ∧ top = .int .u64 (topP low (ps ++ l.take x) : Nat) ∧ MF wr 25 w.heap.size kk F ∧ kk ≤ (ps ++ l.take x).length ∧ FOK low (ps ++ l.take x) F ∧ Below w.heap.size w wr
theorem bx_take {ps l : List PA} {x : Nat} (h : x < l.length) : ps ++ l.take (x + 1) = (ps ++ l.take x) ++ [l[x]] := by rw [List.take_succ_eq_append_getElem h, List.append_assoc]
section
variable {w wr : World} {low : Nat} {ps l : List PA} {top i : Value} {F : Value → Option Value} {kk x : Nat}
theorem BX.skip (h : x < l.length) (hi : i = .int .i64 ((x + 1 : Nat) : Int)) (hw : ¬ (low < l[x].sq ∧ l[x].sq ≤ low + 8)) (ht : top = .int .u64 (topP low (ps ++ l.take x) : Nat)) (M : MF wr 25 w.heap.size kk F) (hk : kk ≤ (ps ++ l.take x).length) (hF : FOK low (ps ++ l.take x) F) (hb : Below w.heap.size w wr) : BX w low ps l top i wr := by
  refine ⟨x + 1, F, kk, h, hi, ?_, M, ?_, ?_, hb⟩
  · rw [bx_take h, topP_snoc, if_neg hw]; exact ht
  · rw [bx_take h, List.length_append]; omega
  · rw [bx_take h]; exact hF.skip hw
theorem BX.stay (h : x < l.length) (hi : i = .int .i64 ((x + 1 : Nat) : Int)) (hw : low < l[x].sq ∧ l[x].sq ≤ low + 8) {c : PA} (hc : bestW low (ps ++ l.take x) l[x].sq = some c) (hv : ¬ c.vw < l[x].vw) (ht : top = .int .u64 (max (topP low (ps ++ l.take x) : Int) (l[x].sq : Int))) (M : MF wr 25 w.heap.size kk F) (hk : kk ≤ (ps ++ l.take x).length) (hF : FOK low (ps ++ l.take x) F) (hb : Below w.heap.size w wr) : BX w low ps l top i wr := by
  refine ⟨x + 1, F, kk, h, hi, ?_, M, ?_, ?_, hb⟩
  · rw [bx_take h, topP_snoc, if_pos hw, ht]; congr 1; omega
  · rw [bx_take h, List.length_append]; omega
  · rw [bx_take h]; exact hF.stay hc hv
theorem BX.put {F' : Value → Option Value} {k' : Nat} (h : x < l.length) (hi : i = .int .i64 ((x + 1 : Nat) : Int)) (hw : low < l[x].sq ∧ l[x].sq ≤ low + 8) (hs : stepB (bestW low (ps ++ l.take x) l[x].sq) l[x] = l[x]) (ht : top = .int .u64 (max (topP low (ps ++ l.take x) : Int) (l[x].sq : Int))) (M : MF wr 25 w.heap.size k' F') (hk : kk ≤ (ps ++ l.take x).length) (hk2 : k' ≤ kk + 1) (hF : FOK low (ps ++ l.take x) F) (h1 : F' (.int .u64 (l[x].sq : Nat)) = some l[x].val) (h2 : ∀ y, y ≠ .int .u64 (l[x].sq : Nat) → F' y = F y) (hb : Below w.heap.size w wr) : BX w low ps l top i wr := by
  refine ⟨x + 1, F', k', h, hi, ?_, M, ?_, ?_, hb⟩
  · rw [bx_take h, topP_snoc, if_pos hw, ht]; congr 1; omega
  · rw [bx_take h, List.length_append]; show k' ≤ (ps ++ l.take x).length + 1; omega
  · rw [bx_take h]; exact hF.put hw hs h1 h2
end
def psK (l : List CA) (k : Nat) : List PA := allP ((l.take k).map CA.cv)
theorem psK_succ {l : List CA} {k : Nat} (h : k < l.length) : psK l (k + 1) = psK l k ++ l[k].s.l := by
  unfold psK
  rw [List.take_succ_eq_append_getElem h, List.map_append, List.map_singleton, allP_snoc]
  rfl
theorem psK_len {l : List CA} (hs : ∀ c ∈ l, c.s.l.length ≤ 1000) : ∀ k, k ≤ l.length → (psK l k).length ≤ k * 1000
  | 0, _ => by show (allP []).length ≤ _; exact Nat.zero_le _
  | k + 1, h => by
    have h1 := psK_len hs k (by omega)
    have h2 := hs _ (List.getElem_mem (show k < l.length by omega))
    rw [psK_succ (by omega), List.length_append]
    omega
def BO (w : World) (low : Nat) (l : List CA) (top i : Value) (wr : World) : Prop := ∃ (k : Nat) (F : Value → Option Value) (kk : Nat), k ≤ l.length ∧ i = .int .i64 (k : Nat) ∧ top = .int .u64 (topP low (psK l k) : Nat) ∧ MF wr 25 w.heap.size kk F ∧ kk ≤ (psK l k).length ∧ FOK low (psK l k) F ∧ Below w.heap.size w wr
theorem BO.start {w wr : World} {low : Nat} {l : List CA} (M : MF wr 25 w.heap.size 0 fun _ => none) (hb : Below w.heap.size w wr) : BO w low l (.int .u64 (low : Nat)) (.int .i64 0) wr :=
  ⟨0, _, 0, Nat.zero_le _, rfl, rfl, M, Nat.zero_le _, fun q hq => by
    show none = (bestW low (psK l 0) q).map PA.val
    have e : bestW low (psK l 0) q = none := by
      unfold bestW
      split <;> rfl
    rw [e]
    rfl, hb⟩
theorem BX.done {w wr : World} {low : Nat} {l : List CA} {k : Nat} (hk : k < l.length) {x : Nat} {F : Value → Option Value} {kk : Nat} {top i : Value} (hx : l[k].s.l.length ≤ x) (hi : i = .int .i64 ((k + 1 : Nat) : Int)) (ht : top = .int .u64 (topP low (psK l k ++ l[k].s.l.take x) : Nat)) (M : MF wr 25 w.heap.size kk F) (hkk : kk ≤ (psK l k ++ l[k].s.l.take x).length) (hF : FOK low (psK l k ++ l[k].s.l.take x) F) (hb : Below w.heap.size w wr) : BO w low l top i wr := by
  rw [List.take_of_length_le hx, ← psK_succ hk] at ht hkk hF
  exact ⟨k + 1, F, kk, hk, hi, ht, M, hkk, hF, hb⟩
def BestPost (w : World) (low : Nat) (l : List CA) (e : Ending) (w' : World) : Prop := ∃ (F : Value → Option Value) (kk : Nat), e = .returned (.tuple #[.map (some w.heap.size), .int .u64 (topP low (psK l l.length) : Nat)]) ∧ MF w' 25 w.heap.size kk F ∧ FOK low (psK l l.length) F ∧ Below w.heap.size w w'
set_option maxRecDepth 100000 in
set_option maxHeartbeats 8000000 in
theorem best_any (w : World) (low : Nat) (hlow : low < 18446744073709551616) (ao : Option Addr) (n cap : Nat) (l : List CA) (h : GL elC w ao n cap l) (hn : n ≤ 1000) (hs : ∀ c ∈ l, c.s.l.length ≤ 1000) :
    Calls Tryd.prog 20 #[.int .u64 (low : Nat), .slice ao n cap] w (BestPost w low l) := by
  have hl := h.len
  have B0 : Below w.heap.size w (w.alloc (.map #[] 0)) := (Below.refl _ _).alloc (Nat.le_refl _) _
  have O0 := BO.start (low := low) (l := l) (MF.made w 25) B0
  have hmm := @run_makeMap Tryd.prog
  go_enter Tryd.func20, Tryd.ntmps20
  go_wp2_with fail
  clear hmm
  go_loopw [5, 16] (fun top i wr => BO w low l top i wr) (fun _ i _ => n - (intOf i).toNat)
  case atStart => exact O0
  case round =>
    clear O0 B0
    obtain ⟨k, F, kk, hk, rfl, rfl, M, hkk, FK, B⟩ := hrel
    have hpl := psK_len hs k hk
    by_cases hlt : k < n
    · have hki : (k : Int) < (n : Int) := by omega
      obtain ⟨b, off, rfl, hX⟩ := h.atC (by omega)
      have hkx : k < l.length := by omega
      have HX := (hX k hkx).below B
      have hok := h.ok _ (List.getElem_mem hkx)
      have hcs := hs _ (List.getElem_mem hkx)
      obtain ⟨⟨cf, cl, cz, ⟨sao, sn, scap, sl⟩⟩, ho⟩ : ∃ o, o = l[k] := ⟨_, rfl⟩
      rw [← ho] at HX hok hcs
      have HO : Hid (l[k] = ⟨cf, cl, cz, ⟨sao, sn, scap, sl⟩⟩) := ho.symm
      have hsl : sl.length = sn := hok.s.len
      have hcs : sl.length ≤ 1000 := hcs
      have HS : Hid (GL elP w sao sn scap sl) := hok.s
      obtain ⟨q0, q1, q2, q3⟩ := HX
      obtain ⟨CW, hCW⟩ : ∃ W, W = wr.alloc (.cells #[.int .u64 (cf : Nat), .int .u64 (cl : Nat), .slice cz.ao cz.n cz.cap, .slice sao sn scap] 49) := ⟨_, rfl⟩
      have C1 : Below wr.heap.size wr CW := by rw [hCW]; exact (Below.refl _ _).alloc (Nat.le_refl _) _
      have B1 := B.trans (C1.mono B.size)
      have M1 := M.below C1 M.lt
      obtain ⟨ps, hps⟩ : ∃ ps, ps = psK l k := ⟨_, rfl⟩
      have HPS : Hid (ps = psK l k) := hps
      rw [← hps] at hkk FK hpl ⊢
      have X0 : BX w low ps sl (.int .u64 (topP low ps : Nat)) (.int .i64 0) CW := ⟨0, F, kk, Nat.zero_le _, rfl, by rw [List.take_zero, List.append_nil], M1, by rw [List.take_zero, List.append_nil]; exact hkk, by rw [List.take_zero, List.append_nil]; exact FK, B1⟩
      clear hX ho hok hps M M1 FK hkk C1 B1
      go_wp2_with fail
      rw [← hCW]
      clear hCW q0 q1 q2 q3 B
      go_loopw [5, 23] (fun top i wq => BX w low ps sl top i wq) (fun _ i _ => sn - (intOf i).toNat)
      case atStart => exact X0
      case round =>
        clear X0
        obtain ⟨x, F, kk, hx, rfl, rfl, M, hkk, FK, B⟩ := hrel
        have hlen : (ps ++ sl.take x).length ≤ 2000000 := by rw [List.length_append, List.length_take]; omega
        by_cases hxl : x < sl.length
        · have hxi : (x : Int) < (sn : Int) := by omega
          obtain ⟨pb, poff, rfl, hP⟩ := HS.out.atP (by omega)
          obtain ⟨p0, p1, p2⟩ := (hP x hxl).below B
          obtain ⟨hps, hvs, -⟩ := HS.out.ok _ (List.getElem_mem hxl)
          have HP : Hid (∃ p, p = sl[x]) := ⟨_, rfl⟩
          obtain ⟨p, hp⟩ := HP.out
          have HPE : Hid (p = sl[x]) := hp
          rw [← hp] at p0 p1 p2 hps hvs
          obtain ⟨t, ht⟩ : ∃ t, t = topP low (ps ++ sl.take x) := ⟨_, rfl⟩
          have HT : Hid (t = topP low (ps ++ sl.take x)) := ht
          rw [← ht]
          have C1 : Below wr.heap.size wr (wr.alloc (.cells #[.int .u64 (p.sq : Nat), .int .u64 (p.vw : Nat), .slice p.b.ao p.b.n p.b.cap] 46)) := (Below.refl _ _).alloc (Nat.le_refl _) _
          have E1 := B.trans (C1.mono B.size)
          have M1 := M.below C1 M.lt
          have HM1 : Hid (MF (wr.alloc (.cells #[.int .u64 (p.sq : Nat), .int .u64 (p.vw : Nat), .slice p.b.ao p.b.n p.b.cap] 46)) 25 w.heap.size kk F) := M1
          have HFK : Hid (FOK low (ps ++ sl.take x) F) := FK
          have hMl : w.heap.size < wr.heap.size := M.lt
          have HB : Hid (Below w.heap.size w (wr.alloc (.cells #[.int .u64 (p.sq : Nat), .int .u64 (p.vw : Nat), .slice p.b.ao p.b.n p.b.cap] 46))) := E1
          clear hP hp ht
          by_cases a1 : p.sq ≤ low
          · have i1 : (p.sq : Int) ≤ (low : Int) := by omega
            clear FK M M1 C1 E1
            go_wp2
            have RL : ∀ i : Value, i = .int .i64 ((x + 1 : Nat) : Int) → BX w low ps sl (.int .u64 (t : Nat)) i (wr.alloc (.cells #[.int .u64 (p.sq : Nat), .int .u64 (p.vw : Nat), .slice p.b.ao p.b.n p.b.cap] 46)) := fun i hi => BX.skip hxl hi (by rw [← HPE.out]; omega) (by rw [HT.out]) HM1.out hkk HFK.out HB.out
            all_goals (try go_big_round)
            all_goals refine ⟨?_, ?_⟩
            all_goals first
              | exact RL _ (by go_num)
              | (simp [intOf]; omega)
          by_cases a2 : low + 8 < p.sq
          · have i1 : ¬ (p.sq : Int) ≤ (low : Int) := by omega
            have mw : IntKind.u64.wrap ((p.sq : Int) - (low : Int)) = (p.sq : Int) - (low : Int) := by rw [IntKind.wrap_u64]; omega
            have i2 : (8 : Int) < (p.sq : Int) - (low : Int) := by omega
            clear FK M M1 C1 E1
            go_wp2
            have RL : ∀ i : Value, i = .int .i64 ((x + 1 : Nat) : Int) → BX w low ps sl (.int .u64 (t : Nat)) i (wr.alloc (.cells #[.int .u64 (p.sq : Nat), .int .u64 (p.vw : Nat), .slice p.b.ao p.b.n p.b.cap] 46)) := fun i hi => BX.skip hxl hi (by rw [← HPE.out]; omega) (by rw [HT.out]) HM1.out hkk HFK.out HB.out
            all_goals (try go_big_round)
            all_goals refine ⟨?_, ?_⟩
            all_goals first
              | exact RL _ (by go_num)
              | (simp [intOf]; omega)
          have i1 : ¬ (p.sq : Int) ≤ (low : Int) := by omega
          have mw : IntKind.u64.wrap ((p.sq : Int) - (low : Int)) = (p.sq : Int) - (low : Int) := by rw [IntKind.wrap_u64]; omega
          have i2 : ¬ (8 : Int) < (p.sq : Int) - (low : Int) := by omega
          have HW : Hid (low < p.sq ∧ p.sq ≤ low + 8) := ⟨by omega, by omega⟩
          have HL := M1.look kU16 Tryd.underlying52 (zPre _) (keyU16 p.sq hps)
          have HKK : Hid (kk ≤ (ps ++ sl.take x).length) := hkk
          rw [FK p.sq hps] at HL
          clear FK M M1 C1 E1 a1 a2
          cases hb : bestW low (ps ++ sl.take x) p.sq with
          | none =>
            rw [hb] at HL
            simp only [Option.map_none, Option.getD_none, Option.isSome_none] at HL
            have HS2 : Hid (stepB (bestW low (ps ++ sl.take x) sl[x].sq) sl[x] = sl[x]) := by show _ = _; rw [← HPE.out, hb]; rfl
            have HM2 : Hid (MF ((wr.alloc (.cells #[.int .u64 (p.sq : Nat), .int .u64 (p.vw : Nat), .slice p.b.ao p.b.n p.b.cap] 46)).alloc (.cells #[.int .u64 0, .int .u64 0, .slice none 0 0] 46)) 25 w.heap.size kk F) := HM1.out.below ((Below.refl _ _).alloc (Nat.le_refl _) _) HM1.out.lt
            have HB2 : Hid (Below w.heap.size w ((wr.alloc (.cells #[.int .u64 (p.sq : Nat), .int .u64 (p.vw : Nat), .slice p.b.ao p.b.n p.b.cap] 46)).alloc (.cells #[.int .u64 0, .int .u64 0, .slice none 0 0] 46))) := HB.out.alloc HB.out.size _
            have HC2 : Hid (∀ w4, World.grownBy ((wr.alloc (.cells #[.int .u64 (p.sq : Nat), .int .u64 (p.vw : Nat), .slice p.b.ao p.b.n p.b.cap] 46)).alloc (.cells #[.int .u64 0, .int .u64 0, .slice none 0 0] 46)) w4 (some w.heap.size) → w4.cell? ⟨wr.heap.size, 0, none⟩ = some (.int .u64 (p.sq : Nat))) := fun w4 G => by
              have A : Arr ((wr.alloc (.cells #[.int .u64 (p.sq : Nat), .int .u64 (p.vw : Nat), .slice p.b.ao p.b.n p.b.cap] 46)).alloc (.cells #[.int .u64 0, .int .u64 0, .slice none 0 0] 46)) wr.heap.size 46 [.int .u64 (p.sq : Nat), .int .u64 (p.vw : Nat), .slice p.b.ao p.b.n p.b.cap] := Arr.below (heap_alloc_new wr _) ((Below.refl _ _).alloc (Nat.le_refl _) _) (by simp)
              exact (A.grown G (fun e => by have := Option.some.inj e; omega)).cell 0
            clear hb
            go_wp2_with (at_mapUpdate; refine wpList_mapUpdate_F16 (R := fun w4 => ∃ F' k', MF w4 25 w.heap.size k' F' ∧ World.grownBy ((wr.alloc (.cells #[.int .u64 (p.sq : Nat), .int .u64 (p.vw : Nat), .slice p.b.ao p.b.n p.b.cap] 46)).alloc (.cells #[.int .u64 0, .int .u64 0, .slice none 0 0] 46)) w4 (some w.heap.size) ∧ F' (.int .u64 (p.sq : Nat)) = some (.agg #[.int .u64 (p.sq : Nat), .int .u64 (p.vw : Nat), .slice p.b.ao p.b.n p.b.cap]) ∧ (∀ y, y ≠ .int .u64 (p.sq : Nat) → F' y = F y) ∧ k' ≤ kk + 1) rfl rfl rfl rfl rfl (by
                obtain ⟨w4, F', n', r1, r2, r3, r4, r5, r6, r7⟩ := (HM2.out).update kU16 Tryd.underlying52 (by have := HKK.out; unfold maxLen; omega) (key := .int .u64 (p.sq : Nat)) (val := .agg #[.int .u64 (p.sq : Nat), .int .u64 (p.vw : Nat), .slice p.b.ao p.b.n p.b.cap]) (keyU16 p.sq hps)
                refine ⟨w4, r1, F', n', r2, r3, r4, r5, ?_⟩
                by_cases hn : F (.int .u64 (p.sq : Nat)) = none
                · have := r6 hn; omega
                · have := r7 hn; omega) ?_; rintro w4 ⟨F', k', M4, G4, f1, f2, f3⟩; have c0 := HC2.out w4 G4; go_frame)
            have RL : ∀ i : Value, i = .int .i64 ((x + 1 : Nat) : Int) → BX w low ps sl (.int .u64 (max (t : Int) (p.sq : Int))) i w4 := fun i hi => BX.put hxl hi (by rw [← HPE.out]; exact HW.out) HS2.out (by rw [HT.out, HPE.out]) M4 HKK.out f3 HFK.out (by rw [← HPE.out]; exact f1) (by rw [← HPE.out]; exact f2) (HB2.out.grown G4 HB2.out.size (fun z hz => by cases hz; exact Nat.le_refl _))
            all_goals (try go_big_round)
            all_goals refine ⟨?_, ?_⟩
            all_goals first
              | exact RL _ (by go_num)
              | (simp [intOf]; omega)
          | some c =>
            rw [hb] at HL
            simp only [Option.map_some, Option.getD_some, Option.isSome_some, PA.val] at HL
            have HCB : Hid (bestW low (ps ++ sl.take x) sl[x].sq = some c) := by show _ = _; rw [← HPE.out]; exact hb
            have HM2 : Hid (MF ((wr.alloc (.cells #[.int .u64 (p.sq : Nat), .int .u64 (p.vw : Nat), .slice p.b.ao p.b.n p.b.cap] 46)).alloc (.cells #[.int .u64 (c.sq : Nat), .int .u64 (c.vw : Nat), .slice c.b.ao c.b.n c.b.cap] 46)) 25 w.heap.size kk F) := HM1.out.below ((Below.refl _ _).alloc (Nat.le_refl _) _) HM1.out.lt
            have HB2 : Hid (Below w.heap.size w ((wr.alloc (.cells #[.int .u64 (p.sq : Nat), .int .u64 (p.vw : Nat), .slice p.b.ao p.b.n p.b.cap] 46)).alloc (.cells #[.int .u64 (c.sq : Nat), .int .u64 (c.vw : Nat), .slice c.b.ao c.b.n c.b.cap] 46))) := HB.out.alloc HB.out.size _
            have HC2 : Hid (∀ w4, World.grownBy ((wr.alloc (.cells #[.int .u64 (p.sq : Nat), .int .u64 (p.vw : Nat), .slice p.b.ao p.b.n p.b.cap] 46)).alloc (.cells #[.int .u64 (c.sq : Nat), .int .u64 (c.vw : Nat), .slice c.b.ao c.b.n c.b.cap] 46)) w4 (some w.heap.size) → w4.cell? ⟨wr.heap.size, 0, none⟩ = some (.int .u64 (p.sq : Nat))) := fun w4 G => by
              have A : Arr ((wr.alloc (.cells #[.int .u64 (p.sq : Nat), .int .u64 (p.vw : Nat), .slice p.b.ao p.b.n p.b.cap] 46)).alloc (.cells #[.int .u64 (c.sq : Nat), .int .u64 (c.vw : Nat), .slice c.b.ao c.b.n c.b.cap] 46)) wr.heap.size 46 [.int .u64 (p.sq : Nat), .int .u64 (p.vw : Nat), .slice p.b.ao p.b.n p.b.cap] := Arr.below (heap_alloc_new wr _) ((Below.refl _ _).alloc (Nat.le_refl _) _) (by simp)
              exact (A.grown G (fun e => by have := Option.some.inj e; omega)).cell 0
            clear hb
            by_cases cv : c.vw < p.vw
            · have i3 : (c.vw : Int) < (p.vw : Int) := by omega
              have HS2 : Hid (stepB (bestW low (ps ++ sl.take x) sl[x].sq) sl[x] = sl[x]) := by
                show _ = _
                rw [HCB.out]
                show (if c.vw < sl[x].vw then sl[x] else c) = _
                rw [if_pos (by rw [← HPE.out]; exact cv)]
              clear cv HCB
              go_wp2_with (at_mapUpdate; refine wpList_mapUpdate_F16 (R := fun w4 => ∃ F' k', MF w4 25 w.heap.size k' F' ∧ World.grownBy ((wr.alloc (.cells #[.int .u64 (p.sq : Nat), .int .u64 (p.vw : Nat), .slice p.b.ao p.b.n p.b.cap] 46)).alloc (.cells #[.int .u64 (c.sq : Nat), .int .u64 (c.vw : Nat), .slice c.b.ao c.b.n c.b.cap] 46)) w4 (some w.heap.size) ∧ F' (.int .u64 (p.sq : Nat)) = some (.agg #[.int .u64 (p.sq : Nat), .int .u64 (p.vw : Nat), .slice p.b.ao p.b.n p.b.cap]) ∧ (∀ y, y ≠ .int .u64 (p.sq : Nat) → F' y = F y) ∧ k' ≤ kk + 1) rfl rfl rfl rfl rfl (by
                  obtain ⟨w4, F', n', r1, r2, r3, r4, r5, r6, r7⟩ := (HM2.out).update kU16 Tryd.underlying52 (by have := HKK.out; unfold maxLen; omega) (key := .int .u64 (p.sq : Nat)) (val := .agg #[.int .u64 (p.sq : Nat), .int .u64 (p.vw : Nat), .slice p.b.ao p.b.n p.b.cap]) (keyU16 p.sq hps)
                  refine ⟨w4, r1, F', n', r2, r3, r4, r5, ?_⟩
                  by_cases hn : F (.int .u64 (p.sq : Nat)) = none
                  · have := r6 hn; omega
                  · have := r7 hn; omega) ?_; rintro w4 ⟨F', k', M4, G4, f1, f2, f3⟩; have c0 := HC2.out w4 G4; go_frame)
              have RL : ∀ i : Value, i = .int .i64 ((x + 1 : Nat) : Int) → BX w low ps sl (.int .u64 (max (t : Int) (p.sq : Int))) i w4 := fun i hi => BX.put hxl hi (by rw [← HPE.out]; exact HW.out) HS2.out (by rw [HT.out, HPE.out]) M4 HKK.out f3 HFK.out (by rw [← HPE.out]; exact f1) (by rw [← HPE.out]; exact f2) (HB2.out.grown G4 HB2.out.size (fun z hz => by cases hz; exact Nat.le_refl _))
              all_goals (try go_big_round)
              all_goals refine ⟨?_, ?_⟩
              all_goals first
                | exact RL _ (by go_num)
                | (simp [intOf]; omega)
            · have i3 : ¬ (c.vw : Int) < (p.vw : Int) := by omega
              have HCV : Hid (¬ c.vw < p.vw) := cv
              clear cv
              go_wp2
              have RL : ∀ i : Value, i = .int .i64 ((x + 1 : Nat) : Int) → BX w low ps sl (.int .u64 (max (t : Int) (p.sq : Int))) i ((wr.alloc (.cells #[.int .u64 (p.sq : Nat), .int .u64 (p.vw : Nat), .slice p.b.ao p.b.n p.b.cap] 46)).alloc (.cells #[.int .u64 (c.sq : Nat), .int .u64 (c.vw : Nat), .slice c.b.ao c.b.n c.b.cap] 46)) := fun i hi => BX.stay hxl hi (by rw [← HPE.out]; exact HW.out) HCB.out (by rw [← HPE.out]; exact HCV.out) (by rw [HT.out, HPE.out]) HM2.out HKK.out HFK.out HB2.out
              all_goals (try go_big_round)
              all_goals refine ⟨?_, ?_⟩
              all_goals first
                | exact RL _ (by go_num)
                | (simp [intOf]; omega)
        · have hxi : ¬ (x : Int) < (sn : Int) := by omega
          go_wp2
          have RL : ∀ i : Value, i = .int .i64 ((k + 1 : Nat) : Int) → BO w low l (.int .u64 (topP low (ps ++ sl.take x) : Nat)) i wr := fun i hi => by
            have e1 : l[k].s.l = sl := by rw [HO.out]
            exact BX.done hkx (x := x) (F := F) (kk := kk) (by rw [e1]; omega) hi (by rw [e1, ← HPS.out]) M (by rw [e1, ← HPS.out]; exact hkk) (by rw [e1, ← HPS.out]; exact FK) B
          all_goals (try go_big_round)
          all_goals refine ⟨?_, ?_⟩
          all_goals first
            | exact RL _ (by go_num)
            | (simp [intOf]; omega)
    · have hki : ¬ (k : Int) < (n : Int) := by omega
      have hkl : k = l.length := by omega
      subst hkl
      go_wp2
      go_ret2
      exact ⟨F, kk, by rw [hl] <;> rfl, M, FK, B⟩
end Go.Proofs.YtdcebokfnbgkaaaDoor
namespace Go
section
variable {P : Program} {ops : Array Oper} {S : World → Prop} {Q : Exit → Act → World → Prop} {fuel : Nat} {listed : Array Bool} {a : Act} {w : World}
theorem hr_take_w (i : Nat) (d : Option Tmp) (v : Value) {oi : Oper} (hi : ops[i]? = some oi) (hd : oi.dst = d) (hs : Region.noSelect ops = true) (hf : Region.free .any ops listed i = true) (hr : (Region.ready .any ops listed).contains i = true)
    (hw : Region.wanted oi (yielded ops a.tmps) = true) (hrun : ∀ W, S W → (execOp a.eval oi).run P W = .ok (.value v) W) (hS : S w) (h : wpAnyH P .any ops (NoPanic Q) S fuel (listed.setIfInBounds i true) (a.put d v) w) : wpAnyH P .any ops (NoPanic Q) S (fuel + 1) listed a w :=
  wpAnyH_take hi hs hf hr (fun _ _ _ h => h) (.inl ⟨hw, hrun⟩) hS (by rw [hd]; exact h)
theorem hr_skip (i : Nat) (d : Option Tmp) {oi : Oper} {w' : World} (hi : ops[i]? = some oi) (hd : oi.dst = d) (hr : Region.ready .any ops listed = [i]) (hg : oi.guard = none) (hrun : (execOp a.eval oi).run P w = .ok .skip w') (hS : S w')
    (h : wpAnyH P .any ops (NoPanic Q) S fuel (listed.setIfInBounds i true) (a.put d undef) w') : wpAnyH P .any ops (NoPanic Q) S (fuel + 1) listed a w := by
  refine wpAnyH_all hr (by simp) fun j hj => ?_
  obtain rfl := List.mem_singleton.1 hj
  have hw : Region.wanted oi (yielded ops a.tmps) = true := by simp [Region.wanted, hg]
  unfold wpOp
  simp only [hi, hw, if_true, Oper.wp, hrun, Oper.upon, hd]
  exact .inl ⟨hS, h⟩
theorem hr_call_w (i : Nat) (d : Option Tmp) {oi : Oper} (f : FuncId) (args : Array Value) (hi : ops[i]? = some oi) (hd : oi.dst = d) (hr : Region.ready .any ops listed = [i]) (hw : Region.wanted oi (yielded ops a.tmps) = true) (hrun : (execOp a.eval oi).run P w = .ok (.enter f args) w)
    (R : Value → World → Prop) (hc : Calls P f args w fun e w' => ∃ v, e = .returned v ∧ R v w')
    (h : ∀ v w', R v w' → S w' ∧ wpAnyH P .any ops (NoPanic Q) S fuel (listed.setIfInBounds i true) (a.put d v) w') : wpAnyH P .any ops (NoPanic Q) S (fuel + 1) listed a w := by
  refine wpAnyH_all hr (by simp) fun j hj => ?_
  obtain rfl := List.mem_singleton.1 hj
  unfold wpOp
  simp only [hi, hw, if_true, Oper.wp, hrun, Oper.upon, hd]
  refine .inl (hc.mono ?_)
  rintro e w' ⟨v, rfl, hR⟩
  exact h v w' hR
end
end Go
namespace Go.Proofs.YtdcebokfnbgkaaaDoor
open Go.RowKit
theorem sblk_new {w : World} {ro : Option Addr} {n base : Nat} (h : ∀ a, ro = some a → base ≤ a.block ∧ a.block < w.heap.size ∧ a.off = 0 ∧ a.spot = none) : ∀ z, sblk ro n z → base ≤ z := by
  rintro z ⟨a, ha, _, rfl⟩
  exact (h a ha).1
set_option maxHeartbeats 400000 in
set_option maxRecDepth 100000 in
theorem bclone16 (w : World) (ao : Option Addr) (n cap : Nat) (xs : List Int) (h : Sl w ao n cap xs) (hn : n ≤ 1000000) :
    Calls Tryd.prog 29 #[.slice ao n cap] w fun e w' => ∃ ro rc, e = .returned (.slice ro n rc) ∧ Sl w' ro n rc xs ∧ Below w.heap.size w w' ∧ ∀ z, sblk ro n z → w.heap.size ≤ z := by
  cases ao with
  | none =>
    obtain ⟨rfl, rfl⟩ := h.nil rfl
    obtain rfl : xs = [] := List.eq_nil_of_length_eq_zero h.len
    have hq : ∀ W, _ := fun W => Lib.run_eql_slice_nil (P := Tryd.prog) W 38 5 none 0 0 0 0 Tryd.underlying38
    go_enter Tryd.func29, Tryd.ntmps29
    go_wp2
    go_ret
    exact ⟨none, 0, rfl, Sl.nothing w, Below.refl _ _, fun z ⟨a, ha, _⟩ => by cases ha⟩
  | some a =>
    have B0 : Below w.heap.size w (w.alloc (.cells #[] 5)) := (Below.refl _ w).alloc (Nat.le_refl _) _
    have h0 := h.below B0
    have o0 : (w.alloc (.cells #[] 5)).ownsRow w.heap.size 5 1 (.slice (some ⟨w.heap.size, 0, none⟩) 0 0) 0 (bv []) := World.ownsRow_made w #[] 0 (Nat.le_refl _) (Nat.zero_le _) rfl
    have hb := h.byte
    have hq : ∀ W, _ := fun W => Lib.run_eql_slice_nil (P := Tryd.prog) W 38 5 (some a) n cap 0 0 Tryd.underlying38
    go_enter Tryd.func29, Tryd.ntmps29
    go_wp2_with (at_builtin; refine wpList_app rfl _ _ rfl w.heap.size _ _ _ rfl o0 _ _ _ _ rfl h0 (by omega) (by simp) ?_; intro v1 w1 own1 B1)
    simp only [Nat.zero_add, List.nil_append] at own1
    obtain ⟨ro, rc, rfl, S, hbb⟩ := Sl.own own1 hb
    go_wp2
    go_ret
    exact ⟨ro, rc, rfl, S, B0.trans B1, sblk_new hbb⟩
open Go.RowKit
def rotr (n : Nat) (x : Int) : Int := bits .or .u32 (IntKind.u32.wrap (x * 2 ^ (32 - n))) (x / 2 ^ n)
set_option maxRecDepth 100000 in
set_option maxHeartbeats 1000000 in
theorem rot_2 (x : Int) (w : World) :
    Calls Tryd.prog 68 #[.int .u32 x, .int .i64 (-2)] w fun e w' => e = .returned (.int .u32 (rotr 2 x)) ∧ w' = w := by
  have hb : bits .and .u64 (IntKind.u64.wrap (-2)) 31 = 30 := by decide
  go_enter Tryd.func68, Tryd.ntmps68
  go_wp2
  go_ret
  exact ⟨rfl, rfl⟩
set_option maxRecDepth 100000 in
set_option maxHeartbeats 1000000 in
theorem rot_6 (x : Int) (w : World) :
    Calls Tryd.prog 68 #[.int .u32 x, .int .i64 (-6)] w fun e w' => e = .returned (.int .u32 (rotr 6 x)) ∧ w' = w := by
  have hb : bits .and .u64 (IntKind.u64.wrap (-6)) 31 = 26 := by decide
  go_enter Tryd.func68, Tryd.ntmps68
  go_wp2
  go_ret
  exact ⟨rfl, rfl⟩
set_option maxRecDepth 100000 in
set_option maxHeartbeats 1000000 in
theorem rot_7 (x : Int) (w : World) :
    Calls Tryd.prog 68 #[.int .u32 x, .int .i64 (-7)] w fun e w' => e = .returned (.int .u32 (rotr 7 x)) ∧ w' = w := by
  have hb : bits .and .u64 (IntKind.u64.wrap (-7)) 31 = 25 := by decide
  go_enter Tryd.func68, Tryd.ntmps68
  go_wp2
  go_ret
  exact ⟨rfl, rfl⟩
set_option maxRecDepth 100000 in
set_option maxHeartbeats 1000000 in
theorem rot_11 (x : Int) (w : World) :
    Calls Tryd.prog 68 #[.int .u32 x, .int .i64 (-11)] w fun e w' => e = .returned (.int .u32 (rotr 11 x)) ∧ w' = w := by
  have hb : bits .and .u64 (IntKind.u64.wrap (-11)) 31 = 21 := by decide
  go_enter Tryd.func68, Tryd.ntmps68
  go_wp2
  go_ret
  exact ⟨rfl, rfl⟩
set_option maxRecDepth 100000 in
set_option maxHeartbeats 1000000 in
theorem rot_13 (x : Int) (w : World) :
    Calls Tryd.prog 68 #[.int .u32 x, .int .i64 (-13)] w fun e w' => e = .returned (.int .u32 (rotr 13 x)) ∧ w' = w := by
  have hb : bits .and .u64 (IntKind.u64.wrap (-13)) 31 = 19 := by decide
  go_enter Tryd.func68, Tryd.ntmps68
  go_wp2
  go_ret
  exact ⟨rfl, rfl⟩
set_option maxRecDepth 100000 in
set_option maxHeartbeats 1000000 in
theorem rot_17 (x : Int) (w : World) :
    Calls Tryd.prog 68 #[.int .u32 x, .int .i64 (-17)] w fun e w' => e = .returned (.int .u32 (rotr 17 x)) ∧ w' = w := by
  have hb : bits .and .u64 (IntKind.u64.wrap (-17)) 31 = 15 := by decide
  go_enter Tryd.func68, Tryd.ntmps68
  go_wp2
  go_ret
  exact ⟨rfl, rfl⟩
set_option maxRecDepth 100000 in
set_option maxHeartbeats 1000000 in
theorem rot_18 (x : Int) (w : World) :
    Calls Tryd.prog 68 #[.int .u32 x, .int .i64 (-18)] w fun e w' => e = .returned (.int .u32 (rotr 18 x)) ∧ w' = w := by
  have hb : bits .and .u64 (IntKind.u64.wrap (-18)) 31 = 14 := by decide
  go_enter Tryd.func68, Tryd.ntmps68
  go_wp2
  go_ret
  exact ⟨rfl, rfl⟩
set_option maxRecDepth 100000 in
set_option maxHeartbeats 1000000 in
theorem rot_19 (x : Int) (w : World) :
    Calls Tryd.prog 68 #[.int .u32 x, .int .i64 (-19)] w fun e w' => e = .returned (.int .u32 (rotr 19 x)) ∧ w' = w := by
  have hb : bits .and .u64 (IntKind.u64.wrap (-19)) 31 = 13 := by decide
  go_enter Tryd.func68, Tryd.ntmps68
  go_wp2
  go_ret
  exact ⟨rfl, rfl⟩
set_option maxRecDepth 100000 in
set_option maxHeartbeats 1000000 in
theorem rot_22 (x : Int) (w : World) :
    Calls Tryd.prog 68 #[.int .u32 x, .int .i64 (-22)] w fun e w' => e = .returned (.int .u32 (rotr 22 x)) ∧ w' = w := by
  have hb : bits .and .u64 (IntKind.u64.wrap (-22)) 31 = 10 := by decide
  go_enter Tryd.func68, Tryd.ntmps68
  go_wp2
  go_ret
  exact ⟨rfl, rfl⟩
set_option maxRecDepth 100000 in
set_option maxHeartbeats 1000000 in
theorem rot_25 (x : Int) (w : World) :
    Calls Tryd.prog 68 #[.int .u32 x, .int .i64 (-25)] w fun e w' => e = .returned (.int .u32 (rotr 25 x)) ∧ w' = w := by
  have hb : bits .and .u64 (IntKind.u64.wrap (-25)) 31 = 7 := by decide
  go_enter Tryd.func68, Tryd.ntmps68
  go_wp2
  go_ret
  exact ⟨rfl, rfl⟩
def rl (k : Int) (x : Int) : Int := rotr (-k).toNat x
theorem rot_at (x k : Int) (w : World) (hk : k = -2 ∨ k = -6 ∨ k = -7 ∨ k = -11 ∨ k = -13 ∨ k = -17 ∨ k = -18 ∨ k = -19 ∨ k = -22 ∨ k = -25) :
    Calls Tryd.prog 68 #[.int .u32 x, .int .i64 k] w fun e w' => e = .returned (.int .u32 (rl k x)) ∧ w' = w := by
  rcases hk with rfl | rfl | rfl | rfl | rfl | rfl | rfl | rfl | rfl | rfl
  · exact rot_2 x w
  · exact rot_6 x w
  · exact rot_7 x w
  · exact rot_11 x w
  · exact rot_13 x w
  · exact rot_17 x w
  · exact rot_18 x w
  · exact rot_19 x w
  · exact rot_22 x w
  · exact rot_25 x w
open Go.RowKit
def wv (xs : List Int) : List Value := xs.map (Value.int .u32)
theorem wv_length (xs : List Int) : (wv xs).length = xs.length := by simp [wv]
theorem wv_one (xs : List Int) : ∀ u ∈ wv xs, u.oneCell' = true := ints_oneCell .u32 xs
theorem wv_get (xs : List Int) (j : Nat) (h : j < xs.length) : (wv xs)[j]? = some (.int .u32 (xs.getD j 0)) := by
  simp [wv, h]
theorem wv_set (xs : List Int) (j : Nat) (x : Int) : (wv xs).set j (.int .u32 x) = wv (xs.set j x) := by
  simp [wv, List.map_set]
def H0 : List Int := [1779033703, 3144134277, 1013904242, 2773480762, 1359893119, 2600822924, 528734635, 1541459225]
def K0 : List Int := [1116352408, 1899447441, 3049323471, 3921009573, 961987163, 1508970993, 2453635748, 2870763221, 3624381080, 310598401, 607225278, 1426881987, 1925078388, 2162078206, 2614888103, 3248222580, 3835390401, 4022224774, 264347078, 604807628, 770255983, 1249150122, 1555081692, 1996064986, 2554220882, 2821834349, 2952996808, 3210313671, 3336571891, 3584528711, 113926993, 338241895, 666307205, 773529912, 1294757372, 1396182291, 1695183700, 1986661051, 2177026350, 2456956037, 2730485921, 2820302411, 3259730800, 3345764771, 3516065817, 3600352804, 4094571909, 275423344, 430227734, 506948616, 659060556, 883997877, 958139571, 1322822218, 1537002063, 1747873779, 1955562222, 2024104815, 2227730452, 2361852424, 2428436474, 2756734187, 3204031479, 3329325298]
structure Tabs (w : World) : Prop where
  first : ∀ j v, (wv H0)[j]? = some v → w.cell? ⟨1, j, none⟩ = some v
  cubes : ∀ j v, (wv K0)[j]? = some v → w.cell? ⟨0, j, none⟩ = some v
  two : 2 ≤ w.heap.size
theorem Tabs.below {w w' : World} {n : Nat} (h : Tabs w) (hb : Below n w w') (hn : 2 ≤ n) : Tabs w' :=
  ⟨fun j v hv => (hb.cell (p := ⟨1, j, none⟩) (by show 1 < n; omega)).trans (h.first j v hv), fun j v hv => (hb.cell (p := ⟨0, j, none⟩) (by show 0 < n; omega)).trans (h.cubes j v hv), by have := hb.size; have := h.two; omega⟩
def hv (A B : List Int) (n : Nat) : List Value := wv A ++ bv B ++ [.int .u64 n]
structure HB (w : World) (p : Nat) (A B : List Int) (n : Nat) : Prop where
  heap : w.heap[p]? = some (.cells (hv A B n).toArray 89)
  lenA : A.length = 8
  lenB : B.length = 64
  byte : Byt B
  size : n < 18446744073709551616
theorem HB.lt {w : World} {p : Nat} {A B : List Int} {n : Nat} (h : HB w p A B n) : p < w.heap.size := (Array.getElem?_eq_some_iff.1 h.heap).1
theorem HB.below {w w' : World} {p m : Nat} {A B : List Int} {n : Nat} (h : HB w p A B n) (hb : Below m w w') (hp : p < m) : HB w' p A B n :=
  ⟨(hb.block p hp).trans h.heap, h.lenA, h.lenB, h.byte, h.size⟩
theorem HB.word {w : World} {p : Nat} {A B : List Int} {n : Nat} (h : HB w p A B n) (j : Nat) (hj : j < 8) : w.cell? ⟨p, j, none⟩ = some (.int .u32 (A.getD j 0)) := by
  rw [cell_of_row w p j _ _ _ h.heap]
  have := h.lenA
  simp [hv, wv, List.getElem?_append, this, hj]
theorem HB.wordv {w : World} {p : Nat} {A B : List Int} {n : Nat} (h : HB w p A B n) (j : Nat) (v : Value) (hv' : (wv A)[j]? = some v) : w.cell? ⟨p, j, none⟩ = some v := by
  have h1 := (List.getElem?_eq_some_iff.1 hv').1
  rw [wv_length] at h1
  rw [wv_get A j h1] at hv'
  rw [h.word j (by have := h.lenA; omega)]
  exact hv'
theorem HB.byteAt {w : World} {p : Nat} {A B : List Int} {n : Nat} (h : HB w p A B n) (j : Nat) (hj : j < 64) : w.cell? ⟨p, 8 + j, none⟩ = some (.int .u8 (B.getD j 0)) := by
  rw [cell_of_row w p _ _ _ _ h.heap]
  have := h.lenA
  have := h.lenB
  have h2 : ¬ 8 + j < 8 := by omega
  simp [hv, wv, bv, List.getElem?_append, *]
theorem HB.count {w : World} {p : Nat} {A B : List Int} {n : Nat} (h : HB w p A B n) : w.cell? ⟨p, 72, none⟩ = some (.int .u64 n) := by
  rw [cell_of_row w p _ _ _ _ h.heap]
  have := h.lenA
  have := h.lenB
  simp [hv, wv, bv, *]
theorem HB.drewN {w : World} {p : Nat} {A B : List Int} {n : Nat} (h : HB w p A B n) (q : Nat) : HB (w.drewN q) p A B n := ⟨h.heap, h.lenA, h.lenB, h.byte, h.size⟩
theorem hv_setA (A B : List Int) (n : Nat) (j : Nat) (x : Int) (h : j < A.length) : (hv A B n).set j (.int .u32 x) = hv (A.set j x) B n := by
  have h1 : j < (wv A ++ bv B).length := by simp [wv]; omega
  have h2 : j < (wv A).length := by simp [wv]; omega
  unfold hv
  rw [List.set_append_left _ _ h1, List.set_append_left _ _ h2, wv_set]
theorem HB.setA {w : World} {p : Nat} {A B : List Int} {n : Nat} (h : HB w p A B n) (j : Nat) (x : Int) (hj : j < 8) : HB (w.setCell ⟨p, j, none⟩ (.int .u32 x)) p (A.set j x) B n := by
  refine ⟨?_, by simp [h.lenA], h.lenB, h.byte, h.size⟩
  have := Arr.set (show Arr w p _ (hv A B n) from h.heap) j (.int .u32 x)
  rw [hv_setA _ _ _ _ _ (by rw [h.lenA]; exact hj)] at this
  exact this
theorem HB.free {w : World} {p : Nat} {A B : List Int} {n : Nat} (h : HB w p A B n) (j : Nat) : w.frozen? ⟨p, j, none⟩ = false := frozen_of_row w p j _ _ h.heap
open Go.RowKit
def ad (x y : Int) : Int := IntKind.u32.wrap (x + y)
def part (X A : List Int) (i : Nat) : List Int := (List.range 8).map fun j => if j < i then ad (X.getD j 0) (A.getD j 0) else X.getD j 0
theorem g48 (w : World) : (isAgg 86).run Tryd.prog w = .ok true w := by
  simp [isAgg, run_underlying Tryd.underlying86 w]
theorem a48 : (Tryd.prog.info? 86).map (·.size) = some 8 := by kernel_rfl
theorem z48 : (Tryd.prog.info? 86).map (fun i => (i.zero, i.size)) = some (some (.agg (List.replicate 8 (Value.int .u32 0)).toArray), 8) := by kernel_rfl
theorem s42 : (Tryd.prog.info? 85).map (·.size) = some 1 := by kernel_rfl
theorem index48 (A : List Int) (k : Nat) (hA : A.length = 8) (hk : k < 8) (w : World) : (Instr.index 86 (.agg (wv A).toArray) (.int .i64 k)).run Tryd.prog w = .ok (.int .u32 (A.getD k 0)) w := by
  have h1 : k < A.length := by omega
  cases hq : Tryd.prog.info? 85 with
  | none => have := s42; rw [hq] at this; simp at this
  | some i =>
    have hs : i.size = 1 := by have := s42; rw [hq] at this; simpa using this
    simp [Instr.index, asIntOf, run_underlying Tryd.underlying86 w, sizeOf, typeInfo, hq, hs, Go.part, isAgg, wv, h1]
    omega
theorem part_len (X A : List Int) (i : Nat) : (part X A i).length = 8 := by simp [part]
theorem part_get (X A : List Int) (i j : Nat) (hj : j < 8) : (part X A i).getD j 0 = if j < i then ad (X.getD j 0) (A.getD j 0) else X.getD j 0 := by simp [part, List.getD, hj]
theorem part_zero (X A : List Int) (h : X.length = 8) : part X A 0 = X := by
  refine List.ext_getElem? fun j => ?_
  by_cases hj : j < 8
  · simp [part, hj, List.getD, h]
  · simp [part, hj, h]
theorem part_succ (X A : List Int) (i : Nat) : (part X A i).set i (ad (X.getD i 0) (A.getD i 0)) = part X A (i + 1) := by
  refine List.ext_getElem? fun j => ?_
  by_cases hj : j < 8
  · by_cases hij : i = j
    · subst hij
      simp [part, hj]
    · have h1 : (j < i + 1) = (j < i) := by simp; omega
      simp [part, hj, hij, h1]
  · simp [part, hj]
set_option maxRecDepth 100000 in
set_option maxHeartbeats 1000000 in
theorem words_any (w : World) (p : Nat) (A B : List Int) (n : Nat) (hT : Tabs w) (h : HB w p A B n) :
    Calls Tryd.prog 55 #[.pointer (some ⟨p, 0, none⟩)] w fun e w' => e = .returned (.agg (wv (part H0 A 8)).toArray) ∧ Below w.heap.size w w' := by
  have h2 := hT.two
  have hp := h.lt
  go_enter Tryd.func55, Tryd.ntmps55
  go_wp2_with (first
    | (refine wpList_alloc_named rfl 2 rfl 86 rfl w.heap.size rfl _ 8 z48 ?_; intro w1 a1 s1 g1; have B1 : Below w.heap.size w w1 := (Below.refl _ w).grown g1 (Nat.le_refl _) (by simp); have T1 := hT.below B1 h2; clear g1)
    | (refine wpList_load_cells rfl 86 (Operand.global 1) rfl ⟨1, 0, none⟩ rfl (wv H0) (fun j v hv => by rw [add_at, Nat.zero_add]; exact T1.first j v hv) g48 a48 ?_)
    | (refine wpList_alloc_named rfl 3 rfl 86 rfl (w.heap.size + 1) s1 _ 8 z48 ?_; intro w2 a2 s2 g2; have B2 : Below w.heap.size w w2 := B1.grown g2 (by omega) (by simp); have A2 : Arr w2 w.heap.size 86 _ := Arr.grown a1 g2 (by simp); clear g2 B1 a1 s1 T1)
    | (refine wpList_store_named rfl 86 (Operand.tmp 3) _ rfl (w.heap.size + 1) (wv H0) rfl rfl 86 _ a2 _ s2 a48 rfl (wv_one _) ?_; intro w3 a3 s3 g3; have B3 : Below w.heap.size w w3 := B2.grown g3 (by omega) (by intro k hk; cases hk; omega); have A3 : Arr w3 w.heap.size 86 _ := Arr.grown A2 g3 (by simp); have h3 := h.below B3 hp; clear g3 B2 A2 a2 s2)
    | (refine wpList_load_cells rfl 86 (Operand.tmp 9) rfl ⟨p, 0, none⟩ rfl (wv A) (fun j v hv => by rw [add_at, Nat.zero_add]; exact h3.wordv j v hv) g48 (a48.trans (by rw [wv_length, h3.lenA])) ?_))
  go_loopw [11] (fun i wr => ∃ k : Nat, k ≤ 8 ∧ i = .int .i64 k ∧ Below w.heap.size w wr ∧ Arr wr w.heap.size 86 (List.replicate 8 (Value.int .u32 0)) ∧ Arr wr (w.heap.size + 1) 86 (wv (part H0 A k)) ∧ wr.heap.size = w.heap.size + 1 + 1) (fun i _ => 8 - (intOf i).toNat)
  case atStart => exact ⟨0, by omega, rfl, B3, A3, by rw [part_zero _ _ rfl]; exact a3, s3⟩
  case round =>
    obtain ⟨k, hk, rfl, B4, A4, a4, s4⟩ := hrel
    by_cases hlt : k < 8
    · have c1 := a4.cell k
      rw [wv_get _ k (by rw [part_len]; exact hlt), part_get _ _ _ _ hlt] at c1
      simp only [Nat.lt_irrefl, if_false] at c1
      have c2 := a4.free k
      have hi : (k : Int) < 8 := by omega
      have hx := index48 A k h.lenA hlt
      go_wp2
      go_roundw
      case rel =>
        refine ⟨k + 1, by omega, by go_num, B4.setCell (by show w.heap.size ≤ w.heap.size + 1; omega) _, A4.other _ _ (by show w.heap.size ≠ w.heap.size + 1; omega), ?_, by simpa using s4⟩
        have := a4.set k (.int .u32 (ad (H0.getD k 0) (A.getD k 0)))
        rw [wv_set, part_succ] at this
        exact this
      case measure => simp [intOf]; omega
    · obtain rfl : k = 8 := by omega
      go_wp2_with (first
        | (refine wpList_load_cells rfl 86 (Operand.tmp 3) rfl ⟨w.heap.size + 1, 0, none⟩ rfl (wv (part H0 A 8)) (fun j v hv => by rw [add_at, Nat.zero_add, a4.cell]; exact hv) g48 (a48.trans (by rw [wv_length, part_len])) ?_)
        | (refine wpList_store_named rfl 86 (Operand.tmp 2) _ rfl w.heap.size (wv (part H0 A 8)) rfl rfl 86 _ A4 _ s4 (a48.trans (by rw [wv_length, part_len])) (by rw [wv_length, part_len]; rfl) (wv_one _) ?_; intro w5 a5 s5 g5; have B5 : Below w.heap.size w w5 := B4.grown g5 (by omega) (by intro k hk; cases hk; omega); clear g5))
      refine bodyPost_ret (v := .agg (wv (part H0 A 8)).toArray) ?_ rfl ⟨rfl, B5⟩
      exact results_cells rfl _ w5 ⟨w.heap.size, 0, none⟩ rfl (wv (part H0 A 8)) (fun j v hv => by rw [add_at, Nat.zero_add, Arr.cell a5]; exact hv) (g48 w5) (a48.trans (by rw [wv_length, part_len]))
open Go.RowKit
def sh (x b : Int) : Int := bits .or .u32 (IntKind.u32.wrap (x * 256)) b
def be (B : List Int) (t : Nat) : Nat → Int
  | 0 => 0
  | j + 1 => sh (be B t j) (B.getD (4 * t + j) 0)
def xr (x y : Int) : Int := bits .xor .u32 x y
def s0 (x : Int) : Int := xr (xr (rl (-7) x) (rl (-18) x)) (x / 8)
def s1 (x : Int) : Int := xr (xr (rl (-17) x) (rl (-19) x)) (x / 1024)
def nxt (l : List Int) (t : Nat) : Int := ad (ad (ad (l.getD (t - 16) 0) (s0 (l.getD (t - 15) 0))) (l.getD (t - 7) 0)) (s1 (l.getD (t - 2) 0))
def W (B : List Int) : Nat → List Int
  | 0 => []
  | t + 1 => W B t ++ [if t < 16 then be B t 4 else nxt (W B t) t]
theorem W_len (B : List Int) (n : Nat) : (W B n).length = n := by induction n with
  | zero => rfl
  | succ n ih => simp [W, ih]
def arrW (B : List Int) (t : Nat) (x : Int) : List Int := W B t ++ x :: List.replicate (63 - t) 0
theorem arrW_len (B : List Int) (t : Nat) (x : Int) (h : t ≤ 63) : (arrW B t x).length = 64 := by simp [arrW, W_len]; omega
theorem arrW_at (B : List Int) (t : Nat) (x : Int) : (arrW B t x).getD t 0 = x := by simp [arrW, List.getD, W_len]
theorem arrW_set (B : List Int) (t : Nat) (x y : Int) : (arrW B t x).set t y = arrW B t y := by simp [arrW, W_len]
def fillW (B : List Int) (t : Nat) : List Int := W B t ++ List.replicate (64 - t) 0
theorem fillW_len (B : List Int) (t : Nat) (h : t ≤ 64) : (fillW B t).length = 64 := by simp [fillW, W_len]; omega
theorem fillW_arr (B : List Int) (t : Nat) (h : t < 64) : fillW B t = arrW B t 0 := by
  have e : 64 - t = (63 - t) + 1 := by omega
  simp only [arrW, fillW, e, List.replicate_succ]
theorem arrW_next (B : List Int) (t : Nat) (h : t < 64) : arrW B t (if t < 16 then be B t 4 else nxt (W B t) t) = fillW B (t + 1) := by
  have e : 63 - t = 64 - (t + 1) := by omega
  simp only [arrW, fillW, W, e, List.append_assoc, List.singleton_append]
theorem fillW_low (B : List Int) (t j : Nat) (h : j < t) : (fillW B t).getD j 0 = (W B t).getD j 0 := by simp [fillW, List.getD, W_len, List.getElem?_append, h]
theorem fillW_all (B : List Int) : fillW B 64 = W B 64 := by simp [fillW]
theorem g55 (w : World) : (isAgg 101).run Tryd.prog w = .ok true w := by
  simp [isAgg, run_underlying Tryd.underlying101 w]
theorem a55 : (Tryd.prog.info? 101).map (·.size) = some 64 := by kernel_rfl
theorem z55 : (Tryd.prog.info? 101).map (fun i => (i.zero, i.size)) = some (some (.agg (List.replicate 64 (Value.int .u32 0)).toArray), 64) := by kernel_rfl
theorem u49 : Tryd.prog.underlying 87 = some (.array (Tryd.prog.arrayLen 87) (Tryd.prog.elem 87)) := by kernel_rfl
theorem al49 : Tryd.prog.arrayLen 87 = 64 := by kernel_rfl
theorem el49 : Tryd.prog.elem 87 = 5 := by kernel_rfl
theorem size8 (w : World) : (sizeOf 5).run Tryd.prog w = .ok 1 w := by
  obtain ⟨i0, hi, hz0, hz1, hz2⟩ := info_parts u8info
  simp [sizeOf, typeInfo, hi, hz1]
theorem slice49 (kl : IntKind) (p o l h : Nat) (hl : l ≤ h) (hh : h ≤ 64) (h64 : l < 64) (L H : Int) (eL : L = l) (eH : H = h) (w : World) : (Instr.sliceAt 87 (.pointer (some ⟨p, o, none⟩)) (some (.int kl L)) (some (.int kl H)) none).run Tryd.prog w = .ok (.slice (some ⟨p, o + l, none⟩) (h - l) (64 - l)) w := by
  subst eL eH
  rw [run_sliceAt_array_lh w 87 ⟨p, o, none⟩ u49 kl kl l h (by omega) (by omega) (by rw [al49]; omega), el49, al49, size8]
  have e : ¬ 64 = l := by omega
  simp [slicedAt, add_at, e]
theorem slice49l (kl : IntKind) (p o l : Nat) (h64 : l < 64) (L : Int) (eL : L = l) (w : World) : (Instr.sliceAt 87 (.pointer (some ⟨p, o, none⟩)) (some (.int kl L)) none none).run Tryd.prog w = .ok (.slice (some ⟨p, o + l, none⟩) (64 - l) (64 - l)) w := by
  subst eL
  rw [run_sliceAt_array_l w 87 ⟨p, o, none⟩ u49 kl l (by omega) (by rw [al49]; omega), el49, al49, size8]
  have e : ¬ 64 = l := by omega
  simp [slicedAt, add_at, e]
theorem bel_drewN {n : Nat} {a w : World} (h : Below n a w) (q : Nat) : Below n a (w.drewN q) := by
  have e0 : (w.drewN q).heap = w.heap := by simp
  exact ⟨by rw [← h.os]; rfl, by rw [← h.tape]; rfl, by rw [← h.output]; rfl, by rw [e0]; exact h.size, fun k hk => by rw [e0]; exact h.block k hk⟩
set_option maxRecDepth 100000 in
set_option maxHeartbeats 1000000 in
theorem sched_any (w : World) (p : Nat) (A B : List Int) (n : Nat) (hT : Tabs w) (h : HB w p A B n) :
    Calls Tryd.prog 67 #[.pointer (some ⟨p, 0, none⟩)] w fun e w' => e = .returned (.agg (wv (W B 64)).toArray) ∧ Below w.heap.size w w' := by
  have h2 := hT.two
  have hp := h.lt
  go_enter Tryd.func67, Tryd.ntmps67
  go_wp2_with (first
    | (refine wpList_alloc_named rfl 2 rfl 101 rfl w.heap.size rfl _ 64 z55 ?_; intro w1 a1 s1 g1; have B1 : Below w.heap.size w w1 := (Below.refl _ w).grown g1 (Nat.le_refl _) (by simp); clear g1)
    | (refine wpList_alloc_named rfl 3 rfl 101 rfl (w.heap.size + 1) s1 _ 64 z55 ?_; intro w2 a2 s2 g2; have B2 : Below w.heap.size w w2 := B1.grown g2 (by omega) (by simp); have A2 : Arr w2 w.heap.size 101 _ := Arr.grown a1 g2 (by simp); clear g2 B1 a1 s1))
  go_loopw [12] (fun i wr => ∃ k : Nat, k ≤ 16 ∧ i = .int .i64 k ∧ Below w.heap.size w wr ∧ Arr wr w.heap.size 101 (List.replicate 64 (Value.int .u32 0)) ∧ Arr wr (w.heap.size + 1) 101 (wv (fillW B k)) ∧ wr.heap.size = w.heap.size + 1 + 1) (fun i _ => 16 - (intOf i).toNat)
  case atStart => exact ⟨0, by omega, rfl, B2, A2, a2, s2⟩
  case round =>
    obtain ⟨k, hk, rfl, B4, A4, a4, s4⟩ := hrel
    have h4 := h.below B4 hp
    clear a2 A2 B2 s2
    by_cases hlt : k < 16
    · have hi : (k : Int) < 16 := by omega
      have hsl := slice49 .i64 p 8 (4 * k) (4 * (k + 1)) (by omega) (by omega) (by omega) (4 * (k : Int)) (4 * ((k : Int) + 1)) (by omega) (by omega)
      rw [show 4 * (k + 1) - 4 * k = 4 by omega] at hsl
      go_wp2
      go_loopw [25] (fun i wr => ∃ j : Nat, j ≤ 4 ∧ i = .int .i64 j ∧ Below w.heap.size w wr ∧ Arr wr w.heap.size 101 (List.replicate 64 (Value.int .u32 0)) ∧ Arr wr (w.heap.size + 1) 101 (wv (arrW B k (be B k j))) ∧ wr.heap.size = w.heap.size + 1 + 1) (fun i _ => 4 - (intOf i).toNat)
      case atStart => exact ⟨0, by omega, rfl, B4, A4, by rw [fillW_arr _ _ (by omega)] at a4; exact a4, s4⟩
      case round =>
        obtain ⟨j, hj, rfl, B5, A5, a5, s5⟩ := hrel
        have h5 := h.below B5 hp
        clear a4 A4 B4 s4 h4
        by_cases hjt : j < 4
        · have hji : (j : Int) < 4 := by omega
          have c1 := a5.cell k
          rw [wv_get _ k (by rw [arrW_len _ _ _ (by omega)]; omega), arrW_at] at c1
          have c2 := a5.free k
          have c3 := h5.byteAt (4 * k + j) (by omega)
          rw [← Nat.add_assoc] at c3
          go_wp2
          go_roundw
          case rel =>
            refine ⟨j + 1, by omega, by go_num, B5.setCell (by show w.heap.size ≤ w.heap.size + 1; omega) _, A5.other _ _ (by show w.heap.size ≠ w.heap.size + 1; omega), ?_, by simpa using s5⟩
            have hb := h.byte.at (4 * k + j)
            have e : B[4 * k + j]?.getD 0 % 4294967296 = B[4 * k + j]?.getD 0 := by omega
            have := a5.set k (.int .u32 (be B k (j + 1)))
            rw [wv_set, arrW_set] at this
            rw [e]
            exact this
          case measure => simp [intOf]; omega
        · obtain rfl : j = 4 := by omega
          go_wp2
          go_roundw
          case rel =>
            refine ⟨k + 1, by omega, by go_num, B5, A5, ?_, s5⟩
            have e := arrW_next B k (by omega)
            rw [if_pos hlt] at e
            rw [← e]
            exact a5
          case measure => simp [intOf]; omega
    · have hge : (16 : Int) ≤ (k : Int) := by omega
      go_wp2
      go_loopw [7] (fun i wr => ∃ k : Nat, 16 ≤ k ∧ k ≤ 64 ∧ i = .int .i64 k ∧ Below w.heap.size w wr ∧ Arr wr w.heap.size 101 (List.replicate 64 (Value.int .u32 0)) ∧ Arr wr (w.heap.size + 1) 101 (wv (fillW B k)) ∧ wr.heap.size = w.heap.size + 1 + 1) (fun i _ => 64 - (intOf i).toNat)
      case atStart =>
        obtain rfl : k = 16 := by omega
        exact ⟨16, by omega, by omega, rfl, B4, A4, a4, s4⟩
      case round =>
        clear a4 A4 B4 s4 h4 hge hlt hk
        obtain ⟨k, hk16, hk, rfl, B5, A5, a5, s5⟩ := hrel
        by_cases hkt : k < 64
        · have hki : (k : Int) < 64 := by omega
          have cs : ∀ j, j < k → wr.cell? ⟨w.heap.size + 1, j, none⟩ = some (.int .u32 ((W B k).getD j 0)) := by
            intro j hj
            rw [a5.cell, wv_get _ _ (by rw [fillW_len _ _ (by omega)]; omega), fillW_low _ _ _ hj]
          have c15 := cs (k - 15) (by omega)
          have c2 := cs (k - 2) (by omega)
          have c16 := cs (k - 16) (by omega)
          have c7 := cs (k - 7) (by omega)
          have c0 := a5.cell k
          rw [wv_get _ _ (by rw [fillW_len _ _ (by omega)]; omega)] at c0
          have cf := a5.free k
          obtain ⟨x15, hx15⟩ : ∃ x, x = (W B k).getD (k - 15) 0 := ⟨_, rfl⟩
          obtain ⟨x2, hx2⟩ : ∃ x, x = (W B k).getD (k - 2) 0 := ⟨_, rfl⟩
          obtain ⟨x16, hx16⟩ : ∃ x, x = (W B k).getD (k - 16) 0 := ⟨_, rfl⟩
          obtain ⟨x7, hx7⟩ : ∃ x, x = (W B k).getD (k - 7) 0 := ⟨_, rfl⟩
          have HX : Hid (nxt (W B k) k = ad (ad (ad x16 (s0 x15)) x7) (s1 x2)) := by rw [hx15, hx2, hx16, hx7]; rfl
          rw [← hx15] at c15
          rw [← hx2] at c2
          rw [← hx16] at c16
          rw [← hx7] at c7
          clear hx15 hx2 hx16 hx7 cs
          have e15 : ((k : Int) - 15).toNat = k - 15 := by omega
          have e2 : ((k : Int) - 2).toNat = k - 2 := by omega
          have e16 : ((k : Int) - 16).toNat = k - 16 := by omega
          have e7 : ((k : Int) - 7).toNat = k - 7 := by omega
          have f15 : 0 ≤ ((k : Int) - 15) := by omega
          have f2 : 0 ≤ ((k : Int) - 2) := by omega
          have f16 : 0 ≤ ((k : Int) - 16) := by omega
          have f7 : 0 ≤ ((k : Int) - 7) := by omega
          have g15 : ((k : Int) - 15) < 64 := by omega
          have g2 : ((k : Int) - 2) < 64 := by omega
          have g16 : ((k : Int) - 16) < 64 := by omega
          have g7 : ((k : Int) - 7) < 64 := by omega
          go_wp2
          go_quiet (fail)
          go_wp2_with (go_at_call 68; refine (rot_at _ _ _ (by simp)).mono ?_; rintro e w' ⟨rfl, rfl⟩)
          clear f15 f2 g15 g2 e15 e2 c15 c2
          go_region
          all_goals go_wp2
          go_roundw
          case rel =>
            have e0 : ∀ q, (wr.drewN q).heap = wr.heap := fun q => by simp
            have a6 : Arr (wr.drewN (nq + 1)) (w.heap.size + 1) 101 (wv (fillW B k)) := by unfold Arr; rw [e0]; exact a5
            have A6 : Arr (wr.drewN (nq + 1)) w.heap.size 101 (List.replicate 64 (Value.int .u32 0)) := by unfold Arr; rw [e0]; exact A5
            refine ⟨k + 1, by omega, by omega, by go_num, (bel_drewN B5 _).setCell (by show w.heap.size ≤ w.heap.size + 1; omega) _, A6.other _ _ (by show w.heap.size ≠ w.heap.size + 1; omega), ?_, by simpa using s5⟩
            have a7 := a6.set k (.int .u32 (nxt (W B k) k))
            have e := arrW_next B k hkt
            rw [if_neg (by omega)] at e
            rw [wv_set, fillW_arr _ _ hkt, arrW_set, e] at a7
            rw [HX.out] at a7
            have e3 : ad (ad (ad x16 (s0 x15)) x7) (s1 x2) = (x16 + bits BinOp.xor IntKind.u32 (bits BinOp.xor IntKind.u32 (rl (-7) x15) (rl (-18) x15)) (x15 / 8) + x7 + bits BinOp.xor IntKind.u32 (bits BinOp.xor IntKind.u32 (rl (-17) x2) (rl (-19) x2)) (x2 / 1024)) % 4294967296 := by
              simp only [ad, IntKind.wrap_u32', s0, s1, xr]
              omega
            rw [e3] at a7
            exact a7
          case measure => simp [intOf]; omega
        · obtain rfl : k = 64 := by omega
          rw [fillW_all] at a5
          go_wp2_with (first
            | (refine wpList_load_cells rfl 101 (Operand.tmp 3) rfl ⟨w.heap.size + 1, 0, none⟩ rfl (wv (W B 64)) (fun j v hv => by rw [add_at, Nat.zero_add, a5.cell]; exact hv) g55 (a55.trans (by rw [wv_length, W_len])) ?_)
            | (refine wpList_store_named rfl 101 (Operand.tmp 2) _ rfl w.heap.size (wv (W B 64)) rfl rfl 101 _ A5 _ s5 (a55.trans (by rw [wv_length, W_len])) (by rw [wv_length, W_len]; rfl) (wv_one _) ?_; intro w6 a6 s6 g6; have B6 : Below w.heap.size w w6 := B5.grown g6 (by omega) (by intro k hk; cases hk; omega); clear g6))
          refine bodyPost_ret (v := .agg (wv (W B 64)).toArray) ?_ rfl ⟨rfl, B6⟩
          exact results_cells rfl _ w6 ⟨w.heap.size, 0, none⟩ rfl (wv (W B 64)) (fun j v hv => by rw [add_at, Nat.zero_add, Arr.cell a6]; exact hv) (g55 w6) (a55.trans (by rw [wv_length, W_len]))
end Go.Proofs.YtdcebokfnbgkaaaDoor

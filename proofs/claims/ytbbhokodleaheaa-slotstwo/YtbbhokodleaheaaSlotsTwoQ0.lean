/-
  Texts in one: Base, BsD, OWt, FlatL, BsBlk, Own2, GRow, SvD, SgMem, GOpen, SlOps, QuMath, DCells, MapF, QuMem, Conv, CConv, HRegA, QuCount, QuCount2, AppG, CKA, CKind, QuProof, QuNum, QuAdd, QuNew, QuAddV, HRegX, SlMem, SlNew, SlSlot, SlMath.
-/
import Derived.Test.YtbbhokodleaheaaSlotsTwoQFL
import Derived.Test.YtbbhokodleaheaaProg
import Derived.WalkKit
import Derived.WalkSpells
import Derived.WalkMore
import Derived.ScopeJumps
import Derived.Laws.AppendOwnNone
import Derived.KernelRfl
import Derived.Deep.Slices
import Derived.ChangeSame
import Derived.ChangeSlices
import Derived.SizedLaws
import Derived.Deep.WholeRow
import Derived.Deep.Draws
import Derived.Maps.OwnSet
import Derived.WideKeyEntry
import Derived.StringKeys
import Derived.Deep.MidRow
import Derived.Lib.ConvBytes
import Derived.BigQuiet
import Derived.Laws.BytesArg
import Derived.Laws.IdiomStrings
import Derived.Deep.RegionHeld3
namespace Go.Proofs.Ytbbhokodleaheaa
open Go.RowKit
theorem u8info : (Try.prog.info? 5).map (fun i => (i.zero, i.size, i.bytes)) = some (some (.int .u8 0), 1, 1) := by kernel_rfl
def bv (xs : List Int) : List Value := xs.map (Value.int .u8)
theorem bv_length (xs : List Int) : (bv xs).length = xs.length := by simp [bv]
theorem bv_append (xs ys : List Int) : bv (xs ++ ys) = bv xs ++ bv ys := by simp [bv]
theorem bv_one (xs : List Int) : ∀ u ∈ bv xs, u.oneCell' = true := ints_oneCell .u8 xs
theorem bv_get (xs : List Int) (j : Nat) (h : j < xs.length) : (bv xs)[j]? = some (.int .u8 (xs.getD j 0)) := by
  simp [bv, h]
def Byt (xs : List Int) : Prop := ∀ x ∈ xs, 0 ≤ x ∧ x ≤ 255
structure Sl (w : World) (ao : Option Addr) (n cap : Nat) (xs : List Int) : Prop where
  len : xs.length = n
  le : n ≤ cap
  mx : cap ≤ maxLen
  nil : ao = none → n = 0 ∧ cap = 0
  cell : ∀ a, ao = some a → ∀ i, i < n → w.cell? (a.add i) = some (.int .u8 (xs.getD i 0))
  byte : Byt xs
theorem Sl.cells {w : World} {ao : Option Addr} {n cap : Nat} {xs : List Int} (h : Sl w ao n cap xs) : ∀ ad, ao = some ad → ∀ j u, (bv xs)[j]? = some u → w.cell? (ad.add j) = some u := by
  intro ad had j u hu
  have hj : j < xs.length := by
    have := (List.getElem?_eq_some_iff.1 hu).1
    simpa [bv] using this
  rw [bv_get xs j hj] at hu
  rw [h.cell ad had j (by rw [← h.len]; exact hj)]
  exact hu
theorem Sl.lt {w : World} {ao : Option Addr} {n cap : Nat} {xs : List Int} (h : Sl w ao n cap xs) : ∀ a, ao = some a → 0 < n → a.block < w.heap.size := by
  intro a ha hn
  have := World.block_lt_of_cell? w _ (h.cell a ha 0 hn)
  simpa [Addr.add] using this
theorem Sl.below {w w' : World} {ao : Option Addr} {n cap : Nat} {xs : List Int} (h : Sl w ao n cap xs) (hb : Below w.heap.size w w') : Sl w' ao n cap xs := by
  refine ⟨h.len, h.le, h.mx, h.nil, fun a ha i hi => ?_, h.byte⟩
  have hc := h.cell a ha i hi
  rw [← hc]
  exact hb.cell (World.block_lt_of_cell? w _ hc)
theorem Sl.nothing (w : World) : Sl w none 0 0 [] := ⟨rfl, Nat.le_refl _, Nat.zero_le _, fun _ => ⟨rfl, rfl⟩, fun _ h => by simp at h, fun _ h => by simp at h⟩
theorem Sl.new (w : World) (xs : List Int) (h : Byt xs) (hn : xs.length ≤ maxLen) : Sl (w.alloc (.cells (bv xs).toArray 5)) (some ⟨w.heap.size, 0, none⟩) xs.length xs.length xs := by
  refine ⟨rfl, Nat.le_refl _, hn, fun h => by simp at h, fun a ha i hi => ?_, h⟩
  obtain rfl := Option.some.inj ha
  rw [Addr.add_lit, Nat.zero_add, cell_of_row _ w.heap.size i (bv xs).toArray 5 (0, 0) (heap_alloc_new w _)]
  simpa using bv_get xs i hi
theorem Sl.own {w : World} {base : Nat} {v : Value} {n : Nat} {xs : List Int} (h : w.ownsRow base 5 1 v n (bv xs)) (hb : Byt xs) :
    ∃ ao cap, v = .slice ao n cap ∧ Sl w ao n cap xs ∧ ∀ a, ao = some a → base ≤ a.block ∧ a.block < w.heap.size ∧ a.off = 0 ∧ a.spot = none := by
  have hl : xs.length = n := by have := h.1; rw [bv_length] at this; omega
  rcases h.2 with ⟨rfl, rfl⟩ | ⟨g, cap, cur, rfl, hg, hh, hle, hmx, hcs, htk⟩
  · obtain rfl : xs = [] := List.eq_nil_of_length_eq_zero hl
    exact ⟨none, 0, rfl, Sl.nothing w, fun a ha => by simp at ha⟩
  · refine ⟨some ⟨g, 0, none⟩, cap, rfl, ⟨hl, hle, hmx, fun h => by simp at h, fun a ha i hi => ?_, hb⟩, fun a ha => ?_⟩
    · obtain rfl := Option.some.inj ha
      exact h.cells (g := g) rfl i _ (bv_get xs i (by omega))
    · obtain rfl := Option.some.inj ha
      exact ⟨hg, (Array.getElem?_eq_some_iff.1 hh).1, rfl, rfl⟩
theorem wpList_app {w : World} {ops : Array Oper} {rest : List Oper} {o : Oper} {a : Act} {Q : Exit → Act → World → Prop} (hgd : o.guard = none) (s x : Operand)
    (ho : o.op = .call { callee := .builtin .append, args := #[s, x], argTypes := #[35, 35] })
    (base : Nat) (v : Value) (n : Nat) (xs : List Int) (hs : a.eval s = v) (hown : w.ownsRow base 5 1 v n (bv xs))
    (bo : Option Addr) (m c : Nat) (ys : List Int) (hx : a.eval x = .slice bo m c) (hsl : Sl w bo m c ys) (hb : n + m ≤ 140737488355328) (hbase : base ≤ w.heap.size)
    (h : ∀ v' w', w'.ownsRow base 5 1 v' (n + m) (bv (xs ++ ys)) → Below base w w' → wpList Try.prog ops Q rest (a.put o.dst v') w') : wpList Try.prog ops Q (o :: rest) a w := by
  obtain ⟨i0, hi, hz0, hz1, hz2⟩ := info_parts u8info
  cases bo with
  | some ad =>
    refine wpList_append_own w hgd s x 35 ho base 5 i0 (.int .u8 0) 1 1 Try.underlying35 hi hz0 hz1 hz2 rfl (by decide) v n (bv xs) hs hown ad m c (bv ys) hx (by rw [bv_length, hsl.len, Nat.mul_one]) (hsl.cells ad rfl) (bv_one ys) (by unfold maxLen; omega) (by omega) hbase ?_
    intro v' w' h1 h2 _
    rw [← bv_append] at h1
    exact h v' w' h1 ((Below.refl _ w).grown h2 hbase (fun k hk => (hown.lt k hk).1))
  | none =>
    obtain ⟨rfl, rfl⟩ := hsl.nil rfl
    obtain rfl : ys = [] := List.eq_nil_of_length_eq_zero hsl.len
    refine wpList_append_own_none hgd s x 35 ho base 5 i0 1 Try.underlying35 hi v n (bv xs) hs hown hx ?_
    exact h v w (by simpa using hown) (Below.refl _ _)
open Go.RowKit
structure Bs where
  ao : Option Addr
  n : Nat
  cap : Nat
  xs : List Int
end Go.Proofs.Ytbbhokodleaheaa
namespace Go.Proofs.Ytbbhokodleaheaa
open Go.RowKit Go.ChangeShapes Go.WideShapes
variable {H : Type} {enc : TypeId × Value → H} {P : Program} {w : World} {base : Nat} {spare : Nat → Bool} {held : Bool}
def Wt (P : Program) (d : DataW H) (t : TypeId) : Prop := ∀ n ∈ d.weights P t, n ≤ reachBytes
theorem weights_mem_all : ∀ {e : TypeId} {ds : List (DataW H)} {j : Nat} {d : DataW H}, ds[j]? = some d → ∀ n ∈ d.weights P e, n ∈ DataW.weightsAll P e ds
  | e, d0 :: ds, 0, d, hd, n, hn => by
    simp only [List.getElem?_cons_zero, Option.some.injEq] at hd
    subst hd
    simp only [DataW.weightsAll, List.mem_append]
    exact Or.inl hn
  | e, d0 :: ds, j + 1, d, hd, n, hn => by
    simp only [List.getElem?_cons_succ] at hd
    simp only [DataW.weightsAll, List.mem_append]
    exact Or.inr (weights_mem_all hd n hn)
  | _, [], _, _, hd, _, _ => by simp at hd
theorem Sl.of_ints {tB tE : TypeId} {fuel : Nat} {v : Value} {x : DataW H × List MemPlace} (ht : P.underlying tB = some (.slice tE)) (he : P.underlying tE = some (.int .u8)) (hc : P.cellsOf tE = 1)
    (hb8 : P.bytesOf tE = 1) (h : DataW.trod enc P w base spare held fuel tB [v] = some x) : ∃ b : Bs, v = .slice b.ao b.n b.cap ∧ Sl w b.ao b.n b.cap b.xs ∧ (Wt P x.1 tB → b.n ≤ 140737488351232) := by
  rcases open_ints ht he hc h with ⟨hcs, _⟩ | ⟨a, l, c, zs, hcs, _, hl, hm, hz, hx, hcell, hwz⟩
  · simp at hcs
    exact ⟨⟨none, 0, 0, []⟩, hcs, Sl.nothing w, fun _ => Nat.zero_le _⟩
  · simp at hcs
    have hlz : l ≤ zs.length := by rw [hz]; split <;> omega
    refine ⟨⟨some a, l, c, zs.take l⟩, hcs, ⟨by simp; omega, hl, hm, fun h => by simp at h, fun b hb i hi => ?_, fun z hz => ?_⟩, fun hwt => ?_⟩
    · obtain rfl := Option.some.inj hb
      have hi : i < l := hi
      rw [hcell i (by omega)]
      simp [List.getD, hi]
    · have := hwz z (List.mem_of_mem_take hz)
      simp [Lit.wf, IntKind.min, IntKind.max, IntKind.signed, IntKind.bits] at this
      omega
    · rw [hx] at hwt
      have := hwt (zs.length * 1) (by simp only [DataW.weights, ht, hb8]; simp [ChangeShapes.lits]; omega)
      simp only [reachBytes] at this
      show l ≤ _
      omega
theorem gather_list {α : Type} {p : Nat → α → Prop} : ∀ l : Nat, (∀ i, i < l → ∃ y, p i y) → ∃ z : List α, z.length = l ∧ ∀ i (h : i < z.length), p i z[i]
  | 0, _ => ⟨[], rfl, fun i h => by simp at h⟩
  | l + 1, key => by
    obtain ⟨z, hz1, hz2⟩ := gather_list l (fun i hi => key i (by omega))
    obtain ⟨y, hy⟩ := key l (by omega)
    refine ⟨z ++ [y], by simp [hz1], fun i h => ?_⟩
    by_cases c : i < z.length
    · rw [List.getElem_append_left c]
      exact hz2 i c
    · have hi : i = z.length := by simp at h; omega
      subst hi
      rw [List.getElem_append_right (Nat.le_refl _)]
      simp only [Nat.sub_self, List.getElem_singleton]
      rw [hz1]
      exact hy
end Go.Proofs.Ytbbhokodleaheaa
namespace Go.Proofs.Ytbbhokodleaheaa
open Go.RowKit
theorem flat_get {α : Type} (f : α → List Value) (s : Nat) (hs : ∀ x, (f x).length = s) : ∀ (l : List α) (i j : Nat) (hi : i < l.length), j < s → (l.map f).flatten[i * s + j]? = (f l[i])[j]?
  | [], i, _, hi, _ => by simp at hi
  | a :: l, 0, j, _, hj => by
    rw [List.map_cons, List.flatten_cons, Nat.zero_mul, Nat.zero_add, List.getElem?_append_left (by rw [hs]; exact hj)]
    rfl
  | a :: l, i + 1, j, hi, hj => by
    have e : (i + 1) * s + j = s + (i * s + j) := by rw [Nat.add_mul]; omega
    rw [List.map_cons, List.flatten_cons, e, List.getElem?_append_right (by rw [hs]; omega), hs, Nat.add_sub_cancel_left]
    exact flat_get f s hs l i j (by simpa using hi) hj
theorem flat_len {α : Type} (f : α → List Value) (s : Nat) (hs : ∀ x, (f x).length = s) : ∀ l : List α, (l.map f).flatten.length = l.length * s
  | [] => by simp
  | a :: l => by
    rw [List.map_cons, List.flatten_cons, List.length_append, hs, flat_len f s hs l, List.length_cons, Nat.add_mul]
    omega
def sblk (ao : Option Addr) (n x : Nat) : Prop := ∃ a, ao = some a ∧ 0 < n ∧ a.block = x
open Go.RowKit
def Bs.blk (b : Bs) (x : Nat) : Prop := ∃ a, b.ao = some a ∧ 0 < b.n ∧ a.block = x
theorem Sl.blk_lt {w : World} {b : Bs} (h : Sl w b.ao b.n b.cap b.xs) {x : Nat} (hx : b.blk x) : x < w.heap.size := by
  obtain ⟨a, ha, hn, rfl⟩ := hx
  exact h.lt a ha hn
theorem Sl.kept {w w' : World} {b : Bs} (h : Sl w b.ao b.n b.cap b.xs) (hk : ∀ x, b.blk x → w'.heap[x]? = w.heap[x]?) : Sl w' b.ao b.n b.cap b.xs := by
  refine ⟨h.len, h.le, h.mx, h.nil, fun a ha i hi => ?_, h.byte⟩
  have hb : (a.add i).block = a.block := by unfold Addr.add; split <;> rfl
  rw [← h.cell a ha i hi]
  exact World.cell?_of_block (by rw [hb]; exact hk _ ⟨a, ha, by omega, rfl⟩)
open Go.RowKit
theorem run_append_own2 {P : Program} (w : World) (base : Nat) (t ty e : TypeId) (i : TypeInfo) (z : Value) (size bytes : Nat) (ht : P.underlying t = some (.slice e)) (hi : P.info? e = some i) (hz : i.zero = some z)
    (hsize : i.size = size) (hby : i.bytes = bytes) (hzs : z.cells.size = size) (hsz : 0 < size)
    (v : Value) (n : Nat) (xs : List Value) (hown : w.ownsRow base e size v n xs)
    (a : Addr) (m c : Nat) (news : List Value) (hl : news.length = m * size) (hnews : ∀ j u, news[j]? = some u → w.cell? (a.add j) = some u) (h1 : ∀ u ∈ news, u.oneCell' = true)
    (h63 : n + m ≤ maxLen) (hbytes : (n + m) * bytes ≤ 140737488355328) (hbase : base ≤ w.heap.size) :
    ∃ v' w', (Builtin.append_ #[t, t] ty #[v, .slice (some a) m c]).run P w = .ok v' w' ∧ w'.ownsRow base e size v' (n + m) (xs ++ news) ∧ w.grownBy w' v.ownBlock ∧
      ∀ g, v'.ownBlock = some g → v.ownBlock = some g ∨ w.heap.size ≤ g := by
  obtain ⟨v', w', hr, ho, hg, _⟩ := run_append_own (P := P) w base t ty e i z size bytes ht hi hz hsize hby hzs hsz v n xs hown a m c news hl hnews h1 h63 hbytes hbase
  refine ⟨v', w', hr, ho, hg, ?_⟩
  have hsmall : n + m ≤ 9223372036854775807 := by simp only [maxLen] at h63; omega
  subst hsize
  subst hby
  rcases hown.2 with ⟨rfl, rfl⟩ | ⟨g, cap, cur, rfl, hbg, hgc, hnc, hcm, hcs, htake⟩
  · have hown2 : w.ownsRow w.heap.size e i.size (.slice none 0 0) 0 xs := ⟨hown.1, .inl ⟨rfl, rfl⟩⟩
    obtain ⟨v2, w2, hr2, ho2, _, _⟩ := run_append_own (P := P) w w.heap.size t ty e i z i.size i.bytes ht hi hz rfl rfl hzs hsz _ 0 xs hown2 a m c news hl hnews h1 h63 hbytes (Nat.le_refl _)
    rw [hr] at hr2
    simp only [Result.ok.injEq] at hr2
    obtain ⟨rfl, rfl⟩ := hr2
    intro g hgv
    exact .inr (ho2.lt g hgv).1
  · by_cases hroom : n + m ≤ cap
    · have hfit : n * i.size + news.length ≤ cur.size := by rw [hl, hcs, ← Nat.add_mul]; exact Nat.mul_le_mul_right _ hroom
      have hr2 := run_append_room (P := P) w t ty e i ht hi g n cap cur hgc a m c news hl hnews h1 hroom hfit
      rw [hr] at hr2
      simp only [Result.ok.injEq] at hr2
      obtain ⟨rfl, rfl⟩ := hr2
      intro g' hg'
      exact .inl hg'
    · have holds : ∀ j u, xs[j]? = some u → w.cell? ((⟨g, 0, none⟩ : Addr).add j) = some u := hown.cells (g := g) rfl
      have hr2 := run_append_grow (P := P) w t ty e i z ht hi hz ⟨g, 0, none⟩ n cap xs hown.1 holds a m c news hl hnews (by omega) (by omega) (growslice_fits (by omega) hbytes)
      rw [hr] at hr2
      simp only [Result.ok.injEq] at hr2
      obtain ⟨rfl, rfl⟩ := hr2
      intro g' hg'
      simp only [Value.ownBlock, Option.some.injEq] at hg'
      exact .inr (by omega)
theorem own_kept {w w' : World} {base : Nat} {e : TypeId} {size : Nat} {v : Value} {n : Nat} {xs : List Value} (h : w.ownsRow base e size v n xs) (hb : ∀ g, v.ownBlock = some g → w'.heap[g]? = w.heap[g]?) : w'.ownsRow base e size v n xs := by
  refine ⟨h.1, ?_⟩
  rcases h.2 with c | ⟨g, cap, cur, rfl, a1, a2, a3, a4, a5, a6⟩
  · exact .inl c
  · exact .inr ⟨g, cap, cur, rfl, a1, (hb g rfl).trans a2, a3, a4, a5, a6⟩
end Go.Proofs.Ytbbhokodleaheaa
namespace Go.Proofs.Ytbbhokodleaheaa
open Go.RowKit
structure El (α : Type) where
  c : α → List Value
  sz : Nat
  ok : α → World → Prop
  blk : α → Nat → Prop
structure El.Fine {α : Type} (E : El α) : Prop where
  len : ∀ x, (E.c x).length = E.sz
  pos : 0 < E.sz
  one : ∀ x, ∀ u ∈ E.c x, u.oneCell' = true
  kept : ∀ x w w', E.ok x w → (∀ z, E.blk x z → w'.heap[z]? = w.heap[z]?) → E.ok x w'
  lt : ∀ x w z, E.ok x w → E.blk x z → z < w.heap.size
theorem El.Fine.below {α : Type} {E : El α} (F : E.Fine) {x : α} {w w' : World} (h : E.ok x w) (hb : Below w.heap.size w w') : E.ok x w' := F.kept x w w' h fun z hz => hb.block z (F.lt x w z h hz)
structure GL {α : Type} (E : El α) (w : World) (ao : Option Addr) (n cap : Nat) (l : List α) : Prop where
  len : l.length = n
  le : n ≤ cap
  mx : cap ≤ maxLen
  nil : ao = none → n = 0 ∧ cap = 0
  cell : ∀ a, ao = some a → ∀ i (h : i < l.length), ∀ j v, (E.c l[i])[j]? = some v → w.cell? (a.add (i * E.sz + j)) = some v
  ok : ∀ x ∈ l, E.ok x w
def GLb {α : Type} (E : El α) (ao : Option Addr) (n : Nat) (l : List α) (z : Nat) : Prop := sblk ao n z ∨ ∃ x ∈ l, E.blk x z
variable {α : Type} {E : El α} {w w' : World} {ao : Option Addr} {n cap : Nat} {l : List α}
theorem GL.kept (F : E.Fine) (h : GL E w ao n cap l) (hk : ∀ z, GLb E ao n l z → w'.heap[z]? = w.heap[z]?) : GL E w' ao n cap l := by
  refine ⟨h.len, h.le, h.mx, h.nil, fun a ha i hi j v hv => ?_, fun x hx => F.kept x w w' (h.ok x hx) fun z hz => hk z (.inr ⟨x, hx, hz⟩)⟩
  have hb : (a.add (i * E.sz + j)).block = a.block := by unfold Addr.add; split <;> rfl
  rw [← h.cell a ha i hi j v hv]
  exact World.cell?_of_block (by rw [hb]; exact hk _ (.inl ⟨a, ha, by have := h.len; omega, rfl⟩))
theorem GL.lt (F : E.Fine) (h : GL E w ao n cap l) {z : Nat} (hz : GLb E ao n l z) : z < w.heap.size := by
  rcases hz with ⟨a, ha, hn, rfl⟩ | ⟨x, hx, hz⟩
  · have hl := h.len
    have hi : 0 < l.length := by omega
    have h1 : 0 < (E.c l[0]).length := by rw [F.len]; exact F.pos
    have h0 := h.cell a ha 0 hi 0 _ (List.getElem?_eq_getElem h1)
    have hlt := World.block_lt_of_cell? w _ h0
    have hb : (a.add (0 * E.sz + 0)).block = a.block := by unfold Addr.add; split <;> rfl
    rw [hb] at hlt
    exact hlt
  · exact F.lt x w z (h.ok x hx) hz
theorem GL.below (F : E.Fine) (h : GL E w ao n cap l) (hb : Below w.heap.size w w') : GL E w' ao n cap l := h.kept F fun z hz => hb.block z (h.lt F hz)
theorem GL.nothing (E : El α) (w : World) : GL E w none 0 0 [] := ⟨rfl, Nat.le_refl _, Nat.zero_le _, fun _ => ⟨rfl, rfl⟩, fun _ _ _ hi => absurd hi (Nat.not_lt_zero _), fun _ h => absurd h List.not_mem_nil⟩
theorem GL.at (h : GL E w ao n cap l) (hn : 0 < n) : ∃ a, ao = some a := by
  match e : ao with
  | some a => exact ⟨a, rfl⟩
  | none => exact absurd (h.nil rfl).1 (by omega)
theorem GL.get (F : E.Fine) (h : GL E w ao n cap l) {a : Addr} (ha : ao = some a) (i : Nat) (hi : i < l.length) (j : Nat) (hj : j < E.sz) : w.cell? (a.add (i * E.sz + j)) = some ((E.c l[i])[j]'(by rw [F.len]; exact hj)) :=
  h.cell a ha i hi j _ (List.getElem?_eq_getElem _)
theorem GL.pl (F : E.Fine) (h : GL E w ao n cap l) (hn : 0 < n) : ∃ b off, ao = some ⟨b, off, none⟩ ∧ ∀ i (hi : i < l.length), ∀ j v, (E.c l[i])[j]? = some v → w.cell? ⟨b, off + i * E.sz + j, none⟩ = some v := by
  obtain ⟨⟨b, off, spot⟩, rfl⟩ := h.at hn
  have hl := h.len
  have h1 : 0 < (E.c (l[0]'(by omega))).length := by rw [F.len]; exact F.pos
  have hc := h.cell _ rfl 0 (by omega) 0 _ (List.getElem?_eq_getElem h1)
  have hs : spot = none := by simpa [Addr.add] using World.cell?_spot hc
  subst hs
  refine ⟨b, off, rfl, fun i hi j v hv => ?_⟩
  have := h.cell _ rfl i hi j v hv
  rw [Addr.add_lit] at this
  rw [Nat.add_assoc]
  exact this
structure LS (α : Type) where
  ao : Option Addr
  n : Nat
  cap : Nat
  l : List α
def El.lists (E : El α) : El (LS α) := ⟨fun s => [.slice s.ao s.n s.cap], 1, fun s w => GL E w s.ao s.n s.cap s.l, fun s z => GLb E s.ao s.n s.l z⟩
theorem El.Fine.lists (F : E.Fine) : E.lists.Fine := by
  refine ⟨fun _ => rfl, Nat.one_pos, fun x u hu => ?_, fun x w w' h hk => GL.kept F h hk, fun x w z h hz => GL.lt F h hz⟩
  have : u = .slice x.ao x.n x.cap := by simpa [El.lists] using hu
  rw [this]
  rfl
structure GTy (sz bytes : Nat) (z : Value) (t s : TypeId) : Prop where
  info : (Try.prog.info? t).map (fun i => (i.zero, i.size, i.bytes)) = some (some z, sz, bytes)
  zs : z.cells.size = sz
  und : Try.prog.underlying s = some (.slice t)
structure GI (E : El α) (t : TypeId) (W : World) (base : Nat) (v : Value) (ys : List α) : Prop where
  own : W.ownsRow base t E.sz v ys.length ((ys.map E.c).flatten)
  ok : ∀ y ∈ ys, E.ok y W
  far : ∀ y ∈ ys, ∀ x, E.blk y x → v.ownBlock ≠ some x
variable {t s : TypeId} {W W' : World} {base : Nat} {v : Value} {ys : List α}
theorem GI.nil (E : El α) (t : TypeId) (W : World) (base : Nat) : GI E t W base (.slice none 0 0) [] := ⟨World.ownsRow_nil _ _ _ _, fun _ h => by simp at h, fun _ h => by simp at h⟩
theorem GI.kept (F : E.Fine) (h : GI E t W base v ys) (hk : ∀ z, (v.ownBlock = some z ∨ ∃ y ∈ ys, E.blk y z) → W'.heap[z]? = W.heap[z]?) : GI E t W' base v ys :=
  ⟨own_kept h.own fun g hg => hk g (.inl hg), fun y hy => F.kept y W W' (h.ok y hy) fun z hz => hk z (.inr ⟨y, hy, hz⟩), h.far⟩
theorem GI.lt (F : E.Fine) (h : GI E t W base v ys) {z : Nat} (hz : v.ownBlock = some z ∨ ∃ y ∈ ys, E.blk y z) : z < W.heap.size := by
  rcases hz with hz | ⟨y, hy, hz⟩
  · exact (h.own.lt z hz).2
  · exact F.lt y W z (h.ok y hy) hz
theorem GI.below (F : E.Fine) (h : GI E t W base v ys) (hb : Below W.heap.size W W') : GI E t W' base v ys := h.kept F fun z hz => hb.block z (h.lt F hz)
theorem GI.slice (h : GI E t W base v ys) : ∃ ao cap, v = .slice ao ys.length cap := by
  rcases h.own.2 with ⟨rfl, e⟩ | ⟨g, cap, cur, rfl, _⟩
  · exact ⟨none, 0, by rw [e]⟩
  · exact ⟨_, cap, rfl⟩
theorem GI.app (F : E.Fine) {bytes : Nat} {z : Value} (hty : GTy E.sz bytes z t s) (h : GI E t W base v ys) (ty : TypeId) {a : Addr} {cp : Nat} {y : α} (hG : ∀ j u, (E.c y)[j]? = some u → W.cell? (a.add j) = some u) (he : E.ok y W) (hf : ∀ x, E.blk y x → v.ownBlock ≠ some x) (hn : (ys.length + 1) * bytes ≤ 140737488355328) (hm : ys.length + 1 ≤ maxLen) (hbase : base ≤ W.heap.size) :
    ∃ v' W1, (Builtin.append_ #[s, s] ty #[v, .slice (some a) 1 cp]).run Try.prog W = .ok v' W1 ∧ GI E t W1 base v' (ys ++ [y]) ∧ Below base W W1 ∧ W.grownBy W1 v.ownBlock ∧ ∃ ao n cap, v' = .slice ao n cap := by
  obtain ⟨i0, hi, hz0, hz1, hz2⟩ := info_parts hty.info
  obtain ⟨v', W1, hr, ho, hg, ha⟩ := run_append_own2 (P := Try.prog) W base s ty t i0 _ E.sz bytes hty.und hi hz0 hz1 hz2 hty.zs F.pos v ys.length ((ys.map E.c).flatten) h.own a 1 cp (E.c y) (by rw [F.len, Nat.one_mul]) hG (F.one y) hm hn hbase
  have hown : W1.ownsRow base t E.sz v' (ys ++ [y]).length (((ys ++ [y]).map E.c).flatten) := by
    have e1 : ((ys ++ [y]).map E.c).flatten = (ys.map E.c).flatten ++ E.c y := by simp
    rw [e1, List.length_append]
    exact ho
  have key : ∀ z : α, E.ok z W → (∀ x, E.blk z x → v.ownBlock ≠ some x) → E.ok z W1 ∧ ∀ x, E.blk z x → v'.ownBlock ≠ some x := fun z hz hzf => ⟨F.kept z W W1 hz fun x hx => hg.block x (F.lt z W x hz hx) (fun e => hzf x hx e.symm), fun x hx e => by
    rcases ha x e with c | c
    · exact hzf x hx c
    · have := F.lt z W x hz hx
      omega⟩
  refine ⟨v', W1, hr, ⟨hown, fun z hz => ?_, fun z hz => ?_⟩, (Below.refl _ W).grown hg hbase (fun k hk => (h.own.lt k hk).1), hg, ?_⟩
  · rcases List.mem_append.1 hz with hz | hz
    · exact (key z (h.ok z hz) (h.far z hz)).1
    · rw [List.mem_singleton.1 hz]; exact (key y he hf).1
  · rcases List.mem_append.1 hz with hz | hz
    · exact (key z (h.ok z hz) (h.far z hz)).2
    · rw [List.mem_singleton.1 hz]; exact (key y he hf).2
  · rcases ho.2 with ⟨rfl, _⟩ | ⟨g, cap, cur, rfl, _⟩
    · exact ⟨none, 0, 0, rfl⟩
    · exact ⟨_, _, cap, rfl⟩
theorem GI.gl (F : E.Fine) (h : GI E t W base v ys) : ∃ ao cap, v = .slice ao ys.length cap ∧ GL E W ao ys.length cap ys ∧ ∀ z, sblk ao ys.length z → base ≤ z := by
  rcases h.own.2 with ⟨rfl, e⟩ | ⟨g, cap, cur, rfl, a1, a2, a3, a4, a5, a6⟩
  · rw [e]
    have : ys = [] := List.eq_nil_of_length_eq_zero e
    subst this
    exact ⟨none, 0, rfl, GL.nothing E W, fun z hz => by obtain ⟨a, ha, _⟩ := hz; cases ha⟩
  · refine ⟨some ⟨g, 0, none⟩, cap, rfl, ⟨rfl, a3, a4, fun h => by simp at h, fun a ha i hi j u hu => ?_, h.ok⟩, fun z hz => by obtain ⟨a, ha, _, rfl⟩ := hz; cases ha; exact a1⟩
    obtain rfl := Option.some.inj ha
    have hj : j < E.sz := by have := (List.getElem?_eq_some_iff.1 hu).1; rw [F.len] at this; exact this
    refine h.own.cells (g := g) rfl (i * E.sz + j) u ?_
    rw [flat_get E.c E.sz F.len ys i j hi hj]
    exact hu
end Go.Proofs.Ytbbhokodleaheaa
namespace Go.Proofs.Ytbbhokodleaheaa
structure SV where
  fr : Nat
  b : List Int
  tag : List Int
open Go.RowKit
structure SA where
  fr : Nat
  b : Bs
  tag : Bs
def SA.cells (s : SA) : List Value := [.int .u64 s.fr, .slice s.b.ao s.b.n s.b.cap, .slice s.tag.ao s.tag.n s.tag.cap]
structure SA.ok (s : SA) (w : World) : Prop where
  fr : s.fr < 18446744073709551616
  b : Sl w s.b.ao s.b.n s.b.cap s.b.xs
  tag : Sl w s.tag.ao s.tag.n s.tag.cap s.tag.xs
def SA.blk (s : SA) (z : Nat) : Prop := s.b.blk z ∨ s.tag.blk z
def SA.v (s : SA) : SV := ⟨s.fr, s.b.xs, s.tag.xs⟩
def SA.val (s : SA) : Value := .agg #[.int .u64 s.fr, .slice s.b.ao s.b.n s.b.cap, .slice s.tag.ao s.tag.n s.tag.cap]
def elS : El SA := ⟨SA.cells, 3, SA.ok, SA.blk⟩
theorem elS_fine : elS.Fine := by
  refine ⟨fun _ => rfl, by decide, fun x u hu => ?_, fun x w w' h hk => ⟨h.fr, h.b.kept fun z hz => hk z (.inl hz), h.tag.kept fun z hz => hk z (.inr hz)⟩, fun x w z h hz => ?_⟩
  · have hu : u ∈ x.cells := hu
    unfold SA.cells at hu
    simp only [List.mem_cons, List.not_mem_nil, or_false] at hu
    rcases hu with rfl | rfl | rfl <;> rfl
  · rcases hz with hz | hz
    · exact h.b.blk_lt hz
    · exact h.tag.blk_lt hz
theorem SA.ok.below {s : SA} {w w' : World} (h : s.ok w) (hb : Below w.heap.size w w') : s.ok w' := elS_fine.below h hb
structure SX (V : World) (b p : Nat) (s : SA) : Prop where
  c0 : V.cell? ⟨b, p, none⟩ = some (.int .u64 s.fr)
  c1 : V.cell? ⟨b, p + 1, none⟩ = some (.slice s.b.ao s.b.n s.b.cap)
  c2 : V.cell? ⟨b, p + 2, none⟩ = some (.slice s.tag.ao s.tag.n s.tag.cap)
theorem GL.atS {w : World} {ao : Option Addr} {n cap : Nat} {l : List SA} (h : GL elS w ao n cap l) (hn : 0 < n) :
    ∃ b off, ao = some ⟨b, off, none⟩ ∧ ∀ i (hi : i < l.length), SX w b (off + i * 3) l[i] := by
  obtain ⟨b, off, e, k⟩ := h.pl elS_fine hn
  exact ⟨b, off, e, fun i hi => ⟨k i hi 0 _ rfl, k i hi 1 _ rfl, k i hi 2 _ rfl⟩⟩
end Go.Proofs.Ytbbhokodleaheaa
namespace Go.Proofs.Ytbbhokodleaheaa
open Go.RowKit Go.ChangeShapes Go.WideShapes
variable {H : Type} {enc : TypeId × Value → H} {P : Program} {w : World} {base : Nat} {spare : Nat → Bool} {held : Bool}
theorem open_gl {α : Type} (E : El α) (N : α → Prop) {sl t : TypeId} (hsl : P.underlying sl = some (.slice t)) (ct : P.cellsOf t = E.sz)
    (one : ∀ {fuel : Nat} {l : List Value} {x : DataW H × List MemPlace}, DataW.trod enc P w base spare held fuel t l = some x → ∃ y, l = E.c y ∧ E.ok y w ∧ (Wt P x.1 t → N y))
    {fuel : Nat} {v : Value} {x : DataW H × List MemPlace} (h : DataW.trod enc P w base spare held fuel sl [v] = some x) :
    ∃ (ao : Option Addr) (n cap : Nat) (l : List α), v = .slice ao n cap ∧ GL E w ao n cap l ∧ (Wt P x.1 sl → ∀ y ∈ l, N y) := by
  rcases Deep.open_slice hsl h with ⟨hcs, _⟩ | ⟨a, l, c, m, n, D, Pl, hcs, _, hl, hm, hmm, hy0, hx⟩
  · exact ⟨none, 0, 0, [], by simpa using hcs, GL.nothing _ _, fun _ _ h => absurd h List.not_mem_nil⟩
  · have hlm : l ≤ m := by rw [hmm]; split <;> omega
    obtain ⟨z, hz1, hz2⟩ := gather_list (p := fun i (y : α) => (∀ j v, (E.c y)[j]? = some v → w.cell? (a.add (i * E.sz + j)) = some v) ∧ E.ok y w ∧ (Wt P (D i) t → N y)) l (fun i hi => by
      obtain ⟨cs', h1, h2⟩ := hx i (by omega)
      rw [ct] at h1
      obtain ⟨_, hlen, hcell⟩ := World.cells?_some h1
      obtain ⟨y, e1, w1, n1⟩ := one h2
      refine ⟨y, fun j v hv => ?_, w1, n1⟩
      rw [← e1] at hv
      have hj : j < cs'.length := (List.getElem?_eq_some_iff.1 hv).1
      have := hcell j (by omega)
      rw [Deep.add_add, hv] at this
      exact this)
    refine ⟨some a, l, c, z, by simpa using hcs, ⟨hz1, hl, hm, fun h => by simp at h, fun b hb i hi => ?_, fun q hq => ?_⟩, fun hwt y hy => ?_⟩
    · obtain rfl := Option.some.inj hb
      exact (hz2 i hi).1
    · obtain ⟨i, hi, rfl⟩ := List.getElem_of_mem hq
      exact (hz2 i hi).2.1
    · obtain ⟨i, hi, rfl⟩ := List.getElem_of_mem hy
      refine (hz2 i hi).2.2 fun n hn2 => hwt n ?_
      rw [hy0]
      simp only [DataW.weights, hsl]
      refine List.mem_cons_of_mem _ (List.mem_append_left _ (weights_mem_all (j := i) ?_ n hn2))
      rw [List.getElem?_map, List.getElem?_range (by omega)]
      rfl
end Go.Proofs.Ytbbhokodleaheaa
namespace Go.Proofs.Ytbbhokodleaheaa
open Go.RowKit Go.ChangeShapes Go.WideShapes
structure OA where
  k : Int
  fr : Nat
  seq : Nat
  b : Bs
def OA.cells (o : OA) : List Value := [.int .i64 o.k, .int .u64 (o.fr : Nat), .int .u64 (o.seq : Nat), .slice o.b.ao o.b.n o.b.cap]
structure OA.ok (o : OA) (w : World) : Prop where
  k : (Lit.int .i64 o.k).wf = true
  fr : o.fr < 18446744073709551616
  seq : o.seq < 18446744073709551616
  b : Sl w o.b.ao o.b.n o.b.cap o.b.xs
def elO : El OA := ⟨OA.cells, 4, OA.ok, fun o z => o.b.blk z⟩
theorem elO_fine : elO.Fine := by
  refine ⟨fun _ => rfl, by decide, fun x u hu => ?_, fun x w w' h hk => ⟨h.k, h.fr, h.seq, h.b.kept fun z hz => hk z hz⟩, fun x w z h hz => h.b.blk_lt hz⟩
  have hu : u ∈ x.cells := hu
  unfold OA.cells at hu
  simp only [List.mem_cons, List.not_mem_nil, or_false] at hu
  rcases hu with rfl | rfl | rfl | rfl <;> rfl
structure OX (V : World) (b p : Nat) (o : OA) : Prop where
  c0 : V.cell? ⟨b, p, none⟩ = some (.int .i64 o.k)
  c1 : V.cell? ⟨b, p + 1, none⟩ = some (.int .u64 (o.fr : Nat))
  c2 : V.cell? ⟨b, p + 2, none⟩ = some (.int .u64 (o.seq : Nat))
  c3 : V.cell? ⟨b, p + 3, none⟩ = some (.slice o.b.ao o.b.n o.b.cap)
theorem GL.atO {w : World} {ao : Option Addr} {n cap : Nat} {l : List OA} (h : GL elO w ao n cap l) (hn : 0 < n) :
    ∃ b off, ao = some ⟨b, off, none⟩ ∧ ∀ i (hi : i < l.length), OX w b (off + i * 4) l[i] := by
  obtain ⟨b, off, e, k⟩ := h.pl elO_fine hn
  exact ⟨b, off, e, fun i hi => ⟨k i hi 0 _ rfl, k i hi 1 _ rfl, k i hi 2 _ rfl, k i hi 3 _ rfl⟩⟩
structure O15 (P : Program) where
  int : TypeId
  u64 : TypeId
  bys : TypeId
  u8 : TypeId
  op : TypeId
  f0 : Field
  f1 : Field
  f2 : Field
  f3 : Field
  hint : P.underlying int = some (.int .i64)
  hu64 : P.underlying u64 = some (.int .u64)
  hbys : P.underlying bys = some (.slice u8)
  hu8 : P.underlying u8 = some (.int .u8)
  hop : P.underlying op = some (.struct #[f0, f1, f2, f3])
  cint : P.cellsOf int = 1
  cu64 : P.cellsOf u64 = 1
  cbys : P.cellsOf bys = 1
  cu8 : P.cellsOf u8 = 1
  bu8 : P.bytesOf u8 = 1
  cop : P.cellsOf op = 4
  o0 : f0.type = int ∧ f0.offset = 0
  o1 : f1.type = u64 ∧ f1.offset = 1
  o2 : f2.type = u64 ∧ f2.offset = 2
  o3 : f3.type = bys ∧ f3.offset = 3
variable {H : Type} {enc : TypeId × Value → H} {P : Program} {w : World} {base : Nat} {spare : Nat → Bool} {held : Bool}
theorem open_op (T : O15 P) {fuel : Nat} {l : List Value} {x : DataW H × List MemPlace} (h : DataW.trod enc P w base spare held fuel T.op l = some x) : ∃ y : OA, l = elO.c y ∧ elO.ok y w ∧ (Wt P x.1 T.op → True) := by
  obtain ⟨xs, k, _, hx, hl, hlen, hf⟩ := DataW.trod_struct T.hop h
  rw [T.cop] at hl
  obtain ⟨c0, c1, c2, c3, rfl⟩ : ∃ c0 c1 c2 c3, l = [c0, c1, c2, c3] := by
    match l, hl with
    | [c0, c1, c2, c3], _ => exact ⟨_, _, _, _, rfl⟩
  obtain ⟨x0, x1, x2, x3, rfl⟩ : ∃ x0 x1 x2 x3, xs = [x0, x1, x2, x3] := by
    match xs, hlen with
    | [x0, x1, x2, x3], _ => exact ⟨_, _, _, _, rfl⟩
  have e0 := hf 0 T.f0 rfl
  have e1 := hf 1 T.f1 rfl
  have e2 := hf 2 T.f2 rfl
  have e3 := hf 3 T.f3 rfl
  rw [T.o0.1, T.o0.2, T.cint] at e0
  rw [T.o1.1, T.o1.2, T.cu64] at e1
  rw [T.o2.1, T.o2.2, T.cu64] at e2
  rw [T.o3.1, T.o3.2, T.cbys] at e3
  simp only [List.drop_succ_cons, List.drop_zero, List.take_succ_cons, List.take_zero, List.getElem?_cons_zero, List.getElem?_cons_succ] at e0 e1 e2 e3
  obtain ⟨z0, q0, _, w0⟩ := DataW.trod_int T.hint e0
  obtain rfl : c0 = .int .i64 z0 := by simpa using q0
  obtain ⟨z1, q1, _, w1⟩ := DataW.trod_int T.hu64 e1
  obtain rfl : c1 = .int .u64 z1 := by simpa using q1
  obtain ⟨z2, q2, _, w2⟩ := DataW.trod_int T.hu64 e2
  obtain rfl : c2 = .int .u64 z2 := by simpa using q2
  obtain ⟨b, rfl, s1, _⟩ := Sl.of_ints T.hbys T.hu8 T.cu8 T.bu8 e3
  have g1 : 0 ≤ z1 ∧ z1 < 18446744073709551616 := by
    simp [Lit.wf, IntKind.min, IntKind.max, IntKind.signed, IntKind.bits] at w1
    omega
  have g2 : 0 ≤ z2 ∧ z2 < 18446744073709551616 := by
    simp [Lit.wf, IntKind.min, IntKind.max, IntKind.signed, IntKind.bits] at w2
    omega
  refine ⟨⟨z0, z1.toNat, z2.toNat, b⟩, ?_, ⟨w0, by show z1.toNat < _; omega, by show z2.toNat < _; omega, s1⟩, fun _ => trivial⟩
  show _ = OA.cells _
  unfold OA.cells
  simp only
  rw [Int.toNat_of_nonneg g1.1, Int.toNat_of_nonneg g2.1]
def opT : O15 Try.prog where
  int := 3
  u64 := 30
  bys := 35
  u8 := 5
  op := 37
  f0 := { name := "Kind", type := 3, offset := 0, embedded := false, tag := "", pkgPath := "", byteOffset := 0 }
  f1 := { name := "From", type := 30, offset := 1, embedded := false, tag := "", pkgPath := "", byteOffset := 8 }
  f2 := { name := "Seq", type := 30, offset := 2, embedded := false, tag := "", pkgPath := "", byteOffset := 16 }
  f3 := { name := "Sum", type := 35, offset := 3, embedded := false, tag := "", pkgPath := "", byteOffset := 24 }
  hint := Try.underlying3
  hu64 := Try.underlying30
  hbys := Try.underlying35
  hu8 := Try.underlying5
  hop := Try.underlying37
  cint := by kernel_rfl
  cu64 := by kernel_rfl
  cbys := by kernel_rfl
  cu8 := by kernel_rfl
  bu8 := by kernel_rfl
  cop := by kernel_rfl
  o0 := ⟨rfl, rfl⟩
  o1 := ⟨rfl, rfl⟩
  o2 := ⟨rfl, rfl⟩
  o3 := ⟨rfl, rfl⟩
theorem open_ops15 {fuel : Nat} {v : Value} {x : DataW H × List MemPlace} {w : World} (h : DataW.trod enc Try.prog w base spare held fuel 22 [v] = some x) : ∃ (ao : Option Addr) (n cap : Nat) (l : List OA), v = .slice ao n cap ∧ GL elO w ao n cap l := by
  obtain ⟨ao, n, cap, l, e, g, _⟩ := open_gl elO (fun _ => True) (t := 37) Try.underlying22 opT.cop (fun h => open_op opT h) h
  exact ⟨ao, n, cap, l, e, g⟩
end Go.Proofs.Ytbbhokodleaheaa
namespace Go.Proofs.Ytbbhokodleaheaa
def okF (f : Int) : Bool := decide (1 ≤ f ∧ f ≤ 4)
def nF (f : Int) (t : Int) : Int := if okF f = true then t * f + 1 else 0
def prF (v : Nat) (f : Int) : Nat := if okF f = true then 1 + v % (3 * f + 1).toNat else 0
structure VT where
  is : Bool
  word : ByteArray
  body : ByteArray
  tag : ByteArray
def zVT : VT := ⟨false, ⟨#[]⟩, ⟨#[]⟩, ⟨#[]⟩⟩
def VT.cells (v : VT) : List Value := [.bool v.is, .string v.word, .string v.body, .string v.tag]
structure VT.ok (v : VT) : Prop where
  word : v.word.size ≤ 1000000
  body : v.body.size ≤ 1000000
  tag : v.tag.size ≤ 1000000
theorem zVT_ok : zVT.ok := ⟨Nat.zero_le _, Nat.zero_le _, Nat.zero_le _⟩
def VT.fo (v : VT) (s : ByteArray) : Bool := v.is && decide (v.word = s)
def cntV (s : ByteArray) (l : List VT) : Nat := (l.filter fun v => v.fo s).length
theorem cntV_le (s : ByteArray) (l : List VT) : cntV s l ≤ l.length := List.length_filter_le _ _
theorem cntV_snoc (s : ByteArray) (l : List VT) (v : VT) : cntV s (l ++ [v]) = cntV s l + (if v.fo s = true then 1 else 0) := by
  unfold cntV
  rw [List.filter_append, List.length_append]
  congr 1
  simp only [List.filter_cons, List.filter_nil]
  split <;> rfl
def CntS (F : Value → Option Value) (l : List VT) : Prop := ∀ s : ByteArray, (F (.string s)).getD (.int .i64 0) = .int .i64 (cntV s l : Nat)
theorem CntS.skip {F : Value → Option Value} {l : List VT} {v : VT} (h : CntS F l) (hv : v.is = false) : CntS F (l ++ [v]) := fun s => by
  rw [cntV_snoc, h s]
  have : v.fo s = false := by unfold VT.fo; rw [hv]; rfl
  rw [this]
  simp
theorem CntS.step {F F' : Value → Option Value} {l : List VT} {v : VT} (h : CntS F l) (hv : v.is = true) (h1 : F' (.string v.word) = some (.int .i64 ((cntV v.word l : Nat) + 1 : Int))) (h2 : ∀ x, x ≠ .string v.word → F' x = F x) : CntS F' (l ++ [v]) := fun s => by
  rw [cntV_snoc]
  unfold VT.fo
  rw [hv]
  by_cases e : v.word = s
  · subst e
    rw [h1]
    simp
  · rw [h2 _ (fun q => e (by simpa using q.symm)), h s]
    simp [e]
def cellsV (l : List VT) : List Value := (l.map VT.cells).flatten
theorem v_one (v : VT) : ∀ u ∈ v.cells, u.oneCell' = true := by
  intro u hu
  unfold VT.cells at hu
  simp only [List.mem_cons, List.not_mem_nil, or_false] at hu
  rcases hu with rfl | rfl | rfl | rfl <;> rfl
theorem cellsV_len : ∀ l : List VT, (cellsV l).length = l.length * 4
  | [] => rfl
  | v :: l => by
    have := cellsV_len l
    unfold cellsV at this ⊢
    simp only [List.map_cons, List.flatten_cons, List.length_append, VT.cells, List.length_cons, List.length_nil] at this ⊢
    omega
theorem cellsV_at : ∀ (l : List VT) (k : Nat) (hk : k < l.length), ((cellsV l).drop (k * 4)).take 4 = l[k].cells
  | [], _, hk => absurd hk (Nat.not_lt_zero _)
  | v :: l, 0, _ => by simp [cellsV, VT.cells]
  | v :: l, k + 1, hk => by
    have e : (k + 1) * 4 = 4 + k * 4 := by omega
    have := cellsV_at l k (by simpa using hk)
    rw [e]
    unfold cellsV at this ⊢
    simp only [List.map_cons, List.flatten_cons, List.getElem_cons_succ]
    rw [← this, ← List.drop_drop]
    simp [VT.cells]
theorem cellsV_get (l : List VT) (k j : Nat) (hk : k < l.length) (hj : j < 4) : (cellsV l)[k * 4 + j]? = (l[k].cells)[j]? := by
  rw [← cellsV_at l k hk]
  simp [List.getElem?_drop, hj]
theorem cellsV_set : ∀ (l : List VT) (k : Nat) (v : VT), k < l.length → (((((cellsV l).set (k * 4) (.bool v.is)).set (k * 4 + 1) (.string v.word)).set (k * 4 + 2) (.string v.body)).set (k * 4 + 3) (.string v.tag)) = cellsV (l.set k v)
  | [], _, _, hk => absurd hk (Nat.not_lt_zero _)
  | u :: l, 0, v, _ => by simp [cellsV, VT.cells]
  | u :: l, k + 1, v, hk => by
    have := cellsV_set l k v (by simpa using hk)
    have e0 : (k + 1) * 4 = k * 4 + 1 + 1 + 1 + 1 := by omega
    unfold cellsV at this ⊢
    rw [e0]
    have e1 : k * 4 + 1 + 1 + 1 + 1 + 1 = (k * 4 + 1) + 1 + 1 + 1 + 1 := by omega
    have e2 : k * 4 + 1 + 1 + 1 + 1 + 2 = (k * 4 + 2) + 1 + 1 + 1 + 1 := by omega
    have e3 : k * 4 + 1 + 1 + 1 + 1 + 3 = (k * 4 + 3) + 1 + 1 + 1 + 1 := by omega
    rw [e1, e2, e3]
    simp only [List.map_cons, List.flatten_cons, List.set_cons_succ, VT.cells, List.cons_append, List.nil_append] at this ⊢
    rw [this]
end Go.Proofs.Ytbbhokodleaheaa
namespace Go
theorem run_loadVar_cells {P : Program} (w : World) (ad : Addr) (ty : TypeId) (cs : List Value) (hc : ∀ j v, cs[j]? = some v → w.cell? (ad.add j) = some v)
    (hagg : (isAgg ty).run P w = .ok true w) (hi : (P.info? ty).map (·.size) = some cs.length) :
    (loadVar ty ad).run P w = .ok (.agg cs.toArray) w := by
  have hl : (loadCells ad cs.length).run P w = .ok cs.toArray w := run_loadCells_list (P := P) w ad cs hc
  cases hq : P.info? ty with
  | none => simp [hq] at hi
  | some i =>
    have hs : i.size = cs.length := by simpa [hq] using hi
    simp [loadVar, Sem.run_bind, hagg, sizeOf, typeInfo, hq, hs, hl]
theorem wpList_load_cells {P : Program} {ops : Array Oper} {rest : List Oper} {o : Oper} {a : Act} {w : World} {Q : Exit → Act → World → Prop} (hgd : o.guard = none) (ty : TypeId) (x : Operand) (ho : o.op = .load ty x)
    (ad : Addr) (hx : a.eval x = .pointer (some ad)) (cs : List Value) (hc : ∀ j v, cs[j]? = some v → w.cell? (ad.add j) = some v)
    (hagg : ∀ w, (isAgg ty).run P w = .ok true w) (hi : (P.info? ty).map (·.size) = some cs.length)
    (h : wpList P ops Q rest (a.put o.dst (.agg cs.toArray)) w) : wpList P ops Q (o :: rest) a w := by
  refine wpList_plain hgd fun K hK => ?_
  unfold Oper.wp execOp
  simp only [ho, hx, Instr.loadAt, Instr.sureAddr, Sem.run_bind, Sem.run_pure, Result.andThen_ok, run_loadVar_cells w ad ty cs hc (hagg w) hi]
  exact hK _ _ h
theorem wpList_load_named {P : Program} {ops : Array Oper} {rest : List Oper} {o : Oper} {a : Act} {w : World} {Q : Exit → Act → World → Prop} (hgd : o.guard = none) (ty : TypeId) (x : Operand) (ho : o.op = .load ty x)
    (ad : Addr) (hx : a.eval x = .pointer (some ad)) (cs : List Value) (hc : ∀ j v, cs[j]? = some v → w.cell? (ad.add j) = some v)
    (hagg : ∀ w, (isAgg ty).run P w = .ok true w) (hi : (P.info? ty).map (·.size) = some cs.length)
    (h : ∀ v, v = .agg cs.toArray → wpList P ops Q rest (a.put o.dst v) w) : wpList P ops Q (o :: rest) a w :=
  wpList_load_cells hgd ty x ho ad hx cs hc hagg hi (h _ rfl)
structure StopS (p : Prop) : Prop where
  out : p
theorem stop_at {P : Program} {ops : Array Oper} {rest : List Oper} {o : Oper} {a : Act} {w : World} {Q : Exit → Act → World → Prop} (op : Op) (_ : o.op = op) (h : StopS (wpList P ops Q (o :: rest) a w)) : wpList P ops Q (o :: rest) a w := h.out
theorem add_at (b i j : Nat) : (⟨b, i, none⟩ : Addr).add j = ⟨b, i + j, none⟩ := by unfold Addr.add; split <;> simp_all
end Go
namespace Go.Proofs.Ytbbhokodleaheaa
open Go.RowKit
def Arr (w : World) (b : Nat) (t : TypeId) (cs : List Value) : Prop := w.heap[b]? = some (.cells cs.toArray t)
theorem Arr.lt {w : World} {b : Nat} {t : TypeId} {cs : List Value} (h : Arr w b t cs) : b < w.heap.size := (Array.getElem?_eq_some_iff.1 h).1
theorem Arr.cell {w : World} {b : Nat} {t : TypeId} {cs : List Value} (h : Arr w b t cs) (j : Nat) : w.cell? ⟨b, j, none⟩ = cs[j]? := by
  rw [cell_of_row w b j _ _ _ h]; simp
theorem Arr.free {w : World} {b : Nat} {t : TypeId} {cs : List Value} (h : Arr w b t cs) (j : Nat) : w.frozen? ⟨b, j, none⟩ = false := frozen_of_row w b j _ _ h
theorem Arr.grown {w w' : World} {b : Nat} {t : TypeId} {cs : List Value} {row : Option Nat} (h : Arr w b t cs) (hg : w.grownBy w' row) (hne : some b ≠ row) : Arr w' b t cs := (hg.block b h.lt hne).trans h
theorem Arr.below {w w' : World} {b : Nat} {t : TypeId} {cs : List Value} {n : Nat} (h : Arr w b t cs) (hg : Below n w w') (hne : b < n) : Arr w' b t cs := (hg.block b hne).trans h
theorem Arr.set {w : World} {b : Nat} {t : TypeId} {cs : List Value} (h : Arr w b t cs) (j : Nat) (v : Value) : Arr (w.setCell ⟨b, j, none⟩ v) b t (cs.set j v) := by
  unfold Arr
  rw [heap_setCell_same w b j _ t v h]
  simp
theorem bel_grown {w w' : World} (h : Below w.heap.size w w') (row : Option Nat) : w.grownBy w' row := ⟨h.os, h.tape, h.output, h.size, fun k hk _ => h.block k hk⟩
theorem gro_trans {a b c : World} {row : Option Nat} (h : a.grownBy b row) (k : b.grownBy c row) : a.grownBy c row :=
  ⟨k.os.trans h.os, k.tape.trans h.tape, k.output.trans h.output, Nat.le_trans h.size k.size, fun i hi hn => (k.block i (Nat.lt_of_lt_of_le hi h.size) hn).trans (h.block i hi hn)⟩
theorem grown_set {a b : World} {p : Nat} (h : a.grownBy b (some p)) (j : Nat) (v : Value) : a.grownBy (b.setCell ⟨p, j, none⟩ v) (some p) :=
  ⟨h.os, h.tape, h.output, by simpa using h.size, fun i hi hn => (heap_setCell_other b _ i v (fun e => hn (by rw [e]))).trans (h.block i hi hn)⟩
open Go.RowKit
def vElem (v : Value) : Option (DataW Value × List MemPlace) := some (.held v, [])
def MF (w : World) (K : TypeId) (b n : Nat) (F : Value → Option Value) : Prop :=
  ∃ D : DataW Value, w.ownsMap Try.prog K vElem b n D ∧ Maps.size D = n ∧
    ∀ v l, keyOf Try.prog K v = some l → (F v = none ∧ Maps.has D l = false ∧ ∀ z, D.atKey l z = z) ∨ ∃ u, F v = some u ∧ Maps.has D l = true ∧ ∀ z, D.atKey l z = .held u
theorem MF.lt {w : World} {K : TypeId} {b n : Nat} {F : Value → Option Value} (h : MF w K b n F) : b < w.heap.size := by
  obtain ⟨D, h1, _⟩ := h
  exact h1.lt
theorem MF.made (w : World) (K : TypeId) : MF (w.alloc (.map #[] 0)) K w.heap.size 0 fun _ => none :=
  ⟨.map [], World.ownsMap_made w _ _ _, rfl, fun _ _ _ => .inl ⟨rfl, rfl, fun _ => rfl⟩⟩
theorem MF.kept {w w' : World} {K : TypeId} {b n : Nat} {F : Value → Option Value} {row : Option Nat} (h : MF w K b n F) (hg : w.grownBy w' row) (hne : some b ≠ row) : MF w' K b n F := by
  obtain ⟨D, h1, h2⟩ := h
  exact ⟨D, h1.kept hg hne, h2⟩
theorem MF.below {w w' : World} {K : TypeId} {b n m : Nat} {F : Value → Option Value} (h : MF w K b n F) (hb : Below m w w') (hm : b < m) : MF w' K b n F := by
  obtain ⟨D, ⟨es, clock, h1, r⟩, h2⟩ := h
  exact ⟨D, ⟨es, clock, by rw [hb.block b hm]; exact h1, r⟩, h2⟩
theorem MF.look1 {w : World} {K : TypeId} {b n : Nat} {F : Value → Option Value} (h : MF w K b n F) (hK : Maps.Keyed Try.prog K) {t e : TypeId} (ht : Try.prog.underlying t = some (.map K e)) {z : Value} (hz : (zeroValue e).run Try.prog w = .ok z w)
    {v : Value} {l : Lit} (hv : keyOf Try.prog K v = some l) : (Instr.lookup t (.map (some b)) v false).run Try.prog w = .ok ((F v).getD z) w := by
  obtain ⟨D, h1, _, h3⟩ := h
  obtain ⟨u, ps, hr, hu⟩ := h1.lookup hK ht hz (zd := .held z) (zp := []) rfl hv
  rw [hr]
  unfold vElem at hu
  rcases h3 v l hv with ⟨e1, e2, e3⟩ | ⟨x, e1, e2, e3⟩
  · rw [e3] at hu
    simp at hu
    rw [e1, hu.1]
    rfl
  · rw [e3] at hu
    simp at hu
    rw [e1, hu.1]
    rfl
theorem MF.update {w : World} {K : TypeId} {b n : Nat} {F : Value → Option Value} (h : MF w K b n F) (hK : Maps.Keyed Try.prog K) {t e : TypeId} (ht : Try.prog.underlying t = some (.map K e)) (hn : n < maxLen) {key val : Value} {l : Lit} (hkey : keyOf Try.prog K key = some l) :
    ∃ w' F' n', (Instr.mapUpdate t (.map (some b)) key val).run Try.prog w = .ok () w' ∧ MF w' K b n' F' ∧ w.grownBy w' (some b) ∧ F' key = some val ∧ (∀ x, x ≠ key → F' x = F x) ∧ (F key = none → n' = n + 1) ∧ (F key ≠ none → n' = n) := by
  obtain ⟨D, h1, h2, h3⟩ := h
  obtain ⟨w', hr, h4, h5⟩ := h1.update hK ht hn hkey (d := .held val) (ps := []) rfl
  have hk := hK.key hkey
  have hsz := Maps.size_put (k := l) (h1.tidy hK) (.held val)
  haveI : ∀ x : Value, Decidable (x = key) := fun x => Classical.propDecidable _
  refine ⟨w', fun x => if x = key then some val else F x, Maps.size (D.put l (.held val)), hr, ⟨D.put l (.held val), ?_, rfl, ?_⟩, h5, if_pos rfl, fun x hx => if_neg hx, fun hN => ?_, fun hS => ?_⟩
  · obtain ⟨es, clock, hb, F0, hs, hD⟩ := h4
    refine ⟨es, clock, hb, F0, ?_, hD⟩
    rw [hD]
    simp [Maps.size, length_sorted]
  · intro v l' hv
    by_cases hvk : v = key
    · subst hvk
      rw [hkey] at hv
      obtain rfl := Option.some.inj hv
      exact .inr ⟨val, if_pos rfl, Maps.has_put_same h1.isMap hk _, fun z => Maps.atKey_put_same h1.isMap hk _ z⟩
    · have hne : l' ≠ l := fun e => hvk (hK.inj hv (by rw [e]; exact hkey))
      simp only [hvk, if_false]
      rw [Maps.has_put_other hne]
      rcases h3 v l' hv with ⟨e1, e2, e3⟩ | ⟨u, e1, e2, e3⟩
      · exact .inl ⟨e1, e2, fun z => by rw [Maps.atKey_put_other hne]; exact e3 z⟩
      · exact .inr ⟨u, e1, e2, fun z => by rw [Maps.atKey_put_other hne]; exact e3 z⟩
  · rcases h3 key l hkey with ⟨e1, e2, _⟩ | ⟨u, e1, _⟩
    · rw [hsz, e2, h2]
      simp
    · rw [hN] at e1
      cases e1
  · rcases h3 key l hkey with ⟨e1, _⟩ | ⟨u, e1, e2, _⟩
    · exact absurd e1 hS
    · rw [hsz, e2, h2]
      simp
open Go.RowKit
structure QS (w : World) (p f : Nat) (l : List VT) : Prop where
  mem : Arr w p 119 (.int .i64 f :: cellsV l)
  len : l.length = 13
  f1 : 1 ≤ f
  f4 : f ≤ 4
  ok : ∀ v ∈ l, v.ok
  out : ∀ i (hi : i < l.length), 3 * f + 1 ≤ i → l[i].is = false
theorem QS.lt {w : World} {p f : Nat} {l : List VT} (h : QS w p f l) : p < w.heap.size := h.mem.lt
theorem QS.keep {w w' : World} {p f : Nat} {l : List VT} (h : QS w p f l) (hk : w'.heap[p]? = w.heap[p]?) : QS w' p f l := ⟨hk.trans h.mem, h.len, h.f1, h.f4, h.ok, h.out⟩
theorem QS.below {w w' : World} {p f : Nat} {l : List VT} (h : QS w p f l) (hb : Below w.heap.size w w') : QS w' p f l := h.keep (hb.block p h.lt)
theorem QS.f {w : World} {p f : Nat} {l : List VT} (h : QS w p f l) : w.cell? ⟨p, 0, none⟩ = some (.int .i64 f) := by rw [h.mem.cell]; rfl
theorem QS.cells {w : World} {p f : Nat} {l : List VT} (h : QS w p f l) (k j : Nat) (hk : k < l.length) (hj : j < 4) : w.cell? ⟨p, 1 + k * 4 + j, none⟩ = (l[k].cells)[j]? := by
  rw [h.mem.cell, show 1 + k * 4 + j = (k * 4 + j) + 1 from by omega, List.getElem?_cons_succ, cellsV_get l k j hk hj]
theorem QS.row {w : World} {p f : Nat} {l : List VT} (h : QS w p f l) : ∀ j v, (cellsV l)[j]? = some v → w.cell? ((⟨p, 1, none⟩ : Addr).add j) = some v := by
  intro j v hv
  rw [add_at, h.mem.cell, show 1 + j = j + 1 from by omega, List.getElem?_cons_succ]
  exact hv
theorem aggV (w : World) : (isAgg 117).run Try.prog w = .ok true w := by
  simp [isAgg, run_underlying Try.underlying117 w]
theorem sizeV : (Try.prog.info? 117).map (·.size) = some 52 := by kernel_rfl
theorem size1 : (Try.prog.info? 116).map (·.size) = some 4 := by kernel_rfl
theorem indexV (l : List VT) (hl : l.length = 13) (k : Nat) (hk : k < l.length) (w : World) : (Instr.index 117 (.agg (cellsV l).toArray) (.int .i64 k)).run Try.prog w = .ok (.agg #[.bool l[k].is, .string l[k].word, .string l[k].body, .string l[k].tag]) w := by
  have e : (cellsV l).toArray.extract (k * 4) (k * 4 + 4) = #[.bool l[k].is, .string l[k].word, .string l[k].body, .string l[k].tag] := by
    have h := cellsV_at l k hk
    apply Array.ext'
    simp only [Array.toList_extract, List.extract_eq_take_drop, Nat.add_sub_cancel_left]
    exact h
  have hk2 : k < 13 := by omega
  cases hq : Try.prog.info? 116 with
  | none => have := size1; rw [hq] at this; simp at this
  | some i =>
    have hs : i.size = 4 := by have := size1; rw [hq] at this; simpa using this
    simp [Instr.index, asIntOf, run_underlying Try.underlying117 w, sizeOf, typeInfo, hq, hs, Go.part, hk2]
    simpa using e
theorem QS.set {w : World} {p f : Nat} {l : List VT} (h : QS w p f l) (k : Nat) (hk : k < 3 * f + 1) (v : VT) (hv : v.ok) : QS (w.setCells p (1 + k * 4) [.bool v.is, .string v.word, .string v.body, .string v.tag]) p f (l.set k v) := by
  have f4 := h.f4
  have hkl : k < l.length := by rw [h.len]; omega
  have hm := ((((h.mem.set (1 + k * 4) (.bool v.is)).set (1 + k * 4 + 1) (.string v.word)).set (1 + k * 4 + 1 + 1) (.string v.body)).set (1 + k * 4 + 1 + 1 + 1) (.string v.tag))
  have e : ((((.int .i64 f :: cellsV l).set (1 + k * 4) (.bool v.is)).set (1 + k * 4 + 1) (.string v.word)).set (1 + k * 4 + 1 + 1) (.string v.body)).set (1 + k * 4 + 1 + 1 + 1) (.string v.tag) = .int .i64 f :: cellsV (l.set k v) := by
    rw [show 1 + k * 4 = k * 4 + 1 from by omega]
    simp only [List.set_cons_succ]
    rw [← cellsV_set l k v hkl]
  refine ⟨?_, by rw [List.length_set]; exact h.len, h.f1, h.f4, fun u hu => ?_, fun i hi ho => ?_⟩
  · rw [e] at hm
    exact hm
  · rcases List.mem_or_eq_of_mem_set hu with hu | rfl
    · exact h.ok u hu
    · exact hv
  · rw [List.getElem_set_ne (by omega)]
    exact h.out i (by rw [List.length_set] at hi; exact hi) ho
theorem grown_cells (w : World) (p o : Nat) (vs : List Value) : w.grownBy (w.setCells p o vs) (some p) := by
  induction vs generalizing w o with
  | nil => exact ⟨rfl, rfl, rfl, Nat.le_refl _, fun _ _ _ => rfl⟩
  | cons v vs ih =>
    have h1 : w.grownBy (w.setCell ⟨p, o, none⟩ v) (some p) := grown_set (bel_grown (Below.refl _ w) _) o v
    exact gro_trans h1 (ih _ _)
theorem QS.there {w : World} {p f : Nat} {l : List VT} (h : QS w p f l) (k : Nat) (hk : k < l.length) : w.there p (1 + k * 4) 4 := fun j hj => by
  refine ⟨?_, h.mem.free _⟩
  rw [h.cells k j hk hj]
  have : j < (l[k].cells).length := hj
  simp [this]
theorem keyLawS : WideMaps.KeyLaw Try.prog 9 := WideMaps.string_law Try.underlying9
theorem keyedS : Maps.Keyed Try.prog 9 := Maps.Keyed.of_law keyLawS
theorem keyS (s : ByteArray) (h : s.size ≤ maxLen) : ∃ l, keyOf Try.prog 9 (.string s) = some l := by
  unfold keyOf
  rw [Try.underlying9]
  simp [mapKey, h]
theorem zeroN (u : World) : (zeroValue 3).run Try.prog u = .ok (.int .i64 0) u := by kernel_rfl
theorem look_c {w : World} {b n : Nat} {F : Value → Option Value} {l : List VT} (h : MF w 9 b n F) (hc : CntS F l) (s : ByteArray) (hs : s.size ≤ maxLen) : (Instr.lookup 110 (.map (some b)) (.string s) false).run Try.prog w = .ok (.int .i64 (cntV s l : Nat)) w := by
  obtain ⟨li, hl⟩ := keyS s hs
  have := h.look1 keyedS Try.underlying110 (zeroN w) hl
  rw [hc s] at this
  exact this
open Go.RowKit
def sb (s : ByteArray) : List Int := s.data.toList.map fun c => (c.toNat : Int)
theorem sb_len (s : ByteArray) : (sb s).length = s.size := by simp [sb]
theorem sb_byte (s : ByteArray) : Byt (sb s) := by
  intro x hx
  simp only [sb, List.mem_map] at hx
  obtain ⟨c, _, rfl⟩ := hx
  have := c.toNat_lt
  omega
theorem sb_inj {s t : ByteArray} (h : sb s = sb t) : s = t := by
  have h1 : s.data.toList = t.data.toList := by
    refine List.map_inj_right (f := fun c : UInt8 => (c.toNat : Int)) (fun a b e => ?_) |>.1 h
    exact UInt8.toNat_inj.1 (Int.ofNat.inj e)
  exact ByteArray.ext (Array.toList_inj.1 h1)
theorem bytesWorld_sl (w : World) (s : ByteArray) (hs : s.size ≤ 140737488355328) : Sl (Lib.bytesWorld w 5 s) (some ⟨w.heap.size, 0, none⟩) s.size (grownCap w s.size 0 5) (sb s) := by
  refine ⟨sb_len s, grownCap_ge w _ _ _, grownCap_le_maxLen w _ _ _ (by simp only [maxLen]; omega), fun h => by simp at h, fun a ha i hi => ?_, sb_byte s⟩
  obtain rfl := Option.some.inj ha
  rw [Addr.add_lit, Nat.zero_add, Lib.bytesWorld_cell w _ s i hi]
  simp [sb, List.getD, hi]
theorem bytesWorld_below (w : World) (s : ByteArray) : Below w.heap.size w (Lib.bytesWorld w 5 s) :=
  ⟨rfl, rfl, rfl, by rw [Lib.bytesWorld_size]; omega, fun k hk => Lib.bytesWorld_at_old w _ s k hk⟩
theorem wpList_conv_bytes {w : World} {ops : Array Oper} {rest : List Oper} {o : Oper} {a : Act} {Q : Exit → Act → World → Prop} (hgd : o.guard = none) (x : Operand) (ho : o.op = .convert 9 35 x)
    (s : ByteArray) (hx : a.eval x = .string s) (hs : s.size ≤ 140737488355328)
    (h : ∀ g c w', g = w.heap.size → Sl w' (some ⟨g, 0, none⟩) s.size c (sb s) → Below w.heap.size w w' → wpList Try.prog ops Q rest (a.put o.dst (.slice (some ⟨g, 0, none⟩) s.size c)) w') : wpList Try.prog ops Q (o :: rest) a w := by
  refine wpList_plain hgd fun K hK => ?_
  have hr := Lib.run_convert_string_bytes (P := Try.prog) w 9 35 5 s Try.underlying9 Try.underlying35 Try.underlying5
  unfold Oper.wp execOp
  simp only [ho, hx, hr, Sem.run_bind, Sem.run_pure, Result.andThen_ok]
  exact hK _ _ (h _ _ _ rfl (bytesWorld_sl w s hs) (bytesWorld_below w s))
open Go.RowKit
theorem sb_str {xs : List Int} (h : Byt xs) : sb (strOfNums xs) = xs := by
  unfold sb
  rw [strOfNums_data, List.map_map]
  refine (List.map_congr_left fun x hx => ?_).trans (List.map_id xs)
  have := h x hx
  simp only [Function.comp_apply, id_eq, UInt8.toNat_ofNat']
  omega
theorem conv_str {w : World} {ao : Option Addr} {n cap : Nat} {xs : List Int} (h : Sl w ao n cap xs) : (convert 35 9 (.slice ao n cap)).run Try.prog w = .ok (.string (strOfNums xs)) w := by
  cases ao with
  | none =>
    obtain ⟨rfl, rfl⟩ := h.nil rfl
    obtain rfl : xs = [] := List.eq_nil_of_length_eq_zero h.len
    exact run_convert_bytes_nil w _ _ Try.underlying35 Try.underlying5 _ _ _ Try.underlying9
  | some a =>
    have hl := h.len
    have hc := run_convert_bytes_back (P := Try.prog) w 35 9 5 a cap (xs.map fun n => UInt8.ofNat n.toNat) Try.underlying35 Try.underlying5 Try.underlying9 (fun j hj => by
      have hj' : j < xs.length := by simpa using hj
      have hb := h.byte xs[j] (List.getElem_mem hj')
      rw [h.cells a rfl j _ (bv_get xs j hj')]
      simp only [List.getElem_map, UInt8.toNat_ofNat', List.getD, List.getElem?_eq_getElem hj', Option.getD_some, Option.some.injEq, Value.int.injEq, true_and]
      omega)
    rw [List.length_map, hl] at hc
    exact hc
end Go.Proofs.Ytbbhokodleaheaa
namespace Go
section
variable {P : Program} {ops : Array Oper} {S : World → Prop} {Q : Exit → Act → World → Prop} {fuel : Nat} {listed : Array Bool} {a : Act} {w : World}
theorem hr_take_w (i : Nat) (d : Option Tmp) (v : Value) {oi : Oper} (hi : ops[i]? = some oi) (hd : oi.dst = d) (hs : Region.noSelect ops = true) (hf : Region.free .any ops listed i = true) (hr : (Region.ready .any ops listed).contains i = true)
    (hw : Region.wanted oi (yielded ops a.tmps) = true) (hrun : ∀ W, S W → (execOp a.eval oi).run P W = .ok (.value v) W) (hS : S w) (h : wpAnyH P .any ops (NoPanic Q) S fuel (listed.setIfInBounds i true) (a.put d v) w) : wpAnyH P .any ops (NoPanic Q) S (fuel + 1) listed a w :=
  wpAnyH_take hi hs hf hr (fun _ _ _ h => h) (.inl ⟨hw, hrun⟩) hS (by rw [hd]; exact h)
theorem hr_none (i : Nat) (d : Option Tmp) {oi : Oper} (hi : ops[i]? = some oi) (hd : oi.dst = d) (hs : Region.noSelect ops = true) (hf : Region.free .any ops listed i = true) (hr : (Region.ready .any ops listed).contains i = true)
    (hw : Region.wanted oi (yielded ops a.tmps) = false) (hS : S w) (h : wpAnyH P .any ops (NoPanic Q) S fuel (listed.setIfInBounds i true) (a.put d undef) w) : wpAnyH P .any ops (NoPanic Q) S (fuel + 1) listed a w :=
  wpAnyH_take hi hs hf hr (fun _ _ _ h => h) (.inr ⟨hw, rfl⟩) hS (by rw [hd]; exact h)
theorem hr_do (i : Nat) (d : Option Tmp) (v : Value) {oi : Oper} {w' : World} (hi : ops[i]? = some oi) (hd : oi.dst = d) (hr : Region.ready .any ops listed = [i]) (hg : oi.guard = none) (hrun : (execOp a.eval oi).run P w = .ok (.value v) w') (hS : S w')
    (h : wpAnyH P .any ops (NoPanic Q) S fuel (listed.setIfInBounds i true) (a.put d v) w') : wpAnyH P .any ops (NoPanic Q) S (fuel + 1) listed a w := by
  refine wpAnyH_all hr (by simp) fun j hj => ?_
  obtain rfl := List.mem_singleton.1 hj
  have hw : Region.wanted oi (yielded ops a.tmps) = true := by simp [Region.wanted, hg]
  unfold wpOp
  simp only [hi, hw, if_true, Oper.wp, hrun, Oper.upon, hd]
  exact .inl ⟨hS, h⟩
theorem hr_skip (i : Nat) (d : Option Tmp) {oi : Oper} {w' : World} (hi : ops[i]? = some oi) (hd : oi.dst = d) (hr : Region.ready .any ops listed = [i]) (hg : oi.guard = none) (hrun : (execOp a.eval oi).run P w = .ok .skip w') (hS : S w')
    (h : wpAnyH P .any ops (NoPanic Q) S fuel (listed.setIfInBounds i true) (a.put d undef) w') : wpAnyH P .any ops (NoPanic Q) S (fuel + 1) listed a w := by
  refine wpAnyH_all hr (by simp) fun j hj => ?_
  obtain rfl := List.mem_singleton.1 hj
  have hw : Region.wanted oi (yielded ops a.tmps) = true := by simp [Region.wanted, hg]
  unfold wpOp
  simp only [hi, hw, if_true, Oper.wp, hrun, Oper.upon, hd]
  exact .inl ⟨hS, h⟩
theorem hr_call_w (i : Nat) (d : Option Tmp) {oi : Oper} (f : FuncId) (args : Array Value) (hi : ops[i]? = some oi) (hd : oi.dst = d) (hr : Region.ready .any ops listed = [i]) (hw : Region.wanted oi (yielded ops a.tmps) = true) (hrun : (execOp a.eval oi).run P w = .ok (.enter f args) w)
    (R : Value → World → Prop) (hc : Calls P f args w fun e w' => ∃ v, e = .returned v ∧ R v w')
    (h : ∀ v w', R v w' → S w' ∧ wpAnyH P .any ops (NoPanic Q) S fuel (listed.setIfInBounds i true) (a.put d v) w') : wpAnyH P .any ops (NoPanic Q) S (fuel + 1) listed a w := by
  refine wpAnyH_all hr (by simp) fun j hj => ?_
  obtain rfl := List.mem_singleton.1 hj
  unfold wpOp
  simp only [hi, hw, if_true, Oper.wp, hrun, Oper.upon, hd]
  refine .inl (hc.mono ?_)
  rintro e w' ⟨v, rfl, hR⟩
  exact h v w' hR
end
end Go
namespace Go.Proofs.Ytbbhokodleaheaa
open Go.RowKit
set_option maxRecDepth 100000 in
set_option maxHeartbeats 4000000 in
theorem counts_any (w : World) (p f : Nat) (l : List VT) (h : QS w p f l) : Calls Try.prog 68 #[.pointer (some ⟨p, 0, none⟩)] w fun x w' =>
    ∃ (n : Nat) (F : Value → Option Value), x = .returned (.map (some w.heap.size)) ∧ MF w' 9 w.heap.size n F ∧ Hid (CntS F l) ∧ Below w.heap.size w w' := by
  have hlen := h.len
  have HC := h.row
  have hcl : (Try.prog.info? 117).map (·.size) = some (cellsV l).length := by rw [cellsV_len, hlen]; exact sizeV
  obtain ⟨W1, hW1⟩ : ∃ V, V = w.alloc (.map #[] 0) := ⟨_, rfl⟩
  have C1 : Below w.heap.size w W1 := by rw [hW1]; exact (Below.refl _ _).alloc (Nat.le_refl _) _
  have M1 : MF W1 9 w.heap.size 0 (fun _ => none) := by rw [hW1]; exact MF.made w _
  have HR := (h.below C1).row
  have hmm := @run_makeMap Try.prog
  go_enter Try.func68, Try.ntmps68
  go_wp2_with (refine wpList_load_named rfl 117 (Operand.tmp 9) rfl ⟨p, 1, none⟩ rfl (cellsV l) (by rw [← hW1]; exact HR) aggV hcl ?_; rintro AV hAV0; have hAV : Hid (AV = _) := hAV0; clear hAV0)
  rw [← hW1]
  have HIX : Hid (∀ k (hk : k < l.length) W, (Instr.index 117 AV (.int .i64 k)).run Try.prog W = .ok (.agg #[.bool l[k].is, .string l[k].word, .string l[k].body, .string l[k].tag]) W) := fun k hk W => by rw [hAV.out]; exact indexV l hlen k hk W
  clear hW1 hmm HR HC hcl hAV
  go_loopw [11] (fun i wr => ∃ (j mn : Nat) (F : Value → Option Value), j ≤ 13 ∧ i = .int .i64 j ∧ MF wr 9 w.heap.size mn F ∧ mn ≤ j ∧ Hid (CntS F (l.take j)) ∧ Below w.heap.size w wr) (fun i _ => 13 - (intOf i).toNat)
  case atStart => exact ⟨0, 0, _, Nat.zero_le _, rfl, M1, Nat.le_refl _, fun _ => rfl, C1⟩
  case round =>
    obtain ⟨j, mn, F, hj, rfl, M, hmn, HF, B⟩ := hrel
    by_cases hlt : j < 13
    · have hji : (j : Int) < 13 := by omega
      have hjl : j < l.length := by omega
      have HT : Hid (l.take (j + 1) = l.take j ++ [l[j]]) := List.take_succ_eq_append_getElem hjl
      have r1 := HIX.out j hjl
      have vok := h.ok _ (List.getElem_mem hjl)
      obtain ⟨v, hv⟩ : ∃ v, v = l[j] := ⟨_, rfl⟩
      rw [← hv] at r1 vok HT
      clear hv HIX hjl
      have C2 : Below wr.heap.size wr (wr.alloc (.cells #[.bool v.is, .string v.word, .string v.body, .string v.tag] 116)) := (Below.refl _ _).alloc (Nat.le_refl _) _
      have M2 := M.below C2 M.lt
      have B2 := B.trans (C2.mono B.size)
      clear C2 M B
      cases hvi : v.is with
      | false =>
        have HF2 : Hid (CntS F (l.take (j + 1))) := by
          show CntS _ _
          rw [HT.out]
          exact HF.out.skip hvi
        rw [hvi] at r1 M2 B2
        clear HF HT
        go_wp2
        go_roundw
        case rel => exact ⟨j + 1, mn, F, by omega, by go_num, M2, by omega, HF2, B2⟩
        case measure => simp [intOf]; omega
      | true =>
        rw [hvi] at r1 M2 B2
        obtain ⟨li, hli⟩ := keyS v.word (by have := vok.word; unfold maxLen; omega)
        have hlk := look_c M2 HF.out v.word (by have := vok.word; unfold maxLen; omega)
        have hc13 : cntV v.word (l.take j) ≤ 13 := Nat.le_trans (cntV_le _ _) (by rw [List.length_take]; omega)
        obtain ⟨w3, F', n', hup, M3, g3, f1, f2, f3, f4⟩ := M2.update keyedS Try.underlying110 (by unfold maxLen; omega) hli (val := .int .i64 ((cntV v.word (l.take j) : Nat) + 1 : Int))
        have hn' : n' ≤ mn + 1 := by
          cases hf : F (.string v.word) with
          | none => exact Nat.le_of_eq (f3 hf)
          | some u => have := f4 (by rw [hf]; simp); omega
        have HF2 : Hid (CntS F' (l.take (j + 1))) := by
          show CntS _ _
          rw [HT.out]
          exact HF.out.step hvi f1 f2
        have B3 : Below w.heap.size w w3 := B2.grown g3 B2.size (fun i hi => by cases hi; exact Nat.le_refl _)
        generalize cntV v.word (l.take j) = c at hlk hc13 hup
        have hci : (c : Int) ≤ 13 := by omega
        clear f1 f2 f3 f4 g3 M2 HF HT hli hc13
        go_wp2
        go_roundw
        case rel => exact ⟨j + 1, n', F', by omega, by go_num, M3, by omega, HF2, B3⟩
        case measure => simp [intOf]; omega
    · have hge : ¬ (j : Int) < 13 := by omega
      have HT : Hid (l.take j = l) := List.take_of_length_le (by omega)
      rw [HT.out] at HF
      go_wp2
      go_ret
      exact ⟨rfl, mn, F, M, HF, B⟩
open Go.RowKit
theorem sl_str_le {w : World} {ao : Option Addr} {n cap : Nat} {xs : List Int} (S : Sl w ao n cap xs) : (strOfNums xs).size ≤ maxLen := by
  rw [strOfNums_size, S.len]
  exact Nat.le_trans S.le S.mx
set_option maxRecDepth 100000 in
set_option maxHeartbeats 4000000 in
theorem count_any (w : World) (p f : Nat) (l : List VT) (h : QS w p f l) (ao : Option Addr) (n cap : Nat) (xs : List Int) (S : Sl w ao n cap xs) : Calls Try.prog 45 #[.pointer (some ⟨p, 0, none⟩), .slice ao n cap] w fun x w' =>
    x = .returned (.int .i64 (cntV (strOfNums xs) l : Nat)) ∧ Below w.heap.size w w' := by
  have hle := sl_str_le S
  have HC : Hid (∀ V, Below w.heap.size w V → (convert 35 9 (.slice ao n cap)).run Try.prog V = .ok (.string (strOfNums xs)) V) := fun V hV => conv_str (S.below hV)
  go_enter Try.func45, Try.ntmps45
  go_wp2_with fail
  have E0 : Below w.heap.size w w.drew := (Below.refl _ _).drew
  have Q0 := h.below E0
  refine wp_region_noPanic ?_
  refine wp_region_held_drew (S := fun V => (convert 35 9 (.slice ao n cap)).run Try.prog V = .ok (.string (strOfNums xs)) V) (by kernel_rfl) (HC.out _ E0) (fun H0 => ?_)
  obtain ⟨v0, hv0⟩ : ∃ v, v = w.drew := ⟨_, rfl⟩
  rw [← hv0] at H0 E0 Q0 ⊢
  clear hv0
  refine hr_take_w 0 (some 7) (.pointer (some ⟨p, 0, none⟩)) rfl rfl (by kernel_rfl) (by kernel_rfl) (by kernel_rfl) rfl (fun W hW => by go_simp) H0 ?_
  simp only [FL]
  refine hr_take_w 2 (some 9) (.slice ao n cap) rfl rfl (by kernel_rfl) (by kernel_rfl) (by kernel_rfl) rfl (fun W hW => by go_simp) H0 ?_
  simp only [FL]
  refine hr_take_w 3 (some 10) (.string (strOfNums xs)) rfl rfl (by kernel_rfl) (by kernel_rfl) (by kernel_rfl) rfl (fun W hW => by go_simp) H0 ?_
  simp only [FL]
  refine hr_call_w 1 (some 8) 68 #[.pointer (some ⟨p, 0, none⟩)] rfl rfl (by kernel_rfl) rfl (by go_simp) (fun v w' => ∃ (m : Nat) (F : Value → Option Value), v = .map (some v0.heap.size) ∧ MF w' 9 v0.heap.size m F ∧ Hid (CntS F l) ∧ Below v0.heap.size v0 w') ((counts_any v0 p f l Q0).mono (by
    rintro e w' ⟨m, F, rfl, M, HF, C⟩
    exact ⟨_, rfl, m, F, rfl, M, HF, C⟩)) ?_
  rintro v v1 ⟨m, F, rfl, M, HF, C1⟩
  have E1 := E0.trans (C1.mono E0.size)
  have H1 := HC.out v1 E1
  have hlk := look_c M HF.out (strOfNums xs) hle
  refine ⟨H1, ?_⟩
  simp only [FL]
  refine hr_do 4 (some 11) (.int .i64 (cntV (strOfNums xs) l : Nat)) rfl rfl (by kernel_rfl) rfl (w' := v1) (by go_simp) H1 ?_
  simp only [FL]
  refine hr_take_w 5 (some 4) (.int .i64 (cntV (strOfNums xs) l : Nat)) rfl rfl (by kernel_rfl) (by kernel_rfl) (by kernel_rfl) rfl (fun W hW => by go_simp) H1 ?_
  simp only [FL]
  refine wpAnyH_done (by kernel_rfl) ?_ _
  refine NoPanic.normal ?_
  go_wp2
  go_ret
  exact ⟨rfl, E1⟩
open Go.RowKit
theorem wpList_append_run {P : Program} {w w' : World} {v v' u : Value} {sl : TypeId} {ops : Array Oper} {rest : List Oper} {o : Oper} {a : Act} {Q : Exit → Act → World → Prop} (hgd : o.guard = none) (s x : Operand)
    (ho : o.op = .call { callee := .builtin .append, args := #[s, x], argTypes := #[sl, sl] }) (hs : a.eval s = v) (hx : a.eval x = u) (hr : (Builtin.append_ #[sl, sl] o.type #[v, u]).run P w = .ok v' w')
    (K : wpList P ops Q rest (a.put o.dst v') w') : wpList P ops Q (o :: rest) a w := by
  refine wpList_plain hgd fun K' hK => ?_
  unfold Oper.wp execOp
  simp only [ho, resolve, invoke, builtin, Sem.run_bind, Sem.run_pure, Result.andThen_ok, List.map_toArray, List.map_cons, List.map_nil, hs, hx, hr]
  exact hK _ _ K
theorem wpList_appG {α : Type} {E : El α} (F : E.Fine) {bytes : Nat} {zv : Value} {t sl : TypeId} (hty : GTy E.sz bytes zv t sl) {w : World} {ops : Array Oper} {rest : List Oper} {o : Oper} {a : Act} {Q : Exit → Act → World → Prop} (hgd : o.guard = none) (s x : Operand)
    (ho : o.op = .call { callee := .builtin .append, args := #[s, x], argTypes := #[sl, sl] }) {base : Nat} {v : Value} {ys : List α} (h : GI E t w base v ys) (hs : a.eval s = v) {ad : Addr} {cp : Nat} (hx : a.eval x = .slice (some ad) 1 cp) {y : α}
    (hG : ∀ j u, (E.c y)[j]? = some u → w.cell? (ad.add j) = some u) (he : E.ok y w) (hf : ∀ x, E.blk y x → v.ownBlock ≠ some x) (hn : (ys.length + 1) * bytes ≤ 140737488355328) (hm : ys.length + 1 ≤ maxLen) (hbase : base ≤ w.heap.size)
    (K : ∀ v' w', GI E t w' base v' (ys ++ [y]) → Below base w w' → wpList Try.prog ops Q rest (a.put o.dst v') w') : wpList Try.prog ops Q (o :: rest) a w := by
  obtain ⟨v', w', hr, h2, h3, _, _⟩ := h.app F hty o.type hG he hf hn hm hbase
  exact wpList_append_run hgd s x ho hs hx hr (K v' w' h2 h3)
theorem tyS : GTy elS.sz 56 (.agg #[.int .u64 0, .slice none 0 0, .slice none 0 0]) 62 47 := ⟨by kernel_rfl, rfl, Try.underlying47⟩
open Go.RowKit
structure KA where
  row : ByteArray
  fam : ByteArray
  qual : ByteArray
  time : Nat
open Go.RowKit
theorem toL_ne {s t : ByteArray} (h : s ≠ t) : (s.toList == t.toList) = false := by
  rw [beq_eq_false_iff_ne]
  intro e
  apply h
  rw [ByteArray.toList_eq, ByteArray.toList_eq] at e
  exact ByteArray.ext (Array.toList_inj.1 e)
open Go.RowKit
def prfV (s : ByteArray) : Nat → List VT → List SV
  | _, [] => []
  | i, v :: l => if v.fo s = true then ⟨i + 1, sb v.body, sb v.tag⟩ :: prfV s (i + 1) l else prfV s (i + 1) l
theorem prfV_app (s : ByteArray) (v : VT) : ∀ (l : List VT) (i : Nat), prfV s i (l ++ [v]) = prfV s i l ++ (if v.fo s = true then [⟨i + l.length + 1, sb v.body, sb v.tag⟩] else [])
  | [], i => by
    show prfV s i [v] = _
    unfold prfV
    simp only [prfV, List.length_nil, Nat.add_zero, List.nil_append]
  | u :: l, i => by
    have h := prfV_app s v l (i + 1)
    rw [List.cons_append]
    unfold prfV
    rw [h, List.length_cons, show i + 1 + l.length + 1 = i + (l.length + 1) + 1 from by omega]
    split
    · rw [List.cons_append]
    · rfl
def prfN (s : ByteArray) (l : List VT) (n : Int) : List SV := if n < 1 ∨ (cntV s l : Int) < n then [] else (prfV s 0 l).take n.toNat
def elF (base : Nat) : El SA := ⟨SA.cells, 3, fun x w => x.ok w ∧ ∀ z, x.blk z → base ≤ z, SA.blk⟩
theorem elF_fine (base : Nat) : (elF base).Fine :=
  ⟨elS_fine.len, elS_fine.pos, elS_fine.one, fun x w w' h hk => ⟨elS_fine.kept x w w' h.1 hk, h.2⟩, fun x w z h hz => elS_fine.lt x w z h.1 hz⟩
theorem GL.ofF {base : Nat} {w : World} {ao : Option Addr} {n cap : Nat} {l : List SA} (h : GL (elF base) w ao n cap l) : GL elS w ao n cap l ∧ ∀ x ∈ l, ∀ z, x.blk z → base ≤ z :=
  ⟨⟨h.len, h.le, h.mx, h.nil, h.cell, fun x hx => (h.ok x hx).1⟩, fun x hx => (h.ok x hx).2⟩
def PfPostF (w : World) (s : ByteArray) (l : List VT) (n : Int) (x : Ending) (w' : World) : Prop :=
  ∃ ao m cap ys, x = .returned (.slice ao m cap) ∧ GL elS w' ao m cap ys ∧ ys.map SA.v = prfN s l n ∧ Below w.heap.size w w' ∧ ∀ z, GLb elS ao m ys z → w.heap.size ≤ z
theorem tySF {b : Nat} : GTy (elF b).sz 56 (.agg #[.int .u64 0, .slice none 0 0, .slice none 0 0]) 62 47 := tyS
set_option maxRecDepth 100000 in
set_option maxHeartbeats 4000000 in
theorem proof_manyF (w : World) (p f : Nat) (l : List VT) (h : QS w p f l) (ao : Option Addr) (m cap : Nat) (xs : List Int) (S : Sl w ao m cap xs) (n : Nat) (hn : 1 ≤ n) (hc : n ≤ cntV (strOfNums xs) l) : Calls Try.prog 74 #[.pointer (some ⟨p, 0, none⟩), .slice ao m cap, .int .i64 (n : Nat)] w (PfPostF w (strOfNums xs) l n) := by
  have hlen := h.len
  have hcl : (Try.prog.info? 117).map (·.size) = some (cellsV l).length := by rw [cellsV_len, hlen]; exact sizeV
  have CC := count_any w p f l h ao m cap xs S
  have hc13 : cntV (strOfNums xs) l ≤ 13 := Nat.le_trans (cntV_le _ _) (by omega)
  have HP : Hid (prfN (strOfNums xs) l n = (prfV (strOfNums xs) 0 l).take n) := by show _ = _; unfold prfN; rw [if_neg (by omega)]; rfl
  have HCV : Hid (∀ V, Below w.heap.size w V → (convert 35 9 (.slice ao m cap)).run Try.prog V = .ok (.string (strOfNums xs)) V) := fun V hV => conv_str (S.below hV)
  generalize cntV (strOfNums xs) l = c at CC hc hc13
  generalize strOfNums xs = s at HP HCV ⊢
  have n13 : n ≤ 13 := by omega
  have i1 : (1 : Int) ≤ (n : Int) := by omega
  have i2 : (n : Int) ≤ (c : Int) := by omega
  clear hc hc13
  go_enter Try.func74, Try.ntmps74
  go_wp2_with fail
  refine CC.mono ?_
  rintro x w1 ⟨rfl, C1⟩
  have HR := (h.below C1).row
  clear CC
  go_wp2_with (refine wpList_load_named rfl 117 (Operand.tmp 21) rfl ⟨p, 1, none⟩ rfl (cellsV l) HR aggV hcl ?_; rintro AV hAV0; have hAV : Hid (AV = _) := hAV0; clear hAV0)
  have HIX : Hid (∀ k (hk : k < l.length) W, (Instr.index 117 AV (.int .i64 k)).run Try.prog W = .ok (.agg #[.bool l[k].is, .string l[k].word, .string l[k].body, .string l[k].tag]) W) := fun k hk W => by rw [hAV.out]; exact indexV l hlen k hk W
  clear HR hcl hAV i2 S
  go_loopw [7, 23] (fun v' i wr => ∃ (j : Nat) (v : Value) (ys : List SA), j ≤ 13 ∧ i = .int .i64 j ∧ v = v' ∧ GI (elF w.heap.size) 62 wr w.heap.size v ys ∧ Hid (ys.map SA.v = (prfV s 0 (l.take j)).take n) ∧ Below w.heap.size w wr) (fun _ i _ => 13 - (intOf i).toNat)
  case atStart => exact ⟨0, _, [], Nat.zero_le _, rfl, rfl, GI.nil _ _ _ _, by show _ = _; simp [prfV], C1⟩
  case round =>
    obtain ⟨j, v, ys, hj, rfl, rfl, GR, HY, B⟩ := hrel
    obtain ⟨vao, vcap, rfl⟩ := GR.slice
    have hsz := B.size
    by_cases hlt : j < 13
    · have hji : (j : Int) < 13 := by omega
      have hjl : j < l.length := by omega
      have HT : Hid (prfV s 0 (l.take (j + 1)) = prfV s 0 (l.take j) ++ (if l[j].fo s = true then [⟨j + 1, sb l[j].body, sb l[j].tag⟩] else [])) := by
        show _ = _
        rw [List.take_succ_eq_append_getElem hjl, prfV_app, List.length_take, show 0 + min j l.length + 1 = j + 1 from by omega]
      have r1 := HIX.out j hjl
      have vok := h.ok _ (List.getElem_mem hjl)
      obtain ⟨u, hu⟩ : ∃ u, u = l[j] := ⟨_, rfl⟩
      rw [← hu] at r1 vok HT
      clear hu HIX hjl
      have C2 : Below wr.heap.size wr (wr.alloc (.cells #[.bool u.is, .string u.word, .string u.body, .string u.tag] 116)) := (Below.refl _ _).alloc (Nat.le_refl _) _
      have B2 := B.trans (C2.mono B.size)
      have GR2 := GR.below (elF_fine _) C2
      have cv := HCV.out _ B2
      have hyl : ys.length = min n (prfV s 0 (l.take j)).length := by have := congrArg List.length HY.out; rw [List.length_map, List.length_take] at this; exact this
      have s2 := B2.size
      clear C2 B GR
      by_cases hfull : n ≤ ys.length
      · have HY2 : Hid (ys.map SA.v = (prfV s 0 (l.take (j + 1))).take n) := by
          show _ = _
          rw [HT.out, HY.out, List.take_append_of_le_length (by omega)]
        have i5 : (n : Int) ≤ (ys.length : Int) := by omega
        clear HY HT hfull hyl cv
        go_wp2
        go_roundw
        case rel => exact ⟨j + 1, _, ys, by omega, by go_num, rfl, GR2, HY2, B2⟩
        case measure => simp [intOf]; omega
      · have HY1 : Hid (ys.map SA.v = prfV s 0 (l.take j)) := by
          show _ = _
          rw [HY.out]
          exact List.take_of_length_le (by omega)
        have hyn : ys.length < n := by omega
        have i5 : (ys.length : Int) < (n : Int) := by omega
        have HYL : Hid (ys.length = (prfV s 0 (l.take j)).length) := by show _ = _; have := congrArg List.length HY1.out; rwa [List.length_map] at this
        clear HY hfull hyl
        cases hfo : u.fo s with
        | false =>
          have HY2 : Hid (ys.map SA.v = (prfV s 0 (l.take (j + 1))).take n) := by
            show _ = _
            rw [HT.out, hfo, if_neg (by simp), List.append_nil, HY1.out]
            exact (List.take_of_length_le (by have := HYL.out; omega)).symm
          cases his : u.is with
          | false =>
            rw [his] at r1 B2 GR2 cv
            clear HY1 HT HYL hfo his
            go_wp2
            go_roundw
            case rel => exact ⟨j + 1, _, ys, by omega, by go_num, rfl, GR2, HY2, B2⟩
            case measure => simp [intOf]; omega
          | true =>
            have hne : (u.word.toList == s.toList) = false := by
              unfold VT.fo at hfo
              rw [his] at hfo
              exact toL_ne (by simpa using hfo)
            rw [his] at r1 B2 GR2 cv
            clear HY1 HT HYL hfo his
            go_wp2
            go_roundw
            case rel => exact ⟨j + 1, _, ys, by omega, by go_num, rfl, GR2, HY2, B2⟩
            case measure => simp [intOf]; omega
        | true =>
          have his : u.is = true := by unfold VT.fo at hfo; cases hh : u.is with | true => rfl | false => rw [hh] at hfo; cases hfo
          have heq : u.word = s := by unfold VT.fo at hfo; rw [his] at hfo; simpa using hfo
          have hE : (u.word.toList == s.toList) = true := by rw [heq]; simp
          have HY2 : Hid (∀ y : SA, y.v = ⟨j + 1, sb u.body, sb u.tag⟩ → (ys ++ [y]).map SA.v = (prfV s 0 (l.take (j + 1))).take n) := fun y hy => by
            have hl := HYL.out
            rw [HT.out, hfo, if_pos rfl, List.take_of_length_le (by rw [List.length_append, List.length_singleton]; omega), List.map_append, HY1.out, List.map_cons, List.map_nil, hy]
          rw [his] at r1 B2 GR2 cv s2
          have vlt : Hid (∀ z, (Value.slice vao ys.length vcap).ownBlock = some z → z < (wr.alloc (.cells #[.bool true, .string u.word, .string u.body, .string u.tag] 116)).heap.size) := fun z hz => (GR2.own.lt z hz).2
          have hb := vok.body
          have ht := vok.tag
          have iw : IntKind.u64.wrap (j : Int) = (j : Int) := by rw [IntKind.wrap_u64]; omega
          clear HY1 HT HYL hfo his heq vok HCV h
          go_wp2_with (refine stop_at (.convert 9 35 (Operand.tmp 47)) rfl ?_)
          refine ⟨?_⟩
          refine wpList_conv_bytes rfl (Operand.tmp 47) rfl u.body rfl (by omega) ?_
          rintro g3 c3 w3 hg30 S3 C3
          have hg3 := Nat.le_of_eq hg30.symm
          clear hg30
          have B3 := B2.trans (C3.mono B2.size)
          have GR3 := GR2.below (elF_fine _) C3
          have k2 : w3.cell? ⟨wr.heap.size, 3, none⟩ = some (.string u.tag) := by
            rw [C3.cell (p := ⟨wr.heap.size, 3, none⟩) (by simp), cell_of_row _ _ 3 _ _ _ (heap_alloc_new wr _)]
            rfl
          clear GR2 B2 r1 cv
          go_wp2_with (refine stop_at (.convert 9 35 (Operand.tmp 50)) rfl ?_)
          refine ⟨?_⟩
          refine wpList_conv_bytes rfl (Operand.tmp 50) rfl u.tag rfl (by omega) ?_
          rintro g4 c4 w4 hg40 S4 C4
          have hg4 := Nat.le_of_eq hg40.symm
          clear hg40
          have B4 := B3.trans (C4.mono B3.size)
          have GR4 := GR3.below (elF_fine _) C4
          have S3 := S3.below C4
          have s3 := C3.size
          clear GR3 B3 k2
          obtain ⟨y, hy⟩ : ∃ y : SA, y = ⟨j + 1, ⟨some ⟨g3, 0, none⟩, u.body.size, c3, sb u.body⟩, ⟨some ⟨g4, 0, none⟩, u.tag.size, c4, sb u.tag⟩⟩ := ⟨_, rfl⟩
          have yok : y.ok w4 ∧ ∀ z, y.blk z → w.heap.size ≤ z := by
            rw [hy]
            refine ⟨⟨by show j + 1 < _; omega, S3, S4⟩, fun z hz => ?_⟩
            simp at s2 s3
            rcases hz with ⟨a, ha, _, rfl⟩ | ⟨a, ha, _, rfl⟩
            · obtain rfl := Option.some.inj ha
              show _ ≤ g3
              simp at hg3
              omega
            · obtain rfl := Option.some.inj ha
              show _ ≤ g4
              simp at hg3 hg4
              omega
          have C5 : Below w4.heap.size w4 (w4.alloc (.cells #[.int .u64 ((j : Int) + 1), .slice (some ⟨g3, 0, none⟩) u.body.size c3, .slice (some ⟨g4, 0, none⟩) u.tag.size c4] 62)) := (Below.refl _ _).alloc (Nat.le_refl _) _
          have HF : Hid (∀ z, (elF w.heap.size).blk y z → (Value.slice vao ys.length vcap).ownBlock ≠ some z) := fun z hz e => by
            have h1 := vlt.out z e
            rw [hy] at hz
            rcases hz with ⟨a, ha, _, rfl⟩ | ⟨a, ha, _, rfl⟩
            · obtain rfl := Option.some.inj ha
              simp only at h1
              omega
            · obtain rfl := Option.some.inj ha
              simp only at h1
              omega
          have HG : Hid (∀ q t, ((elF w.heap.size).c y)[q]? = some t → (w4.alloc (.cells #[.int .u64 ((j : Int) + 1), .slice (some ⟨g3, 0, none⟩) u.body.size c3, .slice (some ⟨g4, 0, none⟩) u.tag.size c4] 62)).cell? ((⟨w4.heap.size, 0, none⟩ : Addr).add q) = some t) := fun q t ht => by
            rw [Addr.add_lit, Nat.zero_add, cell_of_row _ _ q _ _ _ (heap_alloc_new _ _)]
            rw [hy] at ht
            simpa [elF, SA.cells] using ht
          have HYV := HY2.out y (by rw [hy]; rfl)
          have HYV2 : Hid ((ys ++ [y]).map SA.v = (prfV s 0 (l.take (j + 1))).take n) := HYV
          have GR5 := GR4.below (elF_fine _) C5
          have yok5 : (elF w.heap.size).ok y (w4.alloc (.cells #[.int .u64 ((j : Int) + 1), .slice (some ⟨g3, 0, none⟩) u.body.size c3, .slice (some ⟨g4, 0, none⟩) u.tag.size c4] 62)) := ⟨yok.1.below C5, yok.2⟩
          have B5 := B4.trans (C5.mono B4.size)
          have hb5 := B5.size
          clear hy HYV HY2 S3 S4 vlt yok GR4 C3 C4 C5 B4 s3 hg3 hg4
          go_wp2_with (refine stop_at (.call { callee := .builtin .append, args := #[Operand.tmp 42, Operand.tmp 53], argTypes := #[47, 47] }) rfl ?_)
          refine ⟨?_⟩
          refine wpList_appG (elF_fine _) tySF rfl (.tmp 42) (.tmp 53) rfl GR5 rfl rfl HG.out yok5 HF.out (by omega) (by unfold maxLen; omega) hb5 ?_
          intro v6 w6 GR6 B6
          have B7 := B5.trans B6
          clear GR5 yok5 HF HG B5 hb5
          go_wp2
          go_roundw
          case rel => exact ⟨j + 1, v6, ys ++ [y], by omega, by go_num, rfl, GR6, HYV2, B7⟩
          case measure => simp [intOf]; omega
    · have hge : ¬ (j : Int) < 13 := by omega
      have HT : Hid (l.take j = l) := List.take_of_length_le (by omega)
      rw [HT.out] at HY
      obtain ⟨ao2, cap2, e, GLx, GB⟩ := GR.gl (elF_fine _)
      simp only [Value.slice.injEq] at e
      obtain ⟨rfl, -, rfl⟩ := e
      go_wp2
      go_ret
      exact ⟨_, _, _, ys, rfl, GLx.ofF.1, by rw [HP.out]; exact HY.out, B, fun z hz => hz.elim (GB z) fun ⟨x, hx, h⟩ => GLx.ofF.2 x hx z h⟩
open Go.RowKit
theorem okF_t {f : Int} (h1 : 1 ≤ f) (h4 : f ≤ 4) : okF f = true := decide_eq_true ⟨h1, h4⟩
theorem okF_f {f : Int} (h : ¬ (1 ≤ f ∧ f ≤ 4)) : okF f = false := decide_eq_false h
theorem canBe_any (f : Int) (w : World) : Calls Try.prog 80 #[.int .i64 f] w fun e w' => e = .returned (.bool (okF f)) ∧ w' = w := by
  by_cases h1 : 1 ≤ f
  · by_cases h4 : f ≤ 4
    · rw [okF_t h1 h4]
      go_enter Try.func80, Try.ntmps80
      go_wp2
      go_ret
      exact ⟨rfl, rfl⟩
    · rw [okF_f (by omega)]
      go_enter Try.func80, Try.ntmps80
      go_wp2
      go_ret
      exact ⟨rfl, rfl⟩
  · rw [okF_f (by omega)]
    go_enter Try.func80, Try.ntmps80
    go_wp2
    go_ret
    exact ⟨rfl, rfl⟩
theorem nF_f {f : Int} (t : Int) (h : okF f = false) : nF f t = 0 := by unfold nF; rw [if_neg (by rw [h]; simp)]
theorem nF_t {f : Int} (t : Int) (h : okF f = true) : nF f t = t * f + 1 := by unfold nF; rw [if_pos h]
theorem okF_iff {f : Int} : okF f = true ↔ 1 ≤ f ∧ f ≤ 4 := decide_eq_true_iff
theorem ofF_any (f t : Int) (ht : t = 1 ∨ t = 2 ∨ t = 3) (w : World) : Calls Try.prog 69 #[.int .i64 f, .int .i64 t] w fun e w' => e = .returned (.int .i64 (nF f t)) ∧ w' = w := by
  have CB := canBe_any f w
  cases hk : okF f with
  | false =>
    rw [nF_f t hk]
    rw [hk] at CB
    clear hk ht
    go_enter Try.func69, Try.ntmps69
    go_wp2_with (go_at_call 80; refine CB.mono ?_; rintro e w' ⟨rfl, rfl⟩)
    go_ret
    exact ⟨rfl, rfl⟩
  | true =>
    rw [nF_t t hk]
    rw [hk] at CB
    obtain ⟨h1, h4⟩ := okF_iff.1 hk
    clear hk
    rcases ht with rfl | rfl | rfl
    all_goals
      go_enter Try.func69, Try.ntmps69
      go_wp2_with (go_at_call 80; refine CB.mono ?_; rintro e w' ⟨rfl, rfl⟩)
      go_ret
      exact ⟨by first | rfl | simp, rfl⟩
theorem n_any (f : Int) (w : World) : Calls Try.prog 70 #[.int .i64 f] w fun e w' => e = .returned (.int .i64 (nF f 3)) ∧ w' = w := by
  have C := ofF_any f 3 (by omega) w
  go_enter Try.func70, Try.ntmps70
  go_wp2_with (go_at_call 69; refine C.mono ?_; rintro e w' ⟨rfl, rfl⟩)
  go_ret
  exact ⟨rfl, rfl⟩
theorem most_any (f : Int) (w : World) : Calls Try.prog 46 #[.int .i64 f] w fun e w' => e = .returned (.int .i64 (nF f 2)) ∧ w' = w := by
  have C := ofF_any f 2 (by omega) w
  go_enter Try.func46, Try.ntmps46
  go_wp2_with (go_at_call 69; refine C.mono ?_; rintro e w' ⟨rfl, rfl⟩)
  go_ret
  exact ⟨rfl, rfl⟩
theorem prF_f {f : Int} (v : Nat) (h : okF f = false) : prF v f = 0 := by unfold prF; rw [if_neg (by rw [h]; simp)]
theorem prF_t {f : Int} (v : Nat) (h : okF f = true) : prF v f = 1 + v % (3 * f + 1).toNat := by unfold prF; rw [if_pos h]
theorem prim_any (v : Nat) (f : Int) (hv : v < 18446744073709551616) (w : World) : Calls Try.prog 71 #[.int .u64 v, .int .i64 f] w fun e w' => e = .returned (.int .u64 (prF v f)) ∧ w' = w := by
  have CB := canBe_any f w
  cases hk : okF f with
  | false =>
    rw [prF_f v hk]
    rw [hk] at CB
    clear hk
    go_enter Try.func71, Try.ntmps71
    go_wp2_with (go_at_call 80; refine CB.mono ?_; rintro e w' ⟨rfl, rfl⟩)
    go_ret
    exact ⟨rfl, rfl⟩
  | true =>
    have CN := n_any f w
    rw [nF_t 3 hk] at CN
    obtain ⟨h1, h4⟩ := okF_iff.1 hk
    obtain ⟨m, rfl⟩ : ∃ m : Nat, f = m := ⟨f.toNat, by omega⟩
    have e : prF v m = 1 + v % (3 * m + 1) := by rw [prF_t v hk]; congr 1
    have e2 : (3 * (m : Int) + 1) = ((3 * m + 1 : Nat) : Int) := by omega
    rw [e]
    rw [hk] at CB
    rw [e2] at CN
    clear hk e e2
    obtain ⟨n, hn⟩ : ∃ n, n = 3 * m + 1 := ⟨_, rfl⟩
    have n1 : 1 ≤ n := by omega
    have n2 : n ≤ 13 := by omega
    rw [← hn] at CN ⊢
    have hm := Nat.mod_lt v n1
    have hmi : (v : Int) % (n : Int) = ((v % n : Nat) : Int) := (Int.natCast_emod v n).symm
    have hM : Hid ((v : Int) % (n : Int) = ((v % n : Nat) : Int)) := hmi
    have hb : 0 ≤ (v : Int) % (n : Int) ∧ (v : Int) % (n : Int) < 13 := by rw [hmi]; omega
    have i1 : (1 : Int) ≤ (n : Int) := by omega
    have i2 : (n : Int) ≤ 13 := by omega
    have i3 : (v : Int) < 18446744073709551616 := by omega
    clear hn hmi hm n1 n2 h1 h4 hv
    go_enter Try.func71, Try.ntmps71
    go_wp2_with (first
      | (go_at_call 80; refine CB.mono ?_; rintro e w' ⟨rfl, rfl⟩)
      | (go_at_call 70; refine CN.mono ?_; rintro e w' ⟨rfl, rfl⟩))
    go_ret
    refine ⟨?_, rfl⟩
    have := hM.out
    congr 2
open Go.RowKit
theorem n_nat (f n : Nat) (h1 : 1 ≤ f) (h4 : f ≤ 4) (hn : n = 3 * f + 1) (V : World) : Calls Try.prog 70 #[.int .i64 (f : Nat)] V fun e w' => e = .returned (.int .i64 (n : Nat)) ∧ Below V.heap.size V w' := by
  refine (n_any f V).mono ?_
  rintro e w' ⟨rfl, rfl⟩
  rw [nF_t 3 (okF_t (by omega) (by omega)), hn]
  exact ⟨by congr 2, Below.refl _ _⟩
set_option maxRecDepth 100000 in
set_option maxHeartbeats 4000000 in
theorem add_zero (w : World) (p f : Nat) (l : List VT) (h : QS w p f l) (ao bo co : Option Addr) (n1 cap n2 cap2 n3 cap3 : Nat) :
    Calls Try.prog 53 #[.pointer (some ⟨p, 0, none⟩), .agg #[.int .u64 0, .slice ao n1 cap, .slice bo n2 cap2], .slice co n3 cap3] w fun x w' => x = .returned (.int .i64 15) ∧ Below w.heap.size w w' := by
  have hN : QS (w.alloc (.cells #[.int .u64 0, .slice ao n1 cap, .slice bo n2 cap2] 62)) p f l := h.below ((Below.refl _ _).alloc (Nat.le_refl _) _)
  have B1 : Below w.heap.size w (w.alloc (.cells #[.int .u64 0, .slice ao n1 cap, .slice bo n2 cap2] 62)) := (Below.refl _ _).alloc (Nat.le_refl _) _
  have K1 : Arr (w.alloc (.cells #[.int .u64 0, .slice ao n1 cap, .slice bo n2 cap2] 62)) w.heap.size 62 [.int .u64 0, .slice ao n1 cap, .slice bo n2 cap2] := heap_alloc_new w _
  go_enter Try.func53, Try.ntmps53
  go_wp2_with fail
  obtain ⟨W1, hW1⟩ : ∃ V, V = w.alloc (.cells #[.int .u64 0, .slice ao n1 cap, .slice bo n2 cap2] 62) := ⟨_, rfl⟩
  obtain ⟨N, hNN⟩ : ∃ N, N = w.heap.size := ⟨_, rfl⟩
  rw [← hW1] at hN B1 K1 ⊢
  rw [← hNN] at K1 ⊢
  clear hW1 hNN
  have HC := fun (V : World) (hV : Below W1.heap.size W1 V) => (⟨(World.cell?_of_block (hV.block N K1.lt)).trans (K1.cell 0), (World.cell?_of_block (hV.block p hN.lt)).trans hN.f⟩ : V.cell? ⟨N, 0, none⟩ = some (.int .u64 0) ∧ V.cell? ⟨p, 0, none⟩ = some (.int .i64 (f : Nat)))
  have xHS : Hid (∀ V, Below W1.heap.size W1 V → V.cell? ⟨N, 0, none⟩ = some (.int .u64 0) ∧ V.cell? ⟨p, 0, none⟩ = some (.int .i64 (f : Nat))) := HC
  have xE0 : Below W1.heap.size W1 W1.drew := (Below.refl _ _).drew
  refine wp_region_noPanic ?_
  refine wp_region_held_drew (S := fun V => V.cell? ⟨N, 0, none⟩ = some (.int .u64 0) ∧ V.cell? ⟨p, 0, none⟩ = some (.int .i64 (f : Nat))) (by kernel_rfl) (xHS.out _ xE0) (fun xH0 => ?_)
  obtain ⟨xv0, hv0⟩ : ∃ v, v = W1.drew := ⟨_, rfl⟩
  rw [← hv0] at xH0 xE0 ⊢
  clear hv0
  refine hr_take_w 0 (some 10) (.pointer (some ⟨N, 0, none⟩)) rfl rfl (by kernel_rfl) (by kernel_rfl) (by kernel_rfl) rfl (fun W hW => by obtain ⟨h0, h1⟩ := hW; go_simp) xH0 ?_
  simp only [FL]
  refine hr_take_w 1 (some 11) (.int .u64 0) rfl rfl (by kernel_rfl) (by kernel_rfl) (by kernel_rfl) rfl (fun W hW => by obtain ⟨h0, h1⟩ := hW; go_simp) xH0 ?_
  simp only [FL]
  refine hr_take_w 2 (some 12) (.bool true) rfl rfl (by kernel_rfl) (by kernel_rfl) (by kernel_rfl) rfl (fun W hW => by obtain ⟨h0, h1⟩ := hW; go_simp) xH0 ?_
  simp only [FL]
  refine hr_take_w 3 (some 13) (.bool true) rfl rfl (by kernel_rfl) (by kernel_rfl) (by kernel_rfl) rfl (fun W hW => by obtain ⟨h0, h1⟩ := hW; go_simp) xH0 ?_
  simp only [FL]
  refine hr_none 4 (some 14) rfl rfl (by kernel_rfl) (by kernel_rfl) (by kernel_rfl) rfl xH0 ?_
  simp only [FL]
  refine hr_none 5 (some 15) rfl rfl (by kernel_rfl) (by kernel_rfl) (by kernel_rfl) rfl xH0 ?_
  simp only [FL]
  refine hr_none 6 (some 16) rfl rfl (by kernel_rfl) (by kernel_rfl) (by kernel_rfl) rfl xH0 ?_
  simp only [FL]
  refine hr_none 7 (some 17) rfl rfl (by kernel_rfl) (by kernel_rfl) (by kernel_rfl) rfl xH0 ?_
  simp only [FL]
  refine hr_none 8 (some 18) rfl rfl (by kernel_rfl) (by kernel_rfl) (by kernel_rfl) rfl xH0 ?_
  simp only [FL]
  refine hr_none 9 (some 19) rfl rfl (by kernel_rfl) (by kernel_rfl) (by kernel_rfl) rfl xH0 ?_
  simp only [FL]
  refine hr_none 10 (some 20) rfl rfl (by kernel_rfl) (by kernel_rfl) (by kernel_rfl) rfl xH0 ?_
  simp only [FL]
  refine hr_none 11 (some 21) rfl rfl (by kernel_rfl) (by kernel_rfl) (by kernel_rfl) rfl xH0 ?_
  simp only [FL]
  refine hr_none 12 (some 22) rfl rfl (by kernel_rfl) (by kernel_rfl) (by kernel_rfl) rfl xH0 ?_
  simp only [FL]
  refine hr_take_w 13 (some 23) (.bool true) rfl rfl (by kernel_rfl) (by kernel_rfl) (by kernel_rfl) rfl (fun W hW => by obtain ⟨h0, h1⟩ := hW; go_simp) xH0 ?_
  simp only [FL]
  refine wpAnyH_done (by kernel_rfl) ?_ _
  refine NoPanic.normal ?_
  have B2 := B1.trans (xE0.mono B1.size)
  clear HC xHS
  go_wp2
  go_ret
  exact ⟨rfl, B2⟩
set_option maxRecDepth 100000 in
set_option maxHeartbeats 4000000 in
theorem add_over (w : World) (p f : Nat) (l : List VT) (h : QS w p f l) (k n : Nat) (hn : n = 3 * f + 1) (hk : n ≤ k) (hk2 : k + 1 < 18446744073709551616) (ao bo co : Option Addr) (n1 cap n2 cap2 n3 cap3 : Nat) :
    Calls Try.prog 53 #[.pointer (some ⟨p, 0, none⟩), .agg #[.int .u64 ((k : Int) + 1), .slice ao n1 cap, .slice bo n2 cap2], .slice co n3 cap3] w fun x w' => x = .returned (.int .i64 15) ∧ Below w.heap.size w w' := by
  have hN : QS (w.alloc (.cells #[.int .u64 ((k : Int) + 1), .slice ao n1 cap, .slice bo n2 cap2] 62)) p f l := h.below ((Below.refl _ _).alloc (Nat.le_refl _) _)
  have B1 : Below w.heap.size w (w.alloc (.cells #[.int .u64 ((k : Int) + 1), .slice ao n1 cap, .slice bo n2 cap2] 62)) := (Below.refl _ _).alloc (Nat.le_refl _) _
  have K1 : Arr (w.alloc (.cells #[.int .u64 ((k : Int) + 1), .slice ao n1 cap, .slice bo n2 cap2] 62)) w.heap.size 62 [.int .u64 ((k : Int) + 1), .slice ao n1 cap, .slice bo n2 cap2] := heap_alloc_new w _
  go_enter Try.func53, Try.ntmps53
  go_wp2_with fail
  obtain ⟨W1, hW1⟩ : ∃ V, V = w.alloc (.cells #[.int .u64 ((k : Int) + 1), .slice ao n1 cap, .slice bo n2 cap2] 62) := ⟨_, rfl⟩
  obtain ⟨N, hNN⟩ : ∃ N, N = w.heap.size := ⟨_, rfl⟩
  rw [← hW1] at hN B1 K1 ⊢
  rw [← hNN] at K1 ⊢
  clear hW1 hNN
  have HC := fun (V : World) (hV : Below W1.heap.size W1 V) => (⟨(World.cell?_of_block (hV.block N K1.lt)).trans (K1.cell 0), (World.cell?_of_block (hV.block p hN.lt)).trans hN.f⟩ : V.cell? ⟨N, 0, none⟩ = some (.int .u64 ((k : Int) + 1)) ∧ V.cell? ⟨p, 0, none⟩ = some (.int .i64 (f : Nat)))
  have CN := fun (V : World) => n_nat f n h.f1 h.f4 hn V
  have f1 := h.f1
  have f4 := h.f4
  have i1 : (n : Int) ≤ (k : Int) := by omega
  have i2 : (n : Int) ≤ 13 := by omega
  have i3 : (k : Int) + 1 < 18446744073709551616 := by omega
  have i6 : (n : Int) < (k : Int) + 1 := by omega
  have iw : IntKind.u64.wrap (n : Int) = (n : Int) := by rw [IntKind.wrap_u64]; omega
  have i5 : (((k : Int) + 1) == 0) = false := by simp; omega
  clear hk2 hn
  have xHS : Hid (∀ V, Below W1.heap.size W1 V → V.cell? ⟨N, 0, none⟩ = some (.int .u64 ((k : Int) + 1)) ∧ V.cell? ⟨p, 0, none⟩ = some (.int .i64 (f : Nat))) := HC
  have xE0 : Below W1.heap.size W1 W1.drew := (Below.refl _ _).drew
  refine wp_region_noPanic ?_
  refine wp_region_held_drew (S := fun V => V.cell? ⟨N, 0, none⟩ = some (.int .u64 ((k : Int) + 1)) ∧ V.cell? ⟨p, 0, none⟩ = some (.int .i64 (f : Nat))) (by kernel_rfl) (xHS.out _ xE0) (fun xH0 => ?_)
  obtain ⟨xv0, hv0⟩ : ∃ v, v = W1.drew := ⟨_, rfl⟩
  rw [← hv0] at xH0 xE0 ⊢
  clear hv0
  refine hr_take_w 0 (some 10) (.pointer (some ⟨N, 0, none⟩)) rfl rfl (by kernel_rfl) (by kernel_rfl) (by kernel_rfl) rfl (fun W hW => by obtain ⟨h0, h1⟩ := hW; go_simp) xH0 ?_
  simp only [FL]
  refine hr_take_w 1 (some 11) (.int .u64 ((k : Int) + 1)) rfl rfl (by kernel_rfl) (by kernel_rfl) (by kernel_rfl) rfl (fun W hW => by obtain ⟨h0, h1⟩ := hW; go_simp) xH0 ?_
  simp only [FL]
  refine hr_take_w 2 (some 12) (.bool false) rfl rfl (by kernel_rfl) (by kernel_rfl) (by kernel_rfl) rfl (fun W hW => by obtain ⟨h0, h1⟩ := hW; go_simp) xH0 ?_
  simp only [FL]
  refine hr_take_w 3 (some 13) (.bool false) rfl rfl (by kernel_rfl) (by kernel_rfl) (by kernel_rfl) rfl (fun W hW => by obtain ⟨h0, h1⟩ := hW; go_simp) xH0 ?_
  simp only [FL]
  refine hr_take_w 4 (some 14) (.pointer (some ⟨N, 0, none⟩)) rfl rfl (by kernel_rfl) (by kernel_rfl) (by kernel_rfl) rfl (fun W hW => by obtain ⟨h0, h1⟩ := hW; go_simp) xH0 ?_
  simp only [FL]
  refine hr_take_w 5 (some 15) (.int .u64 ((k : Int) + 1)) rfl rfl (by kernel_rfl) (by kernel_rfl) (by kernel_rfl) rfl (fun W hW => by obtain ⟨h0, h1⟩ := hW; go_simp) xH0 ?_
  simp only [FL]
  refine hr_take_w 6 (some 16) (.pointer (some ⟨p, 0, none⟩)) rfl rfl (by kernel_rfl) (by kernel_rfl) (by kernel_rfl) rfl (fun W hW => by obtain ⟨h0, h1⟩ := hW; go_simp) xH0 ?_
  simp only [FL]
  refine hr_take_w 7 (some 17) (.pointer (some ⟨p, 0, none⟩)) rfl rfl (by kernel_rfl) (by kernel_rfl) (by kernel_rfl) rfl (fun W hW => by obtain ⟨h0, h1⟩ := hW; go_simp) xH0 ?_
  simp only [FL]
  refine hr_take_w 8 (some 18) (.pointer (some ⟨p, 0, none⟩)) rfl rfl (by kernel_rfl) (by kernel_rfl) (by kernel_rfl) rfl (fun W hW => by obtain ⟨h0, h1⟩ := hW; go_simp) xH0 ?_
  simp only [FL]
  refine hr_take_w 9 (some 19) (.int .i64 (f : Nat)) rfl rfl (by kernel_rfl) (by kernel_rfl) (by kernel_rfl) rfl (fun W hW => by obtain ⟨h0, h1⟩ := hW; go_simp) xH0 ?_
  simp only [FL]
  refine hr_call_w 10 (some 20) 70 #[.int .i64 (f : Nat)] rfl rfl (by kernel_rfl) rfl (by go_simp) (fun v w' => v = .int .i64 (n : Nat) ∧ Below xv0.heap.size xv0 w') ((CN xv0).mono (by
    rintro e w' ⟨rfl, C⟩
    exact ⟨_, rfl, rfl, C⟩)) ?_
  rintro v xv1 ⟨rfl, xC0⟩
  have xE1 := xE0.trans (xC0.mono xE0.size)
  have xH1 := xHS.out xv1 xE1
  refine ⟨xH1, ?_⟩
  simp only [FL]
  refine hr_take_w 11 (some 21) (.int .u64 (n : Nat)) rfl rfl (by kernel_rfl) (by kernel_rfl) (by kernel_rfl) rfl (fun W hW => by obtain ⟨h0, h1⟩ := hW; go_simp) xH1 ?_
  simp only [FL]
  refine hr_take_w 12 (some 22) (.bool true) rfl rfl (by kernel_rfl) (by kernel_rfl) (by kernel_rfl) rfl (fun W hW => by obtain ⟨h0, h1⟩ := hW; go_simp) xH1 ?_
  simp only [FL]
  refine hr_take_w 13 (some 23) (.bool true) rfl rfl (by kernel_rfl) (by kernel_rfl) (by kernel_rfl) rfl (fun W hW => by obtain ⟨h0, h1⟩ := hW; go_simp) xH1 ?_
  simp only [FL]
  refine wpAnyH_done (by kernel_rfl) ?_ _
  refine NoPanic.normal ?_
  have B2 := B1.trans (xE1.mono B1.size)
  clear HC xHS
  go_wp2
  go_ret
  exact ⟨rfl, B2⟩
set_option maxRecDepth 100000 in
set_option maxHeartbeats 4000000 in
theorem add_again (w : World) (p f : Nat) (l : List VT) (h : QS w p f l) (k n : Nat) (hn : n = 3 * f + 1) (hk : k < n) (his : ∀ hk : k < l.length, l[k].is = true) (ao bo co : Option Addr) (n1 cap n2 cap2 n3 cap3 : Nat) :
    Calls Try.prog 53 #[.pointer (some ⟨p, 0, none⟩), .agg #[.int .u64 ((k : Int) + 1), .slice ao n1 cap, .slice bo n2 cap2], .slice co n3 cap3] w fun x w' => x = .returned (.int .i64 18) ∧ Below w.heap.size w w' := by
  have hN : QS (w.alloc (.cells #[.int .u64 ((k : Int) + 1), .slice ao n1 cap, .slice bo n2 cap2] 62)) p f l := h.below ((Below.refl _ _).alloc (Nat.le_refl _) _)
  have B1 : Below w.heap.size w (w.alloc (.cells #[.int .u64 ((k : Int) + 1), .slice ao n1 cap, .slice bo n2 cap2] 62)) := (Below.refl _ _).alloc (Nat.le_refl _) _
  have K1 : Arr (w.alloc (.cells #[.int .u64 ((k : Int) + 1), .slice ao n1 cap, .slice bo n2 cap2] 62)) w.heap.size 62 [.int .u64 ((k : Int) + 1), .slice ao n1 cap, .slice bo n2 cap2] := heap_alloc_new w _
  go_enter Try.func53, Try.ntmps53
  go_wp2_with fail
  obtain ⟨W1, hW1⟩ : ∃ V, V = w.alloc (.cells #[.int .u64 ((k : Int) + 1), .slice ao n1 cap, .slice bo n2 cap2] 62) := ⟨_, rfl⟩
  obtain ⟨N, hNN⟩ : ∃ N, N = w.heap.size := ⟨_, rfl⟩
  rw [← hW1] at hN B1 K1 ⊢
  rw [← hNN] at K1 ⊢
  clear hW1 hNN
  have HC := fun (V : World) (hV : Below W1.heap.size W1 V) => (⟨(World.cell?_of_block (hV.block N K1.lt)).trans (K1.cell 0), (World.cell?_of_block (hV.block p hN.lt)).trans hN.f⟩ : V.cell? ⟨N, 0, none⟩ = some (.int .u64 ((k : Int) + 1)) ∧ V.cell? ⟨p, 0, none⟩ = some (.int .i64 (f : Nat)))
  have CN := fun (V : World) => n_nat f n h.f1 h.f4 hn V
  have f1 := h.f1
  have f4 := h.f4
  have i1 : (k : Int) < (n : Int) := by omega
  have i2 : (n : Int) ≤ 13 := by omega
  have i4 : (k : Int) ≤ 12 := by omega
  have i6 : (k : Int) + 1 ≤ (n : Int) := by omega
  have iw : IntKind.u64.wrap (n : Int) = (n : Int) := by rw [IntKind.wrap_u64]; omega
  have iv : IntKind.u64.wrap (k : Int) = (k : Int) := by rw [IntKind.wrap_u64]; omega
  have hkf : k < 3 * f + 1 := by omega
  have i5 : (((k : Int) + 1) == 0) = false := by simp; omega
  have hkl : k < l.length := by rw [h.len]; omega
  have i8 : ¬ (13 : Int) ≤ (k : Int) := by omega
  clear hn
  have xHS : Hid (∀ V, Below W1.heap.size W1 V → V.cell? ⟨N, 0, none⟩ = some (.int .u64 ((k : Int) + 1)) ∧ V.cell? ⟨p, 0, none⟩ = some (.int .i64 (f : Nat))) := HC
  have xE0 : Below W1.heap.size W1 W1.drew := (Below.refl _ _).drew
  refine wp_region_noPanic ?_
  refine wp_region_held_drew (S := fun V => V.cell? ⟨N, 0, none⟩ = some (.int .u64 ((k : Int) + 1)) ∧ V.cell? ⟨p, 0, none⟩ = some (.int .i64 (f : Nat))) (by kernel_rfl) (xHS.out _ xE0) (fun xH0 => ?_)
  obtain ⟨xv0, hv0⟩ : ∃ v, v = W1.drew := ⟨_, rfl⟩
  rw [← hv0] at xH0 xE0 ⊢
  clear hv0
  refine hr_take_w 0 (some 10) (.pointer (some ⟨N, 0, none⟩)) rfl rfl (by kernel_rfl) (by kernel_rfl) (by kernel_rfl) rfl (fun W hW => by obtain ⟨h0, h1⟩ := hW; go_simp) xH0 ?_
  simp only [FL]
  refine hr_take_w 1 (some 11) (.int .u64 ((k : Int) + 1)) rfl rfl (by kernel_rfl) (by kernel_rfl) (by kernel_rfl) rfl (fun W hW => by obtain ⟨h0, h1⟩ := hW; go_simp) xH0 ?_
  simp only [FL]
  refine hr_take_w 2 (some 12) (.bool false) rfl rfl (by kernel_rfl) (by kernel_rfl) (by kernel_rfl) rfl (fun W hW => by obtain ⟨h0, h1⟩ := hW; go_simp) xH0 ?_
  simp only [FL]
  refine hr_take_w 3 (some 13) (.bool false) rfl rfl (by kernel_rfl) (by kernel_rfl) (by kernel_rfl) rfl (fun W hW => by obtain ⟨h0, h1⟩ := hW; go_simp) xH0 ?_
  simp only [FL]
  refine hr_take_w 4 (some 14) (.pointer (some ⟨N, 0, none⟩)) rfl rfl (by kernel_rfl) (by kernel_rfl) (by kernel_rfl) rfl (fun W hW => by obtain ⟨h0, h1⟩ := hW; go_simp) xH0 ?_
  simp only [FL]
  refine hr_take_w 5 (some 15) (.int .u64 ((k : Int) + 1)) rfl rfl (by kernel_rfl) (by kernel_rfl) (by kernel_rfl) rfl (fun W hW => by obtain ⟨h0, h1⟩ := hW; go_simp) xH0 ?_
  simp only [FL]
  refine hr_take_w 6 (some 16) (.pointer (some ⟨p, 0, none⟩)) rfl rfl (by kernel_rfl) (by kernel_rfl) (by kernel_rfl) rfl (fun W hW => by obtain ⟨h0, h1⟩ := hW; go_simp) xH0 ?_
  simp only [FL]
  refine hr_take_w 7 (some 17) (.pointer (some ⟨p, 0, none⟩)) rfl rfl (by kernel_rfl) (by kernel_rfl) (by kernel_rfl) rfl (fun W hW => by obtain ⟨h0, h1⟩ := hW; go_simp) xH0 ?_
  simp only [FL]
  refine hr_take_w 8 (some 18) (.pointer (some ⟨p, 0, none⟩)) rfl rfl (by kernel_rfl) (by kernel_rfl) (by kernel_rfl) rfl (fun W hW => by obtain ⟨h0, h1⟩ := hW; go_simp) xH0 ?_
  simp only [FL]
  refine hr_take_w 9 (some 19) (.int .i64 (f : Nat)) rfl rfl (by kernel_rfl) (by kernel_rfl) (by kernel_rfl) rfl (fun W hW => by obtain ⟨h0, h1⟩ := hW; go_simp) xH0 ?_
  simp only [FL]
  refine hr_call_w 10 (some 20) 70 #[.int .i64 (f : Nat)] rfl rfl (by kernel_rfl) rfl (by go_simp) (fun v w' => v = .int .i64 (n : Nat) ∧ Below xv0.heap.size xv0 w') ((CN xv0).mono (by
    rintro e w' ⟨rfl, C⟩
    exact ⟨_, rfl, rfl, C⟩)) ?_
  rintro v xv1 ⟨rfl, xC0⟩
  have xE1 := xE0.trans (xC0.mono xE0.size)
  have xH1 := xHS.out xv1 xE1
  refine ⟨xH1, ?_⟩
  simp only [FL]
  refine hr_take_w 11 (some 21) (.int .u64 (n : Nat)) rfl rfl (by kernel_rfl) (by kernel_rfl) (by kernel_rfl) rfl (fun W hW => by obtain ⟨h0, h1⟩ := hW; go_simp) xH1 ?_
  simp only [FL]
  refine hr_take_w 12 (some 22) (.bool false) rfl rfl (by kernel_rfl) (by kernel_rfl) (by kernel_rfl) rfl (fun W hW => by obtain ⟨h0, h1⟩ := hW; go_simp) xH1 ?_
  simp only [FL]
  refine hr_take_w 13 (some 23) (.bool false) rfl rfl (by kernel_rfl) (by kernel_rfl) (by kernel_rfl) rfl (fun W hW => by obtain ⟨h0, h1⟩ := hW; go_simp) xH1 ?_
  simp only [FL]
  refine wpAnyH_done (by kernel_rfl) ?_ _
  refine NoPanic.normal ?_
  have B2 := B1.trans (xE1.mono B1.size)
  have Q2 := hN.below xE1
  have K2 := K1.below xE1 K1.lt
  clear HC xHS
  go_wp2_with fail
  have HC2 := fun (V : World) (hV : Below xv1.heap.size xv1 V) => (World.cell?_of_block (hV.block N K2.lt)).trans (K2.cell 0)
  have yHS : Hid (∀ V, Below xv1.heap.size xv1 V → V.cell? ⟨N, 0, none⟩ = some (.int .u64 ((k : Int) + 1))) := HC2
  have yE0 : Below xv1.heap.size xv1 xv1.drew := (Below.refl _ _).drew
  refine wp_region_noPanic ?_
  refine wp_region_held_drew (S := fun V => V.cell? ⟨N, 0, none⟩ = some (.int .u64 ((k : Int) + 1))) (by kernel_rfl) (yHS.out _ yE0) (fun yH0 => ?_)
  obtain ⟨yv0, hv0⟩ : ∃ v, v = xv1.drew := ⟨_, rfl⟩
  rw [← hv0] at yH0 yE0 ⊢
  clear hv0
  refine hr_take_w 0 (some 24) (.pointer (some ⟨p, 0, none⟩)) rfl rfl (by kernel_rfl) (by kernel_rfl) (by kernel_rfl) rfl (fun W hW => by go_simp) yH0 ?_
  simp only [FL]
  refine hr_take_w 1 (some 25) (.pointer (some ⟨N, 0, none⟩)) rfl rfl (by kernel_rfl) (by kernel_rfl) (by kernel_rfl) rfl (fun W hW => by go_simp) yH0 ?_
  simp only [FL]
  refine hr_take_w 2 (some 26) (.int .u64 ((k : Int) + 1)) rfl rfl (by kernel_rfl) (by kernel_rfl) (by kernel_rfl) rfl (fun W hW => by go_simp) yH0 ?_
  simp only [FL]
  refine hr_take_w 3 (some 27) (.int .u64 (k : Nat)) rfl rfl (by kernel_rfl) (by kernel_rfl) (by kernel_rfl) rfl (fun W hW => by go_simp) yH0 ?_
  simp only [FL]
  refine hr_take_w 4 (some 28) (.pointer (some ⟨p, 0, none⟩)) rfl rfl (by kernel_rfl) (by kernel_rfl) (by kernel_rfl) rfl (fun W hW => by go_simp) yH0 ?_
  simp only [FL]
  refine hr_take_w 5 (some 29) (.pointer (some ⟨p, 1, none⟩)) rfl rfl (by kernel_rfl) (by kernel_rfl) (by kernel_rfl) rfl (fun W hW => by go_simp) yH0 ?_
  simp only [FL]
  refine hr_take_w 6 (some 30) (.pointer (some ⟨p, 1 + k * 4, none⟩)) rfl rfl (by kernel_rfl) (by kernel_rfl) (by kernel_rfl) rfl (fun W hW => by go_simp) yH0 ?_
  simp only [FL]
  refine hr_take_w 7 (some 7) (.pointer (some ⟨p, 1 + k * 4, none⟩)) rfl rfl (by kernel_rfl) (by kernel_rfl) (by kernel_rfl) rfl (fun W hW => by go_simp) yH0 ?_
  simp only [FL]
  refine wpAnyH_done (by kernel_rfl) ?_ _
  refine NoPanic.normal ?_
  have B3 := B2.trans (yE0.mono B2.size)
  have Q3 := Q2.below yE0
  have K3 := K2.below yE0 K2.lt
  have q0 : yv0.cell? ⟨p, 1 + k * 4, none⟩ = some (.bool l[k].is) := Q3.cells k 0 hkl (by omega)
  clear HC2 yHS K2 Q2
  rw [his hkl] at q0
  clear his
  go_wp2
  go_ret
  exact ⟨rfl, B3⟩
set_option maxRecDepth 100000 in
set_option maxHeartbeats 4000000 in
theorem add_ok (w : World) (p f : Nat) (l : List VT) (h : QS w p f l) (k n : Nat) (hn : n = 3 * f + 1) (hk : k < n) (his : ∀ hk : k < l.length, l[k].is = false) (ao bo co : Option Addr) (n1 cap n2 cap2 n3 cap3 : Nat) (xs ys zs : List Int) (S1 : Sl w ao n1 cap xs) (S2 : Sl w bo n2 cap2 ys) (S3 : Sl w co n3 cap3 zs) (b1 : n1 ≤ 1000000) (b2 : n2 ≤ 1000000) (b3 : n3 ≤ 1000000) :
    Calls Try.prog 53 #[.pointer (some ⟨p, 0, none⟩), .agg #[.int .u64 ((k : Int) + 1), .slice ao n1 cap, .slice bo n2 cap2], .slice co n3 cap3] w fun x w' => x = .returned (.int .i64 0) ∧ QS w' p f (l.set k ⟨true, strOfNums zs, strOfNums xs, strOfNums ys⟩) ∧ w.grownBy w' (some p) := by
  have hN : QS (w.alloc (.cells #[.int .u64 ((k : Int) + 1), .slice ao n1 cap, .slice bo n2 cap2] 62)) p f l := h.below ((Below.refl _ _).alloc (Nat.le_refl _) _)
  have B1 : Below w.heap.size w (w.alloc (.cells #[.int .u64 ((k : Int) + 1), .slice ao n1 cap, .slice bo n2 cap2] 62)) := (Below.refl _ _).alloc (Nat.le_refl _) _
  have K1 : Arr (w.alloc (.cells #[.int .u64 ((k : Int) + 1), .slice ao n1 cap, .slice bo n2 cap2] 62)) w.heap.size 62 [.int .u64 ((k : Int) + 1), .slice ao n1 cap, .slice bo n2 cap2] := heap_alloc_new w _
  go_enter Try.func53, Try.ntmps53
  go_wp2_with fail
  obtain ⟨W1, hW1⟩ : ∃ V, V = w.alloc (.cells #[.int .u64 ((k : Int) + 1), .slice ao n1 cap, .slice bo n2 cap2] 62) := ⟨_, rfl⟩
  obtain ⟨N, hNN⟩ : ∃ N, N = w.heap.size := ⟨_, rfl⟩
  rw [← hW1] at hN B1 K1 ⊢
  rw [← hNN] at K1 ⊢
  clear hW1 hNN
  have HC := fun (V : World) (hV : Below W1.heap.size W1 V) => (⟨(World.cell?_of_block (hV.block N K1.lt)).trans (K1.cell 0), (World.cell?_of_block (hV.block p hN.lt)).trans hN.f⟩ : V.cell? ⟨N, 0, none⟩ = some (.int .u64 ((k : Int) + 1)) ∧ V.cell? ⟨p, 0, none⟩ = some (.int .i64 (f : Nat)))
  have CN := fun (V : World) => n_nat f n h.f1 h.f4 hn V
  have f1 := h.f1
  have f4 := h.f4
  have i1 : (k : Int) < (n : Int) := by omega
  have i2 : (n : Int) ≤ 13 := by omega
  have i4 : (k : Int) ≤ 12 := by omega
  have i6 : (k : Int) + 1 ≤ (n : Int) := by omega
  have iw : IntKind.u64.wrap (n : Int) = (n : Int) := by rw [IntKind.wrap_u64]; omega
  have iv : IntKind.u64.wrap (k : Int) = (k : Int) := by rw [IntKind.wrap_u64]; omega
  have hkf : k < 3 * f + 1 := by omega
  have i5 : (((k : Int) + 1) == 0) = false := by simp; omega
  have hkl : k < l.length := by rw [h.len]; omega
  have i8 : ¬ (13 : Int) ≤ (k : Int) := by omega
  clear hn
  have xHS : Hid (∀ V, Below W1.heap.size W1 V → V.cell? ⟨N, 0, none⟩ = some (.int .u64 ((k : Int) + 1)) ∧ V.cell? ⟨p, 0, none⟩ = some (.int .i64 (f : Nat))) := HC
  have xE0 : Below W1.heap.size W1 W1.drew := (Below.refl _ _).drew
  refine wp_region_noPanic ?_
  refine wp_region_held_drew (S := fun V => V.cell? ⟨N, 0, none⟩ = some (.int .u64 ((k : Int) + 1)) ∧ V.cell? ⟨p, 0, none⟩ = some (.int .i64 (f : Nat))) (by kernel_rfl) (xHS.out _ xE0) (fun xH0 => ?_)
  obtain ⟨xv0, hv0⟩ : ∃ v, v = W1.drew := ⟨_, rfl⟩
  rw [← hv0] at xH0 xE0 ⊢
  clear hv0
  refine hr_take_w 0 (some 10) (.pointer (some ⟨N, 0, none⟩)) rfl rfl (by kernel_rfl) (by kernel_rfl) (by kernel_rfl) rfl (fun W hW => by obtain ⟨h0, h1⟩ := hW; go_simp) xH0 ?_
  simp only [FL]
  refine hr_take_w 1 (some 11) (.int .u64 ((k : Int) + 1)) rfl rfl (by kernel_rfl) (by kernel_rfl) (by kernel_rfl) rfl (fun W hW => by obtain ⟨h0, h1⟩ := hW; go_simp) xH0 ?_
  simp only [FL]
  refine hr_take_w 2 (some 12) (.bool false) rfl rfl (by kernel_rfl) (by kernel_rfl) (by kernel_rfl) rfl (fun W hW => by obtain ⟨h0, h1⟩ := hW; go_simp) xH0 ?_
  simp only [FL]
  refine hr_take_w 3 (some 13) (.bool false) rfl rfl (by kernel_rfl) (by kernel_rfl) (by kernel_rfl) rfl (fun W hW => by obtain ⟨h0, h1⟩ := hW; go_simp) xH0 ?_
  simp only [FL]
  refine hr_take_w 4 (some 14) (.pointer (some ⟨N, 0, none⟩)) rfl rfl (by kernel_rfl) (by kernel_rfl) (by kernel_rfl) rfl (fun W hW => by obtain ⟨h0, h1⟩ := hW; go_simp) xH0 ?_
  simp only [FL]
  refine hr_take_w 5 (some 15) (.int .u64 ((k : Int) + 1)) rfl rfl (by kernel_rfl) (by kernel_rfl) (by kernel_rfl) rfl (fun W hW => by obtain ⟨h0, h1⟩ := hW; go_simp) xH0 ?_
  simp only [FL]
  refine hr_take_w 6 (some 16) (.pointer (some ⟨p, 0, none⟩)) rfl rfl (by kernel_rfl) (by kernel_rfl) (by kernel_rfl) rfl (fun W hW => by obtain ⟨h0, h1⟩ := hW; go_simp) xH0 ?_
  simp only [FL]
  refine hr_take_w 7 (some 17) (.pointer (some ⟨p, 0, none⟩)) rfl rfl (by kernel_rfl) (by kernel_rfl) (by kernel_rfl) rfl (fun W hW => by obtain ⟨h0, h1⟩ := hW; go_simp) xH0 ?_
  simp only [FL]
  refine hr_take_w 8 (some 18) (.pointer (some ⟨p, 0, none⟩)) rfl rfl (by kernel_rfl) (by kernel_rfl) (by kernel_rfl) rfl (fun W hW => by obtain ⟨h0, h1⟩ := hW; go_simp) xH0 ?_
  simp only [FL]
  refine hr_take_w 9 (some 19) (.int .i64 (f : Nat)) rfl rfl (by kernel_rfl) (by kernel_rfl) (by kernel_rfl) rfl (fun W hW => by obtain ⟨h0, h1⟩ := hW; go_simp) xH0 ?_
  simp only [FL]
  refine hr_call_w 10 (some 20) 70 #[.int .i64 (f : Nat)] rfl rfl (by kernel_rfl) rfl (by go_simp) (fun v w' => v = .int .i64 (n : Nat) ∧ Below xv0.heap.size xv0 w') ((CN xv0).mono (by
    rintro e w' ⟨rfl, C⟩
    exact ⟨_, rfl, rfl, C⟩)) ?_
  rintro v xv1 ⟨rfl, xC0⟩
  have xE1 := xE0.trans (xC0.mono xE0.size)
  have xH1 := xHS.out xv1 xE1
  refine ⟨xH1, ?_⟩
  simp only [FL]
  refine hr_take_w 11 (some 21) (.int .u64 (n : Nat)) rfl rfl (by kernel_rfl) (by kernel_rfl) (by kernel_rfl) rfl (fun W hW => by obtain ⟨h0, h1⟩ := hW; go_simp) xH1 ?_
  simp only [FL]
  refine hr_take_w 12 (some 22) (.bool false) rfl rfl (by kernel_rfl) (by kernel_rfl) (by kernel_rfl) rfl (fun W hW => by obtain ⟨h0, h1⟩ := hW; go_simp) xH1 ?_
  simp only [FL]
  refine hr_take_w 13 (some 23) (.bool false) rfl rfl (by kernel_rfl) (by kernel_rfl) (by kernel_rfl) rfl (fun W hW => by obtain ⟨h0, h1⟩ := hW; go_simp) xH1 ?_
  simp only [FL]
  refine wpAnyH_done (by kernel_rfl) ?_ _
  refine NoPanic.normal ?_
  have B2 := B1.trans (xE1.mono B1.size)
  have Q2 := hN.below xE1
  have K2 := K1.below xE1 K1.lt
  clear HC xHS
  go_wp2_with fail
  have HC2 := fun (V : World) (hV : Below xv1.heap.size xv1 V) => (World.cell?_of_block (hV.block N K2.lt)).trans (K2.cell 0)
  have yHS : Hid (∀ V, Below xv1.heap.size xv1 V → V.cell? ⟨N, 0, none⟩ = some (.int .u64 ((k : Int) + 1))) := HC2
  have yE0 : Below xv1.heap.size xv1 xv1.drew := (Below.refl _ _).drew
  refine wp_region_noPanic ?_
  refine wp_region_held_drew (S := fun V => V.cell? ⟨N, 0, none⟩ = some (.int .u64 ((k : Int) + 1))) (by kernel_rfl) (yHS.out _ yE0) (fun yH0 => ?_)
  obtain ⟨yv0, hv0⟩ : ∃ v, v = xv1.drew := ⟨_, rfl⟩
  rw [← hv0] at yH0 yE0 ⊢
  clear hv0
  refine hr_take_w 0 (some 24) (.pointer (some ⟨p, 0, none⟩)) rfl rfl (by kernel_rfl) (by kernel_rfl) (by kernel_rfl) rfl (fun W hW => by go_simp) yH0 ?_
  simp only [FL]
  refine hr_take_w 1 (some 25) (.pointer (some ⟨N, 0, none⟩)) rfl rfl (by kernel_rfl) (by kernel_rfl) (by kernel_rfl) rfl (fun W hW => by go_simp) yH0 ?_
  simp only [FL]
  refine hr_take_w 2 (some 26) (.int .u64 ((k : Int) + 1)) rfl rfl (by kernel_rfl) (by kernel_rfl) (by kernel_rfl) rfl (fun W hW => by go_simp) yH0 ?_
  simp only [FL]
  refine hr_take_w 3 (some 27) (.int .u64 (k : Nat)) rfl rfl (by kernel_rfl) (by kernel_rfl) (by kernel_rfl) rfl (fun W hW => by go_simp) yH0 ?_
  simp only [FL]
  refine hr_take_w 4 (some 28) (.pointer (some ⟨p, 0, none⟩)) rfl rfl (by kernel_rfl) (by kernel_rfl) (by kernel_rfl) rfl (fun W hW => by go_simp) yH0 ?_
  simp only [FL]
  refine hr_take_w 5 (some 29) (.pointer (some ⟨p, 1, none⟩)) rfl rfl (by kernel_rfl) (by kernel_rfl) (by kernel_rfl) rfl (fun W hW => by go_simp) yH0 ?_
  simp only [FL]
  refine hr_take_w 6 (some 30) (.pointer (some ⟨p, 1 + k * 4, none⟩)) rfl rfl (by kernel_rfl) (by kernel_rfl) (by kernel_rfl) rfl (fun W hW => by go_simp) yH0 ?_
  simp only [FL]
  refine hr_take_w 7 (some 7) (.pointer (some ⟨p, 1 + k * 4, none⟩)) rfl rfl (by kernel_rfl) (by kernel_rfl) (by kernel_rfl) rfl (fun W hW => by go_simp) yH0 ?_
  simp only [FL]
  refine wpAnyH_done (by kernel_rfl) ?_ _
  refine NoPanic.normal ?_
  have B3 := B2.trans (yE0.mono B2.size)
  have Q3 := Q2.below yE0
  have K3 := K2.below yE0 K2.lt
  have q0 : yv0.cell? ⟨p, 1 + k * 4, none⟩ = some (.bool l[k].is) := Q3.cells k 0 hkl (by omega)
  clear HC2 yHS K2 Q2
  rw [his hkl] at q0
  clear his
  have ca := conv_str (S1.below B3)
  have cb := conv_str (S2.below B3)
  have cc := conv_str (S3.below B3)
  have k1 := K3.cell 1
  have k2 := K3.cell 2
  have vok : VT.ok ⟨true, strOfNums zs, strOfNums xs, strOfNums ys⟩ := ⟨by rw [strOfNums_size, S3.len]; exact b3, by rw [strOfNums_size, S1.len]; exact b1, by rw [strOfNums_size, S2.len]; exact b2⟩
  have Q4 := Q3.set k hkf _ vok
  have G4 := gro_trans (bel_grown B3 (some p)) (grown_cells yv0 p (1 + k * 4) [.bool true, .string (strOfNums zs), .string (strOfNums xs), .string (strOfNums ys)])
  have HTH : Hid (yv0.there p (1 + k * 4) 4) := Q3.there k hkl
  clear S1 S2 S3 b1 b2 b3 Q3 K3 hN K1 B1 B2 B3 vok h CN
  go_wp2_with (refine stop_at (.store 116 (Operand.tmp 45) (Operand.tmp 44)) rfl ?_)
  refine ⟨?_⟩
  refine wpList_store_mid rfl 116 (Operand.tmp 45) (Operand.tmp 44) rfl p (1 + k * 4) #[.bool true, .string (strOfNums zs), .string (strOfNums xs), .string (strOfNums ys)] rfl rfl HTH.out size1 (all_oneCell_toArray (v_one ⟨true, strOfNums zs, strOfNums xs, strOfNums ys⟩)) ?_
  go_wp2
  go_ret
  exact ⟨rfl, Q4, G4⟩
open Go.RowKit
def noVotes : List VT := List.replicate 13 zVT
theorem new_good (w : World) (f : Nat) (h1 : 1 ≤ f) (h4 : f ≤ 4) : Calls Try.prog 75 #[.int .i64 (f : Nat)] w fun x w' => ∃ p, x = .returned (.tuple #[.pointer (some ⟨p, 0, none⟩), .int .i64 0]) ∧ w.heap.size ≤ p ∧ QS w' p f noVotes ∧ Below w.heap.size w w' := by
  have CB := canBe_any f w
  rw [okF_t (by omega) (by omega)] at CB
  have HQ : ∀ W : World, W.heap[w.heap.size]? = some (.cells (.int .i64 f :: cellsV noVotes).toArray 119) → QS W w.heap.size f noVotes := fun W hW => ⟨hW, by simp [noVotes], h1, h4, fun v hv => by
    have := (List.mem_replicate.1 hv).2
    rw [this]
    exact zVT_ok, fun i hi _ => by
    have e : noVotes[i] = zVT := List.getElem_replicate _
    rw [e]
    rfl⟩
  go_enter Try.func75, Try.ntmps75
  go_wp2_with (go_at_call 80; refine CB.mono ?_; rintro e w' ⟨rfl, hw⟩; obtain rfl := hw.symm; clear hw)
  go_ret2
  exact ⟨_, rfl, Nat.le_refl _, HQ _ (heap_alloc_new w _), (Below.refl _ _).alloc (Nat.le_refl _) _⟩
open Go.RowKit
def addV (f : Nat) (l : List VT) (fr : Nat) (v : VT) : List VT × Int :=
  if fr = 0 ∨ 3 * f + 1 < fr then (l, 15) else if (l[fr - 1]?.map VT.is).getD false = true then (l, 18) else (l.set (fr - 1) v, 0)
theorem addV_out {f : Nat} {l : List VT} {fr : Nat} {v : VT} (h : fr = 0 ∨ 3 * f + 1 < fr) : addV f l fr v = (l, 15) := by unfold addV; rw [if_pos h]
theorem addV_again {f : Nat} {l : List VT} {k : Nat} {v : VT} (h : k < 3 * f + 1) (hk : k < l.length) (hi : l[k].is = true) : addV f l (k + 1) v = (l, 18) := by
  unfold addV
  rw [if_neg (by omega), Nat.add_sub_cancel, if_pos (by rw [List.getElem?_eq_getElem hk]; exact hi)]
theorem addV_ok {f : Nat} {l : List VT} {k : Nat} {v : VT} (h : k < 3 * f + 1) (hk : k < l.length) (hi : l[k].is = false) : addV f l (k + 1) v = (l.set k v, 0) := by
  unfold addV
  rw [if_neg (by omega), Nat.add_sub_cancel, if_neg (by rw [List.getElem?_eq_getElem hk]; show ¬ l[k].is = true; rw [hi]; simp)]
theorem add_any (w : World) (p f : Nat) (l : List VT) (h : QS w p f l) (fr : Nat) (hfr : fr < 18446744073709551616) (ao bo co : Option Addr) (n1 cap n2 cap2 n3 cap3 : Nat) (xs ys zs : List Int) (S1 : Sl w ao n1 cap xs) (S2 : Sl w bo n2 cap2 ys) (S3 : Sl w co n3 cap3 zs) (b1 : n1 ≤ 1000000) (b2 : n2 ≤ 1000000) (b3 : n3 ≤ 1000000) :
    Calls Try.prog 53 #[.pointer (some ⟨p, 0, none⟩), .agg #[.int .u64 (fr : Nat), .slice ao n1 cap, .slice bo n2 cap2], .slice co n3 cap3] w fun x w' =>
      x = .returned (.int .i64 (addV f l fr ⟨true, strOfNums zs, strOfNums xs, strOfNums ys⟩).2) ∧ QS w' p f (addV f l fr ⟨true, strOfNums zs, strOfNums xs, strOfNums ys⟩).1 ∧ w.grownBy w' (some p) := by
  match fr, hfr with
  | 0, _ =>
    rw [addV_out (.inl rfl)]
    refine (add_zero w p f l h ao bo co n1 cap n2 cap2 n3 cap3).mono ?_
    rintro x w' ⟨rfl, C⟩
    exact ⟨rfl, h.below C, bel_grown C _⟩
  | k + 1, hfr =>
    by_cases hk : 3 * f + 1 ≤ k
    · rw [addV_out (.inr (by omega))]
      refine (add_over w p f l h k _ rfl hk hfr ao bo co n1 cap n2 cap2 n3 cap3).mono ?_
      rintro x w' ⟨rfl, C⟩
      exact ⟨rfl, h.below C, bel_grown C _⟩
    · have hk2 : k < 3 * f + 1 := by omega
      have f4 := h.f4
      have hkl : k < l.length := by rw [h.len]; omega
      cases hi : l[k].is with
      | true =>
        rw [addV_again hk2 hkl hi]
        refine (add_again w p f l h k _ rfl hk2 (fun _ => hi) ao bo co n1 cap n2 cap2 n3 cap3).mono ?_
        rintro x w' ⟨rfl, C⟩
        exact ⟨rfl, h.below C, bel_grown C _⟩
      | false =>
        rw [addV_ok hk2 hkl hi]
        refine (add_ok w p f l h k _ rfl hk2 (fun _ => hi) ao bo co n1 cap n2 cap2 n3 cap3 xs ys zs S1 S2 S3 b1 b2 b3).mono ?_
        rintro x w' ⟨rfl, Q, G⟩
        exact ⟨rfl, Q, G⟩
end Go.Proofs.Ytbbhokodleaheaa
namespace Go
section
variable {P : Program} {ops : Array Oper} {S : World → Prop} {Q : Exit → Act → World → Prop} {fuel : Nat} {listed : Array Bool} {a : Act} {w : World}
theorem hr_ex (i : Nat) (d : Option Tmp) {oi : Oper} {R : Value → World → Prop} (hi : ops[i]? = some oi) (hd : oi.dst = d) (hr : Region.ready .any ops listed = [i]) (hw : Region.wanted oi (yielded ops a.tmps) = true)
    (hrun : ∃ v w', (execOp a.eval oi).run P w = .ok (.value v) w' ∧ R v w')
    (h : ∀ v w', R v w' → S w' ∧ wpAnyH P .any ops (NoPanic Q) S fuel (listed.setIfInBounds i true) (a.put d v) w') : wpAnyH P .any ops (NoPanic Q) S (fuel + 1) listed a w := by
  refine wpAnyH_all hr (by simp) fun j hj => ?_
  obtain rfl := List.mem_singleton.1 hj
  obtain ⟨v, w', hrun, hR⟩ := hrun
  unfold wpOp
  simp only [hi, hw, if_true, Oper.wp, hrun, Oper.upon, hd]
  exact .inl (h v w' hR)
theorem op_ex (i : Nat) (d : Option Tmp) {oi : Oper} {R : Value → World → Prop} (hi : ops[i]? = some oi) (hd : oi.dst = d) (hw : Region.wanted oi (yielded ops a.tmps) = true)
    (hrun : ∃ v w', (execOp a.eval oi).run P w = .ok (.value v) w' ∧ R v w')
    (h : ∀ v w', R v w' → S w' ∧ wpAnyH P .any ops (NoPanic Q) S fuel (listed.setIfInBounds i true) (a.put d v) w') : wpOp P ops (NoPanic Q) i (fun a' w' => S w' ∧ wpAnyH P .any ops (NoPanic Q) S fuel (listed.setIfInBounds i true) a' w') a w := by
  obtain ⟨v, w', hrun, hR⟩ := hrun
  unfold wpOp
  simp only [hi, hw, if_true, Oper.wp, hrun, Oper.upon, hd]
  exact .inl (h v w' hR)
end
end Go
namespace Go.Proofs.Ytbbhokodleaheaa
open Go.RowKit
def LC (w : World) (L f low view M : Nat) : Prop := Arr w L 69 [.int .i64 (f : Nat), .int .u64 (low : Nat), .int .u64 (view : Nat), .map (some M)]
theorem LC.lt {w : World} {L f low view M : Nat} (h : LC w L f low view M) : L < w.heap.size := Arr.lt h
theorem LC.below {w w' : World} {L f low view M : Nat} (h : LC w L f low view M) (hb : Below w.heap.size w w') : LC w' L f low view M := Arr.below h hb h.lt
theorem LC.cell {w : World} {L f low view M : Nat} (h : LC w L f low view M) (j : Nat) : w.cell? ⟨L, j, none⟩ = ([.int .i64 (f : Nat), .int .u64 (low : Nat), .int .u64 (view : Nat), .map (some M)] : List Value)[j]? := Arr.cell h j
def jdgS (f low fr seq : Nat) : Int := if seq ≤ low ∨ 8 < seq - low then 13 else if fr = 0 ∨ 3 * f + 1 < fr then 15 else 0
set_option maxRecDepth 100000 in
set_option maxHeartbeats 4000000 in
theorem judge_log (w : World) (L f low view M fr seq : Nat) (h : LC w L f low view M) (h1 : 1 ≤ f) (h4 : f ≤ 4) (hl : low < 18446744073709551616) (hs : seq < 18446744073709551616) :
    Calls Try.prog 48 #[.pointer (some ⟨L, 0, none⟩), .int .u64 (fr : Nat), .int .u64 (seq : Nat)] w fun e w' => e = .returned (.int .i64 (jdgS f low fr seq)) ∧ w' = w := by
  have x0 : w.cell? ⟨L, 0, none⟩ = some (.int .i64 (f : Nat)) := h.cell 0
  have x1 : w.cell? ⟨L, 1, none⟩ = some (.int .u64 (low : Nat)) := h.cell 1
  have CN := n_any f w
  rw [nF_t 3 (okF_t (by omega) (by omega))] at CN
  have iw : IntKind.u64.wrap (3 * (f : Int) + 1) = 3 * (f : Int) + 1 := by
    unfold IntKind.wrap
    simp [IntKind.bits, IntKind.signed]
    omega
  clear h
  by_cases c1 : seq ≤ low
  · have t1 : (seq : Int) ≤ (low : Int) := by omega
    have d1 : decide ((seq : Int) ≤ (low : Int)) = true := decide_eq_true t1
    have hv : Hid (jdgS f low fr seq = 13) := if_pos (.inl c1)
    go_enter Try.func48, Try.ntmps48
    go_wp2
    go_ret
    exact ⟨by rw [hv.out] <;> rfl, rfl⟩
  have t1 : ¬ (seq : Int) ≤ (low : Int) := by omega
  have d1 : decide ((seq : Int) ≤ (low : Int)) = false := decide_eq_false t1
  have sw : IntKind.u64.wrap ((seq : Int) - (low : Int)) = (seq : Int) - (low : Int) := by
    unfold IntKind.wrap
    simp [IntKind.bits, IntKind.signed]
    omega
  by_cases c2 : 8 < seq - low
  · have t2 : (8 : Int) < (seq : Int) - (low : Int) := by omega
    have d2 : decide ((8 : Int) < (seq : Int) - (low : Int)) = true := decide_eq_true t2
    have hv : Hid (jdgS f low fr seq = 13) := if_pos (.inr c2)
    go_enter Try.func48, Try.ntmps48
    go_wp2
    go_ret
    exact ⟨by rw [hv.out] <;> rfl, rfl⟩
  have t2 : ¬ (8 : Int) < (seq : Int) - (low : Int) := by omega
  have d2 : decide ((8 : Int) < (seq : Int) - (low : Int)) = false := decide_eq_false t2
  by_cases c3 : fr = 0
  · have t3 : ((fr : Int) == 0) = true := by simp; omega
    have hv : Hid (jdgS f low fr seq = 15) := (if_neg (by omega)).trans (if_pos (.inl c3))
    clear c3
    go_enter Try.func48, Try.ntmps48
    go_wp2
    go_ret
    exact ⟨by rw [hv.out] <;> rfl, rfl⟩
  have t3 : ((fr : Int) == 0) = false := by simp; omega
  by_cases c4 : 3 * f + 1 < fr
  · have t4 : 3 * (f : Int) + 1 < (fr : Int) := by omega
    have d4 : decide (3 * (f : Int) + 1 < (fr : Int)) = true := decide_eq_true t4
    have hv : Hid (jdgS f low fr seq = 15) := (if_neg (by omega)).trans (if_pos (.inr c4))
    go_enter Try.func48, Try.ntmps48
    go_wp2_with (go_at_call 70; refine CN.mono ?_; rintro e w' ⟨rfl, rfl⟩)
    go_ret
    exact ⟨by rw [hv.out] <;> rfl, rfl⟩
  have t4 : ¬ 3 * (f : Int) + 1 < (fr : Int) := by omega
  have d4 : decide (3 * (f : Int) + 1 < (fr : Int)) = false := decide_eq_false t4
  have hv : Hid (jdgS f low fr seq = 0) := (if_neg (by omega)).trans (if_neg (by omega))
  go_enter Try.func48, Try.ntmps48
  go_wp2_with (go_at_call 70; refine CN.mono ?_; rintro e w' ⟨rfl, rfl⟩)
  go_ret
  exact ⟨by rw [hv.out] <;> rfl, rfl⟩
theorem prim_below (view f : Nat) (hv : view < 18446744073709551616) (w : World) : Calls Try.prog 71 #[.int .u64 (view : Nat), .int .i64 (f : Nat)] w fun e w' => e = .returned (.int .u64 (prF view f : Nat)) ∧ Below w.heap.size w w' :=
  (prim_any view f hv w).mono fun _ _ h => ⟨h.1, by rw [h.2]; exact Below.refl _ _⟩
set_option maxRecDepth 100000 in
set_option maxHeartbeats 4000000 in
theorem primary_log (w : World) (L f low view M : Nat) (h : LC w L f low view M) (hv : view < 18446744073709551616) :
    Calls Try.prog 49 #[.pointer (some ⟨L, 0, none⟩)] w fun e w' => e = .returned (.int .u64 (prF view f : Nat)) ∧ Below w.heap.size w w' := by
  go_enter Try.func49, Try.ntmps49
  go_wp2_with fail
  have tHS : Hid (∀ V, Below w.heap.size w V → V.cell? ⟨L, 0, none⟩ = some (.int .i64 (f : Nat)) ∧ V.cell? ⟨L, 2, none⟩ = some (.int .u64 (view : Nat))) := fun V hV => by have K := h.below hV; exact ⟨K.cell 0, K.cell 2⟩
  have tE0 : Below w.heap.size w w.drew := (Below.refl _ _).drew
  refine wp_region_noPanic ?_
  refine wp_region_held_drew (S := fun V => V.cell? ⟨L, 0, none⟩ = some (.int .i64 (f : Nat)) ∧ V.cell? ⟨L, 2, none⟩ = some (.int .u64 (view : Nat))) (by kernel_rfl) (tHS.out _ tE0) (fun tH0 => ?_)
  obtain ⟨tv0, hv0⟩ : ∃ v, v = w.drew := ⟨_, rfl⟩
  rw [← hv0] at tH0 tE0 ⊢
  clear hv0
  refine hr_take_w 0 (some 3) (.pointer (some ⟨L, 0, none⟩)) rfl rfl (by kernel_rfl) (by kernel_rfl) (by kernel_rfl) rfl (fun W hW => by obtain ⟨h0, h1⟩ := hW; go_simp) tH0 ?_
  simp only [FL]
  refine hr_take_w 1 (some 4) (.pointer (some ⟨L, 0, none⟩)) rfl rfl (by kernel_rfl) (by kernel_rfl) (by kernel_rfl) rfl (fun W hW => by obtain ⟨h0, h1⟩ := hW; go_simp) tH0 ?_
  simp only [FL]
  refine hr_take_w 2 (some 5) (.pointer (some ⟨L, 2, none⟩)) rfl rfl (by kernel_rfl) (by kernel_rfl) (by kernel_rfl) rfl (fun W hW => by obtain ⟨h0, h1⟩ := hW; go_simp) tH0 ?_
  simp only [FL]
  refine hr_take_w 3 (some 6) (.int .u64 (view : Nat)) rfl rfl (by kernel_rfl) (by kernel_rfl) (by kernel_rfl) rfl (fun W hW => by obtain ⟨h0, h1⟩ := hW; go_simp) tH0 ?_
  simp only [FL]
  refine hr_take_w 4 (some 7) (.pointer (some ⟨L, 0, none⟩)) rfl rfl (by kernel_rfl) (by kernel_rfl) (by kernel_rfl) rfl (fun W hW => by obtain ⟨h0, h1⟩ := hW; go_simp) tH0 ?_
  simp only [FL]
  refine hr_take_w 5 (some 8) (.pointer (some ⟨L, 0, none⟩)) rfl rfl (by kernel_rfl) (by kernel_rfl) (by kernel_rfl) rfl (fun W hW => by obtain ⟨h0, h1⟩ := hW; go_simp) tH0 ?_
  simp only [FL]
  refine hr_take_w 6 (some 9) (.pointer (some ⟨L, 0, none⟩)) rfl rfl (by kernel_rfl) (by kernel_rfl) (by kernel_rfl) rfl (fun W hW => by obtain ⟨h0, h1⟩ := hW; go_simp) tH0 ?_
  simp only [FL]
  refine hr_take_w 7 (some 10) (.int .i64 (f : Nat)) rfl rfl (by kernel_rfl) (by kernel_rfl) (by kernel_rfl) rfl (fun W hW => by obtain ⟨h0, h1⟩ := hW; go_simp) tH0 ?_
  simp only [FL]
  refine hr_call_w 8 (some 11) 71 #[.int .u64 (view : Nat), .int .i64 (f : Nat)] rfl rfl (by kernel_rfl) rfl (by go_simp) (fun v w' => v = .int .u64 (prF view f : Nat) ∧ Below tv0.heap.size tv0 w') ((prim_below view f hv tv0).mono (by
    rintro e w' ⟨rfl, C⟩
    exact ⟨_, rfl, rfl, C⟩)) ?_
  rintro v tv1 ⟨rfl, tC0⟩
  have tE1 := tE0.trans (tC0.mono tE0.size)
  have tH1 := tHS.out tv1 tE1
  refine ⟨tH1, ?_⟩
  simp only [FL]
  refine hr_take_w 9 (some 2) (.int .u64 (prF view f : Nat)) rfl rfl (by kernel_rfl) (by kernel_rfl) (by kernel_rfl) rfl (fun W hW => by obtain ⟨h0, h1⟩ := hW; go_simp) tH1 ?_
  simp only [FL]
  refine wpAnyH_done (by kernel_rfl) ?_ _
  refine NoPanic.normal ?_
  go_wp2
  go_ret
  exact ⟨rfl, tE1⟩
open Go.RowKit
def RC0 (w : World) (r : Nat) : Prop := Arr w r 83 [.bool false, .string ⟨#[]⟩, .int .u64 0, .slice none 0 0, .slice none 0 0, .pointer none, .pointer none]
set_option maxRecDepth 100000 in
set_option maxHeartbeats 4000000 in
theorem newRound_any (w : World) (f : Nat) (h1 : 1 ≤ f) (h4 : f ≤ 4) :
    Calls Try.prog 56 #[.int .i64 (f : Nat)] w fun e w' => ∃ p q, e = .returned (.agg #[.bool false, .string ⟨#[]⟩, .int .u64 0, .slice none 0 0, .slice none 0 0, .pointer (some ⟨p, 0, none⟩), .pointer (some ⟨q, 0, none⟩)]) ∧ w.heap.size < p ∧ p < q ∧ QS w' p f noVotes ∧ QS w' q f noVotes ∧ Below w.heap.size w w' := by
  have CN := fun W => new_good W f h1 h4
  have HA : Hid (RC0 (w.alloc (.cells #[.bool false, .string ⟨#[]⟩, .int .u64 0, .slice none 0 0, .slice none 0 0, .pointer none, .pointer none] 83)) w.heap.size) := heap_alloc_new w _
  have HB : Hid (Below w.heap.size w (w.alloc (.cells #[.bool false, .string ⟨#[]⟩, .int .u64 0, .slice none 0 0, .slice none 0 0, .pointer none, .pointer none] 83))) := (Below.refl _ _).alloc (Nat.le_refl _) _
  go_enter Try.func56, Try.ntmps56
  go_wp2_with (go_at_call 75; refine (CN _).mono ?_; first
    | (rintro e w' ⟨p, rfl, hp, hQ, hB⟩
       have kD : Hid (_ ∧ _ ∧ _ ∧ _) := ⟨kC.out.1.below hB (Arr.lt kC.out.1), kC.out.2.1.below hB, kC.out.2.2.trans (hB.mono kC.out.2.2.size), Nat.lt_of_lt_of_le kC.out.2.1.lt hp⟩
       have kE : Hid (_ ∧ _) := ⟨hQ, hp⟩
       have kR := kD.out.1
       have k0 := kR.cell 0
       have k1 := kR.cell 1
       have k2 := kR.cell 2
       have k3 := kR.cell 3
       have k4 := kR.cell 4
       have k5 := kR.cell 5
       have k6 := kR.cell 6
       have f0 := kR.free 0
       have f1 := kR.free 1
       have f2 := kR.free 2
       have f3 := kR.free 3
       have f4 := kR.free 4
       have f5 := kR.free 5
       have f6 := kR.free 6
       clear kR hp hQ hB)
    | (rintro e w0 ⟨p0, rfl, hp, hQ, hB⟩
       have kC : Hid (Arr _ w.heap.size _ _ ∧ QS _ p0 f noVotes ∧ Below w.heap.size w _) := ⟨HA.out.below hB (Arr.lt HA.out), hQ, HB.out.trans (hB.mono HB.out.size)⟩
       have kP : Hid (w.heap.size < p0) := Nat.lt_of_lt_of_le (Arr.lt HA.out) hp
       clear hp hQ hB))
  have kS := kD.out.1
  refine bodyPost_ret (v := .agg #[.bool false, .string ⟨#[]⟩, .int .u64 0, .slice none 0 0, .slice none 0 0, .pointer (some ⟨p0, 0, none⟩), .pointer (some ⟨p, 0, none⟩)]) (results_cell_row rfl _ _ w.heap.size 83 _ _ _ rfl (((((((kS.set 0 _).set 1 _).set 2 _).set 3 _).set 4 _).set 5 _).set 6 _) (by rfl) (by rfl) (by rfl)) rfl ?_
  refine ⟨_, _, rfl, kP.out, kD.out.2.2.2, ?_, ?_, ?_⟩
  · have hn : p0 ≠ w.heap.size := Nat.ne_of_gt kP.out
    exact kD.out.2.1.keep (by iterate 7 rw [heap_setCell_other _ _ _ _ hn])
  · have hn : p ≠ w.heap.size := Nat.ne_of_gt (Nat.lt_trans kP.out kD.out.2.2.2)
    exact kE.out.1.keep (by iterate 7 rw [heap_setCell_other _ _ _ _ hn])
  · exact ((((((kD.out.2.2.1.setCell (Nat.le_refl _) _).setCell (Nat.le_refl _) _).setCell (Nat.le_refl _) _).setCell (Nat.le_refl _) _).setCell (Nat.le_refl _) _).setCell (Nat.le_refl _) _).setCell (Nat.le_refl _) _
theorem slNew_good (w : World) (f : Nat) (h1 : 1 ≤ f) (h4 : f ≤ 4) : Calls Try.prog 11 #[.int .i64 (f : Nat)] w fun x w' => x = .returned (.tuple #[.pointer (some ⟨w.heap.size + 1, 0, none⟩), .int .i64 0]) ∧ LC w' (w.heap.size + 1) f 0 0 w.heap.size ∧ MF w' 30 w.heap.size 0 (fun _ => none) ∧ Below w.heap.size w w' := by
  have c1 : ¬ (f : Int) < 1 := by omega
  have d1 : decide ((f : Int) < 1) = false := decide_eq_false c1
  have c2 : ¬ (4 : Int) < (f : Int) := by omega
  have d2 : decide ((4 : Int) < (f : Int)) = false := decide_eq_false c2
  have hmm := @run_makeMap Try.prog
  have s1 : (w.alloc (.map #[] 0)).heap.size = w.heap.size + 1 := by simp
  have HB : Hid (Below w.heap.size w ((w.alloc (.map #[] 0)).alloc (.cells #[.int .i64 (f : Nat), .int .u64 0, .int .u64 0, .map (some w.heap.size)] 69))) := ((Below.refl _ w).alloc (Nat.le_refl _) _).alloc (by omega) _
  have HM : Hid (MF ((w.alloc (.map #[] 0)).alloc (.cells #[.int .i64 (f : Nat), .int .u64 0, .int .u64 0, .map (some w.heap.size)] 69)) 30 w.heap.size 0 (fun _ => none)) := (MF.made w _).kept (World.grownBy_alloc _ _ none) (by simp)
  have HL : Hid (LC ((w.alloc (.map #[] 0)).alloc (.cells #[.int .i64 (f : Nat), .int .u64 0, .int .u64 0, .map (some w.heap.size)] 69)) (w.heap.size + 1) f 0 0 w.heap.size) := by
    have := heap_alloc_new (w.alloc (.map #[] 0)) (.cells #[.int .i64 (f : Nat), .int .u64 0, .int .u64 0, .map (some w.heap.size)] 69)
    rw [s1] at this
    exact this
  clear s1
  go_enter Try.func11, Try.ntmps11
  go_wp2
  go_ret2
  exact ⟨rfl, HL.out, HM.out, HB.out⟩
end Go.Proofs.Ytbbhokodleaheaa
namespace Go
theorem exec_mapUpdate15 {P : Program} {a : Act} {w : World} {o : Oper} {t : TypeId} {m x v : Operand} {mv xv vv : Value} {R : World → Prop} (ho : o.op = .mapUpdate t m x v) (hm : a.eval m = mv) (hx : a.eval x = xv) (hv : a.eval v = vv) (hr : ∃ w', (Instr.mapUpdate t mv xv vv).run P w = .ok () w' ∧ R w') :
    ∃ w', (execOp a.eval o).run P w = .ok .skip w' ∧ R w' := by
  obtain ⟨w', h1, h2⟩ := hr
  refine ⟨w', ?_, h2⟩
  unfold execOp
  simp only [ho, hm, hx, hv, h1, Sem.run_bind, Sem.run_pure, Result.andThen_ok]
theorem wpList_mapUpdate_F15 {P : Program} {ops : Array Oper} {rest : List Oper} {a : Act} {w : World} {Q : Exit → Act → World → Prop} {o : Oper} (hgd : o.guard = none) {t : TypeId} {m x v : Operand} {mv xv vv : Value} {R : World → Prop} (ho : o.op = .mapUpdate t m x v) (hm : a.eval m = mv) (hx : a.eval x = xv) (hv : a.eval v = vv) (hr : ∃ w', (Instr.mapUpdate t mv xv vv).run P w = .ok () w' ∧ R w')
    (h : ∀ w', R w' → wpList P ops Q rest (a.put o.dst undef) w') : wpList P ops Q (o :: rest) a w := by
  refine wpList_plain hgd fun K hK => ?_
  obtain ⟨w', h1, h2⟩ := exec_mapUpdate15 ho hm hx hv hr
  unfold Oper.wp
  rw [h1, Oper.upon_skip]
  exact hK _ _ (h w' h2)
end Go
namespace Go.Proofs.Ytbbhokodleaheaa
open Go.RowKit
theorem kU : Maps.Keyed Try.prog 30 := Maps.int_keyed Try.underlying30
theorem keyU (n : Nat) (h : n < 18446744073709551616) : keyOf Try.prog 30 (.int .u64 (n : Nat)) = some (.int .u64 (n : Nat)) :=
  Maps.keyOf_int_mk Try.underlying30 (by simp [Lit.wf, IntKind.min, IntKind.max, IntKind.signed, IntKind.bits]; omega)
theorem zSlot (w : World) : (zeroValue 80).run Try.prog w = .ok (.pointer none) w := by kernel_rfl
theorem slot_there (w : World) (L f low view M n seq X : Nat) (F : Value → Option Value) (h : LC w L f low view M) (hM : MF w 30 M n F) (hs : seq < 18446744073709551616) (hX : F (.int .u64 (seq : Nat)) = some (.pointer (some ⟨X, 0, none⟩))) :
    Calls Try.prog 50 #[.pointer (some ⟨L, 0, none⟩), .int .u64 (seq : Nat)] w fun e w' => e = .returned (.pointer (some ⟨X, 0, none⟩)) ∧ w' = w := by
  have x3 : w.cell? ⟨L, 3, none⟩ = some (.map (some M)) := h.cell 3
  have hl := hM.look1 kU Try.underlying67 (zSlot w) (keyU seq hs)
  rw [hX] at hl
  simp only [Option.getD_some] at hl
  clear h hM hX
  go_enter Try.func50, Try.ntmps50
  go_wp2
  go_ret
  exact ⟨rfl, rfl⟩
def SlC (w : World) (X : Nat) (r : List Value) (c : List Value) : Prop := Arr w X 87 (r ++ c)
set_option maxRecDepth 100000 in
set_option maxHeartbeats 4000000 in
theorem slot_none (w : World) (L f low view M n seq : Nat) (F : Value → Option Value) (h : LC w L f low view M) (h1 : 1 ≤ f) (h4 : f ≤ 4) (hM : MF w 30 M n F) (hn : n < maxLen) (hs : seq < 18446744073709551616) (hX : F (.int .u64 (seq : Nat)) = none) :
    Calls Try.prog 50 #[.pointer (some ⟨L, 0, none⟩), .int .u64 (seq : Nat)] w fun e w' => ∃ X p q F', e = .returned (.pointer (some ⟨X, 0, none⟩)) ∧ w.heap.size < p ∧ p < q ∧ q < X ∧ QS w' p f noVotes ∧ QS w' q f noVotes ∧
      SlC w' X [.bool false, .string ⟨#[]⟩, .int .u64 0, .slice none 0 0, .slice none 0 0, .pointer (some ⟨p, 0, none⟩), .pointer (some ⟨q, 0, none⟩)] [.bool false, .int .u64 0, .string ⟨#[]⟩, .slice none 0 0] ∧
      MF w' 30 M (n + 1) F' ∧ F' (.int .u64 (seq : Nat)) = some (.pointer (some ⟨X, 0, none⟩)) ∧ (∀ y, y ≠ .int .u64 (seq : Nat) → F' y = F y) ∧ w.grownBy w' (some M) := by
  have x0 : w.cell? ⟨L, 0, none⟩ = some (.int .i64 (f : Nat)) := h.cell 0
  have x3 : w.cell? ⟨L, 3, none⟩ = some (.map (some M)) := h.cell 3
  have hl := hM.look1 kU Try.underlying67 (zSlot w) (keyU seq hs)
  rw [hX] at hl
  simp only [Option.getD_none] at hl
  have HH : Hid (LC w L f low view M ∧ MF w 30 M n F ∧ F (.int .u64 (seq : Nat)) = none) := ⟨h, hM, hX⟩
  clear h hM hX
  have CN := newRound_any w f h1 h4
  go_enter Try.func50, Try.ntmps50
  go_wp2_with (first
    | (go_at_call 56; refine CN.mono ?_; rintro e w1 ⟨p, q, rfl, hp, hpq, hQ, hR, hB⟩
       have kL := HH.out.1.below hB
       have k3 : ∀ o, (w1.alloc o).cell? ⟨L, 3, none⟩ = some (.map (some M)) := fun o => (LC.below kL ((Below.refl _ w1).alloc (Nat.le_refl _) o)).cell 3
       have kK : Hid (w.heap.size < p ∧ p < q ∧ QS w1 p f noVotes ∧ QS w1 q f noVotes ∧ Below w.heap.size w w1) := ⟨hp, hpq, hQ, hR, hB⟩
       have kM : Hid (∀ o, MF (w1.alloc o) 30 M n F) := fun o => (HH.out.2.1.below hB HH.out.2.1.lt).below ((Below.refl _ w1).alloc (Nat.le_refl _) o) (Nat.lt_of_lt_of_le HH.out.2.1.lt hB.size)
       clear kL hp hpq hQ hR hB)
    | (at_mapUpdate; refine wpList_mapUpdate_F15 (R := fun w4 => ∃ F', MF w4 30 M (n + 1) F' ∧ World.grownBy (w1.alloc (.cells #[.bool false, .string ⟨#[]⟩, .int .u64 0, .slice none 0 0, .slice none 0 0, .pointer (some ⟨p, 0, none⟩), .pointer (some ⟨q, 0, none⟩), .bool false, .int .u64 0, .string ⟨#[]⟩, .slice none 0 0] 87)) w4 (some M) ∧ F' (.int .u64 (seq : Nat)) = some (.pointer (some ⟨w1.heap.size, 0, none⟩)) ∧ (∀ y, y ≠ .int .u64 (seq : Nat) → F' y = F y)) rfl rfl rfl rfl rfl (by
          obtain ⟨w4, F', n', r1, r2, r3, r4, r5, r6, r7⟩ := (kM.out _).update kU Try.underlying67 hn (key := .int .u64 (seq : Nat)) (val := .pointer (some ⟨w1.heap.size, 0, none⟩)) (keyU seq hs)
          obtain rfl := r6 HH.out.2.2
          exact ⟨w4, r1, F', r2, r3, r4, r5⟩) ?_; rintro w4 ⟨F', M4, G4, q1, q2⟩; go_frame))
  go_ret
  obtain ⟨c1, c2, c3, c4, c5⟩ := kK.out
  have lM := HH.out.2.1.lt
  have lq := c4.lt
  have lp := c3.lt
  have BA : Below w1.heap.size w1 (w1.alloc (.cells #[.bool false, .string ⟨#[]⟩, .int .u64 0, .slice none 0 0, .slice none 0 0, .pointer (some ⟨p, 0, none⟩), .pointer (some ⟨q, 0, none⟩), .bool false, .int .u64 0, .string ⟨#[]⟩, .slice none 0 0] 87)) := (Below.refl _ w1).alloc (Nat.le_refl _) _
  have sz := BA.size
  have AX : Arr (w1.alloc (.cells #[.bool false, .string ⟨#[]⟩, .int .u64 0, .slice none 0 0, .slice none 0 0, .pointer (some ⟨p, 0, none⟩), .pointer (some ⟨q, 0, none⟩), .bool false, .int .u64 0, .string ⟨#[]⟩, .slice none 0 0] 87)) w1.heap.size 87 ([.bool false, .string ⟨#[]⟩, .int .u64 0, .slice none 0 0, .slice none 0 0, .pointer (some ⟨p, 0, none⟩), .pointer (some ⟨q, 0, none⟩)] ++ [.bool false, .int .u64 0, .string ⟨#[]⟩, .slice none 0 0]) := heap_alloc_new w1 _
  have nM : ∀ k : Nat, w.heap.size < k → some k ≠ some M := fun k hk g => by
    have := Option.some.inj g
    omega
  refine ⟨w1.heap.size, p, q, F', rfl, c1, c2, lq, (c3.below BA).keep (G4.block p (by omega) (nM p c1)), (c4.below BA).keep (G4.block q (by omega) (nM q (by omega))), AX.grown G4 (nM _ (by omega)), M4, q1, q2, ?_⟩
  exact (bel_grown (c5.trans (BA.mono c5.size)) (some M)).trans G4
structure CT where
  view : Nat
  sum : ByteArray
  texts : List SV
structure ST where
  has : Bool
  sum : ByteArray
  pre : SV
  pv : List VT
  cv : List VT
  cert : Option CT
def newST : ST := ⟨false, ⟨#[]⟩, ⟨0, [], []⟩, noVotes, noVotes, none⟩
def cvw (c : Option CT) : Nat := match c with | none => 0 | some c => c.view
def csm (c : Option CT) : ByteArray := match c with | none => ⟨#[]⟩ | some c => c.sum
def ctx (c : Option CT) : List SV := match c with | none => [] | some c => c.texts
def prepS (f : Nat) (x : ST) : Bool := x.has && decide (2 * f ≤ cntV x.sum x.pv)
def commS (f : Nat) (x : ST) : Bool := prepS f x && decide (2 * f + 1 ≤ cntV x.sum x.cv)
def certIn (v : Nat) (x : ST) : Bool := x.cert.isSome && decide (cvw x.cert = v)
def certS (f v : Nat) (x : ST) : ST := if (certIn v x || !prepS f x) = true then x else { x with cert := some ⟨v, x.sum, x.pre :: (prfV x.sum 0 x.pv).take (2 * f)⟩ }
structure GT where
  f : Nat
  low : Nat
  view : Nat
  s : Nat → Option ST
def GT.slot (g : GT) (k : Nat) : ST := (g.s k).getD newST
def GT.put (g : GT) (k : Nat) (x : ST) : GT := { g with s := fun j => if j = k then some x else g.s j }
theorem GT.put_same (g : GT) (k : Nat) (x : ST) : (g.put k x).s k = some x := if_pos rfl
theorem GT.put_other (g : GT) (k : Nat) (x : ST) {j : Nat} (h : j ≠ k) : (g.put k x).s j = g.s j := if_neg h
theorem GT.put_put (g : GT) (k : Nat) (x y : ST) : (g.put k x).put k y = g.put k y := by
  unfold GT.put
  simp only [GT.mk.injEq, true_and]
  funext j
  by_cases h : j = k <;> simp [h]
theorem GT.put_slot (g : GT) (k : Nat) (x : ST) (h : g.s k = some x) : g.put k x = g := by
  unfold GT.put
  cases g
  simp only [GT.mk.injEq, true_and] at h ⊢
  funext j
  by_cases e : j = k
  · rw [if_pos e, e, h]
  · rw [if_neg e]
def preG (g : GT) (sv : SV) (seq : Nat) (sum : ByteArray) : GT × Int :=
  if jdgS g.f g.low sv.fr seq ≠ 0 then (g, jdgS g.f g.low sv.fr seq)
  else if sv.fr ≠ prF g.view g.f then (g, 18)
  else if (g.slot seq).has = true then (g.put seq (g.slot seq), if (g.slot seq).sum = sum then 0 else 18)
  else (g.put seq (certS g.f g.view { g.slot seq with has := true, sum := sum, pre := sv }), 0)
def vtOf (sv : SV) (sum : ByteArray) : VT := ⟨true, sum, strOfNums sv.b, strOfNums sv.tag⟩
def addPv (g : GT) (sv : SV) (seq : Nat) (sum : ByteArray) : List VT × Int := addV g.f (g.slot seq).pv sv.fr (vtOf sv sum)
def addCv (g : GT) (sv : SV) (seq : Nat) (sum : ByteArray) : List VT × Int := addV g.f (g.slot seq).cv sv.fr (vtOf sv sum)
def parG (g : GT) (sv : SV) (seq : Nat) (sum : ByteArray) : GT × Int :=
  if jdgS g.f g.low sv.fr seq ≠ 0 then (g, jdgS g.f g.low sv.fr seq)
  else if sv.fr = prF g.view g.f then (g, 18)
  else if (addPv g sv seq sum).2 ≠ 0 then (g.put seq { g.slot seq with pv := (addPv g sv seq sum).1 }, (addPv g sv seq sum).2)
  else (g.put seq (certS g.f g.view { g.slot seq with pv := (addPv g sv seq sum).1 }), 0)
def comG (g : GT) (sv : SV) (seq : Nat) (sum : ByteArray) : GT × Int :=
  if jdgS g.f g.low sv.fr seq ≠ 0 then (g, jdgS g.f g.low sv.fr seq)
  else (g.put seq { g.slot seq with cv := (addCv g sv seq sum).1 }, (addCv g sv seq sum).2)
def turnS (x : ST) : Option ST := if x.cert.isSome = true then some { newST with cert := x.cert } else none
def entG (g : GT) (v : Nat) : GT × Int :=
  if 4611686018427387903 < v then (g, 14) else if v ≤ g.view then (g, 12) else ({ g with view := v, s := fun k => (g.s k).bind turnS }, 0)
def advG (g : GT) (l : Nat) : GT × Int :=
  if l < g.low ∨ 4611686018427387895 < l then (g, 13) else ({ g with low := l, s := fun k => if k ≤ l then none else g.s k }, 0)
def newG (f : Nat) : GT := ⟨f, 0, 0, fun _ => none⟩
end Go.Proofs.Ytbbhokodleaheaa

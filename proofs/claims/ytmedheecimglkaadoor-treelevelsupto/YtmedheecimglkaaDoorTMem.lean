/-
  Slices of values of one cell; append to one that has no room, or is the call's own.
-/
import Derived.Test.YtmedheecimglkaaDoorParts
import Derived.ArgAppend
import Derived.Deep.Upon
import Derived.DataElems
namespace Go.Proofs.YtmedheecimglkaaDoor
open Go.RowKit

/-- The slice at ao, of n values of one cell each, up to cap, holds vs. -/
structure VL (w : World) (ao : Option Addr) (n cap : Nat) (vs : List Value) : Prop where
  len : vs.length = n
  le : n ≤ cap
  mx : cap ≤ maxLen
  nil : ao = none → n = 0 ∧ cap = 0
  cell : ∀ a, ao = some a → ∀ i (h : i < vs.length), w.cell? (a.add i) = some vs[i]

section
variable {w w' : World} {ao : Option Addr} {n cap : Nat} {vs : List Value}
theorem VL.below (h : VL w ao n cap vs) (hb : Below w.heap.size w w') : VL w' ao n cap vs :=
  ⟨h.len, h.le, h.mx, h.nil, fun a ha i hi => by have hc := h.cell a ha i hi; rw [← hc]; exact hb.cell (World.block_lt_of_cell? w _ hc)⟩
theorem VL.at (h : VL w ao n cap vs) (hn : 0 < n) : ∃ b off, ao = some ⟨b, off, none⟩ ∧ ∀ i (hi : i < vs.length), w.cell? ⟨b, off + i, none⟩ = some vs[i] := by
  have hl := h.len
  cases ao with
  | none => have := (h.nil rfl).1; omega
  | some a =>
    obtain ⟨b, off, spot⟩ := a
    have hc := h.cell _ rfl 0 (by omega)
    have hs : spot = none := by simpa [Addr.add] using World.cell?_spot hc
    subst hs
    exact ⟨b, off, rfl, fun i hi => by have := h.cell _ rfl i hi; rw [Addr.add_lit] at this; exact this⟩
theorem VL.cells (h : VL w ao n cap vs) : ∀ a, ao = some a → ∀ j u, vs[j]? = some u → w.cell? (a.add j) = some u := fun a ha j u hu => by
  obtain ⟨hj, rfl⟩ := List.getElem?_eq_some_iff.1 hu
  exact h.cell a ha j hj
theorem VL.nothing (w : World) : VL w none 0 0 [] := ⟨rfl, Nat.le_refl _, Nat.zero_le _, fun _ => ⟨rfl, rfl⟩, fun _ h => by simp at h⟩
/-- The first i, and no room behind them. -/
theorem VL.front (h : VL w ao n cap vs) (i c : Nat) (hi : i ≤ n) (hc : i ≤ c) (hcc : c ≤ cap) : VL w ao i c (vs.take i) := by
  have h1 := h.len
  have h2 := h.mx
  refine ⟨by simp; omega, hc, by omega, fun hn => ?_, fun a ha j hj => ?_⟩
  · have := h.nil hn
    omega
  · simp only [List.length_take] at hj
    rw [h.cell a ha j (by omega), List.getElem_take]
/-- Those from j on. -/
theorem VL.back {a : Addr} (h : VL w (some a) n cap vs) (j : Nat) (hj : j ≤ n) : VL w (some (if cap = j then a else a.add j)) (n - j) (cap - j) (vs.drop j) := by
  have h1 := h.len
  have h2 := h.mx
  have h3 := h.le
  refine ⟨by simp; omega, by omega, by omega, fun hn => by simp at hn, fun b hb i hi => ?_⟩
  have hb' := Option.some.inj hb
  simp only [List.length_drop] at hi
  by_cases hcj : cap = j
  · omega
  · rw [if_neg hcj] at hb'
    have hc := h.cell a rfl (j + i) (by omega)
    rw [← hb', Addr.add_add, hc, List.getElem_drop]
theorem VL.own {base : Nat} {e : TypeId} {v : Value} (h : w.ownsRow base e 1 v n vs) : ∃ ao cap, v = .slice ao n cap ∧ VL w ao n cap vs ∧ ∀ a, ao = some a → base ≤ a.block ∧ a.block < w.heap.size ∧ a.off = 0 ∧ a.spot = none := by
  have hl : vs.length = n := by have := h.1; omega
  rcases h.2 with ⟨rfl, rfl⟩ | ⟨g, cap, cur, rfl, hg, hh, hle, hmx, hcs, htk⟩
  · obtain rfl : vs = [] := List.eq_nil_of_length_eq_zero hl
    exact ⟨none, 0, rfl, VL.nothing w, fun a ha => by simp at ha⟩
  · refine ⟨some ⟨g, 0, none⟩, cap, rfl, ⟨hl, hle, hmx, fun h => by simp at h, fun a ha i hi => ?_⟩, fun a ha => ?_⟩
    · obtain rfl := Option.some.inj ha
      exact h.cells (g := g) rfl i _ (List.getElem?_eq_getElem hi)
    · obtain rfl := Option.some.inj ha
      exact ⟨hg, (Array.getElem?_eq_some_iff.1 hh).1, rfl, rfl⟩
/-- Values laid in a new block. -/
theorem VL.new (w : World) (vs : List Value) (t : TypeId) (hn : vs.length ≤ maxLen) : VL (w.alloc (.cells vs.toArray t)) (some ⟨w.heap.size, 0, none⟩) vs.length vs.length vs := by
  refine ⟨rfl, Nat.le_refl _, hn, fun h => by simp at h, fun a ha i hi => ?_⟩
  obtain rfl := Option.some.inj ha
  rw [Addr.add_lit, Nat.zero_add, cell_of_row _ w.heap.size i vs.toArray t (0, 0) (heap_alloc_new w _)]
  simp
end

/-- What may be appended to without a look at others: a slice without room, or the call's own row. -/
def Apd (w : World) (base : Nat) (e : TypeId) (v : Value) (n : Nat) (vs : List Value) : Prop :=
  (∃ ao, v = .slice ao n n ∧ VL w ao n n vs) ∨ w.ownsRow base e 1 v n vs
theorem Apd.vl {w : World} {base : Nat} {e : TypeId} {v : Value} {n : Nat} {vs : List Value} (h : Apd w base e v n vs) : ∃ ao cap, v = .slice ao n cap ∧ VL w ao n cap vs := by
  rcases h with ⟨ao, rfl, h⟩ | h
  · exact ⟨ao, n, rfl, h⟩
  · obtain ⟨ao, cap, rfl, h, -⟩ := VL.own h
    exact ⟨ao, cap, rfl, h⟩
theorem src_none {P : Program} {w : World} {t e : TypeId} {i : TypeInfo} {bo : Option Addr} {c : Nat} (ht : P.underlying t = some (.slice e)) : Src P i.size t (.slice bo 0 c) 0 [] w := by
  refine ⟨.inl ⟨e, ht⟩, fun w' => rfl, ?_, ?_, by simp, by simp⟩ <;> cases bo <;> simp [Builtin.firstCells] <;> rfl
/-- append. -/
theorem run_apd {P : Program} {w : World} {base : Nat} {t ty e : TypeId} {i : TypeInfo} {z : Value} {bytes : Nat} {v : Value} {n : Nat} {vs : List Value} (ht : P.underlying t = some (.slice e)) (hi : P.info? e = some i) (hz : i.zero = some z)
    (hsize : i.size = 1) (hby : i.bytes = bytes) (hzs : z.cells.size = 1) (h : Apd w base e v n vs) (hbase : base ≤ w.heap.size) {bo : Option Addr} {m c : Nat} {ys : List Value} (hx : VL w bo m c ys) (h1 : ∀ u ∈ ys, u.oneCell' = true)
    (hb : (n + m) * bytes ≤ 140737488355328) (hb1 : 0 < bytes) :
    ∃ v' w', (Builtin.append_ #[t, t] ty #[v, .slice bo m c]).run P w = .ok v' w' ∧ Apd w' base e v' (n + m) (vs ++ ys) ∧ Below base w w' := by
  have hlen := hx.len
  have h63 : n + m ≤ maxLen := by
    have : n + m ≤ (n + m) * bytes := Nat.le_mul_of_pos_right _ hb1
    unfold maxLen
    omega
  by_cases hm : m = 0
  · subst hm
    obtain rfl : ys = [] := List.eq_nil_of_length_eq_zero hlen
    obtain ⟨ao, cap, rfl, hv⟩ := h.vl
    refine ⟨_, w, run_append_nothing w t t ty e i ht hi ao n cap hv.le _ (src_none ht), ?_, Below.refl _ _⟩
    simpa using h
  · obtain ⟨ad, rfl⟩ : ∃ ad, bo = some ad := by
      cases bo with
      | none => have := (hx.nil rfl).1; omega
      | some ad => exact ⟨ad, rfl⟩
    rcases h with ⟨ao, rfl, hv⟩ | hown
    · cases ao with
      | some b =>
        obtain ⟨v', w', hr, h2, h3⟩ := run_append_arg_grows (P := P) w t ty e i z 1 bytes ht hi hz hsize hby hzs (by decide) b n n vs (by have := hv.len; omega) (hv.cells b rfl) ad m c ys (by omega) (hx.cells ad rfl) (by omega) h63 hb
        exact ⟨v', w', hr, .inr (own_base h2 hbase), (Below.refl _ w).grown h3 hbase (by simp)⟩
      | none =>
        obtain ⟨rfl, -⟩ := hv.nil rfl
        obtain rfl : vs = [] := List.eq_nil_of_length_eq_zero hv.len
        obtain ⟨v', w', hr, h2, h3, -⟩ := run_append_own (P := P) w base t ty e i z 1 bytes ht hi hz hsize hby hzs (by decide) (.slice none 0 0) 0 [] (World.ownsRow_nil w _ e 1) ad m c ys (by omega) (hx.cells ad rfl) h1 h63 hb hbase
        exact ⟨v', w', hr, .inr h2, (Below.refl _ w).grown h3 hbase (by simp [Value.ownBlock])⟩
    · obtain ⟨v', w', hr, h2, h3, -⟩ := run_append_own (P := P) w base t ty e i z 1 bytes ht hi hz hsize hby hzs (by decide) v n vs hown ad m c ys (by omega) (hx.cells ad rfl) h1 h63 hb hbase
      exact ⟨v', w', hr, .inr h2, (Below.refl _ w).grown h3 hbase (fun k hk => (hown.lt k hk).1)⟩

/-- Slices of slices of bytes: cells that hold the parts' values, and each part reads as its bytes. -/
structure KL (w : World) (ao : Option Addr) (n cap : Nat) (ps : List Part) : Prop where
  vl : VL w ao n cap (ps.map Part.val)
  sl : ∀ q ∈ ps, Sl w q.ao q.n q.cap q.xs
theorem KL.below {w w' : World} {ao : Option Addr} {n cap : Nat} {ps : List Part} (h : KL w ao n cap ps) (hb : Below w.heap.size w w') : KL w' ao n cap ps :=
  ⟨h.vl.below hb, fun q hq => (h.sl q hq).below hb⟩
theorem KL.len {w : World} {ao : Option Addr} {n cap : Nat} {ps : List Part} (h : KL w ao n cap ps) : ps.length = n := by simpa using h.vl.len
theorem KL.pl {w : World} {ao : Option Addr} {n cap : Nat} {ps : List Part} (h : KL w ao n cap ps) : PL w ao n cap ps :=
  ⟨h.len, h.vl.le, h.vl.mx, fun e => (h.vl.nil e).1, fun a ha i hi => by have := h.vl.cell a ha i (by simpa using hi); simpa using this, h.sl⟩
theorem part_one (ps : List Part) : ∀ u ∈ ps.map Part.val, u.oneCell' = true := fun u hu => by
  obtain ⟨q, -, rfl⟩ := List.mem_map.1 hu
  rfl
end Go.Proofs.YtmedheecimglkaaDoor

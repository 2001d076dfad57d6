/-
  Lists of structs that came in.
-/
import Derived.Test.YtkncfjokkojfpaaDoorNilsS
import Derived.Deep.Slices
import Derived.ChangeSame
namespace Go.Deep
open Go.ChangeShapes Go.WideShapes
variable {H : Type} {enc : TypeId × Value → H} {P : Program} {w : World} {base : Nat} {spare : Nat → Bool} {held : Bool}

/-- A slice of structs, each field one cell, opened at every index. -/
theorem open_slice_struct {t e : TypeId} {fs : Array Field} {fuel : Nat} {cs : List Value} {x : DataW H × List MemPlace} (ht : P.underlying t = some (.slice e)) (he : P.underlying e = some (.struct fs))
    (ce : P.cellsOf e = fs.size) (off : ∀ (j : Nat) (f : Field), fs[j]? = some f → f.offset = j ∧ P.cellsOf f.type = 1)
    (h : DataW.trod enc P w base spare held fuel t cs = some x) :
    cs = [.slice none 0 0] ∨
    ∃ (a : Addr) (len cap m n : Nat), cs = [.slice (some a) len cap] ∧ len ≤ cap ∧ cap ≤ maxLen ∧ len ≤ m ∧
      ∀ i, i < m → ∀ (j : Nat) (f : Field), fs[j]? = some f → ∃ v y, w.cell? (a.add (i * fs.size + j)) = some v ∧ DataW.trod enc P w base spare held n f.type [v] = some y := by
  rcases open_slice ht h with h0 | ⟨a, len, cap, m, n, D, Pl, rfl, hb, hl, hm, hmm, rfl, hx⟩
  · exact Or.inl h0.1
  right
  have hlm : len ≤ m := by rw [hmm]; split <;> omega
  refine ⟨a, len, cap, m, n - 1, rfl, hl, hm, hlm, fun i hi j f hf => ?_⟩
  obtain ⟨cs', h1, h2⟩ := hx i hi
  rw [ce] at h1
  obtain ⟨_, hlen, hcell⟩ := World.cells?_some h1
  obtain ⟨xs, k, hk, hxy, _, hxl, hfs⟩ := DataW.trod_struct he h2
  have hk' : k = n - 1 := by omega
  subst hk'
  have hj : j < fs.size := (Array.getElem?_eq_some_iff.1 hf).1
  obtain ⟨o, c⟩ := off j f hf
  have g := hfs j f hf
  have e0 := hcell j (by omega)
  rw [add_add] at e0
  have hjc : j < cs'.length := by omega
  have hjx : j < xs.length := by omega
  rw [o, c, List.take_one, List.head?_drop, List.getElem?_eq_getElem hjc, List.getElem?_eq_getElem hjx] at g
  rw [List.getElem?_eq_getElem hjc] at e0
  exact ⟨cs'[j], xs[j], e0, g⟩

end Go.Deep

namespace Go.Proofs.YtkncfjokkojfpaaDoor
open Go.RowKit

/-- An ask: its kind, node, body and tag. -/
structure OpV where
  kind : Int
  node : Nat
  body : Part
  tag : Part

/-- The slice at ao, of n asks, reads as os. -/
structure OL (w : World) (ao : Option Addr) (n cap : Nat) (os : List OpV) : Prop where
  len : os.length = n
  le : n ≤ cap
  mx : cap ≤ maxLen
  nil : ao = none → n = 0
  cell : ∀ a, ao = some a → ∀ i (h : i < os.length), w.cell? (a.add (i * 4)) = some (.int .i64 os[i].kind) ∧ w.cell? (a.add (i * 4 + 1)) = some (.int .u64 os[i].node) ∧ w.cell? (a.add (i * 4 + 2)) = some os[i].body.val ∧ w.cell? (a.add (i * 4 + 3)) = some os[i].tag.val
  sl : ∀ o ∈ os, Sl w o.body.ao o.body.n o.body.cap o.body.xs ∧ Sl w o.tag.ao o.tag.n o.tag.cap o.tag.xs ∧ o.node < 18446744073709551616

theorem OL.nothing (w : World) : OL w none 0 0 [] := ⟨rfl, Nat.le_refl _, Nat.zero_le _, fun _ => rfl, fun _ h => by simp at h, fun _ h => by simp at h⟩
theorem OL.make {w : World} {a : Addr} {n cap : Nat} (hl : n ≤ cap) (hm : cap ≤ maxLen) (h : ∀ i, i < n → ∃ o : OpV, (w.cell? (a.add (i * 4)) = some (.int .i64 o.kind) ∧ w.cell? (a.add (i * 4 + 1)) = some (.int .u64 o.node) ∧ w.cell? (a.add (i * 4 + 2)) = some o.body.val ∧ w.cell? (a.add (i * 4 + 3)) = some o.tag.val) ∧ Sl w o.body.ao o.body.n o.body.cap o.body.xs ∧ Sl w o.tag.ao o.tag.n o.tag.cap o.tag.xs ∧ o.node < 18446744073709551616) : ∃ os, OL w (some a) n cap os := by
  have : Inhabited OpV := ⟨⟨0, 0, ⟨none, 0, 0, []⟩, ⟨none, 0, 0, []⟩⟩⟩
  obtain ⟨z, hz⟩ := Deep.choose_lt h
  refine ⟨(List.range n).map z, by simp, hl, hm, fun h => by simp at h, fun b hb i hi => ?_, fun q hq => ?_⟩
  · obtain rfl := Option.some.inj hb
    have hi' : i < n := by simpa using hi
    simpa using (hz i hi').1
  · obtain ⟨i, hi, rfl⟩ := List.mem_map.1 hq
    exact (hz i (List.mem_range.1 hi)).2
theorem OL.below {w w' : World} {ao : Option Addr} {n cap : Nat} {os : List OpV} (h : OL w ao n cap os) (hb : Below w.heap.size w w') : OL w' ao n cap os := by
  have k : ∀ a v, w.cell? a = some v → w'.cell? a = some v := fun a v hc => (hb.cell (World.block_lt_of_cell? w _ hc)).trans hc
  exact ⟨h.len, h.le, h.mx, h.nil, fun a ha i hi => ⟨k _ _ (h.cell a ha i hi).1, k _ _ (h.cell a ha i hi).2.1, k _ _ (h.cell a ha i hi).2.2.1, k _ _ (h.cell a ha i hi).2.2.2⟩, fun o ho => ⟨(h.sl o ho).1.below hb, (h.sl o ho).2.1.below hb, (h.sl o ho).2.2⟩⟩
theorem OL.at {w : World} {ao : Option Addr} {n cap : Nat} {os : List OpV} (h : OL w ao n cap os) (hn : 0 < n) :
    ∃ b off, ao = some ⟨b, off, none⟩ ∧ ∀ i (_ : i < os.length), w.cell? ⟨b, off + i * 4, none⟩ = some (.int .i64 os[i].kind) ∧ w.cell? ⟨b, off + i * 4 + 1, none⟩ = some (.int .u64 os[i].node) ∧ w.cell? ⟨b, off + i * 4 + 2, none⟩ = some os[i].body.val ∧ w.cell? ⟨b, off + i * 4 + 3, none⟩ = some os[i].tag.val := by
  have hl := h.len
  cases ao with
  | none => have := h.nil rfl; omega
  | some a =>
    obtain ⟨b, off, spot⟩ := a
    have hc := (h.cell _ rfl 0 (by omega)).1
    have hs : spot = none := by simpa [Addr.add] using World.cell?_spot hc
    subst hs
    refine ⟨b, off, rfl, fun i hi => ?_⟩
    have := h.cell _ rfl i hi
    rw [add_at, add_at, add_at, add_at] at this
    simpa [Nat.add_assoc] using this

set_option maxHeartbeats 1000000 in
/-- light: who says yes has few asks, each short. -/
theorem light3_any (w : World) (ao : Option Addr) (n cap : Nat) (os : List OpV) (h : OL w ao n cap os) :
    Calls Tryd.prog 15 #[.slice ao n cap] w fun e w' => (∃ b, e = .returned (.bool b) ∧ (b = true → n ≤ 30 ∧ ∀ o ∈ os, o.body.n ≤ 200 ∧ o.tag.n ≤ 200)) ∧ w' = w := by
  have hl := h.len
  by_cases hn : 30 < n
  · have hni : (30 : Int) < (n : Int) := by omega
    go_enter Tryd.func15, Tryd.ntmps15
    go_wp2
    go_ret
    exact ⟨⟨false, rfl, fun h => by cases h⟩, rfl⟩
  · have hni : (n : Int) ≤ 30 := by omega
    go_enter Tryd.func15, Tryd.ntmps15
    go_wp2
    go_loopw [3] (fun i wr => ∃ k : Nat, k ≤ n ∧ i = .int .i64 k ∧ w = wr ∧ ∀ j (hj : j < os.length), j < k → os[j].body.n ≤ 200 ∧ os[j].tag.n ≤ 200) (fun i _ => n - (intOf i).toNat)
    case atStart => exact ⟨0, Nat.zero_le _, rfl, rfl, fun j _ hj => by omega⟩
    case round =>
      obtain ⟨k, hk, rfl, rfl, hall⟩ := hrel
      by_cases hlt : k < n
      · obtain ⟨b, off, rfl, hc⟩ := h.at (by omega)
        have hkl : k < os.length := by omega
        obtain ⟨-, -, c2, c3⟩ := hc k hkl
        have hlt1 : (k : Int) < (n : Int) := by omega
        obtain ⟨q, hq⟩ : ∃ q, q = os[k] := ⟨_, rfl⟩
        rw [← hq] at c2 c3
        have HQ : Hid (q = os[k]) := hq
        clear hq hc
        unfold Part.val at c2 c3
        by_cases hb : 200 < q.body.n
        · have hbi : (200 : Int) < (q.body.n : Int) := by omega
          have hbd : decide ((200 : Int) < (q.body.n : Int)) = true := by simp; omega
          go_wp2
          go_ret
          exact ⟨⟨false, rfl, fun h => by cases h⟩, rfl⟩
        · have hbi : (q.body.n : Int) ≤ 200 := by omega
          have hbd : decide ((200 : Int) < (q.body.n : Int)) = false := by simp; omega
          by_cases ht : 200 < q.tag.n
          · have hti : (200 : Int) < (q.tag.n : Int) := by omega
            go_wp2
            go_ret
            exact ⟨⟨false, rfl, fun h => by cases h⟩, rfl⟩
          · have hti : (q.tag.n : Int) ≤ 200 := by omega
            go_wp2
            go_roundw
            case rel =>
              refine ⟨k + 1, by omega, by go_num, trivial, fun j hj hjk => ?_⟩
              by_cases hjk' : j < k
              · exact hall j hj hjk'
              · obtain rfl : j = k := by omega
                rw [← HQ.out]
                omega
            case measure => simp [intOf]; omega
      · have hge : (n : Int) ≤ (k : Int) := by omega
        go_wp2
        go_ret
        refine ⟨⟨true, rfl, fun _ => ⟨by omega, fun q hq => ?_⟩⟩, rfl⟩
        obtain ⟨j, hj, rfl⟩ := List.mem_iff_getElem.1 hq
        exact hall j hj (by omega)

end Go.Proofs.YtkncfjokkojfpaaDoor

/-
  Maps, as functions of their keys.
-/
import Derived.Test.YtghemebgkhopnaaBase
import Derived.Maps.OwnSet
namespace Go.Proofs.Ytghemebgkhopnaa
open Go.RowKit

/-- An element reads as itself. -/
def vElem (v : Value) : Option (DataW Value × List MemPlace) := some (.held v, [])

/-- Block b is a map of n entries, keyed by K: F says what is at a key. -/
def MF (w : World) (K : TypeId) (b n : Nat) (F : Value → Option Value) : Prop :=
  ∃ D : DataW Value, w.ownsMap Try.prog K vElem b n D ∧ Maps.size D = n ∧
    ∀ v l, keyOf Try.prog K v = some l → (F v = none ∧ Maps.has D l = false ∧ ∀ z, D.atKey l z = z) ∨ ∃ u, F v = some u ∧ Maps.has D l = true ∧ ∀ z, D.atKey l z = .held u

theorem MF.lt {w : World} {K : TypeId} {b n : Nat} {F : Value → Option Value} (h : MF w K b n F) : b < w.heap.size := by
  obtain ⟨D, h1, _⟩ := h
  exact h1.lt
theorem MF.made (w : World) (K : TypeId) : MF (w.alloc (.map #[] 0)) K w.heap.size 0 fun _ => none :=
  ⟨.map [], World.ownsMap_made w _ _ _, rfl, fun _ _ _ => .inl ⟨rfl, rfl, fun _ => rfl⟩⟩
theorem MF.kept {w w' : World} {K : TypeId} {b n : Nat} {F : Value → Option Value} {row : Option Nat} (h : MF w K b n F) (hg : w.grownBy w' row) (hne : some b ≠ row) : MF w' K b n F := by
  obtain ⟨D, h1, h2⟩ := h
  exact ⟨D, h1.kept hg hne, h2⟩
theorem MF.ofHeap {w w' : World} {K : TypeId} {b n : Nat} {F : Value → Option Value} (h : MF w K b n F) (e : w'.heap = w.heap) : MF w' K b n F := by
  obtain ⟨D, ⟨es, clock, hb, r⟩, h2⟩ := h
  exact ⟨D, ⟨es, clock, by rw [e]; exact hb, r⟩, h2⟩
theorem MF.below {w w' : World} {K : TypeId} {b n m : Nat} {F : Value → Option Value} (h : MF w K b n F) (hb : Below m w w') (hm : b < m) : MF w' K b n F := by
  obtain ⟨D, ⟨es, clock, h1, r⟩, h2⟩ := h
  exact ⟨D, ⟨es, clock, by rw [hb.block b hm]; exact h1, r⟩, h2⟩

theorem MF.look {w : World} {K : TypeId} {b n : Nat} {F : Value → Option Value} (h : MF w K b n F) (hK : Maps.Keyed Try.prog K) {t e : TypeId} (ht : Try.prog.underlying t = some (.map K e)) {z : Value} (hz : (zeroValue e).run Try.prog w = .ok z w)
    {v : Value} {l : Lit} (hv : keyOf Try.prog K v = some l) : (Instr.lookup t (.map (some b)) v true).run Try.prog w = .ok (.tuple #[(F v).getD z, .bool (F v).isSome]) w := by
  obtain ⟨D, h1, _, h3⟩ := h
  obtain ⟨u, ps, hr, hu⟩ := h1.look_ok hK ht hz (zd := .held z) (zp := []) rfl hv
  rw [hr]
  unfold vElem at hu
  rcases h3 v l hv with ⟨e1, e2, e3⟩ | ⟨x, e1, e2, e3⟩
  · rw [e3] at hu
    simp at hu
    rw [e1, e2, hu.1]
    rfl
  · rw [e3] at hu
    simp at hu
    rw [e1, e2, hu.1]
    rfl
theorem MF.look1 {w : World} {K : TypeId} {b n : Nat} {F : Value → Option Value} (h : MF w K b n F) (hK : Maps.Keyed Try.prog K) {t e : TypeId} (ht : Try.prog.underlying t = some (.map K e)) {z : Value} (hz : (zeroValue e).run Try.prog w = .ok z w)
    {v : Value} {l : Lit} (hv : keyOf Try.prog K v = some l) : (Instr.lookup t (.map (some b)) v false).run Try.prog w = .ok ((F v).getD z) w := by
  obtain ⟨D, h1, _, h3⟩ := h
  obtain ⟨u, ps, hr, hu⟩ := h1.lookup hK ht hz (zd := .held z) (zp := []) rfl hv
  rw [hr]
  unfold vElem at hu
  rcases h3 v l hv with ⟨e1, e2, e3⟩ | ⟨x, e1, e2, e3⟩
  · rw [e3] at hu
    simp at hu
    rw [e1, hu.1]
    rfl
  · rw [e3] at hu
    simp at hu
    rw [e1, hu.1]
    rfl

theorem MF.update {w : World} {K : TypeId} {b n : Nat} {F : Value → Option Value} (h : MF w K b n F) (hK : Maps.Keyed Try.prog K) {t e : TypeId} (ht : Try.prog.underlying t = some (.map K e)) (hn : n < maxLen) {key val : Value} {l : Lit} (hkey : keyOf Try.prog K key = some l) :
    ∃ w' F' n', (Instr.mapUpdate t (.map (some b)) key val).run Try.prog w = .ok () w' ∧ MF w' K b n' F' ∧ w.grownBy w' (some b) ∧ F' key = some val ∧ (∀ x, x ≠ key → F' x = F x) ∧ (F key = none → n' = n + 1) ∧ (F key ≠ none → n' = n) := by
  obtain ⟨D, h1, h2, h3⟩ := h
  obtain ⟨w', hr, h4, h5⟩ := h1.update hK ht hn hkey (d := .held val) (ps := []) rfl
  have hk := hK.key hkey
  have hsz := Maps.size_put (k := l) (h1.tidy hK) (.held val)
  haveI : ∀ x : Value, Decidable (x = key) := fun x => Classical.propDecidable _
  refine ⟨w', fun x => if x = key then some val else F x, Maps.size (D.put l (.held val)), hr, ⟨D.put l (.held val), ?_, rfl, ?_⟩, h5, if_pos rfl, fun x hx => if_neg hx, fun hN => ?_, fun hS => ?_⟩
  · obtain ⟨es, clock, hb, F0, hs, hD⟩ := h4
    refine ⟨es, clock, hb, F0, ?_, hD⟩
    rw [hD]
    simp [Maps.size, length_sorted]
  · intro v l' hv
    by_cases hvk : v = key
    · subst hvk
      rw [hkey] at hv
      obtain rfl := Option.some.inj hv
      exact .inr ⟨val, if_pos rfl, Maps.has_put_same h1.isMap hk _, fun z => Maps.atKey_put_same h1.isMap hk _ z⟩
    · have hne : l' ≠ l := fun e => hvk (hK.inj hv (by rw [e]; exact hkey))
      simp only [hvk, if_false]
      rw [Maps.has_put_other hne]
      rcases h3 v l' hv with ⟨e1, e2, e3⟩ | ⟨u, e1, e2, e3⟩
      · exact .inl ⟨e1, e2, fun z => by rw [Maps.atKey_put_other hne]; exact e3 z⟩
      · exact .inr ⟨u, e1, e2, fun z => by rw [Maps.atKey_put_other hne]; exact e3 z⟩
  · rcases h3 key l hkey with ⟨e1, e2, _⟩ | ⟨u, e1, _⟩
    · rw [hsz, e2, h2]
      simp
    · rw [hN] at e1
      cases e1
  · rcases h3 key l hkey with ⟨e1, _⟩ | ⟨u, e1, e2, _⟩
    · exact absurd e1 hS
    · rw [hsz, e2, h2]
      simp
theorem MF.len {w : World} {K : TypeId} {b n : Nat} {F : Value → Option Value} (h : MF w K b n F) {t e : TypeId} (ht : Try.prog.underlying t = some (.map K e)) (ty : TypeId) : (Builtin.len_ #[t] ty #[.map (some b)]).run Try.prog w = .ok (.int .i64 n) w := by
  obtain ⟨D, h1, h2, _⟩ := h
  rw [h1.len ht ty, h2]

end Go.Proofs.Ytghemebgkhopnaa

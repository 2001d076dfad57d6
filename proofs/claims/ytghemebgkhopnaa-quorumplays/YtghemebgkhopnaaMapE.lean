/-
  A map's entry is made, or found, ahead of what is stored in it: m[k]++ in whatever order.
-/
import Derived.Test.YtghemebgkhopnaaMapF
import Derived.WideKeyEntry
namespace Go.Proofs.Ytghemebgkhopnaa
open Go.RowKit Go.ChangeMaps

theorem setBlock_twice (w : World) (b : Nat) (x y : Obj) : setBlock (setBlock w b x) b y = setBlock w b y := by
  unfold setBlock
  simp
theorem setBlock_self {w : World} {b : Nat} {x : Obj} (h : w.heap[b]? = some x) : setBlock w b x = w := by
  have hh : w.heap.setIfInBounds b x = w.heap := by
    apply Array.ext
    · simp
    · intro i h1 h2
      rw [Array.getElem_setIfInBounds h2]
      split
      · rename_i e
        subst e
        obtain ⟨h3, h4⟩ := Array.getElem?_eq_some_iff.1 h
        exact h4.symm
      · rfl
  unfold setBlock
  rw [hh]
/-- The entry of a key, and what is stored in it. -/
theorem MF.entry {w : World} {K : TypeId} {b n : Nat} {F : Value → Option Value} (h : MF w K b n F) (KL : WideMaps.KeyLaw Try.prog K) {t e : TypeId} (ht : Try.prog.underlying t = some (.map K e)) {z : Value} (hz : ∀ u : World, (zeroValue e).run Try.prog u = .ok z u) (hn : n < maxLen) {key : Value} {l : Lit} (hkey : keyOf Try.prog K key = some l) :
    ∃ (st : Nat) (w1 : World), (Instr.mapEntry t (.map (some b)) key).run Try.prog w = .ok (.tuple #[(F key).getD z, goInt st]) w1 ∧ w.grownBy w1 (some b) ∧ (Instr.lookup t (.map (some b)) key false).run Try.prog w1 = .ok ((F key).getD z) w1 ∧
      ∀ val, ∃ w2 F' n', (Instr.entryStore t (.map (some b)) (goInt st) val).run Try.prog w1 = .ok () w2 ∧ MF w2 K b n' F' ∧ w.grownBy w2 (some b) ∧ F' key = some val ∧ (∀ x, x ≠ key → F' x = F x) ∧ n' ≤ n + 1 := by
  have hK := Maps.Keyed.of_law KL
  have hl := h.look1 hK ht (hz w) hkey
  have hmf := h
  obtain ⟨D, ⟨es, clock, hb, Ft, hs, hD⟩, hsz, hF⟩ := h
  obtain ⟨v0, st, es1, clock1, hme, -, hst⟩ := WideElems.entry_then_store KL ht hz hb Ft hkey
  have hblk : b < w.heap.size := hmf.lt
  have grow : ∀ o, w.grownBy (setBlock w b o) (some b) := fun o => ⟨rfl, rfl, rfl, by simp [setBlock], fun i _ hi => by
    unfold setBlock
    simp only [Array.getElem?_setIfInBounds]
    rw [if_neg (fun e => hi (by rw [e]))]⟩
  have hw1 : (setBlock w b (.map es1 clock1)).heap[b]? = some (.map es1 clock1) := by
    unfold setBlock
    simp [hblk]
  -- the world behind the entry is a map whose key has what it had, or nought
  have key1 : v0 = (F key).getD z ∧ (Instr.lookup t (.map (some b)) key false).run Try.prog (setBlock w b (.map es1 clock1)) = .ok v0 (setBlock w b (.map es1 clock1)) := by
    rcases KL.find w hkey es.toList Ft.keys with ⟨h1, h2⟩ | ⟨j, e0, h1, h2, h3⟩
    · have hlz : (Instr.lookup t (.map (some b)) key false).run Try.prog w = .ok z w := by
        simp [Instr.lookup, run_underlying ht, MapKept.run_getObj_map hb, KL.check w es.isEmpty hkey, h1, hz, Result.andThen]
      have hez : (Instr.mapEntry t (.map (some b)) key).run Try.prog w = .ok (.tuple #[z, goInt clock]) (setBlock w b (.map (es.push ⟨key, z, clock⟩) (clock + 1))) := by
        simp [Instr.mapEntry, run_underlying ht, MapKept.run_getObj_map hb, KL.check w false hkey, h1, hz, MapKept.run_setObj_map _ hb, Result.andThen, setBlock]
      have huz : (Instr.mapUpdate t (.map (some b)) key z).run Try.prog w = .ok () (setBlock w b (.map (es.push ⟨key, z, clock⟩) (clock + 1))) := by
        simp [Instr.mapUpdate, run_underlying ht, MapKept.run_getObj_map hb, KL.check w false hkey, h1, MapKept.run_setObj_map _ hb, Result.andThen, setBlock]
      rw [hme] at hez
      simp only [Result.ok.injEq, Value.tuple.injEq] at hez
      obtain ⟨e1, e2⟩ := hez
      have e1 : v0 = z := by
        have := congrArg (fun a : Array Value => a[0]?) e1
        simpa using this
      rw [hl] at hlz
      simp only [Result.ok.injEq, and_true] at hlz
      obtain ⟨w', F1, n1, g1, g2, -, g3, -, -, -⟩ := hmf.update hK ht hn hkey (val := z)
      rw [g1] at huz
      simp only [Result.ok.injEq, true_and] at huz
      have m1 : MF (setBlock w b (.map es1 clock1)) K b n1 F1 := by rw [e2, ← huz]; exact g2
      have g4 := m1.look1 hK ht (hz _) hkey
      rw [g3] at g4
      exact ⟨by rw [hlz, e1], by rw [e1]; exact g4⟩
    · have hj : es[j]? = some e0 := by simpa using h2
      have hlz : (Instr.lookup t (.map (some b)) key false).run Try.prog w = .ok e0.val w := by
        simp [Instr.lookup, run_underlying ht, MapKept.run_getObj_map hb, KL.check w es.isEmpty hkey, h1, Result.andThen]
      have hsame : es.modify j (fun x => { x with key := key }) = es := by
        apply Array.ext'
        rw [Array.toList_modify, modify_eq_set _ _ _ _ h2, show ({ e0 with key := key } : MapEntry) = e0 from by rw [← h3]]
        exact WideElems.set_self _ _ _ h2
      have hez : (Instr.mapEntry t (.map (some b)) key).run Try.prog w = .ok (.tuple #[e0.val, goInt e0.born]) (setBlock w b (.map es clock)) := by
        simp [Instr.mapEntry, run_underlying ht, MapKept.run_getObj_map hb, KL.check w false hkey, h1, hj, h3, KL.stays w hkey, hsame, MapKept.run_setObj_map _ hb, Result.andThen, setBlock]
      rw [hme] at hez
      simp only [Result.ok.injEq, Value.tuple.injEq] at hez
      obtain ⟨e1, e2⟩ := hez
      have e1 : v0 = e0.val := by
        have := congrArg (fun a : Array Value => a[0]?) e1
        simpa using this
      rw [hl] at hlz
      simp only [Result.ok.injEq, and_true] at hlz
      refine ⟨by rw [hlz, e1], ?_⟩
      rw [e2, setBlock_self hb, hl, hlz, e1]
  obtain ⟨e0, f1⟩ := key1
  subst e0
  refine ⟨st, _, hme, grow _, f1, fun val => ?_⟩
  · obtain ⟨es2, clock2, r1, r2⟩ := hst _ val hw1
    obtain ⟨w', F', n', g1, g2, g3, g4, g5, g6, g7⟩ := hmf.update hK ht hn hkey (val := val)
    rw [r2] at g1
    simp only [Result.ok.injEq, true_and] at g1
    refine ⟨_, F', n', r1, by rw [setBlock_twice, g1]; exact g2, by rw [setBlock_twice]; exact grow _, g4, g5, ?_⟩
    cases hf : F key with
    | none => have := g6 hf; omega
    | some u => have := g7 (by rw [hf]; simp); omega
end Go.Proofs.Ytghemebgkhopnaa

/-
  Texts in one: Base, MapF, MapE, CMath, TMath, Math, Laws, Parse, Conv, CStr, CConv, OMath, CKA, TbMath, Rot, DBase, Words.
-/
import Derived.Test.YtlljmhcgjkolpaaGreatDoorProg
import Derived.WalkKit
import Derived.WalkSpells
import Derived.WalkMore
import Derived.ScopeJumps
import Derived.Laws.AppendOwnNone
import Derived.KernelRfl
import Derived.Maps.OwnSet
import Derived.WideKeyEntry
import Derived.Lib.ConvBytes
import Derived.BigQuiet
import Derived.Laws.BytesArg
import Derived.Laws.IdiomStrings
import Derived.Laws.BitsAllLaws
import Derived.Laws.ShiftsVarLaws
import Derived.Deep.WholeRow
import Derived.Deep.Draws
namespace Go.Proofs.YtlljmhcgjkolpaaGreatDoor
open Go.RowKit
theorem u8info : (Tryz.prog.info? 5).map (fun i => (i.zero, i.size, i.bytes)) = some (some (.int .u8 0), 1, 1) := by kernel_rfl
def bv (xs : List Int) : List Value := xs.map (Value.int .u8)
theorem bv_length (xs : List Int) : (bv xs).length = xs.length := by simp [bv]
theorem bv_append (xs ys : List Int) : bv (xs ++ ys) = bv xs ++ bv ys := by simp [bv]
theorem bv_one (xs : List Int) : ∀ u ∈ bv xs, u.oneCell' = true := ints_oneCell .u8 xs
theorem bv_get (xs : List Int) (j : Nat) (h : j < xs.length) : (bv xs)[j]? = some (.int .u8 (xs.getD j 0)) := by
  simp [bv, h]
def Byt (xs : List Int) : Prop := ∀ x ∈ xs, 0 ≤ x ∧ x ≤ 255
theorem Byt.append {xs ys : List Int} (h : Byt xs) (k : Byt ys) : Byt (xs ++ ys) := by
  intro x hx
  rcases List.mem_append.1 hx with h1 | h1
  · exact h x h1
  · exact k x h1
theorem Byt.drop {xs : List Int} (h : Byt xs) (n : Nat) : Byt (xs.drop n) := fun x hx => h x (List.mem_of_mem_drop hx)
theorem Byt.take {xs : List Int} (h : Byt xs) (n : Nat) : Byt (xs.take n) := fun x hx => h x (List.mem_of_mem_take hx)
theorem Byt.at {xs : List Int} (h : Byt xs) (j : Nat) : 0 ≤ xs[j]?.getD 0 ∧ xs[j]?.getD 0 ≤ 255 := by
  by_cases hj : j < xs.length
  · simp [hj]
    exact h _ (List.getElem_mem hj)
  · simp [hj]
structure Sl (w : World) (ao : Option Addr) (n cap : Nat) (xs : List Int) : Prop where
  len : xs.length = n
  le : n ≤ cap
  mx : cap ≤ maxLen
  nil : ao = none → n = 0 ∧ cap = 0
  cell : ∀ a, ao = some a → ∀ i, i < n → w.cell? (a.add i) = some (.int .u8 (xs.getD i 0))
  byte : Byt xs
theorem Sl.cells {w : World} {ao : Option Addr} {n cap : Nat} {xs : List Int} (h : Sl w ao n cap xs) : ∀ ad, ao = some ad → ∀ j u, (bv xs)[j]? = some u → w.cell? (ad.add j) = some u := by
  intro ad had j u hu
  have hj : j < xs.length := by
    have := (List.getElem?_eq_some_iff.1 hu).1
    simpa [bv] using this
  rw [bv_get xs j hj] at hu
  rw [h.cell ad had j (by rw [← h.len]; exact hj)]
  exact hu
theorem Sl.lt {w : World} {ao : Option Addr} {n cap : Nat} {xs : List Int} (h : Sl w ao n cap xs) : ∀ a, ao = some a → 0 < n → a.block < w.heap.size := by
  intro a ha hn
  have := World.block_lt_of_cell? w _ (h.cell a ha 0 hn)
  simpa [Addr.add] using this
theorem Sl.below {w w' : World} {ao : Option Addr} {n cap : Nat} {xs : List Int} (h : Sl w ao n cap xs) (hb : Below w.heap.size w w') : Sl w' ao n cap xs := by
  refine ⟨h.len, h.le, h.mx, h.nil, fun a ha i hi => ?_, h.byte⟩
  have hc := h.cell a ha i hi
  rw [← hc]
  exact hb.cell (World.block_lt_of_cell? w _ hc)
theorem Sl.nothing (w : World) : Sl w none 0 0 [] := ⟨rfl, Nat.le_refl _, Nat.zero_le _, fun _ => ⟨rfl, rfl⟩, fun _ h => by simp at h, fun _ h => by simp at h⟩
theorem Sl.one (w : World) (c : Int) (h : 0 ≤ c ∧ c ≤ 255) : Sl (w.alloc (.cells #[.int .u8 c] 5)) (some ⟨w.heap.size, 0, none⟩) 1 1 [c] := by
  refine ⟨rfl, Nat.le_refl _, by decide, fun h => by simp at h, fun a ha i hi => ?_, fun x hx => by simp at hx; omega⟩
  obtain rfl := Option.some.inj ha
  obtain rfl : i = 0 := by omega
  exact cell_one_new _ _ _ 0 _ (by simp)
theorem Sl.new (w : World) (xs : List Int) (h : Byt xs) (hn : xs.length ≤ maxLen) : Sl (w.alloc (.cells (bv xs).toArray 5)) (some ⟨w.heap.size, 0, none⟩) xs.length xs.length xs := by
  refine ⟨rfl, Nat.le_refl _, hn, fun h => by simp at h, fun a ha i hi => ?_, h⟩
  obtain rfl := Option.some.inj ha
  rw [Addr.add_lit, Nat.zero_add, cell_of_row _ w.heap.size i (bv xs).toArray 5 (0, 0) (heap_alloc_new w _)]
  simpa using bv_get xs i hi
theorem Sl.own {w : World} {base : Nat} {v : Value} {n : Nat} {xs : List Int} (h : w.ownsRow base 5 1 v n (bv xs)) (hb : Byt xs) :
    ∃ ao cap, v = .slice ao n cap ∧ Sl w ao n cap xs ∧ ∀ a, ao = some a → base ≤ a.block ∧ a.block < w.heap.size ∧ a.off = 0 ∧ a.spot = none := by
  have hl : xs.length = n := by have := h.1; rw [bv_length] at this; omega
  rcases h.2 with ⟨rfl, rfl⟩ | ⟨g, cap, cur, rfl, hg, hh, hle, hmx, hcs, htk⟩
  · obtain rfl : xs = [] := List.eq_nil_of_length_eq_zero hl
    exact ⟨none, 0, rfl, Sl.nothing w, fun a ha => by simp at ha⟩
  · refine ⟨some ⟨g, 0, none⟩, cap, rfl, ⟨hl, hle, hmx, fun h => by simp at h, fun a ha i hi => ?_, hb⟩, fun a ha => ?_⟩
    · obtain rfl := Option.some.inj ha
      exact h.cells (g := g) rfl i _ (bv_get xs i (by omega))
    · obtain rfl := Option.some.inj ha
      exact ⟨hg, (Array.getElem?_eq_some_iff.1 hh).1, rfl, rfl⟩
theorem wpList_app {w : World} {ops : Array Oper} {rest : List Oper} {o : Oper} {a : Act} {Q : Exit → Act → World → Prop} (hgd : o.guard = none) (s x : Operand)
    (ho : o.op = .call { callee := .builtin .append, args := #[s, x], argTypes := #[25, 25] })
    (base : Nat) (v : Value) (n : Nat) (xs : List Int) (hs : a.eval s = v) (hown : w.ownsRow base 5 1 v n (bv xs))
    (bo : Option Addr) (m c : Nat) (ys : List Int) (hx : a.eval x = .slice bo m c) (hsl : Sl w bo m c ys) (hb : n + m ≤ 140737488355328) (hbase : base ≤ w.heap.size)
    (h : ∀ v' w', w'.ownsRow base 5 1 v' (n + m) (bv (xs ++ ys)) → Below base w w' → wpList Tryz.prog ops Q rest (a.put o.dst v') w') : wpList Tryz.prog ops Q (o :: rest) a w := by
  obtain ⟨i0, hi, hz0, hz1, hz2⟩ := info_parts u8info
  cases bo with
  | some ad =>
    refine wpList_append_own w hgd s x 25 ho base 5 i0 (.int .u8 0) 1 1 Tryz.underlying25 hi hz0 hz1 hz2 rfl (by decide) v n (bv xs) hs hown ad m c (bv ys) hx (by rw [bv_length, hsl.len, Nat.mul_one]) (hsl.cells ad rfl) (bv_one ys) (by unfold maxLen; omega) (by omega) hbase ?_
    intro v' w' h1 h2 _
    rw [← bv_append] at h1
    exact h v' w' h1 ((Below.refl _ w).grown h2 hbase (fun k hk => (hown.lt k hk).1))
  | none =>
    obtain ⟨rfl, rfl⟩ := hsl.nil rfl
    obtain rfl : ys = [] := List.eq_nil_of_length_eq_zero hsl.len
    refine wpList_append_own_none hgd s x 25 ho base 5 i0 1 Tryz.underlying25 hi v n (bv xs) hs hown hx ?_
    exact h v w (by simpa using hown) (Below.refl _ _)
theorem or128 (m : Nat) : bits BinOp.or IntKind.u8 128 ((m : Int) % 128) = ((m % 128 + 128 : Nat) : Int) := by
  have key : ∀ x : Fin 128, bits BinOp.or IntKind.u8 128 ((x.val : Nat) : Int) = ((x.val + 128 : Nat) : Int) := by decide
  have h := key ⟨m % 128, Nat.mod_lt _ (by decide)⟩
  simpa using h
theorem wp_scope_label {P : Program} {Q : Exit → Act → World → Prop} {a : Act} {w : World} {y : Code} (l : Nat) (J : Act → World → Prop) (μ : Act → World → Nat) (h0 : J a w)
    (pass : ∀ a w, J a w → y.wp P (Exit.jump l (fun a' w' => J a' w' ∧ μ a' w' < μ a w) Q) a w) : (Code.scope ((Code.label l).seq y)).wp P Q a w := by
  refine wp_scope_jumps l J μ (rest := .seq .skip y) (by simp [findLabel]) ?_ ?_
  · refine wp_seq (wp_label ?_)
    show y.wp P _ a w
    refine wp_mono (pass a w h0) ?_
    intro e a' w' h
    cases e with
    | goto l' => exact ⟨h.1, h.2.1⟩
    | _ => exact h
  · intro a w hJ
    exact wp_seq (wp_skip (pass a w hJ))
open Go.RowKit
def vElem (v : Value) : Option (DataW Value × List MemPlace) := some (.held v, [])
def MF (w : World) (K : TypeId) (b n : Nat) (F : Value → Option Value) : Prop :=
  ∃ D : DataW Value, w.ownsMap Tryz.prog K vElem b n D ∧ Maps.size D = n ∧
    ∀ v l, keyOf Tryz.prog K v = some l → (F v = none ∧ Maps.has D l = false ∧ ∀ z, D.atKey l z = z) ∨ ∃ u, F v = some u ∧ Maps.has D l = true ∧ ∀ z, D.atKey l z = .held u
theorem MF.lt {w : World} {K : TypeId} {b n : Nat} {F : Value → Option Value} (h : MF w K b n F) : b < w.heap.size := by
  obtain ⟨D, h1, _⟩ := h
  exact h1.lt
theorem MF.made (w : World) (K : TypeId) : MF (w.alloc (.map #[] 0)) K w.heap.size 0 fun _ => none :=
  ⟨.map [], World.ownsMap_made w _ _ _, rfl, fun _ _ _ => .inl ⟨rfl, rfl, fun _ => rfl⟩⟩
theorem MF.ofHeap {w w' : World} {K : TypeId} {b n : Nat} {F : Value → Option Value} (h : MF w K b n F) (e : w'.heap = w.heap) : MF w' K b n F := by
  obtain ⟨D, ⟨es, clock, hb, r⟩, h2⟩ := h
  exact ⟨D, ⟨es, clock, by rw [e]; exact hb, r⟩, h2⟩
theorem MF.below {w w' : World} {K : TypeId} {b n m : Nat} {F : Value → Option Value} (h : MF w K b n F) (hb : Below m w w') (hm : b < m) : MF w' K b n F := by
  obtain ⟨D, ⟨es, clock, h1, r⟩, h2⟩ := h
  exact ⟨D, ⟨es, clock, by rw [hb.block b hm]; exact h1, r⟩, h2⟩
theorem MF.look1 {w : World} {K : TypeId} {b n : Nat} {F : Value → Option Value} (h : MF w K b n F) (hK : Maps.Keyed Tryz.prog K) {t e : TypeId} (ht : Tryz.prog.underlying t = some (.map K e)) {z : Value} (hz : (zeroValue e).run Tryz.prog w = .ok z w)
    {v : Value} {l : Lit} (hv : keyOf Tryz.prog K v = some l) : (Instr.lookup t (.map (some b)) v false).run Tryz.prog w = .ok ((F v).getD z) w := by
  obtain ⟨D, h1, _, h3⟩ := h
  obtain ⟨u, ps, hr, hu⟩ := h1.lookup hK ht hz (zd := .held z) (zp := []) rfl hv
  rw [hr]
  unfold vElem at hu
  rcases h3 v l hv with ⟨e1, e2, e3⟩ | ⟨x, e1, e2, e3⟩
  · rw [e3] at hu
    simp at hu
    rw [e1, hu.1]
    rfl
  · rw [e3] at hu
    simp at hu
    rw [e1, hu.1]
    rfl
theorem MF.update {w : World} {K : TypeId} {b n : Nat} {F : Value → Option Value} (h : MF w K b n F) (hK : Maps.Keyed Tryz.prog K) {t e : TypeId} (ht : Tryz.prog.underlying t = some (.map K e)) (hn : n < maxLen) {key val : Value} {l : Lit} (hkey : keyOf Tryz.prog K key = some l) :
    ∃ w' F' n', (Instr.mapUpdate t (.map (some b)) key val).run Tryz.prog w = .ok () w' ∧ MF w' K b n' F' ∧ w.grownBy w' (some b) ∧ F' key = some val ∧ (∀ x, x ≠ key → F' x = F x) ∧ (F key = none → n' = n + 1) ∧ (F key ≠ none → n' = n) := by
  obtain ⟨D, h1, h2, h3⟩ := h
  obtain ⟨w', hr, h4, h5⟩ := h1.update hK ht hn hkey (d := .held val) (ps := []) rfl
  have hk := hK.key hkey
  have hsz := Maps.size_put (k := l) (h1.tidy hK) (.held val)
  haveI : ∀ x : Value, Decidable (x = key) := fun x => Classical.propDecidable _
  refine ⟨w', fun x => if x = key then some val else F x, Maps.size (D.put l (.held val)), hr, ⟨D.put l (.held val), ?_, rfl, ?_⟩, h5, if_pos rfl, fun x hx => if_neg hx, fun hN => ?_, fun hS => ?_⟩
  · obtain ⟨es, clock, hb, F0, hs, hD⟩ := h4
    refine ⟨es, clock, hb, F0, ?_, hD⟩
    rw [hD]
    simp [Maps.size, length_sorted]
  · intro v l' hv
    by_cases hvk : v = key
    · subst hvk
      rw [hkey] at hv
      obtain rfl := Option.some.inj hv
      exact .inr ⟨val, if_pos rfl, Maps.has_put_same h1.isMap hk _, fun z => Maps.atKey_put_same h1.isMap hk _ z⟩
    · have hne : l' ≠ l := fun e => hvk (hK.inj hv (by rw [e]; exact hkey))
      simp only [hvk, if_false]
      rw [Maps.has_put_other hne]
      rcases h3 v l' hv with ⟨e1, e2, e3⟩ | ⟨u, e1, e2, e3⟩
      · exact .inl ⟨e1, e2, fun z => by rw [Maps.atKey_put_other hne]; exact e3 z⟩
      · exact .inr ⟨u, e1, e2, fun z => by rw [Maps.atKey_put_other hne]; exact e3 z⟩
  · rcases h3 key l hkey with ⟨e1, e2, _⟩ | ⟨u, e1, _⟩
    · rw [hsz, e2, h2]
      simp
    · rw [hN] at e1
      cases e1
  · rcases h3 key l hkey with ⟨e1, _⟩ | ⟨u, e1, e2, _⟩
    · exact absurd e1 hS
    · rw [hsz, e2, h2]
      simp
open Go.RowKit Go.ChangeMaps
theorem setBlock_twice (w : World) (b : Nat) (x y : Obj) : setBlock (setBlock w b x) b y = setBlock w b y := by
  unfold setBlock
  simp
theorem setBlock_self {w : World} {b : Nat} {x : Obj} (h : w.heap[b]? = some x) : setBlock w b x = w := by
  have hh : w.heap.setIfInBounds b x = w.heap := by
    apply Array.ext
    · simp
    · intro i h1 h2
      rw [Array.getElem_setIfInBounds h2]
      split
      · rename_i e
        subst e
        obtain ⟨h3, h4⟩ := Array.getElem?_eq_some_iff.1 h
        exact h4.symm
      · rfl
  unfold setBlock
  rw [hh]
theorem MF.entry {w : World} {K : TypeId} {b n : Nat} {F : Value → Option Value} (h : MF w K b n F) (KL : WideMaps.KeyLaw Tryz.prog K) {t e : TypeId} (ht : Tryz.prog.underlying t = some (.map K e)) {z : Value} (hz : ∀ u : World, (zeroValue e).run Tryz.prog u = .ok z u) (hn : n < maxLen) {key : Value} {l : Lit} (hkey : keyOf Tryz.prog K key = some l) :
    ∃ (st : Nat) (w1 : World), (Instr.mapEntry t (.map (some b)) key).run Tryz.prog w = .ok (.tuple #[(F key).getD z, goInt st]) w1 ∧ w.grownBy w1 (some b) ∧ (Instr.lookup t (.map (some b)) key false).run Tryz.prog w1 = .ok ((F key).getD z) w1 ∧
      ∀ val, ∃ w2 F' n', (Instr.entryStore t (.map (some b)) (goInt st) val).run Tryz.prog w1 = .ok () w2 ∧ MF w2 K b n' F' ∧ w.grownBy w2 (some b) ∧ F' key = some val ∧ (∀ x, x ≠ key → F' x = F x) ∧ n' ≤ n + 1 := by
  have hK := Maps.Keyed.of_law KL
  have hl := h.look1 hK ht (hz w) hkey
  have hmf := h
  obtain ⟨D, ⟨es, clock, hb, Ft, hs, hD⟩, hsz, hF⟩ := h
  obtain ⟨v0, st, es1, clock1, hme, -, hst⟩ := WideElems.entry_then_store KL ht hz hb Ft hkey
  have hblk : b < w.heap.size := hmf.lt
  have grow : ∀ o, w.grownBy (setBlock w b o) (some b) := fun o => ⟨rfl, rfl, rfl, by simp [setBlock], fun i _ hi => by
    unfold setBlock
    simp only [Array.getElem?_setIfInBounds]
    rw [if_neg (fun e => hi (by rw [e]))]⟩
  have hw1 : (setBlock w b (.map es1 clock1)).heap[b]? = some (.map es1 clock1) := by
    unfold setBlock
    simp [hblk]
  have key1 : v0 = (F key).getD z ∧ (Instr.lookup t (.map (some b)) key false).run Tryz.prog (setBlock w b (.map es1 clock1)) = .ok v0 (setBlock w b (.map es1 clock1)) := by
    rcases KL.find w hkey es.toList Ft.keys with ⟨h1, h2⟩ | ⟨j, e0, h1, h2, h3⟩
    · have hlz : (Instr.lookup t (.map (some b)) key false).run Tryz.prog w = .ok z w := by
        simp [Instr.lookup, run_underlying ht, MapKept.run_getObj_map hb, KL.check w es.isEmpty hkey, h1, hz, Result.andThen]
      have hez : (Instr.mapEntry t (.map (some b)) key).run Tryz.prog w = .ok (.tuple #[z, goInt clock]) (setBlock w b (.map (es.push ⟨key, z, clock⟩) (clock + 1))) := by
        simp [Instr.mapEntry, run_underlying ht, MapKept.run_getObj_map hb, KL.check w false hkey, h1, hz, MapKept.run_setObj_map _ hb, Result.andThen, setBlock]
      have huz : (Instr.mapUpdate t (.map (some b)) key z).run Tryz.prog w = .ok () (setBlock w b (.map (es.push ⟨key, z, clock⟩) (clock + 1))) := by
        simp [Instr.mapUpdate, run_underlying ht, MapKept.run_getObj_map hb, KL.check w false hkey, h1, MapKept.run_setObj_map _ hb, Result.andThen, setBlock]
      rw [hme] at hez
      simp only [Result.ok.injEq, Value.tuple.injEq] at hez
      obtain ⟨e1, e2⟩ := hez
      have e1 : v0 = z := by
        have := congrArg (fun a : Array Value => a[0]?) e1
        simpa using this
      rw [hl] at hlz
      simp only [Result.ok.injEq, and_true] at hlz
      obtain ⟨w', F1, n1, g1, g2, -, g3, -, -, -⟩ := hmf.update hK ht hn hkey (val := z)
      rw [g1] at huz
      simp only [Result.ok.injEq, true_and] at huz
      have m1 : MF (setBlock w b (.map es1 clock1)) K b n1 F1 := by rw [e2, ← huz]; exact g2
      have g4 := m1.look1 hK ht (hz _) hkey
      rw [g3] at g4
      exact ⟨by rw [hlz, e1], by rw [e1]; exact g4⟩
    · have hj : es[j]? = some e0 := by simpa using h2
      have hlz : (Instr.lookup t (.map (some b)) key false).run Tryz.prog w = .ok e0.val w := by
        simp [Instr.lookup, run_underlying ht, MapKept.run_getObj_map hb, KL.check w es.isEmpty hkey, h1, Result.andThen]
      have hsame : es.modify j (fun x => { x with key := key }) = es := by
        apply Array.ext'
        rw [Array.toList_modify, modify_eq_set _ _ _ _ h2, show ({ e0 with key := key } : MapEntry) = e0 from by rw [← h3]]
        exact WideElems.set_self _ _ _ h2
      have hez : (Instr.mapEntry t (.map (some b)) key).run Tryz.prog w = .ok (.tuple #[e0.val, goInt e0.born]) (setBlock w b (.map es clock)) := by
        simp [Instr.mapEntry, run_underlying ht, MapKept.run_getObj_map hb, KL.check w false hkey, h1, hj, h3, KL.stays w hkey, hsame, MapKept.run_setObj_map _ hb, Result.andThen, setBlock]
      rw [hme] at hez
      simp only [Result.ok.injEq, Value.tuple.injEq] at hez
      obtain ⟨e1, e2⟩ := hez
      have e1 : v0 = e0.val := by
        have := congrArg (fun a : Array Value => a[0]?) e1
        simpa using this
      rw [hl] at hlz
      simp only [Result.ok.injEq, and_true] at hlz
      refine ⟨by rw [hlz, e1], ?_⟩
      rw [e2, setBlock_self hb, hl, hlz, e1]
  obtain ⟨e0, f1⟩ := key1
  subst e0
  refine ⟨st, _, hme, grow _, f1, fun val => ?_⟩
  · obtain ⟨es2, clock2, r1, r2⟩ := hst _ val hw1
    obtain ⟨w', F', n', g1, g2, g3, g4, g5, g6, g7⟩ := hmf.update hK ht hn hkey (val := val)
    rw [r2] at g1
    simp only [Result.ok.injEq, true_and] at g1
    refine ⟨_, F', n', r1, by rw [setBlock_twice, g1]; exact g2, by rw [setBlock_twice]; exact grow _, g4, g5, ?_⟩
    cases hf : F key with
    | none => have := g6 hf; omega
    | some u => have := g7 (by rw [hf]; simp); omega
def nm : List Int → List Int
  | [] => [0, 1]
  | c :: t => if c = 0 then 0 :: 255 :: nm t else c :: nm t
def cmpL : List Int → List Int → Int
  | [], [] => 0
  | [], _ :: _ => -1
  | _ :: _, [] => 1
  | a :: s, b :: t => if a = b then cmpL s t else if a < b then -1 else 1
theorem cmpL_self : ∀ s, cmpL s s = 0
  | [] => rfl
  | a :: s => by simp [cmpL, cmpL_self s]
theorem cmpL_eq : ∀ s t, cmpL s t = 0 → s = t
  | [], [], _ => rfl
  | [], _ :: _, h => by simp [cmpL] at h
  | _ :: _, [], h => by simp [cmpL] at h
  | a :: s, b :: t, h => by
    unfold cmpL at h
    by_cases e : a = b
    · rw [if_pos e] at h; rw [e, cmpL_eq s t h]
    · rw [if_neg e] at h; split at h <;> simp at h
theorem cmpL_three : ∀ s t, cmpL s t = -1 ∨ cmpL s t = 0 ∨ cmpL s t = 1
  | [], [] => .inr (.inl rfl)
  | [], _ :: _ => .inl rfl
  | _ :: _, [] => .inr (.inr rfl)
  | a :: s, b :: t => by
    unfold cmpL
    split
    · exact cmpL_three s t
    · split <;> simp
theorem cmpL_neg : ∀ s t, cmpL t s = -cmpL s t
  | [], [] => rfl
  | [], _ :: _ => rfl
  | _ :: _, [] => rfl
  | a :: s, b :: t => by
    unfold cmpL
    by_cases e : a = b
    · rw [if_pos e, if_pos e.symm]; exact cmpL_neg s t
    · rw [if_neg e, if_neg (fun h => e h.symm)]
      by_cases l : a < b
      · rw [if_pos l, if_neg (by omega)]; rfl
      · rw [if_neg l, if_pos (by omega)]
theorem cmpL_nil (u : List Int) : 0 ≤ cmpL u [] := by
  cases u <;> simp [cmpL]
theorem nm_cmp : ∀ (s t : List Int), Byt s → Byt t → ∀ u v, cmpL (nm s ++ u) (nm t ++ v) = if cmpL s t = 0 then cmpL u v else cmpL s t
  | [], [], _, _, u, v => by simp [nm, cmpL]
  | [], b :: t, _, h, u, v => by
    have hb := h b (List.mem_cons_self ..)
    by_cases e : b = 0
    · simp [nm, cmpL, e]
    · have : (0 : Int) ≠ b := fun h => e h.symm
      have l : (0 : Int) < b := by omega
      simp [nm, cmpL, e, this, l]
  | a :: s, [], h, _, u, v => by
    have hb := h a (List.mem_cons_self ..)
    by_cases e : a = 0
    · simp [nm, cmpL, e]
    · have l : ¬ a < 0 := by omega
      simp [nm, cmpL, e, l]
  | a :: s, b :: t, hs, ht, u, v => by
    have ha := hs a (List.mem_cons_self ..)
    have hb := ht b (List.mem_cons_self ..)
    have ih := nm_cmp s t (fun x hx => hs x (List.mem_cons_of_mem _ hx)) (fun x hx => ht x (List.mem_cons_of_mem _ hx)) u v
    by_cases e : a = b
    · subst e
      by_cases z : a = 0
      · simp [nm, cmpL, z, ih]
      · simp [nm, cmpL, z, ih]
    · by_cases l : a < b
      · by_cases z : a = 0
        · subst z
          have n : b ≠ 0 := fun h => e h.symm
          simp [nm, cmpL, n, e, l]
        · have n : b ≠ 0 := by omega
          simp [nm, cmpL, z, n, e, l]
      · have z : a ≠ 0 := by omega
        by_cases n : b = 0
        · subst n
          simp [nm, cmpL, z, l]
        · simp [nm, cmpL, z, n, e, l]
theorem nm_byte : ∀ (s : List Int), Byt s → Byt (nm s)
  | [], _ => by intro x hx; simp [nm] at hx; omega
  | a :: s, h => by
    have ih := nm_byte s (fun x hx => h x (List.mem_cons_of_mem _ hx))
    have ha := h a (List.mem_cons_self ..)
    intro x hx
    unfold nm at hx
    split at hx
    · rcases List.mem_cons.1 hx with rfl | hx
      · omega
      rcases List.mem_cons.1 hx with rfl | hx
      · omega
      exact ih x hx
    · rcases List.mem_cons.1 hx with rfl | hx
      · exact ha
      exact ih x hx
theorem nm_len : ∀ (s : List Int), 2 ≤ (nm s).length ∧ (nm s).length ≤ 2 * s.length + 2
  | [] => by simp [nm]
  | a :: s => by
    have ih := nm_len s
    unfold nm
    split <;> simp only [List.length_cons] <;> omega
def cutL : List Int → Option (List Int × List Int)
  | [] => none
  | [c] => if c = 0 then none else none
  | c :: d :: r => if c = 0 then (if d = 1 then some ([], r) else if d = 255 then (cutL r).map fun p => (0 :: p.1, p.2) else none) else (cutL (d :: r)).map fun p => (c :: p.1, p.2)
theorem cutL_nm : ∀ (s : List Int) (u : List Int), cutL (nm s ++ u) = some (s, u)
  | [], u => by simp [nm, cutL]
  | a :: s, u => by
    have ih := cutL_nm s u
    by_cases e : a = 0
    · simp [nm, e, cutL, ih]
    · have h := (nm_len s).1
      obtain ⟨d, r, hr⟩ : ∃ d r, nm s ++ u = d :: r := by
        cases hh : nm s ++ u with
        | nil => have := congrArg List.length hh; rw [List.length_append, List.length_nil] at this; omega
        | cons d r => exact ⟨d, r, rfl⟩
      rw [hr] at ih
      simp [nm, e, cutL, hr, ih]
def beL : Nat → Nat → List Int
  | 0, _ => []
  | n + 1, T => (255 - ((T / 256 ^ n % 256 : Nat) : Int)) :: beL n T
theorem beL_len : ∀ n T, (beL n T).length = n
  | 0, _ => rfl
  | n + 1, T => by simp [beL, beL_len n]
theorem beL_byte : ∀ n T, Byt (beL n T)
  | 0, _ => fun x hx => by simp [beL] at hx
  | n + 1, T => fun x hx => by
    rcases List.mem_cons.1 hx with rfl | h
    · omega
    · exact beL_byte n T x h
theorem mod_split (a n : Nat) : a % 256 ^ (n + 1) = a / 256 ^ n % 256 * 256 ^ n + a % 256 ^ n := by
  rw [Nat.pow_succ, Nat.mod_mul, Nat.mul_comm (256 ^ n), Nat.add_comm]
theorem beL_cmp : ∀ n a b, cmpL (beL n a) (beL n b) = if a % 256 ^ n = b % 256 ^ n then 0 else if b % 256 ^ n < a % 256 ^ n then -1 else 1
  | 0, a, b => by simp [beL, cmpL, Nat.mod_one]
  | n + 1, a, b => by
    have ih := beL_cmp n a b
    have ha := mod_split a n
    have hb := mod_split b n
    have la : a % 256 ^ n < 256 ^ n := Nat.mod_lt _ (Nat.pow_pos (by omega))
    have lb : b % 256 ^ n < 256 ^ n := Nat.mod_lt _ (Nat.pow_pos (by omega))
    have xa : a / 256 ^ n % 256 < 256 := Nat.mod_lt _ (by omega)
    have xb : b / 256 ^ n % 256 < 256 := Nat.mod_lt _ (by omega)
    unfold beL cmpL
    generalize a / 256 ^ n % 256 = x at *
    generalize b / 256 ^ n % 256 = y at *
    generalize 256 ^ n = P at *
    rw [ih, ha, hb]
    generalize a % P = p at *
    generalize b % P = q at *
    by_cases e : x = y
    · subst e
      simp
    · rw [if_neg (by omega)]
      by_cases l : y < x
      · have : y * P + P ≤ x * P := by rw [← Nat.succ_mul]; exact Nat.mul_le_mul_right _ l
        rw [if_pos (by omega), if_neg (by omega), if_pos (by omega)]
      · have : x * P + P ≤ y * P := by rw [← Nat.succ_mul]; exact Nat.mul_le_mul_right _ (by omega)
        rw [if_neg (by omega), if_neg (by omega), if_neg (by omega)]
structure KV where
  row : List Int
  fam : List Int
  qual : List Int
  time : Nat
def KV.byt (k : KV) : Prop := Byt k.row ∧ Byt k.fam ∧ Byt k.qual ∧ k.time < 18446744073709551616
abbrev KV.right (k : KV) : Prop := 1 ≤ k.row.length ∧ k.row.length ≤ 32 ∧ 1 ≤ k.fam.length ∧ k.fam.length ≤ 32 ∧ k.qual.length ≤ 32
def keyL (k : KV) : List Int := nm k.row ++ (nm k.fam ++ (nm k.qual ++ beL 8 k.time))
def cmpT (a b : Nat) : Int := if a = b then 0 else if b < a then -1 else 1
def cmpK (a b : KV) : Int :=
  if cmpL a.row b.row = 0 then (if cmpL a.fam b.fam = 0 then (if cmpL a.qual b.qual = 0 then cmpT a.time b.time else cmpL a.qual b.qual) else cmpL a.fam b.fam) else cmpL a.row b.row
theorem beL8_cmp (a b : Nat) (ha : a < 18446744073709551616) (hb : b < 18446744073709551616) : cmpL (beL 8 a) (beL 8 b) = cmpT a b := by
  have h := beL_cmp 8 a b
  rw [show (256 : Nat) ^ 8 = 18446744073709551616 from rfl, Nat.mod_eq_of_lt ha, Nat.mod_eq_of_lt hb] at h
  exact h
theorem keyL_cmp (a b : KV) (ha : a.byt) (hb : b.byt) : cmpL (keyL a) (keyL b) = cmpK a b := by
  unfold keyL cmpK
  rw [nm_cmp _ _ ha.1 hb.1, nm_cmp _ _ ha.2.1 hb.2.1, nm_cmp _ _ ha.2.2.1 hb.2.2.1, beL8_cmp _ _ ha.2.2.2 hb.2.2.2]
theorem cmpT_zero (a b : Nat) : cmpT a b = 0 ↔ a = b := by
  unfold cmpT
  constructor
  · intro h; split at h
    · assumption
    · split at h <;> simp at h
  · intro h; rw [if_pos h]
theorem cmpK_zero (a b : KV) : cmpK a b = 0 ↔ a = b := by
  constructor
  · intro h
    unfold cmpK at h
    by_cases e1 : cmpL a.row b.row = 0
    · rw [if_pos e1] at h
      by_cases e2 : cmpL a.fam b.fam = 0
      · rw [if_pos e2] at h
        by_cases e3 : cmpL a.qual b.qual = 0
        · rw [if_pos e3] at h
          have h1 := cmpL_eq _ _ e1
          have h2 := cmpL_eq _ _ e2
          have h3 := cmpL_eq _ _ e3
          have h4 := (cmpT_zero _ _).1 h
          cases a; cases b
          simp_all
        · rw [if_neg e3] at h; exact absurd h e3
      · rw [if_neg e2] at h; exact absurd h e2
    · rw [if_neg e1] at h; exact absurd h e1
  · rintro rfl
    simp [cmpK, cmpL_self, cmpT]
theorem keyL_len (k : KV) : 14 ≤ (keyL k).length := by
  unfold keyL
  have h1 := (nm_len k.row).1
  have h2 := (nm_len k.fam).1
  have h3 := (nm_len k.qual).1
  simp only [List.length_append, beL_len]
  omega
theorem keyL_byte (k : KV) (h : k.byt) : Byt (keyL k) := by
  intro x hx
  unfold keyL at hx
  simp only [List.mem_append] at hx
  rcases hx with hx | hx | hx | hx
  · exact nm_byte _ h.1 x hx
  · exact nm_byte _ h.2.1 x hx
  · exact nm_byte _ h.2.2.1 x hx
  · exact beL_byte _ _ x hx
def colK (a b : KV) : Bool := decide (a.row = b.row ∧ a.fam = b.fam ∧ a.qual = b.qual)
theorem nm_top : ∀ (s : List Int) (u : List Int) (k : Nat), Byt s → s.length ≤ k → cmpL (nm s ++ u) (List.replicate (k + 1) 255) = -1
  | [], u, k, _, _ => by simp [nm, List.replicate_succ, cmpL]
  | a :: s, u, k + 1, h, hk => by
    have ha := h a (List.mem_cons_self ..)
    have ih := nm_top s u k (fun x hx => h x (List.mem_cons_of_mem _ hx)) (by simpa using hk)
    rw [List.replicate_succ]
    by_cases e : a = 0
    · simp [nm, e, cmpL]
    · by_cases f : a = 255
      · subst f
        simp [nm, cmpL, ih]
      · have l : a < 255 := by omega
        simp [nm, e, cmpL, f, l]
theorem keyL_below (k : KV) (t : List Int) (hk : k.byt) (ht : Byt t) : cmpL (keyL k) (nm t) < 0 ↔ cmpL k.row t < 0 := by
  have h := nm_cmp k.row t hk.1 ht (nm k.fam ++ (nm k.qual ++ beL 8 k.time)) []
  rw [List.append_nil] at h
  unfold keyL
  rw [h]
  have hn := cmpL_nil (nm k.fam ++ (nm k.qual ++ beL 8 k.time))
  by_cases e : cmpL k.row t = 0
  · rw [if_pos e, e]; omega
  · rw [if_neg e]
def ofBe : List Int → Nat → Nat
  | [], t => t
  | c :: r, t => ofBe r (t * 256 + (255 - c).toNat)
theorem ofBe_beL : ∀ n T t, ofBe (beL n T) t = t * 256 ^ n + T % 256 ^ n
  | 0, T, t => by simp [beL, ofBe, Nat.mod_one]
  | n + 1, T, t => by
    have xa : T / 256 ^ n % 256 < 256 := Nat.mod_lt _ (by omega)
    rw [beL, ofBe, ofBe_beL n T, mod_split T n, Nat.pow_succ]
    generalize T / 256 ^ n % 256 = x at *
    rw [show (255 - (255 - (x : Int))).toNat = x by omega, Nat.add_mul, Nat.mul_assoc, Nat.mul_comm 256, Nat.add_assoc]
def readL (b : List Int) : Option KV :=
  (cutL b).bind fun p => (cutL p.2).bind fun q => (cutL q.2).bind fun r =>
    if r.2.length = 8 ∧ KV.right ⟨p.1, q.1, r.1, ofBe r.2 0⟩ then some ⟨p.1, q.1, r.1, ofBe r.2 0⟩ else none
theorem readL_keyL (k : KV) (hk : k.byt) (hr : k.right) : readL (keyL k) = some k := by
  have h8 : ofBe (beL 8 k.time) 0 = k.time := by
    rw [ofBe_beL, Nat.zero_mul, Nat.zero_add]
    exact Nat.mod_eq_of_lt hk.2.2.2
  unfold readL keyL
  simp only [cutL_nm, Option.bind_some, beL_len, h8]
  exact if_pos ⟨trivial, hr⟩
theorem cmpL_lt_trans : ∀ (a b c : List Int), cmpL a b < 0 → cmpL b c < 0 → cmpL a c < 0
  | [], [], _, h, _ => by simp [cmpL] at h
  | [], _ :: _, [], _, k => by simp [cmpL] at k
  | [], _ :: _, _ :: _, _, _ => by simp [cmpL]
  | _ :: _, [], _, h, _ => by simp [cmpL] at h
  | _ :: _, _ :: _, [], _, k => by simp [cmpL] at k
  | x :: a, y :: b, z :: c, h, k => by
    have ih := cmpL_lt_trans a b c
    simp only [cmpL] at h k ⊢
    by_cases e1 : x = y
    · subst e1
      rw [if_pos rfl] at h
      by_cases e2 : x = z
      · subst e2
        rw [if_pos rfl] at k ⊢
        exact ih h k
      · rw [if_neg e2] at k ⊢
        exact k
    · rw [if_neg e1] at h
      have l1 : x < y := by
        by_cases l : x < y
        · exact l
        · rw [if_neg l] at h; omega
      by_cases e2 : y = z
      · subst e2
        rw [if_neg e1, if_pos l1]
        omega
      · rw [if_neg e2] at k
        have l2 : y < z := by
          by_cases l : y < z
          · exact l
          · rw [if_neg l] at k; omega
        rw [if_neg (by omega), if_pos (by omega)]
        omega
theorem cmpL_irr (a : List Int) : ¬ cmpL a a < 0 := by rw [cmpL_self]; omega
theorem cmpL_asym {a b : List Int} (h : cmpL a b < 0) : ¬ cmpL b a < 0 := by rw [cmpL_neg]; omega
theorem cmpL_total (a b : List Int) : cmpL a b < 0 ∨ a = b ∨ cmpL b a < 0 := by
  rcases cmpL_three a b with h | h | h
  · exact .inl (by omega)
  · exact .inr (.inl (cmpL_eq a b h))
  · exact .inr (.inr (by rw [cmpL_neg]; omega))
theorem cmpL_lt_ne {a b : List Int} (h : cmpL a b < 0) : a ≠ b := fun e => by rw [e] at h; exact cmpL_irr b h
structure It where
  k : List Int
  v : List Int
def Srt (l : List It) : Prop := l.Pairwise fun a b => cmpL a.k b.k < 0
def lo (k : List Int) (l : List It) : List It := l.filter fun x => decide (cmpL x.k k < 0)
def hi (k : List Int) (l : List It) : List It := l.filter fun x => decide (cmpL k x.k < 0)
def ins (l : List It) (x : It) : List It := lo x.k l ++ x :: hi x.k l
def has (k : List Int) (l : List It) : Prop := ∃ x ∈ l, x.k = k
theorem lo_append (k : List Int) (a b : List It) : lo k (a ++ b) = lo k a ++ lo k b := by simp [lo]
theorem hi_append (k : List Int) (a b : List It) : hi k (a ++ b) = hi k a ++ hi k b := by simp [hi]
theorem lo_all {k : List Int} {l : List It} (h : ∀ x ∈ l, cmpL x.k k < 0) : lo k l = l := List.filter_eq_self.2 fun x hx => decide_eq_true (h x hx)
theorem hi_all {k : List Int} {l : List It} (h : ∀ x ∈ l, cmpL k x.k < 0) : hi k l = l := List.filter_eq_self.2 fun x hx => decide_eq_true (h x hx)
theorem lo_none {k : List Int} {l : List It} (h : ∀ x ∈ l, ¬ cmpL x.k k < 0) : lo k l = [] := List.filter_eq_nil_iff.2 fun x hx => by simpa using h x hx
theorem hi_none {k : List Int} {l : List It} (h : ∀ x ∈ l, ¬ cmpL k x.k < 0) : hi k l = [] := List.filter_eq_nil_iff.2 fun x hx => by simpa using h x hx
theorem mem_lo {k : List Int} {l : List It} {x : It} : x ∈ lo k l ↔ x ∈ l ∧ cmpL x.k k < 0 := by simp [lo]
theorem mem_hi {k : List Int} {l : List It} {x : It} : x ∈ hi k l ↔ x ∈ l ∧ cmpL k x.k < 0 := by simp [hi]
theorem Srt.app {a b : List It} (h : Srt (a ++ b)) : Srt a ∧ Srt b ∧ ∀ x ∈ a, ∀ y ∈ b, cmpL x.k y.k < 0 := List.pairwise_append.1 h
theorem Srt.mk {a b : List It} (ha : Srt a) (hb : Srt b) (h : ∀ x ∈ a, ∀ y ∈ b, cmpL x.k y.k < 0) : Srt (a ++ b) := List.pairwise_append.2 ⟨ha, hb, h⟩
theorem Srt.cons {x : It} {l : List It} (h : Srt (x :: l)) : (∀ y ∈ l, cmpL x.k y.k < 0) ∧ Srt l := List.pairwise_cons.1 h
theorem Srt.ofLo {l : List It} (h : Srt l) (k : List Int) : Srt (lo k l) := List.Pairwise.filter _ h
theorem Srt.ofHi {l : List It} (h : Srt l) (k : List Int) : Srt (hi k l) := List.Pairwise.filter _ h
theorem Srt.ofIns {l : List It} (h : Srt l) (x : It) : Srt (ins l x) := by
  refine Srt.mk (h.ofLo _) (List.pairwise_cons.2 ⟨fun y hy => (mem_hi.1 hy).2, h.ofHi _⟩) fun a ha b hb => ?_
  have h1 := (mem_lo.1 ha).2
  rcases List.mem_cons.1 hb with rfl | hb
  · exact h1
  · exact cmpL_lt_trans _ _ _ h1 (mem_hi.1 hb).2
theorem Srt.split {l : List It} (h : Srt l) {x : It} {a b : List It} (e : l = a ++ x :: b) : lo x.k l = a ∧ hi x.k l = b := by
  subst e
  obtain ⟨ha, hb, hab⟩ := h.app
  obtain ⟨hx, hb'⟩ := hb.cons
  have h1 : ∀ y ∈ a, cmpL y.k x.k < 0 := fun y hy => hab y hy x (List.mem_cons_self ..)
  constructor
  · rw [lo_append, lo_all h1, lo_none (fun y hy => ?_), List.append_nil]
    rcases List.mem_cons.1 hy with rfl | hy
    · exact cmpL_irr _
    · exact cmpL_asym (hx y hy)
  · have e2 : hi x.k (x :: b) = b := by
      rw [show x :: b = [x] ++ b from rfl, hi_append, hi_all hx, hi_none (fun y hy => by rw [List.mem_singleton.1 hy]; exact cmpL_irr _), List.nil_append]
    rw [hi_append, hi_none (fun y hy => cmpL_asym (h1 y hy)), e2, List.nil_append]
def weave : List (List It) → List It → List It
  | [], _ => []
  | s :: _, [] => s
  | s :: ss, x :: xs => s ++ x :: weave ss xs
def wvA : List (List It) → List It → List It
  | s :: ss, x :: xs => s ++ x :: wvA ss xs
  | _, _ => []
theorem weave_app : ∀ (P Q : List (List It)) (xs ys : List It), P.length = xs.length → weave (P ++ Q) (xs ++ ys) = wvA P xs ++ weave Q ys
  | [], Q, [], ys, _ => rfl
  | [], _, _ :: _, _, h => by simp at h
  | _ :: _, _, [], _, h => by simp at h
  | s :: P, Q, x :: xs, ys, h => by
    simp only [List.cons_append, weave, wvA, List.append_assoc]
    rw [weave_app P Q xs ys (by simpa using h)]
theorem wvA_app : ∀ (P Q : List (List It)) (xs ys : List It), P.length = xs.length → wvA (P ++ Q) (xs ++ ys) = wvA P xs ++ wvA Q ys
  | [], Q, [], ys, _ => rfl
  | [], _, _ :: _, _, h => by simp at h
  | _ :: _, _, [], _, h => by simp at h
  | s :: P, Q, x :: xs, ys, h => by
    simp only [List.cons_append, wvA, List.append_assoc]
    rw [wvA_app P Q xs ys (by simpa using h)]
theorem mem_weave : ∀ (P : List (List It)) (xs : List It) (y : It), y ∈ weave P xs → y ∈ xs ∨ ∃ s ∈ P, y ∈ s
  | [], _, y, h => by simp [weave] at h
  | s :: P, [], y, h => .inr ⟨s, List.mem_cons_self .., h⟩
  | s :: P, x :: xs, y, h => by
    simp only [weave, List.mem_append, List.mem_cons] at h
    rcases h with h | h | h
    · exact .inr ⟨s, List.mem_cons_self .., h⟩
    · exact .inl (by rw [h]; exact List.mem_cons_self ..)
    · rcases mem_weave P xs y h with h | ⟨t, ht, h⟩
      · exact .inl (List.mem_cons_of_mem _ h)
      · exact .inr ⟨t, List.mem_cons_of_mem _ ht, h⟩
theorem weave_key : ∀ (P : List (List It)) (xs : List It), P.length = xs.length + 1 → ∀ x ∈ xs, x ∈ weave P xs
  | [], xs, h, x, hx => by simp at h
  | s :: P, [], _, x, hx => by simp at hx
  | s :: P, y :: xs, h, x, hx => by
    simp only [weave, List.mem_append, List.mem_cons]
    rcases List.mem_cons.1 hx with rfl | hx
    · exact .inr (.inl rfl)
    · exact .inr (.inr (weave_key P xs (by simpa using h) x hx))
theorem weave_seg : ∀ (P : List (List It)) (xs : List It), P.length = xs.length + 1 → ∀ s ∈ P, ∀ x ∈ s, x ∈ weave P xs
  | [], xs, h, s, hs, x, hx => by simp at h
  | t :: P, [], h, s, hs, x, hx => by
    have : P = [] := List.eq_nil_of_length_eq_zero (by simpa using h)
    subst this
    rw [List.mem_singleton.1 hs] at hx
    exact hx
  | t :: P, y :: xs, h, s, hs, x, hx => by
    simp only [weave, List.mem_append, List.mem_cons]
    rcases List.mem_cons.1 hs with rfl | hs
    · exact .inl hx
    · exact .inr (.inr (weave_seg P xs (by simpa using h) s hs x hx))
theorem weave_len : ∀ (P : List (List It)) (xs : List It), P.length = xs.length + 1 → ∀ s ∈ P, s.length + xs.length ≤ (weave P xs).length
  | [], xs, h, s, hs => by simp at h
  | t :: P, [], h, s, hs => by
    have : P = [] := List.eq_nil_of_length_eq_zero (by simpa using h)
    subst this
    rw [List.mem_singleton.1 hs]
    simp [weave]
  | t :: P, y :: xs, h, s, hs => by
    simp only [weave, List.length_append, List.length_cons]
    have hl : P.length = xs.length + 1 := by simpa using h
    rcases List.mem_cons.1 hs with rfl | hs
    · cases P with
      | nil => simp at hl
      | cons u P =>
        have := weave_len (u :: P) xs hl u (List.mem_cons_self ..)
        omega
    · have := weave_len P xs hl s hs
      omega
structure Shp (lv : List Int → Nat) (l : List It) (L : Nat) (segs : List (List It)) (xs : List It) : Prop where
  len : segs.length = xs.length + 1
  pos : 0 < xs.length
  eq : l = weave segs xs
  top : ∀ x ∈ xs, lv x.k = L
  low : ∀ s ∈ segs, ∀ x ∈ s, lv x.k < L
section
variable {lv : List Int → Nat} {l : List It} {L : Nat} {segs : List (List It)} {xs : List It}
theorem Shp.shorter (h : Shp lv l L segs xs) : ∀ s ∈ segs, s.length < l.length := fun s hs => by
  have := weave_len segs xs h.len s hs
  have := h.pos
  rw [h.eq]
  omega
theorem Shp.le (h : Shp lv l L segs xs) : ∀ x ∈ l, lv x.k ≤ L := fun x hx => by
  rw [h.eq] at hx
  rcases mem_weave _ _ _ hx with h1 | ⟨s, hs, h1⟩
  · rw [h.top x h1]
    exact Nat.le_refl _
  · exact Nat.le_of_lt (h.low s hs x h1)
theorem Shp.key (h : Shp lv l L segs xs) : ∀ x ∈ xs, x ∈ l := fun x hx => by rw [h.eq]; exact weave_key _ _ h.len x hx
theorem Shp.seg (h : Shp lv l L segs xs) : ∀ s ∈ segs, ∀ x ∈ s, x ∈ l := fun s hs x hx => by rw [h.eq]; exact weave_seg _ _ h.len s hs x hx
theorem Shp.at (h : Shp lv l L segs xs) (i : Nat) (hi : i ≤ xs.length) : ∃ s, segs[i]? = some s ∧ segs = segs.take i ++ s :: segs.drop (i + 1) ∧
    l = wvA (segs.take i) (xs.take i) ++ (s ++ (weave ([] :: segs.drop (i + 1)) (xs.drop i))) := by
  have hl := h.len
  have hlt : i < segs.length := by omega
  refine ⟨segs[i], List.getElem?_eq_getElem hlt, ?_, ?_⟩
  · rw [← List.drop_eq_getElem_cons hlt, List.take_append_drop]
  · conv => lhs; rw [h.eq, ← List.take_append_drop i segs, ← List.take_append_drop i xs]
    rw [weave_app _ _ _ _ (by simp; omega), List.drop_eq_getElem_cons hlt]
    congr 1
    cases hx : xs.drop i with
    | nil =>
      have : segs.drop (i + 1) = [] := by
        have := congrArg List.length hx
        simp at this
        apply List.drop_eq_nil_of_le
        omega
      rw [this]
      simp [weave]
    | cons y ys => simp [weave]
end
def maxV (lv : List Int → Nat) : List It → Nat
  | [] => 0
  | x :: l => max (lv x.k) (maxV lv l)
def segsF (lv : List Int → Nat) (L : Nat) : List It → List (List It)
  | [] => [[]]
  | x :: l => if lv x.k = L then [] :: segsF lv L l else match segsF lv L l with
    | [] => [[x]]
    | s :: ss => (x :: s) :: ss
def keysF (lv : List Int → Nat) (L : Nat) (l : List It) : List It := l.filter fun x => decide (lv x.k = L)
theorem maxV_le (lv : List Int → Nat) : ∀ (l : List It) (L : Nat), (∀ x ∈ l, lv x.k ≤ L) → maxV lv l ≤ L
  | [], L, _ => Nat.zero_le _
  | x :: l, L, h => by
    have h1 := h x (List.mem_cons_self ..)
    have h2 := maxV_le lv l L (fun y hy => h y (List.mem_cons_of_mem _ hy))
    simp only [maxV]
    omega
theorem le_maxV (lv : List Int → Nat) : ∀ (l : List It), ∀ x ∈ l, lv x.k ≤ maxV lv l
  | [], x, h => by simp at h
  | y :: l, x, h => by
    simp only [maxV]
    rcases List.mem_cons.1 h with rfl | h
    · omega
    · have := le_maxV lv l x h
      omega
theorem segsF_low (lv : List Int → Nat) (L : Nat) : ∀ (s rest : List It), (∀ x ∈ s, lv x.k < L) → segsF lv L (s ++ rest) = match segsF lv L rest with
    | [] => [s]
    | t :: ss => (s ++ t) :: ss
  | [], rest, _ => by
    cases h : segsF lv L rest with
    | nil =>
      cases rest with
      | nil => simp [segsF] at h
      | cons y l =>
        simp only [segsF] at h
        split at h
        · simp at h
        · split at h <;> simp at h
    | cons t ss => simp [h]
  | x :: s, rest, hx => by
    have ih := segsF_low lv L s rest (fun y hy => hx y (List.mem_cons_of_mem _ hy))
    have h1 := hx x (List.mem_cons_self ..)
    rw [List.cons_append, segsF, if_neg (by omega), ih]
    cases segsF lv L rest <;> rfl
theorem segsF_weave (lv : List Int → Nat) (L : Nat) : ∀ (segs : List (List It)) (xs : List It), segs.length = xs.length + 1 → (∀ x ∈ xs, lv x.k = L) → (∀ s ∈ segs, ∀ x ∈ s, lv x.k < L) →
    segsF lv L (weave segs xs) = segs ∧ keysF lv L (weave segs xs) = xs
  | [], xs, h, _, _ => by simp at h
  | s :: ss, [], h, _, hl => by
    have : ss = [] := List.eq_nil_of_length_eq_zero (by simpa using h)
    subst this
    have h1 := hl s (List.mem_cons_self ..)
    have h2 := segsF_low lv L s [] h1
    constructor
    · simpa [weave, segsF] using h2
    · simp only [weave, keysF]
      exact List.filter_eq_nil_iff.2 fun x hx => by have := h1 x hx; simp; omega
  | s :: ss, x :: xs, h, ht, hl => by
    have ih := segsF_weave lv L ss xs (by simpa using h) (fun y hy => ht y (List.mem_cons_of_mem _ hy)) (fun t ht' => hl t (List.mem_cons_of_mem _ ht'))
    have h1 := hl s (List.mem_cons_self ..)
    have hx := ht x (List.mem_cons_self ..)
    have h2 := segsF_low lv L s (x :: weave ss xs) h1
    constructor
    · rw [weave, h2, segsF, if_pos hx, ih.1]
      simp
    · rw [weave]
      unfold keysF at ih ⊢
      rw [List.filter_append, List.filter_cons, ih.2, if_pos (by simpa using hx), List.filter_eq_nil_iff.2 (fun y hy => by have := h1 y hy; simp; omega), List.nil_append]
theorem Shp.unique {lv : List Int → Nat} {l : List It} {L : Nat} {segs : List (List It)} {xs : List It} (h : Shp lv l L segs xs) : L = maxV lv l ∧ segs = segsF lv L l ∧ xs = keysF lv L l := by
  have h1 := segsF_weave lv L segs xs h.len h.top h.low
  rw [← h.eq] at h1
  refine ⟨?_, h1.1.symm, h1.2.symm⟩
  apply Nat.le_antisymm
  · have hp := h.pos
    have hm := h.key xs[0] (List.getElem_mem hp)
    have := le_maxV lv l _ hm
    rw [h.top _ (List.getElem_mem hp)] at this
    exact this
  · exact maxV_le lv l L h.le
def encF : Nat → Nat → List Int
  | 0, n => [(n : Int)]
  | f + 1, n => if n < 128 then [(n : Int)] else ((n % 128 + 128 : Nat) : Int) :: encF f (n / 128)
def enc (n : Nat) : List Int := encF 10 n
theorem encF_succ (f n : Nat) : encF (f + 1) n = if n < 128 then [(n : Int)] else ((n % 128 + 128 : Nat) : Int) :: encF f (n / 128) := rfl
theorem encF_stable (f : Nat) : ∀ n, n < 128 ^ (f + 1) → encF (f + 1) n = encF f n := by
  induction f with
  | zero => intro n h; simp [encF]; omega
  | succ f ih =>
    intro n h
    rw [encF_succ (f + 1) n, encF_succ f n]
    split
    · rfl
    · rw [ih (n / 128) (by rw [Nat.div_lt_iff_lt_mul (by decide)]; rw [Nat.pow_succ] at h; exact h)]
theorem enc_small {n : Nat} (h : n < 128) : enc n = [(n : Int)] := by simp [enc, encF, h]
theorem enc_big {n : Nat} (h : 128 ≤ n) (h2 : n < 18446744073709551616) : enc n = ((n % 128 + 128 : Nat) : Int) :: enc (n / 128) := by
  have : enc n = ((n % 128 + 128 : Nat) : Int) :: encF 9 (n / 128) := by
    unfold enc
    rw [encF_succ, if_neg (by omega)]
  rw [this]
  unfold enc
  rw [encF_stable 9 (n / 128) (by omega)]
theorem encF_length (f : Nat) : ∀ n, (encF f n).length ≤ f + 1 := by
  induction f with
  | zero => intro n; simp [encF]
  | succ f ih =>
    intro n
    rw [encF_succ]
    split
    · simp
    · have := ih (n / 128)
      simp; omega
theorem enc_length {n : Nat} (h : n < 18446744073709551616) : (enc n).length ≤ 10 := by
  unfold enc
  rw [encF_stable 9 n (by omega)]
  exact encF_length 9 n
theorem enc_pos (n : Nat) : 1 ≤ (enc n).length := by
  unfold enc
  rw [encF_succ]
  split <;> simp
theorem encF_byte (f : Nat) : ∀ n, n < 128 ^ (f + 1) → ∀ x ∈ encF f n, 0 ≤ x ∧ x ≤ 255 := by
  induction f with
  | zero => intro n h x hx; simp [encF] at hx; omega
  | succ f ih =>
    intro n h x hx
    rw [encF_succ] at hx
    split at hx
    · simp at hx; omega
    · simp only [List.mem_cons] at hx
      rcases hx with hx | hx
      · omega
      · exact ih (n / 128) (by rw [Nat.div_lt_iff_lt_mul (by decide)]; rw [Nat.pow_succ] at h; exact h) x hx
theorem enc_byte {n : Nat} (h : n < 18446744073709551616) : ∀ x ∈ enc n, 0 ≤ x ∧ x ≤ 255 := by
  intro x hx
  exact encF_byte 10 n (by omega) x hx
def ln (y : Nat) : Nat := if y = 0 then 0 else (enc y).length
abbrev Rs (α : Type) := Sum Int (α × List Int)
def then_ {α β : Type} (r : Rs α) (f : α → List Int → Rs β) : Rs β :=
  match r with
  | .inl k => .inl k
  | .inr (v, rest) => f v rest
def andThen {α β : Type} (P : List Int → Rs α) (Q : α → List Int → Rs β) (xs : List Int) : Rs (α × β) := then_ (P xs) fun a r => then_ (Q a r) fun b r' => .inr ((a, b), r')
open Go.RowKit
def sb (s : ByteArray) : List Int := s.data.toList.map fun c => (c.toNat : Int)
theorem sb_len (s : ByteArray) : (sb s).length = s.size := by simp [sb]
theorem sb_byte (s : ByteArray) : Byt (sb s) := by
  intro x hx
  simp only [sb, List.mem_map] at hx
  obtain ⟨c, _, rfl⟩ := hx
  have := c.toNat_lt
  omega
theorem sb_inj {s t : ByteArray} (h : sb s = sb t) : s = t := by
  have h1 : s.data.toList = t.data.toList := by
    refine List.map_inj_right (f := fun c : UInt8 => (c.toNat : Int)) (fun a b e => ?_) |>.1 h
    exact UInt8.toNat_inj.1 (Int.ofNat.inj e)
  exact ByteArray.ext (Array.toList_inj.1 h1)
theorem bytesWorld_sl (w : World) (s : ByteArray) (hs : s.size ≤ 140737488355328) : Sl (Lib.bytesWorld w 5 s) (some ⟨w.heap.size, 0, none⟩) s.size (grownCap w s.size 0 5) (sb s) := by
  refine ⟨sb_len s, grownCap_ge w _ _ _, grownCap_le_maxLen w _ _ _ (by simp only [maxLen]; omega), fun h => by simp at h, fun a ha i hi => ?_, sb_byte s⟩
  obtain rfl := Option.some.inj ha
  rw [Addr.add_lit, Nat.zero_add, Lib.bytesWorld_cell w _ s i hi]
  simp [sb, List.getD, hi]
theorem bytesWorld_below (w : World) (s : ByteArray) : Below w.heap.size w (Lib.bytesWorld w 5 s) :=
  ⟨rfl, rfl, rfl, by rw [Lib.bytesWorld_size]; omega, fun k hk => Lib.bytesWorld_at_old w _ s k hk⟩
theorem wpList_conv_bytes {w : World} {ops : Array Oper} {rest : List Oper} {o : Oper} {a : Act} {Q : Exit → Act → World → Prop} (hgd : o.guard = none) (x : Operand) (ho : o.op = .convert 9 25 x)
    (s : ByteArray) (hx : a.eval x = .string s) (hs : s.size ≤ 140737488355328)
    (h : ∀ g c w', g = w.heap.size → Sl w' (some ⟨g, 0, none⟩) s.size c (sb s) → Below w.heap.size w w' → wpList Tryz.prog ops Q rest (a.put o.dst (.slice (some ⟨g, 0, none⟩) s.size c)) w') : wpList Tryz.prog ops Q (o :: rest) a w := by
  refine wpList_plain hgd fun K hK => ?_
  have hr := Lib.run_convert_string_bytes (P := Tryz.prog) w 9 25 5 s Tryz.underlying9 Tryz.underlying25 Tryz.underlying5
  unfold Oper.wp execOp
  simp only [ho, hx, hr, Sem.run_bind, Sem.run_pure, Result.andThen_ok]
  exact hK _ _ (h _ _ _ rfl (bytesWorld_sl w s hs) (bytesWorld_below w s))
open Go.RowKit
theorem sb_at (s : ByteArray) (k : Nat) (h : k < s.size) : (sb s).drop k = (s[k].toNat : Int) :: (sb s).drop (k + 1) := by
  have hl : k < (sb s).length := by rw [sb_len]; exact h
  rw [List.drop_eq_getElem_cons hl]
  simp [sb, ByteArray.getElem_eq_getElem_data]
theorem cmpL_cons (a b : Int) (s t : List Int) : cmpL (a :: s) (b :: t) = if a = b then cmpL s t else if a < b then -1 else 1 := by rw [cmpL]
theorem sb_end (s : ByteArray) (k : Nat) (h : s.size ≤ k) : (sb s).drop k = [] := List.drop_eq_nil_of_le (by rw [sb_len]; exact h)
theorem belN {n : Nat} {a w : World} (h : Below n a w) (q : Nat) : Below n a (w.drewN q) := by
  have e0 : (w.drewN q).heap = w.heap := by simp
  exact ⟨by rw [← h.os]; rfl, by rw [← h.tape]; rfl, by rw [← h.output]; rfl, by rw [e0]; exact h.size, fun k hk => by rw [e0]; exact h.block k hk⟩
open Go.RowKit
theorem sb_str {xs : List Int} (h : Byt xs) : sb (strOfNums xs) = xs := by
  unfold sb
  rw [strOfNums_data, List.map_map]
  refine (List.map_congr_left fun x hx => ?_).trans (List.map_id xs)
  have := h x hx
  simp only [Function.comp_apply, id_eq, UInt8.toNat_ofNat']
  omega
theorem conv_str {w : World} {ao : Option Addr} {n cap : Nat} {xs : List Int} (h : Sl w ao n cap xs) : (convert 25 9 (.slice ao n cap)).run Tryz.prog w = .ok (.string (strOfNums xs)) w := by
  cases ao with
  | none =>
    obtain ⟨rfl, rfl⟩ := h.nil rfl
    obtain rfl : xs = [] := List.eq_nil_of_length_eq_zero h.len
    exact run_convert_bytes_nil w _ _ Tryz.underlying25 Tryz.underlying5 _ _ _ Tryz.underlying9
  | some a =>
    have hl := h.len
    have hc := run_convert_bytes_back (P := Tryz.prog) w 25 9 5 a cap (xs.map fun n => UInt8.ofNat n.toNat) Tryz.underlying25 Tryz.underlying5 Tryz.underlying9 (fun j hj => by
      have hj' : j < xs.length := by simpa using hj
      have hb := h.byte xs[j] (List.getElem_mem hj')
      rw [h.cells a rfl j _ (bv_get xs j hj')]
      simp only [List.getElem_map, UInt8.toNat_ofNat', List.getD, List.getElem?_eq_getElem hj', Option.getD_some, Option.some.injEq, Value.int.injEq, true_and]
      omega)
    rw [List.length_map, hl] at hc
    exact hc
open Go.RowKit
structure CV where
  row : ByteArray
  fam : ByteArray
  qual : ByteArray
  time : Nat
  value : List Int
  gone : Bool
open Go.RowKit
structure KA where
  row : ByteArray
  fam : ByteArray
  qual : ByteArray
  time : Nat
def KA.val (k : KA) : Value := .agg #[.string k.row, .string k.fam, .string k.qual, .int .u64 k.time]
def KA.kv (k : KA) : KV := ⟨sb k.row, sb k.fam, sb k.qual, k.time⟩
structure KA.ok (k : KA) : Prop where
  row : k.row.size ≤ maxLen
  fam : k.fam.size ≤ maxLen
  qual : k.qual.size ≤ maxLen
  time : k.time < 18446744073709551616
theorem KA.kv_byt {k : KA} (h : k.ok) : k.kv.byt := ⟨sb_byte _, sb_byte _, sb_byte _, h.time⟩
def CV.kv (c : CV) : KV := ⟨sb c.row, sb c.fam, sb c.qual, c.time⟩
structure CV.good (c : CV) : Prop where
  right : c.kv.right
  time : c.time < 18446744073709551616
  val : c.value.length ≤ 256
  byt : Byt c.value
  gone : c.gone = true → c.value = []
def itV (c : CV) : List Int := if c.gone then [1] else 0 :: c.value
def itm (c : CV) : It := ⟨keyL c.kv, itV c⟩
theorem CV.kvByt {c : CV} (h : c.time < 18446744073709551616) : c.kv.byt := ⟨sb_byte _, sb_byte _, sb_byte _, h⟩
theorem CV.kv_eq {a b : CV} (h : a.kv = b.kv) : a.row = b.row ∧ a.fam = b.fam ∧ a.qual = b.qual ∧ a.time = b.time := by
  simp only [CV.kv, KV.mk.injEq] at h
  exact ⟨sb_inj h.1, sb_inj h.2.1, sb_inj h.2.2.1, h.2.2.2⟩
theorem keyL_inj {a b : KV} (ha : a.byt) (hb : b.byt) (h : keyL a = keyL b) : a = b := by
  have := keyL_cmp a b ha hb
  rw [h, cmpL_self] at this
  exact (cmpK_zero a b).1 this.symm
theorem itV_len (c : CV) : (itV c).length ≤ c.value.length + 1 := by
  unfold itV
  split <;> simp
theorem nm_le (s : List Int) : (nm s).length ≤ 2 * s.length + 2 := (nm_len s).2
theorem keyL_le {k : KV} (h : k.right) : (keyL k).length ≤ 256 := by
  unfold keyL
  obtain ⟨h1, h2, h3, h4, h5⟩ := h
  have a1 := nm_le k.row
  have a2 := nm_le k.fam
  have a3 := nm_le k.qual
  have a4 := beL_len 8 k.time
  simp only [List.length_append]
  omega
def CSrt (cs : List CV) : Prop := Srt (cs.map itm)
def CGood (cs : List CV) : Prop := ∀ c ∈ cs, c.good
def cLo (k : KV) (cs : List CV) : List CV := cs.filter fun x => decide (cmpL (keyL x.kv) (keyL k) < 0)
def cHi (k : KV) (cs : List CV) : List CV := cs.filter fun x => decide (cmpL (keyL k) (keyL x.kv) < 0)
def cIns (cs : List CV) (c : CV) : List CV := cLo c.kv cs ++ c :: cHi c.kv cs
theorem lo_itm (k : KV) (cs : List CV) : lo (keyL k) (cs.map itm) = (cLo k cs).map itm := by
  unfold lo cLo
  rw [List.filter_map]
  rfl
theorem hi_itm (k : KV) (cs : List CV) : hi (keyL k) (cs.map itm) = (cHi k cs).map itm := by
  unfold hi cHi
  rw [List.filter_map]
  rfl
theorem ins_itm (cs : List CV) (c : CV) : ins (cs.map itm) (itm c) = (cIns cs c).map itm := by
  unfold ins cIns
  rw [show (itm c).k = keyL c.kv from rfl, lo_itm, hi_itm, List.map_append, List.map_cons]
theorem mem_cIns {cs : List CV} {c x : CV} (h : x ∈ cIns cs c) : x = c ∨ x ∈ cs := by
  unfold cIns cLo cHi at h
  rcases List.mem_append.1 h with h | h
  · exact .inr (List.mem_filter.1 h).1
  · rcases List.mem_cons.1 h with h | h
    · exact .inl h
    · exact .inr (List.mem_filter.1 h).1
theorem CSrt.ins {cs : List CV} (h : CSrt cs) (c : CV) : CSrt (cIns cs c) := by
  have := Srt.ofIns h (itm c)
  rw [ins_itm] at this
  exact this
theorem CGood.ins {cs : List CV} (h : CGood cs) {c : CV} (hc : c.good) : CGood (cIns cs c) := fun x hx => by
  rcases mem_cIns hx with rfl | hx
  · exact hc
  · exact h x hx
theorem cIns_len (cs : List CV) (c : CV) : (cIns cs c).length ≤ cs.length + 1 := by
  have h1 : ((cLo c.kv cs).map itm).length + ((cHi c.kv cs).map itm).length ≤ cs.length := by
    rw [List.length_map, List.length_map]
    unfold cLo cHi

    induction cs with
    | nil => simp
    | cons x cs ih =>
      simp only [List.filter_cons, List.length_cons]
      rcases cmpL_total (keyL x.kv) (keyL c.kv) with h | h | h
      · rw [decide_eq_true h, decide_eq_false (cmpL_asym h)]
        simp only [if_true, List.length_cons, Bool.false_eq_true, if_false]
        omega
      · rw [h, decide_eq_false (cmpL_irr _)]
        simp only [Bool.false_eq_true, if_false]
        omega
      · rw [decide_eq_true h, decide_eq_false (cmpL_asym h)]
        simp only [if_true, List.length_cons, Bool.false_eq_true, if_false]
        omega
  unfold cIns
  rw [List.length_map, List.length_map] at h1
  rw [List.length_append, List.length_cons]
  omega
def inRows (f t : ByteArray) (r : ByteArray) : Bool := decide (¬ cmpL (sb r) (sb f) < 0 ∧ (t.size = 0 ∨ cmpL (sb r) (sb t) < 0))
def CV.col (c : CV) (k : KA) : Bool := decide (c.row = k.row ∧ c.fam = k.fam ∧ c.qual = k.qual)
def colC (k : KA) (cs : List CV) : List CV := cs.filter fun c => c.col k
open Go.RowKit
def rotr (n : Nat) (x : Int) : Int := bits .or .u32 (IntKind.u32.wrap (x * 2 ^ (32 - n))) (x / 2 ^ n)
set_option maxRecDepth 100000 in
set_option maxHeartbeats 1000000 in
theorem rot_2 (x : Int) (w : World) :
    Calls Tryz.prog 154 #[.int .u32 x, .int .i64 (-2)] w fun e w' => e = .returned (.int .u32 (rotr 2 x)) ∧ w' = w := by
  have hb : bits .and .u64 (IntKind.u64.wrap (-2)) 31 = 30 := by decide
  go_enter Tryz.func154, Tryz.ntmps154
  go_wp2
  go_ret
  exact ⟨rfl, rfl⟩
set_option maxRecDepth 100000 in
set_option maxHeartbeats 1000000 in
theorem rot_6 (x : Int) (w : World) :
    Calls Tryz.prog 154 #[.int .u32 x, .int .i64 (-6)] w fun e w' => e = .returned (.int .u32 (rotr 6 x)) ∧ w' = w := by
  have hb : bits .and .u64 (IntKind.u64.wrap (-6)) 31 = 26 := by decide
  go_enter Tryz.func154, Tryz.ntmps154
  go_wp2
  go_ret
  exact ⟨rfl, rfl⟩
set_option maxRecDepth 100000 in
set_option maxHeartbeats 1000000 in
theorem rot_7 (x : Int) (w : World) :
    Calls Tryz.prog 154 #[.int .u32 x, .int .i64 (-7)] w fun e w' => e = .returned (.int .u32 (rotr 7 x)) ∧ w' = w := by
  have hb : bits .and .u64 (IntKind.u64.wrap (-7)) 31 = 25 := by decide
  go_enter Tryz.func154, Tryz.ntmps154
  go_wp2
  go_ret
  exact ⟨rfl, rfl⟩
set_option maxRecDepth 100000 in
set_option maxHeartbeats 1000000 in
theorem rot_11 (x : Int) (w : World) :
    Calls Tryz.prog 154 #[.int .u32 x, .int .i64 (-11)] w fun e w' => e = .returned (.int .u32 (rotr 11 x)) ∧ w' = w := by
  have hb : bits .and .u64 (IntKind.u64.wrap (-11)) 31 = 21 := by decide
  go_enter Tryz.func154, Tryz.ntmps154
  go_wp2
  go_ret
  exact ⟨rfl, rfl⟩
set_option maxRecDepth 100000 in
set_option maxHeartbeats 1000000 in
theorem rot_13 (x : Int) (w : World) :
    Calls Tryz.prog 154 #[.int .u32 x, .int .i64 (-13)] w fun e w' => e = .returned (.int .u32 (rotr 13 x)) ∧ w' = w := by
  have hb : bits .and .u64 (IntKind.u64.wrap (-13)) 31 = 19 := by decide
  go_enter Tryz.func154, Tryz.ntmps154
  go_wp2
  go_ret
  exact ⟨rfl, rfl⟩
set_option maxRecDepth 100000 in
set_option maxHeartbeats 1000000 in
theorem rot_17 (x : Int) (w : World) :
    Calls Tryz.prog 154 #[.int .u32 x, .int .i64 (-17)] w fun e w' => e = .returned (.int .u32 (rotr 17 x)) ∧ w' = w := by
  have hb : bits .and .u64 (IntKind.u64.wrap (-17)) 31 = 15 := by decide
  go_enter Tryz.func154, Tryz.ntmps154
  go_wp2
  go_ret
  exact ⟨rfl, rfl⟩
set_option maxRecDepth 100000 in
set_option maxHeartbeats 1000000 in
theorem rot_18 (x : Int) (w : World) :
    Calls Tryz.prog 154 #[.int .u32 x, .int .i64 (-18)] w fun e w' => e = .returned (.int .u32 (rotr 18 x)) ∧ w' = w := by
  have hb : bits .and .u64 (IntKind.u64.wrap (-18)) 31 = 14 := by decide
  go_enter Tryz.func154, Tryz.ntmps154
  go_wp2
  go_ret
  exact ⟨rfl, rfl⟩
set_option maxRecDepth 100000 in
set_option maxHeartbeats 1000000 in
theorem rot_19 (x : Int) (w : World) :
    Calls Tryz.prog 154 #[.int .u32 x, .int .i64 (-19)] w fun e w' => e = .returned (.int .u32 (rotr 19 x)) ∧ w' = w := by
  have hb : bits .and .u64 (IntKind.u64.wrap (-19)) 31 = 13 := by decide
  go_enter Tryz.func154, Tryz.ntmps154
  go_wp2
  go_ret
  exact ⟨rfl, rfl⟩
set_option maxRecDepth 100000 in
set_option maxHeartbeats 1000000 in
theorem rot_22 (x : Int) (w : World) :
    Calls Tryz.prog 154 #[.int .u32 x, .int .i64 (-22)] w fun e w' => e = .returned (.int .u32 (rotr 22 x)) ∧ w' = w := by
  have hb : bits .and .u64 (IntKind.u64.wrap (-22)) 31 = 10 := by decide
  go_enter Tryz.func154, Tryz.ntmps154
  go_wp2
  go_ret
  exact ⟨rfl, rfl⟩
set_option maxRecDepth 100000 in
set_option maxHeartbeats 1000000 in
theorem rot_25 (x : Int) (w : World) :
    Calls Tryz.prog 154 #[.int .u32 x, .int .i64 (-25)] w fun e w' => e = .returned (.int .u32 (rotr 25 x)) ∧ w' = w := by
  have hb : bits .and .u64 (IntKind.u64.wrap (-25)) 31 = 7 := by decide
  go_enter Tryz.func154, Tryz.ntmps154
  go_wp2
  go_ret
  exact ⟨rfl, rfl⟩
def rl (k : Int) (x : Int) : Int := rotr (-k).toNat x
theorem rot_at (x k : Int) (w : World) (hk : k = -2 ∨ k = -6 ∨ k = -7 ∨ k = -11 ∨ k = -13 ∨ k = -17 ∨ k = -18 ∨ k = -19 ∨ k = -22 ∨ k = -25) :
    Calls Tryz.prog 154 #[.int .u32 x, .int .i64 k] w fun e w' => e = .returned (.int .u32 (rl k x)) ∧ w' = w := by
  rcases hk with rfl | rfl | rfl | rfl | rfl | rfl | rfl | rfl | rfl | rfl
  · exact rot_2 x w
  · exact rot_6 x w
  · exact rot_7 x w
  · exact rot_11 x w
  · exact rot_13 x w
  · exact rot_17 x w
  · exact rot_18 x w
  · exact rot_19 x w
  · exact rot_22 x w
  · exact rot_25 x w
end Go.Proofs.YtlljmhcgjkolpaaGreatDoor
namespace Go
theorem run_loadVar_cells {P : Program} (w : World) (ad : Addr) (ty : TypeId) (cs : List Value) (hc : ∀ j v, cs[j]? = some v → w.cell? (ad.add j) = some v)
    (hagg : (isAgg ty).run P w = .ok true w) (hi : (P.info? ty).map (·.size) = some cs.length) :
    (loadVar ty ad).run P w = .ok (.agg cs.toArray) w := by
  have hl : (loadCells ad cs.length).run P w = .ok cs.toArray w := run_loadCells_list (P := P) w ad cs hc
  cases hq : P.info? ty with
  | none => simp [hq] at hi
  | some i =>
    have hs : i.size = cs.length := by simpa [hq] using hi
    simp [loadVar, Sem.run_bind, hagg, sizeOf, typeInfo, hq, hs, hl]
theorem wpList_load_cells {P : Program} {ops : Array Oper} {rest : List Oper} {o : Oper} {a : Act} {w : World} {Q : Exit → Act → World → Prop} (hgd : o.guard = none) (ty : TypeId) (x : Operand) (ho : o.op = .load ty x)
    (ad : Addr) (hx : a.eval x = .pointer (some ad)) (cs : List Value) (hc : ∀ j v, cs[j]? = some v → w.cell? (ad.add j) = some v)
    (hagg : ∀ w, (isAgg ty).run P w = .ok true w) (hi : (P.info? ty).map (·.size) = some cs.length)
    (h : wpList P ops Q rest (a.put o.dst (.agg cs.toArray)) w) : wpList P ops Q (o :: rest) a w := by
  refine wpList_plain hgd fun K hK => ?_
  unfold Oper.wp execOp
  simp only [ho, hx, Instr.loadAt, Instr.sureAddr, Sem.run_bind, Sem.run_pure, Result.andThen_ok, run_loadVar_cells w ad ty cs hc (hagg w) hi]
  exact hK _ _ h
theorem results_cells {P : Program} {fn : Func} {p : Tmp} {ty : TypeId} (h : fn.results = #[.cell p ty]) (tmps : Array Value) (w : World) (ad : Addr) (hp : tmps.getD p undef = .pointer (some ad)) (cs : List Value)
    (hc : ∀ j v, cs[j]? = some v → w.cell? (ad.add j) = some v) (hagg : (isAgg ty).run P w = .ok true w) (hi : (P.info? ty).map (·.size) = some cs.length) :
    (results fn tmps).run P w = .ok (.agg cs.toArray) w := by
  have hp' : tmps[p]?.getD undef = .pointer (some ad) := by simpa using hp
  simp [results, h, hp', asAddr, run_loadVar_cells w ad ty cs hc hagg hi]
theorem wpList_alloc_named {P : Program} {ops : Array Oper} {rest : List Oper} {o : Oper} {a : Act} {w : World} {Q : Exit → Act → World → Prop} (hgd : o.guard = none) (d : Tmp) (hd : o.dst = some d) (ty : TypeId) (ho : o.op = .alloc ty)
    (N : Nat) (hN : w.heap.size = N) (cs : List Value) (n : Nat) (hz : (P.info? ty).map (fun i => (i.zero, i.size)) = some (some (.agg cs.toArray), n))
    (h : ∀ w', w'.heap[N]? = some (.cells cs.toArray ty) → w'.heap.size = N + 1 → w.grownBy w' none → wpList P ops Q rest (a.put (some d) (.pointer (some ⟨N, 0, none⟩))) w') : wpList P ops Q (o :: rest) a w := by
  refine wpList_plain hgd fun K hK => ?_
  rw [← hd] at h
  subst hN
  have h0 : (zeroValue ty).run P w = .ok (.agg cs.toArray) w := (zero_of_info hz).1 w
  have hr : (execOp a.eval o).run P w = .ok (.value (.pointer (some ⟨w.heap.size, 0, none⟩))) (w.alloc (.cells cs.toArray ty)) := by
    unfold execOp
    simp [ho, Instr.alloc, h0, newVar, newRow, Value.cells]
  unfold Oper.wp
  rw [hr, Oper.upon_value]
  exact hK _ _ (h _ (heap_alloc_new _ _) (by simp) (World.grownBy_alloc _ _ _))
theorem wpList_store_named {P : Program} {ops : Array Oper} {rest : List Oper} {o : Oper} {a : Act} {w : World} {Q : Exit → Act → World → Prop} (hgd : o.guard = none) (ty : TypeId) (x y : Operand) (ho : o.op = .store ty x y)
    (g : Nat) (cells : List Value) (hx : a.eval x = .pointer (some ⟨g, 0, none⟩)) (hy : a.eval y = .agg cells.toArray)
    (t : TypeId) (old : List Value) (hg : w.heap[g]? = some (.cells old.toArray t)) (N : Nat) (hN : w.heap.size = N) (hi : (P.info? ty).map (·.size) = some cells.length)
    (hold : old.length = cells.length) (h1 : ∀ u ∈ cells, u.oneCell' = true)
    (h : ∀ w', w'.heap[g]? = some (.cells cells.toArray t) → w'.heap.size = N → w.grownBy w' (some g) → wpList P ops Q rest (a.put o.dst undef) w') : wpList P ops Q (o :: rest) a w := by
  refine wpList_store_row hgd ty x y ho g cells.toArray hx hy t old.toArray hg (by simpa using hi) (by simpa using hold) (by simpa using h1) ?_
  exact h _ (setRow_heap w g _ _ t _ hg) (by simpa using hN) ⟨rfl, rfl, rfl, by simp, fun k _ hk => setRow_other w g k _ (fun e => hk (by rw [e]))⟩
theorem add_at (b i j : Nat) : (⟨b, i, none⟩ : Addr).add j = ⟨b, i + j, none⟩ := by unfold Addr.add; split <;> simp_all
end Go
namespace Go.Proofs.YtlljmhcgjkolpaaGreatDoor
open Go.RowKit
def wv (xs : List Int) : List Value := xs.map (Value.int .u32)
theorem wv_length (xs : List Int) : (wv xs).length = xs.length := by simp [wv]
theorem wv_one (xs : List Int) : ∀ u ∈ wv xs, u.oneCell' = true := ints_oneCell .u32 xs
theorem wv_get (xs : List Int) (j : Nat) (h : j < xs.length) : (wv xs)[j]? = some (.int .u32 (xs.getD j 0)) := by
  simp [wv, h]
theorem wv_set (xs : List Int) (j : Nat) (x : Int) : (wv xs).set j (.int .u32 x) = wv (xs.set j x) := by
  simp [wv, List.map_set]
def H0 : List Int := [1779033703, 3144134277, 1013904242, 2773480762, 1359893119, 2600822924, 528734635, 1541459225]
def K0 : List Int := [1116352408, 1899447441, 3049323471, 3921009573, 961987163, 1508970993, 2453635748, 2870763221, 3624381080, 310598401, 607225278, 1426881987, 1925078388, 2162078206, 2614888103, 3248222580, 3835390401, 4022224774, 264347078, 604807628, 770255983, 1249150122, 1555081692, 1996064986, 2554220882, 2821834349, 2952996808, 3210313671, 3336571891, 3584528711, 113926993, 338241895, 666307205, 773529912, 1294757372, 1396182291, 1695183700, 1986661051, 2177026350, 2456956037, 2730485921, 2820302411, 3259730800, 3345764771, 3516065817, 3600352804, 4094571909, 275423344, 430227734, 506948616, 659060556, 883997877, 958139571, 1322822218, 1537002063, 1747873779, 1955562222, 2024104815, 2227730452, 2361852424, 2428436474, 2756734187, 3204031479, 3329325298]
def Arr (w : World) (b : Nat) (t : TypeId) (cs : List Value) : Prop := w.heap[b]? = some (.cells cs.toArray t)
theorem Arr.lt {w : World} {b : Nat} {t : TypeId} {cs : List Value} (h : Arr w b t cs) : b < w.heap.size := (Array.getElem?_eq_some_iff.1 h).1
theorem Arr.cell {w : World} {b : Nat} {t : TypeId} {cs : List Value} (h : Arr w b t cs) (j : Nat) : w.cell? ⟨b, j, none⟩ = cs[j]? := by
  rw [cell_of_row w b j _ _ _ h]; simp
theorem Arr.free {w : World} {b : Nat} {t : TypeId} {cs : List Value} (h : Arr w b t cs) (j : Nat) : w.frozen? ⟨b, j, none⟩ = false := frozen_of_row w b j _ _ h
theorem Arr.grown {w w' : World} {b : Nat} {t : TypeId} {cs : List Value} {row : Option Nat} (h : Arr w b t cs) (hg : w.grownBy w' row) (hne : some b ≠ row) : Arr w' b t cs := (hg.block b h.lt hne).trans h
theorem Arr.below {w w' : World} {b : Nat} {t : TypeId} {cs : List Value} {n : Nat} (h : Arr w b t cs) (hg : Below n w w') (hne : b < n) : Arr w' b t cs := (hg.block b hne).trans h
theorem Arr.set {w : World} {b : Nat} {t : TypeId} {cs : List Value} (h : Arr w b t cs) (j : Nat) (v : Value) : Arr (w.setCell ⟨b, j, none⟩ v) b t (cs.set j v) := by
  unfold Arr
  rw [heap_setCell_same w b j _ t v h]
  simp
theorem Arr.other {w : World} {b : Nat} {t : TypeId} {cs : List Value} (h : Arr w b t cs) (a : Addr) (v : Value) (hne : b ≠ a.block) : Arr (w.setCell a v) b t cs := (heap_setCell_other w a b v hne).trans h
structure Tabs (w : World) : Prop where
  first : ∀ j v, (wv H0)[j]? = some v → w.cell? ⟨1, j, none⟩ = some v
  cubes : ∀ j v, (wv K0)[j]? = some v → w.cell? ⟨0, j, none⟩ = some v
  two : 2 ≤ w.heap.size
theorem Tabs.below {w w' : World} {n : Nat} (h : Tabs w) (hb : Below n w w') (hn : 2 ≤ n) : Tabs w' :=
  ⟨fun j v hv => (hb.cell (p := ⟨1, j, none⟩) (by show 1 < n; omega)).trans (h.first j v hv), fun j v hv => (hb.cell (p := ⟨0, j, none⟩) (by show 0 < n; omega)).trans (h.cubes j v hv), by have := hb.size; have := h.two; omega⟩
def hv (A B : List Int) (n : Nat) : List Value := wv A ++ bv B ++ [.int .u64 n]
structure HB (w : World) (p : Nat) (A B : List Int) (n : Nat) : Prop where
  heap : w.heap[p]? = some (.cells (hv A B n).toArray 166)
  lenA : A.length = 8
  lenB : B.length = 64
  byte : Byt B
  size : n < 18446744073709551616
theorem HB.lt {w : World} {p : Nat} {A B : List Int} {n : Nat} (h : HB w p A B n) : p < w.heap.size := (Array.getElem?_eq_some_iff.1 h.heap).1
theorem HB.below {w w' : World} {p m : Nat} {A B : List Int} {n : Nat} (h : HB w p A B n) (hb : Below m w w') (hp : p < m) : HB w' p A B n :=
  ⟨(hb.block p hp).trans h.heap, h.lenA, h.lenB, h.byte, h.size⟩
theorem HB.word {w : World} {p : Nat} {A B : List Int} {n : Nat} (h : HB w p A B n) (j : Nat) (hj : j < 8) : w.cell? ⟨p, j, none⟩ = some (.int .u32 (A.getD j 0)) := by
  rw [cell_of_row w p j _ _ _ h.heap]
  have := h.lenA
  simp [hv, wv, List.getElem?_append, this, hj]
theorem HB.wordv {w : World} {p : Nat} {A B : List Int} {n : Nat} (h : HB w p A B n) (j : Nat) (v : Value) (hv' : (wv A)[j]? = some v) : w.cell? ⟨p, j, none⟩ = some v := by
  have h1 := (List.getElem?_eq_some_iff.1 hv').1
  rw [wv_length] at h1
  rw [wv_get A j h1] at hv'
  rw [h.word j (by have := h.lenA; omega)]
  exact hv'
theorem HB.byteAt {w : World} {p : Nat} {A B : List Int} {n : Nat} (h : HB w p A B n) (j : Nat) (hj : j < 64) : w.cell? ⟨p, 8 + j, none⟩ = some (.int .u8 (B.getD j 0)) := by
  rw [cell_of_row w p _ _ _ _ h.heap]
  have := h.lenA
  have := h.lenB
  have h2 : ¬ 8 + j < 8 := by omega
  simp [hv, wv, bv, List.getElem?_append, *]
theorem HB.count {w : World} {p : Nat} {A B : List Int} {n : Nat} (h : HB w p A B n) : w.cell? ⟨p, 72, none⟩ = some (.int .u64 n) := by
  rw [cell_of_row w p _ _ _ _ h.heap]
  have := h.lenA
  have := h.lenB
  simp [hv, wv, bv, *]
theorem bel_grown {w w' : World} (h : Below w.heap.size w w') (row : Option Nat) : w.grownBy w' row := ⟨h.os, h.tape, h.output, h.size, fun k hk _ => h.block k hk⟩
theorem gro_trans {a b c : World} {row : Option Nat} (h : a.grownBy b row) (k : b.grownBy c row) : a.grownBy c row :=
  ⟨k.os.trans h.os, k.tape.trans h.tape, k.output.trans h.output, Nat.le_trans h.size k.size, fun i hi hn => (k.block i (Nat.lt_of_lt_of_le hi h.size) hn).trans (h.block i hi hn)⟩
theorem grown_set {a b : World} {p : Nat} (h : a.grownBy b (some p)) (j : Nat) (v : Value) : a.grownBy (b.setCell ⟨p, j, none⟩ v) (some p) :=
  ⟨h.os, h.tape, h.output, by simpa using h.size, fun i hi hn => (heap_setCell_other b _ i v (fun e => hn (by rw [e]))).trans (h.block i hi hn)⟩
theorem grown_drewN {a b : World} {row : Option Nat} (h : a.grownBy b row) (q : Nat) : a.grownBy (b.drewN q) row := ⟨h.os, h.tape, h.output, h.size, h.block⟩
theorem HB.drewN {w : World} {p : Nat} {A B : List Int} {n : Nat} (h : HB w p A B n) (q : Nat) : HB (w.drewN q) p A B n := ⟨h.heap, h.lenA, h.lenB, h.byte, h.size⟩
theorem hv_setA (A B : List Int) (n : Nat) (j : Nat) (x : Int) (h : j < A.length) : (hv A B n).set j (.int .u32 x) = hv (A.set j x) B n := by
  have h1 : j < (wv A ++ bv B).length := by simp [wv]; omega
  have h2 : j < (wv A).length := by simp [wv]; omega
  unfold hv
  rw [List.set_append_left _ _ h1, List.set_append_left _ _ h2, wv_set]
theorem HB.setA {w : World} {p : Nat} {A B : List Int} {n : Nat} (h : HB w p A B n) (j : Nat) (x : Int) (hj : j < 8) : HB (w.setCell ⟨p, j, none⟩ (.int .u32 x)) p (A.set j x) B n := by
  refine ⟨?_, by simp [h.lenA], h.lenB, h.byte, h.size⟩
  have := Arr.set (show Arr w p _ (hv A B n) from h.heap) j (.int .u32 x)
  rw [hv_setA _ _ _ _ _ (by rw [h.lenA]; exact hj)] at this
  exact this
theorem HB.free {w : World} {p : Nat} {A B : List Int} {n : Nat} (h : HB w p A B n) (j : Nat) : w.frozen? ⟨p, j, none⟩ = false := frozen_of_row w p j _ _ h.heap
open Go.RowKit
def ad (x y : Int) : Int := IntKind.u32.wrap (x + y)
def part (X A : List Int) (i : Nat) : List Int := (List.range 8).map fun j => if j < i then ad (X.getD j 0) (A.getD j 0) else X.getD j 0
theorem g48 (w : World) : (isAgg 163).run Tryz.prog w = .ok true w := by
  simp [isAgg, run_underlying Tryz.underlying163 w]
theorem a48 : (Tryz.prog.info? 163).map (·.size) = some 8 := by kernel_rfl
theorem z48 : (Tryz.prog.info? 163).map (fun i => (i.zero, i.size)) = some (some (.agg (List.replicate 8 (Value.int .u32 0)).toArray), 8) := by kernel_rfl
theorem s42 : (Tryz.prog.info? 162).map (·.size) = some 1 := by kernel_rfl
theorem index48 (A : List Int) (k : Nat) (hA : A.length = 8) (hk : k < 8) (w : World) : (Instr.index 163 (.agg (wv A).toArray) (.int .i64 k)).run Tryz.prog w = .ok (.int .u32 (A.getD k 0)) w := by
  have h1 : k < A.length := by omega
  cases hq : Tryz.prog.info? 162 with
  | none => have := s42; rw [hq] at this; simp at this
  | some i =>
    have hs : i.size = 1 := by have := s42; rw [hq] at this; simpa using this
    simp [Instr.index, asIntOf, run_underlying Tryz.underlying163 w, sizeOf, typeInfo, hq, hs, Go.part, isAgg, wv, h1]
    omega
theorem part_len (X A : List Int) (i : Nat) : (part X A i).length = 8 := by simp [part]
theorem part_get (X A : List Int) (i j : Nat) (hj : j < 8) : (part X A i).getD j 0 = if j < i then ad (X.getD j 0) (A.getD j 0) else X.getD j 0 := by simp [part, List.getD, hj]
theorem part_zero (X A : List Int) (h : X.length = 8) : part X A 0 = X := by
  refine List.ext_getElem? fun j => ?_
  by_cases hj : j < 8
  · simp [part, hj, List.getD, h]
  · simp [part, hj, h]
theorem part_succ (X A : List Int) (i : Nat) : (part X A i).set i (ad (X.getD i 0) (A.getD i 0)) = part X A (i + 1) := by
  refine List.ext_getElem? fun j => ?_
  by_cases hj : j < 8
  · by_cases hij : i = j
    · subst hij
      simp [part, hj]
    · have h1 : (j < i + 1) = (j < i) := by simp; omega
      simp [part, hj, hij, h1]
  · simp [part, hj]
set_option maxRecDepth 100000 in
set_option maxHeartbeats 1000000 in
theorem words_any (w : World) (p : Nat) (A B : List Int) (n : Nat) (hT : Tabs w) (h : HB w p A B n) :
    Calls Tryz.prog 132 #[.pointer (some ⟨p, 0, none⟩)] w fun e w' => e = .returned (.agg (wv (part H0 A 8)).toArray) ∧ Below w.heap.size w w' := by
  have h2 := hT.two
  have hp := h.lt
  go_enter Tryz.func132, Tryz.ntmps132
  go_wp2_with (first
    | (refine wpList_alloc_named rfl 2 rfl 163 rfl w.heap.size rfl _ 8 z48 ?_; intro w1 a1 s1 g1; have B1 : Below w.heap.size w w1 := (Below.refl _ w).grown g1 (Nat.le_refl _) (by simp); have T1 := hT.below B1 h2; clear g1)
    | (refine wpList_load_cells rfl 163 (Operand.global 1) rfl ⟨1, 0, none⟩ rfl (wv H0) (fun j v hv => by rw [add_at, Nat.zero_add]; exact T1.first j v hv) g48 a48 ?_)
    | (refine wpList_alloc_named rfl 3 rfl 163 rfl (w.heap.size + 1) s1 _ 8 z48 ?_; intro w2 a2 s2 g2; have B2 : Below w.heap.size w w2 := B1.grown g2 (by omega) (by simp); have A2 : Arr w2 w.heap.size 163 _ := Arr.grown a1 g2 (by simp); clear g2 B1 a1 s1 T1)
    | (refine wpList_store_named rfl 163 (Operand.tmp 3) _ rfl (w.heap.size + 1) (wv H0) rfl rfl 163 _ a2 _ s2 a48 rfl (wv_one _) ?_; intro w3 a3 s3 g3; have B3 : Below w.heap.size w w3 := B2.grown g3 (by omega) (by intro k hk; cases hk; omega); have A3 : Arr w3 w.heap.size 163 _ := Arr.grown A2 g3 (by simp); have h3 := h.below B3 hp; clear g3 B2 A2 a2 s2)
    | (refine wpList_load_cells rfl 163 (Operand.tmp 9) rfl ⟨p, 0, none⟩ rfl (wv A) (fun j v hv => by rw [add_at, Nat.zero_add]; exact h3.wordv j v hv) g48 (a48.trans (by rw [wv_length, h3.lenA])) ?_))
  go_loopw [11] (fun i wr => ∃ k : Nat, k ≤ 8 ∧ i = .int .i64 k ∧ Below w.heap.size w wr ∧ Arr wr w.heap.size 163 (List.replicate 8 (Value.int .u32 0)) ∧ Arr wr (w.heap.size + 1) 163 (wv (part H0 A k)) ∧ wr.heap.size = w.heap.size + 1 + 1) (fun i _ => 8 - (intOf i).toNat)
  case atStart => exact ⟨0, by omega, rfl, B3, A3, by rw [part_zero _ _ rfl]; exact a3, s3⟩
  case round =>
    obtain ⟨k, hk, rfl, B4, A4, a4, s4⟩ := hrel
    by_cases hlt : k < 8
    · have c1 := a4.cell k
      rw [wv_get _ k (by rw [part_len]; exact hlt), part_get _ _ _ _ hlt] at c1
      simp only [Nat.lt_irrefl, if_false] at c1
      have c2 := a4.free k
      have hi : (k : Int) < 8 := by omega
      have hx := index48 A k h.lenA hlt
      go_wp2
      go_roundw
      case rel =>
        refine ⟨k + 1, by omega, by go_num, B4.setCell (by show w.heap.size ≤ w.heap.size + 1; omega) _, A4.other _ _ (by show w.heap.size ≠ w.heap.size + 1; omega), ?_, by simpa using s4⟩
        have := a4.set k (.int .u32 (ad (H0.getD k 0) (A.getD k 0)))
        rw [wv_set, part_succ] at this
        exact this
      case measure => simp [intOf]; omega
    · obtain rfl : k = 8 := by omega
      go_wp2_with (first
        | (refine wpList_load_cells rfl 163 (Operand.tmp 3) rfl ⟨w.heap.size + 1, 0, none⟩ rfl (wv (part H0 A 8)) (fun j v hv => by rw [add_at, Nat.zero_add, a4.cell]; exact hv) g48 (a48.trans (by rw [wv_length, part_len])) ?_)
        | (refine wpList_store_named rfl 163 (Operand.tmp 2) _ rfl w.heap.size (wv (part H0 A 8)) rfl rfl 163 _ A4 _ s4 (a48.trans (by rw [wv_length, part_len])) (by rw [wv_length, part_len]; rfl) (wv_one _) ?_; intro w5 a5 s5 g5; have B5 : Below w.heap.size w w5 := B4.grown g5 (by omega) (by intro k hk; cases hk; omega); clear g5))
      refine bodyPost_ret (v := .agg (wv (part H0 A 8)).toArray) ?_ rfl ⟨rfl, B5⟩
      exact results_cells rfl _ w5 ⟨w.heap.size, 0, none⟩ rfl (wv (part H0 A 8)) (fun j v hv => by rw [add_at, Nat.zero_add, Arr.cell a5]; exact hv) (g48 w5) (a48.trans (by rw [wv_length, part_len]))
end Go.Proofs.YtlljmhcgjkolpaaGreatDoor

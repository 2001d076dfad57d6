/-
  Texts in one: MapF, MapE, HRegB, TbMost, TbJudge, TbOf, TbParts.
-/
import Derived.Test.YthlpccajnmkbjaaGreatDoorY0
import Derived.Maps.OwnSet
import Derived.WideKeyEntry
import Derived.Test.YthlpccajnmkbjaaGreatDoorY17
import Derived.Test.YthlpccajnmkbjaaGreatDoorY4
import Derived.Test.YthlpccajnmkbjaaGreatDoorY25
import Derived.Test.YthlpccajnmkbjaaGreatDoorY8
import Derived.DeepKeys4
import Derived.Test.YthlpccajnmkbjaaGreatDoorY35
import Derived.Test.YthlpccajnmkbjaaGreatDoorY34
import Derived.Test.YthlpccajnmkbjaaGreatDoorY51
import Derived.Test.YthlpccajnmkbjaaGreatDoorY53
namespace Go.Proofs.YthlpccajnmkbjaaGreatDoor
open Go.RowKit

/-- An element reads as itself. -/
def vElem (v : Value) : Option (DataW Value × List MemPlace) := some (.held v, [])

/-- Block b is a map of n entries, keyed by K: F says what is at a key. -/
def MF (w : World) (K : TypeId) (b n : Nat) (F : Value → Option Value) : Prop :=
  ∃ D : DataW Value, w.ownsMap Tryz.prog K vElem b n D ∧ Maps.size D = n ∧
    ∀ v l, keyOf Tryz.prog K v = some l → (F v = none ∧ Maps.has D l = false ∧ ∀ z, D.atKey l z = z) ∨ ∃ u, F v = some u ∧ Maps.has D l = true ∧ ∀ z, D.atKey l z = .held u

theorem MF.lt {w : World} {K : TypeId} {b n : Nat} {F : Value → Option Value} (h : MF w K b n F) : b < w.heap.size := by
  obtain ⟨D, h1, _⟩ := h
  exact h1.lt
theorem MF.made (w : World) (K : TypeId) : MF (w.alloc (.map #[] 0)) K w.heap.size 0 fun _ => none :=
  ⟨.map [], World.ownsMap_made w _ _ _, rfl, fun _ _ _ => .inl ⟨rfl, rfl, fun _ => rfl⟩⟩
theorem MF.kept {w w' : World} {K : TypeId} {b n : Nat} {F : Value → Option Value} {row : Option Nat} (h : MF w K b n F) (hg : w.grownBy w' row) (hne : some b ≠ row) : MF w' K b n F := by
  obtain ⟨D, h1, h2⟩ := h
  exact ⟨D, h1.kept hg hne, h2⟩
theorem MF.ofHeap {w w' : World} {K : TypeId} {b n : Nat} {F : Value → Option Value} (h : MF w K b n F) (e : w'.heap = w.heap) : MF w' K b n F := by
  obtain ⟨D, ⟨es, clock, hb, r⟩, h2⟩ := h
  exact ⟨D, ⟨es, clock, by rw [e]; exact hb, r⟩, h2⟩
theorem MF.below {w w' : World} {K : TypeId} {b n m : Nat} {F : Value → Option Value} (h : MF w K b n F) (hb : Below m w w') (hm : b < m) : MF w' K b n F := by
  obtain ⟨D, ⟨es, clock, h1, r⟩, h2⟩ := h
  exact ⟨D, ⟨es, clock, by rw [hb.block b hm]; exact h1, r⟩, h2⟩

theorem MF.look {w : World} {K : TypeId} {b n : Nat} {F : Value → Option Value} (h : MF w K b n F) (hK : Maps.Keyed Tryz.prog K) {t e : TypeId} (ht : Tryz.prog.underlying t = some (.map K e)) {z : Value} (hz : (zeroValue e).run Tryz.prog w = .ok z w)
    {v : Value} {l : Lit} (hv : keyOf Tryz.prog K v = some l) : (Instr.lookup t (.map (some b)) v true).run Tryz.prog w = .ok (.tuple #[(F v).getD z, .bool (F v).isSome]) w := by
  obtain ⟨D, h1, _, h3⟩ := h
  obtain ⟨u, ps, hr, hu⟩ := h1.look_ok hK ht hz (zd := .held z) (zp := []) rfl hv
  rw [hr]
  unfold vElem at hu
  rcases h3 v l hv with ⟨e1, e2, e3⟩ | ⟨x, e1, e2, e3⟩
  · rw [e3] at hu
    simp at hu
    rw [e1, e2, hu.1]
    rfl
  · rw [e3] at hu
    simp at hu
    rw [e1, e2, hu.1]
    rfl
theorem MF.look1 {w : World} {K : TypeId} {b n : Nat} {F : Value → Option Value} (h : MF w K b n F) (hK : Maps.Keyed Tryz.prog K) {t e : TypeId} (ht : Tryz.prog.underlying t = some (.map K e)) {z : Value} (hz : (zeroValue e).run Tryz.prog w = .ok z w)
    {v : Value} {l : Lit} (hv : keyOf Tryz.prog K v = some l) : (Instr.lookup t (.map (some b)) v false).run Tryz.prog w = .ok ((F v).getD z) w := by
  obtain ⟨D, h1, _, h3⟩ := h
  obtain ⟨u, ps, hr, hu⟩ := h1.lookup hK ht hz (zd := .held z) (zp := []) rfl hv
  rw [hr]
  unfold vElem at hu
  rcases h3 v l hv with ⟨e1, e2, e3⟩ | ⟨x, e1, e2, e3⟩
  · rw [e3] at hu
    simp at hu
    rw [e1, hu.1]
    rfl
  · rw [e3] at hu
    simp at hu
    rw [e1, hu.1]
    rfl

theorem MF.update {w : World} {K : TypeId} {b n : Nat} {F : Value → Option Value} (h : MF w K b n F) (hK : Maps.Keyed Tryz.prog K) {t e : TypeId} (ht : Tryz.prog.underlying t = some (.map K e)) (hn : n < maxLen) {key val : Value} {l : Lit} (hkey : keyOf Tryz.prog K key = some l) :
    ∃ w' F' n', (Instr.mapUpdate t (.map (some b)) key val).run Tryz.prog w = .ok () w' ∧ MF w' K b n' F' ∧ w.grownBy w' (some b) ∧ F' key = some val ∧ (∀ x, x ≠ key → F' x = F x) ∧ (F key = none → n' = n + 1) ∧ (F key ≠ none → n' = n) := by
  obtain ⟨D, h1, h2, h3⟩ := h
  obtain ⟨w', hr, h4, h5⟩ := h1.update hK ht hn hkey (d := .held val) (ps := []) rfl
  have hk := hK.key hkey
  have hsz := Maps.size_put (k := l) (h1.tidy hK) (.held val)
  haveI : ∀ x : Value, Decidable (x = key) := fun x => Classical.propDecidable _
  refine ⟨w', fun x => if x = key then some val else F x, Maps.size (D.put l (.held val)), hr, ⟨D.put l (.held val), ?_, rfl, ?_⟩, h5, if_pos rfl, fun x hx => if_neg hx, fun hN => ?_, fun hS => ?_⟩
  · obtain ⟨es, clock, hb, F0, hs, hD⟩ := h4
    refine ⟨es, clock, hb, F0, ?_, hD⟩
    rw [hD]
    simp [Maps.size, length_sorted]
  · intro v l' hv
    by_cases hvk : v = key
    · subst hvk
      rw [hkey] at hv
      obtain rfl := Option.some.inj hv
      exact .inr ⟨val, if_pos rfl, Maps.has_put_same h1.isMap hk _, fun z => Maps.atKey_put_same h1.isMap hk _ z⟩
    · have hne : l' ≠ l := fun e => hvk (hK.inj hv (by rw [e]; exact hkey))
      simp only [hvk, if_false]
      rw [Maps.has_put_other hne]
      rcases h3 v l' hv with ⟨e1, e2, e3⟩ | ⟨u, e1, e2, e3⟩
      · exact .inl ⟨e1, e2, fun z => by rw [Maps.atKey_put_other hne]; exact e3 z⟩
      · exact .inr ⟨u, e1, e2, fun z => by rw [Maps.atKey_put_other hne]; exact e3 z⟩
  · rcases h3 key l hkey with ⟨e1, e2, _⟩ | ⟨u, e1, _⟩
    · rw [hsz, e2, h2]
      simp
    · rw [hN] at e1
      cases e1
  · rcases h3 key l hkey with ⟨e1, _⟩ | ⟨u, e1, e2, _⟩
    · exact absurd e1 hS
    · rw [hsz, e2, h2]
      simp
theorem MF.len {w : World} {K : TypeId} {b n : Nat} {F : Value → Option Value} (h : MF w K b n F) {t e : TypeId} (ht : Tryz.prog.underlying t = some (.map K e)) (ty : TypeId) : (Builtin.len_ #[t] ty #[.map (some b)]).run Tryz.prog w = .ok (.int .i64 n) w := by
  obtain ⟨D, h1, h2, _⟩ := h
  rw [h1.len ht ty, h2]

end Go.Proofs.YthlpccajnmkbjaaGreatDoor

namespace Go.Proofs.YthlpccajnmkbjaaGreatDoor
open Go.RowKit Go.ChangeMaps

theorem setBlock_twice (w : World) (b : Nat) (x y : Obj) : setBlock (setBlock w b x) b y = setBlock w b y := by
  unfold setBlock
  simp
theorem setBlock_self {w : World} {b : Nat} {x : Obj} (h : w.heap[b]? = some x) : setBlock w b x = w := by
  have hh : w.heap.setIfInBounds b x = w.heap := by
    apply Array.ext
    · simp
    · intro i h1 h2
      rw [Array.getElem_setIfInBounds h2]
      split
      · rename_i e
        subst e
        obtain ⟨h3, h4⟩ := Array.getElem?_eq_some_iff.1 h
        exact h4.symm
      · rfl
  unfold setBlock
  rw [hh]
/-- The entry of a key, and what is stored in it. -/
theorem MF.entry {w : World} {K : TypeId} {b n : Nat} {F : Value → Option Value} (h : MF w K b n F) (KL : WideMaps.KeyLaw Tryz.prog K) {t e : TypeId} (ht : Tryz.prog.underlying t = some (.map K e)) {z : Value} (hz : ∀ u : World, (zeroValue e).run Tryz.prog u = .ok z u) (hn : n < maxLen) {key : Value} {l : Lit} (hkey : keyOf Tryz.prog K key = some l) :
    ∃ (st : Nat) (w1 : World), (Instr.mapEntry t (.map (some b)) key).run Tryz.prog w = .ok (.tuple #[(F key).getD z, goInt st]) w1 ∧ w.grownBy w1 (some b) ∧ (Instr.lookup t (.map (some b)) key false).run Tryz.prog w1 = .ok ((F key).getD z) w1 ∧
      ∀ val, ∃ w2 F' n', (Instr.entryStore t (.map (some b)) (goInt st) val).run Tryz.prog w1 = .ok () w2 ∧ MF w2 K b n' F' ∧ w.grownBy w2 (some b) ∧ F' key = some val ∧ (∀ x, x ≠ key → F' x = F x) ∧ n' ≤ n + 1 := by
  have hK := Maps.Keyed.of_law KL
  have hl := h.look1 hK ht (hz w) hkey
  have hmf := h
  obtain ⟨D, ⟨es, clock, hb, Ft, hs, hD⟩, hsz, hF⟩ := h
  obtain ⟨v0, st, es1, clock1, hme, -, hst⟩ := WideElems.entry_then_store KL ht hz hb Ft hkey
  have hblk : b < w.heap.size := hmf.lt
  have grow : ∀ o, w.grownBy (setBlock w b o) (some b) := fun o => ⟨rfl, rfl, rfl, by simp [setBlock], fun i _ hi => by
    unfold setBlock
    simp only [Array.getElem?_setIfInBounds]
    rw [if_neg (fun e => hi (by rw [e]))]⟩
  have hw1 : (setBlock w b (.map es1 clock1)).heap[b]? = some (.map es1 clock1) := by
    unfold setBlock
    simp [hblk]
  -- the world behind the entry is a map whose key has what it had, or nought
  have key1 : v0 = (F key).getD z ∧ (Instr.lookup t (.map (some b)) key false).run Tryz.prog (setBlock w b (.map es1 clock1)) = .ok v0 (setBlock w b (.map es1 clock1)) := by
    rcases KL.find w hkey es.toList Ft.keys with ⟨h1, h2⟩ | ⟨j, e0, h1, h2, h3⟩
    · have hlz : (Instr.lookup t (.map (some b)) key false).run Tryz.prog w = .ok z w := by
        simp [Instr.lookup, run_underlying ht, MapKept.run_getObj_map hb, KL.check w es.isEmpty hkey, h1, hz, Result.andThen]
      have hez : (Instr.mapEntry t (.map (some b)) key).run Tryz.prog w = .ok (.tuple #[z, goInt clock]) (setBlock w b (.map (es.push ⟨key, z, clock⟩) (clock + 1))) := by
        simp [Instr.mapEntry, run_underlying ht, MapKept.run_getObj_map hb, KL.check w false hkey, h1, hz, MapKept.run_setObj_map _ hb, Result.andThen, setBlock]
      have huz : (Instr.mapUpdate t (.map (some b)) key z).run Tryz.prog w = .ok () (setBlock w b (.map (es.push ⟨key, z, clock⟩) (clock + 1))) := by
        simp [Instr.mapUpdate, run_underlying ht, MapKept.run_getObj_map hb, KL.check w false hkey, h1, MapKept.run_setObj_map _ hb, Result.andThen, setBlock]
      rw [hme] at hez
      simp only [Result.ok.injEq, Value.tuple.injEq] at hez
      obtain ⟨e1, e2⟩ := hez
      have e1 : v0 = z := by
        have := congrArg (fun a : Array Value => a[0]?) e1
        simpa using this
      rw [hl] at hlz
      simp only [Result.ok.injEq, and_true] at hlz
      obtain ⟨w', F1, n1, g1, g2, -, g3, -, -, -⟩ := hmf.update hK ht hn hkey (val := z)
      rw [g1] at huz
      simp only [Result.ok.injEq, true_and] at huz
      have m1 : MF (setBlock w b (.map es1 clock1)) K b n1 F1 := by rw [e2, ← huz]; exact g2
      have g4 := m1.look1 hK ht (hz _) hkey
      rw [g3] at g4
      exact ⟨by rw [hlz, e1], by rw [e1]; exact g4⟩
    · have hj : es[j]? = some e0 := by simpa using h2
      have hlz : (Instr.lookup t (.map (some b)) key false).run Tryz.prog w = .ok e0.val w := by
        simp [Instr.lookup, run_underlying ht, MapKept.run_getObj_map hb, KL.check w es.isEmpty hkey, h1, Result.andThen]
      have hsame : es.modify j (fun x => { x with key := key }) = es := by
        apply Array.ext'
        rw [Array.toList_modify, modify_eq_set _ _ _ _ h2, show ({ e0 with key := key } : MapEntry) = e0 from by rw [← h3]]
        exact WideElems.set_self _ _ _ h2
      have hez : (Instr.mapEntry t (.map (some b)) key).run Tryz.prog w = .ok (.tuple #[e0.val, goInt e0.born]) (setBlock w b (.map es clock)) := by
        simp [Instr.mapEntry, run_underlying ht, MapKept.run_getObj_map hb, KL.check w false hkey, h1, hj, h3, KL.stays w hkey, hsame, MapKept.run_setObj_map _ hb, Result.andThen, setBlock]
      rw [hme] at hez
      simp only [Result.ok.injEq, Value.tuple.injEq] at hez
      obtain ⟨e1, e2⟩ := hez
      have e1 : v0 = e0.val := by
        have := congrArg (fun a : Array Value => a[0]?) e1
        simpa using this
      rw [hl] at hlz
      simp only [Result.ok.injEq, and_true] at hlz
      refine ⟨by rw [hlz, e1], ?_⟩
      rw [e2, setBlock_self hb, hl, hlz, e1]
  obtain ⟨e0, f1⟩ := key1
  subst e0
  refine ⟨st, _, hme, grow _, f1, fun val => ?_⟩
  · obtain ⟨es2, clock2, r1, r2⟩ := hst _ val hw1
    obtain ⟨w', F', n', g1, g2, g3, g4, g5, g6, g7⟩ := hmf.update hK ht hn hkey (val := val)
    rw [r2] at g1
    simp only [Result.ok.injEq, true_and] at g1
    refine ⟨_, F', n', r1, by rw [setBlock_twice, g1]; exact g2, by rw [setBlock_twice]; exact grow _, g4, g5, ?_⟩
    cases hf : F key with
    | none => have := g6 hf; omega
    | some u => have := g7 (by rw [hf]; simp); omega
end Go.Proofs.YthlpccajnmkbjaaGreatDoor

namespace Go
section
variable {P : Program} {ops : Array Oper} {S : World → Prop} {Q : Exit → Act → World → Prop} {fuel : Nat} {listed : Array Bool} {a : Act} {w : World}
theorem op_do (i : Nat) (d : Option Tmp) (v : Value) {oi : Oper} {w' : World} (hi : ops[i]? = some oi) (hd : oi.dst = d) (hg : oi.guard = none) (hrun : (execOp a.eval oi).run P w = .ok (.value v) w') (hS : S w')
    (h : wpAnyH P .any ops (NoPanic Q) S fuel (listed.setIfInBounds i true) (a.put d v) w') : wpOp P ops (NoPanic Q) i (fun a' w' => S w' ∧ wpAnyH P .any ops (NoPanic Q) S fuel (listed.setIfInBounds i true) a' w') a w := by
  have hw : Region.wanted oi (yielded ops a.tmps) = true := by simp [Region.wanted, hg]
  unfold wpOp
  simp only [hi, hw, if_true, Oper.wp, hrun, Oper.upon, hd]
  exact .inl ⟨hS, h⟩
theorem op_call (i : Nat) (d : Option Tmp) {oi : Oper} (f : FuncId) (args : Array Value) (hi : ops[i]? = some oi) (hd : oi.dst = d) (hg : oi.guard = none) (hrun : (execOp a.eval oi).run P w = .ok (.enter f args) w)
    (R : Value → World → Prop) (hc : Calls P f args w fun e w' => ∃ v, e = .returned v ∧ R v w')
    (h : ∀ v w', R v w' → S w' ∧ wpAnyH P .any ops (NoPanic Q) S fuel (listed.setIfInBounds i true) (a.put d v) w') : wpOp P ops (NoPanic Q) i (fun a' w' => S w' ∧ wpAnyH P .any ops (NoPanic Q) S fuel (listed.setIfInBounds i true) a' w') a w := by
  have hw : Region.wanted oi (yielded ops a.tmps) = true := by simp [Region.wanted, hg]
  unfold wpOp
  simp only [hi, hw, if_true, Oper.wp, hrun, Oper.upon, hd]
  refine .inl (hc.mono ?_)
  rintro e w' ⟨v, rfl, hR⟩
  exact h v w' hR
theorem hr_two {i j : Nat} (hr : Region.ready .any ops listed = [i, j]) (h1 : wpOp P ops (NoPanic Q) i (fun a' w' => S w' ∧ wpAnyH P .any ops (NoPanic Q) S fuel (listed.setIfInBounds i true) a' w') a w)
    (h2 : wpOp P ops (NoPanic Q) j (fun a' w' => S w' ∧ wpAnyH P .any ops (NoPanic Q) S fuel (listed.setIfInBounds j true) a' w') a w) : wpAnyH P .any ops (NoPanic Q) S (fuel + 1) listed a w := by
  refine wpAnyH_all hr (by simp) fun k hk => ?_
  simp only [List.mem_cons, List.not_mem_nil, or_false] at hk
  rcases hk with rfl | rfl
  · exact h1
  · exact h2
/-- append carried out, to a row of the call's own. -/
theorem hr_own (i : Nat) (d : Option Tmp) {oi : Oper} (hi : ops[i]? = some oi) (hd : oi.dst = d) (hr : Region.ready .any ops listed = [i]) (hg : oi.guard = none) (s x : Operand) (t : TypeId)
    (ho : oi.op = .call { callee := .builtin .append, args := #[s, x], argTypes := #[t, t] })
    (base : Nat) (e : TypeId) (inf : TypeInfo) (z : Value) (size bytes : Nat) (ht : P.underlying t = some (.slice e)) (hinf : P.info? e = some inf) (hz : inf.zero = some z)
    (hsize : inf.size = size) (hby : inf.bytes = bytes) (hzs : z.cells.size = size) (hsz : 0 < size)
    (v : Value) (n : Nat) (xs : List Value) (hs : a.eval s = v) (hown : w.ownsRow base e size v n xs)
    (ad : Addr) (m c : Nat) (news : List Value) (hx : a.eval x = .slice (some ad) m c) (hl : news.length = m * size) (hnews : ∀ j u, news[j]? = some u → w.cell? (ad.add j) = some u) (h1 : ∀ u ∈ news, u.oneCell' = true)
    (h63 : n + m ≤ maxLen) (hbytes : (n + m) * bytes ≤ 140737488355328) (hbase : base ≤ w.heap.size)
    (h : ∀ v' w', w'.ownsRow base e size v' (n + m) (xs ++ news) → w.grownBy w' v.ownBlock → (∀ g, v'.ownBlock = some g → v.ownBlock = some g ∨ w.heap.size ≤ g) → S w' ∧ wpAnyH P .any ops (NoPanic Q) S fuel (listed.setIfInBounds i true) (a.put d v') w') : wpAnyH P .any ops (NoPanic Q) S (fuel + 1) listed a w := by
  refine wpAnyH_all hr (by simp) fun j hj => ?_
  obtain rfl := List.mem_singleton.1 hj
  have hw : Region.wanted oi (yielded ops a.tmps) = true := by simp [Region.wanted, hg]
  obtain ⟨v', w', hrun, h2, h3, h4⟩ := Go.Proofs.YthlpccajnmkbjaaGreatDoor.run_append_own2 (P := P) w base t oi.type e inf z size bytes ht hinf hz hsize hby hzs hsz v n xs hown ad m c news hl hnews h1 h63 hbytes hbase
  unfold wpOp
  simp only [hi, hw, if_true]
  refine .inl ?_
  unfold Oper.wp execOp
  simp only [ho, resolve, invoke, builtin, Sem.run_bind, Sem.run_pure, Result.andThen_ok, List.map_toArray, List.map_cons, List.map_nil, hs, hx, hrun, Oper.upon, hd]
  exact h v' w' h2 h3 h4
end
end Go

namespace Go.Proofs.YthlpccajnmkbjaaGreatDoor
open Go.RowKit

theorem laidT : laidOutB Tryz.prog = true := by kernel_rfl
theorem keyLaw39 : WideMaps.KeyLaw Tryz.prog 39 := deep_law_laid laidT (m := 3) (by omega) (of_decide_eq_true (by kernel_rfl)) (by kernel_rfl) (by kernel_rfl)
theorem litsS (d : Nat) (s : ByteArray) (h : s.size ≤ maxLen) : Tryz.prog.keyLits (d + 1) 9 [.string s] = some [.string s.data.toList] := by
  simp [Program.keyLits, Tryz.underlying9, h]
theorem litsU (d : Nat) (n : Nat) (h : n < 18446744073709551616) : Tryz.prog.keyLits (d + 1) 37 [.int .u64 n] = some [.int .u64 n] := by
  have hw : (Lit.int .u64 n).wf = true := by simp [Lit.wf, IntKind.min, IntKind.max, IntKind.signed, IntKind.bits]; omega
  simp [Program.keyLits, Tryz.underlying37, hw]
theorem cS : Tryz.prog.cellsOf 9 = 1 := by kernel_rfl
theorem cU : Tryz.prog.cellsOf 37 = 1 := by kernel_rfl
theorem cK : Tryz.prog.cellsOf 39 = 4 := by kernel_rfl
theorem ktK : Tryz.prog.keyType 39 = true := by kernel_rfl
theorem keyKA (k : KA) (h : k.ok) : ∃ l, keyOf Tryz.prog 39 k.val = some l := by
  have hf : k.val.formed Tryz.prog 39 = true := by
    simp [KA.val, Value.formed, Tryz.underlying39, cK]
  obtain ⟨d, hd⟩ : ∃ d, Tryz.prog.types.size = d + 1 := ⟨Tryz.prog.types.size - 1, by
    have : 1 ≤ Tryz.prog.types.size := of_decide_eq_true (by kernel_rfl)
    omega⟩
  have hk : ∃ ls, Tryz.prog.keyLits (d + 2) 39 [.string k.row, .string k.fam, .string k.qual, .int .u64 k.time] = some ls := by
    unfold Program.keyLits
    rw [Tryz.underlying39]
    refine ⟨([[.string k.row.data.toList], [.string k.fam.data.toList], [.string k.qual.data.toList], [.int .u64 k.time]] : List (List Lit)).flatten, ?_⟩
    have hc : ([.string k.row, .string k.fam, .string k.qual, .int .u64 k.time] : List Value).length = 4 := rfl
    simp only [cK, hc]
    rw [if_pos ⟨trivial, by kernel_rfl⟩]
    simp only [List.mapM_cons, List.mapM_nil, cS, cU, List.drop_zero, List.drop_succ_cons, List.take_succ_cons, List.take_zero]
    rw [litsS d _ h.row, litsS d _ h.fam, litsS d _ h.qual, litsU d _ h.time]
    rfl
  obtain ⟨l2, hl2⟩ := hk
  have e0 : k.val.cells.toList = [.string k.row, .string k.fam, .string k.qual, .int .u64 k.time] := by simp [KA.val, Value.cells]
  unfold keyOf
  rw [Tryz.underlying39]
  simp only [ktK, hf, Bool.and_self, if_true]
  rw [hd, e0, hl2]
  exact ⟨_, rfl⟩
def keq (a b : KA) : Bool := decide (a.row = b.row ∧ a.fam = b.fam ∧ a.qual = b.qual ∧ a.time = b.time)
theorem keq_iff (a b : KA) : keq a b = true ↔ a = b := by
  unfold keq
  rw [decide_eq_true_eq]
  cases a; cases b
  simp
theorem KA.val_inj {a b : KA} (h : a.val = b.val) : a = b := by
  cases a; cases b
  simp only [KA.val, Value.agg.injEq] at h
  have h := congrArg Array.toList h
  simp at h
  obtain ⟨h1, h2, h3, h4⟩ := h
  subst h1 h2 h3
  rw [KA.mk.injEq]
  exact ⟨rfl, rfl, rfl, by omega⟩
/-- How often a key stands in a list. -/
def cntK (k : KA) (ks : List KA) : Nat := (ks.filter (keq k)).length
/-- How often the most frequent one does: in the order of the list. -/
def mostR : List KA → Nat
  | [] => 0
  | k :: ks => max (mostR ks) (cntK k ks + 1)
def mostK (ks : List KA) : Nat := mostR ks.reverse
theorem cntK_le (k : KA) (ks : List KA) : cntK k ks ≤ ks.length := List.length_filter_le _ _
theorem mostR_le : ∀ ks : List KA, mostR ks ≤ ks.length
  | [] => Nat.le_refl _
  | k :: ks => by
    have := mostR_le ks
    have := cntK_le k ks
    unfold mostR
    simp only [List.length_cons]
    omega
theorem cntK_reverse (k : KA) (ks : List KA) : cntK k ks.reverse = cntK k ks := by
  unfold cntK
  rw [List.filter_reverse, List.length_reverse]
theorem mostK_snoc (ks : List KA) (k : KA) : mostK (ks ++ [k]) = max (mostK ks) (cntK k ks + 1) := by
  unfold mostK
  rw [List.reverse_append]
  show max (mostR ks.reverse) (cntK k ks.reverse + 1) = _
  rw [cntK_reverse]
theorem cntK_snoc (j : KA) (ks : List KA) (k : KA) : cntK j (ks ++ [k]) = cntK j ks + (if keq j k then 1 else 0) := by
  unfold cntK
  rw [List.filter_append, List.length_append]
  congr 1
  simp only [List.filter_cons, List.filter_nil]
  split <;> rfl
/-- The map has each key's number. -/
def Cnt (F : Value → Option Value) (ks : List KA) : Prop := ∀ k : KA, (F k.val).getD (.int .i64 0) = .int .i64 (cntK k ks : Nat)
theorem Cnt.step {F F' : Value → Option Value} {ks : List KA} {k : KA} (h : Cnt F ks) (h1 : F' k.val = some (.int .i64 ((cntK k ks : Nat) + 1 : Int))) (h2 : ∀ x, x ≠ k.val → F' x = F x) : Cnt F' (ks ++ [k]) := fun j => by
  rw [cntK_snoc]
  by_cases e : j = k
  · subst e
    rw [h1, (keq_iff j j).2 rfl]
    simp
  · have hk : keq j k = false := by
      cases hq : keq j k with
      | false => rfl
      | true => exact absurd ((keq_iff j k).1 hq) e
    rw [h2 _ (fun hv => e (KA.val_inj hv)), hk, h j]
    simp
theorem zeroI (u : World) : (zeroValue 3).run Tryz.prog u = .ok (.int .i64 0) u := by kernel_rfl

set_option maxHeartbeats 8000000 in
set_option maxRecDepth 100000 in
theorem most_any (w : World) (ao : Option Addr) (n cap : Nat) (l : List CA) (g : Nat) (cf : KA → KA) (eg : ∀ args w, (callFunc g args).run Tryz.prog w = .ok (.enter g args) w) (L : CL w ao n cap l) (hn : n ≤ 1000)
    (hcf : ∀ V k, Calls Tryz.prog g #[k.val] V fun e w' => e = .returned (cf k).val ∧ Below V.heap.size V w') (hck : ∀ k : KA, k.ok → (cf k).ok) :
    Calls Tryz.prog 105 #[.slice ao n cap, .func (.func g) #[] #[]] w fun e w' => e = .returned (.int .i64 (mostK (l.map fun c => cf c.key) : Nat)) ∧ Below w.heap.size w w' := by
  have hl1 := Nat.le_of_eq L.len
  have hl2 := Nat.le_of_eq L.len.symm
  obtain ⟨ks, hks⟩ : ∃ ks, ks = l.map fun c => cf c.key := ⟨_, rfl⟩
  have HKS : Hid (ks = l.map fun c => cf c.key) := hks
  rw [← hks]
  clear hks
  obtain ⟨W1, hW1⟩ : ∃ V, V = w.alloc (.map #[] 0) := ⟨_, rfl⟩
  have C1 : Below w.heap.size w W1 := by rw [hW1]; exact (Below.refl _ _).alloc (Nat.le_refl _) _
  have M1 : MF W1 39 w.heap.size 0 (fun _ => none) := by rw [hW1]; exact MF.made w _
  have hmm := @run_makeMap Tryz.prog
  go_enter Tryz.func105, Tryz.ntmps105
  go_wp2
  rw [← hW1]
  clear hW1 hmm
  go_loopw [6, 13] (fun mv i wr => ∃ (j mn : Nat) (F : Value → Option Value), j ≤ n ∧ i = .int .i64 j ∧ mv = .int .i64 (mostK (ks.take j) : Nat) ∧ MF wr 39 w.heap.size mn F ∧ mn ≤ j ∧ Hid (Cnt F (ks.take j)) ∧ Below w.heap.size w wr) (fun _ i _ => n - (intOf i).toNat)
  case atStart => exact ⟨0, 0, _, Nat.zero_le _, rfl, rfl, M1, Nat.le_refl _, fun _ => rfl, C1⟩
  case round =>
    obtain ⟨j, mn, F, hj, rfl, rfl, M, hmn, HC, B⟩ := hrel
    by_cases hlt : j < n
    · have hji : (j : Int) < (n : Int) := by omega
      have hjl : j < l.length := by omega
      obtain ⟨b, off, ea, hc⟩ := L.at (by omega)
      have X := (hc j hjl).below B
      have hok := (L.ok _ (List.getElem_mem hjl))
      have hjk : j < ks.length := by rw [HKS.out, List.length_map]; exact hjl
      have hkj : ks[j] = cf l[j].key := by
        have := HKS.out
        subst this
        exact List.getElem_map ..
      have HT : Hid (ks.take (j + 1) = ks.take j ++ [cf l[j].key]) := by
        show _ = _
        rw [List.take_succ_eq_append_getElem hjk, hkj]
      have kok : (cf l[j].key).ok := hck _ ⟨hok.row, hok.fam, hok.qual, hok.time⟩
      obtain ⟨c, hce⟩ : ∃ c, c = l[j] := ⟨_, rfl⟩
      rw [← hce] at X HT kok
      obtain ⟨k2, hk2⟩ : ∃ k, k = cf c.key := ⟨_, rfl⟩
      have CF := fun (V : World) => hcf V c.key
      rw [← hk2] at HT kok CF
      have egc := fun (V : World) => eg #[c.key.val] V
      unfold KA.val CA.key at CF egc
      obtain ⟨x0, x1, x2, x3, x4, x5⟩ := X
      subst ea
      obtain ⟨W2, hW2⟩ : ∃ V, V = wr.alloc (.cells #[.string c.row, .string c.fam, .string c.qual, .int .u64 c.time, .slice c.va.ao c.va.n c.va.cap, .bool c.gone] 69) := ⟨_, rfl⟩
      have C2 : Below wr.heap.size wr W2 := by rw [hW2]; exact (Below.refl _ _).alloc (Nat.le_refl _) _
      have B2 := B.trans (C2.mono B.size)
      have M2 := M.below C2 M.lt
      have CF2 := CF W2
      clear hc hok hkj hce hk2 M CF
      go_wp2_with fail
      rw [← hW2]
      clear hW2
      refine CF2.mono ?_
      rintro e w3 ⟨rfl, C3⟩
      have B3 := B2.trans (C3.mono B2.size)
      have M3 := M2.below C3 M2.lt
      obtain ⟨W4, hW4⟩ : ∃ V, V = w3.alloc (.cells #[.string k2.row, .string k2.fam, .string k2.qual, .int .u64 k2.time] 39) := ⟨_, rfl⟩
      have C4 : Below w3.heap.size w3 W4 := by rw [hW4]; exact (Below.refl _ _).alloc (Nat.le_refl _) _
      have K4 : Arr W4 w3.heap.size 39 [.string k2.row, .string k2.fam, .string k2.qual, .int .u64 k2.time] := by rw [hW4]; exact heap_alloc_new w3 _
      have B4 := B3.trans (C4.mono B3.size)
      have M4 := M3.below C4 M3.lt
      have hlt3 : w.heap.size < w3.heap.size := M3.lt
      clear CF2 x0 x1 x2 x3 x4 x5 M2 M3 egc
      go_wp2
      rw [← hW4]
      clear hW4
      have hkey := keyKA k2 kok
      obtain ⟨lit, hlit⟩ := hkey
      have M5 : MF W4.drew 39 w.heap.size mn F := M4.ofHeap rfl
      obtain ⟨st, w1, hme, g1, hlk1, hst⟩ := M5.entry keyLaw39 Tryz.underlying173 zeroI (by unfold maxLen; omega) hlit
      have hlk0 := M5.look1 (Maps.Keyed.of_law keyLaw39) Tryz.underlying173 (zeroI _) hlit
      rw [HC.out k2] at hme hlk0 hlk1
      have hcl : cntK k2 (ks.take j) ≤ 1000 := Nat.le_trans (cntK_le _ _) (by rw [List.length_take]; omega)
      obtain ⟨cn, hcn⟩ : ∃ c, c = cntK k2 (ks.take j) := ⟨_, rfl⟩
      have HCN : Hid (cn = cntK k2 (ks.take j)) := hcn
      rw [← hcn] at hme hlk0 hlk1 hcl
      obtain ⟨w2, F', n', hes, M6, g2, f1, f2, hn'⟩ := hst (.int .i64 ((cn : Nat) + 1 : Int))
      have hlk2 := M6.look1 (Maps.Keyed.of_law keyLaw39) Tryz.underlying173 (zeroI _) hlit
      rw [f1, Option.getD_some] at hlk2
      have HC2 : Hid (Cnt F' (ks.take (j + 1))) := by
        show Cnt _ _
        rw [HT.out]
        exact HC.out.step (by rw [f1, HCN.out]) f2
      have HMX : Hid (mostK (ks.take (j + 1)) = max (mostK (ks.take j)) (cn + 1)) := by
        show _ = _
        rw [HT.out, mostK_snoc, HCN.out]
      have hne : w3.heap.size ≠ w.heap.size := by omega
      have B6 : Below w.heap.size w w2 := B4.drew.grown g2 B4.size (fun i hi => by cases hi; exact Nat.le_refl _)
      have k0 : W4.drew.cell? ⟨w3.heap.size, 0, none⟩ = some (.string k2.row) := K4.cell 0
      have k1 : W4.drew.cell? ⟨w3.heap.size, 1, none⟩ = some (.string k2.fam) := K4.cell 1
      have k2' : W4.drew.cell? ⟨w3.heap.size, 2, none⟩ = some (.string k2.qual) := K4.cell 2
      have k3 : W4.drew.cell? ⟨w3.heap.size, 3, none⟩ = some (.int .u64 k2.time) := K4.cell 3
      have keepc : ∀ V, W4.drew.grownBy V (some w.heap.size) → V.cell? ⟨w3.heap.size, 0, none⟩ = some (.string k2.row) ∧ V.cell? ⟨w3.heap.size, 1, none⟩ = some (.string k2.fam) ∧ V.cell? ⟨w3.heap.size, 2, none⟩ = some (.string k2.qual) ∧ V.cell? ⟨w3.heap.size, 3, none⟩ = some (.int .u64 k2.time) := fun V hV => by
        have hb : V.heap[w3.heap.size]? = W4.drew.heap[w3.heap.size]? := World.grownBy.block hV _ K4.lt (fun e => hne (Option.some.inj e))
        exact ⟨(World.cell?_of_block hb).trans k0, (World.cell?_of_block hb).trans k1, (World.cell?_of_block hb).trans k2', (World.cell?_of_block hb).trans k3⟩
      have H1 := keepc w1 g1
      have H2 := keepc w2 g2
      obtain ⟨y0, y1, y2, y3⟩ := keepc w2 g2
      have hwr : IntKind.i64.wrap ((cn : Int) + 1) = (cn : Int) + 1 := by rw [IntKind.wrap_i64]; omega
      unfold KA.val at hme hlk0 hlk1 hlk2
      unfold goInt at hes
      clear keepc f1 f2 hst M5 M4 g1 g2 hcn
      refine wp_region_noPanic ?_
      refine wp_region_held_drew (S := fun V => V.cell? ⟨w3.heap.size, 0, none⟩ = some (.string k2.row) ∧ V.cell? ⟨w3.heap.size, 1, none⟩ = some (.string k2.fam) ∧ V.cell? ⟨w3.heap.size, 2, none⟩ = some (.string k2.qual) ∧ V.cell? ⟨w3.heap.size, 3, none⟩ = some (.int .u64 k2.time)) (by kernel_rfl) ⟨k0, k1, k2', k3⟩ (fun zH0 => ?_)
      refine hr_take_w 0 (some 21) (.map (some w.heap.size)) rfl rfl (by kernel_rfl) (by kernel_rfl) (by kernel_rfl) rfl (fun W hW => by obtain ⟨h0, h1, h2, h3⟩ := hW; go_simp) zH0 ?_
      simp only [Act.put, List.setIfInBounds_toArray, List.set_cons_zero, List.set_cons_succ]
      refine hr_take_w 1 (some 22) (.agg #[.string k2.row, .string k2.fam, .string k2.qual, .int .u64 k2.time]) rfl rfl (by kernel_rfl) (by kernel_rfl) (by kernel_rfl) rfl (fun W hW => by obtain ⟨h0, h1, h2, h3⟩ := hW; go_simp) zH0 ?_
      simp only [Act.put, List.setIfInBounds_toArray, List.set_cons_zero, List.set_cons_succ]
      refine hr_two (i := 2) (j := 4) (by kernel_rfl) ?_ ?_
      · refine op_do 2 (some 23) (.int .i64 cn) rfl rfl rfl (w' := W4.drew) (by go_simp) zH0 ?_
        simp only [Act.put, List.setIfInBounds_toArray, List.set_cons_zero, List.set_cons_succ]
        refine hr_take_w 3 (some 24) (.int .i64 ((cn : Int) + 1)) rfl rfl (by kernel_rfl) (by kernel_rfl) (by kernel_rfl) rfl (fun W hW => by obtain ⟨h0, h1, h2, h3⟩ := hW; go_simp) zH0 ?_
        simp only [Act.put, List.setIfInBounds_toArray, List.set_cons_zero, List.set_cons_succ]
        refine hr_do 4 (some 25) (.tuple #[.int .i64 cn, goInt st]) rfl rfl (by kernel_rfl) rfl (w' := w1) (by go_simp) H1 ?_
        simp only [Act.put, List.setIfInBounds_toArray, List.set_cons_zero, List.set_cons_succ]
        refine hr_take_w 5 (some 26) (goInt st) rfl rfl (by kernel_rfl) (by kernel_rfl) (by kernel_rfl) rfl (fun W hW => by obtain ⟨h0, h1, h2, h3⟩ := hW; go_simp) H1 ?_
        simp only [Act.put, List.setIfInBounds_toArray, List.set_cons_zero, List.set_cons_succ]
        refine hr_skip 6 none rfl rfl (by kernel_rfl) rfl (w' := w2) (by go_simp) H2 ?_
        simp only [Act.put]
        refine wpAnyH_done (by kernel_rfl) ?_ _
        refine NoPanic.normal ?_
        go_wp2
        go_roundw
        case rel => exact ⟨j + 1, n', F', by omega, by go_num, by rw [HMX.out]; congr 1; rw [Nat.max_def]; split <;> split <;> omega, M6, by omega, HC2, B6⟩
        case measure => simp [intOf]; omega
      · refine op_do 4 (some 25) (.tuple #[.int .i64 cn, goInt st]) rfl rfl rfl (w' := w1) (by go_simp) H1 ?_
        simp only [Act.put, List.setIfInBounds_toArray, List.set_cons_zero, List.set_cons_succ]
        refine hr_take_w 5 (some 26) (goInt st) rfl rfl (by kernel_rfl) (by kernel_rfl) (by kernel_rfl) rfl (fun W hW => by obtain ⟨h0, h1, h2, h3⟩ := hW; go_simp) H1 ?_
        simp only [Act.put, List.setIfInBounds_toArray, List.set_cons_zero, List.set_cons_succ]
        refine hr_do 2 (some 23) (.int .i64 cn) rfl rfl (by kernel_rfl) rfl (w' := w1) (by go_simp) H1 ?_
        simp only [Act.put, List.setIfInBounds_toArray, List.set_cons_zero, List.set_cons_succ]
        refine hr_take_w 3 (some 24) (.int .i64 ((cn : Int) + 1)) rfl rfl (by kernel_rfl) (by kernel_rfl) (by kernel_rfl) rfl (fun W hW => by obtain ⟨h0, h1, h2, h3⟩ := hW; go_simp) H1 ?_
        simp only [Act.put, List.setIfInBounds_toArray, List.set_cons_zero, List.set_cons_succ]
        refine hr_skip 6 none rfl rfl (by kernel_rfl) rfl (w' := w2) (by go_simp) H2 ?_
        simp only [Act.put]
        refine wpAnyH_done (by kernel_rfl) ?_ _
        refine NoPanic.normal ?_
        go_wp2
        go_roundw
        case rel => exact ⟨j + 1, n', F', by omega, by go_num, by rw [HMX.out]; congr 1; rw [Nat.max_def]; split <;> split <;> omega, M6, by omega, HC2, B6⟩
        case measure => simp [intOf]; omega
    · have hge : ¬ (j : Int) < (n : Int) := by omega
      have HT : Hid (ks.take j = ks) := List.take_of_length_le (by rw [HKS.out, List.length_map]; omega)
      rw [HT.out]
      go_wp2
      go_ret
      exact ⟨rfl, B⟩
end Go.Proofs.YthlpccajnmkbjaaGreatDoor

namespace Go.Proofs.YthlpccajnmkbjaaGreatDoor
open Go.RowKit

def wrongV (c : CV) : Bool := decide (256 < c.value.length) || (c.gone && decide (0 < c.value.length))
def notR (c : CV) : Bool := !(c.ky.isRight)
def KA.colK (k : KA) : KA := ⟨k.row, k.fam, k.qual, 0⟩
/-- The first question that is not answered well. -/
def judgeK (f t : ByteArray) (cs : List CV) : Int :=
  if cs.any notR then 5
  else if cs.any (fun c => !(inRows f t c.row)) then 8
  else if cs.any wrongV || decide (1 < mostK (cs.map CV.ky)) then 1
  else if 4 < mostK (cs.map fun c => c.ky.colK) then 4
  else if 32 < cs.length then 9
  else 0

set_option maxHeartbeats 1000000 in
theorem j2_tells (w : World) : Tells w 101 #[] notR := fun W c hb _ => by
  show Calls Tryz.prog 101 #[.agg #[.string c.row, .string c.fam, .string c.qual, .int .u64 c.time, .slice c.va.ao c.va.n c.va.cap, .bool c.gone]] W _
  obtain ⟨W1, hW1⟩ : ∃ V, V = W.alloc (.cells #[.string c.row, .string c.fam, .string c.qual, .int .u64 c.time, .slice c.va.ao c.va.n c.va.cap, .bool c.gone] 69) := ⟨_, rfl⟩
  have C1 : Below W.heap.size W W1 := by rw [hW1]; exact (Below.refl _ _).alloc (Nat.le_refl _) _
  have CP := pright_any W1 c.key
  unfold KA.val CA.key at CP
  have HV : Hid (∀ b, KA.isRight ⟨c.row, c.fam, c.qual, c.time⟩ = b → notR c.c = !b) := fun b hb => by
    show (!(KA.isRight ⟨c.row, c.fam, c.qual, c.time⟩)) = !b
    rw [hb]
  cases hr : KA.isRight ⟨c.row, c.fam, c.qual, c.time⟩ with
  | true =>
    rw [show KA.kind ⟨c.row, c.fam, c.qual, c.time⟩ = 0 from if_pos hr] at CP
    have HW := HV.out _ hr
    have HW2 : Hid (notR c.c = false) := HW
    clear HV HW
    go_enter Tryz.func101, Tryz.ntmps101
    go_wp2_with fail
    rw [← hW1]
    refine CP.mono ?_
    rintro e w2 ⟨rfl, C2⟩
    go_wp2
    go_ret
    exact ⟨by rw [HW2.out] <;> rfl, C1.trans (C2.mono C1.size)⟩
  | false =>
    rw [show KA.kind ⟨c.row, c.fam, c.qual, c.time⟩ = 5 from if_neg (by rw [hr]; simp)] at CP
    have HW := HV.out _ hr
    have HW2 : Hid (notR c.c = true) := HW
    clear HV HW
    go_enter Tryz.func101, Tryz.ntmps101
    go_wp2_with fail
    rw [← hW1]
    refine CP.mono ?_
    rintro e w2 ⟨rfl, C2⟩
    go_wp2
    go_ret
    exact ⟨by rw [HW2.out] <;> rfl, C1.trans (C2.mono C1.size)⟩

set_option maxHeartbeats 1000000 in
theorem j3_tells (w : World) (p tb : Nat) (f t : ByteArray) (u : Option Addr) (hC : TbC w p f t u) (hB : Arr w tb 25 [.pointer (some ⟨p, 0, none⟩)]) : Tells w 103 #[.pointer (some ⟨tb, 0, none⟩)] (fun c => !(inRows f t c.row)) := fun W c hb _ => by
  show Calls Tryz.prog 103 #[.agg #[.string c.row, .string c.fam, .string c.qual, .int .u64 c.time, .slice c.va.ao c.va.n c.va.cap, .bool c.gone], .pointer (some ⟨tb, 0, none⟩)] W _
  obtain ⟨W1, hW1⟩ : ∃ V, V = W.alloc (.cells #[.string c.row, .string c.fam, .string c.qual, .int .u64 c.time, .slice c.va.ao c.va.n c.va.cap, .bool c.gone] 69) := ⟨_, rfl⟩
  have C1 : Below W.heap.size W W1 := by rw [hW1]; exact (Below.refl _ _).alloc (Nat.le_refl _) _
  have A1 := arr_below hB hb
  have q0 : W.cell? ⟨tb, 0, none⟩ = some (.pointer (some ⟨p, 0, none⟩)) := Arr.cell A1 0
  have lt := A1.lt
  have CP := hasRow_any W1 p f t c.row u (arr_below (arr_below hC hb) C1)
  clear A1
  go_enter Tryz.func103, Tryz.ntmps103
  go_wp2_with fail
  rw [← hW1]
  refine CP.mono ?_
  rintro e w2 ⟨rfl, hw⟩
  obtain rfl := hw.symm
  go_wp2
  go_ret
  exact ⟨rfl, by rw [← hW1]; exact C1⟩

set_option maxHeartbeats 2000000 in
theorem hw_tells (w : World) : Tells w 104 #[] wrongV := fun W c hb hok => by
  show Calls Tryz.prog 104 #[.agg #[.string c.row, .string c.fam, .string c.qual, .int .u64 c.time, .slice c.va.ao c.va.n c.va.cap, .bool c.gone]] W _
  have C1 : Below W.heap.size W (W.alloc (.cells #[.string c.row, .string c.fam, .string c.qual, .int .u64 c.time, .slice c.va.ao c.va.n c.va.cap, .bool c.gone] 69)) := (Below.refl _ _).alloc (Nat.le_refl _) _
  have hl := hok.va.len
  have hv : Hid (wrongV c.c = (decide (256 < c.va.n) || (c.gone && decide (0 < c.va.n)))) := by
    show (decide (256 < c.va.xs.length) || (c.gone && decide (0 < c.va.xs.length))) = _
    rw [hl]
  clear hl hok
  by_cases h1 : 256 < c.va.n
  · have i1 : (256 : Int) < (c.va.n : Int) := by omega
    have hw : Hid (wrongV c.c = true) := by
      show _ = _
      rw [hv.out, decide_eq_true h1, Bool.true_or]
    clear hv h1
    go_enter Tryz.func104, Tryz.ntmps104
    go_wp2
    go_ret
    exact ⟨by rw [hw.out] <;> rfl, C1⟩
  · have i1 : ¬ (256 : Int) < (c.va.n : Int) := by omega
    cases hg : c.gone with
    | false =>
      have hw : Hid (wrongV c.c = false) := by
        show _ = _
        rw [hv.out, decide_eq_false h1, hg, Bool.false_or, Bool.false_and]
      clear hv h1
      go_enter Tryz.func104, Tryz.ntmps104
      go_wp2
      go_ret
      exact ⟨by rw [hw.out] <;> rfl, by rw [← hg]; exact C1⟩
    | true =>
      by_cases h2 : 0 < c.va.n
      · have i2 : (0 : Int) < (c.va.n : Int) := by omega
        have hw : Hid (wrongV c.c = true) := by
          show _ = _
          rw [hv.out, hg, decide_eq_true h2, Bool.true_and, Bool.or_true]
        clear hv h1
        go_enter Tryz.func104, Tryz.ntmps104
        go_wp2
        go_ret
        exact ⟨by rw [hw.out] <;> rfl, by rw [← hg]; exact C1⟩
      · have i2 : ¬ (0 : Int) < (c.va.n : Int) := by omega
        have hw : Hid (wrongV c.c = false) := by
          show _ = _
          rw [hv.out, hg, decide_eq_false h1, decide_eq_false h2]
          rfl
        clear hv h1
        go_enter Tryz.func104, Tryz.ntmps104
        go_wp2
        go_ret
        exact ⟨by rw [hw.out] <;> rfl, by rw [← hg]; exact C1⟩

set_option maxHeartbeats 1000000 in
theorem whole_any (V : World) (k : KA) : Calls Tryz.prog 106 #[k.val] V fun e w' => e = .returned k.val ∧ Below V.heap.size V w' := by
  unfold KA.val
  have B : Below V.heap.size V ((V.alloc (.cells #[.string k.row, .string k.fam, .string k.qual, .int .u64 k.time] 39)).alloc (.cells #[.string k.row, .string k.fam, .string k.qual, .int .u64 k.time] 39)) := ((Below.refl _ _).alloc (Nat.le_refl _) _).alloc (by simp) _
  go_enter Tryz.func106, Tryz.ntmps106
  go_wp2
  exact bodyPost_ret (v := .agg #[.string k.row, .string k.fam, .string k.qual, .int .u64 k.time]) (by simp [results, Tryz.results106, go_sem]) rfl ⟨rfl, B⟩
set_option maxHeartbeats 1000000 in
theorem column_of (V : World) (k : KA) : Calls Tryz.prog 107 #[k.val] V fun e w' => e = .returned k.colK.val ∧ Below V.heap.size V w' := by
  unfold KA.val KA.colK
  have B : Below V.heap.size V ((V.alloc (.cells #[.string k.row, .string k.fam, .string k.qual, .int .u64 0] 39)).alloc (.cells #[.string k.row, .string k.fam, .string k.qual, .int .u64 0] 39)) := ((Below.refl _ _).alloc (Nat.le_refl _) _).alloc (by simp) _
  go_enter Tryz.func107, Tryz.ntmps107
  go_wp2
  exact bodyPost_ret (v := .agg #[.string k.row, .string k.fam, .string k.qual, .int .u64 0]) (by simp [results, Tryz.results107, go_sem]) rfl ⟨rfl, B⟩
set_option maxHeartbeats 1000000 in
theorem some_any (V : World) (bb g : Nat) (lb : Array Value) (pr : CV → Bool) (ao : Option Addr) (n cap : Nat) (l : List CA) (eg : ∀ args w, (callFunc g args).run Tryz.prog w = .ok (.enter g args) w) (hA : Arr V bb 30 [.slice ao n cap]) (h : CL V ao n cap l) (hn : n ≤ 1000) (hand : Tells V g lb pr) (b : Bool) (hb : Hid (b = (l.map CA.c).any pr)) :
    Calls Tryz.prog 99 #[.func (.func g) #[] lb, .pointer (some ⟨bb, 0, none⟩)] V fun e w' => e = .returned (.bool b) ∧ Below V.heap.size V w' := by
  have q0 : V.cell? ⟨bb, 0, none⟩ = some (.slice ao n cap) := hA.cell 0
  have CC := contains_any V ao n cap l g lb pr eg h hn hand b hb
  clear h hand hA hb
  go_enter Tryz.func99, Tryz.ntmps99
  go_wp2_with fail
  refine CC.mono ?_
  rintro e w2 ⟨rfl, C2⟩
  go_wp2
  go_ret
  exact ⟨rfl, C2⟩

set_option maxHeartbeats 4000000 in
set_option maxRecDepth 100000 in
theorem judge_any10 (w : World) (p : Nat) (f t : ByteArray) (u : Option Addr) (ao : Option Addr) (n cap : Nat) (l : List CA) (hC : TbC w p f t u) (L : CL w ao n cap l) (hn : n ≤ 1000) :
    Calls Tryz.prog 59 #[.pointer (some ⟨p, 0, none⟩), .slice ao n cap] w fun e w' => e = .returned (.int .i64 (judgeK f t (l.map CA.c))) ∧ Below w.heap.size w w' := by
  have hl := L.len
  obtain ⟨W1, hW1⟩ : ∃ V, V = w.alloc (.cells #[.pointer (some ⟨p, 0, none⟩)] 25) := ⟨_, rfl⟩
  obtain ⟨W2, hW2⟩ : ∃ V, V = W1.alloc (.cells #[.slice ao n cap] 30) := ⟨_, rfl⟩
  have C1 : Below w.heap.size w W1 := by rw [hW1]; exact (Below.refl _ _).alloc (Nat.le_refl _) _
  have C2 : Below W1.heap.size W1 W2 := by rw [hW2]; exact (Below.refl _ _).alloc (Nat.le_refl _) _
  have s1 : W1.heap.size = w.heap.size + 1 := by rw [hW1]; exact Array.size_push ..
  have B2 := C1.trans (C2.mono C1.size)
  have T1 : Arr W1 w.heap.size 25 [.pointer (some ⟨p, 0, none⟩)] := by rw [hW1]; exact heap_alloc_new w _
  have T2 := arr_below T1 C2
  have L2 : Arr W2 (w.heap.size + 1) 30 [.slice ao n cap] := by rw [hW2, ← s1]; exact heap_alloc_new W1 _
  obtain ⟨cs, hcs⟩ : ∃ cs, cs = l.map CA.c := ⟨_, rfl⟩
  have HCS : Hid (cs = l.map CA.c) := hcs
  have hcl : cs.length = n := by rw [hcs, List.length_map, hl]
  obtain ⟨b1, hb1⟩ : ∃ b, b = cs.any notR := ⟨_, rfl⟩
  obtain ⟨b2, hb2⟩ : ∃ b, b = cs.any (fun c => !(inRows f t c.row)) := ⟨_, rfl⟩
  obtain ⟨b3, hb3⟩ : ∃ b, b = cs.any wrongV := ⟨_, rfl⟩
  obtain ⟨m1, hm1⟩ : ∃ m, m = mostK (cs.map CV.ky) := ⟨_, rfl⟩
  obtain ⟨m2, hm2⟩ : ∃ m, m = mostK (cs.map fun c => c.ky.colK) := ⟨_, rfl⟩
  have HJ : Hid (judgeK f t (l.map CA.c) = if b1 then 5 else if b2 then 8 else if b3 || decide (1 < m1) then 1 else if 4 < m2 then 4 else if 32 < n then 9 else 0) := by
    show _ = _
    rw [← hcs]
    unfold judgeK
    rw [← hb1, ← hb2, ← hb3, ← hm1, ← hm2, hcl]
  have A1 := some_any W2 (w.heap.size + 1) 101 #[] notR ao n cap l (enters_of Tryz.func101 (by kernel_rfl) rfl) L2 (L.below B2) hn (j2_tells W2) b1 (by show _ = _; rw [hb1, hcs])
  have A2 : Hid (∀ V, Below W2.heap.size W2 V → Calls Tryz.prog 99 #[.func (.func 103) #[] #[.pointer (some ⟨w.heap.size, 0, none⟩)], .pointer (some ⟨w.heap.size + 1, 0, none⟩)] V fun e w' => e = .returned (.bool b2) ∧ Below V.heap.size V w') := fun V hV =>
    some_any V (w.heap.size + 1) 103 #[.pointer (some ⟨w.heap.size, 0, none⟩)] _ ao n cap l (enters_of Tryz.func103 (by kernel_rfl) rfl) (arr_below L2 hV) ((L.below B2).below hV) hn (j3_tells V p w.heap.size f t u (arr_below (arr_below hC B2) hV) (arr_below T2 hV)) b2 (by show _ = _; rw [hb2, hcs])
  have A3 : Hid (∀ V, Below W2.heap.size W2 V → Calls Tryz.prog 99 #[.func (.func 104) #[] #[], .pointer (some ⟨w.heap.size + 1, 0, none⟩)] V fun e w' => e = .returned (.bool b3) ∧ Below V.heap.size V w') := fun V hV =>
    some_any V (w.heap.size + 1) 104 #[] wrongV ao n cap l (enters_of Tryz.func104 (by kernel_rfl) rfl) (arr_below L2 hV) ((L.below B2).below hV) hn (hw_tells V) b3 (by show _ = _; rw [hb3, hcs])
  have A4 : Hid (∀ V, Below W2.heap.size W2 V → Calls Tryz.prog 105 #[.slice ao n cap, .func (.func 106) #[] #[]] V fun e w' => e = .returned (.int .i64 m1) ∧ Below V.heap.size V w') := fun V hV => by
    have := most_any V ao n cap l 106 (fun k => k) (enters_of Tryz.func106 (by kernel_rfl) rfl) ((L.below B2).below hV) hn whole_any (fun _ h => h)
    rw [show (l.map fun c => c.key) = cs.map CV.ky from by rw [hcs, List.map_map]; rfl, ← hm1] at this
    exact this
  have A5 : Hid (∀ V, Below W2.heap.size W2 V → Calls Tryz.prog 105 #[.slice ao n cap, .func (.func 107) #[] #[]] V fun e w' => e = .returned (.int .i64 m2) ∧ Below V.heap.size V w') := fun V hV => by
    have := most_any V ao n cap l 107 KA.colK (enters_of Tryz.func107 (by kernel_rfl) rfl) ((L.below B2).below hV) hn column_of (fun k h => ⟨h.row, h.fam, h.qual, show 0 < 18446744073709551616 by decide⟩)
    rw [show (l.map fun c => c.key.colK) = cs.map (fun c => c.ky.colK) from by rw [hcs, List.map_map]; rfl, ← hm2] at this
    exact this
  have e1 := fun (V : World) (args : Array Value) => enters_of (P := Tryz.prog) Tryz.func99 (by kernel_rfl) rfl args V
  have HL2 : Hid (Arr W2 (w.heap.size + 1) 30 [.slice ao n cap]) := L2
  rw [HJ.out]
  clear hcs hb1 hb2 hb3 hm1 hm2 hcl hl HJ T1 T2 L2 L hC HCS
  go_enter Tryz.func59, Tryz.ntmps59
  go_wp2_with fail
  rw [← hW1, ← hW2]
  clear hW1 hW2
  refine A1.mono ?_
  rintro e w3 ⟨rfl, C3⟩
  have B3 := B2.trans (C3.mono B2.size)
  clear A1
  cases b1 with
  | true =>
    go_wp2
    go_ret
    exact ⟨rfl, B3⟩
  | false =>
    have A2 := A2.out w3 C3
    go_wp2_with fail
    refine A2.mono ?_
    rintro e w4 ⟨rfl, C4⟩
    have E4 := C3.trans (C4.mono C3.size)
    have B4 := B2.trans (E4.mono B2.size)
    clear A2
    cases b2 with
    | true =>
      go_wp2
      go_ret
      exact ⟨rfl, B4⟩
    | false =>
      have A3 := A3.out w4 E4
      go_wp2_with fail
      refine A3.mono ?_
      rintro e w5 ⟨rfl, C5⟩
      have E5 := E4.trans (C5.mono E4.size)
      have B5 := B2.trans (E5.mono B2.size)
      clear A3
      cases b3 with
      | true =>
        go_wp2
        go_ret
        exact ⟨rfl, B5⟩
      | false =>
        have A4 := A4.out w5 E5
        have q5 : w5.cell? ⟨w.heap.size + 1, 0, none⟩ = some (.slice ao n cap) := (arr_below HL2.out E5).cell 0
        go_wp2_with fail
        refine A4.mono ?_
        rintro e w6 ⟨rfl, C6⟩
        have E6 := E5.trans (C6.mono E5.size)
        have B6 := B2.trans (E6.mono B2.size)
        clear A4 q5
        by_cases d1 : 1 < m1
        · have i1 : (1 : Int) < (m1 : Int) := by omega
          go_wp2
          go_ret
          exact ⟨by simp, B6⟩
        have i1 : ¬ (1 : Int) < (m1 : Int) := by omega
        have A5 := A5.out w6 E6
        have q6 : w6.cell? ⟨w.heap.size + 1, 0, none⟩ = some (.slice ao n cap) := (arr_below HL2.out E6).cell 0
        go_wp2_with fail
        refine A5.mono ?_
        rintro e w7 ⟨rfl, C7⟩
        have E7 := E6.trans (C7.mono E6.size)
        have B7 := B2.trans (E7.mono B2.size)
        have q7 : w7.cell? ⟨w.heap.size + 1, 0, none⟩ = some (.slice ao n cap) := (arr_below HL2.out E7).cell 0
        clear A5 q6
        by_cases d2 : 4 < m2
        · have i2 : (4 : Int) < (m2 : Int) := by omega
          go_wp2
          go_ret
          exact ⟨by simp, B7⟩
        have i2 : ¬ (4 : Int) < (m2 : Int) := by omega
        by_cases d3 : 32 < n
        · have i3 : (32 : Int) < (n : Int) := by omega
          go_wp2
          go_ret
          exact ⟨by simp, B7⟩
        have i3 : ¬ (32 : Int) < (n : Int) := by omega
        go_wp2
        go_ret
        exact ⟨by simp, B7⟩
end Go.Proofs.YthlpccajnmkbjaaGreatDoor

namespace Go.Proofs.YthlpccajnmkbjaaGreatDoor
open Go.RowKit

/-- Cells laid one behind the other. -/
def layAll (ds : List CV) : List CV → List CV
  | [] => ds
  | c :: cs => layAll (cIns ds c) cs
theorem layAll_snoc (cs : List CV) (ds : List CV) (c : CV) : layAll ds (cs ++ [c]) = cIns (layAll ds cs) c := by
  induction cs generalizing ds with
  | nil => rfl
  | cons x cs ih => exact ih _
theorem Stand.layAll {f t : ByteArray} : ∀ (cs : List CV) {n : Nat} {ds : List CV}, Stand f t n ds → (∀ c ∈ cs, c.good ∧ inRows f t c.row = true) → Stand f t (n + cs.length) (layAll ds cs)
  | [], _, _, h, _ => h
  | c :: cs, n, _, h, hc => by
    obtain ⟨h1, h2⟩ := hc c (List.mem_cons_self ..)
    have := Stand.layAll cs (h.lay h1 h2) (fun x hx => hc x (List.mem_cons_of_mem _ hx))
    rw [List.length_cons]
    exact this.mono (by omega)
/-- What stands against cells of some bounds. -/
def ofK (f t : ByteArray) (cs : List CV) : Int := if newK f t = 0 then judgeK f t cs else 1
theorem judgeK_ok {f t : ByteArray} {cs : List CV} (h : judgeK f t cs = 0) : (∀ c ∈ cs, notR c = false ∧ inRows f t c.row = true ∧ wrongV c = false) ∧ mostK (cs.map CV.ky) ≤ 1 ∧ mostK (cs.map fun c => c.ky.colK) ≤ 4 ∧ cs.length ≤ 32 := by
  unfold judgeK at h
  split at h
  · simp at h
  rename_i h1
  split at h
  · simp at h
  rename_i h2
  split at h
  · simp at h
  rename_i h3
  split at h
  · simp at h
  rename_i h4
  split at h
  · simp at h
  rename_i h5
  rw [Bool.or_eq_true, not_or] at h3
  obtain ⟨h3, h6⟩ := h3
  have h6 : ¬ 1 < mostK (cs.map CV.ky) := fun e => h6 (decide_eq_true e)
  refine ⟨fun c hc => ⟨?_, ?_, ?_⟩, by omega, by omega, by omega⟩
  · cases e : notR c with
    | false => rfl
    | true => exact absurd (List.any_eq_true.2 ⟨c, hc, e⟩) h1
  · cases e : inRows f t c.row with
    | true => rfl
    | false => exact absurd (List.any_eq_true.2 ⟨c, hc, by rw [e]; rfl⟩) h2
  · cases e : wrongV c with
    | false => rfl
    | true => exact absurd (List.any_eq_true.2 ⟨c, hc, e⟩) h3
theorem good_of {c : CV} (h1 : notR c = false) (h2 : wrongV c = false) (ht : c.time < 18446744073709551616) (hb : Byt c.value) : c.good := by
  unfold notR at h1
  have h1 : c.ky.isRight = true := by simpa using h1
  have h1 := of_decide_eq_true h1
  unfold wrongV at h2
  obtain ⟨h3, h4⟩ := Bool.or_eq_false_iff.1 h2
  have h3 := of_decide_eq_false h3
  refine ⟨?_, ht, by omega, hb, fun hg => ?_⟩
  · show 1 ≤ (sb c.row).length ∧ (sb c.row).length ≤ 32 ∧ 1 ≤ (sb c.fam).length ∧ (sb c.fam).length ≤ 32 ∧ (sb c.qual).length ≤ 32
    rw [sb_len, sb_len, sb_len]
    exact h1
  · rw [hg, Bool.true_and] at h4
    have := of_decide_eq_false h4
    exact List.eq_nil_of_length_eq_zero (by omega)
/-- What Of answers. -/
def OfPost (w : World) (f t : ByteArray) (cs : List CV) (e : Ending) (w' : World) : Prop :=
  (ofK f t cs = 0 ∧ ∃ p, w.heap.size ≤ p ∧ e = .returned (.tuple #[.pointer (some ⟨p, 0, none⟩), .int .i64 0]) ∧ TB w' p f t (layAll [] cs) ∧ Below w.heap.size w w') ∨ (ofK f t cs ≠ 0 ∧ e = .returned (.tuple #[.pointer none, .int .i64 (ofK f t cs)]) ∧ Below w.heap.size w w')

set_option maxHeartbeats 4000000 in
set_option maxRecDepth 100000 in
theorem of_any10 (w : World) (f t : ByteArray) (ao : Option Addr) (n cap : Nat) (l : List CA) (hTb : Tabs w) (hf : f.size ≤ 1000000) (ht : t.size ≤ 1000000) (L : CL w ao n cap l) (hn : n ≤ 800) :
    Calls Tryz.prog 28 #[.string f, .string t, .slice ao n cap] w (OfPost w f t (l.map CA.c)) := by
  have t2 := hTb.two
  have HTb : Hid (Tabs w) := hTb
  have hl1 := Nat.le_of_eq L.len
  have hl2 := Nat.le_of_eq L.len.symm
  have CN := tnew_any w f t hf ht
  obtain ⟨cs, hcs⟩ : ∃ cs, cs = l.map CA.c := ⟨_, rfl⟩
  have HCS : Hid (cs = l.map CA.c) := hcs
  rw [← hcs]
  clear hTb hcs
  go_enter Tryz.func28, Tryz.ntmps28
  go_wp2_with fail
  refine CN.mono ?_
  rintro e w1 (⟨hk0, rfl, X1, C1⟩ | ⟨hk1, rfl, hw⟩)
  case inr =>
    obtain rfl := hw.symm
    clear CN
    have hz : ofK f t cs = 1 := by unfold ofK; rw [hk1]; rfl
    go_wp2
    go_ret2
    exact .inr ⟨by rw [hz]; decide, by rw [hz] <;> rfl, Below.refl _ _⟩
  clear CN
  have hof : ofK f t cs = judgeK f t cs := by unfold ofK; rw [if_pos hk0]
  obtain ⟨u, A1, T1⟩ := X1
  have X1 : TB w1 w.heap.size f t [] := ⟨u, A1, T1⟩
  have CJ := judge_any10 w1 w.heap.size f t u ao n cap l A1 (L.below C1) (by omega)
  rw [← HCS.out] at CJ
  obtain ⟨jk, hjk⟩ : ∃ k, k = judgeK f t cs := ⟨_, rfl⟩
  rw [← hjk] at CJ hof
  have HJK : Hid (jk = judgeK f t cs) := hjk
  have HOF : Hid (ofK f t cs = jk) := hof
  clear hof hjk A1 T1
  go_wp2_with fail
  refine CJ.mono ?_
  rintro e w2 ⟨rfl, C2⟩
  have B2 := C1.trans (C2.mono C1.size)
  have X2 := X1.below C2
  clear CJ X1
  by_cases hj : jk = 0
  case neg =>
    have z0 : (jk != 0) = true := by simp [hj]
    go_wp2
    go_ret2
    exact .inr ⟨by rw [HOF.out]; exact hj, by rw [HOF.out] <;> rfl, B2⟩
  have z0 : (jk != 0) = false := by simp [hj]
  obtain ⟨hall, -, -, hlen⟩ := judgeK_ok (HJK.out.symm.trans hj)
  have HG : Hid (∀ c ∈ cs, c.good ∧ inRows f t c.row = true) := fun c hc => by
    obtain ⟨a1, a2, a3⟩ := hall c hc
    have hc' : c ∈ l.map CA.c := by rw [← HCS.out]; exact hc
    obtain ⟨x, hx, rfl⟩ := List.mem_map.1 hc'
    have hok := L.ok x hx
    exact ⟨good_of a1 a3 hok.time hok.va.byte, a2⟩
  have HZ : Hid (ofK f t cs = 0) := HOF.out.trans hj
  clear hall HOF HJK hj hk0
  go_wp2
  go_loopw [30] (fun i wr => ∃ j : Nat, j ≤ n ∧ i = .int .i64 j ∧ TB wr w.heap.size f t (layAll [] (cs.take j)) ∧ Below w.heap.size w wr) (fun i _ => n - (intOf i).toNat)
  case atStart => exact ⟨0, Nat.zero_le _, rfl, X2, B2⟩
  case round =>
    obtain ⟨j, hj, rfl, Xr, Br⟩ := hrel
    by_cases hlt : j < n
    · have hji : (j : Int) < (n : Int) := by omega
      have hjl : j < l.length := by omega
      obtain ⟨b, off, ea, hc⟩ := L.at (by omega)
      have X := (hc j hjl).below Br
      have hjc : j < cs.length := by rw [HCS.out, List.length_map]; exact hjl
      have hcj : cs[j] = l[j].c := by
        have := HCS.out
        subst this
        exact List.getElem_map ..
      have HT : Hid (layAll [] (cs.take (j + 1)) = cIns (layAll [] (cs.take j)) l[j].c) := by
        show _ = _
        rw [List.take_succ_eq_append_getElem hjc, layAll_snoc, hcj]
      have HS : Stand f t (cs.take j).length (layAll [] (cs.take j)) := by
        have := (Stand.nil f t).layAll (cs.take j) (fun c hc => HG.out c (List.mem_of_mem_take hc))
        rw [Nat.zero_add] at this
        exact this
      have hgd := (HG.out _ (List.getElem_mem hjc)).1
      rw [hcj] at hgd
      have hok := (L.ok _ (List.getElem_mem hjl)).below Br
      obtain ⟨W1, hW1⟩ : ∃ V, V = wr.alloc (.cells #[.string l[j].row, .string l[j].fam, .string l[j].qual, .int .u64 l[j].time, .slice l[j].va.ao l[j].va.n l[j].va.cap, .bool l[j].gone] 69) := ⟨_, rfl⟩
      have D1 : Below wr.heap.size wr W1 := by rw [hW1]; exact (Below.refl _ _).alloc (Nat.le_refl _) _
      have BW := Br.trans (D1.mono Br.size)
      have hvn : l[j].va.n ≤ 100000 := by
        have h1 := hok.va.len
        have h2 : l[j].va.xs.length ≤ 256 := hgd.val
        omega
      have CY := lay_any W1 w.heap.size f t (layAll [] (cs.take j)) l[j] (HTb.out.below BW t2) (Xr.below D1) HS.srt (by have := HS.len; rw [List.length_take] at this; omega) (hok.below D1) hgd hvn
      rw [← HT.out] at CY
      obtain ⟨c, hce⟩ : ∃ c, c = l[j] := ⟨_, rfl⟩
      rw [← hce] at X CY hW1
      obtain ⟨x0, x1, x2, x3, x4, x5⟩ := X
      subst ea
      unfold CA.val at CY
      clear hc hok hcj hce HS hgd HT hvn
      go_wp2_with fail
      rw [← hW1]
      clear hW1
      refine CY.mono ?_
      rintro e w5 ⟨rfl, X5, K5⟩
      have B5 := Wr.below BW K5 BW.size (Nat.le_refl _)
      clear CY x0 x1 x2 x3 x4 x5
      go_wp2
      go_roundw
      case rel => exact ⟨j + 1, by omega, by go_num, X5, B5⟩
      case measure => simp [intOf]; omega
    · have hge : ¬ (j : Int) < (n : Int) := by omega
      have HT : Hid (cs.take j = cs) := List.take_of_length_le (by rw [HCS.out, List.length_map]; omega)
      rw [HT.out] at Xr
      go_wp2
      go_ret2
      exact .inl ⟨HZ.out, w.heap.size, Nat.le_refl _, rfl, Xr, Br⟩
end Go.Proofs.YthlpccajnmkbjaaGreatDoor

namespace Go.Proofs.YthlpccajnmkbjaaGreatDoor
open Go.RowKit

theorem OW.parts3 {w : World} {x : OD 3} (h : OW w 3 x) : ∃ pl : List OA, OWL w 0 (topD 3 x).so (topD 3 x).sn (topD 3 x).sc pl := ⟨_, (OW.subs (d := 2) h).flat⟩
theorem apply_leaf {ds : List CV} {o : OA} {pl : List OA} (hl : leaf o.s o.sn = true) (hn : pl.length = o.sn) (k6 : o.kind ≠ 6) (k8 : o.kind ≠ 8) : mApply ⟨#[]⟩ ⟨#[]⟩ ds o pl = (keepM ds (mStep ds o), (mStep ds o).2) := by
  unfold mApply
  rw [right_not6 k6, List.length_map, hn, hl, if_neg (by simp)]
  unfold isOut
  rw [if_neg k8, inRows_all, if_neg (by simp)]
  unfold mDo
  rw [if_neg k6]
theorem apply_batch {cs : List CV} {o : OA} {pl : List OA} (hr : rightO o.s (pl.map sn0) = true) (hk : o.kind = 6) : mApply ⟨#[]⟩ ⟨#[]⟩ cs o pl = (if (mAll mStep pl cs).2 = 0 then (mAll mStep pl cs).1 else cs, ⟨(mAll mStep pl cs).2, [], false⟩) := by
  unfold mApply
  rw [hr, if_neg (by simp)]
  unfold isOut
  rw [if_neg (show ¬ o.kind = 8 by omega), inRows_all, if_neg (by simp)]
  unfold mDo keepM
  rw [if_pos hk]
theorem apply_wrong {cs : List CV} {o : OA} {pl : List OA} (hr : rightO o.s (pl.map sn0) = false) : mApply ⟨#[]⟩ ⟨#[]⟩ cs o pl = (cs, ⟨6, [], false⟩) := by
  unfold mApply
  rw [if_pos hr]
/-- A result in a block of its own stands while another block is written. -/
theorem RC.wr {V V' : World} {p q : Nat} {e : Int} {ao : Option Addr} {n cap : Nat} {m : Bool} (h : RC V p e ao n cap m) (k : Wr q V V') (hne : p ≠ q) : RC V' p e ao n cap m := (k.block p h.lt hne).trans h
theorem OC.wr {V V' : World} {p q : Nat} {o : OA} (h : OC V p o) (k : Wr q V V') (hne : p ≠ q) : OC V' p o := (k.block p h.lt hne).trans h
end Go.Proofs.YthlpccajnmkbjaaGreatDoor

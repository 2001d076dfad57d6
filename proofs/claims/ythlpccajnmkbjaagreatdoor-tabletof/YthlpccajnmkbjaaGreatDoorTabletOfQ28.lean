/-
  Texts in one: PtrMap, KCells, SlConst, PPut7.
-/
import Derived.Test.YthlpccajnmkbjaaGreatDoorTabletOfQFL
import Derived.LaidEql
import Derived.MapKept
import Derived.Laws.AppendOwn
import Derived.Test.YthlpccajnmkbjaaGreatDoorTabletOfQ4
import Derived.Test.YthlpccajnmkbjaaGreatDoorTabletOfQ6
import Derived.Test.YthlpccajnmkbjaaGreatDoorTabletOfQ0
import Derived.Lib.SlBytesConst
import Derived.Test.YthlpccajnmkbjaaGreatDoorTabletOfQ2
import Derived.Test.YthlpccajnmkbjaaGreatDoorTabletOfQ3
namespace Go.Proofs.YthlpccajnmkbjaaGreatDoor
def entryIs (e : MapEntry) (p : Nat × Value) : Prop := e.key = .pointer (some ⟨p.1, 0, none⟩) ∧ e.val = p.2
def Ordi (w : World) (b : Nat) : Prop := ∃ (c : Array Value) (t : TypeId), w.heap[b]? = some (.cells c t (0, 0))
theorem Ordi.lt {w : World} {b : Nat} (h : Ordi w b) : b < w.heap.size := by
  obtain ⟨c, t, e⟩ := h
  exact (Array.getElem?_eq_some_iff.1 e).1
def PM (w : World) (m : Nat) (F : List (Nat × Value)) : Prop :=
  ∃ (es : Array MapEntry) (clock : Nat), w.heap[m]? = some (.map es clock) ∧ es.toList.length = F.length ∧ (∀ i (h : i < es.toList.length) (k : i < F.length), entryIs es.toList[i] F[i]) ∧ ∀ p ∈ F, Ordi w p.1
def findB (b : Nat) : List (Nat × Value) → Nat → Option (Nat × Value)
  | [], _ => none
  | p :: F, i => if p.1 = b then some (i, p.2) else findB b F (i + 1)
section
variable {P : Program} {w : World} {kt te : TypeId} {j : TypeInfo}
theorem run_ptr_same (hp : P.underlying kt = some (.pointer te)) (hte : P.info? te = some j) (b : Nat) : (Op.equal kt (.pointer (some ⟨b, 0, none⟩)) (.pointer (some ⟨b, 0, none⟩))).run P w = .ok true w := by
  have h : ∀ d : Nat, (Op.equalIn (d + 1) kt (.pointer (some ⟨b, 0, none⟩)) (.pointer (some ⟨b, 0, none⟩))).run P w = .ok true w := fun d => by simp [Op.equalIn, run_underlying hp, sizeOf, typeInfo, hte, run_sameAddr_same]
  simp only [Op.equal, Op.maxDepth]
  exact h 9999
theorem run_ptr_other (hp : P.underlying kt = some (.pointer te)) (hte : P.info? te = some j) (hsz : j.size ≠ 0) {b c : Nat} (hne : b ≠ c) (hb : Ordi w b) (hc : Ordi w c) : (Op.equal kt (.pointer (some ⟨b, 0, none⟩)) (.pointer (some ⟨c, 0, none⟩))).run P w = .ok false w := by
  obtain ⟨cb, tb, eb⟩ := hb
  obtain ⟨cc, tc, ec⟩ := hc
  have h : ∀ d : Nat, (Op.equalIn (d + 1) kt (.pointer (some ⟨b, 0, none⟩)) (.pointer (some ⟨c, 0, none⟩))).run P w = .ok false w := fun d => by simp [Op.equalIn, run_underlying hp, sizeOf, typeInfo, hte, hsz, run_sameAddr_other w (a := ⟨b, 0, none⟩) (b := ⟨c, 0, none⟩) (fun e => hne (congrArg Addr.block e)) eb ec]
  simp only [Op.equal, Op.maxDepth]
  exact h 9999
theorem run_findAsking (hp : P.underlying kt = some (.pointer te)) (hte : P.info? te = some j) (hsz : j.size ≠ 0) (b : Nat) (hb : Ordi w b) : ∀ (es : List MapEntry) (F : List (Nat × Value)) (i : Nat), es.length = F.length → (∀ i (h : i < es.length) (k : i < F.length), entryIs es[i] F[i]) → (∀ p ∈ F, Ordi w p.1) →
    (Instr.findAsking kt (.pointer (some ⟨b, 0, none⟩)) es i).run P w = .ok (findB b F i) w
  | [], [], i, _, _, _ => by simp [Instr.findAsking, findB]
  | [], _ :: _, _, h, _, _ => by simp at h
  | _ :: _, [], _, h, _, _ => by simp at h
  | e :: es, p :: F, i, hl, he, ho => by
    obtain ⟨e1, e2⟩ := he 0 (by simp) (by simp)
    simp only [List.getElem_cons_zero] at e1 e2
    have ih := run_findAsking hp hte hsz b hb es F (i + 1) (by simpa using hl) (fun i h k => he (i + 1) (by simpa using h) (by simpa using k)) (fun q hq => ho q (List.mem_cons_of_mem _ hq))
    unfold Instr.findAsking findB
    rw [e1]
    by_cases c : p.1 = b
    · rw [if_pos c, c]
      simp [run_ptr_same hp hte, e2]
    · rw [if_neg c]
      simp [run_ptr_other hp hte hsz (fun h => c h.symm) hb (ho p (List.mem_cons_self ..)), ih]
theorem run_findKey (hp : P.underlying kt = some (.pointer te)) (hte : P.info? te = some j) (hsz : j.size ≠ 0) (b : Nat) (hb : Ordi w b) (es : List MapEntry) (F : List (Nat × Value)) (hl : es.length = F.length) (he : ∀ i (h : i < es.length) (k : i < F.length), entryIs es[i] F[i]) (ho : ∀ p ∈ F, Ordi w p.1) :
    (Instr.findKey kt (.pointer (some ⟨b, 0, none⟩)) es).run P w = .ok (findB b F 0) w := by
  have hA := run_findAsking hp hte hsz b hb es F 0 hl he ho
  unfold Instr.findKey
  cases es with
  | nil =>
    obtain rfl : F = [] := List.eq_nil_of_length_eq_zero (by simpa using hl.symm)
    simp [run_underlying hp, Instr.findNow, findB]
  | cons e es =>
    have hN : Instr.findNow (.pointer te) (.pointer (some ⟨b, 0, none⟩)) (e :: es) 0 = none := by
      unfold Instr.findNow Instr.sameNow
      rfl
    simp only [run_underlying hp, Sem.run_bind, Result.andThen_ok, hN, hA]
theorem run_checkPtr (hp : P.underlying kt = some (.pointer te)) (em : Bool) (b : Nat) : (Instr.checkKey em 10000 kt (.pointer (some ⟨b, 0, none⟩))).run P w = .ok () w := by
  rw [show (10000 : Nat) = 9999 + 1 from rfl]
  unfold Instr.checkKey
  simp [run_underlying hp]
theorem findB_at (b : Nat) : ∀ (F : List (Nat × Value)) (i : Nat), (findB b F i = none ∧ ∀ p ∈ F, p.1 ≠ b) ∨ ∃ (k : Nat) (v : Value) (h : k < F.length), findB b F i = some (i + k, v) ∧ F[k] = (b, v)
  | [], i => .inl ⟨rfl, fun _ h => by simp at h⟩
  | p :: F, i => by
    unfold findB
    by_cases c : p.1 = b
    · rw [if_pos c]
      exact .inr ⟨0, p.2, by simp, rfl, by simp [← c]⟩
    · rw [if_neg c]
      rcases findB_at b F (i + 1) with ⟨e, h⟩ | ⟨k, v, hk, e, h⟩
      · refine .inl ⟨e, fun q hq => ?_⟩
        rcases List.mem_cons.1 hq with rfl | hq
        · exact c
        · exact h q hq
      · exact .inr ⟨k + 1, v, by simpa using hk, by rw [e]; simp only [Option.some.injEq, Prod.mk.injEq, and_true]; omega, by simpa using h⟩
theorem PM.look {m : Nat} {F : List (Nat × Value)} (h : PM w m F) {t e : TypeId} {z : Value} (ht : P.underlying t = some (.map kt e)) (hp : P.underlying kt = some (.pointer te)) (hte : P.info? te = some j) (hsz : j.size ≠ 0) (hz : (zeroValue e).run P w = .ok z w) (b : Nat) (hb : Ordi w b) (ok : Bool) :
    (Instr.lookup t (.map (some m)) (.pointer (some ⟨b, 0, none⟩)) ok).run P w = .ok (if ok then .tuple #[((findB b F 0).map Prod.snd).getD z, .bool (findB b F 0).isSome] else ((findB b F 0).map Prod.snd).getD z) w := by
  obtain ⟨es, clock, h1, h2, h3, h4⟩ := h
  have hk := run_findKey hp hte hsz b hb es.toList F h2 h3 h4
  unfold Instr.lookup
  cases hf : findB b F 0 with
  | none =>
    rw [hf] at hk
    simp [run_underlying ht, MapKept.run_getObj_map h1, run_checkPtr hp, hk, hz]
  | some p =>
    rw [hf] at hk
    simp [run_underlying ht, MapKept.run_getObj_map h1, run_checkPtr hp, hk]
theorem PM.grown {m : Nat} {o : Obj} : w.grownBy { w with heap := w.heap.setIfInBounds m o } (some m) :=
  ⟨rfl, rfl, rfl, by simp, fun i hi hne => by
    have : m ≠ i := fun e => hne (by rw [e])
    simp [this]⟩
theorem Ordi.set {m b : Nat} {o : Obj} (h : Ordi w b) (hne : b ≠ m) : Ordi { w with heap := w.heap.setIfInBounds m o } b := by
  obtain ⟨c, t, e⟩ := h
  exact ⟨c, t, by simp [Ne.symm hne, e]⟩
theorem PM.ne {m b : Nat} {F : List (Nat × Value)} (h : PM w m F) (hb : Ordi w b) : b ≠ m := by
  obtain ⟨es, clock, h1, -⟩ := h
  obtain ⟨c, t, e⟩ := hb
  rintro rfl
  rw [e] at h1
  simp at h1
theorem PM.new {m : Nat} {F : List (Nat × Value)} (h : PM w m F) {t e : TypeId} (ht : P.underlying t = some (.map kt e)) (hp : P.underlying kt = some (.pointer te)) (hte : P.info? te = some j) (hsz : j.size ≠ 0) (b : Nat) (hb : Ordi w b) (v : Value) (hN : ∀ p ∈ F, p.1 ≠ b) :
    ∃ w', (Instr.mapUpdate t (.map (some m)) (.pointer (some ⟨b, 0, none⟩)) v).run P w = .ok () w' ∧ PM w' m (F ++ [(b, v)]) ∧ w.grownBy w' (some m) := by
  have hm := h
  obtain ⟨es, clock, h1, h2, h3, h4⟩ := h
  have hk := run_findKey hp hte hsz b hb es.toList F h2 h3 h4
  have hf : findB b F 0 = none := by
    rcases findB_at b F 0 with ⟨e, -⟩ | ⟨k, u, hk, -, hF⟩
    · exact e
    · exact absurd (by rw [hF]) (hN F[k] (List.getElem_mem hk))
  rw [hf] at hk
  refine ⟨{ w with heap := w.heap.setIfInBounds m (.map (es.push { key := .pointer (some ⟨b, 0, none⟩), val := v, born := clock }) (clock + 1)) }, ?_, ⟨es.push { key := .pointer (some ⟨b, 0, none⟩), val := v, born := clock }, clock + 1, ?_, ?_, ?_, ?_⟩, PM.grown⟩
  · unfold Instr.mapUpdate
    simp [run_underlying ht, MapKept.run_getObj_map h1, run_checkPtr hp, hk, MapKept.run_setObj_map _ h1]
  · have := (Array.getElem?_eq_some_iff.1 h1).1
    simp [this]
  · simp [h2]
  · intro i hi hj
    simp only [Array.toList_push] at hi ⊢
    by_cases c : i < F.length
    · have c' : i < es.toList.length := by omega
      rw [List.getElem_append_left c', List.getElem_append_left c]
      exact h3 i c' c
    · have e1 : i = F.length := by simp only [List.length_append, List.length_cons, List.length_nil] at hj; omega
      have e2 : i = es.toList.length := by omega
      subst e1
      rw [List.getElem_append_right (by omega), List.getElem_append_right (by omega)]
      simp only [Nat.sub_self, List.getElem_cons_zero]
      have e3 : F.length - es.toList.length = 0 := by omega
      simp only [e3, List.getElem_cons_zero]
      exact ⟨rfl, rfl⟩
  · intro p hp
    rcases List.mem_append.1 hp with hp | hp
    · exact (h4 p hp).set (hm.ne (h4 p hp))
    · rw [List.mem_singleton.1 hp]
      exact hb.set (hm.ne hb)
theorem PM.old {m : Nat} {F : List (Nat × Value)} (h : PM w m F) {t e : TypeId} (ht : P.underlying t = some (.map kt e)) (hp : P.underlying kt = some (.pointer te)) (hte : P.info? te = some j) (hsz : j.size ≠ 0) (b : Nat) (hb : Ordi w b) (v : Value) (k : Nat) (u : Value) (hf : findB b F 0 = some (k, u)) (hkl : k < F.length) (hkF : F[k].1 = b) :
    ∃ w', (Instr.mapUpdate t (.map (some m)) (.pointer (some ⟨b, 0, none⟩)) v).run P w = .ok () w' ∧ PM w' m (F.set k (b, v)) ∧ w.grownBy w' (some m) := by
  have hm := h
  obtain ⟨es, clock, h1, h2, h3, h4⟩ := h
  have hk := run_findKey hp hte hsz b hb es.toList F h2 h3 h4
  rw [hf] at hk
  have hke : k < es.toList.length := by omega
  have hkk : ((es[k]?).map (·.key)).getD (.pointer (some ⟨b, 0, none⟩)) = .pointer (some ⟨b, 0, none⟩) := by
    obtain ⟨e1, -⟩ := h3 k hke hkl
    have : es[k]? = some es.toList[k] := by simp
    rw [this]
    simp only [Option.map_some, Option.getD_some]
    rw [e1, hkF]
  refine ⟨{ w with heap := w.heap.setIfInBounds m (.map (es.modify k fun e => { e with key := .pointer (some ⟨b, 0, none⟩), val := v }) clock) }, ?_, ⟨es.modify k fun e => { e with key := .pointer (some ⟨b, 0, none⟩), val := v }, clock, ?_, ?_, ?_, ?_⟩, PM.grown⟩
  · unfold Instr.mapUpdate
    simp only [run_underlying ht, Sem.run_bind, Result.andThen_ok, MapKept.run_getObj_map h1, run_checkPtr hp, hk]
    rw [hkk]
    have hs : (Instr.keyThatStays (.pointer (some ⟨b, 0, none⟩)) (.pointer (some ⟨b, 0, none⟩))).run P w = .ok (.pointer (some ⟨b, 0, none⟩)) w := by
      unfold Instr.keyThatStays
      have : Instr.sameBits 10000 (.pointer (some ⟨b, 0, none⟩)) (.pointer (some ⟨b, 0, none⟩)) = true := by simp [Instr.sameBits]
      simp [this]
    rw [hs]
    simp only [Result.andThen_ok]
    exact MapKept.run_setObj_map _ h1
  · have := (Array.getElem?_eq_some_iff.1 h1).1
    simp [this]
  · simp [h2]
  · intro i hi hj
    have hi' : i < es.toList.length := by simpa using hi
    have hj' : i < F.length := by simpa using hj
    simp only [Array.toList_modify, List.getElem_modify, List.getElem_set]
    by_cases c : k = i
    · rw [if_pos c, if_pos c]
      exact ⟨rfl, rfl⟩
    · rw [if_neg c, if_neg c]
      exact h3 i hi' hj'
  · intro p hp
    rcases List.mem_or_eq_of_mem_set hp with hp | hp
    · exact (h4 p hp).set (hm.ne (h4 p hp))
    · rw [hp]
      exact hb.set (hm.ne hb)
end
open Go.RowKit
structure KC (w w' : World) : Prop where
  cells : ∀ (b : Nat) (c : Array Value) (t : TypeId) (u : Nat × Nat), w.heap[b]? = some (.cells c t u) → w'.heap[b]? = some (.cells c t u)
  size : w.heap.size ≤ w'.heap.size
theorem KC.trans {a b c : World} (h : KC a b) (k : KC b c) : KC a c := ⟨fun x d t u e => k.cells x d t u (h.cells x d t u e), Nat.le_trans h.size k.size⟩
theorem KC.below {w w' : World} (h : Below w.heap.size w w') : KC w w' := ⟨fun b _ _ _ e => (h.block b (Array.getElem?_eq_some_iff.1 e).1).trans e, h.size⟩
theorem KC.grown {w w' : World} {m : Nat} {F : List (Nat × Value)} (h : PM w m F) (hg : w.grownBy w' (some m)) : KC w w' := by
  obtain ⟨es, ck, hm, -⟩ := h
  refine ⟨fun b c t u e => (hg.block b (Array.getElem?_eq_some_iff.1 e).1 fun eb => ?_).trans e, hg.size⟩
  have := Option.some.inj eb
  subst this
  rw [hm] at e
  simp at e
theorem KC.cell {w w' : World} (h : KC w w') {a : Addr} {v : Value} (hc : w.cell? a = some v) : w'.cell? a = some v := by
  unfold World.cell? at hc ⊢
  cases hb : w.heap[a.block]? with
  | none => rw [hb] at hc; simp at hc
  | some o =>
    rw [hb] at hc
    cases o with
    | cells c t u =>
      rw [h.cells _ c t u hb]
      exact hc
    | _ => simp at hc
theorem KC.kpB {w w' : World} (h : KC w w') : KpB w w' := fun b c e => h.cells b c _ _ e
theorem Sl.kc {w w' : World} {ao : Option Addr} {n cap : Nat} {xs : List Int} (h : Sl w ao n cap xs) (k : KC w w') : Sl w' ao n cap xs := ⟨h.len, h.le, h.mx, h.nil, fun a ha i hi => k.cell (h.cell a ha i hi), h.byte⟩
theorem VL.kc {w w' : World} {ao : Option Addr} {n cap : Nat} {vs : List Value} (h : VL w ao n cap vs) (k : KC w w') : VL w' ao n cap vs := ⟨h.len, h.le, h.mx, h.nil, fun a ha i hi => k.cell (h.cell a ha i hi)⟩
theorem KL.kc {w w' : World} {ao : Option Addr} {n cap : Nat} {ps : List Part} (h : KL w ao n cap ps) (k : KC w w') : KL w' ao n cap ps := ⟨h.vl.kc k, fun q hq => (h.sl q hq).kc k⟩
theorem Tabs.kc {w w' : World} (h : Tabs w) (k : KC w w') : Tabs w' := ⟨fun j v hv => k.cell (h.first j v hv), fun j v hv => k.cell (h.cubes j v hv), Nat.le_trans h.two k.size⟩
theorem SlT.kc {w w' : World} {q : Part} (h : SlT w q) (k : KC w w') : SlT w' q := h.kp k.kpB
theorem Ordi.kc {w w' : World} {b : Nat} (h : Ordi w b) (k : KC w w') : Ordi w' b := by
  obtain ⟨c, t, e⟩ := h
  exact ⟨c, t, k.cells _ _ _ _ e⟩
structure RwI (base : Nat) (W : World) (v : Value) (qs : List Part) : Prop where
  own : W.ownsRow base 40 1 v qs.length (qs.map Part.val)
  sl : ∀ q ∈ qs, SlT W q
  le : base ≤ W.heap.size
theorem RwI.kc {base : Nat} {W W' : World} {v : Value} {qs : List Part} (h : RwI base W v qs) (k : KC W W') : RwI base W' v qs := by
  refine ⟨⟨h.own.1, ?_⟩, fun q hq => (h.sl q hq).kc k, Nat.le_trans h.le k.size⟩
  rcases h.own.2 with c | ⟨g, cap, cur, rfl, a1, a2, a3, a4, a5, a6⟩
  · exact .inl c
  · exact .inr ⟨g, cap, cur, rfl, a1, k.cells _ _ _ _ a2, a3, a4, a5, a6⟩
theorem RwI.nil (W : World) : RwI W.heap.size W (.slice none 0 0) [] := ⟨⟨rfl, .inl ⟨rfl, rfl⟩⟩, fun _ h => by simp at h, Nat.le_refl _⟩
theorem RwI.kl {base : Nat} {W : World} {v : Value} {qs : List Part} (h : RwI base W v qs) : ∃ ao cap, v = .slice ao qs.length cap ∧ KL W ao qs.length cap qs := by
  obtain ⟨ao, cap, e, V, -⟩ := VL.own h.own
  exact ⟨ao, cap, e, V, fun q hq => (h.sl q hq).1⟩
open Go.RowKit
theorem Sl.const (w : World) (xs : List Int) (fr : Nat × Nat) (h : Byt xs) (hn : xs.length ≤ maxLen) : Sl (w.alloc (.cells (bv xs).toArray 5 fr)) (some ⟨w.heap.size, 0, none⟩) xs.length xs.length xs := by
  refine ⟨rfl, Nat.le_refl _, hn, fun h => by simp at h, fun a ha i hi => ?_, h⟩
  obtain rfl := Option.some.inj ha
  rw [Addr.add_lit, Nat.zero_add, cell_of_row _ w.heap.size i (bv xs).toArray 5 fr (heap_alloc_new w _)]
  simpa using bv_get xs i hi
open Go.RowKit
theorem at_any (w : World) (ao : Option Addr) (n cap i : Nat) (ps : List Part) (h : PL w ao n cap ps) (hn : n ≤ 1000000) (hi : i ≤ 1000000) :
    Calls Tryz.prog 178 #[.slice ao n cap, .int .i64 i] w fun e w' => ∃ qo qn qc, e = .returned (.slice qo qn qc) ∧ Sl w qo qn qc ((ps.map Part.xs).getD i []) ∧ (qn = 0 ∨ ∃ q ∈ ps, qn = q.n) ∧ w' = w := by
  have hl := h.len
  by_cases hlt : i < n
  · have hlt' : (i : Int) < (n : Int) := by omega
    obtain ⟨b, off, rfl, hc⟩ := h.at (by omega)
    have hil : i < ps.length := by omega
    have c1 := hc i hil
    have S1 := h.sl ps[i] (List.getElem_mem hil)
    have hm := List.getElem_mem hil
    have HG : Hid ((ps.map Part.xs).getD i [] = ps[i].xs) := by show _ = _; simp [List.getD, hil]
    obtain ⟨q, hq⟩ : ∃ q, q = ps[i] := ⟨_, rfl⟩
    rw [← hq] at c1 S1 HG hm
    clear hq hc
    unfold Part.val at c1
    go_enter Tryz.func178, Tryz.ntmps178
    go_wp2
    go_ret
    exact ⟨q.ao, q.n, q.cap, rfl, by first | exact S1 | (rw [HG.out]; exact S1), .inr ⟨q, hm, rfl⟩, rfl⟩
  · have hlt' : ¬ (i : Int) < (n : Int) := by omega
    have HG : Hid ((ps.map Part.xs).getD i [] = []) := by show _ = _; rw [List.getD, List.getElem?_eq_none (by simp; omega)]; rfl
    go_enter Tryz.func178, Tryz.ntmps178
    go_wp2
    go_ret
    exact ⟨none, 0, 0, rfl, by first | exact Sl.nothing w | (rw [HG.out]; exact Sl.nothing w), .inl rfl, rfl⟩
set_option maxHeartbeats 1000000 in
set_option maxRecDepth 100000 in
theorem putF_any (w : World) (p base : Nat) (v : Value) (k : Nat) (xs : List Int) (ha : Arr w p 40 [v]) (own : w.ownsRow base 5 1 v k (bv xs)) (hp : base ≤ p) (hb : base ≤ w.heap.size) (ao : Option Addr) (n cap : Nat) (ys : List Int) (h : Sl w ao n cap ys) (hk : k + n + 100 ≤ 140737488355328) (hxb : Byt xs) :
    Calls Tryz.prog 177 #[.slice ao n cap, .pointer (some ⟨p, 0, none⟩)] w fun e w' => (∃ u, e = .returned u) ∧ ∃ v', Arr w' p 40 [v'] ∧ w'.ownsRow base 5 1 v' (k + ((enc n).length + n)) (bv (xs ++ (enc n ++ ys))) ∧ Below base w w' := by
  obtain ⟨i0, hi, hz0, hz1, hz2⟩ := info_parts u8info
  have hl := h.len
  have hen := enc_length (n := n) (by omega)
  have hep := enc_pos n
  have heb : Byt (enc n) := enc_byte (by omega)
  have hbyt : Byt (xs ++ (enc n ++ ys)) := hxb.append (heb.append h.byte)
  obtain ⟨vo, vc, rfl, -, -⟩ := Sl.own own hxb
  go_enter Tryz.func177, Tryz.ntmps177
  go_wp2_with fail
  have HS : Hid (∀ V, Below w.heap.size w V → True) := fun _ _ => trivial
  have E0 : Below w.heap.size w w.drew := (Below.refl _ _).drew
  refine wp_region_noPanic ?_
  refine wp_region_held_drew (S := fun V => True) (by kernel_rfl) (HS.out _ E0) (fun H0 => ?_)
  obtain ⟨v0, hv0⟩ : ∃ v, v = w.drew := ⟨_, rfl⟩
  rw [← hv0] at E0 ⊢
  clear hv0
  refine hr_take_w 1 (some 4) (.slice ao n cap) rfl rfl (by kernel_rfl) (by kernel_rfl) (by kernel_rfl) rfl (fun W hW => by go_simp) H0 ?_
  simp only [FL]
  have hv0 := ha.cell 0
  have ha0 := arr_below ha E0
  have own0 := own_below own E0
  have h0 := h.below E0
  have c0 := ha0.cell 0
  have s0 := E0.size
  refine hr_any (rs := [0, 2]) (by kernel_rfl) (by simp) (fun i hi' => ?_)
  simp only [List.mem_cons, List.not_mem_nil, or_false] at hi'
  rcases hi' with rfl | rfl
  · refine op_ex 0 (some 3) rfl rfl rfl (R := fun u w' => u = .slice vo k vc ∧ v0 = w') ⟨_, _, by go_simp, rfl, rfl⟩ ?_
    rintro u w' ⟨rfl, rfl⟩
    refine ⟨trivial, ?_⟩
    simp only [FL]
    refine hr_call_w 2 (some 5) 86 #[.slice none 0 0, .slice ao n cap] rfl rfl (by kernel_rfl) rfl (by go_simp) (fun u w' => w'.ownsRow v0.heap.size 5 1 u (0 + (enc n).length + n) (bv ([] ++ enc n ++ ys)) ∧ Below v0.heap.size v0 w') ((wBytes_any v0 none ao 0 0 n cap [] ys (Sl.nothing v0) h0 (by omega)).mono (by
      rintro e w' ⟨u, rfl, o, C⟩
      exact ⟨_, rfl, o, C⟩)) ?_
    rintro u w1 ⟨o1, C1⟩
    simp only [Nat.zero_add, List.nil_append] at o1
    obtain ⟨fo', fc, rfl, S1, hS1⟩ := Sl.own o1 (heb.append h.byte)
    obtain ⟨fo, rfl⟩ : ∃ fo, fo' = some fo := by
      cases fo' with
      | none => have := (S1.nil rfl).1; omega
      | some a => exact ⟨a, rfl⟩
    have s1 := C1.size
    have own1 := own_below own0 C1
    have ha1 := arr_below ha0 C1
    refine ⟨trivial, ?_⟩
    simp only [FL]
    obtain ⟨v', w2, hrun, own2, g2, -⟩ := run_append_own (P := Tryz.prog) w1 base 40 40 5 i0 (.int .u8 0) 1 1 Tryz.underlying40 hi hz0 hz1 hz2 rfl (by decide) (.slice vo k vc) k (bv xs) own1 fo ((enc n).length + n) fc (bv (enc n ++ ys)) (by rw [bv_length, Nat.mul_one]; exact S1.len) (S1.cells fo rfl) (bv_one _) (by unfold maxLen; omega) (by omega) (by omega)
    obtain ⟨a1, a2, own3, B3⟩ := arr_put ha1 (by decide) own1 (by omega) hp own2 g2 0
    have e1 : bv xs ++ bv (enc n ++ ys) = bv (xs ++ (enc n ++ ys)) := (bv_append _ _).symm
    rw [e1] at own2 own3
    obtain ⟨ro, rc, rfl, -, -⟩ := Sl.own own2 hbyt
    have fz := a1.free 0
    have fc0 := a1.cell 0
    refine hr_ex 3 (some 6) rfl rfl (by kernel_rfl) rfl (R := fun u w' => u = .slice ro (k + ((enc n).length + n)) rc ∧ w2 = w') ⟨_, _, by simp [execOp, Act.eval, resolve, invoke, builtin, hrun], rfl, rfl⟩ ?_
    rintro u w' ⟨rfl, rfl⟩
    refine ⟨trivial, ?_⟩
    simp only [FL]
    refine hr_skip 4 none (w' := w2.setCell ⟨p, 0, none⟩ (.slice ro (k + ((enc n).length + n)) rc)) rfl rfl (by kernel_rfl) rfl (by go_simp) trivial ?_
    simp only [Act.put]
    refine wpAnyH_done (by kernel_rfl) ?_ _
    refine NoPanic.normal ?_
    go_wp2
    go_end0
    exact ⟨⟨_, rfl⟩, _, a2, own3, (E0.mono hb).trans ((C1.mono (by omega)).trans B3)⟩
  · refine op_calls 2 (some 5) 86 #[.slice none 0 0, .slice ao n cap] rfl rfl rfl (by go_simp) (fun u w' => w'.ownsRow v0.heap.size 5 1 u (0 + (enc n).length + n) (bv ([] ++ enc n ++ ys)) ∧ Below v0.heap.size v0 w') ((wBytes_any v0 none ao 0 0 n cap [] ys (Sl.nothing v0) h0 (by omega)).mono (by
      rintro e w' ⟨u, rfl, o, C⟩
      exact ⟨_, rfl, o, C⟩)) ?_
    rintro u w1 ⟨o1, C1⟩
    simp only [Nat.zero_add, List.nil_append] at o1
    obtain ⟨fo', fc, rfl, S1, hS1⟩ := Sl.own o1 (heb.append h.byte)
    obtain ⟨fo, rfl⟩ : ∃ fo, fo' = some fo := by
      cases fo' with
      | none => have := (S1.nil rfl).1; omega
      | some a => exact ⟨a, rfl⟩
    have s1 := C1.size
    have own1 := own_below own0 C1
    have ha1 := arr_below ha0 C1
    have c1 := ha1.cell 0
    refine ⟨trivial, ?_⟩
    simp only [FL]
    refine hr_ex 0 (some 3) rfl rfl (by kernel_rfl) rfl (R := fun u w' => u = .slice vo k vc ∧ w1 = w') ⟨_, _, by go_simp, rfl, rfl⟩ ?_
    rintro u w' ⟨rfl, rfl⟩
    refine ⟨trivial, ?_⟩
    simp only [FL]
    obtain ⟨v', w2, hrun, own2, g2, -⟩ := run_append_own (P := Tryz.prog) w1 base 40 40 5 i0 (.int .u8 0) 1 1 Tryz.underlying40 hi hz0 hz1 hz2 rfl (by decide) (.slice vo k vc) k (bv xs) own1 fo ((enc n).length + n) fc (bv (enc n ++ ys)) (by rw [bv_length, Nat.mul_one]; exact S1.len) (S1.cells fo rfl) (bv_one _) (by unfold maxLen; omega) (by omega) (by omega)
    obtain ⟨a1, a2, own3, B3⟩ := arr_put ha1 (by decide) own1 (by omega) hp own2 g2 0
    have e1 : bv xs ++ bv (enc n ++ ys) = bv (xs ++ (enc n ++ ys)) := (bv_append _ _).symm
    rw [e1] at own2 own3
    obtain ⟨ro, rc, rfl, -, -⟩ := Sl.own own2 hbyt
    have fz := a1.free 0
    have fc0 := a1.cell 0
    refine hr_ex 3 (some 6) rfl rfl (by kernel_rfl) rfl (R := fun u w' => u = .slice ro (k + ((enc n).length + n)) rc ∧ w2 = w') ⟨_, _, by simp [execOp, Act.eval, resolve, invoke, builtin, hrun], rfl, rfl⟩ ?_
    rintro u w' ⟨rfl, rfl⟩
    refine ⟨trivial, ?_⟩
    simp only [FL]
    refine hr_skip 4 none (w' := w2.setCell ⟨p, 0, none⟩ (.slice ro (k + ((enc n).length + n)) rc)) rfl rfl (by kernel_rfl) rfl (by go_simp) trivial ?_
    simp only [Act.put]
    refine wpAnyH_done (by kernel_rfl) ?_ _
    refine NoPanic.normal ?_
    go_wp2
    go_end0
    exact ⟨⟨_, rfl⟩, _, a2, own3, (E0.mono hb).trans ((C1.mono (by omega)).trans B3)⟩
end Go.Proofs.YthlpccajnmkbjaaGreatDoor

/-
  Texts in one: HRegE, HRegG, ChBack, ChRP, Same.
-/
import Derived.Test.YtdcebokfnbgkaaaDoorChoosePicksQFL
import Derived.Test.YtdcebokfnbgkaaaDoorChoosePicksQ2
import Derived.Test.YtdcebokfnbgkaaaDoorChoosePicksQ0
import Derived.Test.YtdcebokfnbgkaaaDoorChoosePicksQ5
import Derived.Deep.QuietTactic
import Derived.BigQuiet
namespace Go
open Go.RowKit
def EffRun (P : Program) (o : Oper) (a : Act) (w : World) (R : Value → World → Prop) : Prop :=
  (∃ v w', (execOp a.eval o).run P w = .ok (.value v) w' ∧ R v w') ∨
  (∃ f args, (execOp a.eval o).run P w = .ok (.enter f args) w ∧ Calls P f args w fun e w' => ∃ v, e = .returned v ∧ R v w')
end Go
namespace Go
open Go.RowKit
def setL (L : Array Bool) (is : List Nat) : Array Bool := is.foldl (fun L i => L.setIfInBounds i true) L
theorem setL_size (is : List Nat) : ∀ L : Array Bool, (setL L is).size = L.size := by
  induction is with
  | nil => intro L; rfl
  | cons i is ih => intro L; exact (ih _).trans (by simp)
theorem setL_get (is : List Nat) : ∀ (L : Array Bool) (j : Nat), j < L.size → (setL L is).getD j true = (L.getD j true || is.contains j) := by
  induction is with
  | nil => intro L j _; simp [setL]
  | cons i is ih =>
    intro L j hj
    have h := ih (L.setIfInBounds i true) j (by simpa using hj)
    show (setL (L.setIfInBounds i true) is).getD j true = _
    rw [h]
    by_cases hij : i = j
    · subst hij
      have : (L.setIfInBounds i true).getD i true = true := by simp [hj]
      rw [this]
      simp
    · rw [getD_set_ne true hij]
      have : (i :: is).contains j = is.contains j := by
        rw [List.contains_cons, show (j == i) = false by simpa using fun e => hij e.symm, Bool.false_or]
      rw [this]
theorem arr_ext {A B : Array Bool} (hs : A.size = B.size) (h : ∀ j, j < A.size → A.getD j true = B.getD j true) : A = B := by
  refine Array.ext hs fun j h1 h2 => ?_
  have := h j h1
  simpa [h1, h2] using this
def depOk (ops : Array Oper) (L : Array Bool) (i : Nat) : Bool := ((ops[i]?).map (·.after.all fun e => !Region.binds .any e || L.getD e.on false)).getD false
theorem depOk_of {ops : Array Oper} {L : Array Bool} {i : Nat} {o : Oper} (ho : ops[i]? = some o) (h : ∀ e ∈ o.after, Region.binds .any e = true → L.getD e.on false = true) : depOk ops L i = true := by
  simp only [depOk, ho, Option.map_some, Option.getD_some]
  refine Array.all_eq_true_iff_forall_mem.2 fun e he => ?_
  by_cases hb : Region.binds .any e = true
  · rw [h e he hb, Bool.or_true]
  · simp [hb]
theorem getD_set_on {L : Array Bool} {i j : Nat} (h : L.getD j false = true) : (L.setIfInBounds i true).getD j false = true := by
  by_cases hij : i = j
  · subst hij
    by_cases hlt : i < L.size
    · simp [hlt]
    · simp [hlt] at h
  · simp only [Array.getD_eq_getD_getElem?] at h ⊢
    rw [Array.getElem?_setIfInBounds_ne hij]
    exact h
theorem depOk_set {ops : Array Oper} {L : Array Bool} {i j : Nat} (h : depOk ops L i = true) : depOk ops (L.setIfInBounds j true) i = true := by
  cases ho : ops[i]? with
  | none => simp [depOk, ho] at h
  | some o =>
    refine depOk_of ho fun e he hb => ?_
    simp only [depOk, ho, Option.map_some, Option.getD_some] at h
    have := Array.all_eq_true_iff_forall_mem.1 h e he
    rw [hb, Bool.not_true, Bool.false_or] at this
    exact getD_set_on this
def effChk (ops : Array Oper) (all : List Nat) : List Nat → Array Bool → Bool → Bool
  | [], L, sk => !sk || !(all.all fun i => !L.getD i true || depOk ops L i) || (!(Region.ready .any ops L).isEmpty && (Region.ready .any ops L).all fun j => all.contains j)
  | i :: is, L, sk => effChk ops all is (L.setIfInBounds i true) sk && effChk ops all is L true
theorem effChk_spec {ops : Array Oper} {all : List Nat} (c : Nat → Bool) : ∀ (is : List Nat) (L : Array Bool) (sk : Bool), effChk ops all is L sk = true → (sk = true ∨ ∃ i ∈ is, c i = false) → (∀ i ∈ all, (setL L (is.filter c)).getD i true = true → depOk ops (setL L (is.filter c)) i = true) →
    Region.ready .any ops (setL L (is.filter c)) ≠ [] ∧ ∀ j ∈ Region.ready .any ops (setL L (is.filter c)), j ∈ all
  | [], L, sk, h, hs, hcl => by
    rcases hs with rfl | ⟨i, hi, _⟩
    · have hcl' : (all.all fun i => !L.getD i true || depOk ops L i) = true := List.all_eq_true.2 fun i hi => by
        by_cases hL : L.getD i true = true
        · have := hcl i hi hL
          have h2 : depOk ops L i = true := this
          rw [h2, Bool.or_true]
        · have h2 : L.getD i true = false := by simpa using hL
          rw [h2]
          rfl
      simp only [effChk, hcl', Bool.not_true, Bool.false_or, Bool.and_eq_true] at h
      refine ⟨fun e => ?_, fun j hj => ?_⟩
      · have : Region.ready .any ops L = [] := e
        rw [this] at h
        simp at h
      · have := List.all_eq_true.1 h.2 j hj
        simpa using this
    · simp at hi
  | i :: is, L, sk, h, hs, hcl => by
    simp only [effChk, Bool.and_eq_true] at h
    by_cases hc : c i = true
    · rw [List.filter_cons, if_pos hc] at hcl ⊢
      refine effChk_spec c is (L.setIfInBounds i true) sk h.1 ?_ hcl
      rcases hs with hs | ⟨j, hj, hf⟩
      · exact .inl hs
      · rcases List.mem_cons.1 hj with rfl | hj
        · rw [hc] at hf; simp at hf
        · exact .inr ⟨j, hj, hf⟩
    · rw [List.filter_cons, if_neg hc] at hcl ⊢
      exact effChk_spec c is L true h.2 (.inl rfl) hcl
def unC (c : Nat → Bool) : List Nat → Nat
  | [] => 0
  | i :: is => unC c is + (if c i then 0 else 1)
theorem unC_same {c d : Nat → Bool} : ∀ (is : List Nat), (∀ i ∈ is, c i = d i) → unC c is = unC d is
  | [], _ => rfl
  | i :: is, h => by rw [unC, unC, unC_same is (fun j hj => h j (List.mem_cons_of_mem _ hj)), h i (List.mem_cons_self ..)]
theorem unC_set {c : Nat → Bool} {i : Nat} (hc : c i = false) : ∀ (is : List Nat), is.Nodup → i ∈ is → unC c is = unC (fun j => c j || j == i) is + 1
  | [], _, h => by simp at h
  | j :: is, hn, h => by
    have hn' := List.nodup_cons.1 hn
    rw [unC, unC]
    by_cases hji : j = i
    · subst hji
      have := unC_same (c := c) (d := fun k => c k || k == j) is (fun k hk => by
        have hne : k ≠ j := fun e => hn'.1 (e ▸ hk)
        have : (k == j) = false := by simpa using hne
        simp [this])
      rw [← this, hc]
      simp
    · have hi : i ∈ is := by
        rcases List.mem_cons.1 h with h | h
        · exact absurd h.symm hji
        · exact h
      have ih := unC_set hc is hn'.2 hi
      have : (j == i) = false := by simpa using hji
      rw [ih]
      simp only [this, Bool.or_false]
      omega
theorem unC_zero {c : Nat → Bool} : ∀ (is : List Nat), unC c is = 0 → ∀ i ∈ is, c i = true
  | [], _, i, h => by simp at h
  | j :: is, h0, i, h => by
    rw [unC] at h0
    rcases List.mem_cons.1 h with rfl | h
    · by_cases hc : c i = true
      · exact hc
      · rw [if_neg hc] at h0; omega
    · exact unC_zero is (by omega) i h
theorem unC_none : ∀ (is : List Nat), unC (fun _ => false) is = is.length
  | [] => rfl
  | i :: is => by rw [unC, unC_none is]; simp
def putL (a : Act) (f : Nat → Value) (ids : List (Nat × Nat)) : Act := ids.foldl (fun a p => a.put (some p.2) (f p.1)) a
theorem putL_size (f : Nat → Value) (ids : List (Nat × Nat)) : ∀ a : Act, (putL a f ids).tmps.size = a.tmps.size := by
  induction ids with
  | nil => intro a; rfl
  | cons p ids ih => intro a; exact (ih _).trans (by simp [Act.put])
theorem putL_defers (f : Nat → Value) (ids : List (Nat × Nat)) : ∀ a : Act, (putL a f ids).defers = a.defers := by
  induction ids with
  | nil => intro a; rfl
  | cons p ids ih => intro a; exact (ih _).trans rfl
theorem putL_other (f : Nat → Value) (k : Nat) (ids : List (Nat × Nat)) : ∀ a : Act, (∀ p ∈ ids, p.2 ≠ k) → (putL a f ids).tmps[k]? = a.tmps[k]? := by
  induction ids with
  | nil => intro a _; rfl
  | cons p ids ih =>
    intro a h
    have h1 := ih (a.put (some p.2) (f p.1)) (fun q hq => h q (List.mem_cons_of_mem _ hq))
    refine h1.trans ?_
    have hne := h p (List.mem_cons_self ..)
    simp [Act.put, Array.getElem?_setIfInBounds_ne hne]
theorem putL_at (f : Nat → Value) : ∀ (ids : List (Nat × Nat)) (a : Act), (ids.map (·.2)).Nodup → ∀ p ∈ ids, p.2 < a.tmps.size → (putL a f ids).tmps[p.2]? = some (f p.1)
  | [], a, _, p, h, _ => by simp at h
  | q :: ids, a, hn, p, h, hlt => by
    have hn' := List.nodup_cons.1 hn
    rcases List.mem_cons.1 h with rfl | h
    · have h1 := putL_other f p.2 ids (a.put (some p.2) (f p.1)) (fun q hq e => hn'.1 (List.mem_map.2 ⟨q, hq, e⟩))
      refine h1.trans ?_
      simp [Act.put, hlt]
    · exact putL_at f ids (a.put (some q.2) (f q.1)) hn'.2 p h (by simpa [Act.put] using hlt)
def effTo (ops : Array Oper) (L0 : Array Bool) (ids : List (Nat × Nat)) (n : Nat) : Bool :=
  ids.all (fun p => decide (p.2 < n) && !L0.getD p.1 true && (match ops[p.1]? with | some o => o.dst == some p.2 && o.guard.isNone | none => false)) &&
  effChk ops (ids.map (·.1)) (ids.map (·.1)) L0 false && decide (L0.size = ops.size)
def EffGot (ids : List (Nat × Nat)) (F : Nat → Value → World → Prop) (a : Act) (w : World) (j : Nat) : Prop := ∀ p ∈ ids, p.1 = j → ∃ v, a.tmps[p.2]? = some v ∧ F j v w
structure EffKeep (ids : List (Nat × Nat)) (a0 a : Act) : Prop where
  defers : a.defers = a0.defers
  size : a.tmps.size = a0.tmps.size
  same : ∀ k, (∀ p ∈ ids, p.2 ≠ k) → a.tmps[k]? = a0.tmps[k]?
theorem EffKeep.get {ids : List (Nat × Nat)} {a0 a : Act} (h : EffKeep ids a0 a) (k : Nat) {v : Value} (hk : ids.all (fun p => p.2 != k) = true) (h0 : a0.tmps[k]? = some v) : a.tmps[k]? = some v := by
  rw [h.same k (fun p hp => by simpa using List.all_eq_true.1 hk p hp)]
  exact h0
theorem wpAnyH_effto {P : Program} {ops : Array Oper} {S : World → Prop} {Q : Exit → Act → World → Prop} {a0 : Act} {W0 : World} {L0 : Array Bool} (m : Nat) (F : Nat → Value → World → Prop) (ids : List (Nat × Nat)) (n : Nat)
    (hok : effTo ops L0 ids n = true) (hn1 : (ids.map (·.1)).Nodup) (hn2 : (ids.map (·.2)).Nodup) (hn : n = a0.tmps.size)
    (mono : ∀ i v w w', F i v w → Below w.heap.size w w' → F i v w')
    (hS : ∀ w, Below W0.heap.size W0 w → S w)
    (step : ∀ p ∈ ids, ∀ o a w, ops[p.1]? = some o → EffKeep ids a0 a → Below W0.heap.size W0 w → (∀ j, o.after.any (fun e => Region.binds .any e && e.on == j) = true → EffGot ids F a w j) → EffRun P o a w (fun v w' => F p.1 v w' ∧ Below w.heap.size w w'))
    (fin : ∀ (f : Nat → Value) w, Below W0.heap.size W0 w → (∀ p ∈ ids, F p.1 (f p.1) w) → wpAnyH P .any ops (NoPanic Q) S m (setL L0 (ids.map (·.1))) (putL a0 f ids) w) :
    wpAnyH P .any ops (NoPanic Q) S (ids.length + m) L0 a0 W0 := by
  simp only [effTo, Bool.and_eq_true, decide_eq_true_eq] at hok
  obtain ⟨⟨hok1, hok2⟩, hLs⟩ := hok
  have hat : ∀ p ∈ ids, p.2 < a0.tmps.size ∧ L0.getD p.1 true = false ∧ ∃ o, ops[p.1]? = some o ∧ o.dst = some p.2 ∧ o.guard = none := fun p hp => by
    have h := List.all_eq_true.1 hok1 p hp
    simp only [Bool.and_eq_true, decide_eq_true_eq, Bool.not_eq_true'] at h
    obtain ⟨⟨h1, h2⟩, h3⟩ := h
    refine ⟨hn ▸ h1, h2, ?_⟩
    cases ho : ops[p.1]? with
    | none => rw [ho] at h3; simp at h3
    | some o =>
      rw [ho] at h3
      simp only [Bool.and_eq_true, beq_iff_eq] at h3
      exact ⟨o, rfl, h3.1, Option.isNone_iff_eq_none.1 h3.2⟩
  have main : ∀ (k : Nat) (c : Nat → Bool) (a : Act) (w : World), unC c (ids.map (·.1)) = k → EffKeep ids a0 a → Below W0.heap.size W0 w → (∀ p ∈ ids, c p.1 = true → ∃ v, a.tmps[p.2]? = some v ∧ F p.1 v w) →
      (∀ i ∈ ids.map (·.1), (setL L0 ((ids.map (·.1)).filter c)).getD i true = true → depOk ops (setL L0 ((ids.map (·.1)).filter c)) i = true) →
      wpAnyH P .any ops (NoPanic Q) S (k + m) (setL L0 ((ids.map (·.1)).filter c)) a w := by
    intro k
    induction k with
    | zero =>
      intro c a w hu hs hb hh _
      have hz := unC_zero _ hu
      have hall : ∀ p ∈ ids, ∃ v, a.tmps[p.2]? = some v ∧ F p.1 v w := fun p hp => hh p hp (hz p.1 (List.mem_map_of_mem hp))
      have hLeq : setL L0 ((ids.map (·.1)).filter c) = setL L0 (ids.map (·.1)) := by rw [List.filter_eq_self.2 hz]
      obtain ⟨f, hf⟩ : ∃ f : Nat → Value, ∀ p ∈ ids, a.tmps[p.2]? = some (f p.1) ∧ F p.1 (f p.1) w := by
        have hch : ∀ j, ∃ v, ∀ p ∈ ids, p.1 = j → a.tmps[p.2]? = some v ∧ F p.1 v w := fun j => by
          by_cases hj : ∃ p ∈ ids, p.1 = j
          · obtain ⟨p, hp, rfl⟩ := hj
            obtain ⟨v, h1, h2⟩ := hall p hp
            refine ⟨v, fun q hq e => ?_⟩
            obtain ⟨-, -, o, ho, hd, -⟩ := hat p hp
            obtain ⟨-, -, o', ho', hd', -⟩ := hat q hq
            rw [e, ho] at ho'
            obtain rfl := Option.some.inj ho'
            have : p.2 = q.2 := Option.some.inj (hd.symm.trans hd')
            rw [← this, e]
            exact ⟨h1, h2⟩
          · exact ⟨undef, fun q hq e => absurd ⟨q, hq, e⟩ hj⟩
        exact ⟨fun j => Classical.choose (hch j), fun p hp => Classical.choose_spec (hch p.1) p hp rfl⟩
      have ha : a = putL a0 f ids := by
        have ht : a.tmps = (putL a0 f ids).tmps := by
          refine Array.ext (by rw [putL_size]; exact hs.size) fun j h1 h2 => ?_
          have : a.tmps[j]? = (putL a0 f ids).tmps[j]? := by
            by_cases hj : ∃ p ∈ ids, p.2 = j
            · obtain ⟨p, hp, rfl⟩ := hj
              rw [(hf p hp).1, putL_at f ids a0 hn2 p hp (hat p hp).1]
            · have hj' : ∀ p ∈ ids, p.2 ≠ j := fun p hp e => hj ⟨p, hp, e⟩
              rw [hs.same j hj', putL_other f j ids a0 hj']
          simpa [h1, h2] using this
        have hd : a.defers = (putL a0 f ids).defers := by rw [putL_defers]; exact hs.defers
        cases a
        cases hp : putL a0 f ids
        rw [hp] at ht hd
        simp only at ht hd
        rw [ht, hd]
      rw [hLeq, ha, Nat.zero_add]
      exact fin f w hb (fun p hp => (hf p hp).2)
    | succ k ih =>
      intro c a w hu hs hb hh hcl
      have hex : ∃ i ∈ ids.map (·.1), c i = false := by
        by_cases h : ∃ i ∈ ids.map (·.1), c i = false
        · exact h
        · exfalso
          have hz : ∀ i ∈ ids.map (·.1), c i = true := fun i hi => by
            by_cases hc : c i = true
            · exact hc
            · exact absurd ⟨i, hi, by simpa using hc⟩ h
          have : unC c (ids.map (·.1)) = unC (fun _ => true) (ids.map (·.1)) := unC_same _ (fun i hi => hz i hi)
          have h0 : ∀ l : List Nat, unC (fun _ => true) l = 0 := fun l => by
            induction l with
            | nil => rfl
            | cons x l ih => rw [unC, ih]; rfl
          rw [hu, h0] at this
          omega
      obtain ⟨hne, hsub⟩ := effChk_spec (ops := ops) (all := ids.map (·.1)) c (ids.map (·.1)) L0 false hok2 (.inr hex) hcl
      have hsz : (setL L0 ((ids.map (·.1)).filter c)).size = ops.size := by rw [setL_size]; exact hLs
      rw [show k + 1 + m = (k + m) + 1 by omega]
      refine ⟨fun h => absurd h hne, fun i hi => ?_⟩
      obtain ⟨p, hp, rfl⟩ := List.mem_map.1 (hsub i hi)
      obtain ⟨h1, o, ho, hdep⟩ := mem_ready.1 hi
      obtain ⟨hdl, hL0, o', ho', hdo, hg⟩ := hat p hp
      rw [ho] at ho'
      obtain rfl := Option.some.inj ho'
      have hlt := (Array.getElem?_eq_some_iff.1 ho).1
      have hci : c p.1 = false := by
        by_cases hc : c p.1 = true
        · exfalso
          rw [setL_get _ _ _ (by omega)] at h1
          have : ((ids.map (·.1)).filter c).contains p.1 = true := by
            simpa using ⟨⟨p.2, hp⟩, hc⟩
          rw [this] at h1
          simp at h1
        · simpa using hc
      have hw : Region.wanted o (yielded ops a.tmps) = true := by simp [Region.wanted, hg]
      have hrun := step p hp o a w ho hs hb (fun j hj q hq hqj => by
        obtain ⟨e, hem, hbj⟩ := Array.any_eq_true'.1 hj
        simp only [Bool.and_eq_true, beq_iff_eq] at hbj
        obtain ⟨hbi, rfl⟩ := hbj
        have h2 := hdep e hem hbi
        obtain ⟨-, hq0, oq, hoq, -⟩ := hat q hq
        have hqlt := (Array.getElem?_eq_some_iff.1 hoq).1
        have h4 : (setL L0 ((ids.map (·.1)).filter c)).getD q.1 true = true := by
          rw [hqj]
          have : e.on < (setL L0 ((ids.map (·.1)).filter c)).size := by rw [hsz, ← hqj]; exact hqlt
          simpa [this] using h2
        rw [setL_get _ _ _ (by omega), hq0, Bool.false_or] at h4
        have h5 : c q.1 = true := by
          have h6 : q.1 ∈ (ids.map (·.1)).filter c := by simpa using h4
          exact (List.mem_filter.1 h6).2
        have := hh q hq h5
        rw [hqj] at this
        exact this)
      have next : ∀ v w', F p.1 v w' ∧ Below w.heap.size w w' → S w' ∧ wpAnyH P .any ops (NoPanic Q) S (k + m) ((setL L0 ((ids.map (·.1)).filter c)).setIfInBounds p.1 true) (a.put (some p.2) v) w' := by
        rintro v w' ⟨hF, hb'⟩
        have hbw := hb.trans (hb'.mono hb.size)
        have htm : (a.put (some p.2) v).tmps = a.tmps.setIfInBounds p.2 v := rfl
        refine ⟨hS w' hbw, ?_⟩
        have hLq : (setL L0 ((ids.map (·.1)).filter c)).setIfInBounds p.1 true = setL L0 ((ids.map (·.1)).filter fun j => c j || j == p.1) := by
          refine arr_ext (by simp [setL_size]) fun j hj => ?_
          have hj' : j < L0.size := by simpa [setL_size] using hj
          rw [setL_get _ _ _ hj']
          by_cases hji : p.1 = j
          · subst hji
            have h7 : ((setL L0 ((ids.map (·.1)).filter c)).setIfInBounds p.1 true).getD p.1 true = true := by
              have : p.1 < (setL L0 ((ids.map (·.1)).filter c)).size := by rw [setL_size]; exact hj'
              simp [this]
            have h8 : ((ids.map (·.1)).filter fun j => c j || j == p.1).contains p.1 = true := by
              rw [List.contains_iff_mem]
              exact List.mem_filter.2 ⟨List.mem_map_of_mem hp, by simp⟩
            rw [h7, h8]
            simp
          · rw [getD_set_ne true hji, setL_get _ _ _ hj']
            congr 1
            have hbe : (j == p.1) = false := by simpa using fun e => hji e.symm
            rw [Bool.eq_iff_iff, List.contains_iff_mem, List.contains_iff_mem, List.mem_filter, List.mem_filter, hbe, Bool.or_false]
        rw [hLq]
        refine ih _ _ _ ?_ ⟨hs.defers, by rw [htm, Array.size_setIfInBounds]; exact hs.size, fun q hq => ?_⟩ hbw (fun q hq hcq => ?_) ?_
        · have := unC_set hci (ids.map (·.1)) hn1 (List.mem_map_of_mem hp)
          omega
        · rw [htm, Array.getElem?_setIfInBounds_ne (hq p hp)]
          exact hs.same q hq
        · by_cases hqp : q.1 = p.1
          · have h9 : q.2 = p.2 := by
              obtain ⟨-, -, oq, hoq, hdq, -⟩ := hat q hq
              rw [hqp, ho] at hoq
              obtain rfl := Option.some.inj hoq
              exact Option.some.inj (hdq.symm.trans hdo)
            rw [hqp, h9]
            refine ⟨v, ?_, hF⟩
            rw [htm, Array.getElem?_setIfInBounds_self_of_lt (by rw [hs.size]; exact hdl)]
          · have hbe : (q.1 == p.1) = false := by simpa using hqp
            have hcq' : c q.1 = true := by simpa [hbe] using hcq
            obtain ⟨v', h1', h2'⟩ := hh q hq hcq'
            refine ⟨v', ?_, mono _ _ _ _ h2' hb'⟩
            have hne : p.2 ≠ q.2 := fun e => hqp (by
              have hinj : ∀ (l : List (Nat × Nat)), (l.map (·.2)).Nodup → ∀ x ∈ l, ∀ y ∈ l, x.2 = y.2 → x = y := by
                intro l
                induction l with
                | nil => intro _ x hx; simp at hx
                | cons z l ihl =>
                  intro hnd x hx y hy exy
                  have hnd' := List.nodup_cons.1 hnd
                  rcases List.mem_cons.1 hx with rfl | hxl
                  · rcases List.mem_cons.1 hy with rfl | hyl
                    · rfl
                    · exact absurd (List.mem_map.2 ⟨y, hyl, exy.symm⟩) hnd'.1
                  · rcases List.mem_cons.1 hy with rfl | hyl
                    · exact absurd (List.mem_map.2 ⟨x, hxl, exy⟩) hnd'.1
                    · exact ihl hnd'.2 x hxl y hyl exy
              rw [hinj ids hn2 q hq p hp e.symm])
            rw [htm, Array.getElem?_setIfInBounds_ne hne]
            exact h1'
        · rw [← hLq]
          intro i hi hiL
          by_cases hip : p.1 = i
          · subst hip
            exact depOk_set (depOk_of ho hdep)
          · rw [getD_set_ne true hip] at hiL
            exact depOk_set (hcl i hi hiL)
      rcases hrun with ⟨v, w', hr, hR⟩ | ⟨f, args, hr, hc⟩
      · unfold wpOp
        simp only [ho, hw, if_true, Oper.wp, hr, Oper.upon, hdo]
        exact .inl (next v w' hR)
      · unfold wpOp
        simp only [ho, hw, if_true, Oper.wp, hr, Oper.upon, hdo]
        refine .inl (hc.mono ?_)
        rintro e w' ⟨v, rfl, hR⟩
        exact next v w' hR
  have h := main (ids.length) (fun _ => false) a0 W0 (by rw [unC_none]; simp) ⟨rfl, rfl, fun _ _ => rfl⟩ (Below.refl _ _) (fun p hp h => by simp at h) (fun i hi hL => by
    exfalso
    obtain ⟨p, hp, rfl⟩ := List.mem_map.1 hi
    rw [List.filter_eq_nil_iff.2 (by simp)] at hL
    have := (hat p hp).2.1
    have h2 : L0.getD p.1 true = true := hL
    rw [this] at h2
    simp at h2)
  have he : setL L0 ((ids.map (·.1)).filter fun _ => false) = L0 := by
    rw [List.filter_eq_nil_iff.2 (by simp)]
    rfl
  rw [he] at h
  exact h
end Go
namespace Go.Proofs.YtdcebokfnbgkaaaDoor
open Go.RowKit
theorem tyRP : GTy elP.sz 40 (.agg #[.int .u64 0, .int .u64 0, .slice none 0 0]) 42 32 := ⟨by kernel_rfl, rfl, Tryd.underlying32⟩
def BkR (w : World) (l : List PA) (v' i : Value) (wr : World) : Prop := ∃ (x : Nat) (v : Value), v = v' ∧ x ≤ l.length ∧ i = .int .i64 (x : Nat) ∧ GNew elP 42 w wr w.heap.size v (l.take x) ∧ Below w.heap.size w wr
theorem BkR.mk {w wr : World} {l : List PA} {v i : Value} (x : Nat) (h1 : x ≤ l.length) (h2 : i = .int .i64 (x : Nat)) (h3 : GNew elP 42 w wr w.heap.size v (l.take x)) (h4 : Below w.heap.size w wr) : BkR w l v i wr := ⟨x, v, rfl, h1, h2, h3, h4⟩
def BackPost16 (w : World) (l : List PA) (e : Ending) (w' : World) : Prop := ∃ ao n cap, e = .returned (.slice ao n cap) ∧ GL elP w' ao n cap l ∧ Below w.heap.size w w'
set_option maxRecDepth 100000 in
set_option maxHeartbeats 8000000 in
theorem back16 (w : World) (ao : Option Addr) (n cap : Nat) (l : List PA) (h : GL elP w ao n cap l) (hn : n ≤ 1000) :
    Calls Tryd.prog 12 #[.slice ao n cap] w (BackPost16 w l) := by
  have hl := h.len
  have O0 : BkR w l (.slice none 0 0) (.int .i64 0) w := BkR.mk 0 (Nat.zero_le _) rfl (by rw [List.take_zero]; exact GNew.nil _ _ _ _ _) (Below.refl _ _)
  go_enter Tryd.func12, Tryd.ntmps12
  go_wp2_with fail
  go_loopw [3, 4] (fun v i wr => BkR w l v i wr) (fun _ i _ => n - (intOf i).toNat)
  case atStart => exact O0
  case round =>
    clear O0
    obtain ⟨x, v, rfl, hx, rfl, GN, B⟩ := hrel
    by_cases hxl : x < n
    · have hxi : (x : Int) < (n : Int) := by omega
      obtain ⟨pb, poff, rfl, hP⟩ := h.atP (by omega)
      have hxx : x < l.length := by omega
      have HP : Hid (∀ V, Below w.heap.size w V → PX V pb (poff + x * 3) l[x]) := fun V hV => (hP x hxx).below hV
      have hpk := h.ok _ (List.getElem_mem hxx)
      have et : l.take (x + 1) = l.take x ++ [l[x]] := List.take_succ_eq_append_getElem hxx
      obtain ⟨p, hp⟩ : ∃ p, p = l[x] := ⟨_, rfl⟩
      rw [← hp] at HP hpk et
      have HPK : Hid (elP.ok p w) := hpk
      have HET : Hid (l.take (x + 1) = l.take x ++ [p]) := et
      have HSV : Hid (∀ V, Below w.heap.size w V → V.cell? ⟨pb, poff + x * 3, none⟩ = some (.int .u64 (p.sq : Nat)) ∧ V.cell? ⟨pb, poff + x * 3 + 1, none⟩ = some (.int .u64 (p.vw : Nat)) ∧ V.cell? ⟨pb, poff + x * 3 + 2, none⟩ = some (.slice p.b.ao p.b.n p.b.cap)) := fun V hV => by
        obtain ⟨p0, p1, p2⟩ := HP.out V hV
        exact ⟨p0, p1, p2⟩
      clear hP hp hpk et HP
      go_wp2_with fail
      have yHS : Hid (∀ V, Below wr.heap.size wr V → V.cell? ⟨pb, poff + x * 3, none⟩ = some (.int .u64 (p.sq : Nat)) ∧ V.cell? ⟨pb, poff + x * 3 + 1, none⟩ = some (.int .u64 (p.vw : Nat)) ∧ V.cell? ⟨pb, poff + x * 3 + 2, none⟩ = some (.slice p.b.ao p.b.n p.b.cap)) := fun V hV => HSV.out V (B.trans (hV.mono B.size))
      have yE0 : Below wr.heap.size wr wr.drew := (Below.refl _ _).drew
      refine wp_region_noPanic ?_
      refine wp_region_held_drew (S := fun V => V.cell? ⟨pb, poff + x * 3, none⟩ = some (.int .u64 (p.sq : Nat)) ∧ V.cell? ⟨pb, poff + x * 3 + 1, none⟩ = some (.int .u64 (p.vw : Nat)) ∧ V.cell? ⟨pb, poff + x * 3 + 2, none⟩ = some (.slice p.b.ao p.b.n p.b.cap)) (by kernel_rfl) (yHS.out _ yE0) (fun yH0 => ?_)
      obtain ⟨yv0, hv0⟩ : ∃ v, v = wr.drew := ⟨_, rfl⟩
      rw [← hv0] at yH0 yE0 ⊢
      clear hv0
      refine hr_take_w 0 (some 11) (v) rfl rfl (by kernel_rfl) (by kernel_rfl) (by kernel_rfl) rfl (fun W hW => by obtain ⟨h0, h1, h2⟩ := hW; go_simp) yH0 ?_
      simp only [FL]
      refine hr_take_w 1 (some 12) (.slice (some ⟨pb, poff, none⟩) n cap) rfl rfl (by kernel_rfl) (by kernel_rfl) (by kernel_rfl) rfl (fun W hW => by obtain ⟨h0, h1, h2⟩ := hW; go_simp) yH0 ?_
      simp only [FL]
      refine hr_take_w 2 (some 13) (.int .i64 (x : Nat)) rfl rfl (by kernel_rfl) (by kernel_rfl) (by kernel_rfl) rfl (fun W hW => by obtain ⟨h0, h1, h2⟩ := hW; go_simp) yH0 ?_
      simp only [FL]
      refine hr_take_w 3 (some 14) (.pointer (some ⟨pb, poff + x * 3, none⟩)) rfl rfl (by kernel_rfl) (by kernel_rfl) (by kernel_rfl) rfl (fun W hW => by obtain ⟨h0, h1, h2⟩ := hW; go_simp) yH0 ?_
      simp only [FL]
      refine hr_take_w 4 (some 15) (.pointer (some ⟨pb, poff + x * 3, none⟩)) rfl rfl (by kernel_rfl) (by kernel_rfl) (by kernel_rfl) rfl (fun W hW => by obtain ⟨h0, h1, h2⟩ := hW; go_simp) yH0 ?_
      simp only [FL]
      refine hr_take_w 5 (some 16) (.int .u64 (p.sq : Nat)) rfl rfl (by kernel_rfl) (by kernel_rfl) (by kernel_rfl) rfl (fun W hW => by obtain ⟨h0, h1, h2⟩ := hW; go_simp) yH0 ?_
      simp only [FL]
      refine hr_take_w 6 (some 17) (.slice (some ⟨pb, poff, none⟩) n cap) rfl rfl (by kernel_rfl) (by kernel_rfl) (by kernel_rfl) rfl (fun W hW => by obtain ⟨h0, h1, h2⟩ := hW; go_simp) yH0 ?_
      simp only [FL]
      refine hr_take_w 7 (some 18) (.int .i64 (x : Nat)) rfl rfl (by kernel_rfl) (by kernel_rfl) (by kernel_rfl) rfl (fun W hW => by obtain ⟨h0, h1, h2⟩ := hW; go_simp) yH0 ?_
      simp only [FL]
      refine hr_take_w 8 (some 19) (.pointer (some ⟨pb, poff + x * 3, none⟩)) rfl rfl (by kernel_rfl) (by kernel_rfl) (by kernel_rfl) rfl (fun W hW => by obtain ⟨h0, h1, h2⟩ := hW; go_simp) yH0 ?_
      simp only [FL]
      refine hr_take_w 9 (some 20) (.pointer (some ⟨pb, poff + x * 3 + 1, none⟩)) rfl rfl (by kernel_rfl) (by kernel_rfl) (by kernel_rfl) rfl (fun W hW => by obtain ⟨h0, h1, h2⟩ := hW; go_simp) yH0 ?_
      simp only [FL]
      refine hr_take_w 10 (some 21) (.int .u64 (p.vw : Nat)) rfl rfl (by kernel_rfl) (by kernel_rfl) (by kernel_rfl) rfl (fun W hW => by obtain ⟨h0, h1, h2⟩ := hW; go_simp) yH0 ?_
      simp only [FL]
      refine hr_take_w 11 (some 22) (.slice (some ⟨pb, poff, none⟩) n cap) rfl rfl (by kernel_rfl) (by kernel_rfl) (by kernel_rfl) rfl (fun W hW => by obtain ⟨h0, h1, h2⟩ := hW; go_simp) yH0 ?_
      simp only [FL]
      refine hr_take_w 12 (some 23) (.int .i64 (x : Nat)) rfl rfl (by kernel_rfl) (by kernel_rfl) (by kernel_rfl) rfl (fun W hW => by obtain ⟨h0, h1, h2⟩ := hW; go_simp) yH0 ?_
      simp only [FL]
      refine hr_take_w 13 (some 24) (.pointer (some ⟨pb, poff + x * 3, none⟩)) rfl rfl (by kernel_rfl) (by kernel_rfl) (by kernel_rfl) rfl (fun W hW => by obtain ⟨h0, h1, h2⟩ := hW; go_simp) yH0 ?_
      simp only [FL]
      refine hr_take_w 14 (some 25) (.pointer (some ⟨pb, poff + x * 3 + 2, none⟩)) rfl rfl (by kernel_rfl) (by kernel_rfl) (by kernel_rfl) rfl (fun W hW => by obtain ⟨h0, h1, h2⟩ := hW; go_simp) yH0 ?_
      simp only [FL]
      refine hr_take_w 15 (some 26) (.slice p.b.ao p.b.n p.b.cap) rfl rfl (by kernel_rfl) (by kernel_rfl) (by kernel_rfl) rfl (fun W hW => by obtain ⟨h0, h1, h2⟩ := hW; go_simp) yH0 ?_
      simp only [FL]
      refine hr_take_w 16 (some 27) (.agg #[.int .u64 (p.sq : Nat), .int .u64 (p.vw : Nat), .slice p.b.ao p.b.n p.b.cap]) rfl rfl (by kernel_rfl) (by kernel_rfl) (by kernel_rfl) rfl (fun W hW => by obtain ⟨h0, h1, h2⟩ := hW; go_simp) yH0 ?_
      simp only [FL]
      refine hr_ex 17 (some 28) rfl rfl (by kernel_rfl) rfl (R := fun v w' => ∃ g, v = .slice (some ⟨g, 0, none⟩) 1 1 ∧ Arr w' g 42 [.int .u64 (p.sq : Nat), .int .u64 (p.vw : Nat), .slice p.b.ao p.b.n p.b.cap] ∧ Below yv0.heap.size yv0 w') (⟨_, _, by go_simp, _, rfl, heap_alloc_new yv0 _, (Below.refl _ _).alloc (Nat.le_refl _) _⟩) ?_
      rintro v yv1 ⟨gb, rfl, A8, yC0⟩
      have yE1 := yE0.trans (yC0.mono yE0.size)
      have yH1 := yHS.out yv1 yE1
      refine ⟨yH1, ?_⟩
      simp only [FL]
      have R1 := GN.below yE1
      obtain ⟨v2, w3, ha, R2, B3⟩ := run_appG1 elP_fine tyRP 32 R1 (by have := B.size; have := yE1.size; omega) (ad := ⟨gb, 0, none⟩) (cp := 1) (y := p) (fun j q hq => by rw [Addr.add_lit, Nat.zero_add, Arr.cell A8]; exact hq) HPK.out (by rw [List.length_take]; omega) (by rw [List.length_take]; unfold maxLen; omega)
      have E5 : Below w.heap.size w w3 := (B.trans (yE1.mono B.size)).trans B3
      have yH3 := HSV.out w3 E5
      clear R1 A8 GN
      refine hr_ex 18 (some 29) rfl rfl (by kernel_rfl) rfl (R := fun v w' => v2 = v ∧ w3 = w') ⟨_, w3, by simp [execOp, Act.eval, resolve, invoke, builtin, ha], rfl, rfl⟩ ?_
      rintro v w' ⟨rfl, rfl⟩
      refine ⟨yH3, ?_⟩
      simp only [FL]
      have yH1 := yH3
      refine hr_take_w 19 (some 3) (v2) rfl rfl (by kernel_rfl) (by kernel_rfl) (by kernel_rfl) rfl (fun W hW => by obtain ⟨h0, h1, h2⟩ := hW; go_simp) yH1 ?_
      simp only [FL]
      refine wpAnyH_done (by kernel_rfl) ?_ _
      refine NoPanic.normal ?_
      go_wp2
      have RL : ∀ i : Value, i = .int .i64 ((x + 1 : Nat) : Int) → BkR w l v2 i w3 := fun i hi => BkR.mk (x + 1) hxx hi (by rw [HET.out]; exact R2) E5
      all_goals (try go_big_round)
      all_goals refine ⟨?_, ?_⟩
      all_goals first
        | exact RL _ (by go_num)
        | (simp [intOf]; omega)
    · have hxi : ¬ (x : Int) < (n : Int) := by omega
      have et : l.take x = l := List.take_of_length_le (by omega)
      rw [et] at GN
      obtain ⟨ro, rc, rfl, GF, -⟩ := GN.gl elP_fine B
      go_wp2
      go_ret
      rw [hl] at GF
      exact ⟨ro, n, rc, by first | rfl | (rw [hl] <;> rfl), GF, B⟩
end Go.Proofs.YtdcebokfnbgkaaaDoor
namespace Go.Proofs.YtdcebokfnbgkaaaDoor
open Go.RowKit
def prevF (l : List CA) : Nat → Nat
  | 0 => 0
  | k + 1 => match l[k]? with
    | some c => c.fr
    | none => 0
theorem prevF_succ {l : List CA} {k : Nat} (h : k < l.length) : prevF l (k + 1) = l[k].fr := by
  show (match l[k]? with | some c => c.fr | none => 0) = _
  rw [List.getElem?_eq_getElem h]
def LQ (w : World) (f : Int) (l : List CA) (R : Bool) (low i : Value) (wr : World) : Prop := ∃ k : Nat, k ≤ l.length ∧ i = .int .i64 (k : Nat) ∧ low = .int .u64 (lowC ((l.take k).map CA.cv) : Nat) ∧ R = riseC f (prevF l k) ((l.drop k).map CA.cv) ∧ Below w.heap.size w wr
theorem LQ.start {w wr : World} {f : Int} {l : List CA} (h : Below w.heap.size w wr) : LQ w f l (riseC f 0 (l.map CA.cv)) (.int .u64 0) (.int .i64 0) wr := ⟨0, Nat.zero_le _, rfl, rfl, rfl, h⟩
theorem rise_step {f : Int} {l : List CA} {k : Nat} (h : k < l.length) : riseC f (prevF l k) ((l.drop k).map CA.cv) = (decide (prevF l k < l[k].fr) && (isRep f l[k].fr && riseC f (prevF l (k + 1)) ((l.drop (k + 1)).map CA.cv))) := by
  rw [List.drop_eq_getElem_cons h, prevF_succ h]
  rfl
theorem LQ.next {w wr : World} {f : Int} {l : List CA} {R : Bool} {low i : Value} {k : Nat} (hk : k < l.length) (hi : i = .int .i64 ((k + 1 : Nat) : Int)) (h : low = .int .u64 (max (lowC ((l.take k).map CA.cv) : Int) (l[k].low : Int))) (hR : R = riseC f (prevF l k) ((l.drop k).map CA.cv)) (h1 : prevF l k < l[k].fr) (h2 : isRep f l[k].fr = true) (hb : Below w.heap.size w wr) : LQ w f l R low i wr := by
  refine ⟨k + 1, hk, hi, ?_, ?_, hb⟩
  · have e : lowC ((l.take (k + 1)).map CA.cv) = max (lowC ((l.take k).map CA.cv)) l[k].low := by
      rw [List.take_succ_eq_append_getElem hk, List.map_append, List.map_singleton, lowC_snoc]
      rfl
    rw [h, e]
    congr 1
    omega
  · rw [hR, rise_step hk, decide_eq_true h1, h2]
    rfl
def T3 (w : World) (low : Nat) (ps l : List PA) (top i : Value) (wr : World) : Prop := ∃ x : Nat, x ≤ l.length ∧ i = .int .i64 (x : Nat) ∧ top = .int .u64 (topP low (ps ++ l.take x) : Nat) ∧ Below w.heap.size w wr
def T2 (w : World) (low : Nat) (l : List CA) (top i : Value) (wr : World) : Prop := ∃ j : Nat, j ≤ l.length ∧ i = .int .i64 (j : Nat) ∧ top = .int .u64 (topP low (psK l j) : Nat) ∧ Below w.heap.size w wr
theorem T2.start {w wr : World} {low : Nat} {l : List CA} (h : Below w.heap.size w wr) : T2 w low l (.int .u64 (low : Nat)) (.int .i64 0) wr := ⟨0, Nat.zero_le _, rfl, rfl, h⟩
theorem T3.start {w wr : World} {low : Nat} {ps l : List PA} (h : Below w.heap.size w wr) : T3 w low ps l (.int .u64 (topP low ps : Nat)) (.int .i64 0) wr := ⟨0, Nat.zero_le _, rfl, by rw [List.take_zero, List.append_nil], h⟩
theorem T3.skip {w wr : World} {low : Nat} {ps l : List PA} {top i : Value} {x : Nat} (hx : x < l.length) (hi : i = .int .i64 ((x + 1 : Nat) : Int)) (hw : ¬ (low < l[x].sq ∧ l[x].sq ≤ low + 8)) (ht : top = .int .u64 (topP low (ps ++ l.take x) : Nat)) (h : Below w.heap.size w wr) : T3 w low ps l top i wr :=
  ⟨x + 1, hx, hi, by rw [bx_take hx, topP_snoc, if_neg hw]; exact ht, h⟩
theorem T3.put {w wr : World} {low : Nat} {ps l : List PA} {top i : Value} {x : Nat} (hx : x < l.length) (hi : i = .int .i64 ((x + 1 : Nat) : Int)) (hw : low < l[x].sq ∧ l[x].sq ≤ low + 8) (ht : top = .int .u64 (max (topP low (ps ++ l.take x) : Int) (l[x].sq : Int))) (h : Below w.heap.size w wr) : T3 w low ps l top i wr :=
  ⟨x + 1, hx, hi, by rw [bx_take hx, topP_snoc, if_pos hw, ht]; congr 1; omega, h⟩
theorem T3.done {w wr : World} {low : Nat} {l : List CA} {j x : Nat} (hj : j < l.length) {sl : List PA} (hsl : l[j].s.l = sl) (hx : sl.length ≤ x) {top i : Value} (hi : i = .int .i64 ((j + 1 : Nat) : Int)) (ht : top = .int .u64 (topP low (psK l j ++ sl.take x) : Nat)) (h : Below w.heap.size w wr) : T2 w low l top i wr := by
  rw [List.take_of_length_le hx, ← hsl, ← psK_succ hj] at ht
  exact ⟨j + 1, hj, hi, ht, h⟩
def bestC (o : Option PA) (q : Nat) (ro : Option Addr) (rc : Nat) : PA := match o with
  | some p => p
  | none => ⟨q, 0, ⟨ro, 32, rc, nullX⟩⟩
def B3 (w : World) (g q : Nat) (ro : Option Addr) (rc : Nat) (ps l : List PA) (so i : Value) (wr : World) : Prop := ∃ x : Nat, x ≤ l.length ∧ i = .int .i64 (x : Nat) ∧ so = .bool (bestP (ps ++ l.take x) q).isSome ∧ Arr wr g 42 (bestC (bestP (ps ++ l.take x) q) q ro rc).cells ∧ Below w.heap.size w wr
def B2 (w : World) (g q : Nat) (ro : Option Addr) (rc : Nat) (l : List CA) (so i : Value) (wr : World) : Prop := ∃ j : Nat, j ≤ l.length ∧ i = .int .i64 (j : Nat) ∧ so = .bool (bestP (psK l j) q).isSome ∧ Arr wr g 42 (bestC (bestP (psK l j) q) q ro rc).cells ∧ Below w.heap.size w wr
section
variable {w wr : World} {g q : Nat} {ro : Option Addr} {rc : Nat} {ps l : List PA} {so i : Value} {x : Nat}
theorem B3.start (h1 : Arr wr g 42 (bestC (bestP ps q) q ro rc).cells) (h : Below w.heap.size w wr) : B3 w g q ro rc ps l (.bool (bestP ps q).isSome) (.int .i64 0) wr := ⟨0, Nat.zero_le _, rfl, by rw [List.take_zero, List.append_nil], by rw [List.take_zero, List.append_nil]; exact h1, h⟩
theorem B3.skip (hx : x < l.length) (hi : i = .int .i64 ((x + 1 : Nat) : Int)) (hq : l[x].sq ≠ q) (hs : so = .bool (bestP (ps ++ l.take x) q).isSome) (h1 : Arr wr g 42 (bestC (bestP (ps ++ l.take x) q) q ro rc).cells) (h : Below w.heap.size w wr) : B3 w g q ro rc ps l so i wr := by
  have e : bestP (ps ++ l.take (x + 1)) q = bestP (ps ++ l.take x) q := by rw [bx_take hx, bestP_snoc, if_neg hq]
  exact ⟨x + 1, hx, hi, by rw [e]; exact hs, by rw [e]; exact h1, h⟩
theorem B3.stay (hx : x < l.length) (hi : i = .int .i64 ((x + 1 : Nat) : Int)) (hq : l[x].sq = q) {c : PA} (hc : bestP (ps ++ l.take x) q = some c) (hv : ¬ c.vw < l[x].vw) (hs : so = .bool true) (h1 : Arr wr g 42 c.cells) (h : Below w.heap.size w wr) : B3 w g q ro rc ps l so i wr := by
  have e : bestP (ps ++ l.take (x + 1)) q = some c := by
    rw [bx_take hx, bestP_snoc, if_pos hq, hc]
    show some (if c.vw < l[x].vw then l[x] else c) = _
    rw [if_neg hv]
  exact ⟨x + 1, hx, hi, by rw [e]; exact hs, by rw [e]; exact h1, h⟩
theorem B3.put (hx : x < l.length) (hi : i = .int .i64 ((x + 1 : Nat) : Int)) (hq : l[x].sq = q) (hc : stepB (bestP (ps ++ l.take x) q) l[x] = l[x]) (hs : so = .bool true) (h1 : Arr wr g 42 l[x].cells) (h : Below w.heap.size w wr) : B3 w g q ro rc ps l so i wr := by
  have e : bestP (ps ++ l.take (x + 1)) q = some l[x] := by rw [bx_take hx, bestP_snoc, if_pos hq, hc]
  exact ⟨x + 1, hx, hi, by rw [e]; exact hs, by rw [e]; exact h1, h⟩
end
theorem B2.start {w wr : World} {g q : Nat} {ro : Option Addr} {rc : Nat} {l : List CA} (h1 : Arr wr g 42 (bestC none q ro rc).cells) (h : Below w.heap.size w wr) : B2 w g q ro rc l (.bool false) (.int .i64 0) wr := ⟨0, Nat.zero_le _, rfl, rfl, h1, h⟩
theorem B3.done {w wr : World} {g q : Nat} {ro : Option Addr} {rc : Nat} {l : List CA} {j x : Nat} (hj : j < l.length) {sl : List PA} (hsl : l[j].s.l = sl) (hx : sl.length ≤ x) {so i : Value} (hi : i = .int .i64 ((j + 1 : Nat) : Int)) (hs : so = .bool (bestP (psK l j ++ sl.take x) q).isSome) (h1 : Arr wr g 42 (bestC (bestP (psK l j ++ sl.take x) q) q ro rc).cells) (h : Below w.heap.size w wr) : B2 w g q ro rc l so i wr := by
  rw [List.take_of_length_le hx, ← hsl, ← psK_succ hj] at hs h1
  exact ⟨j + 1, hj, hi, hs, h1, h⟩
theorem bestC_pv {ps : List PA} {q : Nat} {ro : Option Addr} {rc : Nat} : (bestC (bestP ps q) q ro rc).pv = pickV nullX ps q := by
  unfold bestC pickV
  cases hb : bestP ps q with
  | none => rfl
  | some p =>
    show (p.sq, p.vw, p.b.xs) = (q, p.vw, p.b.xs)
    rw [(bestP_some ps q p hb).2.1]
def RPk (w : World) (low top : Nat) (ps : List PA) (v' n : Value) (wr : World) : Prop := ∃ (x : Nat) (v : Value) (ys : List PA), v = v' ∧ low + x ≤ top ∧ n = .int .u64 ((x + 1 : Nat) : Int) ∧ GI elP 42 wr w.heap.size v ys ∧ ys.map PA.pv = (List.range x).map (fun i => pickV nullX ps (low + i + 1)) ∧ Below w.heap.size w wr
theorem RPk.mk {w wr : World} {low top : Nat} {ps : List PA} {v n : Value} (x : Nat) (ys : List PA) (h1 : low + x ≤ top) (h2 : n = .int .u64 ((x + 1 : Nat) : Int)) (h3 : GI elP 42 wr w.heap.size v ys) (h4 : ys.map PA.pv = (List.range x).map (fun i => pickV nullX ps (low + i + 1))) (h5 : Below w.heap.size w wr) : RPk w low top ps v n wr := ⟨x, v, ys, rfl, h1, h2, h3, h4, h5⟩
end Go.Proofs.YtdcebokfnbgkaaaDoor
namespace Go.Proofs.YtdcebokfnbgkaaaDoor
open Go.RowKit
theorem below_drewN (w : World) (q B : Nat) : Below B w (w.drewN q) := ⟨rfl, rfl, rfl, Nat.le_refl _, fun _ _ => rfl⟩
theorem lists_of (n : Nat) (xs ys : List Int) (h1 : xs.length = n) (h2 : ys.length = n) (h : ∀ j, j < n → xs.getD j 0 = ys.getD j 0) : xs = ys := by
  apply List.ext_getElem (by omega)
  intro j hj hj2
  have := h j (by omega)
  simpa [List.getD, hj, hj2] using this
theorem Sl.at {w : World} {ao : Option Addr} {n cap : Nat} {xs : List Int} (h : Sl w ao n cap xs) (hn : 0 < n) :
    ∃ b off, ao = some ⟨b, off, none⟩ ∧ ∀ i, i < n → w.cell? ⟨b, off + i, none⟩ = some (.int .u8 (xs.getD i 0)) := by
  cases ao with
  | none => have := (h.nil rfl).1; omega
  | some a =>
    obtain ⟨b, off, spot⟩ := a
    have hc := h.cell _ rfl 0 hn
    have hs : spot = none := by simpa [Addr.add] using World.cell?_spot hc
    subst hs
    exact ⟨b, off, rfl, fun i hi => by have := h.cell _ rfl i hi; rw [Addr.add_lit] at this; exact this⟩
set_option maxHeartbeats 800000 in
theorem same_any (w : World) (ao bo : Option Addr) (n cap m cap2 : Nat) (xs ys : List Int) (h : Sl w ao n cap xs) (h2 : Sl w bo m cap2 ys) :
    Calls Tryd.prog 13 #[.slice ao n cap, .slice bo m cap2] w fun e w' =>
      e = .returned (.bool (decide (xs = ys))) ∧ ∃ q, w' = w.drewN q := by
  have hl := h.len
  have hl2 := h2.len
  have hle := h.le
  have hmx := h.mx
  unfold maxLen at hmx
  by_cases hnm : n = m
  · subst hnm
    have hne : ((n : Int) != (n : Int)) = false := by simp
    go_enter Tryd.func13, Tryd.ntmps13
    go_wp2
    go_loopw [5] (fun i wr => ∃ k q : Nat, k ≤ n ∧ i = .int .i64 k ∧ wr = w.drewN q ∧ ∀ j, j < k → xs.getD j 0 = ys.getD j 0) (fun i _ => n - (intOf i).toNat)
    case atStart => exact ⟨0, 0, Nat.zero_le _, rfl, rfl, fun j hj => by omega⟩
    case round =>
      obtain ⟨k, q, hk, rfl, rfl, heq⟩ := hrel
      by_cases hlt : k < n
      · obtain ⟨b, off, rfl, hc⟩ := h.at (by omega)
        obtain ⟨b2, off2, rfl, hc2⟩ := h2.at (by omega)
        have c1 := hc k hlt
        have c2 := hc2 k hlt
        have hlt1 : (k : Int) < (n : Int) := by omega
        clear hc hc2
        have k1 : k < xs.length := by omega
        have k2 : k < ys.length := by omega
        by_cases he : xs[k] = ys[k]
        · have hb : (xs[k] != ys[k]) = false := by simp [he]
          have hE : Hid (xs[k] = ys[k]) := he
          clear he
          go_wp2
          go_quiet (fail)
          go_wp2
          go_roundw
          case rel =>
            refine ⟨k + 1, _, by omega, by go_num, rfl, fun j hj => ?_⟩
            by_cases hjk : j < k
            · exact heq j hjk
            · obtain rfl : j = k := by omega
              simpa [List.getD, k1, k2] using hE.out
          case measure => simp [intOf]; omega
        · have hb : (xs[k] != ys[k]) = true := by simp [he]
          have hE : Hid (¬ xs[k] = ys[k]) := he
          clear he
          go_wp2
          go_quiet (fail)
          go_wp2
          go_ret
          have hd : decide (xs = ys) = false := decide_eq_false (fun hx => by subst hx; exact hE.out rfl)
          rw [hd, World.drewN_drewN]
          exact ⟨rfl, _, rfl⟩
      · obtain rfl : k = n := by omega
        go_wp2
        go_ret
        have hd : decide (xs = ys) = true := decide_eq_true (lists_of k xs ys hl hl2 heq)
        rw [hd]
        exact ⟨rfl, _, rfl⟩
  · have hne : ((n : Int) != (m : Int)) = true := by simp; omega
    go_enter Tryd.func13, Tryd.ntmps13
    go_wp2
    go_ret
    have hd : decide (xs = ys) = false := decide_eq_false (fun hx => by subst hx; omega)
    rw [hd]
    exact ⟨rfl, 0, rfl⟩
end Go.Proofs.YtdcebokfnbgkaaaDoor

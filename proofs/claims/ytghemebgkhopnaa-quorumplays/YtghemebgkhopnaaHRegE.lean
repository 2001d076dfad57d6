/-
  Regions that draw their order: several operations with an effect, in whatever order they come up.
-/
import Derived.Test.YtghemebgkhopnaaHRegX
namespace Go
open Go.RowKit
/-- How many of the first n are not listed. -/
def unL (L : Array Bool) : Nat → Nat
  | 0 => 0
  | n + 1 => unL L n + (if L.getD n true then 0 else 1)
theorem unL_set_ge {L : Array Bool} {i : Nat} : ∀ n, n ≤ i → unL (L.setIfInBounds i true) n = unL L n
  | 0, _ => rfl
  | n + 1, h => by rw [unL, unL, unL_set_ge n (by omega), getD_set_ne true (by omega)]
theorem unL_set {L : Array Bool} {i : Nat} (hL : L.getD i true = false) : ∀ n, i < n → unL (L.setIfInBounds i true) n + 1 = unL L n
  | 0, h => by omega
  | n + 1, h => by
    rw [unL, unL]
    by_cases hn : n = i
    · subst hn
      have hlt : n < L.size := by
        by_cases h' : n < L.size
        · exact h'
        · simp [Array.getElem?_eq_none (Nat.le_of_not_lt h')] at hL
      have h2 : (L.setIfInBounds n true).getD n true = true := by simp [hlt]
      rw [unL_set_ge n (Nat.le_refl _), h2, hL]
      simp
    · have := unL_set hL n (by omega)
      rw [getD_set_ne true (fun e => hn e.symm)]
      omega
theorem unL_zero {L : Array Bool} : ∀ n, unL L n = 0 → ∀ i, i < n → L.getD i true = true
  | 0, _, i, h => by omega
  | n + 1, h0, i, h => by
    rw [unL] at h0
    by_cases hn : i = n
    · subst hn
      by_cases hc : L.getD i true = true
      · exact hc
      · rw [if_neg hc] at h0
        omega
    · exact unL_zero n (by omega) i (by omega)
/-- What an operation with an effect comes to. -/
def EffRun (P : Program) (o : Oper) (a : Act) (w : World) (R : Value → World → Prop) : Prop :=
  (∃ v w', (execOp a.eval o).run P w = .ok (.value v) w' ∧ R v w') ∨
  (∃ f args, (execOp a.eval o).run P w = .ok (.enter f args) w ∧ Calls P f args w fun e w' => ∃ v, e = .returned v ∧ R v w')
/-- All other slots are as they were. -/
structure EffSame (ops : Array Oper) (L0 : Array Bool) (a0 a : Act) : Prop where
  defers : a.defers = a0.defers
  size : a.tmps.size = a0.tmps.size
  same : ∀ k, (∀ i o, ops[i]? = some o → L0.getD i true = false → o.dst ≠ some k) → a.tmps[k]? = a0.tmps[k]?
/-- Operation i has come up: what its slot holds. -/
def EffHas (ops : Array Oper) (F : Nat → Value → World → Prop) (a : Act) (w : World) (i : Nat) : Prop := ∃ o d v, ops[i]? = some o ∧ o.dst = some d ∧ a.tmps[d]? = some v ∧ F i v w

theorem EffHas.at {ops : Array Oper} {F : Nat → Value → World → Prop} {a : Act} {w : World} {i : Nat} (h : EffHas ops F a w i) (d : Nat) (hd : (ops[i]?).bind (·.dst) = some d) : ∃ v, a.tmps[d]? = some v ∧ F i v w := by
  obtain ⟨o, d', v, ho, hd', ht, hF⟩ := h
  rw [ho] at hd
  have : d' = d := by
    have h2 : o.dst = some d := hd
    rw [hd'] at h2
    exact Option.some.inj h2
  subst this
  exact ⟨v, ht, hF⟩
/-- The region's shape, as a test. -/
def effOk (ops : Array Oper) (L0 : Array Bool) (n : Nat) : Bool :=
  (List.range ops.size).all (fun i => match ops[i]? with
    | none => true
    | some o => o.after.all (fun e => !Region.binds .any e || decide (e.on < i)) && (L0.getD i true || (match o.dst with | some d => decide (d < n) | none => false) && o.guard.isNone &&
        (List.range ops.size).all fun j => j == i || L0.getD j true || (match ops[j]? with | some o' => o'.dst != o.dst | none => true)))
theorem effOk_spec {ops : Array Oper} {L0 : Array Bool} {n : Nat} (h : effOk ops L0 n = true) (i : Nat) (o : Oper) (ho : ops[i]? = some o) : (∀ e ∈ o.after, Region.binds .any e = true → e.on < i) ∧
    (L0.getD i true = false → (∃ d, o.dst = some d ∧ d < n ∧ o.guard = none) ∧ ∀ j o', ops[j]? = some o' → L0.getD j true = false → o'.dst = o.dst → j = i) := by
  have h1 := List.all_eq_true.1 h i (List.mem_range.2 (Array.getElem?_eq_some_iff.1 ho).1)
  simp only [ho, Bool.and_eq_true] at h1
  obtain ⟨h2, h3⟩ := h1
  refine ⟨fun e he hb => ?_, fun hL => ?_⟩
  · have := Array.all_eq_true_iff_forall_mem.1 h2 e he
    simpa [hb] using this
  · rw [hL, Bool.false_or, Bool.and_eq_true, Bool.and_eq_true] at h3
    obtain ⟨⟨h4, h5⟩, h6⟩ := h3
    refine ⟨?_, fun j o' hj hLj he => ?_⟩
    · cases hd : o.dst with
      | none => rw [hd] at h4; simp at h4
      | some d => rw [hd] at h4; exact ⟨d, rfl, by simpa using h4, Option.isNone_iff_eq_none.1 h5⟩
    · have h7 := List.all_eq_true.1 h6 j (List.mem_range.2 (Array.getElem?_eq_some_iff.1 hj).1)
      by_cases hji : j = i
      · exact hji
      · rw [hLj, hj] at h7
        simp only [he, bne_self_eq_false, Bool.or_false, beq_iff_eq] at h7
        exact h7
/-- Slots that no such operation writes. -/
def effNot (ops : Array Oper) (L0 : Array Bool) (k : Nat) : Bool :=
  (List.range ops.size).all fun i => L0.getD i true || (match ops[i]? with | some o => o.dst != some k | none => true)
theorem EffSame.get {ops : Array Oper} {L0 : Array Bool} {a0 a : Act} (h : EffSame ops L0 a0 a) (k : Nat) {v : Value} (hk : effNot ops L0 k = true) (h0 : a0.tmps[k]? = some v) : a.tmps[k]? = some v := by
  rw [h.same k (fun i o ho hL he => ?_)]
  · exact h0
  · have h1 := List.all_eq_true.1 hk i (List.mem_range.2 (Array.getElem?_eq_some_iff.1 ho).1)
    rw [hL, ho] at h1
    simp [he] at h1
/-- Which are not listed. -/
def effAll (ops : Array Oper) (L0 : Array Bool) : List Nat := (List.range ops.size).filter fun i => !L0.getD i true
theorem mem_effAll {ops : Array Oper} {L0 : Array Bool} {i : Nat} {o : Oper} (ho : ops[i]? = some o) (hL : L0.getD i true = false) : i ∈ effAll ops L0 :=
  List.mem_filter.2 ⟨List.mem_range.2 (Array.getElem?_eq_some_iff.1 ho).1, by rw [hL]; rfl⟩

theorem wpAnyH_eff {P : Program} {ops : Array Oper} {S : World → Prop} {Q : Exit → Act → World → Prop} {a0 : Act} {W0 : World} {L0 : Array Bool} (F : Nat → Value → World → Prop)
    (mono : ∀ i v w w', F i v w → Below w.heap.size w w' → F i v w')
    (hS : ∀ w, Below W0.heap.size W0 w → S w)
    (hback : ∀ i o, ops[i]? = some o → ∀ e ∈ o.after, Region.binds .any e = true → e.on < i)
    (hd : ∀ i o, ops[i]? = some o → L0.getD i true = false → ∃ d, o.dst = some d ∧ d < a0.tmps.size ∧ o.guard = none)
    (inj : ∀ i j o o' d, ops[i]? = some o → ops[j]? = some o' → L0.getD i true = false → L0.getD j true = false → o.dst = some d → o'.dst = some d → i = j)
    (step : ∀ i o a w, ops[i]? = some o → L0.getD i true = false → EffSame ops L0 a0 a → Below W0.heap.size W0 w → (∀ j, o.after.any (fun e => Region.binds .any e && e.on == j) = true → L0.getD j true = false → EffHas ops F a w j) → EffRun P o a w (fun v w' => F i v w' ∧ Below w.heap.size w w'))
    (fin : ∀ a w, EffSame ops L0 a0 a → Below W0.heap.size W0 w → (∀ i, i < ops.size → L0.getD i true = false → EffHas ops F a w i) → Q .normal a w) :
    ∀ (fuel : Nat) (L : Array Bool) (a : Act) (w : World), unL L ops.size ≤ fuel → L.size = ops.size → L0.size = ops.size → EffSame ops L0 a0 a → Below W0.heap.size W0 w →
      (∀ i, i < ops.size → L.getD i true = true → L0.getD i true = true ∨ EffHas ops F a w i) → (∀ i, L0.getD i true = true → L.getD i true = true) → wpAnyH P .any ops (NoPanic Q) S fuel L a w := by
  intro fuel
  induction fuel with
  | zero =>
    intro L a w hu hL hL0 hs hb hh hm
    have hz := unL_zero ops.size (by omega : unL L ops.size = 0)
    have hr : Region.ready .any ops L = [] := by
      refine List.eq_nil_iff_forall_not_mem.2 fun i hi => ?_
      obtain ⟨h1, o, ho, -⟩ := mem_ready.1 hi
      have := hz i (Array.getElem?_eq_some_iff.1 ho).1
      rw [h1] at this
      simp at this
    refine wpAnyH_done hr (NoPanic.normal (fin a w hs hb fun i hi he => ?_)) 0
    rcases hh i hi (hz i hi) with h | h
    · rw [he] at h
      simp at h
    · exact h
  | succ fuel ih =>
    intro L a w hu hL hL0 hs hb hh hm
    refine ⟨fun hr => NoPanic.normal (fin a w hs hb fun i hi he => ?_), fun i hi => ?_⟩
    · have hall : ∀ n, ∀ i, i < n → i < ops.size → L.getD i true = true := by
        intro n
        induction n with
        | zero => intro i h; omega
        | succ n ihn =>
          intro i hi hlt
          by_cases hin : i < n
          · exact ihn i hin hlt
          · obtain rfl : i = n := by omega
            by_cases hc : L.getD i true = true
            · exact hc
            · exfalso
              have hf : L.getD i true = false := by simpa using hc
              exact hc (by
                have : i ∈ Region.ready .any ops L := mem_ready.2 ⟨hf, ops[i], Array.getElem?_eq_getElem hlt, fun e he hbi => by
                  have h1 := hback i ops[i] (Array.getElem?_eq_getElem hlt) e he hbi
                  have h2 := ihn e.on h1 (by omega)
                  have h3 : e.on < L.size := by omega
                  simpa [h3] using h2⟩
                rw [hr] at this
                simp at this)
      rcases hh i hi (hall (i + 1) i (by omega) hi) with h | h
      · rw [he] at h
        simp at h
      · exact h
    · obtain ⟨h1, o, ho, hdep⟩ := mem_ready.1 hi
      have hlt := (Array.getElem?_eq_some_iff.1 ho).1
      have he : L0.getD i true = false := by
        by_cases hc : L0.getD i true = true
        · have := hm i hc
          rw [h1] at this
          simp at this
        · simpa using hc
      obtain ⟨d, hdo, hdl, hg⟩ := hd i o ho he
      have hw : Region.wanted o (yielded ops a.tmps) = true := by simp [Region.wanted, hg]
      have hrun := step i o a w ho he hs hb (fun j hj hef => by
        obtain ⟨e, hem, hbj⟩ := Array.any_eq_true'.1 hj
        simp only [Bool.and_eq_true, beq_iff_eq] at hbj
        obtain ⟨hbi, rfl⟩ := hbj
        have h2 := hdep e hem hbi
        have h3 := hback i o ho e hem hbi
        have h4 : e.on < L.size := by omega
        rcases hh e.on (by omega) (by simpa [h4] using h2) with h | h
        · rw [hef] at h
          simp at h
        · exact h)
      have next : ∀ v w', F i v w' ∧ Below w.heap.size w w' → S w' ∧ wpAnyH P .any ops (NoPanic Q) S fuel (L.setIfInBounds i true) (a.put (some d) v) w' := by
        rintro v w' ⟨hF, hb'⟩
        have hbw := hb.trans (hb'.mono hb.size)
        have hsz : (a.put (some d) v).tmps = a.tmps.setIfInBounds d v := rfl
        refine ⟨hS w' hbw, ih _ _ _ ?_ (by simpa using hL) hL0 ⟨hs.defers, by rw [hsz, Array.size_setIfInBounds]; exact hs.size, fun k hk => ?_⟩ hbw (fun j hj hjL => ?_) (fun j hj => ?_)⟩
        · have := unL_set h1 ops.size hlt
          omega
        · have hne : d ≠ k := fun e => hk i o ho he (by rw [hdo, e])
          rw [hsz, Array.getElem?_setIfInBounds_ne hne]
          exact hs.same k hk
        · by_cases hji : j = i
          · subst hji
            refine .inr ⟨o, d, v, ho, hdo, ?_, hF⟩
            rw [hsz, Array.getElem?_setIfInBounds_self_of_lt (by rw [hs.size]; exact hdl)]
          · rw [getD_set_ne true (fun e => hji e.symm)] at hjL
            rcases hh j hj hjL with h | ⟨o', d', v', ho', hd', ht', hF'⟩
            · exact .inl h
            · by_cases hc : L0.getD j true = true
              · exact .inl hc
              · have hjf : L0.getD j true = false := by simpa using hc
                refine .inr ⟨o', d', v', ho', hd', ?_, mono j v' w w' hF' hb'⟩
                have hne : d ≠ d' := fun e => hji (inj j i o' o d ho' ho hjf he (by rw [hd', e]) hdo)
                rw [hsz, Array.getElem?_setIfInBounds_ne hne]
                exact ht'
        · by_cases hji : j = i
          · subst hji
            rw [he] at hj
            simp at hj
          · rw [getD_set_ne true (fun e => hji e.symm)]
            exact hm j hj
      rcases hrun with ⟨v, w', hr, hR⟩ | ⟨f, args, hr, hc⟩
      · unfold wpOp
        simp only [ho, hw, if_true, Oper.wp, hr, Oper.upon, hdo]
        exact .inl (next v w' hR)
      · unfold wpOp
        simp only [ho, hw, if_true, Oper.wp, hr, Oper.upon, hdo]
        refine .inl (hc.mono ?_)
        rintro e w' ⟨v, rfl, hR⟩
        exact next v w' hR
/-- The same, the region's shape tested. -/
theorem wpAnyH_effs {P : Program} {ops : Array Oper} {S : World → Prop} {Q : Exit → Act → World → Prop} {a0 : Act} {W0 : World} {L0 : Array Bool} {fuel : Nat} (F : Nat → Value → World → Prop) (is : List Nat) (n : Nat)
    (hok : effOk ops L0 n = true) (hall : effAll ops L0 = is) (hu : unL L0 ops.size ≤ fuel) (hsz : L0.size = ops.size) (hn : n = a0.tmps.size)
    (mono : ∀ i v w w', F i v w → Below w.heap.size w w' → F i v w')
    (hS : ∀ w, Below W0.heap.size W0 w → S w)
    (step : ∀ i ∈ is, ∀ o a w, ops[i]? = some o → EffSame ops L0 a0 a → Below W0.heap.size W0 w → (∀ j, o.after.any (fun e => Region.binds .any e && e.on == j) = true → L0.getD j true = false → EffHas ops F a w j) → EffRun P o a w (fun v w' => F i v w' ∧ Below w.heap.size w w'))
    (fin : ∀ a w, EffSame ops L0 a0 a → Below W0.heap.size W0 w → (∀ i ∈ is, EffHas ops F a w i) → Q .normal a w) : wpAnyH P .any ops (NoPanic Q) S fuel L0 a0 W0 :=
  wpAnyH_eff F mono hS (fun i o ho => (effOk_spec hok i o ho).1) (fun i o ho hL => by subst hn; exact ((effOk_spec hok i o ho).2 hL).1)
    (fun i j o o' d ho ho' hL hL' hd hd' => ((effOk_spec hok j o' ho').2 hL').2 i o ho hL (hd.trans hd'.symm))
    (fun i o a w ho hL hs hb hdep => step i (by rw [← hall]; exact mem_effAll ho hL) o a w ho hs hb hdep)
    (fun a w hs hb hh => fin a w hs hb fun i hi => by
      rw [← hall] at hi
      obtain ⟨h1, h2⟩ := List.mem_filter.1 hi
      exact hh i (List.mem_range.1 h1) (by simpa using h2))
    fuel L0 a0 W0 hu hsz hsz ⟨rfl, rfl, fun _ _ => rfl⟩ (Below.refl _ _) (fun _ _ h => .inl h) (fun _ h => h)
end Go

/-
  Texts in one: PWithKid, HRegE, PLf, PWithV, PWithK.
-/
import Derived.Test.YthlpccajnmkbjaaGreatDoorTabletOfQFL
import Derived.Test.YthlpccajnmkbjaaGreatDoorTabletOfQ12
import Derived.Test.YthlpccajnmkbjaaGreatDoorTabletOfQ4
import Derived.Test.YthlpccajnmkbjaaGreatDoorTabletOfQ3
import Derived.Test.YthlpccajnmkbjaaGreatDoorTabletOfQ13
namespace Go.Proofs.YthlpccajnmkbjaaGreatDoor
open Go.RowKit
set_option maxHeartbeats 1000000 in
set_option maxRecDepth 100000 in
theorem withKid_any (w : World) (l : List It) (d : Nd) (segs : List (List It)) (xs : List It) (h : Nod w l d segs xs) (i : Nat) (s A B s' : List It) (c : Cut lev l d.L segs xs i s A B) (u : Value) (hu : T w u s') (hs' : ∀ x ∈ s', lev x.k < d.L) (hn : l.length ≤ 100000) :
    Calls Tryz.prog 166 #[d.ptr, .int .i64 i, u] w (RetT w (A ++ (s' ++ B))) := by
  have hm := h.many
  have hc := h.nc
  have hle := c.le
  have hi : (i : Int) ≤ 100000 := by omega
  have hi0 : (0 : Int) ≤ (i : Int) := by omega
  have hw : IntKind.i64.wrap ((i : Int) + 1) = (i : Int) + 1 := by have := wrap_nat (k := i + 1) (by omega); simpa using this
  obtain ⟨po, rfl⟩ := hu.ptr
  unfold Nd.ptr
  go_enter Tryz.func166, Tryz.ntmps166
  go_wp2
  have HS : Hid (∀ V, Below w.heap.size w V → V.cell? ⟨d.b, 0, none⟩ = some (.int .i64 d.L) ∧ V.cell? ⟨d.b, 1, none⟩ = some (.slice d.ko d.ks.length d.kc) ∧ V.cell? ⟨d.b, 2, none⟩ = some (.slice d.vo d.vs.length d.vc) ∧ V.cell? ⟨d.b, 3, none⟩ = some (.slice d.co d.cs.length d.cc)) := fun V hV => ⟨(h.ok.below hV).c0, (h.ok.below hV).c1, (h.ok.below hV).c2, (h.ok.below hV).c3⟩
  have E0 : Below w.heap.size w w.drew := (Below.refl _ _).drew
  refine wp_region_noPanic ?_
  refine wp_region_held_drew (S := fun V => V.cell? ⟨d.b, 0, none⟩ = some (.int .i64 d.L) ∧ V.cell? ⟨d.b, 1, none⟩ = some (.slice d.ko d.ks.length d.kc) ∧ V.cell? ⟨d.b, 2, none⟩ = some (.slice d.vo d.vs.length d.vc) ∧ V.cell? ⟨d.b, 3, none⟩ = some (.slice d.co d.cs.length d.cc)) (by kernel_rfl) (HS.out _ E0) (fun H0 => ?_)
  obtain ⟨v0, hv0⟩ : ∃ v, v = w.drew := ⟨_, rfl⟩
  rw [← hv0] at H0 E0 ⊢
  clear hv0
  refine hr_take_w 0 (some 7) (.pointer (some ⟨d.b, 0, none⟩)) rfl rfl (by kernel_rfl) (by kernel_rfl) (by kernel_rfl) rfl (fun W hW => by obtain ⟨h0, h1, h2, h3⟩ := hW; go_simp) H0 ?_
  simp only [FL]
  refine hr_take_w 1 (some 8) (.pointer (some ⟨d.b, 0, none⟩)) rfl rfl (by kernel_rfl) (by kernel_rfl) (by kernel_rfl) rfl (fun W hW => by obtain ⟨h0, h1, h2, h3⟩ := hW; go_simp) H0 ?_
  simp only [FL]
  refine hr_take_w 2 (some 9) (.pointer (some ⟨d.b, 0, none⟩)) rfl rfl (by kernel_rfl) (by kernel_rfl) (by kernel_rfl) rfl (fun W hW => by obtain ⟨h0, h1, h2, h3⟩ := hW; go_simp) H0 ?_
  simp only [FL]
  refine hr_take_w 3 (some 10) (.int .i64 d.L) rfl rfl (by kernel_rfl) (by kernel_rfl) (by kernel_rfl) rfl (fun W hW => by obtain ⟨h0, h1, h2, h3⟩ := hW; go_simp) H0 ?_
  simp only [FL]
  refine hr_take_w 4 (some 11) (.pointer (some ⟨d.b, 0, none⟩)) rfl rfl (by kernel_rfl) (by kernel_rfl) (by kernel_rfl) rfl (fun W hW => by obtain ⟨h0, h1, h2, h3⟩ := hW; go_simp) H0 ?_
  simp only [FL]
  refine hr_take_w 5 (some 12) (.pointer (some ⟨d.b, 0, none⟩)) rfl rfl (by kernel_rfl) (by kernel_rfl) (by kernel_rfl) rfl (fun W hW => by obtain ⟨h0, h1, h2, h3⟩ := hW; go_simp) H0 ?_
  simp only [FL]
  refine hr_take_w 6 (some 13) (.pointer (some ⟨d.b, 1, none⟩)) rfl rfl (by kernel_rfl) (by kernel_rfl) (by kernel_rfl) rfl (fun W hW => by obtain ⟨h0, h1, h2, h3⟩ := hW; go_simp) H0 ?_
  simp only [FL]
  refine hr_take_w 7 (some 14) (.slice d.ko d.ks.length d.kc) rfl rfl (by kernel_rfl) (by kernel_rfl) (by kernel_rfl) rfl (fun W hW => by obtain ⟨h0, h1, h2, h3⟩ := hW; go_simp) H0 ?_
  simp only [FL]
  refine hr_take_w 8 (some 15) (.pointer (some ⟨d.b, 0, none⟩)) rfl rfl (by kernel_rfl) (by kernel_rfl) (by kernel_rfl) rfl (fun W hW => by obtain ⟨h0, h1, h2, h3⟩ := hW; go_simp) H0 ?_
  simp only [FL]
  refine hr_take_w 9 (some 16) (.pointer (some ⟨d.b, 0, none⟩)) rfl rfl (by kernel_rfl) (by kernel_rfl) (by kernel_rfl) rfl (fun W hW => by obtain ⟨h0, h1, h2, h3⟩ := hW; go_simp) H0 ?_
  simp only [FL]
  refine hr_take_w 10 (some 17) (.pointer (some ⟨d.b, 2, none⟩)) rfl rfl (by kernel_rfl) (by kernel_rfl) (by kernel_rfl) rfl (fun W hW => by obtain ⟨h0, h1, h2, h3⟩ := hW; go_simp) H0 ?_
  simp only [FL]
  refine hr_take_w 11 (some 18) (.slice d.vo d.vs.length d.vc) rfl rfl (by kernel_rfl) (by kernel_rfl) (by kernel_rfl) rfl (fun W hW => by obtain ⟨h0, h1, h2, h3⟩ := hW; go_simp) H0 ?_
  simp only [FL]
  refine hr_take_w 12 (some 19) (.pointer (some ⟨d.b, 0, none⟩)) rfl rfl (by kernel_rfl) (by kernel_rfl) (by kernel_rfl) rfl (fun W hW => by obtain ⟨h0, h1, h2, h3⟩ := hW; go_simp) H0 ?_
  simp only [FL]
  refine hr_take_w 13 (some 20) (.pointer (some ⟨d.b, 0, none⟩)) rfl rfl (by kernel_rfl) (by kernel_rfl) (by kernel_rfl) rfl (fun W hW => by obtain ⟨h0, h1, h2, h3⟩ := hW; go_simp) H0 ?_
  simp only [FL]
  refine hr_take_w 14 (some 21) (.pointer (some ⟨d.b, 3, none⟩)) rfl rfl (by kernel_rfl) (by kernel_rfl) (by kernel_rfl) rfl (fun W hW => by obtain ⟨h0, h1, h2, h3⟩ := hW; go_simp) H0 ?_
  simp only [FL]
  refine hr_take_w 15 (some 22) (.slice d.co d.cs.length d.cc) rfl rfl (by kernel_rfl) (by kernel_rfl) (by kernel_rfl) rfl (fun W hW => by obtain ⟨h0, h1, h2, h3⟩ := hW; go_simp) H0 ?_
  simp only [FL]
  refine hr_take_w 16 (some 23) (.int .i64 i) rfl rfl (by kernel_rfl) (by kernel_rfl) (by kernel_rfl) rfl (fun W hW => by obtain ⟨h0, h1, h2, h3⟩ := hW; go_simp) H0 ?_
  simp only [FL]
  refine hr_take_w 17 (some 24) (.int .i64 i) rfl rfl (by kernel_rfl) (by kernel_rfl) (by kernel_rfl) rfl (fun W hW => by obtain ⟨h0, h1, h2, h3⟩ := hW; go_simp) H0 ?_
  simp only [FL]
  refine hr_take_w 18 (some 25) (.int .i64 ((i + 1 : Nat) : Int)) rfl rfl (by kernel_rfl) (by kernel_rfl) (by kernel_rfl) rfl (fun W hW => by obtain ⟨h0, h1, h2, h3⟩ := hW; go_simp) H0 ?_
  simp only [FL]
  refine hr_take_w 19 (some 26) (.pointer po) rfl rfl (by kernel_rfl) (by kernel_rfl) (by kernel_rfl) rfl (fun W hW => by obtain ⟨h0, h1, h2, h3⟩ := hW; go_simp) H0 ?_
  simp only [FL]
  refine hr_ex 20 (some 27) rfl rfl (by kernel_rfl) rfl (R := fun v w' => ∃ g, v = .slice (some ⟨g, 0, none⟩) 1 1 ∧ VL w' (some ⟨g, 0, none⟩) 1 1 [.pointer po] ∧ Below v0.heap.size v0 w') (⟨_, _, by go_simp, _, rfl, VL.new v0 [.pointer po] 92 (by simp [maxLen]), (Below.refl _ _).alloc (Nat.le_refl _) _⟩) ?_
  rintro v v1 ⟨g0, rfl, G0, C0⟩
  have E1 := E0.trans (C0.mono E0.size)
  have H1 := HS.out v1 E1
  refine ⟨H1, ?_⟩
  simp only [FL]
  refine hr_call_w 21 (some 28) 168 #[.slice d.co d.cs.length d.cc, .int .i64 i, .int .i64 ((i + 1 : Nat) : Int), .slice (some ⟨g0, 0, none⟩) 1 1] rfl rfl (by kernel_rfl) rfl (by go_simp) (fun v w' => ∃ ro rc, v = .slice ro (i + 1 + (d.cs.length - (i + 1))) rc ∧ VL w' ro (i + 1 + (d.cs.length - (i + 1))) rc (d.cs.take i ++ [.pointer po] ++ d.cs.drop (i + 1)) ∧ Below v1.heap.size v1 w') ((chgN_any v1 d.co (some ⟨g0, 0, none⟩) d.cs.length d.cc 1 1 i (i + 1) d.cs [.pointer po] (h.ok.cl.below E1) G0 h.one (by intro y hy; rw [List.mem_singleton.1 hy]; exact hu.one) (by omega) (by omega) (by omega)).mono (by
    rintro e w' ⟨ro, rc, rfl, F, C⟩
    exact ⟨_, rfl, ro, rc, rfl, F, C⟩)) ?_
  rintro v v2 ⟨ro, rc, rfl, F1, C1⟩
  have E2 := E1.trans (C1.mono E1.size)
  have H2 := HS.out v2 E2
  clear G0
  refine ⟨H2, ?_⟩
  simp only [FL]
  refine hr_take_w 22 (some 29) (.agg #[.int .i64 d.L, .slice d.ko d.ks.length d.kc, .slice d.vo d.vs.length d.vc, .slice ro (i + 1 + (d.cs.length - (i + 1))) rc]) rfl rfl (by kernel_rfl) (by kernel_rfl) (by kernel_rfl) rfl (fun W hW => by obtain ⟨h0, h1, h2, h3⟩ := hW; go_simp) H2 ?_
  simp only [FL]
  refine hr_ex 23 (some 30) rfl rfl (by kernel_rfl) rfl (R := fun v w' => ∃ g, v = .pointer (some ⟨g, 0, none⟩) ∧ w'.heap[g]? = some (.cells #[.int .i64 d.L, .slice d.ko d.ks.length d.kc, .slice d.vo d.vs.length d.vc, .slice ro (i + 1 + (d.cs.length - (i + 1))) rc] 151) ∧ Below v2.heap.size v2 w') (⟨_, _, by go_simp, _, rfl, heap_alloc_new v2 _, (Below.refl _ _).alloc (Nat.le_refl _) _⟩) ?_
  rintro v v3 ⟨g2, rfl, G2, C2⟩
  have E3 := E2.trans (C2.mono E2.size)
  have H3 := HS.out v3 E3
  refine ⟨H3, ?_⟩
  simp only [FL]
  refine hr_take_w 24 (some 6) (.pointer (some ⟨g2, 0, none⟩)) rfl rfl (by kernel_rfl) (by kernel_rfl) (by kernel_rfl) rfl (fun W hW => by obtain ⟨h0, h1, h2, h3⟩ := hW; go_simp) H3 ?_
  simp only [FL]
  refine wpAnyH_done (by kernel_rfl) ?_ _
  refine NoPanic.normal ?_
  go_wp2
  go_ret
  have k3 := F1.below C2
  rw [show d.cs.take i ++ [.pointer po] ++ d.cs.drop (i + 1) = d.cs.take i ++ .pointer po :: d.cs.drop (i + 1) from by simp] at k3
  have hk := h.kids.below E3
  exact ⟨_, rfl, T.make G2 (h.ok.kl.below E3) (h.ok.vl.below E3) k3 (c.set h.shp.pos hs') h.ek h.ev ((hk.take i).app (Kids.cons (hu.below E3) (hk.drop (i + 1)))), E3⟩
end Go.Proofs.YthlpccajnmkbjaaGreatDoor
namespace Go
open Go.RowKit
def unL (L : Array Bool) : Nat → Nat
  | 0 => 0
  | n + 1 => unL L n + (if L.getD n true then 0 else 1)
theorem unL_set_ge {L : Array Bool} {i : Nat} : ∀ n, n ≤ i → unL (L.setIfInBounds i true) n = unL L n
  | 0, _ => rfl
  | n + 1, h => by rw [unL, unL, unL_set_ge n (by omega), getD_set_ne true (by omega)]
theorem unL_set {L : Array Bool} {i : Nat} (hL : L.getD i true = false) : ∀ n, i < n → unL (L.setIfInBounds i true) n + 1 = unL L n
  | 0, h => by omega
  | n + 1, h => by
    rw [unL, unL]
    by_cases hn : n = i
    · subst hn
      have hlt : n < L.size := by
        by_cases h' : n < L.size
        · exact h'
        · simp [Array.getElem?_eq_none (Nat.le_of_not_lt h')] at hL
      have h2 : (L.setIfInBounds n true).getD n true = true := by simp [hlt]
      rw [unL_set_ge n (Nat.le_refl _), h2, hL]
      simp
    · have := unL_set hL n (by omega)
      rw [getD_set_ne true (fun e => hn e.symm)]
      omega
theorem unL_zero {L : Array Bool} : ∀ n, unL L n = 0 → ∀ i, i < n → L.getD i true = true
  | 0, _, i, h => by omega
  | n + 1, h0, i, h => by
    rw [unL] at h0
    by_cases hn : i = n
    · subst hn
      by_cases hc : L.getD i true = true
      · exact hc
      · rw [if_neg hc] at h0
        omega
    · exact unL_zero n (by omega) i (by omega)
def EffRun (P : Program) (o : Oper) (a : Act) (w : World) (R : Value → World → Prop) : Prop :=
  (∃ v w', (execOp a.eval o).run P w = .ok (.value v) w' ∧ R v w') ∨
  (∃ f args, (execOp a.eval o).run P w = .ok (.enter f args) w ∧ Calls P f args w fun e w' => ∃ v, e = .returned v ∧ R v w')
structure EffSame (ops : Array Oper) (L0 : Array Bool) (a0 a : Act) : Prop where
  defers : a.defers = a0.defers
  size : a.tmps.size = a0.tmps.size
  same : ∀ k, (∀ i o, ops[i]? = some o → L0.getD i true = false → o.dst ≠ some k) → a.tmps[k]? = a0.tmps[k]?
def EffHas (ops : Array Oper) (F : Nat → Value → World → Prop) (a : Act) (w : World) (i : Nat) : Prop := ∃ o d v, ops[i]? = some o ∧ o.dst = some d ∧ a.tmps[d]? = some v ∧ F i v w
theorem EffHas.at {ops : Array Oper} {F : Nat → Value → World → Prop} {a : Act} {w : World} {i : Nat} (h : EffHas ops F a w i) (d : Nat) (hd : (ops[i]?).bind (·.dst) = some d) : ∃ v, a.tmps[d]? = some v ∧ F i v w := by
  obtain ⟨o, d', v, ho, hd', ht, hF⟩ := h
  rw [ho] at hd
  have : d' = d := by
    have h2 : o.dst = some d := hd
    rw [hd'] at h2
    exact Option.some.inj h2
  subst this
  exact ⟨v, ht, hF⟩
def effOk (ops : Array Oper) (L0 : Array Bool) (n : Nat) : Bool :=
  (List.range ops.size).all (fun i => match ops[i]? with
    | none => true
    | some o => o.after.all (fun e => !Region.binds .any e || decide (e.on < i)) && (L0.getD i true || (match o.dst with | some d => decide (d < n) | none => false) && o.guard.isNone &&
        (List.range ops.size).all fun j => j == i || L0.getD j true || (match ops[j]? with | some o' => o'.dst != o.dst | none => true)))
theorem effOk_spec {ops : Array Oper} {L0 : Array Bool} {n : Nat} (h : effOk ops L0 n = true) (i : Nat) (o : Oper) (ho : ops[i]? = some o) : (∀ e ∈ o.after, Region.binds .any e = true → e.on < i) ∧
    (L0.getD i true = false → (∃ d, o.dst = some d ∧ d < n ∧ o.guard = none) ∧ ∀ j o', ops[j]? = some o' → L0.getD j true = false → o'.dst = o.dst → j = i) := by
  have h1 := List.all_eq_true.1 h i (List.mem_range.2 (Array.getElem?_eq_some_iff.1 ho).1)
  simp only [ho, Bool.and_eq_true] at h1
  obtain ⟨h2, h3⟩ := h1
  refine ⟨fun e he hb => ?_, fun hL => ?_⟩
  · have := Array.all_eq_true_iff_forall_mem.1 h2 e he
    simpa [hb] using this
  · rw [hL, Bool.false_or, Bool.and_eq_true, Bool.and_eq_true] at h3
    obtain ⟨⟨h4, h5⟩, h6⟩ := h3
    refine ⟨?_, fun j o' hj hLj he => ?_⟩
    · cases hd : o.dst with
      | none => rw [hd] at h4; simp at h4
      | some d => rw [hd] at h4; exact ⟨d, rfl, by simpa using h4, Option.isNone_iff_eq_none.1 h5⟩
    · have h7 := List.all_eq_true.1 h6 j (List.mem_range.2 (Array.getElem?_eq_some_iff.1 hj).1)
      by_cases hji : j = i
      · exact hji
      · rw [hLj, hj] at h7
        simp only [he, bne_self_eq_false, Bool.or_false, beq_iff_eq] at h7
        exact h7
def effNot (ops : Array Oper) (L0 : Array Bool) (k : Nat) : Bool :=
  (List.range ops.size).all fun i => L0.getD i true || (match ops[i]? with | some o => o.dst != some k | none => true)
theorem EffSame.get {ops : Array Oper} {L0 : Array Bool} {a0 a : Act} (h : EffSame ops L0 a0 a) (k : Nat) {v : Value} (hk : effNot ops L0 k = true) (h0 : a0.tmps[k]? = some v) : a.tmps[k]? = some v := by
  rw [h.same k (fun i o ho hL he => ?_)]
  · exact h0
  · have h1 := List.all_eq_true.1 hk i (List.mem_range.2 (Array.getElem?_eq_some_iff.1 ho).1)
    rw [hL, ho] at h1
    simp [he] at h1
def effAll (ops : Array Oper) (L0 : Array Bool) : List Nat := (List.range ops.size).filter fun i => !L0.getD i true
theorem mem_effAll {ops : Array Oper} {L0 : Array Bool} {i : Nat} {o : Oper} (ho : ops[i]? = some o) (hL : L0.getD i true = false) : i ∈ effAll ops L0 :=
  List.mem_filter.2 ⟨List.mem_range.2 (Array.getElem?_eq_some_iff.1 ho).1, by rw [hL]; rfl⟩
theorem wpAnyH_eff {P : Program} {ops : Array Oper} {S : World → Prop} {Q : Exit → Act → World → Prop} {a0 : Act} {W0 : World} {L0 : Array Bool} (F : Nat → Value → World → Prop)
    (mono : ∀ i v w w', F i v w → Below w.heap.size w w' → F i v w')
    (hS : ∀ w, Below W0.heap.size W0 w → S w)
    (hback : ∀ i o, ops[i]? = some o → ∀ e ∈ o.after, Region.binds .any e = true → e.on < i)
    (hd : ∀ i o, ops[i]? = some o → L0.getD i true = false → ∃ d, o.dst = some d ∧ d < a0.tmps.size ∧ o.guard = none)
    (inj : ∀ i j o o' d, ops[i]? = some o → ops[j]? = some o' → L0.getD i true = false → L0.getD j true = false → o.dst = some d → o'.dst = some d → i = j)
    (step : ∀ i o a w, ops[i]? = some o → L0.getD i true = false → EffSame ops L0 a0 a → Below W0.heap.size W0 w → (∀ j, o.after.any (fun e => Region.binds .any e && e.on == j) = true → L0.getD j true = false → EffHas ops F a w j) → EffRun P o a w (fun v w' => F i v w' ∧ Below w.heap.size w w'))
    (fin : ∀ a w, EffSame ops L0 a0 a → Below W0.heap.size W0 w → (∀ i, i < ops.size → L0.getD i true = false → EffHas ops F a w i) → Q .normal a w) :
    ∀ (fuel : Nat) (L : Array Bool) (a : Act) (w : World), unL L ops.size ≤ fuel → L.size = ops.size → L0.size = ops.size → EffSame ops L0 a0 a → Below W0.heap.size W0 w →
      (∀ i, i < ops.size → L.getD i true = true → L0.getD i true = true ∨ EffHas ops F a w i) → (∀ i, L0.getD i true = true → L.getD i true = true) → wpAnyH P .any ops (NoPanic Q) S fuel L a w := by
  intro fuel
  induction fuel with
  | zero =>
    intro L a w hu hL hL0 hs hb hh hm
    have hz := unL_zero ops.size (by omega : unL L ops.size = 0)
    have hr : Region.ready .any ops L = [] := by
      refine List.eq_nil_iff_forall_not_mem.2 fun i hi => ?_
      obtain ⟨h1, o, ho, -⟩ := mem_ready.1 hi
      have := hz i (Array.getElem?_eq_some_iff.1 ho).1
      rw [h1] at this
      simp at this
    refine wpAnyH_done hr (NoPanic.normal (fin a w hs hb fun i hi he => ?_)) 0
    rcases hh i hi (hz i hi) with h | h
    · rw [he] at h
      simp at h
    · exact h
  | succ fuel ih =>
    intro L a w hu hL hL0 hs hb hh hm
    refine ⟨fun hr => NoPanic.normal (fin a w hs hb fun i hi he => ?_), fun i hi => ?_⟩
    · have hall : ∀ n, ∀ i, i < n → i < ops.size → L.getD i true = true := by
        intro n
        induction n with
        | zero => intro i h; omega
        | succ n ihn =>
          intro i hi hlt
          by_cases hin : i < n
          · exact ihn i hin hlt
          · obtain rfl : i = n := by omega
            by_cases hc : L.getD i true = true
            · exact hc
            · exfalso
              have hf : L.getD i true = false := by simpa using hc
              exact hc (by
                have : i ∈ Region.ready .any ops L := mem_ready.2 ⟨hf, ops[i], Array.getElem?_eq_getElem hlt, fun e he hbi => by
                  have h1 := hback i ops[i] (Array.getElem?_eq_getElem hlt) e he hbi
                  have h2 := ihn e.on h1 (by omega)
                  have h3 : e.on < L.size := by omega
                  simpa [h3] using h2⟩
                rw [hr] at this
                simp at this)
      rcases hh i hi (hall (i + 1) i (by omega) hi) with h | h
      · rw [he] at h
        simp at h
      · exact h
    · obtain ⟨h1, o, ho, hdep⟩ := mem_ready.1 hi
      have hlt := (Array.getElem?_eq_some_iff.1 ho).1
      have he : L0.getD i true = false := by
        by_cases hc : L0.getD i true = true
        · have := hm i hc
          rw [h1] at this
          simp at this
        · simpa using hc
      obtain ⟨d, hdo, hdl, hg⟩ := hd i o ho he
      have hw : Region.wanted o (yielded ops a.tmps) = true := by simp [Region.wanted, hg]
      have hrun := step i o a w ho he hs hb (fun j hj hef => by
        obtain ⟨e, hem, hbj⟩ := Array.any_eq_true'.1 hj
        simp only [Bool.and_eq_true, beq_iff_eq] at hbj
        obtain ⟨hbi, rfl⟩ := hbj
        have h2 := hdep e hem hbi
        have h3 := hback i o ho e hem hbi
        have h4 : e.on < L.size := by omega
        rcases hh e.on (by omega) (by simpa [h4] using h2) with h | h
        · rw [hef] at h
          simp at h
        · exact h)
      have next : ∀ v w', F i v w' ∧ Below w.heap.size w w' → S w' ∧ wpAnyH P .any ops (NoPanic Q) S fuel (L.setIfInBounds i true) (a.put (some d) v) w' := by
        rintro v w' ⟨hF, hb'⟩
        have hbw := hb.trans (hb'.mono hb.size)
        have hsz : (a.put (some d) v).tmps = a.tmps.setIfInBounds d v := rfl
        refine ⟨hS w' hbw, ih _ _ _ ?_ (by simpa using hL) hL0 ⟨hs.defers, by rw [hsz, Array.size_setIfInBounds]; exact hs.size, fun k hk => ?_⟩ hbw (fun j hj hjL => ?_) (fun j hj => ?_)⟩
        · have := unL_set h1 ops.size hlt
          omega
        · have hne : d ≠ k := fun e => hk i o ho he (by rw [hdo, e])
          rw [hsz, Array.getElem?_setIfInBounds_ne hne]
          exact hs.same k hk
        · by_cases hji : j = i
          · subst hji
            refine .inr ⟨o, d, v, ho, hdo, ?_, hF⟩
            rw [hsz, Array.getElem?_setIfInBounds_self_of_lt (by rw [hs.size]; exact hdl)]
          · rw [getD_set_ne true (fun e => hji e.symm)] at hjL
            rcases hh j hj hjL with h | ⟨o', d', v', ho', hd', ht', hF'⟩
            · exact .inl h
            · by_cases hc : L0.getD j true = true
              · exact .inl hc
              · have hjf : L0.getD j true = false := by simpa using hc
                refine .inr ⟨o', d', v', ho', hd', ?_, mono j v' w w' hF' hb'⟩
                have hne : d ≠ d' := fun e => hji (inj j i o' o d ho' ho hjf he (by rw [hd', e]) hdo)
                rw [hsz, Array.getElem?_setIfInBounds_ne hne]
                exact ht'
        · by_cases hji : j = i
          · subst hji
            rw [he] at hj
            simp at hj
          · rw [getD_set_ne true (fun e => hji e.symm)]
            exact hm j hj
      rcases hrun with ⟨v, w', hr, hR⟩ | ⟨f, args, hr, hc⟩
      · unfold wpOp
        simp only [ho, hw, if_true, Oper.wp, hr, Oper.upon, hdo]
        exact .inl (next v w' hR)
      · unfold wpOp
        simp only [ho, hw, if_true, Oper.wp, hr, Oper.upon, hdo]
        refine .inl (hc.mono ?_)
        rintro e w' ⟨v, rfl, hR⟩
        exact next v w' hR
theorem wpAnyH_effs {P : Program} {ops : Array Oper} {S : World → Prop} {Q : Exit → Act → World → Prop} {a0 : Act} {W0 : World} {L0 : Array Bool} {fuel : Nat} (F : Nat → Value → World → Prop) (is : List Nat) (n : Nat)
    (hok : effOk ops L0 n = true) (hall : effAll ops L0 = is) (hu : unL L0 ops.size ≤ fuel) (hsz : L0.size = ops.size) (hn : n = a0.tmps.size)
    (mono : ∀ i v w w', F i v w → Below w.heap.size w w' → F i v w')
    (hS : ∀ w, Below W0.heap.size W0 w → S w)
    (step : ∀ i ∈ is, ∀ o a w, ops[i]? = some o → EffSame ops L0 a0 a → Below W0.heap.size W0 w → (∀ j, o.after.any (fun e => Region.binds .any e && e.on == j) = true → L0.getD j true = false → EffHas ops F a w j) → EffRun P o a w (fun v w' => F i v w' ∧ Below w.heap.size w w'))
    (fin : ∀ a w, EffSame ops L0 a0 a → Below W0.heap.size W0 w → (∀ i ∈ is, EffHas ops F a w i) → Q .normal a w) : wpAnyH P .any ops (NoPanic Q) S fuel L0 a0 W0 :=
  wpAnyH_eff F mono hS (fun i o ho => (effOk_spec hok i o ho).1) (fun i o ho hL => by subst hn; exact ((effOk_spec hok i o ho).2 hL).1)
    (fun i j o o' d ho ho' hL hL' hd hd' => ((effOk_spec hok j o' ho').2 hL').2 i o ho hL (hd.trans hd'.symm))
    (fun i o a w ho hL hs hb hdep => step i (by rw [← hall]; exact mem_effAll ho hL) o a w ho hs hb hdep)
    (fun a w hs hb hh => fin a w hs hb fun i hi => by
      rw [← hall] at hi
      obtain ⟨h1, h2⟩ := List.mem_filter.1 hi
      exact hh i (List.mem_range.1 h1) (by simpa using h2))
    fuel L0 a0 W0 hu hsz hsz ⟨rfl, rfl, fun _ _ => rfl⟩ (Below.refl _ _) (fun _ _ h => .inl h) (fun _ h => h)
end Go
namespace Go.Proofs.YthlpccajnmkbjaaGreatDoor
open Go.RowKit
structure Lf (w : World) (g : Nat) (lv : Nat) (a b : Value) : Prop where
  c0 : w.cell? ⟨g, 0, none⟩ = some (.int .i64 lv)
  c1 : w.cell? ⟨g, 1, none⟩ = some a
  c2 : w.cell? ⟨g, 2, none⟩ = some b
theorem Lf.below {w w' : World} {g lv : Nat} {a b : Value} (h : Lf w g lv a b) (hb : Below w.heap.size w w') : Lf w' g lv a b :=
  ⟨(hb.cell (World.block_lt_of_cell? _ _ h.c0)).trans h.c0, (hb.cell (World.block_lt_of_cell? _ _ h.c1)).trans h.c1, (hb.cell (World.block_lt_of_cell? _ _ h.c2)).trans h.c2⟩
theorem Lf.new (w : World) (lv : Nat) (a b : Value) (t : TypeId) : Lf (w.alloc (.cells #[.int .i64 lv, a, b] t)) w.heap.size lv a b :=
  ⟨cell_of_row _ _ 0 _ _ _ (heap_alloc_new w _), cell_of_row _ _ 1 _ _ _ (heap_alloc_new w _), cell_of_row _ _ 2 _ _ _ (heap_alloc_new w _)⟩
open Go.RowKit
set_option maxHeartbeats 4000000 in
set_option maxRecDepth 100000 in
theorem withV_any (w : World) (x : It) (xo yo : Option Addr) (xn xc yn yc : Nat) (hx : Sl w xo xn xc x.k) (hy : Sl w yo yn yc x.v) (l : List It) (d : Nd) (segs : List (List It)) (xs : List It) (h : Nod w l d segs xs) (hs : Srt l) (hn : l.length ≤ 100000) (hL : Hid (d.L = lev x.k)) (hh : Hid (∃ y ∈ xs, y.k = x.k)) :
    Calls Tryz.prog 147 #[d.ptr, .agg #[.int .i64 (lev x.k), .slice xo xn xc, .slice yo yn yc]] w (RetT w (ins l x)) := by
  have hl1 : lev x.k ≤ d.L := by have := hL.out; omega
  have hl2 : d.L ≤ lev x.k := by have := hL.out; omega
  have hm := h.many
  have hnk1 := Nat.le_of_eq h.nk
  have hnk2 := Nat.le_of_eq h.nk.symm
  have hnv1 := Nat.le_of_eq h.nv
  have hnv2 := Nat.le_of_eq h.nv.symm
  have hnc1 := Nat.le_of_eq h.nc
  have hnc2 := Nat.le_of_eq h.nc.symm
  have hpos := h.shp.pos
  have CP : ∀ V, Below w.heap.size w V → Calls Tryz.prog 110 #[d.ptr, .slice xo xn xc] V (Found V d.ks x.k) := fun V hV => place_any V d (h.ok.below hV) xo xn xc x.k (hx.below hV) (h.rise hs) (by omega)
  unfold Nd.ptr at CP ⊢
  go_enter Tryz.func147, Tryz.ntmps147
  go_wp2_with fail
  obtain ⟨w0, hw0⟩ : ∃ V, V = (w.alloc (.cells #[.int .i64 (lev x.k), .slice xo xn xc, .slice yo yn yc] 178)) := ⟨_, rfl⟩
  have L0 : Lf w0 w.heap.size (lev x.k) (.slice xo xn xc) (.slice yo yn yc) := by rw [hw0]; exact Lf.new ..
  have B0 : Below w.heap.size w w0 := by rw [hw0]; exact (Below.refl _ w).alloc (Nat.le_refl _) _
  rw [← hw0]
  obtain ⟨g, hg⟩ : ∃ g, g = w.heap.size := ⟨_, rfl⟩
  rw [← hg] at L0 ⊢
  clear hw0 hg
  have N0 := h.below B0
  have aHS : Hid (∀ V, Below w0.heap.size w0 V → V.cell? ⟨d.b, 0, none⟩ = some (.int .i64 d.L) ∧ V.cell? ⟨d.b, 1, none⟩ = some (.slice d.ko d.ks.length d.kc) ∧ V.cell? ⟨d.b, 2, none⟩ = some (.slice d.vo d.vs.length d.vc) ∧ V.cell? ⟨d.b, 3, none⟩ = some (.slice d.co d.cs.length d.cc) ∧ V.cell? ⟨g, 0, none⟩ = some (.int .i64 (lev x.k)) ∧ V.cell? ⟨g, 1, none⟩ = some (.slice xo xn xc) ∧ V.cell? ⟨g, 2, none⟩ = some (.slice yo yn yc)) := fun V hV => ⟨(N0.ok.below hV).c0, (N0.ok.below hV).c1, (N0.ok.below hV).c2, (N0.ok.below hV).c3, (L0.below hV).c0, (L0.below hV).c1, (L0.below hV).c2⟩
  have aE0 : Below w0.heap.size w0 w0.drew := (Below.refl _ _).drew
  refine wp_region_noPanic ?_
  refine wp_region_held_drew (S := fun V => V.cell? ⟨d.b, 0, none⟩ = some (.int .i64 d.L) ∧ V.cell? ⟨d.b, 1, none⟩ = some (.slice d.ko d.ks.length d.kc) ∧ V.cell? ⟨d.b, 2, none⟩ = some (.slice d.vo d.vs.length d.vc) ∧ V.cell? ⟨d.b, 3, none⟩ = some (.slice d.co d.cs.length d.cc) ∧ V.cell? ⟨g, 0, none⟩ = some (.int .i64 (lev x.k)) ∧ V.cell? ⟨g, 1, none⟩ = some (.slice xo xn xc) ∧ V.cell? ⟨g, 2, none⟩ = some (.slice yo yn yc)) (by kernel_rfl) (aHS.out _ aE0) (fun aH0 => ?_)
  obtain ⟨av0, hv0⟩ : ∃ v, v = w0.drew := ⟨_, rfl⟩
  rw [← hv0] at aH0 aE0 ⊢
  clear hv0
  refine hr_take_w 0 (some 11) (.pointer (some ⟨d.b, 0, none⟩)) rfl rfl (by kernel_rfl) (by kernel_rfl) (by kernel_rfl) rfl (fun W hW => by obtain ⟨h0, h1, h2, h3, h4, h5, h6⟩ := hW; go_simp) aH0 ?_
  simp only [FL]
  refine hr_take_w 1 (some 12) (.bool false) rfl rfl (by kernel_rfl) (by kernel_rfl) (by kernel_rfl) rfl (fun W hW => by obtain ⟨h0, h1, h2, h3, h4, h5, h6⟩ := hW; go_simp) aH0 ?_
  simp only [FL]
  refine hr_take_w 2 (some 13) (.bool false) rfl rfl (by kernel_rfl) (by kernel_rfl) (by kernel_rfl) rfl (fun W hW => by obtain ⟨h0, h1, h2, h3, h4, h5, h6⟩ := hW; go_simp) aH0 ?_
  simp only [FL]
  refine hr_take_w 3 (some 14) (.pointer (some ⟨d.b, 0, none⟩)) rfl rfl (by kernel_rfl) (by kernel_rfl) (by kernel_rfl) rfl (fun W hW => by obtain ⟨h0, h1, h2, h3, h4, h5, h6⟩ := hW; go_simp) aH0 ?_
  simp only [FL]
  refine hr_take_w 4 (some 15) (.pointer (some ⟨d.b, 0, none⟩)) rfl rfl (by kernel_rfl) (by kernel_rfl) (by kernel_rfl) rfl (fun W hW => by obtain ⟨h0, h1, h2, h3, h4, h5, h6⟩ := hW; go_simp) aH0 ?_
  simp only [FL]
  refine hr_take_w 5 (some 16) (.pointer (some ⟨d.b, 0, none⟩)) rfl rfl (by kernel_rfl) (by kernel_rfl) (by kernel_rfl) rfl (fun W hW => by obtain ⟨h0, h1, h2, h3, h4, h5, h6⟩ := hW; go_simp) aH0 ?_
  simp only [FL]
  refine hr_take_w 6 (some 17) (.int .i64 d.L) rfl rfl (by kernel_rfl) (by kernel_rfl) (by kernel_rfl) rfl (fun W hW => by obtain ⟨h0, h1, h2, h3, h4, h5, h6⟩ := hW; go_simp) aH0 ?_
  simp only [FL]
  refine hr_take_w 7 (some 18) (.pointer (some ⟨g, 0, none⟩)) rfl rfl (by kernel_rfl) (by kernel_rfl) (by kernel_rfl) rfl (fun W hW => by obtain ⟨h0, h1, h2, h3, h4, h5, h6⟩ := hW; go_simp) aH0 ?_
  simp only [FL]
  refine hr_take_w 8 (some 19) (.int .i64 (lev x.k)) rfl rfl (by kernel_rfl) (by kernel_rfl) (by kernel_rfl) rfl (fun W hW => by obtain ⟨h0, h1, h2, h3, h4, h5, h6⟩ := hW; go_simp) aH0 ?_
  simp only [FL]
  refine hr_take_w 9 (some 20) (.bool false) rfl rfl (by kernel_rfl) (by kernel_rfl) (by kernel_rfl) rfl (fun W hW => by obtain ⟨h0, h1, h2, h3, h4, h5, h6⟩ := hW; go_simp) aH0 ?_
  simp only [FL]
  refine hr_take_w 10 (some 21) (.bool false) rfl rfl (by kernel_rfl) (by kernel_rfl) (by kernel_rfl) rfl (fun W hW => by obtain ⟨h0, h1, h2, h3, h4, h5, h6⟩ := hW; go_simp) aH0 ?_
  simp only [FL]
  refine wpAnyH_done (by kernel_rfl) ?_ _
  refine NoPanic.normal ?_
  have Ba : Below w.heap.size w av0 := B0.trans (aE0.mono B0.size)
  have La := L0.below aE0
  have lc1 := La.c1
  have CPa := CP av0 Ba
  clear CP
  go_wp2_with fail
  refine CPa.mono ?_
  rintro e w1 ⟨i, b, rfl, hat, B1'⟩
  have B1 : Below w.heap.size w w1 := Ba.trans (B1'.mono Ba.size)
  have N1 := h.below B1
  have L1 := La.below B1'
  clear CPa lc1
  obtain ⟨s, A, B, c, hA, hB, hB2, hf⟩ := h.found hs hat
  have hle := c.le
  have hw : IntKind.i64.wrap ((i : Int) + 1) = (i : Int) + 1 := by have := wrap_nat (k := i + 1) (by omega); simpa using this
  cases b with
  | false =>
    exfalso
    obtain ⟨y, hym, hyk⟩ := hh.out
    have hyl := h.shp.key y hym
    rw [c.el] at hyl
    rcases List.mem_append.1 hyl with hm1 | hm1
    · exact cmpL_lt_ne (hA y hm1) hyk
    · rcases List.mem_append.1 hm1 with hm1 | hm1
      · have h1 := c.ls y hm1
        rw [hyk, ← hL.out] at h1
        omega
      · exact cmpL_lt_ne (hB2 rfl y hm1) hyk.symm
  | true =>
  obtain ⟨hi, he⟩ := hf rfl
  have HE : Hid (xs[i].k = x.k) := he
  have hii : (i : Int) < (d.vs.length : Int) := by omega
  clear hf he hB2 hh
  go_wp2_with fail
  have bHS : Hid (∀ V, Below w1.heap.size w1 V → V.cell? ⟨d.b, 0, none⟩ = some (.int .i64 d.L) ∧ V.cell? ⟨d.b, 1, none⟩ = some (.slice d.ko d.ks.length d.kc) ∧ V.cell? ⟨d.b, 2, none⟩ = some (.slice d.vo d.vs.length d.vc) ∧ V.cell? ⟨d.b, 3, none⟩ = some (.slice d.co d.cs.length d.cc) ∧ V.cell? ⟨g, 0, none⟩ = some (.int .i64 (lev x.k)) ∧ V.cell? ⟨g, 1, none⟩ = some (.slice xo xn xc) ∧ V.cell? ⟨g, 2, none⟩ = some (.slice yo yn yc)) := fun V hV => ⟨(N1.ok.below hV).c0, (N1.ok.below hV).c1, (N1.ok.below hV).c2, (N1.ok.below hV).c3, (L1.below hV).c0, (L1.below hV).c1, (L1.below hV).c2⟩
  have bE0 : Below w1.heap.size w1 w1.drew := (Below.refl _ _).drew
  refine wp_region_noPanic ?_
  refine wp_region_held_drew (S := fun V => V.cell? ⟨d.b, 0, none⟩ = some (.int .i64 d.L) ∧ V.cell? ⟨d.b, 1, none⟩ = some (.slice d.ko d.ks.length d.kc) ∧ V.cell? ⟨d.b, 2, none⟩ = some (.slice d.vo d.vs.length d.vc) ∧ V.cell? ⟨d.b, 3, none⟩ = some (.slice d.co d.cs.length d.cc) ∧ V.cell? ⟨g, 0, none⟩ = some (.int .i64 (lev x.k)) ∧ V.cell? ⟨g, 1, none⟩ = some (.slice xo xn xc) ∧ V.cell? ⟨g, 2, none⟩ = some (.slice yo yn yc)) (by kernel_rfl) (bHS.out _ bE0) (fun bH0 => ?_)
  obtain ⟨bv0, hv0⟩ : ∃ v, v = w1.drew := ⟨_, rfl⟩
  rw [← hv0] at bH0 bE0 ⊢
  clear hv0
  refine hr_take_w 0 (some 49) (.pointer (some ⟨d.b, 0, none⟩)) rfl rfl (by kernel_rfl) (by kernel_rfl) (by kernel_rfl) rfl (fun W hW => by obtain ⟨h0, h1, h2, h3, h4, h5, h6⟩ := hW; go_simp) bH0 ?_
  simp only [FL]
  refine hr_take_w 1 (some 50) (.pointer (some ⟨d.b, 0, none⟩)) rfl rfl (by kernel_rfl) (by kernel_rfl) (by kernel_rfl) rfl (fun W hW => by obtain ⟨h0, h1, h2, h3, h4, h5, h6⟩ := hW; go_simp) bH0 ?_
  simp only [FL]
  refine hr_take_w 2 (some 51) (.pointer (some ⟨d.b, 0, none⟩)) rfl rfl (by kernel_rfl) (by kernel_rfl) (by kernel_rfl) rfl (fun W hW => by obtain ⟨h0, h1, h2, h3, h4, h5, h6⟩ := hW; go_simp) bH0 ?_
  simp only [FL]
  refine hr_take_w 3 (some 52) (.int .i64 d.L) rfl rfl (by kernel_rfl) (by kernel_rfl) (by kernel_rfl) rfl (fun W hW => by obtain ⟨h0, h1, h2, h3, h4, h5, h6⟩ := hW; go_simp) bH0 ?_
  simp only [FL]
  refine hr_take_w 4 (some 53) (.pointer (some ⟨g, 0, none⟩)) rfl rfl (by kernel_rfl) (by kernel_rfl) (by kernel_rfl) rfl (fun W hW => by obtain ⟨h0, h1, h2, h3, h4, h5, h6⟩ := hW; go_simp) bH0 ?_
  simp only [FL]
  refine hr_take_w 5 (some 54) (.int .i64 (lev x.k)) rfl rfl (by kernel_rfl) (by kernel_rfl) (by kernel_rfl) rfl (fun W hW => by obtain ⟨h0, h1, h2, h3, h4, h5, h6⟩ := hW; go_simp) bH0 ?_
  simp only [FL]
  refine hr_take_w 6 (some 55) (.bool false) rfl rfl (by kernel_rfl) (by kernel_rfl) (by kernel_rfl) rfl (fun W hW => by obtain ⟨h0, h1, h2, h3, h4, h5, h6⟩ := hW; go_simp) bH0 ?_
  simp only [FL]
  refine wpAnyH_done (by kernel_rfl) ?_ _
  refine NoPanic.normal ?_
  have Bb : Below w.heap.size w bv0 := B1.trans (bE0.mono B1.size)
  have Nb := h.below Bb
  have Lb := L1.below bE0
  go_wp2_with fail
  have cHS : Hid (∀ V, Below bv0.heap.size bv0 V → V.cell? ⟨d.b, 0, none⟩ = some (.int .i64 d.L) ∧ V.cell? ⟨d.b, 1, none⟩ = some (.slice d.ko d.ks.length d.kc) ∧ V.cell? ⟨d.b, 2, none⟩ = some (.slice d.vo d.vs.length d.vc) ∧ V.cell? ⟨d.b, 3, none⟩ = some (.slice d.co d.cs.length d.cc) ∧ V.cell? ⟨g, 0, none⟩ = some (.int .i64 (lev x.k)) ∧ V.cell? ⟨g, 1, none⟩ = some (.slice xo xn xc) ∧ V.cell? ⟨g, 2, none⟩ = some (.slice yo yn yc)) := fun V hV => ⟨(Nb.ok.below hV).c0, (Nb.ok.below hV).c1, (Nb.ok.below hV).c2, (Nb.ok.below hV).c3, (Lb.below hV).c0, (Lb.below hV).c1, (Lb.below hV).c2⟩
  have cE0 : Below bv0.heap.size bv0 bv0.drew := (Below.refl _ _).drew
  refine wp_region_noPanic ?_
  refine wp_region_held_drew (S := fun V => V.cell? ⟨d.b, 0, none⟩ = some (.int .i64 d.L) ∧ V.cell? ⟨d.b, 1, none⟩ = some (.slice d.ko d.ks.length d.kc) ∧ V.cell? ⟨d.b, 2, none⟩ = some (.slice d.vo d.vs.length d.vc) ∧ V.cell? ⟨d.b, 3, none⟩ = some (.slice d.co d.cs.length d.cc) ∧ V.cell? ⟨g, 0, none⟩ = some (.int .i64 (lev x.k)) ∧ V.cell? ⟨g, 1, none⟩ = some (.slice xo xn xc) ∧ V.cell? ⟨g, 2, none⟩ = some (.slice yo yn yc)) (by kernel_rfl) (cHS.out _ cE0) (fun cH0 => ?_)
  obtain ⟨cv0, hv0⟩ : ∃ v, v = bv0.drew := ⟨_, rfl⟩
  rw [← hv0] at cH0 cE0 ⊢
  clear hv0
  refine hr_take_w 0 (some 69) (.pointer (some ⟨d.b, 0, none⟩)) rfl rfl (by kernel_rfl) (by kernel_rfl) (by kernel_rfl) rfl (fun W hW => by obtain ⟨h0, h1, h2, h3, h4, h5, h6⟩ := hW; go_simp) cH0 ?_
  simp only [FL]
  refine hr_take_w 1 (some 70) (.pointer (some ⟨d.b, 0, none⟩)) rfl rfl (by kernel_rfl) (by kernel_rfl) (by kernel_rfl) rfl (fun W hW => by obtain ⟨h0, h1, h2, h3, h4, h5, h6⟩ := hW; go_simp) cH0 ?_
  simp only [FL]
  refine hr_take_w 2 (some 71) (.pointer (some ⟨d.b, 0, none⟩)) rfl rfl (by kernel_rfl) (by kernel_rfl) (by kernel_rfl) rfl (fun W hW => by obtain ⟨h0, h1, h2, h3, h4, h5, h6⟩ := hW; go_simp) cH0 ?_
  simp only [FL]
  refine hr_take_w 3 (some 72) (.int .i64 d.L) rfl rfl (by kernel_rfl) (by kernel_rfl) (by kernel_rfl) rfl (fun W hW => by obtain ⟨h0, h1, h2, h3, h4, h5, h6⟩ := hW; go_simp) cH0 ?_
  simp only [FL]
  refine hr_take_w 4 (some 73) (.pointer (some ⟨d.b, 0, none⟩)) rfl rfl (by kernel_rfl) (by kernel_rfl) (by kernel_rfl) rfl (fun W hW => by obtain ⟨h0, h1, h2, h3, h4, h5, h6⟩ := hW; go_simp) cH0 ?_
  simp only [FL]
  refine hr_take_w 5 (some 74) (.pointer (some ⟨d.b, 0, none⟩)) rfl rfl (by kernel_rfl) (by kernel_rfl) (by kernel_rfl) rfl (fun W hW => by obtain ⟨h0, h1, h2, h3, h4, h5, h6⟩ := hW; go_simp) cH0 ?_
  simp only [FL]
  refine hr_take_w 6 (some 75) (.pointer (some ⟨d.b, 1, none⟩)) rfl rfl (by kernel_rfl) (by kernel_rfl) (by kernel_rfl) rfl (fun W hW => by obtain ⟨h0, h1, h2, h3, h4, h5, h6⟩ := hW; go_simp) cH0 ?_
  simp only [FL]
  refine hr_take_w 7 (some 76) (.slice d.ko d.ks.length d.kc) rfl rfl (by kernel_rfl) (by kernel_rfl) (by kernel_rfl) rfl (fun W hW => by obtain ⟨h0, h1, h2, h3, h4, h5, h6⟩ := hW; go_simp) cH0 ?_
  simp only [FL]
  refine hr_take_w 8 (some 77) (.pointer (some ⟨d.b, 0, none⟩)) rfl rfl (by kernel_rfl) (by kernel_rfl) (by kernel_rfl) rfl (fun W hW => by obtain ⟨h0, h1, h2, h3, h4, h5, h6⟩ := hW; go_simp) cH0 ?_
  simp only [FL]
  refine hr_take_w 9 (some 78) (.pointer (some ⟨d.b, 0, none⟩)) rfl rfl (by kernel_rfl) (by kernel_rfl) (by kernel_rfl) rfl (fun W hW => by obtain ⟨h0, h1, h2, h3, h4, h5, h6⟩ := hW; go_simp) cH0 ?_
  simp only [FL]
  refine hr_take_w 10 (some 79) (.pointer (some ⟨d.b, 2, none⟩)) rfl rfl (by kernel_rfl) (by kernel_rfl) (by kernel_rfl) rfl (fun W hW => by obtain ⟨h0, h1, h2, h3, h4, h5, h6⟩ := hW; go_simp) cH0 ?_
  simp only [FL]
  refine hr_take_w 11 (some 80) (.slice d.vo d.vs.length d.vc) rfl rfl (by kernel_rfl) (by kernel_rfl) (by kernel_rfl) rfl (fun W hW => by obtain ⟨h0, h1, h2, h3, h4, h5, h6⟩ := hW; go_simp) cH0 ?_
  simp only [FL]
  refine hr_take_w 12 (some 81) (.int .i64 i) rfl rfl (by kernel_rfl) (by kernel_rfl) (by kernel_rfl) rfl (fun W hW => by obtain ⟨h0, h1, h2, h3, h4, h5, h6⟩ := hW; go_simp) cH0 ?_
  simp only [FL]
  refine hr_take_w 13 (some 82) (.int .i64 i) rfl rfl (by kernel_rfl) (by kernel_rfl) (by kernel_rfl) rfl (fun W hW => by obtain ⟨h0, h1, h2, h3, h4, h5, h6⟩ := hW; go_simp) cH0 ?_
  simp only [FL]
  refine hr_take_w 14 (some 83) (.int .i64 ((i + 1 : Nat) : Int)) rfl rfl (by kernel_rfl) (by kernel_rfl) (by kernel_rfl) rfl (fun W hW => by obtain ⟨h0, h1, h2, h3, h4, h5, h6⟩ := hW; go_simp) cH0 ?_
  simp only [FL]
  refine hr_take_w 15 (some 84) (.pointer (some ⟨g, 2, none⟩)) rfl rfl (by kernel_rfl) (by kernel_rfl) (by kernel_rfl) rfl (fun W hW => by obtain ⟨h0, h1, h2, h3, h4, h5, h6⟩ := hW; go_simp) cH0 ?_
  simp only [FL]
  refine hr_take_w 16 (some 85) (.slice yo yn yc) rfl rfl (by kernel_rfl) (by kernel_rfl) (by kernel_rfl) rfl (fun W hW => by obtain ⟨h0, h1, h2, h3, h4, h5, h6⟩ := hW; go_simp) cH0 ?_
  simp only [FL]
  refine hr_take_w 19 (some 88) (.pointer (some ⟨d.b, 0, none⟩)) rfl rfl (by kernel_rfl) (by kernel_rfl) (by kernel_rfl) rfl (fun W hW => by obtain ⟨h0, h1, h2, h3, h4, h5, h6⟩ := hW; go_simp) cH0 ?_
  simp only [FL]
  refine hr_take_w 20 (some 89) (.pointer (some ⟨d.b, 0, none⟩)) rfl rfl (by kernel_rfl) (by kernel_rfl) (by kernel_rfl) rfl (fun W hW => by obtain ⟨h0, h1, h2, h3, h4, h5, h6⟩ := hW; go_simp) cH0 ?_
  simp only [FL]
  refine hr_take_w 21 (some 90) (.pointer (some ⟨d.b, 3, none⟩)) rfl rfl (by kernel_rfl) (by kernel_rfl) (by kernel_rfl) rfl (fun W hW => by obtain ⟨h0, h1, h2, h3, h4, h5, h6⟩ := hW; go_simp) cH0 ?_
  simp only [FL]
  refine hr_take_w 22 (some 91) (.slice d.co d.cs.length d.cc) rfl rfl (by kernel_rfl) (by kernel_rfl) (by kernel_rfl) rfl (fun W hW => by obtain ⟨h0, h1, h2, h3, h4, h5, h6⟩ := hW; go_simp) cH0 ?_
  simp only [FL]
  refine hr_ex 17 (some 86) rfl rfl (by kernel_rfl) rfl (R := fun v w' => ∃ g, v = .slice (some ⟨g, 0, none⟩) 1 1 ∧ VL w' (some ⟨g, 0, none⟩) 1 1 [.slice yo yn yc] ∧ Below cv0.heap.size cv0 w') (⟨_, _, by go_simp, _, rfl, VL.new cv0 [.slice yo yn yc] 40 (by simp [maxLen]), (Below.refl _ _).alloc (Nat.le_refl _) _⟩) ?_
  rintro v cv1 ⟨cg0, rfl, cG0, cC0⟩
  have cE1 := cE0.trans (cC0.mono cE0.size)
  have cH1 := cHS.out cv1 cE1
  refine ⟨cH1, ?_⟩
  simp only [FL]
  refine hr_call_w 18 (some 87) 167 #[.slice d.vo d.vs.length d.vc, .int .i64 i, .int .i64 ((i + 1 : Nat) : Int), .slice (some ⟨cg0, 0, none⟩) 1 1] rfl rfl (by kernel_rfl) rfl (by go_simp) (fun v w' => ∃ ro rc, v = .slice ro (i + 1 + (d.vs.length - (i + 1))) rc ∧ VL w' ro (i + 1 + (d.vs.length - (i + 1))) rc ((d.vs.map Part.val).take i ++ [.slice yo yn yc] ++ (d.vs.map Part.val).drop (i + 1)) ∧ Below cv1.heap.size cv1 w') ((chgK_any cv1 d.vo (some ⟨cg0, 0, none⟩) d.vs.length d.vc 1 1 i (i + 1) (d.vs.map Part.val) [.slice yo yn yc] (Nb.ok.vl.vl.below cE1) cG0 (part_one _) (by intro y hy; rw [List.mem_singleton.1 hy]; rfl) (by omega) (by omega) (by omega)).mono (by
    rintro e w' ⟨ro, rc, rfl, F, C⟩
    exact ⟨_, rfl, ro, rc, rfl, F, C⟩)) ?_
  rintro v cv2 ⟨ro, rc, rfl, cF1, cC1⟩
  have cE2 := cE1.trans (cC1.mono cE1.size)
  have cH2 := cHS.out cv2 cE2
  clear cG0
  refine ⟨cH2, ?_⟩
  simp only [FL]
  refine hr_take_w 23 (some 92) (.agg #[.int .i64 d.L, .slice d.ko d.ks.length d.kc, .slice ro (i + 1 + (d.vs.length - (i + 1))) rc, .slice d.co d.cs.length d.cc]) rfl rfl (by kernel_rfl) (by kernel_rfl) (by kernel_rfl) rfl (fun W hW => by obtain ⟨h0, h1, h2, h3, h4, h5, h6⟩ := hW; go_simp) cH2 ?_
  simp only [FL]
  refine hr_ex 24 (some 93) rfl rfl (by kernel_rfl) rfl (R := fun v w' => ∃ g, v = .pointer (some ⟨g, 0, none⟩) ∧ w'.heap[g]? = some (.cells #[.int .i64 d.L, .slice d.ko d.ks.length d.kc, .slice ro (i + 1 + (d.vs.length - (i + 1))) rc, .slice d.co d.cs.length d.cc] 151) ∧ Below cv2.heap.size cv2 w') (⟨_, _, by go_simp, _, rfl, heap_alloc_new cv2 _, (Below.refl _ _).alloc (Nat.le_refl _) _⟩) ?_
  rintro v cv3 ⟨cg2, rfl, cG2, cC2⟩
  have cE3 := cE2.trans (cC2.mono cE2.size)
  have cH3 := cHS.out cv3 cE3
  refine ⟨cH3, ?_⟩
  simp only [FL]
  refine hr_take_w 25 (some 4) (.pointer (some ⟨cg2, 0, none⟩)) rfl rfl (by kernel_rfl) (by kernel_rfl) (by kernel_rfl) rfl (fun W hW => by obtain ⟨h0, h1, h2, h3, h4, h5, h6⟩ := hW; go_simp) cH3 ?_
  simp only [FL]
  refine wpAnyH_done (by kernel_rfl) ?_ _
  refine NoPanic.normal ?_
  have Bc : Below w.heap.size w cv3 := Bb.trans (cE3.mono Bb.size)
  have Nc := h.below Bc
  have k3 := cF1.below cC2
  obtain ⟨B', hBB, hshp⟩ := c.swap hi (x := x) (by rw [← hL.out])
  have V1 := KL.of (ps := d.vs.take i ++ (⟨yo, yn, yc, x.v⟩ : Part) :: d.vs.drop (i + 1)) k3 (by simp [Part.val, List.map_take, List.map_drop]) (by
    intro q hq
    rcases List.mem_append.1 hq with hq | hq
    · exact Nc.ok.vl.sl q (List.mem_of_mem_take hq)
    · rcases List.mem_cons.1 hq with rfl | hq
      · exact hy.below Bc
      · exact Nc.ok.vl.sl q (List.mem_of_mem_drop hq))
  have TT : T cv3 (.pointer (some ⟨cg2, 0, none⟩)) (ins l x) := by
    have e : ins l x = A ++ (s ++ x :: B') := by
      rw [ins_at (A := A ++ s) (B := B') (y := xs[i]) hs (by rw [c.el, hBB]; simp) HE.out]
      simp
    rw [e]
    refine T.make cG2 Nc.ok.kl V1 Nc.ok.cl hshp ?_ ?_ Nc.kids
    · have e2 : (xs.map It.k).drop i = x.k :: (xs.map It.k).drop (i + 1) := by
        rw [List.drop_eq_getElem_cons (by simpa using hi)]
        simp [HE.out]
      rw [Nc.ek, List.map_append, List.map_cons, List.map_take, List.map_drop, ← e2, List.take_append_drop]
    · simp [List.map_take, List.map_drop, Nc.ev]
  clear k3 V1 hshp hBB
  go_wp2
  go_ret
  exact ⟨_, rfl, TT, Bc⟩
open Go.RowKit
set_option maxHeartbeats 4000000 in
set_option maxRecDepth 100000 in
theorem withK_any (w : World) (x : It) (xo yo : Option Addr) (xn xc yn yc : Nat) (hx : Sl w xo xn xc x.k) (l : List It) (d : Nd) (segs : List (List It)) (xs : List It) (h : Nod w l d segs xs) (hs : Srt l) (hn : l.length ≤ 100000) (hL : lev x.k < d.L)
    (ih : ∀ (V : World) (u : Value) (s : List It), s.length < l.length → Below w.heap.size w V → T V u s → Srt s → Calls Tryz.prog 147 #[u, .agg #[.int .i64 (lev x.k), .slice xo xn xc, .slice yo yn yc]] V (RetT V (ins s x))) :
    Calls Tryz.prog 147 #[d.ptr, .agg #[.int .i64 (lev x.k), .slice xo xn xc, .slice yo yn yc]] w (RetT w (ins l x)) := by
  have hl1 : lev x.k ≤ d.L := by omega
  have hWK : ∀ (i : Nat) (s A B : List It) (V : World) (z : Option Addr), Cut lev l d.L segs xs i s A B → Below w.heap.size w V → T V (.pointer z) (ins s x) → Calls Tryz.prog 166 #[d.ptr, .int .i64 i, .pointer z] V (RetT V (A ++ (ins s x ++ B))) := fun i s A B V z c hV hz => withKid_any V l d segs xs (h.below hV) i s A B (ins s x) c (.pointer z) hz (ins_lev c.ls hL) hn
  unfold Nd.ptr at hWK
  have hm := h.many
  have hnk1 := Nat.le_of_eq h.nk
  have hnk2 := Nat.le_of_eq h.nk.symm
  have hnv1 := Nat.le_of_eq h.nv
  have hnv2 := Nat.le_of_eq h.nv.symm
  have hnc1 := Nat.le_of_eq h.nc
  have hnc2 := Nat.le_of_eq h.nc.symm
  have hpos := h.shp.pos
  have CP : ∀ V, Below w.heap.size w V → Calls Tryz.prog 110 #[d.ptr, .slice xo xn xc] V (Found V d.ks x.k) := fun V hV => place_any V d (h.ok.below hV) xo xn xc x.k (hx.below hV) (h.rise hs) (by omega)
  unfold Nd.ptr at CP ⊢
  go_enter Tryz.func147, Tryz.ntmps147
  go_wp2_with fail
  obtain ⟨w0, hw0⟩ : ∃ V, V = (w.alloc (.cells #[.int .i64 (lev x.k), .slice xo xn xc, .slice yo yn yc] 178)) := ⟨_, rfl⟩
  have L0 : Lf w0 w.heap.size (lev x.k) (.slice xo xn xc) (.slice yo yn yc) := by rw [hw0]; exact Lf.new ..
  have B0 : Below w.heap.size w w0 := by rw [hw0]; exact (Below.refl _ w).alloc (Nat.le_refl _) _
  rw [← hw0]
  obtain ⟨g, hg⟩ : ∃ g, g = w.heap.size := ⟨_, rfl⟩
  rw [← hg] at L0 ⊢
  clear hw0 hg
  have N0 := h.below B0
  have aHS : Hid (∀ V, Below w0.heap.size w0 V → V.cell? ⟨d.b, 0, none⟩ = some (.int .i64 d.L) ∧ V.cell? ⟨d.b, 1, none⟩ = some (.slice d.ko d.ks.length d.kc) ∧ V.cell? ⟨d.b, 2, none⟩ = some (.slice d.vo d.vs.length d.vc) ∧ V.cell? ⟨d.b, 3, none⟩ = some (.slice d.co d.cs.length d.cc) ∧ V.cell? ⟨g, 0, none⟩ = some (.int .i64 (lev x.k)) ∧ V.cell? ⟨g, 1, none⟩ = some (.slice xo xn xc) ∧ V.cell? ⟨g, 2, none⟩ = some (.slice yo yn yc)) := fun V hV => ⟨(N0.ok.below hV).c0, (N0.ok.below hV).c1, (N0.ok.below hV).c2, (N0.ok.below hV).c3, (L0.below hV).c0, (L0.below hV).c1, (L0.below hV).c2⟩
  have aE0 : Below w0.heap.size w0 w0.drew := (Below.refl _ _).drew
  refine wp_region_noPanic ?_
  refine wp_region_held_drew (S := fun V => V.cell? ⟨d.b, 0, none⟩ = some (.int .i64 d.L) ∧ V.cell? ⟨d.b, 1, none⟩ = some (.slice d.ko d.ks.length d.kc) ∧ V.cell? ⟨d.b, 2, none⟩ = some (.slice d.vo d.vs.length d.vc) ∧ V.cell? ⟨d.b, 3, none⟩ = some (.slice d.co d.cs.length d.cc) ∧ V.cell? ⟨g, 0, none⟩ = some (.int .i64 (lev x.k)) ∧ V.cell? ⟨g, 1, none⟩ = some (.slice xo xn xc) ∧ V.cell? ⟨g, 2, none⟩ = some (.slice yo yn yc)) (by kernel_rfl) (aHS.out _ aE0) (fun aH0 => ?_)
  obtain ⟨av0, hv0⟩ : ∃ v, v = w0.drew := ⟨_, rfl⟩
  rw [← hv0] at aH0 aE0 ⊢
  clear hv0
  refine hr_take_w 0 (some 11) (.pointer (some ⟨d.b, 0, none⟩)) rfl rfl (by kernel_rfl) (by kernel_rfl) (by kernel_rfl) rfl (fun W hW => by obtain ⟨h0, h1, h2, h3, h4, h5, h6⟩ := hW; go_simp) aH0 ?_
  simp only [FL]
  refine hr_take_w 1 (some 12) (.bool false) rfl rfl (by kernel_rfl) (by kernel_rfl) (by kernel_rfl) rfl (fun W hW => by obtain ⟨h0, h1, h2, h3, h4, h5, h6⟩ := hW; go_simp) aH0 ?_
  simp only [FL]
  refine hr_take_w 2 (some 13) (.bool false) rfl rfl (by kernel_rfl) (by kernel_rfl) (by kernel_rfl) rfl (fun W hW => by obtain ⟨h0, h1, h2, h3, h4, h5, h6⟩ := hW; go_simp) aH0 ?_
  simp only [FL]
  refine hr_take_w 3 (some 14) (.pointer (some ⟨d.b, 0, none⟩)) rfl rfl (by kernel_rfl) (by kernel_rfl) (by kernel_rfl) rfl (fun W hW => by obtain ⟨h0, h1, h2, h3, h4, h5, h6⟩ := hW; go_simp) aH0 ?_
  simp only [FL]
  refine hr_take_w 4 (some 15) (.pointer (some ⟨d.b, 0, none⟩)) rfl rfl (by kernel_rfl) (by kernel_rfl) (by kernel_rfl) rfl (fun W hW => by obtain ⟨h0, h1, h2, h3, h4, h5, h6⟩ := hW; go_simp) aH0 ?_
  simp only [FL]
  refine hr_take_w 5 (some 16) (.pointer (some ⟨d.b, 0, none⟩)) rfl rfl (by kernel_rfl) (by kernel_rfl) (by kernel_rfl) rfl (fun W hW => by obtain ⟨h0, h1, h2, h3, h4, h5, h6⟩ := hW; go_simp) aH0 ?_
  simp only [FL]
  refine hr_take_w 6 (some 17) (.int .i64 d.L) rfl rfl (by kernel_rfl) (by kernel_rfl) (by kernel_rfl) rfl (fun W hW => by obtain ⟨h0, h1, h2, h3, h4, h5, h6⟩ := hW; go_simp) aH0 ?_
  simp only [FL]
  refine hr_take_w 7 (some 18) (.pointer (some ⟨g, 0, none⟩)) rfl rfl (by kernel_rfl) (by kernel_rfl) (by kernel_rfl) rfl (fun W hW => by obtain ⟨h0, h1, h2, h3, h4, h5, h6⟩ := hW; go_simp) aH0 ?_
  simp only [FL]
  refine hr_take_w 8 (some 19) (.int .i64 (lev x.k)) rfl rfl (by kernel_rfl) (by kernel_rfl) (by kernel_rfl) rfl (fun W hW => by obtain ⟨h0, h1, h2, h3, h4, h5, h6⟩ := hW; go_simp) aH0 ?_
  simp only [FL]
  refine hr_take_w 9 (some 20) (.bool false) rfl rfl (by kernel_rfl) (by kernel_rfl) (by kernel_rfl) rfl (fun W hW => by obtain ⟨h0, h1, h2, h3, h4, h5, h6⟩ := hW; go_simp) aH0 ?_
  simp only [FL]
  refine hr_take_w 10 (some 21) (.bool false) rfl rfl (by kernel_rfl) (by kernel_rfl) (by kernel_rfl) rfl (fun W hW => by obtain ⟨h0, h1, h2, h3, h4, h5, h6⟩ := hW; go_simp) aH0 ?_
  simp only [FL]
  refine wpAnyH_done (by kernel_rfl) ?_ _
  refine NoPanic.normal ?_
  have Ba : Below w.heap.size w av0 := B0.trans (aE0.mono B0.size)
  have La := L0.below aE0
  have lc1 := La.c1
  have CPa := CP av0 Ba
  clear CP
  go_wp2_with fail
  refine CPa.mono ?_
  rintro e w1 ⟨i, b, rfl, hat, B1'⟩
  have B1 : Below w.heap.size w w1 := Ba.trans (B1'.mono Ba.size)
  have N1 := h.below B1
  have L1 := La.below B1'
  clear CPa lc1
  obtain ⟨s, A, B, c, hA, hB, hB2, hf⟩ := h.found hs hat
  have hle := c.le
  have hw : IntKind.i64.wrap ((i : Int) + 1) = (i : Int) + 1 := by have := wrap_nat (k := i + 1) (by omega); simpa using this
  cases b with
  | true =>
    exfalso
    obtain ⟨hi, he⟩ := hf rfl
    have := h.shp.top xs[i] (List.getElem_mem hi)
    rw [he] at this
    omega
  | false =>
  have hB3 := hB2 rfl
  have HI : Hid (ins l x = A ++ (ins s x ++ B)) := by show _ = _; rw [c.el]; exact ins_mid hA hB3
  have hii : (i : Int) < (d.cs.length : Int) := by omega
  clear hf hB2
  go_wp2_with fail
  have bHS : Hid (∀ V, Below w1.heap.size w1 V → V.cell? ⟨d.b, 0, none⟩ = some (.int .i64 d.L) ∧ V.cell? ⟨d.b, 1, none⟩ = some (.slice d.ko d.ks.length d.kc) ∧ V.cell? ⟨d.b, 2, none⟩ = some (.slice d.vo d.vs.length d.vc) ∧ V.cell? ⟨d.b, 3, none⟩ = some (.slice d.co d.cs.length d.cc) ∧ V.cell? ⟨g, 0, none⟩ = some (.int .i64 (lev x.k)) ∧ V.cell? ⟨g, 1, none⟩ = some (.slice xo xn xc) ∧ V.cell? ⟨g, 2, none⟩ = some (.slice yo yn yc)) := fun V hV => ⟨(N1.ok.below hV).c0, (N1.ok.below hV).c1, (N1.ok.below hV).c2, (N1.ok.below hV).c3, (L1.below hV).c0, (L1.below hV).c1, (L1.below hV).c2⟩
  have bE0 : Below w1.heap.size w1 w1.drew := (Below.refl _ _).drew
  refine wp_region_noPanic ?_
  refine wp_region_held_drew (S := fun V => V.cell? ⟨d.b, 0, none⟩ = some (.int .i64 d.L) ∧ V.cell? ⟨d.b, 1, none⟩ = some (.slice d.ko d.ks.length d.kc) ∧ V.cell? ⟨d.b, 2, none⟩ = some (.slice d.vo d.vs.length d.vc) ∧ V.cell? ⟨d.b, 3, none⟩ = some (.slice d.co d.cs.length d.cc) ∧ V.cell? ⟨g, 0, none⟩ = some (.int .i64 (lev x.k)) ∧ V.cell? ⟨g, 1, none⟩ = some (.slice xo xn xc) ∧ V.cell? ⟨g, 2, none⟩ = some (.slice yo yn yc)) (by kernel_rfl) (bHS.out _ bE0) (fun bH0 => ?_)
  obtain ⟨bv0, hv0⟩ : ∃ v, v = w1.drew := ⟨_, rfl⟩
  rw [← hv0] at bH0 bE0 ⊢
  clear hv0
  refine hr_take_w 0 (some 49) (.pointer (some ⟨d.b, 0, none⟩)) rfl rfl (by kernel_rfl) (by kernel_rfl) (by kernel_rfl) rfl (fun W hW => by obtain ⟨h0, h1, h2, h3, h4, h5, h6⟩ := hW; go_simp) bH0 ?_
  simp only [FL]
  refine hr_take_w 1 (some 50) (.pointer (some ⟨d.b, 0, none⟩)) rfl rfl (by kernel_rfl) (by kernel_rfl) (by kernel_rfl) rfl (fun W hW => by obtain ⟨h0, h1, h2, h3, h4, h5, h6⟩ := hW; go_simp) bH0 ?_
  simp only [FL]
  refine hr_take_w 2 (some 51) (.pointer (some ⟨d.b, 0, none⟩)) rfl rfl (by kernel_rfl) (by kernel_rfl) (by kernel_rfl) rfl (fun W hW => by obtain ⟨h0, h1, h2, h3, h4, h5, h6⟩ := hW; go_simp) bH0 ?_
  simp only [FL]
  refine hr_take_w 3 (some 52) (.int .i64 d.L) rfl rfl (by kernel_rfl) (by kernel_rfl) (by kernel_rfl) rfl (fun W hW => by obtain ⟨h0, h1, h2, h3, h4, h5, h6⟩ := hW; go_simp) bH0 ?_
  simp only [FL]
  refine hr_take_w 4 (some 53) (.pointer (some ⟨g, 0, none⟩)) rfl rfl (by kernel_rfl) (by kernel_rfl) (by kernel_rfl) rfl (fun W hW => by obtain ⟨h0, h1, h2, h3, h4, h5, h6⟩ := hW; go_simp) bH0 ?_
  simp only [FL]
  refine hr_take_w 5 (some 54) (.int .i64 (lev x.k)) rfl rfl (by kernel_rfl) (by kernel_rfl) (by kernel_rfl) rfl (fun W hW => by obtain ⟨h0, h1, h2, h3, h4, h5, h6⟩ := hW; go_simp) bH0 ?_
  simp only [FL]
  refine hr_take_w 6 (some 55) (.bool true) rfl rfl (by kernel_rfl) (by kernel_rfl) (by kernel_rfl) rfl (fun W hW => by obtain ⟨h0, h1, h2, h3, h4, h5, h6⟩ := hW; go_simp) bH0 ?_
  simp only [FL]
  refine wpAnyH_done (by kernel_rfl) ?_ _
  refine NoPanic.normal ?_
  have Bb : Below w.heap.size w bv0 := B1.trans (bE0.mono B1.size)
  have Nb := h.below Bb
  have Lb := L1.below bE0
  obtain ⟨kb, ko, s', u, eco, hs1, hs2, hcell, hTk, hlen⟩ := Nb.kidAt i hle
  obtain rfl : s = s' := Option.some.inj (c.seg.symm.trans hs1)
  have hss : Srt s := by rw [c.el] at hs; exact hs.app.2.1.app.1
  obtain ⟨q, rfl⟩ := hTk.ptr
  have CI : ∀ V, Below bv0.heap.size bv0 V → Calls Tryz.prog 147 #[.pointer q, .agg #[.int .i64 (lev x.k), .slice xo xn xc, .slice yo yn yc]] V fun e w' => ∃ z, e = .returned (.pointer z) ∧ T w' (.pointer z) (ins s x) ∧ Below V.heap.size V w' := by
    intro V hV
    refine (ih V (.pointer q) s hlen (Bb.trans (hV.mono Bb.size)) (hTk.below hV) hss).mono ?_
    rintro e w' ⟨y, rfl, Ty, hb⟩
    obtain ⟨z, rfl⟩ := Ty.ptr
    exact ⟨z, rfl, Ty, hb⟩
  have CW : ∀ V z, Below bv0.heap.size bv0 V → T V (.pointer z) (ins s x) → Calls Tryz.prog 166 #[.pointer (some ⟨d.b, 0, none⟩), .int .i64 i, .pointer z] V fun e w' => ∃ y, e = .returned (.pointer y) ∧ T w' (.pointer y) (A ++ (ins s x ++ B)) ∧ Below V.heap.size V w' := by
    intro V z hV hz
    refine (hWK i s A B V z c (Bb.trans (hV.mono Bb.size)) hz).mono ?_
    rintro e w' ⟨y, rfl, Ty, hb⟩
    obtain ⟨z, rfl⟩ := Ty.ptr
    exact ⟨z, rfl, Ty, hb⟩
  clear hs1 hs2 hTk hWK ih
  go_wp2_with fail
  have cHS : Hid (∀ V, Below bv0.heap.size bv0 V → V.cell? ⟨d.b, 3, none⟩ = some (.slice (some ⟨kb, ko, none⟩) d.cs.length d.cc) ∧ V.cell? ⟨kb, ko + i, none⟩ = some (.pointer q) ∧ V.cell? ⟨g, 0, none⟩ = some (.int .i64 (lev x.k)) ∧ V.cell? ⟨g, 1, none⟩ = some (.slice xo xn xc) ∧ V.cell? ⟨g, 2, none⟩ = some (.slice yo yn yc)) := fun V hV => ⟨by rw [← eco]; exact (Nb.ok.below hV).c3, (hV.cell (World.block_lt_of_cell? _ _ hcell)).trans hcell, (Lb.below hV).c0, (Lb.below hV).c1, (Lb.below hV).c2⟩
  have cE0 : Below bv0.heap.size bv0 bv0.drew := (Below.refl _ _).drew
  refine wp_region_noPanic ?_
  refine wp_region_held_drew (S := fun V => V.cell? ⟨d.b, 3, none⟩ = some (.slice (some ⟨kb, ko, none⟩) d.cs.length d.cc) ∧ V.cell? ⟨kb, ko + i, none⟩ = some (.pointer q) ∧ V.cell? ⟨g, 0, none⟩ = some (.int .i64 (lev x.k)) ∧ V.cell? ⟨g, 1, none⟩ = some (.slice xo xn xc) ∧ V.cell? ⟨g, 2, none⟩ = some (.slice yo yn yc)) (by kernel_rfl) (cHS.out _ cE0) (fun cH0 => ?_)
  obtain ⟨cv0, hv0⟩ : ∃ v, v = bv0.drew := ⟨_, rfl⟩
  rw [← hv0] at cH0 cE0 ⊢
  clear hv0
  refine hr_take_w 0 (some 56) (.pointer (some ⟨d.b, 0, none⟩)) rfl rfl (by kernel_rfl) (by kernel_rfl) (by kernel_rfl) rfl (fun W hW => by obtain ⟨h0, h1, h2, h3, h4⟩ := hW; go_simp) cH0 ?_
  simp only [FL]
  refine hr_take_w 1 (some 57) (.int .i64 i) rfl rfl (by kernel_rfl) (by kernel_rfl) (by kernel_rfl) rfl (fun W hW => by obtain ⟨h0, h1, h2, h3, h4⟩ := hW; go_simp) cH0 ?_
  simp only [FL]
  refine hr_take_w 2 (some 58) (.pointer (some ⟨d.b, 0, none⟩)) rfl rfl (by kernel_rfl) (by kernel_rfl) (by kernel_rfl) rfl (fun W hW => by obtain ⟨h0, h1, h2, h3, h4⟩ := hW; go_simp) cH0 ?_
  simp only [FL]
  refine hr_take_w 3 (some 59) (.pointer (some ⟨d.b, 0, none⟩)) rfl rfl (by kernel_rfl) (by kernel_rfl) (by kernel_rfl) rfl (fun W hW => by obtain ⟨h0, h1, h2, h3, h4⟩ := hW; go_simp) cH0 ?_
  simp only [FL]
  refine hr_take_w 4 (some 60) (.pointer (some ⟨d.b, 3, none⟩)) rfl rfl (by kernel_rfl) (by kernel_rfl) (by kernel_rfl) rfl (fun W hW => by obtain ⟨h0, h1, h2, h3, h4⟩ := hW; go_simp) cH0 ?_
  simp only [FL]
  refine hr_take_w 5 (some 61) (.slice (some ⟨kb, ko, none⟩) d.cs.length d.cc) rfl rfl (by kernel_rfl) (by kernel_rfl) (by kernel_rfl) rfl (fun W hW => by obtain ⟨h0, h1, h2, h3, h4⟩ := hW; go_simp) cH0 ?_
  simp only [FL]
  refine hr_take_w 6 (some 62) (.int .i64 i) rfl rfl (by kernel_rfl) (by kernel_rfl) (by kernel_rfl) rfl (fun W hW => by obtain ⟨h0, h1, h2, h3, h4⟩ := hW; go_simp) cH0 ?_
  simp only [FL]
  refine hr_take_w 7 (some 63) (.pointer (some ⟨kb, ko + i, none⟩)) rfl rfl (by kernel_rfl) (by kernel_rfl) (by kernel_rfl) rfl (fun W hW => by obtain ⟨h0, h1, h2, h3, h4⟩ := hW; go_simp) cH0 ?_
  simp only [FL]
  refine hr_take_w 8 (some 64) (.pointer q) rfl rfl (by kernel_rfl) (by kernel_rfl) (by kernel_rfl) rfl (fun W hW => by obtain ⟨h0, h1, h2, h3, h4⟩ := hW; go_simp) cH0 ?_
  simp only [FL]
  refine hr_take_w 9 (some 65) (.agg #[.int .i64 (lev x.k), .slice xo xn xc, .slice yo yn yc]) rfl rfl (by kernel_rfl) (by kernel_rfl) (by kernel_rfl) rfl (fun W hW => by obtain ⟨h0, h1, h2, h3, h4⟩ := hW; go_simp) cH0 ?_
  simp only [FL]
  refine hr_call_w 10 (some 66) 147 #[.pointer q, .agg #[.int .i64 (lev x.k), .slice xo xn xc, .slice yo yn yc]] rfl rfl (by kernel_rfl) rfl (by go_simp) (fun v w' => ∃ z, v = .pointer z ∧ T w' (.pointer z) (ins s x) ∧ Below cv0.heap.size cv0 w') ((CI _ cE0).mono (by
    rintro e w' ⟨z, rfl, F, C⟩
    exact ⟨_, rfl, z, rfl, F, C⟩)) ?_
  rintro v cv1 ⟨z, rfl, cF0, cC0⟩
  have cE1 := cE0.trans (cC0.mono cE0.size)
  have cH1 := cHS.out cv1 cE1
  refine ⟨cH1, ?_⟩
  simp only [FL]
  refine hr_call_w 11 (some 67) 166 #[.pointer (some ⟨d.b, 0, none⟩), .int .i64 i, .pointer z] rfl rfl (by kernel_rfl) rfl (by go_simp) (fun v w' => ∃ y, v = .pointer y ∧ T w' (.pointer y) (A ++ (ins s x ++ B)) ∧ Below cv1.heap.size cv1 w') ((CW _ _ cE1 cF0).mono (by
    rintro e w' ⟨y, rfl, F, C⟩
    exact ⟨_, rfl, y, rfl, F, C⟩)) ?_
  rintro v cv2 ⟨y, rfl, cF1, cC1⟩
  have cE2 := cE1.trans (cC1.mono cE1.size)
  have cH2 := cHS.out cv2 cE2
  clear cF0
  refine ⟨cH2, ?_⟩
  simp only [FL]
  refine hr_take_w 12 (some 4) (.pointer y) rfl rfl (by kernel_rfl) (by kernel_rfl) (by kernel_rfl) rfl (fun W hW => by obtain ⟨h0, h1, h2, h3, h4⟩ := hW; go_simp) cH2 ?_
  simp only [FL]
  refine wpAnyH_done (by kernel_rfl) ?_ _
  refine NoPanic.normal ?_
  have Bc : Below w.heap.size w cv2 := Bb.trans (cE2.mono Bb.size)
  go_wp2
  go_ret
  refine ⟨_, rfl, ?_, Bc⟩
  rw [HI.out]
  exact cF1
end Go.Proofs.YthlpccajnmkbjaaGreatDoor

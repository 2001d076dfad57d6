/-
  tree.copyOf, Top.
-/
import Derived.Test.YtiabdcejibeciaaDoorTreeShapeZ6
namespace Go.Proofs.YtiabdcejibeciaaDoor
open Go.RowKit

set_option maxHeartbeats 400000 in
set_option maxRecDepth 100000 in
/-- own: bytes that hang on new memory alone. -/
theorem own_on (w : World) (ao : Option Addr) (n cap : Nat) (xs : List Int) (h : Sl w ao n cap xs) (hn : n ≤ 1000000) :
    Calls Tryd.prog 29 #[.slice ao n cap] w fun e w' => ∃ ro rc, e = .returned (.slice ro n rc) ∧ On w' 0 w.heap.size (fun W => Sl W ro n rc xs) ∧ Below w.heap.size w w' := by
  have B0 : Below w.heap.size w (w.alloc (.cells #[] 5)) := (Below.refl _ w).alloc (Nat.le_refl _) _
  have h0 := h.below B0
  have o0 := own_nothing w
  have hb := h.byte
  go_enter Tryd.func29, Tryd.ntmps29
  go_wp2_with (at_builtin; refine wpList_app rfl _ _ rfl w.heap.size _ _ _ rfl o0 _ _ _ _ rfl h0 (by omega) (by simp) ?_; intro v1 w1 own1 B1)
  simp only [Nat.zero_add, List.nil_append] at own1
  obtain ⟨ro, rc, rfl, S, -⟩ := Sl.own own1 hb
  go_wp2
  go_ret
  refine ⟨ro, rc, rfl, fun W hW => ?_, B0.trans B1⟩
  have own2 := row_kept own1 (w' := W) (fun g hg => hW g (.inr (own1.lt g hg).1) (own1.lt g hg).2)
  obtain ⟨ro', rc', e, S', -⟩ := Sl.own own2 hb
  simp only [Value.slice.injEq, true_and] at e
  obtain ⟨rfl, rfl⟩ := e
  exact S'
/-- Parts apart from a node that is being made. -/
def PartsF (W : World) (n g : Nat) (k v c : Value) (ps : List Part) : Prop := ∀ q ∈ ps, Far W 0 n g k v c fun x => Sl x q.ao q.n q.cap q.xs
theorem PartsF.chg {W W' : World} {n g : Nat} {k v c k' v' c' : Value} {ps : List Part} (h : PartsF W n g k v c ps) (hc : Chg W W' g k v c k' v' c') : PartsF W' n g k' v' c' ps := fun q hq => (h q hq).chg hc
theorem PartsF.app {W : World} {n g : Nat} {k v c : Value} {ps : List Part} (h : PartsF W n g k v c ps) {q : Part} (hq : Far W 0 n g k v c fun x => Sl x q.ao q.n q.cap q.xs) : PartsF W n g k v c (ps ++ [q]) := fun y hy => by
  rcases List.mem_append.1 hy with hy | hy
  · exact h y hy
  · rw [List.mem_singleton.1 hy]
    exact hq
theorem PartsF.nil (W : World) (n g : Nat) (k v c : Value) : PartsF W n g k v c [] := fun _ h => by simp at h
/-- The copy of a node's keys and values. -/
structure CpI (wI wr : World) (d : Nd) (kk : Nat) (k v : Value) (ks vs : List Part) : Prop where
  nb : NB wr wI.heap.size wI.heap.size 73 46 (d.L : Int) k v (.slice none 0 0) (ks.map Part.val) (vs.map Part.val) []
  b : Below wI.heap.size wI wr
  ek : ks.map Part.xs = (d.ks.take kk).map Part.xs
  ev : vs.map Part.xs = (d.vs.take kk).map Part.xs
  fk : PartsF wr wI.heap.size wI.heap.size k v (.slice none 0 0) ks
  fv : PartsF wr wI.heap.size wI.heap.size k v (.slice none 0 0) vs
/-- And of its kids. -/
structure CkI (wI wr : World) (d : Nd) (segs : List (List It)) (kk : Nat) (k v c : Value) (ks vs : List Part) (us : List Value) : Prop where
  nb : NB wr wI.heap.size wI.heap.size 73 46 (d.L : Int) k v c (ks.map Part.val) (vs.map Part.val) us
  b : Below wI.heap.size wI wr
  ek : ks.map Part.xs = d.ks.map Part.xs
  ev : vs.map Part.xs = d.vs.map Part.xs
  fk : PartsF wr wI.heap.size wI.heap.size k v c ks
  fv : PartsF wr wI.heap.size wI.heap.size k v c vs
  kf : KidsF wr 0 wI.heap.size wI.heap.size k v c us (segs.take kk)
/-- Keys and values are of a size. -/
def Szd (l : List It) : Prop := ∀ x ∈ l, x.k.length ≤ 1000000 ∧ x.v.length ≤ 1000000

set_option maxHeartbeats 8000000 in
set_option maxRecDepth 100000 in
theorem copy_fuel : ∀ (N : Nat) (wI : World) (v : Value) (l : List It) (_ : T wI v l) (_ : l.length ≤ 50000) (_ : Szd l) (_ : l.length ≤ N), Calls Tryd.prog 41 #[v] wI (OnT 0 wI l) := by
  intro N
  induction N using Nat.strongRecOn with | _ N ih => ?_
  intro wI v l hT hn hsz hN
  rcases hT.is with ⟨rfl, rfl⟩ | ⟨d, segs, xs, rfl, hN1⟩
  · go_enter Tryd.func41, Tryd.ntmps41
    go_wp2
    go_ret
    exact OnT.nil _ _
  have hmany := hN1.many
  have nk := hN1.nk
  have nv := hN1.nv
  have nc := hN1.nc
  have c0 := hN1.ok.c0
  have c1 := hN1.ok.c1
  have hpos := hN1.shp.pos
  have hkn : d.ks.length ≤ 50000 := by omega
  have hkni : (d.ks.length : Int) ≤ 50000 := by omega
  have HNK : Hid (d.ks.length = xs.length ∧ d.vs.length = xs.length ∧ d.cs.length = xs.length + 1) := ⟨nk, nv, nc⟩
  obtain ⟨kb, ko, hko, hkc⟩ := hN1.ok.kl.vl.at (by omega)
  obtain ⟨vb, vo, hvo, hvc⟩ := hN1.ok.vl.vl.at (by omega)
  have cv0 := hN1.ok.c2
  rw [hvo] at cv0
  rw [hko] at c1
  have HKC : Hid (∀ i (hi : i < (d.ks.map Part.val).length), wI.cell? ⟨kb, ko + i, none⟩ = some (d.ks.map Part.val)[i]) := hkc
  have HVC : Hid (∀ i (hi : i < (d.vs.map Part.val).length), wI.cell? ⟨vb, vo + i, none⟩ = some (d.vs.map Part.val)[i]) := hvc
  have HSZ : Hid (Szd l) := hsz
  clear hkc hvc hko hvo nk nv nc hsz
  have BN : Below wI.heap.size wI (wI.alloc (.cells #[.int .i64 (d.L : Int), .slice none 0 0, .slice none 0 0, .slice none 0 0] 73)) := (Below.refl _ _).alloc (Nat.le_refl _) _
  have c1' := (BN.cell (World.block_lt_of_cell? _ _ c1)).trans c1
  unfold Nd.ptr
  go_enter Tryd.func41, Tryd.ntmps41
  go_wp2
  clear c0 c1 c1' BN
  go_loopw [21] (fun i wr => ∃ (kk : Nat) (k v : Value) (ks vs : List Part), kk ≤ d.ks.length ∧ i = .int .i64 kk ∧ CpI wI wr d kk k v ks vs) (fun i _ => d.ks.length - (intOf i).toNat)
  case atStart => exact ⟨0, _, _, [], [], Nat.zero_le _, rfl, NB.new wI 73 46 (d.L : Int), (Below.refl _ _).alloc (Nat.le_refl _) _, rfl, rfl, PartsF.nil _ _ _ _ _ _, PartsF.nil _ _ _ _ _ _⟩
  case round =>
    obtain ⟨kk, k, v, ks, vs, hkk, rfl, H⟩ := hrel
    by_cases hlt : kk < d.ks.length
    · have hki : (kk : Int) < (d.ks.length : Int) := by omega
      have hkv : kk < d.vs.length := by have := HNK.out; omega
      have hkvi : (kk : Int) < (d.vs.length : Int) := by omega
      obtain ⟨qk, hqk⟩ : ∃ q, q = d.ks[kk] := ⟨_, rfl⟩
      obtain ⟨qv, hqv⟩ : ∃ q, q = d.vs[kk] := ⟨_, rfl⟩
      have ck0 := HKC.out kk (by simpa using hlt)
      have cv1 := HVC.out kk (by simpa using hkv)
      rw [List.getElem_map, ← hqk] at ck0
      rw [List.getElem_map, ← hqv] at cv1
      have sqk := hN1.ok.kl.sl qk (by rw [hqk]; exact List.getElem_mem _)
      have sqv := hN1.ok.vl.sl qv (by rw [hqv]; exact List.getElem_mem _)
      have hx : kk < xs.length := by have := HNK.out; omega
      have hsq := HSZ.out xs[kk] (hN1.shp.key _ (List.getElem_mem hx))
      have hqkn : qk.n ≤ 1000000 := by rw [← sqk.len, hqk, hN1.keyAt kk hlt hx]; exact hsq.1
      have hqvn : qv.n ≤ 1000000 := by rw [← sqv.len, hqv, hN1.valAt kk hkv hx]; exact hsq.2
      have HTK : Hid (d.ks.take (kk + 1) = d.ks.take kk ++ [qk]) := by show _ = _; rw [hqk, List.take_succ_eq_append_getElem hlt]
      have HTV : Hid (d.vs.take (kk + 1) = d.vs.take kk ++ [qv]) := by show _ = _; rw [hqv, List.take_succ_eq_append_getElem hkv]
      clear hqk hqv hsq
      unfold Part.val at ck0 cv1
      have ck1 := (H.b.cell (World.block_lt_of_cell? _ _ ck0)).trans ck0
      clear ck0
      have N := H.nb
      have B := H.b
      have HEK : Hid (ks.map Part.xs = (d.ks.take kk).map Part.xs) := H.ek
      have HEV : Hid (vs.map Part.xs = (d.vs.take kk).map Part.xs) := H.ev
      have FK := H.fk
      have FV := H.fv
      have HXL : Hid (ks.length ≤ 50000 ∧ vs.length ≤ 50000) := by
        have e1 := congrArg List.length H.ek
        have e2 := congrArg List.length H.ev
        simp only [List.length_map, List.length_take] at e1 e2
        exact ⟨by omega, by omega⟩
      clear H
      go_wp2
      clear ck1
      have pE0 : Below wr.heap.size wr wr.drew := (Below.refl _ _).drew
      refine wp_region_noPanic ?_
      refine wp_region_held_drew (S := fun _ => True) (by kernel_rfl) trivial (fun _ => ?_)
      obtain ⟨pv0, hv0⟩ : ∃ v, v = wr.drew := ⟨_, rfl⟩
      rw [← hv0] at pE0 ⊢
      clear hv0
      refine hr_take_w 0 (some 26) (.pointer (some ⟨wI.heap.size, 0, none⟩)) rfl rfl (by kernel_rfl) (by kernel_rfl) (by kernel_rfl) rfl (fun W hW => by go_simp) trivial ?_
      simp only [Act.put, List.setIfInBounds_toArray, List.set_cons_zero, List.set_cons_succ]
      refine hr_take_w 1 (some 27) (.pointer (some ⟨wI.heap.size, 0, none⟩)) rfl rfl (by kernel_rfl) (by kernel_rfl) (by kernel_rfl) rfl (fun W hW => by go_simp) trivial ?_
      simp only [Act.put, List.setIfInBounds_toArray, List.set_cons_zero, List.set_cons_succ]
      refine hr_take_w 2 (some 28) (.pointer (some ⟨wI.heap.size, 0, none⟩)) rfl rfl (by kernel_rfl) (by kernel_rfl) (by kernel_rfl) rfl (fun W hW => by go_simp) trivial ?_
      simp only [Act.put, List.setIfInBounds_toArray, List.set_cons_zero, List.set_cons_succ]
      refine hr_take_w 3 (some 29) (.pointer (some ⟨wI.heap.size, 1, none⟩)) rfl rfl (by kernel_rfl) (by kernel_rfl) (by kernel_rfl) rfl (fun W hW => by go_simp) trivial ?_
      simp only [Act.put, List.setIfInBounds_toArray, List.set_cons_zero, List.set_cons_succ]
      refine hr_take_w 5 (some 31) (.slice qk.ao qk.n qk.cap) rfl rfl (by kernel_rfl) (by kernel_rfl) (by kernel_rfl) rfl (fun W hW => by go_simp) trivial ?_
      simp only [Act.put, List.setIfInBounds_toArray, List.set_cons_zero, List.set_cons_succ]
      refine wpAnyH_effto 4 (fun zi zv zw => (zi = 4 → zv = k) ∧ (zi = 6 → ∃ ro rc, zv = .slice ro qk.n rc ∧ Far zw 0 wI.heap.size wI.heap.size k v (.slice none 0 0) fun x => Sl x ro qk.n rc qk.xs) ∧ (zi = 7 → ∃ ro rc g1, zv = .slice (some ⟨g1, 0, none⟩) 1 1 ∧ VL zw (some ⟨g1, 0, none⟩) 1 1 [.slice ro qk.n rc] ∧ Far zw 0 wI.heap.size wI.heap.size k v (.slice none 0 0) fun x => Sl x ro qk.n rc qk.xs)) [(4, 30), (6, 32), (7, 33)] 77 (by kernel_rfl) (by decide) (by decide) rfl ?_ (fun _ _ => trivial) ?_ ?_
      · intro zi v w w' h hb
        refine ⟨fun e => ?_, fun e => ?_, fun e => ?_⟩
        · have h := h.1 e
          exact h
        · have h := h.2.1 e
          obtain ⟨ro, rc, h1, h2⟩ := h
          exact ⟨ro, rc, h1, h2.chg (Chg.below hb)⟩
        · have h := h.2.2 e
          obtain ⟨ro, rc, g1, h1, h2, h3⟩ := h
          exact ⟨ro, rc, g1, h1, h2.below hb, h3.chg (Chg.below hb)⟩
      · intro zp zhi o a w ho hs hb hdep
        have pEB := pE0.trans (hb.mono pE0.size)
        simp only [List.mem_cons, List.not_mem_nil, or_false] at zhi
        rcases zhi with rfl | rfl | rfl
        · obtain rfl : _ = o := Option.some.inj (show some _ = some o from ho)
          have t29 : a.tmps[29]? = some (.pointer (some ⟨wI.heap.size, 1, none⟩)) := hs.get 29 (by kernel_rfl) rfl
          have lc := (N.below pEB).arr.cell 1
          exact .inl ⟨k, w, by go_simp, ⟨fun _ => rfl, fun e => absurd e (by decide), fun e => absurd e (by decide)⟩, Below.refl _ _⟩
        · obtain rfl : _ = o := Option.some.inj (show some _ = some o from ho)
          have t31 : a.tmps[31]? = some (.slice qk.ao qk.n qk.cap) := hs.get 31 (by kernel_rfl) rfl
          have BB := B.trans (pEB.mono B.size)
          have N' := N.below pEB
          have CO := own_on w qk.ao qk.n qk.cap qk.xs (sqk.below BB) hqkn
          refine .inr ⟨29, #[.slice qk.ao qk.n qk.cap], by go_simp, CO.mono ?_⟩
          rintro e w' ⟨ro, rc, rfl, O, C⟩
          exact ⟨_, rfl, ⟨fun e => absurd e (by decide), fun _ => ⟨ro, rc, rfl, O.far BB.size (fun x hx => absurd hx (Nat.not_lt_zero x)) (fun x hx => N'.offNew hx)⟩, fun e => absurd e (by decide)⟩, C⟩
        · obtain rfl : _ = o := Option.some.inj (show some _ = some o from ho)
          obtain ⟨x32, t32, f32⟩ := (hdep 6 (by kernel_rfl)).at 32 (by kernel_rfl)
          replace f32 := f32.2.1 rfl
          obtain ⟨ro, rc, rfl, O⟩ := f32
          have CA : Below w.heap.size w (w.alloc (.cells #[.slice ro qk.n rc] 26)) := (Below.refl _ _).alloc (Nat.le_refl _) _
          exact .inl ⟨_, _, by go_simp, ⟨fun e => absurd e (by decide), fun e => absurd e (by decide), fun _ => ⟨ro, rc, _, rfl, VL.new w [.slice ro qk.n rc] 26 (by simp [maxLen]), O.chg (Chg.below CA)⟩⟩, CA⟩
      intro zf pv1 hb hh
      have pE1 := pE0.trans (hb.mono pE0.size)
      obtain e4 := (hh (4, 30) (by simp)).1 rfl
      obtain ⟨ro1, rc1, g1, e7, G1, O1⟩ := (hh (7, 33) (by simp)).2.2 rfl
      clear hh hb
      simp only [putL, List.foldl_cons, List.foldl_nil, e4, e7]
      clear e4 e7
      simp only [Act.put, List.setIfInBounds_toArray, List.set_cons_zero, List.set_cons_succ]
      have N1 := N.below pE1
      obtain ⟨x2, W1, ha, P1⟩ := N1.appK (by decide) (by decide) (ty := 51) (u := .slice ro1 qk.n rc1) G1 rfl (by rw [List.length_map]; have := HXL.out; omega)
      obtain ⟨ko2, kn2, kc2, rfl⟩ := row_slice P1.nb.ok
      refine hr_ex 8 (some 34) rfl rfl (by kernel_rfl) rfl (R := fun v w' => (.slice ko2 kn2 kc2) = v ∧ W1 = w') ⟨_, W1, by simp [execOp, Act.eval, resolve, invoke, builtin, ha], rfl, rfl⟩ ?_
      rintro v w' ⟨rfl, rfl⟩
      refine ⟨trivial, ?_⟩
      simp only [Act.put, List.setIfInBounds_toArray, List.set_cons_zero, List.set_cons_succ]
      refine hr_take_w 9 (some 35) (.pointer (some ⟨wI.heap.size, 0, none⟩)) rfl rfl (by kernel_rfl) (by kernel_rfl) (by kernel_rfl) rfl (fun W hW => by go_simp) trivial ?_
      simp only [Act.put, List.setIfInBounds_toArray, List.set_cons_zero, List.set_cons_succ]
      refine hr_take_w 10 (some 36) (.pointer (some ⟨wI.heap.size, 1, none⟩)) rfl rfl (by kernel_rfl) (by kernel_rfl) (by kernel_rfl) rfl (fun W hW => by go_simp) trivial ?_
      simp only [Act.put, List.setIfInBounds_toArray, List.set_cons_zero, List.set_cons_succ]
      have lc := P1.arr.cell 1
      have lf := P1.arr.free 1
      refine hr_skip 11 none (w' := W1.setCell ⟨wI.heap.size, 1, none⟩ (.slice ko2 kn2 kc2)) rfl rfl (by kernel_rfl) rfl (by go_simp) trivial ?_
      simp only [Act.put]
      refine wpAnyH_done (by kernel_rfl) ?_ _
      refine NoPanic.normal ?_
      clear lc lf ha
      have D3 := (Chg.below (g := wI.heap.size) (k := k) (v := v) (c := .slice none 0 0) pE1).trans P1.chg
      have N3 := P1.nb
      have O3 := O1.chg P1.chg
      have B3 := B.trans ((pE1.mono B.size).trans P1.below)
      obtain ⟨W3, hW2⟩ : ∃ W2, W2 = W1.setCell ⟨wI.heap.size, 1, none⟩ (.slice ko2 kn2 kc2) := ⟨_, rfl⟩
      rw [← hW2] at N3 O3 B3 D3 ⊢
      clear hW2 P1 N1 O1 G1 pE1 pE0
      clear N B
      go_wp2
      have rE0 : Below W3.heap.size W3 W3.drew := (Below.refl _ _).drew
      refine wp_region_noPanic ?_
      refine wp_region_held_drew (S := fun _ => True) (by kernel_rfl) trivial (fun _ => ?_)
      obtain ⟨rv0, hv0⟩ : ∃ v, v = W3.drew := ⟨_, rfl⟩
      rw [← hv0] at rE0 ⊢
      clear hv0
      refine hr_take_w 0 (some 37) (.pointer (some ⟨wI.heap.size, 0, none⟩)) rfl rfl (by kernel_rfl) (by kernel_rfl) (by kernel_rfl) rfl (fun W hW => by go_simp) trivial ?_
      simp only [Act.put, List.setIfInBounds_toArray, List.set_cons_zero, List.set_cons_succ]
      refine hr_take_w 1 (some 38) (.pointer (some ⟨wI.heap.size, 0, none⟩)) rfl rfl (by kernel_rfl) (by kernel_rfl) (by kernel_rfl) rfl (fun W hW => by go_simp) trivial ?_
      simp only [Act.put, List.setIfInBounds_toArray, List.set_cons_zero, List.set_cons_succ]
      refine hr_take_w 2 (some 39) (.pointer (some ⟨wI.heap.size, 0, none⟩)) rfl rfl (by kernel_rfl) (by kernel_rfl) (by kernel_rfl) rfl (fun W hW => by go_simp) trivial ?_
      simp only [Act.put, List.setIfInBounds_toArray, List.set_cons_zero, List.set_cons_succ]
      refine hr_take_w 3 (some 40) (.pointer (some ⟨wI.heap.size, 2, none⟩)) rfl rfl (by kernel_rfl) (by kernel_rfl) (by kernel_rfl) rfl (fun W hW => by go_simp) trivial ?_
      simp only [Act.put, List.setIfInBounds_toArray, List.set_cons_zero, List.set_cons_succ]
      refine hr_take_w 5 (some 42) (.pointer (some ⟨d.b, 0, none⟩)) rfl rfl (by kernel_rfl) (by kernel_rfl) (by kernel_rfl) rfl (fun W hW => by go_simp) trivial ?_
      simp only [Act.put, List.setIfInBounds_toArray, List.set_cons_zero, List.set_cons_succ]
      refine hr_take_w 6 (some 43) (.pointer (some ⟨d.b, 0, none⟩)) rfl rfl (by kernel_rfl) (by kernel_rfl) (by kernel_rfl) rfl (fun W hW => by go_simp) trivial ?_
      simp only [Act.put, List.setIfInBounds_toArray, List.set_cons_zero, List.set_cons_succ]
      refine hr_take_w 7 (some 44) (.pointer (some ⟨d.b, 2, none⟩)) rfl rfl (by kernel_rfl) (by kernel_rfl) (by kernel_rfl) rfl (fun W hW => by go_simp) trivial ?_
      simp only [Act.put, List.setIfInBounds_toArray, List.set_cons_zero, List.set_cons_succ]
      refine hr_take_w 9 (some 46) (.int .i64 (kk : Nat)) rfl rfl (by kernel_rfl) (by kernel_rfl) (by kernel_rfl) rfl (fun W hW => by go_simp) trivial ?_
      simp only [Act.put, List.setIfInBounds_toArray, List.set_cons_zero, List.set_cons_succ]
      refine wpAnyH_effto 4 (fun zi zv zw => (zi = 4 → zv = v) ∧ (zi = 8 → zv = .slice (some ⟨vb, vo, none⟩) d.vs.length d.vc) ∧ (zi = 10 → zv = .pointer (some ⟨vb, vo + kk, none⟩)) ∧ (zi = 11 → zv = .slice qv.ao qv.n qv.cap) ∧ (zi = 12 → ∃ ro rc, zv = .slice ro qv.n rc ∧ Far zw 0 wI.heap.size wI.heap.size (.slice ko2 kn2 kc2) v (.slice none 0 0) fun x => Sl x ro qv.n rc qv.xs) ∧ (zi = 13 → ∃ ro rc g1, zv = .slice (some ⟨g1, 0, none⟩) 1 1 ∧ VL zw (some ⟨g1, 0, none⟩) 1 1 [.slice ro qv.n rc] ∧ Far zw 0 wI.heap.size wI.heap.size (.slice ko2 kn2 kc2) v (.slice none 0 0) fun x => Sl x ro qv.n rc qv.xs)) [(4, 41), (8, 45), (10, 47), (11, 48), (12, 49), (13, 50)] 77 (by kernel_rfl) (by decide) (by decide) rfl ?_ (fun _ _ => trivial) ?_ ?_
      · intro zi v w w' h hb
        refine ⟨fun e => ?_, fun e => ?_, fun e => ?_, fun e => ?_, fun e => ?_, fun e => ?_⟩
        · have h := h.1 e
          exact h
        · have h := h.2.1 e
          exact h
        · have h := h.2.2.1 e
          exact h
        · have h := h.2.2.2.1 e
          exact h
        · have h := h.2.2.2.2.1 e
          obtain ⟨ro, rc, h1, h2⟩ := h
          exact ⟨ro, rc, h1, h2.chg (Chg.below hb)⟩
        · have h := h.2.2.2.2.2 e
          obtain ⟨ro, rc, g1, h1, h2, h3⟩ := h
          exact ⟨ro, rc, g1, h1, h2.below hb, h3.chg (Chg.below hb)⟩
      · intro zp zhi o a w ho hs hb hdep
        have rEB := rE0.trans (hb.mono rE0.size)
        simp only [List.mem_cons, List.not_mem_nil, or_false] at zhi
        rcases zhi with rfl | rfl | rfl | rfl | rfl | rfl
        · obtain rfl : _ = o := Option.some.inj (show some _ = some o from ho)
          have t40 : a.tmps[40]? = some (.pointer (some ⟨wI.heap.size, 2, none⟩)) := hs.get 40 (by kernel_rfl) rfl
          have lc := (N3.below rEB).arr.cell 2
          exact .inl ⟨v, w, by go_simp, ⟨fun _ => rfl, fun e => absurd e (by decide), fun e => absurd e (by decide), fun e => absurd e (by decide), fun e => absurd e (by decide), fun e => absurd e (by decide)⟩, Below.refl _ _⟩
        · obtain rfl : _ = o := Option.some.inj (show some _ = some o from ho)
          have t44 : a.tmps[44]? = some (.pointer (some ⟨d.b, 2, none⟩)) := hs.get 44 (by kernel_rfl) rfl
          have lc := ((B3.trans (rEB.mono B3.size)).cell (World.block_lt_of_cell? _ _ cv0)).trans cv0
          exact .inl ⟨.slice (some ⟨vb, vo, none⟩) d.vs.length d.vc, w, by go_simp, ⟨fun e => absurd e (by decide), fun _ => rfl, fun e => absurd e (by decide), fun e => absurd e (by decide), fun e => absurd e (by decide), fun e => absurd e (by decide)⟩, Below.refl _ _⟩
        · obtain rfl : _ = o := Option.some.inj (show some _ = some o from ho)
          obtain ⟨x45, t45, f45⟩ := (hdep 8 (by kernel_rfl)).at 45 (by kernel_rfl)
          replace f45 := f45.2.1 rfl
          have t46 : a.tmps[46]? = some (.int .i64 (kk : Nat)) := hs.get 46 (by kernel_rfl) rfl
          subst f45
          exact .inl ⟨.pointer (some ⟨vb, vo + kk, none⟩), w, by go_simp, ⟨fun e => absurd e (by decide), fun e => absurd e (by decide), fun _ => rfl, fun e => absurd e (by decide), fun e => absurd e (by decide), fun e => absurd e (by decide)⟩, Below.refl _ _⟩
        · obtain rfl : _ = o := Option.some.inj (show some _ = some o from ho)
          obtain ⟨x47, t47, f47⟩ := (hdep 10 (by kernel_rfl)).at 47 (by kernel_rfl)
          replace f47 := f47.2.2.1 rfl
          subst f47
          have lc := ((B3.trans (rEB.mono B3.size)).cell (World.block_lt_of_cell? _ _ cv1)).trans cv1
          exact .inl ⟨.slice qv.ao qv.n qv.cap, w, by go_simp, ⟨fun e => absurd e (by decide), fun e => absurd e (by decide), fun e => absurd e (by decide), fun _ => rfl, fun e => absurd e (by decide), fun e => absurd e (by decide)⟩, Below.refl _ _⟩
        · obtain rfl : _ = o := Option.some.inj (show some _ = some o from ho)
          obtain ⟨x48, t48, f48⟩ := (hdep 11 (by kernel_rfl)).at 48 (by kernel_rfl)
          replace f48 := f48.2.2.2.1 rfl
          subst f48
          have BB := B3.trans (rEB.mono B3.size)
          have N' := N3.below rEB
          have CO := own_on w qv.ao qv.n qv.cap qv.xs (sqv.below BB) hqvn
          refine .inr ⟨29, #[.slice qv.ao qv.n qv.cap], by go_simp, CO.mono ?_⟩
          rintro e w' ⟨ro, rc, rfl, O, C⟩
          exact ⟨_, rfl, ⟨fun e => absurd e (by decide), fun e => absurd e (by decide), fun e => absurd e (by decide), fun e => absurd e (by decide), fun _ => ⟨ro, rc, rfl, O.far BB.size (fun x hx => absurd hx (Nat.not_lt_zero x)) (fun x hx => N'.offNew hx)⟩, fun e => absurd e (by decide)⟩, C⟩
        · obtain rfl : _ = o := Option.some.inj (show some _ = some o from ho)
          obtain ⟨x49, t49, f49⟩ := (hdep 12 (by kernel_rfl)).at 49 (by kernel_rfl)
          replace f49 := f49.2.2.2.2.1 rfl
          obtain ⟨ro, rc, rfl, O⟩ := f49
          have CA : Below w.heap.size w (w.alloc (.cells #[.slice ro qv.n rc] 26)) := (Below.refl _ _).alloc (Nat.le_refl _) _
          exact .inl ⟨_, _, by go_simp, ⟨fun e => absurd e (by decide), fun e => absurd e (by decide), fun e => absurd e (by decide), fun e => absurd e (by decide), fun e => absurd e (by decide), fun _ => ⟨ro, rc, _, rfl, VL.new w [.slice ro qv.n rc] 26 (by simp [maxLen]), O.chg (Chg.below CA)⟩⟩, CA⟩
      intro zf rv1 hb hh
      have rE1 := rE0.trans (hb.mono rE0.size)
      obtain e4 := (hh (4, 41) (by simp)).1 rfl
      obtain e8 := (hh (8, 45) (by simp)).2.1 rfl
      obtain e10 := (hh (10, 47) (by simp)).2.2.1 rfl
      obtain e11 := (hh (11, 48) (by simp)).2.2.2.1 rfl
      obtain ⟨ro2, rc2, g1, e13, G1, O1⟩ := (hh (13, 50) (by simp)).2.2.2.2.2 rfl
      clear hh hb
      simp only [putL, List.foldl_cons, List.foldl_nil, e4, e8, e10, e11, e13]
      clear e4 e8 e10 e11 e13
      simp only [Act.put, List.setIfInBounds_toArray, List.set_cons_zero, List.set_cons_succ]
      have N1 := N3.below rE1
      obtain ⟨x2, W1, ha, P1⟩ := N1.appV (by decide) (by decide) (ty := 51) (u := .slice ro2 qv.n rc2) G1 rfl (by rw [List.length_map]; have := HXL.out; omega)
      obtain ⟨vo2, vn2, vc2, rfl⟩ := row_slice P1.nb.ov
      refine hr_ex 14 (some 51) rfl rfl (by kernel_rfl) rfl (R := fun v w' => (.slice vo2 vn2 vc2) = v ∧ W1 = w') ⟨_, W1, by simp [execOp, Act.eval, resolve, invoke, builtin, ha], rfl, rfl⟩ ?_
      rintro v w' ⟨rfl, rfl⟩
      refine ⟨trivial, ?_⟩
      simp only [Act.put, List.setIfInBounds_toArray, List.set_cons_zero, List.set_cons_succ]
      refine hr_take_w 15 (some 52) (.pointer (some ⟨wI.heap.size, 0, none⟩)) rfl rfl (by kernel_rfl) (by kernel_rfl) (by kernel_rfl) rfl (fun W hW => by go_simp) trivial ?_
      simp only [Act.put, List.setIfInBounds_toArray, List.set_cons_zero, List.set_cons_succ]
      refine hr_take_w 16 (some 53) (.pointer (some ⟨wI.heap.size, 2, none⟩)) rfl rfl (by kernel_rfl) (by kernel_rfl) (by kernel_rfl) rfl (fun W hW => by go_simp) trivial ?_
      simp only [Act.put, List.setIfInBounds_toArray, List.set_cons_zero, List.set_cons_succ]
      have lc := P1.arr.cell 2
      have lf := P1.arr.free 2
      refine hr_skip 17 none (w' := W1.setCell ⟨wI.heap.size, 2, none⟩ (.slice vo2 vn2 vc2)) rfl rfl (by kernel_rfl) rfl (by go_simp) trivial ?_
      simp only [Act.put]
      refine wpAnyH_done (by kernel_rfl) ?_ _
      refine NoPanic.normal ?_
      clear lc lf ha
      have D4 := (Chg.below (g := wI.heap.size) (k := (.slice ko2 kn2 kc2)) (v := v) (c := .slice none 0 0) rE1).trans P1.chg
      have N4 := P1.nb
      have O4 := O1.chg P1.chg
      have B4 := B3.trans ((rE1.mono B3.size).trans P1.below)
      obtain ⟨W4, hW2⟩ : ∃ W2, W2 = W1.setCell ⟨wI.heap.size, 2, none⟩ (.slice vo2 vn2 vc2) := ⟨_, rfl⟩
      rw [← hW2] at N4 O4 B4 D4 ⊢
      clear hW2 P1 N1 O1 G1 rE1 rE0
      clear N3 B3
      go_wp2
      go_roundw
      case rel =>
        refine ⟨kk + 1, .slice ko2 kn2 kc2, .slice vo2 vn2 vc2, ks ++ [⟨ro1, qk.n, rc1, qk.xs⟩], vs ++ [⟨ro2, qv.n, rc2, qv.xs⟩], by omega, by go_num, ?_, B4, ?_, ?_, ?_, ?_⟩
        · rw [List.map_append, List.map_append]
          exact N4
        · rw [List.map_append, HEK.out, HTK.out, List.map_append]
          rfl
        · rw [List.map_append, HEV.out, HTV.out, List.map_append]
          rfl
        · exact ((FK.chg D3).app O3).chg D4
        · exact ((FV.chg D3).chg D4).app O4
      case measure => simp [intOf]; omega
    · have hge : ¬ (kk : Int) < (d.ks.length : Int) := by omega
      have c3 := hN1.ok.c3
      obtain ⟨cb, co, hco, hcc⟩ := hN1.ok.cl.at (by have := HNK.out; omega)
      rw [hco] at c3
      have c3' := (H.b.cell (World.block_lt_of_cell? _ _ c3)).trans c3
      have HCC : Hid (∀ i (hi : i < d.cs.length), wI.cell? ⟨cb, co + i, none⟩ = some d.cs[i]) := hcc
      clear hco hcc c3
      have hcn : d.cs.length ≤ 50001 := by have := HNK.out; omega
      have hcni : (d.cs.length : Int) ≤ 50001 := by omega
      go_wp2
      clear c3'
      go_loopw [60] (fun i wr => ∃ (kk : Nat) (c : Value) (us : List Value), kk ≤ d.cs.length ∧ i = .int .i64 kk ∧ CkI wI wr d segs kk k v c ks vs us) (fun i _ => d.cs.length - (intOf i).toNat)
      case atStart =>
        have hkd : d.ks.take kk = d.ks := List.take_of_length_le (by omega)
        have hvd : d.vs.take kk = d.vs := List.take_of_length_le (by have := HNK.out; omega)
        exact ⟨0, _, [], Nat.zero_le _, rfl, H.nb, H.b, by rw [H.ek, hkd], by rw [H.ev, hvd], H.fk, H.fv, KidsF.nil _ _ _ _ _ _ _⟩
      case round =>
        clear H
        obtain ⟨kk2, c, us, hkk2, rfl, H⟩ := hrel
        by_cases hlt2 : kk2 < d.cs.length
        · have hki2 : (kk2 : Int) < (d.cs.length : Int) := by omega
          have hsg : kk2 < segs.length := by rw [← hN1.ec]; exact hlt2
          obtain ⟨s, hs⟩ : ∃ s, s = segs[kk2] := ⟨_, rfl⟩
          obtain ⟨u, hu, Tu⟩ := hN1.kid kk2 s (by rw [hs]; exact List.getElem?_eq_getElem hsg)
          obtain ⟨pu, rfl⟩ := Tu.ptr
          have hu' : d.cs[kk2] = .pointer pu := by rw [List.getElem?_eq_getElem hlt2] at hu; exact Option.some.inj hu
          have cu := HCC.out kk2 hlt2
          rw [hu'] at cu
          have cu' := (H.b.cell (World.block_lt_of_cell? _ _ cu)).trans cu
          have hsl := hN1.shp.shorter s (by rw [hs]; exact List.getElem_mem _)
          have hslt : s.length < N := by omega
          have HSS : Hid (Szd s) := fun x hx => HSZ.out x (hN1.shp.seg s (by rw [hs]; exact List.getElem_mem _) x hx)
          have HTS : Hid (segs.take (kk2 + 1) = segs.take kk2 ++ [s]) := by show _ = _; rw [hs, List.take_succ_eq_append_getElem hsg]
          clear hu hu' cu hs
          have N := H.nb
          have B := H.b
          have KF := H.kf
          have HXL : Hid ((segs.take kk2).length ≤ 50001) := by show _ ≤ _; rw [List.length_take]; omega
          have FK := H.fk
          have FV := H.fv
          have HEK : Hid (ks.map Part.xs = d.ks.map Part.xs) := H.ek
          have HEV : Hid (vs.map Part.xs = d.vs.map Part.xs) := H.ev
          clear H
          go_wp2
          clear cu'
          have E0 : Below wr.heap.size wr wr.drew := (Below.refl _ _).drew
          refine wp_region_noPanic ?_
          refine wp_region_held_drew (S := fun _ => True) (by kernel_rfl) trivial (fun _ => ?_)
          obtain ⟨v0, hv0⟩ : ∃ v, v = wr.drew := ⟨_, rfl⟩
          rw [← hv0] at E0 ⊢
          clear hv0
          refine hr_take_w 0 (some 64) (.pointer (some ⟨wI.heap.size, 0, none⟩)) rfl rfl (by kernel_rfl) (by kernel_rfl) (by kernel_rfl) rfl (fun W hW => by go_simp) trivial ?_
          simp only [Act.put, List.setIfInBounds_toArray, List.set_cons_zero, List.set_cons_succ]
          refine hr_take_w 1 (some 65) (.pointer (some ⟨wI.heap.size, 0, none⟩)) rfl rfl (by kernel_rfl) (by kernel_rfl) (by kernel_rfl) rfl (fun W hW => by go_simp) trivial ?_
          simp only [Act.put, List.setIfInBounds_toArray, List.set_cons_zero, List.set_cons_succ]
          refine hr_take_w 2 (some 66) (.pointer (some ⟨wI.heap.size, 0, none⟩)) rfl rfl (by kernel_rfl) (by kernel_rfl) (by kernel_rfl) rfl (fun W hW => by go_simp) trivial ?_
          simp only [Act.put, List.setIfInBounds_toArray, List.set_cons_zero, List.set_cons_succ]
          refine hr_take_w 3 (some 67) (.pointer (some ⟨wI.heap.size, 3, none⟩)) rfl rfl (by kernel_rfl) (by kernel_rfl) (by kernel_rfl) rfl (fun W hW => by go_simp) trivial ?_
          simp only [Act.put, List.setIfInBounds_toArray, List.set_cons_zero, List.set_cons_succ]
          refine hr_take_w 5 (some 69) (.pointer pu) rfl rfl (by kernel_rfl) (by kernel_rfl) (by kernel_rfl) rfl (fun W hW => by go_simp) trivial ?_
          simp only [Act.put, List.setIfInBounds_toArray, List.set_cons_zero, List.set_cons_succ]
          refine wpAnyH_effto 4 (fun zi zv zw => (zi = 4 → zv = c) ∧ (zi = 6 → ∃ po, zv = .pointer po ∧ Far zw 0 wI.heap.size wI.heap.size k v c fun x => T x (.pointer po) s) ∧ (zi = 7 → ∃ po g1, zv = .slice (some ⟨g1, 0, none⟩) 1 1 ∧ VL zw (some ⟨g1, 0, none⟩) 1 1 [.pointer po] ∧ Far zw 0 wI.heap.size wI.heap.size k v c fun x => T x (.pointer po) s)) [(4, 68), (6, 70), (7, 71)] 77 (by kernel_rfl) (by decide) (by decide) rfl ?_ (fun _ _ => trivial) ?_ ?_
          · intro zi v w w' h hb
            refine ⟨fun e => ?_, fun e => ?_, fun e => ?_⟩
            · have h := h.1 e
              exact h
            · have h := h.2.1 e
              obtain ⟨po, h1, h2⟩ := h
              exact ⟨po, h1, h2.chg (Chg.below hb)⟩
            · have h := h.2.2 e
              obtain ⟨po, g1, h1, h2, h3⟩ := h
              exact ⟨po, g1, h1, h2.below hb, h3.chg (Chg.below hb)⟩
          · intro zp zhi o a w ho hs hb hdep
            have EB := E0.trans (hb.mono E0.size)
            simp only [List.mem_cons, List.not_mem_nil, or_false] at zhi
            rcases zhi with rfl | rfl | rfl
            · obtain rfl : _ = o := Option.some.inj (show some _ = some o from ho)
              have t67 : a.tmps[67]? = some (.pointer (some ⟨wI.heap.size, 3, none⟩)) := hs.get 67 (by kernel_rfl) rfl
              have lc := (N.below EB).arr.cell 3
              exact .inl ⟨c, w, by go_simp, ⟨fun _ => rfl, fun e => absurd e (by decide), fun e => absurd e (by decide)⟩, Below.refl _ _⟩
            · obtain rfl : _ = o := Option.some.inj (show some _ = some o from ho)
              have t69 : a.tmps[69]? = some (.pointer pu) := hs.get 69 (by kernel_rfl) rfl
              have N' := N.below EB
              have BB := B.trans (EB.mono B.size)
              have CS := ih s.length hslt w (.pointer pu) s (Tu.below BB) (by omega) HSS.out (Nat.le_refl _)
              refine .inr ⟨41, #[.pointer pu], by go_simp, CS.mono ?_⟩
              rintro e w' ⟨po, rfl, O, C⟩
              exact ⟨_, rfl, ⟨fun e => absurd e (by decide), fun _ => ⟨po, rfl, O.far BB.size (fun x hx => absurd hx (Nat.not_lt_zero x)) (fun x hx => N'.offNew hx)⟩, fun e => absurd e (by decide)⟩, C⟩
            · obtain rfl : _ = o := Option.some.inj (show some _ = some o from ho)
              obtain ⟨x70, t70, f70⟩ := (hdep 6 (by kernel_rfl)).at 70 (by kernel_rfl)
              replace f70 := f70.2.1 rfl
              obtain ⟨po, rfl, T1⟩ := f70
              have CA : Below w.heap.size w (w.alloc (.cells #[.pointer po] 46)) := (Below.refl _ _).alloc (Nat.le_refl _) _
              exact .inl ⟨_, _, by go_simp, ⟨fun e => absurd e (by decide), fun e => absurd e (by decide), fun _ => ⟨po, _, rfl, VL.new w [.pointer po] 46 (by simp [maxLen]), T1.chg (Chg.below CA)⟩⟩, CA⟩
          intro zf v1 hb hh
          have E1 := E0.trans (hb.mono E0.size)
          obtain e4 := (hh (4, 68) (by simp)).1 rfl
          obtain ⟨po, g1, e7, G1, T1⟩ := (hh (7, 71) (by simp)).2.2 rfl
          clear hh hb
          simp only [putL, List.foldl_cons, List.foldl_nil, e4, e7]
          clear e4 e7
          simp only [Act.put, List.setIfInBounds_toArray, List.set_cons_zero, List.set_cons_succ]
          have N1 := N.below E1
          have D1 : Chg wr v1 wI.heap.size k v c k v c := Chg.below E1
          have KF1 := (KF.chg D1).app T1
          obtain ⟨c2, W1, ha, P1⟩ := N1.appC (by decide) (by decide) (ps := 71) (ty := 71) Tryd.underlying71 ninfo G1 rfl (by rw [KF.len]; have := HXL.out; omega)
          obtain ⟨co2, cn2, cc2, rfl⟩ := row_slice P1.nb.oc
          refine hr_ex 8 (some 72) rfl rfl (by kernel_rfl) rfl (R := fun v w' => (.slice co2 cn2 cc2) = v ∧ W1 = w') ⟨_, W1, by simp [execOp, Act.eval, resolve, invoke, builtin, ha], rfl, rfl⟩ ?_
          rintro v w' ⟨rfl, rfl⟩
          refine ⟨trivial, ?_⟩
          simp only [Act.put, List.setIfInBounds_toArray, List.set_cons_zero, List.set_cons_succ]
          refine hr_take_w 9 (some 73) (.pointer (some ⟨wI.heap.size, 0, none⟩)) rfl rfl (by kernel_rfl) (by kernel_rfl) (by kernel_rfl) rfl (fun W hW => by go_simp) trivial ?_
          simp only [Act.put, List.setIfInBounds_toArray, List.set_cons_zero, List.set_cons_succ]
          refine hr_take_w 10 (some 74) (.pointer (some ⟨wI.heap.size, 3, none⟩)) rfl rfl (by kernel_rfl) (by kernel_rfl) (by kernel_rfl) rfl (fun W hW => by go_simp) trivial ?_
          simp only [Act.put, List.setIfInBounds_toArray, List.set_cons_zero, List.set_cons_succ]
          have lc := P1.arr.cell 3
          have lf := P1.arr.free 3
          refine hr_skip 11 none (w' := W1.setCell ⟨wI.heap.size, 3, none⟩ (.slice co2 cn2 cc2)) rfl rfl (by kernel_rfl) rfl (by go_simp) trivial ?_
          simp only [Act.put]
          refine wpAnyH_done (by kernel_rfl) ?_ _
          refine NoPanic.normal ?_
          clear lc lf ha
          have N2 := P1.nb
          have KF2 := KF1.chg P1.chg
          have D2 := D1.trans P1.chg
          have B2 := B.trans ((E1.mono B.size).trans P1.below)
          obtain ⟨W2, hW2⟩ : ∃ W2, W2 = W1.setCell ⟨wI.heap.size, 3, none⟩ (.slice co2 cn2 cc2) := ⟨_, rfl⟩
          rw [← hW2] at N2 KF2 D2 B2 ⊢
          clear hW2
          go_wp2
          go_roundw
          case rel =>
            refine ⟨kk2 + 1, (.slice co2 cn2 cc2), us ++ [.pointer po], by omega, by go_num, N2, B2, HEK.out, HEV.out, FK.chg D2, FV.chg D2, ?_⟩
            rw [HTS.out]
            exact KF2
          case measure => simp [intOf]; omega
        · have hge2 : ¬ (kk2 : Int) < (d.cs.length : Int) := by omega
          go_wp2
          go_ret
          refine ⟨_, rfl, fun W hW => ?_, H.b⟩
          have hseg : segs.take kk2 = segs := List.take_of_length_le (by rw [← hN1.ec]; omega)
          have KF := H.kf
          rw [hseg] at KF
          exact (H.nb.on (fun b h1 h2 => hW b (.inr h1) h2)).tree (fun q hq => (H.fk q hq).end hW) (fun q hq => (H.fv q hq).end hW) hN1.shp (H.ek.trans hN1.ek) (H.ev.trans hN1.ev) (KF.end hW)

set_option maxHeartbeats 400000 in
set_option maxRecDepth 100000 in
/-- Top. -/
theorem top_any (w : World) (v : Value) (l : List It) (h : TT w v l) (hn : l.length ≤ 50000) (hsz : Szd l) : Calls Tryd.prog 19 #[v] w (OnT 0 w l) := by
  have CS := shared_any w v l h
  obtain ⟨po, rfl⟩ := h.ptr
  go_enter Tryd.func19, Tryd.ntmps19
  go_wp2_with fail
  refine CS.mono ?_
  rintro e w2 ⟨q, rfl, hq, hw2⟩
  obtain rfl := hw2.symm
  have CC := copy_fuel l.length w (.pointer q) l hq hn hsz (Nat.le_refl _)
  clear CS
  go_wp2_with fail
  refine CC.mono ?_
  rintro e w3 ⟨u, rfl, O, C⟩
  go_wp2
  go_ret
  exact ⟨u, rfl, O, C⟩
end Go.Proofs.YtiabdcejibeciaaDoor

/-
  New: a book in which nobody has said anything.
-/
import Derived.Test.YtkncfjokkojfpaaDoorSNums
namespace Go
theorem wpList_mapUpdate_F {P : Program} {ops : Array Oper} {rest : List Oper} {a : Act} {w : World} {Q : Exit → Act → World → Prop} {o : Oper} (hgd : o.guard = none) {t : TypeId} {m x v : Operand} {mv xv vv : Value} {R : World → Prop} (ho : o.op = .mapUpdate t m x v) (hm : a.eval m = mv) (hx : a.eval x = xv) (hv : a.eval v = vv) (hr : ∃ w', (Instr.mapUpdate t mv xv vv).run P w = .ok () w' ∧ R w')
    (h : ∀ w', R w' → wpList P ops Q rest (a.put o.dst undef) w') : wpList P ops Q (o :: rest) a w := by
  refine wpList_plain hgd fun K hK => ?_
  obtain ⟨w', h1, h2⟩ := exec_mapUpdate ho hm hx hv hr
  unfold Oper.wp
  rw [h1, Oper.upon_skip]
  exact hK _ _ (h w' h2)
end Go

namespace Go.Proofs.YtkncfjokkojfpaaDoor
open Go.RowKit

theorem new_bad (w : World) (real : Bool) (mo : Option Addr) (mn mc : Nat) (ao : Option Addr) (n cap : Nat) (ns : List Nat) (h : NL w ao n cap ns) (hb : n = 0 ∨ 64 < n ∨ riseF 0 ns = false) :
    Calls Tryd.prog 10 #[.bool real, .slice mo mn mc, .slice ao n cap] w fun e w' => e = .returned (.tuple #[.pointer none, .int .i64 1]) ∧ w' = w := by
  by_cases h0 : n = 0
  · subst h0
    go_enter Tryd.func10, Tryd.ntmps10
    go_wp2
    go_ret2
    exact ⟨rfl, rfl⟩
  · have e0 : ((n : Int) == 0) = false := by simp; omega
    by_cases h1 : 64 < n
    · have e1 : (64 : Int) < (n : Int) := by omega
      have e2 : decide ((64 : Int) < (n : Int)) = true := by simp; omega
      go_enter Tryd.func10, Tryd.ntmps10
      go_wp2
      go_ret2
      exact ⟨rfl, rfl⟩
    · have e1 : (n : Int) ≤ 64 := by omega
      have e2 : decide ((64 : Int) < (n : Int)) = false := by simp; omega
      have hr : riseF 0 ns = false := by rcases hb with h | h | h <;> first | omega | exact h
      go_enter Tryd.func10, Tryd.ntmps10
      go_wp2_with (go_at_call 25; refine (rise_any w ao n cap ns h (by omega)).mono ?_; rintro e w' ⟨rfl, rfl⟩; rw [hr])
      go_ret2
      exact ⟨rfl, rfl⟩

/-- A new book. -/
structure NewPost (w w' : World) (real : Bool) (mst : List Int) (ns : List Nat) (p mk ms nk : Nat) (KF : Value → Option Value) : Prop where
  bk : BK w' p mk ms real nk 0 KF (fun _ => none)
  kn : KN w' real mst (fun x => decide (x ∈ ns)) KF
  bel : Below w.heap.size w w'
  np : w.heap.size ≤ p
  nm : w.heap.size ≤ ms

theorem KN.more {w' : World} {real : Bool} {mst : List Int} {ns : List Nat} {KF KF' : Value → Option Value} {node : Nat} {ko : Option Addr} {n c : Nat} (h : KN w' real mst (fun x => decide (x ∈ ns)) KF) (h1 : KF' (.int .u64 node) = some (.slice ko n c)) (h2 : ∀ x, x ≠ .int .u64 node → KF' x = KF x) (h3 : real = true → Sl w' ko n c (nkL mst node)) :
    KN w' real mst (fun x => decide (x ∈ ns ++ [node])) KF' := by
  intro x hx
  by_cases hxn : x = node
  · subst hxn
    refine ⟨fun hf => by simp at hf, fun _ => ⟨ko, n, c, h1, h3⟩⟩
  · have hne : Value.int .u64 (x : Int) ≠ .int .u64 (node : Int) := by
      simp only [ne_eq, Value.int.injEq, true_and]
      omega
    have e : decide (x ∈ ns ++ [node]) = decide (x ∈ ns) := by simp [hxn]
    rw [h2 _ hne]
    simp only [e]
    exact h x hx

set_option maxRecDepth 100000 in
set_option maxHeartbeats 4000000 in
theorem new_good (w : World) (real : Bool) (mo : Option Addr) (mn mc : Nat) (mst : List Int) (ao : Option Addr) (n cap : Nat) (ns : List Nat) (h : NL w ao n cap ns) (hM : Sl w mo mn mc mst) (hm : mn ≤ 1000000) (hT : Tabs w) (h0 : 0 < n) (h64 : n ≤ 64) (hr : riseF 0 ns = true) :
    Calls Tryd.prog 10 #[.bool real, .slice mo mn mc, .slice ao n cap] w fun e w' => ∃ p mk ms nk KF, e = .returned (.tuple #[.pointer (some ⟨p, 0, none⟩), .int .i64 0]) ∧ NewPost w w' real mst ns p mk ms nk KF := by
  have h2 := hT.two
  have hl := h.len
  have e0 : ((n : Int) == 0) = false := by simp; omega
  have e1 : (n : Int) ≤ 64 := by omega
  have e2 : decide ((64 : Int) < (n : Int)) = false := by simp; omega
  have hmm := @run_makeMap Tryd.prog
  have HW : Hid (∀ W : World, W = ((w.alloc (.map #[] 0)).alloc (.map #[] 0)).alloc (.cells #[.bool real, .map (some w.heap.size), .map (some (w.heap.size + 1))] 56) → BK W (w.heap.size + 2) w.heap.size (w.heap.size + 1) real 0 0 (fun _ => none) (fun _ => none) ∧ Below w.heap.size w W ∧ W.heap.size = w.heap.size + 3) := by
    rintro W rfl
    have s1 : (w.alloc (.map #[] 0)).heap.size = w.heap.size + 1 := by simp
    have s2 : ((w.alloc (.map #[] 0)).alloc (.map #[] 0)).heap.size = w.heap.size + 2 := by simp
    have m1 : MF ((w.alloc (.map #[] 0)).alloc (.map #[] 0)) 24 w.heap.size 0 fun _ => none := (MF.made w _).kept (World.grownBy_alloc _ _ none) (by simp)
    have m2 : MF ((w.alloc (.map #[] 0)).alloc (.map #[] 0)) 62 (w.heap.size + 1) 0 fun _ => none := by
      have := MF.made (w.alloc (.map #[] 0)) 62
      rw [s1] at this
      exact this
    refine ⟨⟨?_, m1.kept (World.grownBy_alloc _ _ none) (by simp), m2.kept (World.grownBy_alloc _ _ none) (by simp), by omega⟩, ?_, by simp⟩
    · have := heap_alloc_new ((w.alloc (.map #[] 0)).alloc (.map #[] 0)) (.cells #[.bool real, .map (some w.heap.size), .map (some (w.heap.size + 1))] 56)
      rw [s2] at this
      exact this
    · exact (((Below.refl _ w).alloc (Nat.le_refl _) _).alloc (by simp) _).alloc (by simp; omega) _
  go_enter Tryd.func10, Tryd.ntmps10
  go_wp2_with (go_at_call 25; refine (rise_any w ao n cap ns h (by omega)).mono ?_; rintro e w' ⟨rfl, hw⟩; obtain rfl := hw.symm; clear hw; rw [hr])
  obtain ⟨W0, hW0⟩ : ∃ W, W = ((w.alloc (.map #[] 0)).alloc (.map #[] 0)).alloc (.cells #[.bool real, .map (some w.heap.size), .map (some (w.heap.size + 1))] 56) := ⟨_, rfl⟩
  obtain ⟨K0, B0, s0⟩ := HW.out W0 hW0
  rw [← hW0]
  clear hW0 HW hmm
  have KN0 : KN W0 real mst (fun x => decide (x ∈ ns.take 0)) (fun _ => none) := fun x hx => ⟨fun _ => rfl, fun hf => by simp at hf⟩
  go_wp2_with fail
  go_loopw [31] (fun i wr => ∃ (k nk : Nat) (KF : Value → Option Value), k ≤ n ∧ nk ≤ k ∧ i = .int .i64 k ∧ Below w.heap.size w wr ∧ w.heap.size + 3 ≤ wr.heap.size ∧ BK wr (w.heap.size + 2) w.heap.size (w.heap.size + 1) real nk 0 KF (fun _ => none) ∧ KN wr real mst (fun x => decide (x ∈ ns.take k)) KF) (fun i _ => n - (intOf i).toNat)
  case atStart => exact ⟨0, 0, _, by omega, by omega, rfl, B0, by omega, K0, KN0⟩
  case round =>
    clear K0 KN0 B0
    obtain ⟨k, nk, KF, hk, hnk, rfl, B1, s1, K1, KN1⟩ := hrel
    have T1 := hT.below B1 h2
    by_cases hlt : k < n
    · have hki : (k : Int) < (n : Int) := by omega
      have hkl : k < ns.length := by omega
      obtain ⟨b, off, rfl, hc⟩ := (h.below B1).at (by omega)
      have c1 := hc k hlt
      have e3 : ns.getD k 0 = ns[k] := by simp [List.getD, hkl]
      rw [e3] at c1
      have hx64 := h.rng ns[k] (List.getElem_mem hkl)
      have HT : Hid (ns.take (k + 1) = ns.take k ++ [ns[k]]) := by
        show _ = _
        rw [List.take_add_one, List.getElem?_eq_getElem hkl]
        rfl
      obtain ⟨x, hx⟩ : ∃ x, x = ns[k] := ⟨_, rfl⟩
      rw [← hx] at c1 hx64 HT
      clear hx hc e3
      have cm := K1.c1
      have key := key24 x hx64
      have hmx : nk < maxLen := by unfold maxLen; omega
      cases real with
      | false =>
        have UP := K1.keys.update k24 Tryd.underlying53 hmx (key := .int .u64 x) (val := .slice none 0 0) key
        go_wp2_with (at_mapUpdate; refine wpList_mapUpdate_F (R := fun w4 => ∃ KF' nk', MF w4 24 w.heap.size nk' KF' ∧ wr.grownBy w4 (some w.heap.size) ∧ KF' (.int .u64 x) = some (.slice none 0 0) ∧ (∀ y, y ≠ .int .u64 x → KF' y = KF y) ∧ nk' ≤ nk + 1) rfl rfl rfl rfl rfl (by
          obtain ⟨w4, F', n', r1, r2, r3, r4, r5, r6, r7⟩ := UP
          refine ⟨w4, r1, F', n', r2, r3, r4, r5, ?_⟩
          cases hf : KF (.int .u64 x) with
          | none => rw [r6 hf]; omega
          | some u => rw [r7 (by rw [hf]; simp)]; omega) ?_; rintro w4 ⟨KF', nk', M4, G4, q1, q2, q3⟩; go_frame)
        have B4 := B1.grown G4 B1.size (by intro k hk; cases hk; exact Nat.le_refl _)
        go_roundw
        case rel =>
          have s4 := G4.size
          refine ⟨k + 1, nk', KF', by omega, by omega, by go_num, B4, by omega, ⟨(G4.block _ (by omega) (by simp)).trans K1.heap, M4, K1.said.kept G4 (by simp), K1.ne⟩, ?_⟩
          rw [HT.out]
          exact KN.more (KN1.grown G4 K1.keys.isMap) q1 q2 (fun h => by cases h)
        case measure => simp [intOf]; omega
      | true =>
        have M1 := hM.below B1
        have S1 := B1.size
        have HS : Hid (∀ W : World, Below wr.heap.size wr W → W.cell? ⟨w.heap.size + 2, 1, none⟩ = some (.map (some w.heap.size))) := fun W hW => (K1.below hW).c1
        go_wp2_with fail
        refine wp_region_noPanic ?_
        refine wp_region_held_drew (S := fun W => W.cell? ⟨w.heap.size + 2, 1, none⟩ = some (.map (some w.heap.size))) (by kernel_rfl) (HS.out _ (Below.refl _ _).drew) (fun hH => ?_)
        refine hr_take 0 (some 36) (.pointer (some ⟨w.heap.size + 2, 0, none⟩)) rfl rfl (by kernel_rfl) (by kernel_rfl) (by kernel_rfl) rfl (fun W hW => by have h1 := hW; go_simp) hH ?_
        simp only [Act.put, List.setIfInBounds_toArray, List.set_cons_zero, List.set_cons_succ]
        refine hr_take 1 (some 37) (.pointer (some ⟨w.heap.size + 2, 0, none⟩)) rfl rfl (by kernel_rfl) (by kernel_rfl) (by kernel_rfl) rfl (fun W hW => by have h1 := hW; go_simp) hH ?_
        simp only [Act.put, List.setIfInBounds_toArray, List.set_cons_zero, List.set_cons_succ]
        refine hr_take 2 (some 38) (.pointer (some ⟨w.heap.size + 2, 1, none⟩)) rfl rfl (by kernel_rfl) (by kernel_rfl) (by kernel_rfl) rfl (fun W hW => by have h1 := hW; go_simp) hH ?_
        simp only [Act.put, List.setIfInBounds_toArray, List.set_cons_zero, List.set_cons_succ]
        refine hr_take 3 (some 39) (.map (some w.heap.size)) rfl rfl (by kernel_rfl) (by kernel_rfl) (by kernel_rfl) rfl (fun W hW => by have h1 := hW; go_simp) hH ?_
        simp only [Act.put, List.setIfInBounds_toArray, List.set_cons_zero, List.set_cons_succ]
        refine hr_take 4 (some 40) (.int .u64 x) rfl rfl (by kernel_rfl) (by kernel_rfl) (by kernel_rfl) rfl (fun W hW => by have h1 := hW; go_simp) hH ?_
        simp only [Act.put, List.setIfInBounds_toArray, List.set_cons_zero, List.set_cons_succ]
        refine hr_take 5 (some 41) (.slice mo mn mc) rfl rfl (by kernel_rfl) (by kernel_rfl) (by kernel_rfl) rfl (fun W hW => by have h1 := hW; go_simp) hH ?_
        simp only [Act.put, List.setIfInBounds_toArray, List.set_cons_zero, List.set_cons_succ]
        refine hr_take 6 (some 42) (.int .u64 x) rfl rfl (by kernel_rfl) (by kernel_rfl) (by kernel_rfl) rfl (fun W hW => by have h1 := hW; go_simp) hH ?_
        simp only [Act.put, List.setIfInBounds_toArray, List.set_cons_zero, List.set_cons_succ]
        refine hr_call 7 (some 43) 13 #[.slice mo mn mc, .int .u64 x] rfl rfl (by kernel_rfl) rfl (by go_simp) (fun v w' => w'.ownsRow wr.heap.size 5 1 v 32 (bv (nkL mst x)) ∧ Below wr.heap.size wr w') ((skey_any wr.drew mo mn mc mst x (hT.below B1.drew h2) (hM.below B1.drew) hm hx64).mono ?_) ?_
        · rintro e w' ⟨v, rfl, own, C⟩
          exact ⟨v, rfl, own, (Below.refl wr.heap.size wr).drew.trans C⟩
        rintro v w5 ⟨own5, B5⟩
        obtain ⟨g5, c5, rfl, hg5, -⟩ := own5.form (by omega)
        obtain ⟨ao5, cap5, hv5, S5, -⟩ := Sl.own own5 (sumL_byte _)
        simp only [Value.slice.injEq, true_and] at hv5
        obtain ⟨rfl, rfl⟩ := hv5
        have hS5 := HS.out w5 B5
        refine ⟨hS5, ?_⟩
        simp only [Act.put, List.setIfInBounds_toArray, List.set_cons_zero, List.set_cons_succ]
        have K5 := K1.below B5
        have KN5 := KN1.below B5
        have UP := K5.keys.update k24 Tryd.underlying53 hmx (key := .int .u64 x) (val := .slice (some ⟨g5, 0, none⟩) 32 c5) key
        refine hr_skip_ex 8 none rfl rfl (by kernel_rfl) rfl (exec_mapUpdate (R := fun w4 => ∃ KF' nk', MF w4 24 w.heap.size nk' KF' ∧ w5.grownBy w4 (some w.heap.size) ∧ KF' (.int .u64 x) = some (.slice (some ⟨g5, 0, none⟩) 32 c5) ∧ (∀ y, y ≠ .int .u64 x → KF' y = KF y) ∧ nk' ≤ nk + 1) rfl rfl rfl rfl (by
          obtain ⟨w4, F', n', r1, r2, r3, r4, r5, r6, r7⟩ := UP
          refine ⟨w4, r1, F', n', r2, r3, r4, r5, ?_⟩
          cases hf : KF (.int .u64 x) with
          | none => rw [r6 hf]; omega
          | some u => rw [r7 (by rw [hf]; simp)]; omega)) ?_
        rintro w4 ⟨KF', nk', M4, G4, q1, q2, q3⟩
        have t5 := B5.size
        have s4 := G4.size
        have K4 : BK w4 (w.heap.size + 2) w.heap.size (w.heap.size + 1) true nk' 0 KF' (fun _ => none) := ⟨(G4.block _ (by omega) (by simp)).trans K5.heap, M4, K5.said.kept G4 (by simp), K1.ne⟩
        refine ⟨K4.c1, ?_⟩
        refine wpAnyH_done (by kernel_rfl) ?_ _
        refine NoPanic.normal ?_
        clear hH hS5 UP HS
        go_frame
        have B4 : Below w.heap.size w w4 := (B1.trans (B5.mono S1)).grown G4 (by omega) (by intro k hk; cases hk; exact Nat.le_refl _)
        have hne : ∀ a, some (⟨g5, 0, none⟩ : Addr) = some a → 0 < 32 → a.block ≠ w.heap.size := by
          intro a ha _
          obtain rfl := Option.some.inj ha
          show g5 ≠ _
          omega
        have S4 := S5.grown G4 hne
        go_wp2
        go_roundw
        case rel =>
          refine ⟨k + 1, nk', KF', by omega, by omega, by go_num, B4, by omega, K4, ?_⟩
          rw [HT.out]
          exact KN.more (KN5.grown G4 K5.keys.isMap) q1 q2 (fun _ => S4)
        case measure => simp [intOf]; omega
    · have hge : (n : Int) ≤ (k : Int) := by omega
      have e : ns.take k = ns := List.take_of_length_le (by omega)
      rw [e] at KN1
      clear e
      go_wp2
      go_ret2
      exact ⟨w.heap.size + 2, w.heap.size, w.heap.size + 1, nk, KF, rfl, K1, KN1, B1, by omega, by omega⟩

end Go.Proofs.YtkncfjokkojfpaaDoor

/-
  tree.at; the closure of tree.Form.
-/
import Derived.Test.YtcepknjdiboinaaDoorTreeBetweenZ6
import Derived.Test.YtcepknjdiboinaaDoorTreeBetweenZ2
import Derived.Test.YtcepknjdiboinaaDoorTreeBetweenZ3
namespace Go.Proofs.YtcepknjdiboinaaDoor
open Go.RowKit

/-- A part out of a list, or nothing. -/
theorem at_any (w : World) (ao : Option Addr) (n cap i : Nat) (ps : List Part) (h : PL w ao n cap ps) (hn : n ≤ 1000000) (hi : i ≤ 1000000) :
    Calls Tryd.prog 122 #[.slice ao n cap, .int .i64 i] w fun e w' => ∃ qo qn qc, e = .returned (.slice qo qn qc) ∧ Sl w qo qn qc ((ps.map Part.xs).getD i []) ∧ (qn = 0 ∨ ∃ q ∈ ps, qn = q.n) ∧ w' = w := by
  have hl := h.len
  by_cases hlt : i < n
  · have hlt' : (i : Int) < (n : Int) := by omega
    obtain ⟨b, off, rfl, hc⟩ := h.at (by omega)
    have hil : i < ps.length := by omega
    have c1 := hc i hil
    have S1 := h.sl ps[i] (List.getElem_mem hil)
    have hm := List.getElem_mem hil
    have HG : Hid ((ps.map Part.xs).getD i [] = ps[i].xs) := by show _ = _; simp [List.getD, hil]
    obtain ⟨q, hq⟩ : ∃ q, q = ps[i] := ⟨_, rfl⟩
    rw [← hq] at c1 S1 HG hm
    clear hq hc
    unfold Part.val at c1
    go_enter Tryd.func122, Tryd.ntmps122
    go_wp2
    go_ret
    exact ⟨q.ao, q.n, q.cap, rfl, by first | exact S1 | (rw [HG.out]; exact S1), .inr ⟨q, hm, rfl⟩, rfl⟩
  · have hlt' : ¬ (i : Int) < (n : Int) := by omega
    have HG : Hid ((ps.map Part.xs).getD i [] = []) := by show _ = _; rw [List.getD, List.getElem?_eq_none (by simp; omega)]; rfl
    go_enter Tryd.func122, Tryd.ntmps122
    go_wp2
    go_ret
    exact ⟨none, 0, 0, rfl, by first | exact Sl.nothing w | (rw [HG.out]; exact Sl.nothing w), .inl rfl, rfl⟩

set_option maxHeartbeats 1000000 in
set_option maxRecDepth 100000 in
theorem put_any (w : World) (p base : Nat) (v : Value) (k : Nat) (xs : List Int) (ha : Arr w p 23 [v]) (own : w.ownsRow base 5 1 v k (bv xs)) (hp : base ≤ p) (hb : base ≤ w.heap.size) (ao : Option Addr) (n cap : Nat) (ys : List Int) (h : Sl w ao n cap ys) (hk : k + n + 100 ≤ 140737488355328) (hxb : Byt xs) :
    Calls Tryd.prog 121 #[.slice ao n cap, .pointer (some ⟨p, 0, none⟩)] w fun e w' => (∃ u, e = .returned u) ∧ ∃ v', Arr w' p 23 [v'] ∧ w'.ownsRow base 5 1 v' (k + ((enc n).length + n)) (bv (xs ++ (enc n ++ ys))) ∧ Below base w w' := by
  obtain ⟨i0, hi, hz0, hz1, hz2⟩ := info_parts u8info
  have hl := h.len
  have hen := enc_length (n := n) (by omega)
  have hep := enc_pos n
  have heb : Byt (enc n) := enc_byte (by omega)
  have hbyt : Byt (xs ++ (enc n ++ ys)) := hxb.append (heb.append h.byte)
  obtain ⟨vo, vc, rfl, -, -⟩ := Sl.own own hxb
  go_enter Tryd.func121, Tryd.ntmps121
  go_wp2_with fail
  have HS : Hid (∀ V, Below w.heap.size w V → True) := fun _ _ => trivial
  have E0 : Below w.heap.size w w.drew := (Below.refl _ _).drew
  refine wp_region_noPanic ?_
  refine wp_region_held_drew (S := fun V => True) (by kernel_rfl) (HS.out _ E0) (fun H0 => ?_)
  obtain ⟨v0, hv0⟩ : ∃ v, v = w.drew := ⟨_, rfl⟩
  rw [← hv0] at E0 ⊢
  clear hv0
  refine hr_take_w 1 (some 4) (.slice ao n cap) rfl rfl (by kernel_rfl) (by kernel_rfl) (by kernel_rfl) rfl (fun W hW => by go_simp) H0 ?_
  simp only [Act.put, List.setIfInBounds_toArray, List.set_cons_zero, List.set_cons_succ]
  have hv0 := ha.cell 0
  have ha0 := arr_below ha E0
  have own0 := own_below own E0
  have h0 := h.below E0
  have c0 := ha0.cell 0
  have s0 := E0.size
  refine hr_any (rs := [0, 2]) (by kernel_rfl) (by simp) (fun i hi' => ?_)
  simp only [List.mem_cons, List.not_mem_nil, or_false] at hi'
  rcases hi' with rfl | rfl
  · refine op_ex 0 (some 3) rfl rfl rfl (R := fun u w' => u = .slice vo k vc ∧ v0 = w') ⟨_, _, by go_simp, rfl, rfl⟩ ?_
    rintro u w' ⟨rfl, rfl⟩
    refine ⟨trivial, ?_⟩
    simp only [Act.put, List.setIfInBounds_toArray, List.set_cons_zero, List.set_cons_succ]
    refine hr_call_w 2 (some 5) 80 #[.slice none 0 0, .slice ao n cap] rfl rfl (by kernel_rfl) rfl (by go_simp) (fun u w' => w'.ownsRow v0.heap.size 5 1 u (0 + (enc n).length + n) (bv ([] ++ enc n ++ ys)) ∧ Below v0.heap.size v0 w') ((wBytes_any v0 none ao 0 0 n cap [] ys (Sl.nothing v0) h0 (by omega)).mono (by
      rintro e w' ⟨u, rfl, o, C⟩
      exact ⟨_, rfl, o, C⟩)) ?_
    rintro u w1 ⟨o1, C1⟩
    simp only [Nat.zero_add, List.nil_append] at o1
    obtain ⟨fo', fc, rfl, S1, hS1⟩ := Sl.own o1 (heb.append h.byte)
    obtain ⟨fo, rfl⟩ : ∃ fo, fo' = some fo := by
      cases fo' with
      | none => have := (S1.nil rfl).1; omega
      | some a => exact ⟨a, rfl⟩
    have s1 := C1.size
    have own1 := own_below own0 C1
    have ha1 := arr_below ha0 C1
    refine ⟨trivial, ?_⟩
    simp only [Act.put, List.setIfInBounds_toArray, List.set_cons_zero, List.set_cons_succ]
    obtain ⟨v', w2, hrun, own2, g2, -⟩ := run_append_own (P := Tryd.prog) w1 base 23 23 5 i0 (.int .u8 0) 1 1 Tryd.underlying23 hi hz0 hz1 hz2 rfl (by decide) (.slice vo k vc) k (bv xs) own1 fo ((enc n).length + n) fc (bv (enc n ++ ys)) (by rw [bv_length, Nat.mul_one]; exact S1.len) (S1.cells fo rfl) (bv_one _) (by unfold maxLen; omega) (by omega) (by omega)
    obtain ⟨a1, a2, own3, B3⟩ := arr_put ha1 (by decide) own1 (by omega) hp own2 g2 0
    have e1 : bv xs ++ bv (enc n ++ ys) = bv (xs ++ (enc n ++ ys)) := (bv_append _ _).symm
    rw [e1] at own2 own3
    obtain ⟨ro, rc, rfl, -, -⟩ := Sl.own own2 hbyt
    have fz := a1.free 0
    have fc0 := a1.cell 0
    refine hr_ex 3 (some 6) rfl rfl (by kernel_rfl) rfl (R := fun u w' => u = .slice ro (k + ((enc n).length + n)) rc ∧ w2 = w') ⟨_, _, by simp [execOp, Act.eval, resolve, invoke, builtin, hrun], rfl, rfl⟩ ?_
    rintro u w' ⟨rfl, rfl⟩
    refine ⟨trivial, ?_⟩
    simp only [Act.put, List.setIfInBounds_toArray, List.set_cons_zero, List.set_cons_succ]
    refine hr_skip 4 none (w' := w2.setCell ⟨p, 0, none⟩ (.slice ro (k + ((enc n).length + n)) rc)) rfl rfl (by kernel_rfl) rfl (by go_simp) trivial ?_
    simp only [Act.put]
    refine wpAnyH_done (by kernel_rfl) ?_ _
    refine NoPanic.normal ?_
    go_wp2
    go_end0
    exact ⟨⟨_, rfl⟩, _, a2, own3, (E0.mono hb).trans ((C1.mono (by omega)).trans B3)⟩
  · refine op_calls 2 (some 5) 80 #[.slice none 0 0, .slice ao n cap] rfl rfl rfl (by go_simp) (fun u w' => w'.ownsRow v0.heap.size 5 1 u (0 + (enc n).length + n) (bv ([] ++ enc n ++ ys)) ∧ Below v0.heap.size v0 w') ((wBytes_any v0 none ao 0 0 n cap [] ys (Sl.nothing v0) h0 (by omega)).mono (by
      rintro e w' ⟨u, rfl, o, C⟩
      exact ⟨_, rfl, o, C⟩)) ?_
    rintro u w1 ⟨o1, C1⟩
    simp only [Nat.zero_add, List.nil_append] at o1
    obtain ⟨fo', fc, rfl, S1, hS1⟩ := Sl.own o1 (heb.append h.byte)
    obtain ⟨fo, rfl⟩ : ∃ fo, fo' = some fo := by
      cases fo' with
      | none => have := (S1.nil rfl).1; omega
      | some a => exact ⟨a, rfl⟩
    have s1 := C1.size
    have own1 := own_below own0 C1
    have ha1 := arr_below ha0 C1
    have c1 := ha1.cell 0
    refine ⟨trivial, ?_⟩
    simp only [Act.put, List.setIfInBounds_toArray, List.set_cons_zero, List.set_cons_succ]
    refine hr_ex 0 (some 3) rfl rfl (by kernel_rfl) rfl (R := fun u w' => u = .slice vo k vc ∧ w1 = w') ⟨_, _, by go_simp, rfl, rfl⟩ ?_
    rintro u w' ⟨rfl, rfl⟩
    refine ⟨trivial, ?_⟩
    simp only [Act.put, List.setIfInBounds_toArray, List.set_cons_zero, List.set_cons_succ]
    obtain ⟨v', w2, hrun, own2, g2, -⟩ := run_append_own (P := Tryd.prog) w1 base 23 23 5 i0 (.int .u8 0) 1 1 Tryd.underlying23 hi hz0 hz1 hz2 rfl (by decide) (.slice vo k vc) k (bv xs) own1 fo ((enc n).length + n) fc (bv (enc n ++ ys)) (by rw [bv_length, Nat.mul_one]; exact S1.len) (S1.cells fo rfl) (bv_one _) (by unfold maxLen; omega) (by omega) (by omega)
    obtain ⟨a1, a2, own3, B3⟩ := arr_put ha1 (by decide) own1 (by omega) hp own2 g2 0
    have e1 : bv xs ++ bv (enc n ++ ys) = bv (xs ++ (enc n ++ ys)) := (bv_append _ _).symm
    rw [e1] at own2 own3
    obtain ⟨ro, rc, rfl, -, -⟩ := Sl.own own2 hbyt
    have fz := a1.free 0
    have fc0 := a1.cell 0
    refine hr_ex 3 (some 6) rfl rfl (by kernel_rfl) rfl (R := fun u w' => u = .slice ro (k + ((enc n).length + n)) rc ∧ w2 = w') ⟨_, _, by simp [execOp, Act.eval, resolve, invoke, builtin, hrun], rfl, rfl⟩ ?_
    rintro u w' ⟨rfl, rfl⟩
    refine ⟨trivial, ?_⟩
    simp only [Act.put, List.setIfInBounds_toArray, List.set_cons_zero, List.set_cons_succ]
    refine hr_skip 4 none (w' := w2.setCell ⟨p, 0, none⟩ (.slice ro (k + ((enc n).length + n)) rc)) rfl rfl (by kernel_rfl) rfl (by go_simp) trivial ?_
    simp only [Act.put]
    refine wpAnyH_done (by kernel_rfl) ?_ _
    refine NoPanic.normal ?_
    go_wp2
    go_end0
    exact ⟨⟨_, rfl⟩, _, a2, own3, (E0.mono hb).trans ((C1.mono (by omega)).trans B3)⟩
end Go.Proofs.YtcepknjdiboinaaDoor

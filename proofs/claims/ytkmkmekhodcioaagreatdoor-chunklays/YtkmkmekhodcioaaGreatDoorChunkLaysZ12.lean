/-
  Texts in one: CkForm, RMem7.
-/
import Derived.Test.YtkmkmekhodcioaaGreatDoorChunkLaysZ4
import Derived.Test.YtkmkmekhodcioaaGreatDoorChunkLaysZ6
import Derived.Test.YtkmkmekhodcioaaGreatDoorChunkLaysZ1
namespace Go.Proofs.YtkmkmekhodcioaaGreatDoor
open Go.RowKit

/-- append(out, x...), and which block alone is written. -/
theorem wpList_appG {w : World} {ops : Array Oper} {rest : List Oper} {o : Oper} {a : Act} {Q : Exit → Act → World → Prop} (hgd : o.guard = none) (s x : Operand)
    (ho : o.op = .call { callee := .builtin .append, args := #[s, x], argTypes := #[23, 23] })
    (base : Nat) (v : Value) (n : Nat) (xs : List Int) (hs : a.eval s = v) (hown : w.ownsRow base 5 1 v n (bv xs))
    (bo : Option Addr) (m c : Nat) (ys : List Int) (hx : a.eval x = .slice bo m c) (hsl : Sl w bo m c ys) (hb : n + m ≤ 140737488355328) (hbase : base ≤ w.heap.size)
    (h : ∀ v' w', w'.ownsRow base 5 1 v' (n + m) (bv (xs ++ ys)) → w.grownBy w' v.ownBlock → wpList Tryz.prog ops Q rest (a.put o.dst v') w') : wpList Tryz.prog ops Q (o :: rest) a w := by
  obtain ⟨i0, hi, hz0, hz1, hz2⟩ := info_parts u8info
  cases bo with
  | some ad =>
    refine wpList_append_own w hgd s x 23 ho base 5 i0 (.int .u8 0) 1 1 Tryz.underlying23 hi hz0 hz1 hz2 rfl (by decide) v n (bv xs) hs hown ad m c (bv ys) hx (by rw [bv_length, hsl.len, Nat.mul_one]) (hsl.cells ad rfl) (bv_one ys) (by unfold maxLen; omega) (by omega) hbase ?_
    intro v' w' h1 h2 _
    rw [← bv_append] at h1
    exact h v' w' h1 h2
  | none =>
    obtain ⟨rfl, rfl⟩ := hsl.nil rfl
    obtain rfl : ys = [] := List.eq_nil_of_length_eq_zero hsl.len
    refine wpList_append_own_none hgd s x 23 ho base 5 i0 1 Tryz.underlying23 hi v n (bv xs) hs hown hx ?_
    exact h v w (by simpa using hown) (World.grownBy.refl _ _)
theorem box_not_row {w : World} {g base : Nat} {cs : Array Value} {v : Value} {n : Nat} {xs : List Value} (h : w.heap[g]? = some (.cells cs 43)) (hr : w.ownsRow base 5 1 v n xs) : some g ≠ v.ownBlock := by
  intro e
  rcases hr.2 with ⟨rfl, _⟩ | ⟨b, cap, cur, rfl, _, hb, _⟩
  · simp [Value.ownBlock] at e
  · obtain rfl : g = b := by simpa [Value.ownBlock] using e
    rw [hb] at h
    simp at h
def formTk (n : Nat) (l : List It) : List Int := enc n ++ (l.map putI).flatten
theorem formTk_snoc (n : Nat) (l : List It) (x : It) : formTk n (l ++ [x]) = (formTk n l ++ bytF x.k) ++ bytF x.v := by
  unfold formTk putI
  simp
theorem bytF_len (l : List Int) (h : l.length ≤ 1000000) : (bytF l).length ≤ 1000010 := by
  have := enc_length (n := l.length) (by omega)
  unfold bytF
  rw [List.length_append]
  omega
theorem formTk_len (n : Nat) (hn : n ≤ 1000000) : ∀ l : List It, (∀ x ∈ l, x.k.length ≤ 1000000 ∧ x.v.length ≤ 1000000) → (formTk n l).length ≤ 10 + l.length * 2000020
  | [], _ => by
    have := enc_length (n := n) (by omega)
    unfold formTk
    simp
    omega
  | x :: l, h => by
    have ih := formTk_len n hn l (fun y hy => h y (List.mem_cons_of_mem _ hy))
    have h1 := bytF_len x.k (h x (List.mem_cons_self ..)).1
    have h2 := bytF_len x.v (h x (List.mem_cons_self ..)).2
    unfold formTk putI at *
    simp only [List.map_cons, List.flatten_cons, List.length_append, List.length_cons] at *
    omega
theorem formTk_byt (n : Nat) (hn : n ≤ 1000000) (l : List It) (h : ∀ x ∈ l, (x.k.length ≤ 1000000 ∧ Byt x.k) ∧ x.v.length ≤ 1000000 ∧ Byt x.v) : Byt (formTk n l) := fun y hy => by
  rcases List.mem_append.1 hy with hy | hy
  · exact enc_byte (by omega) y hy
  · obtain ⟨s, hs, hy⟩ := List.mem_flatten.1 hy
    obtain ⟨x, hx, rfl⟩ := List.mem_map.1 hs
    rcases List.mem_append.1 hy with hy | hy
    · exact bytF_byt (h x hx).1.2 (h x hx).1.1 y hy
    · exact bytF_byt (h x hx).2.2 (h x hx).2.1 y hy

set_option maxHeartbeats 4000000 in
set_option maxRecDepth 100000 in
theorem ckform_any (w : World) (ao : Option Addr) (n cap : Nat) (its : List IP) (h : IL w ao n cap its) (hn : n ≤ 50000) (hb : ∀ q ∈ its, q.k.n ≤ 1000000 ∧ q.v.n ≤ 1000000) :
    Calls Tryz.prog 39 #[.slice ao n cap] w fun e w' => ∃ v, e = .returned v ∧ w'.ownsRow w.heap.size 5 1 v (putCk (its.map IP.it)).length (bv (putCk (its.map IP.it))) ∧ Below w.heap.size w w' := by
  have hl1 := Nat.le_of_eq h.len
  have hl2 := Nat.le_of_eq h.len.symm
  have hni : (n : Int) ≤ 50000 := by omega
  have HB : Hid (∀ q ∈ its, q.k.n ≤ 1000000 ∧ q.v.n ≤ 1000000) := hb
  have HLB : Hid (∀ x ∈ its.map IP.it, x.k.length ≤ 1000000 ∧ x.v.length ≤ 1000000) := by
    intro x hx
    obtain ⟨q, hq, rfl⟩ := List.mem_map.1 hx
    have h1 := (h.sl q hq).1.len
    have h2 := (h.sl q hq).2.len
    have := hb q hq
    exact ⟨by show q.k.xs.length ≤ _; omega, by show q.v.xs.length ≤ _; omega⟩
  have HE : Hid (putCk (its.map IP.it) = formTk n (its.map IP.it)) := by
    show _ = _
    unfold putCk formTk
    rw [List.length_map, h.len]
  clear hb
  go_enter Tryz.func39, Tryz.ntmps39
  go_wp2_with fail
  refine (wUint_any w none 0 0 n [] (Sl.nothing w) (by omega) (by omega)).mono ?_
  rintro e w1 ⟨v1, rfl, own1, B1⟩
  simp only [Nat.zero_add, List.nil_append] at own1
  go_wp2_with fail
  go_loopw [3, 12] (fun v i wr => ∃ k : Nat, k ≤ n ∧ i = .int .i64 k ∧ wr.ownsRow w.heap.size 5 1 v (formTk n ((its.map IP.it).take k)).length (bv (formTk n ((its.map IP.it).take k))) ∧ Below w.heap.size w wr) (fun _ i _ => n - (intOf i).toNat)
  case atStart =>
    refine ⟨0, Nat.zero_le _, rfl, ?_, B1⟩
    have e : formTk n ((its.map IP.it).take 0) = enc n := by simp [formTk]
    rw [e]
    exact own1
  case round =>
    clear own1 B1
    obtain ⟨k, hkn, rfl, own, hB⟩ := hrel
    by_cases hlt : k < n
    · have hki : (k : Int) < (n : Int) := by omega
      have hkl : k < its.length := by omega
      obtain ⟨b, off, rfl, hc⟩ := (h.below hB).at (by omega)
      obtain ⟨c1, c2⟩ := hc k hkl
      have S := (h.below hB).sl its[k] (List.getElem_mem hkl)
      have HSQ : Hid (∀ W, Below w.heap.size w W → its[k].ok W) := fun W hW => (h.below hW).sl its[k] (List.getElem_mem hkl)
      have hq := HB.out its[k] (List.getElem_mem hkl)
      have HT : Hid ((its.map IP.it).take (k + 1) = (its.map IP.it).take k ++ [its[k].it]) := by show _ = _; rw [List.take_succ_eq_append_getElem (by simpa using hkl), List.getElem_map]
      obtain ⟨q, hqe⟩ : ∃ q, q = its[k] := ⟨_, rfl⟩
      rw [← hqe] at c1 c2 S hq HT HSQ
      obtain ⟨q1, q2⟩ := hq
      have HF : (formTk n ((its.map IP.it).take k)).length ≤ 10 + n * 2000020 := by
        have := formTk_len n (by omega) ((its.map IP.it).take k) (fun x hx => HLB.out x (List.mem_of_mem_take hx))
        rw [List.length_take] at this
        have h3 : min k (its.map IP.it).length * 2000020 ≤ n * 2000020 := Nat.mul_le_mul_right _ (by omega)
        exact Nat.le_trans this (Nat.add_le_add_left h3 _)
      have HF2 : (formTk n ((its.map IP.it).take k)).length ≤ 110000000000 := Nat.le_trans HF (by omega)
      clear HF
      obtain ⟨F, hF⟩ : ∃ F, F = formTk n ((its.map IP.it).take k) := ⟨_, rfl⟩
      have HFE : Hid (F = formTk n ((its.map IP.it).take k)) := hF
      rw [← hF] at own HF2
      clear hF
      obtain ⟨FL, hFL⟩ : ∃ m, m = F.length := ⟨_, rfl⟩
      rw [← hFL] at own HF2
      have HFL : Hid (FL = F.length) := hFL
      clear hFL
      unfold Part.val at c1 c2
      clear hc hqe
      obtain ⟨W0, hW0⟩ : ∃ W, W = wr.alloc (.cells #[.slice q.k.ao q.k.n q.k.cap, .slice q.v.ao q.v.n q.v.cap] 43) := ⟨_, rfl⟩
      have B0 : Below wr.heap.size wr W0 := by rw [hW0]; exact (Below.refl _ _).alloc (Nat.le_refl _) _
      have A0 : W0.heap[wr.heap.size]? = some (.cells #[.slice q.k.ao q.k.n q.k.cap, .slice q.v.ao q.v.n q.v.cap] 43) := by rw [hW0]; exact heap_alloc_new wr _
      have hg : wr.heap.size < W0.heap.size := (Array.getElem?_eq_some_iff.1 A0).1
      have HAB0 : Hid (W0.heap[wr.heap.size]? = some (.cells #[.slice q.k.ao q.k.n q.k.cap, .slice q.v.ao q.v.n q.v.cap] 43)) := A0
      have d1 : W0.cell? ⟨wr.heap.size, 0, none⟩ = some (.slice q.k.ao q.k.n q.k.cap) := cell_of_row _ _ 0 _ _ _ A0
      have d2 : W0.cell? ⟨wr.heap.size, 1, none⟩ = some (.slice q.v.ao q.v.n q.v.cap) := cell_of_row _ _ 1 _ _ _ A0
      have S0 := S.below B0
      have own0 := own_below own B0
      have E0 := hB.trans (B0.mono hB.size)
      clear S own A0 hB B0
      go_wp2_with fail
      rw [← hW0]
      clear hW0 c1 c2
      refine (wBytes_any W0 none _ 0 0 _ _ [] _ (Sl.nothing W0) S0.1 (by omega)).mono ?_
      rintro e W1 ⟨u1, rfl, o1, C1⟩
      simp only [Nat.zero_add, List.nil_append] at o1
      have hl3 := S0.1.len
      have own2 := own_below own0 C1
      have hs1 := C1.size
      have E1 := E0.trans (C1.mono E0.size)
      have hs0 := E1.size
      have hel := enc_length (n := q.k.n) (by omega)
      have hby : Byt (enc q.k.n ++ q.k.xs) := fun y hy => by
        rcases List.mem_append.1 hy with hy | hy
        · exact enc_byte (by omega) y hy
        · exact S0.1.byte y hy
      obtain ⟨r1, rc1, rfl, SS1, -⟩ := Sl.own o1 hby
      have S1 := S0.below C1
      have d3 := (C1.cell (p := ⟨wr.heap.size, 1, none⟩) hg).trans d2
      have HAB : Hid (W1.heap[wr.heap.size]? = some (.cells #[.slice q.k.ao q.k.n q.k.cap, .slice q.v.ao q.v.n q.v.cap] 43)) := (C1.block _ hg).trans HAB0.out
      clear HAB0
      obtain ⟨m1, hm1⟩ : ∃ m, m = (enc q.k.n).length + q.k.n := ⟨_, rfl⟩
      rw [← hm1] at SS1 ⊢
      have HM1 : Hid (m1 = (enc q.k.n).length + q.k.n) := hm1
      have hm1' : m1 ≤ 1000010 := by omega
      clear hm1 S0 own0 o1 C1 E0 d1 d2
      go_wp2_with (at_builtin; refine wpList_appG rfl _ _ rfl w.heap.size _ _ _ rfl own2 _ _ _ _ rfl SS1 (by omega) (by omega) ?_; intro v2 W2 own3 G2; have d4 : W2.cell? ⟨wr.heap.size, 1, none⟩ = some (.slice q.v.ao q.v.n q.v.cap) := (G2.cell d3 (box_not_row HAB.out own2)))
      have C2 : Below w.heap.size W1 W2 := (Below.refl _ _).grown G2 (by omega) (fun g hgv => (own2.lt g hgv).1)
      have E2 := E1.trans C2
      have S2 := HSQ.out W2 E2
      have hs2 := E2.size
      clear S1 SS1 C2 own2 d3 HAB G2 hby
      go_wp2_with fail
      refine (wBytes_any W2 none _ 0 0 _ _ [] _ (Sl.nothing W2) S2.2 (by omega)).mono ?_
      rintro e W3 ⟨u3, rfl, o3, C3⟩
      simp only [Nat.zero_add, List.nil_append] at o3
      have own4 := own_below own3 C3
      have hs3 := C3.size
      have E3 := E2.trans (C3.mono E2.size)
      have hel2 := enc_length (n := q.v.n) (by omega)
      have hby2 : Byt (enc q.v.n ++ q.v.xs) := fun y hy => by
        rcases List.mem_append.1 hy with hy | hy
        · exact enc_byte (by omega) y hy
        · exact S2.2.byte y hy
      obtain ⟨r3, rc3, rfl, SS3, -⟩ := Sl.own o3 hby2
      have hs4 := E3.size
      obtain ⟨m3, hm3⟩ : ∃ m, m = (enc q.v.n).length + q.v.n := ⟨_, rfl⟩
      rw [← hm3] at SS3 ⊢
      have hm3' : m3 ≤ 1000010 := by omega
      have hl5 := S2.2.len
      have HFIN : Hid (F ++ (enc q.k.n ++ q.k.xs) ++ (enc q.v.n ++ q.v.xs) = formTk n ((its.map IP.it).take (k + 1)) ∧ FL + m1 + m3 = (formTk n ((its.map IP.it).take (k + 1))).length) := by
        have e : F ++ (enc q.k.n ++ q.k.xs) ++ (enc q.v.n ++ q.v.xs) = formTk n ((its.map IP.it).take (k + 1)) := by
          rw [HT.out, formTk_snoc, ← HFE.out]
          show _ = F ++ (enc q.k.xs.length ++ q.k.xs) ++ (enc q.v.xs.length ++ q.v.xs)
          rw [hl3, hl5]
        refine ⟨e, ?_⟩
        rw [← e, HFL.out, HM1.out, hm3]
        simp only [List.length_append, hl3, hl5]
      clear hm3 S2 own3 o3 C3 E2 HT HFE d4 HSQ hl3 hl5
      go_wp2_with (at_builtin; refine wpList_app rfl _ _ rfl w.heap.size _ _ _ rfl own4 _ _ _ _ rfl SS3 (by omega) (by omega) ?_; intro v4 W4 own5 C4)
      have E4 := E3.trans C4
      clear own4 SS3 C4 E3
      go_wp2
      go_roundw
      case rel =>
        refine ⟨k + 1, by omega, by go_num, ?_, E4⟩
        rw [HFIN.out.1, HFIN.out.2] at own5
        exact own5
      case measure => simp [intOf]; omega
    · have hge : ¬ (k : Int) < (n : Int) := by omega
      have HR : Hid ((its.map IP.it).take k = its.map IP.it) := by
        show _ = _
        exact List.take_of_length_le (by simp; omega)
      rw [HR.out] at own
      go_wp2
      go_ret
      refine ⟨_, rfl, ?_, hB⟩
      rw [HE.out]
      exact own
end Go.Proofs.YtkmkmekhodcioaaGreatDoor

namespace Go.Proofs.YtkmkmekhodcioaaGreatDoor
open Go.RowKit

theorem size2 (w : World) : (sizeOf 43).run Tryz.prog w = .ok 2 w := by
  have hI := itemInfo
  cases hi : Tryz.prog.info? 43 with
  | none => rw [hi] at hI; simp at hI
  | some i =>
    rw [hi] at hI
    simp only [Option.map_some, Option.some.injEq, Prod.mk.injEq] at hI
    simp [sizeOf, typeInfo, hi, hI.2.1]
/-- l[:i] -/
theorem run_upto2 {W : World} {ao : Option Addr} {n cap i : Nat} (h1 : i ≤ cap) :
    (Instr.sliceAt 30 (.slice ao n cap) none (some (.int .i64 (i : Nat))) none).run Tryz.prog W = .ok (.slice ao i cap) W := by
  have ht := Tryz.underlying30
  have he : Tryz.prog.elem 30 = 43 := by simp [Program.elem, ht]
  rw [run_sliceAt_slice W 30 _ _ _ _ (by rw [he]; exact ht), run_slice_h W 30 ao n cap (by rw [he]; exact ht) .i64 i (by omega) (by omega), he, size2]
  simp only [Result.andThen_ok, sliced, Int.toNat_natCast, Nat.zero_mul, Nat.sub_zero]
  cases ao with
  | none => simp
  | some a => simp [Addr.add_nought]
/-- Where l[j:] lies. -/
def bk2 (ao : Option Addr) (cap j : Nat) : Option Addr := if cap = j then ao else ao.map (·.add (j * 2))
/-- l[j:] -/
theorem run_back2 {W : World} {ao : Option Addr} {n cap j : Nat} (h1 : j ≤ n) :
    (Instr.sliceAt 30 (.slice ao n cap) (some (.int .i64 (j : Nat))) none none).run Tryz.prog W = .ok (.slice (bk2 ao cap j) (n - j) (cap - j)) W := by
  have ht := Tryz.underlying30
  have he : Tryz.prog.elem 30 = 43 := by simp [Program.elem, ht]
  rw [run_sliceAt_slice W 30 _ _ _ _ (by rw [he]; exact ht), run_slice_l W 30 ao n cap (by rw [he]; exact ht) .i64 j (by omega) (by omega), he, size2]
  simp only [Result.andThen_ok, sliced, Int.toNat_natCast, bk2]
theorem IL.front {w : World} {ao : Option Addr} {n cap : Nat} {its : List IP} (h : IL w ao n cap its) (i : Nat) (hi : i ≤ n) : IL w ao i cap (its.take i) := by
  have h1 := h.len
  have h2 := h.le
  refine ⟨by simp; omega, by omega, h.mx, fun hn => ?_, fun a ha j hj => ?_, fun q hq => h.sl q (List.mem_of_mem_take hq)⟩
  · have := h.nil hn
    omega
  · simp only [List.length_take] at hj
    have := h.cell a ha j (by omega)
    simpa using this
theorem IL.from {w : World} {ao : Option Addr} {n cap : Nat} {its : List IP} (h : IL w ao n cap its) (j : Nat) (hj : j ≤ n) : IL w (bk2 ao cap j) (n - j) (cap - j) (its.drop j) := by
  have h1 := h.len
  have h2 := h.mx
  have h3 := h.le
  refine ⟨by simp; omega, by omega, by omega, fun hn => ?_, fun b hb i hi => ?_, fun q hq => h.sl q (List.mem_of_mem_drop hq)⟩
  · unfold bk2 at hn
    by_cases hc : cap = j
    · omega
    · rw [if_neg hc] at hn
      have := h.nil (by simpa using hn)
      omega
  · simp only [List.length_drop] at hi
    have hc : cap ≠ j := by omega
    unfold bk2 at hb
    rw [if_neg hc] at hb
    cases ao with
    | none => simp at hb
    | some a =>
      have hb' : a.add (j * 2) = b := by simpa using hb
      have := h.cell a rfl (j + i) (by omega)
      rw [← hb', Addr.add_add, Addr.add_add, List.getElem_drop, ← Nat.add_mul, ← Nat.add_assoc, ← Nat.add_mul]
      exact this
theorem flatI_app (ps qs : List IP) : flatI (ps ++ qs) = flatI ps ++ flatI qs := by simp [flatI]
/-- append of items. -/
theorem run_appI {w : World} {base : Nat} {v : Value} {ps qs : List IP} (ty : TypeId) (h : w.ownsRow base 43 2 v ps.length (flatI ps)) (hb : base ≤ w.heap.size) {bo : Option Addr} {m c : Nat} (hx : IL w bo m c qs) (hn : ps.length + m ≤ 1000000) :
    ∃ v' w', (Builtin.append_ #[30, 30] ty #[v, .slice bo m c]).run Tryz.prog w = .ok v' w' ∧ w'.ownsRow base 43 2 v' (ps ++ qs).length (flatI (ps ++ qs)) ∧ Below base w w' := by
  obtain ⟨i0, hi, hz0, hz1, hz2⟩ := info_parts itemInfo
  have hlen := hx.len
  by_cases hm : m = 0
  · subst hm
    obtain rfl : qs = [] := List.eq_nil_of_length_eq_zero hlen
    have hv : ∃ ao cap, v = .slice ao ps.length cap ∧ ps.length ≤ cap := by
      rcases h.2 with ⟨rfl, e⟩ | ⟨g, cap, cur, rfl, hg, hh, hle, _⟩
      · rw [e]
        exact ⟨none, 0, rfl, Nat.le_refl _⟩
      · exact ⟨_, cap, rfl, hle⟩
    obtain ⟨ao, cap, rfl, hle⟩ := hv
    refine ⟨_, w, run_append_nothing w 30 30 ty 43 i0 Tryz.underlying30 hi ao ps.length cap hle _ (src_none Tryz.underlying30), ?_, Below.refl _ _⟩
    simpa using h
  · obtain ⟨ad, rfl⟩ : ∃ ad, bo = some ad := by
      cases bo with
      | none => have := (hx.nil rfl).1; omega
      | some ad => exact ⟨ad, rfl⟩
    obtain ⟨v', w', h1, h2, h3, -⟩ := run_append_own (P := Tryz.prog) w base 30 ty 43 i0 _ 2 48 Tryz.underlying30 hi hz0 hz1 hz2 rfl (by decide) v ps.length (flatI ps) h ad m c (flatI qs) (by rw [flatI_length, hlen])
      (fun j u hu => by
        have hj := (List.getElem?_eq_some_iff.1 hu).1
        rw [flatI_length] at hj
        have hq : j / 2 < qs.length := by omega
        obtain ⟨e1, e2⟩ := flatI_get qs (j / 2) hq
        obtain ⟨d1, d2⟩ := hx.cell ad rfl (j / 2) hq
        rcases Nat.mod_two_eq_zero_or_one j with hp | hp
        · have ej : j / 2 * 2 = j := by omega
          rw [ej] at e1 d1
          rw [d1, ← hu, e1]
        · have ej : j / 2 * 2 + 1 = j := by omega
          rw [ej] at e2 d2
          rw [d2, ← hu, e2]) (flatI_one qs) (by unfold maxLen; omega) (by omega) hb
    refine ⟨v', w', h1, ?_, (Below.refl _ w).grown h3 hb (fun k hk => (h.lt k hk).1)⟩
    rw [flatI_app, List.length_append, hlen]
    exact h2
theorem own_none (w : World) : (w.alloc (.cells #[] 43)).ownsRow w.heap.size 43 2 (.slice (some ⟨w.heap.size, 0, none⟩) 0 0) ([] : List IP).length (flatI []) :=
  World.ownsRow_made w #[] 0 (Nat.le_refl _) (Nat.zero_le _) rfl
end Go.Proofs.YtkmkmekhodcioaaGreatDoor

/-
  Bytes that come in parts.
-/
import Derived.Test.YtbcjhlfpgoghfaaDoorRSum
import Derived.Test.YtbcjhlfpgoghfaaDoorParts
import Derived.Test.YtbcjhlfpgoghfaaDoorAbc
namespace Go.Proofs.YtbcjhlfpgoghfaaDoor
open Go.RowKit

theorem allB_byte (ps : List Part) (h : ∀ q ∈ ps, Byt q.xs) : Byt (allB ps) := by
  intro x hx
  simp only [allB, List.mem_flatMap] at hx
  obtain ⟨q, hq, hx⟩ := hx
  exact h q hq x hx
theorem hs_drewN {w : World} {p : Nat} {bs : List Int} (h : HS w p bs) (q : Nat) : HS (w.drewN q) p bs := by
  obtain ⟨B, h, e⟩ := h
  exact ⟨B, h.drewN q, e⟩
theorem own_far {w w' : World} {base p : Nat} {v : Value} {n : Nat} {xs : List Value} {e : TypeId} (h : w.ownsRow base e 1 v n xs) (g : w.grownBy w' (some p)) (hp : p < base) : w'.ownsRow base e 1 v n xs :=
  h.kept g (by
    cases hv : v.ownBlock with
    | none => exact .inl rfl
    | some k => exact .inr (by intro e; have := (h.lt k hv).1; have := Option.some.inj e; omega))
theorem own_below {w w' : World} {base : Nat} {v : Value} {n : Nat} {xs : List Value} {e : TypeId} (h : w.ownsRow base e 1 v n xs) (g : Below w.heap.size w w') : w'.ownsRow base e 1 v n xs :=
  h.kept (bel_grown g none) (by cases v.ownBlock <;> simp)

set_option maxRecDepth 100000 in
set_option maxHeartbeats 4000000 in
theorem digestComes_any (w : World) (ao : Option Addr) (n cap : Nat) (ps : List Part) (hP : PL w ao n cap ps) (hT : Tabs w) :
    Calls Tryd.prog 5 #[.slice ao n cap] w fun e w' => e = .returned (.bool true) ∧ Below w.heap.size w w' := by
  have h2 := hT.two
  have hl := hP.len
  go_enter Tryd.func5, Tryd.ntmps5
  go_wp2_with (go_at_call 12; refine (light_any w ao n cap ps hP).mono ?_; rintro e w0 ⟨⟨b, rfl, hb⟩, rfl⟩; cases b)
  · go_wp2_with (go_at_call 9; refine (alive_any _ hT).mono ?_; rintro e w3 ⟨rfl, B3⟩)
    go_ret
    exact ⟨rfl, B3⟩
  · obtain ⟨hn, hq⟩ := hb trivial
    clear hb
    have hni : (n : Int) ≤ 50 := by omega
    have hsh : (allB ps).length ≤ 200 * 50 := allB_short ps 50 (by omega) (fun q hq' => by rw [(hP.sl q hq').len]; exact hq q hq')
    go_wp2_with (go_at_call 13; refine (new_any w0).mono ?_; rintro e w1 ⟨rfl, H1, g1⟩; have B1 : Below w0.heap.size w0 w1 := (Below.refl _ w0).grown g1 (Nat.le_refl _) (by simp); clear g1)
    have hp1 := H1.lt
    obtain ⟨b0, hb0⟩ : ∃ b0, b0 = w1.heap.size := ⟨_, rfl⟩
    go_wp2_with fail
    go_loopw [4, 5] (fun v i wr => ∃ k : Nat, k ≤ n ∧ i = .int .i64 k ∧ Below w0.heap.size w0 wr ∧ b0 ≤ wr.heap.size ∧ HS wr w0.heap.size (allB (ps.take k)) ∧ wr.ownsRow b0 5 1 v (allB (ps.take k)).length (bv (allB (ps.take k)))) (fun _ i _ => n - (intOf i).toNat)
    case atStart => exact ⟨0, by omega, rfl, B1, by omega, H1, World.ownsRow_nil _ _ _ _⟩
    case round =>
      clear H1 B1
      obtain ⟨k, hk, rfl, B2, s2, H2, own2⟩ := hrel
      have T2 := hT.below B2 h2
      have t2 := B2.size
      by_cases hlt : k < n
      · have hki : (k : Int) < (n : Int) := by omega
        have hkl : k < ps.length := by omega
        obtain ⟨ab, aof, rfl, hc⟩ := (hP.below B2).at (by omega)
        have c1 := hc k hkl
        have S1 := (hP.below B2).sl ps[k] (List.getElem_mem hkl)
        have HT : Hid (allB (ps.take (k + 1)) = allB (ps.take k) ++ ps[k].xs) := allB_take ps k hkl
        have hle := allB_le ps (k + 1)
        have hne : ∀ a, ps[k].ao = some a → 0 < ps[k].n → a.block ≠ w0.heap.size := by
          intro a ha h0
          have := (hP.sl ps[k] (List.getElem_mem hkl)).lt a ha h0
          omega
        have hqn := hq ps[k] (List.getElem_mem hkl)
        have hcb := hP.cell _ rfl k hkl
        rw [add_at] at hcb
        have hab : ab < w0.heap.size := World.block_lt_of_cell? w0 _ hcb
        clear hcb
        rw [HT.out, List.length_append] at hle
        obtain ⟨q, hqe⟩ : ∃ q, q = ps[k] := ⟨_, rfl⟩
        rw [← hqe] at c1 S1 hne HT hle hqn
        clear hqe hc
        have hql := S1.len
        have hqb := S1.byte
        obtain ⟨A, hA⟩ : ∃ A, A = allB (ps.take k) := ⟨_, rfl⟩
        rw [← hA] at H2 own2 HT hle
        have hAB : Byt A := by rw [hA]; exact allB_byte _ (fun q hq => (hP.sl q (List.mem_of_mem_take hq)).byte)
        clear hA
        unfold Part.val at c1
        have hlA : A.length + q.n ≤ 10000 := by omega
        go_wp2_with (first
          | (go_at_call 14; refine (add_any wr w0.heap.size _ q.ao q.n q.cap q.xs T2 H2 h2 S1 hne (by omega)).mono ?_; rintro e w3 ⟨⟨v, rfl⟩, H3, g3⟩; have B3 : Below w0.heap.size w0 w3 := B2.grown g3 t2 (by intro k hk; cases hk; exact Nat.le_refl _); have S3 := S1.grown g3 hne; have c3 : w3.cell? ⟨ab, aof + k, none⟩ = some (.slice q.ao q.n q.cap) := g3.cell c1 (by intro e; have := Option.some.inj e; simp only at this; omega); have own3 := own_far own2 g3 (by omega); have s3 := g3.size; clear g3 own2 H2 S1 c1 T2)
          | (at_builtin; refine wpList_app rfl (.tmp 26) (.tmp 30) rfl b0 _ A.length A rfl own3 q.ao q.n q.cap q.xs rfl S3 (by omega) (by omega) ?_; intro v4 w4 own4 C4; have B4 : Below w0.heap.size w0 w4 := B3.trans (C4.mono (by omega)); have H4 := H3.below C4 (by omega); have s4 := C4.size; have T4 := hT.below B4 h2; clear C4 own3 S3 c3 H3 B3))
        · obtain ⟨lo, lc, rfl, L4, -⟩ := Sl.own own4 (hAB.append hqb)
          refine (hsum_any w4 w0.heap.size _ T4 H4 (by simp; omega)).mono ?_
          rintro e w5 ⟨v5, rfl, own5, C5⟩
          obtain ⟨io, ic, rfl, S5, -⟩ := Sl.own own5 (sumL_byte _)
          have t4 := B4.size
          have B5 : Below w0.heap.size w0 w5 := B4.trans (C5.mono t4)
          have H5 := H4.below C5 H4.lt
          have L5 := L4.below C5
          have own4' := own_below own4 C5
          have T5 := hT.below B5 h2
          have s5 := C5.size
          clear C5 own5 own4 L4 T4 H4 B4
          go_wp2_with fail
          refine (sum_any w5 lo (A.length + q.n) lc _ T5 L5).mono ?_
          rintro e w6 ⟨v6, rfl, own6, C6⟩
          obtain ⟨jo, jc, rfl, S6, -⟩ := Sl.own own6 (sumL_byte _)
          have t5 := B5.size
          have B6 : Below w0.heap.size w0 w6 := B5.trans (C6.mono t5)
          have H6 := H5.below C6 H5.lt
          have S5' := S5.below C6
          have own6' := own_below own4' C6
          have s6 := C6.size
          clear C6 own6 own4' L5 T5 H5 B5 S5
          go_wp2_with fail
          refine (same_any _ _ _ _ _ _ _ _ _ S5' S6).mono ?_
          rintro e w7 ⟨rfl, q7, rfl⟩
          simp only [decide_true]
          go_wp2
          go_roundw
          case rel =>
            refine ⟨k + 1, by omega, by go_num, bel_drewN B6 q7, by show b0 ≤ w6.heap.size; omega, ?_⟩
            rw [HT.out, List.length_append, hql]
            exact ⟨hs_drewN H6 q7, own6'⟩
          case measure => simp [intOf]; omega
        · go_roundw
          case rel =>
            refine ⟨k + 1, by omega, by go_num, B4, by omega, ?_⟩
            rw [HT.out, List.length_append, hql]
            exact ⟨H4, own4⟩
          case measure => simp [intOf]; omega
      · have hge : (n : Int) ≤ (k : Int) := by omega
        have e : ps.take k = ps := List.take_of_length_le (by omega)
        rw [e] at H2 own2
        have hAB : Byt (allB ps) := allB_byte _ (fun q hq => (hP.sl q hq).byte)
        obtain ⟨A, hA⟩ : ∃ A, A = allB ps := ⟨_, rfl⟩
        rw [← hA] at H2 own2 hAB hsh
        clear hA e
        obtain ⟨lo, lc, rfl, L2, -⟩ := Sl.own own2 hAB
        clear own2
        go_wp2_with (go_at_call 14; refine (add_nil wr _).mono ?_; rintro e w3 ⟨⟨v, rfl⟩, rfl⟩)
        refine (hsum_any w3 w0.heap.size _ T2 H2 (by omega)).mono ?_
        rintro e w4 ⟨v4, rfl, own4, C4⟩
        obtain ⟨io, ic, rfl, S4, -⟩ := Sl.own own4 (sumL_byte _)
        have B4 : Below w0.heap.size w0 w4 := B2.trans (C4.mono t2)
        have H4 := H2.below C4 H2.lt
        have L4 := L2.below C4
        have t4 := B4.size
        clear C4 own4 T2 H2 B2 L2
        go_wp2_with fail
        refine (rsum_any w4 lo A.length lc _ L4 (by omega)).mono ?_
        rintro e w5 ⟨v5, rfl, own5, C5⟩
        obtain ⟨jo, jc, rfl, S5, -⟩ := Sl.own own5 (sumL_byte _)
        have B5 : Below w0.heap.size w0 w5 := B4.trans (C5.mono t4)
        have H5 := H4.below C5 H4.lt
        have S4' := S4.below C5
        have t5 := B5.size
        clear C5 own5 H4 B4 L4 S4
        go_wp2_with fail
        refine (same_any _ _ _ _ _ _ _ _ _ S4' S5).mono ?_
        rintro e w6 ⟨rfl, q6, rfl⟩
        simp only [decide_true]
        have B6 := bel_drewN B5 q6
        have H6 := hs_drewN H5 q6
        have T6 := hT.below B6 h2
        have t6 := B6.size
        generalize w5.drewN q6 = w6 at B6 H6 T6 t6 ⊢
        clear B5 H5 S4' S5 t5
        go_wp2_with fail
        refine (hsum_any w6 w0.heap.size _ T6 H6 (by omega)).mono ?_
        rintro e w7 ⟨v7, rfl, own7, C7⟩
        obtain ⟨io7, ic7, rfl, S7, -⟩ := Sl.own own7 (sumL_byte _)
        have B7 : Below w0.heap.size w0 w7 := B6.trans (C7.mono t6)
        have H7 := H6.below C7 H6.lt
        have T7 := hT.below B7 h2
        have t7 := B7.size
        clear C7 own7 T6 H6 B6
        go_wp2_with fail
        refine (hsum_any w7 w0.heap.size _ T7 H7 (by omega)).mono ?_
        rintro e w8 ⟨v8, rfl, own8, C8⟩
        obtain ⟨io8, ic8, rfl, S8, -⟩ := Sl.own own8 (sumL_byte _)
        have B8 : Below w0.heap.size w0 w8 := B7.trans (C8.mono t7)
        have S7' := S7.below C8
        have t8 := B8.size
        clear C8 own8 T7 H7 B7 S7
        go_wp2_with fail
        refine (same_any _ _ _ _ _ _ _ _ _ S7' S8).mono ?_
        rintro e w9 ⟨rfl, q9, rfl⟩
        simp only [decide_true]
        have B9 := bel_drewN B8 q9
        have T9 := hT.below B9 h2
        have t9 := B9.size
        generalize w8.drewN q9 = w9 at B9 T9 t9 ⊢
        clear B8 S7' S8 t8
        go_wp2_with fail
        refine (hsum_nil w9).mono ?_
        rintro e w10 ⟨rfl, rfl⟩
        go_wp2_with fail
        refine (alive_any _ T9).mono ?_
        rintro e w11 ⟨rfl, C11⟩
        go_wp2
        go_ret
        exact ⟨rfl, B9.trans (C11.mono t9)⟩

end Go.Proofs.YtbcjhlfpgoghfaaDoor

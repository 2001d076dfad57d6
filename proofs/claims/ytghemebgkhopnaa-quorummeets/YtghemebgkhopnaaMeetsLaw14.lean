/-
  The law QuorumMeets.
-/
import Derived.Test.YtghemebgkhopnaaQuMarks
import Derived.Test.YtghemebgkhopnaaQuAlive
namespace Go.Proofs.Ytghemebgkhopnaa
open Go.RowKit

def bothO (x y : List Bool) : List Bool := List.zipWith (fun a b => a && b) x y
def goodO (x y z : List Bool) : List Bool := List.zipWith (fun a b => a && !b) (bothO x y) z
theorem both_le : ∀ (x y : List Bool) (n : Nat), x.length = n → y.length = n → cntO x + cntO y ≤ cntO (bothO x y) + n
  | [], [], _, _, _ => Nat.zero_le _
  | [], _ :: _, _, h, k => by rw [← h] at k; cases k
  | _ :: _, [], _, h, k => by rw [← k] at h; cases h
  | a :: x, b :: y, n, h, k => by
    match n, h, k with
    | n + 1, h, k =>
      have ih := both_le x y n (by simpa using h) (by simpa using k)
      unfold bothO cntO at ih ⊢
      cases a <;> cases b <;> simp at ih ⊢ <;> omega
theorem good_le : ∀ (p z : List Bool) (n : Nat), p.length = n → z.length = n → cntO p ≤ cntO (List.zipWith (fun a b => a && !b) p z) + cntO z
  | [], [], _, _, _ => Nat.zero_le _
  | [], _ :: _, _, h, k => by rw [← h] at k; cases k
  | _ :: _, [], _, h, k => by rw [← k] at h; cases h
  | a :: x, b :: y, n, h, k => by
    match n, h, k with
    | n + 1, h, k =>
      have ih := good_le x y n (by simpa using h) (by simpa using k)
      unfold cntO at ih ⊢
      cases a <;> cases b <;> simp at ih ⊢ <;> omega
theorem bothO_len (x y : List Bool) (n : Nat) (h : x.length = n) (k : y.length = n) : (bothO x y).length = n := by unfold bothO; rw [List.length_zipWith]; omega
theorem goodO_len (x y z : List Bool) (n : Nat) (h : x.length = n) (k : y.length = n) (j : z.length = n) : (goodO x y z).length = n := by unfold goodO; rw [List.length_zipWith, bothO_len x y n h k]; omega
theorem bothO_get (x y : List Bool) (k : Nat) (h1 : k < x.length) (h2 : k < y.length) (h : k < (bothO x y).length) : (bothO x y)[k] = (x[k] && y[k]) := List.getElem_zipWith (f := fun a b => a && b) (l := x) (l' := y) (i := k)
theorem goodO_get (x y z : List Bool) (k : Nat) (h1 : k < x.length) (h2 : k < y.length) (h3 : k < z.length) (h : k < (goodO x y z).length) : (goodO x y z)[k] = ((x[k] && y[k]) && !z[k]) := by
  have hl : k < (bothO x y).length := by unfold bothO; rw [List.length_zipWith]; omega
  have e := List.getElem_zipWith (f := fun a b => a && !b) (l := bothO x y) (l' := z) (i := k) (h := h)
  rw [bothO_get x y k h1 h2 hl] at e
  exact e
theorem both_step (x y : List Bool) (k : Nat) (h1 : k < x.length) (h2 : k < y.length) : cntO ((bothO x y).take (k + 1)) = cntO ((bothO x y).take k) + (if (x[k] && y[k]) = true then 1 else 0) := by
  have hl : k < (bothO x y).length := by unfold bothO; rw [List.length_zipWith]; omega
  rw [List.take_succ_eq_append_getElem hl, cntO_snoc]
  rw [bothO_get x y k h1 h2 hl]
theorem good_step (x y z : List Bool) (k : Nat) (h1 : k < x.length) (h2 : k < y.length) (h3 : k < z.length) : cntO ((goodO x y z).take (k + 1)) = cntO ((goodO x y z).take k) + (if ((x[k] && y[k]) && !z[k]) = true then 1 else 0) := by
  have hl : k < (goodO x y z).length := by unfold goodO bothO; rw [List.length_zipWith, List.length_zipWith]; omega
  rw [List.take_succ_eq_append_getElem hl, cntO_snoc]
  rw [goodO_get x y z k h1 h2 h3 hl]
theorem meets_math (f n : Nat) (hn : n = 3 * f + 1) (x y z : List Bool) (hx : x.length = n) (hy : y.length = n) (hz : z.length = n) (h1 : 2 * f + 1 ≤ cntO x) (h2 : 2 * f + 1 ≤ cntO y) (h3 : cntO z ≤ f) : f + 1 ≤ cntO (bothO x y) ∧ 1 ≤ cntO (goodO x y z) := by
  have a := both_le x y n hx hy
  have b := good_le (bothO x y) z n (bothO_len x y n hx hy) hz
  unfold goodO
  omega

set_option maxRecDepth 100000 in
set_option maxHeartbeats 8000000 in
theorem meets_in (w : World) (f n : Nat) (h1 : 1 ≤ f) (h4 : f ≤ 4) (hn : n = 3 * f + 1) (ao : Option Addr) (na ca : Nat) (la : List Nat) (bo : Option Addr) (nb cb : Nat) (lb : List Nat) (co : Option Addr) (nc cc : Nat) (lc : List Nat) (A : NL w ao na ca la) (B : NL w bo nb cb lb) (C : NL w co nc cc lc) (ha : na ≤ 100) (hb : nb ≤ 100) (hc : nc ≤ 100) :
    Calls Try.prog 5 #[.int .i64 (f : Nat), .slice ao na ca, .slice bo nb cb, .slice co nc cc] w fun e w' => e = .returned (.bool true) ∧ Below w.heap.size w w' := by
  have E1 := fun (V : World) => n_any f V
  have E2 := fun (V : World) => most_any f V
  have E3 := fun (V : World) => weak_any f V
  have hk : okF f = true := okF_t (by omega) (by omega)
  have f1 : nF f 3 = (n : Int) := by rw [nF_t 3 hk]; omega
  have f2 : nF f 2 = ((2 * f + 1 : Nat) : Int) := by rw [nF_t 2 hk]; omega
  have f3 : nF f 1 = ((f + 1 : Nat) : Int) := by rw [nF_t 1 hk]; omega
  simp only [f1] at E1
  simp only [f2] at E2
  simp only [f3] at E3
  have hcase : n = 4 ∨ n = 7 ∨ n = 10 ∨ n = 13 := by omega
  have i0 : ¬ (f : Int) < 1 := by omega
  have i1 : (f : Int) ≤ 4 := by omega
  have i2 : (na : Int) ≤ 100 := by omega
  have i3 : (nb : Int) ≤ 100 := by omega
  have i4 : (nc : Int) ≤ 100 := by omega
  obtain ⟨m2, hm2⟩ : ∃ m, m = 2 * f + 1 := ⟨_, rfl⟩
  obtain ⟨m1, hm1⟩ : ∃ m, m = f + 1 := ⟨_, rfl⟩
  rw [← hm2] at E2
  rw [← hm1] at E3
  have Hm2 : Hid (m2 = 2 * f + 1) := hm2
  have Hm1 : Hid (m1 = f + 1) := hm1
  have Hn : Hid (n = 3 * f + 1) := hn
  have i5 : (m2 : Int) ≤ (n : Int) - (f : Int) := by omega
  have i6 : (n : Int) ≤ 13 := by omega
  clear hk f1 f2 f3 hm2 hm1 hn
  go_enter Try.func5, Try.ntmps5
  have CA := marks_any w n hcase ao na ca la A
  go_wp2_with (go_at_call 9; refine (E1 _).mono ?_; rintro e w' ⟨rfl, hw⟩; obtain rfl := hw.symm; clear hw)
  refine CA.mono ?_
  rintro e w1 ⟨g1, rfl, L1, C1⟩
  have CA := marks_any w1 n hcase bo nb cb lb (B.below C1)
  clear A B
  have C := C.below C1
  go_wp2_with fail
  refine CA.mono ?_
  rintro e w2 ⟨g2, rfl, L2, C2⟩
  have CA := marks_any w2 n hcase co nc cc lc (C.below C2)
  have L1 := L1.below elO_fine C2
  have C2 := C1.trans (C2.mono C1.size)
  clear C C1
  go_wp2_with fail
  refine CA.mono ?_
  rintro e w3 ⟨g3, rfl, L3, C3⟩
  have L1 := L1.below elO_fine C3
  have L2 := L2.below elO_fine C3
  have C3 := C2.trans (C3.mono C2.size)
  clear C2 CA
  have hx := marksL_len n la
  have hy := marksL_len n lb
  have hz := marksL_len n lc
  generalize marksL n la = x at L1 hx
  generalize marksL n lb = y at L2 hy
  generalize marksL n lc = z at L3 hz
  have K1 := countO_any w3 _ n n x L1 (by omega)
  have K2 := countO_any w3 _ n n y L2 (by omega)
  have K3 := countO_any w3 _ n n z L3 (by omega)
  have HM : Hid (m2 ≤ cntO x → m2 ≤ cntO y → cntO z ≤ f → m1 ≤ cntO (bothO x y) ∧ 1 ≤ cntO (goodO x y z)) := fun a b c => by
    have p := Hm2.out
    have q := Hm1.out
    have r := Hn.out
    subst p q
    exact meets_math f n r x y z hx hy hz a b c
  have E2 := E2 w3
  have E3 := E3 w3
  have AL := alive14 w3
  clear E1 Hm2 Hm1 Hn h1 h4 hcase
  generalize cntO x = cx at K1 HM
  generalize cntO y = cy at K2 HM
  generalize cntO z = cz at K3 HM
  by_cases hg : m2 ≤ cx ∧ m2 ≤ cy ∧ cz ≤ f
  · obtain ⟨q1, q2, q3⟩ := hg
    obtain ⟨r1, r2⟩ := HM.out q1 q2 q3
    have j1 : (m2 : Int) ≤ (cx : Int) := by omega
    have j2 : (m2 : Int) ≤ (cy : Int) := by omega
    have j3 : (cz : Int) ≤ (f : Int) := by omega
    clear HM q1 q2 q3
    go_wp2_with (first
      | (go_at_call_of 30 (Value.slice (some ⟨g1, 0, none⟩) n n); refine K1.mono ?_; rintro e w' ⟨rfl, hw⟩; obtain rfl := hw.symm; clear hw)
      | (go_at_call_of 30 (Value.slice (some ⟨g2, 0, none⟩) n n); refine K2.mono ?_; rintro e w' ⟨rfl, hw⟩; obtain rfl := hw.symm; clear hw)
      | (go_at_call_of 30 (Value.slice (some ⟨g3, 0, none⟩) n n); refine K3.mono ?_; rintro e w' ⟨rfl, hw⟩; obtain rfl := hw.symm; clear hw)
      | (go_at_call 11; refine E2.mono ?_; rintro e w' ⟨rfl, hw⟩; obtain rfl := hw.symm; clear hw))
    clear K1 K2 K3 E2
    go_loop [13, 14, 15] (fun b g i => ∃ k : Nat, k ≤ n ∧ i = .int .i64 k ∧ b = .int .i64 (cntO ((bothO x y).take k) : Nat) ∧ g = .int .i64 (cntO ((goodO x y z).take k) : Nat)) (fun _ _ i => n - (intOf i).toNat)
    case atStart => exact ⟨0, Nat.zero_le _, rfl, rfl, rfl⟩
    case round =>
      obtain ⟨k, hk, rfl, rfl, rfl⟩ := hrel
      by_cases hlt : k < n
      · have hki : (k : Int) < (n : Int) := by omega
        have kx : k < x.length := by omega
        have ky : k < y.length := by omega
        have kz : k < z.length := by omega
        have HB := both_step x y k kx ky
        have HG := good_step x y z k kx ky kz
        have cb : cntO ((bothO x y).take k) ≤ 13 := Nat.le_trans (cntO_le _) (by rw [List.length_take]; omega)
        have cg : cntO ((goodO x y z).take k) ≤ 13 := Nat.le_trans (cntO_le _) (by rw [List.length_take]; omega)
        generalize cntO ((bothO x y).take k) = b at HB cb
        generalize cntO ((goodO x y z).take k) = g at HG cg
        have bi : (b : Int) ≤ 13 := by omega
        have gi : (g : Int) ≤ 13 := by omega
        have HB : Hid (cntO ((bothO x y).take (k + 1)) = b + (if (x[k] && y[k]) = true then 1 else 0)) := HB
        have HG : Hid (cntO ((goodO x y z).take (k + 1)) = g + (if ((x[k] && y[k]) && !z[k]) = true then 1 else 0)) := HG
        obtain ⟨b1, o1, e1, c1⟩ := L1.atO (by omega)
        obtain ⟨b2, o2, e2, c2⟩ := L2.atO (by omega)
        obtain ⟨b3, o3, e3, c3⟩ := L3.atO (by omega)
        simp only [Option.some.injEq, Addr.mk.injEq, and_true] at e1 e2 e3
        obtain ⟨rfl, rfl⟩ := e1
        obtain ⟨rfl, rfl⟩ := e2
        obtain ⟨rfl, rfl⟩ := e3
        have c1 := c1 k kx
        have c2 := c2 k ky
        have c3 := c3 k kz
        rw [Nat.zero_add] at c1 c2 c3
        generalize x[k] = u1 at c1 HB HG
        generalize y[k] = u2 at c2 HB HG
        generalize z[k] = u3 at c3 HG
        cases u1 with
        | false =>
          have HB : Hid (cntO ((bothO x y).take (k + 1)) = b) := HB.out
          have HG : Hid (cntO ((goodO x y z).take (k + 1)) = g) := HG.out
          clear c2 c3
          go_wp2
          go_round
          case rel => exact ⟨k + 1, by omega, by go_num, by rw [HB.out], by rw [HG.out]⟩
          case measure => simp [intOf]; omega
        | true =>
          cases u2 with
          | false =>
            have HB : Hid (cntO ((bothO x y).take (k + 1)) = b) := HB.out
            have HG : Hid (cntO ((goodO x y z).take (k + 1)) = g) := HG.out
            clear c3
            go_wp2
            go_round
            case rel => exact ⟨k + 1, by omega, by go_num, by rw [HB.out], by rw [HG.out]⟩
            case measure => simp [intOf]; omega
          | true =>
            have HB : Hid (cntO ((bothO x y).take (k + 1)) = b + 1) := HB.out
            cases u3 with
            | true =>
              have HG : Hid (cntO ((goodO x y z).take (k + 1)) = g) := HG.out
              go_wp2
              go_round
              case rel => exact ⟨k + 1, by omega, by go_num, by rw [HB.out]; go_num, by rw [HG.out]⟩
              case measure => simp [intOf]; omega
            | false =>
              have HG : Hid (cntO ((goodO x y z).take (k + 1)) = g + 1) := HG.out
              go_wp2
              go_round
              case rel => exact ⟨k + 1, by omega, by go_num, by rw [HB.out]; go_num, by rw [HG.out]; go_num⟩
              case measure => simp [intOf]; omega
      · have hge : ¬ (k : Int) < (n : Int) := by omega
        have t1 : (bothO x y).take k = bothO x y := List.take_of_length_le (by rw [bothO_len x y n hx hy]; omega)
        have t2 : (goodO x y z).take k = goodO x y z := List.take_of_length_le (by rw [goodO_len x y z n hx hy hz]; omega)
        have t1 : Hid ((bothO x y).take k = bothO x y) := t1
        have t2 : Hid ((goodO x y z).take k = goodO x y z) := t2
        rw [t1.out, t2.out]
        generalize cntO (bothO x y) = b at r1
        generalize cntO (goodO x y z) = g at r2
        have j4 : (m1 : Int) ≤ (b : Int) := by omega
        have j5 : (1 : Int) ≤ (g : Int) := by omega
        go_wp2_with (first
          | (go_at_call 13; refine E3.mono ?_; rintro e w' ⟨rfl, hw⟩; obtain rfl := hw.symm; clear hw)
          | (go_at_call 17; refine AL.mono ?_; rintro e w4 ⟨rfl, C4⟩))
        go_ret
        exact ⟨rfl, C3.trans (C4.mono C3.size)⟩
  · clear HM
    by_cases p1 : cx < m2
    · have j1 : (cx : Int) < (m2 : Int) := by omega
      clear hg
      go_wp2_with (first
        | (go_at_call_of 30 (Value.slice (some ⟨g1, 0, none⟩) n n); refine K1.mono ?_; rintro e w' ⟨rfl, hw⟩; obtain rfl := hw.symm; clear hw)
        | (go_at_call 11; refine E2.mono ?_; rintro e w' ⟨rfl, hw⟩; obtain rfl := hw.symm; clear hw)
        | (go_at_call 17; refine AL.mono ?_; rintro e w4 ⟨rfl, C4⟩))
      go_ret
      exact ⟨rfl, C3.trans (C4.mono C3.size)⟩
    · have j1 : (m2 : Int) ≤ (cx : Int) := by omega
      by_cases p2 : cy < m2
      · have j2 : (cy : Int) < (m2 : Int) := by omega
        clear hg p1
        go_wp2_with (first
          | (go_at_call_of 30 (Value.slice (some ⟨g1, 0, none⟩) n n); refine K1.mono ?_; rintro e w' ⟨rfl, hw⟩; obtain rfl := hw.symm; clear hw)
          | (go_at_call_of 30 (Value.slice (some ⟨g2, 0, none⟩) n n); refine K2.mono ?_; rintro e w' ⟨rfl, hw⟩; obtain rfl := hw.symm; clear hw)
          | (go_at_call 11; refine E2.mono ?_; rintro e w' ⟨rfl, hw⟩; obtain rfl := hw.symm; clear hw)
          | (go_at_call 17; refine AL.mono ?_; rintro e w4 ⟨rfl, C4⟩))
        go_ret
        exact ⟨rfl, C3.trans (C4.mono C3.size)⟩
      · have j2 : (m2 : Int) ≤ (cy : Int) := by omega
        have j3 : (f : Int) < (cz : Int) := by omega
        clear hg p1 p2
        go_wp2_with (first
          | (go_at_call_of 30 (Value.slice (some ⟨g1, 0, none⟩) n n); refine K1.mono ?_; rintro e w' ⟨rfl, hw⟩; obtain rfl := hw.symm; clear hw)
          | (go_at_call_of 30 (Value.slice (some ⟨g2, 0, none⟩) n n); refine K2.mono ?_; rintro e w' ⟨rfl, hw⟩; obtain rfl := hw.symm; clear hw)
          | (go_at_call_of 30 (Value.slice (some ⟨g3, 0, none⟩) n n); refine K3.mono ?_; rintro e w' ⟨rfl, hw⟩; obtain rfl := hw.symm; clear hw)
          | (go_at_call 11; refine E2.mono ?_; rintro e w' ⟨rfl, hw⟩; obtain rfl := hw.symm; clear hw)
          | (go_at_call 17; refine AL.mono ?_; rintro e w4 ⟨rfl, C4⟩))
        go_ret
        exact ⟨rfl, C3.trans (C4.mono C3.size)⟩
set_option maxRecDepth 100000 in
set_option maxHeartbeats 4000000 in
theorem quorumMeets_any (w : World) (f : Int) (ao : Option Addr) (na ca : Nat) (la : List Nat) (bo : Option Addr) (nb cb : Nat) (lb : List Nat) (co : Option Addr) (nc cc : Nat) (lc : List Nat) (_ : (Lit.int .i64 f).wf = true) (A : NL w ao na ca la) (B : NL w bo nb cb lb) (C : NL w co nc cc lc) :
    Calls Try.prog 5 #[.int .i64 f, .slice ao na ca, .slice bo nb cb, .slice co nc cc] w fun e w' => e = .returned (.bool true) ∧ Below w.heap.size w w' := by
  have AL := alive14 w
  by_cases h1 : f < 1
  · clear A B C
    go_enter Try.func5, Try.ntmps5
    go_wp2_with (go_at_call 17; refine AL.mono ?_; rintro e w4 ⟨rfl, C4⟩)
    go_ret
    exact ⟨rfl, C4⟩
  · by_cases h4 : 4 < f
    · clear A B C
      go_enter Try.func5, Try.ntmps5
      go_wp2_with (go_at_call 17; refine AL.mono ?_; rintro e w4 ⟨rfl, C4⟩)
      go_ret
      exact ⟨rfl, C4⟩
    · have h5 : f ≤ 4 := by omega
      by_cases ha : 100 < na
      · have i1 : (100 : Int) < (na : Int) := by omega
        clear A B C ha h4
        go_enter Try.func5, Try.ntmps5
        go_wp2_with (go_at_call 17; refine AL.mono ?_; rintro e w4 ⟨rfl, C4⟩)
        go_ret
        exact ⟨rfl, C4⟩
      · have i1 : (na : Int) ≤ 100 := by omega
        by_cases hb : 100 < nb
        · have i2 : (100 : Int) < (nb : Int) := by omega
          clear A B C ha hb h4
          go_enter Try.func5, Try.ntmps5
          go_wp2_with (go_at_call 17; refine AL.mono ?_; rintro e w4 ⟨rfl, C4⟩)
          go_ret
          exact ⟨rfl, C4⟩
        · have i2 : (nb : Int) ≤ 100 := by omega
          by_cases hc : 100 < nc
          · have i3 : (100 : Int) < (nc : Int) := by omega
            clear A B C ha hb hc h4
            go_enter Try.func5, Try.ntmps5
            go_wp2_with (go_at_call 17; refine AL.mono ?_; rintro e w4 ⟨rfl, C4⟩)
            go_ret
            exact ⟨rfl, C4⟩
          · obtain ⟨m, rfl⟩ : ∃ m : Nat, f = m := ⟨f.toNat, by omega⟩
            exact meets_in w m _ (by omega) (by omega) rfl ao na ca la bo nb cb lb co nc cc lc A B C (by omega) (by omega) (by omega)
end Go.Proofs.Ytghemebgkhopnaa

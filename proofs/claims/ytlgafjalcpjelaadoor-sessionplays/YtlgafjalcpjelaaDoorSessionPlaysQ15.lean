/-
  Texts in one: SeNew.
-/
import Derived.Test.YtlgafjalcpjelaaDoorSessionPlaysQFL
import Derived.Test.YtlgafjalcpjelaaDoorSessionPlaysQ11
import Derived.Test.YtlgafjalcpjelaaDoorSessionPlaysQ14
namespace Go.Proofs.YtlgafjalcpjelaaDoor
open Go.RowKit
def jdg (ns : List Nat) : Int := if 1 ≤ ns.length ∧ ns.length ≤ 8 ∧ riseF 0 ns = true then 0 else 1
set_option maxHeartbeats 1000000 in
theorem judge_any (w : World) (ao : Option Addr) (n cap : Nat) (ns : List Nat) (h : NL w ao n cap ns) :
    Calls Tryd.prog 23 #[.slice ao n cap] w fun e w' => e = .returned (.int .i64 (jdg ns)) ∧ w' = w := by
  have hl := h.len
  by_cases h0 : n = 0
  · have hv : Hid (jdg ns = 1) := by
      show _ = _
      unfold jdg
      rw [if_neg (by omega)]
    subst h0
    go_enter Tryd.func23, Tryd.ntmps23
    go_wp2
    go_ret
    exact ⟨by rw [hv.out] <;> rfl, rfl⟩
  have e0 : ((n : Int) == 0) = false := by simp; omega
  by_cases h1 : 8 < n
  · have hv : Hid (jdg ns = 1) := by
      show _ = _
      unfold jdg
      rw [if_neg (by omega)]
    have e1 : (8 : Int) < (n : Int) := by omega
    go_enter Tryd.func23, Tryd.ntmps23
    go_wp2
    go_ret
    exact ⟨by rw [hv.out] <;> rfl, rfl⟩
  have e1 : decide ((8 : Int) < (n : Int)) = false := by simp; omega
  have HV : Hid (jdg ns = if riseF 0 ns = true then 0 else 1) := by
    show _ = _
    unfold jdg
    by_cases q : riseF 0 ns = true
    · rw [if_pos ⟨by omega, by omega, q⟩, if_pos q]
    · rw [if_neg (fun z => q z.2.2), if_neg q]
  have hn8 : (n : Int) ≤ 8 := by omega
  go_enter Tryd.func23, Tryd.ntmps23
  go_wp2
  go_loopw [3, 16] (fun v i wr => ∃ (k l : Nat), k ≤ n ∧ v = .int .u64 l ∧ i = .int .i64 k ∧ w = wr ∧ Hid (riseF 0 ns = riseF l (ns.drop k)) ∧ l < 18446744073709551616) (fun _ i _ => n - (intOf i).toNat)
  case atStart => exact ⟨0, 0, Nat.zero_le _, rfl, rfl, rfl, rfl, by omega⟩
  case round =>
    obtain ⟨k, l, hk, rfl, rfl, rfl, HR, hl64⟩ := hrel
    by_cases hlt : k < n
    · have hki : (k : Int) < (n : Int) := by omega
      have hkl : k < ns.length := by omega
      obtain ⟨b, off, rfl, hc⟩ := h.at (by omega)
      have c1 := hc k hlt
      have hx64 := h.rng ns[k] (List.getElem_mem hkl)
      have HD : Hid (ns.drop k = ns[k] :: ns.drop (k + 1)) := List.drop_eq_getElem_cons hkl
      have e5 : ns.getD k 0 = ns[k] := by simp [List.getD, hkl]
      rw [e5] at c1
      obtain ⟨x, hx⟩ : ∃ x, x = ns[k] := ⟨_, rfl⟩
      rw [← hx] at c1 HD hx64
      clear hx e5 hc
      by_cases hle : x ≤ l
      · have hlei : (x : Int) ≤ (l : Int) := by omega
        go_wp2
        go_ret
        refine ⟨?_, rfl⟩
        have : riseF 0 ns = false := by
          rw [HR.out, HD.out]
          simp [riseF]
          omega
        rw [HV.out, this]
        rfl
      · have hlei : decide ((x : Int) ≤ (l : Int)) = false := by simp; omega
        go_wp2
        go_roundw
        case rel =>
          refine ⟨k + 1, x, by omega, rfl, by go_num, trivial, ?_, hx64⟩
          show _ = _
          rw [HR.out, HD.out]
          simp [riseF]
          omega
        case measure => simp [intOf]; omega
    · have hge : decide ((k : Int) < (n : Int)) = false := by simp; omega
      go_wp2
      go_ret
      refine ⟨?_, rfl⟩
      have : riseF 0 ns = true := by
        rw [HR.out, List.drop_of_length_le (by omega)]
        rfl
      rw [HV.out, this]
      rfl
theorem noAnswer_any (w : World) : Calls Tryd.prog 24 #[] w fun e w' => e = .returned (.string (strOfNums (putR zRV))) ∧ Below w.heap.size w w' := by
  have CR := presult_any w 0 none 0 0 [] false (CL.nothing w)
  have er : Hid (rightR (resR 0 [] false) = true) := show rightR (resR 0 [] false) = true by decide
  go_enter Tryd.func24, Tryd.ntmps24
  go_wp2_with fail
  refine CR.mono ?_
  rintro e w' ⟨⟨bo, k, c, rfl, S⟩, C⟩
  rw [if_pos er.out] at S
  have cv := conv_str S
  clear CR S
  go_wp2
  go_ret
  exact ⟨rfl, C⟩
theorem cNew_bad (w : World) (ao : Option Addr) (n cap : Nat) (ns : List Nat) (h : NL w ao n cap ns) (hj : jdg ns = 1) :
    Calls Tryd.prog 6 #[.slice ao n cap] w fun e w' => e = .returned (.tuple #[.pointer none, .int .i64 1]) ∧ w' = w := by
  have CJ := judge_any w ao n cap ns h
  rw [hj] at CJ
  go_enter Tryd.func6, Tryd.ntmps6
  go_wp2_with fail
  refine CJ.mono ?_
  rintro e w' ⟨rfl, hw⟩
  obtain rfl := hw.symm
  clear hw CJ
  go_wp2
  go_ret2
  exact ⟨rfl, rfl⟩
def newT (ns : List Nat) : List EN := ns.map fun c => ⟨c, 0, zRV⟩
set_option maxRecDepth 100000 in
set_option maxHeartbeats 4000000 in
theorem cNew_good (w : World) (ao : Option Addr) (n cap : Nat) (ns : List Nat) (h : NL w ao n cap ns) (hj : jdg ns = 0) :
    Calls Tryd.prog 6 #[.slice ao n cap] w fun e w' => ∃ p g, e = .returned (.tuple #[.pointer (some ⟨p, 0, none⟩), .int .i64 0]) ∧ TS w' p g (newT ns) ∧ w.heap.size ≤ p ∧ w.heap.size ≤ g ∧ Below w.heap.size w w' := by
  have CJ := judge_any w ao n cap ns h
  have hl := h.len
  have hb : 1 ≤ ns.length ∧ ns.length ≤ 8 := by
    unfold jdg at hj
    by_cases q : 1 ≤ ns.length ∧ ns.length ≤ 8 ∧ riseF 0 ns = true
    · exact ⟨q.1, q.2.1⟩
    · rw [if_neg q] at hj
      cases hj
  rw [hj] at CJ
  have B0 : Below w.heap.size w (w.alloc (.cells #[.slice none 0 0] 58)) := (Below.refl _ w).alloc (Nat.le_refl _) _
  have N0 : NewI (w.alloc (.cells #[.slice none 0 0] 58)) w.heap.size (.slice none 0 0) (newT (ns.take 0)) := ⟨heap_alloc_new w _, World.ownsRow_nil _ _ _ _, fun _ h => by simp [newT] at h⟩
  go_enter Tryd.func6, Tryd.ntmps6
  go_wp2_with fail
  refine CJ.mono ?_
  rintro e w' ⟨rfl, hw⟩
  obtain rfl := hw.symm
  clear hw CJ
  go_wp2_with fail
  obtain ⟨w1, hw1⟩ : ∃ W, W = w.alloc (.cells #[.slice none 0 0] 58) := ⟨_, rfl⟩
  obtain ⟨p, hp⟩ : ∃ p, p = w.heap.size := ⟨_, rfl⟩
  rw [← hw1] at B0 N0 ⊢
  rw [← hp] at N0 B0 ⊢
  have hpw : w.heap.size ≤ p := Nat.le_of_eq hp.symm
  have HP : Hid (p = w.heap.size) := hp
  clear hw1 hp
  go_loopw [17] (fun i wr => ∃ (k : Nat) (v : Value), k ≤ n ∧ i = .int .i64 k ∧ NewI wr p v (newT (ns.take k)) ∧ Below p w wr) (fun i _ => n - (intOf i).toNat)
  case atStart => exact ⟨0, _, Nat.zero_le _, rfl, N0, B0⟩
  case round =>
    clear N0 B0
    obtain ⟨k, v, hk, rfl, N, B⟩ := hrel
    by_cases hlt : k < n
    · have hki : (k : Int) < (n : Int) := by omega
      have hkl : k < ns.length := by omega
      obtain ⟨b, off, rfl, hc⟩ := (h.below (B.mono (Nat.le_of_eq HP.out.symm))).at (by omega)
      have c1 := hc k hlt
      have e3 : ns.getD k 0 = ns[k] := by simp [List.getD, hkl]
      rw [e3] at c1
      have hx64 := h.rng ns[k] (List.getElem_mem hkl)
      have HT : Hid (newT (ns.take (k + 1)) = newT (ns.take k) ++ [⟨ns[k], 0, zRV⟩]) := by
        show _ = _
        unfold newT
        rw [List.take_add_one, List.getElem?_eq_getElem hkl, List.map_append]
        rfl
      have hlk : (newT (ns.take k)).length ≤ 8 := by simp [newT]; omega
      obtain ⟨x, hx⟩ : ∃ x, x = ns[k] := ⟨_, rfl⟩
      rw [← hx] at c1 hx64 HT
      clear hx hc e3
      obtain ⟨ao, an, ac, rfl⟩ := N.slice
      obtain ⟨v, hv⟩ : ∃ v, v = Value.slice ao an ac := ⟨_, rfl⟩
      rw [← hv] at N
      go_wp2_with fail
      have E0 : Below wr.heap.size wr wr.drew := (Below.refl _ _).drew
      refine wp_region_noPanic ?_
      refine wp_region_held_drew (S := fun _ => True) (by kernel_rfl) trivial (fun _ => ?_)
      obtain ⟨v0, hv0⟩ : ∃ v, v = wr.drew := ⟨_, rfl⟩
      rw [← hv0] at E0 ⊢
      clear hv0
      refine hr_take_w 0 (some 21) (.pointer (some ⟨p, 0, none⟩)) rfl rfl (by kernel_rfl) (by kernel_rfl) (by kernel_rfl) rfl (fun W hW => by go_simp) trivial ?_
      simp only [FL]
      refine hr_take_w 1 (some 22) (.pointer (some ⟨p, 0, none⟩)) rfl rfl (by kernel_rfl) (by kernel_rfl) (by kernel_rfl) rfl (fun W hW => by go_simp) trivial ?_
      simp only [FL]
      refine hr_take_w 2 (some 23) (.pointer (some ⟨p, 0, none⟩)) rfl rfl (by kernel_rfl) (by kernel_rfl) (by kernel_rfl) rfl (fun W hW => by go_simp) trivial ?_
      simp only [FL]
      refine hr_take_w 3 (some 24) (.pointer (some ⟨p, 0, none⟩)) rfl rfl (by kernel_rfl) (by kernel_rfl) (by kernel_rfl) rfl (fun W hW => by go_simp) trivial ?_
      simp only [FL]
      refine hr_take_w 5 (some 26) (.int .u64 x) rfl rfl (by kernel_rfl) (by kernel_rfl) (by kernel_rfl) rfl (fun W hW => by go_simp) trivial ?_
      simp only [FL]
      refine wpAnyH_effto 4 (fun zi zv zw => (zi = 4 → zv = v) ∧ (zi = 6 → zv = .string (EN.an ⟨x, 0, zRV⟩)) ∧ (zi = 7 → zv = .agg #[.int .u64 x, .int .u64 0, .string (EN.an ⟨x, 0, zRV⟩)]) ∧ (zi = 8 → ∃ g1, zv = .slice (some ⟨g1, 0, none⟩) 1 1 ∧ zw.heap[g1]? = some (.cells #[.int .u64 x, .int .u64 0, .string (EN.an ⟨x, 0, zRV⟩)] 61))) [(4, 25), (6, 27), (7, 28), (8, 29)] 35 (by kernel_rfl) (by decide) (by decide) rfl ?_ (fun _ _ => trivial) ?_ ?_
      · intro zi v w w' h hb
        refine ⟨fun e => ?_, fun e => ?_, fun e => ?_, fun e => ?_⟩
        · have h := h.1 e
          exact h
        · have h := h.2.1 e
          exact h
        · have h := h.2.2.1 e
          exact h
        · have h := h.2.2.2 e
          obtain ⟨g1, h1, h2⟩ := h
          exact ⟨g1, h1, (hb.block g1 (Array.getElem?_eq_some_iff.1 h2).1).trans h2⟩
      · intro zp zhi o a w ho hs hb hdep
        have EB := E0.trans (hb.mono E0.size)
        simp only [List.mem_cons, List.not_mem_nil, or_false] at zhi
        rcases zhi with rfl | rfl | rfl | rfl
        · obtain rfl : _ = o := Option.some.inj (show some _ = some o from ho)
          have t24 : a.tmps[24]? = some (.pointer (some ⟨p, 0, none⟩)) := hs.get 24 (by kernel_rfl) rfl
          have lc := cell_of_row w p 0 _ _ _ (N.below EB).tab
          exact .inl ⟨v, w, by go_simp, ⟨fun _ => rfl, fun e => absurd e (by decide), fun e => absurd e (by decide), fun e => absurd e (by decide)⟩, Below.refl _ _⟩
        · obtain rfl : _ = o := Option.some.inj (show some _ = some o from ho)
          refine .inr ⟨24, #[], by go_simp, (noAnswer_any w).mono ?_⟩
          rintro e w' ⟨rfl, C⟩
          exact ⟨_, rfl, ⟨fun e => absurd e (by decide), fun _ => rfl, fun e => absurd e (by decide), fun e => absurd e (by decide)⟩, C⟩
        · obtain rfl : _ = o := Option.some.inj (show some _ = some o from ho)
          have t26 : a.tmps[26]? = some (.int .u64 x) := hs.get 26 (by kernel_rfl) rfl
          obtain ⟨x27, t27, f27⟩ := (hdep 6 (by kernel_rfl)).at 27 (by kernel_rfl)
          replace f27 := f27.2.1 rfl
          subst f27
          exact .inl ⟨_, w, by go_simp, ⟨fun e => absurd e (by decide), fun e => absurd e (by decide), fun _ => rfl, fun e => absurd e (by decide)⟩, Below.refl _ _⟩
        · obtain rfl : _ = o := Option.some.inj (show some _ = some o from ho)
          obtain ⟨x28, t28, f28⟩ := (hdep 7 (by kernel_rfl)).at 28 (by kernel_rfl)
          replace f28 := f28.2.2.1 rfl
          subst f28
          exact .inl ⟨_, _, by go_simp, ⟨fun e => absurd e (by decide), fun e => absurd e (by decide), fun e => absurd e (by decide), fun _ => ⟨_, rfl, heap_alloc_new w _⟩⟩, (Below.refl _ _).alloc (Nat.le_refl _) _⟩
      intro zf v1 hb hh
      have E1 := E0.trans (hb.mono E0.size)
      obtain e4 := (hh (4, 25) (by simp)).1 rfl
      obtain e6 := (hh (6, 27) (by simp)).2.1 rfl
      obtain e7 := (hh (7, 28) (by simp)).2.2.1 rfl
      obtain ⟨g1, e8, G1⟩ := (hh (8, 29) (by simp)).2.2.2 rfl
      clear hh hb
      simp only [putL, List.foldl_cons, List.foldl_nil, e4, e6, e7, e8]
      clear e4 e6 e7 e8
      simp only [FL]
      have N1 := N.below E1
      obtain ⟨v', W1, ha, T1, N2, B2, -, -, ao2, n2, c2, rfl⟩ := N1.app 56 (cp := 1) (e := ⟨x, 0, zRV⟩) G1 (zRV_ok x hx64) (by omega)
      refine hr_ex 9 (some 30) rfl rfl (by kernel_rfl) rfl (R := fun v w' => (.slice ao2 n2 c2) = v ∧ W1 = w') ⟨_, W1, by simp [execOp, Act.eval, resolve, invoke, builtin, ha], rfl, rfl⟩ ?_
      rintro v w' ⟨rfl, rfl⟩
      refine ⟨trivial, ?_⟩
      simp only [FL]
      refine hr_take_w 10 (some 31) (.pointer (some ⟨p, 0, none⟩)) rfl rfl (by kernel_rfl) (by kernel_rfl) (by kernel_rfl) rfl (fun W hW => by go_simp) trivial ?_
      simp only [FL]
      refine hr_take_w 11 (some 32) (.pointer (some ⟨p, 0, none⟩)) rfl rfl (by kernel_rfl) (by kernel_rfl) (by kernel_rfl) rfl (fun W hW => by go_simp) trivial ?_
      simp only [FL]
      have lc := cell_of_row W1 p 0 _ _ _ T1
      have lf := frozen_of_row W1 p 0 _ _ T1
      refine hr_skip 12 none (w' := W1.setCell ⟨p, 0, none⟩ (.slice ao2 n2 c2)) rfl rfl (by kernel_rfl) rfl (by go_simp) trivial ?_
      simp only [Act.put]
      refine wpAnyH_done (by kernel_rfl) ?_ _
      refine NoPanic.normal ?_
      clear lc lf ha T1 N1 G1
      have B3 := B.trans ((E1.mono (Nat.le_of_lt N.plt)).trans B2)
      obtain ⟨W2, hW2⟩ : ∃ W2, W2 = W1.setCell ⟨p, 0, none⟩ (.slice ao2 n2 c2) := ⟨_, rfl⟩
      rw [← hW2] at N2 B3 ⊢
      clear hW2 B2 E1 N B
      go_wp2
      go_roundw
      case rel =>
        refine ⟨k + 1, .slice ao2 n2 c2, by omega, by go_num, ?_, B3⟩
        rw [HT.out]
        exact N2
      case measure => simp [intOf]; omega
    · have hge : decide ((k : Int) < (n : Int)) = false := by simp; omega
      have N9 : NewI wr p v (newT ns) := by rw [List.take_of_length_le (by omega)] at N; exact N
      obtain ⟨g, T, hg⟩ := N9.done (by simp [newT]; omega) (by simp [newT]; omega)
      clear N N9
      go_wp2
      go_ret2
      exact ⟨p, g, rfl, T, by omega, by omega, by rw [← HP.out]; exact B⟩
end Go.Proofs.YtlgafjalcpjelaaDoor

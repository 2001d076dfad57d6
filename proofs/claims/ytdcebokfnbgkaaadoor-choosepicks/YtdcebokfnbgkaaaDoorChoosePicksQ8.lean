/-
  Texts in one: ChRSame, ChLight.
-/
import Derived.Test.YtdcebokfnbgkaaaDoorChoosePicksQ2
import Derived.Test.YtdcebokfnbgkaaaDoorChoosePicksQ6
import Derived.Deep.QuietTactic
import Derived.BigQuiet
import Derived.Test.YtdcebokfnbgkaaaDoorChoosePicksQ0
namespace Go.Proofs.YtdcebokfnbgkaaaDoor
open Go.RowKit
set_option maxRecDepth 100000 in
set_option maxHeartbeats 8000000 in
theorem rsame16 (w : World) (ao bo : Option Addr) (n cap m cap2 : Nat) (xs ys : List PA) (hx : GL elP w ao n cap xs) (hy : GL elP w bo m cap2 ys) (he : xs.map PA.pv = ys.map PA.pv) (hn : n ≤ 1000) :
    Calls Tryd.prog 11 #[.slice ao n cap, .slice bo m cap2] w fun e w' => e = .returned (.bool true) ∧ Below w.heap.size w w' := by
  have hxl := hx.len
  have hyl := hy.len
  have hmn : m = n := by
    have h := congrArg List.length he
    simp only [List.length_map] at h
    omega
  subst hmn
  have HE : Hid (∀ i (h1 : i < xs.length) (h2 : i < ys.length), xs[i].pv = ys[i].pv) := fun i h1 h2 => by
    have h : (xs.map PA.pv)[i]? = (ys.map PA.pv)[i]? := by rw [he]
    rw [List.getElem?_map, List.getElem?_map, List.getElem?_eq_getElem h1, List.getElem?_eq_getElem h2] at h
    exact Option.some.inj h
  have I0 : W1 w m (.int .i64 0) w := W1.mk 0 (Nat.zero_le _) rfl (Below.refl _ _)
  clear he
  go_enter Tryd.func11, Tryd.ntmps11
  go_wp2_with fail
  go_loopw [5] (fun i wr => W1 w m i wr) (fun i _ => m - (intOf i).toNat)
  case atStart => exact I0
  case round =>
    clear I0
    obtain ⟨i, hi, rfl, E⟩ := hrel
    by_cases hil : i < m
    · have hii : (i : Int) < (m : Int) := by omega
      obtain ⟨ab, aoff, rfl, hA⟩ := hx.atP (by omega)
      obtain ⟨bb, boff, rfl, hB⟩ := hy.atP (by omega)
      have hv := HE.out i (by omega) (by omega)
      have hA := hA i (by omega)
      have hB := hB i (by omega)
      have oa := hx.ok _ (List.getElem_mem (show i < xs.length by omega))
      have ob := hy.ok _ (List.getElem_mem (show i < ys.length by omega))
      obtain ⟨⟨asq, avw, abs⟩, ha⟩ : ∃ p, p = xs[i]'(by omega) := ⟨_, rfl⟩
      obtain ⟨⟨bsq, bvw, bbs⟩, hb⟩ : ∃ p, p = ys[i]'(by omega) := ⟨_, rfl⟩
      rw [← ha] at hA oa hv
      rw [← hb] at hB ob hv
      have e1 : asq = bsq := congrArg (fun t => t.1) hv
      have e2 : avw = bvw := congrArg (fun t => t.2.1) hv
      have e3 : abs.xs = bbs.xs := congrArg (fun t => t.2.2) hv
      subst e1 e2
      obtain ⟨x0, x1, x2⟩ := hA.below E
      obtain ⟨y0, y1, y2⟩ := hB.below E
      have SA_ := Sl.below oa.b E
      have SB_ := Sl.below ob.b E
      have CS : ∀ k : Nat, Calls Tryd.prog 13 #[.slice abs.ao abs.n abs.cap, .slice bbs.ao bbs.n bbs.cap] (wr.drewN k) fun e w' => e = .returned (.bool true) ∧ ∃ q, w' = (wr.drewN k).drewN q := fun k => by
        have C := same_any (wr.drewN k) _ _ _ _ _ _ abs.xs bbs.xs (Sl.below SA_ (below_drewN wr k _)) (Sl.below SB_ (below_drewN wr k _))
        rw [decide_eq_true e3] at C
        exact C
      have HE2 : Hid (Below w.heap.size w wr) := E
      clear hA hB oa ob ha hb hv e3 SA_ SB_ E
      go_wp2_with fail
      go_quiet ((go_at_call 13; exact Calls.quiet_of (CS _)))
      have BN : Below w.heap.size w (wr.drewN nq) := HE2.out.trans (below_drewN wr nq _)
      clear x0 x1 x2 y0 y1 y2 CS
      go_wp2
      all_goals (try go_big_round)
      all_goals refine ⟨?_, ?_⟩
      all_goals first
        | exact W1.mk (i + 1) hil (by go_num) BN
        | (simp [intOf]; omega)
    · have hii : ¬ (i : Int) < (m : Int) := by omega
      go_wp2
      go_ret
      exact ⟨rfl, E⟩
open Go.RowKit
def LtPost (w : World) (l : List CA) (e : Ending) (w' : World) : Prop := ∃ b, e = .returned (.bool b) ∧ w' = w ∧ (b = true → LtC l)
set_option maxRecDepth 100000 in
set_option maxHeartbeats 4000000 in
theorem light16 (w : World) (ao : Option Addr) (n cap : Nat) (l : List CA) (h : GL elC w ao n cap l) : Calls Tryd.prog 6 #[.slice ao n cap] w (LtPost w l) := by
  have hl := h.len
  by_cases h20 : n ≤ 20
  · have i1 : ¬ (20 : Int) < (n : Int) := by omega
    go_enter Tryd.func6, Tryd.ntmps6
    go_wp2_with fail
    go_loopw [3] (fun i wr => ∃ k : Nat, k ≤ n ∧ i = .int .i64 (k : Nat) ∧ w = wr ∧ Hid (∀ j (hj : j < l.length), j < k → l[j].s.n ≤ 20 ∧ l[j].z.n ≤ 100 ∧ ∀ p ∈ l[j].s.l, p.b.n ≤ 100)) (fun i _ => n - (intOf i).toNat)
    case atStart => exact ⟨0, Nat.zero_le _, rfl, rfl, fun j hj h0 => absurd h0 (Nat.not_lt_zero _)⟩
    case round =>
      obtain ⟨k, hk, rfl, rfl, HK⟩ := hrel
      by_cases hlt : k < n
      · have hki : (k : Int) < (n : Int) := by omega
        obtain ⟨b, off, rfl, hX⟩ := h.atC (by omega)
        have hkx : k < l.length := by omega
        have HX := hX k hkx
        have hok := h.ok _ (List.getElem_mem hkx)
        obtain ⟨o, ho⟩ : ∃ o, o = l[k] := ⟨_, rfl⟩
        rw [← ho] at HX hok
        have hsl := hok.s.len
        obtain ⟨q0, q1, q2, q3⟩ := HX
        have HO : Hid (o = l[k]) := ho
        clear hX ho
        by_cases s20 : o.s.n ≤ 20
        · have i2 : ¬ (20 : Int) < (o.s.n : Int) := by omega
          by_cases z100 : o.z.n ≤ 100
          · have i3 : ¬ (100 : Int) < (o.z.n : Int) := by omega
            go_wp2_with fail
            go_loopw [4] (fun i wr => ∃ x : Nat, x ≤ o.s.n ∧ i = .int .i64 (x : Nat) ∧ w = wr ∧ Hid (∀ j (hj : j < o.s.l.length), j < x → o.s.l[j].b.n ≤ 100)) (fun i _ => o.s.n - (intOf i).toNat)
            case atStart => exact ⟨0, Nat.zero_le _, rfl, rfl, fun j hj h0 => absurd h0 (Nat.not_lt_zero _)⟩
            case round =>
              obtain ⟨x, hx, rfl, rfl, HJ⟩ := hrel
              by_cases hxl : x < o.s.n
              · have hxi : (x : Int) < (o.s.n : Int) := by omega
                obtain ⟨pb, poff, ep, hP⟩ := hok.s.atP (by omega)
                have HP := hP x (by omega)
                have p2 := HP.c2
                rw [ep] at q3
                by_cases b100 : (o.s.l[x]'(by omega)).b.n ≤ 100
                · have HJ2 : Hid (∀ j (hj : j < o.s.l.length), j < x + 1 → o.s.l[j].b.n ≤ 100) := fun j hj h1 => by
                    by_cases e : j = x
                    · subst e
                      exact b100
                    · exact HJ.out j hj (by omega)
                  generalize (o.s.l[x]'(by omega)).b = pp at p2 b100
                  have i4 : ¬ (100 : Int) < (pp.n : Int) := by omega
                  clear hP HP
                  go_wp2
                  go_roundw
                  case rel => exact ⟨x + 1, by omega, by go_num, trivial, HJ2⟩
                  case measure => simp [intOf]; omega
                · generalize (o.s.l[x]'(by omega)).b = pp at p2 b100
                  have i4 : (100 : Int) < (pp.n : Int) := by omega
                  clear hP HP
                  go_wp2
                  go_ret
                  exact ⟨false, rfl, rfl, fun h => by cases h⟩
              · have hxi : ¬ (x : Int) < (o.s.n : Int) := by omega
                have HK2 : Hid (∀ j (hj : j < l.length), j < k + 1 → l[j].s.n ≤ 20 ∧ l[j].z.n ≤ 100 ∧ ∀ p ∈ l[j].s.l, p.b.n ≤ 100) := fun j hj h1 => by
                  by_cases e : j = k
                  · subst e
                    rw [← HO.out]
                    refine ⟨s20, z100, fun p hp => ?_⟩
                    obtain ⟨i, hi, rfl⟩ := List.getElem_of_mem hp
                    exact HJ.out i hi (by omega)
                  · exact HK.out j hj (by omega)
                go_wp2
                go_roundw
                case rel => exact ⟨k + 1, by omega, by go_num, trivial, HK2⟩
                case measure => simp [intOf]; omega
          · have i3 : (100 : Int) < (o.z.n : Int) := by omega
            go_wp2
            go_ret
            exact ⟨false, rfl, rfl, fun h => by cases h⟩
        · have i2 : (20 : Int) < (o.s.n : Int) := by omega
          go_wp2
          go_ret
          exact ⟨false, rfl, rfl, fun h => by cases h⟩
      · have hge : ¬ (k : Int) < (n : Int) := by omega
        have HL : Hid (LtC l) := ⟨by omega, fun c hc => by
          obtain ⟨j, hj, rfl⟩ := List.getElem_of_mem hc
          exact HK.out j hj (by omega)⟩
        go_wp2
        go_ret
        exact ⟨true, rfl, rfl, fun _ => HL.out⟩
  · have i1 : (20 : Int) < (n : Int) := by omega
    go_enter Tryd.func6, Tryd.ntmps6
    go_wp2
    go_ret
    exact ⟨false, rfl, rfl, fun h => by cases h⟩
end Go.Proofs.YtdcebokfnbgkaaaDoor

/-
  The reference's Rise, Key and New.
-/
import Derived.Test.YtkncfjokkojfpaaDoorNilsS
import Derived.Test.YtkncfjokkojfpaaDoorROf
import Derived.Deep.QuietTactic
import Derived.BigQuiet
namespace Go.Proofs.YtkncfjokkojfpaaDoor
open Go.RowKit

set_option maxRecDepth 100000 in
set_option maxHeartbeats 1000000 in
theorem rrise_any (w : World) (ao : Option Addr) (n cap : Nat) (ns : List Nat) (h : NL w ao n cap ns) (hn : n ≤ 1000000) :
    Calls Tryd.prog 26 #[.slice ao n cap] w fun e w' => e = .returned (.bool (riseF 0 ns)) ∧ ∃ q, w' = w.drewN q := by
  have hl := h.len
  have hni : (n : Int) ≤ 1000000 := by omega
  go_enter Tryd.func26, Tryd.ntmps26
  go_wp2
  go_loopw [3] (fun i wr => ∃ (k l q : Nat), k ≤ n ∧ i = .int .i64 k ∧ wr = w.drewN q ∧ riseF 0 ns = riseF l (ns.drop k) ∧ (k = 0 → l = 0) ∧ (0 < k → ns.getD (k - 1) 0 = l)) (fun i _ => n - (intOf i).toNat)
  case atStart => exact ⟨0, 0, 0, Nat.zero_le _, rfl, rfl, rfl, fun _ => rfl, fun h => by omega⟩
  case round =>
    obtain ⟨k, l, q, hk, rfl, rfl, hr, hl0, hl1⟩ := hrel
    have HR : Hid (riseF 0 ns = riseF l (ns.drop k)) := hr
    clear hr
    by_cases hlt : k < n
    · have hki : (k : Int) < (n : Int) := by omega
      have hkl : k < ns.length := by omega
      obtain ⟨b, off, rfl, hc⟩ := h.at (by omega)
      have c1 : w.cell? ⟨b, off + k, none⟩ = some (.int .u64 (ns.getD k 0)) := hc k hlt
      have HD : Hid (ns.drop k = ns[k] :: ns.drop (k + 1)) := List.drop_eq_getElem_cons hkl
      have e0 : ns.getD k 0 = ns[k] := by simp [List.getD, hkl]
      have HG : Hid (ns.getD k 0 = ns[k]) := e0
      rw [e0] at c1
      obtain ⟨x, hx⟩ : ∃ x, x = ns[k] := ⟨_, rfl⟩
      rw [← hx] at c1 HD HG
      clear hx e0
      have HF : Hid (riseF 0 ns = (decide (l < x) && riseF x (ns.drop (k + 1)))) := by
        show _ = _
        rw [HR.out, HD.out]
        rfl
      by_cases hx0 : x = 0
      · have d0 : ((x : Int) == 0) = true := by simp; omega
        have HX : Hid (x = 0) := hx0
        clear hx0 hl0 hl1 hc
        go_wp2
        go_quiet (fail)
        go_wp2
        go_ret
        have : riseF 0 ns = false := by rw [HF.out, HX.out]; simp
        rw [this, World.drewN_drewN]
        exact ⟨rfl, _, rfl⟩
      · have d0 : ((x : Int) == 0) = false := by simp; omega
        by_cases hk0 : k = 0
        · have dk : decide (0 < k) = false := by simp; omega
          have HL : Hid (l = 0) := hl0 hk0
          have HK : Hid (k = 0) := hk0
          clear hl0 hl1 hc hk0
          go_wp2
          go_quiet (fail)
          go_wp2
          go_roundw
          case rel =>
            refine ⟨k + 1, x, _, by omega, by go_num, rfl, ?_, fun h => by omega, fun _ => ?_⟩
            · rw [HF.out, HL.out, show decide (0 < x) = true from decide_eq_true (by omega)]
              rfl
            · rw [Nat.add_sub_cancel]
              exact HG.out
          case measure => simp [intOf]; omega
        · have dk : decide (0 < k) = true := by simp; omega
          have hkp : (0 : Int) < (k : Int) := by omega
          have c2 : w.cell? ⟨b, off + (k - 1), none⟩ = some (.int .u64 (ns.getD (k - 1) 0)) := hc (k - 1) (by omega)
          rw [hl1 (by omega)] at c2
          have t1 : ((k : Int) - 1).toNat = k - 1 := by omega
          have t2 : 0 ≤ (k : Int) - 1 := by omega
          have t3 : (k : Int) - 1 < (n : Int) := by omega
          clear hl0 hl1 hc
          by_cases hxl : x ≤ l
          · have dl : decide ((x : Int) ≤ (l : Int)) = true := by simp; omega
            have dl3 : decide (x ≤ l) = true := by simp; omega
            have dl2 : (x : Int) ≤ (l : Int) := by omega
            go_wp2
            go_quiet (fail)
            go_wp2
            go_ret
            have : riseF 0 ns = false := by rw [HF.out, show decide (l < x) = false from decide_eq_false (by omega)]; rfl
            rw [this, World.drewN_drewN]
            exact ⟨rfl, _, rfl⟩
          · have dl : decide ((x : Int) ≤ (l : Int)) = false := by simp; omega
            have dl3 : decide (x ≤ l) = false := by simp; omega
            have dl2 : (l : Int) < (x : Int) := by omega
            go_wp2
            go_quiet (fail)
            go_wp2
            go_roundw
            case rel =>
              refine ⟨k + 1, x, _, by omega, by go_num, rfl, ?_, fun h => by omega, fun _ => ?_⟩
              · rw [HF.out, show decide (l < x) = true from decide_eq_true (by omega)]
                rfl
              · rw [Nat.add_sub_cancel]
                exact HG.out
            case measure => simp [intOf]; omega
    · have hge : (n : Int) ≤ (k : Int) := by omega
      go_wp2
      go_ret
      have : riseF 0 ns = true := by
        rw [HR.out, List.drop_of_length_le (by omega)]
        rfl
      rw [this]
      exact ⟨rfl, _, rfl⟩

set_option maxRecDepth 100000 in
set_option maxHeartbeats 1000000 in
theorem rkey_any (w : World) (mo : Option Addr) (mn mc : Nat) (mst : List Int) (node : Nat) (hM : Sl w mo mn mc mst) (hm : mn ≤ 10000) (hn : node < 18446744073709551616) :
    Calls Tryd.prog 14 #[.slice mo mn mc, .int .u64 node] w fun e w' => ∃ v, e = .returned v ∧ w'.ownsRow w.heap.size 5 1 v 32 (bv (nkL mst node)) ∧ Below w.heap.size w w' := by
  have en := enc_length hn
  have hml := hM.len
  go_enter Tryd.func14, Tryd.ntmps14
  go_wp2_with (go_at_call 30; refine (rUint_any w none 0 0 node [] (Sl.nothing w) (by omega) hn).mono ?_; rintro e w1 ⟨v1, rfl, own1, B1⟩; simp only [List.nil_append, Nat.zero_add] at own1; obtain ⟨uo, uc, rfl, S1, -⟩ := Sl.own own1 (enc_byte hn); have s1 := B1.size; have M1 := hM.below B1; clear own1)
  have B2 : Below w.heap.size w (w1.alloc (.cells #[.slice mo mn mc, .slice uo (enc node).length uc] 22)) := B1.alloc s1 _
  have P2 : PL (w1.alloc (.cells #[.slice mo mn mc, .slice uo (enc node).length uc] 22)) (some ⟨w1.heap.size, 0, none⟩) 2 2 [⟨mo, mn, mc, mst⟩, ⟨uo, (enc node).length, uc, enc node⟩] := PL.two w1 ⟨mo, mn, mc, mst⟩ ⟨uo, (enc node).length, uc, enc node⟩ M1 S1 22
  have s2 := B2.size
  have hq : ∀ q ∈ [(⟨mo, mn, mc, mst⟩ : Part), ⟨uo, (enc node).length, uc, enc node⟩], q.n ≤ 10000 ∧ q.xs.length ≤ 10000 := by
    intro q hq
    simp only [List.mem_cons, List.not_mem_nil, or_false] at hq
    rcases hq with rfl | rfl <;> simp only <;> omega
  refine (rof_any _ wKey _ 2 2 _ P2 (by decide) (by omega) (fun q h => by have := (hq q h).1; omega) (by
    have := formL_len wKey [⟨mo, mn, mc, mst⟩, ⟨uo, (enc node).length, uc, enc node⟩] 10000 (by decide) (by simp) (by decide) (fun q h => (hq q h).2)
    have e : wKey.size = 3 := rfl
    rw [e] at this
    simp only [List.length_cons, List.length_nil] at this
    omega)).mono ?_
  rintro e w3 ⟨v3, rfl, own3, C3⟩
  have B3 : Below w.heap.size w w3 := B2.trans (C3.mono s2)
  go_wp2
  go_ret
  exact ⟨_, rfl, own_base own3 s2, B3⟩

theorem rnew_bad (w : World) (real : Bool) (v : Value) (ao : Option Addr) (n cap : Nat) (ns : List Nat) (h : NL w ao n cap ns) (hb : n = 0 ∨ 64 < n ∨ riseF 0 ns = false) :
    Calls Tryd.prog 11 #[.bool real, v, .slice ao n cap] w fun e w' => e = .returned (.pointer none) ∧ ∃ q, w' = w.drewN q := by
  by_cases h0 : n = 0
  · subst h0
    go_enter Tryd.func11, Tryd.ntmps11
    go_wp2
    go_ret
    exact ⟨rfl, 0, rfl⟩
  · have e0 : decide ((n : Int) < 1) = false := by simp; omega
    have e0' : (1 : Int) ≤ (n : Int) := by omega
    by_cases h1 : 64 < n
    · have e1 : (64 : Int) < (n : Int) := by omega
      have e2 : decide ((64 : Int) < (n : Int)) = true := by simp; omega
      go_enter Tryd.func11, Tryd.ntmps11
      go_wp2
      go_ret
      exact ⟨rfl, 0, rfl⟩
    · have e1 : (n : Int) ≤ 64 := by omega
      have e2 : decide ((64 : Int) < (n : Int)) = false := by simp; omega
      have hr : riseF 0 ns = false := by rcases hb with h | h | h <;> first | omega | exact h
      go_enter Tryd.func11, Tryd.ntmps11
      go_wp2_with (go_at_call 26; refine (rrise_any w ao n cap ns h (by omega)).mono ?_; rintro e w' ⟨rfl, q, rfl⟩; rw [hr])
      go_ret
      exact ⟨rfl, q, rfl⟩

set_option maxRecDepth 100000 in
theorem rnew_good (w : World) (real : Bool) (mo : Option Addr) (mn mc : Nat) (ao : Option Addr) (n cap : Nat) (ns : List Nat) (h : NL w ao n cap ns) (h0 : 0 < n) (h64 : n ≤ 64) (hr : riseF 0 ns = true) :
    Calls Tryd.prog 11 #[.bool real, .slice mo mn mc, .slice ao n cap] w fun e w' => ∃ a, e = .returned (.pointer (some a)) ∧ Below w.heap.size w w' := by
  have e0 : decide ((n : Int) < 1) = false := by simp; omega
  have e0' : (1 : Int) ≤ (n : Int) := by omega
  have e1 : (n : Int) ≤ 64 := by omega
  have e2 : decide ((64 : Int) < (n : Int)) = false := by simp; omega
  go_enter Tryd.func11, Tryd.ntmps11
  go_wp2_with (go_at_call 26; refine (rrise_any w ao n cap ns h (by omega)).mono ?_; rintro e w' ⟨rfl, q, rfl⟩; rw [hr])
  go_ret
  exact ⟨_, rfl, (bel_drewN (Below.refl _ w) q).alloc (Nat.le_refl _) _⟩

end Go.Proofs.YtkncfjokkojfpaaDoor

/-
  (*Hash).Add, walked.
-/
import Derived.Test.YtmedheecimglkaaDoorAdd
namespace Go.Proofs.YtmedheecimglkaaDoor
open Go.RowKit

theorem s5 : (Tryd.prog.info? 5).map (·.size) = some 1 := by kernel_rfl

def lenOf : Value → Nat | .slice _ n _ => n | _ => 0

/-- A nil hash takes nothing. -/
theorem add_nil (w : World) (v : Value) : Calls Tryd.prog 81 #[.pointer none, v] w fun e w' => (∃ v, e = .returned v) ∧ w' = w := by
  go_enter Tryd.func81, Tryd.ntmps81
  go_wp2
  refine bodyPost_ret (results_none rfl _ _ _) rfl ?_
  exact ⟨⟨_, rfl⟩, rfl⟩

set_option maxRecDepth 100000 in
set_option maxHeartbeats 2000000 in
theorem add_any (w : World) (p : Nat) (bs : List Int) (ao : Option Addr) (n cap : Nat) (xs : List Int) (hT : Tabs w) (h : HS w p bs) (hp2 : 3 ≤ p) (hS : Sl w ao n cap xs) (hne : ∀ a, ao = some a → 0 < n → a.block ≠ p) (hl : bs.length + xs.length < 18446744073709551616) :
    Calls Tryd.prog 81 #[.pointer (some ⟨p, 0, none⟩), .slice ao n cap] w fun e w' => (∃ v, e = .returned v) ∧ HS w' p (bs ++ xs) ∧ w.grownBy w' (some p) := by
  go_enter Tryd.func81, Tryd.ntmps81
  go_wp2
  go_loopw [1] (fun v wr => ∃ (ys zs : List Int) (ao : Option Addr) (n cap : Nat), Hid (bs ++ xs = ys ++ zs) ∧ HS wr p ys ∧ v = .slice ao n cap ∧ Sl wr ao n cap zs ∧ (∀ a, ao = some a → 0 < n → a.block ≠ p) ∧ w.grownBy wr (some p)) (fun v _ => lenOf v)
  case atStart => exact ⟨bs, xs, ao, n, cap, rfl, h, rfl, hS, hne, World.grownBy.refl _ _⟩
  case round =>
    clear h hS hne
    obtain ⟨ys, zs, ao, n, cap, HE, h, rfl, hS, hne, G⟩ := hrel
    have T := hT.grown G hp2
    have hlen : ys.length + zs.length < 18446744073709551616 := by
      have := congrArg List.length HE.out
      simp at this
      omega
    by_cases hn : n = 0
    · have hz : zs = [] := List.eq_nil_of_length_eq_zero (by rw [hS.len]; exact hn)
      subst hn
      go_wp2
      go_end0
      refine ⟨⟨_, rfl⟩, ?_, G⟩
      rw [HE.out, hz, List.append_nil]
      exact h
    · obtain ⟨a, rfl⟩ : ∃ a, ao = some a := by
        cases ao with
        | none => exact absurd (hS.nil rfl).1 hn
        | some a => exact ⟨a, rfl⟩
      obtain ⟨B, hB, eB⟩ := h
      obtain ⟨m, hm⟩ : ∃ m, m = ys.length := ⟨_, rfl⟩
      obtain ⟨k, hk⟩ : ∃ k, k = min n (64 - m % 64) := ⟨_, rfl⟩
      have hk' : k = n ∨ k = 64 - m % 64 := by rw [hk]; omega
      have hkn : k ≤ n := by rw [hk]; omega
      have hk64 : m % 64 + k ≤ 64 := by rw [hk]; omega
      have hk0 : 0 < k := by rw [hk]; omega
      have hle := hS.le
      have hzl := hS.len
      have hY : (zs.take k).length = k := by simp; omega
      have HB0 : Hid (HB wr p (AA ys (m / 64)) B m ∧ B.take (m % 64) = ys.drop (64 * (m / 64)) ∧ k = min n (64 - m % 64)) := ⟨by rw [hm]; exact hB, by rw [hm]; exact eB, hk⟩
      have hpos : (0 : Int) < (n : Int) := by omega
      have c1 := hB.count
      have f1 := hB.free 72
      rw [← hm] at c1 hlen
      have HM : Hid (m = ys.length) := hm
      have hsl := slice49l .u64 p 8 (m % 64) (by omega) ((m : Int).tmod 64) (by rw [Int.tmod_eq_emod_of_nonneg (by omega)]; omega)
      clear hB eB hm hk
      have hs2 := slice22l a n cap k hkn
      go_wp2
      go_region_law (refine step_copy_named rfl (.tmp 18) (.tmp 19) 23 23 rfl 5 Tryd.underlying23 s5 p (8 + m % 64) a (64 - m % 64) (64 - m % 64) n cap (by simp [Act.eval, Act.put]) (by simp [Act.eval, Act.put]) (hv (AA ys (m / 64)) B m) 138 HB0.out.1.heap (bv (zs.take k)) (by rw [bv_length, hY]; exact HB0.out.2.2) ((hS.take k hkn).cells a rfl) (by rw [bv_length, hY]; simp [hv, wv, bv, HB0.out.1.lenA, HB0.out.1.lenB]; omega) (bv_one _) k (by rw [bv_length]; exact hY) ?_; intro w1 a1 g1)
      have g2 : wr.grownBy w1 (some p) := ⟨g1.os, g1.tape, g1.output, g1.size, g1.block⟩
      obtain ⟨Bn, hBn⟩ : ∃ Bn, Bn = B.take (m % 64) ++ zs.take k ++ B.drop (m % 64 + (zs.take k).length) := ⟨_, rfl⟩
      have H1 : HB w1 p (AA ys (m / 64)) Bn m := by
        have hb0 := HB0.out.1
        refine ⟨?_, hb0.lenA, ?_, ?_, hb0.size⟩
        · rw [hBn, ← splice_hv _ _ _ _ _ hb0.lenA hb0.lenB (by rw [hY]; exact hk64)]
          exact a1.out
        · have := hb0.lenB
          rw [hBn]
          simp
          omega
        · rw [hBn]
          exact ((hb0.byte.take _).append (hS.byte.take _)).append (hb0.byte.drop _)
      have S1 : Sl w1 (some a) n cap zs := hS.grown g2 hne
      have G1 : w.grownBy w1 (some p) := gro_trans G g2
      have T1 := T.grown g2 hp2
      have HN : Hid (Bn = B.take (m % 64) ++ zs.take k ++ B.drop (m % 64 + (zs.take k).length)) := hBn
      clear a1 g1 g2 G T hS c1 f1 hBn hsl
      have c2 := H1.count
      have f2 := H1.free 72
      have hmk : (m : Int) + k ≤ 18446744073709551615 := by omega
      have hm0 : (0 : Int) ≤ (m : Int) + k := by omega
      have S2 := S1.cut k hkn
      have hne2 : ∀ b, some (if cap = k then a else a.add k) = some b → 0 < n - k → b.block ≠ p := by
        intro b hb _
        obtain rfl := Option.some.inj hb
        split
        · exact hne a rfl (by omega)
        · have := hne a rfl (by omega)
          intro e
          apply this
          rw [← e]
          unfold Addr.add
          split <;> rfl
      obtain ⟨a2, ha2⟩ : ∃ a2, a2 = if cap = k then a else a.add k := ⟨_, rfl⟩
      rw [← ha2] at S2 hne2 hs2
      clear ha2
      have W1 := (H1.setN (m + k) (by omega))
      have hk64' : m % 64 + k = 64 ∨ m % 64 + k < 64 := by omega
      rcases hk64' with hf | hf
      · have ht : (((m : Int) + k).tmod 64 == 0) = true := by
          rw [Int.tmod_eq_emod_of_nonneg hm0]
          simp
          omega
        go_wp2_with (go_at_call 98; refine (mix_any _ p _ _ _ (T1.grown (grown_set (World.grownBy.refl _ _) 72 _) hp2) W1).mono ?_; rintro e w2 ⟨⟨v, rfl⟩, H2, g2⟩)
        go_roundw
        case rel =>
          have hgs : w1.grownBy w2 (some p) := gro_trans (grown_set (World.grownBy.refl w1 _) 72 _) g2
          refine ⟨ys ++ zs.take k, zs.drop k, some a2, n - k, cap - k, ?_, ?_, rfl, S2.grown hgs hne2, hne2, gro_trans G1 hgs⟩
          · have := HE.out
            show bs ++ xs = _
            rw [this, List.append_assoc, List.take_append_drop]
          · have hm := HM.out
            have hN := HN.out
            have h0 := HB0.out
            subst hm
            rw [hN] at H2
            refine HS_full (B := B) ?_ h0.2.1 (by rw [hY]; exact hf) h0.1.lenB
            rw [hY]
            rw [hY] at H2
            exact H2
        case measure => simp [lenOf]; omega
      · have ht : (((m : Int) + k).tmod 64 == 0) = false := by
          rw [Int.tmod_eq_emod_of_nonneg hm0]
          simp
          omega
        go_wp2
        go_roundw
        case rel =>
          have hgs : w1.grownBy (w1.setCell ⟨p, 72, none⟩ (.int .u64 (m + k))) (some p) := grown_set (World.grownBy.refl w1 _) 72 _
          refine ⟨ys ++ zs.take k, zs.drop k, some a2, n - k, cap - k, ?_, ?_, rfl, S2.grown hgs hne2, hne2, gro_trans G1 hgs⟩
          · have := HE.out
            show bs ++ xs = _
            rw [this, List.append_assoc, List.take_append_drop]
          · have hm := HM.out
            have hN := HN.out
            have h0 := HB0.out
            subst hm
            rw [hN] at W1
            refine HS_less (B := B) ?_ h0.2.1 (by rw [hY]; exact hf)
            rw [hY]
            rw [hY] at W1
            exact W1
        case measure => simp [lenOf]; omega
end Go.Proofs.YtmedheecimglkaaDoor

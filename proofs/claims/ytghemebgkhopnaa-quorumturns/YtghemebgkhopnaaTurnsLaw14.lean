/-
  The law QuorumTurns.
-/
import Derived.Test.YtghemebgkhopnaaQuMarks
import Derived.Test.YtghemebgkhopnaaQuAlive
namespace Go.Proofs.Ytghemebgkhopnaa
open Go.RowKit

/-- Who has led, of the first k views. -/
def metL (n v : Nat) : Nat → List Bool
  | 0 => List.replicate n false
  | k + 1 => (metL n v k).set ((v + k) % n) true
theorem metL_len (n v : Nat) : ∀ k, (metL n v k).length = n
  | 0 => List.length_replicate ..
  | k + 1 => by unfold metL; rw [List.length_set]; exact metL_len n v k
theorem metL_true (n v : Nat) : ∀ k q, (metL n v k)[q]? = some true → ∃ j, j < k ∧ (v + j) % n = q
  | 0, q, h => by
    unfold metL at h
    have := List.mem_of_getElem? h
    rw [List.mem_replicate] at this
    cases this.2
  | k + 1, q, h => by
    unfold metL at h
    by_cases e : (v + k) % n = q
    · exact ⟨k, by omega, e⟩
    · rw [List.getElem?_set_ne e] at h
      obtain ⟨j, hj, e2⟩ := metL_true n v k q h
      exact ⟨j, by omega, e2⟩
theorem mod_apart (n v j k : Nat) (hj : j < k) (hk : k < n) : (v + j) % n ≠ (v + k) % n := by
  intro e
  have h1 : (v + k) - (v + j) = k - j := by omega
  have h2 : ((v + k) - (v + j)) % n = 0 := Nat.sub_mod_eq_zero_of_mod_eq e.symm
  rw [h1, Nat.mod_eq_of_lt (by omega)] at h2
  omega
theorem metL_at (n v k : Nat) (hk : k < n) : (metL n v k)[(v + k) % n]? = some false := by
  have hn : 0 < n := by omega
  have hl : (v + k) % n < (metL n v k).length := by rw [metL_len]; exact Nat.mod_lt _ hn
  rw [List.getElem?_eq_getElem hl]
  cases hb : (metL n v k)[(v + k) % n] with
  | false => rfl
  | true =>
    obtain ⟨j, hj, e⟩ := metL_true n v k _ (by rw [List.getElem?_eq_getElem hl, hb])
    exact absurd e (mod_apart n v j k hj hk)
theorem prim_in (f n u : Nat) (h1 : 1 ≤ f) (h4 : f ≤ 4) (hn : n = 3 * f + 1) (hu : u < 18446744073709551616) (w : World) : Calls Try.prog 15 #[.int .u64 (u : Nat), .int .i64 (f : Nat)] w fun e w' => e = .returned (.int .u64 (((u % n : Nat) : Int) + 1)) ∧ w' = w := by
  refine (prim_any u f hu w).mono ?_
  rintro e w' ⟨rfl, rfl⟩
  refine ⟨?_, rfl⟩
  rw [prF_t u (okF_t (by omega) (by omega)), show (3 * (f : Int) + 1).toNat = n from by omega]
  congr 2
  omega
set_option maxRecDepth 100000 in
set_option maxHeartbeats 4000000 in
theorem turns_in (w : World) (f n v : Nat) (h1 : 1 ≤ f) (h4 : f ≤ 4) (hn : n = 3 * f + 1) (hv : v ≤ 4611686018427387903) : Calls Try.prog 7 #[.int .i64 (f : Nat), .int .u64 (v : Nat)] w fun e w' => e = .returned (.bool true) ∧ Below w.heap.size w w' := by
  have hcase : n = 4 ∨ n = 7 ∨ n = 10 ∨ n = 13 := by omega
  have EN : Calls Try.prog 9 #[.int .i64 (f : Nat)] w fun e w' => e = .returned (.int .i64 (n : Nat)) ∧ w' = w := by
    have := n_any f w
    rw [nF_t 3 (okF_t (by omega) (by omega)), show 3 * (f : Int) + 1 = (n : Int) by omega] at this
    exact this
  have mk := mkO n hcase w
  obtain ⟨W1, hW1⟩ : ∃ V, V = w.alloc (.cells (bo (List.replicate n false)).toArray 4) := ⟨_, rfl⟩
  have C1 : Below w.heap.size w W1 := by rw [hW1]; exact (Below.refl _ _).alloc (Nat.le_refl _) _
  have A1 : Arr W1 w.heap.size 4 (bo (metL n v 0)) := by rw [hW1]; exact heap_alloc_new w _
  rw [← hW1] at mk
  obtain ⟨g, hg⟩ : ∃ g, g = w.heap.size := ⟨_, rfl⟩
  rw [← hg] at A1 mk
  have Hg : Hid (g = w.heap.size) := hg
  have EP := fun (u : Nat) (hu : u < 18446744073709551616) (V : World) => prim_in f n u h1 h4 hn hu V
  have i0 : ¬ (f : Int) < 1 := by omega
  have i1 : (f : Int) ≤ 4 := by omega
  have i2 : (v : Int) ≤ 4611686018427387903 := by omega
  have i3 : (n : Int) ≤ 13 := by omega
  have n1 : 1 ≤ n := by omega
  have iw : IntKind.u64.wrap (n : Int) = (n : Int) := by rw [IntKind.wrap_u64]; omega
  clear hW1 hg hn hcase h1 h4
  go_enter Try.func7, Try.ntmps7
  go_wp2_with (go_at_call 9; refine EN.mono ?_; rintro e w' ⟨rfl, hw⟩; obtain rfl := hw.symm; clear hw)
  go_loopw [7] (fun i wr => ∃ k : Nat, k ≤ n ∧ i = .int .i64 k ∧ Arr wr g 4 (bo (metL n v k)) ∧ Below w.heap.size w wr) (fun i _ => n - (intOf i).toNat)
  case atStart => exact ⟨0, Nat.zero_le _, rfl, A1, C1⟩
  case round =>
    obtain ⟨k, hk, rfl, A, B⟩ := hrel
    by_cases hlt : k < n
    · have hki : (k : Int) < (n : Int) := by omega
      have EPk := EP (v + k) (by omega) wr
      rw [show ((v + k : Nat) : Int) = (v : Int) + (k : Int) from by omega] at EPk
      have hm := metL_at n v k hlt
      have hq := Nat.mod_lt (v + k) n1
      have HS : Hid (metL n v (k + 1) = (metL n v k).set ((v + k) % n) true) := rfl
      have hl := metL_len n v k
      generalize (v + k) % n = q at EPk hm hq HS
      have a0 : wr.cell? ⟨g, q, none⟩ = some (.bool false) := by
        rw [A.cell]
        have e : (bo (metL n v k))[q]? = ((metL n v k)[q]?).map .bool := by simp [bo]
        rw [e, hm]
        rfl
      have A2 : Arr (wr.setCell ⟨g, q, none⟩ (.bool true)) g 4 (bo (metL n v (k + 1))) := by
        have := A.set q (.bool true)
        rw [bo_set] at this
        rw [HS.out]
        exact this
      have fz := A.free q
      have B2 : Below w.heap.size w (wr.setCell ⟨g, q, none⟩ (.bool true)) := B.grown (grown_set (bel_grown (Below.refl _ wr) (some g)) q (.bool true)) B.size (fun i hi => by cases hi; exact Nat.le_of_eq Hg.out.symm)
      have j1 : (q : Int) + 1 ≤ (n : Int) := by omega
      have j2 : (q : Int) < (n : Int) := by omega
      have j3 : ¬ (n : Int) ≤ (q : Int) := by omega
      have iq : IntKind.u64.wrap (q : Int) = (q : Int) := by rw [IntKind.wrap_u64]; omega
      have ik : IntKind.u64.wrap (k : Int) = (k : Int) := by rw [IntKind.wrap_u64]; omega
      clear hm HS hl EP A
      go_wp2_with (go_at_call 15; refine EPk.mono ?_; rintro e w' ⟨rfl, hw⟩; obtain rfl := hw.symm; clear hw)
      go_roundw
      case rel => exact ⟨k + 1, by omega, by go_num, A2, B2⟩
      case measure => simp [intOf]; omega
    · have hge : ¬ (k : Int) < (n : Int) := by omega
      have E1 := EP (v + n) (by omega) wr
      have E2 := EP v (by omega) wr
      rw [Nat.add_mod_right, show ((v + n : Nat) : Int) = (v : Int) + (n : Int) from by omega] at E1
      have AL := alive14 wr
      generalize v % n = q at E1 E2
      have ie : (((q : Int) + 1) == ((q : Int) + 1)) = true := by simp
      clear EP
      go_wp2_with (first
        | (go_at_call_of 15 (Value.int .u64 ((v : Int) + (n : Int))); refine E1.mono ?_; rintro e w' ⟨rfl, hw⟩; obtain rfl := hw.symm; clear hw)
        | (go_at_call_of 15 (Value.int .u64 (v : Int)); refine E2.mono ?_; rintro e w' ⟨rfl, hw⟩; obtain rfl := hw.symm; clear hw)
        | (go_at_call 17; refine AL.mono ?_; rintro e w4 ⟨rfl, C4⟩))
      go_ret
      exact ⟨rfl, B.trans (C4.mono B.size)⟩
set_option maxRecDepth 100000 in
set_option maxHeartbeats 4000000 in
theorem quorumTurns_any (w : World) (f v0 : Int) (_ : (Lit.int .i64 f).wf = true) (h2 : (Lit.int .u64 v0).wf = true) : Calls Try.prog 7 #[.int .i64 f, .int .u64 v0] w fun e w' => e = .returned (.bool true) ∧ Below w.heap.size w w' := by
  have hv0 : 0 ≤ v0 ∧ v0 < 18446744073709551616 := by
    simp [Lit.wf, IntKind.min, IntKind.max, IntKind.signed, IntKind.bits] at h2
    omega
  obtain ⟨v, rfl⟩ : ∃ v : Nat, v0 = v := ⟨v0.toNat, by omega⟩
  clear h2
  have AL := alive14 w
  by_cases h1 : f < 1
  · go_enter Try.func7, Try.ntmps7
    go_wp2_with (go_at_call 17; refine AL.mono ?_; rintro e w4 ⟨rfl, C4⟩)
    go_ret
    exact ⟨rfl, C4⟩
  · by_cases h4 : 4 < f
    · go_enter Try.func7, Try.ntmps7
      go_wp2_with (go_at_call 17; refine AL.mono ?_; rintro e w4 ⟨rfl, C4⟩)
      go_ret
      exact ⟨rfl, C4⟩
    · have h5 : f ≤ 4 := by omega
      by_cases hv : 4611686018427387903 < v
      · have i1 : (4611686018427387903 : Int) < (v : Int) := by omega
        clear hv h4 hv0
        go_enter Try.func7, Try.ntmps7
        go_wp2_with (go_at_call 17; refine AL.mono ?_; rintro e w4 ⟨rfl, C4⟩)
        go_ret
        exact ⟨rfl, C4⟩
      · obtain ⟨m, rfl⟩ : ∃ m : Nat, f = m := ⟨f.toNat, by omega⟩
        exact turns_in w m _ v (by omega) (by omega) rfl (by omega)
end Go.Proofs.Ytghemebgkhopnaa

/-
  The reference's digits.
-/
import Derived.Test.YtmedheecimglkaaDoorHex
import Derived.Test.YtmedheecimglkaaDoorSame
import Derived.BigQuiet
import Derived.Deep.RegionHeld3
namespace Go.Proofs.YtmedheecimglkaaDoor
open Go.RowKit

theorem str_append (xs ys : List Int) : strOfNums xs ++ strOfNums ys = strOfNums (xs ++ ys) := by
  apply ByteArray.ext
  simp [strOfNums]

theorem below_chain {n : Nat} {w a b c : World} (h : Below n w a) (k : Below b.heap.size b c) (e1 : b.heap = a.heap) (e2 : b.os = a.os) (e3 : b.tape = a.tape) (e4 : b.output = a.output) (hn : n ≤ a.heap.size) : Below n w c :=
  ⟨(k.os.trans e2).trans h.os, (k.tape.trans e3).trans h.tape, (k.output.trans e4).trans h.output, Nat.le_trans h.size (by have := k.size; rw [e1] at this; exact this), fun i hi => (k.block i (by rw [e1]; omega)).trans (by rw [e1]; exact h.block i hi)⟩

/-- A slice that reads as some bytes, as a string. -/
theorem conv_sl {w : World} {b o n cap : Nat} {xs : List Int} (h : Sl w (some ⟨b, o, none⟩) n cap xs) : (convert 23 9 (.slice (some ⟨b, o, none⟩) n cap)).run Tryd.prog w = .ok (.string (strOfNums xs)) w := by
  refine run_convert_bytes_arg w 23 5 Tryd.underlying23 Tryd.underlying5 b o n cap xs h.len (fun i hi => ?_) 9 Tryd.underlying9
  have := h.cell _ rfl i hi
  rwa [add_at] at this

set_option maxRecDepth 100000 in
set_option maxHeartbeats 1000000 in
theorem rdigit_any (c : Int) (hc : 0 ≤ c ∧ c < 16) (w : World) :
    Calls Tryd.prog 87 #[.int .u8 c] w fun e w' => e = .returned (.string (strOfNums [dg c])) ∧ Below w.heap.size w w' := by
  have c0 := hc.1
  have c1 := hc.2
  by_cases h10 : c < 10
  · have e : dg c = 48 + c := by simp [dg, h10]
    have hcv := conv_sl (Sl.one w (48 + c) (by omega))
    rw [e]
    clear e
    go_enter Tryd.func87, Tryd.ntmps87
    go_wp2
    go_ret
    exact ⟨rfl, (Below.refl _ w).alloc (Nat.le_refl _) _⟩
  · have e : dg c = 97 + c - 10 := by simp only [dg, h10, if_false]; omega
    have hcv := conv_sl (Sl.one w (97 + c - 10) (by omega))
    have h10' : (10 : Int) ≤ c := by omega
    rw [e]
    clear e h10
    go_enter Tryd.func87, Tryd.ntmps87
    go_wp2
    go_ret
    exact ⟨rfl, (Below.refl _ w).alloc (Nat.le_refl _) _⟩

set_option maxRecDepth 100000 in
set_option maxHeartbeats 2000000 in
theorem rhex_any (w : World) (ao : Option Addr) (m cap : Nat) (xs : List Int) (hL : Sl w ao m cap xs) (hm : m ≤ 70368744177664) :
    Calls Tryd.prog 54 #[.slice ao m cap] w fun e w' => e = .returned (.string (strOfNums (hexL xs))) ∧ Below w.heap.size w w' := by
  have hln := hL.len
  have hmi : (m : Int) ≤ 70368744177664 := by omega
  go_enter Tryd.func54, Tryd.ntmps54
  go_wp2
  go_loopw [3, 4] (fun s i wr => ∃ k : Nat, k ≤ m ∧ i = .int .i64 k ∧ s = .string (strOfNums (hexL (xs.take k))) ∧ Below w.heap.size w wr) (fun _ i _ => m - (intOf i).toNat)
  case atStart => exact ⟨0, by omega, rfl, rfl, Below.refl _ _⟩
  case round =>
    obtain ⟨k, hk, rfl, rfl, hB⟩ := hrel
    by_cases hlt : k < m
    · have hki : (k : Int) < (m : Int) := by omega
      obtain ⟨b, off, rfl, hcl⟩ := hL.at (by omega)
      have c0 := hcl k hlt
      have hbl : b < w.heap.size := World.block_lt_of_cell? w _ c0
      have hb := hL.byte.at k
      have HS : Hid (hexL (xs.take (k + 1)) = hexL (xs.take k) ++ [dg (xs.getD k 0 / 16)] ++ [dg (xs.getD k 0 % 16)]) := hexL_succ xs k (by omega)
      have hbe : xs[k]?.getD 0 = xs.getD k 0 := rfl
      rw [hbe] at hb
      obtain ⟨x, hx⟩ : ∃ x, x = xs.getD k 0 := ⟨_, rfl⟩
      rw [← hx] at c0 hb HS
      clear hbe hx hcl
      have b0 := hb.1
      have b1 := hb.2
      have cw : wr.cell? ⟨b, off + k, none⟩ = some (.int .u8 x) := (hB.cell (p := ⟨b, off + k, none⟩) hbl).trans c0
      have q1 : IntKind.u8.wrap (x.tdiv 16) = x / 16 := by
        rw [IntKind.wrap_u8', Int.tdiv_eq_ediv_of_nonneg b0]
        omega
      have q2 : x.tmod 16 = x % 16 := Int.tmod_eq_emod_of_nonneg b0
      have q3 : IntKind.u8.wrap (x % 16) = x % 16 := by
        rw [IntKind.wrap_u8']
        omega
      obtain ⟨S0, hS0⟩ : ∃ S, S = strOfNums (hexL (xs.take k)) := ⟨_, rfl⟩
      have z0 : S0.size ≤ 140737488355328 := by rw [hS0, strOfNums_size, hexL_take_len _ _ (by omega)]; omega
      have a1 : ∀ w, (Op.stringOp .add S0 (strOfNums [dg (x / 16)])).run Tryd.prog w = .ok (.string (S0 ++ strOfNums [dg (x / 16)])) w := fun w => run_string_add_sum w _ _ (by rw [strOfNums_size, List.length_singleton]; omega)
      have a2 : ∀ w, (Op.stringOp .add (S0 ++ strOfNums [dg (x / 16)]) (strOfNums [dg (x % 16)])).run Tryd.prog w = .ok (.string (S0 ++ strOfNums [dg (x / 16)] ++ strOfNums [dg (x % 16)])) w := fun w => run_string_add_sum w _ _ (by rw [ByteArray.size_append, strOfNums_size, strOfNums_size, List.length_singleton, List.length_singleton]; omega)
      rw [← hS0]
      have HS0 : Hid (S0 = _) := hS0
      clear hS0
      go_wp2_with fail
      go_region_held3 (fun w' => w'.cell? ⟨b, off + k, none⟩ = some (.int .u8 x))
        (first | go_keep | assumption)
        (first | (go_at_call 87; (try rw [q1]); (try rw [q2]); refine (rdigit_any _ (by omega) _).mono ?_; rintro e w2 ⟨rfl, C2⟩; first | (have hB2 := below_chain hB C2 rfl rfl rfl rfl hB.size; clear hB C2; have c2 := (hB2.cell (p := ⟨b, off + k, none⟩) hbl).trans c0) | (have hB3 := below_chain hB2 C2 rfl rfl rfl rfl hB2.size; clear hB2 C2; have c3 := (hB3.cell (p := ⟨b, off + k, none⟩) hbl).trans c0)))
      go_wp2
      go_roundw
      case rel =>
        refine ⟨k + 1, by omega, by go_num, ?_, hB3⟩
        rw [HS.out, HS0.out, str_append, str_append]
      case measure => simp [intOf]; omega
    · have hge : (m : Int) ≤ (k : Int) := by omega
      have e : xs.take k = xs := List.take_of_length_le (by omega)
      rw [e]
      clear e
      go_wp2
      go_ret
      exact ⟨rfl, hB⟩

end Go.Proofs.YtmedheecimglkaaDoor

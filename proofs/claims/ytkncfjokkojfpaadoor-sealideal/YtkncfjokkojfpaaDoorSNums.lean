/-
  Lists of numbers that came in; rise.
-/
import Derived.Test.YtkncfjokkojfpaaDoorSForge
namespace Go.Proofs.YtkncfjokkojfpaaDoor
open Go.RowKit

/-- The slice at ao, of n numbers, reads as ns. -/
structure NL (w : World) (ao : Option Addr) (n cap : Nat) (ns : List Nat) : Prop where
  len : ns.length = n
  le : n ≤ cap
  mx : cap ≤ maxLen
  nil : ao = none → n = 0
  cell : ∀ a, ao = some a → ∀ i, i < n → w.cell? (a.add i) = some (.int .u64 (ns.getD i 0))
  rng : ∀ x ∈ ns, x < 18446744073709551616

theorem NL.nothing (w : World) : NL w none 0 0 [] := ⟨rfl, Nat.le_refl _, Nat.zero_le _, fun _ => rfl, fun _ h => by simp at h, fun _ h => by simp at h⟩
theorem NL.row {w : World} {a : Addr} {n cap : Nat} {zs : List Int} (hl : n ≤ cap) (hm : cap ≤ maxLen) (hz : zs.length = cap) (hc : ∀ i, i < zs.length → w.cell? (a.add i) = some (.int .u64 (zs.getD i 0))) (hw : ∀ z ∈ zs, (Lit.int .u64 z).wf = true) :
    NL w (some a) n cap ((zs.take n).map Int.toNat) := by
  have hb : ∀ z ∈ zs, 0 ≤ z ∧ z < 18446744073709551616 := fun z h => by
    have := hw z h
    simp [Lit.wf, IntKind.min, IntKind.max, IntKind.signed, IntKind.bits] at this
    omega
  refine ⟨by simp; omega, hl, hm, fun h => by simp at h, fun b hb' i hi => ?_, fun x hx => ?_⟩
  · obtain rfl := Option.some.inj hb'
    rw [hc i (by omega)]
    have h1 : i < zs.length := by omega
    have := hb zs[i] (List.getElem_mem h1)
    simp [List.getD, hi, h1]
    omega
  · obtain ⟨z, h1, rfl⟩ := List.mem_map.1 hx
    have := hb z (List.mem_of_mem_take h1)
    omega
theorem NL.below {w w' : World} {ao : Option Addr} {n cap : Nat} {ns : List Nat} (h : NL w ao n cap ns) (hb : Below w.heap.size w w') : NL w' ao n cap ns :=
  ⟨h.len, h.le, h.mx, h.nil, fun a ha i hi => by have hc := h.cell a ha i hi; rw [← hc]; exact hb.cell (World.block_lt_of_cell? w _ hc), h.rng⟩
theorem NL.at {w : World} {ao : Option Addr} {n cap : Nat} {ns : List Nat} (h : NL w ao n cap ns) (hn : 0 < n) : ∃ b off, ao = some ⟨b, off, none⟩ ∧ ∀ i, i < n → w.cell? ⟨b, off + i, none⟩ = some (.int .u64 (ns.getD i 0)) := by
  cases ao with
  | none => have := h.nil rfl; omega
  | some a =>
    obtain ⟨b, off, spot⟩ := a
    have hc := h.cell _ rfl 0 hn
    have hs : spot = none := by simpa [Addr.add] using World.cell?_spot hc
    subst hs
    exact ⟨b, off, rfl, fun i hi => by have := h.cell _ rfl i hi; rw [Addr.add_lit] at this; exact this⟩
/-- Numbers laid in a new block. -/
theorem NL.new (w : World) (ns : List Nat) (t : TypeId) (h : ∀ x ∈ ns, x < 18446744073709551616) (hl : ns.length ≤ maxLen) : NL (w.alloc (.cells (ns.map fun x => Value.int .u64 (x : Nat)).toArray t)) (some ⟨w.heap.size, 0, none⟩) ns.length ns.length ns := by
  refine ⟨rfl, Nat.le_refl _, hl, fun h => by simp at h, fun a ha i hi => ?_, h⟩
  obtain rfl := Option.some.inj ha
  rw [Addr.add_lit, Nat.zero_add, cell_of_row _ _ i _ _ _ (heap_alloc_new w _)]
  simp [List.getD, hi]

/-- Do numbers rise, above the last? -/
def riseF : Nat → List Nat → Bool
  | _, [] => true
  | l, x :: xs => decide (l < x) && riseF x xs

set_option maxHeartbeats 1000000 in
theorem rise_any (w : World) (ao : Option Addr) (n cap : Nat) (ns : List Nat) (h : NL w ao n cap ns) (hn : n ≤ 1000000) :
    Calls Tryd.prog 25 #[.slice ao n cap] w fun e w' => e = .returned (.bool (riseF 0 ns)) ∧ w' = w := by
  have hl := h.len
  have hni : (n : Int) ≤ 1000000 := by omega
  go_enter Tryd.func25, Tryd.ntmps25
  go_wp2
  go_loopw [3, 8] (fun v i wr => ∃ (k l : Nat), k ≤ n ∧ v = .int .u64 l ∧ i = .int .i64 k ∧ w = wr ∧ riseF 0 ns = riseF l (ns.drop k) ∧ l < 18446744073709551616) (fun _ i _ => n - (intOf i).toNat)
  case atStart => exact ⟨0, 0, Nat.zero_le _, rfl, rfl, rfl, rfl, by omega⟩
  case round =>
    obtain ⟨k, l, hk, rfl, rfl, rfl, hr, hl64⟩ := hrel
    have HR : Hid (riseF 0 ns = riseF l (ns.drop k)) := hr
    clear hr
    by_cases hlt : k < n
    · have hki : (k : Int) < (n : Int) := by omega
      have hkl : k < ns.length := by omega
      obtain ⟨b, off, rfl, hc⟩ := h.at (by omega)
      have c1 := hc k hlt
      have hx64 := h.rng ns[k] (List.getElem_mem hkl)
      have HD : Hid (ns.drop k = ns[k] :: ns.drop (k + 1)) := List.drop_eq_getElem_cons hkl
      have e0 : ns.getD k 0 = ns[k] := by simp [List.getD, hkl]
      rw [e0] at c1
      obtain ⟨x, hx⟩ : ∃ x, x = ns[k] := ⟨_, rfl⟩
      rw [← hx] at c1 HD hx64
      clear hx e0 hc
      by_cases hle : x ≤ l
      · have hlei : (x : Int) ≤ (l : Int) := by omega
        go_wp2
        go_ret
        refine ⟨?_, rfl⟩
        have : riseF 0 ns = false := by
          rw [HR.out, HD.out]
          simp [riseF]
          omega
        rw [this]
        rfl
      · have hlei : (l : Int) < (x : Int) := by omega
        go_wp2
        go_roundw
        case rel =>
          refine ⟨k + 1, x, by omega, rfl, by go_num, trivial, ?_, hx64⟩
          rw [HR.out, HD.out]
          simp [riseF]
          omega
        case measure => simp [intOf]; omega
    · have hge : (n : Int) ≤ (k : Int) := by omega
      go_wp2
      go_ret
      refine ⟨?_, rfl⟩
      have : riseF 0 ns = true := by
        rw [HR.out, List.drop_of_length_le (by omega)]
        rfl
      rw [this]
      rfl

end Go.Proofs.YtkncfjokkojfpaaDoor

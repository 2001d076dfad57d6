/-
  Sets of replicas, as rows of bools.
-/
import Derived.Test.YtghemebgkhopnaaGRow
import Derived.Test.YtghemebgkhopnaaDCells
import Derived.Test.YtghemebgkhopnaaNumL
namespace Go.Proofs.Ytghemebgkhopnaa
open Go.RowKit

/-- Bools. -/
def elO : El Bool := ⟨fun b => [.bool b], 1, fun _ _ => True, fun _ _ => False⟩
theorem elO_fine : elO.Fine := by
  refine ⟨fun _ => rfl, Nat.one_pos, fun x u hu => ?_, fun _ _ _ _ _ => trivial, fun _ _ _ _ h => absurd h id⟩
  have : u = .bool x := by simpa [elO] using hu
  rw [this]
  rfl
theorem GL.atO {w : World} {ao : Option Addr} {n cap : Nat} {l : List Bool} (h : GL elO w ao n cap l) (hn : 0 < n) : ∃ b off, ao = some ⟨b, off, none⟩ ∧ ∀ i (hi : i < l.length), w.cell? ⟨b, off + i, none⟩ = some (.bool l[i]) := by
  obtain ⟨b, off, e, k⟩ := h.pl elO_fine hn
  refine ⟨b, off, e, fun i hi => ?_⟩
  have := k i hi 0 _ rfl
  rw [show off + i * elO.sz + 0 = off + i by show off + i * 1 + 0 = off + i; omega] at this
  exact this
/-- The cells of some bools. -/
def bo (l : List Bool) : List Value := l.map .bool
theorem bo_len (l : List Bool) : (bo l).length = l.length := List.length_map ..
theorem bo_get (l : List Bool) (i : Nat) (h : i < l.length) : (bo l)[i]? = some (.bool l[i]) := by simp [bo, h]
theorem bo_set (l : List Bool) (i : Nat) (b : Bool) : (bo l).set i (.bool b) = bo (l.set i b) := by simp [bo, List.map_set]
theorem bo_gl {w : World} {g : Nat} {t : TypeId} {l : List Bool} (h : Arr w g t (bo l)) (hm : l.length ≤ maxLen) : GL elO w (some ⟨g, 0, none⟩) l.length l.length l := by
  refine ⟨rfl, Nat.le_refl _, hm, fun h => by simp at h, fun a ha i hi j v hv => ?_, fun _ _ => trivial⟩
  obtain rfl := Option.some.inj ha
  have hj : j = 0 := by
    have := (List.getElem?_eq_some_iff.1 hv).1
    have e : (elO.c l[i]).length = 1 := rfl
    omega
  subst hj
  rw [Addr.add_lit, show (0 : Nat) + (i * elO.sz + 0) = i by show 0 + (i * 1 + 0) = i; omega, h.cell, bo_get l i hi]
  exact hv
theorem mkO (n : Nat) (hn : n = 4 ∨ n = 7 ∨ n = 10 ∨ n = 13) (w : World) : (Instr.makeSlice 54 (.int .i64 n) (.int .i64 n)).run Try.prog w = .ok (.slice (some ⟨w.heap.size, 0, none⟩) n n) (w.alloc (.cells (bo (List.replicate n false)).toArray 4)) := by
  rcases hn with rfl | rfl | rfl | rfl <;> kernel_rfl
/-- One more replica is of the set. -/
def mark1 (n : Nat) (l : List Bool) (x : Nat) : List Bool := if 1 ≤ x ∧ x ≤ n then l.set (x - 1) true else l
def marksL (n : Nat) (ns : List Nat) : List Bool := ns.foldl (mark1 n) (List.replicate n false)
theorem mark1_len (n : Nat) (l : List Bool) (x : Nat) : (mark1 n l x).length = l.length := by unfold mark1; split <;> simp
theorem marksL_len (n : Nat) (ns : List Nat) : (marksL n ns).length = n := by
  have : ∀ (ns : List Nat) (l : List Bool), (ns.foldl (mark1 n) l).length = l.length := fun ns => by
    induction ns with
    | nil => intro l; rfl
    | cons x xs ih => intro l; rw [List.foldl_cons, ih, mark1_len]
  unfold marksL
  rw [this, List.length_replicate]
theorem marksL_snoc (n : Nat) (ns : List Nat) (x : Nat) : marksL n (ns ++ [x]) = mark1 n (marksL n ns) x := by
  unfold marksL
  rw [List.foldl_append]
  rfl
/-- How many are of the set. -/
def cntO (l : List Bool) : Nat := (l.filter id).length
theorem cntO_le (l : List Bool) : cntO l ≤ l.length := List.length_filter_le _ _
theorem cntO_snoc (l : List Bool) (b : Bool) : cntO (l ++ [b]) = cntO l + (if b = true then 1 else 0) := by
  unfold cntO
  rw [List.filter_append, List.length_append]
  cases b <;> rfl

set_option maxRecDepth 100000 in
set_option maxHeartbeats 4000000 in
theorem marks_any (w : World) (n : Nat) (hn : n = 4 ∨ n = 7 ∨ n = 10 ∨ n = 13) (ao : Option Addr) (m cap : Nat) (ns : List Nat) (h : NL w ao m cap ns) : Calls Try.prog 29 #[.int .i64 (n : Nat), .slice ao m cap] w fun x w' =>
    ∃ g, x = .returned (.slice (some ⟨g, 0, none⟩) n n) ∧ GL elO w' (some ⟨g, 0, none⟩) n n (marksL n ns) ∧ Below w.heap.size w w' := by
  have hl := h.len
  have hle := h.le
  have hmx := h.mx
  unfold maxLen at hmx
  have mk := mkO n hn
  have n13 : n ≤ 13 := by omega
  have n1 : 1 ≤ n := by omega
  obtain ⟨W1, hW1⟩ : ∃ V, V = w.alloc (.cells (bo (List.replicate n false)).toArray 4) := ⟨_, rfl⟩
  have C1 : Below w.heap.size w W1 := by rw [hW1]; exact (Below.refl _ _).alloc (Nat.le_refl _) _
  have A1 : Arr W1 w.heap.size 4 (bo (marksL n [])) := by rw [hW1]; exact heap_alloc_new w _
  have mkw := mk w
  rw [← hW1] at mkw
  obtain ⟨g, hg⟩ : ∃ g, g = w.heap.size := ⟨_, rfl⟩
  rw [← hg] at A1 mkw
  have Hg : Hid (g = w.heap.size) := hg
  clear hW1 mk hn hg
  go_enter Try.func29, Try.ntmps29
  go_wp2
  go_loopw [6] (fun i wr => ∃ k : Nat, k ≤ m ∧ i = .int .i64 k ∧ Arr wr g 4 (bo (marksL n (ns.take k))) ∧ Below w.heap.size w wr) (fun i _ => m - (intOf i).toNat)
  case atStart => exact ⟨0, Nat.zero_le _, rfl, A1, C1⟩
  case round =>
    obtain ⟨k, hk, rfl, A, B⟩ := hrel
    by_cases hlt : k < m
    · have hki : (k : Int) < (m : Int) := by omega
      have hkl : k < ns.length := by omega
      have HS : Hid (marksL n (ns.take (k + 1)) = mark1 n (marksL n (ns.take k)) ns[k]) := by show _ = _; rw [List.take_succ_eq_append_getElem hkl, marksL_snoc]
      have hrng := h.rng _ (List.getElem_mem hkl)
      obtain ⟨b, off, rfl, hc⟩ := (h.below B).at (by omega)
      have c0 := hc k hlt
      have hgd : ns.getD k 0 = ns[k] := by simp [List.getD, hkl]
      rw [hgd] at c0
      have hxl := marksL_len n (ns.take k)
      obtain ⟨x, hx⟩ : ∃ x, x = ns[k] := ⟨_, rfl⟩
      rw [← hx] at c0 HS hrng
      clear hgd hx hc
      have iw : IntKind.u64.wrap (n : Int) = (n : Int) := by rw [IntKind.wrap_u64]; omega
      generalize marksL n (ns.take k) = L at A HS hxl
      by_cases hx1 : 1 ≤ x
      · have i1 : (1 : Int) ≤ (x : Int) := by omega
        by_cases hxn : x ≤ n
        · have i2 : (x : Int) ≤ (n : Int) := by omega
          obtain ⟨y, rfl⟩ : ∃ y, x = y + 1 := ⟨x - 1, by omega⟩
          have e : ((y + 1 : Nat) : Int) = (y : Int) + 1 := rfl
          rw [e] at c0 i1 i2
          have iy : IntKind.u64.wrap (y : Int) = (y : Int) := by rw [IntKind.wrap_u64]; omega
          have i3 : (y : Int) < (n : Int) := by omega
          have i4 : ¬ (n : Int) ≤ (y : Int) := by omega
          have A2 : Arr (wr.setCell ⟨g, y, none⟩ (.bool true)) g 4 (bo (marksL n (ns.take (k + 1)))) := by
            have := A.set y (.bool true)
            rw [bo_set] at this
            rw [HS.out]
            unfold mark1
            rw [if_pos ⟨hx1, hxn⟩, Nat.add_sub_cancel]
            exact this
          obtain ⟨ob, a0⟩ : ∃ b, wr.cell? ⟨g, y, none⟩ = some (.bool b) := ⟨L[y]'(by omega), by rw [A.cell, bo_get L y (by omega)]⟩
          have fz := A.free y
          have B2 : Below w.heap.size w (wr.setCell ⟨g, y, none⟩ (.bool true)) := B.grown (grown_set (bel_grown (Below.refl _ wr) (some g)) y (.bool true)) B.size (fun i hi => by cases hi; exact Nat.le_of_eq Hg.out.symm)
          clear HS A hx1 hxn e
          go_wp2
          go_roundw
          case rel => exact ⟨k + 1, by omega, by go_num, A2, B2⟩
          case measure => simp [intOf]; omega
        · have i2 : (n : Int) < (x : Int) := by omega
          have A2 : Arr wr g 4 (bo (marksL n (ns.take (k + 1)))) := by rw [HS.out]; unfold mark1; rw [if_neg (by omega)]; exact A
          clear HS A hx1 hxn
          go_wp2
          go_roundw
          case rel => exact ⟨k + 1, by omega, by go_num, A2, B⟩
          case measure => simp [intOf]; omega
      · have i1 : ¬ (1 : Int) ≤ (x : Int) := by omega
        have A2 : Arr wr g 4 (bo (marksL n (ns.take (k + 1)))) := by rw [HS.out]; unfold mark1; rw [if_neg (by omega)]; exact A
        clear HS A hx1
        go_wp2
        go_roundw
        case rel => exact ⟨k + 1, by omega, by go_num, A2, B⟩
        case measure => simp [intOf]; omega
    · have hge : ¬ (k : Int) < (m : Int) := by omega
      have HT : Hid (ns.take k = ns) := List.take_of_length_le (by omega)
      rw [HT.out] at A
      have hln := marksL_len n ns
      have G := bo_gl A (by rw [hln]; unfold maxLen; omega)
      rw [hln] at G
      go_wp2
      go_ret
      exact ⟨g, rfl, G, B⟩
set_option maxRecDepth 100000 in
set_option maxHeartbeats 4000000 in
theorem countO_any (w : World) (ao : Option Addr) (n cap : Nat) (l : List Bool) (h : GL elO w ao n cap l) (hn : n ≤ 1000) : Calls Try.prog 30 #[.slice ao n cap] w fun x w' => x = .returned (.int .i64 (cntO l : Nat)) ∧ w' = w := by
  have hl := h.len
  go_enter Try.func30, Try.ntmps30
  go_wp2
  go_loop [3, 4] (fun c i => ∃ k : Nat, k ≤ n ∧ i = .int .i64 k ∧ c = .int .i64 (cntO (l.take k) : Nat)) (fun _ i => n - (intOf i).toNat)
  case atStart => exact ⟨0, Nat.zero_le _, rfl, rfl⟩
  case round =>
    obtain ⟨k, hk, rfl, rfl⟩ := hrel
    by_cases hlt : k < n
    · have hki : (k : Int) < (n : Int) := by omega
      have hkl : k < l.length := by omega
      have HS : Hid (cntO (l.take (k + 1)) = cntO (l.take k) + (if l[k] = true then 1 else 0)) := by show _ = _; rw [List.take_succ_eq_append_getElem hkl, cntO_snoc]
      obtain ⟨b, off, rfl, hc⟩ := h.atO (by omega)
      have c0 := hc k hkl
      have hcb : cntO (l.take k) ≤ 1000 := Nat.le_trans (cntO_le _) (by rw [List.length_take]; omega)
      generalize cntO (l.take k) = c at HS hcb
      have hci : (c : Int) ≤ 1000 := by omega
      clear hc
      cases hb : l[k] with
      | true =>
        rw [hb] at c0 HS
        have HS2 : Hid (cntO (l.take (k + 1)) = c + 1) := HS.out
        clear HS hb
        go_wp2
        go_round
        case rel => exact ⟨k + 1, by omega, by go_num, by rw [HS2.out]; go_num⟩
        case measure => simp [intOf]; omega
      | false =>
        rw [hb] at c0 HS
        have HS2 : Hid (cntO (l.take (k + 1)) = c) := HS.out
        clear HS hb
        go_wp2
        go_round
        case rel => exact ⟨k + 1, by omega, by go_num, by rw [HS2.out]⟩
        case measure => simp [intOf]; omega
    · have hge : ¬ (k : Int) < (n : Int) := by omega
      have HT : Hid (l.take k = l) := List.take_of_length_le (by omega)
      rw [HT.out]
      go_wp2
      go_ret
      exact ⟨rfl, rfl⟩
end Go.Proofs.Ytghemebgkhopnaa

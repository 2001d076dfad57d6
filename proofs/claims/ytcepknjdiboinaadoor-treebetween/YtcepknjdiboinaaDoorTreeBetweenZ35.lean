/-
  Texts in one: PRootN, TAlive, TStr.
-/
import Derived.Test.YtcepknjdiboinaaDoorTreeBetweenZ26
import Derived.Test.YtcepknjdiboinaaDoorTreeBetweenZ34
import Derived.Test.YtcepknjdiboinaaDoorTreeBetweenZ25
import Derived.Test.YtcepknjdiboinaaDoorTreeBetweenZ20
import Derived.Lib.SmallJoins
import Derived.Test.YtcepknjdiboinaaDoorTreeBetweenZ28
import Derived.Test.YtcepknjdiboinaaDoorTreeBetweenZ4
import Derived.Test.YtcepknjdiboinaaDoorTreeBetweenZ0
namespace Go.Proofs.YtcepknjdiboinaaDoor
open Go.RowKit

def emptyL : List Int := [101, 109, 112, 116, 121]
theorem emptyL_byte : Byt emptyL := by
  intro x hx
  simp [emptyL] at hx
  omega
set_option maxHeartbeats 1000000 in
set_option maxRecDepth 100000 in
/-- hashOf of nil, whatever the map. -/
theorem hashNil_any (w : World) (m : Value) (hT : Tabs w) :
    Calls Tryd.prog 69 #[.pointer none, m] w fun e w' => ∃ v, e = .returned v ∧ w'.ownsRow w.heap.size 5 1 v 32 (bv (sumL emptyL)) ∧ Below w.heap.size w w' := by
  have h2 := hT.two
  have B0 : Below w.heap.size w (w.alloc (.cells (bv emptyL).toArray 5 (5, 6))) := (Below.refl _ w).alloc (Nat.le_refl _) _
  have S0 := Sl.const w emptyL (5, 6) emptyL_byte (by simp [emptyL, maxLen])
  have kc0 := Lib.run_convert_bytes_const (P := Tryd.prog) w 23 5 #[.int .u8 101, .int .u8 109, .int .u8 112, .int .u8 116, .int .u8 121] 5 5 Tryd.underlying23 Tryd.underlying5
  have CS := sum_any _ _ 5 5 emptyL (hT.below B0 h2) S0
  go_enter Tryd.func69, Tryd.ntmps69
  go_wp2_with fail
  refine CS.mono ?_
  rintro e w1 ⟨v, rfl, o, C⟩
  go_wp2
  go_ret
  exact ⟨_, rfl, own_base o B0.size, B0.trans (C.mono B0.size)⟩

set_option maxHeartbeats 1000000 in
set_option maxRecDepth 100000 in
theorem rootNil_any (w : World) (hT : Tabs w) :
    Calls Tryd.prog 25 #[.pointer none] w fun e w' => ∃ v, e = .returned v ∧ w'.ownsRow w.heap.size 5 1 v 32 (bv (sumL emptyL)) ∧ Below w.heap.size w w' := by
  have h2 := hT.two
  have CS := shared_at w w (.pointer none) [] (TT.nil w) (Below.refl _ _)
  have CH : Calls Tryd.prog 47 #[.pointer none] w fun e w' => ∃ v, e = .returned v ∧ w'.ownsRow w.heap.size 5 1 v 32 (bv (sumL emptyL)) ∧ Below w.heap.size w w' := by
    have hmm := @run_makeMap Tryd.prog
    have B1 : Below w.heap.size w (w.alloc (.map #[] 0)) := (Below.refl _ w).alloc (Nat.le_refl _) _
    have CN := hashNil_any (w.alloc (.map #[] 0)) (.map (some w.heap.size)) (hT.below B1 h2)
    go_enter Tryd.func47, Tryd.ntmps47
    go_wp2_with fail
    refine CN.mono ?_
    rintro e w2 ⟨v, rfl, o, C⟩
    go_wp2
    go_ret
    exact ⟨_, rfl, own_base o B1.size, B1.trans (C.mono B1.size)⟩
  go_enter Tryd.func25, Tryd.ntmps25
  go_wp2_with fail
  refine CS.mono ?_
  rintro e w1 ⟨q, rfl, hq, hw⟩
  obtain rfl := hw.symm
  obtain rfl : q = none := by
    rcases hq.is with ⟨-, h⟩ | ⟨d, segs, xs, -, h⟩
    · simpa using h
    · have h1 := h.shp.pos
      have h2 := h.many
      rw [List.length_nil] at h2
      omega
  clear CS
  go_wp2_with fail
  refine CH.mono ?_
  rintro e w2 ⟨v, rfl, o, C⟩
  go_wp2
  go_ret
  exact ⟨_, rfl, o, C⟩
end Go.Proofs.YtcepknjdiboinaaDoor

namespace Go.Proofs.YtcepknjdiboinaaDoor
open Go.RowKit

theorem one_byte (c : Int) (h : 0 ≤ c ∧ c ≤ 255) : Byt [c] := by
  intro x hx
  rw [List.mem_singleton.1 hx]
  exact h
def aIt : It := ⟨[97], [49]⟩
theorem ins_nil (x : It) : ins [] x = [x] := rfl

set_option maxHeartbeats 4000000 in
set_option maxRecDepth 100000 in
theorem alive7 (w : World) (hT : Tabs w) : Calls Tryd.prog 8 #[] w fun e w' => e = .returned (.bool true) ∧ Below w.heap.size w w' := by
  have h2 := hT.two
  have kc := fun (w : World) (C : Array Value) (n c g : Nat) (hg : g = w.heap.size) => Joins.run_convert_bytes_const_at (P := Tryd.prog) w 23 5 C n c g hg Tryd.underlying23 Tryd.underlying5
  obtain ⟨W1, hW1⟩ : ∃ W, W = w.alloc (.cells #[.int .u8 97] 5 (1, 2)) := ⟨_, rfl⟩
  obtain ⟨W2, hW2⟩ : ∃ W, W = W1.alloc (.cells #[.int .u8 49] 5 (1, 2)) := ⟨_, rfl⟩
  have B1 : Below w.heap.size w W1 := by rw [hW1]; exact (Below.refl _ w).alloc (Nat.le_refl _) _
  have C2 : Below W1.heap.size W1 W2 := by rw [hW2]; exact (Below.refl _ W1).alloc (Nat.le_refl _) _
  have z1 : W1.heap.size = w.heap.size + 1 := by rw [hW1]; simp
  have S1 : Sl W1 (some ⟨w.heap.size, 0, none⟩) 1 1 [97] := by rw [hW1]; exact Sl.const w [97] (1, 2) (one_byte _ (by omega)) (by simp [maxLen])
  have S2 : Sl W2 (some ⟨W1.heap.size, 0, none⟩) 1 1 [49] := by rw [hW2]; exact Sl.const W1 [49] (1, 2) (one_byte _ (by omega)) (by simp [maxLen])
  have S1' := S1.below C2
  have B2 := B1.trans (C2.mono B1.size)
  rw [z1] at S2
  have k1 := kc w #[.int .u8 97] 1 1 w.heap.size rfl
  have k2 := kc W1 #[.int .u8 49] 1 1 (w.heap.size + 1) z1.symm
  have CP := tput_any W2 (.pointer none) [] aIt (some ⟨w.heap.size, 0, none⟩) (some ⟨w.heap.size + 1, 0, none⟩) 1 1 1 1 (hT.below B2 h2) (TT.nil _) List.Pairwise.nil S1' S2 (by omega) (by omega) (by simp) 0 rfl
  go_enter Tryd.func8, Tryd.ntmps8
  go_wp2_with fail
  rw [← hW1, ← hW2]
  clear hW1 hW2 k1 k2 S1 S2 S1' C2 z1 B1
  refine CP.mono ?_
  rintro e w3 ⟨u, rfl, hTT, -, C3⟩
  have hTT := hTT rfl
  rw [ins_nil] at hTT
  have B3 := B2.trans (C3.mono B2.size)
  obtain ⟨b, rfl⟩ : ∃ b, u = some ⟨b, 0, none⟩ := by
    rcases hTT with ⟨-, h⟩ | ⟨b, u', h, -⟩
    · simp at h
    · exact ⟨b, by simpa using h⟩
  clear CP C3 B2
  obtain ⟨W4, hW4⟩ : ∃ W, W = w3.alloc (.cells #[.int .u8 97] 5 (1, 2)) := ⟨_, rfl⟩
  have C4 : Below w3.heap.size w3 W4 := by rw [hW4]; exact (Below.refl _ w3).alloc (Nat.le_refl _) _
  have S4 : Sl W4 (some ⟨w3.heap.size, 0, none⟩) 1 1 [97] := by rw [hW4]; exact Sl.const w3 [97] (1, 2) (one_byte _ (by omega)) (by simp [maxLen])
  have k4 := kc w3 #[.int .u8 97] 1 1 w3.heap.size rfl
  have T4 := hTT.below C4
  have B4 := B3.trans (C4.mono B3.size)
  have CG := tget_any W4 (.pointer (some ⟨b, 0, none⟩)) [aIt] [97] (some ⟨w3.heap.size, 0, none⟩) 1 1 T4 (Srt.one _) S4 (by simp) (by intro x hx; rw [List.mem_singleton.1 hx]; simp [aIt])
  go_wp2_with fail
  rw [← hW4]
  clear hW4 k4 S4 C4 B3 hTT
  refine CG.mono ?_
  rintro e w5 ⟨qo, qn, qc, bb, rfl, hyes, hno, C5⟩
  cases bb with
  | false => exact absurd ⟨aIt, List.mem_singleton.2 rfl, rfl⟩ (hno rfl).1
  | true =>
  obtain ⟨x, hx, -, S5⟩ := hyes rfl
  rw [List.mem_singleton.1 hx] at S5
  have S5 : Sl w5 qo qn qc [49] := S5
  have B5 := B4.trans (C5.mono B4.size)
  have T5 := T4.below C5
  clear CG hyes hno hx C5 B4 T4
  have CR := rootNil_any w5 (hT.below B5 h2)
  go_wp2_with fail
  refine CR.mono ?_
  rintro e w6 ⟨v6, rfl, o6, C6⟩
  obtain ⟨ro, rc, rfl, S6, -⟩ := Sl.own o6 (sumL_byte _)
  have B6 := B5.trans (C6.mono B5.size)
  have S5 := S5.below C6
  have T6 := T5.below C6
  clear CR o6 C6 B5 T5
  obtain ⟨W7, hW7⟩ : ∃ W, W = w6.alloc (.cells #[.int .u8 101, .int .u8 109, .int .u8 112, .int .u8 116, .int .u8 121] 5 (5, 6)) := ⟨_, rfl⟩
  have C7 : Below w6.heap.size w6 W7 := by rw [hW7]; exact (Below.refl _ w6).alloc (Nat.le_refl _) _
  have S7 : Sl W7 (some ⟨w6.heap.size, 0, none⟩) 5 5 emptyL := by rw [hW7]; exact Sl.const w6 emptyL (5, 6) emptyL_byte (by simp [emptyL, maxLen])
  have k7 := kc w6 #[.int .u8 101, .int .u8 109, .int .u8 112, .int .u8 116, .int .u8 121] 5 5 w6.heap.size rfl
  have B7 := B6.trans (C7.mono B6.size)
  have S6 := S6.below C7
  have S5 := S5.below C7
  have T7 := T6.below C7
  have CM := rsum_any W7 (some ⟨w6.heap.size, 0, none⟩) 5 5 emptyL S7 (by omega)
  go_wp2_with fail
  rw [← hW7]
  clear hW7 k7 C7 B6 T6
  refine CM.mono ?_
  rintro e w8 ⟨v8, rfl, o8, C8⟩
  obtain ⟨so, sc, rfl, S8, -⟩ := Sl.own o8 (sumL_byte _)
  have B8 := B7.trans (C8.mono B7.size)
  have S6 := S6.below C8
  have S5 := S5.below C8
  have T8 := T7.below C8
  clear CM o8 C8 B7 T7
  have CE := same_any w8 ro so 32 rc 32 sc _ _ S6 S8
  rw [decide_eq_true rfl] at CE
  go_wp2_with fail
  refine CE.mono ?_
  rintro e w9 ⟨rfl, q9, rfl⟩
  have E9 := below_drewN w8 q9 w8.heap.size
  have B9 := B8.trans (E9.mono B8.size)
  have S5 := S5.below E9
  have T9 := T8.below E9
  have cv := conv_str S5
  have hst : strOfNums [49] = ⟨#[49]⟩ := rfl
  rw [hst] at cv
  clear CE E9 B8 T8 S6 S8 hst
  obtain ⟨w9, hw9⟩ : ∃ W, W = w8.drewN q9 := ⟨_, rfl⟩
  rw [← hw9] at B9 S5 T9 cv ⊢
  clear hw9
  have CL := len_any w9 _ _ T9 (Srt.one _) (by simp)
  go_wp2_with fail
  refine CL.mono ?_
  rintro e w10 ⟨rfl, C10⟩
  have B10 := B9.trans (C10.mono B9.size)
  clear CL C10 B9 cv
  have CL := len_any w10 (.pointer none) [] (TT.nil _) List.Pairwise.nil (by simp)
  go_wp2_with fail
  refine CL.mono ?_
  rintro e w11 ⟨rfl, C11⟩
  have B11 := B10.trans (C11.mono B10.size)
  go_wp2
  go_ret
  exact ⟨rfl, B11⟩
end Go.Proofs.YtcepknjdiboinaaDoor

namespace Go.Proofs.YtcepknjdiboinaaDoor
open Go.RowKit

theorem less_cmp : ∀ a b : List UInt8, Op.bytesLess a b = decide (cmpL (a.map fun c => (c.toNat : Int)) (b.map fun c => (c.toNat : Int)) < 0)
  | [], [] => rfl
  | _ :: _, [] => rfl
  | [], _ :: _ => rfl
  | a :: x, b :: y => by
    rw [Op.bytesLess, less_cmp x y, List.map_cons, List.map_cons, cmpL_cons]
    by_cases e : a = b
    · subst e
      have h : ¬ a < a := UInt8.lt_irrefl a
      simp [h]
    · have hn : a.toNat ≠ b.toNat := fun h => e (UInt8.toNat_inj.1 h)
      have hb : (a == b) = false := by simp [e]
      rw [hb, if_neg (by omega)]
      by_cases l : a < b
      · have l2 : (a.toNat : Int) < (b.toNat : Int) := by have := UInt8.lt_iff_toNat_lt.1 l; omega
        rw [if_pos l2]
        simp [l]
      · have l2 : ¬ (a.toNat : Int) < (b.toNat : Int) := fun h => l (UInt8.lt_iff_toNat_lt.2 (by omega))
        rw [if_neg l2]
        simp [l]
theorem less_sb (s t : ByteArray) : Op.bytesLess s.toList t.toList = decide (cmpL (sb s) (sb t) < 0) := by
  rw [ByteArray.toList_eq, ByteArray.toList_eq, less_cmp]
  rfl
/-- string(a) < string(b) -/
theorem less_str {xs ys : List Int} (hx : Byt xs) (hy : Byt ys) : Op.bytesLess (strOfNums xs).toList (strOfNums ys).toList = decide (cmpL xs ys < 0) := by
  rw [less_sb, sb_str hx, sb_str hy]
theorem gtr_bytes (t : TypeId) (a b : ByteArray) : binOp .gtr t (.string a) (.string b) = pure (.bool !(Op.bytesLess a.toList b.toList || a.toList == b.toList)) := by simp [binOp, Op.stringOp]
/-- string(a) > string(b) -/
theorem gtr_str {xs ys : List Int} (hx : Byt xs) (hy : Byt ys) (t : TypeId) (W : World) : (binOp .gtr t (.string (strOfNums xs)) (.string (strOfNums ys))).run Tryd.prog W = .ok (.bool (decide (cmpL ys xs < 0))) W := by
  have he : ((strOfNums xs).toList == (strOfNums ys).toList) = decide (xs = ys) := by
    rw [Bool.eq_iff_iff, beq_iff_eq, decide_eq_true_eq, ← str_eq hx hy, ByteArray.toList_eq, ByteArray.toList_eq]
    exact ⟨fun e => ByteArray.ext (Array.toList_inj.1 e), fun e => by rw [e]⟩
  rw [gtr_bytes, Sem.run_pure, less_str hx hy, he]
  congr 2
  rcases cmpL_total xs ys with h | h | h
  · have := cmpL_asym h
    simp [h, this]
  · subst h
    have := cmpL_irr xs
    simp [this]
  · have h1 := cmpL_asym h
    have h2 := cmpL_lt_ne h
    have h3 : ¬ xs = ys := fun e => h2 e.symm
    simp [h, h1, h3]
end Go.Proofs.YtcepknjdiboinaaDoor

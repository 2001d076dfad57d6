/-
  Texts in one: Same, TAlive, RSmall7, ShapeLaw, TOpen, Laid7, RowIn.
-/
import Derived.Test.YtiabdcejibeciaaDoorTreeShapeZ0
import Derived.Deep.QuietTactic
import Derived.BigQuiet
import Derived.Test.YtiabdcejibeciaaDoorTreeShapeZ25
import Derived.Test.YtiabdcejibeciaaDoorTreeShapeZ29
import Derived.Lib.SmallJoins
import Derived.Test.YtiabdcejibeciaaDoorTreeShapeZ6
import Derived.Test.YtiabdcejibeciaaDoorTreeShapeZ9
import Derived.Test.YtiabdcejibeciaaDoorTreeShapeZ13
import Derived.Deep.Slices
import Derived.Deep.SlicePairs
import Derived.ChangeSame
import Derived.Test.YtiabdcejibeciaaDoorRows
import Derived.ProofKit
import Derived.LaidMore
import Derived.Lay
import Derived.OpenShut
import Derived.Lib.LaidU8
import Derived.Stop.Joined
namespace Go.Proofs.YtiabdcejibeciaaDoor
open Go.RowKit

theorem below_drewN (w : World) (q B : Nat) : Below B w (w.drewN q) := ⟨rfl, rfl, rfl, Nat.le_refl _, fun _ _ => rfl⟩

theorem lists_of (n : Nat) (xs ys : List Int) (h1 : xs.length = n) (h2 : ys.length = n) (h : ∀ j, j < n → xs.getD j 0 = ys.getD j 0) : xs = ys := by
  apply List.ext_getElem (by omega)
  intro j hj hj2
  have := h j (by omega)
  simpa [List.getD, hj, hj2] using this

/-- Where an element is read the slice has an address without a spot. -/
theorem Sl.at {w : World} {ao : Option Addr} {n cap : Nat} {xs : List Int} (h : Sl w ao n cap xs) (hn : 0 < n) :
    ∃ b off, ao = some ⟨b, off, none⟩ ∧ ∀ i, i < n → w.cell? ⟨b, off + i, none⟩ = some (.int .u8 (xs.getD i 0)) := by
  cases ao with
  | none => have := (h.nil rfl).1; omega
  | some a =>
    obtain ⟨b, off, spot⟩ := a
    have hc := h.cell _ rfl 0 hn
    have hs : spot = none := by simpa [Addr.add] using World.cell?_spot hc
    subst hs
    exact ⟨b, off, rfl, fun i hi => by have := h.cell _ rfl i hi; rw [Addr.add_lit] at this; exact this⟩

set_option maxHeartbeats 800000 in
theorem same_any (w : World) (ao bo : Option Addr) (n cap m cap2 : Nat) (xs ys : List Int) (h : Sl w ao n cap xs) (h2 : Sl w bo m cap2 ys) :
    Calls Tryd.prog 14 #[.slice ao n cap, .slice bo m cap2] w fun e w' =>
      e = .returned (.bool (decide (xs = ys))) ∧ ∃ q, w' = w.drewN q := by
  have hl := h.len
  have hl2 := h2.len
  have hle := h.le
  have hmx := h.mx
  unfold maxLen at hmx
  by_cases hnm : n = m
  · subst hnm
    have hne : ((n : Int) != (n : Int)) = false := by simp
    go_enter Tryd.func14, Tryd.ntmps14
    go_wp2
    go_loopw [5] (fun i wr => ∃ k q : Nat, k ≤ n ∧ i = .int .i64 k ∧ wr = w.drewN q ∧ ∀ j, j < k → xs.getD j 0 = ys.getD j 0) (fun i _ => n - (intOf i).toNat)
    case atStart => exact ⟨0, 0, Nat.zero_le _, rfl, rfl, fun j hj => by omega⟩
    case round =>
      obtain ⟨k, q, hk, rfl, rfl, heq⟩ := hrel
      by_cases hlt : k < n
      · obtain ⟨b, off, rfl, hc⟩ := h.at (by omega)
        obtain ⟨b2, off2, rfl, hc2⟩ := h2.at (by omega)
        have c1 := hc k hlt
        have c2 := hc2 k hlt
        have hlt1 : (k : Int) < (n : Int) := by omega
        clear hc hc2
        have k1 : k < xs.length := by omega
        have k2 : k < ys.length := by omega
        by_cases he : xs[k] = ys[k]
        · have hb : (xs[k] != ys[k]) = false := by simp [he]
          have hE : Hid (xs[k] = ys[k]) := he
          clear he
          go_wp2
          go_quiet (fail)
          go_wp2
          go_roundw
          case rel =>
            refine ⟨k + 1, _, by omega, by go_num, rfl, fun j hj => ?_⟩
            by_cases hjk : j < k
            · exact heq j hjk
            · obtain rfl : j = k := by omega
              simpa [List.getD, k1, k2] using hE.out
          case measure => simp [intOf]; omega
        · have hb : (xs[k] != ys[k]) = true := by simp [he]
          have hE : Hid (¬ xs[k] = ys[k]) := he
          clear he
          go_wp2
          go_quiet (fail)
          go_wp2
          go_ret
          have hd : decide (xs = ys) = false := decide_eq_false (fun hx => by subst hx; exact hE.out rfl)
          rw [hd, World.drewN_drewN]
          exact ⟨rfl, _, rfl⟩
      · obtain rfl : k = n := by omega
        go_wp2
        go_ret
        have hd : decide (xs = ys) = true := decide_eq_true (lists_of k xs ys hl hl2 heq)
        rw [hd]
        exact ⟨rfl, _, rfl⟩
  · have hne : ((n : Int) != (m : Int)) = true := by simp; omega
    go_enter Tryd.func14, Tryd.ntmps14
    go_wp2
    go_ret
    have hd : decide (xs = ys) = false := decide_eq_false (fun hx => by subst hx; omega)
    rw [hd]
    exact ⟨rfl, 0, rfl⟩
end Go.Proofs.YtiabdcejibeciaaDoor

namespace Go.Proofs.YtiabdcejibeciaaDoor
open Go.RowKit

theorem one_byte (c : Int) (h : 0 ≤ c ∧ c ≤ 255) : Byt [c] := by
  intro x hx
  rw [List.mem_singleton.1 hx]
  exact h
def aIt : It := ⟨[97], [49]⟩
theorem ins_nil (x : It) : ins [] x = [x] := rfl

set_option maxHeartbeats 4000000 in
set_option maxRecDepth 100000 in
theorem alive7 (w : World) (hT : Tabs w) : Calls Tryd.prog 8 #[] w fun e w' => e = .returned (.bool true) ∧ Below w.heap.size w w' := by
  have h2 := hT.two
  have kc := fun (w : World) (C : Array Value) (n c g : Nat) (hg : g = w.heap.size) => Joins.run_convert_bytes_const_at (P := Tryd.prog) w 26 5 C n c g hg Tryd.underlying26 Tryd.underlying5
  obtain ⟨W1, hW1⟩ : ∃ W, W = w.alloc (.cells #[.int .u8 97] 5 (1, 2)) := ⟨_, rfl⟩
  obtain ⟨W2, hW2⟩ : ∃ W, W = W1.alloc (.cells #[.int .u8 49] 5 (1, 2)) := ⟨_, rfl⟩
  have B1 : Below w.heap.size w W1 := by rw [hW1]; exact (Below.refl _ w).alloc (Nat.le_refl _) _
  have C2 : Below W1.heap.size W1 W2 := by rw [hW2]; exact (Below.refl _ W1).alloc (Nat.le_refl _) _
  have z1 : W1.heap.size = w.heap.size + 1 := by rw [hW1]; simp
  have S1 : Sl W1 (some ⟨w.heap.size, 0, none⟩) 1 1 [97] := by rw [hW1]; exact Sl.const w [97] (1, 2) (one_byte _ (by omega)) (by simp [maxLen])
  have S2 : Sl W2 (some ⟨W1.heap.size, 0, none⟩) 1 1 [49] := by rw [hW2]; exact Sl.const W1 [49] (1, 2) (one_byte _ (by omega)) (by simp [maxLen])
  have S1' := S1.below C2
  have B2 := B1.trans (C2.mono B1.size)
  rw [z1] at S2
  have k1 := kc w #[.int .u8 97] 1 1 w.heap.size rfl
  have k2 := kc W1 #[.int .u8 49] 1 1 (w.heap.size + 1) z1.symm
  have CP := tput_any W2 (.pointer none) [] aIt (some ⟨w.heap.size, 0, none⟩) (some ⟨w.heap.size + 1, 0, none⟩) 1 1 1 1 (hT.below B2 h2) (TT.nil _) List.Pairwise.nil S1' S2 (by omega) (by omega) (by simp) 0 rfl
  go_enter Tryd.func8, Tryd.ntmps8
  go_wp2_with fail
  rw [← hW1, ← hW2]
  clear hW1 hW2 k1 k2 S1 S2 S1' C2 z1 B1
  refine CP.mono ?_
  rintro e w3 ⟨u, rfl, hTT, -, C3⟩
  have hTT := hTT rfl
  rw [ins_nil] at hTT
  have B3 := B2.trans (C3.mono B2.size)
  obtain ⟨b, rfl⟩ : ∃ b, u = some ⟨b, 0, none⟩ := by
    rcases hTT with ⟨-, h⟩ | ⟨b, u', h, -⟩
    · simp at h
    · exact ⟨b, by simpa using h⟩
  clear CP C3 B2
  obtain ⟨W4, hW4⟩ : ∃ W, W = w3.alloc (.cells #[.int .u8 97] 5 (1, 2)) := ⟨_, rfl⟩
  have C4 : Below w3.heap.size w3 W4 := by rw [hW4]; exact (Below.refl _ w3).alloc (Nat.le_refl _) _
  have S4 : Sl W4 (some ⟨w3.heap.size, 0, none⟩) 1 1 [97] := by rw [hW4]; exact Sl.const w3 [97] (1, 2) (one_byte _ (by omega)) (by simp [maxLen])
  have k4 := kc w3 #[.int .u8 97] 1 1 w3.heap.size rfl
  have T4 := hTT.below C4
  have B4 := B3.trans (C4.mono B3.size)
  have CG := tget_any W4 (.pointer (some ⟨b, 0, none⟩)) [aIt] [97] (some ⟨w3.heap.size, 0, none⟩) 1 1 T4 (Srt.one _) S4 (by simp) (by intro x hx; rw [List.mem_singleton.1 hx]; simp [aIt])
  go_wp2_with fail
  rw [← hW4]
  clear hW4 k4 S4 C4 B3 hTT
  refine CG.mono ?_
  rintro e w5 ⟨qo, qn, qc, bb, rfl, hyes, hno, C5⟩
  cases bb with
  | false => exact absurd ⟨aIt, List.mem_singleton.2 rfl, rfl⟩ (hno rfl).1
  | true =>
  obtain ⟨x, hx, -, S5⟩ := hyes rfl
  rw [List.mem_singleton.1 hx] at S5
  have S5 : Sl w5 qo qn qc [49] := S5
  have B5 := B4.trans (C5.mono B4.size)
  have T5 := T4.below C5
  clear CG hyes hno hx C5 B4 T4
  have CR := rootNil_any w5 (hT.below B5 h2)
  go_wp2_with fail
  refine CR.mono ?_
  rintro e w6 ⟨v6, rfl, o6, C6⟩
  obtain ⟨ro, rc, rfl, S6, -⟩ := Sl.own o6 (sumL_byte _)
  have B6 := B5.trans (C6.mono B5.size)
  have S5 := S5.below C6
  have T6 := T5.below C6
  clear CR o6 C6 B5 T5
  obtain ⟨W7, hW7⟩ : ∃ W, W = w6.alloc (.cells #[.int .u8 101, .int .u8 109, .int .u8 112, .int .u8 116, .int .u8 121] 5 (5, 6)) := ⟨_, rfl⟩
  have C7 : Below w6.heap.size w6 W7 := by rw [hW7]; exact (Below.refl _ w6).alloc (Nat.le_refl _) _
  have S7 : Sl W7 (some ⟨w6.heap.size, 0, none⟩) 5 5 emptyL := by rw [hW7]; exact Sl.const w6 emptyL (5, 6) emptyL_byte (by simp [emptyL, maxLen])
  have k7 := kc w6 #[.int .u8 101, .int .u8 109, .int .u8 112, .int .u8 116, .int .u8 121] 5 5 w6.heap.size rfl
  have B7 := B6.trans (C7.mono B6.size)
  have S6 := S6.below C7
  have S5 := S5.below C7
  have T7 := T6.below C7
  have CM := rsum_any W7 (some ⟨w6.heap.size, 0, none⟩) 5 5 emptyL S7 (by omega)
  go_wp2_with fail
  rw [← hW7]
  clear hW7 k7 C7 B6 T6
  refine CM.mono ?_
  rintro e w8 ⟨v8, rfl, o8, C8⟩
  obtain ⟨so, sc, rfl, S8, -⟩ := Sl.own o8 (sumL_byte _)
  have B8 := B7.trans (C8.mono B7.size)
  have S6 := S6.below C8
  have S5 := S5.below C8
  have T8 := T7.below C8
  clear CM o8 C8 B7 T7
  have CE := same_any w8 ro so 32 rc 32 sc _ _ S6 S8
  rw [decide_eq_true rfl] at CE
  go_wp2_with fail
  refine CE.mono ?_
  rintro e w9 ⟨rfl, q9, rfl⟩
  have E9 := below_drewN w8 q9 w8.heap.size
  have B9 := B8.trans (E9.mono B8.size)
  have S5 := S5.below E9
  have T9 := T8.below E9
  have cv := conv_str S5
  have hst : strOfNums [49] = ⟨#[49]⟩ := rfl
  rw [hst] at cv
  clear CE E9 B8 T8 S6 S8 hst
  obtain ⟨w9, hw9⟩ : ∃ W, W = w8.drewN q9 := ⟨_, rfl⟩
  rw [← hw9] at B9 S5 T9 cv ⊢
  clear hw9
  have CL := len_any w9 _ _ T9 (Srt.one _) (by simp)
  go_wp2_with fail
  refine CL.mono ?_
  rintro e w10 ⟨rfl, C10⟩
  have B10 := B9.trans (C10.mono B9.size)
  clear CL C10 B9 cv
  have CL := len_any w10 (.pointer none) [] (TT.nil _) List.Pairwise.nil (by simp)
  go_wp2_with fail
  refine CL.mono ?_
  rintro e w11 ⟨rfl, C11⟩
  have B11 := B10.trans (C11.mono B10.size)
  go_wp2
  go_ret
  exact ⟨rfl, B11⟩
end Go.Proofs.YtiabdcejibeciaaDoor

namespace Go.Proofs.YtiabdcejibeciaaDoor
open Go.RowKit

/-- Few and short. -/
def ligQ (q : IP) : Bool := decide (q.k.n ≤ 300) && decide (q.v.n ≤ 1100)
def ligB (its : List IP) (m : Int) : Bool := decide ((its.length : Int) ≤ m) && its.all ligQ

set_option maxHeartbeats 1000000 in
set_option maxRecDepth 100000 in
theorem light7_any (w : World) (ao : Option Addr) (n cap : Nat) (its : List IP) (m : Int) (h : IL w ao n cap its) :
    Calls Tryd.prog 7 #[.slice ao n cap, .int .i64 m] w fun e w' => e = .returned (.bool (ligB its m)) ∧ w' = w := by
  have hl1 := Nat.le_of_eq h.len
  have hl2 := Nat.le_of_eq h.len.symm
  have hmx := h.mx
  have hle := h.le
  have hnx : (n : Int) ≤ 9223372036854775807 := by unfold maxLen at hmx; omega
  by_cases hm : (n : Int) > m
  · have HR : Hid (ligB its m = false) := by show _ = _; simp only [ligB, Bool.and_eq_false_imp]; intro e; have := of_decide_eq_true e; omega
    go_enter Tryd.func7, Tryd.ntmps7
    go_wp2
    go_ret
    rw [HR.out]
    exact ⟨rfl, rfl⟩
  go_enter Tryd.func7, Tryd.ntmps7
  go_wp2
  go_loopw [5] (fun i wr => ∃ k : Nat, k ≤ n ∧ i = .int .i64 k ∧ (∀ q ∈ its.take k, ligQ q = true) ∧ w = wr) (fun i _ => n - (intOf i).toNat)
  case atStart => exact ⟨0, Nat.zero_le _, rfl, by simp, rfl⟩
  case round =>
    obtain ⟨k, hk, rfl, hj, rfl⟩ := hrel
    have HJ : Hid (∀ q ∈ its.take k, ligQ q = true) := hj
    clear hj
    by_cases hlt : k < n
    · have hki : (k : Int) < (n : Int) := by omega
      have hkl : k < its.length := by omega
      obtain ⟨b, off, rfl, hc⟩ := h.at (by omega)
      obtain ⟨c1, c2⟩ := hc k hkl
      have HM : Hid (its[k] ∈ its) := List.getElem_mem hkl
      have HT : Hid (its.take (k + 1) = its.take k ++ [its[k]]) := List.take_succ_eq_append_getElem hkl
      obtain ⟨q, hqe⟩ : ∃ q, q = its[k] := ⟨_, rfl⟩
      rw [← hqe] at c1 c2 HM HT
      unfold Part.val at c1 c2
      clear hc hqe
      have bad : ligQ q = false → ligB its m = false := fun e => by
        simp only [ligB, Bool.and_eq_false_imp]
        intro _
        rw [List.all_eq_false]
        exact ⟨q, HM.out, by simp [e]⟩
      have BAD : Hid (ligQ q = false → ligB its m = false) := bad
      clear bad
      by_cases h1 : 300 < q.k.n
      · have h1' : (q.k.n : Int) > 300 := by omega
        have HR : Hid (ligB its m = false) := BAD.out (by simp [ligQ]; omega)
        go_wp2
        go_ret
        rw [HR.out]
        exact ⟨rfl, rfl⟩
      have h1' : ¬ (q.k.n : Int) > 300 := by omega
      by_cases h2 : 1100 < q.v.n
      · have h2' : (q.v.n : Int) > 1100 := by omega
        have HR : Hid (ligB its m = false) := BAD.out (by simp [ligQ]; omega)
        go_wp2
        go_ret
        rw [HR.out]
        exact ⟨rfl, rfl⟩
      have h2' : ¬ (q.v.n : Int) > 1100 := by omega
      go_wp2
      go_roundw
      case rel =>
        refine ⟨k + 1, by omega, by go_num, fun r hr => ?_, by first | rfl | trivial⟩
        rw [HT.out] at hr
        rcases List.mem_append.1 hr with hr | hr
        · exact HJ.out r hr
        · rw [List.mem_singleton.1 hr]
          simp [ligQ]
          omega
      case measure => simp [intOf]; omega
    · have hge : ¬ (k : Int) < (n : Int) := by omega
      have HR : Hid (ligB its m = true) := by
        show _ = _
        simp only [ligB, Bool.and_eq_true]
        refine ⟨decide_eq_true (by omega), List.all_eq_true.2 fun q hq => HJ.out q ?_⟩
        rw [List.take_of_length_le (by omega)]
        exact hq
      go_wp2
      go_ret
      rw [HR.out]
      exact ⟨rfl, rfl⟩

end Go.Proofs.YtiabdcejibeciaaDoor

namespace Go.Proofs.YtiabdcejibeciaaDoor
open Go.RowKit

theorem szd_of {w : World} {ao : Option Addr} {n c : Nat} {its : List IP} (h : IL w ao n c its) (hb : ∀ q ∈ its, q.k.n ≤ 300 ∧ q.v.n ≤ 1100) {l : List It} (hp : l.Perm (its.map IP.it)) : Szd l := fun x hx => by
  obtain ⟨q, hq, rfl⟩ := List.mem_map.1 (hp.mem_iff.1 hx)
  have h3 := hb q hq
  have h5 := (h.sl q hq).1.len
  have h6 := (h.sl q hq).2.len
  exact ⟨by show q.k.xs.length ≤ _; omega, by show q.v.xs.length ≤ _; omega⟩

set_option maxHeartbeats 4000000 in
set_option maxRecDepth 100000 in
theorem treeShape_any (W : World) (a0 : Option Addr) (n0 c0 : Nat) (its : List IP) (h0 : IL W a0 n0 c0 its) (hT : Tabs W) :
    Calls Tryd.prog 5 #[.slice a0 n0 c0] W fun e w' => e = .returned (.bool true) ∧ Below W.heap.size W w' := by
  have t2 := hT.two
  have CL := light7_any W a0 n0 c0 its 30 h0
  have AL := alive7 W hT
  obtain ⟨lb, hlb⟩ : ∃ b, b = ligB its 30 := ⟨_, rfl⟩
  have HLB : Hid (lb = ligB its 30) := hlb
  rw [← hlb] at CL
  have HT : Hid (Tabs W) := hT
  clear hlb
  go_enter Tryd.func5, Tryd.ntmps5
  go_wp2_with fail
  refine CL.mono ?_
  rintro e w' ⟨rfl, hw⟩
  obtain rfl := hw.symm
  clear CL
  cases lb with
  | false =>
    clear hT
    go_wp2_with fail
    refine AL.mono ?_
    rintro e w2 ⟨rfl, B⟩
    go_wp2
    go_ret
    exact ⟨rfl, B⟩
  | true =>
    clear AL
    have hlig : its.length ≤ 30 ∧ ∀ q ∈ its, q.k.n ≤ 300 ∧ q.v.n ≤ 1100 := by
      have h := HLB.out.symm
      unfold ligB ligQ at h
      simp only [Bool.and_eq_true, decide_eq_true_eq, List.all_eq_true] at h
      exact ⟨by omega, h.2⟩
    have hn0 : n0 ≤ 30 := by have := hlig.1; have := h0.len; omega
    have HLG : Hid (∀ q ∈ its, q.k.n ≤ 300 ∧ q.v.n ≤ 1100) := hlig.2
    have HLN : Hid (its.length = n0) := h0.len
    have CM := tmake_any W a0 n0 c0 its hT h0 (by omega) (fun q hq => by have := HLG.out q hq; omega)
    clear hT hlig
    go_wp2_with fail
    refine CM.mono ?_
    rintro e w1 ⟨u, kd, rfl, B1, hp⟩
    clear CM
    rcases hp with ⟨rfl, hj0, l, hperm, hsrt, TT1⟩ | ⟨hkd, -, -⟩
    · have hll : l.length = n0 := by have := hperm.length_eq; rw [List.length_map] at this; have := HLN.out; omega
      have HLL : Hid (l.length = n0) := hll
      have HS : Hid (Srt l) := hsrt
      have HZ : Hid (Szd l) := szd_of h0 HLG.out hperm
      clear hperm hsrt hj0
      have CT := top_any w1 (.pointer u) l TT1 (by omega) HZ.out
      clear hll
      go_wp2_with fail
      refine CT.mono ?_
      rintro e w2 ⟨v, rfl, HO, C2⟩
      have B2 := B1.trans (C2.mono B1.size)
      have T2 : T w2 (.pointer v) l := HO.now
      have CS := shaped_fuel l.length w2 (.pointer v) l none 0 0 [] none 0 0 [] 65 (HT.out.below B2 t2) T2 HS.out (Sl.nothing w2) (Sl.nothing w2) (fun h => absurd rfl h) (fun h => absurd rfl h) (fun x _ => by have := lev_le x.k; omega) (by omega) (by have := HLL.out; omega) HZ.out (Nat.le_refl _)
      clear CT HO T2
      rw [HLL.out] at CS
      go_wp2_with fail
      refine CS.mono ?_
      rintro e w3 ⟨rfl, C3⟩
      have B3 := B2.trans (C3.mono B2.size)
      have AL := alive7 w3 (HT.out.below B3 t2)
      clear CS
      go_wp2_with fail
      refine AL.mono ?_
      rintro e w4 ⟨rfl, C4⟩
      have B4 := B3.trans (C4.mono B3.size)
      go_wp2
      go_ret
      exact ⟨rfl, B4⟩
    · have hkb : (kd != 0) = true := by simp [hkd]
      have AL := alive7 w1 (HT.out.below B1 t2)
      clear hkd
      go_wp2_with fail
      refine AL.mono ?_
      rintro e w2 ⟨rfl, B⟩
      have B2 := B1.trans (B.mono B1.size)
      go_wp2
      go_ret
      exact ⟨rfl, B2⟩
end Go.Proofs.YtiabdcejibeciaaDoor

namespace Go.Deep
open Go.ChangeShapes Go.WideShapes
variable {H : Type} {enc : TypeId × Value → H} {P : Program} {w : World} {base : Nat} {spare : Nat → Bool} {held : Bool}

/-- A slice of structs, each field one cell, opened at every index. -/
theorem open_slice_struct {t e : TypeId} {fs : Array Field} {fuel : Nat} {cs : List Value} {x : DataW H × List MemPlace} (ht : P.underlying t = some (.slice e)) (he : P.underlying e = some (.struct fs))
    (ce : P.cellsOf e = fs.size) (off : ∀ (j : Nat) (f : Field), fs[j]? = some f → f.offset = j ∧ P.cellsOf f.type = 1)
    (h : DataW.trod enc P w base spare held fuel t cs = some x) :
    cs = [.slice none 0 0] ∨
    ∃ (a : Addr) (len cap m n : Nat), cs = [.slice (some a) len cap] ∧ len ≤ cap ∧ cap ≤ maxLen ∧ len ≤ m ∧
      ∀ i, i < m → ∀ (j : Nat) (f : Field), fs[j]? = some f → ∃ v y, w.cell? (a.add (i * fs.size + j)) = some v ∧ DataW.trod enc P w base spare held n f.type [v] = some y := by
  rcases open_slice ht h with h0 | ⟨a, len, cap, m, n, D, Pl, rfl, hb, hl, hm, hmm, rfl, hx⟩
  · exact Or.inl h0.1
  right
  have hlm : len ≤ m := by rw [hmm]; split <;> omega
  refine ⟨a, len, cap, m, n - 1, rfl, hl, hm, hlm, fun i hi j f hf => ?_⟩
  obtain ⟨cs', h1, h2⟩ := hx i hi
  rw [ce] at h1
  obtain ⟨_, hlen, hcell⟩ := World.cells?_some h1
  obtain ⟨xs, k, hk, hxy, _, hxl, hfs⟩ := DataW.trod_struct he h2
  have hk' : k = n - 1 := by omega
  subst hk'
  have hj : j < fs.size := (Array.getElem?_eq_some_iff.1 hf).1
  obtain ⟨o, c⟩ := off j f hf
  have g := hfs j f hf
  have e0 := hcell j (by omega)
  rw [add_add] at e0
  have hjc : j < cs'.length := by omega
  have hjx : j < xs.length := by omega
  rw [o, c, List.take_one, List.head?_drop, List.getElem?_eq_getElem hjc, List.getElem?_eq_getElem hjx] at g
  rw [List.getElem?_eq_getElem hjc] at e0
  exact ⟨cs'[j], xs[j], e0, g⟩

end Go.Deep

namespace Go.Proofs.YtiabdcejibeciaaDoor
open Go.RowKit
theorem IL.make {w : World} {a : Addr} {n cap : Nat} (hl : n ≤ cap) (hm : cap ≤ maxLen) (h : ∀ i, i < n → ∃ q : IP, (w.cell? (a.add (i * 2)) = some q.k.val ∧ w.cell? (a.add (i * 2 + 1)) = some q.v.val) ∧ q.ok w) : ∃ its, IL w (some a) n cap its := by
  have : Inhabited IP := ⟨⟨⟨none, 0, 0, []⟩, ⟨none, 0, 0, []⟩⟩⟩
  obtain ⟨z, hz⟩ := Deep.choose_lt h
  refine ⟨(List.range n).map z, by simp, hl, hm, fun h => by simp at h, fun b hb i hi => ?_, fun q hq => ?_⟩
  · obtain rfl := Option.some.inj hb
    have hi' : i < n := by simpa using hi
    simpa using (hz i hi').1
  · obtain ⟨i, hi, rfl⟩ := List.mem_map.1 hq
    exact (hz i (List.mem_range.1 hi)).2
end Go.Proofs.YtiabdcejibeciaaDoor

namespace Go.Proofs.YtiabdcejibeciaaDoor
open Go.RowKit

abbrev laidL : List (String × DataW Unit) := [("unicode/utf8.acceptRanges", Rows.laid_unicode_utf8_acceptRanges), ("bulwark/digest.firstWords", Rows.laid_bulwark_digest_firstWords), ("bulwark/digest.roundWords", Rows.laid_bulwark_digest_roundWords), ("unicode/utf8.first", Rows.laid_unicode_utf8_first)]

theorem gFirst : Tryd.prog.globalNamed "bulwark/digest.firstWords" = some 2 := by kernel_rfl
theorem gRound : Tryd.prog.globalNamed "bulwark/digest.roundWords" = some 1 := by kernel_rfl
theorem tFirst : (Tryd.prog.globals[2]?).map (·.type) = some 151 := by kernel_rfl
theorem tRound : (Tryd.prog.globals[1]?).map (·.type) = some 170 := by kernel_rfl
theorem laidL_plain : (laidL.all fun x => x.2.handleName?.isNone) = true := by kernel_rfl

/-- A world in which the four read so. -/
theorem all_met (os : Os) (args : Array Value) : laidMetH Tryd.prog laidL ((World.laidAll Tryd.prog os laidL).forCall (fun _ _ => 0) ⟨#[], args, []⟩).memory := by
  rw [MakeChecks.laidMetH_plain _ _ _ laidL_plain]
  exact laidMet_laidAll _ (by kernel_rfl) (by kernel_rfl)

/-- An array of words that reads as some numbers has them in its cells. -/
theorem words_of {H : Type} {enc : TypeId × Value → H} {w : World} {base : Nat} {sp : Nat → Bool} {held : Bool} {fuel n : Nat} {t : TypeId} {cs : List Value} {zs : List Int} {p : List MemPlace}
    (ht : Tryd.prog.underlying t = some (.array n 93)) (h : DataW.trod enc Tryd.prog w base sp held fuel t cs = some (.agg (zs.map fun z => .lit (.int .u32 z)), p)) (hz : zs.length = n) :
    ∀ (j : Nat) (v : Value), (wv zs)[j]? = some v → cs[j]? = some v := by
  intro j v hv
  have hj : j < zs.length := by have := (List.getElem?_eq_some_iff.1 hv).1; rwa [wv_length] at this
  rw [wv_get zs j hj] at hv
  obtain rfl := Option.some.inj hv
  obtain ⟨f', d, q, hd, he⟩ := Lib.array_elem ht h j (by omega)
  have c1 : Tryd.prog.cellsOf 93 = 1 := by kernel_rfl
  rw [c1, Nat.mul_one] at he
  obtain ⟨k, e1, e2, _⟩ := DataW.trod_int Tryd.underlying93 he
  simp only [Prod.mk.injEq] at e2
  rw [e2.1] at hd
  simp only [List.getElem?_map, List.getElem?_eq_getElem hj, Option.map_some, Option.some.injEq, DataW.lit.injEq, Lit.int.injEq, true_and] at hd
  have : (cs.drop j)[0]? = some (.int .u32 k) := by
    have := congrArg (fun l : List Value => l[0]?) e1
    simpa [List.getElem?_take] using this
  rw [List.getElem?_drop, Nat.add_zero] at this
  rw [this, ← hd]
  simp [List.getD, hj]

/-- WHAT THE CONDITION GIVES THE WALKS. -/
theorem tabs_of {W : World} (h : laidMetH Tryd.prog laidL W) : Tabs W := by
  rw [MakeChecks.laidMetH_plain _ _ _ laidL_plain] at h
  obtain ⟨ps, ⟨gx, tx, csx, fx, px, qx, _, _, _, _, ⟨g0, t0, cs0, f0, p0, q0, hg0, ht0, hv0, hd0, ⟨g1, t1, cs1, f1, p1, q1, hg1, ht1, hv1, hd1, _, _⟩, _⟩, _⟩, _, _⟩ := h
  obtain rfl := Option.some.inj (gFirst.symm.trans hg0)
  obtain rfl := Option.some.inj (gRound.symm.trans hg1)
  obtain rfl := Option.some.inj (tFirst.symm.trans ht0)
  obtain rfl := Option.some.inj (tRound.symm.trans ht1)
  have hA := words_of (zs := H0) Tryd.underlying151 hd0 rfl
  have hB := words_of (zs := K0) Tryd.underlying170 hd1 rfl
  have cA : ∀ j v, (wv H0)[j]? = some v → W.cell? ⟨2, j, none⟩ = some v := fun j v hv => by
    rw [World.var?_cell hg0 hv0 j]
    simpa using hA j v hv
  refine ⟨cA, fun j v hv => ?_, ?_⟩
  · rw [World.var?_cell hg1 hv1 j]
    simpa using hB j v hv
  · have := block_lt_of_cell (cA 0 _ rfl)
    exact this

end Go.Proofs.YtiabdcejibeciaaDoor

namespace Go.Proofs.YtiabdcejibeciaaDoor
open Go.RowKit

/-- A slice of bytes that came in, as the frame of a proof tells it. -/
theorem Sl.row {w : World} {a : Option Addr} {n cap : Nat} {zs : List Int} (h : (a = none ∧ n = 0 ∧ cap = 0 ∧ zs = []) ∨
    ∃ x, a = some x ∧ n ≤ cap ∧ cap ≤ maxLen ∧ zs.length = cap ∧ (∀ i, i < zs.length → w.cell? (x.add i) = some (.int .u8 (zs.getD i 0))) ∧ ∀ z ∈ zs, (Lit.int .u8 z).wf = true) : Sl w a n cap (zs.take n) := by
  rcases h with ⟨rfl, rfl, rfl, rfl⟩ | ⟨x, rfl, hl, hm, hz, hc, hw⟩
  · exact Sl.nothing w
  · refine ⟨by simp; omega, hl, hm, fun h => by simp at h, fun b hb i hi => ?_, fun z hz => ?_⟩
    · obtain rfl := Option.some.inj hb
      rw [hc i (by omega)]
      simp [List.getD, hi]
    · have := hw z (List.mem_of_mem_take hz)
      simp [Lit.wf, IntKind.min, IntKind.max, IntKind.signed, IntKind.bits] at this
      omega
end Go.Proofs.YtiabdcejibeciaaDoor

/-
  Texts in one: TAlive, RSmall7, UndoneLaw, TOpen, Laid7, RowIn.
-/
import Derived.Test.YtiabdcejibeciaaDoorTreeUndoneZ23
import Derived.Test.YtiabdcejibeciaaDoorTreeUndoneZ31
import Derived.Test.YtiabdcejibeciaaDoorTreeUndoneZ12
import Derived.Lib.SmallJoins
import Derived.Test.YtiabdcejibeciaaDoorTreeUndoneZ8
import Derived.Test.YtiabdcejibeciaaDoorTreeUndoneZ26
import Derived.Deep.Slices
import Derived.Deep.SlicePairs
import Derived.ChangeSame
import Derived.Test.YtiabdcejibeciaaDoorRows
import Derived.Test.YtiabdcejibeciaaDoorTreeUndoneZ0
import Derived.ProofKit
import Derived.LaidMore
import Derived.Lay
import Derived.OpenShut
import Derived.Lib.LaidU8
import Derived.Stop.Joined
namespace Go.Proofs.YtiabdcejibeciaaDoor
open Go.RowKit

theorem one_byte (c : Int) (h : 0 ≤ c ∧ c ≤ 255) : Byt [c] := by
  intro x hx
  rw [List.mem_singleton.1 hx]
  exact h
def aIt : It := ⟨[97], [49]⟩
theorem ins_nil (x : It) : ins [] x = [x] := rfl

set_option maxHeartbeats 4000000 in
set_option maxRecDepth 100000 in
theorem alive7 (w : World) (hT : Tabs w) : Calls Tryd.prog 8 #[] w fun e w' => e = .returned (.bool true) ∧ Below w.heap.size w w' := by
  have h2 := hT.two
  have kc := fun (w : World) (C : Array Value) (n c g : Nat) (hg : g = w.heap.size) => Joins.run_convert_bytes_const_at (P := Tryd.prog) w 26 5 C n c g hg Tryd.underlying26 Tryd.underlying5
  obtain ⟨W1, hW1⟩ : ∃ W, W = w.alloc (.cells #[.int .u8 97] 5 (1, 2)) := ⟨_, rfl⟩
  obtain ⟨W2, hW2⟩ : ∃ W, W = W1.alloc (.cells #[.int .u8 49] 5 (1, 2)) := ⟨_, rfl⟩
  have B1 : Below w.heap.size w W1 := by rw [hW1]; exact (Below.refl _ w).alloc (Nat.le_refl _) _
  have C2 : Below W1.heap.size W1 W2 := by rw [hW2]; exact (Below.refl _ W1).alloc (Nat.le_refl _) _
  have z1 : W1.heap.size = w.heap.size + 1 := by rw [hW1]; simp
  have S1 : Sl W1 (some ⟨w.heap.size, 0, none⟩) 1 1 [97] := by rw [hW1]; exact Sl.const w [97] (1, 2) (one_byte _ (by omega)) (by simp [maxLen])
  have S2 : Sl W2 (some ⟨W1.heap.size, 0, none⟩) 1 1 [49] := by rw [hW2]; exact Sl.const W1 [49] (1, 2) (one_byte _ (by omega)) (by simp [maxLen])
  have S1' := S1.below C2
  have B2 := B1.trans (C2.mono B1.size)
  rw [z1] at S2
  have k1 := kc w #[.int .u8 97] 1 1 w.heap.size rfl
  have k2 := kc W1 #[.int .u8 49] 1 1 (w.heap.size + 1) z1.symm
  have CP := tput_any W2 (.pointer none) [] aIt (some ⟨w.heap.size, 0, none⟩) (some ⟨w.heap.size + 1, 0, none⟩) 1 1 1 1 (hT.below B2 h2) (TT.nil _) List.Pairwise.nil S1' S2 (by omega) (by omega) (by simp) 0 rfl
  go_enter Tryd.func8, Tryd.ntmps8
  go_wp2_with fail
  rw [← hW1, ← hW2]
  clear hW1 hW2 k1 k2 S1 S2 S1' C2 z1 B1
  refine CP.mono ?_
  rintro e w3 ⟨u, rfl, hTT, -, C3⟩
  have hTT := hTT rfl
  rw [ins_nil] at hTT
  have B3 := B2.trans (C3.mono B2.size)
  obtain ⟨b, rfl⟩ : ∃ b, u = some ⟨b, 0, none⟩ := by
    rcases hTT with ⟨-, h⟩ | ⟨b, u', h, -⟩
    · simp at h
    · exact ⟨b, by simpa using h⟩
  clear CP C3 B2
  obtain ⟨W4, hW4⟩ : ∃ W, W = w3.alloc (.cells #[.int .u8 97] 5 (1, 2)) := ⟨_, rfl⟩
  have C4 : Below w3.heap.size w3 W4 := by rw [hW4]; exact (Below.refl _ w3).alloc (Nat.le_refl _) _
  have S4 : Sl W4 (some ⟨w3.heap.size, 0, none⟩) 1 1 [97] := by rw [hW4]; exact Sl.const w3 [97] (1, 2) (one_byte _ (by omega)) (by simp [maxLen])
  have k4 := kc w3 #[.int .u8 97] 1 1 w3.heap.size rfl
  have T4 := hTT.below C4
  have B4 := B3.trans (C4.mono B3.size)
  have CG := tget_any W4 (.pointer (some ⟨b, 0, none⟩)) [aIt] [97] (some ⟨w3.heap.size, 0, none⟩) 1 1 T4 (Srt.one _) S4 (by simp) (by intro x hx; rw [List.mem_singleton.1 hx]; simp [aIt])
  go_wp2_with fail
  rw [← hW4]
  clear hW4 k4 S4 C4 B3 hTT
  refine CG.mono ?_
  rintro e w5 ⟨qo, qn, qc, bb, rfl, hyes, hno, C5⟩
  cases bb with
  | false => exact absurd ⟨aIt, List.mem_singleton.2 rfl, rfl⟩ (hno rfl).1
  | true =>
  obtain ⟨x, hx, -, S5⟩ := hyes rfl
  rw [List.mem_singleton.1 hx] at S5
  have S5 : Sl w5 qo qn qc [49] := S5
  have B5 := B4.trans (C5.mono B4.size)
  have T5 := T4.below C5
  clear CG hyes hno hx C5 B4 T4
  have CR := rootNil_any w5 (hT.below B5 h2)
  go_wp2_with fail
  refine CR.mono ?_
  rintro e w6 ⟨v6, rfl, o6, C6⟩
  obtain ⟨ro, rc, rfl, S6, -⟩ := Sl.own o6 (sumL_byte _)
  have B6 := B5.trans (C6.mono B5.size)
  have S5 := S5.below C6
  have T6 := T5.below C6
  clear CR o6 C6 B5 T5
  obtain ⟨W7, hW7⟩ : ∃ W, W = w6.alloc (.cells #[.int .u8 101, .int .u8 109, .int .u8 112, .int .u8 116, .int .u8 121] 5 (5, 6)) := ⟨_, rfl⟩
  have C7 : Below w6.heap.size w6 W7 := by rw [hW7]; exact (Below.refl _ w6).alloc (Nat.le_refl _) _
  have S7 : Sl W7 (some ⟨w6.heap.size, 0, none⟩) 5 5 emptyL := by rw [hW7]; exact Sl.const w6 emptyL (5, 6) emptyL_byte (by simp [emptyL, maxLen])
  have k7 := kc w6 #[.int .u8 101, .int .u8 109, .int .u8 112, .int .u8 116, .int .u8 121] 5 5 w6.heap.size rfl
  have B7 := B6.trans (C7.mono B6.size)
  have S6 := S6.below C7
  have S5 := S5.below C7
  have T7 := T6.below C7
  have CM := rsum_any W7 (some ⟨w6.heap.size, 0, none⟩) 5 5 emptyL S7 (by omega)
  go_wp2_with fail
  rw [← hW7]
  clear hW7 k7 C7 B6 T6
  refine CM.mono ?_
  rintro e w8 ⟨v8, rfl, o8, C8⟩
  obtain ⟨so, sc, rfl, S8, -⟩ := Sl.own o8 (sumL_byte _)
  have B8 := B7.trans (C8.mono B7.size)
  have S6 := S6.below C8
  have S5 := S5.below C8
  have T8 := T7.below C8
  clear CM o8 C8 B7 T7
  have CE := same_any w8 ro so 32 rc 32 sc _ _ S6 S8
  rw [decide_eq_true rfl] at CE
  go_wp2_with fail
  refine CE.mono ?_
  rintro e w9 ⟨rfl, q9, rfl⟩
  have E9 := below_drewN w8 q9 w8.heap.size
  have B9 := B8.trans (E9.mono B8.size)
  have S5 := S5.below E9
  have T9 := T8.below E9
  have cv := conv_str S5
  have hst : strOfNums [49] = ⟨#[49]⟩ := rfl
  rw [hst] at cv
  clear CE E9 B8 T8 S6 S8 hst
  obtain ⟨w9, hw9⟩ : ∃ W, W = w8.drewN q9 := ⟨_, rfl⟩
  rw [← hw9] at B9 S5 T9 cv ⊢
  clear hw9
  have CL := len_any w9 _ _ T9 (Srt.one _) (by simp)
  go_wp2_with fail
  refine CL.mono ?_
  rintro e w10 ⟨rfl, C10⟩
  have B10 := B9.trans (C10.mono B9.size)
  clear CL C10 B9 cv
  have CL := len_any w10 (.pointer none) [] (TT.nil _) List.Pairwise.nil (by simp)
  go_wp2_with fail
  refine CL.mono ?_
  rintro e w11 ⟨rfl, C11⟩
  have B11 := B10.trans (C11.mono B10.size)
  go_wp2
  go_ret
  exact ⟨rfl, B11⟩
end Go.Proofs.YtiabdcejibeciaaDoor

namespace Go.Proofs.YtiabdcejibeciaaDoor
open Go.RowKit

/-- Few and short. -/
def ligQ (q : IP) : Bool := decide (q.k.n ≤ 300) && decide (q.v.n ≤ 1100)
def ligB (its : List IP) (m : Int) : Bool := decide ((its.length : Int) ≤ m) && its.all ligQ

set_option maxHeartbeats 1000000 in
set_option maxRecDepth 100000 in
theorem light7_any (w : World) (ao : Option Addr) (n cap : Nat) (its : List IP) (m : Int) (h : IL w ao n cap its) :
    Calls Tryd.prog 7 #[.slice ao n cap, .int .i64 m] w fun e w' => e = .returned (.bool (ligB its m)) ∧ w' = w := by
  have hl1 := Nat.le_of_eq h.len
  have hl2 := Nat.le_of_eq h.len.symm
  have hmx := h.mx
  have hle := h.le
  have hnx : (n : Int) ≤ 9223372036854775807 := by unfold maxLen at hmx; omega
  by_cases hm : (n : Int) > m
  · have HR : Hid (ligB its m = false) := by show _ = _; simp only [ligB, Bool.and_eq_false_imp]; intro e; have := of_decide_eq_true e; omega
    go_enter Tryd.func7, Tryd.ntmps7
    go_wp2
    go_ret
    rw [HR.out]
    exact ⟨rfl, rfl⟩
  go_enter Tryd.func7, Tryd.ntmps7
  go_wp2
  go_loopw [5] (fun i wr => ∃ k : Nat, k ≤ n ∧ i = .int .i64 k ∧ (∀ q ∈ its.take k, ligQ q = true) ∧ w = wr) (fun i _ => n - (intOf i).toNat)
  case atStart => exact ⟨0, Nat.zero_le _, rfl, by simp, rfl⟩
  case round =>
    obtain ⟨k, hk, rfl, hj, rfl⟩ := hrel
    have HJ : Hid (∀ q ∈ its.take k, ligQ q = true) := hj
    clear hj
    by_cases hlt : k < n
    · have hki : (k : Int) < (n : Int) := by omega
      have hkl : k < its.length := by omega
      obtain ⟨b, off, rfl, hc⟩ := h.at (by omega)
      obtain ⟨c1, c2⟩ := hc k hkl
      have HM : Hid (its[k] ∈ its) := List.getElem_mem hkl
      have HT : Hid (its.take (k + 1) = its.take k ++ [its[k]]) := List.take_succ_eq_append_getElem hkl
      obtain ⟨q, hqe⟩ : ∃ q, q = its[k] := ⟨_, rfl⟩
      rw [← hqe] at c1 c2 HM HT
      unfold Part.val at c1 c2
      clear hc hqe
      have bad : ligQ q = false → ligB its m = false := fun e => by
        simp only [ligB, Bool.and_eq_false_imp]
        intro _
        rw [List.all_eq_false]
        exact ⟨q, HM.out, by simp [e]⟩
      have BAD : Hid (ligQ q = false → ligB its m = false) := bad
      clear bad
      by_cases h1 : 300 < q.k.n
      · have h1' : (q.k.n : Int) > 300 := by omega
        have HR : Hid (ligB its m = false) := BAD.out (by simp [ligQ]; omega)
        go_wp2
        go_ret
        rw [HR.out]
        exact ⟨rfl, rfl⟩
      have h1' : ¬ (q.k.n : Int) > 300 := by omega
      by_cases h2 : 1100 < q.v.n
      · have h2' : (q.v.n : Int) > 1100 := by omega
        have HR : Hid (ligB its m = false) := BAD.out (by simp [ligQ]; omega)
        go_wp2
        go_ret
        rw [HR.out]
        exact ⟨rfl, rfl⟩
      have h2' : ¬ (q.v.n : Int) > 1100 := by omega
      go_wp2
      go_roundw
      case rel =>
        refine ⟨k + 1, by omega, by go_num, fun r hr => ?_, by first | rfl | trivial⟩
        rw [HT.out] at hr
        rcases List.mem_append.1 hr with hr | hr
        · exact HJ.out r hr
        · rw [List.mem_singleton.1 hr]
          simp [ligQ]
          omega
      case measure => simp [intOf]; omega
    · have hge : ¬ (k : Int) < (n : Int) := by omega
      have HR : Hid (ligB its m = true) := by
        show _ = _
        simp only [ligB, Bool.and_eq_true]
        refine ⟨decide_eq_true (by omega), List.all_eq_true.2 fun q hq => HJ.out q ?_⟩
        rw [List.take_of_length_le (by omega)]
        exact hq
      go_wp2
      go_ret
      rw [HR.out]
      exact ⟨rfl, rfl⟩

end Go.Proofs.YtiabdcejibeciaaDoor

namespace Go.Proofs.YtiabdcejibeciaaDoor
open Go.RowKit

theorem lo_ins (l : List It) (x : It) : lo x.k (ins l x) = lo x.k l := by
  unfold ins
  rw [lo_append, lo_all (fun y hy => (mem_lo.1 hy).2)]
  have : lo x.k (x :: hi x.k l) = [] := lo_none fun y hy => by
    rcases List.mem_cons.1 hy with rfl | hy
    · exact cmpL_irr _
    · exact cmpL_asym (mem_hi.1 hy).2
  rw [this, List.append_nil]
theorem hi_ins (l : List It) (x : It) : hi x.k (ins l x) = hi x.k l := by
  unfold ins
  rw [hi_append]
  have h1 : hi x.k (lo x.k l) = [] := hi_none fun y hy => cmpL_asym (mem_lo.1 hy).2
  have h2 : hi x.k (x :: hi x.k l) = hi x.k l := by
    have : hi x.k (x :: hi x.k l) = hi x.k (hi x.k l) := by
      unfold hi
      rw [List.filter_cons, if_neg (by simpa using cmpL_irr x.k)]
    rw [this, hi_all fun y hy => (mem_hi.1 hy).2]
  rw [h1, h2, List.nil_append]
theorem del_ins (l : List It) (x : It) : del (ins l x) x.k = del l x.k := by
  unfold del
  rw [lo_ins, hi_ins]
theorem ins_del (l : List It) (x : It) : ins (del l x.k) x = ins l x := by
  have h1 : lo x.k (del l x.k) = lo x.k l := by
    unfold del
    rw [lo_append, lo_all (fun y hy => (mem_lo.1 hy).2), lo_none (fun y hy => cmpL_asym (mem_hi.1 hy).2), List.append_nil]
  have h2 : hi x.k (del l x.k) = hi x.k l := by
    unfold del
    rw [hi_append, hi_none (fun y hy => cmpL_asym (mem_lo.1 hy).2), hi_all (fun y hy => (mem_hi.1 hy).2), List.nil_append]
  show lo x.k (del l x.k) ++ x :: hi x.k (del l x.k) = _
  rw [h1, h2]
  rfl
theorem ins_ins (l : List It) (x : It) : ins (ins l x) x = ins l x := by
  show lo x.k (ins l x) ++ x :: hi x.k (ins l x) = _
  rw [lo_ins, hi_ins]
  rfl
theorem has_ins (l : List It) (x : It) : has x.k (ins l x) := ⟨x, List.mem_append_right _ (List.mem_cons_self ..), rfl⟩
theorem ins_self {l : List It} (h : Srt l) {x : It} (hx : x ∈ l) : ins l x = l := by
  obtain ⟨a, b, rfl⟩ := List.append_of_mem hx
  have h1 := h.app
  have h2 := h1.2.1.cons
  have e1 : lo x.k (a ++ x :: b) = a := by
    rw [lo_append, lo_all (fun y hy => h1.2.2 y hy x (List.mem_cons_self ..))]
    have : lo x.k (x :: b) = [] := lo_none fun y hy => by
      rcases List.mem_cons.1 hy with rfl | hy
      · exact cmpL_irr _
      · exact cmpL_asym (h2.1 y hy)
    rw [this, List.append_nil]
  have e2 : hi x.k (a ++ x :: b) = b := by
    rw [hi_append, hi_none (fun y hy => cmpL_asym (h1.2.2 y hy x (List.mem_cons_self ..)))]
    have : hi x.k (x :: b) = hi x.k b := by
      unfold hi
      rw [List.filter_cons, if_neg (by simpa using cmpL_irr x.k)]
    rw [this, hi_all h2.1, List.nil_append]
  show lo x.k _ ++ x :: hi x.k _ = _
  rw [e1, e2]
theorem ins_mem {l : List It} {x y : It} (h : y ∈ ins l x) : y = x ∨ y ∈ l := by
  rcases List.mem_append.1 h with h | h
  · exact .inr (mem_lo.1 h).1
  · rcases List.mem_cons.1 h with h | h
    · exact .inl h
    · exact .inr (mem_hi.1 h).1
theorem ins_len (l : List It) (x : It) : (ins l x).length ≤ l.length + 1 := by
  unfold ins
  rw [List.length_append, List.length_cons]
  have key : (lo x.k l).length + (hi x.k l).length ≤ l.length := by
    induction l with
    | nil => simp [lo, hi]
    | cons y l ih =>
      unfold lo hi at ih ⊢
      rw [List.filter_cons, List.filter_cons]
      by_cases h1 : cmpL y.k x.k < 0
      · rw [if_pos (decide_eq_true h1), if_neg (by simpa using cmpL_asym h1)]
        simp only [List.length_cons]
        omega
      · rw [if_neg (by simpa using h1)]
        split
        · simp only [List.length_cons]
          omega
        · simp only [List.length_cons]
          omega
  omega
theorem del_len (l : List It) (k : List Int) : (del l k).length ≤ l.length := by
  have h := ins_len (l := l) (x := ⟨k, []⟩)
  unfold del
  unfold ins at h
  rw [List.length_append, List.length_cons] at h
  rw [List.length_append]
  have h1 : (lo k l).length + ((hi k l).length + 1) ≤ l.length + 1 := h
  omega
theorem jL_keep7 : ∀ (its : List IP), jL its 4 ≠ 0
  | [] => by decide
  | q :: its => by
    unfold jL
    split
    · decide
    · split
      · exact jL_keep7 its
      · exact jL_keep7 its
theorem jL_sz7 : ∀ (its : List IP), jL its 0 = 0 → ∀ q ∈ its, 1 ≤ q.k.n ∧ q.k.n ≤ 256 ∧ q.v.n ≤ 1024
  | [], _ => by simp
  | q :: its, h => by
    unfold jL at h
    by_cases hb : badK q.k.n = true
    · rw [if_pos hb] at h
      exact absurd h (by decide)
    · rw [if_neg hb] at h
      by_cases hv : 1024 < q.v.n
      · rw [if_pos hv] at h
        exact absurd h (jL_keep7 its)
      · rw [if_neg hv] at h
        intro y hy
        rcases List.mem_cons.1 hy with rfl | hy
        · have : ¬ (y.k.n < 1 ∨ 256 < y.k.n) := by simpa [badK] using hb
          omega
        · exact jL_sz7 its h y hy
theorem jL_one {q : IP} (h : 1 ≤ q.k.n ∧ q.k.n ≤ 256 ∧ q.v.n ≤ 1024) : jL [q] 0 = 0 := by
  have e : badK q.k.n = false := by simp [badK]; omega
  rw [jL, e, if_neg (by simp), if_neg (show ¬ 1024 < q.v.n by omega)]
  rfl
/-- Two roots of the same items. -/
theorem same_roots {w w2 : World} {l : List It} {ao bo : Option Addr} {c d : Nat} (h1 : SlT w ⟨ao, 32, c, hashI l⟩) (h2 : SlT w2 ⟨bo, 32, d, hashI l⟩) (hb : Below w.heap.size w w2) : Calls Tryd.prog 14 #[.slice ao 32 c, .slice bo 32 d] w2 fun e w' => e = .returned (.bool true) ∧ Below w2.heap.size w2 w' := by
  have := same_any w2 ao bo 32 c 32 d _ _ (h1.1.below hb) h2.1
  rw [decide_eq_true rfl] at this
  refine this.mono ?_
  rintro e w' ⟨rfl, q, rfl⟩
  exact ⟨rfl, below_drewN _ _ _⟩

set_option maxHeartbeats 8000000 in
set_option maxRecDepth 100000 in
theorem treeUndone_any (W : World) (a0 a1 a2 : Option Addr) (n0 c0 n1 c1 n2 c2 : Nat) (its : List IP) (key val : List Int) (h0 : IL W a0 n0 c0 its) (s1 : Sl W a1 n1 c1 key) (s2 : Sl W a2 n2 c2 val) (hT : Tabs W) :
    Calls Tryd.prog 4 #[.slice a0 n0 c0, .slice a1 n1 c1, .slice a2 n2 c2] W fun e w' => e = .returned (.bool true) ∧ Below W.heap.size W w' := by
  have t2 := hT.two
  have CL := light7_any W a0 n0 c0 its 16 h0
  have AL := alive7 W hT
  obtain ⟨lb, hlb⟩ : ∃ b, b = ligB its 16 := ⟨_, rfl⟩
  have HLB : Hid (lb = ligB its 16) := hlb
  rw [← hlb] at CL
  have HT : Hid (Tabs W) := hT
  clear hlb
  go_enter Tryd.func4, Tryd.ntmps4
  go_wp2_with fail
  refine CL.mono ?_
  rintro e w' ⟨rfl, hw⟩
  obtain rfl := hw.symm
  clear CL
  cases lb with
  | false =>
    clear hT
    go_wp2_with fail
    refine AL.mono ?_
    rintro e w2 ⟨rfl, B⟩
    go_wp2
    go_ret
    exact ⟨rfl, B⟩
  | true =>
    by_cases q1 : (256 : Int) < (n1 : Int)
    · clear hT
      go_wp2_with fail
      refine AL.mono ?_
      rintro e w2 ⟨rfl, B⟩
      go_wp2
      go_ret
      exact ⟨rfl, B⟩
    by_cases q2 : (n1 : Int) < 1
    · clear hT
      go_wp2_with fail
      refine AL.mono ?_
      rintro e w2 ⟨rfl, B⟩
      go_wp2
      go_ret
      exact ⟨rfl, B⟩
    by_cases q3 : (1024 : Int) < (n2 : Int)
    · clear hT
      go_wp2_with fail
      refine AL.mono ?_
      rintro e w2 ⟨rfl, B⟩
      go_wp2
      go_ret
      exact ⟨rfl, B⟩
    clear AL
    have hlig : its.length ≤ 16 ∧ ∀ q ∈ its, q.k.n ≤ 300 ∧ q.v.n ≤ 1100 := by
      have h := HLB.out.symm
      unfold ligB ligQ at h
      simp only [Bool.and_eq_true, decide_eq_true_eq, List.all_eq_true] at h
      exact ⟨by omega, h.2⟩
    have hn0 : n0 ≤ 16 := by have := hlig.1; have := h0.len; omega
    have HLG : Hid (∀ q ∈ its, q.k.n ≤ 300 ∧ q.v.n ≤ 1100) := hlig.2
    have HLN : Hid (its.length ≤ 16) := hlig.1
    have l1 := s1.len
    have l2 := s2.len
    have CM := tmake_any W a0 n0 c0 its hT h0 (by omega) (fun q hq => by have := HLG.out q hq; omega)
    clear hT hlig
    go_wp2_with fail
    refine CM.mono ?_
    rintro e w1 ⟨u, kd, rfl, B1, hp⟩
    clear CM
    rcases hp with ⟨rfl, hj0, l, hperm, hsrt, TT1⟩ | ⟨hkd, -, -⟩
    · have hll : l.length ≤ 16 := by have := hperm.length_eq; rw [List.length_map] at this; have := HLN.out; omega
      have hlz : ∀ x ∈ l, x.k.length ≤ 256 ∧ x.v.length ≤ 1024 ∧ 1 ≤ x.k.length := fun x hx => by
        obtain ⟨q, hq, rfl⟩ := List.mem_map.1 (hperm.mem_iff.1 hx)
        have h3 := jL_sz7 its hj0 q hq
        have h5 := (h0.sl q hq).1.len
        have h6 := (h0.sl q hq).2.len
        exact ⟨by show q.k.xs.length ≤ _; omega, by show q.v.xs.length ≤ _; omega, by show 1 ≤ q.k.xs.length; omega⟩
      have HS : Hid (Srt l) := hsrt
      have HLZ : Hid (∀ x ∈ l, x.k.length ≤ 256 ∧ x.v.length ≤ 1024 ∧ 1 ≤ x.k.length) := hlz
      have HSZ : Hid (Szs l) := ⟨by omega, fun x hx => by have := hlz x hx; omega⟩
      obtain ⟨y, hy⟩ : ∃ y : It, y = ⟨key, val⟩ := ⟨_, rfl⟩
      have HY : Hid (y = ⟨key, val⟩) := hy
      have HSI : Hid (Szs (ins l y)) := ⟨by have := ins_len l y; omega, fun x hx => by
        rcases ins_mem hx with rfl | hx
        · rw [hy]
          exact ⟨by show key.length ≤ _; omega, by show val.length ≤ _; omega⟩
        · have := hlz x hx; omega⟩
      have hil : (ins l y).length ≤ 17 := by have := ins_len l y; omega
      clear hperm hsrt hj0 hlz hy
      have CG := tget_any w1 (.pointer u) l key a1 n1 c1 TT1 HS.out (s1.below B1) (by omega) (fun x hx => by have := HLZ.out x hx; omega)
      go_wp2_with fail
      refine CG.mono ?_
      rintro e w2 ⟨qo, qn, qc, had, rfl, hyes, hno, C2⟩
      have B2 := B1.trans (C2.mono B1.size)
      have TT2 := TT1.below C2
      clear CG TT1 C2
      have hyk : y.k = key := by rw [HY.out]
      have hyv : y.v = val := by rw [HY.out]
      have CP := tput_any w2 (.pointer u) l y a1 a2 n1 c1 n2 c2 (HT.out.below B2 t2) TT2 HS.out (by rw [hyk]; exact s1.below B2) (by rw [hyv]; exact s2.below B2) (by omega) (by omega) (by omega) 0 (jL_one ⟨by show 1 ≤ n1; omega, by show n1 ≤ 256; omega, by show n2 ≤ 1024; omega⟩)
      have HYK : Hid (y.k = key ∧ y.v = val) := ⟨hyk, hyv⟩
      clear hyk hyv
      have HYES : Hid (had = true → ∃ x ∈ l, x.k = key ∧ Sl w2 qo qn qc x.v) := hyes
      have HNOT : Hid (had = false → ¬ has key l) := fun h => (hno h).1
      clear hyes hno
      go_wp2_with fail
      refine CP.mono ?_
      rintro e w3 ⟨u3, rfl, hT3, -, C3⟩
      have TU := hT3 rfl
      have B3 := B2.trans (C3.mono B2.size)
      have TT3 := TT2.below C3
      have HSU : Hid (Srt (ins l y)) := HS.out.ofIns y
      clear CP hT3 TT2
      have CD := tdel_any w3 (.pointer u3) (ins l y) key a1 n1 c1 TU HSU.out (s1.below B3) (by omega)
      have HC3 : Hid (Below w2.heap.size w2 w3) := C3
      clear C3
      go_wp2_with fail
      refine CD.mono ?_
      rintro e w4 ⟨u4, is4, rfl, hy4, hn4, C4⟩
      have hK4 : is4 = true := by
        cases is4 with
        | true => rfl
        | false =>
          have := has_ins l y
          rw [HYK.out.1] at this
          exact absurd this (hn4 rfl).1
      subst hK4
      have TV := (hy4 rfl).2
      rw [← HYK.out.1, del_ins, HYK.out.1] at TV
      have B4 := B3.trans (C4.mono B3.size)
      have TT4 := TT3.below C4
      have TU4 := TU.below C4
      have HC4 : Hid (Below w2.heap.size w2 w4) := HC3.out.trans (C4.mono HC3.out.size)
      clear CD hy4 hn4 TT3 TU C4 HC3
      cases had with
      | true =>
        obtain ⟨x, hx, hxk, SX⟩ := HYES.out rfl
        have hxz := HLZ.out x hx
        have SX4 := SX.below HC4.out
        have lx := SX.len
        have CP := tput_any w4 (.pointer u4) (del l key) x a1 qo n1 c1 qn qc (HT.out.below B4 t2) TV (HS.out.ofDel key) (by rw [hxk]; exact s1.below B4) SX4 (by omega) (by omega) (by have : (del l key).length ≤ l.length := del_len l key; omega) 0 (jL_one ⟨by show 1 ≤ n1; omega, by show n1 ≤ 256; omega, by show qn ≤ 1024; omega⟩)
        have hEQ : ins (del l key) x = l := by
          rw [← hxk, ins_del, ins_self HS.out hx]
        have HEQ : Hid (ins (del l key) x = l) := hEQ
        have HH : Hid (has key l) := ⟨x, hx, hxk⟩
        clear hEQ hxz SX SX4 lx hx hxk TV
        go_wp2_with fail
        refine CP.mono ?_
        rintro e w5 ⟨u5, rfl, hT5, -, C5⟩
        have TV5 := hT5 rfl
        rw [HEQ.out] at TV5
        have B5 := B4.trans (C5.mono B4.size)
        have TT5 := TT4.below C5
        have TU5 := TU4.below C5
        clear CP hT5 TT4 TU4 C5
        have CD := tdel_any w5 (.pointer u) l key a1 n1 c1 TT5 HS.out (s1.below B5) (by omega)
        go_wp2_with fail
        refine CD.mono ?_
        rintro e w6 ⟨u6, is6, rfl, -, hn6, C6⟩
        have hK6 : is6 = true := by
          cases is6 with
          | true => rfl
          | false => exact absurd HH.out (hn6 rfl).1
        subst hK6
        have B6 := B5.trans (C6.mono B5.size)
        have TT6 := TT5.below C6
        have TU6 := TU5.below C6
        have TV6 := TV5.below C6
        clear CD hn6 TT5 TU5 TV5 C6
        go_wp2_with fail
        have CP6 := tput_any w6 (.pointer u3) (ins l y) y a1 a2 n1 c1 n2 c2 (HT.out.below B6 t2) TU6 HSU.out (by rw [HYK.out.1]; exact s1.below B6) (by rw [HYK.out.2]; exact s2.below B6) (by omega) (by omega) (by omega) 0 (jL_one ⟨by show 1 ≤ n1; omega, by show n1 ≤ 256; omega, by show n2 ≤ 1024; omega⟩)
        refine CP6.mono ?_
        rintro e w7 ⟨u7, rfl, hT7, -, C7⟩
        have TY7 := hT7 rfl
        rw [ins_ins] at TY7
        have B7 := B6.trans (C7.mono B6.size)
        have TT7 := TT6.below C7
        have TU7 := TU6.below C7
        have TV7 := TV6.below C7
        clear CP6 hT7 TT6 TU6 TV6 C7
        have CR := root_any w7 (.pointer u5) l TV7 (HT.out.below B7 t2) HSZ.out
        go_wp2_with fail
        refine CR.mono ?_
        rintro e w8 ⟨r8, rc8, rfl, S8, C8⟩
        have B8 := B7.trans (C8.mono B7.size)
        have CR := root_any w8 (.pointer u) l (TT7.below C8) (HT.out.below B8 t2) HSZ.out
        go_wp2_with fail
        refine CR.mono ?_
        rintro e w9 ⟨r9, rc9, rfl, S9, C9⟩
        have B9 := B8.trans (C9.mono B8.size)
        have CE := same_roots S8 S9 C9
        clear CR
        go_wp2_with fail
        refine CE.mono ?_
        rintro e w10 ⟨rfl, C10⟩
        have B10 := B9.trans (C10.mono B9.size)
        have E10 : Below w7.heap.size w7 w10 := C8.trans ((C9.mono C8.size).trans (C10.mono (by have := C8.size; have := C9.size; omega)))
        have TT10 := TT7.below E10
        have TU10 := TU7.below E10
        have TV10 := TV7.below E10
        have TY10 := TY7.below E10
        clear CE S8 S9 C8 C9 C10 E10 TT7 TU7 TV7 TY7
        have CR := root_any w10 (.pointer u7) (ins l y) TY10 (HT.out.below B10 t2) HSI.out
        go_wp2_with fail
        refine CR.mono ?_
        rintro e w11 ⟨r11, rc11, rfl, S11, C11⟩
        have B11 := B10.trans (C11.mono B10.size)
        have CR := root_any w11 (.pointer u3) (ins l y) (TU10.below C11) (HT.out.below B11 t2) HSI.out
        go_wp2_with fail
        refine CR.mono ?_
        rintro e w12 ⟨r12, rc12, rfl, S12, C12⟩
        have B12 := B11.trans (C12.mono B11.size)
        have CE := same_roots S11 S12 C12
        clear CR
        go_wp2_with fail
        refine CE.mono ?_
        rintro e w13 ⟨rfl, C13⟩
        have B13 := B12.trans (C13.mono B12.size)
        have E13 : Below w10.heap.size w10 w13 := C11.trans ((C12.mono C11.size).trans (C13.mono (by have := C11.size; have := C12.size; omega)))
        have TT13 := TT10.below E13
        have TV13 := TV10.below E13
        clear CE S11 S12 C11 C12 C13 E13 TT10 TU10 TV10 TY10
        have CN := len_any w13 (.pointer u5) l TV13 HS.out (by omega)
        go_wp2_with fail
        refine CN.mono ?_
        rintro e w14 ⟨rfl, C14⟩
        have B14 := B13.trans (C14.mono B13.size)
        have CN := len_any w14 (.pointer u) l (TT13.below C14) HS.out (by omega)
        go_wp2_with fail
        refine CN.mono ?_
        rintro e w15 ⟨rfl, C15⟩
        have B15 := B14.trans (C15.mono B14.size)
        have AL := alive7 w15 (HT.out.below B15 t2)
        have hee : (((l.length : Nat) : Int) == ((l.length : Nat) : Int)) = true := by simp
        clear CN
        go_wp2_with fail
        refine AL.mono ?_
        rintro e w16 ⟨rfl, C16⟩
        have B16 := B15.trans (C16.mono B15.size)
        go_wp2
        go_ret
        exact ⟨rfl, B16⟩
      | false =>
        have hno : ¬ has key l := HNOT.out rfl
        rw [del_none HS.out hno] at TV
        have HH : Hid (¬ has key l) := hno
        clear hno
        have CD := tdel_any w4 (.pointer u) l key a1 n1 c1 TT4 HS.out (s1.below B4) (by omega)
        go_wp2_with fail
        refine CD.mono ?_
        rintro e w5 ⟨u6, is6, rfl, hy6, hn6, C5⟩
        have hK6 : is6 = false := by
          cases is6 with
          | false => rfl
          | true => exact absurd (hy6 rfl).1 HH.out
        subst hK6
        have hu6 : Value.pointer u = .pointer u6 := (hn6 rfl).2
        obtain rfl : u = u6 := by simpa using hu6
        have B5 := B4.trans (C5.mono B4.size)
        have TT5 := TT4.below C5
        have TU5 := TU4.below C5
        have TV5 := TV.below C5
        have CR := root_any w5 (.pointer u) l TT5 (HT.out.below B5 t2) HSZ.out
        clear CD hy6 hn6 TT4 TU4 TV C5 hu6
        go_wp2_with fail
        refine CR.mono ?_
        rintro e wa ⟨ra, rca, rfl, SA, CA⟩
        have BA := B5.trans (CA.mono B5.size)
        have CR2 := root_any wa (.pointer u) l (TT5.below CA) (HT.out.below BA t2) HSZ.out
        clear CR
        go_wp2_with fail
        refine CR2.mono ?_
        rintro e wb ⟨rb, rcb, rfl, SB, CB⟩
        have BB := BA.trans (CB.mono BA.size)
        have CE := same_roots SA SB CB
        clear CR2
        go_wp2_with fail
        refine CE.mono ?_
        rintro e w6 ⟨rfl, C6⟩
        have B6 := BB.trans (C6.mono BB.size)
        have E56 : Below w5.heap.size w5 w6 := CA.trans ((CB.mono CA.size).trans (C6.mono (by have := CA.size; have := CB.size; omega)))
        have TT6 := TT5.below E56
        have TU6 := TU5.below E56
        have TV6 := TV5.below E56
        clear CE SA SB CA CB C6 TT5 TU5 TV5 E56
        go_wp2_with fail
        have CP6 := tput_any w6 (.pointer u3) (ins l y) y a1 a2 n1 c1 n2 c2 (HT.out.below B6 t2) TU6 HSU.out (by rw [HYK.out.1]; exact s1.below B6) (by rw [HYK.out.2]; exact s2.below B6) (by omega) (by omega) (by omega) 0 (jL_one ⟨by show 1 ≤ n1; omega, by show n1 ≤ 256; omega, by show n2 ≤ 1024; omega⟩)
        refine CP6.mono ?_
        rintro e w7 ⟨u7, rfl, hT7, -, C7⟩
        have TY7 := hT7 rfl
        rw [ins_ins] at TY7
        have B7 := B6.trans (C7.mono B6.size)
        have TT7 := TT6.below C7
        have TU7 := TU6.below C7
        have TV7 := TV6.below C7
        clear CP6 hT7 TT6 TU6 TV6 C7
        have CR := root_any w7 (.pointer u4) l TV7 (HT.out.below B7 t2) HSZ.out
        go_wp2_with fail
        refine CR.mono ?_
        rintro e w8 ⟨r8, rc8, rfl, S8, C8⟩
        have B8 := B7.trans (C8.mono B7.size)
        have CR := root_any w8 (.pointer u) l (TT7.below C8) (HT.out.below B8 t2) HSZ.out
        go_wp2_with fail
        refine CR.mono ?_
        rintro e w9 ⟨r9, rc9, rfl, S9, C9⟩
        have B9 := B8.trans (C9.mono B8.size)
        have CE := same_roots S8 S9 C9
        clear CR
        go_wp2_with fail
        refine CE.mono ?_
        rintro e w10 ⟨rfl, C10⟩
        have B10 := B9.trans (C10.mono B9.size)
        have E10 : Below w7.heap.size w7 w10 := C8.trans ((C9.mono C8.size).trans (C10.mono (by have := C8.size; have := C9.size; omega)))
        have TT10 := TT7.below E10
        have TU10 := TU7.below E10
        have TV10 := TV7.below E10
        have TY10 := TY7.below E10
        clear CE S8 S9 C8 C9 C10 E10 TT7 TU7 TV7 TY7
        have CR := root_any w10 (.pointer u7) (ins l y) TY10 (HT.out.below B10 t2) HSI.out
        go_wp2_with fail
        refine CR.mono ?_
        rintro e w11 ⟨r11, rc11, rfl, S11, C11⟩
        have B11 := B10.trans (C11.mono B10.size)
        have CR := root_any w11 (.pointer u3) (ins l y) (TU10.below C11) (HT.out.below B11 t2) HSI.out
        go_wp2_with fail
        refine CR.mono ?_
        rintro e w12 ⟨r12, rc12, rfl, S12, C12⟩
        have B12 := B11.trans (C12.mono B11.size)
        have CE := same_roots S11 S12 C12
        clear CR
        go_wp2_with fail
        refine CE.mono ?_
        rintro e w13 ⟨rfl, C13⟩
        have B13 := B12.trans (C13.mono B12.size)
        have E13 : Below w10.heap.size w10 w13 := C11.trans ((C12.mono C11.size).trans (C13.mono (by have := C11.size; have := C12.size; omega)))
        have TT13 := TT10.below E13
        have TV13 := TV10.below E13
        clear CE S11 S12 C11 C12 C13 E13 TT10 TU10 TV10 TY10
        have CN := len_any w13 (.pointer u4) l TV13 HS.out (by omega)
        go_wp2_with fail
        refine CN.mono ?_
        rintro e w14 ⟨rfl, C14⟩
        have B14 := B13.trans (C14.mono B13.size)
        have CN := len_any w14 (.pointer u) l (TT13.below C14) HS.out (by omega)
        go_wp2_with fail
        refine CN.mono ?_
        rintro e w15 ⟨rfl, C15⟩
        have B15 := B14.trans (C15.mono B14.size)
        have AL := alive7 w15 (HT.out.below B15 t2)
        have hee : (((l.length : Nat) : Int) == ((l.length : Nat) : Int)) = true := by simp
        clear CN
        go_wp2_with fail
        refine AL.mono ?_
        rintro e w16 ⟨rfl, C16⟩
        have B16 := B15.trans (C16.mono B15.size)
        go_wp2
        go_ret
        exact ⟨rfl, B16⟩
    · have hkb : (kd != 0) = true := by simp [hkd]
      have AL := alive7 w1 (HT.out.below B1 t2)
      clear hkd
      go_wp2_with fail
      refine AL.mono ?_
      rintro e w2 ⟨rfl, B⟩
      have B2 := B1.trans (B.mono B1.size)
      go_wp2
      go_ret
      exact ⟨rfl, B2⟩
end Go.Proofs.YtiabdcejibeciaaDoor

namespace Go.Deep
open Go.ChangeShapes Go.WideShapes
variable {H : Type} {enc : TypeId × Value → H} {P : Program} {w : World} {base : Nat} {spare : Nat → Bool} {held : Bool}

/-- A slice of structs, each field one cell, opened at every index. -/
theorem open_slice_struct {t e : TypeId} {fs : Array Field} {fuel : Nat} {cs : List Value} {x : DataW H × List MemPlace} (ht : P.underlying t = some (.slice e)) (he : P.underlying e = some (.struct fs))
    (ce : P.cellsOf e = fs.size) (off : ∀ (j : Nat) (f : Field), fs[j]? = some f → f.offset = j ∧ P.cellsOf f.type = 1)
    (h : DataW.trod enc P w base spare held fuel t cs = some x) :
    cs = [.slice none 0 0] ∨
    ∃ (a : Addr) (len cap m n : Nat), cs = [.slice (some a) len cap] ∧ len ≤ cap ∧ cap ≤ maxLen ∧ len ≤ m ∧
      ∀ i, i < m → ∀ (j : Nat) (f : Field), fs[j]? = some f → ∃ v y, w.cell? (a.add (i * fs.size + j)) = some v ∧ DataW.trod enc P w base spare held n f.type [v] = some y := by
  rcases open_slice ht h with h0 | ⟨a, len, cap, m, n, D, Pl, rfl, hb, hl, hm, hmm, rfl, hx⟩
  · exact Or.inl h0.1
  right
  have hlm : len ≤ m := by rw [hmm]; split <;> omega
  refine ⟨a, len, cap, m, n - 1, rfl, hl, hm, hlm, fun i hi j f hf => ?_⟩
  obtain ⟨cs', h1, h2⟩ := hx i hi
  rw [ce] at h1
  obtain ⟨_, hlen, hcell⟩ := World.cells?_some h1
  obtain ⟨xs, k, hk, hxy, _, hxl, hfs⟩ := DataW.trod_struct he h2
  have hk' : k = n - 1 := by omega
  subst hk'
  have hj : j < fs.size := (Array.getElem?_eq_some_iff.1 hf).1
  obtain ⟨o, c⟩ := off j f hf
  have g := hfs j f hf
  have e0 := hcell j (by omega)
  rw [add_add] at e0
  have hjc : j < cs'.length := by omega
  have hjx : j < xs.length := by omega
  rw [o, c, List.take_one, List.head?_drop, List.getElem?_eq_getElem hjc, List.getElem?_eq_getElem hjx] at g
  rw [List.getElem?_eq_getElem hjc] at e0
  exact ⟨cs'[j], xs[j], e0, g⟩

end Go.Deep

namespace Go.Proofs.YtiabdcejibeciaaDoor
open Go.RowKit
theorem IL.make {w : World} {a : Addr} {n cap : Nat} (hl : n ≤ cap) (hm : cap ≤ maxLen) (h : ∀ i, i < n → ∃ q : IP, (w.cell? (a.add (i * 2)) = some q.k.val ∧ w.cell? (a.add (i * 2 + 1)) = some q.v.val) ∧ q.ok w) : ∃ its, IL w (some a) n cap its := by
  have : Inhabited IP := ⟨⟨⟨none, 0, 0, []⟩, ⟨none, 0, 0, []⟩⟩⟩
  obtain ⟨z, hz⟩ := Deep.choose_lt h
  refine ⟨(List.range n).map z, by simp, hl, hm, fun h => by simp at h, fun b hb i hi => ?_, fun q hq => ?_⟩
  · obtain rfl := Option.some.inj hb
    have hi' : i < n := by simpa using hi
    simpa using (hz i hi').1
  · obtain ⟨i, hi, rfl⟩ := List.mem_map.1 hq
    exact (hz i (List.mem_range.1 hi)).2
end Go.Proofs.YtiabdcejibeciaaDoor

namespace Go.Proofs.YtiabdcejibeciaaDoor
open Go.RowKit

abbrev laidL : List (String × DataW Unit) := [("unicode/utf8.acceptRanges", Rows.laid_unicode_utf8_acceptRanges), ("bulwark/digest.firstWords", Rows.laid_bulwark_digest_firstWords), ("bulwark/digest.roundWords", Rows.laid_bulwark_digest_roundWords), ("unicode/utf8.first", Rows.laid_unicode_utf8_first)]

theorem gFirst : Tryd.prog.globalNamed "bulwark/digest.firstWords" = some 2 := by kernel_rfl
theorem gRound : Tryd.prog.globalNamed "bulwark/digest.roundWords" = some 1 := by kernel_rfl
theorem tFirst : (Tryd.prog.globals[2]?).map (·.type) = some 151 := by kernel_rfl
theorem tRound : (Tryd.prog.globals[1]?).map (·.type) = some 170 := by kernel_rfl
theorem laidL_plain : (laidL.all fun x => x.2.handleName?.isNone) = true := by kernel_rfl

/-- A world in which the four read so. -/
theorem all_met (os : Os) (args : Array Value) : laidMetH Tryd.prog laidL ((World.laidAll Tryd.prog os laidL).forCall (fun _ _ => 0) ⟨#[], args, []⟩).memory := by
  rw [MakeChecks.laidMetH_plain _ _ _ laidL_plain]
  exact laidMet_laidAll _ (by kernel_rfl) (by kernel_rfl)

/-- An array of words that reads as some numbers has them in its cells. -/
theorem words_of {H : Type} {enc : TypeId × Value → H} {w : World} {base : Nat} {sp : Nat → Bool} {held : Bool} {fuel n : Nat} {t : TypeId} {cs : List Value} {zs : List Int} {p : List MemPlace}
    (ht : Tryd.prog.underlying t = some (.array n 93)) (h : DataW.trod enc Tryd.prog w base sp held fuel t cs = some (.agg (zs.map fun z => .lit (.int .u32 z)), p)) (hz : zs.length = n) :
    ∀ (j : Nat) (v : Value), (wv zs)[j]? = some v → cs[j]? = some v := by
  intro j v hv
  have hj : j < zs.length := by have := (List.getElem?_eq_some_iff.1 hv).1; rwa [wv_length] at this
  rw [wv_get zs j hj] at hv
  obtain rfl := Option.some.inj hv
  obtain ⟨f', d, q, hd, he⟩ := Lib.array_elem ht h j (by omega)
  have c1 : Tryd.prog.cellsOf 93 = 1 := by kernel_rfl
  rw [c1, Nat.mul_one] at he
  obtain ⟨k, e1, e2, _⟩ := DataW.trod_int Tryd.underlying93 he
  simp only [Prod.mk.injEq] at e2
  rw [e2.1] at hd
  simp only [List.getElem?_map, List.getElem?_eq_getElem hj, Option.map_some, Option.some.injEq, DataW.lit.injEq, Lit.int.injEq, true_and] at hd
  have : (cs.drop j)[0]? = some (.int .u32 k) := by
    have := congrArg (fun l : List Value => l[0]?) e1
    simpa [List.getElem?_take] using this
  rw [List.getElem?_drop, Nat.add_zero] at this
  rw [this, ← hd]
  simp [List.getD, hj]

/-- WHAT THE CONDITION GIVES THE WALKS. -/
theorem tabs_of {W : World} (h : laidMetH Tryd.prog laidL W) : Tabs W := by
  rw [MakeChecks.laidMetH_plain _ _ _ laidL_plain] at h
  obtain ⟨ps, ⟨gx, tx, csx, fx, px, qx, _, _, _, _, ⟨g0, t0, cs0, f0, p0, q0, hg0, ht0, hv0, hd0, ⟨g1, t1, cs1, f1, p1, q1, hg1, ht1, hv1, hd1, _, _⟩, _⟩, _⟩, _, _⟩ := h
  obtain rfl := Option.some.inj (gFirst.symm.trans hg0)
  obtain rfl := Option.some.inj (gRound.symm.trans hg1)
  obtain rfl := Option.some.inj (tFirst.symm.trans ht0)
  obtain rfl := Option.some.inj (tRound.symm.trans ht1)
  have hA := words_of (zs := H0) Tryd.underlying151 hd0 rfl
  have hB := words_of (zs := K0) Tryd.underlying170 hd1 rfl
  have cA : ∀ j v, (wv H0)[j]? = some v → W.cell? ⟨2, j, none⟩ = some v := fun j v hv => by
    rw [World.var?_cell hg0 hv0 j]
    simpa using hA j v hv
  refine ⟨cA, fun j v hv => ?_, ?_⟩
  · rw [World.var?_cell hg1 hv1 j]
    simpa using hB j v hv
  · have := block_lt_of_cell (cA 0 _ rfl)
    exact this

end Go.Proofs.YtiabdcejibeciaaDoor

namespace Go.Proofs.YtiabdcejibeciaaDoor
open Go.RowKit

/-- A slice of bytes that came in, as the frame of a proof tells it. -/
theorem Sl.row {w : World} {a : Option Addr} {n cap : Nat} {zs : List Int} (h : (a = none ∧ n = 0 ∧ cap = 0 ∧ zs = []) ∨
    ∃ x, a = some x ∧ n ≤ cap ∧ cap ≤ maxLen ∧ zs.length = cap ∧ (∀ i, i < zs.length → w.cell? (x.add i) = some (.int .u8 (zs.getD i 0))) ∧ ∀ z ∈ zs, (Lit.int .u8 z).wf = true) : Sl w a n cap (zs.take n) := by
  rcases h with ⟨rfl, rfl, rfl, rfl⟩ | ⟨x, rfl, hl, hm, hz, hc, hw⟩
  · exact Sl.nothing w
  · refine ⟨by simp; omega, hl, hm, fun h => by simp at h, fun b hb i hi => ?_, fun z hz => ?_⟩
    · obtain rfl := Option.some.inj hb
      rw [hc i (by omega)]
      simp [List.getD, hi]
    · have := hw z (List.mem_of_mem_take hz)
      simp [Lit.wf, IntKind.min, IntKind.max, IntKind.signed, IntKind.bits] at this
      omega
end Go.Proofs.YtiabdcejibeciaaDoor

/-
  Texts in one: TAlive, RSmall7, UndoneLaw, SPerm, RMem7, RDel7, RPut7, RAsk7, RFind7, OrderM, TStr.
-/
import Derived.Test.YtiabdcejibeciaaDoorTreeOrderZ23
import Derived.Test.YtiabdcejibeciaaDoorTreeOrderZ31
import Derived.Test.YtiabdcejibeciaaDoorTreeOrderZ12
import Derived.Lib.SmallJoins
import Derived.Test.YtiabdcejibeciaaDoorTreeOrderZ8
import Derived.Test.YtiabdcejibeciaaDoorTreeOrderZ26
import Derived.Test.YtiabdcejibeciaaDoorTreeOrderZ0
import Derived.Test.YtiabdcejibeciaaDoorTreeOrderZ25
import Derived.Test.YtiabdcejibeciaaDoorTreeOrderZ6
namespace Go.Proofs.YtiabdcejibeciaaDoor
open Go.RowKit

theorem one_byte (c : Int) (h : 0 ≤ c ∧ c ≤ 255) : Byt [c] := by
  intro x hx
  rw [List.mem_singleton.1 hx]
  exact h
def aIt : It := ⟨[97], [49]⟩
theorem ins_nil (x : It) : ins [] x = [x] := rfl

set_option maxHeartbeats 4000000 in
set_option maxRecDepth 100000 in
theorem alive7 (w : World) (hT : Tabs w) : Calls Tryd.prog 8 #[] w fun e w' => e = .returned (.bool true) ∧ Below w.heap.size w w' := by
  have h2 := hT.two
  have kc := fun (w : World) (C : Array Value) (n c g : Nat) (hg : g = w.heap.size) => Joins.run_convert_bytes_const_at (P := Tryd.prog) w 26 5 C n c g hg Tryd.underlying26 Tryd.underlying5
  obtain ⟨W1, hW1⟩ : ∃ W, W = w.alloc (.cells #[.int .u8 97] 5 (1, 2)) := ⟨_, rfl⟩
  obtain ⟨W2, hW2⟩ : ∃ W, W = W1.alloc (.cells #[.int .u8 49] 5 (1, 2)) := ⟨_, rfl⟩
  have B1 : Below w.heap.size w W1 := by rw [hW1]; exact (Below.refl _ w).alloc (Nat.le_refl _) _
  have C2 : Below W1.heap.size W1 W2 := by rw [hW2]; exact (Below.refl _ W1).alloc (Nat.le_refl _) _
  have z1 : W1.heap.size = w.heap.size + 1 := by rw [hW1]; simp
  have S1 : Sl W1 (some ⟨w.heap.size, 0, none⟩) 1 1 [97] := by rw [hW1]; exact Sl.const w [97] (1, 2) (one_byte _ (by omega)) (by simp [maxLen])
  have S2 : Sl W2 (some ⟨W1.heap.size, 0, none⟩) 1 1 [49] := by rw [hW2]; exact Sl.const W1 [49] (1, 2) (one_byte _ (by omega)) (by simp [maxLen])
  have S1' := S1.below C2
  have B2 := B1.trans (C2.mono B1.size)
  rw [z1] at S2
  have k1 := kc w #[.int .u8 97] 1 1 w.heap.size rfl
  have k2 := kc W1 #[.int .u8 49] 1 1 (w.heap.size + 1) z1.symm
  have CP := tput_any W2 (.pointer none) [] aIt (some ⟨w.heap.size, 0, none⟩) (some ⟨w.heap.size + 1, 0, none⟩) 1 1 1 1 (hT.below B2 h2) (TT.nil _) List.Pairwise.nil S1' S2 (by omega) (by omega) (by simp) 0 rfl
  go_enter Tryd.func8, Tryd.ntmps8
  go_wp2_with fail
  rw [← hW1, ← hW2]
  clear hW1 hW2 k1 k2 S1 S2 S1' C2 z1 B1
  refine CP.mono ?_
  rintro e w3 ⟨u, rfl, hTT, -, C3⟩
  have hTT := hTT rfl
  rw [ins_nil] at hTT
  have B3 := B2.trans (C3.mono B2.size)
  obtain ⟨b, rfl⟩ : ∃ b, u = some ⟨b, 0, none⟩ := by
    rcases hTT with ⟨-, h⟩ | ⟨b, u', h, -⟩
    · simp at h
    · exact ⟨b, by simpa using h⟩
  clear CP C3 B2
  obtain ⟨W4, hW4⟩ : ∃ W, W = w3.alloc (.cells #[.int .u8 97] 5 (1, 2)) := ⟨_, rfl⟩
  have C4 : Below w3.heap.size w3 W4 := by rw [hW4]; exact (Below.refl _ w3).alloc (Nat.le_refl _) _
  have S4 : Sl W4 (some ⟨w3.heap.size, 0, none⟩) 1 1 [97] := by rw [hW4]; exact Sl.const w3 [97] (1, 2) (one_byte _ (by omega)) (by simp [maxLen])
  have k4 := kc w3 #[.int .u8 97] 1 1 w3.heap.size rfl
  have T4 := hTT.below C4
  have B4 := B3.trans (C4.mono B3.size)
  have CG := tget_any W4 (.pointer (some ⟨b, 0, none⟩)) [aIt] [97] (some ⟨w3.heap.size, 0, none⟩) 1 1 T4 (Srt.one _) S4 (by simp) (by intro x hx; rw [List.mem_singleton.1 hx]; simp [aIt])
  go_wp2_with fail
  rw [← hW4]
  clear hW4 k4 S4 C4 B3 hTT
  refine CG.mono ?_
  rintro e w5 ⟨qo, qn, qc, bb, rfl, hyes, hno, C5⟩
  cases bb with
  | false => exact absurd ⟨aIt, List.mem_singleton.2 rfl, rfl⟩ (hno rfl).1
  | true =>
  obtain ⟨x, hx, -, S5⟩ := hyes rfl
  rw [List.mem_singleton.1 hx] at S5
  have S5 : Sl w5 qo qn qc [49] := S5
  have B5 := B4.trans (C5.mono B4.size)
  have T5 := T4.below C5
  clear CG hyes hno hx C5 B4 T4
  have CR := rootNil_any w5 (hT.below B5 h2)
  go_wp2_with fail
  refine CR.mono ?_
  rintro e w6 ⟨v6, rfl, o6, C6⟩
  obtain ⟨ro, rc, rfl, S6, -⟩ := Sl.own o6 (sumL_byte _)
  have B6 := B5.trans (C6.mono B5.size)
  have S5 := S5.below C6
  have T6 := T5.below C6
  clear CR o6 C6 B5 T5
  obtain ⟨W7, hW7⟩ : ∃ W, W = w6.alloc (.cells #[.int .u8 101, .int .u8 109, .int .u8 112, .int .u8 116, .int .u8 121] 5 (5, 6)) := ⟨_, rfl⟩
  have C7 : Below w6.heap.size w6 W7 := by rw [hW7]; exact (Below.refl _ w6).alloc (Nat.le_refl _) _
  have S7 : Sl W7 (some ⟨w6.heap.size, 0, none⟩) 5 5 emptyL := by rw [hW7]; exact Sl.const w6 emptyL (5, 6) emptyL_byte (by simp [emptyL, maxLen])
  have k7 := kc w6 #[.int .u8 101, .int .u8 109, .int .u8 112, .int .u8 116, .int .u8 121] 5 5 w6.heap.size rfl
  have B7 := B6.trans (C7.mono B6.size)
  have S6 := S6.below C7
  have S5 := S5.below C7
  have T7 := T6.below C7
  have CM := rsum_any W7 (some ⟨w6.heap.size, 0, none⟩) 5 5 emptyL S7 (by omega)
  go_wp2_with fail
  rw [← hW7]
  clear hW7 k7 C7 B6 T6
  refine CM.mono ?_
  rintro e w8 ⟨v8, rfl, o8, C8⟩
  obtain ⟨so, sc, rfl, S8, -⟩ := Sl.own o8 (sumL_byte _)
  have B8 := B7.trans (C8.mono B7.size)
  have S6 := S6.below C8
  have S5 := S5.below C8
  have T8 := T7.below C8
  clear CM o8 C8 B7 T7
  have CE := same_any w8 ro so 32 rc 32 sc _ _ S6 S8
  rw [decide_eq_true rfl] at CE
  go_wp2_with fail
  refine CE.mono ?_
  rintro e w9 ⟨rfl, q9, rfl⟩
  have E9 := below_drewN w8 q9 w8.heap.size
  have B9 := B8.trans (E9.mono B8.size)
  have S5 := S5.below E9
  have T9 := T8.below E9
  have cv := conv_str S5
  have hst : strOfNums [49] = ⟨#[49]⟩ := rfl
  rw [hst] at cv
  clear CE E9 B8 T8 S6 S8 hst
  obtain ⟨w9, hw9⟩ : ∃ W, W = w8.drewN q9 := ⟨_, rfl⟩
  rw [← hw9] at B9 S5 T9 cv ⊢
  clear hw9
  have CL := len_any w9 _ _ T9 (Srt.one _) (by simp)
  go_wp2_with fail
  refine CL.mono ?_
  rintro e w10 ⟨rfl, C10⟩
  have B10 := B9.trans (C10.mono B9.size)
  clear CL C10 B9 cv
  have CL := len_any w10 (.pointer none) [] (TT.nil _) List.Pairwise.nil (by simp)
  go_wp2_with fail
  refine CL.mono ?_
  rintro e w11 ⟨rfl, C11⟩
  have B11 := B10.trans (C11.mono B10.size)
  go_wp2
  go_ret
  exact ⟨rfl, B11⟩
end Go.Proofs.YtiabdcejibeciaaDoor

namespace Go.Proofs.YtiabdcejibeciaaDoor
open Go.RowKit

/-- Few and short. -/
def ligQ (q : IP) : Bool := decide (q.k.n ≤ 300) && decide (q.v.n ≤ 1100)
def ligB (its : List IP) (m : Int) : Bool := decide ((its.length : Int) ≤ m) && its.all ligQ

set_option maxHeartbeats 1000000 in
set_option maxRecDepth 100000 in
theorem light7_any (w : World) (ao : Option Addr) (n cap : Nat) (its : List IP) (m : Int) (h : IL w ao n cap its) :
    Calls Tryd.prog 7 #[.slice ao n cap, .int .i64 m] w fun e w' => e = .returned (.bool (ligB its m)) ∧ w' = w := by
  have hl1 := Nat.le_of_eq h.len
  have hl2 := Nat.le_of_eq h.len.symm
  have hmx := h.mx
  have hle := h.le
  have hnx : (n : Int) ≤ 9223372036854775807 := by unfold maxLen at hmx; omega
  by_cases hm : (n : Int) > m
  · have HR : Hid (ligB its m = false) := by show _ = _; simp only [ligB, Bool.and_eq_false_imp]; intro e; have := of_decide_eq_true e; omega
    go_enter Tryd.func7, Tryd.ntmps7
    go_wp2
    go_ret
    rw [HR.out]
    exact ⟨rfl, rfl⟩
  go_enter Tryd.func7, Tryd.ntmps7
  go_wp2
  go_loopw [5] (fun i wr => ∃ k : Nat, k ≤ n ∧ i = .int .i64 k ∧ (∀ q ∈ its.take k, ligQ q = true) ∧ w = wr) (fun i _ => n - (intOf i).toNat)
  case atStart => exact ⟨0, Nat.zero_le _, rfl, by simp, rfl⟩
  case round =>
    obtain ⟨k, hk, rfl, hj, rfl⟩ := hrel
    have HJ : Hid (∀ q ∈ its.take k, ligQ q = true) := hj
    clear hj
    by_cases hlt : k < n
    · have hki : (k : Int) < (n : Int) := by omega
      have hkl : k < its.length := by omega
      obtain ⟨b, off, rfl, hc⟩ := h.at (by omega)
      obtain ⟨c1, c2⟩ := hc k hkl
      have HM : Hid (its[k] ∈ its) := List.getElem_mem hkl
      have HT : Hid (its.take (k + 1) = its.take k ++ [its[k]]) := List.take_succ_eq_append_getElem hkl
      obtain ⟨q, hqe⟩ : ∃ q, q = its[k] := ⟨_, rfl⟩
      rw [← hqe] at c1 c2 HM HT
      unfold Part.val at c1 c2
      clear hc hqe
      have bad : ligQ q = false → ligB its m = false := fun e => by
        simp only [ligB, Bool.and_eq_false_imp]
        intro _
        rw [List.all_eq_false]
        exact ⟨q, HM.out, by simp [e]⟩
      have BAD : Hid (ligQ q = false → ligB its m = false) := bad
      clear bad
      by_cases h1 : 300 < q.k.n
      · have h1' : (q.k.n : Int) > 300 := by omega
        have HR : Hid (ligB its m = false) := BAD.out (by simp [ligQ]; omega)
        go_wp2
        go_ret
        rw [HR.out]
        exact ⟨rfl, rfl⟩
      have h1' : ¬ (q.k.n : Int) > 300 := by omega
      by_cases h2 : 1100 < q.v.n
      · have h2' : (q.v.n : Int) > 1100 := by omega
        have HR : Hid (ligB its m = false) := BAD.out (by simp [ligQ]; omega)
        go_wp2
        go_ret
        rw [HR.out]
        exact ⟨rfl, rfl⟩
      have h2' : ¬ (q.v.n : Int) > 1100 := by omega
      go_wp2
      go_roundw
      case rel =>
        refine ⟨k + 1, by omega, by go_num, fun r hr => ?_, by first | rfl | trivial⟩
        rw [HT.out] at hr
        rcases List.mem_append.1 hr with hr | hr
        · exact HJ.out r hr
        · rw [List.mem_singleton.1 hr]
          simp [ligQ]
          omega
      case measure => simp [intOf]; omega
    · have hge : ¬ (k : Int) < (n : Int) := by omega
      have HR : Hid (ligB its m = true) := by
        show _ = _
        simp only [ligB, Bool.and_eq_true]
        refine ⟨decide_eq_true (by omega), List.all_eq_true.2 fun q hq => HJ.out q ?_⟩
        rw [List.take_of_length_le (by omega)]
        exact hq
      go_wp2
      go_ret
      rw [HR.out]
      exact ⟨rfl, rfl⟩

end Go.Proofs.YtiabdcejibeciaaDoor

namespace Go.Proofs.YtiabdcejibeciaaDoor
open Go.RowKit

theorem lo_ins (l : List It) (x : It) : lo x.k (ins l x) = lo x.k l := by
  unfold ins
  rw [lo_append, lo_all (fun y hy => (mem_lo.1 hy).2)]
  have : lo x.k (x :: hi x.k l) = [] := lo_none fun y hy => by
    rcases List.mem_cons.1 hy with rfl | hy
    · exact cmpL_irr _
    · exact cmpL_asym (mem_hi.1 hy).2
  rw [this, List.append_nil]
theorem hi_ins (l : List It) (x : It) : hi x.k (ins l x) = hi x.k l := by
  unfold ins
  rw [hi_append]
  have h1 : hi x.k (lo x.k l) = [] := hi_none fun y hy => cmpL_asym (mem_lo.1 hy).2
  have h2 : hi x.k (x :: hi x.k l) = hi x.k l := by
    have : hi x.k (x :: hi x.k l) = hi x.k (hi x.k l) := by
      unfold hi
      rw [List.filter_cons, if_neg (by simpa using cmpL_irr x.k)]
    rw [this, hi_all fun y hy => (mem_hi.1 hy).2]
  rw [h1, h2, List.nil_append]
theorem del_ins (l : List It) (x : It) : del (ins l x) x.k = del l x.k := by
  unfold del
  rw [lo_ins, hi_ins]
theorem ins_del (l : List It) (x : It) : ins (del l x.k) x = ins l x := by
  have h1 : lo x.k (del l x.k) = lo x.k l := by
    unfold del
    rw [lo_append, lo_all (fun y hy => (mem_lo.1 hy).2), lo_none (fun y hy => cmpL_asym (mem_hi.1 hy).2), List.append_nil]
  have h2 : hi x.k (del l x.k) = hi x.k l := by
    unfold del
    rw [hi_append, hi_none (fun y hy => cmpL_asym (mem_lo.1 hy).2), hi_all (fun y hy => (mem_hi.1 hy).2), List.nil_append]
  show lo x.k (del l x.k) ++ x :: hi x.k (del l x.k) = _
  rw [h1, h2]
  rfl
theorem ins_ins (l : List It) (x : It) : ins (ins l x) x = ins l x := by
  show lo x.k (ins l x) ++ x :: hi x.k (ins l x) = _
  rw [lo_ins, hi_ins]
  rfl
theorem has_ins (l : List It) (x : It) : has x.k (ins l x) := ⟨x, List.mem_append_right _ (List.mem_cons_self ..), rfl⟩
theorem ins_self {l : List It} (h : Srt l) {x : It} (hx : x ∈ l) : ins l x = l := by
  obtain ⟨a, b, rfl⟩ := List.append_of_mem hx
  have h1 := h.app
  have h2 := h1.2.1.cons
  have e1 : lo x.k (a ++ x :: b) = a := by
    rw [lo_append, lo_all (fun y hy => h1.2.2 y hy x (List.mem_cons_self ..))]
    have : lo x.k (x :: b) = [] := lo_none fun y hy => by
      rcases List.mem_cons.1 hy with rfl | hy
      · exact cmpL_irr _
      · exact cmpL_asym (h2.1 y hy)
    rw [this, List.append_nil]
  have e2 : hi x.k (a ++ x :: b) = b := by
    rw [hi_append, hi_none (fun y hy => cmpL_asym (h1.2.2 y hy x (List.mem_cons_self ..)))]
    have : hi x.k (x :: b) = hi x.k b := by
      unfold hi
      rw [List.filter_cons, if_neg (by simpa using cmpL_irr x.k)]
    rw [this, hi_all h2.1, List.nil_append]
  show lo x.k _ ++ x :: hi x.k _ = _
  rw [e1, e2]
theorem ins_mem {l : List It} {x y : It} (h : y ∈ ins l x) : y = x ∨ y ∈ l := by
  rcases List.mem_append.1 h with h | h
  · exact .inr (mem_lo.1 h).1
  · rcases List.mem_cons.1 h with h | h
    · exact .inl h
    · exact .inr (mem_hi.1 h).1
theorem ins_len (l : List It) (x : It) : (ins l x).length ≤ l.length + 1 := by
  unfold ins
  rw [List.length_append, List.length_cons]
  have key : (lo x.k l).length + (hi x.k l).length ≤ l.length := by
    induction l with
    | nil => simp [lo, hi]
    | cons y l ih =>
      unfold lo hi at ih ⊢
      rw [List.filter_cons, List.filter_cons]
      by_cases h1 : cmpL y.k x.k < 0
      · rw [if_pos (decide_eq_true h1), if_neg (by simpa using cmpL_asym h1)]
        simp only [List.length_cons]
        omega
      · rw [if_neg (by simpa using h1)]
        split
        · simp only [List.length_cons]
          omega
        · simp only [List.length_cons]
          omega
  omega
theorem del_len (l : List It) (k : List Int) : (del l k).length ≤ l.length := by
  have h := ins_len (l := l) (x := ⟨k, []⟩)
  unfold del
  unfold ins at h
  rw [List.length_append, List.length_cons] at h
  rw [List.length_append]
  have h1 : (lo k l).length + ((hi k l).length + 1) ≤ l.length + 1 := h
  omega
theorem jL_keep7 : ∀ (its : List IP), jL its 4 ≠ 0
  | [] => by decide
  | q :: its => by
    unfold jL
    split
    · decide
    · split
      · exact jL_keep7 its
      · exact jL_keep7 its
theorem jL_sz7 : ∀ (its : List IP), jL its 0 = 0 → ∀ q ∈ its, 1 ≤ q.k.n ∧ q.k.n ≤ 256 ∧ q.v.n ≤ 1024
  | [], _ => by simp
  | q :: its, h => by
    unfold jL at h
    by_cases hb : badK q.k.n = true
    · rw [if_pos hb] at h
      exact absurd h (by decide)
    · rw [if_neg hb] at h
      by_cases hv : 1024 < q.v.n
      · rw [if_pos hv] at h
        exact absurd h (jL_keep7 its)
      · rw [if_neg hv] at h
        intro y hy
        rcases List.mem_cons.1 hy with rfl | hy
        · have : ¬ (y.k.n < 1 ∨ 256 < y.k.n) := by simpa [badK] using hb
          omega
        · exact jL_sz7 its h y hy
theorem jL_one {q : IP} (h : 1 ≤ q.k.n ∧ q.k.n ≤ 256 ∧ q.v.n ≤ 1024) : jL [q] 0 = 0 := by
  have e : badK q.k.n = false := by simp [badK]; omega
  rw [jL, e, if_neg (by simp), if_neg (show ¬ 1024 < q.v.n by omega)]
  rfl
/-- Two roots of the same items. -/
theorem same_roots {w w2 : World} {l : List It} {ao bo : Option Addr} {c d : Nat} (h1 : SlT w ⟨ao, 32, c, hashI l⟩) (h2 : SlT w2 ⟨bo, 32, d, hashI l⟩) (hb : Below w.heap.size w w2) : Calls Tryd.prog 14 #[.slice ao 32 c, .slice bo 32 d] w2 fun e w' => e = .returned (.bool true) ∧ Below w2.heap.size w2 w' := by
  have := same_any w2 ao bo 32 c 32 d _ _ (h1.1.below hb) h2.1
  rw [decide_eq_true rfl] at this
  refine this.mono ?_
  rintro e w' ⟨rfl, q, rfl⟩
  exact ⟨rfl, below_drewN _ _ _⟩

set_option maxHeartbeats 8000000 in
set_option maxRecDepth 100000 in
theorem treeUndone_any (W : World) (a0 a1 a2 : Option Addr) (n0 c0 n1 c1 n2 c2 : Nat) (its : List IP) (key val : List Int) (h0 : IL W a0 n0 c0 its) (s1 : Sl W a1 n1 c1 key) (s2 : Sl W a2 n2 c2 val) (hT : Tabs W) :
    Calls Tryd.prog 4 #[.slice a0 n0 c0, .slice a1 n1 c1, .slice a2 n2 c2] W fun e w' => e = .returned (.bool true) ∧ Below W.heap.size W w' := by
  have t2 := hT.two
  have CL := light7_any W a0 n0 c0 its 16 h0
  have AL := alive7 W hT
  obtain ⟨lb, hlb⟩ : ∃ b, b = ligB its 16 := ⟨_, rfl⟩
  have HLB : Hid (lb = ligB its 16) := hlb
  rw [← hlb] at CL
  have HT : Hid (Tabs W) := hT
  clear hlb
  go_enter Tryd.func4, Tryd.ntmps4
  go_wp2_with fail
  refine CL.mono ?_
  rintro e w' ⟨rfl, hw⟩
  obtain rfl := hw.symm
  clear CL
  cases lb with
  | false =>
    clear hT
    go_wp2_with fail
    refine AL.mono ?_
    rintro e w2 ⟨rfl, B⟩
    go_wp2
    go_ret
    exact ⟨rfl, B⟩
  | true =>
    by_cases q1 : (256 : Int) < (n1 : Int)
    · clear hT
      go_wp2_with fail
      refine AL.mono ?_
      rintro e w2 ⟨rfl, B⟩
      go_wp2
      go_ret
      exact ⟨rfl, B⟩
    by_cases q2 : (n1 : Int) < 1
    · clear hT
      go_wp2_with fail
      refine AL.mono ?_
      rintro e w2 ⟨rfl, B⟩
      go_wp2
      go_ret
      exact ⟨rfl, B⟩
    by_cases q3 : (1024 : Int) < (n2 : Int)
    · clear hT
      go_wp2_with fail
      refine AL.mono ?_
      rintro e w2 ⟨rfl, B⟩
      go_wp2
      go_ret
      exact ⟨rfl, B⟩
    clear AL
    have hlig : its.length ≤ 16 ∧ ∀ q ∈ its, q.k.n ≤ 300 ∧ q.v.n ≤ 1100 := by
      have h := HLB.out.symm
      unfold ligB ligQ at h
      simp only [Bool.and_eq_true, decide_eq_true_eq, List.all_eq_true] at h
      exact ⟨by omega, h.2⟩
    have hn0 : n0 ≤ 16 := by have := hlig.1; have := h0.len; omega
    have HLG : Hid (∀ q ∈ its, q.k.n ≤ 300 ∧ q.v.n ≤ 1100) := hlig.2
    have HLN : Hid (its.length ≤ 16) := hlig.1
    have l1 := s1.len
    have l2 := s2.len
    have CM := tmake_any W a0 n0 c0 its hT h0 (by omega) (fun q hq => by have := HLG.out q hq; omega)
    clear hT hlig
    go_wp2_with fail
    refine CM.mono ?_
    rintro e w1 ⟨u, kd, rfl, B1, hp⟩
    clear CM
    rcases hp with ⟨rfl, hj0, l, hperm, hsrt, TT1⟩ | ⟨hkd, -, -⟩
    · have hll : l.length ≤ 16 := by have := hperm.length_eq; rw [List.length_map] at this; have := HLN.out; omega
      have hlz : ∀ x ∈ l, x.k.length ≤ 256 ∧ x.v.length ≤ 1024 ∧ 1 ≤ x.k.length := fun x hx => by
        obtain ⟨q, hq, rfl⟩ := List.mem_map.1 (hperm.mem_iff.1 hx)
        have h3 := jL_sz7 its hj0 q hq
        have h5 := (h0.sl q hq).1.len
        have h6 := (h0.sl q hq).2.len
        exact ⟨by show q.k.xs.length ≤ _; omega, by show q.v.xs.length ≤ _; omega, by show 1 ≤ q.k.xs.length; omega⟩
      have HS : Hid (Srt l) := hsrt
      have HLZ : Hid (∀ x ∈ l, x.k.length ≤ 256 ∧ x.v.length ≤ 1024 ∧ 1 ≤ x.k.length) := hlz
      have HSZ : Hid (Szs l) := ⟨by omega, fun x hx => by have := hlz x hx; omega⟩
      obtain ⟨y, hy⟩ : ∃ y : It, y = ⟨key, val⟩ := ⟨_, rfl⟩
      have HY : Hid (y = ⟨key, val⟩) := hy
      have HSI : Hid (Szs (ins l y)) := ⟨by have := ins_len l y; omega, fun x hx => by
        rcases ins_mem hx with rfl | hx
        · rw [hy]
          exact ⟨by show key.length ≤ _; omega, by show val.length ≤ _; omega⟩
        · have := hlz x hx; omega⟩
      have hil : (ins l y).length ≤ 17 := by have := ins_len l y; omega
      clear hperm hsrt hj0 hlz hy
      have CG := tget_any w1 (.pointer u) l key a1 n1 c1 TT1 HS.out (s1.below B1) (by omega) (fun x hx => by have := HLZ.out x hx; omega)
      go_wp2_with fail
      refine CG.mono ?_
      rintro e w2 ⟨qo, qn, qc, had, rfl, hyes, hno, C2⟩
      have B2 := B1.trans (C2.mono B1.size)
      have TT2 := TT1.below C2
      clear CG TT1 C2
      have hyk : y.k = key := by rw [HY.out]
      have hyv : y.v = val := by rw [HY.out]
      have CP := tput_any w2 (.pointer u) l y a1 a2 n1 c1 n2 c2 (HT.out.below B2 t2) TT2 HS.out (by rw [hyk]; exact s1.below B2) (by rw [hyv]; exact s2.below B2) (by omega) (by omega) (by omega) 0 (jL_one ⟨by show 1 ≤ n1; omega, by show n1 ≤ 256; omega, by show n2 ≤ 1024; omega⟩)
      have HYK : Hid (y.k = key ∧ y.v = val) := ⟨hyk, hyv⟩
      clear hyk hyv
      have HYES : Hid (had = true → ∃ x ∈ l, x.k = key ∧ Sl w2 qo qn qc x.v) := hyes
      have HNOT : Hid (had = false → ¬ has key l) := fun h => (hno h).1
      clear hyes hno
      go_wp2_with fail
      refine CP.mono ?_
      rintro e w3 ⟨u3, rfl, hT3, -, C3⟩
      have TU := hT3 rfl
      have B3 := B2.trans (C3.mono B2.size)
      have TT3 := TT2.below C3
      have HSU : Hid (Srt (ins l y)) := HS.out.ofIns y
      clear CP hT3 TT2
      have CD := tdel_any w3 (.pointer u3) (ins l y) key a1 n1 c1 TU HSU.out (s1.below B3) (by omega)
      have HC3 : Hid (Below w2.heap.size w2 w3) := C3
      clear C3
      go_wp2_with fail
      refine CD.mono ?_
      rintro e w4 ⟨u4, is4, rfl, hy4, hn4, C4⟩
      have hK4 : is4 = true := by
        cases is4 with
        | true => rfl
        | false =>
          have := has_ins l y
          rw [HYK.out.1] at this
          exact absurd this (hn4 rfl).1
      subst hK4
      have TV := (hy4 rfl).2
      rw [← HYK.out.1, del_ins, HYK.out.1] at TV
      have B4 := B3.trans (C4.mono B3.size)
      have TT4 := TT3.below C4
      have TU4 := TU.below C4
      have HC4 : Hid (Below w2.heap.size w2 w4) := HC3.out.trans (C4.mono HC3.out.size)
      clear CD hy4 hn4 TT3 TU C4 HC3
      cases had with
      | true =>
        obtain ⟨x, hx, hxk, SX⟩ := HYES.out rfl
        have hxz := HLZ.out x hx
        have SX4 := SX.below HC4.out
        have lx := SX.len
        have CP := tput_any w4 (.pointer u4) (del l key) x a1 qo n1 c1 qn qc (HT.out.below B4 t2) TV (HS.out.ofDel key) (by rw [hxk]; exact s1.below B4) SX4 (by omega) (by omega) (by have : (del l key).length ≤ l.length := del_len l key; omega) 0 (jL_one ⟨by show 1 ≤ n1; omega, by show n1 ≤ 256; omega, by show qn ≤ 1024; omega⟩)
        have hEQ : ins (del l key) x = l := by
          rw [← hxk, ins_del, ins_self HS.out hx]
        have HEQ : Hid (ins (del l key) x = l) := hEQ
        have HH : Hid (has key l) := ⟨x, hx, hxk⟩
        clear hEQ hxz SX SX4 lx hx hxk TV
        go_wp2_with fail
        refine CP.mono ?_
        rintro e w5 ⟨u5, rfl, hT5, -, C5⟩
        have TV5 := hT5 rfl
        rw [HEQ.out] at TV5
        have B5 := B4.trans (C5.mono B4.size)
        have TT5 := TT4.below C5
        have TU5 := TU4.below C5
        clear CP hT5 TT4 TU4 C5
        have CD := tdel_any w5 (.pointer u) l key a1 n1 c1 TT5 HS.out (s1.below B5) (by omega)
        go_wp2_with fail
        refine CD.mono ?_
        rintro e w6 ⟨u6, is6, rfl, -, hn6, C6⟩
        have hK6 : is6 = true := by
          cases is6 with
          | true => rfl
          | false => exact absurd HH.out (hn6 rfl).1
        subst hK6
        have B6 := B5.trans (C6.mono B5.size)
        have TT6 := TT5.below C6
        have TU6 := TU5.below C6
        have TV6 := TV5.below C6
        clear CD hn6 TT5 TU5 TV5 C6
        go_wp2_with fail
        have CP6 := tput_any w6 (.pointer u3) (ins l y) y a1 a2 n1 c1 n2 c2 (HT.out.below B6 t2) TU6 HSU.out (by rw [HYK.out.1]; exact s1.below B6) (by rw [HYK.out.2]; exact s2.below B6) (by omega) (by omega) (by omega) 0 (jL_one ⟨by show 1 ≤ n1; omega, by show n1 ≤ 256; omega, by show n2 ≤ 1024; omega⟩)
        refine CP6.mono ?_
        rintro e w7 ⟨u7, rfl, hT7, -, C7⟩
        have TY7 := hT7 rfl
        rw [ins_ins] at TY7
        have B7 := B6.trans (C7.mono B6.size)
        have TT7 := TT6.below C7
        have TU7 := TU6.below C7
        have TV7 := TV6.below C7
        clear CP6 hT7 TT6 TU6 TV6 C7
        have CR := root_any w7 (.pointer u5) l TV7 (HT.out.below B7 t2) HSZ.out
        go_wp2_with fail
        refine CR.mono ?_
        rintro e w8 ⟨r8, rc8, rfl, S8, C8⟩
        have B8 := B7.trans (C8.mono B7.size)
        have CR := root_any w8 (.pointer u) l (TT7.below C8) (HT.out.below B8 t2) HSZ.out
        go_wp2_with fail
        refine CR.mono ?_
        rintro e w9 ⟨r9, rc9, rfl, S9, C9⟩
        have B9 := B8.trans (C9.mono B8.size)
        have CE := same_roots S8 S9 C9
        clear CR
        go_wp2_with fail
        refine CE.mono ?_
        rintro e w10 ⟨rfl, C10⟩
        have B10 := B9.trans (C10.mono B9.size)
        have E10 : Below w7.heap.size w7 w10 := C8.trans ((C9.mono C8.size).trans (C10.mono (by have := C8.size; have := C9.size; omega)))
        have TT10 := TT7.below E10
        have TU10 := TU7.below E10
        have TV10 := TV7.below E10
        have TY10 := TY7.below E10
        clear CE S8 S9 C8 C9 C10 E10 TT7 TU7 TV7 TY7
        have CR := root_any w10 (.pointer u7) (ins l y) TY10 (HT.out.below B10 t2) HSI.out
        go_wp2_with fail
        refine CR.mono ?_
        rintro e w11 ⟨r11, rc11, rfl, S11, C11⟩
        have B11 := B10.trans (C11.mono B10.size)
        have CR := root_any w11 (.pointer u3) (ins l y) (TU10.below C11) (HT.out.below B11 t2) HSI.out
        go_wp2_with fail
        refine CR.mono ?_
        rintro e w12 ⟨r12, rc12, rfl, S12, C12⟩
        have B12 := B11.trans (C12.mono B11.size)
        have CE := same_roots S11 S12 C12
        clear CR
        go_wp2_with fail
        refine CE.mono ?_
        rintro e w13 ⟨rfl, C13⟩
        have B13 := B12.trans (C13.mono B12.size)
        have E13 : Below w10.heap.size w10 w13 := C11.trans ((C12.mono C11.size).trans (C13.mono (by have := C11.size; have := C12.size; omega)))
        have TT13 := TT10.below E13
        have TV13 := TV10.below E13
        clear CE S11 S12 C11 C12 C13 E13 TT10 TU10 TV10 TY10
        have CN := len_any w13 (.pointer u5) l TV13 HS.out (by omega)
        go_wp2_with fail
        refine CN.mono ?_
        rintro e w14 ⟨rfl, C14⟩
        have B14 := B13.trans (C14.mono B13.size)
        have CN := len_any w14 (.pointer u) l (TT13.below C14) HS.out (by omega)
        go_wp2_with fail
        refine CN.mono ?_
        rintro e w15 ⟨rfl, C15⟩
        have B15 := B14.trans (C15.mono B14.size)
        have AL := alive7 w15 (HT.out.below B15 t2)
        have hee : (((l.length : Nat) : Int) == ((l.length : Nat) : Int)) = true := by simp
        clear CN
        go_wp2_with fail
        refine AL.mono ?_
        rintro e w16 ⟨rfl, C16⟩
        have B16 := B15.trans (C16.mono B15.size)
        go_wp2
        go_ret
        exact ⟨rfl, B16⟩
      | false =>
        have hno : ¬ has key l := HNOT.out rfl
        rw [del_none HS.out hno] at TV
        have HH : Hid (¬ has key l) := hno
        clear hno
        have CD := tdel_any w4 (.pointer u) l key a1 n1 c1 TT4 HS.out (s1.below B4) (by omega)
        go_wp2_with fail
        refine CD.mono ?_
        rintro e w5 ⟨u6, is6, rfl, hy6, hn6, C5⟩
        have hK6 : is6 = false := by
          cases is6 with
          | false => rfl
          | true => exact absurd (hy6 rfl).1 HH.out
        subst hK6
        have hu6 : Value.pointer u = .pointer u6 := (hn6 rfl).2
        obtain rfl : u = u6 := by simpa using hu6
        have B5 := B4.trans (C5.mono B4.size)
        have TT5 := TT4.below C5
        have TU5 := TU4.below C5
        have TV5 := TV.below C5
        have CR := root_any w5 (.pointer u) l TT5 (HT.out.below B5 t2) HSZ.out
        clear CD hy6 hn6 TT4 TU4 TV C5 hu6
        go_wp2_with fail
        refine CR.mono ?_
        rintro e wa ⟨ra, rca, rfl, SA, CA⟩
        have BA := B5.trans (CA.mono B5.size)
        have CR2 := root_any wa (.pointer u) l (TT5.below CA) (HT.out.below BA t2) HSZ.out
        clear CR
        go_wp2_with fail
        refine CR2.mono ?_
        rintro e wb ⟨rb, rcb, rfl, SB, CB⟩
        have BB := BA.trans (CB.mono BA.size)
        have CE := same_roots SA SB CB
        clear CR2
        go_wp2_with fail
        refine CE.mono ?_
        rintro e w6 ⟨rfl, C6⟩
        have B6 := BB.trans (C6.mono BB.size)
        have E56 : Below w5.heap.size w5 w6 := CA.trans ((CB.mono CA.size).trans (C6.mono (by have := CA.size; have := CB.size; omega)))
        have TT6 := TT5.below E56
        have TU6 := TU5.below E56
        have TV6 := TV5.below E56
        clear CE SA SB CA CB C6 TT5 TU5 TV5 E56
        go_wp2_with fail
        have CP6 := tput_any w6 (.pointer u3) (ins l y) y a1 a2 n1 c1 n2 c2 (HT.out.below B6 t2) TU6 HSU.out (by rw [HYK.out.1]; exact s1.below B6) (by rw [HYK.out.2]; exact s2.below B6) (by omega) (by omega) (by omega) 0 (jL_one ⟨by show 1 ≤ n1; omega, by show n1 ≤ 256; omega, by show n2 ≤ 1024; omega⟩)
        refine CP6.mono ?_
        rintro e w7 ⟨u7, rfl, hT7, -, C7⟩
        have TY7 := hT7 rfl
        rw [ins_ins] at TY7
        have B7 := B6.trans (C7.mono B6.size)
        have TT7 := TT6.below C7
        have TU7 := TU6.below C7
        have TV7 := TV6.below C7
        clear CP6 hT7 TT6 TU6 TV6 C7
        have CR := root_any w7 (.pointer u4) l TV7 (HT.out.below B7 t2) HSZ.out
        go_wp2_with fail
        refine CR.mono ?_
        rintro e w8 ⟨r8, rc8, rfl, S8, C8⟩
        have B8 := B7.trans (C8.mono B7.size)
        have CR := root_any w8 (.pointer u) l (TT7.below C8) (HT.out.below B8 t2) HSZ.out
        go_wp2_with fail
        refine CR.mono ?_
        rintro e w9 ⟨r9, rc9, rfl, S9, C9⟩
        have B9 := B8.trans (C9.mono B8.size)
        have CE := same_roots S8 S9 C9
        clear CR
        go_wp2_with fail
        refine CE.mono ?_
        rintro e w10 ⟨rfl, C10⟩
        have B10 := B9.trans (C10.mono B9.size)
        have E10 : Below w7.heap.size w7 w10 := C8.trans ((C9.mono C8.size).trans (C10.mono (by have := C8.size; have := C9.size; omega)))
        have TT10 := TT7.below E10
        have TU10 := TU7.below E10
        have TV10 := TV7.below E10
        have TY10 := TY7.below E10
        clear CE S8 S9 C8 C9 C10 E10 TT7 TU7 TV7 TY7
        have CR := root_any w10 (.pointer u7) (ins l y) TY10 (HT.out.below B10 t2) HSI.out
        go_wp2_with fail
        refine CR.mono ?_
        rintro e w11 ⟨r11, rc11, rfl, S11, C11⟩
        have B11 := B10.trans (C11.mono B10.size)
        have CR := root_any w11 (.pointer u3) (ins l y) (TU10.below C11) (HT.out.below B11 t2) HSI.out
        go_wp2_with fail
        refine CR.mono ?_
        rintro e w12 ⟨r12, rc12, rfl, S12, C12⟩
        have B12 := B11.trans (C12.mono B11.size)
        have CE := same_roots S11 S12 C12
        clear CR
        go_wp2_with fail
        refine CE.mono ?_
        rintro e w13 ⟨rfl, C13⟩
        have B13 := B12.trans (C13.mono B12.size)
        have E13 : Below w10.heap.size w10 w13 := C11.trans ((C12.mono C11.size).trans (C13.mono (by have := C11.size; have := C12.size; omega)))
        have TT13 := TT10.below E13
        have TV13 := TV10.below E13
        clear CE S11 S12 C11 C12 C13 E13 TT10 TU10 TV10 TY10
        have CN := len_any w13 (.pointer u4) l TV13 HS.out (by omega)
        go_wp2_with fail
        refine CN.mono ?_
        rintro e w14 ⟨rfl, C14⟩
        have B14 := B13.trans (C14.mono B13.size)
        have CN := len_any w14 (.pointer u) l (TT13.below C14) HS.out (by omega)
        go_wp2_with fail
        refine CN.mono ?_
        rintro e w15 ⟨rfl, C15⟩
        have B15 := B14.trans (C15.mono B14.size)
        have AL := alive7 w15 (HT.out.below B15 t2)
        have hee : (((l.length : Nat) : Int) == ((l.length : Nat) : Int)) = true := by simp
        clear CN
        go_wp2_with fail
        refine AL.mono ?_
        rintro e w16 ⟨rfl, C16⟩
        have B16 := B15.trans (C16.mono B15.size)
        go_wp2
        go_ret
        exact ⟨rfl, B16⟩
    · have hkb : (kd != 0) = true := by simp [hkd]
      have AL := alive7 w1 (HT.out.below B1 t2)
      clear hkd
      go_wp2_with fail
      refine AL.mono ?_
      rintro e w2 ⟨rfl, B⟩
      have B2 := B1.trans (B.mono B1.size)
      go_wp2
      go_ret
      exact ⟨rfl, B2⟩
end Go.Proofs.YtiabdcejibeciaaDoor

namespace Go.Proofs.YtiabdcejibeciaaDoor
open Go.RowKit

/-- Two lists that rise and have the same items are one. -/
theorem Srt.perm : ∀ {l r : List It}, Srt l → Srt r → l.Perm r → l = r
  | [], r, _, _, h => (List.Perm.nil_eq h)
  | x :: l, [], _, _, h => by simpa using h.length_eq
  | x :: l, y :: r, hl, hr, h => by
    have hx : x ∈ y :: r := h.mem_iff.1 (List.mem_cons_self ..)
    have hy : y ∈ x :: l := h.mem_iff.2 (List.mem_cons_self ..)
    have e : x = y := by
      rcases List.mem_cons.1 hx with e | hx
      · exact e
      · rcases List.mem_cons.1 hy with e | hy
        · exact e.symm
        · exact absurd (cmpL_lt_trans _ _ _ (hl.cons.1 y hy) (hr.cons.1 x hx)) (cmpL_irr _)
    subst e
    rw [Srt.perm hl.cons.2 hr.cons.2 ((List.perm_cons x).1 h)]
end Go.Proofs.YtiabdcejibeciaaDoor

namespace Go.Proofs.YtiabdcejibeciaaDoor
open Go.RowKit

theorem size2 (w : World) : (sizeOf 28).run Tryd.prog w = .ok 2 w := by
  have hI := itemInfo
  cases hi : Tryd.prog.info? 28 with
  | none => rw [hi] at hI; simp at hI
  | some i =>
    rw [hi] at hI
    simp only [Option.map_some, Option.some.injEq, Prod.mk.injEq] at hI
    simp [sizeOf, typeInfo, hi, hI.2.1]
/-- l[:i] -/
theorem run_upto2 {W : World} {ao : Option Addr} {n cap i : Nat} (h1 : i ≤ cap) :
    (Instr.sliceAt 22 (.slice ao n cap) none (some (.int .i64 (i : Nat))) none).run Tryd.prog W = .ok (.slice ao i cap) W := by
  have ht := Tryd.underlying22
  have he : Tryd.prog.elem 22 = 28 := by simp [Program.elem, ht]
  rw [run_sliceAt_slice W 22 _ _ _ _ (by rw [he]; exact ht), run_slice_h W 22 ao n cap (by rw [he]; exact ht) .i64 i (by omega) (by omega), he, size2]
  simp only [Result.andThen_ok, sliced, Int.toNat_natCast, Nat.zero_mul, Nat.sub_zero]
  cases ao with
  | none => simp
  | some a => simp [Addr.add_nought]
/-- Where l[j:] lies. -/
def bk2 (ao : Option Addr) (cap j : Nat) : Option Addr := if cap = j then ao else ao.map (·.add (j * 2))
/-- l[j:] -/
theorem run_back2 {W : World} {ao : Option Addr} {n cap j : Nat} (h1 : j ≤ n) :
    (Instr.sliceAt 22 (.slice ao n cap) (some (.int .i64 (j : Nat))) none none).run Tryd.prog W = .ok (.slice (bk2 ao cap j) (n - j) (cap - j)) W := by
  have ht := Tryd.underlying22
  have he : Tryd.prog.elem 22 = 28 := by simp [Program.elem, ht]
  rw [run_sliceAt_slice W 22 _ _ _ _ (by rw [he]; exact ht), run_slice_l W 22 ao n cap (by rw [he]; exact ht) .i64 j (by omega) (by omega), he, size2]
  simp only [Result.andThen_ok, sliced, Int.toNat_natCast, bk2]
theorem IL.front {w : World} {ao : Option Addr} {n cap : Nat} {its : List IP} (h : IL w ao n cap its) (i : Nat) (hi : i ≤ n) : IL w ao i cap (its.take i) := by
  have h1 := h.len
  have h2 := h.le
  refine ⟨by simp; omega, by omega, h.mx, fun hn => ?_, fun a ha j hj => ?_, fun q hq => h.sl q (List.mem_of_mem_take hq)⟩
  · have := h.nil hn
    omega
  · simp only [List.length_take] at hj
    have := h.cell a ha j (by omega)
    simpa using this
theorem IL.from {w : World} {ao : Option Addr} {n cap : Nat} {its : List IP} (h : IL w ao n cap its) (j : Nat) (hj : j ≤ n) : IL w (bk2 ao cap j) (n - j) (cap - j) (its.drop j) := by
  have h1 := h.len
  have h2 := h.mx
  have h3 := h.le
  refine ⟨by simp; omega, by omega, by omega, fun hn => ?_, fun b hb i hi => ?_, fun q hq => h.sl q (List.mem_of_mem_drop hq)⟩
  · unfold bk2 at hn
    by_cases hc : cap = j
    · omega
    · rw [if_neg hc] at hn
      have := h.nil (by simpa using hn)
      omega
  · simp only [List.length_drop] at hi
    have hc : cap ≠ j := by omega
    unfold bk2 at hb
    rw [if_neg hc] at hb
    cases ao with
    | none => simp at hb
    | some a =>
      have hb' : a.add (j * 2) = b := by simpa using hb
      have := h.cell a rfl (j + i) (by omega)
      rw [← hb', Addr.add_add, Addr.add_add, List.getElem_drop, ← Nat.add_mul, ← Nat.add_assoc, ← Nat.add_mul]
      exact this
theorem flatI_app (ps qs : List IP) : flatI (ps ++ qs) = flatI ps ++ flatI qs := by simp [flatI]
/-- append of items. -/
theorem run_appI {w : World} {base : Nat} {v : Value} {ps qs : List IP} (ty : TypeId) (h : w.ownsRow base 28 2 v ps.length (flatI ps)) (hb : base ≤ w.heap.size) {bo : Option Addr} {m c : Nat} (hx : IL w bo m c qs) (hn : ps.length + m ≤ 1000000) :
    ∃ v' w', (Builtin.append_ #[22, 22] ty #[v, .slice bo m c]).run Tryd.prog w = .ok v' w' ∧ w'.ownsRow base 28 2 v' (ps ++ qs).length (flatI (ps ++ qs)) ∧ Below base w w' := by
  obtain ⟨i0, hi, hz0, hz1, hz2⟩ := info_parts itemInfo
  have hlen := hx.len
  by_cases hm : m = 0
  · subst hm
    obtain rfl : qs = [] := List.eq_nil_of_length_eq_zero hlen
    have hv : ∃ ao cap, v = .slice ao ps.length cap ∧ ps.length ≤ cap := by
      rcases h.2 with ⟨rfl, e⟩ | ⟨g, cap, cur, rfl, hg, hh, hle, _⟩
      · rw [e]
        exact ⟨none, 0, rfl, Nat.le_refl _⟩
      · exact ⟨_, cap, rfl, hle⟩
    obtain ⟨ao, cap, rfl, hle⟩ := hv
    refine ⟨_, w, run_append_nothing w 22 22 ty 28 i0 Tryd.underlying22 hi ao ps.length cap hle _ (src_none Tryd.underlying22), ?_, Below.refl _ _⟩
    simpa using h
  · obtain ⟨ad, rfl⟩ : ∃ ad, bo = some ad := by
      cases bo with
      | none => have := (hx.nil rfl).1; omega
      | some ad => exact ⟨ad, rfl⟩
    obtain ⟨v', w', h1, h2, h3, -⟩ := run_append_own (P := Tryd.prog) w base 22 ty 28 i0 _ 2 48 Tryd.underlying22 hi hz0 hz1 hz2 rfl (by decide) v ps.length (flatI ps) h ad m c (flatI qs) (by rw [flatI_length, hlen])
      (fun j u hu => by
        have hj := (List.getElem?_eq_some_iff.1 hu).1
        rw [flatI_length] at hj
        have hq : j / 2 < qs.length := by omega
        obtain ⟨e1, e2⟩ := flatI_get qs (j / 2) hq
        obtain ⟨d1, d2⟩ := hx.cell ad rfl (j / 2) hq
        rcases Nat.mod_two_eq_zero_or_one j with hp | hp
        · have ej : j / 2 * 2 = j := by omega
          rw [ej] at e1 d1
          rw [d1, ← hu, e1]
        · have ej : j / 2 * 2 + 1 = j := by omega
          rw [ej] at e2 d2
          rw [d2, ← hu, e2]) (flatI_one qs) (by unfold maxLen; omega) (by omega) hb
    refine ⟨v', w', h1, ?_, (Below.refl _ w).grown h3 hb (fun k hk => (h.lt k hk).1)⟩
    rw [flatI_app, List.length_append, hlen]
    exact h2
theorem own_none (w : World) : (w.alloc (.cells #[] 28)).ownsRow w.heap.size 28 2 (.slice (some ⟨w.heap.size, 0, none⟩) 0 0) ([] : List IP).length (flatI []) :=
  World.ownsRow_made w #[] 0 (Nat.le_refl _) (Nat.zero_le _) rfl
end Go.Proofs.YtiabdcejibeciaaDoor

namespace Go.Proofs.YtiabdcejibeciaaDoor
open Go.RowKit

theorem own_slice {W : World} {base n : Nat} {e : TypeId} {size : Nat} {v : Value} {xs : List Value} (h : W.ownsRow base e size v n xs) : ∃ ao cap, v = .slice ao n cap := by
  rcases h.2 with ⟨rfl, rfl⟩ | ⟨g, cap, cur, rfl, _⟩
  · exact ⟨none, 0, rfl⟩
  · exact ⟨_, cap, rfl⟩
end Go.Proofs.YtiabdcejibeciaaDoor

namespace Go.Proofs.YtiabdcejibeciaaDoor
open Go.RowKit

/-- append of items to a row of the call's own. -/
theorem wpList_appIs {w : World} {ops : Array Oper} {rest : List Oper} {o : Oper} {a : Act} {Q : Exit → Act → World → Prop} (hgd : o.guard = none) (s x : Operand)
    (ho : o.op = .call { callee := .builtin .append, args := #[s, x], argTypes := #[22, 22] })
    (base : Nat) (v : Value) (ps : List IP) (hs : a.eval s = v) (hown : w.ownsRow base 28 2 v ps.length (flatI ps))
    (bo : Option Addr) (m c : Nat) (qs : List IP) (hx : a.eval x = .slice bo m c) (hil : IL w bo m c qs) (hn : ps.length + m ≤ 1000000) (hbase : base ≤ w.heap.size)
    (h : ∀ v' w', w'.ownsRow base 28 2 v' (ps ++ qs).length (flatI (ps ++ qs)) → Below base w w' → wpList Tryd.prog ops Q rest (a.put o.dst v') w') : wpList Tryd.prog ops Q (o :: rest) a w := by
  obtain ⟨v', w', hr, h1, h2⟩ := run_appI (w := w) o.type hown hbase hil hn
  refine wpList_plain hgd fun _ hK => ?_
  unfold Oper.wp execOp
  simp only [ho, resolve, invoke, builtin, Sem.run_bind, Sem.run_pure, Result.andThen_ok, List.map_toArray, List.map_cons, List.map_nil, hs, hx, hr, Oper.upon]
  exact hK _ _ (h v' w' h1 h2)

theorem put_parts {l : List It} {k : Nat} {key : List Int} (h1 : ∀ x ∈ l.take k, cmpL x.k key < 0) (h2 : ∀ x ∈ l.drop k, ¬ cmpL x.k key < 0) : lo key l = l.take k ∧ hi key l = (l.drop k).filter fun x => decide (cmpL key x.k < 0) := by
  have e : l = l.take k ++ l.drop k := (List.take_append_drop k l).symm
  constructor
  · unfold lo
    conv => lhs; rw [e]
    rw [List.filter_append, List.filter_eq_self.2 fun x hx => decide_eq_true (h1 x hx), List.filter_eq_nil_iff.2 fun x hx => by simpa using h2 x hx, List.append_nil]
  · unfold hi
    conv => lhs; rw [e]
    rw [List.filter_append, List.filter_eq_nil_iff.2 fun x hx => by simpa using cmpL_asym (h1 x hx), List.nil_append]
theorem put_drop {l : List It} (hs : Srt l) {k : Nat} {key : List Int} (hk : ∀ x r, l.drop k = x :: r → ¬ cmpL x.k key < 0) : ∀ x ∈ l.drop k, ¬ cmpL x.k key < 0 := by
  intro x hx
  cases hd : l.drop k with
  | nil => rw [hd] at hx; simp at hx
  | cons y r =>
    rw [hd] at hx
    have hy := hk y r hd
    have hsd : Srt (y :: r) := by rw [← hd]; exact List.Pairwise.sublist (List.drop_sublist k l) hs
    rcases List.mem_cons.1 hx with rfl | hx
    · exact hy
    · intro hlt
      exact hy (cmpL_lt_trans _ _ _ (hsd.cons.1 x hx) hlt)
/-- With the key's own item there. -/
theorem put_same {l : List It} (hs : Srt l) {k : Nat} {x y : It} {r : List It} (h1 : ∀ z ∈ l.take k, cmpL z.k x.k < 0) (hd : l.drop k = y :: r) (hy : y.k = x.k) : l.take k ++ x :: r = ins l x := by
  have hsd : Srt (y :: r) := by rw [← hd]; exact List.Pairwise.sublist (List.drop_sublist k l) hs
  obtain ⟨e1, e2⟩ := put_parts h1 (put_drop hs fun z q hz => by rw [hd] at hz; obtain ⟨rfl, -⟩ := List.cons.inj hz; rw [hy]; exact cmpL_irr _)
  unfold ins
  rw [e1, e2, hd, List.filter_cons, if_neg (by rw [hy]; simpa using cmpL_irr x.k), List.filter_eq_self.2 fun z hz => decide_eq_true (by rw [← hy]; exact hsd.cons.1 z hz)]
/-- Without. -/
theorem put_new {l : List It} (hs : Srt l) {k : Nat} {x : It} (h1 : ∀ z ∈ l.take k, cmpL z.k x.k < 0) (hd : ∀ y r, l.drop k = y :: r → ¬ cmpL y.k x.k < 0 ∧ y.k ≠ x.k) : l.take k ++ x :: l.drop k = ins l x := by
  have h2 := put_drop hs fun z q hz => (hd z q hz).1
  obtain ⟨e1, e2⟩ := put_parts h1 h2
  unfold ins
  rw [e1, e2, List.filter_eq_self.2 fun z hz => decide_eq_true ?_]
  cases he : l.drop k with
  | nil => rw [he] at hz; simp at hz
  | cons y r =>
    have hsd : Srt (y :: r) := by rw [← he]; exact List.Pairwise.sublist (List.drop_sublist k l) hs
    obtain ⟨g1, g2⟩ := hd y r he
    have gy : cmpL x.k y.k < 0 := by
      rcases cmpL_total x.k y.k with h | h | h
      · exact h
      · exact absurd h.symm g2
      · exact absurd h g1
    rw [he] at hz
    rcases List.mem_cons.1 hz with rfl | hz
    · exact gy
    · exact cmpL_lt_trans _ _ _ gy (hsd.cons.1 z hz)
end Go.Proofs.YtiabdcejibeciaaDoor

namespace Go.Proofs.YtiabdcejibeciaaDoor
open Go.RowKit

/-- What stands against an item. -/
def askK (n m : Nat) : Int := if badK n then 5 else if 1024 < m then 4 else 0
set_option maxHeartbeats 1000000 in
theorem asked7_any (w : World) (ao bo : Option Addr) (n cap m c : Nat) : Calls Tryd.prog 9 #[.slice ao n cap, .slice bo m c] w fun e w' => e = .returned (.int .i64 (askK n m)) ∧ w' = w := by
  by_cases h1 : n < 1
  · have h1' : (n : Int) < 1 := by omega
    have HR : Hid (askK n m = 5) := by show _ = _; rw [askK, if_pos (by simp [badK]; omega)]
    go_enter Tryd.func9, Tryd.ntmps9
    go_wp2
    go_ret
    rw [HR.out]
    exact ⟨rfl, rfl⟩
  have h1' : ¬ (n : Int) < 1 := by omega
  by_cases h2 : 256 < n
  · have h2' : (n : Int) > 256 := by omega
    have HR : Hid (askK n m = 5) := by show _ = _; rw [askK, if_pos (by simp [badK]; omega)]
    go_enter Tryd.func9, Tryd.ntmps9
    go_wp2
    go_ret
    rw [HR.out]
    exact ⟨rfl, rfl⟩
  have h2' : ¬ (n : Int) > 256 := by omega
  have HB : Hid (badK n = false) := by show _ = _; simp [badK]; omega
  by_cases h3 : 1024 < m
  · have h3' : (m : Int) > 1024 := by omega
    have HR : Hid (askK n m = 4) := by show _ = _; rw [askK, HB.out, if_neg (by decide), if_pos h3]
    clear h3
    go_enter Tryd.func9, Tryd.ntmps9
    go_wp2
    go_ret
    rw [HR.out]
    exact ⟨rfl, rfl⟩
  · have h3' : ¬ (m : Int) > 1024 := by omega
    have HR : Hid (askK n m = 0) := by show _ = _; rw [askK, HB.out, if_neg (by decide), if_neg h3]
    clear h3
    go_enter Tryd.func9, Tryd.ntmps9
    go_wp2
    go_ret
    rw [HR.out]
    exact ⟨rfl, rfl⟩
end Go.Proofs.YtiabdcejibeciaaDoor

namespace Go.Proofs.YtiabdcejibeciaaDoor
open Go.RowKit

/-- Where a key is, or -1. -/
def FindPost (its : List IP) (key : List Int) (r : Int) : Prop := (r = -1 ∧ ∀ q ∈ its, q.k.xs ≠ key) ∨ ∃ (k : Nat) (h : k < its.length), r = k ∧ its[k].k.xs = key ∧ ∀ q ∈ its.take k, q.k.xs ≠ key

set_option maxHeartbeats 1000000 in
set_option maxRecDepth 100000 in
theorem rfind7_any (w : World) (ao : Option Addr) (n cap : Nat) (its : List IP) (ko : Option Addr) (kn kc : Nat) (key : List Int) (h : IL w ao n cap its) (hk : Sl w ko kn kc key) :
    Calls Tryd.prog 10 #[.slice ao n cap, .slice ko kn kc] w fun e w' => ∃ r, e = .returned (.int .i64 r) ∧ FindPost its key r ∧ Below w.heap.size w w' := by
  have hl1 := Nat.le_of_eq h.len
  have hl2 := Nat.le_of_eq h.len.symm
  have hmx := h.mx
  have hle := h.le
  have hnx : (n : Int) ≤ 9223372036854775807 := by unfold maxLen at hmx; omega
  go_enter Tryd.func10, Tryd.ntmps10
  go_wp2
  go_loopw [5] (fun i wr => ∃ k : Nat, k ≤ n ∧ i = .int .i64 k ∧ (∀ q ∈ its.take k, q.k.xs ≠ key) ∧ Below w.heap.size w wr) (fun i _ => n - (intOf i).toNat)
  case atStart => exact ⟨0, Nat.zero_le _, rfl, by simp, Below.refl _ _⟩
  case round =>
    obtain ⟨k, hkn, rfl, hj, hB⟩ := hrel
    have HJ : Hid (∀ q ∈ its.take k, q.k.xs ≠ key) := hj
    clear hj
    by_cases hlt : k < n
    · have hki : (k : Int) < (n : Int) := by omega
      have hkl : k < its.length := by omega
      obtain ⟨b, off, rfl, hc⟩ := (h.below hB).at (by omega)
      obtain ⟨c1, c2⟩ := hc k hkl
      have S1 := ((h.below hB).sl its[k] (List.getElem_mem hkl)).1
      have CS := same_any wr its[k].k.ao ko its[k].k.n its[k].k.cap kn kc its[k].k.xs key S1 (hk.below hB)
      have HT : Hid (its.take (k + 1) = its.take k ++ [its[k]]) := List.take_succ_eq_append_getElem hkl
      unfold Part.val at c1 c2
      clear hc
      by_cases hq : its[k].k.xs = key
      · have hd : decide (its[k].k.xs = key) = true := decide_eq_true hq
        rw [hd] at CS
        have HQ : Hid (its[k].k.xs = key) := hq
        clear hd hq S1
        go_wp2_with fail
        refine CS.mono ?_
        rintro e w2 ⟨rfl, q, rfl⟩
        clear CS
        go_wp2
        go_ret
        exact ⟨_, rfl, .inr ⟨k, hkl, rfl, HQ.out, HJ.out⟩, hB.trans (below_drewN _ _ _)⟩
      · have hd : decide (its[k].k.xs = key) = false := decide_eq_false hq
        rw [hd] at CS
        have HQ : Hid (¬ its[k].k.xs = key) := hq
        clear hd hq S1
        go_wp2_with fail
        refine CS.mono ?_
        rintro e w2 ⟨rfl, q, rfl⟩
        clear CS
        go_wp2
        go_roundw
        case rel =>
          refine ⟨k + 1, by omega, by go_num, fun r hr => ?_, hB.trans (below_drewN _ _ _)⟩
          rw [HT.out] at hr
          rcases List.mem_append.1 hr with hr | hr
          · exact HJ.out r hr
          · rw [List.mem_singleton.1 hr]
            exact HQ.out
        case measure => simp [intOf]; omega
    · have hge : ¬ (k : Int) < (n : Int) := by omega
      go_wp2
      go_ret
      refine ⟨_, rfl, .inl ⟨rfl, fun q hq => HJ.out q ?_⟩, hB⟩
      rw [List.take_of_length_le (by omega)]
      exact hq
end Go.Proofs.YtiabdcejibeciaaDoor

namespace Go.Proofs.YtiabdcejibeciaaDoor
open Go.RowKit

theorem mem_ins {l : List It} {x y : It} : y ∈ ins l x ↔ y = x ∨ (y ∈ l ∧ y.k ≠ x.k) := by
  unfold ins
  rw [List.mem_append, List.mem_cons, mem_lo, mem_hi]
  constructor
  · rintro (⟨h1, h2⟩ | h | ⟨h1, h2⟩)
    · exact .inr ⟨h1, cmpL_lt_ne h2⟩
    · exact .inl h
    · exact .inr ⟨h1, fun e => cmpL_lt_ne h2 e.symm⟩
  · rintro (h | ⟨h1, h2⟩)
    · exact .inr (.inl h)
    · rcases cmpL_total y.k x.k with h3 | h3 | h3
      · exact .inl ⟨h1, h3⟩
      · exact absurd h3 h2
      · exact .inr (.inr ⟨h1, h3⟩)
theorem mem_del {l : List It} {k : List Int} {y : It} : y ∈ del l k ↔ y ∈ l ∧ y.k ≠ k := by
  unfold del
  rw [List.mem_append, mem_lo, mem_hi]
  constructor
  · rintro (⟨h1, h2⟩ | ⟨h1, h2⟩)
    · exact ⟨h1, cmpL_lt_ne h2⟩
    · exact ⟨h1, fun e => cmpL_lt_ne h2 e.symm⟩
  · rintro ⟨h1, h2⟩
    rcases cmpL_total y.k k with h3 | h3 | h3
    · exact .inl ⟨h1, h3⟩
    · exact absurd h3 h2
    · exact .inr ⟨h1, h3⟩
/-- Two lists that rise and have the same members are one. -/
theorem Srt.same {a b : List It} (ha : Srt a) (hb : Srt b) (h : ∀ x, x ∈ a ↔ x ∈ b) : a = b := by
  have nd : ∀ l : List It, Srt l → l.Nodup := fun l h => by
    refine List.Pairwise.imp ?_ h
    intro u v e q
    exact cmpL_lt_ne (a := u.k) (b := v.k) e (congrArg It.k q)
  have na := nd a ha
  have nb := nd b hb
  exact ha.perm hb ((List.perm_ext_iff_of_nodup na nb).2 h)
/-- An item is stored in a slice of the call's own. -/
theorem IL.store {W : World} {g n cap i : Nat} {its : List IP} {q : IP} (h : IL W (some ⟨g, 0, none⟩) n cap its) (hq : q.ok W) (hi : i < n) (hn : ∀ r ∈ its, ∀ x, r.blk x → x ≠ g) (hqn : ∀ x, q.blk x → x ≠ g) :
    IL ((W.setCell ⟨g, i * 2, none⟩ q.k.val).setCell ⟨g, i * 2 + 1, none⟩ q.v.val) (some ⟨g, 0, none⟩) n cap (its.set i q) := by
  have hlen := h.len
  have hother : ∀ x, x ≠ g → ((W.setCell ⟨g, i * 2, none⟩ q.k.val).setCell ⟨g, i * 2 + 1, none⟩ q.v.val).heap[x]? = W.heap[x]? := fun x hx => (heap_setCell_other _ ⟨g, i * 2 + 1, none⟩ x _ hx).trans (heap_setCell_other W ⟨g, i * 2, none⟩ x _ hx)
  refine ⟨by simpa using hlen, h.le, h.mx, h.nil, fun a ha j hj => ?_, fun r hr => ?_⟩
  · obtain rfl := Option.some.inj ha
    simp only [List.length_set] at hj
    obtain ⟨c1, c2⟩ := h.cell _ rfl j (by omega)
    rw [Addr.add_lit, Nat.zero_add] at c1 c2 ⊢
    rw [Addr.add_lit, Nat.zero_add]
    obtain ⟨d1, d2⟩ := h.cell _ rfl i (by omega)
    rw [Addr.add_lit, Nat.zero_add] at d1 d2
    by_cases e : i = j
    · subst e
      rw [List.getElem_set_self]
      have e2 : (W.setCell ⟨g, i * 2, none⟩ q.k.val).cell? ⟨g, i * 2 + 1, none⟩ = some its[i].v.val := (World.cell?_setCell_other _ _ _ _ (by simp)).trans d2
      exact ⟨(World.cell?_setCell_other _ _ _ _ (by simp)).trans (World.cell?_setCell_same _ _ _ d1), World.cell?_setCell_same _ _ _ e2⟩
    · rw [List.getElem_set_ne e]
      refine ⟨?_, ?_⟩
      · rw [World.cell?_setCell_other _ _ _ _ (by simp), World.cell?_setCell_other _ _ _ _ (by simp)]
        exact c1
      · rw [World.cell?_setCell_other _ _ _ _ (by simp), World.cell?_setCell_other _ _ _ _ (by simp)]
        exact c2
  · rcases List.mem_or_eq_of_mem_set hr with hr | rfl
    · exact (h.sl r hr).kept fun x hx => hother x (hn r hr x hx)
    · exact hq.kept fun x hx => hother x (hqn x hx)
/-- Two places change. -/
theorem mem_swap {l : List IP} {a b : Nat} (ha : a < l.length) (hb : b < l.length) (x : It) : x ∈ ((l.set a l[b]).set b l[a]).map IP.it ↔ x ∈ l.map IP.it := by
  rw [List.mem_map, List.mem_map]
  constructor
  · rintro ⟨r, hr, rfl⟩
    rcases List.mem_or_eq_of_mem_set hr with hr | rfl
    · rcases List.mem_or_eq_of_mem_set hr with hr | rfl
      · exact ⟨r, hr, rfl⟩
      · exact ⟨_, List.getElem_mem hb, rfl⟩
    · exact ⟨_, List.getElem_mem ha, rfl⟩
  · rintro ⟨r, hr, rfl⟩
    obtain ⟨i, hi, rfl⟩ := List.mem_iff_getElem.1 hr
    by_cases eb : i = b
    · subst eb
      by_cases ea : a = i
      · subst ea
        refine ⟨l[a], ?_, rfl⟩
        rw [List.mem_iff_getElem]
        exact ⟨a, by simpa using ha, by simp⟩
      · refine ⟨l[i], ?_, rfl⟩
        rw [List.mem_iff_getElem]
        refine ⟨a, by simpa using ha, ?_⟩
        rw [List.getElem_set_ne (fun e => ea e.symm), List.getElem_set_self]
    · by_cases ea : i = a
      · subst ea
        refine ⟨l[i], ?_, rfl⟩
        rw [List.mem_iff_getElem]
        exact ⟨b, by simpa using hb, by simp⟩
      · refine ⟨l[i], ?_, rfl⟩
        rw [List.mem_iff_getElem]
        refine ⟨i, by simpa using hi, ?_⟩
        rw [List.getElem_set_ne (fun e => eb e.symm), List.getElem_set_ne (fun e => ea e.symm)]
theorem askK_ok {n m : Nat} (h : askK n m = 0) : 1 ≤ n ∧ n ≤ 256 ∧ m ≤ 1024 := by
  unfold askK at h
  by_cases hb : badK n = true
  · rw [if_pos hb] at h
    exact absurd h (by decide)
  · rw [if_neg hb] at h
    by_cases hm : 1024 < m
    · rw [if_pos hm] at h
      exact absurd h (by decide)
    · have : ¬ (n < 1 ∨ 256 < n) := by simpa [badK] using hb
      omega
/-- A row of items of the call's own that is not empty: where it lies. -/
theorem own_items_at {W : World} {base : Nat} {v : Value} {ps : List IP} (h : W.ownsRow base 28 2 v ps.length (flatI ps)) (sl : ∀ q ∈ ps, q.ok W) (hn : 0 < ps.length) : ∃ g cap, v = .slice (some ⟨g, 0, none⟩) ps.length cap ∧ base ≤ g ∧ IL W (some ⟨g, 0, none⟩) ps.length cap ps ∧ ∀ o, W.frozen? ⟨g, o, none⟩ = false := by
  obtain ⟨ao, cap, rfl, hI⟩ := own_items h sl
  rcases h.2 with ⟨e, e2⟩ | ⟨g, cap2, cur, e, hg, hh, -⟩
  · omega
  · have e1 := e
    simp only [Value.slice.injEq] at e1
    obtain ⟨rfl, -, rfl⟩ := e1
    exact ⟨g, cap, rfl, hg, hI, fun o => frozen_of_row W g o _ _ hh⟩
theorem IL.swap {W : World} {g n cap i j : Nat} {its : List IP} (h : IL W (some ⟨g, 0, none⟩) n cap its) (hi : i < its.length) (hj : j < its.length) (hn : ∀ r ∈ its, ∀ x, r.blk x → x ≠ g) :
    IL ((((W.setCell ⟨g, i * 2, none⟩ its[j].k.val).setCell ⟨g, i * 2 + 1, none⟩ its[j].v.val).setCell ⟨g, j * 2, none⟩ its[i].k.val).setCell ⟨g, j * 2 + 1, none⟩ its[i].v.val) (some ⟨g, 0, none⟩) n cap ((its.set i its[j]).set j its[i]) := by
  have hl := h.len
  have h1 := h.store (i := i) (q := its[j]) (h.sl _ (List.getElem_mem hj)) (by omega) hn (hn _ (List.getElem_mem hj))
  have hi2 : its[i].ok W := h.sl _ (List.getElem_mem hi)
  refine h1.store (i := j) (q := its[i]) (hi2.kept fun x hx => ?_) (by omega) (fun r hr => ?_) (hn _ (List.getElem_mem hi))
  · have hx := hn _ (List.getElem_mem hi) x hx
    exact (heap_setCell_other _ ⟨g, i * 2 + 1, none⟩ x _ hx).trans (heap_setCell_other W ⟨g, i * 2, none⟩ x _ hx)
  · rcases List.mem_or_eq_of_mem_set hr with hr | rfl
    · exact hn r hr
    · exact hn _ (List.getElem_mem hj)
theorem ins_perm7 {l : List It} {x : It} (h : ∀ y ∈ l, y.k ≠ x.k) : (ins l x).Perm (x :: l) := by
  unfold ins
  refine List.perm_middle.trans ((List.perm_cons x).2 ?_)
  have e : hi x.k l = l.filter fun y => !decide (cmpL y.k x.k < 0) := by
    unfold hi
    refine List.filter_congr fun y hy => ?_
    rcases cmpL_total y.k x.k with h1 | h1 | h1
    · rw [decide_eq_false (cmpL_asym h1), decide_eq_true h1]
      rfl
    · exact absurd h1 (h y hy)
    · rw [decide_eq_true h1, decide_eq_false (cmpL_asym h1)]
      rfl
  rw [e]
  exact List.filter_append_perm _ _
theorem jL_all : ∀ (its : List IP), (∀ q ∈ its, 1 ≤ q.k.n ∧ q.k.n ≤ 256 ∧ q.v.n ≤ 1024) → jL its 0 = 0
  | [], _ => rfl
  | q :: its, h => by
    have h1 := h q (List.mem_cons_self ..)
    have e : badK q.k.n = false := by simp [badK]; omega
    rw [jL, e, if_neg (by simp), if_neg (show ¬ 1024 < q.v.n by omega)]
    exact jL_all its fun y hy => h y (List.mem_cons_of_mem _ hy)
/-- The items that were asked: sizes, and no key twice. -/
structure Gd7 (its : List IP) : Prop where
  sz : ∀ q ∈ its, 1 ≤ q.k.n ∧ q.k.n ≤ 256 ∧ q.v.n ≤ 1024
  nd : ((its.map IP.it).map It.k).Nodup
theorem Gd7.nil : Gd7 [] := ⟨fun _ h => by simp at h, by simp⟩
theorem Gd7.snoc {its : List IP} (h : Gd7 its) {q : IP} (hz : 1 ≤ q.k.n ∧ q.k.n ≤ 256 ∧ q.v.n ≤ 1024) (hq : ∀ p ∈ its, p.k.xs ≠ q.k.xs) : Gd7 (its ++ [q]) := by
  refine ⟨fun p hp => ?_, ?_⟩
  · rcases List.mem_append.1 hp with hp | hp
    · exact h.sz p hp
    · rw [List.mem_singleton.1 hp]
      exact hz
  · rw [List.map_append, List.map_append, List.nodup_append]
    refine ⟨h.nd, by simp, fun a ha b hb e => ?_⟩
    obtain ⟨x, hx, rfl⟩ := List.mem_map.1 ha
    obtain ⟨p, hp, rfl⟩ := List.mem_map.1 hx
    simp only [List.map_cons, List.map_nil, List.mem_singleton] at hb
    subst hb
    exact hq p hp e
theorem Gd7.perm {its ms : List IP} (h : Gd7 its) (hp : ms.Perm its) : Gd7 ms := ⟨fun q hq => h.sz q (hp.mem_iff.1 hq), (((hp.map IP.it).map It.k).nodup_iff).2 h.nd⟩
theorem nodup_uniq : ∀ (l : List It), (l.map It.k).Nodup → ∀ x ∈ l, ∀ y ∈ l, x.k = y.k → x = y
  | [], _, x, hx, _, _, _ => by simp at hx
  | z :: l, h, x, hx, y, hy, e => by
    rw [List.map_cons, List.nodup_cons] at h
    rcases List.mem_cons.1 hx with h1 | h1
    · rcases List.mem_cons.1 hy with h2 | h2
      · rw [h1, h2]
      · exact absurd (List.mem_map.2 ⟨y, h2, by rw [← e, h1]⟩) h.1
    · rcases List.mem_cons.1 hy with h2 | h2
      · exact absurd (List.mem_map.2 ⟨x, h1, by rw [e, h2]⟩) h.1
      · exact nodup_uniq l h.2 x h1 y h2 e
theorem perm_next {l : List It} {ps : List IP} {q : IP} (h : l.Perm (ps.map IP.it)) (hq : ∀ p ∈ ps, p.k.xs ≠ q.k.xs) : (ins l q.it).Perm ((ps ++ [q]).map IP.it) := by
  have h1 : ∀ y ∈ l, y.k ≠ q.it.k := fun y hy e => by
    obtain ⟨p, hp, rfl⟩ := List.mem_map.1 (h.mem_iff.1 hy)
    exact hq p hp e
  refine (ins_perm7 h1).trans ?_
  rw [List.map_append]
  exact ((List.perm_cons _).2 h).trans (List.perm_append_singleton _ _).symm
/-- What stands in the second tree: the first items of one list, and others of keys that it has not. -/
structure Mix2 (its : List IP) (P : List It) (K : List (List Int)) (l : List It) : Prop where
  srt : Srt l
  all : ∀ x ∈ P, x ∈ l
  only : ∀ x ∈ l, x ∈ P ∨ (x.k ∈ K ∧ ∀ p ∈ its, p.k.xs ≠ x.k)
theorem Mix2.other {its : List IP} {P : List It} {K : List (List Int)} {l : List It} (h : Mix2 its P K l) (hP : ∀ x ∈ P, ∃ p ∈ its, p.it = x) {y : It} (hy : y.k ∈ K) (hn : ∀ p ∈ its, p.k.xs ≠ y.k) : Mix2 its P K (ins l y) := by
  refine ⟨h.srt.ofIns y, fun x hx => mem_ins.2 (.inr ⟨h.all x hx, fun e => ?_⟩), fun x hx => ?_⟩
  · obtain ⟨p, hp, rfl⟩ := hP x hx
    exact hn p hp e
  · rcases mem_ins.1 hx with rfl | ⟨hx, -⟩
    · exact .inr ⟨hy, hn⟩
    · exact h.only x hx
theorem Mix2.next {its : List IP} {P : List It} {K : List (List Int)} {l : List It} (h : Mix2 its P K l) (hP : ∀ x ∈ P, ∃ p ∈ its, p.it = x) (hg : Gd7 its) {r : IP} (hr : r ∈ its) : Mix2 its (P ++ [r.it]) K (ins l r.it) := by
  refine ⟨h.srt.ofIns _, fun x hx => ?_, fun x hx => ?_⟩
  · rcases List.mem_append.1 hx with hx | hx
    · by_cases e : x.k = r.it.k
      · obtain ⟨p, hp, rfl⟩ := hP x hx
        exact mem_ins.2 (.inl (nodup_uniq _ hg.nd _ (List.mem_map.2 ⟨p, hp, rfl⟩) _ (List.mem_map.2 ⟨r, hr, rfl⟩) e))
      · exact mem_ins.2 (.inr ⟨h.all x hx, e⟩)
    · exact mem_ins.2 (.inl (List.mem_singleton.1 hx))
  · rcases mem_ins.1 hx with rfl | ⟨hx, -⟩
    · exact .inl (List.mem_append_right _ (List.mem_singleton.2 rfl))
    · rcases h.only x hx with h1 | h1
      · exact .inl (List.mem_append_left _ h1)
      · exact .inr h1
theorem Mix2.gone {its : List IP} {P : List It} {k : List Int} {K : List (List Int)} {l : List It} (h : Mix2 its P (k :: K) l) (hP : ∀ x ∈ P, ∃ p ∈ its, p.it = x) (hn : ∀ p ∈ its, p.k.xs ≠ k) : Mix2 its P K (del l k) := by
  refine ⟨h.srt.ofDel k, fun x hx => mem_del.2 ⟨h.all x hx, ?_⟩, fun x hx => ?_⟩
  · obtain ⟨p, hp, rfl⟩ := hP x hx
    exact hn p hp
  · obtain ⟨h1, h2⟩ := mem_del.1 hx
    rcases h.only x h1 with h3 | ⟨h3, h4⟩
    · exact .inl h3
    · rcases List.mem_cons.1 h3 with h3 | h3
      · exact absurd h3 h2
      · exact .inr ⟨h3, h4⟩
theorem Mix2.skip {its : List IP} {P : List It} {k : List Int} {K : List (List Int)} {l : List It} (h : Mix2 its P (k :: K) l) {p : IP} (hp : p ∈ its) (e : p.k.xs = k) : Mix2 its P K l := by
  refine ⟨h.srt, h.all, fun x hx => ?_⟩
  rcases h.only x hx with h3 | ⟨h3, h4⟩
  · exact .inl h3
  · rcases List.mem_cons.1 h3 with h3 | h3
    · exact absurd (e.trans h3.symm) (h4 p hp)
    · exact .inr ⟨h3, h4⟩
theorem Mix2.end {its : List IP} {P : List It} {l : List It} (h : Mix2 its P [] l) (x : It) : x ∈ l ↔ x ∈ P := by
  constructor
  · intro hx
    rcases h.only x hx with h1 | ⟨h1, -⟩
    · exact h1
    · simp at h1
  · exact h.all x
end Go.Proofs.YtiabdcejibeciaaDoor

namespace Go.Proofs.YtiabdcejibeciaaDoor
open Go.RowKit

theorem less_cmp : ∀ a b : List UInt8, Op.bytesLess a b = decide (cmpL (a.map fun c => (c.toNat : Int)) (b.map fun c => (c.toNat : Int)) < 0)
  | [], [] => rfl
  | _ :: _, [] => rfl
  | [], _ :: _ => rfl
  | a :: x, b :: y => by
    rw [Op.bytesLess, less_cmp x y, List.map_cons, List.map_cons, cmpL_cons]
    by_cases e : a = b
    · subst e
      have h : ¬ a < a := UInt8.lt_irrefl a
      simp [h]
    · have hn : a.toNat ≠ b.toNat := fun h => e (UInt8.toNat_inj.1 h)
      have hb : (a == b) = false := by simp [e]
      rw [hb, if_neg (by omega)]
      by_cases l : a < b
      · have l2 : (a.toNat : Int) < (b.toNat : Int) := by have := UInt8.lt_iff_toNat_lt.1 l; omega
        rw [if_pos l2]
        simp [l]
      · have l2 : ¬ (a.toNat : Int) < (b.toNat : Int) := fun h => l (UInt8.lt_iff_toNat_lt.2 (by omega))
        rw [if_neg l2]
        simp [l]
theorem less_sb (s t : ByteArray) : Op.bytesLess s.toList t.toList = decide (cmpL (sb s) (sb t) < 0) := by
  rw [ByteArray.toList_eq, ByteArray.toList_eq, less_cmp]
  rfl
/-- string(a) < string(b) -/
theorem less_str {xs ys : List Int} (hx : Byt xs) (hy : Byt ys) : Op.bytesLess (strOfNums xs).toList (strOfNums ys).toList = decide (cmpL xs ys < 0) := by
  rw [less_sb, sb_str hx, sb_str hy]
theorem gtr_bytes (t : TypeId) (a b : ByteArray) : binOp .gtr t (.string a) (.string b) = pure (.bool !(Op.bytesLess a.toList b.toList || a.toList == b.toList)) := by simp [binOp, Op.stringOp]
/-- string(a) > string(b) -/
theorem gtr_str {xs ys : List Int} (hx : Byt xs) (hy : Byt ys) (t : TypeId) (W : World) : (binOp .gtr t (.string (strOfNums xs)) (.string (strOfNums ys))).run Tryd.prog W = .ok (.bool (decide (cmpL ys xs < 0))) W := by
  have he : ((strOfNums xs).toList == (strOfNums ys).toList) = decide (xs = ys) := by
    rw [Bool.eq_iff_iff, beq_iff_eq, decide_eq_true_eq, ← str_eq hx hy, ByteArray.toList_eq, ByteArray.toList_eq]
    exact ⟨fun e => ByteArray.ext (Array.toList_inj.1 e), fun e => by rw [e]⟩
  rw [gtr_bytes, Sem.run_pure, less_str hx hy, he]
  congr 2
  rcases cmpL_total xs ys with h | h | h
  · have := cmpL_asym h
    simp [h, this]
  · subst h
    have := cmpL_irr xs
    simp [this]
  · have h1 := cmpL_asym h
    have h2 := cmpL_lt_ne h
    have h3 : ¬ xs = ys := fun e => h2 e.symm
    simp [h, h1, h3]
end Go.Proofs.YtiabdcejibeciaaDoor

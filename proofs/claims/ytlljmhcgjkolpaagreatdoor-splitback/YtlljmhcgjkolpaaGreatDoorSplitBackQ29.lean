/-
  Texts in one: HMath, FormL, SumOfW, HashM, AppR, PFormOf, PRootN, PHash, TbRoot, SameT.
-/
import Derived.Test.YtlljmhcgjkolpaaGreatDoorSplitBackQFL
import Derived.Test.YtlljmhcgjkolpaaGreatDoorSplitBackQ3
import Derived.Test.YtlljmhcgjkolpaaGreatDoorSplitBackQ28
import Derived.Test.YtlljmhcgjkolpaaGreatDoorSplitBackQ2
import Derived.Test.YtlljmhcgjkolpaaGreatDoorSplitBackQ27
import Derived.Test.YtlljmhcgjkolpaaGreatDoorSplitBackQ9
import Derived.Test.YtlljmhcgjkolpaaGreatDoorSplitBackQ11
import Derived.Test.YtlljmhcgjkolpaaGreatDoorSplitBackQ0
import Derived.Test.YtlljmhcgjkolpaaGreatDoorSplitBackQ5
import Derived.Test.YtlljmhcgjkolpaaGreatDoorSplitBackQ17
import Derived.Test.YtlljmhcgjkolpaaGreatDoorSplitBackQ8
import Derived.BigQuiet
import Derived.Test.YtlljmhcgjkolpaaGreatDoorSplitBackQ7
namespace Go.Proofs.YtlljmhcgjkolpaaGreatDoor
open Go.RowKit
def emptyH : List Int := [101, 109, 112, 116, 121]
def hashN : Nat → List It → List Int
  | 0, _ => sumL emptyH
  | n + 1, l => if l.isEmpty then sumL emptyH else
    sumL (formN (maxV lev l) ((keysF lev (maxV lev l) l).map It.k) ((keysF lev (maxV lev l) l).map fun x => sumL x.v) ((segsF lev (maxV lev l) l).map (hashN n)))
def hashI (l : List It) : List Int := hashN l.length l
theorem segs_short (lv : List Int → Nat) (l : List It) (hne : l ≠ []) (s : List It) (hs : s ∈ segsF lv (maxV lv l) l) : s.length < l.length := by
  have hex : ∃ x ∈ l, lv x.k = maxV lv l := by
    clear hs
    induction l with
    | nil => exact absurd rfl hne
    | cons x l ih =>
      by_cases hl : l = []
      · subst hl
        exact ⟨x, List.mem_cons_self .., by simp [maxV]⟩
      · obtain ⟨y, hy, hyl⟩ := ih hl
        by_cases hx : maxV lv l ≤ lv x.k
        · exact ⟨x, List.mem_cons_self .., by simp only [maxV]; omega⟩
        · exact ⟨y, List.mem_cons_of_mem _ hy, by simp only [maxV]; omega⟩
  have hsum : ∀ (L : Nat) (l : List It), (segsF lv L l).flatten.length + (keysF lv L l).length = l.length := by
    intro L l
    induction l with
    | nil => rfl
    | cons x l ih =>
      unfold keysF at ih ⊢
      simp only [segsF]
      by_cases hx : lv x.k = L
      · rw [if_pos hx, List.filter_cons_of_pos (by simpa using hx)]
        simp only [List.flatten_cons, List.nil_append, List.length_cons]
        omega
      · rw [if_neg hx, List.filter_cons_of_neg (by simpa using hx)]
        cases hsg : segsF lv L l with
        | nil =>
          rw [hsg] at ih
          simp only [List.flatten_nil, List.length_nil, List.flatten_cons, List.append_nil, List.length_cons] at ih ⊢
          omega
        | cons t ts =>
          rw [hsg] at ih
          simp only [List.flatten_cons, List.length_append, List.length_cons] at ih ⊢
          omega
  obtain ⟨x, hx, hxl⟩ := hex
  have h1 := hsum (maxV lv l) l
  have h2 : 0 < (keysF lv (maxV lv l) l).length := List.length_pos_of_mem (List.mem_filter.2 ⟨hx, by simpa using hxl⟩)
  have h3 : s.length ≤ (segsF lv (maxV lv l) l).flatten.length := by
    obtain ⟨a, b, e⟩ := List.append_of_mem hs
    rw [e]
    simp only [List.flatten_append, List.flatten_cons, List.length_append]
    omega
  omega
theorem hashN_re : ∀ (n m : Nat) (l : List It), l.length ≤ n → l.length ≤ m → hashN n l = hashN m l
  | 0, 0, _, _, _ => rfl
  | 0, m + 1, l, h, _ => by
    obtain rfl : l = [] := List.eq_nil_of_length_eq_zero (by omega)
    rfl
  | n + 1, 0, l, _, h => by
    obtain rfl : l = [] := List.eq_nil_of_length_eq_zero (by omega)
    rfl
  | n + 1, m + 1, l, h1, h2 => by
    simp only [hashN]
    by_cases he : l.isEmpty = true
    · rw [if_pos he, if_pos he]
    · rw [if_neg he, if_neg he]
      congr 2
      refine List.map_congr_left fun s hs => ?_
      have hlt : s.length < l.length := by
        have hne : l ≠ [] := fun e => he (by rw [e]; rfl)
        exact segs_short lev l hne s hs
      exact hashN_re n m s (by omega) (by omega)
theorem hashI_node {l : List It} {L : Nat} {segs : List (List It)} {xs : List It} (h : Shp lev l L segs xs) : hashI l = sumL (formN L (xs.map It.k) (xs.map fun x => sumL x.v) (segs.map hashI)) := by
  obtain ⟨e1, e2, e3⟩ := h.unique
  have hpos := h.pos
  have hne : l ≠ [] := fun e => by
    have := h.key xs[0] (List.getElem_mem hpos)
    rw [e] at this
    simp at this
  obtain ⟨m, hm⟩ : ∃ m, l.length = m + 1 := ⟨l.length - 1, by have := List.length_pos_iff.2 hne; omega⟩
  unfold hashI
  rw [hm]
  simp only [hashN]
  rw [if_neg (by simpa using hne), ← e1, ← e2, ← e3]
  congr 2
  refine List.map_congr_left fun s hs => ?_
  have := h.shorter s hs
  exact hashN_re m s.length s (by omega) (Nat.le_refl _)
theorem hashI_len (l : List It) : (hashI l).length = 32 := by
  unfold hashI
  cases l.length with
  | zero => exact sumL_len _
  | succ n =>
    simp only [hashN]
    split
    · exact sumL_len _
    · exact sumL_len _
theorem Sl.inj {w : World} {ao : Option Addr} {n cap : Nat} {xs ys : List Int} (h : Sl w ao n cap xs) (k : Sl w ao n cap ys) : xs = ys := by
  have h1 := h.len
  have h2 := k.len
  refine List.ext_getElem (by omega) fun i hi hj => ?_
  cases ao with
  | none => have := (h.nil rfl).1; omega
  | some a =>
    have e1 := h.cell a rfl i (by omega)
    have e2 := k.cell a rfl i (by omega)
    rw [e1] at e2
    simp only [Option.some.injEq, Value.int.injEq, true_and] at e2
    simpa [List.getD, hi, hj] using e2
theorem KL.inj {w : World} {ao : Option Addr} {n cap : Nat} {ps qs : List Part} (h : KL w ao n cap ps) (k : KL w ao n cap qs) : ps.map Part.xs = qs.map Part.xs := by
  have h1 := h.len
  have h2 := k.len
  refine List.ext_getElem (by simp; omega) fun i hi hj => ?_
  simp only [List.length_map] at hi hj
  cases ao with
  | none => have := (h.vl.nil rfl).1; omega
  | some a =>
    have e1 := h.vl.cell a rfl i (by simpa using hi)
    have e2 := k.vl.cell a rfl i (by simpa using hj)
    rw [e1] at e2
    simp only [List.getElem_map, Part.val, Option.some.injEq, Value.slice.injEq] at e2
    obtain ⟨e3, e4, e5⟩ := e2
    have s1 := h.sl ps[i] (List.getElem_mem hi)
    have s2 := k.sl qs[i] (List.getElem_mem hj)
    rw [← e3, ← e4, ← e5] at s2
    simpa using s1.inj s2
theorem It.ext' {x y : It} (h1 : x.k = y.k) (h2 : x.v = y.v) : x = y := by
  cases x
  cases y
  simp only at h1 h2
  rw [h1, h2]
theorem T.inj {w : World} : ∀ (n : Nat) (v : Value) (l l' : List It), l.length ≤ n → T w v l → T w v l' → l = l' := by
  intro n
  induction n with
  | zero =>
    intro v l l' hn h k
    obtain rfl : l = [] := List.eq_nil_of_length_eq_zero (by omega)
    rcases h.is with ⟨_, rfl⟩ | ⟨d, segs, xs, _, hN⟩
    · exact (T.none k).symm
    · have h1 := hN.shp.pos
      have h2 := hN.many
      rw [List.length_nil] at h2
      omega
  | succ n ih =>
    intro v l l' hn h k
    rcases h.is with ⟨rfl, rfl⟩ | ⟨d, segs, xs, rfl, hN⟩
    · exact (T.none k).symm
    · rcases k.is with ⟨_, e⟩ | ⟨d', segs', xs', e, hN'⟩
      · simp [Nd.ptr] at e
      · simp only [Nd.ptr, Value.pointer.injEq, Option.some.injEq, Addr.mk.injEq, and_true] at e
        have c0 := hN.ok.c0
        have c1 := hN.ok.c1
        have c2 := hN.ok.c2
        have c3 := hN.ok.c3
        rw [e] at c0 c1 c2 c3
        have f0 := c0.symm.trans hN'.ok.c0
        have f1 := c1.symm.trans hN'.ok.c1
        have f2 := c2.symm.trans hN'.ok.c2
        have f3 := c3.symm.trans hN'.ok.c3
        simp only [Option.some.injEq, Value.slice.injEq] at f1 f2 f3
        obtain ⟨a1, a2, a3⟩ := f1
        obtain ⟨b1, b2, b3⟩ := f2
        obtain ⟨g1, g2, g3⟩ := f3
        have hk := hN.ok.kl
        rw [a1, a2, a3] at hk
        have hv := hN.ok.vl
        rw [b1, b2, b3] at hv
        have ek := hk.inj hN'.ok.kl
        have ev := hv.inj hN'.ok.vl
        rw [hN.ek, hN'.ek] at ek
        rw [hN.ev, hN'.ev] at ev
        have hxs : xs = xs' := by
          have hl : xs.length = xs'.length := by simpa using congrArg List.length ek
          refine List.ext_getElem hl fun i hi hj => ?_
          have h1 := congrArg (·[i]?) ek
          have h2 := congrArg (·[i]?) ev
          simp [hi, hj] at h1 h2
          exact It.ext' h1 h2
        have hsl : segs.length = segs'.length := by rw [hN.shp.len, hN'.shp.len, hxs]
        have hsg : segs = segs' := by
          refine List.ext_getElem hsl fun i hi hj => ?_
          obtain ⟨u, hu, tu⟩ := hN.kid i segs[i] (List.getElem?_eq_getElem hi)
          obtain ⟨u', hu', tu'⟩ := hN'.kid i segs'[i] (List.getElem?_eq_getElem hj)
          have hci : i < d.cs.length := by rw [hN.ec]; exact hi
          have hci' : i < d'.cs.length := by rw [hN'.ec]; exact hj
          have huu : u = u' := by
            rw [List.getElem?_eq_getElem hci] at hu
            rw [List.getElem?_eq_getElem hci'] at hu'
            have e1 := Option.some.inj hu
            have e2 := Option.some.inj hu'
            have q1 := hN.ok.cl
            have q2 := hN'.ok.cl
            cases hco : d.co with
            | none => have := (q1.nil hco).1; omega
            | some a =>
              have z1 := q1.cell a hco i hci
              have z2 := q2.cell a (by rw [← g1]; exact hco) i hci'
              rw [z1] at z2
              rw [← e1, ← e2]
              exact Option.some.inj z2
          rw [← huu] at tu'
          have hsh := hN.shp.shorter segs[i] (List.getElem_mem hi)
          exact ih u _ _ (by omega) tu tu'
        rw [hN.shp.eq, hN'.shp.eq, hxs, hsg]
open Go.RowKit
theorem getD_len {l : List (List Int)} {B : Nat} (h : ∀ x ∈ l, x.length ≤ B) (i : Nat) : (l.getD i []).length ≤ B := by
  by_cases hi : i < l.length
  · simp only [List.getD, List.getElem?_eq_getElem hi, Option.getD_some]
    exact h _ (List.getElem_mem hi)
  · simp [List.getD, List.getElem?_eq_none (Nat.le_of_not_lt hi)]
theorem bf_len {x : List Int} {B : Nat} (h : x.length ≤ B) (hB : B < 18446744073709551616) : (bf x).length ≤ B + 10 := by
  have := enc_length (n := x.length) (by omega)
  simp only [bf, List.length_append]
  omega
theorem formTo_len {keys sums kids : List (List Int)} {B : Nat} (hB : B < 18446744073709551616) (h1 : ∀ x ∈ keys, x.length ≤ B) (h2 : ∀ x ∈ sums, x.length ≤ B) (h3 : ∀ x ∈ kids, x.length ≤ B) : ∀ n, (formTo keys sums kids n).length ≤ n * (3 * (B + 10))
  | 0 => by simp [formTo]
  | n + 1 => by
    have ih := formTo_len hB h1 h2 h3 n
    have e1 := bf_len (getD_len h1 n) hB
    have e2 := bf_len (getD_len h2 n) hB
    have e3 := bf_len (getD_len h3 (n + 1)) hB
    rw [formTo_succ, Nat.succ_mul]
    simp only [List.length_append]
    omega
theorem formN_len {keys sums kids : List (List Int)} {B L : Nat} (hB : B < 18446744073709551616) (hL : L < 18446744073709551616) (hk : keys.length < 18446744073709551616) (h1 : ∀ x ∈ keys, x.length ≤ B) (h2 : ∀ x ∈ sums, x.length ≤ B) (h3 : ∀ x ∈ kids, x.length ≤ B) :
    (formN L keys sums kids).length ≤ 60 + B + keys.length * (3 * (B + 10)) := by
  have e1 := formTo_len hB h1 h2 h3 keys.length
  have e2 := bf_len (getD_len h3 0) hB
  have e3 := enc_length (n := L) hL
  have e4 := enc_length (n := keys.length) hk
  have e5 : (bf nodeL).length ≤ 14 := bf_len (B := 4) (by decide) (by decide)
  simp only [formN, formH, List.length_append]
  omega
theorem formTo_byte {keys sums kids : List (List Int)} {B : Nat} (hB : B < 18446744073709551616) (h1 : ∀ x ∈ keys, x.length ≤ B ∧ Byt x) (h2 : ∀ x ∈ sums, x.length ≤ B ∧ Byt x) (h3 : ∀ x ∈ kids, x.length ≤ B ∧ Byt x) : ∀ n, Byt (formTo keys sums kids n)
  | 0 => by intro x hx; simp [formTo] at hx
  | n + 1 => by
    have key : ∀ (l : List (List Int)), (∀ x ∈ l, x.length ≤ B ∧ Byt x) → ∀ i, Byt (bf (l.getD i [])) := fun l hl i => bf_byte (getD_byte (fun x hx => (hl x hx).2) i) (by have := getD_len (fun x hx => (hl x hx).1) i; omega)
    rw [formTo_succ]
    exact (formTo_byte hB h1 h2 h3 n).append ((key _ h1 n).append ((key _ h2 n).append (key _ h3 (n + 1))))
theorem formN_byte {keys sums kids : List (List Int)} {B L : Nat} (hB : B < 18446744073709551616) (hL : L < 18446744073709551616) (hk : keys.length < 18446744073709551616) (h1 : ∀ x ∈ keys, x.length ≤ B ∧ Byt x) (h2 : ∀ x ∈ sums, x.length ≤ B ∧ Byt x) (h3 : ∀ x ∈ kids, x.length ≤ B ∧ Byt x) : Byt (formN L keys sums kids) := by
  have k0 : Byt (bf (kids.getD 0 [])) := bf_byte (getD_byte (fun x hx => (h3 x hx).2) 0) (by have := getD_len (fun x hx => (h3 x hx).1) 0; omega)
  unfold formN formH
  exact Byt.append (Byt.append (Byt.append (Byt.append (bf_byte nodeL_byte (by decide)) (enc_byte hL)) (enc_byte hk)) k0) (formTo_byte hB h1 h2 h3 _)
open Go.RowKit
set_option maxRecDepth 100000 in
set_option maxHeartbeats 1000000 in
theorem sumOf_any (w : World) (b o : Nat) (n cap : Nat) (ps : List Part) (hT : Tabs w) (hP : Pts w ⟨b, o, none⟩ ps) (hn : ps.length = n) (hnb : (n : Int) < 4611686018427387904) (hl : (allB ps).length + 72 < 18446744073709551616) :
    Calls Tryz.prog 169 #[.slice (some ⟨b, o, none⟩) n cap] w fun e w' => ∃ v, e = .returned v ∧ w'.ownsRow w.heap.size 5 1 v 32 (bv (sumL (allB ps))) ∧ Below w.heap.size w w' := by
  have h2 := hT.two
  go_enter Tryz.func169, Tryz.ntmps169
  go_wp2_with (go_at_call 93; refine (new_any w).mono ?_; rintro e w1 ⟨rfl, H1, g1⟩; have B1 : Below w.heap.size w w1 := (Below.refl _ w).grown g1 (Nat.le_refl _) (by simp); clear g1)
  go_loopw [9] (fun i wr => ∃ k : Nat, k ≤ n ∧ i = .int .i64 k ∧ Below w.heap.size w wr ∧ HS wr w.heap.size (allB (ps.take k))) (fun i _ => n - (intOf i).toNat)
  case atStart => exact ⟨0, by omega, rfl, B1, H1⟩
  case round =>
    clear H1 B1
    obtain ⟨k, hk, rfl, B2, H2⟩ := hrel
    have T2 := hT.below B2 h2
    have s2 := B2.size
    by_cases hlt : k < n
    · have hki : (k : Int) < (n : Int) := by omega
      have hkl : k < ps.length := by omega
      obtain ⟨c1, S1⟩ := (hP.below B2) k hkl
      rw [add_at] at c1
      have HT : Hid (allB (ps.take (k + 1)) = allB (ps.take k) ++ ps[k].xs) := allB_take ps k hkl
      have hle := allB_le ps (k + 1)
      have hne : ∀ a, ps[k].ao = some a → 0 < ps[k].n → a.block ≠ w.heap.size := by
        intro a ha h0
        have := (hP k hkl).2.lt a ha h0
        omega
      rw [HT.out, List.length_append] at hle
      obtain ⟨q, hq⟩ : ∃ q, q = ps[k] := ⟨_, rfl⟩
      rw [← hq] at c1 S1 hne HT hle
      clear hq
      unfold Part.val at c1
      go_wp2_with (go_at_call 94; refine (add_any wr w.heap.size _ q.ao q.n q.cap q.xs T2 H2 h2 S1 hne (by omega)).mono ?_; rintro e w3 ⟨⟨v, rfl⟩, H3, g3⟩; have B3 : Below w.heap.size w w3 := B2.grown g3 s2 (by intro k hk; cases hk; exact Nat.le_refl _))
      go_roundw
      case rel =>
        refine ⟨k + 1, by omega, by go_num, B3, ?_⟩
        rw [HT.out]
        exact H3
      case measure => simp [intOf]; omega
    · have hge : (n : Int) ≤ (k : Int) := by omega
      have e : ps.take k = ps := List.take_of_length_le (by omega)
      rw [e] at H2
      clear e
      go_wp2_with (go_at_call 97; refine (hsum_any wr w.heap.size _ T2 H2 hl).mono ?_; rintro e w3 ⟨v, rfl, own3, B3⟩)
      go_ret
      refine ⟨_, rfl, own_base own3 s2, B2.trans (B3.mono s2)⟩
theorem Pts.new (w : World) (ps : List Part) (t : TypeId) (h : ∀ q ∈ ps, Sl w q.ao q.n q.cap q.xs) : Pts (w.alloc (.cells (ps.map Part.val).toArray t)) ⟨w.heap.size, 0, none⟩ ps := by
  intro i hi
  refine ⟨?_, (h _ (List.getElem_mem hi)).below ((Below.refl _ w).alloc (Nat.le_refl _) _)⟩
  rw [add_at, Nat.zero_add, cell_of_row _ _ i _ _ _ (heap_alloc_new w _)]
  simp [hi]
set_option maxRecDepth 100000 in
set_option maxHeartbeats 1000000 in
theorem sum_any (w : World) (ao : Option Addr) (n cap : Nat) (xs : List Int) (hT : Tabs w) (hS : Sl w ao n cap xs) :
    Calls Tryz.prog 155 #[.slice ao n cap] w fun e w' => ∃ v, e = .returned v ∧ w'.ownsRow w.heap.size 5 1 v 32 (bv (sumL xs)) ∧ Below w.heap.size w w' := by
  have h2 := hT.two
  have hm := hS.mx
  have hle := hS.le
  have hln := hS.len
  unfold maxLen at hm
  go_enter Tryz.func155, Tryz.ntmps155
  go_wp2_with fail
  have B1 : Below w.heap.size w (w.alloc (.cells #[.slice ao n cap] 25)) := (Below.refl _ w).alloc (Nat.le_refl _) _
  have hq : Pts (w.alloc (.cells #[.slice ao n cap] 25)) ⟨w.heap.size, 0, none⟩ [⟨ao, n, cap, xs⟩] := Pts.new w [⟨ao, n, cap, xs⟩] 25 (by intro q hq; rw [List.mem_singleton.1 hq]; exact hS)
  have ea : allB [⟨ao, n, cap, xs⟩] = xs := by simp [allB]
  refine (sumOf_any _ w.heap.size 0 1 1 [⟨ao, n, cap, xs⟩] (hT.below B1 h2) hq rfl (by decide) (by rw [ea]; omega)).mono ?_
  rintro e w3 ⟨v, rfl, own3, B3⟩
  rw [ea] at own3
  clear ea hq
  go_wp2
  go_ret
  exact ⟨_, rfl, own_base own3 B1.size, B1.trans (B3.mono B1.size)⟩
open Go.RowKit
def ptrB (b : Nat) : Value := .pointer (some ⟨b, 0, none⟩)
theorem T.ordi {w : World} {b : Nat} {l : List It} (h : T w (ptrB b) l) : Ordi w b := by
  rcases h.is with ⟨-, e⟩ | ⟨d, segs, xs, e, hN⟩
  · simp [ptrB] at e
  · have hb : b = d.b := by simpa [ptrB, Nd.ptr] using e
    rw [hb]
    exact hN.ok.uf
structure HI (w0 W : World) (m : Nat) (F : List (Nat × Value)) (P : List (Nat × List It)) : Prop where
  g : w0.grownBy W (some m)
  m0 : ∃ F0, PM w0 m F0
  pm : PM W m F
  nd : (F.map Prod.fst).Nodup
  ent : ∀ p ∈ F, (∃ q ∈ P, q.1 = p.1) ∨ ∃ l ao cap, T w0 (ptrB p.1) l ∧ p.2 = .slice ao 32 cap ∧ SlT W ⟨ao, 32, cap, hashI l⟩
  prg : ∀ q ∈ P, T w0 (ptrB q.1) q.2
theorem HI.kc {w0 W : World} {m : Nat} {F : List (Nat × Value)} {P : List (Nat × List It)} (h : HI w0 W m F P) : KC w0 W := by
  obtain ⟨F0, h0⟩ := h.m0
  exact KC.grown h0 h.g
theorem HI.mlt {w0 W : World} {m : Nat} {F : List (Nat × Value)} {P : List (Nat × List It)} (h : HI w0 W m F P) : m < w0.heap.size := by
  obtain ⟨F0, es, ck, h0, -⟩ := h.m0
  exact (Array.getElem?_eq_some_iff.1 h0).1
theorem HI.key {w0 W : World} {m : Nat} {F : List (Nat × Value)} {P : List (Nat × List It)} (h : HI w0 W m F P) : ∀ p ∈ F, Ordi w0 p.1 := fun p hp => by
  rcases h.ent p hp with ⟨q, hq, e⟩ | ⟨l, ao, cap, ht, -⟩
  · rw [← e]
    exact (h.prg q hq).ordi
  · exact ht.ordi
theorem HI.keep {w0 W W' : World} {m B : Nat} {F : List (Nat × Value)} {P : List (Nat × List It)} (h : HI w0 W m F P) (hb : Below B W W') (hB : w0.heap.size ≤ B) (kp : KpB W W') : HI w0 W' m F P := by
  have hm := h.mlt
  have hs := h.g.size
  refine ⟨⟨hb.os.trans h.g.os, hb.tape.trans h.g.tape, hb.output.trans h.g.output, Nat.le_trans hs hb.size, fun i hi hne => (hb.block i (by omega)).trans (h.g.block i hi hne)⟩, h.m0, ?_, h.nd, fun p hp => ?_, h.prg⟩
  · obtain ⟨es, ck, h1, h2, h3, -⟩ := h.pm
    refine ⟨es, ck, (hb.block m (by omega)).trans h1, h2, h3, fun p hp => ?_⟩
    obtain ⟨c, t, e⟩ := (h.key p hp).kc h.kc
    have hl := (h.key p hp).lt
    exact ⟨c, t, (hb.block p.1 (by omega)).trans e⟩
  · rcases h.ent p hp with c | ⟨l, ao, cap, h1, h2, h3⟩
    · exact .inl c
    · exact .inr ⟨l, ao, cap, h1, h2, h3.kp kp⟩
theorem HI.below {w0 W W' : World} {m : Nat} {F : List (Nat × Value)} {P : List (Nat × List It)} (h : HI w0 W m F P) (hb : Below W.heap.size W W') : HI w0 W' m F P := h.keep hb h.g.size (KpB.below hb)
def HashPost (w0 W : World) (m : Nat) (F : List (Nat × Value)) (P : List (Nat × List It)) (l : List It) (e : Ending) (W' : World) : Prop :=
  ∃ ao cap F', e = .returned (.slice ao 32 cap) ∧ SlT W' ⟨ao, 32, cap, hashI l⟩ ∧ HI w0 W' m F' P ∧ (∀ p ∈ F, ∃ q ∈ F', q.1 = p.1) ∧ W.grownBy W' (some m)
def Szs (l : List It) : Prop := l.length ≤ 10000 ∧ ∀ x ∈ l, x.k.length ≤ 1000 ∧ x.v.length ≤ 1000000
def HashOk (n : Nat) : Prop := ∀ (w0 W : World) (m : Nat) (v : Value) (l : List It) (F : List (Nat × Value)) (P : List (Nat × List It)), l.length ≤ n → T w0 v l → HI w0 W m F P → (∀ q ∈ P, l.length < q.2.length) → Tabs w0 → Szs l →
  Calls Tryz.prog 133 #[v, .map (some m)] W (HashPost w0 W m F P l)
theorem RwI.step {base : Nat} {W W2 : World} {v : Value} {qs : List Part} {q : Part} (h : RwI base W v qs) (hq : SlT W q) (h2 : W2 = W.alloc (.cells #[q.val] 25)) (hn : qs.length ≤ 1000000) (ty : TypeId) (c : Nat) :
    ∃ v' W3, (Builtin.append_ #[99, 99] ty #[v, .slice (some ⟨W.heap.size, 0, none⟩) 1 c]).run Tryz.prog W2 = .ok v' W3 ∧ RwI base W3 v' (qs ++ [q]) ∧ Below base W W3 ∧ KpB W W3 := by
  have hb2 : Below W.heap.size W W2 := by rw [h2]; exact (Below.refl _ _).alloc (Nat.le_refl _) _
  have k2 := h.kc (KC.below hb2)
  have hq2 := hq.kp (KpB.below hb2)
  have hxc : W2.heap[W.heap.size]? = some (.cells #[q.val] 25) := by rw [h2]; exact heap_alloc_new W _
  obtain ⟨i0, hi, hz0, hz1, hz2⟩ := info_parts kinfo
  obtain ⟨v', W3, hrun, own3, g3, -⟩ := run_append_own2 (P := Tryz.prog) W2 base 99 ty 25 i0 _ 1 24 Tryz.underlying99 hi hz0 hz1 hz2 rfl (by decide) v qs.length (qs.map Part.val) k2.own ⟨W.heap.size, 0, none⟩ 1 c [q.val] rfl
    (fun j u hu => by
      rw [Addr.add_lit, Nat.zero_add, cell_of_row W2 W.heap.size j _ _ _ hxc]
      simpa using hu) (fun u hu => by
      rw [List.mem_singleton.1 hu]
      rfl) (by unfold maxLen; omega) (by omega) k2.le
  have kpb : KpB W2 W3 := KpB.row k2.own (by decide) g3
  refine ⟨v', W3, hrun, ⟨?_, ?_, ?_⟩, ?_, (KpB.below hb2).trans kpb⟩
  · rw [List.length_append, List.map_append]
    exact own3
  · intro r hr
    rcases List.mem_append.1 hr with hr | hr
    · exact (k2.sl r hr).kp kpb
    · rw [List.mem_singleton.1 hr]
      exact hq2.kp kpb
  · have := k2.le
    have := g3.size
    omega
  · exact (hb2.mono h.le).trans ((Below.refl base W2).grown g3 k2.le (fun k hk => (k2.own.lt k hk).1))
theorem grown_keep {a b c : World} {m B : Nat} (h : a.grownBy b (some m)) (k : Below B b c) (hB : a.heap.size ≤ B) : a.grownBy c (some m) :=
  ⟨k.os.trans h.os, k.tape.trans h.tape, k.output.trans h.output, Nat.le_trans h.size k.size, fun i hi hne => (k.block i (by omega)).trans (h.block i hi hne)⟩
theorem sumT (w : World) (ao : Option Addr) (n cap : Nat) (xs : List Int) (hT : Tabs w) (hS : Sl w ao n cap xs) :
    Calls Tryz.prog 155 #[.slice ao n cap] w fun e w' => ∃ so sc, e = .returned (.slice so 32 sc) ∧ SlT w' ⟨so, 32, sc, sumL xs⟩ ∧ Below w.heap.size w w' := by
  refine (sum_any w ao n cap xs hT hS).mono ?_
  rintro e w' ⟨v, rfl, own, B⟩
  obtain ⟨so, sc, rfl, S⟩ := SlT.own own (sumL_byte _)
  exact ⟨so, sc, rfl, S, B⟩
open Go.RowKit
theorem wpList_appR {P : Program} {w w' : World} {ops : Array Oper} {rest : List Oper} {o : Oper} {a : Act} {Q : Exit → Act → World → Prop} (hgd : o.guard = none) (s x : Operand) (t t' : TypeId)
    (ho : o.op = .call { callee := .builtin .append, args := #[s, x], argTypes := #[t, t'] }) (v u v' : Value) (hs : a.eval s = v) (hx : a.eval x = u) (hr : (Builtin.append_ #[t, t'] o.type #[v, u]).run P w = .ok v' w')
    (h : wpList P ops Q rest (a.put o.dst v') w') : wpList P ops Q (o :: rest) a w := by
  refine wpList_plain hgd fun _ hK => ?_
  unfold Oper.wp execOp
  simp only [ho, resolve, invoke, builtin, Sem.run_bind, Sem.run_pure, Result.andThen_ok, List.map_toArray, List.map_cons, List.map_nil, hs, hx, hr, Oper.upon]
  exact hK _ _ h
theorem grown_trans {a b c : World} {r : Option Nat} (h : a.grownBy b r) (k : b.grownBy c r) : a.grownBy c r :=
  ⟨k.os.trans h.os, k.tape.trans h.tape, k.output.trans h.output, Nat.le_trans h.size k.size, fun i hi hne => (k.block i (Nat.lt_of_lt_of_le hi h.size) hne).trans (h.block i hi hne)⟩
theorem grown_below {a b : World} {r : Option Nat} (h : Below a.heap.size a b) : a.grownBy b r := ⟨h.os, h.tape, h.output, h.size, fun i hi _ => h.block i hi⟩
theorem below_grown {a b : World} {B p : Nat} (h : a.grownBy b (some p)) (hB : B ≤ a.heap.size) (hp : B ≤ p) : Below B a b :=
  ⟨h.os, h.tape, h.output, h.size, fun i hi => h.block i (by omega) (by simp; omega)⟩
open Go.RowKit
theorem take_snoc {α β : Type} (f : α → β) (l : List α) (k : Nat) (h : k < l.length) : (l.map f).take (k + 1) = (l.map f).take k ++ [f l[k]] := by
  rw [List.take_succ_eq_append_getElem (by simpa using h), List.getElem_map]
def FormOfPost (w0 W : World) (m : Nat) (F : List (Nat × Value)) (P : List (Nat × List It)) (FF : List Int) (e : Ending) (W' : World) : Prop :=
  ∃ fo fn fc F', e = .returned (.slice fo fn fc) ∧ SlT W' ⟨fo, fn, fc, FF⟩ ∧ HI w0 W' m F' P ∧ (∀ p ∈ F, ∃ q ∈ F', q.1 = p.1) ∧ W.grownBy W' (some m)
set_option maxHeartbeats 8000000 in
set_option maxRecDepth 100000 in
theorem formOf_any (n : Nat) (IH : HashOk n) (w0 W : World) (m : Nat) (d : Nd) (l : List It) (segs : List (List It)) (xs : List It) (F : List (Nat × Value)) (P : List (Nat × List It)) (hN : Nod w0 l d segs xs) (hln : l.length ≤ n + 1) (hI : HI w0 W m F P) (hP : ∀ q ∈ P, l.length ≤ q.2.length) (hT : Tabs w0) (hz : Szs l) :
    Calls Tryz.prog 156 #[d.ptr, .map (some m)] W (FormOfPost w0 W m F P (formN d.L (xs.map It.k) (xs.map fun x => sumL x.v) (segs.map hashI))) := by
  have KW := hI.kc
  have nk := hN.nk
  have nv := hN.nv
  have nc := hN.nc
  have hml := hN.many
  have hzl := hz.1
  have HZ : Hid (Szs l) := hz
  have HIH : Hid (HashOk n) := IH
  have HP : Hid (∀ q ∈ P, l.length ≤ q.2.length) := hP
  have HN : Hid (Nod w0 l d segs xs) := hN
  have b2 := KW.cell hN.ok.c2
  have HT : Hid (Tabs w0) := hT
  have HNK : Hid (d.ks.length = xs.length ∧ d.vs.length = xs.length ∧ d.cs.length = xs.length + 1) := ⟨nk, nv, nc⟩
  have hx1 : xs.length ≤ 10000 := by omega
  have HKC : Hid (KC w0 W) := KW
  obtain ⟨vn, hvn⟩ : ∃ n, n = d.vs.length := ⟨_, rfl⟩
  have HVN : Hid (vn = d.vs.length) := hvn
  rw [← hvn] at b2
  have hvx1 : vn ≤ xs.length := by omega
  have hvx2 : xs.length ≤ vn := by omega
  clear KW nk nv nc hvn IH hz hT hP
  unfold Nd.ptr
  go_enter Tryz.func156, Tryz.ntmps156
  go_wp2_with fail
  go_loopw [5, 16] (fun v i wr => ∃ (k : Nat) (qs : List Part), k ≤ vn ∧ i = .int .i64 k ∧ RwI W.heap.size wr v qs ∧ Hid (qs.map Part.xs = (xs.map fun x => sumL x.v).take k) ∧ Below W.heap.size W wr) (fun _ i _ => vn - (intOf i).toNat)
  case atStart => exact ⟨0, [], Nat.zero_le _, rfl, RwI.nil W, rfl, Below.refl _ _⟩
  case round =>
    obtain ⟨k, qs, hkn, rfl, K, HQ, hB⟩ := hrel
    have HQL : Hid (qs.length = k) := by
      show _ = _
      have := congrArg List.length HQ.out
      rw [List.length_map, List.length_take, List.length_map] at this
      omega
    by_cases hlt : k < vn
    · have hki : (k : Int) < (vn : Int) := by omega
      have hkv : k < d.vs.length := by have := HVN.out; omega
      have hkx : k < xs.length := by omega
      have KR := HKC.out.trans (KC.below hB)
      have VLr := HN.out.ok.vl.kc KR
      obtain ⟨b, off, e0, hc⟩ := VLr.vl.at (by rw [← HVN.out]; omega)
      have c1 := hc k (by simpa using hkv)
      rw [List.getElem_map] at c1
      have S := VLr.sl d.vs[k] (List.getElem_mem hkv)
      rw [HN.out.valAt k hkv hkx] at S
      have HTK : Hid ((xs.map fun x => sumL x.v).take (k + 1) = (xs.map fun x => sumL x.v).take k ++ [sumL xs[k].v]) := take_snoc (fun x : It => sumL x.v) xs k hkx
      obtain ⟨y, hy⟩ : ∃ y, y = xs[k].v := ⟨_, rfl⟩
      rw [← hy] at S HTK
      obtain ⟨q, hq⟩ : ∃ q, q = d.vs[k] := ⟨_, rfl⟩
      rw [← hq] at c1 S
      unfold Part.val at c1
      have b2' := b2
      rw [e0] at b2'
      have CS := sumT wr q.ao q.n q.cap y (HT.out.kc KR) S
      clear hc hq hy S VLr KR
      rw [e0]
      go_wp2_with fail
      refine CS.mono ?_
      rintro e w1 ⟨s1, sc1, rfl, S1, C1⟩
      have K1 := K.kc (KC.below C1)
      have hB1 := hB.trans (C1.mono hB.size)
      obtain ⟨v', W3, hrun, K3, B3, -⟩ := K1.step S1 rfl (by have := HQL.out; omega) 99 1
      unfold Part.val at hrun
      have HRUN : Hid ((Builtin.append_ #[99, 99] 99 #[_, .slice (some ⟨w1.heap.size, 0, none⟩) 1 1]).run Tryz.prog (w1.alloc (.cells #[.slice s1 32 sc1] 25)) = .ok v' W3) := hrun
      have HK3 : Hid (RwI W.heap.size W3 v' (qs ++ [⟨s1, 32, sc1, sumL y⟩])) := K3
      have hB3 := hB1.trans B3
      clear CS S1 C1 K1 hrun K3 B3 K hB1 b2'
      go_wp2_with (at_builtin; refine wpList_appR rfl _ _ _ _ rfl _ _ _ rfl rfl HRUN.out ?_)
      go_roundw
      case rel =>
        refine ⟨k + 1, qs ++ [⟨s1, 32, sc1, sumL y⟩], by omega, by go_num, HK3.out, ?_, hB3⟩
        show _ = _
        rw [List.map_append, HQ.out, HTK.out]
        rfl
      case measure => simp [intOf]; omega
    · have hge : ¬ (k : Int) < (vn : Int) := by omega
      obtain ⟨wa, rfl⟩ : ∃ W', W' = wr := ⟨wr, rfl⟩
      have HSX : Hid (qs.map Part.xs = xs.map fun x => sumL x.v) := by
        show _ = _
        rw [HQ.out, List.take_of_length_le (by rw [List.length_map]; omega)]
      obtain ⟨so, sc, rfl, KLs⟩ := K.kl
      have hIa := hI.below hB
      have KA := hIa.kc
      have b3 := KA.cell HN.out.ok.c3
      obtain ⟨sn, hsn⟩ : ∃ n, n = qs.length := ⟨_, rfl⟩
      have HSN : Hid (sn = xs.length) := by show _ = _; rw [hsn, HQL.out]; omega
      rw [← hsn] at KLs ⊢
      obtain ⟨cn, hcn⟩ : ∃ n, n = d.cs.length := ⟨_, rfl⟩
      have HCN : Hid (cn = d.cs.length) := hcn
      rw [← hcn] at b3
      have hcx1 : cn ≤ xs.length + 1 := by have := HNK.out.2.2; omega
      have hcx2 : xs.length + 1 ≤ cn := by have := HNK.out.2.2; omega
      have HIA : Hid (HI w0 wa m F P) := hIa
      have HKS : Hid (KL wa so sn sc qs) := KLs
      have HBA : Hid (Below W.heap.size W wa) := hB
      clear K HQ hsn hcn KA hIa KLs hB HQL hI b2
      go_wp2_with fail
      go_loopw [6, 31] (fun v i wr => ∃ (k : Nat) (ks : List Part) (F' : List (Nat × Value)), k ≤ cn ∧ i = .int .i64 k ∧ RwI wa.heap.size wr v ks ∧ Hid (ks.map Part.xs = (segs.map hashI).take k) ∧ HI w0 wr m F' P ∧ Hid (∀ p ∈ F, ∃ q ∈ F', q.1 = p.1) ∧ wa.grownBy wr (some m)) (fun _ i _ => cn - (intOf i).toNat)
      case atStart => exact ⟨0, [], F, Nat.zero_le _, rfl, RwI.nil wa, rfl, HIA.out, fun p hp => ⟨p, hp, rfl⟩, World.grownBy.refl _ _⟩
      case round =>
        obtain ⟨k, ks, F', hkn, rfl, K, HQ, hI', HKF, hG⟩ := hrel
        have HQL : Hid (ks.length = k) := by
          show _ = _
          have := congrArg List.length HQ.out
          rw [List.length_map, List.length_take, List.length_map] at this
          have := HN.out.shp.len
          omega
        by_cases hlt : k < cn
        · have hki : (k : Int) < (cn : Int) := by omega
          have hks : k < segs.length := by have := HN.out.shp.len; omega
          obtain ⟨b, off, s, u, e0, hs, hu, c1, ht, hsl⟩ := HN.out.kidAt k (by omega)
          have hsm : s ∈ segs := List.mem_of_getElem? hs
          have c1' := hI'.kc.cell c1
          have HTK : Hid ((segs.map hashI).take (k + 1) = (segs.map hashI).take k ++ [hashI s]) := by
            show _ = _
            rw [take_snoc hashI segs k hks]
            have : segs[k] = s := by rw [List.getElem?_eq_getElem hks] at hs; exact Option.some.inj hs
            rw [this]
          have CH := HIH.out w0 wr m u s F' P (by omega) ht hI' (fun q hq => by have := HP.out q hq; omega) HT.out ⟨by have := HZ.out.1; omega, fun x hx => HZ.out.2 x (HN.out.shp.seg s hsm x hx)⟩
          have HPM : Hid (PM wr m F') := hI'.pm
          rw [e0]
          clear hu ht hs c1 hI'
          go_wp2_with fail
          refine CH.mono ?_
          rintro e w1 ⟨h1, hc1, F1, rfl, S1, I1, kf1, G1⟩
          have K1 := K.kc (KC.grown HPM.out G1)
          have hG1 := grown_trans hG G1
          obtain ⟨v', W3, hrun, K3, B3, kp3⟩ := K1.step S1 rfl (by have := HQL.out; omega) 99 1
          unfold Part.val at hrun
          have HRUN : Hid ((Builtin.append_ #[99, 99] 99 #[_, .slice (some ⟨w1.heap.size, 0, none⟩) 1 1]).run Tryz.prog (w1.alloc (.cells #[.slice h1 32 hc1] 25)) = .ok v' W3) := hrun
          have HK3 : Hid (RwI wa.heap.size W3 v' (ks ++ [⟨h1, 32, hc1, hashI s⟩])) := K3
          have HI3 : Hid (HI w0 W3 m F1 P) := I1.keep B3 HIA.out.g.size kp3
          have hG3 := grown_keep hG1 B3 (Nat.le_refl _)
          have HKF3 : Hid (∀ p ∈ F, ∃ q ∈ F1, q.1 = p.1) := fun p hp => by
            obtain ⟨q, hq, e⟩ := HKF.out p hp
            obtain ⟨q', hq', e'⟩ := kf1 q hq
            exact ⟨q', hq', e'.trans e⟩
          clear CH S1 I1 kf1 G1 K1 hrun K3 B3 kp3 K hG1
          go_wp2_with (at_builtin; refine wpList_appR rfl _ _ _ _ rfl _ _ _ rfl rfl HRUN.out ?_)
          go_roundw
          case rel =>
            refine ⟨k + 1, ks ++ [⟨h1, 32, hc1, hashI s⟩], F1, by omega, by go_num, HK3.out, ?_, HI3.out, HKF3.out, hG3⟩
            show _ = _
            rw [List.map_append, HQ.out, HTK.out]
            rfl
          case measure => simp [intOf]; omega
        · have hge2 : ¬ (k : Int) < (cn : Int) := by omega
          have HCX : Hid (ks.map Part.xs = segs.map hashI) := by
            show _ = _
            rw [HQ.out, List.take_of_length_le (by rw [List.length_map, HN.out.shp.len]; omega)]
          obtain ⟨co, cc, rfl, KLc⟩ := K.kl
          obtain ⟨kn, hkn2⟩ : ∃ n, n = ks.length := ⟨_, rfl⟩
          have hkn1 : kn ≤ 10001 := by rw [hkn2, HQL.out]; omega
          rw [← hkn2] at KLc ⊢
          have KR := hI'.kc
          have c0 := KR.cell HN.out.ok.c0
          have c1 := KR.cell HN.out.ok.c1
          have KLk := HN.out.ok.kl.kc KR
          have KLs := HKS.out.kc (KC.grown HIA.out.pm hG)
          have ek : pxs d.ks = xs.map It.k := HN.out.ek
          have es : pxs qs = xs.map fun x => sumL x.v := HSX.out
          have ec : pxs ks = segs.map hashI := HCX.out
          have hL := HN.out.L_le
          obtain ⟨FF, hFF⟩ : ∃ FF, FF = formN d.L (xs.map It.k) (xs.map fun x => sumL x.v) (segs.map hashI) := ⟨_, rfl⟩
          have hB1 : ∀ x ∈ xs.map It.k, x.length ≤ 1000 := fun x hx => by
            obtain ⟨y, hy, rfl⟩ := List.mem_map.1 hx
            exact (HZ.out.2 y (HN.out.shp.key y hy)).1
          have hB2 : ∀ x ∈ (xs.map fun x => sumL x.v), x.length ≤ 1000 := fun x hx => by
            obtain ⟨y, hy, rfl⟩ := List.mem_map.1 hx
            rw [sumL_len]
            omega
          have hB3 : ∀ x ∈ segs.map hashI, x.length ≤ 1000 := fun x hx => by
            obtain ⟨y, hy, rfl⟩ := List.mem_map.1 hx
            rw [hashI_len]
            omega
          have hFL : FF.length ≤ 1000000000 := by
            have := formN_len (B := 1000) (L := d.L) (by decide) (by omega) (by rw [List.length_map]; omega) hB1 hB2 hB3
            rw [← hFF, List.length_map] at this
            have h3 : xs.length * (3 * (1000 + 10)) ≤ 10000 * (3 * (1000 + 10)) := Nat.mul_le_mul_right _ hx1
            omega
          have hFB : Byt FF := by
            rw [hFF]
            refine formN_byte (B := 1000) (by decide) (by omega) (by rw [List.length_map]; omega) (fun x hx => ⟨hB1 x hx, ?_⟩) (fun x hx => ⟨hB2 x hx, ?_⟩) (fun x hx => ⟨hB3 x hx, ?_⟩)
            · rw [← ek] at hx
              obtain ⟨y, hy, rfl⟩ := List.mem_map.1 hx
              exact (KLk.sl y hy).byte
            · obtain ⟨y, hy, rfl⟩ := List.mem_map.1 hx
              exact sumL_byte _
            · rw [← ec] at hx
              obtain ⟨y, hy, rfl⟩ := List.mem_map.1 hx
              exact (KLc.sl y hy).byte
          have CF : ∀ V, Below wr.heap.size wr V → Calls Tryz.prog 170 #[.int .i64 d.L, .slice d.ko d.ks.length d.kc, .slice so sn sc, .slice co kn cc] V fun e w' => ∃ fo fn fc, e = .returned (.slice fo fn fc) ∧ SlT w' ⟨fo, fn, fc, FF⟩ ∧ Below V.heap.size V w' := fun V hV => by
            refine (form_any V d.L d.ko so co d.ks.length d.kc sn sc kn cc d.ks qs ks (KLk.below hV).pl (KLs.below hV).pl (KLc.below hV).pl (by omega) (by have := HNK.out.1; omega) (by have := HSN.out; omega) (by omega) (by rw [ek, es, ec, ← hFF]; exact hFL)).mono ?_
            rintro e w' ⟨v, rfl, own, B⟩
            rw [ek, es, ec, ← hFF] at own
            obtain ⟨fo, fc, rfl, S⟩ := SlT.own own hFB
            exact ⟨fo, _, fc, rfl, S, B⟩
          have HI' : Hid (HI w0 wr m F' P) := hI'
          have HGG : Hid (W.grownBy wr (some m)) := grown_trans (grown_below HBA.out) hG
          have HFF : Hid (FF = formN d.L (xs.map It.k) (xs.map fun x => sumL x.v) (segs.map hashI)) := hFF
          clear K HQ hkn2 hI' KR KLk KLs KLc ek es ec hL hFF hB1 hB2 hB3 hFL hFB hG b3
          go_wp2_with fail
          have HS : Hid (∀ V, Below wr.heap.size wr V → V.cell? ⟨d.b, 0, none⟩ = some (.int .i64 d.L) ∧ V.cell? ⟨d.b, 1, none⟩ = some (.slice d.ko d.ks.length d.kc)) := fun V hV => ⟨(hV.cell (World.block_lt_of_cell? _ _ c0)).trans c0, (hV.cell (World.block_lt_of_cell? _ _ c1)).trans c1⟩
          have E0 : Below wr.heap.size wr wr.drew := (Below.refl _ _).drew
          refine wp_region_noPanic ?_
          refine wp_region_held_drew (S := fun V => V.cell? ⟨d.b, 0, none⟩ = some (.int .i64 d.L) ∧ V.cell? ⟨d.b, 1, none⟩ = some (.slice d.ko d.ks.length d.kc)) (by kernel_rfl) (HS.out _ E0) (fun H0 => ?_)
          obtain ⟨v0, hv0⟩ : ∃ v, v = wr.drew := ⟨_, rfl⟩
          rw [← hv0] at H0 E0 ⊢
          clear hv0
          refine hr_take_w 0 (some 42) (.pointer (some ⟨d.b, 0, none⟩)) rfl rfl (by kernel_rfl) (by kernel_rfl) (by kernel_rfl) rfl (fun W hW => by obtain ⟨h0, h1⟩ := hW; go_simp) H0 ?_
          simp only [FL]
          refine hr_take_w 1 (some 43) (.pointer (some ⟨d.b, 0, none⟩)) rfl rfl (by kernel_rfl) (by kernel_rfl) (by kernel_rfl) rfl (fun W hW => by obtain ⟨h0, h1⟩ := hW; go_simp) H0 ?_
          simp only [FL]
          refine hr_take_w 2 (some 44) (.pointer (some ⟨d.b, 0, none⟩)) rfl rfl (by kernel_rfl) (by kernel_rfl) (by kernel_rfl) rfl (fun W hW => by obtain ⟨h0, h1⟩ := hW; go_simp) H0 ?_
          simp only [FL]
          refine hr_take_w 3 (some 45) (.int .i64 d.L) rfl rfl (by kernel_rfl) (by kernel_rfl) (by kernel_rfl) rfl (fun W hW => by obtain ⟨h0, h1⟩ := hW; go_simp) H0 ?_
          simp only [FL]
          refine hr_take_w 4 (some 46) (.pointer (some ⟨d.b, 0, none⟩)) rfl rfl (by kernel_rfl) (by kernel_rfl) (by kernel_rfl) rfl (fun W hW => by obtain ⟨h0, h1⟩ := hW; go_simp) H0 ?_
          simp only [FL]
          refine hr_take_w 5 (some 47) (.pointer (some ⟨d.b, 0, none⟩)) rfl rfl (by kernel_rfl) (by kernel_rfl) (by kernel_rfl) rfl (fun W hW => by obtain ⟨h0, h1⟩ := hW; go_simp) H0 ?_
          simp only [FL]
          refine hr_take_w 6 (some 48) (.pointer (some ⟨d.b, 1, none⟩)) rfl rfl (by kernel_rfl) (by kernel_rfl) (by kernel_rfl) rfl (fun W hW => by obtain ⟨h0, h1⟩ := hW; go_simp) H0 ?_
          simp only [FL]
          refine hr_take_w 7 (some 49) (.slice d.ko d.ks.length d.kc) rfl rfl (by kernel_rfl) (by kernel_rfl) (by kernel_rfl) rfl (fun W hW => by obtain ⟨h0, h1⟩ := hW; go_simp) H0 ?_
          simp only [FL]
          refine hr_take_w 8 (some 50) (.slice so sn sc) rfl rfl (by kernel_rfl) (by kernel_rfl) (by kernel_rfl) rfl (fun W hW => by obtain ⟨h0, h1⟩ := hW; go_simp) H0 ?_
          simp only [FL]
          refine hr_take_w 9 (some 51) (.slice co kn cc) rfl rfl (by kernel_rfl) (by kernel_rfl) (by kernel_rfl) rfl (fun W hW => by obtain ⟨h0, h1⟩ := hW; go_simp) H0 ?_
          simp only [FL]
          refine hr_call_w 10 (some 52) 170 #[.int .i64 d.L, .slice d.ko d.ks.length d.kc, .slice so sn sc, .slice co kn cc] rfl rfl (by kernel_rfl) rfl (by go_simp) (fun v w' => ∃ fo fn fc, v = .slice fo fn fc ∧ SlT w' ⟨fo, fn, fc, FF⟩ ∧ Below v0.heap.size v0 w') ((CF v0 E0).mono (by
            rintro e w' ⟨fo, fn, fc, rfl, F, C⟩
            exact ⟨_, rfl, fo, fn, fc, rfl, F, C⟩)) ?_
          rintro v v1 ⟨fo, fn, fc, rfl, F0, C0⟩
          have E1 := E0.trans (C0.mono E0.size)
          have H1 := HS.out v1 E1
          refine ⟨H1, ?_⟩
          simp only [FL]
          refine hr_take_w 11 (some 4) (.slice fo fn fc) rfl rfl (by kernel_rfl) (by kernel_rfl) (by kernel_rfl) rfl (fun W hW => by obtain ⟨h0, h1⟩ := hW; go_simp) H1 ?_
          simp only [FL]
          refine wpAnyH_done (by kernel_rfl) ?_ _
          refine NoPanic.normal ?_
          have HI1 : Hid (HI w0 v1 m F' P) := HI'.out.below E1
          have HG1 : Hid (W.grownBy v1 (some m)) := grown_keep HGG.out E1 HGG.out.size
          clear CF c0 c1
          go_wp2
          go_ret
          exact ⟨fo, fn, fc, F', rfl, by rw [← HFF.out]; exact F0, HI1.out, HKF.out, HG1.out⟩
open Go.RowKit
def emptyL : List Int := [101, 109, 112, 116, 121]
theorem emptyL_byte : Byt emptyL := by
  intro x hx
  simp [emptyL] at hx
  omega
set_option maxHeartbeats 1000000 in
set_option maxRecDepth 100000 in
theorem hashNil_any (w : World) (m : Value) (hT : Tabs w) :
    Calls Tryz.prog 133 #[.pointer none, m] w fun e w' => ∃ v, e = .returned v ∧ w'.ownsRow w.heap.size 5 1 v 32 (bv (sumL emptyL)) ∧ Below w.heap.size w w' := by
  have h2 := hT.two
  have B0 : Below w.heap.size w (w.alloc (.cells (bv emptyL).toArray 5 (5, 6))) := (Below.refl _ w).alloc (Nat.le_refl _) _
  have S0 := Sl.const w emptyL (5, 6) emptyL_byte (by simp [emptyL, maxLen])
  have kc0 := Lib.run_convert_bytes_const (P := Tryz.prog) w 25 5 #[.int .u8 101, .int .u8 109, .int .u8 112, .int .u8 116, .int .u8 121] 5 5 Tryz.underlying25 Tryz.underlying5
  have CS := sum_any _ _ 5 5 emptyL (hT.below B0 h2) S0
  go_enter Tryz.func133, Tryz.ntmps133
  go_wp2_with fail
  refine CS.mono ?_
  rintro e w1 ⟨v, rfl, o, C⟩
  go_wp2
  go_ret
  exact ⟨_, rfl, own_base o B0.size, B0.trans (C.mono B0.size)⟩
open Go.RowKit
theorem nodeInfo : (Tryz.prog.info? 176).map (fun i => i.size) = some 4 := by kernel_rfl
theorem zero_b (w : World) : (zeroValue 25).run Tryz.prog w = .ok (.slice none 0 0) w := by
  obtain ⟨i0, hi, hz0, hz1, hz2⟩ := info_parts kinfo
  simp [zeroValue, typeInfo, hi, hz0]
def foundV (b : Nat) (F : List (Nat × Value)) : Value := ((findB b F 0).map Prod.snd).getD (.slice none 0 0)
theorem look_two {w : World} {m : Nat} {F : List (Nat × Value)} (h : PM w m F) (b : Nat) (hb : Ordi w b) :
    (Instr.lookup 170 (.map (some m)) (.pointer (some ⟨b, 0, none⟩)) true).run Tryz.prog w = .ok (.tuple #[foundV b F, .bool (findB b F 0).isSome]) w := by
  have hI := nodeInfo
  cases hi : Tryz.prog.info? 176 with
  | none => rw [hi] at hI; simp at hI
  | some j =>
    rw [hi] at hI
    have := h.look (P := Tryz.prog) Tryz.underlying170 Tryz.underlying136 hi (by simp at hI; omega) (zero_b w) b hb true
    simpa [foundV] using this
theorem look_one {w : World} {m : Nat} {F : List (Nat × Value)} (h : PM w m F) (b : Nat) (hb : Ordi w b) :
    (Instr.lookup 170 (.map (some m)) (.pointer (some ⟨b, 0, none⟩)) false).run Tryz.prog w = .ok (foundV b F) w := by
  have hI := nodeInfo
  cases hi : Tryz.prog.info? 176 with
  | none => rw [hi] at hI; simp at hI
  | some j =>
    rw [hi] at hI
    have := h.look (P := Tryz.prog) Tryz.underlying170 Tryz.underlying136 hi (by simp at hI; omega) (zero_b w) b hb false
    simpa [foundV] using this
theorem put_new7 {w : World} {m : Nat} {F : List (Nat × Value)} (h : PM w m F) (b : Nat) (hb : Ordi w b) (v : Value) (hN : ∀ p ∈ F, p.1 ≠ b) :
    ∃ w', (Instr.mapUpdate 170 (.map (some m)) (.pointer (some ⟨b, 0, none⟩)) v).run Tryz.prog w = .ok () w' ∧ PM w' m (F ++ [(b, v)]) ∧ w.grownBy w' (some m) := by
  have hI := nodeInfo
  cases hi : Tryz.prog.info? 176 with
  | none => rw [hi] at hI; simp at hI
  | some j =>
    rw [hi] at hI
    exact h.new (P := Tryz.prog) Tryz.underlying170 Tryz.underlying136 hi (by simp at hI; omega) b hb v hN
theorem put_old7 {w : World} {m : Nat} {F : List (Nat × Value)} (h : PM w m F) (b : Nat) (hb : Ordi w b) (v : Value) (k : Nat) (u : Value) (hf : findB b F 0 = some (k, u)) (hkl : k < F.length) (hkF : F[k].1 = b) :
    ∃ w', (Instr.mapUpdate 170 (.map (some m)) (.pointer (some ⟨b, 0, none⟩)) v).run Tryz.prog w = .ok () w' ∧ PM w' m (F.set k (b, v)) ∧ w.grownBy w' (some m) := by
  have hI := nodeInfo
  cases hi : Tryz.prog.info? 176 with
  | none => rw [hi] at hI; simp at hI
  | some j =>
    rw [hi] at hI
    exact h.old (P := Tryz.prog) Tryz.underlying170 Tryz.underlying136 hi (by simp at hI; omega) b hb v k u hf hkl hkF
theorem found_at {b k : Nat} {F : List (Nat × Value)} (hn : (F.map Prod.fst).Nodup) (hk : k < F.length) {v : Value} (hF : F[k] = (b, v)) : foundV b F = v := by
  unfold foundV
  rcases findB_at b F 0 with ⟨-, h⟩ | ⟨k', v', hk', e, h⟩
  · exact absurd (by rw [hF]) (h F[k] (List.getElem_mem hk))
  · have hkk : k' = k := by
      have h1 : (F.map Prod.fst)[k']'(by simpa using hk') = (F.map Prod.fst)[k]'(by simpa using hk) := by simp [h, hF]
      exact (List.getElem_inj (h₀ := by simpa using hk') (h₁ := by simpa using hk) hn).1 h1
    subst hkk
    rw [e]
    rw [hF] at h
    simp only [Option.map_some, Option.getD_some]
    exact (Prod.mk.inj h).2.symm
theorem HI.begin {w0 W W' : World} {m b : Nat} {F : List (Nat × Value)} {P : List (Nat × List It)} {l : List It} {v : Value} (h : HI w0 W m F P) (hN : ∀ p ∈ F, p.1 ≠ b) (ht : T w0 (ptrB b) l) (pm : PM W' m (F ++ [(b, v)])) (hg : W.grownBy W' (some m)) : HI w0 W' m (F ++ [(b, v)]) ((b, l) :: P) := by
  have kc := KC.grown h.pm hg
  refine ⟨grown_trans h.g hg, h.m0, pm, ?_, fun p hp => ?_, fun q hq => ?_⟩
  · rw [List.map_append, List.nodup_append]
    refine ⟨h.nd, by simp, fun x hx y hy e => ?_⟩
    obtain ⟨p, hp, rfl⟩ := List.mem_map.1 hx
    have hy : y = b := by simpa using hy
    exact hN p hp (e.trans hy)
  · rcases List.mem_append.1 hp with hp | hp
    · rcases h.ent p hp with ⟨q, hq, e⟩ | ⟨l', ao, cap, h1, h2, h3⟩
      · exact .inl ⟨q, List.mem_cons_of_mem _ hq, e⟩
      · exact .inr ⟨l', ao, cap, h1, h2, h3.kc kc⟩
    · rw [List.mem_singleton.1 hp]
      exact .inl ⟨(b, l), List.mem_cons_self .., rfl⟩
  · rcases List.mem_cons.1 hq with rfl | hq
    · exact ht
    · exact h.prg q hq
theorem HI.finish {w0 W W' : World} {m b k : Nat} {F : List (Nat × Value)} {P : List (Nat × List It)} {l : List It} {ao : Option Addr} {cap : Nat} (h : HI w0 W m F ((b, l) :: P)) (hk : k < F.length) (hF : F[k].1 = b) (hs : SlT W ⟨ao, 32, cap, hashI l⟩) (pm : PM W' m (F.set k (b, .slice ao 32 cap))) (hg : W.grownBy W' (some m)) : HI w0 W' m (F.set k (b, .slice ao 32 cap)) P := by
  have kc := KC.grown h.pm hg
  have ht := h.prg (b, l) (List.mem_cons_self ..)
  have hmap : (F.set k (b, Value.slice ao 32 cap)).map Prod.fst = F.map Prod.fst := by
    rw [List.map_set]
    refine List.ext_getElem (by simp) fun i h1 h2 => ?_
    rw [List.getElem_set]
    split
    · rename_i e
      subst e
      simp [hF]
    · rfl
  refine ⟨grown_trans h.g hg, h.m0, pm, by rw [hmap]; exact h.nd, fun p hp => ?_, fun q hq => h.prg q (List.mem_cons_of_mem _ hq)⟩
  obtain ⟨i, hi, rfl⟩ := List.mem_iff_getElem.1 hp
  have hi' : i < F.length := by simpa using hi
  rw [List.getElem_set]
  by_cases e : k = i
  · rw [if_pos e]
    exact .inr ⟨l, ao, cap, ht, rfl, hs.kc kc⟩
  · rw [if_neg e]
    rcases h.ent F[i] (List.getElem_mem hi') with ⟨q, hq, eq⟩ | ⟨l', ao', cap', h1, h2, h3⟩
    · rcases List.mem_cons.1 hq with rfl | hq
      · exfalso
        have h1 : (F.map Prod.fst)[k]'(by simpa using hk) = (F.map Prod.fst)[i]'(by simpa using hi') := by simp [hF, ← eq]
        exact e ((List.getElem_inj (h₀ := by simpa using hk) (h₁ := by simpa using hi') h.nd).1 h1)
      · exact .inl ⟨q, hq, eq⟩
    · exact .inr ⟨l', ao', cap', h1, h2, h3.kc kc⟩
set_option maxHeartbeats 8000000 in
set_option maxRecDepth 100000 in
theorem hash_nil (n : Nat) (w0 W : World) (m : Nat) (l : List It) (F : List (Nat × Value)) (P : List (Nat × List It)) (hl : l = []) (hI : HI w0 W m F P) (hT : Tabs w0) (_ : n = n) : Calls Tryz.prog 133 #[.pointer none, .map (some m)] W (HashPost w0 W m F P l) := by
  subst hl
  refine (hashNil_any W (.map (some m)) (hT.kc hI.kc)).mono ?_
  rintro e W' ⟨v, rfl, own, B⟩
  obtain ⟨ao, cap, rfl, S⟩ := SlT.own own (sumL_byte _)
  exact ⟨ao, cap, F, rfl, S, hI.below B, fun p hp => ⟨p, hp, rfl⟩, grown_below B⟩
set_option maxHeartbeats 8000000 in
set_option maxRecDepth 100000 in
theorem hash_node (n : Nat) (IH : HashOk n) (w0 W : World) (m : Nat) (d : Nd) (l : List It) (segs : List (List It)) (xs : List It) (F : List (Nat × Value)) (P : List (Nat × List It)) (hN : Nod w0 l d segs xs) (hln : l.length ≤ n + 1) (hI : HI w0 W m F P) (hP : ∀ q ∈ P, l.length < q.2.length) (hT : Tabs w0) (hz : Szs l) :
    Calls Tryz.prog 133 #[.pointer (some ⟨d.b, 0, none⟩), .map (some m)] W (HashPost w0 W m F P l) := by
  have ht : T w0 (ptrB d.b) l := T.of hN
  have hO : Ordi w0 d.b := hN.ok.uf
  have L1 := look_two hI.pm d.b (hO.kc hI.kc)
  have HP : Hid (∀ q ∈ P, l.length < q.2.length) := hP
  rcases findB_at d.b F 0 with ⟨e, hno⟩ | ⟨k, u, hk, e, hF⟩
  · rw [e] at L1
    have hv0 : foundV d.b F = .slice none 0 0 := by unfold foundV; rw [e]; rfl
    rw [hv0] at L1
    have CS := sumT W none 0 0 [] (hT.kc hI.kc) (Sl.nothing W)
    have HNO : Hid (∀ p ∈ F, p.1 ≠ d.b) := hno
    have HI0 : Hid (HI w0 W m F P) := hI
    have HT0 : Hid (T w0 (ptrB d.b) l) := ht
    have HN : Hid (Nod w0 l d segs xs) := hN
    have HTb : Hid (Tabs w0) := hT
    have HZ : Hid (Szs l) := hz
    have HO : Hid (Ordi w0 d.b) := hO
    have HIH : Hid (HashOk n) := IH
    have nk := hN.nk
    have nv := hN.nv
    have nc := hN.nc
    have hx1 : xs.length ≤ 10000 := by have := hN.many; have := hz.1; omega
    have HL : Hid (d.ks.length = xs.length ∧ d.vs.length = xs.length ∧ d.cs.length = xs.length + 1) := ⟨nk, nv, nc⟩
    clear hv0 e hno hI ht hN hT hz hO IH nk nv nc hP
    go_enter Tryz.func133, Tryz.ntmps133
    go_wp2_with fail
    refine CS.mono ?_
    rintro e W1 ⟨s0, sc0, rfl, S0, C1⟩
    have I1 := HI0.out.below C1
    obtain ⟨W2, hput, pm2, g2⟩ := put_new7 I1.pm d.b (HO.out.kc I1.kc) (.slice s0 32 sc0) HNO.out
    have I2 := I1.begin HNO.out HT0.out pm2 g2
    have hG2 := grown_trans (grown_below C1) g2
    have K2 := I2.kc
    have c1 := K2.cell HN.out.ok.c1
    have c2 := K2.cell HN.out.ok.c2
    have c3 := K2.cell HN.out.ok.c3
    rw [HL.out.1] at c1
    rw [HL.out.2.1] at c2
    rw [HL.out.2.2] at c3
    obtain ⟨x, hx⟩ : ∃ x, x = xs.length := ⟨_, rfl⟩
    rw [← hx] at c1 c2 c3 hx1
    have hwr : IntKind.i64.wrap ((x : Int) + 1) = (x : Int) + 1 := by
      have := wrap_nat (k := x + 1) (by omega)
      simpa using this
    have hxx : (((x + 1 : Nat) : Int) == (x : Int) + 1) = true := by simp
    clear CS L1 I1 pm2 g2 K2 S0 C1 hx
    go_wp2_with fail
    go_quiet (fail)
    have D2 := below_drewN W2 nq W2.heap.size
    obtain ⟨V, hV⟩ : ∃ V, V = W2.drewN nq := ⟨_, rfl⟩
    rw [← hV] at D2 ⊢
    have IV := I2.below D2
    have hGV := grown_keep hG2 D2 hG2.size
    have CF := formOf_any n HIH.out w0 V m d l segs xs _ _ HN.out hln IV (fun q hq => by
      rcases List.mem_cons.1 hq with rfl | hq
      · exact Nat.le_refl _
      · exact Nat.le_of_lt (HP.out q hq)) HTb.out HZ.out
    unfold Nd.ptr at CF
    clear hV hput c1 c2 c3 hwr hxx D2 I2 IV hG2
    go_wp2_with fail
    refine CF.mono ?_
    rintro e W3 ⟨fo, fn, fc, F3, rfl, S3, I3, kf3, G3⟩
    have hG3 := grown_trans hGV G3
    have CS := sumT W3 fo fn fc _ (HTb.out.kc I3.kc) S3.1
    rw [← hashI_node HN.out.shp] at CS
    have HKF : Hid (∀ p ∈ F ++ [(d.b, Value.slice s0 32 sc0)], ∃ q ∈ F3, q.1 = p.1) := kf3
    have HI3 : Hid (HI w0 W3 m F3 ((d.b, l) :: P)) := I3
    clear CF S3 I3 kf3 G3 hGV
    go_wp2_with fail
    refine CS.mono ?_
    rintro e W4 ⟨s1, sc1, rfl, S4, C4⟩
    have I4 := HI3.out.below C4
    have hG4 := grown_keep hG3 C4 hG3.size
    obtain ⟨k, u, hk, hf, hF⟩ : ∃ (k : Nat) (u : Value) (h : k < F3.length), findB d.b F3 0 = some (k, u) ∧ F3[k] = (d.b, u) := by
      rcases findB_at d.b F3 0 with ⟨-, hno⟩ | ⟨k, u, hk, e, hF⟩
      · obtain ⟨q, hq, e⟩ := HKF.out (d.b, Value.slice s0 32 sc0) (by simp)
        exact absurd e (hno q hq)
      · exact ⟨k, u, hk, by rw [e, Nat.zero_add], hF⟩
    have hF1 : F3[k].1 = d.b := by rw [hF]
    obtain ⟨W5, hput, pm5, g5⟩ := put_old7 I4.pm d.b (HO.out.kc I4.kc) (.slice s1 32 sc1) k u hf hk hF1
    have I5 := I4.finish hk hF1 S4 pm5 g5
    have S5 := S4.kc (KC.grown I4.pm g5)
    have hG5 := grown_trans hG4 g5
    have L5 := look_one I5.pm d.b (HO.out.kc I5.kc)
    rw [found_at I5.nd (k := k) (b := d.b) (v := .slice s1 32 sc1) (by simpa using hk) (by simp)] at L5
    have HKF5 : Hid (∀ p ∈ F, ∃ q ∈ F3.set k (d.b, Value.slice s1 32 sc1), q.1 = p.1) := fun p hp => by
      obtain ⟨q, hq, e⟩ := HKF.out p (List.mem_append_left _ hp)
      obtain ⟨i, hi, rfl⟩ := List.mem_iff_getElem.1 hq
      refine ⟨(F3.set k (d.b, Value.slice s1 32 sc1))[i]'(by simpa using hi), List.getElem_mem _, ?_⟩
      rw [List.getElem_set]
      split
      · rename_i ek
        subst ek
        rw [← e, hF1]
      · exact e
    have HI5 : Hid (HI w0 W5 m (F3.set k (d.b, Value.slice s1 32 sc1)) P) := I5
    clear CS S4 C4 I4 hf hF hF1 pm5 g5 I5 hG4 hG3
    go_wp2
    go_ret
    exact ⟨s1, sc1, _, rfl, S5, HI5.out, HKF5.out, hG5⟩
  · have hmem : (d.b, u) ∈ F := by rw [← hF]; exact List.getElem_mem hk
    have hv : foundV d.b F = u := found_at hI.nd hk hF
    rw [hv, e] at L1
    rcases hI.ent (d.b, u) hmem with ⟨q, hq, eq⟩ | ⟨l', ao, cap, h1, h2, h3⟩
    · exfalso
      have h4 := hI.prg q hq
      rw [eq] at h4
      have h5 := T.inj l.length (ptrB d.b) l q.2 (Nat.le_refl _) ht h4
      have h6 := hP q hq
      rw [← h5] at h6
      omega
    · have h5 := T.inj l.length (ptrB d.b) l l' (Nat.le_refl _) ht h1
      subst h5
      have h2 : u = .slice ao 32 cap := h2
      subst h2
      have HI0 : Hid (HI w0 W m F P) := hI
      clear hmem hv e hF hI h1 ht hO hN hT hz hP IH
      go_enter Tryz.func133, Tryz.ntmps133
      go_wp2
      go_ret
      exact ⟨ao, cap, F, rfl, h3, HI0.out, fun p hp => ⟨p, hp, rfl⟩, World.grownBy.refl _ _⟩
theorem hash_fuel : ∀ n, HashOk n := by
  intro n
  induction n with
  | zero =>
    intro w0 W m v l F P hl ht hI _ hT _
    obtain rfl : l = [] := List.eq_nil_of_length_eq_zero (by omega)
    rcases ht.is with ⟨-, rfl⟩ | ⟨d, segs, xs, -, hN⟩
    · exact hash_nil 0 w0 W m [] F P rfl hI hT rfl
    · have h1 := hN.shp.pos
      have h2 := hN.many
      rw [List.length_nil] at h2
      omega
  | succ n ih =>
    intro w0 W m v l F P hl ht hI hP hT hz
    rcases ht.is with ⟨e, rfl⟩ | ⟨d, segs, xs, rfl, hN⟩
    · exact hash_nil 0 w0 W m l F P e hI hT rfl
    · exact hash_node n ih w0 W m d l segs xs F P hN hl hI hP hT hz
def RootPost (w : World) (l : List It) (e : Ending) (w' : World) : Prop := ∃ ao cap, e = .returned (.slice ao 32 cap) ∧ SlT w' ⟨ao, 32, cap, hashI l⟩ ∧ Below w.heap.size w w'
set_option maxHeartbeats 1000000 in
set_option maxRecDepth 100000 in
theorem thash_any (w : World) (v : Value) (l : List It) (h : T w v l) (hT : Tabs w) (hz : Szs l) : Calls Tryz.prog 98 #[v] w (RootPost w l) := by
  have h2 := hT.two
  have hmm := @run_makeMap Tryz.prog
  have B1 : Below w.heap.size w (w.alloc (.map #[] 0)) := (Below.refl _ w).alloc (Nat.le_refl _) _
  have pm : PM (w.alloc (.map #[] 0)) w.heap.size [] := ⟨#[], 0, heap_alloc_new w _, rfl, fun i hi => by simp at hi, fun _ h => by simp at h⟩
  have CH := hash_fuel l.length (w.alloc (.map #[] 0)) (w.alloc (.map #[] 0)) w.heap.size v l [] [] (Nat.le_refl _) (h.below B1) ⟨World.grownBy.refl _ _, ⟨_, pm⟩, pm, by simp, fun _ h => by simp at h, fun _ h => by simp at h⟩ (fun _ h => by simp at h) (hT.below B1 h2) hz
  obtain ⟨po, rfl⟩ := h.ptr
  clear pm h
  go_enter Tryz.func98, Tryz.ntmps98
  go_wp2_with fail
  refine CH.mono ?_
  rintro e w2 ⟨ao, cap, F', rfl, S, -, -, G⟩
  have B2 : Below w.heap.size w w2 := B1.trans (below_grown G B1.size (Nat.le_refl _))
  go_wp2
  go_ret
  exact ⟨ao, cap, rfl, S, B2⟩
set_option maxHeartbeats 1000000 in
set_option maxRecDepth 100000 in
theorem root_any (w : World) (v : Value) (l : List It) (h : TT w v l) (hT : Tabs w) (hz : Szs l) : Calls Tryz.prog 58 #[v] w (RootPost w l) := by
  have CS := shared_at w w v l h (Below.refl _ _)
  obtain ⟨po, rfl⟩ := h.ptr
  go_enter Tryz.func58, Tryz.ntmps58
  go_wp2_with fail
  refine CS.mono ?_
  rintro e w1 ⟨q, rfl, hq, hw⟩
  obtain rfl := hw.symm
  have CH := thash_any w (.pointer q) l hq hT hz
  clear CS
  go_wp2_with fail
  refine CH.mono ?_
  rintro e w2 ⟨ao, cap, rfl, S, B⟩
  go_wp2
  go_ret
  exact ⟨ao, cap, rfl, S, B⟩
open Go.RowKit
def wdTab : ByteArray := { data := #[116, 97, 98, 108, 101, 116] }
def rootT (f t : ByteArray) (cs : List CV) : List Int := sumL (formL (sb wdTab) [sb f, sb t, hashI (cs.map itm)])
theorem CGood.szs {cs : List CV} (h : CGood cs) (hn : cs.length ≤ 1000) : Szs (cs.map itm) := by
  refine ⟨by rw [List.length_map]; omega, fun x hx => ?_⟩
  obtain ⟨c, hc, rfl⟩ := List.mem_map.1 hx
  have h1 := keyL_le (h c hc).right
  have h2 := itV_len c
  have h3 := (h c hc).val
  exact ⟨Nat.le_trans h1 (by omega), by show (itV c).length ≤ 1000000; omega⟩
set_option maxHeartbeats 4000000 in
set_option maxRecDepth 100000 in
theorem troot_any (w : World) (p : Nat) (f t : ByteArray) (cs : List CV) (hTb : Tabs w) (hT : TB w p f t cs) (hg : CGood cs) (hn : cs.length ≤ 1000) (hf : f.size ≤ 32) (ht : t.size ≤ 32) :
    Calls Tryz.prog 28 #[.pointer (some ⟨p, 0, none⟩)] w fun e w' => ∃ ao cap, e = .returned (.slice ao 32 cap) ∧ Sl w' ao 32 cap (rootT f t cs) ∧ Below w.heap.size w w' := by
  have t2 := hTb.two
  obtain ⟨u, A0, T0⟩ := hT
  have c0 : w.cell? ⟨p, 0, none⟩ = some (.string f) := Arr.cell A0 0
  have c1 : w.cell? ⟨p, 1, none⟩ = some (.string t) := Arr.cell A0 1
  have c2 : w.cell? ⟨p, 2, none⟩ = some (.pointer u) := Arr.cell A0 2
  have CR : Hid (∀ V, Below w.heap.size w V → Calls Tryz.prog 58 #[.pointer u] V fun e w' => ∃ ro rc, e = .returned (.slice ro 32 rc) ∧ Sl w' ro 32 rc (hashI (cs.map itm)) ∧ Below V.heap.size V w') := fun V hV => by
    refine (root_any V (.pointer u) (cs.map itm) (T0.below hV) (hTb.below hV t2) (hg.szs hn)).mono ?_
    rintro e w' ⟨ao, cap, rfl, S, B⟩
    exact ⟨ao, cap, rfl, S.1, B⟩
  have CO : Hid (∀ V, Below w.heap.size w V → ∀ (a : Option Addr) (g1 k1 g2 k2 : Nat) (ro : Option Addr) (rc : Nat), PL V a 3 3 [⟨some ⟨g1, 0, none⟩, f.size, k1, sb f⟩, ⟨some ⟨g2, 0, none⟩, t.size, k2, sb t⟩, ⟨ro, 32, rc, hashI (cs.map itm)⟩] → Calls Tryz.prog 57 #[.string { data := #[116, 97, 98, 108, 101, 116] }, .slice a 3 3] V fun e w' => ∃ so sc, e = .returned (.slice so 32 sc) ∧ Sl w' so 32 sc (rootT f t cs) ∧ Below V.heap.size V w') := fun V hV a g1 k1 g2 k2 ro rc P3 => by
    refine (of_any V wdTab a 3 3 _ P3 (hTb.below hV t2) (by decide) (by omega) (fun q hq => by
      simp only [List.mem_cons, List.not_mem_nil, or_false] at hq
      rcases hq with rfl | rfl | rfl <;> simp only <;> omega)).mono ?_
    rintro e w' ⟨v, rfl, own, B⟩
    obtain ⟨so, sc, rfl, S, -⟩ := Sl.own own (sumL_byte _)
    exact ⟨so, sc, rfl, S, B⟩
  clear A0 T0 hg hTb
  go_enter Tryz.func28, Tryz.ntmps28
  go_wp2
  have zHS : Hid (∀ V, Below w.heap.size w V → V.cell? ⟨p, 0, none⟩ = some (.string f) ∧ V.cell? ⟨p, 1, none⟩ = some (.string t) ∧ V.cell? ⟨p, 2, none⟩ = some (.pointer u)) := fun V hV => ⟨(hV.cell (World.block_lt_of_cell? _ _ c0)).trans c0, (hV.cell (World.block_lt_of_cell? _ _ c1)).trans c1, (hV.cell (World.block_lt_of_cell? _ _ c2)).trans c2⟩
  have zE0 : Below w.heap.size w w.drew := (Below.refl _ _).drew
  refine wp_region_noPanic ?_
  refine wp_region_held_drew (S := fun V => V.cell? ⟨p, 0, none⟩ = some (.string f) ∧ V.cell? ⟨p, 1, none⟩ = some (.string t) ∧ V.cell? ⟨p, 2, none⟩ = some (.pointer u)) (by kernel_rfl) (zHS.out _ zE0) (fun zH0 => ?_)
  obtain ⟨zv0, hv0⟩ : ∃ v, v = w.drew := ⟨_, rfl⟩
  rw [← hv0] at zH0 zE0 ⊢
  clear hv0
  refine hr_take_w 0 (some 5) (.pointer (some ⟨p, 0, none⟩)) rfl rfl (by kernel_rfl) (by kernel_rfl) (by kernel_rfl) rfl (fun W hW => by obtain ⟨h0, h1, h2⟩ := hW; go_simp) zH0 ?_
  simp only [FL]
  refine hr_take_w 1 (some 6) (.pointer (some ⟨p, 0, none⟩)) rfl rfl (by kernel_rfl) (by kernel_rfl) (by kernel_rfl) rfl (fun W hW => by obtain ⟨h0, h1, h2⟩ := hW; go_simp) zH0 ?_
  simp only [FL]
  refine hr_take_w 2 (some 7) (.pointer (some ⟨p, 0, none⟩)) rfl rfl (by kernel_rfl) (by kernel_rfl) (by kernel_rfl) rfl (fun W hW => by obtain ⟨h0, h1, h2⟩ := hW; go_simp) zH0 ?_
  simp only [FL]
  refine hr_take_w 3 (some 8) (.string f) rfl rfl (by kernel_rfl) (by kernel_rfl) (by kernel_rfl) rfl (fun W hW => by obtain ⟨h0, h1, h2⟩ := hW; go_simp) zH0 ?_
  simp only [FL]
  refine hr_take_w 5 (some 10) (.pointer (some ⟨p, 0, none⟩)) rfl rfl (by kernel_rfl) (by kernel_rfl) (by kernel_rfl) rfl (fun W hW => by obtain ⟨h0, h1, h2⟩ := hW; go_simp) zH0 ?_
  simp only [FL]
  refine hr_take_w 6 (some 11) (.pointer (some ⟨p, 0, none⟩)) rfl rfl (by kernel_rfl) (by kernel_rfl) (by kernel_rfl) rfl (fun W hW => by obtain ⟨h0, h1, h2⟩ := hW; go_simp) zH0 ?_
  simp only [FL]
  refine hr_take_w 7 (some 12) (.pointer (some ⟨p, 1, none⟩)) rfl rfl (by kernel_rfl) (by kernel_rfl) (by kernel_rfl) rfl (fun W hW => by obtain ⟨h0, h1, h2⟩ := hW; go_simp) zH0 ?_
  simp only [FL]
  refine hr_take_w 8 (some 13) (.string t) rfl rfl (by kernel_rfl) (by kernel_rfl) (by kernel_rfl) rfl (fun W hW => by obtain ⟨h0, h1, h2⟩ := hW; go_simp) zH0 ?_
  simp only [FL]
  refine hr_take_w 10 (some 15) (.pointer (some ⟨p, 0, none⟩)) rfl rfl (by kernel_rfl) (by kernel_rfl) (by kernel_rfl) rfl (fun W hW => by obtain ⟨h0, h1, h2⟩ := hW; go_simp) zH0 ?_
  simp only [FL]
  refine hr_take_w 11 (some 16) (.pointer (some ⟨p, 0, none⟩)) rfl rfl (by kernel_rfl) (by kernel_rfl) (by kernel_rfl) rfl (fun W hW => by obtain ⟨h0, h1, h2⟩ := hW; go_simp) zH0 ?_
  simp only [FL]
  refine hr_take_w 12 (some 17) (.pointer (some ⟨p, 2, none⟩)) rfl rfl (by kernel_rfl) (by kernel_rfl) (by kernel_rfl) rfl (fun W hW => by obtain ⟨h0, h1, h2⟩ := hW; go_simp) zH0 ?_
  simp only [FL]
  refine hr_take_w 13 (some 18) (.pointer u) rfl rfl (by kernel_rfl) (by kernel_rfl) (by kernel_rfl) rfl (fun W hW => by obtain ⟨h0, h1, h2⟩ := hW; go_simp) zH0 ?_
  simp only [FL]
  refine wpAnyH_effto 3 (fun zi zv zw => (zi = 4 → ∃ g c, zv = .slice (some ⟨g, 0, none⟩) f.size c ∧ Sl zw (some ⟨g, 0, none⟩) f.size c (sb f)) ∧ (zi = 9 → ∃ g c, zv = .slice (some ⟨g, 0, none⟩) t.size c ∧ Sl zw (some ⟨g, 0, none⟩) t.size c (sb t)) ∧ (zi = 14 → ∃ ro rc, zv = .slice ro 32 rc ∧ Sl zw ro 32 rc (hashI (cs.map itm)))) [(4, 9), (9, 14), (14, 19)] 22 (by kernel_rfl) (by decide) (by decide) rfl ?_ (fun W hW => zHS.out W (zE0.trans (hW.mono zE0.size))) ?_ ?_
  · intro zi v w w' h hb
    refine ⟨fun e => ?_, fun e => ?_, fun e => ?_⟩
    · have h := h.1 e
      obtain ⟨g, c, h1, h2⟩ := h
      exact ⟨g, c, h1, h2.below hb⟩
    · have h := h.2.1 e
      obtain ⟨g, c, h1, h2⟩ := h
      exact ⟨g, c, h1, h2.below hb⟩
    · have h := h.2.2 e
      obtain ⟨ro, rc, h1, h2⟩ := h
      exact ⟨ro, rc, h1, h2.below hb⟩
  · intro zp zhi o a w ho hs hb hdep
    have zEB := zE0.trans (hb.mono zE0.size)
    simp only [List.mem_cons, List.not_mem_nil, or_false] at zhi
    rcases zhi with rfl | rfl | rfl
    · obtain rfl : _ = o := Option.some.inj (show some _ = some o from ho)
      have t8 : a.tmps[8]? = some (.string f) := hs.get 8 (by kernel_rfl) rfl
      have hr := Lib.run_convert_string_bytes (P := Tryz.prog) w 9 25 5 f Tryz.underlying9 Tryz.underlying25 Tryz.underlying5
      exact .inl ⟨_, _, by go_simp, ⟨fun _ => ⟨_, _, rfl, bytesWorld_sl w f (by omega)⟩, fun e => absurd e (by decide), fun e => absurd e (by decide)⟩, bytesWorld_below w f⟩
    · obtain rfl : _ = o := Option.some.inj (show some _ = some o from ho)
      have t13 : a.tmps[13]? = some (.string t) := hs.get 13 (by kernel_rfl) rfl
      have hr := Lib.run_convert_string_bytes (P := Tryz.prog) w 9 25 5 t Tryz.underlying9 Tryz.underlying25 Tryz.underlying5
      exact .inl ⟨_, _, by go_simp, ⟨fun e => absurd e (by decide), fun _ => ⟨_, _, rfl, bytesWorld_sl w t (by omega)⟩, fun e => absurd e (by decide)⟩, bytesWorld_below w t⟩
    · obtain rfl : _ = o := Option.some.inj (show some _ = some o from ho)
      have t18 : a.tmps[18]? = some (.pointer u) := hs.get 18 (by kernel_rfl) rfl
      refine .inr ⟨58, #[.pointer u], by go_simp, (CR.out w zEB).mono ?_⟩
      rintro e w' ⟨ro, rc, rfl, S1, C⟩
      exact ⟨_, rfl, ⟨fun e => absurd e (by decide), fun e => absurd e (by decide), fun _ => ⟨ro, rc, rfl, S1⟩⟩, C⟩
  intro zf zv1 hb hh
  have zE1 := zE0.trans (hb.mono zE0.size)
  obtain ⟨g1, k1, e4, S1⟩ := (hh (4, 9) (by simp)).1 rfl
  obtain ⟨g2, k2, e9, S2⟩ := (hh (9, 14) (by simp)).2.1 rfl
  obtain ⟨ro, rc, e14, S3⟩ := (hh (14, 19) (by simp)).2.2 rfl
  clear hh hb
  simp only [putL, List.foldl_cons, List.foldl_nil, e4, e9, e14]
  clear e4 e9 e14
  simp only [FL]
  refine hr_ex 15 (some 20) rfl rfl (by kernel_rfl) rfl (R := fun v w' => ∃ g, v = .slice (some ⟨g, 0, none⟩) 3 3 ∧ VL w' (some ⟨g, 0, none⟩) 3 3 [.slice (some ⟨g1, 0, none⟩) f.size k1, .slice (some ⟨g2, 0, none⟩) t.size k2, .slice ro 32 rc] ∧ Below zv1.heap.size zv1 w') (⟨_, _, by go_simp, _, rfl, VL.new zv1 [.slice (some ⟨g1, 0, none⟩) f.size k1, .slice (some ⟨g2, 0, none⟩) t.size k2, .slice ro 32 rc] 25 (by simp [maxLen]), (Below.refl _ _).alloc (Nat.le_refl _) _⟩) ?_
  rintro v zv2 ⟨zg1, rfl, zG1, zC1⟩
  have zE2 := zE1.trans (zC1.mono zE1.size)
  have zH2 := zHS.out zv2 zE2
  have S1 := S1.below zC1
  have S2 := S2.below zC1
  have S3 := S3.below zC1
  refine ⟨zH2, ?_⟩
  simp only [FL]
  have P3 : PL zv2 (some ⟨zg1, 0, none⟩) 3 3 [⟨some ⟨g1, 0, none⟩, f.size, k1, sb f⟩, ⟨some ⟨g2, 0, none⟩, t.size, k2, sb t⟩, ⟨ro, 32, rc, hashI (cs.map itm)⟩] := ⟨rfl, Nat.le_refl _, by decide, fun h => by simp at h, fun a ha i hi => match i, hi with | 0, _ => zG1.cell a ha 0 (by simp) | 1, _ => zG1.cell a ha 1 (by simp) | 2, _ => zG1.cell a ha 2 (by simp) | n + 3, h => absurd h (by simp), fun q hq => by
    simp only [List.mem_cons, List.not_mem_nil, or_false] at hq
    rcases hq with rfl | rfl | rfl
    · exact S1
    · exact S2
    · exact S3⟩
  refine hr_call_w 16 (some 21) 57 #[.string { data := #[116, 97, 98, 108, 101, 116] }, .slice (some ⟨zg1, 0, none⟩) 3 3] rfl rfl (by kernel_rfl) rfl (by go_simp) (fun v w' => ∃ dq dc, v = .slice dq 32 dc ∧ Sl w' dq 32 dc (rootT f t cs) ∧ Below zv2.heap.size zv2 w') ((CO.out zv2 zE2 _ _ _ _ _ _ _ P3).mono (by
    rintro e w' ⟨dq, dc, rfl, F, C⟩
    exact ⟨_, rfl, dq, dc, rfl, F, C⟩)) ?_
  rintro v zv3 ⟨dq, dc, rfl, zF2, zC2⟩
  have zE3 := zE2.trans (zC2.mono zE2.size)
  have zH3 := zHS.out zv3 zE3
  refine ⟨zH3, ?_⟩
  simp only [FL]
  refine hr_take_w 17 (some 2) (.slice dq 32 dc) rfl rfl (by kernel_rfl) (by kernel_rfl) (by kernel_rfl) rfl (fun W hW => by obtain ⟨h0, h1, h2⟩ := hW; go_simp) zH3 ?_
  simp only [FL]
  refine wpAnyH_done (by kernel_rfl) ?_ _
  refine NoPanic.normal ?_
  go_wp2
  go_ret
  exact ⟨dq, dc, rfl, zF2, zE3⟩
open Go.RowKit
theorem same_true (w : World) (ao bo : Option Addr) (n cap m cap2 : Nat) (xs : List Int) (h : Sl w ao n cap xs) (h2 : Sl w bo m cap2 xs) :
    Calls Tryz.prog 27 #[.slice ao n cap, .slice bo m cap2] w fun e w' => e = .returned (.bool true) ∧ Below w.heap.size w w' := by
  refine (same_any w ao bo n cap m cap2 xs xs h h2).mono ?_
  rintro e w' ⟨rfl, q, rfl⟩
  exact ⟨by simp, ⟨rfl, rfl, rfl, Nat.le_refl _, fun _ _ => rfl⟩⟩
end Go.Proofs.YtlljmhcgjkolpaaGreatDoor

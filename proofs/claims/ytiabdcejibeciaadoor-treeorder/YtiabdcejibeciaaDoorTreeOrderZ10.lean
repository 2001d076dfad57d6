/-
  Texts in one: HMath, FormL, Own2, PChg, SumOfW, HashM.
-/
import Derived.Test.YtiabdcejibeciaaDoorTreeOrderZ6
import Derived.Test.YtiabdcejibeciaaDoorTreeOrderZ9
import Derived.Test.YtiabdcejibeciaaDoorTreeOrderZ0
import Derived.Test.YtiabdcejibeciaaDoorTreeOrderZ3
import Derived.Test.YtiabdcejibeciaaDoorTreeOrderZ8
namespace Go.Proofs.YtiabdcejibeciaaDoor
open Go.RowKit

def emptyH : List Int := [101, 109, 112, 116, 121]
/-- The hash of items, no deeper than n. -/
def hashN : Nat → List It → List Int
  | 0, _ => sumL emptyH
  | n + 1, l => if l.isEmpty then sumL emptyH else
    sumL (formN (maxV lev l) ((keysF lev (maxV lev l) l).map It.k) ((keysF lev (maxV lev l) l).map fun x => sumL x.v) ((segsF lev (maxV lev l) l).map (hashN n)))
/-- The hash of items. -/
def hashI (l : List It) : List Int := hashN l.length l
theorem hashI_nil : hashI [] = sumL emptyH := rfl
theorem segs_short (lv : List Int → Nat) (l : List It) (hne : l ≠ []) (s : List It) (hs : s ∈ segsF lv (maxV lv l) l) : s.length < l.length := by
  have hex : ∃ x ∈ l, lv x.k = maxV lv l := by
    clear hs
    induction l with
    | nil => exact absurd rfl hne
    | cons x l ih =>
      by_cases hl : l = []
      · subst hl
        exact ⟨x, List.mem_cons_self .., by simp [maxV]⟩
      · obtain ⟨y, hy, hyl⟩ := ih hl
        by_cases hx : maxV lv l ≤ lv x.k
        · exact ⟨x, List.mem_cons_self .., by simp only [maxV]; omega⟩
        · exact ⟨y, List.mem_cons_of_mem _ hy, by simp only [maxV]; omega⟩
  have hsum : ∀ (L : Nat) (l : List It), (segsF lv L l).flatten.length + (keysF lv L l).length = l.length := by
    intro L l
    induction l with
    | nil => rfl
    | cons x l ih =>
      unfold keysF at ih ⊢
      simp only [segsF]
      by_cases hx : lv x.k = L
      · rw [if_pos hx, List.filter_cons_of_pos (by simpa using hx)]
        simp only [List.flatten_cons, List.nil_append, List.length_cons]
        omega
      · rw [if_neg hx, List.filter_cons_of_neg (by simpa using hx)]
        cases hsg : segsF lv L l with
        | nil =>
          rw [hsg] at ih
          simp only [List.flatten_nil, List.length_nil, List.flatten_cons, List.append_nil, List.length_cons] at ih ⊢
          omega
        | cons t ts =>
          rw [hsg] at ih
          simp only [List.flatten_cons, List.length_append, List.length_cons] at ih ⊢
          omega
  obtain ⟨x, hx, hxl⟩ := hex
  have h1 := hsum (maxV lv l) l
  have h2 : 0 < (keysF lv (maxV lv l) l).length := List.length_pos_of_mem (List.mem_filter.2 ⟨hx, by simpa using hxl⟩)
  have h3 : s.length ≤ (segsF lv (maxV lv l) l).flatten.length := by
    obtain ⟨a, b, e⟩ := List.append_of_mem hs
    rw [e]
    simp only [List.flatten_append, List.flatten_cons, List.length_append]
    omega
  omega
theorem hashN_re : ∀ (n m : Nat) (l : List It), l.length ≤ n → l.length ≤ m → hashN n l = hashN m l
  | 0, 0, _, _, _ => rfl
  | 0, m + 1, l, h, _ => by
    obtain rfl : l = [] := List.eq_nil_of_length_eq_zero (by omega)
    rfl
  | n + 1, 0, l, _, h => by
    obtain rfl : l = [] := List.eq_nil_of_length_eq_zero (by omega)
    rfl
  | n + 1, m + 1, l, h1, h2 => by
    simp only [hashN]
    by_cases he : l.isEmpty = true
    · rw [if_pos he, if_pos he]
    · rw [if_neg he, if_neg he]
      congr 2
      refine List.map_congr_left fun s hs => ?_
      have hlt : s.length < l.length := by
        have hne : l ≠ [] := fun e => he (by rw [e]; rfl)
        exact segs_short lev l hne s hs
      exact hashN_re n m s (by omega) (by omega)
/-- A node's hash, by its parts. -/
theorem hashI_node {l : List It} {L : Nat} {segs : List (List It)} {xs : List It} (h : Shp lev l L segs xs) : hashI l = sumL (formN L (xs.map It.k) (xs.map fun x => sumL x.v) (segs.map hashI)) := by
  obtain ⟨e1, e2, e3⟩ := h.unique
  have hpos := h.pos
  have hne : l ≠ [] := fun e => by
    have := h.key xs[0] (List.getElem_mem hpos)
    rw [e] at this
    simp at this
  obtain ⟨m, hm⟩ : ∃ m, l.length = m + 1 := ⟨l.length - 1, by have := List.length_pos_iff.2 hne; omega⟩
  unfold hashI
  rw [hm]
  simp only [hashN]
  rw [if_neg (by simpa using hne), ← e1, ← e2, ← e3]
  congr 2
  refine List.map_congr_left fun s hs => ?_
  have := h.shorter s hs
  exact hashN_re m s.length s (by omega) (Nat.le_refl _)
theorem hashI_len (l : List It) : (hashI l).length = 32 := by
  unfold hashI
  cases l.length with
  | zero => exact sumL_len _
  | succ n =>
    simp only [hashN]
    split
    · exact sumL_len _
    · exact sumL_len _
/-- Bytes in one place are one. -/
theorem Sl.inj {w : World} {ao : Option Addr} {n cap : Nat} {xs ys : List Int} (h : Sl w ao n cap xs) (k : Sl w ao n cap ys) : xs = ys := by
  have h1 := h.len
  have h2 := k.len
  refine List.ext_getElem (by omega) fun i hi hj => ?_
  cases ao with
  | none => have := (h.nil rfl).1; omega
  | some a =>
    have e1 := h.cell a rfl i (by omega)
    have e2 := k.cell a rfl i (by omega)
    rw [e1] at e2
    simp only [Option.some.injEq, Value.int.injEq, true_and] at e2
    simpa [List.getD, hi, hj] using e2
theorem KL.inj {w : World} {ao : Option Addr} {n cap : Nat} {ps qs : List Part} (h : KL w ao n cap ps) (k : KL w ao n cap qs) : ps.map Part.xs = qs.map Part.xs := by
  have h1 := h.len
  have h2 := k.len
  refine List.ext_getElem (by simp; omega) fun i hi hj => ?_
  simp only [List.length_map] at hi hj
  cases ao with
  | none => have := (h.vl.nil rfl).1; omega
  | some a =>
    have e1 := h.vl.cell a rfl i (by simpa using hi)
    have e2 := k.vl.cell a rfl i (by simpa using hj)
    rw [e1] at e2
    simp only [List.getElem_map, Part.val, Option.some.injEq, Value.slice.injEq] at e2
    obtain ⟨e3, e4, e5⟩ := e2
    have s1 := h.sl ps[i] (List.getElem_mem hi)
    have s2 := k.sl qs[i] (List.getElem_mem hj)
    rw [← e3, ← e4, ← e5] at s2
    simpa using s1.inj s2
theorem It.ext' {x y : It} (h1 : x.k = y.k) (h2 : x.v = y.v) : x = y := by
  cases x
  cases y
  simp only at h1 h2
  rw [h1, h2]
/-- A node has one list of items. -/
theorem T.inj {w : World} : ∀ (n : Nat) (v : Value) (l l' : List It), l.length ≤ n → T w v l → T w v l' → l = l' := by
  intro n
  induction n with
  | zero =>
    intro v l l' hn h k
    obtain rfl : l = [] := List.eq_nil_of_length_eq_zero (by omega)
    rcases h.is with ⟨_, rfl⟩ | ⟨d, segs, xs, _, hN⟩
    · exact (T.none k).symm
    · have h1 := hN.shp.pos
      have h2 := hN.many
      rw [List.length_nil] at h2
      omega
  | succ n ih =>
    intro v l l' hn h k
    rcases h.is with ⟨rfl, rfl⟩ | ⟨d, segs, xs, rfl, hN⟩
    · exact (T.none k).symm
    · rcases k.is with ⟨_, e⟩ | ⟨d', segs', xs', e, hN'⟩
      · simp [Nd.ptr] at e
      · simp only [Nd.ptr, Value.pointer.injEq, Option.some.injEq, Addr.mk.injEq, and_true] at e
        have c0 := hN.ok.c0
        have c1 := hN.ok.c1
        have c2 := hN.ok.c2
        have c3 := hN.ok.c3
        rw [e] at c0 c1 c2 c3
        have f0 := c0.symm.trans hN'.ok.c0
        have f1 := c1.symm.trans hN'.ok.c1
        have f2 := c2.symm.trans hN'.ok.c2
        have f3 := c3.symm.trans hN'.ok.c3
        simp only [Option.some.injEq, Value.slice.injEq] at f1 f2 f3
        obtain ⟨a1, a2, a3⟩ := f1
        obtain ⟨b1, b2, b3⟩ := f2
        obtain ⟨g1, g2, g3⟩ := f3
        have hk := hN.ok.kl
        rw [a1, a2, a3] at hk
        have hv := hN.ok.vl
        rw [b1, b2, b3] at hv
        have ek := hk.inj hN'.ok.kl
        have ev := hv.inj hN'.ok.vl
        rw [hN.ek, hN'.ek] at ek
        rw [hN.ev, hN'.ev] at ev
        have hxs : xs = xs' := by
          have hl : xs.length = xs'.length := by simpa using congrArg List.length ek
          refine List.ext_getElem hl fun i hi hj => ?_
          have h1 := congrArg (·[i]?) ek
          have h2 := congrArg (·[i]?) ev
          simp [hi, hj] at h1 h2
          exact It.ext' h1 h2
        have hsl : segs.length = segs'.length := by rw [hN.shp.len, hN'.shp.len, hxs]
        have hsg : segs = segs' := by
          refine List.ext_getElem hsl fun i hi hj => ?_
          obtain ⟨u, hu, tu⟩ := hN.kid i segs[i] (List.getElem?_eq_getElem hi)
          obtain ⟨u', hu', tu'⟩ := hN'.kid i segs'[i] (List.getElem?_eq_getElem hj)
          have hci : i < d.cs.length := by rw [hN.ec]; exact hi
          have hci' : i < d'.cs.length := by rw [hN'.ec]; exact hj
          have huu : u = u' := by
            rw [List.getElem?_eq_getElem hci] at hu
            rw [List.getElem?_eq_getElem hci'] at hu'
            have e1 := Option.some.inj hu
            have e2 := Option.some.inj hu'
            have q1 := hN.ok.cl
            have q2 := hN'.ok.cl
            cases hco : d.co with
            | none => have := (q1.nil hco).1; omega
            | some a =>
              have z1 := q1.cell a hco i hci
              have z2 := q2.cell a (by rw [← g1]; exact hco) i hci'
              rw [z1] at z2
              rw [← e1, ← e2]
              exact Option.some.inj z2
          rw [← huu] at tu'
          have hsh := hN.shp.shorter segs[i] (List.getElem_mem hi)
          exact ih u _ _ (by omega) tu tu'
        rw [hN.shp.eq, hN'.shp.eq, hxs, hsg]
end Go.Proofs.YtiabdcejibeciaaDoor

namespace Go.Proofs.YtiabdcejibeciaaDoor
open Go.RowKit

theorem getD_len {l : List (List Int)} {B : Nat} (h : ∀ x ∈ l, x.length ≤ B) (i : Nat) : (l.getD i []).length ≤ B := by
  by_cases hi : i < l.length
  · simp only [List.getD, List.getElem?_eq_getElem hi, Option.getD_some]
    exact h _ (List.getElem_mem hi)
  · simp [List.getD, List.getElem?_eq_none (Nat.le_of_not_lt hi)]
theorem bf_len {x : List Int} {B : Nat} (h : x.length ≤ B) (hB : B < 18446744073709551616) : (bf x).length ≤ B + 10 := by
  have := enc_length (n := x.length) (by omega)
  simp only [bf, List.length_append]
  omega
theorem formTo_len {keys sums kids : List (List Int)} {B : Nat} (hB : B < 18446744073709551616) (h1 : ∀ x ∈ keys, x.length ≤ B) (h2 : ∀ x ∈ sums, x.length ≤ B) (h3 : ∀ x ∈ kids, x.length ≤ B) : ∀ n, (formTo keys sums kids n).length ≤ n * (3 * (B + 10))
  | 0 => by simp [formTo]
  | n + 1 => by
    have ih := formTo_len hB h1 h2 h3 n
    have e1 := bf_len (getD_len h1 n) hB
    have e2 := bf_len (getD_len h2 n) hB
    have e3 := bf_len (getD_len h3 (n + 1)) hB
    rw [formTo_succ, Nat.succ_mul]
    simp only [List.length_append]
    omega
theorem formN_len {keys sums kids : List (List Int)} {B L : Nat} (hB : B < 18446744073709551616) (hL : L < 18446744073709551616) (hk : keys.length < 18446744073709551616) (h1 : ∀ x ∈ keys, x.length ≤ B) (h2 : ∀ x ∈ sums, x.length ≤ B) (h3 : ∀ x ∈ kids, x.length ≤ B) :
    (formN L keys sums kids).length ≤ 60 + B + keys.length * (3 * (B + 10)) := by
  have e1 := formTo_len hB h1 h2 h3 keys.length
  have e2 := bf_len (getD_len h3 0) hB
  have e3 := enc_length (n := L) hL
  have e4 := enc_length (n := keys.length) hk
  have e5 : (bf nodeL).length ≤ 14 := bf_len (B := 4) (by decide) (by decide)
  simp only [formN, formH, List.length_append]
  omega
theorem formTo_byte {keys sums kids : List (List Int)} {B : Nat} (hB : B < 18446744073709551616) (h1 : ∀ x ∈ keys, x.length ≤ B ∧ Byt x) (h2 : ∀ x ∈ sums, x.length ≤ B ∧ Byt x) (h3 : ∀ x ∈ kids, x.length ≤ B ∧ Byt x) : ∀ n, Byt (formTo keys sums kids n)
  | 0 => by intro x hx; simp [formTo] at hx
  | n + 1 => by
    have key : ∀ (l : List (List Int)), (∀ x ∈ l, x.length ≤ B ∧ Byt x) → ∀ i, Byt (bf (l.getD i [])) := fun l hl i => bf_byte (getD_byte (fun x hx => (hl x hx).2) i) (by have := getD_len (fun x hx => (hl x hx).1) i; omega)
    rw [formTo_succ]
    exact (formTo_byte hB h1 h2 h3 n).append ((key _ h1 n).append ((key _ h2 n).append (key _ h3 (n + 1))))
theorem formN_byte {keys sums kids : List (List Int)} {B L : Nat} (hB : B < 18446744073709551616) (hL : L < 18446744073709551616) (hk : keys.length < 18446744073709551616) (h1 : ∀ x ∈ keys, x.length ≤ B ∧ Byt x) (h2 : ∀ x ∈ sums, x.length ≤ B ∧ Byt x) (h3 : ∀ x ∈ kids, x.length ≤ B ∧ Byt x) : Byt (formN L keys sums kids) := by
  have k0 : Byt (bf (kids.getD 0 [])) := bf_byte (getD_byte (fun x hx => (h3 x hx).2) 0) (by have := getD_len (fun x hx => (h3 x hx).1) 0; omega)
  unfold formN formH
  exact Byt.append (Byt.append (Byt.append (Byt.append (bf_byte nodeL_byte (by decide)) (enc_byte hL)) (enc_byte hk)) k0) (formTo_byte hB h1 h2 h3 _)
theorem pxs_byte {w : World} {ao : Option Addr} {n cap B : Nat} {ps : List Part} (h : PL w ao n cap ps) (hb : ∀ q ∈ ps, q.n ≤ B) : ∀ x ∈ pxs ps, x.length ≤ B ∧ Byt x := fun x hx => by
  obtain ⟨q, hq, rfl⟩ := List.mem_map.1 hx
  exact ⟨by rw [(h.sl q hq).len]; exact hb q hq, (h.sl q hq).byte⟩
theorem pxs_le {w : World} {ao : Option Addr} {n cap B : Nat} {ps : List Part} (h : PL w ao n cap ps) (hb : ∀ q ∈ ps, q.n ≤ B) : ∀ x ∈ pxs ps, x.length ≤ B := fun x hx => by
  obtain ⟨q, hq, rfl⟩ := List.mem_map.1 hx
  rw [(h.sl q hq).len]
  exact hb q hq
end Go.Proofs.YtiabdcejibeciaaDoor

namespace Go.Proofs.YtiabdcejibeciaaDoor
open Go.RowKit

/-- append to a row of the call's own: where the row lies behind it. -/
theorem run_append_own2 {P : Program} (w : World) (base : Nat) (t ty e : TypeId) (i : TypeInfo) (z : Value) (size bytes : Nat) (ht : P.underlying t = some (.slice e)) (hi : P.info? e = some i) (hz : i.zero = some z)
    (hsize : i.size = size) (hby : i.bytes = bytes) (hzs : z.cells.size = size) (hsz : 0 < size)
    (v : Value) (n : Nat) (xs : List Value) (hown : w.ownsRow base e size v n xs)
    (a : Addr) (m c : Nat) (news : List Value) (hl : news.length = m * size) (hnews : ∀ j u, news[j]? = some u → w.cell? (a.add j) = some u) (h1 : ∀ u ∈ news, u.oneCell' = true)
    (h63 : n + m ≤ maxLen) (hbytes : (n + m) * bytes ≤ 140737488355328) (hbase : base ≤ w.heap.size) :
    ∃ v' w', (Builtin.append_ #[t, t] ty #[v, .slice (some a) m c]).run P w = .ok v' w' ∧ w'.ownsRow base e size v' (n + m) (xs ++ news) ∧ w.grownBy w' v.ownBlock ∧
      ∀ g, v'.ownBlock = some g → v.ownBlock = some g ∨ w.heap.size ≤ g := by
  obtain ⟨v', w', hr, ho, hg, _⟩ := run_append_own (P := P) w base t ty e i z size bytes ht hi hz hsize hby hzs hsz v n xs hown a m c news hl hnews h1 h63 hbytes hbase
  refine ⟨v', w', hr, ho, hg, ?_⟩
  have hsmall : n + m ≤ 9223372036854775807 := by simp only [maxLen] at h63; omega
  subst hsize
  subst hby
  rcases hown.2 with ⟨rfl, rfl⟩ | ⟨g, cap, cur, rfl, hbg, hgc, hnc, hcm, hcs, htake⟩
  · have hown2 : w.ownsRow w.heap.size e i.size (.slice none 0 0) 0 xs := ⟨hown.1, .inl ⟨rfl, rfl⟩⟩
    obtain ⟨v2, w2, hr2, ho2, _, _⟩ := run_append_own (P := P) w w.heap.size t ty e i z i.size i.bytes ht hi hz rfl rfl hzs hsz _ 0 xs hown2 a m c news hl hnews h1 h63 hbytes (Nat.le_refl _)
    rw [hr] at hr2
    simp only [Result.ok.injEq] at hr2
    obtain ⟨rfl, rfl⟩ := hr2
    intro g hgv
    exact .inr (ho2.lt g hgv).1
  · by_cases hroom : n + m ≤ cap
    · have hfit : n * i.size + news.length ≤ cur.size := by rw [hl, hcs, ← Nat.add_mul]; exact Nat.mul_le_mul_right _ hroom
      have hr2 := run_append_room (P := P) w t ty e i ht hi g n cap cur hgc a m c news hl hnews h1 hroom hfit
      rw [hr] at hr2
      simp only [Result.ok.injEq] at hr2
      obtain ⟨rfl, rfl⟩ := hr2
      intro g' hg'
      exact .inl hg'
    · have holds : ∀ j u, xs[j]? = some u → w.cell? ((⟨g, 0, none⟩ : Addr).add j) = some u := hown.cells (g := g) rfl
      have hr2 := run_append_grow (P := P) w t ty e i z ht hi hz ⟨g, 0, none⟩ n cap xs hown.1 holds a m c news hl hnews (by omega) (by omega) (growslice_fits (by omega) hbytes)
      rw [hr] at hr2
      simp only [Result.ok.injEq] at hr2
      obtain ⟨rfl, rfl⟩ := hr2
      intro g' hg'
      simp only [Value.ownBlock, Option.some.injEq] at hg'
      exact .inr (by omega)
theorem own_kept {w w' : World} {base : Nat} {e : TypeId} {size : Nat} {v : Value} {n : Nat} {xs : List Value} (h : w.ownsRow base e size v n xs) (hb : ∀ g, v.ownBlock = some g → w'.heap[g]? = w.heap[g]?) : w'.ownsRow base e size v n xs := by
  refine ⟨h.1, ?_⟩
  rcases h.2 with c | ⟨g, cap, cur, rfl, a1, a2, a3, a4, a5, a6⟩
  · exact .inl c
  · exact .inr ⟨g, cap, cur, rfl, a1, (hb g rfl).trans a2, a3, a4, a5, a6⟩
end Go.Proofs.YtiabdcejibeciaaDoor

namespace Go.Proofs.YtiabdcejibeciaaDoor
open Go.RowKit

theorem kinfo : (Tryd.prog.info? 26).map (fun i => (i.zero, i.size, i.bytes)) = some (some (.slice none 0 0), 1, 24) := by kernel_rfl
theorem ninfo : (Tryd.prog.info? 46).map (fun i => (i.zero, i.size, i.bytes)) = some (some (.pointer none), 1, 8) := by kernel_rfl
theorem Apd.base {w : World} {b b' : Nat} {e : TypeId} {v : Value} {n : Nat} {vs : List Value} (h : Apd w b e v n vs) (hb : b' ≤ b) : Apd w b' e v n vs := by
  rcases h with h | h
  · exact .inl h
  · exact .inr (own_base h hb)
theorem ksize (w : World) : (sizeOf 26).run Tryd.prog w = .ok 1 w := size1 _ (by kernel_rfl) w
theorem nsize (w : World) : (sizeOf 46).run Tryd.prog w = .ok 1 w := size1 _ (by kernel_rfl) w

end Go.Proofs.YtiabdcejibeciaaDoor

namespace Go.Proofs.YtiabdcejibeciaaDoor
open Go.RowKit

set_option maxRecDepth 100000 in
set_option maxHeartbeats 1000000 in
theorem sumOf_any (w : World) (b o : Nat) (n cap : Nat) (ps : List Part) (hT : Tabs w) (hP : Pts w ⟨b, o, none⟩ ps) (hn : ps.length = n) (hnb : (n : Int) < 4611686018427387904) (hl : (allB ps).length + 72 < 18446744073709551616) :
    Calls Tryd.prog 119 #[.slice (some ⟨b, o, none⟩) n cap] w fun e w' => ∃ v, e = .returned v ∧ w'.ownsRow w.heap.size 5 1 v 32 (bv (sumL (allB ps))) ∧ Below w.heap.size w w' := by
  have h2 := hT.two
  go_enter Tryd.func119, Tryd.ntmps119
  go_wp2_with (go_at_call 83; refine (new_any w).mono ?_; rintro e w1 ⟨rfl, H1, g1⟩; have B1 : Below w.heap.size w w1 := (Below.refl _ w).grown g1 (Nat.le_refl _) (by simp); clear g1)
  go_loopw [9] (fun i wr => ∃ k : Nat, k ≤ n ∧ i = .int .i64 k ∧ Below w.heap.size w wr ∧ HS wr w.heap.size (allB (ps.take k))) (fun i _ => n - (intOf i).toNat)
  case atStart => exact ⟨0, by omega, rfl, B1, H1⟩
  case round =>
    clear H1 B1
    obtain ⟨k, hk, rfl, B2, H2⟩ := hrel
    have T2 := hT.below B2 h2
    have s2 := B2.size
    by_cases hlt : k < n
    · have hki : (k : Int) < (n : Int) := by omega
      have hkl : k < ps.length := by omega
      obtain ⟨c1, S1⟩ := (hP.below B2) k hkl
      rw [add_at] at c1
      have HT : Hid (allB (ps.take (k + 1)) = allB (ps.take k) ++ ps[k].xs) := allB_take ps k hkl
      have hle := allB_le ps (k + 1)
      have hne : ∀ a, ps[k].ao = some a → 0 < ps[k].n → a.block ≠ w.heap.size := by
        intro a ha h0
        have := (hP k hkl).2.lt a ha h0
        omega
      rw [HT.out, List.length_append] at hle
      obtain ⟨q, hq⟩ : ∃ q, q = ps[k] := ⟨_, rfl⟩
      rw [← hq] at c1 S1 hne HT hle
      clear hq
      unfold Part.val at c1
      go_wp2_with (go_at_call 84; refine (add_any wr w.heap.size _ q.ao q.n q.cap q.xs T2 H2 h2 S1 hne (by omega)).mono ?_; rintro e w3 ⟨⟨v, rfl⟩, H3, g3⟩; have B3 : Below w.heap.size w w3 := B2.grown g3 s2 (by intro k hk; cases hk; exact Nat.le_refl _))
      go_roundw
      case rel =>
        refine ⟨k + 1, by omega, by go_num, B3, ?_⟩
        rw [HT.out]
        exact H3
      case measure => simp [intOf]; omega
    · have hge : (n : Int) ≤ (k : Int) := by omega
      have e : ps.take k = ps := List.take_of_length_le (by omega)
      rw [e] at H2
      clear e
      go_wp2_with (go_at_call 85; refine (hsum_any wr w.heap.size _ T2 H2 hl).mono ?_; rintro e w3 ⟨v, rfl, own3, B3⟩)
      go_ret
      refine ⟨_, rfl, own_base own3 s2, B2.trans (B3.mono s2)⟩
/-- Parts laid in a new block. -/
theorem Pts.new (w : World) (ps : List Part) (t : TypeId) (h : ∀ q ∈ ps, Sl w q.ao q.n q.cap q.xs) : Pts (w.alloc (.cells (ps.map Part.val).toArray t)) ⟨w.heap.size, 0, none⟩ ps := by
  intro i hi
  refine ⟨?_, (h _ (List.getElem_mem hi)).below ((Below.refl _ w).alloc (Nat.le_refl _) _)⟩
  rw [add_at, Nat.zero_add, cell_of_row _ _ i _ _ _ (heap_alloc_new w _)]
  simp [hi]

set_option maxRecDepth 100000 in
set_option maxHeartbeats 1000000 in
/-- Sum of whatever bytes. -/
theorem sum_any (w : World) (ao : Option Addr) (n cap : Nat) (xs : List Int) (hT : Tabs w) (hS : Sl w ao n cap xs) :
    Calls Tryd.prog 100 #[.slice ao n cap] w fun e w' => ∃ v, e = .returned v ∧ w'.ownsRow w.heap.size 5 1 v 32 (bv (sumL xs)) ∧ Below w.heap.size w w' := by
  have h2 := hT.two
  have hm := hS.mx
  have hle := hS.le
  have hln := hS.len
  unfold maxLen at hm
  go_enter Tryd.func100, Tryd.ntmps100
  go_wp2_with fail
  have B1 : Below w.heap.size w (w.alloc (.cells #[.slice ao n cap] 26)) := (Below.refl _ w).alloc (Nat.le_refl _) _
  have hq : Pts (w.alloc (.cells #[.slice ao n cap] 26)) ⟨w.heap.size, 0, none⟩ [⟨ao, n, cap, xs⟩] := Pts.new w [⟨ao, n, cap, xs⟩] 26 (by intro q hq; rw [List.mem_singleton.1 hq]; exact hS)
  have ea : allB [⟨ao, n, cap, xs⟩] = xs := by simp [allB]
  refine (sumOf_any _ w.heap.size 0 1 1 [⟨ao, n, cap, xs⟩] (hT.below B1 h2) hq rfl (by decide) (by rw [ea]; omega)).mono ?_
  rintro e w3 ⟨v, rfl, own3, B3⟩
  rw [ea] at own3
  clear ea hq
  go_wp2
  go_ret
  exact ⟨_, rfl, own_base own3 B1.size, B1.trans (B3.mono B1.size)⟩
end Go.Proofs.YtiabdcejibeciaaDoor

namespace Go.Proofs.YtiabdcejibeciaaDoor
open Go.RowKit

def ptrB (b : Nat) : Value := .pointer (some ⟨b, 0, none⟩)
theorem T.ordi {w : World} {b : Nat} {l : List It} (h : T w (ptrB b) l) : Ordi w b := by
  rcases h.is with ⟨-, e⟩ | ⟨d, segs, xs, e, hN⟩
  · simp [ptrB] at e
  · have hb : b = d.b := by simpa [ptrB, Nd.ptr] using e
    rw [hb]
    exact hN.ok.uf
/-- The map at block m knows hashes of nodes of w0; those in P are under way. -/
structure HI (w0 W : World) (m : Nat) (F : List (Nat × Value)) (P : List (Nat × List It)) : Prop where
  g : w0.grownBy W (some m)
  m0 : ∃ F0, PM w0 m F0
  pm : PM W m F
  nd : (F.map Prod.fst).Nodup
  ent : ∀ p ∈ F, (∃ q ∈ P, q.1 = p.1) ∨ ∃ l ao cap, T w0 (ptrB p.1) l ∧ p.2 = .slice ao 32 cap ∧ SlT W ⟨ao, 32, cap, hashI l⟩
  prg : ∀ q ∈ P, T w0 (ptrB q.1) q.2
theorem HI.kc {w0 W : World} {m : Nat} {F : List (Nat × Value)} {P : List (Nat × List It)} (h : HI w0 W m F P) : KC w0 W := by
  obtain ⟨F0, h0⟩ := h.m0
  exact KC.grown h0 h.g
theorem HI.mlt {w0 W : World} {m : Nat} {F : List (Nat × Value)} {P : List (Nat × List It)} (h : HI w0 W m F P) : m < w0.heap.size := by
  obtain ⟨F0, es, ck, h0, -⟩ := h.m0
  exact (Array.getElem?_eq_some_iff.1 h0).1
theorem HI.key {w0 W : World} {m : Nat} {F : List (Nat × Value)} {P : List (Nat × List It)} (h : HI w0 W m F P) : ∀ p ∈ F, Ordi w0 p.1 := fun p hp => by
  rcases h.ent p hp with ⟨q, hq, e⟩ | ⟨l, ao, cap, ht, -⟩
  · rw [← e]
    exact (h.prg q hq).ordi
  · exact ht.ordi
theorem HI.keep {w0 W W' : World} {m B : Nat} {F : List (Nat × Value)} {P : List (Nat × List It)} (h : HI w0 W m F P) (hb : Below B W W') (hB : w0.heap.size ≤ B) (kp : KpB W W') : HI w0 W' m F P := by
  have hm := h.mlt
  have hs := h.g.size
  refine ⟨⟨hb.os.trans h.g.os, hb.tape.trans h.g.tape, hb.output.trans h.g.output, Nat.le_trans hs hb.size, fun i hi hne => (hb.block i (by omega)).trans (h.g.block i hi hne)⟩, h.m0, ?_, h.nd, fun p hp => ?_, h.prg⟩
  · obtain ⟨es, ck, h1, h2, h3, -⟩ := h.pm
    refine ⟨es, ck, (hb.block m (by omega)).trans h1, h2, h3, fun p hp => ?_⟩
    obtain ⟨c, t, e⟩ := (h.key p hp).kc h.kc
    have hl := (h.key p hp).lt
    exact ⟨c, t, (hb.block p.1 (by omega)).trans e⟩
  · rcases h.ent p hp with c | ⟨l, ao, cap, h1, h2, h3⟩
    · exact .inl c
    · exact .inr ⟨l, ao, cap, h1, h2, h3.kp kp⟩
theorem HI.below {w0 W W' : World} {m : Nat} {F : List (Nat × Value)} {P : List (Nat × List It)} (h : HI w0 W m F P) (hb : Below W.heap.size W W') : HI w0 W' m F P := h.keep hb h.g.size (KpB.below hb)
/-- A hash is told. -/
def HashPost (w0 W : World) (m : Nat) (F : List (Nat × Value)) (P : List (Nat × List It)) (l : List It) (e : Ending) (W' : World) : Prop :=
  ∃ ao cap F', e = .returned (.slice ao 32 cap) ∧ SlT W' ⟨ao, 32, cap, hashI l⟩ ∧ HI w0 W' m F' P ∧ (∀ p ∈ F, ∃ q ∈ F', q.1 = p.1) ∧ W.grownBy W' (some m)
def Szs (l : List It) : Prop := l.length ≤ 10000 ∧ ∀ x ∈ l, x.k.length ≤ 1000 ∧ x.v.length ≤ 1000000
def HashOk (n : Nat) : Prop := ∀ (w0 W : World) (m : Nat) (v : Value) (l : List It) (F : List (Nat × Value)) (P : List (Nat × List It)), l.length ≤ n → T w0 v l → HI w0 W m F P → (∀ q ∈ P, l.length < q.2.length) → Tabs w0 → Szs l →
  Calls Tryd.prog 67 #[v, .map (some m)] W (HashPost w0 W m F P l)
/-- One part more. -/
theorem RwI.step {base : Nat} {W W2 : World} {v : Value} {qs : List Part} {q : Part} (h : RwI base W v qs) (hq : SlT W q) (h2 : W2 = W.alloc (.cells #[q.val] 26)) (hn : qs.length ≤ 1000000) (ty : TypeId) (c : Nat) :
    ∃ v' W3, (Builtin.append_ #[51, 51] ty #[v, .slice (some ⟨W.heap.size, 0, none⟩) 1 c]).run Tryd.prog W2 = .ok v' W3 ∧ RwI base W3 v' (qs ++ [q]) ∧ Below base W W3 ∧ KpB W W3 := by
  have hb2 : Below W.heap.size W W2 := by rw [h2]; exact (Below.refl _ _).alloc (Nat.le_refl _) _
  have k2 := h.kc (KC.below hb2)
  have hq2 := hq.kp (KpB.below hb2)
  have hxc : W2.heap[W.heap.size]? = some (.cells #[q.val] 26) := by rw [h2]; exact heap_alloc_new W _
  obtain ⟨i0, hi, hz0, hz1, hz2⟩ := info_parts kinfo
  obtain ⟨v', W3, hrun, own3, g3, -⟩ := run_append_own2 (P := Tryd.prog) W2 base 51 ty 26 i0 _ 1 24 Tryd.underlying51 hi hz0 hz1 hz2 rfl (by decide) v qs.length (qs.map Part.val) k2.own ⟨W.heap.size, 0, none⟩ 1 c [q.val] rfl
    (fun j u hu => by
      rw [Addr.add_lit, Nat.zero_add, cell_of_row W2 W.heap.size j _ _ _ hxc]
      simpa using hu) (fun u hu => by
      rw [List.mem_singleton.1 hu]
      rfl) (by unfold maxLen; omega) (by omega) k2.le
  have kpb : KpB W2 W3 := KpB.row k2.own (by decide) g3
  refine ⟨v', W3, hrun, ⟨?_, ?_, ?_⟩, ?_, (KpB.below hb2).trans kpb⟩
  · rw [List.length_append, List.map_append]
    exact own3
  · intro r hr
    rcases List.mem_append.1 hr with hr | hr
    · exact (k2.sl r hr).kp kpb
    · rw [List.mem_singleton.1 hr]
      exact hq2.kp kpb
  · have := k2.le
    have := g3.size
    omega
  · exact (hb2.mono h.le).trans ((Below.refl base W2).grown g3 k2.le (fun k hk => (k2.own.lt k hk).1))
/-- Behind a map alone, or new memory. -/
theorem grown_keep {a b c : World} {m B : Nat} (h : a.grownBy b (some m)) (k : Below B b c) (hB : a.heap.size ≤ B) : a.grownBy c (some m) :=
  ⟨k.os.trans h.os, k.tape.trans h.tape, k.output.trans h.output, Nat.le_trans h.size k.size, fun i hi hne => (k.block i (by omega)).trans (h.block i hi hne)⟩
theorem sumT (w : World) (ao : Option Addr) (n cap : Nat) (xs : List Int) (hT : Tabs w) (hS : Sl w ao n cap xs) :
    Calls Tryd.prog 100 #[.slice ao n cap] w fun e w' => ∃ so sc, e = .returned (.slice so 32 sc) ∧ SlT w' ⟨so, 32, sc, sumL xs⟩ ∧ Below w.heap.size w w' := by
  refine (sum_any w ao n cap xs hT hS).mono ?_
  rintro e w' ⟨v, rfl, own, B⟩
  obtain ⟨so, sc, rfl, S⟩ := SlT.own own (sumL_byte _)
  exact ⟨so, sc, rfl, S, B⟩
end Go.Proofs.YtiabdcejibeciaaDoor

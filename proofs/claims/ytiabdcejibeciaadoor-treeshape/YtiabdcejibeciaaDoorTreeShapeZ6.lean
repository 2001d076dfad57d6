/-
  Texts in one: TDefs, TNode, CStr, HRegA, HRegC, PCompare, PPlace, TKids, PChg, HRegF, HRegE, HRegG, NMem, PJudge, SMem, PSmall.
-/
import Derived.Test.YtiabdcejibeciaaDoorTreeShapeZ0
import Derived.Test.YtiabdcejibeciaaDoorTreeShapeZ3
import Derived.Test.YtiabdcejibeciaaDoorTreeShapeZ4
import Derived.Test.YtiabdcejibeciaaDoorTreeShapeZ5
import Derived.BigQuiet
import Derived.Deep.RegionHeld3
import Derived.Lib.Bytealg
import Derived.Lib.SliceRun
namespace Go.Proofs.YtiabdcejibeciaaDoor
open Go.RowKit

def lvS : ByteArray := ⟨#[108, 101, 118, 101, 108]⟩
/-- A key's level. -/
def lev (k : List Int) : Nat := ((hexL (sumL (formL (sb lvS) [k]))).takeWhile fun c => c == 48).length
theorem takeWhile_le {α : Type} (p : α → Bool) : ∀ l : List α, (l.takeWhile p).length ≤ l.length
  | [] => by simp
  | a :: l => by
    rw [List.takeWhile_cons]
    split
    · have := takeWhile_le p l
      simp only [List.length_cons]
      omega
    · simp
theorem lev_le (k : List Int) : lev k ≤ 64 := by
  refine Nat.le_trans (takeWhile_le _ _) ?_
  rw [hexL_len, sumL_len]
  decide

/-- A node: its block, its level, its three lists. -/
structure Nd where
  b : Nat
  L : Nat
  ko : Option Addr
  kc : Nat
  vo : Option Addr
  vc : Nat
  co : Option Addr
  cc : Nat
  ks : List Part
  vs : List Part
  cs : List Value
def Nd.ptr (d : Nd) : Value := .pointer (some ⟨d.b, 0, none⟩)
structure Nd.ok (w : World) (d : Nd) : Prop where
  c0 : w.cell? ⟨d.b, 0, none⟩ = some (.int .i64 d.L)
  c1 : w.cell? ⟨d.b, 1, none⟩ = some (.slice d.ko d.ks.length d.kc)
  c2 : w.cell? ⟨d.b, 2, none⟩ = some (.slice d.vo d.vs.length d.vc)
  c3 : w.cell? ⟨d.b, 3, none⟩ = some (.slice d.co d.cs.length d.cc)
  kl : KL w d.ko d.ks.length d.kc d.ks
  vl : KL w d.vo d.vs.length d.vc d.vs
  cl : VL w d.co d.cs.length d.cc d.cs
  uf : ∃ (c : Array Value) (t : TypeId), w.heap[d.b]? = some (.cells c t (0, 0))
theorem Nd.ok.lt {w : World} {d : Nd} (h : d.ok w) : d.b < w.heap.size := World.block_lt_of_cell? w _ h.c0
theorem Nd.ok.below {w w' : World} {d : Nd} (h : d.ok w) (hb : Below w.heap.size w w') : d.ok w' :=
  ⟨(hb.cell (p := ⟨d.b, 0, none⟩) h.lt).trans h.c0, (hb.cell (p := ⟨d.b, 1, none⟩) h.lt).trans h.c1, (hb.cell (p := ⟨d.b, 2, none⟩) h.lt).trans h.c2, (hb.cell (p := ⟨d.b, 3, none⟩) h.lt).trans h.c3, h.kl.below hb, h.vl.below hb, h.cl.below hb, by obtain ⟨c, t, e⟩ := h.uf; exact ⟨c, t, (hb.block d.b h.lt).trans e⟩⟩

/-- The value v is a node, or nil, of the items l; no deeper than n. -/
def TN (w : World) : Nat → Value → List It → Prop
  | 0, v, l => l = [] ∧ v = .pointer none
  | n + 1, v, l => (l = [] ∧ v = .pointer none) ∨ ∃ (d : Nd) (segs : List (List It)) (xs : List It), v = d.ptr ∧ d.ok w ∧ Shp lev l d.L segs xs ∧ d.ks.map Part.xs = xs.map It.k ∧ d.vs.map Part.xs = xs.map It.v ∧ d.cs.length = segs.length ∧
      ∀ (i : Nat) (s : List It), segs[i]? = some s → ∃ u, d.cs[i]? = some u ∧ TN w n u s
/-- The value v is a node, or nil, of the items l. -/
def T (w : World) (v : Value) (l : List It) : Prop := TN w l.length v l
theorem TN.re {w : World} : ∀ (n m : Nat) (v : Value) (l : List It), TN w n v l → l.length ≤ m → TN w m v l
  | 0, 0, _, _, h, _ => h
  | 0, m + 1, _, _, h, _ => .inl h
  | n + 1, 0, v, l, h, hm => by
    rcases h with h | ⟨d, segs, xs, rfl, hok, hs, _⟩
    · exact h
    · have h1 := hs.pos
      have h2 := hs.key xs[0] (List.getElem_mem h1)
      have : l = [] := List.eq_nil_of_length_eq_zero (by omega)
      rw [this] at h2
      simp at h2
  | n + 1, m + 1, v, l, h, hm => by
    rcases h with h | ⟨d, segs, xs, rfl, hok, hs, e1, e2, e3, hk⟩
    · exact .inl h
    · refine .inr ⟨d, segs, xs, rfl, hok, hs, e1, e2, e3, fun i s hi => ?_⟩
      obtain ⟨u, hu, ht⟩ := hk i s hi
      have := hs.shorter s (List.mem_of_getElem? hi)
      exact ⟨u, hu, TN.re n m u s ht (by omega)⟩
/-- A node and what it has. -/
structure Nod (w : World) (l : List It) (d : Nd) (segs : List (List It)) (xs : List It) : Prop where
  ok : d.ok w
  shp : Shp lev l d.L segs xs
  ek : d.ks.map Part.xs = xs.map It.k
  ev : d.vs.map Part.xs = xs.map It.v
  ec : d.cs.length = segs.length
  kid : ∀ (i : Nat) (s : List It), segs[i]? = some s → ∃ u, d.cs[i]? = some u ∧ T w u s
theorem T.nil (w : World) : T w (.pointer none) [] := ⟨rfl, rfl⟩
theorem T.of {w : World} {l : List It} {d : Nd} {segs : List (List It)} {xs : List It} (h : Nod w l d segs xs) : T w d.ptr l := by
  have hp : 0 < l.length := by
    have h0 := h.shp.pos
    have h2 := h.shp.key xs[0] (List.getElem_mem h0)
    cases l with
    | nil => simp at h2
    | cons a l => simp
  unfold T
  obtain ⟨m, hm⟩ : ∃ m, l.length = m + 1 := ⟨l.length - 1, by omega⟩
  rw [hm]
  refine .inr ⟨d, segs, xs, rfl, h.ok, h.shp, h.ek, h.ev, h.ec, fun i s hi => ?_⟩
  obtain ⟨u, hu, ht⟩ := h.kid i s hi
  have := h.shp.shorter s (List.mem_of_getElem? hi)
  exact ⟨u, hu, TN.re _ m u s ht (by omega)⟩
theorem T.is {w : World} {v : Value} {l : List It} (h : T w v l) : (l = [] ∧ v = .pointer none) ∨ ∃ d segs xs, v = d.ptr ∧ Nod w l d segs xs := by
  have h' := TN.re _ (l.length + 1) v l h (by omega)
  rcases h' with h' | ⟨d, segs, xs, rfl, hok, hs, e1, e2, e3, hk⟩
  · exact .inl h'
  · refine .inr ⟨d, segs, xs, rfl, hok, hs, e1, e2, e3, fun i s hi => ?_⟩
    obtain ⟨u, hu, ht⟩ := hk i s hi
    exact ⟨u, hu, TN.re _ s.length u s ht (Nat.le_refl _)⟩
theorem T.none {w : World} {l : List It} (h : T w (.pointer Option.none) l) : l = [] := by
  rcases h.is with h | ⟨d, segs, xs, e, _⟩
  · exact h.1
  · simp [Nd.ptr] at e
theorem T.node {w : World} {v : Value} {l : List It} (h : T w v l) (hl : l ≠ []) : ∃ d segs xs, v = d.ptr ∧ Nod w l d segs xs := by
  rcases h.is with h | h
  · exact absurd h.1 hl
  · exact h
theorem T.one {w : World} {v : Value} {l : List It} (h : T w v l) : v.oneCell' = true := by
  rcases h.is with ⟨_, rfl⟩ | ⟨d, segs, xs, rfl, _⟩ <;> rfl
theorem TN.below {w w' : World} (hb : Below w.heap.size w w') : ∀ (n : Nat) (v : Value) (l : List It), TN w n v l → TN w' n v l
  | 0, _, _, h => h
  | n + 1, v, l, h => by
    rcases h with h | ⟨d, segs, xs, rfl, hok, hs, e1, e2, e3, hk⟩
    · exact .inl h
    · refine .inr ⟨d, segs, xs, rfl, hok.below hb, hs, e1, e2, e3, fun i s hi => ?_⟩
      obtain ⟨u, hu, ht⟩ := hk i s hi
      exact ⟨u, hu, TN.below hb n u s ht⟩
theorem T.below {w w' : World} {v : Value} {l : List It} (h : T w v l) (hb : Below w.heap.size w w') : T w' v l := TN.below hb _ v l h
theorem Nod.below {w w' : World} {l : List It} {d : Nd} {segs : List (List It)} {xs : List It} (h : Nod w l d segs xs) (hb : Below w.heap.size w w') : Nod w' l d segs xs :=
  ⟨h.ok.below hb, h.shp, h.ek, h.ev, h.ec, fun i s hi => by obtain ⟨u, hu, ht⟩ := h.kid i s hi; exact ⟨u, hu, ht.below hb⟩⟩
section
variable {w : World} {l : List It} {d : Nd} {segs : List (List It)} {xs : List It}
theorem Nod.nk (h : Nod w l d segs xs) : d.ks.length = xs.length := by simpa using congrArg List.length h.ek
theorem Nod.nv (h : Nod w l d segs xs) : d.vs.length = xs.length := by simpa using congrArg List.length h.ev
theorem Nod.nc (h : Nod w l d segs xs) : d.cs.length = xs.length + 1 := by rw [h.ec, h.shp.len]
theorem Nod.many (h : Nod w l d segs xs) : xs.length ≤ l.length := by
  have h0 : 0 < segs.length := by have := h.shp.len; omega
  have := weave_len segs xs h.shp.len segs[0] (List.getElem_mem h0)
  rw [h.shp.eq]
  omega
theorem Nod.one (h : Nod w l d segs xs) : ∀ u ∈ d.cs, u.oneCell' = true := fun u hu => by
  obtain ⟨i, hi, rfl⟩ := List.mem_iff_getElem.1 hu
  have hs : i < segs.length := by rw [← h.ec]; exact hi
  obtain ⟨u, hu, ht⟩ := h.kid i segs[i] (List.getElem?_eq_getElem hs)
  rw [List.getElem?_eq_getElem hi] at hu
  rw [Option.some.inj hu]
  exact ht.one
theorem Nod.L_le (h : Nod w l d segs xs) : d.L ≤ 64 := by
  have h0 := h.shp.pos
  rw [← h.shp.top xs[0] (List.getElem_mem h0)]
  exact lev_le _
/-- The kid at a place. -/
theorem Nod.kidAt (h : Nod w l d segs xs) (i : Nat) (hi : i ≤ xs.length) : ∃ b off s u, d.co = some ⟨b, off, none⟩ ∧ segs[i]? = some s ∧ d.cs[i]? = some u ∧ w.cell? ⟨b, off + i, none⟩ = some u ∧ T w u s ∧ s.length < l.length := by
  have hc := h.nc
  have hs : i < segs.length := by have := h.shp.len; omega
  obtain ⟨b, off, e, hcl⟩ := h.ok.cl.at (by omega)
  obtain ⟨u, hu, ht⟩ := h.kid i segs[i] (List.getElem?_eq_getElem hs)
  obtain ⟨hlt, hu'⟩ := List.getElem?_eq_some_iff.1 hu
  exact ⟨b, off, segs[i], u, e, List.getElem?_eq_getElem hs, hu, by rw [hcl i hlt, hu'], ht, h.shp.shorter _ (List.getElem_mem hs)⟩
end
/-- A new node. -/
theorem Nod.make {w : World} {g : Nat} {l : List It} {L : Nat} {ko vo co : Option Addr} {kn kc vn vc cn cc : Nat} {t : TypeId} {ks vs : List Part} {cs : List Value} {segs : List (List It)} {xs : List It}
    (hg : w.heap[g]? = some (.cells #[.int .i64 L, .slice ko kn kc, .slice vo vn vc, .slice co cn cc] t))
    (hk : KL w ko kn kc ks) (hv : KL w vo vn vc vs) (hc : VL w co cn cc cs) (hs : Shp lev l L segs xs) (ek : ks.map Part.xs = xs.map It.k) (ev : vs.map Part.xs = xs.map It.v) (ec : cs.length = segs.length)
    (kid : ∀ (i : Nat) (s : List It), segs[i]? = some s → ∃ u, cs[i]? = some u ∧ T w u s) : T w (.pointer (some ⟨g, 0, Option.none⟩)) l := by
  have e1 := hk.len
  have e2 := hv.len
  have e3 := hc.len
  subst e1 e2 e3
  exact T.of (d := ⟨g, L, ko, kc, vo, vc, co, cc, ks, vs, cs⟩) ⟨⟨cell_of_row w g 0 _ _ _ hg, cell_of_row w g 1 _ _ _ hg, cell_of_row w g 2 _ _ _ hg, cell_of_row w g 3 _ _ _ hg, hk, hv, hc, _, _, hg⟩, hs, ek, ev, ec, kid⟩
end Go.Proofs.YtiabdcejibeciaaDoor

namespace Go.Proofs.YtiabdcejibeciaaDoor

theorem weave_mid (P Q : List (List It)) (s : List It) (ys zs : List It) (h : P.length = ys.length) (h2 : Q.length = zs.length) : weave (P ++ s :: Q) (ys ++ zs) = wvA P ys ++ (s ++ weave ([] :: Q) zs) := by
  rw [weave_app _ _ _ _ h]
  congr 1
  cases zs with
  | nil =>
    obtain rfl : Q = [] := List.eq_nil_of_length_eq_zero h2
    simp [weave]
  | cons z zs => simp [weave]
theorem Shp.of {lv : List Int → Nat} {l : List It} {L : Nat} {P Q : List (List It)} {s ys zs : List It} (h : P.length = ys.length) (h2 : Q.length = zs.length) (hp : 0 < ys.length + zs.length) (e : l = wvA P ys ++ (s ++ weave ([] :: Q) zs))
    (ty : ∀ x ∈ ys, lv x.k = L) (tz : ∀ x ∈ zs, lv x.k = L) (lP : ∀ t ∈ P, ∀ x ∈ t, lv x.k < L) (lQ : ∀ t ∈ Q, ∀ x ∈ t, lv x.k < L) (ls : ∀ x ∈ s, lv x.k < L) : Shp lv l L (P ++ s :: Q) (ys ++ zs) := by
  refine ⟨by simp; omega, by simp; omega, by rw [e, weave_mid P Q s ys zs h h2], fun x hx => ?_, fun t ht => ?_⟩
  · rcases List.mem_append.1 hx with hx | hx
    · exact ty x hx
    · exact tz x hx
  · rcases List.mem_append.1 ht with ht | ht
    · exact lP t ht
    · rcases List.mem_cons.1 ht with rfl | ht
      · exact ls
      · exact lQ t ht
/-- Parted at a place: the front, the segment there, the rest. -/
structure Cut (lv : List Int → Nat) (l : List It) (L : Nat) (segs : List (List It)) (xs : List It) (i : Nat) (s A B : List It) : Prop where
  seg : segs[i]? = some s
  le : i ≤ xs.length
  es : segs = segs.take i ++ s :: segs.drop (i + 1)
  eA : A = wvA (segs.take i) (xs.take i)
  eB : B = weave ([] :: segs.drop (i + 1)) (xs.drop i)
  el : l = A ++ (s ++ B)
  l1 : (segs.take i).length = (xs.take i).length
  l2 : (segs.drop (i + 1)).length = (xs.drop i).length
  ty : ∀ x ∈ xs.take i, lv x.k = L
  tz : ∀ x ∈ xs.drop i, lv x.k = L
  lP : ∀ t ∈ segs.take i, ∀ x ∈ t, lv x.k < L
  lQ : ∀ t ∈ segs.drop (i + 1), ∀ x ∈ t, lv x.k < L
  ls : ∀ x ∈ s, lv x.k < L
theorem Shp.cut {lv : List Int → Nat} {l : List It} {L : Nat} {segs : List (List It)} {xs : List It} (h : Shp lv l L segs xs) (i : Nat) (hi : i ≤ xs.length) : ∃ s A B, Cut lv l L segs xs i s A B := by
  obtain ⟨s, h1, h2, h3⟩ := h.at i hi
  have hl := h.len
  exact ⟨s, _, _, h1, hi, h2, rfl, rfl, h3, by simp; omega, by simp; omega, fun x hx => h.top x (List.mem_of_mem_take hx), fun x hx => h.top x (List.mem_of_mem_drop hx), fun t ht => h.low t (List.mem_of_mem_take ht), fun t ht => h.low t (List.mem_of_mem_drop ht), h.low s (List.mem_of_getElem? h1)⟩
section
variable {lv : List Int → Nat} {l : List It} {L : Nat} {segs : List (List It)} {xs : List It} {i : Nat} {s A B : List It}
/-- Another segment in its place. -/
theorem Cut.set (c : Cut lv l L segs xs i s A B) (hp : 0 < xs.length) {s' : List It} (ls : ∀ x ∈ s', lv x.k < L) : Shp lv (A ++ (s' ++ B)) L (segs.take i ++ s' :: segs.drop (i + 1)) xs := by
  have := Shp.of (l := A ++ (s' ++ B)) (s := s') c.l1 c.l2 (by simp; have := c.le; omega) (by rw [c.eA, c.eB]) c.ty c.tz c.lP c.lQ ls
  rwa [List.take_append_drop] at this
/-- The front alone. -/
theorem Cut.front (c : Cut lv l L segs xs i s A B) (hi : 0 < i) {s' : List It} (ls : ∀ x ∈ s', lv x.k < L) : Shp lv (A ++ s') L (segs.take i ++ [s']) (xs.take i) := by
  have := Shp.of (l := A ++ s') (Q := []) (zs := []) (s := s') c.l1 rfl (by simp; have := c.le; omega) (by simp [weave, c.eA]) c.ty (by simp) c.lP (by simp) ls
  simpa using this
/-- The rest alone. -/
theorem Cut.back (c : Cut lv l L segs xs i s A B) (hi : i < xs.length) {s' : List It} (ls : ∀ x ∈ s', lv x.k < L) : Shp lv (s' ++ B) L (s' :: segs.drop (i + 1)) (xs.drop i) := by
  have := Shp.of (l := s' ++ B) (P := []) (ys := []) (s := s') rfl c.l2 (by simp; omega) (by simp [wvA, c.eB]) (by simp) c.tz (by simp) c.lQ ls
  simpa using this
/-- One item more. -/
theorem Cut.more (c : Cut lv l L segs xs i s A B) {x : It} (hx : lv x.k = L) {s1 s2 : List It} (h1 : ∀ x ∈ s1, lv x.k < L) (h2 : ∀ x ∈ s2, lv x.k < L) :
    Shp lv (A ++ (s1 ++ x :: (s2 ++ B))) L (segs.take i ++ s1 :: s2 :: segs.drop (i + 1)) (xs.take i ++ x :: xs.drop i) := by
  refine Shp.of (l := A ++ (s1 ++ x :: (s2 ++ B))) (Q := s2 :: segs.drop (i + 1)) (zs := x :: xs.drop i) (s := s1) c.l1 (by have := c.l2; simp only [List.length_cons]; omega) (by simp only [List.length_cons]; omega) ?_ c.ty ?_ c.lP ?_ h1
  · have e : weave (s2 :: segs.drop (i + 1)) (xs.drop i) = s2 ++ B := by
      have := weave_mid [] (segs.drop (i + 1)) s2 [] (xs.drop i) rfl c.l2
      simp only [List.nil_append, wvA] at this
      rw [this, c.eB]
    rw [c.eA]
    simp only [weave, List.nil_append, e]
  · intro y hy
    rcases List.mem_cons.1 hy with rfl | hy
    · exact hx
    · exact c.tz y hy
  · intro t ht
    rcases List.mem_cons.1 ht with rfl | ht
    · exact h2
    · exact c.lQ t ht
/-- Where the place has an item: the rest begins with it. -/
theorem Cut.next (c : Cut lv l L segs xs i s A B) (hi : i < xs.length) : ∃ t Q, segs.drop (i + 1) = t :: Q ∧ Q = segs.drop (i + 2) ∧ Q.length = (xs.drop (i + 1)).length ∧ (∀ x ∈ t, lv x.k < L) ∧ B = xs[i] :: (t ++ weave ([] :: Q) (xs.drop (i + 1))) := by
  have hl := c.l2
  have e : xs.drop i = xs[i] :: xs.drop (i + 1) := List.drop_eq_getElem_cons hi
  cases hd : segs.drop (i + 1) with
  | nil =>
    rw [hd] at hl
    simp at hl
    omega
  | cons t Q =>
    have hQ : Q = segs.drop (i + 2) := by
      have := congrArg (List.drop 1) hd
      rw [List.drop_drop] at this
      simpa using this.symm
    have hl2 : Q.length = (xs.drop (i + 1)).length := by rw [hd] at hl; simp at hl ⊢; omega
    refine ⟨t, Q, rfl, hQ, hl2, c.lQ t (by rw [hd]; exact List.mem_cons_self ..), ?_⟩
    have h3 := weave_mid [] Q t [] (xs.drop (i + 1)) rfl hl2
    simp only [List.nil_append, wvA] at h3
    rw [c.eB, hd, e]
    simp only [weave, List.nil_append, h3]
/-- Another item in its place. -/
theorem Cut.swap (c : Cut lv l L segs xs i s A B) (hi : i < xs.length) {x : It} (hx : lv x.k = L) : ∃ B', B = xs[i] :: B' ∧ Shp lv (A ++ (s ++ x :: B')) L segs (xs.take i ++ x :: xs.drop (i + 1)) := by
  obtain ⟨t, Q, hd, -, hl, ht, hB⟩ := c.next hi
  refine ⟨_, hB, ?_⟩
  have hQ : ∀ u ∈ Q, ∀ x ∈ u, lv x.k < L := fun u hu => c.lQ u (by rw [hd]; exact List.mem_cons_of_mem _ hu)
  have e : segs = segs.take i ++ s :: (t :: Q) := by rw [← hd]; exact c.es
  have := Shp.of (l := A ++ (s ++ x :: (t ++ weave ([] :: Q) (xs.drop (i + 1))))) (P := segs.take i) (ys := xs.take i) (Q := t :: Q) (zs := x :: xs.drop (i + 1)) (s := s) (L := L) (lv := lv) c.l1 (by simp only [List.length_cons]; omega) (by simp only [List.length_cons]; omega)
    (by
      rw [c.eA]
      have h3 := weave_mid [] Q t [] (xs.drop (i + 1)) rfl hl
      simp only [List.nil_append, wvA] at h3
      simp only [weave, List.nil_append, h3]) c.ty
    (by
      intro y hy
      rcases List.mem_cons.1 hy with rfl | hy
      · exact hx
      · exact c.tz y (by rw [List.drop_eq_getElem_cons hi]; exact List.mem_cons_of_mem _ hy)) c.lP
    (by
      intro u hu
      rcases List.mem_cons.1 hu with rfl | hu
      · exact ht
      · exact hQ u hu) c.ls
  rw [← e] at this
  exact this
/-- Without the item in its place. -/
theorem Cut.less (c : Cut lv l L segs xs i s A B) (hi : i < xs.length) : ∃ t B', segs[i + 1]? = some t ∧ (∀ x ∈ t, lv x.k < L) ∧ B = xs[i] :: (t ++ B') ∧ (xs.length = 1 → A = [] ∧ B' = []) ∧
    (1 < xs.length → ∀ u : List It, u = s ++ t → Shp lv (A ++ (u ++ B')) L (segs.take i ++ u :: segs.drop (i + 2)) (xs.take i ++ xs.drop (i + 1))) := by
  obtain ⟨t, Q, hd, hQe, hl, ht, hB⟩ := c.next hi
  have hQ : ∀ u ∈ Q, ∀ x ∈ u, lv x.k < L := fun u hu => c.lQ u (by rw [hd]; exact List.mem_cons_of_mem _ hu)
  refine ⟨t, _, ?_, ht, hB, fun h1 => ?_, fun h1 u hu => ?_⟩
  · have := congrArg (·[0]?) hd
    simpa using this
  · obtain rfl : i = 0 := by omega
    refine ⟨by rw [c.eA]; simp [wvA], ?_⟩
    have : xs.drop (0 + 1) = [] := List.drop_eq_nil_of_le (by omega)
    rw [this]
    simp [weave]
  · rw [← hQe]
    refine Shp.of c.l1 hl (by simp; omega) (by rw [c.eA]) c.ty (fun y hy => c.tz y (by rw [List.drop_eq_getElem_cons hi]; exact List.mem_cons_of_mem _ hy)) c.lP hQ ?_
    intro y hy
    rw [hu] at hy
    rcases List.mem_append.1 hy with hy | hy
    · exact c.ls y hy
    · exact ht y hy
/-- Parted where a key stands. -/
theorem Cut.key (c : Cut lv l L segs xs i s A B) (hs : Srt l) {key : List Int} (hlo : ∀ j (h : j < xs.length), j < i → cmpL xs[j].k key < 0) (hhi : ∀ j (h : j < xs.length), i ≤ j → ¬ cmpL xs[j].k key < 0) :
    (∀ x ∈ A, cmpL x.k key < 0) ∧ (∀ x ∈ B, ¬ cmpL x.k key < 0) ∧ ((∀ h : i < xs.length, xs[i].k ≠ key) → ∀ x ∈ B, cmpL key x.k < 0) := by
  have hle := c.le
  have hl1 := c.l1
  rw [c.el] at hs
  obtain ⟨hA, hsB, hAB⟩ := hs.app
  obtain ⟨hs', hB, -⟩ := hsB.app
  refine ⟨?_, ?_⟩
  · rcases Nat.eq_zero_or_pos i with rfl | hp
    · rw [c.eA]
      simp [wvA]
    · obtain ⟨j, rfl⟩ : ∃ j, i = j + 1 := ⟨i - 1, by omega⟩
      have hj : j < xs.length := by omega
      have hjs : j < segs.length := by simp at hl1; omega
      have e : A = wvA (segs.take j) (xs.take j) ++ (segs[j] ++ [xs[j]]) := by
        rw [c.eA, List.take_add_one, List.take_add_one, List.getElem?_eq_getElem hj, List.getElem?_eq_getElem hjs, wvA_app _ _ _ _ (by simp; omega)]
        simp [wvA]
      intro x hx
      have hk := hlo j hj (by omega)
      rw [e, ← List.append_assoc] at hA
      obtain ⟨-, -, h3⟩ := hA.app
      rw [e, ← List.append_assoc] at hx
      rcases List.mem_append.1 hx with hx | hx
      · exact cmpL_lt_trans _ _ _ (h3 x hx _ (List.mem_singleton.2 rfl)) hk
      · rw [List.mem_singleton.1 hx]
        exact hk
  · rcases Nat.lt_or_ge i xs.length with hi | hi
    · obtain ⟨t, Q, hd, -, hl, ht, e⟩ := c.next hi
      have hk := hhi i hi (Nat.le_refl _)
      rw [e] at hB ⊢
      obtain ⟨h3, -⟩ := hB.cons
      constructor
      · intro x hx
        rcases List.mem_cons.1 hx with rfl | hx
        · exact hk
        · intro h4
          exact hk (cmpL_lt_trans _ _ _ (h3 x hx) h4)
      · intro hne x hx
        have h5 : cmpL key xs[i].k < 0 := by
          rcases cmpL_total xs[i].k key with h | h | h
          · exact absurd h hk
          · exact absurd h (hne hi)
          · exact h
        rcases List.mem_cons.1 hx with rfl | hx
        · exact h5
        · exact cmpL_lt_trans _ _ _ h5 (h3 x hx)
    · have : xs.drop i = [] := List.drop_eq_nil_of_le hi
      have e : B = [] := by rw [c.eB, this]; rfl
      rw [e]
      simp
end
/-- What stands below and above a key that parts the items. -/
theorem lo_mid {A s B : List It} {key : List Int} (hA : ∀ x ∈ A, cmpL x.k key < 0) (hB : ∀ x ∈ B, ¬ cmpL x.k key < 0) : lo key (A ++ (s ++ B)) = A ++ lo key s := by
  rw [lo_append, lo_append, lo_all hA, lo_none hB, List.append_nil]
theorem hi_mid {A s B : List It} {key : List Int} (hA : ∀ x ∈ A, cmpL x.k key < 0) (hB : ∀ x ∈ B, cmpL key x.k < 0) : hi key (A ++ (s ++ B)) = hi key s ++ B := by
  rw [hi_append, hi_append, hi_all hB, hi_none (fun x hx => cmpL_asym (hA x hx)), List.nil_append]
theorem ins_mid {A s B : List It} {x : It} (hA : ∀ y ∈ A, cmpL y.k x.k < 0) (hB : ∀ y ∈ B, cmpL x.k y.k < 0) : ins (A ++ (s ++ B)) x = A ++ (ins s x ++ B) := by
  unfold ins
  rw [lo_mid hA (fun y hy => cmpL_asym (hB y hy)), hi_mid hA hB]
  simp
theorem del_mid {A s B : List It} {key : List Int} (hA : ∀ y ∈ A, cmpL y.k key < 0) (hB : ∀ y ∈ B, cmpL key y.k < 0) : del (A ++ (s ++ B)) key = A ++ (del s key ++ B) := by
  unfold del
  rw [lo_mid hA (fun y hy => cmpL_asym (hB y hy)), hi_mid hA hB]
  simp
theorem ins_at {l A B : List It} {x y : It} (h : Srt l) (e : l = A ++ y :: B) (hk : y.k = x.k) : ins l x = A ++ x :: B := by
  obtain ⟨h1, h2⟩ := h.split e
  unfold ins
  rw [← hk, h1, h2]
theorem del_at {l A B : List It} {y : It} {key : List Int} (h : Srt l) (e : l = A ++ y :: B) (hk : y.k = key) : del l key = A ++ B := by
  obtain ⟨h1, h2⟩ := h.split e
  unfold del
  rw [← hk, h1, h2]
theorem ins_lev {lv : List Int → Nat} {l : List It} {x : It} {L : Nat} (h : ∀ y ∈ l, lv y.k < L) (hx : lv x.k < L) : ∀ y ∈ ins l x, lv y.k < L := by
  intro y hy
  rcases List.mem_append.1 hy with hy | hy
  · exact h y (mem_lo.1 hy).1
  · rcases List.mem_cons.1 hy with rfl | hy
    · exact hx
    · exact h y (mem_hi.1 hy).1
theorem del_lev {lv : List Int → Nat} {l : List It} {k : List Int} {L : Nat} (h : ∀ y ∈ l, lv y.k < L) : ∀ y ∈ del l k, lv y.k < L := by
  intro y hy
  rcases List.mem_append.1 hy with hy | hy
  · exact h y (mem_lo.1 hy).1
  · exact h y (mem_hi.1 hy).1
theorem Shp.single {lv : List Int → Nat} {s1 s2 : List It} {x : It} {L : Nat} (hx : lv x.k = L) (h1 : ∀ y ∈ s1, lv y.k < L) (h2 : ∀ y ∈ s2, lv y.k < L) : Shp lv (s1 ++ x :: s2) L [s1, s2] [x] := by
  refine ⟨rfl, by simp, by simp [weave], fun y hy => by rw [List.mem_singleton.1 hy]; exact hx, fun t ht => ?_⟩
  rcases List.mem_cons.1 ht with rfl | ht
  · exact h1
  · rw [List.mem_singleton.1 ht]
    exact h2
/-- Two nodes of one level, one behind the other. -/
theorem Shp.join {lv : List Int → Nat} {l1 l2 : List It} {L : Nat} {segs1 segs2 : List (List It)} {xs1 xs2 : List It} (h1 : Shp lv l1 L segs1 xs1) (h2 : Shp lv l2 L segs2 xs2) :
    ∃ s t, segs1[xs1.length]? = some s ∧ segs2[0]? = some t ∧ ∀ u, u = s ++ t → Shp lv (l1 ++ l2) L (segs1.take xs1.length ++ u :: segs2.drop 1) (xs1 ++ xs2) := by
  obtain ⟨s, A, B, c1⟩ := h1.cut xs1.length (Nat.le_refl _)
  obtain ⟨t, A2, B2, c2⟩ := h2.cut 0 (Nat.zero_le _)
  have e1 : B = [] := by rw [c1.eB, List.drop_length]; rfl
  have e2 : A2 = [] := by rw [c2.eA]; rfl
  refine ⟨s, t, c1.seg, c2.seg, fun u hu => ?_⟩
  have hp := h1.pos
  refine Shp.of (by have := c1.l1; rw [List.take_length] at this; exact this) (by have := c2.l2; simpa using this) (by omega) ?_ h1.top h2.top c1.lP c2.lQ ?_
  · rw [c1.el, c2.el, e1, e2, hu, c1.eA, List.take_length, c2.eB]
    simp
  · intro y hy
    rw [hu] at hy
    rcases List.mem_append.1 hy with hy | hy
    · exact c1.ls y hy
    · exact c2.ls y hy
theorem Shp.rise {lv : List Int → Nat} {l : List It} {L : Nat} {segs : List (List It)} {xs : List It} (h : Shp lv l L segs xs) (hs : Srt l) : Srt xs := by
  rw [h.unique.2.2]
  exact List.Pairwise.filter _ hs
end Go.Proofs.YtiabdcejibeciaaDoor

namespace Go.Proofs.YtiabdcejibeciaaDoor
open Go.RowKit

theorem sb_at (s : ByteArray) (k : Nat) (h : k < s.size) : (sb s).drop k = (s[k].toNat : Int) :: (sb s).drop (k + 1) := by
  have hl : k < (sb s).length := by rw [sb_len]; exact h
  rw [List.drop_eq_getElem_cons hl]
  simp [sb, ByteArray.getElem_eq_getElem_data]
theorem cmpL_cons (a b : Int) (s t : List Int) : cmpL (a :: s) (b :: t) = if a = b then cmpL s t else if a < b then -1 else 1 := by rw [cmpL]
theorem sb_end (s : ByteArray) (k : Nat) (h : s.size ≤ k) : (sb s).drop k = [] := List.drop_eq_nil_of_le (by rw [sb_len]; exact h)

theorem belN {n : Nat} {a w : World} (h : Below n a w) (q : Nat) : Below n a (w.drewN q) := by
  have e0 : (w.drewN q).heap = w.heap := by simp
  exact ⟨by rw [← h.os]; rfl, by rw [← h.tape]; rfl, by rw [← h.output]; rfl, by rw [e0]; exact h.size, fun k hk => by rw [e0]; exact h.block k hk⟩
end Go.Proofs.YtiabdcejibeciaaDoor

namespace Go
section
variable {P : Program} {ops : Array Oper} {S : World → Prop} {Q : Exit → Act → World → Prop} {fuel : Nat} {listed : Array Bool} {a : Act} {w : World}
/-- Take number i first. -/
theorem hr_take (i : Nat) (d : Option Tmp) (v : Value) {oi : Oper} (hi : ops[i]? = some oi) (hd : oi.dst = d) (hs : Region.noSelect ops = true) (hf : Region.free .any ops listed i = true) (hr : (Region.ready .any ops listed).contains i = true)
    (hg : oi.guard = none) (hrun : ∀ W, S W → (execOp a.eval oi).run P W = .ok (.value v) W) (hS : S w) (h : wpAnyH P .any ops (NoPanic Q) S fuel (listed.setIfInBounds i true) (a.put d v) w) : wpAnyH P .any ops (NoPanic Q) S (fuel + 1) listed a w :=
  wpAnyH_take hi hs hf hr (fun _ _ _ h => h) (.inl ⟨by simp [Region.wanted, hg], hrun⟩) hS (by rw [hd]; exact h)
theorem hr_take_w (i : Nat) (d : Option Tmp) (v : Value) {oi : Oper} (hi : ops[i]? = some oi) (hd : oi.dst = d) (hs : Region.noSelect ops = true) (hf : Region.free .any ops listed i = true) (hr : (Region.ready .any ops listed).contains i = true)
    (hw : Region.wanted oi (yielded ops a.tmps) = true) (hrun : ∀ W, S W → (execOp a.eval oi).run P W = .ok (.value v) W) (hS : S w) (h : wpAnyH P .any ops (NoPanic Q) S fuel (listed.setIfInBounds i true) (a.put d v) w) : wpAnyH P .any ops (NoPanic Q) S (fuel + 1) listed a w :=
  wpAnyH_take hi hs hf hr (fun _ _ _ h => h) (.inl ⟨hw, hrun⟩) hS (by rw [hd]; exact h)
/-- Number i's guard says no. -/
theorem hr_none (i : Nat) (d : Option Tmp) {oi : Oper} (hi : ops[i]? = some oi) (hd : oi.dst = d) (hs : Region.noSelect ops = true) (hf : Region.free .any ops listed i = true) (hr : (Region.ready .any ops listed).contains i = true)
    (hw : Region.wanted oi (yielded ops a.tmps) = false) (hS : S w) (h : wpAnyH P .any ops (NoPanic Q) S fuel (listed.setIfInBounds i true) (a.put d undef) w) : wpAnyH P .any ops (NoPanic Q) S (fuel + 1) listed a w :=
  wpAnyH_take hi hs hf hr (fun _ _ _ h => h) (.inr ⟨hw, rfl⟩) hS (by rw [hd]; exact h)
/-- Carry number i out: no other may come up. -/
theorem hr_do (i : Nat) (d : Option Tmp) (v : Value) {oi : Oper} {w' : World} (hi : ops[i]? = some oi) (hd : oi.dst = d) (hr : Region.ready .any ops listed = [i]) (hg : oi.guard = none) (hrun : (execOp a.eval oi).run P w = .ok (.value v) w') (hS : S w')
    (h : wpAnyH P .any ops (NoPanic Q) S fuel (listed.setIfInBounds i true) (a.put d v) w') : wpAnyH P .any ops (NoPanic Q) S (fuel + 1) listed a w := by
  refine wpAnyH_all hr (by simp) fun j hj => ?_
  obtain rfl := List.mem_singleton.1 hj
  have hw : Region.wanted oi (yielded ops a.tmps) = true := by simp [Region.wanted, hg]
  unfold wpOp
  simp only [hi, hw, if_true, Oper.wp, hrun, Oper.upon, hd]
  exact .inl ⟨hS, h⟩
theorem hr_skip (i : Nat) (d : Option Tmp) {oi : Oper} {w' : World} (hi : ops[i]? = some oi) (hd : oi.dst = d) (hr : Region.ready .any ops listed = [i]) (hg : oi.guard = none) (hrun : (execOp a.eval oi).run P w = .ok .skip w') (hS : S w')
    (h : wpAnyH P .any ops (NoPanic Q) S fuel (listed.setIfInBounds i true) (a.put d undef) w') : wpAnyH P .any ops (NoPanic Q) S (fuel + 1) listed a w := by
  refine wpAnyH_all hr (by simp) fun j hj => ?_
  obtain rfl := List.mem_singleton.1 hj
  have hw : Region.wanted oi (yielded ops a.tmps) = true := by simp [Region.wanted, hg]
  unfold wpOp
  simp only [hi, hw, if_true, Oper.wp, hrun, Oper.upon, hd]
  exact .inl ⟨hS, h⟩
theorem hr_skip_ex (i : Nat) (d : Option Tmp) {oi : Oper} {R : World → Prop} (hi : ops[i]? = some oi) (hd : oi.dst = d) (hr : Region.ready .any ops listed = [i]) (hg : oi.guard = none) (hrun : ∃ w', (execOp a.eval oi).run P w = .ok .skip w' ∧ R w')
    (h : ∀ w', R w' → S w' ∧ wpAnyH P .any ops (NoPanic Q) S fuel (listed.setIfInBounds i true) (a.put d undef) w') : wpAnyH P .any ops (NoPanic Q) S (fuel + 1) listed a w := by
  obtain ⟨w', h1, h2⟩ := hrun
  exact hr_skip i d hi hd hr hg h1 (h w' h2).1 (h w' h2).2
/-- .. a call. -/
theorem hr_call (i : Nat) (d : Option Tmp) {oi : Oper} (f : FuncId) (args : Array Value) (hi : ops[i]? = some oi) (hd : oi.dst = d) (hr : Region.ready .any ops listed = [i]) (hg : oi.guard = none) (hrun : (execOp a.eval oi).run P w = .ok (.enter f args) w)
    (R : Value → World → Prop) (hc : Calls P f args w fun e w' => ∃ v, e = .returned v ∧ R v w')
    (h : ∀ v w', R v w' → S w' ∧ wpAnyH P .any ops (NoPanic Q) S fuel (listed.setIfInBounds i true) (a.put d v) w') : wpAnyH P .any ops (NoPanic Q) S (fuel + 1) listed a w := by
  refine wpAnyH_all hr (by simp) fun j hj => ?_
  obtain rfl := List.mem_singleton.1 hj
  have hw : Region.wanted oi (yielded ops a.tmps) = true := by simp [Region.wanted, hg]
  unfold wpOp
  simp only [hi, hw, if_true, Oper.wp, hrun, Oper.upon, hd]
  refine .inl (hc.mono ?_)
  rintro e w' ⟨v, rfl, hR⟩
  exact h v w' hR
theorem hr_call_w (i : Nat) (d : Option Tmp) {oi : Oper} (f : FuncId) (args : Array Value) (hi : ops[i]? = some oi) (hd : oi.dst = d) (hr : Region.ready .any ops listed = [i]) (hw : Region.wanted oi (yielded ops a.tmps) = true) (hrun : (execOp a.eval oi).run P w = .ok (.enter f args) w)
    (R : Value → World → Prop) (hc : Calls P f args w fun e w' => ∃ v, e = .returned v ∧ R v w')
    (h : ∀ v w', R v w' → S w' ∧ wpAnyH P .any ops (NoPanic Q) S fuel (listed.setIfInBounds i true) (a.put d v) w') : wpAnyH P .any ops (NoPanic Q) S (fuel + 1) listed a w := by
  refine wpAnyH_all hr (by simp) fun j hj => ?_
  obtain rfl := List.mem_singleton.1 hj
  unfold wpOp
  simp only [hi, hw, if_true, Oper.wp, hrun, Oper.upon, hd]
  refine .inl (hc.mono ?_)
  rintro e w' ⟨v, rfl, hR⟩
  exact h v w' hR
end
end Go

namespace Go
section
variable {P : Program} {ops : Array Oper} {S : World → Prop} {Q : Exit → Act → World → Prop} {fuel : Nat} {listed : Array Bool} {a : Act} {w : World}
/-- Carry number i out, whatever it yields. -/
theorem hr_ex (i : Nat) (d : Option Tmp) {oi : Oper} {R : Value → World → Prop} (hi : ops[i]? = some oi) (hd : oi.dst = d) (hr : Region.ready .any ops listed = [i]) (hw : Region.wanted oi (yielded ops a.tmps) = true)
    (hrun : ∃ v w', (execOp a.eval oi).run P w = .ok (.value v) w' ∧ R v w')
    (h : ∀ v w', R v w' → S w' ∧ wpAnyH P .any ops (NoPanic Q) S fuel (listed.setIfInBounds i true) (a.put d v) w') : wpAnyH P .any ops (NoPanic Q) S (fuel + 1) listed a w := by
  refine wpAnyH_all hr (by simp) fun j hj => ?_
  obtain rfl := List.mem_singleton.1 hj
  obtain ⟨v, w', hrun, hR⟩ := hrun
  unfold wpOp
  simp only [hi, hw, if_true, Oper.wp, hrun, Oper.upon, hd]
  exact .inl (h v w' hR)
/-- The same where several may come up. -/
theorem op_ex (i : Nat) (d : Option Tmp) {oi : Oper} {R : Value → World → Prop} (hi : ops[i]? = some oi) (hd : oi.dst = d) (hw : Region.wanted oi (yielded ops a.tmps) = true)
    (hrun : ∃ v w', (execOp a.eval oi).run P w = .ok (.value v) w' ∧ R v w')
    (h : ∀ v w', R v w' → S w' ∧ wpAnyH P .any ops (NoPanic Q) S fuel (listed.setIfInBounds i true) (a.put d v) w') : wpOp P ops (NoPanic Q) i (fun a' w' => S w' ∧ wpAnyH P .any ops (NoPanic Q) S fuel (listed.setIfInBounds i true) a' w') a w := by
  obtain ⟨v, w', hrun, hR⟩ := hrun
  unfold wpOp
  simp only [hi, hw, if_true, Oper.wp, hrun, Oper.upon, hd]
  exact .inl (h v w' hR)
theorem op_calls (i : Nat) (d : Option Tmp) {oi : Oper} (f : FuncId) (args : Array Value) (hi : ops[i]? = some oi) (hd : oi.dst = d) (hw : Region.wanted oi (yielded ops a.tmps) = true) (hrun : (execOp a.eval oi).run P w = .ok (.enter f args) w)
    (R : Value → World → Prop) (hc : Calls P f args w fun e w' => ∃ v, e = .returned v ∧ R v w')
    (h : ∀ v w', R v w' → S w' ∧ wpAnyH P .any ops (NoPanic Q) S fuel (listed.setIfInBounds i true) (a.put d v) w') : wpOp P ops (NoPanic Q) i (fun a' w' => S w' ∧ wpAnyH P .any ops (NoPanic Q) S fuel (listed.setIfInBounds i true) a' w') a w := by
  unfold wpOp
  simp only [hi, hw, if_true, Oper.wp, hrun, Oper.upon, hd]
  refine .inl (hc.mono ?_)
  rintro e w' ⟨v, rfl, hR⟩
  exact h v w' hR
theorem hr_any {rs : List Nat} (hr : Region.ready .any ops listed = rs) (hne : rs ≠ []) (h : ∀ i ∈ rs, wpOp P ops (NoPanic Q) i (fun a' w' => S w' ∧ wpAnyH P .any ops (NoPanic Q) S fuel (listed.setIfInBounds i true) a' w') a w) : wpAnyH P .any ops (NoPanic Q) S (fuel + 1) listed a w :=
  wpAnyH_all hr hne h
end
end Go
namespace Go.Proofs.YtiabdcejibeciaaDoor
open Go.RowKit
theorem Addr.add_nought (a : Addr) : a.add 0 = a := by
  obtain ⟨b, o, s⟩ := a
  cases s <;> simp [Addr.add]
/-- l[:i:c] -/
theorem run_front {P : Program} {W : World} {t e : TypeId} {ao : Option Addr} {n cap i c : Nat} (ht : P.underlying t = some (.slice e)) (h1 : i ≤ c) (h2 : c ≤ cap) (hs : ∀ w, (sizeOf e).run P w = .ok 1 w) :
    (Instr.sliceAt t (.slice ao n cap) none (some (.int .i64 (i : Nat))) (some (.int .i64 (c : Nat)))).run P W = .ok (.slice ao i c) W := by
  have he : P.elem t = e := by simp [Program.elem, ht]
  rw [run_sliceAt_slice W t _ _ _ _ (by rw [he]; exact ht), run_slice_hm W t ao n cap (by rw [he]; exact ht) .i64 .i64 i c (by omega) (by omega) (by omega), he, hs]
  simp only [Result.andThen_ok, sliced, Int.toNat_natCast, Nat.zero_mul, Nat.sub_zero]
  cases ao with
  | none => simp
  | some a => simp [Addr.add_nought]
/-- l[:i] -/
theorem run_upto {P : Program} {W : World} {t e : TypeId} {ao : Option Addr} {n cap i : Nat} (ht : P.underlying t = some (.slice e)) (h1 : i ≤ cap) (hs : ∀ w, (sizeOf e).run P w = .ok 1 w) :
    (Instr.sliceAt t (.slice ao n cap) none (some (.int .i64 (i : Nat))) none).run P W = .ok (.slice ao i cap) W := by
  have he : P.elem t = e := by simp [Program.elem, ht]
  rw [run_sliceAt_slice W t _ _ _ _ (by rw [he]; exact ht), run_slice_h W t ao n cap (by rw [he]; exact ht) .i64 i (by omega) (by omega), he, hs]
  simp only [Result.andThen_ok, sliced, Int.toNat_natCast, Nat.zero_mul, Nat.sub_zero]
  cases ao with
  | none => simp
  | some a => simp [Addr.add_nought]
/-- Where l[j:] lies. -/
def bk (ao : Option Addr) (cap j : Nat) : Option Addr := if cap = j then ao else ao.map (·.add j)
/-- l[j:] -/
theorem run_back {P : Program} {W : World} {t e : TypeId} {ao : Option Addr} {n cap j : Nat} (ht : P.underlying t = some (.slice e)) (h1 : j ≤ n) (hs : ∀ w, (sizeOf e).run P w = .ok 1 w) :
    (Instr.sliceAt t (.slice ao n cap) (some (.int .i64 (j : Nat))) none none).run P W = .ok (.slice (bk ao cap j) (n - j) (cap - j)) W := by
  have he : P.elem t = e := by simp [Program.elem, ht]
  rw [run_sliceAt_slice W t _ _ _ _ (by rw [he]; exact ht), run_slice_l W t ao n cap (by rw [he]; exact ht) .i64 j (by omega) (by omega), he, hs]
  simp only [Result.andThen_ok, sliced, Int.toNat_natCast, Nat.mul_one, bk]
theorem VL.from {w : World} {ao : Option Addr} {n cap : Nat} {vs : List Value} (h : VL w ao n cap vs) (j : Nat) (hj : j ≤ n) : VL w (bk ao cap j) (n - j) (cap - j) (vs.drop j) := by
  cases ao with
  | some a => 
    have := h.back j hj
    unfold bk
    by_cases hc : cap = j
    · rw [if_pos hc] at this ⊢
      exact this
    · rw [if_neg hc] at this ⊢
      exact this
  | none =>
    obtain ⟨rfl, rfl⟩ := h.nil rfl
    obtain rfl : j = 0 := by omega
    obtain rfl : vs = [] := List.eq_nil_of_length_eq_zero h.len
    exact VL.nothing w
theorem size1 (e : TypeId) (h : (Tryd.prog.info? e).map (·.size) = some 1) (w : World) : (sizeOf e).run Tryd.prog w = .ok 1 w := by
  cases hi : Tryd.prog.info? e with
  | none => rw [hi] at h; simp at h
  | some i =>
    rw [hi] at h
    simp only [Option.map_some, Option.some.injEq] at h
    simp [sizeOf, typeInfo, hi, h]
end Go.Proofs.YtiabdcejibeciaaDoor

namespace Go.Proofs.YtiabdcejibeciaaDoor
open Go.RowKit

theorem sb_push (s : ByteArray) (b : UInt8) : sb (s.push b) = sb s ++ [(b.toNat : Int)] := by
  simp [sb, ByteArray.push]
theorem load_bytes {w : World} : ∀ (n : Nat) (a : Addr) (xs : List Int) (acc : ByteArray), xs.length = n → Byt xs → (∀ i, i < n → w.cell? (a.add i) = some (.int .u8 (xs.getD i 0))) →
    ∃ s, (Extern.Bytes.loadBytes a n acc).run Tryd.prog w = .ok s w ∧ sb s = sb acc ++ xs
  | 0, a, xs, acc, hl, _, _ => by
    obtain rfl : xs = [] := List.eq_nil_of_length_eq_zero hl
    exact ⟨acc, rfl, by simp⟩
  | n + 1, a, [], acc, hl, _, _ => by simp at hl
  | n + 1, a, x :: xs, acc, hl, hb, hc => by
    have h0 := hc 0 (by omega)
    rw [Addr.add_nought] at h0
    have hx := hb x (List.mem_cons_self ..)
    obtain ⟨s, h1, h2⟩ := load_bytes n (a.add 1) xs (acc.push x.toNat.toUInt8) (by simpa using hl) (fun y hy => hb y (List.mem_cons_of_mem _ hy)) (fun i hi => by
      have := hc (i + 1) (by omega)
      rw [Addr.add_add, Nat.add_comm 1 i, this]
      simp)
    refine ⟨s, ?_, ?_⟩
    · have h0' : w.cell? a = some (.int .u8 x) := by simpa using h0
      unfold Extern.Bytes.loadBytes
      simp only [Sem.run_bind, run_load, h0', Result.andThen_ok]
      exact h1
    · rw [h2, sb_push, List.append_assoc]
      congr 1
      simp
      omega
theorem cmp_sb (a b : List UInt8) : Lib.compareBytes a b = cmpL (a.map fun c => (c.toNat : Int)) (b.map fun c => (c.toNat : Int)) := by
  induction a generalizing b with
  | nil => cases b <;> rfl
  | cons x a ih =>
    cases b with
    | nil => rfl
    | cons y b =>
      have hxy : x < y ↔ (x.toNat : Int) < y.toNat := by rw [UInt8.lt_iff_toNat_lt]; omega
      have hyx : y < x ↔ (y.toNat : Int) < x.toNat := by rw [UInt8.lt_iff_toNat_lt]; omega
      simp only [Lib.compareBytes, List.map_cons, cmpL, ih]
      by_cases h1 : x < y
      · have := hxy.1 h1
        rw [if_pos h1, if_neg (by omega), if_pos (by omega)]
      · rw [if_neg h1]
        by_cases h2 : y < x
        · have := hyx.1 h2
          rw [if_pos h2, if_neg (by omega), if_neg (by omega)]
        · have h3 : ¬ (x.toNat : Int) < y.toNat := fun h => h1 (hxy.2 h)
          have h4 : ¬ (y.toNat : Int) < x.toNat := fun h => h2 (hyx.2 h)
          rw [if_neg h2, if_pos (by omega)]
theorem bytes_of {w : World} {ao : Option Addr} {n cap : Nat} {xs : List Int} (h : Sl w ao n cap xs) : ∃ s, (Extern.Bytes.bytesOf (.slice ao n cap)).run Tryd.prog w = .ok s w ∧ sb s = xs := by
  cases ao with
  | none =>
    obtain ⟨rfl, rfl⟩ := h.nil rfl
    obtain rfl : xs = [] := List.eq_nil_of_length_eq_zero h.len
    exact ⟨_, rfl, rfl⟩
  | some a =>
    obtain ⟨s, h1, h2⟩ := load_bytes n a xs .empty h.len h.byte (h.cell a rfl)
    exact ⟨s, h1, by rw [h2]; rfl⟩
theorem bcmp_any (w : World) (ao bo : Option Addr) (n cap m cap2 : Nat) (xs ys : List Int) (h : Sl w ao n cap xs) (h2 : Sl w bo m cap2 ys) :
    Calls Tryd.prog 34 #[.slice ao n cap, .slice bo m cap2] w fun e w' => e = .returned (.int .i64 (cmpL xs ys)) ∧ w' = w := by
  have hcall : (callFunc 66 #[.slice ao n cap, .slice bo m cap2]).run Tryd.prog w = .ok (.value (.int .i64 (cmpL xs ys))) w := by
    rw [run_callFunc_extern Tryd.func66 (by kernel_rfl) (by kernel_rfl) (by kernel_rfl) (e := Extern.BytealgCompare.compare) (by kernel_rfl)]
    obtain ⟨s, h3, h4⟩ := bytes_of h
    obtain ⟨t, h5, h6⟩ := bytes_of h2
    have e : (Extern.BytealgCompare.compare #[.slice ao n cap, .slice bo m cap2]).run Tryd.prog w = .ok (.int .i64 (cmpL xs ys)) w := by
      change Sem.run Tryd.prog (do pure (goInt (Extern.BytealgCompare.cmp (← Extern.Bytes.bytesOf (.slice ao n cap)) (← Extern.Bytes.bytesOf (.slice bo m cap2))))) w = _
      simp only [Sem.run_bind, h3, h5, Sem.run_pure, Result.andThen]
      rw [Lib.cmp_eq, cmp_sb, ← h4, ← h6]
      rfl
    rw [e]
    rfl
  go_enter Tryd.func34, Tryd.ntmps34
  go_wp2
  go_ret
  exact ⟨rfl, rfl⟩
end Go.Proofs.YtiabdcejibeciaaDoor

namespace Go.Proofs.YtiabdcejibeciaaDoor
open Go.RowKit

/-- Where a key stands among some that rise: how many are below it; is it one of them? -/
structure At (ks : List Part) (key : List Int) (i : Nat) (b : Bool) : Prop where
  le : i ≤ ks.length
  lo : ∀ j (h : j < ks.length), j < i → cmpL ks[j].xs key < 0
  hi : ∀ j (h : j < ks.length), i ≤ j → ¬ cmpL ks[j].xs key < 0
  eq : b = true ↔ ∃ h : i < ks.length, ks[i].xs = key

/-- What a search answers. -/
def Found (w : World) (ks : List Part) (key : List Int) (e : Ending) (w' : World) : Prop := ∃ (i : Nat) (b : Bool), e = .returned (.tuple #[.int .i64 (i : Nat), .bool b]) ∧ At ks key i b ∧ Below w.heap.size w w'

set_option maxHeartbeats 1000000 in
set_option maxRecDepth 100000 in
theorem bsf_any (w : World) (ko xo : Option Addr) (n kc m xc : Nat) (ks : List Part) (key : List Int) (h : KL w ko n kc ks) (hx : Sl w xo m xc key) (hs : ks.Pairwise fun a b => cmpL a.xs b.xs < 0) (hn : n ≤ 1000000) :
    Calls Tryd.prog 81 #[.slice ko n kc, .slice xo m xc, .func (.func 34) #[] #[]] w (Found w ks key) := by
  have hl := h.len
  have hni : (n : Int) ≤ 1000000 := by omega
  go_enter Tryd.func81, Tryd.ntmps81
  go_wp2
  go_loopw [9, 10] (fun a b wr => ∃ i j : Nat, i ≤ j ∧ j ≤ n ∧ a = .int .i64 i ∧ b = .int .i64 j ∧ wr = w ∧ (∀ t (h : t < ks.length), t < i → cmpL ks[t].xs key < 0) ∧ (∀ t (h : t < ks.length), j ≤ t → ¬ cmpL ks[t].xs key < 0)) (fun a b _ => (intOf b).toNat - (intOf a).toNat)
  case atStart => exact ⟨0, n, Nat.zero_le _, Nat.le_refl _, rfl, rfl, rfl, fun t _ ht => by omega, fun t h1 h2 => by omega⟩
  case round =>
    obtain ⟨i, j, hij, hj, rfl, rfl, rfl, h1, h2⟩ := hrel
    by_cases hlt : i < j
    · have hlt' : (i : Int) < (j : Int) := by omega
      obtain ⟨b, off, rfl, hc⟩ := h.vl.at (by omega)
      have c1 := hc ((i + j) / 2) (by simp; omega)
      have S1 := h.sl (ks[(i + j) / 2]'(by omega)) (List.getElem_mem _)
      obtain ⟨q, hq⟩ : ∃ q, q = ks[(i + j) / 2]'(by omega) := ⟨_, rfl⟩
      have H1 : Hid (∀ t (h : t < ks.length), t < i → cmpL ks[t].xs key < 0) := h1
      have H2 : Hid (∀ t (h : t < ks.length), j ≤ t → ¬ cmpL ks[t].xs key < 0) := h2
      simp only [List.getElem_map] at c1
      rw [← hq] at S1 c1
      have HQ : Hid (q = ks[(i + j) / 2]'(by omega)) := hq
      clear hq hc h1 h2
      unfold Part.val at c1
      go_wp2_with (go_at_call 34; refine (bcmp_any wr q.ao xo q.n q.cap m xc q.xs key S1 hx).mono ?_; rintro e w2 ⟨rfl, hw⟩; obtain rfl := hw.symm; obtain ⟨c, hcq⟩ : ∃ c, c = cmpL q.xs key := ⟨_, rfl⟩; rw [← hcq]; have HC : Hid (c = cmpL q.xs key) := hcq; clear hcq)
      · have hneg : c < 0 := by assumption
        go_roundw
        case rel =>
          refine ⟨(i + j) / 2 + 1, j, by omega, hj, by go_num, rfl, trivial, fun t ht hti => ?_, fun t ht htj => by have := H2.out t ht htj; omega⟩
          have hq := HQ.out
          have hc := HC.out
          by_cases hth : t = (i + j) / 2
          · subst hth
            rw [← hq, ← hc]
            exact hneg
          · have h3 := List.pairwise_iff_getElem.1 hs t ((i + j) / 2) ht (by omega) (by omega)
            rw [← hq] at h3
            exact cmpL_lt_trans _ _ _ h3 (by rw [← hc]; exact hneg)
        case measure => simp [intOf]; omega
      · have hpos : ¬ c < 0 := by omega
        go_roundw
        case rel =>
          refine ⟨i, (i + j) / 2, by omega, by omega, rfl, by go_num, trivial, H1.out, fun t ht hti => ?_⟩
          have hq := HQ.out
          have hc := HC.out
          by_cases hth : t = (i + j) / 2
          · subst hth
            rw [← hq, ← hc]
            exact hpos
          · intro h4
            have h3 := List.pairwise_iff_getElem.1 hs ((i + j) / 2) t (by omega) ht (by omega)
            rw [← hq] at h3
            have := cmpL_lt_trans _ _ _ h3 h4
            rw [← hc] at this
            exact hpos this
        case measure => simp [intOf]; omega
    · obtain rfl : i = j := by omega
      have H1 : Hid (∀ t (h : t < ks.length), t < i → cmpL ks[t].xs key < 0) := h1
      have H2 : Hid (∀ t (h : t < ks.length), i ≤ t → ¬ cmpL ks[t].xs key < 0) := h2
      clear h1 h2
      by_cases hin : i < n
      · have hin' : (i : Int) < (n : Int) := by omega
        obtain ⟨b, off, rfl, hc⟩ := h.vl.at (by omega)
        have c1 := hc i (by simp; omega)
        have hil : i < ks.length := by omega
        have S1 := h.sl ks[i] (List.getElem_mem hil)
        obtain ⟨q, hq⟩ : ∃ q, q = ks[i] := ⟨_, rfl⟩
        simp only [List.getElem_map] at c1
        rw [← hq] at S1 c1
        have HQ : Hid (q = ks[i]) := hq
        clear hq hc
        unfold Part.val at c1
        go_wp2_with (go_at_call 34; refine (bcmp_any wr q.ao xo q.n q.cap m xc q.xs key S1 hx).mono ?_; rintro e w2 ⟨rfl, hw⟩; obtain rfl := hw.symm; obtain ⟨c, hcq⟩ : ∃ c, c = cmpL q.xs key := ⟨_, rfl⟩; rw [← hcq]; have HC : Hid (c = cmpL q.xs key) := hcq; clear hcq)
        go_ret2
        refine ⟨i, _, rfl, ⟨by omega, H1.out, fun j h k => by have := H2.out j h k; omega, ?_⟩, Below.refl _ _⟩
        have hq := HQ.out
        have hc := HC.out
        constructor
        · intro hb
          have : c = 0 := by simpa using hb
          exact ⟨hil, by rw [← hq]; exact cmpL_eq _ _ (by rw [← hc]; exact this)⟩
        · rintro ⟨_, he⟩
          rw [← hq] at he
          have : c = 0 := by rw [hc, he]; exact cmpL_self _
          simpa using this
      · have hin' : ¬ (i : Int) < (n : Int) := by omega
        go_wp2
        go_ret2
        refine ⟨i, false, rfl, ⟨by omega, H1.out, fun j h k => by have := H2.out j h k; omega, ?_⟩, Below.refl _ _⟩
        constructor
        · intro hb
          simp at hb
        · rintro ⟨hb, _⟩
          omega

/-- tree.place, of a node whose keys rise. -/
theorem place_any (w : World) (d : Nd) (h : d.ok w) (xo : Option Addr) (m xc : Nat) (key : List Int) (hx : Sl w xo m xc key) (hs : d.ks.Pairwise fun a b => cmpL a.xs b.xs < 0) (hn : d.ks.length ≤ 1000000) :
    Calls Tryd.prog 56 #[d.ptr, .slice xo m xc] w (Found w d.ks key) := by
  have c1 := h.c1
  have hk := h.kl
  unfold Nd.ptr
  go_enter Tryd.func56, Tryd.ntmps56
  go_wp2_with fail
  refine (bsf_any w d.ko xo d.ks.length d.kc m xc d.ks key hk hx hs hn).mono ?_
  rintro e w' ⟨i, b, rfl, hat, hb⟩
  go_wp2
  go_ret2
  exact ⟨i, b, rfl, hat, hb⟩
end Go.Proofs.YtiabdcejibeciaaDoor

namespace Go.Proofs.YtiabdcejibeciaaDoor
open Go.RowKit

/-- The values cs are the trees of segs, one by one. -/
structure Kids (w : World) (cs : List Value) (segs : List (List It)) : Prop where
  len : cs.length = segs.length
  kid : ∀ (i : Nat) (s : List It), segs[i]? = some s → ∃ u, cs[i]? = some u ∧ T w u s
section
variable {w w' : World} {cs ds : List Value} {segs regs : List (List It)}
theorem Kids.below (h : Kids w cs segs) (hb : Below w.heap.size w w') : Kids w' cs segs := ⟨h.len, fun i s hi => by obtain ⟨u, hu, ht⟩ := h.kid i s hi; exact ⟨u, hu, ht.below hb⟩⟩
theorem Kids.nil (w : World) : Kids w [] [] := ⟨rfl, fun i s h => by simp at h⟩
theorem Kids.app (h : Kids w cs segs) (k : Kids w ds regs) : Kids w (cs ++ ds) (segs ++ regs) := by
  have hl := h.len
  refine ⟨by rw [List.length_append, List.length_append, h.len, k.len], fun i s hi => ?_⟩
  by_cases hlt : i < segs.length
  · rw [List.getElem?_append_left hlt] at hi
    rw [List.getElem?_append_left (by omega)]
    exact h.kid i s hi
  · rw [List.getElem?_append_right (by omega)] at hi
    rw [List.getElem?_append_right (by omega), hl]
    exact k.kid _ s hi
theorem Kids.one {u : Value} {s : List It} (h : T w u s) : Kids w [u] [s] := ⟨rfl, fun i t hi => by
  cases i with
  | zero => simp at hi; subst hi; exact ⟨u, rfl, h⟩
  | succ i => simp at hi⟩
theorem Kids.cons {u : Value} {s : List It} (h : T w u s) (k : Kids w cs segs) : Kids w (u :: cs) (s :: segs) := (Kids.one h).app k
theorem Kids.take (h : Kids w cs segs) (n : Nat) : Kids w (cs.take n) (segs.take n) := by
  refine ⟨by simp [h.len], fun i s hi => ?_⟩
  rw [List.getElem?_take] at hi ⊢
  split at hi
  · rename_i hlt
    rw [if_pos hlt]
    exact h.kid i s hi
  · simp at hi
theorem Kids.drop (h : Kids w cs segs) (n : Nat) : Kids w (cs.drop n) (segs.drop n) := by
  refine ⟨by simp [h.len], fun i s hi => ?_⟩
  rw [List.getElem?_drop] at hi ⊢
  exact h.kid _ s hi
theorem Kids.oneCell (h : Kids w cs segs) : ∀ u ∈ cs, u.oneCell' = true := fun u hu => by
  obtain ⟨i, hi, rfl⟩ := List.mem_iff_getElem.1 hu
  have hs : i < segs.length := by rw [← h.len]; exact hi
  obtain ⟨u, hu, ht⟩ := h.kid i segs[i] (List.getElem?_eq_getElem hs)
  rw [List.getElem?_eq_getElem hi] at hu
  rw [Option.some.inj hu]
  exact ht.one
end
theorem Nod.kids {w : World} {l : List It} {d : Nd} {segs : List (List It)} {xs : List It} (h : Nod w l d segs xs) : Kids w d.cs segs := ⟨h.ec, h.kid⟩

/-- A list of keys or values out of what 'changed' answers. -/
theorem KL.of {w : World} {ao : Option Addr} {n cap : Nat} {vs : List Value} {ps : List Part} (h : VL w ao n cap vs) (e : vs = ps.map Part.val) (hs : ∀ q ∈ ps, Sl w q.ao q.n q.cap q.xs) : KL w ao n cap ps := ⟨by rw [← e]; exact h, hs⟩
theorem KL.front {w : World} {ao : Option Addr} {n cap : Nat} {ps : List Part} (h : KL w ao n cap ps) (i c : Nat) (hi : i ≤ n) (hc : i ≤ c) (hcc : c ≤ cap) : KL w ao i c (ps.take i) :=
  ⟨by rw [List.map_take]; exact h.vl.front i c hi hc hcc, fun q hq => h.sl q (List.mem_of_mem_take hq)⟩
theorem KL.from {w : World} {ao : Option Addr} {n cap : Nat} {ps : List Part} (h : KL w ao n cap ps) (j : Nat) (hj : j ≤ n) : KL w (bk ao cap j) (n - j) (cap - j) (ps.drop j) :=
  ⟨by rw [List.map_drop]; exact h.vl.from j hj, fun q hq => h.sl q (List.mem_of_mem_drop hq)⟩

theorem T.ptr {w : World} {v : Value} {l : List It} (h : T w v l) : ∃ po, v = .pointer po := by
  rcases h.is with ⟨_, rfl⟩ | ⟨d, segs, xs, rfl, _⟩
  · exact ⟨_, rfl⟩
  · exact ⟨_, rfl⟩
theorem wrap_nat {k : Nat} (h : k ≤ 1000000000) : IntKind.i64.wrap (k : Int) = k := by
  simp [IntKind.wrap, IntKind.bits, IntKind.signed]
  omega

/-- A tree of the items l is answered, in new memory. -/
def RetT (w : World) (l : List It) (e : Ending) (w' : World) : Prop := ∃ v, e = .returned v ∧ T w' v l ∧ Below w.heap.size w w'

/-- A new node, its lists told by what they hold. -/
theorem T.make {w : World} {g : Nat} {l : List It} {L : Nat} {ko vo co : Option Addr} {kn kc vn vc cn cc : Nat} {t : TypeId} {ks vs : List Part} {cs : List Value} {segs : List (List It)} {xs : List It}
    (hg : w.heap[g]? = some (.cells #[.int .i64 L, .slice ko kn kc, .slice vo vn vc, .slice co cn cc] t))
    (hk : KL w ko kn kc ks) (hv : KL w vo vn vc vs) (hc : VL w co cn cc cs) (hs : Shp lev l L segs xs) (ek : ks.map Part.xs = xs.map It.k) (ev : vs.map Part.xs = xs.map It.v) (kid : Kids w cs segs) : T w (.pointer (some ⟨g, 0, Option.none⟩)) l :=
  Nod.make hg hk hv hc hs ek ev kid.len kid.kid
section
variable {w : World} {l : List It} {d : Nd} {segs : List (List It)} {xs : List It}
/-- The keys of a node rise. -/
theorem Nod.rise (h : Nod w l d segs xs) (hs : Srt l) : d.ks.Pairwise fun a b => cmpL a.xs b.xs < 0 := by
  have h1 : (xs.map It.k).Pairwise fun a b => cmpL a b < 0 := List.pairwise_map.2 (h.shp.rise hs)
  rw [← h.ek] at h1
  exact List.pairwise_map.1 h1
theorem Nod.keyAt (h : Nod w l d segs xs) (i : Nat) (hk : i < d.ks.length) (hx : i < xs.length) : d.ks[i].xs = xs[i].k := by
  have := congrArg (·[i]?) h.ek
  simpa [hk, hx] using this
theorem Nod.valAt (h : Nod w l d segs xs) (i : Nat) (hk : i < d.vs.length) (hx : i < xs.length) : d.vs[i].xs = xs[i].v := by
  have := congrArg (·[i]?) h.ev
  simpa [hk, hx] using this
/-- What a search in a node's keys tells of its items. -/
theorem Nod.found (h : Nod w l d segs xs) (hs : Srt l) {key : List Int} {i : Nat} {b : Bool} (ha : At d.ks key i b) : ∃ s A B, Cut lev l d.L segs xs i s A B ∧ (∀ x ∈ A, cmpL x.k key < 0) ∧ (∀ x ∈ B, ¬ cmpL x.k key < 0) ∧
    (b = false → ∀ x ∈ B, cmpL key x.k < 0) ∧ (b = true → ∃ hi : i < xs.length, xs[i].k = key) := by
  have hn := h.nk
  obtain ⟨s, A, B, c⟩ := h.shp.cut i (by have := ha.le; omega)
  obtain ⟨h1, h2, h3⟩ := c.key hs (key := key) (fun j hj hji => by rw [← h.keyAt j (by omega) hj]; exact ha.lo j (by omega) hji) (fun j hj hij => by rw [← h.keyAt j (by omega) hj]; exact ha.hi j (by omega) hij)
  refine ⟨s, A, B, c, h1, h2, fun hb => h3 fun hi he => ?_, fun hb => ?_⟩
  · have : b = true := ha.eq.2 ⟨by omega, by rw [h.keyAt i (by omega) hi]; exact he⟩
    rw [hb] at this
    simp at this
  · obtain ⟨hi, he⟩ := ha.eq.1 hb
    exact ⟨by omega, by rw [← h.keyAt i hi (by omega)]; exact he⟩
end
end Go.Proofs.YtiabdcejibeciaaDoor

namespace Go.Proofs.YtiabdcejibeciaaDoor
open Go.RowKit

theorem kinfo : (Tryd.prog.info? 26).map (fun i => (i.zero, i.size, i.bytes)) = some (some (.slice none 0 0), 1, 24) := by kernel_rfl
theorem ninfo : (Tryd.prog.info? 46).map (fun i => (i.zero, i.size, i.bytes)) = some (some (.pointer none), 1, 8) := by kernel_rfl
theorem Apd.base {w : World} {b b' : Nat} {e : TypeId} {v : Value} {n : Nat} {vs : List Value} (h : Apd w b e v n vs) (hb : b' ≤ b) : Apd w b' e v n vs := by
  rcases h with h | h
  · exact .inl h
  · exact .inr (own_base h hb)
theorem ksize (w : World) : (sizeOf 26).run Tryd.prog w = .ok 1 w := size1 _ (by kernel_rfl) w
theorem nsize (w : World) : (sizeOf 46).run Tryd.prog w = .ok 1 w := size1 _ (by kernel_rfl) w

end Go.Proofs.YtiabdcejibeciaaDoor

namespace Go.Proofs.YtiabdcejibeciaaDoor
open Go.RowKit

theorem arr_not_row {w : World} {p : Nat} {t e : TypeId} {cs : List Value} (h : Arr w p t cs) (hte : t ≠ e) {base size k : Nat} {v : Value} {xs : List Value} (hr : w.ownsRow base e size v k xs) : v.ownBlock ≠ some p := by
  rcases hr.2 with ⟨rfl, _⟩ | ⟨g, cap, cur, rfl, _, hgb, _⟩
  · simp [Value.ownBlock]
  · intro e'
    obtain rfl : g = p := by simpa [Value.ownBlock] using e'
    have := (show w.heap[g]? = _ from h).symm.trans hgb
    simp at this
    exact hte this.2
theorem own_below {w w' : World} {base : Nat} {e : TypeId} {size : Nat} {v : Value} {n : Nat} {xs : List Value} (h : w.ownsRow base e size v n xs) (hb : Below w.heap.size w w') : w'.ownsRow base e size v n xs :=
  h.kept (row := none) ⟨hb.os, hb.tape, hb.output, hb.size, fun k hk _ => hb.block k hk⟩ (by cases v.ownBlock <;> simp)
theorem arr_below {w w' : World} {p : Nat} {t : TypeId} {cs : List Value} (h : Arr w p t cs) (hb : Below w.heap.size w w') : Arr w' p t cs := (hb.block p h.lt).trans h
/-- Behind an append to a row of a field's own, and the store of what it yields. -/
theorem arr_put {w w1 : World} {p base : Nat} {t e : TypeId} {cs : List Value} {size k m : Nat} {v v' : Value} {xs ys : List Value} (h : Arr w p t cs) (hte : t ≠ e) (hr : w.ownsRow base e size v k xs) (hb : base ≤ w.heap.size) (hp : base ≤ p)
    (hr' : w1.ownsRow base e size v' m ys) (hg : w.grownBy w1 v.ownBlock) (j : Nat) :
    Arr w1 p t cs ∧ Arr (w1.setCell ⟨p, j, none⟩ v') p t (cs.set j v') ∧ (w1.setCell ⟨p, j, none⟩ v').ownsRow base e size v' m ys ∧ Below base w (w1.setCell ⟨p, j, none⟩ v') := by
  have hne := arr_not_row h hte hr
  have h1 : Arr w1 p t cs := h.grown hg (fun e => hne e.symm)
  refine ⟨h1, h1.set j v', ?_, ?_⟩
  · refine hr'.kept (row := some p) (grown_set (a := w1) (b := w1) ⟨rfl, rfl, rfl, Nat.le_refl _, fun _ _ _ => rfl⟩ j v') (.inr (arr_not_row h1 hte hr'))
  · refine ((Below.refl base w).grown hg hb (fun k hk => (hr.lt k hk).1)).setCell hp v'
end Go.Proofs.YtiabdcejibeciaaDoor

namespace Go
open Go.RowKit
/-- How many of the first n are not listed. -/
def unL (L : Array Bool) : Nat → Nat
  | 0 => 0
  | n + 1 => unL L n + (if L.getD n true then 0 else 1)
theorem unL_set_ge {L : Array Bool} {i : Nat} : ∀ n, n ≤ i → unL (L.setIfInBounds i true) n = unL L n
  | 0, _ => rfl
  | n + 1, h => by rw [unL, unL, unL_set_ge n (by omega), getD_set_ne true (by omega)]
theorem unL_set {L : Array Bool} {i : Nat} (hL : L.getD i true = false) : ∀ n, i < n → unL (L.setIfInBounds i true) n + 1 = unL L n
  | 0, h => by omega
  | n + 1, h => by
    rw [unL, unL]
    by_cases hn : n = i
    · subst hn
      have hlt : n < L.size := by
        by_cases h' : n < L.size
        · exact h'
        · simp [Array.getElem?_eq_none (Nat.le_of_not_lt h')] at hL
      have h2 : (L.setIfInBounds n true).getD n true = true := by simp [hlt]
      rw [unL_set_ge n (Nat.le_refl _), h2, hL]
      simp
    · have := unL_set hL n (by omega)
      rw [getD_set_ne true (fun e => hn e.symm)]
      omega
theorem unL_zero {L : Array Bool} : ∀ n, unL L n = 0 → ∀ i, i < n → L.getD i true = true
  | 0, _, i, h => by omega
  | n + 1, h0, i, h => by
    rw [unL] at h0
    by_cases hn : i = n
    · subst hn
      by_cases hc : L.getD i true = true
      · exact hc
      · rw [if_neg hc] at h0
        omega
    · exact unL_zero n (by omega) i (by omega)
/-- What an operation with an effect comes to. -/
def EffRun (P : Program) (o : Oper) (a : Act) (w : World) (R : Value → World → Prop) : Prop :=
  (∃ v w', (execOp a.eval o).run P w = .ok (.value v) w' ∧ R v w') ∨
  (∃ f args, (execOp a.eval o).run P w = .ok (.enter f args) w ∧ Calls P f args w fun e w' => ∃ v, e = .returned v ∧ R v w')
/-- All other slots are as they were. -/
structure EffSame (ops : Array Oper) (L0 : Array Bool) (a0 a : Act) : Prop where
  defers : a.defers = a0.defers
  size : a.tmps.size = a0.tmps.size
  same : ∀ k, (∀ i o, ops[i]? = some o → L0.getD i true = false → o.dst ≠ some k) → a.tmps[k]? = a0.tmps[k]?
/-- Operation i has come up: what its slot holds. -/
def EffHas (ops : Array Oper) (F : Nat → Value → World → Prop) (a : Act) (w : World) (i : Nat) : Prop := ∃ o d v, ops[i]? = some o ∧ o.dst = some d ∧ a.tmps[d]? = some v ∧ F i v w

theorem EffHas.at {ops : Array Oper} {F : Nat → Value → World → Prop} {a : Act} {w : World} {i : Nat} (h : EffHas ops F a w i) (d : Nat) (hd : (ops[i]?).bind (·.dst) = some d) : ∃ v, a.tmps[d]? = some v ∧ F i v w := by
  obtain ⟨o, d', v, ho, hd', ht, hF⟩ := h
  rw [ho] at hd
  have : d' = d := by
    have h2 : o.dst = some d := hd
    rw [hd'] at h2
    exact Option.some.inj h2
  subst this
  exact ⟨v, ht, hF⟩
/-- The region's shape, as a test. -/
def effOk (ops : Array Oper) (L0 : Array Bool) (n : Nat) : Bool :=
  (List.range ops.size).all (fun i => match ops[i]? with
    | none => true
    | some o => o.after.all (fun e => !Region.binds .any e || decide (e.on < i)) && (L0.getD i true || (match o.dst with | some d => decide (d < n) | none => false) && o.guard.isNone &&
        (List.range ops.size).all fun j => j == i || L0.getD j true || (match ops[j]? with | some o' => o'.dst != o.dst | none => true)))
theorem effOk_spec {ops : Array Oper} {L0 : Array Bool} {n : Nat} (h : effOk ops L0 n = true) (i : Nat) (o : Oper) (ho : ops[i]? = some o) : (∀ e ∈ o.after, Region.binds .any e = true → e.on < i) ∧
    (L0.getD i true = false → (∃ d, o.dst = some d ∧ d < n ∧ o.guard = none) ∧ ∀ j o', ops[j]? = some o' → L0.getD j true = false → o'.dst = o.dst → j = i) := by
  have h1 := List.all_eq_true.1 h i (List.mem_range.2 (Array.getElem?_eq_some_iff.1 ho).1)
  simp only [ho, Bool.and_eq_true] at h1
  obtain ⟨h2, h3⟩ := h1
  refine ⟨fun e he hb => ?_, fun hL => ?_⟩
  · have := Array.all_eq_true_iff_forall_mem.1 h2 e he
    simpa [hb] using this
  · rw [hL, Bool.false_or, Bool.and_eq_true, Bool.and_eq_true] at h3
    obtain ⟨⟨h4, h5⟩, h6⟩ := h3
    refine ⟨?_, fun j o' hj hLj he => ?_⟩
    · cases hd : o.dst with
      | none => rw [hd] at h4; simp at h4
      | some d => rw [hd] at h4; exact ⟨d, rfl, by simpa using h4, Option.isNone_iff_eq_none.1 h5⟩
    · have h7 := List.all_eq_true.1 h6 j (List.mem_range.2 (Array.getElem?_eq_some_iff.1 hj).1)
      by_cases hji : j = i
      · exact hji
      · rw [hLj, hj] at h7
        simp only [he, bne_self_eq_false, Bool.or_false, beq_iff_eq] at h7
        exact h7
/-- Slots that no such operation writes. -/
def effNot (ops : Array Oper) (L0 : Array Bool) (k : Nat) : Bool :=
  (List.range ops.size).all fun i => L0.getD i true || (match ops[i]? with | some o => o.dst != some k | none => true)
theorem EffSame.get {ops : Array Oper} {L0 : Array Bool} {a0 a : Act} (h : EffSame ops L0 a0 a) (k : Nat) {v : Value} (hk : effNot ops L0 k = true) (h0 : a0.tmps[k]? = some v) : a.tmps[k]? = some v := by
  rw [h.same k (fun i o ho hL he => ?_)]
  · exact h0
  · have h1 := List.all_eq_true.1 hk i (List.mem_range.2 (Array.getElem?_eq_some_iff.1 ho).1)
    rw [hL, ho] at h1
    simp [he] at h1
/-- Which are not listed. -/
def effAll (ops : Array Oper) (L0 : Array Bool) : List Nat := (List.range ops.size).filter fun i => !L0.getD i true
theorem mem_effAll {ops : Array Oper} {L0 : Array Bool} {i : Nat} {o : Oper} (ho : ops[i]? = some o) (hL : L0.getD i true = false) : i ∈ effAll ops L0 :=
  List.mem_filter.2 ⟨List.mem_range.2 (Array.getElem?_eq_some_iff.1 ho).1, by rw [hL]; rfl⟩

theorem wpAnyH_eff {P : Program} {ops : Array Oper} {S : World → Prop} {Q : Exit → Act → World → Prop} {a0 : Act} {W0 : World} {L0 : Array Bool} (F : Nat → Value → World → Prop)
    (mono : ∀ i v w w', F i v w → Below w.heap.size w w' → F i v w')
    (hS : ∀ w, Below W0.heap.size W0 w → S w)
    (hback : ∀ i o, ops[i]? = some o → ∀ e ∈ o.after, Region.binds .any e = true → e.on < i)
    (hd : ∀ i o, ops[i]? = some o → L0.getD i true = false → ∃ d, o.dst = some d ∧ d < a0.tmps.size ∧ o.guard = none)
    (inj : ∀ i j o o' d, ops[i]? = some o → ops[j]? = some o' → L0.getD i true = false → L0.getD j true = false → o.dst = some d → o'.dst = some d → i = j)
    (step : ∀ i o a w, ops[i]? = some o → L0.getD i true = false → EffSame ops L0 a0 a → Below W0.heap.size W0 w → (∀ j, o.after.any (fun e => Region.binds .any e && e.on == j) = true → L0.getD j true = false → EffHas ops F a w j) → EffRun P o a w (fun v w' => F i v w' ∧ Below w.heap.size w w'))
    (fin : ∀ a w, EffSame ops L0 a0 a → Below W0.heap.size W0 w → (∀ i, i < ops.size → L0.getD i true = false → EffHas ops F a w i) → Q .normal a w) :
    ∀ (fuel : Nat) (L : Array Bool) (a : Act) (w : World), unL L ops.size ≤ fuel → L.size = ops.size → L0.size = ops.size → EffSame ops L0 a0 a → Below W0.heap.size W0 w →
      (∀ i, i < ops.size → L.getD i true = true → L0.getD i true = true ∨ EffHas ops F a w i) → (∀ i, L0.getD i true = true → L.getD i true = true) → wpAnyH P .any ops (NoPanic Q) S fuel L a w := by
  intro fuel
  induction fuel with
  | zero =>
    intro L a w hu hL hL0 hs hb hh hm
    have hz := unL_zero ops.size (by omega : unL L ops.size = 0)
    have hr : Region.ready .any ops L = [] := by
      refine List.eq_nil_iff_forall_not_mem.2 fun i hi => ?_
      obtain ⟨h1, o, ho, -⟩ := mem_ready.1 hi
      have := hz i (Array.getElem?_eq_some_iff.1 ho).1
      rw [h1] at this
      simp at this
    refine wpAnyH_done hr (NoPanic.normal (fin a w hs hb fun i hi he => ?_)) 0
    rcases hh i hi (hz i hi) with h | h
    · rw [he] at h
      simp at h
    · exact h
  | succ fuel ih =>
    intro L a w hu hL hL0 hs hb hh hm
    refine ⟨fun hr => NoPanic.normal (fin a w hs hb fun i hi he => ?_), fun i hi => ?_⟩
    · have hall : ∀ n, ∀ i, i < n → i < ops.size → L.getD i true = true := by
        intro n
        induction n with
        | zero => intro i h; omega
        | succ n ihn =>
          intro i hi hlt
          by_cases hin : i < n
          · exact ihn i hin hlt
          · obtain rfl : i = n := by omega
            by_cases hc : L.getD i true = true
            · exact hc
            · exfalso
              have hf : L.getD i true = false := by simpa using hc
              exact hc (by
                have : i ∈ Region.ready .any ops L := mem_ready.2 ⟨hf, ops[i], Array.getElem?_eq_getElem hlt, fun e he hbi => by
                  have h1 := hback i ops[i] (Array.getElem?_eq_getElem hlt) e he hbi
                  have h2 := ihn e.on h1 (by omega)
                  have h3 : e.on < L.size := by omega
                  simpa [h3] using h2⟩
                rw [hr] at this
                simp at this)
      rcases hh i hi (hall (i + 1) i (by omega) hi) with h | h
      · rw [he] at h
        simp at h
      · exact h
    · obtain ⟨h1, o, ho, hdep⟩ := mem_ready.1 hi
      have hlt := (Array.getElem?_eq_some_iff.1 ho).1
      have he : L0.getD i true = false := by
        by_cases hc : L0.getD i true = true
        · have := hm i hc
          rw [h1] at this
          simp at this
        · simpa using hc
      obtain ⟨d, hdo, hdl, hg⟩ := hd i o ho he
      have hw : Region.wanted o (yielded ops a.tmps) = true := by simp [Region.wanted, hg]
      have hrun := step i o a w ho he hs hb (fun j hj hef => by
        obtain ⟨e, hem, hbj⟩ := Array.any_eq_true'.1 hj
        simp only [Bool.and_eq_true, beq_iff_eq] at hbj
        obtain ⟨hbi, rfl⟩ := hbj
        have h2 := hdep e hem hbi
        have h3 := hback i o ho e hem hbi
        have h4 : e.on < L.size := by omega
        rcases hh e.on (by omega) (by simpa [h4] using h2) with h | h
        · rw [hef] at h
          simp at h
        · exact h)
      have next : ∀ v w', F i v w' ∧ Below w.heap.size w w' → S w' ∧ wpAnyH P .any ops (NoPanic Q) S fuel (L.setIfInBounds i true) (a.put (some d) v) w' := by
        rintro v w' ⟨hF, hb'⟩
        have hbw := hb.trans (hb'.mono hb.size)
        have hsz : (a.put (some d) v).tmps = a.tmps.setIfInBounds d v := rfl
        refine ⟨hS w' hbw, ih _ _ _ ?_ (by simpa using hL) hL0 ⟨hs.defers, by rw [hsz, Array.size_setIfInBounds]; exact hs.size, fun k hk => ?_⟩ hbw (fun j hj hjL => ?_) (fun j hj => ?_)⟩
        · have := unL_set h1 ops.size hlt
          omega
        · have hne : d ≠ k := fun e => hk i o ho he (by rw [hdo, e])
          rw [hsz, Array.getElem?_setIfInBounds_ne hne]
          exact hs.same k hk
        · by_cases hji : j = i
          · subst hji
            refine .inr ⟨o, d, v, ho, hdo, ?_, hF⟩
            rw [hsz, Array.getElem?_setIfInBounds_self_of_lt (by rw [hs.size]; exact hdl)]
          · rw [getD_set_ne true (fun e => hji e.symm)] at hjL
            rcases hh j hj hjL with h | ⟨o', d', v', ho', hd', ht', hF'⟩
            · exact .inl h
            · by_cases hc : L0.getD j true = true
              · exact .inl hc
              · have hjf : L0.getD j true = false := by simpa using hc
                refine .inr ⟨o', d', v', ho', hd', ?_, mono j v' w w' hF' hb'⟩
                have hne : d ≠ d' := fun e => hji (inj j i o' o d ho' ho hjf he (by rw [hd', e]) hdo)
                rw [hsz, Array.getElem?_setIfInBounds_ne hne]
                exact ht'
        · by_cases hji : j = i
          · subst hji
            rw [he] at hj
            simp at hj
          · rw [getD_set_ne true (fun e => hji e.symm)]
            exact hm j hj
      rcases hrun with ⟨v, w', hr, hR⟩ | ⟨f, args, hr, hc⟩
      · unfold wpOp
        simp only [ho, hw, if_true, Oper.wp, hr, Oper.upon, hdo]
        exact .inl (next v w' hR)
      · unfold wpOp
        simp only [ho, hw, if_true, Oper.wp, hr, Oper.upon, hdo]
        refine .inl (hc.mono ?_)
        rintro e w' ⟨v, rfl, hR⟩
        exact next v w' hR
/-- The same, the region's shape tested. -/
theorem wpAnyH_effs {P : Program} {ops : Array Oper} {S : World → Prop} {Q : Exit → Act → World → Prop} {a0 : Act} {W0 : World} {L0 : Array Bool} {fuel : Nat} (F : Nat → Value → World → Prop) (is : List Nat) (n : Nat)
    (hok : effOk ops L0 n = true) (hall : effAll ops L0 = is) (hu : unL L0 ops.size ≤ fuel) (hsz : L0.size = ops.size) (hn : n = a0.tmps.size)
    (mono : ∀ i v w w', F i v w → Below w.heap.size w w' → F i v w')
    (hS : ∀ w, Below W0.heap.size W0 w → S w)
    (step : ∀ i ∈ is, ∀ o a w, ops[i]? = some o → EffSame ops L0 a0 a → Below W0.heap.size W0 w → (∀ j, o.after.any (fun e => Region.binds .any e && e.on == j) = true → L0.getD j true = false → EffHas ops F a w j) → EffRun P o a w (fun v w' => F i v w' ∧ Below w.heap.size w w'))
    (fin : ∀ a w, EffSame ops L0 a0 a → Below W0.heap.size W0 w → (∀ i ∈ is, EffHas ops F a w i) → Q .normal a w) : wpAnyH P .any ops (NoPanic Q) S fuel L0 a0 W0 :=
  wpAnyH_eff F mono hS (fun i o ho => (effOk_spec hok i o ho).1) (fun i o ho hL => by subst hn; exact ((effOk_spec hok i o ho).2 hL).1)
    (fun i j o o' d ho ho' hL hL' hd hd' => ((effOk_spec hok j o' ho').2 hL').2 i o ho hL (hd.trans hd'.symm))
    (fun i o a w ho hL hs hb hdep => step i (by rw [← hall]; exact mem_effAll ho hL) o a w ho hs hb hdep)
    (fun a w hs hb hh => fin a w hs hb fun i hi => by
      rw [← hall] at hi
      obtain ⟨h1, h2⟩ := List.mem_filter.1 hi
      exact hh i (List.mem_range.1 h1) (by simpa using h2))
    fuel L0 a0 W0 hu hsz hsz ⟨rfl, rfl, fun _ _ => rfl⟩ (Below.refl _ _) (fun _ _ h => .inl h) (fun _ h => h)
end Go

namespace Go
open Go.RowKit
/-- Listed, besides. -/
def setL (L : Array Bool) (is : List Nat) : Array Bool := is.foldl (fun L i => L.setIfInBounds i true) L
theorem setL_size (is : List Nat) : ∀ L : Array Bool, (setL L is).size = L.size := by
  induction is with
  | nil => intro L; rfl
  | cons i is ih => intro L; exact (ih _).trans (by simp)
theorem setL_get (is : List Nat) : ∀ (L : Array Bool) (j : Nat), j < L.size → (setL L is).getD j true = (L.getD j true || is.contains j) := by
  induction is with
  | nil => intro L j _; simp [setL]
  | cons i is ih =>
    intro L j hj
    have h := ih (L.setIfInBounds i true) j (by simpa using hj)
    show (setL (L.setIfInBounds i true) is).getD j true = _
    rw [h]
    by_cases hij : i = j
    · subst hij
      have : (L.setIfInBounds i true).getD i true = true := by simp [hj]
      rw [this]
      simp
    · rw [getD_set_ne true hij]
      have : (i :: is).contains j = is.contains j := by
        rw [List.contains_cons, show (j == i) = false by simpa using fun e => hij e.symm, Bool.false_or]
      rw [this]
theorem arr_ext {A B : Array Bool} (hs : A.size = B.size) (h : ∀ j, j < A.size → A.getD j true = B.getD j true) : A = B := by
  refine Array.ext hs fun j h1 h2 => ?_
  have := h j h1
  simpa [h1, h2] using this
/-- What operation i waits for has come up. -/
def depOk (ops : Array Oper) (L : Array Bool) (i : Nat) : Bool := ((ops[i]?).map (·.after.all fun e => !Region.binds .any e || L.getD e.on false)).getD false
theorem depOk_of {ops : Array Oper} {L : Array Bool} {i : Nat} {o : Oper} (ho : ops[i]? = some o) (h : ∀ e ∈ o.after, Region.binds .any e = true → L.getD e.on false = true) : depOk ops L i = true := by
  simp only [depOk, ho, Option.map_some, Option.getD_some]
  refine Array.all_eq_true_iff_forall_mem.2 fun e he => ?_
  by_cases hb : Region.binds .any e = true
  · rw [h e he hb, Bool.or_true]
  · simp [hb]
theorem getD_set_on {L : Array Bool} {i j : Nat} (h : L.getD j false = true) : (L.setIfInBounds i true).getD j false = true := by
  by_cases hij : i = j
  · subst hij
    by_cases hlt : i < L.size
    · simp [hlt]
    · simp [hlt] at h
  · simp only [Array.getD_eq_getD_getElem?] at h ⊢
    rw [Array.getElem?_setIfInBounds_ne hij]
    exact h
theorem depOk_set {ops : Array Oper} {L : Array Bool} {i j : Nat} (h : depOk ops L i = true) : depOk ops (L.setIfInBounds j true) i = true := by
  cases ho : ops[i]? with
  | none => simp [depOk, ho] at h
  | some o =>
    refine depOk_of ho fun e he hb => ?_
    simp only [depOk, ho, Option.map_some, Option.getD_some] at h
    have := Array.all_eq_true_iff_forall_mem.1 h e he
    rw [hb, Bool.not_true, Bool.false_or] at this
    exact getD_set_on this
/-- Whichever of them have come up, as long as some have not: one of them may come up, and no other. -/
def effChk (ops : Array Oper) (all : List Nat) : List Nat → Array Bool → Bool → Bool
  | [], L, sk => !sk || !(all.all fun i => !L.getD i true || depOk ops L i) || (!(Region.ready .any ops L).isEmpty && (Region.ready .any ops L).all fun j => all.contains j)
  | i :: is, L, sk => effChk ops all is (L.setIfInBounds i true) sk && effChk ops all is L true
theorem effChk_spec {ops : Array Oper} {all : List Nat} (c : Nat → Bool) : ∀ (is : List Nat) (L : Array Bool) (sk : Bool), effChk ops all is L sk = true → (sk = true ∨ ∃ i ∈ is, c i = false) → (∀ i ∈ all, (setL L (is.filter c)).getD i true = true → depOk ops (setL L (is.filter c)) i = true) →
    Region.ready .any ops (setL L (is.filter c)) ≠ [] ∧ ∀ j ∈ Region.ready .any ops (setL L (is.filter c)), j ∈ all
  | [], L, sk, h, hs, hcl => by
    rcases hs with rfl | ⟨i, hi, _⟩
    · have hcl' : (all.all fun i => !L.getD i true || depOk ops L i) = true := List.all_eq_true.2 fun i hi => by
        by_cases hL : L.getD i true = true
        · have := hcl i hi hL
          have h2 : depOk ops L i = true := this
          rw [h2, Bool.or_true]
        · have h2 : L.getD i true = false := by simpa using hL
          rw [h2]
          rfl
      simp only [effChk, hcl', Bool.not_true, Bool.false_or, Bool.and_eq_true] at h
      refine ⟨fun e => ?_, fun j hj => ?_⟩
      · have : Region.ready .any ops L = [] := e
        rw [this] at h
        simp at h
      · have := List.all_eq_true.1 h.2 j hj
        simpa using this
    · simp at hi
  | i :: is, L, sk, h, hs, hcl => by
    simp only [effChk, Bool.and_eq_true] at h
    by_cases hc : c i = true
    · rw [List.filter_cons, if_pos hc] at hcl ⊢
      refine effChk_spec c is (L.setIfInBounds i true) sk h.1 ?_ hcl
      rcases hs with hs | ⟨j, hj, hf⟩
      · exact .inl hs
      · rcases List.mem_cons.1 hj with rfl | hj
        · rw [hc] at hf; simp at hf
        · exact .inr ⟨j, hj, hf⟩
    · rw [List.filter_cons, if_neg hc] at hcl ⊢
      exact effChk_spec c is L true h.2 (.inl rfl) hcl
/-- How many have not come up. -/
def unC (c : Nat → Bool) : List Nat → Nat
  | [] => 0
  | i :: is => unC c is + (if c i then 0 else 1)
theorem unC_same {c d : Nat → Bool} : ∀ (is : List Nat), (∀ i ∈ is, c i = d i) → unC c is = unC d is
  | [], _ => rfl
  | i :: is, h => by rw [unC, unC, unC_same is (fun j hj => h j (List.mem_cons_of_mem _ hj)), h i (List.mem_cons_self ..)]
theorem unC_set {c : Nat → Bool} {i : Nat} (hc : c i = false) : ∀ (is : List Nat), is.Nodup → i ∈ is → unC c is = unC (fun j => c j || j == i) is + 1
  | [], _, h => by simp at h
  | j :: is, hn, h => by
    have hn' := List.nodup_cons.1 hn
    rw [unC, unC]
    by_cases hji : j = i
    · subst hji
      have := unC_same (c := c) (d := fun k => c k || k == j) is (fun k hk => by
        have hne : k ≠ j := fun e => hn'.1 (e ▸ hk)
        have : (k == j) = false := by simpa using hne
        simp [this])
      rw [← this, hc]
      simp
    · have hi : i ∈ is := by
        rcases List.mem_cons.1 h with h | h
        · exact absurd h.symm hji
        · exact h
      have ih := unC_set hc is hn'.2 hi
      have : (j == i) = false := by simpa using hji
      rw [ih]
      simp only [this, Bool.or_false]
      omega
theorem unC_zero {c : Nat → Bool} : ∀ (is : List Nat), unC c is = 0 → ∀ i ∈ is, c i = true
  | [], _, i, h => by simp at h
  | j :: is, h0, i, h => by
    rw [unC] at h0
    rcases List.mem_cons.1 h with rfl | h
    · by_cases hc : c i = true
      · exact hc
      · rw [if_neg hc] at h0; omega
    · exact unC_zero is (by omega) i h
theorem unC_none : ∀ (is : List Nat), unC (fun _ => false) is = is.length
  | [] => rfl
  | i :: is => by rw [unC, unC_none is]; simp
/-- The slots of those that came up. -/
def putL (a : Act) (f : Nat → Value) (ids : List (Nat × Nat)) : Act := ids.foldl (fun a p => a.put (some p.2) (f p.1)) a
theorem putL_size (f : Nat → Value) (ids : List (Nat × Nat)) : ∀ a : Act, (putL a f ids).tmps.size = a.tmps.size := by
  induction ids with
  | nil => intro a; rfl
  | cons p ids ih => intro a; exact (ih _).trans (by simp [Act.put])
theorem putL_defers (f : Nat → Value) (ids : List (Nat × Nat)) : ∀ a : Act, (putL a f ids).defers = a.defers := by
  induction ids with
  | nil => intro a; rfl
  | cons p ids ih => intro a; exact (ih _).trans rfl
theorem putL_other (f : Nat → Value) (k : Nat) (ids : List (Nat × Nat)) : ∀ a : Act, (∀ p ∈ ids, p.2 ≠ k) → (putL a f ids).tmps[k]? = a.tmps[k]? := by
  induction ids with
  | nil => intro a _; rfl
  | cons p ids ih =>
    intro a h
    have h1 := ih (a.put (some p.2) (f p.1)) (fun q hq => h q (List.mem_cons_of_mem _ hq))
    refine h1.trans ?_
    have hne := h p (List.mem_cons_self ..)
    simp [Act.put, Array.getElem?_setIfInBounds_ne hne]
theorem putL_at (f : Nat → Value) : ∀ (ids : List (Nat × Nat)) (a : Act), (ids.map (·.2)).Nodup → ∀ p ∈ ids, p.2 < a.tmps.size → (putL a f ids).tmps[p.2]? = some (f p.1)
  | [], a, _, p, h, _ => by simp at h
  | q :: ids, a, hn, p, h, hlt => by
    have hn' := List.nodup_cons.1 hn
    rcases List.mem_cons.1 h with rfl | h
    · have h1 := putL_other f p.2 ids (a.put (some p.2) (f p.1)) (fun q hq e => hn'.1 (List.mem_map.2 ⟨q, hq, e⟩))
      refine h1.trans ?_
      simp [Act.put, hlt]
    · exact putL_at f ids (a.put (some q.2) (f q.1)) hn'.2 p h (by simpa [Act.put] using hlt)
/-- The test of the whole. -/
def effTo (ops : Array Oper) (L0 : Array Bool) (ids : List (Nat × Nat)) (n : Nat) : Bool :=
  ids.all (fun p => decide (p.2 < n) && !L0.getD p.1 true && (match ops[p.1]? with | some o => o.dst == some p.2 && o.guard.isNone | none => false)) &&
  effChk ops (ids.map (·.1)) (ids.map (·.1)) L0 false && decide (L0.size = ops.size)
/-- What has come up of what an operation waits for. -/
def EffGot (ids : List (Nat × Nat)) (F : Nat → Value → World → Prop) (a : Act) (w : World) (j : Nat) : Prop := ∀ p ∈ ids, p.1 = j → ∃ v, a.tmps[p.2]? = some v ∧ F j v w
structure EffKeep (ids : List (Nat × Nat)) (a0 a : Act) : Prop where
  defers : a.defers = a0.defers
  size : a.tmps.size = a0.tmps.size
  same : ∀ k, (∀ p ∈ ids, p.2 ≠ k) → a.tmps[k]? = a0.tmps[k]?
theorem EffKeep.get {ids : List (Nat × Nat)} {a0 a : Act} (h : EffKeep ids a0 a) (k : Nat) {v : Value} (hk : ids.all (fun p => p.2 != k) = true) (h0 : a0.tmps[k]? = some v) : a.tmps[k]? = some v := by
  rw [h.same k (fun p hp => by simpa using List.all_eq_true.1 hk p hp)]
  exact h0
theorem EffGot.at {ids : List (Nat × Nat)} {F : Nat → Value → World → Prop} {a : Act} {w : World} {j : Nat} (h : EffGot ids F a w j) (d : Nat) (hd : ids.contains (j, d) = true) : ∃ v, a.tmps[d]? = some v ∧ F j v w :=
  h (j, d) (by simpa using hd) rfl

theorem wpAnyH_effto {P : Program} {ops : Array Oper} {S : World → Prop} {Q : Exit → Act → World → Prop} {a0 : Act} {W0 : World} {L0 : Array Bool} (m : Nat) (F : Nat → Value → World → Prop) (ids : List (Nat × Nat)) (n : Nat)
    (hok : effTo ops L0 ids n = true) (hn1 : (ids.map (·.1)).Nodup) (hn2 : (ids.map (·.2)).Nodup) (hn : n = a0.tmps.size)
    (mono : ∀ i v w w', F i v w → Below w.heap.size w w' → F i v w')
    (hS : ∀ w, Below W0.heap.size W0 w → S w)
    (step : ∀ p ∈ ids, ∀ o a w, ops[p.1]? = some o → EffKeep ids a0 a → Below W0.heap.size W0 w → (∀ j, o.after.any (fun e => Region.binds .any e && e.on == j) = true → EffGot ids F a w j) → EffRun P o a w (fun v w' => F p.1 v w' ∧ Below w.heap.size w w'))
    (fin : ∀ (f : Nat → Value) w, Below W0.heap.size W0 w → (∀ p ∈ ids, F p.1 (f p.1) w) → wpAnyH P .any ops (NoPanic Q) S m (setL L0 (ids.map (·.1))) (putL a0 f ids) w) :
    wpAnyH P .any ops (NoPanic Q) S (ids.length + m) L0 a0 W0 := by
  simp only [effTo, Bool.and_eq_true, decide_eq_true_eq] at hok
  obtain ⟨⟨hok1, hok2⟩, hLs⟩ := hok
  have hat : ∀ p ∈ ids, p.2 < a0.tmps.size ∧ L0.getD p.1 true = false ∧ ∃ o, ops[p.1]? = some o ∧ o.dst = some p.2 ∧ o.guard = none := fun p hp => by
    have h := List.all_eq_true.1 hok1 p hp
    simp only [Bool.and_eq_true, decide_eq_true_eq, Bool.not_eq_true'] at h
    obtain ⟨⟨h1, h2⟩, h3⟩ := h
    refine ⟨hn ▸ h1, h2, ?_⟩
    cases ho : ops[p.1]? with
    | none => rw [ho] at h3; simp at h3
    | some o =>
      rw [ho] at h3
      simp only [Bool.and_eq_true, beq_iff_eq] at h3
      exact ⟨o, rfl, h3.1, Option.isNone_iff_eq_none.1 h3.2⟩
  have main : ∀ (k : Nat) (c : Nat → Bool) (a : Act) (w : World), unC c (ids.map (·.1)) = k → EffKeep ids a0 a → Below W0.heap.size W0 w → (∀ p ∈ ids, c p.1 = true → ∃ v, a.tmps[p.2]? = some v ∧ F p.1 v w) →
      (∀ i ∈ ids.map (·.1), (setL L0 ((ids.map (·.1)).filter c)).getD i true = true → depOk ops (setL L0 ((ids.map (·.1)).filter c)) i = true) →
      wpAnyH P .any ops (NoPanic Q) S (k + m) (setL L0 ((ids.map (·.1)).filter c)) a w := by
    intro k
    induction k with
    | zero =>
      intro c a w hu hs hb hh _
      have hz := unC_zero _ hu
      have hall : ∀ p ∈ ids, ∃ v, a.tmps[p.2]? = some v ∧ F p.1 v w := fun p hp => hh p hp (hz p.1 (List.mem_map_of_mem hp))
      have hLeq : setL L0 ((ids.map (·.1)).filter c) = setL L0 (ids.map (·.1)) := by rw [List.filter_eq_self.2 hz]
      obtain ⟨f, hf⟩ : ∃ f : Nat → Value, ∀ p ∈ ids, a.tmps[p.2]? = some (f p.1) ∧ F p.1 (f p.1) w := by
        have hch : ∀ j, ∃ v, ∀ p ∈ ids, p.1 = j → a.tmps[p.2]? = some v ∧ F p.1 v w := fun j => by
          by_cases hj : ∃ p ∈ ids, p.1 = j
          · obtain ⟨p, hp, rfl⟩ := hj
            obtain ⟨v, h1, h2⟩ := hall p hp
            refine ⟨v, fun q hq e => ?_⟩
            obtain ⟨-, -, o, ho, hd, -⟩ := hat p hp
            obtain ⟨-, -, o', ho', hd', -⟩ := hat q hq
            rw [e, ho] at ho'
            obtain rfl := Option.some.inj ho'
            have : p.2 = q.2 := Option.some.inj (hd.symm.trans hd')
            rw [← this, e]
            exact ⟨h1, h2⟩
          · exact ⟨undef, fun q hq e => absurd ⟨q, hq, e⟩ hj⟩
        exact ⟨fun j => Classical.choose (hch j), fun p hp => Classical.choose_spec (hch p.1) p hp rfl⟩
      have ha : a = putL a0 f ids := by
        have ht : a.tmps = (putL a0 f ids).tmps := by
          refine Array.ext (by rw [putL_size]; exact hs.size) fun j h1 h2 => ?_
          have : a.tmps[j]? = (putL a0 f ids).tmps[j]? := by
            by_cases hj : ∃ p ∈ ids, p.2 = j
            · obtain ⟨p, hp, rfl⟩ := hj
              rw [(hf p hp).1, putL_at f ids a0 hn2 p hp (hat p hp).1]
            · have hj' : ∀ p ∈ ids, p.2 ≠ j := fun p hp e => hj ⟨p, hp, e⟩
              rw [hs.same j hj', putL_other f j ids a0 hj']
          simpa [h1, h2] using this
        have hd : a.defers = (putL a0 f ids).defers := by rw [putL_defers]; exact hs.defers
        cases a
        cases hp : putL a0 f ids
        rw [hp] at ht hd
        simp only at ht hd
        rw [ht, hd]
      rw [hLeq, ha, Nat.zero_add]
      exact fin f w hb (fun p hp => (hf p hp).2)
    | succ k ih =>
      intro c a w hu hs hb hh hcl
      have hex : ∃ i ∈ ids.map (·.1), c i = false := by
        by_cases h : ∃ i ∈ ids.map (·.1), c i = false
        · exact h
        · exfalso
          have hz : ∀ i ∈ ids.map (·.1), c i = true := fun i hi => by
            by_cases hc : c i = true
            · exact hc
            · exact absurd ⟨i, hi, by simpa using hc⟩ h
          have : unC c (ids.map (·.1)) = unC (fun _ => true) (ids.map (·.1)) := unC_same _ (fun i hi => hz i hi)
          have h0 : ∀ l : List Nat, unC (fun _ => true) l = 0 := fun l => by
            induction l with
            | nil => rfl
            | cons x l ih => rw [unC, ih]; rfl
          rw [hu, h0] at this
          omega
      obtain ⟨hne, hsub⟩ := effChk_spec (ops := ops) (all := ids.map (·.1)) c (ids.map (·.1)) L0 false hok2 (.inr hex) hcl
      have hsz : (setL L0 ((ids.map (·.1)).filter c)).size = ops.size := by rw [setL_size]; exact hLs
      rw [show k + 1 + m = (k + m) + 1 by omega]
      refine ⟨fun h => absurd h hne, fun i hi => ?_⟩
      obtain ⟨p, hp, rfl⟩ := List.mem_map.1 (hsub i hi)
      obtain ⟨h1, o, ho, hdep⟩ := mem_ready.1 hi
      obtain ⟨hdl, hL0, o', ho', hdo, hg⟩ := hat p hp
      rw [ho] at ho'
      obtain rfl := Option.some.inj ho'
      have hlt := (Array.getElem?_eq_some_iff.1 ho).1
      have hci : c p.1 = false := by
        by_cases hc : c p.1 = true
        · exfalso
          rw [setL_get _ _ _ (by omega)] at h1
          have : ((ids.map (·.1)).filter c).contains p.1 = true := by
            simpa using ⟨⟨p.2, hp⟩, hc⟩
          rw [this] at h1
          simp at h1
        · simpa using hc
      have hw : Region.wanted o (yielded ops a.tmps) = true := by simp [Region.wanted, hg]
      have hrun := step p hp o a w ho hs hb (fun j hj q hq hqj => by
        obtain ⟨e, hem, hbj⟩ := Array.any_eq_true'.1 hj
        simp only [Bool.and_eq_true, beq_iff_eq] at hbj
        obtain ⟨hbi, rfl⟩ := hbj
        have h2 := hdep e hem hbi
        obtain ⟨-, hq0, oq, hoq, -⟩ := hat q hq
        have hqlt := (Array.getElem?_eq_some_iff.1 hoq).1
        have h4 : (setL L0 ((ids.map (·.1)).filter c)).getD q.1 true = true := by
          rw [hqj]
          have : e.on < (setL L0 ((ids.map (·.1)).filter c)).size := by rw [hsz, ← hqj]; exact hqlt
          simpa [this] using h2
        rw [setL_get _ _ _ (by omega), hq0, Bool.false_or] at h4
        have h5 : c q.1 = true := by
          have h6 : q.1 ∈ (ids.map (·.1)).filter c := by simpa using h4
          exact (List.mem_filter.1 h6).2
        have := hh q hq h5
        rw [hqj] at this
        exact this)
      have next : ∀ v w', F p.1 v w' ∧ Below w.heap.size w w' → S w' ∧ wpAnyH P .any ops (NoPanic Q) S (k + m) ((setL L0 ((ids.map (·.1)).filter c)).setIfInBounds p.1 true) (a.put (some p.2) v) w' := by
        rintro v w' ⟨hF, hb'⟩
        have hbw := hb.trans (hb'.mono hb.size)
        have htm : (a.put (some p.2) v).tmps = a.tmps.setIfInBounds p.2 v := rfl
        refine ⟨hS w' hbw, ?_⟩
        have hLq : (setL L0 ((ids.map (·.1)).filter c)).setIfInBounds p.1 true = setL L0 ((ids.map (·.1)).filter fun j => c j || j == p.1) := by
          refine arr_ext (by simp [setL_size]) fun j hj => ?_
          have hj' : j < L0.size := by simpa [setL_size] using hj
          rw [setL_get _ _ _ hj']
          by_cases hji : p.1 = j
          · subst hji
            have h7 : ((setL L0 ((ids.map (·.1)).filter c)).setIfInBounds p.1 true).getD p.1 true = true := by
              have : p.1 < (setL L0 ((ids.map (·.1)).filter c)).size := by rw [setL_size]; exact hj'
              simp [this]
            have h8 : ((ids.map (·.1)).filter fun j => c j || j == p.1).contains p.1 = true := by
              rw [List.contains_iff_mem]
              exact List.mem_filter.2 ⟨List.mem_map_of_mem hp, by simp⟩
            rw [h7, h8]
            simp
          · rw [getD_set_ne true hji, setL_get _ _ _ hj']
            congr 1
            have hbe : (j == p.1) = false := by simpa using fun e => hji e.symm
            rw [Bool.eq_iff_iff, List.contains_iff_mem, List.contains_iff_mem, List.mem_filter, List.mem_filter, hbe, Bool.or_false]
        rw [hLq]
        refine ih _ _ _ ?_ ⟨hs.defers, by rw [htm, Array.size_setIfInBounds]; exact hs.size, fun q hq => ?_⟩ hbw (fun q hq hcq => ?_) ?_
        · have := unC_set hci (ids.map (·.1)) hn1 (List.mem_map_of_mem hp)
          omega
        · rw [htm, Array.getElem?_setIfInBounds_ne (hq p hp)]
          exact hs.same q hq
        · by_cases hqp : q.1 = p.1
          · have h9 : q.2 = p.2 := by
              obtain ⟨-, -, oq, hoq, hdq, -⟩ := hat q hq
              rw [hqp, ho] at hoq
              obtain rfl := Option.some.inj hoq
              exact Option.some.inj (hdq.symm.trans hdo)
            rw [hqp, h9]
            refine ⟨v, ?_, hF⟩
            rw [htm, Array.getElem?_setIfInBounds_self_of_lt (by rw [hs.size]; exact hdl)]
          · have hbe : (q.1 == p.1) = false := by simpa using hqp
            have hcq' : c q.1 = true := by simpa [hbe] using hcq
            obtain ⟨v', h1', h2'⟩ := hh q hq hcq'
            refine ⟨v', ?_, mono _ _ _ _ h2' hb'⟩
            have hne : p.2 ≠ q.2 := fun e => hqp (by
              have hinj : ∀ (l : List (Nat × Nat)), (l.map (·.2)).Nodup → ∀ x ∈ l, ∀ y ∈ l, x.2 = y.2 → x = y := by
                intro l
                induction l with
                | nil => intro _ x hx; simp at hx
                | cons z l ihl =>
                  intro hnd x hx y hy exy
                  have hnd' := List.nodup_cons.1 hnd
                  rcases List.mem_cons.1 hx with rfl | hxl
                  · rcases List.mem_cons.1 hy with rfl | hyl
                    · rfl
                    · exact absurd (List.mem_map.2 ⟨y, hyl, exy.symm⟩) hnd'.1
                  · rcases List.mem_cons.1 hy with rfl | hyl
                    · exact absurd (List.mem_map.2 ⟨x, hxl, exy⟩) hnd'.1
                    · exact ihl hnd'.2 x hxl y hyl exy
              rw [hinj ids hn2 q hq p hp e.symm])
            rw [htm, Array.getElem?_setIfInBounds_ne hne]
            exact h1'
        · rw [← hLq]
          intro i hi hiL
          by_cases hip : p.1 = i
          · subst hip
            exact depOk_set (depOk_of ho hdep)
          · rw [getD_set_ne true hip] at hiL
            exact depOk_set (hcl i hi hiL)
      rcases hrun with ⟨v, w', hr, hR⟩ | ⟨f, args, hr, hc⟩
      · unfold wpOp
        simp only [ho, hw, if_true, Oper.wp, hr, Oper.upon, hdo]
        exact .inl (next v w' hR)
      · unfold wpOp
        simp only [ho, hw, if_true, Oper.wp, hr, Oper.upon, hdo]
        refine .inl (hc.mono ?_)
        rintro e w' ⟨v, rfl, hR⟩
        exact next v w' hR
  have h := main (ids.length) (fun _ => false) a0 W0 (by rw [unC_none]; simp) ⟨rfl, rfl, fun _ _ => rfl⟩ (Below.refl _ _) (fun p hp h => by simp at h) (fun i hi hL => by
    exfalso
    obtain ⟨p, hp, rfl⟩ := List.mem_map.1 hi
    rw [List.filter_eq_nil_iff.2 (by simp)] at hL
    have := (hat p hp).2.1
    have h2 : L0.getD p.1 true = true := hL
    rw [this] at h2
    simp at h2)
  have he : setL L0 ((ids.map (·.1)).filter fun _ => false) = L0 := by
    rw [List.filter_eq_nil_iff.2 (by simp)]
    rfl
  rw [he] at h
  exact h
end Go

namespace Go.Proofs.YtiabdcejibeciaaDoor
open Go.RowKit

/-- Two rows of the call's own are not one. -/
def Sp (v u : Value) : Prop := v.ownBlock = none ∨ v.ownBlock ≠ u.ownBlock
theorem Sp.symm {v u : Value} (h : Sp v u) : Sp u v := by
  unfold Sp at *
  rcases h with h | h
  · cases hu : u.ownBlock with
    | none => exact .inl rfl
    | some g => exact .inr (by rw [h]; simp)
  · exact .inr (Ne.symm h)
theorem Sp.nil (v : Value) : Sp (.slice none 0 0) v := .inl rfl
/-- append to a row of the call's own: where the row lies behind it. -/
theorem run_append_at {P : Program} (w : World) (base : Nat) (t ty e : TypeId) (i : TypeInfo) (z : Value) (size bytes : Nat) (ht : P.underlying t = some (.slice e)) (hi : P.info? e = some i) (hz : i.zero = some z)
    (hsize : i.size = size) (hby : i.bytes = bytes) (hzs : z.cells.size = size) (hsz : 0 < size)
    (v : Value) (n : Nat) (xs : List Value) (hown : w.ownsRow base e size v n xs)
    (a : Addr) (m c : Nat) (news : List Value) (hl : news.length = m * size) (hnews : ∀ j u, news[j]? = some u → w.cell? (a.add j) = some u) (h1 : ∀ u ∈ news, u.oneCell' = true)
    (h63 : n + m ≤ maxLen) (hbytes : (n + m) * bytes ≤ 140737488355328) (hbase : base ≤ w.heap.size) :
    ∃ v' w', (Builtin.append_ #[t, t] ty #[v, .slice (some a) m c]).run P w = .ok v' w' ∧ w'.ownsRow base e size v' (n + m) (xs ++ news) ∧ w.grownBy w' v.ownBlock ∧
      ∀ g, v'.ownBlock = some g → v.ownBlock = some g ∨ w.heap.size ≤ g := by
  obtain ⟨v', w', hr, ho, hg, _⟩ := run_append_own (P := P) w base t ty e i z size bytes ht hi hz hsize hby hzs hsz v n xs hown a m c news hl hnews h1 h63 hbytes hbase
  refine ⟨v', w', hr, ho, hg, ?_⟩
  have hsmall : n + m ≤ 9223372036854775807 := by simp only [maxLen] at h63; omega
  subst hsize
  subst hby
  rcases hown.2 with ⟨rfl, rfl⟩ | ⟨g, cap, cur, rfl, hbg, hgc, hnc, hcm, hcs, htake⟩
  · have hown2 : w.ownsRow w.heap.size e i.size (.slice none 0 0) 0 xs := ⟨hown.1, .inl ⟨rfl, rfl⟩⟩
    obtain ⟨v2, w2, hr2, ho2, _, _⟩ := run_append_own (P := P) w w.heap.size t ty e i z i.size i.bytes ht hi hz rfl rfl hzs hsz _ 0 xs hown2 a m c news hl hnews h1 h63 hbytes (Nat.le_refl _)
    rw [hr] at hr2
    simp only [Result.ok.injEq] at hr2
    obtain ⟨rfl, rfl⟩ := hr2
    intro g hgv
    exact .inr (ho2.lt g hgv).1
  · by_cases hroom : n + m ≤ cap
    · have hfit : n * i.size + news.length ≤ cur.size := by rw [hl, hcs, ← Nat.add_mul]; exact Nat.mul_le_mul_right _ hroom
      have hr2 := run_append_room (P := P) w t ty e i ht hi g n cap cur hgc a m c news hl hnews h1 hroom hfit
      rw [hr] at hr2
      simp only [Result.ok.injEq] at hr2
      obtain ⟨rfl, rfl⟩ := hr2
      intro g' hg'
      exact .inl hg'
    · have holds : ∀ j u, xs[j]? = some u → w.cell? ((⟨g, 0, none⟩ : Addr).add j) = some u := hown.cells (g := g) rfl
      have hr2 := run_append_grow (P := P) w t ty e i z ht hi hz ⟨g, 0, none⟩ n cap xs hown.1 holds a m c news hl hnews (by omega) (by omega) (growslice_fits (by omega) hbytes)
      rw [hr] at hr2
      simp only [Result.ok.injEq] at hr2
      obtain ⟨rfl, rfl⟩ := hr2
      intro g' hg'
      simp only [Value.ownBlock, Option.some.injEq] at hg'
      exact .inr (by omega)
theorem row_kept {w w' : World} {base : Nat} {e : TypeId} {size : Nat} {v : Value} {n : Nat} {xs : List Value} (h : w.ownsRow base e size v n xs) (hb : ∀ g, v.ownBlock = some g → w'.heap[g]? = w.heap[g]?) : w'.ownsRow base e size v n xs := by
  refine ⟨h.1, ?_⟩
  rcases h.2 with c | ⟨g, cap, cur, rfl, a1, a2, a3, a4, a5, a6⟩
  · exact .inl c
  · exact .inr ⟨g, cap, cur, rfl, a1, (hb g rfl).trans a2, a3, a4, a5, a6⟩

theorem row_slice {w : World} {base : Nat} {e : TypeId} {size : Nat} {v : Value} {n : Nat} {xs : List Value} (h : w.ownsRow base e size v n xs) : ∃ a m c, v = .slice a m c := by
  rcases h.2 with ⟨rfl, _⟩ | ⟨g, cap, cur, rfl, _⟩
  · exact ⟨_, _, _, rfl⟩
  · exact ⟨_, _, _, rfl⟩
/-- A block apart from a node's own four. -/
def Off (g : Nat) (k v c : Value) (b : Nat) : Prop := b ≠ g ∧ k.ownBlock ≠ some b ∧ v.ownBlock ≠ some b ∧ c.ownBlock ≠ some b
/-- Only the node's own four blocks have changed, and new ones were made. -/
structure Chg (W W' : World) (g : Nat) (k v c k' v' c' : Value) : Prop where
  size : W.heap.size ≤ W'.heap.size
  off : ∀ b, b < W.heap.size → Off g k v c b → W'.heap[b]? = W.heap[b]? ∧ Off g k' v' c' b
theorem Chg.trans {W W' W'' : World} {g : Nat} {k v c k' v' c' k2 v2 c2 : Value} (h : Chg W W' g k v c k' v' c') (h' : Chg W' W'' g k' v' c' k2 v2 c2) : Chg W W'' g k v c k2 v2 c2 :=
  ⟨Nat.le_trans h.size h'.size, fun b hb ho => by
    obtain ⟨h1, h2⟩ := h.off b hb ho
    obtain ⟨h3, h4⟩ := h'.off b (Nat.lt_of_lt_of_le hb h.size) h2
    exact ⟨h3.trans h1, h4⟩⟩
theorem Chg.below {W W' : World} {g : Nat} {k v c : Value} (h : Below W.heap.size W W') : Chg W W' g k v c k v c := ⟨h.size, fun b hb ho => ⟨h.block b hb, ho⟩⟩
/-- A fact that hangs on blocks apart from the node's own: of those below m, or from n on. -/
def Far (W : World) (m n g : Nat) (k v c : Value) (φ : World → Prop) : Prop :=
  ∃ A : Nat → Prop, (∀ b, A b → b < W.heap.size ∧ (b < m ∨ n ≤ b) ∧ Off g k v c b) ∧ ∀ W', (∀ b, A b → W'.heap[b]? = W.heap[b]?) → φ W'
theorem Far.chg {W W' : World} {m n g : Nat} {k v c k' v' c' : Value} {φ : World → Prop} (h : Far W m n g k v c φ) (hc : Chg W W' g k v c k' v' c') : Far W' m n g k' v' c' φ := by
  obtain ⟨A, h1, h2⟩ := h
  refine ⟨A, fun b hb => ?_, fun w hw => h2 w fun b hb => ?_⟩
  · obtain ⟨a1, a2, a3⟩ := h1 b hb
    exact ⟨Nat.lt_of_lt_of_le a1 hc.size, a2, (hc.off b a1 a3).2⟩
  · obtain ⟨a1, a2, a3⟩ := h1 b hb
    exact (hw b hb).trans (hc.off b a1 a3).1
theorem Far.now {W : World} {m n g : Nat} {k v c : Value} {φ : World → Prop} (h : Far W m n g k v c φ) : φ W := by
  obtain ⟨A, h1, h2⟩ := h
  exact h2 W fun _ _ => rfl
theorem Far.end {W : World} {m n g : Nat} {k v c : Value} {φ : World → Prop} (h : Far W m n g k v c φ) {w : World} (hw : ∀ b, (b < m ∨ n ≤ b) → b < W.heap.size → w.heap[b]? = W.heap[b]?) : φ w := by
  obtain ⟨A, h1, h2⟩ := h
  exact h2 w fun b hb => hw b (h1 b hb).2.1 (h1 b hb).1
/-- What hangs on a part of memory: below m, or from n on. -/
def On (w' : World) (m n : Nat) (φ : World → Prop) : Prop := ∀ W, (∀ b, (b < m ∨ n ≤ b) → b < w'.heap.size → W.heap[b]? = w'.heap[b]?) → φ W
theorem On.now {w' : World} {m n : Nat} {φ : World → Prop} (h : On w' m n φ) : φ w' := h w' fun _ _ _ => rfl
/-- Behind a call that was made while a node is being made. -/
theorem On.far {W W' : World} {m n g : Nat} {k v c : Value} {φ : World → Prop} (h : On W' m W.heap.size φ) (hn : n ≤ W.heap.size) (ho : ∀ b, b < m → Off g k v c b) (hg : ∀ b, W.heap.size ≤ b → Off g k v c b) : Far W' m n g k v c φ :=
  ⟨fun b => (b < m ∨ W.heap.size ≤ b) ∧ b < W'.heap.size, fun b hb' => ⟨hb'.2, by omega, by
    rcases hb'.1 with h1 | h1
    · exact ho b h1
    · exact hg b h1⟩, fun w hw => h w fun b h1 h2 => hw b ⟨h1, h2⟩⟩

/-- A node that is being made. -/
structure NB (W : World) (base g : Nat) (t pe : TypeId) (L : Int) (k v c : Value) (ks vs us : List Value) : Prop where
  arr : Arr W g t [.int .i64 L, k, v, c]
  bg : base ≤ g
  ok : W.ownsRow base 26 1 k ks.length ks
  ov : W.ownsRow base 26 1 v vs.length vs
  oc : W.ownsRow base pe 1 c us.length us
  s1 : Sp k v
  s2 : Sp k c
  s3 : Sp v c
section
variable {W W' : World} {base g : Nat} {t pe : TypeId} {L : Int} {k v c : Value} {ks vs us : List Value}
theorem NB.le (h : NB W base g t pe L k v c ks vs us) : base ≤ W.heap.size := Nat.le_trans h.bg (Nat.le_of_lt h.arr.lt)
theorem NB.below (h : NB W base g t pe L k v c ks vs us) (hb : Below W.heap.size W W') : NB W' base g t pe L k v c ks vs us :=
  ⟨arr_below h.arr hb, h.bg, own_below h.ok hb, own_below h.ov hb, own_below h.oc hb, h.s1, h.s2, h.s3⟩
theorem NB.new (W : World) (t pe : TypeId) (L : Int) : NB (W.alloc (.cells #[.int .i64 L, .slice none 0 0, .slice none 0 0, .slice none 0 0] t)) W.heap.size W.heap.size t pe L (.slice none 0 0) (.slice none 0 0) (.slice none 0 0) [] [] [] :=
  ⟨heap_alloc_new W _, Nat.le_refl _, World.ownsRow_nil _ _ _ _, World.ownsRow_nil _ _ _ _, World.ownsRow_nil _ _ _ _, Sp.nil _, Sp.nil _, Sp.nil _⟩
/-- What lies below the call's own memory, and what is new, is apart from the node. -/
theorem NB.offLow (h : NB W base g t pe L k v c ks vs us) {b : Nat} (hb : b < base) : Off g k v c b := by
  have h1 := h.bg
  refine ⟨by omega, fun e => ?_, fun e => ?_, fun e => ?_⟩
  · have := (h.ok.lt b e).1; omega
  · have := (h.ov.lt b e).1; omega
  · have := (h.oc.lt b e).1; omega
theorem NB.offNew (h : NB W base g t pe L k v c ks vs us) {b : Nat} (hb : W.heap.size ≤ b) : Off g k v c b := by
  have h1 := h.arr.lt
  refine ⟨by omega, fun e => ?_, fun e => ?_, fun e => ?_⟩
  · have := (h.ok.lt b e).2; omega
  · have := (h.ov.lt b e).2; omega
  · have := (h.oc.lt b e).2; omega
/-- A new level. -/
theorem NB.level (h : NB W base g t pe L k v c ks vs us) (hk : t ≠ 26) (hp : t ≠ pe) (M : Int) : NB (W.setCell ⟨g, 0, none⟩ (.int .i64 M)) base g t pe M k v c ks vs us ∧ Chg W (W.setCell ⟨g, 0, none⟩ (.int .i64 M)) g k v c k v c ∧ Below base W (W.setCell ⟨g, 0, none⟩ (.int .i64 M)) := by
  have hg : W.grownBy (W.setCell ⟨g, 0, none⟩ (.int .i64 M)) (some g) := grown_set (a := W) (b := W) ⟨rfl, rfl, rfl, Nat.le_refl _, fun _ _ _ => rfl⟩ 0 _
  refine ⟨⟨h.arr.set 0 _, h.bg, h.ok.kept hg (.inr (arr_not_row h.arr hk h.ok)), h.ov.kept hg (.inr (arr_not_row h.arr hk h.ov)), h.oc.kept hg (.inr (arr_not_row h.arr hp h.oc)), h.s1, h.s2, h.s3⟩, ⟨hg.size, fun b hb ho => ⟨hg.block b hb (by simpa using ho.1), ho⟩⟩, (Below.refl _ _).setCell h.bg _⟩
end
/-- Of two rows one was grown. -/
theorem Sp.grown {W : World} {base : Nat} {e : TypeId} {v v' u : Value} {m : Nat} {ys : List Value} (h : Sp v u) (hu : W.ownsRow base e 1 u m ys) (hv : ∀ g, v'.ownBlock = some g → v.ownBlock = some g ∨ W.heap.size ≤ g) : Sp v' u := by
  unfold Sp at *
  cases hv' : v'.ownBlock with
  | none => exact .inl rfl
  | some g =>
    refine .inr fun e => ?_
    rcases hv g hv' with h1 | h1
    · rcases h with h | h
      · rw [h] at h1; simp at h1
      · exact h (h1.trans e)
    · have := (hu.lt g e.symm).2
      omega
theorem Sp.keeps {W W' : World} {base : Nat} {e : TypeId} {v u : Value} {m : Nat} {ys : List Value} (h : Sp v u) (hu : W.ownsRow base e 1 u m ys) (hg : W.grownBy W' v.ownBlock) : W'.ownsRow base e 1 u m ys :=
  row_kept hu fun g hgu => hg.block g (hu.lt g hgu).2 (fun e => by
    unfold Sp at h
    rcases h with h | h
    · rw [h] at e; simp at e
    · exact h (by rw [← e, hgu]))
/-- What an append to a field of the node comes to, and the store behind it. -/
structure NApp (W : World) (base g : Nat) (t pe : TypeId) (L : Int) (k v c : Value) (W1 W2 : World) (k' v' c' : Value) (ks vs us : List Value) : Prop where
  arr : Arr W1 g t [.int .i64 L, k, v, c]
  nb : NB W2 base g t pe L k' v' c' ks vs us
  chg : Chg W W2 g k v c k' v' c'
  below : Below base W W2
section
variable {W : World} {base g : Nat} {t pe : TypeId} {L : Int} {k v c : Value} {ks vs us : List Value}
theorem NB.appK (h : NB W base g t pe L k v c ks vs us) (hk : t ≠ 26) (hp : t ≠ pe) {ty : TypeId} {bo : Addr} {cap : Nat} {u : Value} (hx : VL W (some bo) 1 cap [u]) (hu : u.oneCell' = true) (hn : ks.length ≤ 1000000) :
    ∃ k' W1, (Builtin.append_ #[51, 51] ty #[k, .slice (some bo) 1 cap]).run Tryd.prog W = .ok k' W1 ∧ NApp W base g t pe L k v c W1 (W1.setCell ⟨g, 1, none⟩ k') k' v c (ks ++ [u]) vs us := by
  obtain ⟨i0, hi, hz0, hz1, hz2⟩ := info_parts kinfo
  obtain ⟨k', W1, hr, ho, hg, ha⟩ := run_append_at (P := Tryd.prog) W base 51 ty 26 i0 (.slice none 0 0) 1 24 Tryd.underlying51 hi hz0 hz1 hz2 rfl (by decide) k ks.length ks h.ok bo 1 cap [u] rfl (hx.cells bo rfl) (by intro y hy; rw [List.mem_singleton.1 hy]; exact hu) (by simp [maxLen]; omega) (by omega) h.le
  obtain ⟨a1, a2, a3, a4⟩ := arr_put h.arr hk h.ok h.le h.bg ho hg 1
  have hs : W1.grownBy (W1.setCell ⟨g, 1, none⟩ k') (some g) := grown_set (a := W1) (b := W1) ⟨rfl, rfl, rfl, Nat.le_refl _, fun _ _ _ => rfl⟩ 1 _
  have ov1 := h.s1.keeps h.ov hg
  have oc1 := h.s2.keeps h.oc hg
  refine ⟨k', W1, hr, a1, ⟨a2, h.bg, by simpa using a3, ov1.kept hs (.inr (arr_not_row a1 hk ov1)), oc1.kept hs (.inr (arr_not_row a1 hp oc1)), h.s1.grown h.ov ha, h.s2.grown h.oc ha, h.s3⟩, ⟨Nat.le_trans hg.size hs.size, fun b hb hf => ⟨?_, hf.1, fun e => ?_, hf.2.2⟩⟩, a4⟩
  · rw [hs.block b (Nat.lt_of_lt_of_le hb hg.size) (by simpa using hf.1)]
    exact hg.block b hb (fun e => hf.2.1 e.symm)
  · rcases ha b e with h1 | h1
    · exact hf.2.1 h1
    · omega
theorem NB.appV (h : NB W base g t pe L k v c ks vs us) (hk : t ≠ 26) (hp : t ≠ pe) {ty : TypeId} {bo : Addr} {cap : Nat} {u : Value} (hx : VL W (some bo) 1 cap [u]) (hu : u.oneCell' = true) (hn : vs.length ≤ 1000000) :
    ∃ v' W1, (Builtin.append_ #[51, 51] ty #[v, .slice (some bo) 1 cap]).run Tryd.prog W = .ok v' W1 ∧ NApp W base g t pe L k v c W1 (W1.setCell ⟨g, 2, none⟩ v') k v' c ks (vs ++ [u]) us := by
  obtain ⟨i0, hi, hz0, hz1, hz2⟩ := info_parts kinfo
  obtain ⟨v', W1, hr, ho, hg, ha⟩ := run_append_at (P := Tryd.prog) W base 51 ty 26 i0 (.slice none 0 0) 1 24 Tryd.underlying51 hi hz0 hz1 hz2 rfl (by decide) v vs.length vs h.ov bo 1 cap [u] rfl (hx.cells bo rfl) (by intro y hy; rw [List.mem_singleton.1 hy]; exact hu) (by simp [maxLen]; omega) (by omega) h.le
  obtain ⟨a1, a2, a3, a4⟩ := arr_put h.arr hk h.ov h.le h.bg ho hg 2
  have hs : W1.grownBy (W1.setCell ⟨g, 2, none⟩ v') (some g) := grown_set (a := W1) (b := W1) ⟨rfl, rfl, rfl, Nat.le_refl _, fun _ _ _ => rfl⟩ 2 _
  have ok1 := h.s1.symm.keeps h.ok hg
  have oc1 := h.s3.keeps h.oc hg
  refine ⟨v', W1, hr, a1, ⟨a2, h.bg, ok1.kept hs (.inr (arr_not_row a1 hk ok1)), by simpa using a3, oc1.kept hs (.inr (arr_not_row a1 hp oc1)), (h.s1.symm.grown h.ok ha).symm, h.s2, h.s3.grown h.oc ha⟩, ⟨Nat.le_trans hg.size hs.size, fun b hb hf => ⟨?_, hf.1, hf.2.1, fun e => ?_, hf.2.2.2⟩⟩, a4⟩
  · rw [hs.block b (Nat.lt_of_lt_of_le hb hg.size) (by simpa using hf.1)]
    exact hg.block b hb (fun e => hf.2.2.1 e.symm)
  · rcases ha b e with h1 | h1
    · exact hf.2.2.1 h1
    · omega
theorem NB.appC (h : NB W base g t pe L k v c ks vs us) (hk : t ≠ 26) (hp : t ≠ pe) {ps : TypeId} (hps : Tryd.prog.underlying ps = some (.slice pe)) (hinfo : (Tryd.prog.info? pe).map (fun i => (i.zero, i.size, i.bytes)) = some (some (.pointer none), 1, 8)) {ty : TypeId} {bo : Addr} {cap : Nat} {u : Value} (hx : VL W (some bo) 1 cap [u]) (hu : u.oneCell' = true) (hn : us.length ≤ 1000000) :
    ∃ c' W1, (Builtin.append_ #[ps, ps] ty #[c, .slice (some bo) 1 cap]).run Tryd.prog W = .ok c' W1 ∧ NApp W base g t pe L k v c W1 (W1.setCell ⟨g, 3, none⟩ c') k v c' ks vs (us ++ [u]) := by
  obtain ⟨i0, hi, hz0, hz1, hz2⟩ := info_parts hinfo
  obtain ⟨c', W1, hr, ho, hg, ha⟩ := run_append_at (P := Tryd.prog) W base ps ty pe i0 (.pointer none) 1 8 hps hi hz0 hz1 hz2 rfl (by decide) c us.length us h.oc bo 1 cap [u] rfl (hx.cells bo rfl) (by intro y hy; rw [List.mem_singleton.1 hy]; exact hu) (by simp [maxLen]; omega) (by omega) h.le
  obtain ⟨a1, a2, a3, a4⟩ := arr_put h.arr hp h.oc h.le h.bg ho hg 3
  have hs : W1.grownBy (W1.setCell ⟨g, 3, none⟩ c') (some g) := grown_set (a := W1) (b := W1) ⟨rfl, rfl, rfl, Nat.le_refl _, fun _ _ _ => rfl⟩ 3 _
  have ok1 := h.s2.symm.keeps h.ok hg
  have ov1 := h.s3.symm.keeps h.ov hg
  refine ⟨c', W1, hr, a1, ⟨a2, h.bg, ok1.kept hs (.inr (arr_not_row a1 hk ok1)), ov1.kept hs (.inr (arr_not_row a1 hk ov1)), by simpa using a3, h.s1, (h.s2.symm.grown h.ok ha).symm, (h.s3.symm.grown h.ov ha).symm⟩, ⟨Nat.le_trans hg.size hs.size, fun b hb hf => ⟨?_, hf.1, hf.2.1, hf.2.2.1, fun e => ?_⟩⟩, a4⟩
  · rw [hs.block b (Nat.lt_of_lt_of_le hb hg.size) (by simpa using hf.1)]
    exact hg.block b hb (fun e => hf.2.2.2 e.symm)
  · rcases ha b e with h1 | h1
    · exact hf.2.2.2 h1
    · omega
/-- The node's own blocks are as they were. -/
theorem NB.on {w : World} (h : NB W base g t pe L k v c ks vs us) (hw : ∀ b, base ≤ b → b < W.heap.size → w.heap[b]? = W.heap[b]?) : NB w base g t pe L k v c ks vs us :=
  ⟨(hw g h.bg h.arr.lt).trans h.arr, h.bg, row_kept h.ok fun b hb => hw b (h.ok.lt b hb).1 (h.ok.lt b hb).2, row_kept h.ov fun b hb => hw b (h.ov.lt b hb).1 (h.ov.lt b hb).2, row_kept h.oc fun b hb => hw b (h.oc.lt b hb).1 (h.oc.lt b hb).2, h.s1, h.s2, h.s3⟩
/-- It is made. -/
theorem NB.tree {W : World} {L : Nat} {ks vs : List Part} {l : List It} {segs : List (List It)} {xs : List It} (h : NB W base g t pe L k v c (ks.map Part.val) (vs.map Part.val) us) (hks : ∀ q ∈ ks, Sl W q.ao q.n q.cap q.xs) (hvs : ∀ q ∈ vs, Sl W q.ao q.n q.cap q.xs)
    (hs : Shp lev l L segs xs) (ek : ks.map Part.xs = xs.map It.k) (ev : vs.map Part.xs = xs.map It.v) (kid : Kids W us segs) : T W (.pointer (some ⟨g, 0, none⟩)) l := by
  obtain ⟨ko, kc, rfl, K, -⟩ := VL.own h.ok
  obtain ⟨vo, vc, rfl, V, -⟩ := VL.own h.ov
  obtain ⟨co, cc, rfl, C, -⟩ := VL.own h.oc
  exact T.make h.arr ⟨K, hks⟩ ⟨V, hvs⟩ C hs ek ev kid
end
end Go.Proofs.YtiabdcejibeciaaDoor

namespace Go.Proofs.YtiabdcejibeciaaDoor
open Go.RowKit

/-- An item in memory. -/
structure IP where
  k : Part
  v : Part
def IP.it (q : IP) : It := ⟨q.k.xs, q.v.xs⟩
def IP.ok (w : World) (q : IP) : Prop := Sl w q.k.ao q.k.n q.k.cap q.k.xs ∧ Sl w q.v.ao q.v.n q.v.cap q.v.xs
theorem IP.ok.below {w w' : World} {q : IP} (h : q.ok w) (hb : Below w.heap.size w w') : q.ok w' := ⟨h.1.below hb, h.2.below hb⟩
/-- The slice at ao, of n items, up to cap, holds its. -/
structure IL (w : World) (ao : Option Addr) (n cap : Nat) (its : List IP) : Prop where
  len : its.length = n
  le : n ≤ cap
  mx : cap ≤ maxLen
  nil : ao = none → n = 0 ∧ cap = 0
  cell : ∀ a, ao = some a → ∀ i (h : i < its.length), w.cell? (a.add (i * 2)) = some its[i].k.val ∧ w.cell? (a.add (i * 2 + 1)) = some its[i].v.val
  sl : ∀ q ∈ its, q.ok w
theorem IL.below {w w' : World} {ao : Option Addr} {n cap : Nat} {its : List IP} (h : IL w ao n cap its) (hb : Below w.heap.size w w') : IL w' ao n cap its :=
  ⟨h.len, h.le, h.mx, h.nil, fun a ha i hi => by
    obtain ⟨h1, h2⟩ := h.cell a ha i hi
    exact ⟨(hb.cell (World.block_lt_of_cell? w _ h1)).trans h1, (hb.cell (World.block_lt_of_cell? w _ h2)).trans h2⟩, fun q hq => (h.sl q hq).below hb⟩
theorem IL.at {w : World} {ao : Option Addr} {n cap : Nat} {its : List IP} (h : IL w ao n cap its) (hn : 0 < n) :
    ∃ b off, ao = some ⟨b, off, none⟩ ∧ ∀ i (hi : i < its.length), w.cell? ⟨b, off + i * 2, none⟩ = some its[i].k.val ∧ w.cell? ⟨b, off + i * 2 + 1, none⟩ = some its[i].v.val := by
  have hl := h.len
  cases ao with
  | none => have := (h.nil rfl).1; omega
  | some a =>
    obtain ⟨b, off, spot⟩ := a
    have hc := (h.cell _ rfl 0 (by omega)).1
    have hs : spot = none := by simpa [Addr.add] using World.cell?_spot hc
    subst hs
    exact ⟨b, off, rfl, fun i hi => by have := h.cell _ rfl i hi; rw [Addr.add_lit, Addr.add_lit, ← Nat.add_assoc] at this; exact this⟩
theorem IL.nothing (w : World) : IL w none 0 0 [] := ⟨rfl, Nat.le_refl _, Nat.zero_le _, fun _ => ⟨rfl, rfl⟩, fun _ h => by simp at h, fun _ h => by simp at h⟩
theorem IL.one (w : World) (q : IP) (h : q.ok w) (t : TypeId) : IL (w.alloc (.cells #[q.k.val, q.v.val] t)) (some ⟨w.heap.size, 0, none⟩) 1 1 [q] := by
  refine ⟨rfl, Nat.le_refl _, by simp [maxLen], fun h => by simp at h, fun a ha i hi => ?_, fun r hr => ?_⟩
  · obtain rfl := Option.some.inj ha
    obtain rfl : i = 0 := by simpa using hi
    rw [Addr.add_lit, Addr.add_lit]
    exact ⟨cell_of_row _ _ 0 _ _ _ (heap_alloc_new w _), cell_of_row _ _ 1 _ _ _ (heap_alloc_new w _)⟩
  · rw [List.mem_singleton.1 hr]
    exact h.below ((Below.refl _ w).alloc (Nat.le_refl _) _)

/-- What stands against some items. -/
def badK (n : Nat) : Bool := decide (n < 1 ∨ 256 < n)
def jL : List IP → Int → Int
  | [], acc => acc
  | q :: qs, acc => if badK q.k.n then 5 else jL qs (if 1024 < q.v.n then 4 else acc)

set_option maxHeartbeats 4000000 in
set_option maxRecDepth 100000 in
theorem judge_any (w : World) (ao : Option Addr) (n cap : Nat) (its : List IP) (h : IL w ao n cap its) (hn : n ≤ 1000000) (hb : ∀ q ∈ its, q.k.n ≤ 1000000 ∧ q.v.n ≤ 1000000) :
    Calls Tryd.prog 24 #[.slice ao n cap] w fun e w' => e = .returned (.int .i64 (jL its 0)) ∧ Below w.heap.size w w' := by
  have hl := h.len
  have hni : (n : Int) ≤ 1000000 := by omega
  go_enter Tryd.func24, Tryd.ntmps24
  go_wp2
  go_loopw [3, 8] (fun a i wr => ∃ (k : Nat) (acc : Int), k ≤ n ∧ i = .int .i64 k ∧ a = .int .i64 acc ∧ jL (its.drop k) acc = jL its 0 ∧ Below w.heap.size w wr) (fun _ i _ => n - (intOf i).toNat)
  case atStart => exact ⟨0, 0, Nat.zero_le _, rfl, rfl, rfl, Below.refl _ _⟩
  case round =>
    obtain ⟨k, acc, hk, rfl, rfl, hj, hB⟩ := hrel
    have HJ : Hid (jL (its.drop k) acc = jL its 0) := hj
    clear hj
    by_cases hlt : k < n
    · have hki : (k : Int) < (n : Int) := by omega
      have hkl : k < its.length := by omega
      obtain ⟨b, off, rfl, hc⟩ := (h.below hB).at (by omega)
      obtain ⟨c1, c2⟩ := hc k hkl
      have hq := hb its[k] (List.getElem_mem hkl)
      have HD : Hid (its.drop k = its[k] :: its.drop (k + 1)) := List.drop_eq_getElem_cons hkl
      obtain ⟨q, hqe⟩ : ∃ q, q = its[k] := ⟨_, rfl⟩
      rw [← hqe] at c1 c2 hq HD
      obtain ⟨q1, q2⟩ := hq
      unfold Part.val at c1 c2
      clear hc hqe
      by_cases h1 : q.k.n < 1
      · have h1' : (q.k.n : Int) < 1 := by omega
        have HR : Hid (jL its 0 = 5) := by
          show _ = _
          rw [← HJ.out, HD.out, jL, if_pos (by simp [badK]; omega)]
        go_wp2
        go_ret
        refine ⟨?_, hB.alloc hB.size _⟩
        rw [HR.out]
        rfl
      have h1' : ¬ (q.k.n : Int) < 1 := by omega
      by_cases h2 : 256 < q.k.n
      · have h2' : (256 : Int) < (q.k.n : Int) := by omega
        have HR : Hid (jL its 0 = 5) := by
          show _ = _
          rw [← HJ.out, HD.out, jL, if_pos (by simp [badK]; omega)]
        go_wp2
        go_ret
        refine ⟨?_, hB.alloc hB.size _⟩
        rw [HR.out]
        rfl
      have h2' : ¬ (256 : Int) < (q.k.n : Int) := by omega
      have HB : Hid (badK q.k.n = false) := by show _ = _; simp [badK]; omega
      by_cases h3 : 1024 < q.v.n
      · have h3' : (1024 : Int) < (q.v.n : Int) := by omega
        go_wp2
        go_roundw
        case rel =>
          refine ⟨k + 1, 4, by omega, by go_num, rfl, ?_, hB.alloc hB.size _⟩
          rw [← HJ.out, HD.out, jL, HB.out, if_pos h3]
          rfl
        case measure => simp [intOf]; omega
      · have h3' : ¬ (1024 : Int) < (q.v.n : Int) := by omega
        go_wp2
        go_roundw
        case rel =>
          refine ⟨k + 1, acc, by omega, by go_num, rfl, ?_, hB.alloc hB.size _⟩
          rw [← HJ.out, HD.out, jL, HB.out, if_neg h3]
          rfl
        case measure => simp [intOf]; omega
    · have hge : ¬ (k : Int) < (n : Int) := by omega
      have HR : Hid (jL its 0 = acc) := by
        show _ = _
        rw [← HJ.out, List.drop_eq_nil_of_le (by omega)]
        rfl
      go_wp2
      go_ret
      refine ⟨?_, hB⟩
      rw [HR.out]
      rfl
end Go.Proofs.YtiabdcejibeciaaDoor

namespace Go.Proofs.YtiabdcejibeciaaDoor
open Go.RowKit

/-- Items of which i are gone through, the last segment not closed yet. -/
structure Prt (lv : List Int → Nat) (L : Nat) (l : List It) (i fr : Nat) (segs : List (List It)) (xs : List It) : Prop where
  le : fr ≤ i
  hi : i ≤ l.length
  len : segs.length = xs.length
  eq : l.take fr = wvA segs xs
  top : ∀ x ∈ xs, lv x.k = L
  low : ∀ s ∈ segs, ∀ x ∈ s, lv x.k < L
  cur : ∀ j (h : j < l.length), fr ≤ j → j < i → lv l[j].k < L
section
variable {lv : List Int → Nat} {L : Nat} {l : List It} {i fr : Nat} {segs : List (List It)} {xs : List It}
theorem Prt.start (lv : List Int → Nat) (L : Nat) (l : List It) : Prt lv L l 0 0 [] [] :=
  ⟨Nat.le_refl _, Nat.zero_le _, rfl, rfl, fun x h => by simp at h, fun s h => by simp at h, fun j h _ h' => by omega⟩
theorem wvA_many : ∀ (P : List (List It)) (xs : List It), P.length = xs.length → P.length ≤ (wvA P xs).length
  | [], _, _ => by simp
  | _ :: _, [], h => by simp at h
  | s :: P, x :: xs, h => by
    have := wvA_many P xs (by simpa using h)
    simp only [wvA, List.length_append, List.length_cons]
    omega
theorem Prt.many (h : Prt lv L l i fr segs xs) : segs.length ≤ i := by
  have h1 := wvA_many segs xs h.len
  have h2 := h.le
  rw [← h.eq, List.length_take] at h1
  omega
theorem Prt.skip (h : Prt lv L l i fr segs xs) (hi : i < l.length) (hl : lv l[i].k < L) : Prt lv L l (i + 1) fr segs xs :=
  ⟨by have := h.le; omega, hi, h.len, h.eq, h.top, h.low, fun j hj h1 h2 => by
    by_cases hji : j = i
    · subst hji; exact hl
    · exact h.cur j hj h1 (by omega)⟩
theorem Prt.seg (h : Prt lv L l i fr segs xs) : ∀ x ∈ (l.take i).drop fr, lv x.k < L := fun x hx => by
  obtain ⟨j, hj, rfl⟩ := List.mem_iff_getElem.1 hx
  simp only [List.length_drop, List.length_take] at hj
  rw [List.getElem_drop, List.getElem_take]
  exact h.cur (fr + j) (by omega) (by omega) (by omega)
theorem Prt.take (h : Prt lv L l i fr segs xs) (hi : i < l.length) (hl : lv l[i].k = L) : Prt lv L l (i + 1) (i + 1) (segs ++ [(l.take i).drop fr]) (xs ++ [l[i]]) := by
  refine ⟨Nat.le_refl _, hi, by simp [h.len], ?_, fun x hx => ?_, fun s hs x hx => ?_, fun j hj h1 h2 => by omega⟩
  · rw [wvA_app _ _ _ _ h.len, ← h.eq]
    simp only [wvA]
    rw [List.take_succ_eq_append_getElem hi, ← List.append_assoc]
    congr 1
    have hle := h.le
    have : l.take fr = (l.take i).take fr := by rw [List.take_take, Nat.min_eq_left hle]
    rw [this, List.take_append_drop]
  · rcases List.mem_append.1 hx with hx | hx
    · exact h.top x hx
    · rw [List.mem_singleton.1 hx]; exact hl
  · rcases List.mem_append.1 hs with hs | hs
    · exact h.low s hs x hx
    · rw [List.mem_singleton.1 hs] at hx
      exact h.seg x hx
theorem Prt.pos (h : Prt lv L l l.length fr segs xs) (ha : ∃ x ∈ l, lv x.k = L) : 0 < fr := by
  cases fr with
  | succ n => omega
  | zero =>
    exfalso
    obtain ⟨x, hx, hxl⟩ := ha
    obtain ⟨j, hj, rfl⟩ := List.mem_iff_getElem.1 hx
    have := h.cur j hj (Nat.zero_le _) hj
    omega
theorem Prt.done (h : Prt lv L l l.length fr segs xs) (ha : ∃ x ∈ l, lv x.k = L) : Shp lv l L (segs ++ [l.drop fr]) xs := by
  have hlast : ∀ x ∈ l.drop fr, lv x.k < L := by
    have := h.seg
    rwa [List.take_length] at this
  have heq : l = weave (segs ++ [l.drop fr]) xs := by
    have := weave_app segs [l.drop fr] xs [] h.len
    rw [List.append_nil] at this
    rw [this, ← h.eq]
    simp only [weave]
    rw [List.take_append_drop]
  refine ⟨by simp [h.len], ?_, heq, h.top, fun s hs x hx => ?_⟩
  · obtain ⟨x, hx, hxl⟩ := ha
    cases xs with
    | cons y ys => simp
    | nil =>
      exfalso
      have hs0 : segs = [] := List.eq_nil_of_length_eq_zero h.len
      subst hs0
      have h0 := h.eq
      simp only [wvA] at h0
      rw [← List.take_append_drop fr l, h0, List.nil_append] at hx
      have := hlast x hx
      omega
  · rcases List.mem_append.1 hs with hs | hs
    · exact h.low s hs x hx
    · rw [List.mem_singleton.1 hs] at hx
      exact hlast x hx
end

/-- Bytes hang on the blocks that stood. -/
theorem Sl.on {w w' : World} {ao : Option Addr} {n cap : Nat} {xs : List Int} (h : Sl w ao n cap xs) (hb : ∀ b, b < w.heap.size → w'.heap[b]? = w.heap[b]?) : Sl w' ao n cap xs := by
  refine ⟨h.len, h.le, h.mx, h.nil, fun a ha i hi => ?_, h.byte⟩
  have hc := h.cell a ha i hi
  rw [← hc]
  exact World.cell?_of_block (hb _ (World.block_lt_of_cell? w _ hc))

/-- Kids of a node that is being made. -/
structure KidsF (W : World) (m n g : Nat) (k v c : Value) (us : List Value) (segs : List (List It)) : Prop where
  len : us.length = segs.length
  kid : ∀ (i : Nat) (s : List It), segs[i]? = some s → ∃ u, us[i]? = some u ∧ Far W m n g k v c fun w => T w u s
section
variable {W W' : World} {m n g : Nat} {k v c k' v' c' : Value} {us : List Value} {segs : List (List It)}
theorem KidsF.nil (W : World) (m n g : Nat) (k v c : Value) : KidsF W m n g k v c [] [] := ⟨rfl, fun i s h => by simp at h⟩
theorem KidsF.chg (h : KidsF W m n g k v c us segs) (hc : Chg W W' g k v c k' v' c') : KidsF W' m n g k' v' c' us segs :=
  ⟨h.len, fun i s hi => by obtain ⟨u, hu, hf⟩ := h.kid i s hi; exact ⟨u, hu, hf.chg hc⟩⟩
theorem KidsF.app (h : KidsF W m n g k v c us segs) {u : Value} {s : List It} (hu : Far W m n g k v c fun w => T w u s) : KidsF W m n g k v c (us ++ [u]) (segs ++ [s]) := by
  refine ⟨by simp [h.len], fun i t hi => ?_⟩
  have hl := h.len
  by_cases hlt : i < segs.length
  · rw [List.getElem?_append_left hlt] at hi
    rw [List.getElem?_append_left (by omega)]
    exact h.kid i t hi
  · rw [List.getElem?_append_right (by omega)] at hi
    rw [List.getElem?_append_right (by omega)]
    cases hj : i - segs.length with
    | zero =>
      rw [hj] at hi
      rw [hl, hj]
      simp only [List.getElem?_cons_zero, Option.some.injEq] at hi ⊢
      subst hi
      exact ⟨u, rfl, hu⟩
    | succ j => rw [hj] at hi; simp at hi
theorem KidsF.end (h : KidsF W m n g k v c us segs) {w : World} (hw : ∀ b, (b < m ∨ n ≤ b) → b < W.heap.size → w.heap[b]? = W.heap[b]?) : Kids w us segs :=
  ⟨h.len, fun i s hi => by obtain ⟨u, hu, hf⟩ := h.kid i s hi; exact ⟨u, hu, hf.end hw⟩⟩
end

/-- A leaf in memory. -/
structure LP where
  L : Nat
  k : Part
  v : Part
def LP.it (q : LP) : It := ⟨q.k.xs, q.v.xs⟩
/-- Its bytes, and its level is its key's. -/
def LP.ok (w : World) (q : LP) : Prop := Sl w q.k.ao q.k.n q.k.cap q.k.xs ∧ Sl w q.v.ao q.v.n q.v.cap q.v.xs ∧ q.L = lev q.k.xs
/-- The slice at ao, of n leaves, up to cap, holds ls. -/
structure LL (w : World) (ao : Option Addr) (n cap : Nat) (ls : List LP) : Prop where
  len : ls.length = n
  le : n ≤ cap
  mx : cap ≤ maxLen
  nil : ao = none → n = 0 ∧ cap = 0
  cell : ∀ a, ao = some a → ∀ i (h : i < ls.length), w.cell? (a.add (i * 3)) = some (.int .i64 ls[i].L) ∧ w.cell? (a.add (i * 3 + 1)) = some ls[i].k.val ∧ w.cell? (a.add (i * 3 + 2)) = some ls[i].v.val
theorem LL.below {w w' : World} {ao : Option Addr} {n cap : Nat} {ls : List LP} (h : LL w ao n cap ls) (hb : Below w.heap.size w w') : LL w' ao n cap ls :=
  ⟨h.len, h.le, h.mx, h.nil, fun a ha i hi => by
    obtain ⟨h1, h2, h3⟩ := h.cell a ha i hi
    exact ⟨(hb.cell (World.block_lt_of_cell? w _ h1)).trans h1, (hb.cell (World.block_lt_of_cell? w _ h2)).trans h2, (hb.cell (World.block_lt_of_cell? w _ h3)).trans h3⟩⟩
theorem LL.at {w : World} {ao : Option Addr} {n cap : Nat} {ls : List LP} (h : LL w ao n cap ls) (hn : 0 < n) :
    ∃ b off, ao = some ⟨b, off, none⟩ ∧ ∀ i (hi : i < ls.length), w.cell? ⟨b, off + i * 3, none⟩ = some (.int .i64 ls[i].L) ∧ w.cell? ⟨b, off + i * 3 + 1, none⟩ = some ls[i].k.val ∧ w.cell? ⟨b, off + i * 3 + 2, none⟩ = some ls[i].v.val := by
  have hl := h.len
  cases ao with
  | none => have := (h.nil rfl).1; omega
  | some a =>
    obtain ⟨b, off, spot⟩ := a
    have hc := (h.cell _ rfl 0 (by omega)).1
    have hs : spot = none := by simpa [Addr.add] using World.cell?_spot hc
    subst hs
    exact ⟨b, off, rfl, fun i hi => by have := h.cell _ rfl i hi; rw [Addr.add_lit, Addr.add_lit, Addr.add_lit, ← Nat.add_assoc, ← Nat.add_assoc] at this; exact this⟩
theorem leafInfo : (Tryd.prog.info? 61).map (fun i => (i.zero, i.size, i.bytes)) = some (some (.agg #[.int .i64 0, .slice none 0 0, .slice none 0 0]), 3, 56) := by kernel_rfl
theorem size3 (w : World) : (sizeOf 61).run Tryd.prog w = .ok 3 w := by
  have hI := leafInfo
  cases hi : Tryd.prog.info? 61 with
  | none => rw [hi] at hI; simp at hI
  | some i =>
    rw [hi] at hI
    simp only [Option.map_some, Option.some.injEq, Prod.mk.injEq] at hI
    simp [sizeOf, typeInfo, hi, hI.2.1]
/-- Where l[j:..:c] lies. -/
def bk3 (ao : Option Addr) (c j : Nat) : Option Addr := if c = j then ao else ao.map (·.add (j * 3))
/-- l[j:] -/
theorem run_back3 {W : World} {ao : Option Addr} {n cap j : Nat} (h1 : j ≤ n) :
    (Instr.sliceAt 64 (.slice ao n cap) (some (.int .i64 (j : Nat))) none none).run Tryd.prog W = .ok (.slice (bk3 ao cap j) (n - j) (cap - j)) W := by
  have ht := Tryd.underlying64
  have he : Tryd.prog.elem 64 = 61 := by simp [Program.elem, ht]
  rw [run_sliceAt_slice W 64 _ _ _ _ (by rw [he]; exact ht), run_slice_l W 64 ao n cap (by rw [he]; exact ht) .i64 j (by omega) (by omega), he, size3]
  simp only [Result.andThen_ok, sliced, Int.toNat_natCast, bk3]
/-- l[j:i:i] -/
theorem run_mid3 {W : World} {ao : Option Addr} {n cap j i : Nat} (h1 : j ≤ i) (h2 : i ≤ cap) :
    (Instr.sliceAt 64 (.slice ao n cap) (some (.int .i64 (j : Nat))) (some (.int .i64 (i : Nat))) (some (.int .i64 (i : Nat)))).run Tryd.prog W = .ok (.slice (bk3 ao i j) (i - j) (i - j)) W := by
  have ht := Tryd.underlying64
  have he : Tryd.prog.elem 64 = 61 := by simp [Program.elem, ht]
  rw [run_sliceAt_slice W 64 _ _ _ _ (by rw [he]; exact ht), run_slice_lhm W 64 ao n cap (by rw [he]; exact ht) .i64 .i64 .i64 j i i (by omega) (by omega) (by omega) (by omega), he, size3]
  simp only [Result.andThen_ok, sliced, Int.toNat_natCast, bk3]
theorem LL.part {w : World} {ao : Option Addr} {n cap : Nat} {ls : List LP} (h : LL w ao n cap ls) {j i c : Nat} (hj : j ≤ i) (hi : i ≤ n) (hc : i ≤ c) (hcc : c ≤ cap) : LL w (bk3 ao c j) (i - j) (c - j) ((ls.take i).drop j) := by
  have h1 := h.len
  have h2 := h.mx
  refine ⟨by simp; omega, by omega, by omega, fun hn => ?_, fun b hb p hp => ?_⟩
  · unfold bk3 at hn
    by_cases he : c = j
    · omega
    · rw [if_neg he] at hn
      have := h.nil (by simpa using hn)
      omega
  · simp only [List.length_drop, List.length_take] at hp
    have he : c ≠ j := by omega
    unfold bk3 at hb
    rw [if_neg he] at hb
    cases ao with
    | none => simp at hb
    | some a =>
      have hb' : a.add (j * 3) = b := by simpa using hb
      have := h.cell a rfl (j + p) (by omega)
      rw [← hb', Addr.add_add, Addr.add_add, Addr.add_add, List.getElem_drop, List.getElem_take, ← Nat.add_mul, ← Nat.add_assoc, ← Nat.add_assoc, ← Nat.add_mul]
      exact this
/-- What shape answers: a tree that hangs on the bytes' blocks and on new ones alone. -/
def OnT (m : Nat) (w : World) (l : List It) (e : Ending) (w' : World) : Prop := ∃ v, e = .returned (.pointer v) ∧ On w' m w.heap.size (fun W => T W (.pointer v) l) ∧ Below w.heap.size w w'
theorem OnT.nil (m : Nat) (w : World) : OnT m w [] (.returned (.pointer none)) w := ⟨none, rfl, fun W _ => T.nil W, Below.refl _ _⟩
/-- All is made. -/
theorem NB.onT {W w0 : World} {base g : Nat} {t pe : TypeId} {k v c : Value} {us : List Value} {L : Nat} {ks vs : List Part} {l : List It} {segs : List (List It)} {xs : List It} (h : NB W base g t pe L k v c (ks.map Part.val) (vs.map Part.val) us)
    (hm : w0.heap.size ≤ W.heap.size) (h0 : ∀ b, b < w0.heap.size → W.heap[b]? = w0.heap[b]?) (hks : ∀ q ∈ ks, Sl w0 q.ao q.n q.cap q.xs) (hvs : ∀ q ∈ vs, Sl w0 q.ao q.n q.cap q.xs)
    (hs : Shp lev l L segs xs) (ek : ks.map Part.xs = xs.map It.k) (ev : vs.map Part.xs = xs.map It.v) (kid : KidsF W w0.heap.size base g k v c us segs) : On W w0.heap.size base fun w => T w (.pointer (some ⟨g, 0, none⟩)) l := fun w hw => by
  have hw0 : ∀ b, b < w0.heap.size → w.heap[b]? = w0.heap[b]? := fun b hb => (hw b (.inl hb) (by omega)).trans (h0 b hb)
  exact (h.on (fun b h1 h2 => hw b (.inr h1) h2)).tree (fun q hq => (hks q hq).on hw0) (fun q hq => (hvs q hq).on hw0) hs ek ev (kid.end hw)
end Go.Proofs.YtiabdcejibeciaaDoor

namespace Go.Proofs.YtiabdcejibeciaaDoor
open Go.RowKit

theorem own_nothing (w : World) : (w.alloc (.cells #[] 5)).ownsRow w.heap.size 5 1 (.slice (some ⟨w.heap.size, 0, none⟩) 0 0) 0 (bv []) :=
  World.ownsRow_made w #[] 0 (Nat.le_refl _) (Nat.zero_le _) rfl
/-- Bytes in new memory are answered. -/
def RetB (w : World) (n : Nat) (xs : List Int) (e : Ending) (w' : World) : Prop := ∃ ro rc, e = .returned (.slice ro n rc) ∧ Sl w' ro n rc xs ∧ Below w.heap.size w w'

set_option maxHeartbeats 400000 in
set_option maxRecDepth 100000 in
theorem own_any (w : World) (ao : Option Addr) (n cap : Nat) (xs : List Int) (h : Sl w ao n cap xs) (hn : n ≤ 1000000) :
    Calls Tryd.prog 29 #[.slice ao n cap] w (RetB w n xs) := by
  have B0 : Below w.heap.size w (w.alloc (.cells #[] 5)) := (Below.refl _ w).alloc (Nat.le_refl _) _
  have h0 := h.below B0
  have o0 := own_nothing w
  have hb := h.byte
  go_enter Tryd.func29, Tryd.ntmps29
  go_wp2_with (at_builtin; refine wpList_app rfl _ _ rfl w.heap.size _ _ _ rfl o0 _ _ _ _ rfl h0 (by omega) (by simp) ?_; intro v1 w1 own1 B1)
  simp only [Nat.zero_add, List.nil_append] at own1
  obtain ⟨ro, rc, rfl, S, -⟩ := Sl.own own1 hb
  go_wp2
  go_ret
  exact ⟨ro, rc, rfl, S, B0.trans B1⟩

/-- The value v is a tree (a handle) of the items l. -/
def TT (w : World) (v : Value) (l : List It) : Prop := (v = .pointer none ∧ l = []) ∨ ∃ b u, v = .pointer (some ⟨b, 0, none⟩) ∧ w.cell? ⟨b, 0, none⟩ = some u ∧ T w u l ∧ l ≠ []
theorem TT.nil (w : World) : TT w (.pointer none) [] := .inl ⟨rfl, rfl⟩
theorem TT.below {w w' : World} {v : Value} {l : List It} (h : TT w v l) (hb : Below w.heap.size w w') : TT w' v l := by
  rcases h with h | ⟨b, u, rfl, hc, ht, hl⟩
  · exact .inl h
  · exact .inr ⟨b, u, rfl, (hb.cell (World.block_lt_of_cell? _ _ hc)).trans hc, ht.below hb, hl⟩
theorem TT.ptr {w : World} {v : Value} {l : List It} (h : TT w v l) : ∃ po, v = .pointer po := by
  rcases h with ⟨rfl, _⟩ | ⟨b, u, rfl, _⟩
  · exact ⟨_, rfl⟩
  · exact ⟨_, rfl⟩
/-- A tree is answered, in new memory. -/
def RetTT (w : World) (l : List It) (e : Ending) (w' : World) : Prop := ∃ v, e = .returned v ∧ TT w' v l ∧ Below w.heap.size w w'

set_option maxHeartbeats 400000 in
set_option maxRecDepth 100000 in
theorem treeOf_any (w : World) (v : Value) (l : List It) (h : T w v l) : Calls Tryd.prog 25 #[v] w (RetTT w l) := by
  rcases h.is with ⟨rfl, rfl⟩ | ⟨d, segs, xs, rfl, hN⟩
  · go_enter Tryd.func25, Tryd.ntmps25
    go_wp2
    go_ret
    exact ⟨_, rfl, TT.nil _, Below.refl _ _⟩
  · have hne : l ≠ [] := by
      intro e
      subst e
      have h0 := hN.shp.pos
      have := hN.shp.key xs[0] (List.getElem_mem h0)
      simp at this
    unfold Nd.ptr at h ⊢
    go_enter Tryd.func25, Tryd.ntmps25
    go_wp2
    go_ret
    have B : Below w.heap.size w (w.alloc (.cells #[.pointer (some ⟨d.b, 0, none⟩)] 95)) := (Below.refl _ w).alloc (Nat.le_refl _) _
    exact ⟨_, rfl, .inr ⟨_, _, rfl, cell_one_new _ _ _ 0 _ (by simp), h.below B, hne⟩, B⟩

set_option maxHeartbeats 400000 in
set_option maxRecDepth 100000 in
theorem shared_any (w : World) (v : Value) (l : List It) (h : TT w v l) : Calls Tryd.prog 27 #[v] w fun e w' => ∃ po, e = .returned (.pointer po) ∧ T w (.pointer po) l ∧ w' = w := by
  rcases h with ⟨rfl, rfl⟩ | ⟨b, u, rfl, hc, ht, hl⟩
  · go_enter Tryd.func27, Tryd.ntmps27
    go_wp2
    go_ret
    exact ⟨_, rfl, T.nil _, rfl⟩
  · obtain ⟨po, rfl⟩ := ht.ptr
    go_enter Tryd.func27, Tryd.ntmps27
    go_wp2
    go_ret
    exact ⟨_, rfl, ht, rfl⟩
end Go.Proofs.YtiabdcejibeciaaDoor

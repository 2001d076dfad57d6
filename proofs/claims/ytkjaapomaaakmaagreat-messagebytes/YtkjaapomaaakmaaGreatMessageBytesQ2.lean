/-
  Texts in one: FlatL, BsBlk, Own2, GRow, SvD, SgMem.
-/
import Derived.Test.YtkjaapomaaakmaaGreatMessageBytesQ0
namespace Go.Proofs.YtkjaapomaaakmaaGreat
open Go.RowKit
theorem flat_get {α : Type} (f : α → List Value) (s : Nat) (hs : ∀ x, (f x).length = s) : ∀ (l : List α) (i j : Nat) (hi : i < l.length), j < s → (l.map f).flatten[i * s + j]? = (f l[i])[j]?
 | [], i, _, hi, _ => by simp at hi
 | a :: l, 0, j, _, hj => by
  rw [List.map_cons, List.flatten_cons, Nat.zero_mul, Nat.zero_add, List.getElem?_append_left (by rw [hs]; exact hj)]
  rfl
 | a :: l, i + 1, j, hi, hj => by
  have e : (i + 1) * s + j = s + (i * s + j) := by rw [Nat.add_mul]; omega
  rw [List.map_cons, List.flatten_cons, e, List.getElem?_append_right (by rw [hs]; omega), hs, Nat.add_sub_cancel_left]
  exact flat_get f s hs l i j (by simpa using hi) hj
theorem flat_len {α : Type} (f : α → List Value) (s : Nat) (hs : ∀ x, (f x).length = s) : ∀ l : List α, (l.map f).flatten.length = l.length * s
 | [] => by simp
 | a :: l => by
  rw [List.map_cons, List.flatten_cons, List.length_append, hs, flat_len f s hs l, List.length_cons, Nat.add_mul]
  omega
def sblk (ao : Option Addr) (n x : Nat) : Prop := ∃ a, ao = some a ∧ 0 < n ∧ a.block = x
open Go.RowKit
def Bs.blk (b : Bs) (x : Nat) : Prop := ∃ a, b.ao = some a ∧ 0 < b.n ∧ a.block = x
theorem Sl.blk_lt {w : World} {b : Bs} (h : Sl w b.ao b.n b.cap b.xs) {x : Nat} (hx : b.blk x) : x < w.heap.size := by
 obtain ⟨a, ha, hn, rfl⟩ := hx
 exact h.lt a ha hn
theorem Sl.kept {w w' : World} {b : Bs} (h : Sl w b.ao b.n b.cap b.xs) (hk : ∀ x, b.blk x → w'.heap[x]? = w.heap[x]?) : Sl w' b.ao b.n b.cap b.xs := by
 refine ⟨h.len, h.le, h.mx, h.nil, fun a ha i hi => ?_, h.byte⟩
 have hb : (a.add i).block = a.block := by unfold Addr.add; split <;> rfl
 rw [← h.cell a ha i hi]
 exact World.cell?_of_block (by rw [hb]; exact hk _ ⟨a, ha, by omega, rfl⟩)
open Go.RowKit
theorem run_append_own2 {P : Program} (w : World) (base : Nat) (t ty e : TypeId) (i : TypeInfo) (z : Value) (size bytes : Nat) (ht : P.underlying t = some (.slice e)) (hi : P.info? e = some i) (hz : i.zero = some z)
  (hsize : i.size = size) (hby : i.bytes = bytes) (hzs : z.cells.size = size) (hsz : 0 < size)
  (v : Value) (n : Nat) (xs : List Value) (hown : w.ownsRow base e size v n xs)
  (a : Addr) (m c : Nat) (news : List Value) (hl : news.length = m * size) (hnews : ∀ j u, news[j]? = some u → w.cell? (a.add j) = some u) (h1 : ∀ u ∈ news, u.oneCell' = true)
  (h63 : n + m ≤ maxLen) (hbytes : (n + m) * bytes ≤ 140737488355328) (hbase : base ≤ w.heap.size) :
  ∃ v' w', (Builtin.append_ #[t, t] ty #[v, .slice (some a) m c]).run P w = .ok v' w' ∧ w'.ownsRow base e size v' (n + m) (xs ++ news) ∧ w.grownBy w' v.ownBlock ∧
   ∀ g, v'.ownBlock = some g → v.ownBlock = some g ∨ w.heap.size ≤ g := by
 obtain ⟨v', w', hr, ho, hg, _⟩ := run_append_own (P := P) w base t ty e i z size bytes ht hi hz hsize hby hzs hsz v n xs hown a m c news hl hnews h1 h63 hbytes hbase
 refine ⟨v', w', hr, ho, hg, ?_⟩
 have hsmall : n + m ≤ 9223372036854775807 := by simp only [maxLen] at h63; omega
 subst hsize
 subst hby
 rcases hown.2 with ⟨rfl, rfl⟩ | ⟨g, cap, cur, rfl, hbg, hgc, hnc, hcm, hcs, htake⟩
 ·have hown2 : w.ownsRow w.heap.size e i.size (.slice none 0 0) 0 xs := ⟨hown.1, .inl ⟨rfl, rfl⟩⟩
  obtain ⟨v2, w2, hr2, ho2, _, _⟩ := run_append_own (P := P) w w.heap.size t ty e i z i.size i.bytes ht hi hz rfl rfl hzs hsz _ 0 xs hown2 a m c news hl hnews h1 h63 hbytes (Nat.le_refl _)
  rw [hr] at hr2
  simp only [Result.ok.injEq] at hr2
  obtain ⟨rfl, rfl⟩ := hr2
  intro g hgv
  exact .inr (ho2.lt g hgv).1
 ·by_cases hroom : n + m ≤ cap
  ·have hfit : n * i.size + news.length ≤ cur.size := by rw [hl, hcs, ← Nat.add_mul]; exact Nat.mul_le_mul_right _ hroom
   have hr2 := run_append_room (P := P) w t ty e i ht hi g n cap cur hgc a m c news hl hnews h1 hroom hfit
   rw [hr] at hr2
   simp only [Result.ok.injEq] at hr2
   obtain ⟨rfl, rfl⟩ := hr2
   intro g' hg'
   exact .inl hg'
  ·have holds : ∀ j u, xs[j]? = some u → w.cell? ((⟨g, 0, none⟩ : Addr).add j) = some u := hown.cells (g := g) rfl
   have hr2 := run_append_grow (P := P) w t ty e i z ht hi hz ⟨g, 0, none⟩ n cap xs hown.1 holds a m c news hl hnews (by omega) (by omega) (growslice_fits (by omega) hbytes)
   rw [hr] at hr2
   simp only [Result.ok.injEq] at hr2
   obtain ⟨rfl, rfl⟩ := hr2
   intro g' hg'
   simp only [Value.ownBlock, Option.some.injEq] at hg'
   exact .inr (by omega)
theorem own_kept {w w' : World} {base : Nat} {e : TypeId} {size : Nat} {v : Value} {n : Nat} {xs : List Value} (h : w.ownsRow base e size v n xs) (hb : ∀ g, v.ownBlock = some g → w'.heap[g]? = w.heap[g]?) : w'.ownsRow base e size v n xs := by
 refine ⟨h.1, ?_⟩
 rcases h.2 with c | ⟨g, cap, cur, rfl, a1, a2, a3, a4, a5, a6⟩
 ·exact .inl c
 ·exact .inr ⟨g, cap, cur, rfl, a1, (hb g rfl).trans a2, a3, a4, a5, a6⟩
end Go.Proofs.YtkjaapomaaakmaaGreat
namespace Go.Proofs.YtkjaapomaaakmaaGreat
open Go.RowKit
structure El (α : Type) where
 c : α → List Value
 sz : Nat
 ok : α → World → Prop
 blk : α → Nat → Prop
structure El.Fine {α : Type} (E : El α) : Prop where
 len : ∀ x, (E.c x).length = E.sz
 pos : 0 < E.sz
 one : ∀ x, ∀ u ∈ E.c x, u.oneCell' = true
 kept : ∀ x w w', E.ok x w → (∀ z, E.blk x z → w'.heap[z]? = w.heap[z]?) → E.ok x w'
 lt : ∀ x w z, E.ok x w → E.blk x z → z < w.heap.size
theorem El.Fine.below {α : Type} {E : El α} (F : E.Fine) {x : α} {w w' : World} (h : E.ok x w) (hb : Below w.heap.size w w') : E.ok x w' := F.kept x w w' h fun z hz => hb.block z (F.lt x w z h hz)
structure GL {α : Type} (E : El α) (w : World) (ao : Option Addr) (n cap : Nat) (l : List α) : Prop where
 len : l.length = n
 le : n ≤ cap
 mx : cap ≤ maxLen
 nil : ao = none → n = 0 ∧ cap = 0
 cell : ∀ a, ao = some a → ∀ i (h : i < l.length), ∀ j v, (E.c l[i])[j]? = some v → w.cell? (a.add (i * E.sz + j)) = some v
 ok : ∀ x ∈ l, E.ok x w
def GLb {α : Type} (E : El α) (ao : Option Addr) (n : Nat) (l : List α) (z : Nat) : Prop := sblk ao n z ∨ ∃ x ∈ l, E.blk x z
variable {α : Type} {E : El α} {w w' : World} {ao : Option Addr} {n cap : Nat} {l : List α}
theorem GL.kept (F : E.Fine) (h : GL E w ao n cap l) (hk : ∀ z, GLb E ao n l z → w'.heap[z]? = w.heap[z]?) : GL E w' ao n cap l := by
 refine ⟨h.len, h.le, h.mx, h.nil, fun a ha i hi j v hv => ?_, fun x hx => F.kept x w w' (h.ok x hx) fun z hz => hk z (.inr ⟨x, hx, hz⟩)⟩
 have hb : (a.add (i * E.sz + j)).block = a.block := by unfold Addr.add; split <;> rfl
 rw [← h.cell a ha i hi j v hv]
 exact World.cell?_of_block (by rw [hb]; exact hk _ (.inl ⟨a, ha, by have := h.len; omega, rfl⟩))
theorem GL.lt (F : E.Fine) (h : GL E w ao n cap l) {z : Nat} (hz : GLb E ao n l z) : z < w.heap.size := by
 rcases hz with ⟨a, ha, hn, rfl⟩ | ⟨x, hx, hz⟩
 ·have hl := h.len
  have hi : 0 < l.length := by omega
  have h1 : 0 < (E.c l[0]).length := by rw [F.len]; exact F.pos
  have h0 := h.cell a ha 0 hi 0 _ (List.getElem?_eq_getElem h1)
  have hlt := World.block_lt_of_cell? w _ h0
  have hb : (a.add (0 * E.sz + 0)).block = a.block := by unfold Addr.add; split <;> rfl
  rw [hb] at hlt
  exact hlt
 ·exact F.lt x w z (h.ok x hx) hz
theorem GL.below (F : E.Fine) (h : GL E w ao n cap l) (hb : Below w.heap.size w w') : GL E w' ao n cap l := h.kept F fun z hz => hb.block z (h.lt F hz)
theorem GL.nothing (E : El α) (w : World) : GL E w none 0 0 [] := ⟨rfl, Nat.le_refl _, Nat.zero_le _, fun _ => ⟨rfl, rfl⟩, fun _ _ _ hi => absurd hi (Nat.not_lt_zero _), fun _ h => absurd h List.not_mem_nil⟩
theorem GL.at (h : GL E w ao n cap l) (hn : 0 < n) : ∃ a, ao = some a := by
 match e : ao with
 | some a => exact ⟨a, rfl⟩
 | none => exact absurd (h.nil rfl).1 (by omega)
theorem GL.pl (F : E.Fine) (h : GL E w ao n cap l) (hn : 0 < n) : ∃ b off, ao = some ⟨b, off, none⟩ ∧ ∀ i (hi : i < l.length), ∀ j v, (E.c l[i])[j]? = some v → w.cell? ⟨b, off + i * E.sz + j, none⟩ = some v := by
 obtain ⟨⟨b, off, spot⟩, rfl⟩ := h.at hn
 have hl := h.len
 have h1 : 0 < (E.c (l[0]'(by omega))).length := by rw [F.len]; exact F.pos
 have hc := h.cell _ rfl 0 (by omega) 0 _ (List.getElem?_eq_getElem h1)
 have hs : spot = none := by simpa [Addr.add] using World.cell?_spot hc
 subst hs
 refine ⟨b, off, rfl, fun i hi j v hv => ?_⟩
 have := h.cell _ rfl i hi j v hv
 rw [Addr.add_lit] at this
 rw [Nat.add_assoc]
 exact this
structure LS (α : Type) where
 ao : Option Addr
 n : Nat
 cap : Nat
 l : List α
def El.lists (E : El α) : El (LS α) := ⟨fun s => [.slice s.ao s.n s.cap], 1, fun s w => GL E w s.ao s.n s.cap s.l, fun s z => GLb E s.ao s.n s.l z⟩
theorem El.Fine.lists (F : E.Fine) : E.lists.Fine := by
 refine ⟨fun _ => rfl, Nat.one_pos, fun x u hu => ?_, fun x w w' h hk => GL.kept F h hk, fun x w z h hz => GL.lt F h hz⟩
 have : u = .slice x.ao x.n x.cap := by simpa [El.lists] using hu
 rw [this]
 rfl
structure GTy (sz bytes : Nat) (z : Value) (t s : TypeId) : Prop where
 info : (Tryz.prog.info? t).map (fun i => (i.zero, i.size, i.bytes)) = some (some z, sz, bytes)
 zs : z.cells.size = sz
 und : Tryz.prog.underlying s = some (.slice t)
structure GI (E : El α) (t : TypeId) (W : World) (base : Nat) (v : Value) (ys : List α) : Prop where
 own : W.ownsRow base t E.sz v ys.length ((ys.map E.c).flatten)
 ok : ∀ y ∈ ys, E.ok y W
 far : ∀ y ∈ ys, ∀ x, E.blk y x → v.ownBlock ≠ some x
variable {t s : TypeId} {W W' : World} {base : Nat} {v : Value} {ys : List α}
theorem GI.nil (E : El α) (t : TypeId) (W : World) (base : Nat) : GI E t W base (.slice none 0 0) [] := ⟨World.ownsRow_nil _ _ _ _, fun _ h => by simp at h, fun _ h => by simp at h⟩
theorem GI.kept (F : E.Fine) (h : GI E t W base v ys) (hk : ∀ z, (v.ownBlock = some z ∨ ∃ y ∈ ys, E.blk y z) → W'.heap[z]? = W.heap[z]?) : GI E t W' base v ys :=
 ⟨own_kept h.own fun g hg => hk g (.inl hg), fun y hy => F.kept y W W' (h.ok y hy) fun z hz => hk z (.inr ⟨y, hy, hz⟩), h.far⟩
theorem GI.lt (F : E.Fine) (h : GI E t W base v ys) {z : Nat} (hz : v.ownBlock = some z ∨ ∃ y ∈ ys, E.blk y z) : z < W.heap.size := by
 rcases hz with hz | ⟨y, hy, hz⟩
 ·exact (h.own.lt z hz).2
 ·exact F.lt y W z (h.ok y hy) hz
theorem GI.below (F : E.Fine) (h : GI E t W base v ys) (hb : Below W.heap.size W W') : GI E t W' base v ys := h.kept F fun z hz => hb.block z (h.lt F hz)
theorem GI.app (F : E.Fine) {bytes : Nat} {z : Value} (hty : GTy E.sz bytes z t s) (h : GI E t W base v ys) (ty : TypeId) {a : Addr} {cp : Nat} {y : α} (hG : ∀ j u, (E.c y)[j]? = some u → W.cell? (a.add j) = some u) (he : E.ok y W) (hf : ∀ x, E.blk y x → v.ownBlock ≠ some x) (hn : (ys.length + 1) * bytes ≤ 140737488355328) (hm : ys.length + 1 ≤ maxLen) (hbase : base ≤ W.heap.size) :
  ∃ v' W1, (Builtin.append_ #[s, s] ty #[v, .slice (some a) 1 cp]).run Tryz.prog W = .ok v' W1 ∧ GI E t W1 base v' (ys ++ [y]) ∧ Below base W W1 ∧ W.grownBy W1 v.ownBlock ∧ ∃ ao n cap, v' = .slice ao n cap := by
 obtain ⟨i0, hi, hz0, hz1, hz2⟩ := info_parts hty.info
 obtain ⟨v', W1, hr, ho, hg, ha⟩ := run_append_own2 (P := Tryz.prog) W base s ty t i0 _ E.sz bytes hty.und hi hz0 hz1 hz2 hty.zs F.pos v ys.length ((ys.map E.c).flatten) h.own a 1 cp (E.c y) (by rw [F.len, Nat.one_mul]) hG (F.one y) hm hn hbase
 have hown : W1.ownsRow base t E.sz v' (ys ++ [y]).length (((ys ++ [y]).map E.c).flatten) := by
  have e1 : ((ys ++ [y]).map E.c).flatten = (ys.map E.c).flatten ++ E.c y := by simp
  rw [e1, List.length_append]
  exact ho
 have key : ∀ z : α, E.ok z W → (∀ x, E.blk z x → v.ownBlock ≠ some x) → E.ok z W1 ∧ ∀ x, E.blk z x → v'.ownBlock ≠ some x := fun z hz hzf => ⟨F.kept z W W1 hz fun x hx => hg.block x (F.lt z W x hz hx) (fun e => hzf x hx e.symm), fun x hx e => by
  rcases ha x e with c | c
  ·exact hzf x hx c
  ·have := F.lt z W x hz hx
   omega⟩
 refine ⟨v', W1, hr, ⟨hown, fun z hz => ?_, fun z hz => ?_⟩, (Below.refl _ W).grown hg hbase (fun k hk => (h.own.lt k hk).1), hg, ?_⟩
 ·rcases List.mem_append.1 hz with hz | hz
  ·exact (key z (h.ok z hz) (h.far z hz)).1
  ·rw [List.mem_singleton.1 hz]; exact (key y he hf).1
 ·rcases List.mem_append.1 hz with hz | hz
  ·exact (key z (h.ok z hz) (h.far z hz)).2
  ·rw [List.mem_singleton.1 hz]; exact (key y he hf).2
 ·rcases ho.2 with ⟨rfl, _⟩ | ⟨g, cap, cur, rfl, _⟩
  ·exact ⟨none, 0, 0, rfl⟩
  ·exact ⟨_, _, cap, rfl⟩
theorem GI.gl (F : E.Fine) (h : GI E t W base v ys) : ∃ ao cap, v = .slice ao ys.length cap ∧ GL E W ao ys.length cap ys ∧ ∀ z, sblk ao ys.length z → base ≤ z := by
 rcases h.own.2 with ⟨rfl, e⟩ | ⟨g, cap, cur, rfl, a1, a2, a3, a4, a5, a6⟩
 ·rw [e]
  have : ys = [] := List.eq_nil_of_length_eq_zero e
  subst this
  exact ⟨none, 0, rfl, GL.nothing E W, fun z hz => by obtain ⟨a, ha, _⟩ := hz; cases ha⟩
 ·refine ⟨some ⟨g, 0, none⟩, cap, rfl, ⟨rfl, a3, a4, fun h => by simp at h, fun a ha i hi j u hu => ?_, h.ok⟩, fun z hz => by obtain ⟨a, ha, _, rfl⟩ := hz; cases ha; exact a1⟩
  obtain rfl := Option.some.inj ha
  have hj : j < E.sz := by have := (List.getElem?_eq_some_iff.1 hu).1; rw [F.len] at this; exact this
  refine h.own.cells (g := g) rfl (i * E.sz + j) u ?_
  rw [flat_get E.c E.sz F.len ys i j hi hj]
  exact hu
end Go.Proofs.YtkjaapomaaakmaaGreat
namespace Go.Proofs.YtkjaapomaaakmaaGreat
structure SV where
 fr : Nat
 b : List Int
 tag : List Int
open Go.RowKit
structure SA where
 fr : Nat
 b : Bs
 tag : Bs
def SA.cells (s : SA) : List Value := [.int .u64 s.fr, .slice s.b.ao s.b.n s.b.cap, .slice s.tag.ao s.tag.n s.tag.cap]
structure SA.ok (s : SA) (w : World) : Prop where
 fr : s.fr < 18446744073709551616
 b : Sl w s.b.ao s.b.n s.b.cap s.b.xs
 tag : Sl w s.tag.ao s.tag.n s.tag.cap s.tag.xs
def SA.blk (s : SA) (z : Nat) : Prop := s.b.blk z ∨ s.tag.blk z
def SA.v (s : SA) : SV := ⟨s.fr, s.b.xs, s.tag.xs⟩
def SA.val (s : SA) : Value := .agg #[.int .u64 s.fr, .slice s.b.ao s.b.n s.b.cap, .slice s.tag.ao s.tag.n s.tag.cap]
def elS : El SA := ⟨SA.cells, 3, SA.ok, SA.blk⟩
theorem elS_fine : elS.Fine := by
 refine ⟨fun _ => rfl, by decide, fun x u hu => ?_, fun x w w' h hk => ⟨h.fr, h.b.kept fun z hz => hk z (.inl hz), h.tag.kept fun z hz => hk z (.inr hz)⟩, fun x w z h hz => ?_⟩
 ·have hu : u ∈ x.cells := hu
  unfold SA.cells at hu
  simp only [List.mem_cons, List.not_mem_nil, or_false] at hu
  rcases hu with rfl | rfl | rfl <;> rfl
 ·rcases hz with hz | hz
  ·exact h.b.blk_lt hz
  ·exact h.tag.blk_lt hz
theorem SA.ok.below {s : SA} {w w' : World} (h : s.ok w) (hb : Below w.heap.size w w') : s.ok w' := elS_fine.below h hb
structure SX (V : World) (b p : Nat) (s : SA) : Prop where
 c0 : V.cell? ⟨b, p, none⟩ = some (.int .u64 s.fr)
 c1 : V.cell? ⟨b, p + 1, none⟩ = some (.slice s.b.ao s.b.n s.b.cap)
 c2 : V.cell? ⟨b, p + 2, none⟩ = some (.slice s.tag.ao s.tag.n s.tag.cap)
theorem SX.below {V V' : World} {b p : Nat} {s : SA} (h : SX V b p s) (hb : Below V.heap.size V V') : SX V' b p s :=
 ⟨(hb.cell (World.block_lt_of_cell? V _ h.c0)).trans h.c0, (hb.cell (World.block_lt_of_cell? V _ h.c1)).trans h.c1, (hb.cell (World.block_lt_of_cell? V _ h.c2)).trans h.c2⟩
theorem GL.atS {w : World} {ao : Option Addr} {n cap : Nat} {l : List SA} (h : GL elS w ao n cap l) (hn : 0 < n) :
  ∃ b off, ao = some ⟨b, off, none⟩ ∧ ∀ i (hi : i < l.length), SX w b (off + i * 3) l[i] := by
 obtain ⟨b, off, e, k⟩ := h.pl elS_fine hn
 exact ⟨b, off, e, fun i hi => ⟨k i hi 0 _ rfl, k i hi 1 _ rfl, k i hi 2 _ rfl⟩⟩
theorem GL.atL {w : World} {ao : Option Addr} {n cap : Nat} {l : List (LS SA)} (h : GL elS.lists w ao n cap l) (hn : 0 < n) :
  ∃ b off, ao = some ⟨b, off, none⟩ ∧ ∀ i (hi : i < l.length), w.cell? ⟨b, off + i, none⟩ = some (.slice l[i].ao l[i].n l[i].cap) := by
 obtain ⟨b, off, e, k⟩ := h.pl elS_fine.lists hn
 refine ⟨b, off, e, fun i hi => ?_⟩
 have := k i hi 0 _ rfl
 rw [show off + i * elS.lists.sz + 0 = off + i by show off + i * 1 + 0 = off + i; omega] at this
 exact this
end Go.Proofs.YtkjaapomaaakmaaGreat

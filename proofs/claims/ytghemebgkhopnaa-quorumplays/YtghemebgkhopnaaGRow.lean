/-
  Rows of whatever elements: where they lie, what they say, and rows that a call makes by append.
-/
import Derived.Test.YtghemebgkhopnaaFlatL
import Derived.Test.YtghemebgkhopnaaBsBlk
import Derived.Test.YtghemebgkhopnaaOwn2
namespace Go.Proofs.Ytghemebgkhopnaa
open Go.RowKit

/-- A kind of elements: its cells, what must be so in a world, the blocks that this hangs on. -/
structure El (α : Type) where
  c : α → List Value
  sz : Nat
  ok : α → World → Prop
  blk : α → Nat → Prop
structure El.Fine {α : Type} (E : El α) : Prop where
  len : ∀ x, (E.c x).length = E.sz
  pos : 0 < E.sz
  one : ∀ x, ∀ u ∈ E.c x, u.oneCell' = true
  kept : ∀ x w w', E.ok x w → (∀ z, E.blk x z → w'.heap[z]? = w.heap[z]?) → E.ok x w'
  lt : ∀ x w z, E.ok x w → E.blk x z → z < w.heap.size
theorem El.Fine.below {α : Type} {E : El α} (F : E.Fine) {x : α} {w w' : World} (h : E.ok x w) (hb : Below w.heap.size w w') : E.ok x w' := F.kept x w w' h fun z hz => hb.block z (F.lt x w z h hz)
/-- A slice value reads as the list. -/
structure GL {α : Type} (E : El α) (w : World) (ao : Option Addr) (n cap : Nat) (l : List α) : Prop where
  len : l.length = n
  le : n ≤ cap
  mx : cap ≤ maxLen
  nil : ao = none → n = 0 ∧ cap = 0
  cell : ∀ a, ao = some a → ∀ i (h : i < l.length), ∀ j v, (E.c l[i])[j]? = some v → w.cell? (a.add (i * E.sz + j)) = some v
  ok : ∀ x ∈ l, E.ok x w
def GLb {α : Type} (E : El α) (ao : Option Addr) (n : Nat) (l : List α) (z : Nat) : Prop := sblk ao n z ∨ ∃ x ∈ l, E.blk x z
variable {α : Type} {E : El α} {w w' : World} {ao : Option Addr} {n cap : Nat} {l : List α}
theorem GL.kept (F : E.Fine) (h : GL E w ao n cap l) (hk : ∀ z, GLb E ao n l z → w'.heap[z]? = w.heap[z]?) : GL E w' ao n cap l := by
  refine ⟨h.len, h.le, h.mx, h.nil, fun a ha i hi j v hv => ?_, fun x hx => F.kept x w w' (h.ok x hx) fun z hz => hk z (.inr ⟨x, hx, hz⟩)⟩
  have hb : (a.add (i * E.sz + j)).block = a.block := by unfold Addr.add; split <;> rfl
  rw [← h.cell a ha i hi j v hv]
  exact World.cell?_of_block (by rw [hb]; exact hk _ (.inl ⟨a, ha, by have := h.len; omega, rfl⟩))
theorem GL.lt (F : E.Fine) (h : GL E w ao n cap l) {z : Nat} (hz : GLb E ao n l z) : z < w.heap.size := by
  rcases hz with ⟨a, ha, hn, rfl⟩ | ⟨x, hx, hz⟩
  · have hl := h.len
    have hi : 0 < l.length := by omega
    have h1 : 0 < (E.c l[0]).length := by rw [F.len]; exact F.pos
    have h0 := h.cell a ha 0 hi 0 _ (List.getElem?_eq_getElem h1)
    have hlt := World.block_lt_of_cell? w _ h0
    have hb : (a.add (0 * E.sz + 0)).block = a.block := by unfold Addr.add; split <;> rfl
    rw [hb] at hlt
    exact hlt
  · exact F.lt x w z (h.ok x hx) hz
theorem GL.below (F : E.Fine) (h : GL E w ao n cap l) (hb : Below w.heap.size w w') : GL E w' ao n cap l := h.kept F fun z hz => hb.block z (h.lt F hz)
theorem GL.nothing (E : El α) (w : World) : GL E w none 0 0 [] := ⟨rfl, Nat.le_refl _, Nat.zero_le _, fun _ => ⟨rfl, rfl⟩, fun _ _ _ hi => absurd hi (Nat.not_lt_zero _), fun _ h => absurd h List.not_mem_nil⟩
theorem GL.at (h : GL E w ao n cap l) (hn : 0 < n) : ∃ a, ao = some a := by
  match e : ao with
  | some a => exact ⟨a, rfl⟩
  | none => exact absurd (h.nil rfl).1 (by omega)
theorem GL.get (F : E.Fine) (h : GL E w ao n cap l) {a : Addr} (ha : ao = some a) (i : Nat) (hi : i < l.length) (j : Nat) (hj : j < E.sz) : w.cell? (a.add (i * E.sz + j)) = some ((E.c l[i])[j]'(by rw [F.len]; exact hj)) :=
  h.cell a ha i hi j _ (List.getElem?_eq_getElem _)
theorem GL.pl (F : E.Fine) (h : GL E w ao n cap l) (hn : 0 < n) : ∃ b off, ao = some ⟨b, off, none⟩ ∧ ∀ i (hi : i < l.length), ∀ j v, (E.c l[i])[j]? = some v → w.cell? ⟨b, off + i * E.sz + j, none⟩ = some v := by
  obtain ⟨⟨b, off, spot⟩, rfl⟩ := h.at hn
  have hl := h.len
  have h1 : 0 < (E.c (l[0]'(by omega))).length := by rw [F.len]; exact F.pos
  have hc := h.cell _ rfl 0 (by omega) 0 _ (List.getElem?_eq_getElem h1)
  have hs : spot = none := by simpa [Addr.add] using World.cell?_spot hc
  subst hs
  refine ⟨b, off, rfl, fun i hi j v hv => ?_⟩
  have := h.cell _ rfl i hi j v hv
  rw [Addr.add_lit] at this
  rw [Nat.add_assoc]
  exact this
/-- Lists of lists. -/
structure LS (α : Type) where
  ao : Option Addr
  n : Nat
  cap : Nat
  l : List α
def El.lists (E : El α) : El (LS α) := ⟨fun s => [.slice s.ao s.n s.cap], 1, fun s w => GL E w s.ao s.n s.cap s.l, fun s z => GLb E s.ao s.n s.l z⟩
theorem El.Fine.lists (F : E.Fine) : E.lists.Fine := by
  refine ⟨fun _ => rfl, Nat.one_pos, fun x u hu => ?_, fun x w w' h hk => GL.kept F h hk, fun x w z h hz => GL.lt F h hz⟩
  have : u = .slice x.ao x.n x.cap := by simpa [El.lists] using hu
  rw [this]
  rfl
/-- Bytes. -/
def elB : El Bs := ⟨fun s => [.slice s.ao s.n s.cap], 1, fun s w => Sl w s.ao s.n s.cap s.xs, fun s z => s.blk z⟩
theorem elB_fine : elB.Fine := by
  refine ⟨fun _ => rfl, Nat.one_pos, fun x u hu => ?_, fun x w w' h hk => Sl.kept h hk, fun x w z h hz => Sl.blk_lt h hz⟩
  have : u = .slice x.ao x.n x.cap := by simpa [elB] using hu
  rw [this]
  rfl

/-- The type of such elements, and of their slices. -/
structure GTy (sz bytes : Nat) (z : Value) (t s : TypeId) : Prop where
  info : (Try.prog.info? t).map (fun i => (i.zero, i.size, i.bytes)) = some (some z, sz, bytes)
  zs : z.cells.size = sz
  und : Try.prog.underlying s = some (.slice t)
/-- A row of them that a call makes. -/
structure GI (E : El α) (t : TypeId) (W : World) (base : Nat) (v : Value) (ys : List α) : Prop where
  own : W.ownsRow base t E.sz v ys.length ((ys.map E.c).flatten)
  ok : ∀ y ∈ ys, E.ok y W
  far : ∀ y ∈ ys, ∀ x, E.blk y x → v.ownBlock ≠ some x
variable {t s : TypeId} {W W' : World} {base : Nat} {v : Value} {ys : List α}
theorem GI.nil (E : El α) (t : TypeId) (W : World) (base : Nat) : GI E t W base (.slice none 0 0) [] := ⟨World.ownsRow_nil _ _ _ _, fun _ h => by simp at h, fun _ h => by simp at h⟩
theorem GI.kept (F : E.Fine) (h : GI E t W base v ys) (hk : ∀ z, (v.ownBlock = some z ∨ ∃ y ∈ ys, E.blk y z) → W'.heap[z]? = W.heap[z]?) : GI E t W' base v ys :=
  ⟨own_kept h.own fun g hg => hk g (.inl hg), fun y hy => F.kept y W W' (h.ok y hy) fun z hz => hk z (.inr ⟨y, hy, hz⟩), h.far⟩
theorem GI.lt (F : E.Fine) (h : GI E t W base v ys) {z : Nat} (hz : v.ownBlock = some z ∨ ∃ y ∈ ys, E.blk y z) : z < W.heap.size := by
  rcases hz with hz | ⟨y, hy, hz⟩
  · exact (h.own.lt z hz).2
  · exact F.lt y W z (h.ok y hy) hz
theorem GI.below (F : E.Fine) (h : GI E t W base v ys) (hb : Below W.heap.size W W') : GI E t W' base v ys := h.kept F fun z hz => hb.block z (h.lt F hz)
theorem GI.slice (h : GI E t W base v ys) : ∃ ao cap, v = .slice ao ys.length cap := by
  rcases h.own.2 with ⟨rfl, e⟩ | ⟨g, cap, cur, rfl, _⟩
  · exact ⟨none, 0, by rw [e]⟩
  · exact ⟨_, cap, rfl⟩
theorem GI.app (F : E.Fine) {bytes : Nat} {z : Value} (hty : GTy E.sz bytes z t s) (h : GI E t W base v ys) (ty : TypeId) {a : Addr} {cp : Nat} {y : α} (hG : ∀ j u, (E.c y)[j]? = some u → W.cell? (a.add j) = some u) (he : E.ok y W) (hf : ∀ x, E.blk y x → v.ownBlock ≠ some x) (hn : (ys.length + 1) * bytes ≤ 140737488355328) (hm : ys.length + 1 ≤ maxLen) (hbase : base ≤ W.heap.size) :
    ∃ v' W1, (Builtin.append_ #[s, s] ty #[v, .slice (some a) 1 cp]).run Try.prog W = .ok v' W1 ∧ GI E t W1 base v' (ys ++ [y]) ∧ Below base W W1 ∧ W.grownBy W1 v.ownBlock ∧ ∃ ao n cap, v' = .slice ao n cap := by
  obtain ⟨i0, hi, hz0, hz1, hz2⟩ := info_parts hty.info
  obtain ⟨v', W1, hr, ho, hg, ha⟩ := run_append_own2 (P := Try.prog) W base s ty t i0 _ E.sz bytes hty.und hi hz0 hz1 hz2 hty.zs F.pos v ys.length ((ys.map E.c).flatten) h.own a 1 cp (E.c y) (by rw [F.len, Nat.one_mul]) hG (F.one y) hm hn hbase
  have hown : W1.ownsRow base t E.sz v' (ys ++ [y]).length (((ys ++ [y]).map E.c).flatten) := by
    have e1 : ((ys ++ [y]).map E.c).flatten = (ys.map E.c).flatten ++ E.c y := by simp
    rw [e1, List.length_append]
    exact ho
  have key : ∀ z : α, E.ok z W → (∀ x, E.blk z x → v.ownBlock ≠ some x) → E.ok z W1 ∧ ∀ x, E.blk z x → v'.ownBlock ≠ some x := fun z hz hzf => ⟨F.kept z W W1 hz fun x hx => hg.block x (F.lt z W x hz hx) (fun e => hzf x hx e.symm), fun x hx e => by
    rcases ha x e with c | c
    · exact hzf x hx c
    · have := F.lt z W x hz hx
      omega⟩
  refine ⟨v', W1, hr, ⟨hown, fun z hz => ?_, fun z hz => ?_⟩, (Below.refl _ W).grown hg hbase (fun k hk => (h.own.lt k hk).1), hg, ?_⟩
  · rcases List.mem_append.1 hz with hz | hz
    · exact (key z (h.ok z hz) (h.far z hz)).1
    · rw [List.mem_singleton.1 hz]; exact (key y he hf).1
  · rcases List.mem_append.1 hz with hz | hz
    · exact (key z (h.ok z hz) (h.far z hz)).2
    · rw [List.mem_singleton.1 hz]; exact (key y he hf).2
  · rcases ho.2 with ⟨rfl, _⟩ | ⟨g, cap, cur, rfl, _⟩
    · exact ⟨none, 0, 0, rfl⟩
    · exact ⟨_, _, cap, rfl⟩
theorem GI.gl (F : E.Fine) (h : GI E t W base v ys) : ∃ ao cap, v = .slice ao ys.length cap ∧ GL E W ao ys.length cap ys ∧ ∀ z, sblk ao ys.length z → base ≤ z := by
  rcases h.own.2 with ⟨rfl, e⟩ | ⟨g, cap, cur, rfl, a1, a2, a3, a4, a5, a6⟩
  · rw [e]
    have : ys = [] := List.eq_nil_of_length_eq_zero e
    subst this
    exact ⟨none, 0, rfl, GL.nothing E W, fun z hz => by obtain ⟨a, ha, _⟩ := hz; cases ha⟩
  · refine ⟨some ⟨g, 0, none⟩, cap, rfl, ⟨rfl, a3, a4, fun h => by simp at h, fun a ha i hi j u hu => ?_, h.ok⟩, fun z hz => by obtain ⟨a, ha, _, rfl⟩ := hz; cases ha; exact a1⟩
    obtain rfl := Option.some.inj ha
    have hj : j < E.sz := by have := (List.getElem?_eq_some_iff.1 hu).1; rw [F.len] at this; exact this
    refine h.own.cells (g := g) rfl (i * E.sz + j) u ?_
    rw [flat_get E.c E.sz F.len ys i j hi hj]
    exact hu
end Go.Proofs.Ytghemebgkhopnaa

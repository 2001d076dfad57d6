/-
  Texts in one: TKids, PSmall.
-/
import Derived.Test.YthlpccajnmkbjaaGreatDoorY14
import Derived.Lib.SliceRun
namespace Go.Proofs.YthlpccajnmkbjaaGreatDoor
open Go.RowKit

/-- The values cs are the trees of segs, one by one. -/
structure Kids (w : World) (cs : List Value) (segs : List (List It)) : Prop where
  len : cs.length = segs.length
  kid : ∀ (i : Nat) (s : List It), segs[i]? = some s → ∃ u, cs[i]? = some u ∧ T w u s
section
variable {w w' : World} {cs ds : List Value} {segs regs : List (List It)}
theorem Kids.below (h : Kids w cs segs) (hb : Below w.heap.size w w') : Kids w' cs segs := ⟨h.len, fun i s hi => by obtain ⟨u, hu, ht⟩ := h.kid i s hi; exact ⟨u, hu, ht.below hb⟩⟩
theorem Kids.nil (w : World) : Kids w [] [] := ⟨rfl, fun i s h => by simp at h⟩
theorem Kids.app (h : Kids w cs segs) (k : Kids w ds regs) : Kids w (cs ++ ds) (segs ++ regs) := by
  have hl := h.len
  refine ⟨by rw [List.length_append, List.length_append, h.len, k.len], fun i s hi => ?_⟩
  by_cases hlt : i < segs.length
  · rw [List.getElem?_append_left hlt] at hi
    rw [List.getElem?_append_left (by omega)]
    exact h.kid i s hi
  · rw [List.getElem?_append_right (by omega)] at hi
    rw [List.getElem?_append_right (by omega), hl]
    exact k.kid _ s hi
theorem Kids.one {u : Value} {s : List It} (h : T w u s) : Kids w [u] [s] := ⟨rfl, fun i t hi => by
  cases i with
  | zero => simp at hi; subst hi; exact ⟨u, rfl, h⟩
  | succ i => simp at hi⟩
theorem Kids.cons {u : Value} {s : List It} (h : T w u s) (k : Kids w cs segs) : Kids w (u :: cs) (s :: segs) := (Kids.one h).app k
theorem Kids.take (h : Kids w cs segs) (n : Nat) : Kids w (cs.take n) (segs.take n) := by
  refine ⟨by simp [h.len], fun i s hi => ?_⟩
  rw [List.getElem?_take] at hi ⊢
  split at hi
  · rename_i hlt
    rw [if_pos hlt]
    exact h.kid i s hi
  · simp at hi
theorem Kids.drop (h : Kids w cs segs) (n : Nat) : Kids w (cs.drop n) (segs.drop n) := by
  refine ⟨by simp [h.len], fun i s hi => ?_⟩
  rw [List.getElem?_drop] at hi ⊢
  exact h.kid _ s hi
theorem Kids.oneCell (h : Kids w cs segs) : ∀ u ∈ cs, u.oneCell' = true := fun u hu => by
  obtain ⟨i, hi, rfl⟩ := List.mem_iff_getElem.1 hu
  have hs : i < segs.length := by rw [← h.len]; exact hi
  obtain ⟨u, hu, ht⟩ := h.kid i segs[i] (List.getElem?_eq_getElem hs)
  rw [List.getElem?_eq_getElem hi] at hu
  rw [Option.some.inj hu]
  exact ht.one
end
theorem Nod.kids {w : World} {l : List It} {d : Nd} {segs : List (List It)} {xs : List It} (h : Nod w l d segs xs) : Kids w d.cs segs := ⟨h.ec, h.kid⟩

/-- A list of keys or values out of what 'changed' answers. -/
theorem KL.of {w : World} {ao : Option Addr} {n cap : Nat} {vs : List Value} {ps : List Part} (h : VL w ao n cap vs) (e : vs = ps.map Part.val) (hs : ∀ q ∈ ps, Sl w q.ao q.n q.cap q.xs) : KL w ao n cap ps := ⟨by rw [← e]; exact h, hs⟩
theorem KL.front {w : World} {ao : Option Addr} {n cap : Nat} {ps : List Part} (h : KL w ao n cap ps) (i c : Nat) (hi : i ≤ n) (hc : i ≤ c) (hcc : c ≤ cap) : KL w ao i c (ps.take i) :=
  ⟨by rw [List.map_take]; exact h.vl.front i c hi hc hcc, fun q hq => h.sl q (List.mem_of_mem_take hq)⟩
theorem KL.from {w : World} {ao : Option Addr} {n cap : Nat} {ps : List Part} (h : KL w ao n cap ps) (j : Nat) (hj : j ≤ n) : KL w (bk ao cap j) (n - j) (cap - j) (ps.drop j) :=
  ⟨by rw [List.map_drop]; exact h.vl.from j hj, fun q hq => h.sl q (List.mem_of_mem_drop hq)⟩

theorem T.ptr {w : World} {v : Value} {l : List It} (h : T w v l) : ∃ po, v = .pointer po := by
  rcases h.is with ⟨_, rfl⟩ | ⟨d, segs, xs, rfl, _⟩
  · exact ⟨_, rfl⟩
  · exact ⟨_, rfl⟩
theorem wrap_nat {k : Nat} (h : k ≤ 1000000000) : IntKind.i64.wrap (k : Int) = k := by
  simp [IntKind.wrap, IntKind.bits, IntKind.signed]
  omega

/-- A tree of the items l is answered, in new memory. -/
def RetT (w : World) (l : List It) (e : Ending) (w' : World) : Prop := ∃ v, e = .returned v ∧ T w' v l ∧ Below w.heap.size w w'

/-- A new node, its lists told by what they hold. -/
theorem T.make {w : World} {g : Nat} {l : List It} {L : Nat} {ko vo co : Option Addr} {kn kc vn vc cn cc : Nat} {t : TypeId} {ks vs : List Part} {cs : List Value} {segs : List (List It)} {xs : List It}
    (hg : w.heap[g]? = some (.cells #[.int .i64 L, .slice ko kn kc, .slice vo vn vc, .slice co cn cc] t))
    (hk : KL w ko kn kc ks) (hv : KL w vo vn vc vs) (hc : VL w co cn cc cs) (hs : Shp lev l L segs xs) (ek : ks.map Part.xs = xs.map It.k) (ev : vs.map Part.xs = xs.map It.v) (kid : Kids w cs segs) : T w (.pointer (some ⟨g, 0, Option.none⟩)) l :=
  Nod.make hg hk hv hc hs ek ev kid.len kid.kid
section
variable {w : World} {l : List It} {d : Nd} {segs : List (List It)} {xs : List It}
/-- The keys of a node rise. -/
theorem Nod.rise (h : Nod w l d segs xs) (hs : Srt l) : d.ks.Pairwise fun a b => cmpL a.xs b.xs < 0 := by
  have h1 : (xs.map It.k).Pairwise fun a b => cmpL a b < 0 := List.pairwise_map.2 (h.shp.rise hs)
  rw [← h.ek] at h1
  exact List.pairwise_map.1 h1
theorem Nod.keyAt (h : Nod w l d segs xs) (i : Nat) (hk : i < d.ks.length) (hx : i < xs.length) : d.ks[i].xs = xs[i].k := by
  have := congrArg (·[i]?) h.ek
  simpa [hk, hx] using this
theorem Nod.valAt (h : Nod w l d segs xs) (i : Nat) (hk : i < d.vs.length) (hx : i < xs.length) : d.vs[i].xs = xs[i].v := by
  have := congrArg (·[i]?) h.ev
  simpa [hk, hx] using this
/-- What a search in a node's keys tells of its items. -/
theorem Nod.found (h : Nod w l d segs xs) (hs : Srt l) {key : List Int} {i : Nat} {b : Bool} (ha : At d.ks key i b) : ∃ s A B, Cut lev l d.L segs xs i s A B ∧ (∀ x ∈ A, cmpL x.k key < 0) ∧ (∀ x ∈ B, ¬ cmpL x.k key < 0) ∧
    (b = false → ∀ x ∈ B, cmpL key x.k < 0) ∧ (b = true → ∃ hi : i < xs.length, xs[i].k = key) := by
  have hn := h.nk
  obtain ⟨s, A, B, c⟩ := h.shp.cut i (by have := ha.le; omega)
  obtain ⟨h1, h2, h3⟩ := c.key hs (key := key) (fun j hj hji => by rw [← h.keyAt j (by omega) hj]; exact ha.lo j (by omega) hji) (fun j hj hij => by rw [← h.keyAt j (by omega) hj]; exact ha.hi j (by omega) hij)
  refine ⟨s, A, B, c, h1, h2, fun hb => h3 fun hi he => ?_, fun hb => ?_⟩
  · have : b = true := ha.eq.2 ⟨by omega, by rw [h.keyAt i (by omega) hi]; exact he⟩
    rw [hb] at this
    simp at this
  · obtain ⟨hi, he⟩ := ha.eq.1 hb
    exact ⟨by omega, by rw [← h.keyAt i hi (by omega)]; exact he⟩
end
end Go.Proofs.YthlpccajnmkbjaaGreatDoor

namespace Go.Proofs.YthlpccajnmkbjaaGreatDoor
open Go.RowKit

theorem own_nothing (w : World) : (w.alloc (.cells #[] 5)).ownsRow w.heap.size 5 1 (.slice (some ⟨w.heap.size, 0, none⟩) 0 0) 0 (bv []) :=
  World.ownsRow_made w #[] 0 (Nat.le_refl _) (Nat.zero_le _) rfl
/-- Bytes in new memory are answered. -/
def RetB (w : World) (n : Nat) (xs : List Int) (e : Ending) (w' : World) : Prop := ∃ ro rc, e = .returned (.slice ro n rc) ∧ Sl w' ro n rc xs ∧ Below w.heap.size w w'

set_option maxHeartbeats 400000 in
set_option maxRecDepth 100000 in
theorem own_any (w : World) (ao : Option Addr) (n cap : Nat) (xs : List Int) (h : Sl w ao n cap xs) (hn : n ≤ 1000000) :
    Calls Tryz.prog 128 #[.slice ao n cap] w (RetB w n xs) := by
  have B0 : Below w.heap.size w (w.alloc (.cells #[] 5)) := (Below.refl _ w).alloc (Nat.le_refl _) _
  have h0 := h.below B0
  have o0 := own_nothing w
  have hb := h.byte
  go_enter Tryz.func128, Tryz.ntmps128
  go_wp2_with (at_builtin; refine wpList_app rfl _ _ rfl w.heap.size _ _ _ rfl o0 _ _ _ _ rfl h0 (by omega) (by simp) ?_; intro v1 w1 own1 B1)
  simp only [Nat.zero_add, List.nil_append] at own1
  obtain ⟨ro, rc, rfl, S, -⟩ := Sl.own own1 hb
  go_wp2
  go_ret
  exact ⟨ro, rc, rfl, S, B0.trans B1⟩

/-- The value v is a tree (a handle) of the items l. -/
def TT (w : World) (v : Value) (l : List It) : Prop := (v = .pointer none ∧ l = []) ∨ ∃ b u, v = .pointer (some ⟨b, 0, none⟩) ∧ w.cell? ⟨b, 0, none⟩ = some u ∧ T w u l ∧ l ≠ []
theorem TT.nil (w : World) : TT w (.pointer none) [] := .inl ⟨rfl, rfl⟩
theorem TT.below {w w' : World} {v : Value} {l : List It} (h : TT w v l) (hb : Below w.heap.size w w') : TT w' v l := by
  rcases h with h | ⟨b, u, rfl, hc, ht, hl⟩
  · exact .inl h
  · exact .inr ⟨b, u, rfl, (hb.cell (World.block_lt_of_cell? _ _ hc)).trans hc, ht.below hb, hl⟩
theorem TT.ptr {w : World} {v : Value} {l : List It} (h : TT w v l) : ∃ po, v = .pointer po := by
  rcases h with ⟨rfl, _⟩ | ⟨b, u, rfl, _⟩
  · exact ⟨_, rfl⟩
  · exact ⟨_, rfl⟩
/-- A tree is answered, in new memory. -/
def RetTT (w : World) (l : List It) (e : Ending) (w' : World) : Prop := ∃ v, e = .returned v ∧ TT w' v l ∧ Below w.heap.size w w'

set_option maxHeartbeats 400000 in
set_option maxRecDepth 100000 in
theorem treeOf_any (w : World) (v : Value) (l : List It) (h : T w v l) : Calls Tryz.prog 146 #[v] w (RetTT w l) := by
  rcases h.is with ⟨rfl, rfl⟩ | ⟨d, segs, xs, rfl, hN⟩
  · go_enter Tryz.func146, Tryz.ntmps146
    go_wp2
    go_ret
    exact ⟨_, rfl, TT.nil _, Below.refl _ _⟩
  · have hne : l ≠ [] := by
      intro e
      subst e
      have h0 := hN.shp.pos
      have := hN.shp.key xs[0] (List.getElem_mem h0)
      simp at this
    unfold Nd.ptr at h ⊢
    go_enter Tryz.func146, Tryz.ntmps146
    go_wp2
    go_ret
    have B : Below w.heap.size w (w.alloc (.cells #[.pointer (some ⟨d.b, 0, none⟩)] 131)) := (Below.refl _ w).alloc (Nat.le_refl _) _
    exact ⟨_, rfl, .inr ⟨_, _, rfl, cell_one_new _ _ _ 0 _ (by simp), h.below B, hne⟩, B⟩

set_option maxHeartbeats 400000 in
set_option maxRecDepth 100000 in
theorem shared_any (w : World) (v : Value) (l : List It) (h : TT w v l) : Calls Tryz.prog 54 #[v] w fun e w' => ∃ po, e = .returned (.pointer po) ∧ T w (.pointer po) l ∧ w' = w := by
  rcases h with ⟨rfl, rfl⟩ | ⟨b, u, rfl, hc, ht, hl⟩
  · go_enter Tryz.func54, Tryz.ntmps54
    go_wp2
    go_ret
    exact ⟨_, rfl, T.nil _, rfl⟩
  · obtain ⟨po, rfl⟩ := ht.ptr
    go_enter Tryz.func54, Tryz.ntmps54
    go_wp2
    go_ret
    exact ⟨_, rfl, ht, rfl⟩
end Go.Proofs.YthlpccajnmkbjaaGreatDoor

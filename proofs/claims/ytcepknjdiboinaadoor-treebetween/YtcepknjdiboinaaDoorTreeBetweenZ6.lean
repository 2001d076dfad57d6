/-
  Texts in one: TKids, PChg, HRegF, HRegE, HRegG, NMem.
-/
import Derived.Test.YtcepknjdiboinaaDoorTreeBetweenZ3
import Derived.Test.YtcepknjdiboinaaDoorTreeBetweenZ5
import Derived.Test.YtcepknjdiboinaaDoorTreeBetweenZ4
import Derived.Test.YtcepknjdiboinaaDoorTreeBetweenZ2
namespace Go.Proofs.YtcepknjdiboinaaDoor
open Go.RowKit

/-- The values cs are the trees of segs, one by one. -/
structure Kids (w : World) (cs : List Value) (segs : List (List It)) : Prop where
  len : cs.length = segs.length
  kid : ∀ (i : Nat) (s : List It), segs[i]? = some s → ∃ u, cs[i]? = some u ∧ T w u s
section
variable {w w' : World} {cs ds : List Value} {segs regs : List (List It)}
theorem Kids.below (h : Kids w cs segs) (hb : Below w.heap.size w w') : Kids w' cs segs := ⟨h.len, fun i s hi => by obtain ⟨u, hu, ht⟩ := h.kid i s hi; exact ⟨u, hu, ht.below hb⟩⟩
theorem Kids.nil (w : World) : Kids w [] [] := ⟨rfl, fun i s h => by simp at h⟩
theorem Kids.app (h : Kids w cs segs) (k : Kids w ds regs) : Kids w (cs ++ ds) (segs ++ regs) := by
  have hl := h.len
  refine ⟨by rw [List.length_append, List.length_append, h.len, k.len], fun i s hi => ?_⟩
  by_cases hlt : i < segs.length
  · rw [List.getElem?_append_left hlt] at hi
    rw [List.getElem?_append_left (by omega)]
    exact h.kid i s hi
  · rw [List.getElem?_append_right (by omega)] at hi
    rw [List.getElem?_append_right (by omega), hl]
    exact k.kid _ s hi
theorem Kids.one {u : Value} {s : List It} (h : T w u s) : Kids w [u] [s] := ⟨rfl, fun i t hi => by
  cases i with
  | zero => simp at hi; subst hi; exact ⟨u, rfl, h⟩
  | succ i => simp at hi⟩
theorem Kids.cons {u : Value} {s : List It} (h : T w u s) (k : Kids w cs segs) : Kids w (u :: cs) (s :: segs) := (Kids.one h).app k
theorem Kids.take (h : Kids w cs segs) (n : Nat) : Kids w (cs.take n) (segs.take n) := by
  refine ⟨by simp [h.len], fun i s hi => ?_⟩
  rw [List.getElem?_take] at hi ⊢
  split at hi
  · rename_i hlt
    rw [if_pos hlt]
    exact h.kid i s hi
  · simp at hi
theorem Kids.drop (h : Kids w cs segs) (n : Nat) : Kids w (cs.drop n) (segs.drop n) := by
  refine ⟨by simp [h.len], fun i s hi => ?_⟩
  rw [List.getElem?_drop] at hi ⊢
  exact h.kid _ s hi
theorem Kids.oneCell (h : Kids w cs segs) : ∀ u ∈ cs, u.oneCell' = true := fun u hu => by
  obtain ⟨i, hi, rfl⟩ := List.mem_iff_getElem.1 hu
  have hs : i < segs.length := by rw [← h.len]; exact hi
  obtain ⟨u, hu, ht⟩ := h.kid i segs[i] (List.getElem?_eq_getElem hs)
  rw [List.getElem?_eq_getElem hi] at hu
  rw [Option.some.inj hu]
  exact ht.one
end
theorem Nod.kids {w : World} {l : List It} {d : Nd} {segs : List (List It)} {xs : List It} (h : Nod w l d segs xs) : Kids w d.cs segs := ⟨h.ec, h.kid⟩

/-- A list of keys or values out of what 'changed' answers. -/
theorem KL.of {w : World} {ao : Option Addr} {n cap : Nat} {vs : List Value} {ps : List Part} (h : VL w ao n cap vs) (e : vs = ps.map Part.val) (hs : ∀ q ∈ ps, Sl w q.ao q.n q.cap q.xs) : KL w ao n cap ps := ⟨by rw [← e]; exact h, hs⟩
theorem KL.front {w : World} {ao : Option Addr} {n cap : Nat} {ps : List Part} (h : KL w ao n cap ps) (i c : Nat) (hi : i ≤ n) (hc : i ≤ c) (hcc : c ≤ cap) : KL w ao i c (ps.take i) :=
  ⟨by rw [List.map_take]; exact h.vl.front i c hi hc hcc, fun q hq => h.sl q (List.mem_of_mem_take hq)⟩
theorem KL.from {w : World} {ao : Option Addr} {n cap : Nat} {ps : List Part} (h : KL w ao n cap ps) (j : Nat) (hj : j ≤ n) : KL w (bk ao cap j) (n - j) (cap - j) (ps.drop j) :=
  ⟨by rw [List.map_drop]; exact h.vl.from j hj, fun q hq => h.sl q (List.mem_of_mem_drop hq)⟩

theorem T.ptr {w : World} {v : Value} {l : List It} (h : T w v l) : ∃ po, v = .pointer po := by
  rcases h.is with ⟨_, rfl⟩ | ⟨d, segs, xs, rfl, _⟩
  · exact ⟨_, rfl⟩
  · exact ⟨_, rfl⟩
theorem wrap_nat {k : Nat} (h : k ≤ 1000000000) : IntKind.i64.wrap (k : Int) = k := by
  simp [IntKind.wrap, IntKind.bits, IntKind.signed]
  omega

/-- A tree of the items l is answered, in new memory. -/
def RetT (w : World) (l : List It) (e : Ending) (w' : World) : Prop := ∃ v, e = .returned v ∧ T w' v l ∧ Below w.heap.size w w'

/-- A new node, its lists told by what they hold. -/
theorem T.make {w : World} {g : Nat} {l : List It} {L : Nat} {ko vo co : Option Addr} {kn kc vn vc cn cc : Nat} {t : TypeId} {ks vs : List Part} {cs : List Value} {segs : List (List It)} {xs : List It}
    (hg : w.heap[g]? = some (.cells #[.int .i64 L, .slice ko kn kc, .slice vo vn vc, .slice co cn cc] t))
    (hk : KL w ko kn kc ks) (hv : KL w vo vn vc vs) (hc : VL w co cn cc cs) (hs : Shp lev l L segs xs) (ek : ks.map Part.xs = xs.map It.k) (ev : vs.map Part.xs = xs.map It.v) (kid : Kids w cs segs) : T w (.pointer (some ⟨g, 0, Option.none⟩)) l :=
  Nod.make hg hk hv hc hs ek ev kid.len kid.kid
section
variable {w : World} {l : List It} {d : Nd} {segs : List (List It)} {xs : List It}
/-- The keys of a node rise. -/
theorem Nod.rise (h : Nod w l d segs xs) (hs : Srt l) : d.ks.Pairwise fun a b => cmpL a.xs b.xs < 0 := by
  have h1 : (xs.map It.k).Pairwise fun a b => cmpL a b < 0 := List.pairwise_map.2 (h.shp.rise hs)
  rw [← h.ek] at h1
  exact List.pairwise_map.1 h1
theorem Nod.keyAt (h : Nod w l d segs xs) (i : Nat) (hk : i < d.ks.length) (hx : i < xs.length) : d.ks[i].xs = xs[i].k := by
  have := congrArg (·[i]?) h.ek
  simpa [hk, hx] using this
theorem Nod.valAt (h : Nod w l d segs xs) (i : Nat) (hk : i < d.vs.length) (hx : i < xs.length) : d.vs[i].xs = xs[i].v := by
  have := congrArg (·[i]?) h.ev
  simpa [hk, hx] using this
/-- What a search in a node's keys tells of its items. -/
theorem Nod.found (h : Nod w l d segs xs) (hs : Srt l) {key : List Int} {i : Nat} {b : Bool} (ha : At d.ks key i b) : ∃ s A B, Cut lev l d.L segs xs i s A B ∧ (∀ x ∈ A, cmpL x.k key < 0) ∧ (∀ x ∈ B, ¬ cmpL x.k key < 0) ∧
    (b = false → ∀ x ∈ B, cmpL key x.k < 0) ∧ (b = true → ∃ hi : i < xs.length, xs[i].k = key) := by
  have hn := h.nk
  obtain ⟨s, A, B, c⟩ := h.shp.cut i (by have := ha.le; omega)
  obtain ⟨h1, h2, h3⟩ := c.key hs (key := key) (fun j hj hji => by rw [← h.keyAt j (by omega) hj]; exact ha.lo j (by omega) hji) (fun j hj hij => by rw [← h.keyAt j (by omega) hj]; exact ha.hi j (by omega) hij)
  refine ⟨s, A, B, c, h1, h2, fun hb => h3 fun hi he => ?_, fun hb => ?_⟩
  · have : b = true := ha.eq.2 ⟨by omega, by rw [h.keyAt i (by omega) hi]; exact he⟩
    rw [hb] at this
    simp at this
  · obtain ⟨hi, he⟩ := ha.eq.1 hb
    exact ⟨by omega, by rw [← h.keyAt i hi (by omega)]; exact he⟩
end
end Go.Proofs.YtcepknjdiboinaaDoor

namespace Go.Proofs.YtcepknjdiboinaaDoor
open Go.RowKit

theorem kinfo : (Tryd.prog.info? 23).map (fun i => (i.zero, i.size, i.bytes)) = some (some (.slice none 0 0), 1, 24) := by kernel_rfl
theorem ninfo : (Tryd.prog.info? 52).map (fun i => (i.zero, i.size, i.bytes)) = some (some (.pointer none), 1, 8) := by kernel_rfl
theorem Apd.base {w : World} {b b' : Nat} {e : TypeId} {v : Value} {n : Nat} {vs : List Value} (h : Apd w b e v n vs) (hb : b' ≤ b) : Apd w b' e v n vs := by
  rcases h with h | h
  · exact .inl h
  · exact .inr (own_base h hb)
theorem ksize (w : World) : (sizeOf 23).run Tryd.prog w = .ok 1 w := size1 _ (by kernel_rfl) w
theorem nsize (w : World) : (sizeOf 52).run Tryd.prog w = .ok 1 w := size1 _ (by kernel_rfl) w

set_option maxHeartbeats 1000000 in
set_option maxRecDepth 100000 in
theorem chgK_any (w : World) (ao bo : Option Addr) (n cap m c i j : Nat) (vs ys : List Value) (h : VL w ao n cap vs) (hx : VL w bo m c ys) (h1 : ∀ u ∈ vs, u.oneCell' = true) (h2 : ∀ u ∈ ys, u.oneCell' = true) (hij : i ≤ j) (hj : j ≤ n) (hn : n + m ≤ 1000000) :
    Calls Tryd.prog 59 #[.slice ao n cap, .int .i64 i, .int .i64 j, .slice bo m c] w fun e w' =>
      ∃ ro rc, e = .returned (.slice ro (i + m + (n - j)) rc) ∧ VL w' ro (i + m + (n - j)) rc (vs.take i ++ ys ++ vs.drop j) ∧ Below w.heap.size w w' := by
  obtain ⟨i0, hi, hz0, hz1, hz2⟩ := info_parts kinfo
  have hle := h.le
  have F1 : ∀ W, _ := fun W => run_front (P := Tryd.prog) (W := W) (t := 76) (ao := ao) (n := n) (cap := cap) (i := i) (c := i) Tryd.underlying76 (Nat.le_refl _) (by omega) ksize
  have F2 : ∀ W, _ := fun W => run_back (P := Tryd.prog) (W := W) (t := 76) (ao := ao) (n := n) (cap := cap) (j := j) Tryd.underlying76 (by omega) ksize
  go_enter Tryd.func59, Tryd.ntmps59
  go_wp2
  have HS : Hid (∀ V, Below w.heap.size w V → True) := fun _ _ => trivial
  have E0 : Below w.heap.size w w.drew := (Below.refl _ _).drew
  refine wp_region_noPanic ?_
  refine wp_region_held_drew (S := fun V => True) (by kernel_rfl) (HS.out _ E0) (fun H0 => ?_)
  obtain ⟨v0, hv0⟩ : ∃ v, v = w.drew := ⟨_, rfl⟩
  rw [← hv0] at E0 ⊢
  clear hv0
  refine hr_take_w 0 (some 9) (.slice ao n cap) rfl rfl (by kernel_rfl) (by kernel_rfl) (by kernel_rfl) rfl (fun W hW => by go_simp) H0 ?_
  simp only [Act.put, List.setIfInBounds_toArray, List.set_cons_zero, List.set_cons_succ]
  refine hr_take_w 1 (some 10) (.int .i64 i) rfl rfl (by kernel_rfl) (by kernel_rfl) (by kernel_rfl) rfl (fun W hW => by go_simp) H0 ?_
  simp only [Act.put, List.setIfInBounds_toArray, List.set_cons_zero, List.set_cons_succ]
  refine hr_take_w 2 (some 11) (.int .i64 i) rfl rfl (by kernel_rfl) (by kernel_rfl) (by kernel_rfl) rfl (fun W hW => by go_simp) H0 ?_
  simp only [Act.put, List.setIfInBounds_toArray, List.set_cons_zero, List.set_cons_succ]
  refine hr_take_w 3 (some 12) (.slice ao i i) rfl rfl (by kernel_rfl) (by kernel_rfl) (by kernel_rfl) rfl (fun W hW => by simp [execOp, Act.eval, F1]) H0 ?_
  simp only [Act.put, List.setIfInBounds_toArray, List.set_cons_zero, List.set_cons_succ]
  refine hr_take_w 4 (some 13) (.slice bo m c) rfl rfl (by kernel_rfl) (by kernel_rfl) (by kernel_rfl) rfl (fun W hW => by go_simp) H0 ?_
  simp only [Act.put, List.setIfInBounds_toArray, List.set_cons_zero, List.set_cons_succ]
  refine hr_take_w 6 (some 15) (.slice ao n cap) rfl rfl (by kernel_rfl) (by kernel_rfl) (by kernel_rfl) rfl (fun W hW => by go_simp) H0 ?_
  simp only [Act.put, List.setIfInBounds_toArray, List.set_cons_zero, List.set_cons_succ]
  refine hr_take_w 7 (some 16) (.int .i64 j) rfl rfl (by kernel_rfl) (by kernel_rfl) (by kernel_rfl) rfl (fun W hW => by go_simp) H0 ?_
  simp only [Act.put, List.setIfInBounds_toArray, List.set_cons_zero, List.set_cons_succ]
  refine hr_take_w 8 (some 17) (.slice (bk ao cap j) (n - j) (cap - j)) rfl rfl (by kernel_rfl) (by kernel_rfl) (by kernel_rfl) rfl (fun W hW => by simp [execOp, Act.eval, F2]) H0 ?_
  simp only [Act.put, List.setIfInBounds_toArray, List.set_cons_zero, List.set_cons_succ]
  refine hr_ex 5 (some 14) rfl rfl (by kernel_rfl) rfl (R := fun v w' => Apd w' w.heap.size 23 v (i + m) (vs.take i ++ ys) ∧ Below v0.heap.size v0 w') (by obtain ⟨v', w', hr, h3, h4⟩ := run_apd (P := Tryd.prog) (w := v0) (base := v0.heap.size) (t := 76) (ty := 76) Tryd.underlying76 hi hz0 hz1 hz2 rfl (.inl ⟨ao, rfl, (h.below E0).front i i (by omega) (Nat.le_refl _) (by omega)⟩) (Nat.le_refl _) (hx.below E0) h2 (by omega) (by decide); exact ⟨v', w', by simp [execOp, Act.eval, resolve, invoke, builtin, hr], h3.base E0.size, h4⟩) ?_
  rintro v v1 ⟨A1, C0⟩
  have E1 := E0.trans (C0.mono E0.size)
  have H1 := HS.out v1 E1
  refine ⟨H1, ?_⟩
  simp only [Act.put, List.setIfInBounds_toArray, List.set_cons_zero, List.set_cons_succ]
  refine hr_ex 9 (some 18) rfl rfl (by kernel_rfl) rfl (R := fun u w' => Apd w' w.heap.size 23 u (i + m + (n - j)) (vs.take i ++ ys ++ vs.drop j) ∧ Below w.heap.size v1 w') (by obtain ⟨v', w', hr, h3, h4⟩ := run_apd (P := Tryd.prog) (w := v1) (base := w.heap.size) (t := 76) (ty := 76) Tryd.underlying76 hi hz0 hz1 hz2 rfl A1 E1.size ((h.below E1).from j hj) (fun u hu => h1 u (List.mem_of_mem_drop hu)) (by omega) (by decide); exact ⟨v', w', by simp [execOp, Act.eval, resolve, invoke, builtin, hr], h3, h4⟩) ?_
  rintro v v2 ⟨A2, C1⟩
  have E2 := E1.trans C1
  have H2 := HS.out v2 E2
  refine ⟨H2, ?_⟩
  simp only [Act.put, List.setIfInBounds_toArray, List.set_cons_zero, List.set_cons_succ]
  refine hr_take_w 10 (some 8) (v) rfl rfl (by kernel_rfl) (by kernel_rfl) (by kernel_rfl) rfl (fun W hW => by go_simp) H2 ?_
  simp only [Act.put, List.setIfInBounds_toArray, List.set_cons_zero, List.set_cons_succ]
  refine wpAnyH_done (by kernel_rfl) ?_ _
  refine NoPanic.normal ?_
  obtain ⟨ro, rc, rfl, hv⟩ := A2.vl
  go_wp2
  go_ret
  exact ⟨ro, rc, rfl, hv, E2⟩

set_option maxHeartbeats 1000000 in
set_option maxRecDepth 100000 in
theorem chgN_any (w : World) (ao bo : Option Addr) (n cap m c i j : Nat) (vs ys : List Value) (h : VL w ao n cap vs) (hx : VL w bo m c ys) (h1 : ∀ u ∈ vs, u.oneCell' = true) (h2 : ∀ u ∈ ys, u.oneCell' = true) (hij : i ≤ j) (hj : j ≤ n) (hn : n + m ≤ 1000000) :
    Calls Tryd.prog 60 #[.slice ao n cap, .int .i64 i, .int .i64 j, .slice bo m c] w fun e w' =>
      ∃ ro rc, e = .returned (.slice ro (i + m + (n - j)) rc) ∧ VL w' ro (i + m + (n - j)) rc (vs.take i ++ ys ++ vs.drop j) ∧ Below w.heap.size w w' := by
  obtain ⟨i0, hi, hz0, hz1, hz2⟩ := info_parts ninfo
  have hle := h.le
  have F1 : ∀ W, _ := fun W => run_front (P := Tryd.prog) (W := W) (t := 80) (ao := ao) (n := n) (cap := cap) (i := i) (c := i) Tryd.underlying80 (Nat.le_refl _) (by omega) nsize
  have F2 : ∀ W, _ := fun W => run_back (P := Tryd.prog) (W := W) (t := 80) (ao := ao) (n := n) (cap := cap) (j := j) Tryd.underlying80 (by omega) nsize
  go_enter Tryd.func60, Tryd.ntmps60
  go_wp2
  have HS : Hid (∀ V, Below w.heap.size w V → True) := fun _ _ => trivial
  have E0 : Below w.heap.size w w.drew := (Below.refl _ _).drew
  refine wp_region_noPanic ?_
  refine wp_region_held_drew (S := fun V => True) (by kernel_rfl) (HS.out _ E0) (fun H0 => ?_)
  obtain ⟨v0, hv0⟩ : ∃ v, v = w.drew := ⟨_, rfl⟩
  rw [← hv0] at E0 ⊢
  clear hv0
  refine hr_take_w 0 (some 9) (.slice ao n cap) rfl rfl (by kernel_rfl) (by kernel_rfl) (by kernel_rfl) rfl (fun W hW => by go_simp) H0 ?_
  simp only [Act.put, List.setIfInBounds_toArray, List.set_cons_zero, List.set_cons_succ]
  refine hr_take_w 1 (some 10) (.int .i64 i) rfl rfl (by kernel_rfl) (by kernel_rfl) (by kernel_rfl) rfl (fun W hW => by go_simp) H0 ?_
  simp only [Act.put, List.setIfInBounds_toArray, List.set_cons_zero, List.set_cons_succ]
  refine hr_take_w 2 (some 11) (.int .i64 i) rfl rfl (by kernel_rfl) (by kernel_rfl) (by kernel_rfl) rfl (fun W hW => by go_simp) H0 ?_
  simp only [Act.put, List.setIfInBounds_toArray, List.set_cons_zero, List.set_cons_succ]
  refine hr_take_w 3 (some 12) (.slice ao i i) rfl rfl (by kernel_rfl) (by kernel_rfl) (by kernel_rfl) rfl (fun W hW => by simp [execOp, Act.eval, F1]) H0 ?_
  simp only [Act.put, List.setIfInBounds_toArray, List.set_cons_zero, List.set_cons_succ]
  refine hr_take_w 4 (some 13) (.slice bo m c) rfl rfl (by kernel_rfl) (by kernel_rfl) (by kernel_rfl) rfl (fun W hW => by go_simp) H0 ?_
  simp only [Act.put, List.setIfInBounds_toArray, List.set_cons_zero, List.set_cons_succ]
  refine hr_take_w 6 (some 15) (.slice ao n cap) rfl rfl (by kernel_rfl) (by kernel_rfl) (by kernel_rfl) rfl (fun W hW => by go_simp) H0 ?_
  simp only [Act.put, List.setIfInBounds_toArray, List.set_cons_zero, List.set_cons_succ]
  refine hr_take_w 7 (some 16) (.int .i64 j) rfl rfl (by kernel_rfl) (by kernel_rfl) (by kernel_rfl) rfl (fun W hW => by go_simp) H0 ?_
  simp only [Act.put, List.setIfInBounds_toArray, List.set_cons_zero, List.set_cons_succ]
  refine hr_take_w 8 (some 17) (.slice (bk ao cap j) (n - j) (cap - j)) rfl rfl (by kernel_rfl) (by kernel_rfl) (by kernel_rfl) rfl (fun W hW => by simp [execOp, Act.eval, F2]) H0 ?_
  simp only [Act.put, List.setIfInBounds_toArray, List.set_cons_zero, List.set_cons_succ]
  refine hr_ex 5 (some 14) rfl rfl (by kernel_rfl) rfl (R := fun v w' => Apd w' w.heap.size 52 v (i + m) (vs.take i ++ ys) ∧ Below v0.heap.size v0 w') (by obtain ⟨v', w', hr, h3, h4⟩ := run_apd (P := Tryd.prog) (w := v0) (base := v0.heap.size) (t := 80) (ty := 80) Tryd.underlying80 hi hz0 hz1 hz2 rfl (.inl ⟨ao, rfl, (h.below E0).front i i (by omega) (Nat.le_refl _) (by omega)⟩) (Nat.le_refl _) (hx.below E0) h2 (by omega) (by decide); exact ⟨v', w', by simp [execOp, Act.eval, resolve, invoke, builtin, hr], h3.base E0.size, h4⟩) ?_
  rintro v v1 ⟨A1, C0⟩
  have E1 := E0.trans (C0.mono E0.size)
  have H1 := HS.out v1 E1
  refine ⟨H1, ?_⟩
  simp only [Act.put, List.setIfInBounds_toArray, List.set_cons_zero, List.set_cons_succ]
  refine hr_ex 9 (some 18) rfl rfl (by kernel_rfl) rfl (R := fun u w' => Apd w' w.heap.size 52 u (i + m + (n - j)) (vs.take i ++ ys ++ vs.drop j) ∧ Below w.heap.size v1 w') (by obtain ⟨v', w', hr, h3, h4⟩ := run_apd (P := Tryd.prog) (w := v1) (base := w.heap.size) (t := 80) (ty := 80) Tryd.underlying80 hi hz0 hz1 hz2 rfl A1 E1.size ((h.below E1).from j hj) (fun u hu => h1 u (List.mem_of_mem_drop hu)) (by omega) (by decide); exact ⟨v', w', by simp [execOp, Act.eval, resolve, invoke, builtin, hr], h3, h4⟩) ?_
  rintro v v2 ⟨A2, C1⟩
  have E2 := E1.trans C1
  have H2 := HS.out v2 E2
  refine ⟨H2, ?_⟩
  simp only [Act.put, List.setIfInBounds_toArray, List.set_cons_zero, List.set_cons_succ]
  refine hr_take_w 10 (some 8) (v) rfl rfl (by kernel_rfl) (by kernel_rfl) (by kernel_rfl) rfl (fun W hW => by go_simp) H2 ?_
  simp only [Act.put, List.setIfInBounds_toArray, List.set_cons_zero, List.set_cons_succ]
  refine wpAnyH_done (by kernel_rfl) ?_ _
  refine NoPanic.normal ?_
  obtain ⟨ro, rc, rfl, hv⟩ := A2.vl
  go_wp2
  go_ret
  exact ⟨ro, rc, rfl, hv, E2⟩
end Go.Proofs.YtcepknjdiboinaaDoor

namespace Go.Proofs.YtcepknjdiboinaaDoor
open Go.RowKit

theorem arr_not_row {w : World} {p : Nat} {t e : TypeId} {cs : List Value} (h : Arr w p t cs) (hte : t ≠ e) {base size k : Nat} {v : Value} {xs : List Value} (hr : w.ownsRow base e size v k xs) : v.ownBlock ≠ some p := by
  rcases hr.2 with ⟨rfl, _⟩ | ⟨g, cap, cur, rfl, _, hgb, _⟩
  · simp [Value.ownBlock]
  · intro e'
    obtain rfl : g = p := by simpa [Value.ownBlock] using e'
    have := (show w.heap[g]? = _ from h).symm.trans hgb
    simp at this
    exact hte this.2
theorem own_below {w w' : World} {base : Nat} {e : TypeId} {size : Nat} {v : Value} {n : Nat} {xs : List Value} (h : w.ownsRow base e size v n xs) (hb : Below w.heap.size w w') : w'.ownsRow base e size v n xs :=
  h.kept (row := none) ⟨hb.os, hb.tape, hb.output, hb.size, fun k hk _ => hb.block k hk⟩ (by cases v.ownBlock <;> simp)
theorem arr_below {w w' : World} {p : Nat} {t : TypeId} {cs : List Value} (h : Arr w p t cs) (hb : Below w.heap.size w w') : Arr w' p t cs := (hb.block p h.lt).trans h
/-- Behind an append to a row of a field's own, and the store of what it yields. -/
theorem arr_put {w w1 : World} {p base : Nat} {t e : TypeId} {cs : List Value} {size k m : Nat} {v v' : Value} {xs ys : List Value} (h : Arr w p t cs) (hte : t ≠ e) (hr : w.ownsRow base e size v k xs) (hb : base ≤ w.heap.size) (hp : base ≤ p)
    (hr' : w1.ownsRow base e size v' m ys) (hg : w.grownBy w1 v.ownBlock) (j : Nat) :
    Arr w1 p t cs ∧ Arr (w1.setCell ⟨p, j, none⟩ v') p t (cs.set j v') ∧ (w1.setCell ⟨p, j, none⟩ v').ownsRow base e size v' m ys ∧ Below base w (w1.setCell ⟨p, j, none⟩ v') := by
  have hne := arr_not_row h hte hr
  have h1 : Arr w1 p t cs := h.grown hg (fun e => hne e.symm)
  refine ⟨h1, h1.set j v', ?_, ?_⟩
  · refine hr'.kept (row := some p) (grown_set (a := w1) (b := w1) ⟨rfl, rfl, rfl, Nat.le_refl _, fun _ _ _ => rfl⟩ j v') (.inr (arr_not_row h1 hte hr'))
  · refine ((Below.refl base w).grown hg hb (fun k hk => (hr.lt k hk).1)).setCell hp v'
end Go.Proofs.YtcepknjdiboinaaDoor

namespace Go
open Go.RowKit
/-- How many of the first n are not listed. -/
def unL (L : Array Bool) : Nat → Nat
  | 0 => 0
  | n + 1 => unL L n + (if L.getD n true then 0 else 1)
theorem unL_set_ge {L : Array Bool} {i : Nat} : ∀ n, n ≤ i → unL (L.setIfInBounds i true) n = unL L n
  | 0, _ => rfl
  | n + 1, h => by rw [unL, unL, unL_set_ge n (by omega), getD_set_ne true (by omega)]
theorem unL_set {L : Array Bool} {i : Nat} (hL : L.getD i true = false) : ∀ n, i < n → unL (L.setIfInBounds i true) n + 1 = unL L n
  | 0, h => by omega
  | n + 1, h => by
    rw [unL, unL]
    by_cases hn : n = i
    · subst hn
      have hlt : n < L.size := by
        by_cases h' : n < L.size
        · exact h'
        · simp [Array.getElem?_eq_none (Nat.le_of_not_lt h')] at hL
      have h2 : (L.setIfInBounds n true).getD n true = true := by simp [hlt]
      rw [unL_set_ge n (Nat.le_refl _), h2, hL]
      simp
    · have := unL_set hL n (by omega)
      rw [getD_set_ne true (fun e => hn e.symm)]
      omega
theorem unL_zero {L : Array Bool} : ∀ n, unL L n = 0 → ∀ i, i < n → L.getD i true = true
  | 0, _, i, h => by omega
  | n + 1, h0, i, h => by
    rw [unL] at h0
    by_cases hn : i = n
    · subst hn
      by_cases hc : L.getD i true = true
      · exact hc
      · rw [if_neg hc] at h0
        omega
    · exact unL_zero n (by omega) i (by omega)
/-- What an operation with an effect comes to. -/
def EffRun (P : Program) (o : Oper) (a : Act) (w : World) (R : Value → World → Prop) : Prop :=
  (∃ v w', (execOp a.eval o).run P w = .ok (.value v) w' ∧ R v w') ∨
  (∃ f args, (execOp a.eval o).run P w = .ok (.enter f args) w ∧ Calls P f args w fun e w' => ∃ v, e = .returned v ∧ R v w')
/-- All other slots are as they were. -/
structure EffSame (ops : Array Oper) (L0 : Array Bool) (a0 a : Act) : Prop where
  defers : a.defers = a0.defers
  size : a.tmps.size = a0.tmps.size
  same : ∀ k, (∀ i o, ops[i]? = some o → L0.getD i true = false → o.dst ≠ some k) → a.tmps[k]? = a0.tmps[k]?
/-- Operation i has come up: what its slot holds. -/
def EffHas (ops : Array Oper) (F : Nat → Value → World → Prop) (a : Act) (w : World) (i : Nat) : Prop := ∃ o d v, ops[i]? = some o ∧ o.dst = some d ∧ a.tmps[d]? = some v ∧ F i v w

theorem EffHas.at {ops : Array Oper} {F : Nat → Value → World → Prop} {a : Act} {w : World} {i : Nat} (h : EffHas ops F a w i) (d : Nat) (hd : (ops[i]?).bind (·.dst) = some d) : ∃ v, a.tmps[d]? = some v ∧ F i v w := by
  obtain ⟨o, d', v, ho, hd', ht, hF⟩ := h
  rw [ho] at hd
  have : d' = d := by
    have h2 : o.dst = some d := hd
    rw [hd'] at h2
    exact Option.some.inj h2
  subst this
  exact ⟨v, ht, hF⟩
/-- The region's shape, as a test. -/
def effOk (ops : Array Oper) (L0 : Array Bool) (n : Nat) : Bool :=
  (List.range ops.size).all (fun i => match ops[i]? with
    | none => true
    | some o => o.after.all (fun e => !Region.binds .any e || decide (e.on < i)) && (L0.getD i true || (match o.dst with | some d => decide (d < n) | none => false) && o.guard.isNone &&
        (List.range ops.size).all fun j => j == i || L0.getD j true || (match ops[j]? with | some o' => o'.dst != o.dst | none => true)))
theorem effOk_spec {ops : Array Oper} {L0 : Array Bool} {n : Nat} (h : effOk ops L0 n = true) (i : Nat) (o : Oper) (ho : ops[i]? = some o) : (∀ e ∈ o.after, Region.binds .any e = true → e.on < i) ∧
    (L0.getD i true = false → (∃ d, o.dst = some d ∧ d < n ∧ o.guard = none) ∧ ∀ j o', ops[j]? = some o' → L0.getD j true = false → o'.dst = o.dst → j = i) := by
  have h1 := List.all_eq_true.1 h i (List.mem_range.2 (Array.getElem?_eq_some_iff.1 ho).1)
  simp only [ho, Bool.and_eq_true] at h1
  obtain ⟨h2, h3⟩ := h1
  refine ⟨fun e he hb => ?_, fun hL => ?_⟩
  · have := Array.all_eq_true_iff_forall_mem.1 h2 e he
    simpa [hb] using this
  · rw [hL, Bool.false_or, Bool.and_eq_true, Bool.and_eq_true] at h3
    obtain ⟨⟨h4, h5⟩, h6⟩ := h3
    refine ⟨?_, fun j o' hj hLj he => ?_⟩
    · cases hd : o.dst with
      | none => rw [hd] at h4; simp at h4
      | some d => rw [hd] at h4; exact ⟨d, rfl, by simpa using h4, Option.isNone_iff_eq_none.1 h5⟩
    · have h7 := List.all_eq_true.1 h6 j (List.mem_range.2 (Array.getElem?_eq_some_iff.1 hj).1)
      by_cases hji : j = i
      · exact hji
      · rw [hLj, hj] at h7
        simp only [he, bne_self_eq_false, Bool.or_false, beq_iff_eq] at h7
        exact h7
/-- Slots that no such operation writes. -/
def effNot (ops : Array Oper) (L0 : Array Bool) (k : Nat) : Bool :=
  (List.range ops.size).all fun i => L0.getD i true || (match ops[i]? with | some o => o.dst != some k | none => true)
theorem EffSame.get {ops : Array Oper} {L0 : Array Bool} {a0 a : Act} (h : EffSame ops L0 a0 a) (k : Nat) {v : Value} (hk : effNot ops L0 k = true) (h0 : a0.tmps[k]? = some v) : a.tmps[k]? = some v := by
  rw [h.same k (fun i o ho hL he => ?_)]
  · exact h0
  · have h1 := List.all_eq_true.1 hk i (List.mem_range.2 (Array.getElem?_eq_some_iff.1 ho).1)
    rw [hL, ho] at h1
    simp [he] at h1
/-- Which are not listed. -/
def effAll (ops : Array Oper) (L0 : Array Bool) : List Nat := (List.range ops.size).filter fun i => !L0.getD i true
theorem mem_effAll {ops : Array Oper} {L0 : Array Bool} {i : Nat} {o : Oper} (ho : ops[i]? = some o) (hL : L0.getD i true = false) : i ∈ effAll ops L0 :=
  List.mem_filter.2 ⟨List.mem_range.2 (Array.getElem?_eq_some_iff.1 ho).1, by rw [hL]; rfl⟩

theorem wpAnyH_eff {P : Program} {ops : Array Oper} {S : World → Prop} {Q : Exit → Act → World → Prop} {a0 : Act} {W0 : World} {L0 : Array Bool} (F : Nat → Value → World → Prop)
    (mono : ∀ i v w w', F i v w → Below w.heap.size w w' → F i v w')
    (hS : ∀ w, Below W0.heap.size W0 w → S w)
    (hback : ∀ i o, ops[i]? = some o → ∀ e ∈ o.after, Region.binds .any e = true → e.on < i)
    (hd : ∀ i o, ops[i]? = some o → L0.getD i true = false → ∃ d, o.dst = some d ∧ d < a0.tmps.size ∧ o.guard = none)
    (inj : ∀ i j o o' d, ops[i]? = some o → ops[j]? = some o' → L0.getD i true = false → L0.getD j true = false → o.dst = some d → o'.dst = some d → i = j)
    (step : ∀ i o a w, ops[i]? = some o → L0.getD i true = false → EffSame ops L0 a0 a → Below W0.heap.size W0 w → (∀ j, o.after.any (fun e => Region.binds .any e && e.on == j) = true → L0.getD j true = false → EffHas ops F a w j) → EffRun P o a w (fun v w' => F i v w' ∧ Below w.heap.size w w'))
    (fin : ∀ a w, EffSame ops L0 a0 a → Below W0.heap.size W0 w → (∀ i, i < ops.size → L0.getD i true = false → EffHas ops F a w i) → Q .normal a w) :
    ∀ (fuel : Nat) (L : Array Bool) (a : Act) (w : World), unL L ops.size ≤ fuel → L.size = ops.size → L0.size = ops.size → EffSame ops L0 a0 a → Below W0.heap.size W0 w →
      (∀ i, i < ops.size → L.getD i true = true → L0.getD i true = true ∨ EffHas ops F a w i) → (∀ i, L0.getD i true = true → L.getD i true = true) → wpAnyH P .any ops (NoPanic Q) S fuel L a w := by
  intro fuel
  induction fuel with
  | zero =>
    intro L a w hu hL hL0 hs hb hh hm
    have hz := unL_zero ops.size (by omega : unL L ops.size = 0)
    have hr : Region.ready .any ops L = [] := by
      refine List.eq_nil_iff_forall_not_mem.2 fun i hi => ?_
      obtain ⟨h1, o, ho, -⟩ := mem_ready.1 hi
      have := hz i (Array.getElem?_eq_some_iff.1 ho).1
      rw [h1] at this
      simp at this
    refine wpAnyH_done hr (NoPanic.normal (fin a w hs hb fun i hi he => ?_)) 0
    rcases hh i hi (hz i hi) with h | h
    · rw [he] at h
      simp at h
    · exact h
  | succ fuel ih =>
    intro L a w hu hL hL0 hs hb hh hm
    refine ⟨fun hr => NoPanic.normal (fin a w hs hb fun i hi he => ?_), fun i hi => ?_⟩
    · have hall : ∀ n, ∀ i, i < n → i < ops.size → L.getD i true = true := by
        intro n
        induction n with
        | zero => intro i h; omega
        | succ n ihn =>
          intro i hi hlt
          by_cases hin : i < n
          · exact ihn i hin hlt
          · obtain rfl : i = n := by omega
            by_cases hc : L.getD i true = true
            · exact hc
            · exfalso
              have hf : L.getD i true = false := by simpa using hc
              exact hc (by
                have : i ∈ Region.ready .any ops L := mem_ready.2 ⟨hf, ops[i], Array.getElem?_eq_getElem hlt, fun e he hbi => by
                  have h1 := hback i ops[i] (Array.getElem?_eq_getElem hlt) e he hbi
                  have h2 := ihn e.on h1 (by omega)
                  have h3 : e.on < L.size := by omega
                  simpa [h3] using h2⟩
                rw [hr] at this
                simp at this)
      rcases hh i hi (hall (i + 1) i (by omega) hi) with h | h
      · rw [he] at h
        simp at h
      · exact h
    · obtain ⟨h1, o, ho, hdep⟩ := mem_ready.1 hi
      have hlt := (Array.getElem?_eq_some_iff.1 ho).1
      have he : L0.getD i true = false := by
        by_cases hc : L0.getD i true = true
        · have := hm i hc
          rw [h1] at this
          simp at this
        · simpa using hc
      obtain ⟨d, hdo, hdl, hg⟩ := hd i o ho he
      have hw : Region.wanted o (yielded ops a.tmps) = true := by simp [Region.wanted, hg]
      have hrun := step i o a w ho he hs hb (fun j hj hef => by
        obtain ⟨e, hem, hbj⟩ := Array.any_eq_true'.1 hj
        simp only [Bool.and_eq_true, beq_iff_eq] at hbj
        obtain ⟨hbi, rfl⟩ := hbj
        have h2 := hdep e hem hbi
        have h3 := hback i o ho e hem hbi
        have h4 : e.on < L.size := by omega
        rcases hh e.on (by omega) (by simpa [h4] using h2) with h | h
        · rw [hef] at h
          simp at h
        · exact h)
      have next : ∀ v w', F i v w' ∧ Below w.heap.size w w' → S w' ∧ wpAnyH P .any ops (NoPanic Q) S fuel (L.setIfInBounds i true) (a.put (some d) v) w' := by
        rintro v w' ⟨hF, hb'⟩
        have hbw := hb.trans (hb'.mono hb.size)
        have hsz : (a.put (some d) v).tmps = a.tmps.setIfInBounds d v := rfl
        refine ⟨hS w' hbw, ih _ _ _ ?_ (by simpa using hL) hL0 ⟨hs.defers, by rw [hsz, Array.size_setIfInBounds]; exact hs.size, fun k hk => ?_⟩ hbw (fun j hj hjL => ?_) (fun j hj => ?_)⟩
        · have := unL_set h1 ops.size hlt
          omega
        · have hne : d ≠ k := fun e => hk i o ho he (by rw [hdo, e])
          rw [hsz, Array.getElem?_setIfInBounds_ne hne]
          exact hs.same k hk
        · by_cases hji : j = i
          · subst hji
            refine .inr ⟨o, d, v, ho, hdo, ?_, hF⟩
            rw [hsz, Array.getElem?_setIfInBounds_self_of_lt (by rw [hs.size]; exact hdl)]
          · rw [getD_set_ne true (fun e => hji e.symm)] at hjL
            rcases hh j hj hjL with h | ⟨o', d', v', ho', hd', ht', hF'⟩
            · exact .inl h
            · by_cases hc : L0.getD j true = true
              · exact .inl hc
              · have hjf : L0.getD j true = false := by simpa using hc
                refine .inr ⟨o', d', v', ho', hd', ?_, mono j v' w w' hF' hb'⟩
                have hne : d ≠ d' := fun e => hji (inj j i o' o d ho' ho hjf he (by rw [hd', e]) hdo)
                rw [hsz, Array.getElem?_setIfInBounds_ne hne]
                exact ht'
        · by_cases hji : j = i
          · subst hji
            rw [he] at hj
            simp at hj
          · rw [getD_set_ne true (fun e => hji e.symm)]
            exact hm j hj
      rcases hrun with ⟨v, w', hr, hR⟩ | ⟨f, args, hr, hc⟩
      · unfold wpOp
        simp only [ho, hw, if_true, Oper.wp, hr, Oper.upon, hdo]
        exact .inl (next v w' hR)
      · unfold wpOp
        simp only [ho, hw, if_true, Oper.wp, hr, Oper.upon, hdo]
        refine .inl (hc.mono ?_)
        rintro e w' ⟨v, rfl, hR⟩
        exact next v w' hR
/-- The same, the region's shape tested. -/
theorem wpAnyH_effs {P : Program} {ops : Array Oper} {S : World → Prop} {Q : Exit → Act → World → Prop} {a0 : Act} {W0 : World} {L0 : Array Bool} {fuel : Nat} (F : Nat → Value → World → Prop) (is : List Nat) (n : Nat)
    (hok : effOk ops L0 n = true) (hall : effAll ops L0 = is) (hu : unL L0 ops.size ≤ fuel) (hsz : L0.size = ops.size) (hn : n = a0.tmps.size)
    (mono : ∀ i v w w', F i v w → Below w.heap.size w w' → F i v w')
    (hS : ∀ w, Below W0.heap.size W0 w → S w)
    (step : ∀ i ∈ is, ∀ o a w, ops[i]? = some o → EffSame ops L0 a0 a → Below W0.heap.size W0 w → (∀ j, o.after.any (fun e => Region.binds .any e && e.on == j) = true → L0.getD j true = false → EffHas ops F a w j) → EffRun P o a w (fun v w' => F i v w' ∧ Below w.heap.size w w'))
    (fin : ∀ a w, EffSame ops L0 a0 a → Below W0.heap.size W0 w → (∀ i ∈ is, EffHas ops F a w i) → Q .normal a w) : wpAnyH P .any ops (NoPanic Q) S fuel L0 a0 W0 :=
  wpAnyH_eff F mono hS (fun i o ho => (effOk_spec hok i o ho).1) (fun i o ho hL => by subst hn; exact ((effOk_spec hok i o ho).2 hL).1)
    (fun i j o o' d ho ho' hL hL' hd hd' => ((effOk_spec hok j o' ho').2 hL').2 i o ho hL (hd.trans hd'.symm))
    (fun i o a w ho hL hs hb hdep => step i (by rw [← hall]; exact mem_effAll ho hL) o a w ho hs hb hdep)
    (fun a w hs hb hh => fin a w hs hb fun i hi => by
      rw [← hall] at hi
      obtain ⟨h1, h2⟩ := List.mem_filter.1 hi
      exact hh i (List.mem_range.1 h1) (by simpa using h2))
    fuel L0 a0 W0 hu hsz hsz ⟨rfl, rfl, fun _ _ => rfl⟩ (Below.refl _ _) (fun _ _ h => .inl h) (fun _ h => h)
end Go

namespace Go
open Go.RowKit
/-- Listed, besides. -/
def setL (L : Array Bool) (is : List Nat) : Array Bool := is.foldl (fun L i => L.setIfInBounds i true) L
theorem setL_size (is : List Nat) : ∀ L : Array Bool, (setL L is).size = L.size := by
  induction is with
  | nil => intro L; rfl
  | cons i is ih => intro L; exact (ih _).trans (by simp)
theorem setL_get (is : List Nat) : ∀ (L : Array Bool) (j : Nat), j < L.size → (setL L is).getD j true = (L.getD j true || is.contains j) := by
  induction is with
  | nil => intro L j _; simp [setL]
  | cons i is ih =>
    intro L j hj
    have h := ih (L.setIfInBounds i true) j (by simpa using hj)
    show (setL (L.setIfInBounds i true) is).getD j true = _
    rw [h]
    by_cases hij : i = j
    · subst hij
      have : (L.setIfInBounds i true).getD i true = true := by simp [hj]
      rw [this]
      simp
    · rw [getD_set_ne true hij]
      have : (i :: is).contains j = is.contains j := by
        rw [List.contains_cons, show (j == i) = false by simpa using fun e => hij e.symm, Bool.false_or]
      rw [this]
theorem arr_ext {A B : Array Bool} (hs : A.size = B.size) (h : ∀ j, j < A.size → A.getD j true = B.getD j true) : A = B := by
  refine Array.ext hs fun j h1 h2 => ?_
  have := h j h1
  simpa [h1, h2] using this
/-- What operation i waits for has come up. -/
def depOk (ops : Array Oper) (L : Array Bool) (i : Nat) : Bool := ((ops[i]?).map (·.after.all fun e => !Region.binds .any e || L.getD e.on false)).getD false
theorem depOk_of {ops : Array Oper} {L : Array Bool} {i : Nat} {o : Oper} (ho : ops[i]? = some o) (h : ∀ e ∈ o.after, Region.binds .any e = true → L.getD e.on false = true) : depOk ops L i = true := by
  simp only [depOk, ho, Option.map_some, Option.getD_some]
  refine Array.all_eq_true_iff_forall_mem.2 fun e he => ?_
  by_cases hb : Region.binds .any e = true
  · rw [h e he hb, Bool.or_true]
  · simp [hb]
theorem getD_set_on {L : Array Bool} {i j : Nat} (h : L.getD j false = true) : (L.setIfInBounds i true).getD j false = true := by
  by_cases hij : i = j
  · subst hij
    by_cases hlt : i < L.size
    · simp [hlt]
    · simp [hlt] at h
  · simp only [Array.getD_eq_getD_getElem?] at h ⊢
    rw [Array.getElem?_setIfInBounds_ne hij]
    exact h
theorem depOk_set {ops : Array Oper} {L : Array Bool} {i j : Nat} (h : depOk ops L i = true) : depOk ops (L.setIfInBounds j true) i = true := by
  cases ho : ops[i]? with
  | none => simp [depOk, ho] at h
  | some o =>
    refine depOk_of ho fun e he hb => ?_
    simp only [depOk, ho, Option.map_some, Option.getD_some] at h
    have := Array.all_eq_true_iff_forall_mem.1 h e he
    rw [hb, Bool.not_true, Bool.false_or] at this
    exact getD_set_on this
/-- Whichever of them have come up, as long as some have not: one of them may come up, and no other. -/
def effChk (ops : Array Oper) (all : List Nat) : List Nat → Array Bool → Bool → Bool
  | [], L, sk => !sk || !(all.all fun i => !L.getD i true || depOk ops L i) || (!(Region.ready .any ops L).isEmpty && (Region.ready .any ops L).all fun j => all.contains j)
  | i :: is, L, sk => effChk ops all is (L.setIfInBounds i true) sk && effChk ops all is L true
theorem effChk_spec {ops : Array Oper} {all : List Nat} (c : Nat → Bool) : ∀ (is : List Nat) (L : Array Bool) (sk : Bool), effChk ops all is L sk = true → (sk = true ∨ ∃ i ∈ is, c i = false) → (∀ i ∈ all, (setL L (is.filter c)).getD i true = true → depOk ops (setL L (is.filter c)) i = true) →
    Region.ready .any ops (setL L (is.filter c)) ≠ [] ∧ ∀ j ∈ Region.ready .any ops (setL L (is.filter c)), j ∈ all
  | [], L, sk, h, hs, hcl => by
    rcases hs with rfl | ⟨i, hi, _⟩
    · have hcl' : (all.all fun i => !L.getD i true || depOk ops L i) = true := List.all_eq_true.2 fun i hi => by
        by_cases hL : L.getD i true = true
        · have := hcl i hi hL
          have h2 : depOk ops L i = true := this
          rw [h2, Bool.or_true]
        · have h2 : L.getD i true = false := by simpa using hL
          rw [h2]
          rfl
      simp only [effChk, hcl', Bool.not_true, Bool.false_or, Bool.and_eq_true] at h
      refine ⟨fun e => ?_, fun j hj => ?_⟩
      · have : Region.ready .any ops L = [] := e
        rw [this] at h
        simp at h
      · have := List.all_eq_true.1 h.2 j hj
        simpa using this
    · simp at hi
  | i :: is, L, sk, h, hs, hcl => by
    simp only [effChk, Bool.and_eq_true] at h
    by_cases hc : c i = true
    · rw [List.filter_cons, if_pos hc] at hcl ⊢
      refine effChk_spec c is (L.setIfInBounds i true) sk h.1 ?_ hcl
      rcases hs with hs | ⟨j, hj, hf⟩
      · exact .inl hs
      · rcases List.mem_cons.1 hj with rfl | hj
        · rw [hc] at hf; simp at hf
        · exact .inr ⟨j, hj, hf⟩
    · rw [List.filter_cons, if_neg hc] at hcl ⊢
      exact effChk_spec c is L true h.2 (.inl rfl) hcl
/-- How many have not come up. -/
def unC (c : Nat → Bool) : List Nat → Nat
  | [] => 0
  | i :: is => unC c is + (if c i then 0 else 1)
theorem unC_same {c d : Nat → Bool} : ∀ (is : List Nat), (∀ i ∈ is, c i = d i) → unC c is = unC d is
  | [], _ => rfl
  | i :: is, h => by rw [unC, unC, unC_same is (fun j hj => h j (List.mem_cons_of_mem _ hj)), h i (List.mem_cons_self ..)]
theorem unC_set {c : Nat → Bool} {i : Nat} (hc : c i = false) : ∀ (is : List Nat), is.Nodup → i ∈ is → unC c is = unC (fun j => c j || j == i) is + 1
  | [], _, h => by simp at h
  | j :: is, hn, h => by
    have hn' := List.nodup_cons.1 hn
    rw [unC, unC]
    by_cases hji : j = i
    · subst hji
      have := unC_same (c := c) (d := fun k => c k || k == j) is (fun k hk => by
        have hne : k ≠ j := fun e => hn'.1 (e ▸ hk)
        have : (k == j) = false := by simpa using hne
        simp [this])
      rw [← this, hc]
      simp
    · have hi : i ∈ is := by
        rcases List.mem_cons.1 h with h | h
        · exact absurd h.symm hji
        · exact h
      have ih := unC_set hc is hn'.2 hi
      have : (j == i) = false := by simpa using hji
      rw [ih]
      simp only [this, Bool.or_false]
      omega
theorem unC_zero {c : Nat → Bool} : ∀ (is : List Nat), unC c is = 0 → ∀ i ∈ is, c i = true
  | [], _, i, h => by simp at h
  | j :: is, h0, i, h => by
    rw [unC] at h0
    rcases List.mem_cons.1 h with rfl | h
    · by_cases hc : c i = true
      · exact hc
      · rw [if_neg hc] at h0; omega
    · exact unC_zero is (by omega) i h
theorem unC_none : ∀ (is : List Nat), unC (fun _ => false) is = is.length
  | [] => rfl
  | i :: is => by rw [unC, unC_none is]; simp
/-- The slots of those that came up. -/
def putL (a : Act) (f : Nat → Value) (ids : List (Nat × Nat)) : Act := ids.foldl (fun a p => a.put (some p.2) (f p.1)) a
theorem putL_size (f : Nat → Value) (ids : List (Nat × Nat)) : ∀ a : Act, (putL a f ids).tmps.size = a.tmps.size := by
  induction ids with
  | nil => intro a; rfl
  | cons p ids ih => intro a; exact (ih _).trans (by simp [Act.put])
theorem putL_defers (f : Nat → Value) (ids : List (Nat × Nat)) : ∀ a : Act, (putL a f ids).defers = a.defers := by
  induction ids with
  | nil => intro a; rfl
  | cons p ids ih => intro a; exact (ih _).trans rfl
theorem putL_other (f : Nat → Value) (k : Nat) (ids : List (Nat × Nat)) : ∀ a : Act, (∀ p ∈ ids, p.2 ≠ k) → (putL a f ids).tmps[k]? = a.tmps[k]? := by
  induction ids with
  | nil => intro a _; rfl
  | cons p ids ih =>
    intro a h
    have h1 := ih (a.put (some p.2) (f p.1)) (fun q hq => h q (List.mem_cons_of_mem _ hq))
    refine h1.trans ?_
    have hne := h p (List.mem_cons_self ..)
    simp [Act.put, Array.getElem?_setIfInBounds_ne hne]
theorem putL_at (f : Nat → Value) : ∀ (ids : List (Nat × Nat)) (a : Act), (ids.map (·.2)).Nodup → ∀ p ∈ ids, p.2 < a.tmps.size → (putL a f ids).tmps[p.2]? = some (f p.1)
  | [], a, _, p, h, _ => by simp at h
  | q :: ids, a, hn, p, h, hlt => by
    have hn' := List.nodup_cons.1 hn
    rcases List.mem_cons.1 h with rfl | h
    · have h1 := putL_other f p.2 ids (a.put (some p.2) (f p.1)) (fun q hq e => hn'.1 (List.mem_map.2 ⟨q, hq, e⟩))
      refine h1.trans ?_
      simp [Act.put, hlt]
    · exact putL_at f ids (a.put (some q.2) (f q.1)) hn'.2 p h (by simpa [Act.put] using hlt)
/-- The test of the whole. -/
def effTo (ops : Array Oper) (L0 : Array Bool) (ids : List (Nat × Nat)) (n : Nat) : Bool :=
  ids.all (fun p => decide (p.2 < n) && !L0.getD p.1 true && (match ops[p.1]? with | some o => o.dst == some p.2 && o.guard.isNone | none => false)) &&
  effChk ops (ids.map (·.1)) (ids.map (·.1)) L0 false && decide (L0.size = ops.size)
/-- What has come up of what an operation waits for. -/
def EffGot (ids : List (Nat × Nat)) (F : Nat → Value → World → Prop) (a : Act) (w : World) (j : Nat) : Prop := ∀ p ∈ ids, p.1 = j → ∃ v, a.tmps[p.2]? = some v ∧ F j v w
structure EffKeep (ids : List (Nat × Nat)) (a0 a : Act) : Prop where
  defers : a.defers = a0.defers
  size : a.tmps.size = a0.tmps.size
  same : ∀ k, (∀ p ∈ ids, p.2 ≠ k) → a.tmps[k]? = a0.tmps[k]?
theorem EffKeep.get {ids : List (Nat × Nat)} {a0 a : Act} (h : EffKeep ids a0 a) (k : Nat) {v : Value} (hk : ids.all (fun p => p.2 != k) = true) (h0 : a0.tmps[k]? = some v) : a.tmps[k]? = some v := by
  rw [h.same k (fun p hp => by simpa using List.all_eq_true.1 hk p hp)]
  exact h0
theorem EffGot.at {ids : List (Nat × Nat)} {F : Nat → Value → World → Prop} {a : Act} {w : World} {j : Nat} (h : EffGot ids F a w j) (d : Nat) (hd : ids.contains (j, d) = true) : ∃ v, a.tmps[d]? = some v ∧ F j v w :=
  h (j, d) (by simpa using hd) rfl

theorem wpAnyH_effto {P : Program} {ops : Array Oper} {S : World → Prop} {Q : Exit → Act → World → Prop} {a0 : Act} {W0 : World} {L0 : Array Bool} (m : Nat) (F : Nat → Value → World → Prop) (ids : List (Nat × Nat)) (n : Nat)
    (hok : effTo ops L0 ids n = true) (hn1 : (ids.map (·.1)).Nodup) (hn2 : (ids.map (·.2)).Nodup) (hn : n = a0.tmps.size)
    (mono : ∀ i v w w', F i v w → Below w.heap.size w w' → F i v w')
    (hS : ∀ w, Below W0.heap.size W0 w → S w)
    (step : ∀ p ∈ ids, ∀ o a w, ops[p.1]? = some o → EffKeep ids a0 a → Below W0.heap.size W0 w → (∀ j, o.after.any (fun e => Region.binds .any e && e.on == j) = true → EffGot ids F a w j) → EffRun P o a w (fun v w' => F p.1 v w' ∧ Below w.heap.size w w'))
    (fin : ∀ (f : Nat → Value) w, Below W0.heap.size W0 w → (∀ p ∈ ids, F p.1 (f p.1) w) → wpAnyH P .any ops (NoPanic Q) S m (setL L0 (ids.map (·.1))) (putL a0 f ids) w) :
    wpAnyH P .any ops (NoPanic Q) S (ids.length + m) L0 a0 W0 := by
  simp only [effTo, Bool.and_eq_true, decide_eq_true_eq] at hok
  obtain ⟨⟨hok1, hok2⟩, hLs⟩ := hok
  have hat : ∀ p ∈ ids, p.2 < a0.tmps.size ∧ L0.getD p.1 true = false ∧ ∃ o, ops[p.1]? = some o ∧ o.dst = some p.2 ∧ o.guard = none := fun p hp => by
    have h := List.all_eq_true.1 hok1 p hp
    simp only [Bool.and_eq_true, decide_eq_true_eq, Bool.not_eq_true'] at h
    obtain ⟨⟨h1, h2⟩, h3⟩ := h
    refine ⟨hn ▸ h1, h2, ?_⟩
    cases ho : ops[p.1]? with
    | none => rw [ho] at h3; simp at h3
    | some o =>
      rw [ho] at h3
      simp only [Bool.and_eq_true, beq_iff_eq] at h3
      exact ⟨o, rfl, h3.1, Option.isNone_iff_eq_none.1 h3.2⟩
  have main : ∀ (k : Nat) (c : Nat → Bool) (a : Act) (w : World), unC c (ids.map (·.1)) = k → EffKeep ids a0 a → Below W0.heap.size W0 w → (∀ p ∈ ids, c p.1 = true → ∃ v, a.tmps[p.2]? = some v ∧ F p.1 v w) →
      (∀ i ∈ ids.map (·.1), (setL L0 ((ids.map (·.1)).filter c)).getD i true = true → depOk ops (setL L0 ((ids.map (·.1)).filter c)) i = true) →
      wpAnyH P .any ops (NoPanic Q) S (k + m) (setL L0 ((ids.map (·.1)).filter c)) a w := by
    intro k
    induction k with
    | zero =>
      intro c a w hu hs hb hh _
      have hz := unC_zero _ hu
      have hall : ∀ p ∈ ids, ∃ v, a.tmps[p.2]? = some v ∧ F p.1 v w := fun p hp => hh p hp (hz p.1 (List.mem_map_of_mem hp))
      have hLeq : setL L0 ((ids.map (·.1)).filter c) = setL L0 (ids.map (·.1)) := by rw [List.filter_eq_self.2 hz]
      obtain ⟨f, hf⟩ : ∃ f : Nat → Value, ∀ p ∈ ids, a.tmps[p.2]? = some (f p.1) ∧ F p.1 (f p.1) w := by
        have hch : ∀ j, ∃ v, ∀ p ∈ ids, p.1 = j → a.tmps[p.2]? = some v ∧ F p.1 v w := fun j => by
          by_cases hj : ∃ p ∈ ids, p.1 = j
          · obtain ⟨p, hp, rfl⟩ := hj
            obtain ⟨v, h1, h2⟩ := hall p hp
            refine ⟨v, fun q hq e => ?_⟩
            obtain ⟨-, -, o, ho, hd, -⟩ := hat p hp
            obtain ⟨-, -, o', ho', hd', -⟩ := hat q hq
            rw [e, ho] at ho'
            obtain rfl := Option.some.inj ho'
            have : p.2 = q.2 := Option.some.inj (hd.symm.trans hd')
            rw [← this, e]
            exact ⟨h1, h2⟩
          · exact ⟨undef, fun q hq e => absurd ⟨q, hq, e⟩ hj⟩
        exact ⟨fun j => Classical.choose (hch j), fun p hp => Classical.choose_spec (hch p.1) p hp rfl⟩
      have ha : a = putL a0 f ids := by
        have ht : a.tmps = (putL a0 f ids).tmps := by
          refine Array.ext (by rw [putL_size]; exact hs.size) fun j h1 h2 => ?_
          have : a.tmps[j]? = (putL a0 f ids).tmps[j]? := by
            by_cases hj : ∃ p ∈ ids, p.2 = j
            · obtain ⟨p, hp, rfl⟩ := hj
              rw [(hf p hp).1, putL_at f ids a0 hn2 p hp (hat p hp).1]
            · have hj' : ∀ p ∈ ids, p.2 ≠ j := fun p hp e => hj ⟨p, hp, e⟩
              rw [hs.same j hj', putL_other f j ids a0 hj']
          simpa [h1, h2] using this
        have hd : a.defers = (putL a0 f ids).defers := by rw [putL_defers]; exact hs.defers
        cases a
        cases hp : putL a0 f ids
        rw [hp] at ht hd
        simp only at ht hd
        rw [ht, hd]
      rw [hLeq, ha, Nat.zero_add]
      exact fin f w hb (fun p hp => (hf p hp).2)
    | succ k ih =>
      intro c a w hu hs hb hh hcl
      have hex : ∃ i ∈ ids.map (·.1), c i = false := by
        by_cases h : ∃ i ∈ ids.map (·.1), c i = false
        · exact h
        · exfalso
          have hz : ∀ i ∈ ids.map (·.1), c i = true := fun i hi => by
            by_cases hc : c i = true
            · exact hc
            · exact absurd ⟨i, hi, by simpa using hc⟩ h
          have : unC c (ids.map (·.1)) = unC (fun _ => true) (ids.map (·.1)) := unC_same _ (fun i hi => hz i hi)
          have h0 : ∀ l : List Nat, unC (fun _ => true) l = 0 := fun l => by
            induction l with
            | nil => rfl
            | cons x l ih => rw [unC, ih]; rfl
          rw [hu, h0] at this
          omega
      obtain ⟨hne, hsub⟩ := effChk_spec (ops := ops) (all := ids.map (·.1)) c (ids.map (·.1)) L0 false hok2 (.inr hex) hcl
      have hsz : (setL L0 ((ids.map (·.1)).filter c)).size = ops.size := by rw [setL_size]; exact hLs
      rw [show k + 1 + m = (k + m) + 1 by omega]
      refine ⟨fun h => absurd h hne, fun i hi => ?_⟩
      obtain ⟨p, hp, rfl⟩ := List.mem_map.1 (hsub i hi)
      obtain ⟨h1, o, ho, hdep⟩ := mem_ready.1 hi
      obtain ⟨hdl, hL0, o', ho', hdo, hg⟩ := hat p hp
      rw [ho] at ho'
      obtain rfl := Option.some.inj ho'
      have hlt := (Array.getElem?_eq_some_iff.1 ho).1
      have hci : c p.1 = false := by
        by_cases hc : c p.1 = true
        · exfalso
          rw [setL_get _ _ _ (by omega)] at h1
          have : ((ids.map (·.1)).filter c).contains p.1 = true := by
            simpa using ⟨⟨p.2, hp⟩, hc⟩
          rw [this] at h1
          simp at h1
        · simpa using hc
      have hw : Region.wanted o (yielded ops a.tmps) = true := by simp [Region.wanted, hg]
      have hrun := step p hp o a w ho hs hb (fun j hj q hq hqj => by
        obtain ⟨e, hem, hbj⟩ := Array.any_eq_true'.1 hj
        simp only [Bool.and_eq_true, beq_iff_eq] at hbj
        obtain ⟨hbi, rfl⟩ := hbj
        have h2 := hdep e hem hbi
        obtain ⟨-, hq0, oq, hoq, -⟩ := hat q hq
        have hqlt := (Array.getElem?_eq_some_iff.1 hoq).1
        have h4 : (setL L0 ((ids.map (·.1)).filter c)).getD q.1 true = true := by
          rw [hqj]
          have : e.on < (setL L0 ((ids.map (·.1)).filter c)).size := by rw [hsz, ← hqj]; exact hqlt
          simpa [this] using h2
        rw [setL_get _ _ _ (by omega), hq0, Bool.false_or] at h4
        have h5 : c q.1 = true := by
          have h6 : q.1 ∈ (ids.map (·.1)).filter c := by simpa using h4
          exact (List.mem_filter.1 h6).2
        have := hh q hq h5
        rw [hqj] at this
        exact this)
      have next : ∀ v w', F p.1 v w' ∧ Below w.heap.size w w' → S w' ∧ wpAnyH P .any ops (NoPanic Q) S (k + m) ((setL L0 ((ids.map (·.1)).filter c)).setIfInBounds p.1 true) (a.put (some p.2) v) w' := by
        rintro v w' ⟨hF, hb'⟩
        have hbw := hb.trans (hb'.mono hb.size)
        have htm : (a.put (some p.2) v).tmps = a.tmps.setIfInBounds p.2 v := rfl
        refine ⟨hS w' hbw, ?_⟩
        have hLq : (setL L0 ((ids.map (·.1)).filter c)).setIfInBounds p.1 true = setL L0 ((ids.map (·.1)).filter fun j => c j || j == p.1) := by
          refine arr_ext (by simp [setL_size]) fun j hj => ?_
          have hj' : j < L0.size := by simpa [setL_size] using hj
          rw [setL_get _ _ _ hj']
          by_cases hji : p.1 = j
          · subst hji
            have h7 : ((setL L0 ((ids.map (·.1)).filter c)).setIfInBounds p.1 true).getD p.1 true = true := by
              have : p.1 < (setL L0 ((ids.map (·.1)).filter c)).size := by rw [setL_size]; exact hj'
              simp [this]
            have h8 : ((ids.map (·.1)).filter fun j => c j || j == p.1).contains p.1 = true := by
              rw [List.contains_iff_mem]
              exact List.mem_filter.2 ⟨List.mem_map_of_mem hp, by simp⟩
            rw [h7, h8]
            simp
          · rw [getD_set_ne true hji, setL_get _ _ _ hj']
            congr 1
            have hbe : (j == p.1) = false := by simpa using fun e => hji e.symm
            rw [Bool.eq_iff_iff, List.contains_iff_mem, List.contains_iff_mem, List.mem_filter, List.mem_filter, hbe, Bool.or_false]
        rw [hLq]
        refine ih _ _ _ ?_ ⟨hs.defers, by rw [htm, Array.size_setIfInBounds]; exact hs.size, fun q hq => ?_⟩ hbw (fun q hq hcq => ?_) ?_
        · have := unC_set hci (ids.map (·.1)) hn1 (List.mem_map_of_mem hp)
          omega
        · rw [htm, Array.getElem?_setIfInBounds_ne (hq p hp)]
          exact hs.same q hq
        · by_cases hqp : q.1 = p.1
          · have h9 : q.2 = p.2 := by
              obtain ⟨-, -, oq, hoq, hdq, -⟩ := hat q hq
              rw [hqp, ho] at hoq
              obtain rfl := Option.some.inj hoq
              exact Option.some.inj (hdq.symm.trans hdo)
            rw [hqp, h9]
            refine ⟨v, ?_, hF⟩
            rw [htm, Array.getElem?_setIfInBounds_self_of_lt (by rw [hs.size]; exact hdl)]
          · have hbe : (q.1 == p.1) = false := by simpa using hqp
            have hcq' : c q.1 = true := by simpa [hbe] using hcq
            obtain ⟨v', h1', h2'⟩ := hh q hq hcq'
            refine ⟨v', ?_, mono _ _ _ _ h2' hb'⟩
            have hne : p.2 ≠ q.2 := fun e => hqp (by
              have hinj : ∀ (l : List (Nat × Nat)), (l.map (·.2)).Nodup → ∀ x ∈ l, ∀ y ∈ l, x.2 = y.2 → x = y := by
                intro l
                induction l with
                | nil => intro _ x hx; simp at hx
                | cons z l ihl =>
                  intro hnd x hx y hy exy
                  have hnd' := List.nodup_cons.1 hnd
                  rcases List.mem_cons.1 hx with rfl | hxl
                  · rcases List.mem_cons.1 hy with rfl | hyl
                    · rfl
                    · exact absurd (List.mem_map.2 ⟨y, hyl, exy.symm⟩) hnd'.1
                  · rcases List.mem_cons.1 hy with rfl | hyl
                    · exact absurd (List.mem_map.2 ⟨x, hxl, exy⟩) hnd'.1
                    · exact ihl hnd'.2 x hxl y hyl exy
              rw [hinj ids hn2 q hq p hp e.symm])
            rw [htm, Array.getElem?_setIfInBounds_ne hne]
            exact h1'
        · rw [← hLq]
          intro i hi hiL
          by_cases hip : p.1 = i
          · subst hip
            exact depOk_set (depOk_of ho hdep)
          · rw [getD_set_ne true hip] at hiL
            exact depOk_set (hcl i hi hiL)
      rcases hrun with ⟨v, w', hr, hR⟩ | ⟨f, args, hr, hc⟩
      · unfold wpOp
        simp only [ho, hw, if_true, Oper.wp, hr, Oper.upon, hdo]
        exact .inl (next v w' hR)
      · unfold wpOp
        simp only [ho, hw, if_true, Oper.wp, hr, Oper.upon, hdo]
        refine .inl (hc.mono ?_)
        rintro e w' ⟨v, rfl, hR⟩
        exact next v w' hR
  have h := main (ids.length) (fun _ => false) a0 W0 (by rw [unC_none]; simp) ⟨rfl, rfl, fun _ _ => rfl⟩ (Below.refl _ _) (fun p hp h => by simp at h) (fun i hi hL => by
    exfalso
    obtain ⟨p, hp, rfl⟩ := List.mem_map.1 hi
    rw [List.filter_eq_nil_iff.2 (by simp)] at hL
    have := (hat p hp).2.1
    have h2 : L0.getD p.1 true = true := hL
    rw [this] at h2
    simp at h2)
  have he : setL L0 ((ids.map (·.1)).filter fun _ => false) = L0 := by
    rw [List.filter_eq_nil_iff.2 (by simp)]
    rfl
  rw [he] at h
  exact h
end Go

namespace Go.Proofs.YtcepknjdiboinaaDoor
open Go.RowKit

/-- Two rows of the call's own are not one. -/
def Sp (v u : Value) : Prop := v.ownBlock = none ∨ v.ownBlock ≠ u.ownBlock
theorem Sp.symm {v u : Value} (h : Sp v u) : Sp u v := by
  unfold Sp at *
  rcases h with h | h
  · cases hu : u.ownBlock with
    | none => exact .inl rfl
    | some g => exact .inr (by rw [h]; simp)
  · exact .inr (Ne.symm h)
theorem Sp.nil (v : Value) : Sp (.slice none 0 0) v := .inl rfl
/-- append to a row of the call's own: where the row lies behind it. -/
theorem run_append_at {P : Program} (w : World) (base : Nat) (t ty e : TypeId) (i : TypeInfo) (z : Value) (size bytes : Nat) (ht : P.underlying t = some (.slice e)) (hi : P.info? e = some i) (hz : i.zero = some z)
    (hsize : i.size = size) (hby : i.bytes = bytes) (hzs : z.cells.size = size) (hsz : 0 < size)
    (v : Value) (n : Nat) (xs : List Value) (hown : w.ownsRow base e size v n xs)
    (a : Addr) (m c : Nat) (news : List Value) (hl : news.length = m * size) (hnews : ∀ j u, news[j]? = some u → w.cell? (a.add j) = some u) (h1 : ∀ u ∈ news, u.oneCell' = true)
    (h63 : n + m ≤ maxLen) (hbytes : (n + m) * bytes ≤ 140737488355328) (hbase : base ≤ w.heap.size) :
    ∃ v' w', (Builtin.append_ #[t, t] ty #[v, .slice (some a) m c]).run P w = .ok v' w' ∧ w'.ownsRow base e size v' (n + m) (xs ++ news) ∧ w.grownBy w' v.ownBlock ∧
      ∀ g, v'.ownBlock = some g → v.ownBlock = some g ∨ w.heap.size ≤ g := by
  obtain ⟨v', w', hr, ho, hg, _⟩ := run_append_own (P := P) w base t ty e i z size bytes ht hi hz hsize hby hzs hsz v n xs hown a m c news hl hnews h1 h63 hbytes hbase
  refine ⟨v', w', hr, ho, hg, ?_⟩
  have hsmall : n + m ≤ 9223372036854775807 := by simp only [maxLen] at h63; omega
  subst hsize
  subst hby
  rcases hown.2 with ⟨rfl, rfl⟩ | ⟨g, cap, cur, rfl, hbg, hgc, hnc, hcm, hcs, htake⟩
  · have hown2 : w.ownsRow w.heap.size e i.size (.slice none 0 0) 0 xs := ⟨hown.1, .inl ⟨rfl, rfl⟩⟩
    obtain ⟨v2, w2, hr2, ho2, _, _⟩ := run_append_own (P := P) w w.heap.size t ty e i z i.size i.bytes ht hi hz rfl rfl hzs hsz _ 0 xs hown2 a m c news hl hnews h1 h63 hbytes (Nat.le_refl _)
    rw [hr] at hr2
    simp only [Result.ok.injEq] at hr2
    obtain ⟨rfl, rfl⟩ := hr2
    intro g hgv
    exact .inr (ho2.lt g hgv).1
  · by_cases hroom : n + m ≤ cap
    · have hfit : n * i.size + news.length ≤ cur.size := by rw [hl, hcs, ← Nat.add_mul]; exact Nat.mul_le_mul_right _ hroom
      have hr2 := run_append_room (P := P) w t ty e i ht hi g n cap cur hgc a m c news hl hnews h1 hroom hfit
      rw [hr] at hr2
      simp only [Result.ok.injEq] at hr2
      obtain ⟨rfl, rfl⟩ := hr2
      intro g' hg'
      exact .inl hg'
    · have holds : ∀ j u, xs[j]? = some u → w.cell? ((⟨g, 0, none⟩ : Addr).add j) = some u := hown.cells (g := g) rfl
      have hr2 := run_append_grow (P := P) w t ty e i z ht hi hz ⟨g, 0, none⟩ n cap xs hown.1 holds a m c news hl hnews (by omega) (by omega) (growslice_fits (by omega) hbytes)
      rw [hr] at hr2
      simp only [Result.ok.injEq] at hr2
      obtain ⟨rfl, rfl⟩ := hr2
      intro g' hg'
      simp only [Value.ownBlock, Option.some.injEq] at hg'
      exact .inr (by omega)
theorem row_kept {w w' : World} {base : Nat} {e : TypeId} {size : Nat} {v : Value} {n : Nat} {xs : List Value} (h : w.ownsRow base e size v n xs) (hb : ∀ g, v.ownBlock = some g → w'.heap[g]? = w.heap[g]?) : w'.ownsRow base e size v n xs := by
  refine ⟨h.1, ?_⟩
  rcases h.2 with c | ⟨g, cap, cur, rfl, a1, a2, a3, a4, a5, a6⟩
  · exact .inl c
  · exact .inr ⟨g, cap, cur, rfl, a1, (hb g rfl).trans a2, a3, a4, a5, a6⟩

theorem row_slice {w : World} {base : Nat} {e : TypeId} {size : Nat} {v : Value} {n : Nat} {xs : List Value} (h : w.ownsRow base e size v n xs) : ∃ a m c, v = .slice a m c := by
  rcases h.2 with ⟨rfl, _⟩ | ⟨g, cap, cur, rfl, _⟩
  · exact ⟨_, _, _, rfl⟩
  · exact ⟨_, _, _, rfl⟩
/-- A block apart from a node's own four. -/
def Off (g : Nat) (k v c : Value) (b : Nat) : Prop := b ≠ g ∧ k.ownBlock ≠ some b ∧ v.ownBlock ≠ some b ∧ c.ownBlock ≠ some b
/-- Only the node's own four blocks have changed, and new ones were made. -/
structure Chg (W W' : World) (g : Nat) (k v c k' v' c' : Value) : Prop where
  size : W.heap.size ≤ W'.heap.size
  off : ∀ b, b < W.heap.size → Off g k v c b → W'.heap[b]? = W.heap[b]? ∧ Off g k' v' c' b
theorem Chg.trans {W W' W'' : World} {g : Nat} {k v c k' v' c' k2 v2 c2 : Value} (h : Chg W W' g k v c k' v' c') (h' : Chg W' W'' g k' v' c' k2 v2 c2) : Chg W W'' g k v c k2 v2 c2 :=
  ⟨Nat.le_trans h.size h'.size, fun b hb ho => by
    obtain ⟨h1, h2⟩ := h.off b hb ho
    obtain ⟨h3, h4⟩ := h'.off b (Nat.lt_of_lt_of_le hb h.size) h2
    exact ⟨h3.trans h1, h4⟩⟩
theorem Chg.below {W W' : World} {g : Nat} {k v c : Value} (h : Below W.heap.size W W') : Chg W W' g k v c k v c := ⟨h.size, fun b hb ho => ⟨h.block b hb, ho⟩⟩
/-- A fact that hangs on blocks apart from the node's own: of those below m, or from n on. -/
def Far (W : World) (m n g : Nat) (k v c : Value) (φ : World → Prop) : Prop :=
  ∃ A : Nat → Prop, (∀ b, A b → b < W.heap.size ∧ (b < m ∨ n ≤ b) ∧ Off g k v c b) ∧ ∀ W', (∀ b, A b → W'.heap[b]? = W.heap[b]?) → φ W'
theorem Far.chg {W W' : World} {m n g : Nat} {k v c k' v' c' : Value} {φ : World → Prop} (h : Far W m n g k v c φ) (hc : Chg W W' g k v c k' v' c') : Far W' m n g k' v' c' φ := by
  obtain ⟨A, h1, h2⟩ := h
  refine ⟨A, fun b hb => ?_, fun w hw => h2 w fun b hb => ?_⟩
  · obtain ⟨a1, a2, a3⟩ := h1 b hb
    exact ⟨Nat.lt_of_lt_of_le a1 hc.size, a2, (hc.off b a1 a3).2⟩
  · obtain ⟨a1, a2, a3⟩ := h1 b hb
    exact (hw b hb).trans (hc.off b a1 a3).1
theorem Far.now {W : World} {m n g : Nat} {k v c : Value} {φ : World → Prop} (h : Far W m n g k v c φ) : φ W := by
  obtain ⟨A, h1, h2⟩ := h
  exact h2 W fun _ _ => rfl
theorem Far.end {W : World} {m n g : Nat} {k v c : Value} {φ : World → Prop} (h : Far W m n g k v c φ) {w : World} (hw : ∀ b, (b < m ∨ n ≤ b) → b < W.heap.size → w.heap[b]? = W.heap[b]?) : φ w := by
  obtain ⟨A, h1, h2⟩ := h
  exact h2 w fun b hb => hw b (h1 b hb).2.1 (h1 b hb).1
/-- What hangs on a part of memory: below m, or from n on. -/
def On (w' : World) (m n : Nat) (φ : World → Prop) : Prop := ∀ W, (∀ b, (b < m ∨ n ≤ b) → b < w'.heap.size → W.heap[b]? = w'.heap[b]?) → φ W
theorem On.now {w' : World} {m n : Nat} {φ : World → Prop} (h : On w' m n φ) : φ w' := h w' fun _ _ _ => rfl
/-- Behind a call that was made while a node is being made. -/
theorem On.far {W W' : World} {m n g : Nat} {k v c : Value} {φ : World → Prop} (h : On W' m W.heap.size φ) (hn : n ≤ W.heap.size) (ho : ∀ b, b < m → Off g k v c b) (hg : ∀ b, W.heap.size ≤ b → Off g k v c b) : Far W' m n g k v c φ :=
  ⟨fun b => (b < m ∨ W.heap.size ≤ b) ∧ b < W'.heap.size, fun b hb' => ⟨hb'.2, by omega, by
    rcases hb'.1 with h1 | h1
    · exact ho b h1
    · exact hg b h1⟩, fun w hw => h w fun b h1 h2 => hw b ⟨h1, h2⟩⟩

/-- A node that is being made. -/
structure NB (W : World) (base g : Nat) (t pe : TypeId) (L : Int) (k v c : Value) (ks vs us : List Value) : Prop where
  arr : Arr W g t [.int .i64 L, k, v, c]
  bg : base ≤ g
  ok : W.ownsRow base 23 1 k ks.length ks
  ov : W.ownsRow base 23 1 v vs.length vs
  oc : W.ownsRow base pe 1 c us.length us
  s1 : Sp k v
  s2 : Sp k c
  s3 : Sp v c
section
variable {W W' : World} {base g : Nat} {t pe : TypeId} {L : Int} {k v c : Value} {ks vs us : List Value}
theorem NB.le (h : NB W base g t pe L k v c ks vs us) : base ≤ W.heap.size := Nat.le_trans h.bg (Nat.le_of_lt h.arr.lt)
theorem NB.below (h : NB W base g t pe L k v c ks vs us) (hb : Below W.heap.size W W') : NB W' base g t pe L k v c ks vs us :=
  ⟨arr_below h.arr hb, h.bg, own_below h.ok hb, own_below h.ov hb, own_below h.oc hb, h.s1, h.s2, h.s3⟩
theorem NB.new (W : World) (t pe : TypeId) (L : Int) : NB (W.alloc (.cells #[.int .i64 L, .slice none 0 0, .slice none 0 0, .slice none 0 0] t)) W.heap.size W.heap.size t pe L (.slice none 0 0) (.slice none 0 0) (.slice none 0 0) [] [] [] :=
  ⟨heap_alloc_new W _, Nat.le_refl _, World.ownsRow_nil _ _ _ _, World.ownsRow_nil _ _ _ _, World.ownsRow_nil _ _ _ _, Sp.nil _, Sp.nil _, Sp.nil _⟩
/-- What lies below the call's own memory, and what is new, is apart from the node. -/
theorem NB.offLow (h : NB W base g t pe L k v c ks vs us) {b : Nat} (hb : b < base) : Off g k v c b := by
  have h1 := h.bg
  refine ⟨by omega, fun e => ?_, fun e => ?_, fun e => ?_⟩
  · have := (h.ok.lt b e).1; omega
  · have := (h.ov.lt b e).1; omega
  · have := (h.oc.lt b e).1; omega
theorem NB.offNew (h : NB W base g t pe L k v c ks vs us) {b : Nat} (hb : W.heap.size ≤ b) : Off g k v c b := by
  have h1 := h.arr.lt
  refine ⟨by omega, fun e => ?_, fun e => ?_, fun e => ?_⟩
  · have := (h.ok.lt b e).2; omega
  · have := (h.ov.lt b e).2; omega
  · have := (h.oc.lt b e).2; omega
/-- A new level. -/
theorem NB.level (h : NB W base g t pe L k v c ks vs us) (hk : t ≠ 23) (hp : t ≠ pe) (M : Int) : NB (W.setCell ⟨g, 0, none⟩ (.int .i64 M)) base g t pe M k v c ks vs us ∧ Chg W (W.setCell ⟨g, 0, none⟩ (.int .i64 M)) g k v c k v c ∧ Below base W (W.setCell ⟨g, 0, none⟩ (.int .i64 M)) := by
  have hg : W.grownBy (W.setCell ⟨g, 0, none⟩ (.int .i64 M)) (some g) := grown_set (a := W) (b := W) ⟨rfl, rfl, rfl, Nat.le_refl _, fun _ _ _ => rfl⟩ 0 _
  refine ⟨⟨h.arr.set 0 _, h.bg, h.ok.kept hg (.inr (arr_not_row h.arr hk h.ok)), h.ov.kept hg (.inr (arr_not_row h.arr hk h.ov)), h.oc.kept hg (.inr (arr_not_row h.arr hp h.oc)), h.s1, h.s2, h.s3⟩, ⟨hg.size, fun b hb ho => ⟨hg.block b hb (by simpa using ho.1), ho⟩⟩, (Below.refl _ _).setCell h.bg _⟩
end
/-- Of two rows one was grown. -/
theorem Sp.grown {W : World} {base : Nat} {e : TypeId} {v v' u : Value} {m : Nat} {ys : List Value} (h : Sp v u) (hu : W.ownsRow base e 1 u m ys) (hv : ∀ g, v'.ownBlock = some g → v.ownBlock = some g ∨ W.heap.size ≤ g) : Sp v' u := by
  unfold Sp at *
  cases hv' : v'.ownBlock with
  | none => exact .inl rfl
  | some g =>
    refine .inr fun e => ?_
    rcases hv g hv' with h1 | h1
    · rcases h with h | h
      · rw [h] at h1; simp at h1
      · exact h (h1.trans e)
    · have := (hu.lt g e.symm).2
      omega
theorem Sp.keeps {W W' : World} {base : Nat} {e : TypeId} {v u : Value} {m : Nat} {ys : List Value} (h : Sp v u) (hu : W.ownsRow base e 1 u m ys) (hg : W.grownBy W' v.ownBlock) : W'.ownsRow base e 1 u m ys :=
  row_kept hu fun g hgu => hg.block g (hu.lt g hgu).2 (fun e => by
    unfold Sp at h
    rcases h with h | h
    · rw [h] at e; simp at e
    · exact h (by rw [← e, hgu]))
/-- What an append to a field of the node comes to, and the store behind it. -/
structure NApp (W : World) (base g : Nat) (t pe : TypeId) (L : Int) (k v c : Value) (W1 W2 : World) (k' v' c' : Value) (ks vs us : List Value) : Prop where
  arr : Arr W1 g t [.int .i64 L, k, v, c]
  nb : NB W2 base g t pe L k' v' c' ks vs us
  chg : Chg W W2 g k v c k' v' c'
  below : Below base W W2
section
variable {W : World} {base g : Nat} {t pe : TypeId} {L : Int} {k v c : Value} {ks vs us : List Value}
theorem NB.appK (h : NB W base g t pe L k v c ks vs us) (hk : t ≠ 23) (hp : t ≠ pe) {ty : TypeId} {bo : Addr} {cap : Nat} {u : Value} (hx : VL W (some bo) 1 cap [u]) (hu : u.oneCell' = true) (hn : ks.length ≤ 1000000) :
    ∃ k' W1, (Builtin.append_ #[76, 76] ty #[k, .slice (some bo) 1 cap]).run Tryd.prog W = .ok k' W1 ∧ NApp W base g t pe L k v c W1 (W1.setCell ⟨g, 1, none⟩ k') k' v c (ks ++ [u]) vs us := by
  obtain ⟨i0, hi, hz0, hz1, hz2⟩ := info_parts kinfo
  obtain ⟨k', W1, hr, ho, hg, ha⟩ := run_append_at (P := Tryd.prog) W base 76 ty 23 i0 (.slice none 0 0) 1 24 Tryd.underlying76 hi hz0 hz1 hz2 rfl (by decide) k ks.length ks h.ok bo 1 cap [u] rfl (hx.cells bo rfl) (by intro y hy; rw [List.mem_singleton.1 hy]; exact hu) (by simp [maxLen]; omega) (by omega) h.le
  obtain ⟨a1, a2, a3, a4⟩ := arr_put h.arr hk h.ok h.le h.bg ho hg 1
  have hs : W1.grownBy (W1.setCell ⟨g, 1, none⟩ k') (some g) := grown_set (a := W1) (b := W1) ⟨rfl, rfl, rfl, Nat.le_refl _, fun _ _ _ => rfl⟩ 1 _
  have ov1 := h.s1.keeps h.ov hg
  have oc1 := h.s2.keeps h.oc hg
  refine ⟨k', W1, hr, a1, ⟨a2, h.bg, by simpa using a3, ov1.kept hs (.inr (arr_not_row a1 hk ov1)), oc1.kept hs (.inr (arr_not_row a1 hp oc1)), h.s1.grown h.ov ha, h.s2.grown h.oc ha, h.s3⟩, ⟨Nat.le_trans hg.size hs.size, fun b hb hf => ⟨?_, hf.1, fun e => ?_, hf.2.2⟩⟩, a4⟩
  · rw [hs.block b (Nat.lt_of_lt_of_le hb hg.size) (by simpa using hf.1)]
    exact hg.block b hb (fun e => hf.2.1 e.symm)
  · rcases ha b e with h1 | h1
    · exact hf.2.1 h1
    · omega
theorem NB.appV (h : NB W base g t pe L k v c ks vs us) (hk : t ≠ 23) (hp : t ≠ pe) {ty : TypeId} {bo : Addr} {cap : Nat} {u : Value} (hx : VL W (some bo) 1 cap [u]) (hu : u.oneCell' = true) (hn : vs.length ≤ 1000000) :
    ∃ v' W1, (Builtin.append_ #[76, 76] ty #[v, .slice (some bo) 1 cap]).run Tryd.prog W = .ok v' W1 ∧ NApp W base g t pe L k v c W1 (W1.setCell ⟨g, 2, none⟩ v') k v' c ks (vs ++ [u]) us := by
  obtain ⟨i0, hi, hz0, hz1, hz2⟩ := info_parts kinfo
  obtain ⟨v', W1, hr, ho, hg, ha⟩ := run_append_at (P := Tryd.prog) W base 76 ty 23 i0 (.slice none 0 0) 1 24 Tryd.underlying76 hi hz0 hz1 hz2 rfl (by decide) v vs.length vs h.ov bo 1 cap [u] rfl (hx.cells bo rfl) (by intro y hy; rw [List.mem_singleton.1 hy]; exact hu) (by simp [maxLen]; omega) (by omega) h.le
  obtain ⟨a1, a2, a3, a4⟩ := arr_put h.arr hk h.ov h.le h.bg ho hg 2
  have hs : W1.grownBy (W1.setCell ⟨g, 2, none⟩ v') (some g) := grown_set (a := W1) (b := W1) ⟨rfl, rfl, rfl, Nat.le_refl _, fun _ _ _ => rfl⟩ 2 _
  have ok1 := h.s1.symm.keeps h.ok hg
  have oc1 := h.s3.keeps h.oc hg
  refine ⟨v', W1, hr, a1, ⟨a2, h.bg, ok1.kept hs (.inr (arr_not_row a1 hk ok1)), by simpa using a3, oc1.kept hs (.inr (arr_not_row a1 hp oc1)), (h.s1.symm.grown h.ok ha).symm, h.s2, h.s3.grown h.oc ha⟩, ⟨Nat.le_trans hg.size hs.size, fun b hb hf => ⟨?_, hf.1, hf.2.1, fun e => ?_, hf.2.2.2⟩⟩, a4⟩
  · rw [hs.block b (Nat.lt_of_lt_of_le hb hg.size) (by simpa using hf.1)]
    exact hg.block b hb (fun e => hf.2.2.1 e.symm)
  · rcases ha b e with h1 | h1
    · exact hf.2.2.1 h1
    · omega
theorem NB.appC (h : NB W base g t pe L k v c ks vs us) (hk : t ≠ 23) (hp : t ≠ pe) {ps : TypeId} (hps : Tryd.prog.underlying ps = some (.slice pe)) (hinfo : (Tryd.prog.info? pe).map (fun i => (i.zero, i.size, i.bytes)) = some (some (.pointer none), 1, 8)) {ty : TypeId} {bo : Addr} {cap : Nat} {u : Value} (hx : VL W (some bo) 1 cap [u]) (hu : u.oneCell' = true) (hn : us.length ≤ 1000000) :
    ∃ c' W1, (Builtin.append_ #[ps, ps] ty #[c, .slice (some bo) 1 cap]).run Tryd.prog W = .ok c' W1 ∧ NApp W base g t pe L k v c W1 (W1.setCell ⟨g, 3, none⟩ c') k v c' ks vs (us ++ [u]) := by
  obtain ⟨i0, hi, hz0, hz1, hz2⟩ := info_parts hinfo
  obtain ⟨c', W1, hr, ho, hg, ha⟩ := run_append_at (P := Tryd.prog) W base ps ty pe i0 (.pointer none) 1 8 hps hi hz0 hz1 hz2 rfl (by decide) c us.length us h.oc bo 1 cap [u] rfl (hx.cells bo rfl) (by intro y hy; rw [List.mem_singleton.1 hy]; exact hu) (by simp [maxLen]; omega) (by omega) h.le
  obtain ⟨a1, a2, a3, a4⟩ := arr_put h.arr hp h.oc h.le h.bg ho hg 3
  have hs : W1.grownBy (W1.setCell ⟨g, 3, none⟩ c') (some g) := grown_set (a := W1) (b := W1) ⟨rfl, rfl, rfl, Nat.le_refl _, fun _ _ _ => rfl⟩ 3 _
  have ok1 := h.s2.symm.keeps h.ok hg
  have ov1 := h.s3.symm.keeps h.ov hg
  refine ⟨c', W1, hr, a1, ⟨a2, h.bg, ok1.kept hs (.inr (arr_not_row a1 hk ok1)), ov1.kept hs (.inr (arr_not_row a1 hk ov1)), by simpa using a3, h.s1, (h.s2.symm.grown h.ok ha).symm, (h.s3.symm.grown h.ov ha).symm⟩, ⟨Nat.le_trans hg.size hs.size, fun b hb hf => ⟨?_, hf.1, hf.2.1, hf.2.2.1, fun e => ?_⟩⟩, a4⟩
  · rw [hs.block b (Nat.lt_of_lt_of_le hb hg.size) (by simpa using hf.1)]
    exact hg.block b hb (fun e => hf.2.2.2 e.symm)
  · rcases ha b e with h1 | h1
    · exact hf.2.2.2 h1
    · omega
/-- The node's own blocks are as they were. -/
theorem NB.on {w : World} (h : NB W base g t pe L k v c ks vs us) (hw : ∀ b, base ≤ b → b < W.heap.size → w.heap[b]? = W.heap[b]?) : NB w base g t pe L k v c ks vs us :=
  ⟨(hw g h.bg h.arr.lt).trans h.arr, h.bg, row_kept h.ok fun b hb => hw b (h.ok.lt b hb).1 (h.ok.lt b hb).2, row_kept h.ov fun b hb => hw b (h.ov.lt b hb).1 (h.ov.lt b hb).2, row_kept h.oc fun b hb => hw b (h.oc.lt b hb).1 (h.oc.lt b hb).2, h.s1, h.s2, h.s3⟩
/-- It is made. -/
theorem NB.tree {W : World} {L : Nat} {ks vs : List Part} {l : List It} {segs : List (List It)} {xs : List It} (h : NB W base g t pe L k v c (ks.map Part.val) (vs.map Part.val) us) (hks : ∀ q ∈ ks, Sl W q.ao q.n q.cap q.xs) (hvs : ∀ q ∈ vs, Sl W q.ao q.n q.cap q.xs)
    (hs : Shp lev l L segs xs) (ek : ks.map Part.xs = xs.map It.k) (ev : vs.map Part.xs = xs.map It.v) (kid : Kids W us segs) : T W (.pointer (some ⟨g, 0, none⟩)) l := by
  obtain ⟨ko, kc, rfl, K, -⟩ := VL.own h.ok
  obtain ⟨vo, vc, rfl, V, -⟩ := VL.own h.ov
  obtain ⟨co, cc, rfl, C, -⟩ := VL.own h.oc
  exact T.make h.arr ⟨K, hks⟩ ⟨V, hvs⟩ C hs ek ev kid
end
end Go.Proofs.YtcepknjdiboinaaDoor

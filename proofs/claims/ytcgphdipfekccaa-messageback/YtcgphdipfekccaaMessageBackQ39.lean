/-
  Texts in one: MgSameV, LiftD, MgBk, MgSgn.
-/
import Derived.Test.YtcgphdipfekccaaMessageBackQFL
import Derived.Test.YtcgphdipfekccaaMessageBackQ38
import Derived.Test.YtcgphdipfekccaaMessageBackQ33
import Derived.Test.YtcgphdipfekccaaMessageBackQ10
import Derived.Test.YtcgphdipfekccaaMessageBackQ2
import Derived.Test.YtcgphdipfekccaaMessageBackQ14
import Derived.Test.YtcgphdipfekccaaMessageBackQ0
namespace Go.Proofs.Ytcgphdipfekccaa
open Go.RowKit
theorem sameL_all {α : Type} (f : α → α → Bool) : ∀ (l m : List α), l.length = m.length → (∀ i (h1 : i < l.length) (h2 : i < m.length), f l[i] m[i] = true) → sameL f l m = true
  | [], [], _, _ => rfl
  | [], _ :: _, h, _ => by simp at h
  | _ :: _, [], h, _ => by simp at h
  | a :: l, b :: m, h, k => by
    have h0 : f a b = true := k 0 (by simp) (by simp)
    rw [sameL, h0, Bool.true_and]
    exact sameL_all f l m (by simpa using h) (fun i h1 h2 => k (i + 1) (by simp; omega) (by simp; omega))
theorem sameL_len2 {α : Type} {f : α → α → Bool} : ∀ {l m : List α}, sameL f l m = true → l.length = m.length
  | [], [], _ => rfl
  | [], _ :: _, h => by simp [sameL] at h
  | _ :: _, [], h => by simp [sameL] at h
  | a :: l, b :: m, h => by
    rw [sameL, Bool.and_eq_true] at h
    simp [sameL_len2 h.2]
theorem sameL_at {α : Type} {f : α → α → Bool} : ∀ {l m : List α}, sameL f l m = true → ∀ i (h1 : i < l.length) (h2 : i < m.length), f l[i] m[i] = true
  | [], _, _, i, h1, _ => absurd h1 (Nat.not_lt_zero _)
  | _ :: _, [], h, _, _, _ => by simp [sameL] at h
  | a :: l, b :: m, h, i, h1, h2 => by
    rw [sameL, Bool.and_eq_true] at h
    cases i with
    | zero => exact h.1
    | succ i => exact sameL_at h.2 i (by simpa using h1) (by simpa using h2)
theorem bv_ext {a b : BV} (h1 : a.kind = b.kind) (h2 : a.view = b.view) (h3 : a.seq = b.seq) (h4 : a.sum = b.sum) (h5 : a.reqs = b.reqs) (h6 : a.rep = b.rep) (h7 : a.cert = b.cert) (h8 : a.sets = b.sets) : a = b := by
  obtain ⟨a1, a2, a3, a4, a5, a6, a7, a8⟩ := a
  obtain ⟨b1, b2, b3, b4, b5, b6, b7, b8⟩ := b
  simp only at h1 h2 h3 h4 h5 h6 h7 h8
  subst h1 h2 h3 h4 h5 h6 h7 h8
  rfl
theorem map_at {α β : Type} {f : α → β} {l m : List α} (hl : l.length = m.length) (h : ∀ i (h1 : i < l.length) (h2 : i < m.length), f l[i] = f m[i]) : l.map f = m.map f :=
  List.ext_getElem (by simp [hl]) (fun i h1 h2 => by simp only [List.getElem_map]; exact h i (by simpa using h1) (by simpa using h2))
theorem at_map {α β : Type} {f : α → β} {l m : List α} (h : l.map f = m.map f) (i : Nat) (h1 : i < l.length) (h2 : i < m.length) : f l[i] = f m[i] := by
  have e : (l.map f)[i]? = (m.map f)[i]? := by rw [h]
  rw [List.getElem?_map, List.getElem?_map, List.getElem?_eq_getElem h1, List.getElem?_eq_getElem h2] at e
  exact Option.some.inj e
theorem same_v_iff {x y : BM} {xs ys : List QE} {w : World} (hx : x.ok w) (hy : y.ok w) (rx : rightM x = true) (ry : rightM y = true) (qx : x.q.l = xs.map QE.m) (qy : y.q.l = ys.map QE.m) (ox : ∀ q ∈ xs, OW w 3 q.x) (oy : ∀ q ∈ ys, OW w 3 q.x) :
    sameB x y xs ys = true ↔ x.v = y.v := by
  have gx := rgt rx
  have gy := rgt ry
  have nx : xs.length = x.q.n := by rw [← hx.q.len, qx, List.length_map]
  have ny : ys.length = y.q.n := by rw [← hy.q.len, qy, List.length_map]
  have vx : x.v.reqs = xs.map (fun q => q.m.v) := by show x.q.l.map QM.v = _; rw [qx, List.map_map]; rfl
  have vy : y.v.reqs = ys.map (fun q => q.m.v) := by show y.q.l.map QM.v = _; rw [qy, List.map_map]; rfl
  constructor
  · intro h
    unfold sameB at h
    simp only [Bool.and_eq_true, decide_eq_true_eq] at h
    obtain ⟨⟨h1, h2, h3, h4, h5, h6⟩, h7, h8, h9, h10⟩ := h
    have e7 := (pvB_iff _ _).1 h7
    have e8 := (sgB_iff _ _).1 h8
    have e9 : x.v.reqs = y.v.reqs := by
      rw [vx, vy]
      exact map_at (sameL_len2 h9) fun i i1 i2 => same_v _ _ (sameL_at h9 i i1 i2)
    have e10 : x.v.sets = y.v.sets := map_at (f := fun s : LS SA => s.l.map SA.v) (sameL_len2 h10) fun i i1 i2 => (sgB_iff _ _).1 (sameL_at h10 i i1 i2)
    exact bv_ext h1 h2 h3 h4 e9 e7 e8 e10
  · intro h
    have e1 : x.kind = y.kind := congrArg BV.kind h
    have e2 : x.view = y.view := congrArg BV.view h
    have e3 : x.seq = y.seq := congrArg BV.seq h
    have e4 : x.sum.xs = y.sum.xs := congrArg BV.sum h
    have e5 := congrArg BV.reqs h
    have e6 : x.v.rep = y.v.rep := congrArg BV.rep h
    have e7 : x.s.l.map SA.v = y.s.l.map SA.v := congrArg BV.cert h
    have e8 : x.t.l.map (fun s : LS SA => s.l.map SA.v) = y.t.l.map (fun s : LS SA => s.l.map SA.v) := congrArg BV.sets h
    rw [vx, vy] at e5
    have nq : xs.length = ys.length := by simpa using congrArg List.length e5
    have nt : x.t.l.length = y.t.l.length := by simpa using congrArg List.length e8
    have tx := hx.t.len
    have ty := hy.t.len
    unfold sameB
    rw [decide_eq_true ⟨e1, e2, e3, e4, by omega, by omega⟩, (pvB_iff _ _).2 e6, sgB_true e7, sameL_all qB xs ys nq (fun i i1 i2 => same_of_v (ox _ (List.getElem_mem i1)) (oy _ (List.getElem_mem i2)) (gx.q _ (by rw [qx]; exact List.mem_map.2 ⟨_, List.getElem_mem i1, rfl⟩)) (gy.q _ (by rw [qy]; exact List.mem_map.2 ⟨_, List.getElem_mem i2, rfl⟩)) (at_map e5 i i1 i2)), sameL_all lB x.t.l y.t.l nt (fun i i1 i2 => sgB_true (at_map e8 i i1 i2))]
    rfl
open Go.RowKit
def lift1 (d : Nat) (y : OA) : OD (d + 1) := (y, ([] : List (OD d)))
def liftD (d : Nat) (o : OA) (l : List OA) : OD (d + 2) := (o, l.map (lift1 d))
theorem read_OW {w : World} {o : OA} {l : List OA} (d : Nat) (ho : o.ok w) (hl : OWL w 0 o.so o.sn o.sc l) (hz : ∀ y ∈ l, y.sn = 0) : OW w (d + 2) (liftD d o l) := by
  refine ⟨ho, ?_, fun a ha i hi j v hv => ?_, fun y hy => ?_⟩
  · show (l.map (lift1 d)).length = o.sn
    rw [List.length_map]
    exact hl.len
  · have hi2 : i < l.length := by
      have : i < (l.map (lift1 d)).length := hi
      simpa using this
    refine hl.cell a ha i hi2 j v ?_
    have e : (liftD d o l).2[i] = lift1 d l[i] := by
      show (l.map (lift1 d))[i]'_ = _
      exact List.getElem_map _
    rw [e] at hv
    exact hv
  · obtain ⟨z, hzl, rfl⟩ := List.mem_map.1 (show y ∈ l.map (lift1 d) from hy)
    have h1 : OA.ok z w := hl.ok z hzl
    exact ⟨h1, (hz z hzl).symm, fun _ _ _ hi => absurd hi (Nat.not_lt_zero _), fun _ h => absurd h List.not_mem_nil⟩
theorem fits_light {o : OA} {w : World} (h : o.s.fits) (ho : o.ok w) (hs : o.sn ≤ 12) : fitsL o = true := by
  have h1 : o.row.size ≤ 32 := h.row
  have h2 : o.fam.size ≤ 32 := h.fam
  have h3 : o.qual.size ≤ 32 := h.qual
  have h4 : o.to.size ≤ 32 := h.to
  have h5 : o.va.xs.length ≤ 256 := h.value.1
  have h6 : o.wa.xs.length ≤ 256 := h.want.1
  have h7 := ho.va.len
  have h8 := ho.wa.len
  exact decide_eq_true ⟨by omega, by omega, by omega, hs⟩
theorem read_light {w : World} {o : OA} {l : List OA} (d : Nat) (ho : o.ok w) (hl : OWL w 0 o.so o.sn o.sc l) (hz : ∀ y ∈ l, y.sn = 0) (hf : OP.fits (o.s, l.map OA.s)) : lightD (d + 2) (liftD d o l) = true := by
  obtain ⟨f1, f2, f3⟩ := hf
  simp only [List.length_map] at f2
  have hlen : l.length = o.sn := hl.len
  show (fitsL o && (l.map (lift1 d)).all (lightD (d + 1))) = true
  rw [fits_light f1 ho (by omega), Bool.true_and, List.all_eq_true]
  intro y hy
  obtain ⟨z, hzl, rfl⟩ := List.mem_map.1 hy
  have h1 : OA.ok z w := hl.ok z hzl
  show (fitsL z && ([] : List (OD d)).all (lightD d)) = true
  rw [fits_light (f3 _ (List.mem_map.2 ⟨z, hzl, rfl⟩)) h1 (by rw [hz z hzl]; omega)]
  rfl
open Go.RowKit
def QM.e (q : QM) : QE := ⟨q.cl, q.st, liftD 1 q.o q.l⟩
theorem lift_map (l : List OA) : (l.map (lift1 1)).map (topD 2) = l := by
  rw [List.map_map]
  exact List.map_id l
theorem QM.e_m (q : QM) : (QM.e q).m = q := by
  obtain ⟨a, b, c, d⟩ := q
  show (⟨a, b, c, (d.map (lift1 1)).map (topD 2)⟩ : QM) = _
  rw [lift_map]
theorem QM.e_map (l : List QM) : l = (l.map QM.e).map QE.m := by
  rw [List.map_map]
  exact ((List.map_congr_left fun q _ => QM.e_m q).trans (List.map_id l)).symm
theorem QM.e_ow {q : QM} {w : World} (h : q.ok w) (hz : ∀ y ∈ q.l, y.sn = 0) : OW w 3 (QM.e q).x := read_OW 1 h.o h.l hz
theorem QM.e_light {q : QM} {w : World} (h : q.ok w) (hz : ∀ y ∈ q.l, y.sn = 0) (hk : kq q.cl q.st (rightO q.o.s (q.l.map sn0)) = 0) : lightD 3 (QM.e q).x = true := by
  obtain ⟨_, _, hr⟩ := kq_zero hk
  obtain ⟨f1, f2, f3, f4⟩ := right_parts hr h.o (fun x hx => h.l.ok x hx)
  exact read_light 1 h.o h.l hz ⟨f1, by rw [List.length_map]; exact f2, fun s hs => by
    obtain ⟨x, hx, rfl⟩ := List.mem_map.1 hs
    exact f3 x hx⟩
theorem rightM_flat {x : BM} {w : World} (h : x.ok w) (hr : rightM x = true) : ∀ q ∈ x.q.l, ∀ y ∈ q.l, y.sn = 0 := fun q hq => by
  have g := rgt hr
  obtain ⟨_, _, hr⟩ := kq_zero (g.q q hq)
  have hk : QM.ok q w := h.q.ok q hq
  exact (right_parts hr hk.o (fun x hx => hk.l.ok x hx)).2.2.2
theorem back_same {x y : BM} {xs : List QE} {V : World} {so : Option Addr} {sc : Nat} {vo : Option Addr} {vc : Nat} {zs : List (LS SA)} (hv : y.v = x.v) (rx : rightM x = true) (ry : rightM y = true) (hy : y.ok V) (hok : (ownB y so sc vo vc zs).ok V) (hzs : zs.map lsV = y.t.l.map lsV) (hx : x.ok V) (qx : x.q.l = xs.map QE.m) (ox : ∀ q ∈ xs, OW V 3 q.x) (lx : ∀ q ∈ xs, lightD 3 q.x = true) :
    Calls Try.prog 10 #[(ownB y so sc vo vc zs).val, x.val] V fun e w' => e = .returned (.bool true) ∧ Below V.heap.size V w' := by
  have fl := rightM_flat hy ry
  have g := rgt ry
  have qy : (ownB y so sc vo vc zs).q.l = (y.q.l.map QM.e).map QE.m := QM.e_map y.q.l
  have oy : ∀ q ∈ y.q.l.map QM.e, OW V 3 q.x := fun q hq => by
    obtain ⟨u, hu, rfl⟩ := List.mem_map.1 hq
    exact QM.e_ow (hy.q.ok u hu) (fl u hu)
  have ly : ∀ q ∈ y.q.l.map QM.e, lightD 3 q.x = true := fun q hq => by
    obtain ⟨u, hu, rfl⟩ := List.mem_map.1 hq
    exact QM.e_light (hy.q.ok u hu) (fl u hu) (g.q u hu)
  have hs : sameB (ownB y so sc vo vc zs) x (y.q.l.map QM.e) xs = true := (same_v_iff hok hx ((own_right hzs).trans ry) rx qy qx oy ox).2 ((own_v hzs).trans hv)
  have := rsame13 V (ownB y so sc vo vc zs) x (y.q.l.map QM.e) xs hok hx qy qx oy ox ly lx
  rw [hs] at this
  exact this
theorem rd_all {xs : List Int} (hb : Byt xs) (h : doneS (bT xs 0).2.1 (bT xs 0).2.2 = 0) : xs = putB (bT xs 0).1 ∧ okB (bT xs 0).1 := by
  have T := thr_b rdR_ne
  cases e : pB xs with
  | inl q =>
    obtain ⟨e1, e2⟩ := T.bad xs q e
    unfold doneS at h
    rw [e1, if_neg e2] at h
    exact absurd h e2
  | inr p =>
    obtain ⟨v, r⟩ := p
    have e1 := T.ok xs v r e
    rw [e1] at h ⊢
    unfold doneS at h
    rw [if_pos rfl] at h
    by_cases c : r = []
    · subst c
      obtain ⟨x1, o1⟩ := fair_b.back xs v [] hb e
      rw [List.append_nil] at x1
      exact ⟨x1, o1⟩
    · rw [if_neg c] at h
      cases h
def zB : BM := ⟨0, 0, 0, ⟨none, 0, 0, []⟩, ⟨none, 0, 0, []⟩, 0, 0, 0, 0, ⟨none, 0, 0, []⟩, false, ⟨none, 0, 0, []⟩, ⟨none, 0, 0, []⟩⟩
theorem zB_ok (w : World) : zB.ok w := ⟨by show (-9223372036854775808 : Int) ≤ 0 ∧ (0 : Int) ≤ 9223372036854775807; decide, by show 0 < _; decide, by show 0 < _; decide, Sl.nothing w, GL.nothing _ _, by show 0 < _; decide, by show 0 < _; decide, by show 0 < _; decide, by show (-9223372036854775808 : Int) ≤ 0 ∧ (0 : Int) ≤ 9223372036854775807; decide, CL.nothing _, GL.nothing _ _, GL.nothing _ _⟩
theorem zero_same {V : World} {so : Option Addr} {sc : Nat} {vo : Option Addr} {vc : Nat} {zs : List (LS SA)} (hok : (ownB zB so sc vo vc zs).ok V) (hzs : zs.map lsV = zB.t.l.map lsV) :
    Calls Try.prog 10 #[(ownB zB so sc vo vc zs).val, zB.val] V fun e w' => e = .returned (.bool true) ∧ Below V.heap.size V w' := by
  have hz : zs = [] := by
    have h : zs.map lsV = [] := hzs
    exact List.map_eq_nil_iff.1 h
  have hs : sameB (ownB zB so sc vo vc zs) zB [] [] = true := by
    rw [hz]
    exact (show sameB (ownB zB so sc vo vc []) zB [] [] = sameB zB zB [] [] from rfl).trans (by decide)
  have := rsame13 V (ownB zB so sc vo vc zs) zB [] [] hok (zB_ok V) rfl rfl (fun _ h => by cases h) (fun _ h => by cases h) (fun _ h => by cases h) (fun _ h => by cases h)
  rw [hs] at this
  exact this
theorem back_two (w : World) (x : BM) (hx : x.ok w) (hsn : x.s.n ≤ 1000) (htn : x.t.n ≤ 1000) (hu : ∀ u ∈ x.t.l, u.n ≤ 1000) :
    Calls Try.prog 11 #[x.val] w fun e w' => ∃ so sc vo vc ys, e = .returned (ownB x so sc vo vc ys).val ∧ ((ownB x so sc vo vc ys).ok w' ∧ ys.map lsV = x.t.l.map lsV) ∧ Below w.heap.size w w' := by
  refine (back_any w x hx hsn htn hu).mono ?_
  rintro e w' ⟨so, sc, vo, vc, ys, h1, h2, h3, h4⟩
  exact ⟨so, sc, vo, vc, ys, h1, ⟨h2, h3⟩, h4⟩
open Go.RowKit
theorem osigns_ty : GTy elS.sz 56 (.agg #[.int .u64 0, .slice none 0 0, .slice none 0 0]) 89 39 := ⟨by kernel_rfl, rfl, Try.underlying39⟩
set_option maxHeartbeats 8000000 in
set_option maxRecDepth 100000 in
theorem osigns_typed (w : World) (ao : Option Addr) (n cap : Nat) (l : List SA) (L : GL elS w ao n cap l) (hn : n ≤ 1000) :
    Calls Try.prog 21 #[.slice ao n cap] w fun e w' => ∃ ro rc, e = .returned (.slice ro n rc) ∧ GL elS w' ro n rc l ∧ (∀ z, sblk ro n z → w.heap.size ≤ z) ∧ TyAt w' ro 89 ∧ Below w.heap.size w w' := by
  have hl1 := Nat.le_of_eq L.len
  have hl2 := Nat.le_of_eq L.len.symm
  have HOK : Hid (∀ x ∈ l, elS.ok x w) := L.ok
  go_enter Try.func21, Try.ntmps21
  go_wp2
  go_loopw [3, 4] (fun v' i wr => ∃ (k : Nat) (v : Value), k ≤ n ∧ i = .int .i64 k ∧ v = v' ∧ GNew elS 89 w wr w.heap.size v (l.take k) ∧ Below w.heap.size w wr) (fun _ i _ => n - (intOf i).toNat)
  case atStart => exact ⟨0, _, Nat.zero_le _, rfl, rfl, GNew.nil _ _ _ _ _, Below.refl _ _⟩
  case round =>
    obtain ⟨k, v, hk, rfl, rfl, GR, B⟩ := hrel
    have hsz := B.size
    by_cases hlt : k < n
    · have hki : (k : Int) < (n : Int) := by omega
      have hkl : k < l.length := by omega
      obtain ⟨b, off, ea, hc⟩ := L.atS (by omega)
      have X := hc k hkl
      subst ea
      have HTK : Hid (l.take (k + 1) = l.take k ++ [l[k]]) := List.take_succ_eq_append_getElem hkl
      have uok := HOK.out _ (List.getElem_mem hkl)
      obtain ⟨u, hu⟩ : ∃ u, u = l[k] := ⟨_, rfl⟩
      rw [← hu] at X HTK uok
      clear hu hc
      have HS2 : Hid (∀ V, Below w.heap.size w V → V.cell? ⟨b, off + k * 3, none⟩ = some (.int .u64 (u.fr : Nat)) ∧ V.cell? ⟨b, off + k * 3 + 1, none⟩ = some (.slice u.b.ao u.b.n u.b.cap) ∧ V.cell? ⟨b, off + k * 3 + 2, none⟩ = some (.slice u.tag.ao u.tag.n u.tag.cap)) := fun V hV => ⟨(X.below hV).c0, (X.below hV).c1, (X.below hV).c2⟩
      obtain ⟨x0, x1, x2⟩ := HS2.out wr B
      clear X
      go_wp2_with fail
      have tHS : Hid (∀ V, Below wr.heap.size wr V → V.cell? ⟨b, off + k * 3, none⟩ = some (.int .u64 (u.fr : Nat)) ∧ V.cell? ⟨b, off + k * 3 + 1, none⟩ = some (.slice u.b.ao u.b.n u.b.cap) ∧ V.cell? ⟨b, off + k * 3 + 2, none⟩ = some (.slice u.tag.ao u.tag.n u.tag.cap)) := fun V hV => ⟨(hV.cell (World.block_lt_of_cell? _ _ x0)).trans x0, (hV.cell (World.block_lt_of_cell? _ _ x1)).trans x1, (hV.cell (World.block_lt_of_cell? _ _ x2)).trans x2⟩
      have tE0 : Below wr.heap.size wr wr.drew := (Below.refl _ _).drew
      refine wp_region_noPanic ?_
      refine wp_region_held_drew (S := fun V => V.cell? ⟨b, off + k * 3, none⟩ = some (.int .u64 (u.fr : Nat)) ∧ V.cell? ⟨b, off + k * 3 + 1, none⟩ = some (.slice u.b.ao u.b.n u.b.cap) ∧ V.cell? ⟨b, off + k * 3 + 2, none⟩ = some (.slice u.tag.ao u.tag.n u.tag.cap)) (by kernel_rfl) (tHS.out _ tE0) (fun tH0 => ?_)
      obtain ⟨tv0, hv0⟩ : ∃ v, v = wr.drew := ⟨_, rfl⟩
      rw [← hv0] at tH0 tE0 ⊢
      clear hv0
      refine hr_take_w 0 (some 11) (v) rfl rfl (by kernel_rfl) (by kernel_rfl) (by kernel_rfl) rfl (fun W hW => by obtain ⟨h0, h1, h2⟩ := hW; go_simp) tH0 ?_
      simp only [FL]
      refine hr_take_w 1 (some 12) (.slice (some ⟨b, off, none⟩) n cap) rfl rfl (by kernel_rfl) (by kernel_rfl) (by kernel_rfl) rfl (fun W hW => by obtain ⟨h0, h1, h2⟩ := hW; go_simp) tH0 ?_
      simp only [FL]
      refine hr_take_w 2 (some 13) (.int .i64 (k : Nat)) rfl rfl (by kernel_rfl) (by kernel_rfl) (by kernel_rfl) rfl (fun W hW => by obtain ⟨h0, h1, h2⟩ := hW; go_simp) tH0 ?_
      simp only [FL]
      refine hr_take_w 3 (some 14) (.pointer (some ⟨b, off + k * 3, none⟩)) rfl rfl (by kernel_rfl) (by kernel_rfl) (by kernel_rfl) rfl (fun W hW => by obtain ⟨h0, h1, h2⟩ := hW; go_simp) tH0 ?_
      simp only [FL]
      refine hr_take_w 4 (some 15) (.pointer (some ⟨b, off + k * 3, none⟩)) rfl rfl (by kernel_rfl) (by kernel_rfl) (by kernel_rfl) rfl (fun W hW => by obtain ⟨h0, h1, h2⟩ := hW; go_simp) tH0 ?_
      simp only [FL]
      refine hr_take_w 5 (some 16) (.int .u64 (u.fr : Nat)) rfl rfl (by kernel_rfl) (by kernel_rfl) (by kernel_rfl) rfl (fun W hW => by obtain ⟨h0, h1, h2⟩ := hW; go_simp) tH0 ?_
      simp only [FL]
      refine hr_take_w 6 (some 17) (.slice (some ⟨b, off, none⟩) n cap) rfl rfl (by kernel_rfl) (by kernel_rfl) (by kernel_rfl) rfl (fun W hW => by obtain ⟨h0, h1, h2⟩ := hW; go_simp) tH0 ?_
      simp only [FL]
      refine hr_take_w 7 (some 18) (.int .i64 (k : Nat)) rfl rfl (by kernel_rfl) (by kernel_rfl) (by kernel_rfl) rfl (fun W hW => by obtain ⟨h0, h1, h2⟩ := hW; go_simp) tH0 ?_
      simp only [FL]
      refine hr_take_w 8 (some 19) (.pointer (some ⟨b, off + k * 3, none⟩)) rfl rfl (by kernel_rfl) (by kernel_rfl) (by kernel_rfl) rfl (fun W hW => by obtain ⟨h0, h1, h2⟩ := hW; go_simp) tH0 ?_
      simp only [FL]
      refine hr_take_w 9 (some 20) (.pointer (some ⟨b, off + k * 3 + 1, none⟩)) rfl rfl (by kernel_rfl) (by kernel_rfl) (by kernel_rfl) rfl (fun W hW => by obtain ⟨h0, h1, h2⟩ := hW; go_simp) tH0 ?_
      simp only [FL]
      refine hr_take_w 10 (some 21) (.slice u.b.ao u.b.n u.b.cap) rfl rfl (by kernel_rfl) (by kernel_rfl) (by kernel_rfl) rfl (fun W hW => by obtain ⟨h0, h1, h2⟩ := hW; go_simp) tH0 ?_
      simp only [FL]
      refine hr_take_w 11 (some 22) (.slice (some ⟨b, off, none⟩) n cap) rfl rfl (by kernel_rfl) (by kernel_rfl) (by kernel_rfl) rfl (fun W hW => by obtain ⟨h0, h1, h2⟩ := hW; go_simp) tH0 ?_
      simp only [FL]
      refine hr_take_w 12 (some 23) (.int .i64 (k : Nat)) rfl rfl (by kernel_rfl) (by kernel_rfl) (by kernel_rfl) rfl (fun W hW => by obtain ⟨h0, h1, h2⟩ := hW; go_simp) tH0 ?_
      simp only [FL]
      refine hr_take_w 13 (some 24) (.pointer (some ⟨b, off + k * 3, none⟩)) rfl rfl (by kernel_rfl) (by kernel_rfl) (by kernel_rfl) rfl (fun W hW => by obtain ⟨h0, h1, h2⟩ := hW; go_simp) tH0 ?_
      simp only [FL]
      refine hr_take_w 14 (some 25) (.pointer (some ⟨b, off + k * 3 + 2, none⟩)) rfl rfl (by kernel_rfl) (by kernel_rfl) (by kernel_rfl) rfl (fun W hW => by obtain ⟨h0, h1, h2⟩ := hW; go_simp) tH0 ?_
      simp only [FL]
      refine hr_take_w 15 (some 26) (.slice u.tag.ao u.tag.n u.tag.cap) rfl rfl (by kernel_rfl) (by kernel_rfl) (by kernel_rfl) rfl (fun W hW => by obtain ⟨h0, h1, h2⟩ := hW; go_simp) tH0 ?_
      simp only [FL]
      refine hr_take_w 16 (some 27) (.agg #[.int .u64 (u.fr : Nat), .slice u.b.ao u.b.n u.b.cap, .slice u.tag.ao u.tag.n u.tag.cap]) rfl rfl (by kernel_rfl) (by kernel_rfl) (by kernel_rfl) rfl (fun W hW => by obtain ⟨h0, h1, h2⟩ := hW; go_simp) tH0 ?_
      simp only [FL]
      refine hr_ex 17 (some 28) rfl rfl (by kernel_rfl) rfl (R := fun v w' => ∃ g, v = .slice (some ⟨g, 0, none⟩) 1 1 ∧ Arr w' g 89 [.int .u64 (u.fr : Nat), .slice u.b.ao u.b.n u.b.cap, .slice u.tag.ao u.tag.n u.tag.cap] ∧ Below tv0.heap.size tv0 w') (⟨_, _, by go_simp, _, rfl, heap_alloc_new tv0 _, (Below.refl _ _).alloc (Nat.le_refl _) _⟩) ?_
      rintro v tv1 ⟨gc, rfl, A8, tC0⟩
      have tE1 := tE0.trans (tC0.mono tE0.size)
      have tH1 := tHS.out tv1 tE1
      have N1 := (GR.below tE0).below tC0
      refine ⟨tH1, ?_⟩
      simp only [FL]
      refine hr_ex 18 (some 29) rfl rfl (by kernel_rfl) rfl (R := fun v w' => ∃ r1 n1 c1, v = .slice r1 n1 c1 ∧ GNew elS 89 w w' w.heap.size (.slice r1 n1 c1) (l.take k ++ [u]) ∧ Below w.heap.size tv1 w') (by obtain ⟨v', w', hr, h3, h4⟩ := run_appG1 elS_fine osigns_ty 39 N1 (Nat.le_trans hsz tE1.size) (ad := ⟨gc, 0, none⟩) (cp := 1) (y := u) (fun j q hq => by rw [Addr.add_lit, Nat.zero_add, Arr.cell A8]; exact hq) uok (by rw [List.length_take]; omega) (by rw [List.length_take]; unfold maxLen; omega); obtain ⟨r1, n1, c1, rfl⟩ := h3.slice; exact ⟨_, w', by simp [execOp, Act.eval, resolve, invoke, builtin, hr], _, _, _, rfl, h3, h4⟩) ?_
      rintro v tv2 ⟨r1, n1, c1, rfl, N5, tC1⟩
      have tF2 := (B.trans (tE1.mono B.size)).trans tC1
      have tH2 := HS2.out tv2 tF2
      refine ⟨tH2, ?_⟩
      simp only [FL]
      refine hr_take_w 19 (some 3) (.slice r1 n1 c1) rfl rfl (by kernel_rfl) (by kernel_rfl) (by kernel_rfl) rfl (fun W hW => by obtain ⟨h0, h1, h2⟩ := hW; go_simp) tH2 ?_
      simp only [FL]
      refine wpAnyH_done (by kernel_rfl) ?_ _
      refine NoPanic.normal ?_
      go_wp2
      go_roundw
      case rel => exact ⟨k + 1, _, by omega, by go_num, rfl, by rw [HTK.out]; exact N5, tF2⟩
      case measure => simp [intOf]; omega
    · have hge : ¬ (k : Int) < (n : Int) := by omega
      have HT : Hid (l.take k = l) := List.take_of_length_le (by omega)
      rw [HT.out] at GR
      have HTY := GR.typ
      obtain ⟨ro, rc, rfl, G2, far⟩ := GR.gl elS_fine B
      have hty := HTY ro _ rc rfl
      have hln : l.length = n := by omega
      rw [hln] at G2 far ⊢
      clear GR HTY
      go_wp2
      go_ret
      exact ⟨ro, rc, rfl, G2, far, hty, B⟩
theorem osigns_any (w : World) (ao : Option Addr) (n cap : Nat) (l : List SA) (L : GL elS w ao n cap l) (hn : n ≤ 1000) :
    Calls Try.prog 21 #[.slice ao n cap] w fun e w' => ∃ ro rc, e = .returned (.slice ro n rc) ∧ GL elS w' ro n rc l ∧ (∀ z, sblk ro n z → w.heap.size ≤ z) ∧ Below w.heap.size w w' := by
  refine (osigns_typed w ao n cap l L hn).mono ?_
  rintro e w' ⟨ro, rc, rfl, G, far, _, B⟩
  exact ⟨ro, rc, rfl, G, far, B⟩
end Go.Proofs.Ytcgphdipfekccaa

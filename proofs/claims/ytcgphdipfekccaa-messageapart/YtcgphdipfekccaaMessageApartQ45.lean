/-
  Texts in one: ApartLaw13.
-/
import Derived.Test.YtcgphdipfekccaaMessageApartQFL
import Derived.Test.YtcgphdipfekccaaMessageApartQ20
import Derived.Test.YtcgphdipfekccaaMessageApartQ22
import Derived.Test.YtcgphdipfekccaaMessageApartQ26
import Derived.Test.YtcgphdipfekccaaMessageApartQ44
namespace Go.Proofs.Ytcgphdipfekccaa
open Go.RowKit
theorem sameL_all {α : Type} (f : α → α → Bool) : ∀ (l m : List α), l.length = m.length → (∀ i (h1 : i < l.length) (h2 : i < m.length), f l[i] m[i] = true) → sameL f l m = true
  | [], [], _, _ => rfl
  | [], _ :: _, h, _ => by simp at h
  | _ :: _, [], h, _ => by simp at h
  | a :: l, b :: m, h, k => by
    have h0 : f a b = true := k 0 (by simp) (by simp)
    rw [sameL, h0, Bool.true_and]
    exact sameL_all f l m (by simpa using h) (fun i h1 h2 => k (i + 1) (by simp; omega) (by simp; omega))
theorem sameL_len2 {α : Type} {f : α → α → Bool} : ∀ {l m : List α}, sameL f l m = true → l.length = m.length
  | [], [], _ => rfl
  | [], _ :: _, h => by simp [sameL] at h
  | _ :: _, [], h => by simp [sameL] at h
  | a :: l, b :: m, h => by
    rw [sameL, Bool.and_eq_true] at h
    simp [sameL_len2 h.2]
theorem sameL_at {α : Type} {f : α → α → Bool} : ∀ {l m : List α}, sameL f l m = true → ∀ i (h1 : i < l.length) (h2 : i < m.length), f l[i] m[i] = true
  | [], _, _, i, h1, _ => absurd h1 (Nat.not_lt_zero _)
  | _ :: _, [], h, _, _, _ => by simp [sameL] at h
  | a :: l, b :: m, h, i, h1, h2 => by
    rw [sameL, Bool.and_eq_true] at h
    cases i with
    | zero => exact h.1
    | succ i => exact sameL_at h.2 i (by simpa using h1) (by simpa using h2)
theorem bv_ext {a b : BV} (h1 : a.kind = b.kind) (h2 : a.view = b.view) (h3 : a.seq = b.seq) (h4 : a.sum = b.sum) (h5 : a.reqs = b.reqs) (h6 : a.rep = b.rep) (h7 : a.cert = b.cert) (h8 : a.sets = b.sets) : a = b := by
  obtain ⟨a1, a2, a3, a4, a5, a6, a7, a8⟩ := a
  obtain ⟨b1, b2, b3, b4, b5, b6, b7, b8⟩ := b
  simp only at h1 h2 h3 h4 h5 h6 h7 h8
  subst h1 h2 h3 h4 h5 h6 h7 h8
  rfl
theorem map_at {α β : Type} {f : α → β} {l m : List α} (hl : l.length = m.length) (h : ∀ i (h1 : i < l.length) (h2 : i < m.length), f l[i] = f m[i]) : l.map f = m.map f :=
  List.ext_getElem (by simp [hl]) (fun i h1 h2 => by simp only [List.getElem_map]; exact h i (by simpa using h1) (by simpa using h2))
theorem at_map {α β : Type} {f : α → β} {l m : List α} (h : l.map f = m.map f) (i : Nat) (h1 : i < l.length) (h2 : i < m.length) : f l[i] = f m[i] := by
  have e : (l.map f)[i]? = (m.map f)[i]? := by rw [h]
  rw [List.getElem?_map, List.getElem?_map, List.getElem?_eq_getElem h1, List.getElem?_eq_getElem h2] at e
  exact Option.some.inj e
theorem same_v_iff {x y : BM} {xs ys : List QE} {w : World} (hx : x.ok w) (hy : y.ok w) (rx : rightM x = true) (ry : rightM y = true) (qx : x.q.l = xs.map QE.m) (qy : y.q.l = ys.map QE.m) (ox : ∀ q ∈ xs, OW w 3 q.x) (oy : ∀ q ∈ ys, OW w 3 q.x) :
    sameB x y xs ys = true ↔ x.v = y.v := by
  have gx := rgt rx
  have gy := rgt ry
  have nx : xs.length = x.q.n := by rw [← hx.q.len, qx, List.length_map]
  have ny : ys.length = y.q.n := by rw [← hy.q.len, qy, List.length_map]
  have vx : x.v.reqs = xs.map (fun q => q.m.v) := by show x.q.l.map QM.v = _; rw [qx, List.map_map]; rfl
  have vy : y.v.reqs = ys.map (fun q => q.m.v) := by show y.q.l.map QM.v = _; rw [qy, List.map_map]; rfl
  constructor
  · intro h
    unfold sameB at h
    simp only [Bool.and_eq_true, decide_eq_true_eq] at h
    obtain ⟨⟨h1, h2, h3, h4, h5, h6⟩, h7, h8, h9, h10⟩ := h
    have e7 := (pvB_iff _ _).1 h7
    have e8 := (sgB_iff _ _).1 h8
    have e9 : x.v.reqs = y.v.reqs := by
      rw [vx, vy]
      exact map_at (sameL_len2 h9) fun i i1 i2 => same_v _ _ (sameL_at h9 i i1 i2)
    have e10 : x.v.sets = y.v.sets := map_at (f := fun s : LS SA => s.l.map SA.v) (sameL_len2 h10) fun i i1 i2 => (sgB_iff _ _).1 (sameL_at h10 i i1 i2)
    exact bv_ext h1 h2 h3 h4 e9 e7 e8 e10
  · intro h
    have e1 : x.kind = y.kind := congrArg BV.kind h
    have e2 : x.view = y.view := congrArg BV.view h
    have e3 : x.seq = y.seq := congrArg BV.seq h
    have e4 : x.sum.xs = y.sum.xs := congrArg BV.sum h
    have e5 := congrArg BV.reqs h
    have e6 : x.v.rep = y.v.rep := congrArg BV.rep h
    have e7 : x.s.l.map SA.v = y.s.l.map SA.v := congrArg BV.cert h
    have e8 : x.t.l.map (fun s : LS SA => s.l.map SA.v) = y.t.l.map (fun s : LS SA => s.l.map SA.v) := congrArg BV.sets h
    rw [vx, vy] at e5
    have nq : xs.length = ys.length := by simpa using congrArg List.length e5
    have nt : x.t.l.length = y.t.l.length := by simpa using congrArg List.length e8
    have tx := hx.t.len
    have ty := hy.t.len
    unfold sameB
    rw [decide_eq_true ⟨e1, e2, e3, e4, by omega, by omega⟩, (pvB_iff _ _).2 e6, sgB_true e7, sameL_all qB xs ys nq (fun i i1 i2 => same_of_v (ox _ (List.getElem_mem i1)) (oy _ (List.getElem_mem i2)) (gx.q _ (by rw [qx]; exact List.mem_map.2 ⟨_, List.getElem_mem i1, rfl⟩)) (gy.q _ (by rw [qy]; exact List.mem_map.2 ⟨_, List.getElem_mem i2, rfl⟩)) (at_map e5 i i1 i2)), sameL_all lB x.t.l y.t.l nt (fun i i1 i2 => sgB_true (at_map e8 i i1 i2))]
    rfl
theorem apart_eq {x y : BM} {xs ys : List QE} {w : World} (hx : x.ok w) (hy : y.ok w) (rx : rightM x = true) (ry : rightM y = true) (bx : Byt (putB x.v)) (by_ : Byt (putB y.v)) (qx : x.q.l = xs.map QE.m) (qy : y.q.l = ys.map QE.m) (ox : ∀ q ∈ xs, OW w 3 q.x) (oy : ∀ q ∈ ys, OW w 3 q.x) :
    decide (putB x.v = putB y.v) = sameB x y xs ys := by
  have h1 := put_inj (okB_of hx rx bx) (okB_of hy ry by_)
  have h2 := same_v_iff hx hy rx ry qx qy ox oy
  cases h : sameB x y xs ys with
  | true => exact decide_eq_true (h1.2 (h2.1 h))
  | false => exact decide_eq_false fun e => by rw [h2.2 (h1.1 e)] at h; cases h
set_option maxRecDepth 100000 in
set_option maxHeartbeats 16000000 in
theorem messageApart_any (w : World) (x y : BM) (xs ys : List QE) (hx : x.ok w) (qx : x.q.l = xs.map QE.m) (ox : ∀ q ∈ xs, OW w 3 q.x) (sx : ∀ q ∈ xs, OSm 3 q.x) (cx : ∀ c ∈ x.c.l, c.small) (hy : y.ok w) (qy : y.q.l = ys.map QE.m) (oy : ∀ q ∈ ys, OW w 3 q.x) (sy : ∀ q ∈ ys, OSm 3 q.x) (cy : ∀ c ∈ y.c.l, c.small) :
    Calls Try.prog 4 #[x.val, y.val] w fun e w' => e = .returned (.bool true) ∧ Below w.heap.size w w' := by
  have B : Below w.heap.size w ((w.alloc (Obj.cells #[.int .i64 x.kind, .int .u64 (x.view : Nat), .int .u64 (x.seq : Nat), .slice x.sum.ao x.sum.n x.sum.cap, .slice x.q.ao x.q.n x.q.cap, .int .u64 (x.cl : Nat), .int .u64 (x.st : Nat), .int .u64 (x.vw : Nat), .int .i64 x.e, .slice x.c.ao x.c.n x.c.cap, .bool x.more, .slice x.s.ao x.s.n x.s.cap, .slice x.t.ao x.t.n x.t.cap] 34)).alloc (Obj.cells #[.int .i64 y.kind, .int .u64 (y.view : Nat), .int .u64 (y.seq : Nat), .slice y.sum.ao y.sum.n y.sum.cap, .slice y.q.ao y.q.n y.q.cap, .int .u64 (y.cl : Nat), .int .u64 (y.st : Nat), .int .u64 (y.vw : Nat), .int .i64 y.e, .slice y.c.ao y.c.n y.c.cap, .bool y.more, .slice y.s.ao y.s.n y.s.cap, .slice y.t.ao y.t.n y.t.cap] 34)) := ((Below.refl _ w).alloc (Nat.le_refl _) _).alloc (by simp) _
  have KX : ((w.alloc (Obj.cells #[.int .i64 x.kind, .int .u64 (x.view : Nat), .int .u64 (x.seq : Nat), .slice x.sum.ao x.sum.n x.sum.cap, .slice x.q.ao x.q.n x.q.cap, .int .u64 (x.cl : Nat), .int .u64 (x.st : Nat), .int .u64 (x.vw : Nat), .int .i64 x.e, .slice x.c.ao x.c.n x.c.cap, .bool x.more, .slice x.s.ao x.s.n x.s.cap, .slice x.t.ao x.t.n x.t.cap] 34)).alloc (Obj.cells #[.int .i64 y.kind, .int .u64 (y.view : Nat), .int .u64 (y.seq : Nat), .slice y.sum.ao y.sum.n y.sum.cap, .slice y.q.ao y.q.n y.q.cap, .int .u64 (y.cl : Nat), .int .u64 (y.st : Nat), .int .u64 (y.vw : Nat), .int .i64 y.e, .slice y.c.ao y.c.n y.c.cap, .bool y.more, .slice y.s.ao y.s.n y.s.cap, .slice y.t.ao y.t.n y.t.cap] 34)).heap[w.heap.size]? = some (.cells #[.int .i64 x.kind, .int .u64 (x.view : Nat), .int .u64 (x.seq : Nat), .slice x.sum.ao x.sum.n x.sum.cap, .slice x.q.ao x.q.n x.q.cap, .int .u64 (x.cl : Nat), .int .u64 (x.st : Nat), .int .u64 (x.vw : Nat), .int .i64 x.e, .slice x.c.ao x.c.n x.c.cap, .bool x.more, .slice x.s.ao x.s.n x.s.cap, .slice x.t.ao x.t.n x.t.cap] 34) := (heap_alloc_old _ _ (by simp)).trans (heap_alloc_new w _)
  have KY : ((w.alloc (Obj.cells #[.int .i64 x.kind, .int .u64 (x.view : Nat), .int .u64 (x.seq : Nat), .slice x.sum.ao x.sum.n x.sum.cap, .slice x.q.ao x.q.n x.q.cap, .int .u64 (x.cl : Nat), .int .u64 (x.st : Nat), .int .u64 (x.vw : Nat), .int .i64 x.e, .slice x.c.ao x.c.n x.c.cap, .bool x.more, .slice x.s.ao x.s.n x.s.cap, .slice x.t.ao x.t.n x.t.cap] 34)).alloc (Obj.cells #[.int .i64 y.kind, .int .u64 (y.view : Nat), .int .u64 (y.seq : Nat), .slice y.sum.ao y.sum.n y.sum.cap, .slice y.q.ao y.q.n y.q.cap, .int .u64 (y.cl : Nat), .int .u64 (y.st : Nat), .int .u64 (y.vw : Nat), .int .i64 y.e, .slice y.c.ao y.c.n y.c.cap, .bool y.more, .slice y.s.ao y.s.n y.s.cap, .slice y.t.ao y.t.n y.t.cap] 34)).heap[w.heap.size + 1]? = some (.cells #[.int .i64 y.kind, .int .u64 (y.view : Nat), .int .u64 (y.seq : Nat), .slice y.sum.ao y.sum.n y.sum.cap, .slice y.q.ao y.q.n y.q.cap, .int .u64 (y.cl : Nat), .int .u64 (y.st : Nat), .int .u64 (y.vw : Nat), .int .i64 y.e, .slice y.c.ao y.c.n y.c.cap, .bool y.more, .slice y.s.ao y.s.n y.s.cap, .slice y.t.ao y.t.n y.t.cap] 34) := by
    have := heap_alloc_new (w.alloc (Obj.cells #[.int .i64 x.kind, .int .u64 (x.view : Nat), .int .u64 (x.seq : Nat), .slice x.sum.ao x.sum.n x.sum.cap, .slice x.q.ao x.q.n x.q.cap, .int .u64 (x.cl : Nat), .int .u64 (x.st : Nat), .int .u64 (x.vw : Nat), .int .i64 x.e, .slice x.c.ao x.c.n x.c.cap, .bool x.more, .slice x.s.ao x.s.n x.s.cap, .slice x.t.ao x.t.n x.t.cap] 34)) (Obj.cells #[.int .i64 y.kind, .int .u64 (y.view : Nat), .int .u64 (y.seq : Nat), .slice y.sum.ao y.sum.n y.sum.cap, .slice y.q.ao y.q.n y.q.cap, .int .u64 (y.cl : Nat), .int .u64 (y.st : Nat), .int .u64 (y.vw : Nat), .int .i64 y.e, .slice y.c.ao y.c.n y.c.cap, .bool y.more, .slice y.s.ao y.s.n y.s.cap, .slice y.t.ao y.t.n y.t.cap] 34)
    simpa using this
  unfold BM.val
  go_enter Try.func4, Try.ntmps4
  go_wp2_with fail
  obtain ⟨w1, hw1⟩ : ∃ W, W = ((w.alloc (Obj.cells #[.int .i64 x.kind, .int .u64 (x.view : Nat), .int .u64 (x.seq : Nat), .slice x.sum.ao x.sum.n x.sum.cap, .slice x.q.ao x.q.n x.q.cap, .int .u64 (x.cl : Nat), .int .u64 (x.st : Nat), .int .u64 (x.vw : Nat), .int .i64 x.e, .slice x.c.ao x.c.n x.c.cap, .bool x.more, .slice x.s.ao x.s.n x.s.cap, .slice x.t.ao x.t.n x.t.cap] 34)).alloc (Obj.cells #[.int .i64 y.kind, .int .u64 (y.view : Nat), .int .u64 (y.seq : Nat), .slice y.sum.ao y.sum.n y.sum.cap, .slice y.q.ao y.q.n y.q.cap, .int .u64 (y.cl : Nat), .int .u64 (y.st : Nat), .int .u64 (y.vw : Nat), .int .i64 y.e, .slice y.c.ao y.c.n y.c.cap, .bool y.more, .slice y.s.ao y.s.n y.s.cap, .slice y.t.ao y.t.n y.t.cap] 34)) := ⟨_, rfl⟩
  rw [← hw1] at B KX KY ⊢
  obtain ⟨N, hN⟩ : ∃ N, N = w.heap.size := ⟨_, rfl⟩
  rw [← hN] at KX KY ⊢
  have hN1 : N + 1 < w1.heap.size := (Array.getElem?_eq_some_iff.1 KY).1
  clear hw1 hN
  have C : Below w1.heap.size w1 w1 := Below.refl _ _
  refine (light13 w1 x xs (hx.below B) qx (fun q hq => OW.below B (ox q hq)) sx cx).mono ?_
  rintro e w2 ⟨b, rfl, hb, D⟩
  have B := B.trans (D.mono B.size)
  have C := C.trans (D.mono C.size)
  clear D
  have p0 := cell_of_row w2 N 0 _ _ _ ((C.block N (by omega)).trans KX)
  have q0 := cell_of_row w2 (N + 1) 0 _ _ _ ((C.block (N + 1) (by omega)).trans KY)
  have p1 := cell_of_row w2 N 1 _ _ _ ((C.block N (by omega)).trans KX)
  have q1 := cell_of_row w2 (N + 1) 1 _ _ _ ((C.block (N + 1) (by omega)).trans KY)
  have p2 := cell_of_row w2 N 2 _ _ _ ((C.block N (by omega)).trans KX)
  have q2 := cell_of_row w2 (N + 1) 2 _ _ _ ((C.block (N + 1) (by omega)).trans KY)
  have p3 := cell_of_row w2 N 3 _ _ _ ((C.block N (by omega)).trans KX)
  have q3 := cell_of_row w2 (N + 1) 3 _ _ _ ((C.block (N + 1) (by omega)).trans KY)
  have p4 := cell_of_row w2 N 4 _ _ _ ((C.block N (by omega)).trans KX)
  have q4 := cell_of_row w2 (N + 1) 4 _ _ _ ((C.block (N + 1) (by omega)).trans KY)
  have p5 := cell_of_row w2 N 5 _ _ _ ((C.block N (by omega)).trans KX)
  have q5 := cell_of_row w2 (N + 1) 5 _ _ _ ((C.block (N + 1) (by omega)).trans KY)
  have p6 := cell_of_row w2 N 6 _ _ _ ((C.block N (by omega)).trans KX)
  have q6 := cell_of_row w2 (N + 1) 6 _ _ _ ((C.block (N + 1) (by omega)).trans KY)
  have p7 := cell_of_row w2 N 7 _ _ _ ((C.block N (by omega)).trans KX)
  have q7 := cell_of_row w2 (N + 1) 7 _ _ _ ((C.block (N + 1) (by omega)).trans KY)
  have p8 := cell_of_row w2 N 8 _ _ _ ((C.block N (by omega)).trans KX)
  have q8 := cell_of_row w2 (N + 1) 8 _ _ _ ((C.block (N + 1) (by omega)).trans KY)
  have p9 := cell_of_row w2 N 9 _ _ _ ((C.block N (by omega)).trans KX)
  have q9 := cell_of_row w2 (N + 1) 9 _ _ _ ((C.block (N + 1) (by omega)).trans KY)
  have p10 := cell_of_row w2 N 10 _ _ _ ((C.block N (by omega)).trans KX)
  have q10 := cell_of_row w2 (N + 1) 10 _ _ _ ((C.block (N + 1) (by omega)).trans KY)
  have p11 := cell_of_row w2 N 11 _ _ _ ((C.block N (by omega)).trans KX)
  have q11 := cell_of_row w2 (N + 1) 11 _ _ _ ((C.block (N + 1) (by omega)).trans KY)
  have p12 := cell_of_row w2 N 12 _ _ _ ((C.block N (by omega)).trans KX)
  have q12 := cell_of_row w2 (N + 1) 12 _ _ _ ((C.block (N + 1) (by omega)).trans KY)
  cases b with
  | false =>
    clear hb
    have CA := alive13 w2
    go_wp2_with (go_at_call 6; refine CA.mono ?_; rintro e w9 ⟨rfl, D⟩; have B9 := B.trans (D.mono B.size))
    go_ret
    exact ⟨rfl, B9⟩
  | true =>
    have LX : Hid (LB x xs) := hb rfl
    clear hb
    go_wp2_with fail
    refine (light13 w2 y ys (hy.below B) qy (fun q hq => OW.below B (oy q hq)) sy cy).mono ?_
    rintro e w3 ⟨b, rfl, hb, D⟩
    have B := B.trans (D.mono B.size)
    have C := C.trans (D.mono C.size)
    clear D
    clear p0 q0 p1 q1 p2 q2 p3 q3 p4 q4 p5 q5 p6 q6 p7 q7 p8 q8 p9 q9 p10 q10 p11 q11 p12 q12
    have p0 := cell_of_row w3 N 0 _ _ _ ((C.block N (by omega)).trans KX)
    have q0 := cell_of_row w3 (N + 1) 0 _ _ _ ((C.block (N + 1) (by omega)).trans KY)
    have p1 := cell_of_row w3 N 1 _ _ _ ((C.block N (by omega)).trans KX)
    have q1 := cell_of_row w3 (N + 1) 1 _ _ _ ((C.block (N + 1) (by omega)).trans KY)
    have p2 := cell_of_row w3 N 2 _ _ _ ((C.block N (by omega)).trans KX)
    have q2 := cell_of_row w3 (N + 1) 2 _ _ _ ((C.block (N + 1) (by omega)).trans KY)
    have p3 := cell_of_row w3 N 3 _ _ _ ((C.block N (by omega)).trans KX)
    have q3 := cell_of_row w3 (N + 1) 3 _ _ _ ((C.block (N + 1) (by omega)).trans KY)
    have p4 := cell_of_row w3 N 4 _ _ _ ((C.block N (by omega)).trans KX)
    have q4 := cell_of_row w3 (N + 1) 4 _ _ _ ((C.block (N + 1) (by omega)).trans KY)
    have p5 := cell_of_row w3 N 5 _ _ _ ((C.block N (by omega)).trans KX)
    have q5 := cell_of_row w3 (N + 1) 5 _ _ _ ((C.block (N + 1) (by omega)).trans KY)
    have p6 := cell_of_row w3 N 6 _ _ _ ((C.block N (by omega)).trans KX)
    have q6 := cell_of_row w3 (N + 1) 6 _ _ _ ((C.block (N + 1) (by omega)).trans KY)
    have p7 := cell_of_row w3 N 7 _ _ _ ((C.block N (by omega)).trans KX)
    have q7 := cell_of_row w3 (N + 1) 7 _ _ _ ((C.block (N + 1) (by omega)).trans KY)
    have p8 := cell_of_row w3 N 8 _ _ _ ((C.block N (by omega)).trans KX)
    have q8 := cell_of_row w3 (N + 1) 8 _ _ _ ((C.block (N + 1) (by omega)).trans KY)
    have p9 := cell_of_row w3 N 9 _ _ _ ((C.block N (by omega)).trans KX)
    have q9 := cell_of_row w3 (N + 1) 9 _ _ _ ((C.block (N + 1) (by omega)).trans KY)
    have p10 := cell_of_row w3 N 10 _ _ _ ((C.block N (by omega)).trans KX)
    have q10 := cell_of_row w3 (N + 1) 10 _ _ _ ((C.block (N + 1) (by omega)).trans KY)
    have p11 := cell_of_row w3 N 11 _ _ _ ((C.block N (by omega)).trans KX)
    have q11 := cell_of_row w3 (N + 1) 11 _ _ _ ((C.block (N + 1) (by omega)).trans KY)
    have p12 := cell_of_row w3 N 12 _ _ _ ((C.block N (by omega)).trans KX)
    have q12 := cell_of_row w3 (N + 1) 12 _ _ _ ((C.block (N + 1) (by omega)).trans KY)
    cases b with
    | false =>
      clear hb
      have CA := alive13 w3
      go_wp2_with (go_at_call 6; refine CA.mono ?_; rintro e w9 ⟨rfl, D⟩; have B9 := B.trans (D.mono B.size))
      go_ret
      exact ⟨rfl, B9⟩
    | true =>
      have LY : Hid (LB y ys) := hb rfl
      clear hb
      go_wp2_with fail
      refine (own_any w3 x (hx.below B) (by have := LX.out.sn; omega) (by have := LX.out.tn; omega) (fun u hu => by have := (LX.out.t u hu).1; omega)).mono ?_
      rintro e w4 ⟨so, sc, vo, vc, zs, rfl, hok, hzs, D⟩
      have B := B.trans (D.mono B.size)
      have C := C.trans (D.mono C.size)
      clear D
      clear p0 q0 p1 q1 p2 q2 p3 q3 p4 q4 p5 q5 p6 q6 p7 q7 p8 q8 p9 q9 p10 q10 p11 q11 p12 q12
      have p0 := cell_of_row w4 N 0 _ _ _ ((C.block N (by omega)).trans KX)
      have q0 := cell_of_row w4 (N + 1) 0 _ _ _ ((C.block (N + 1) (by omega)).trans KY)
      have p1 := cell_of_row w4 N 1 _ _ _ ((C.block N (by omega)).trans KX)
      have q1 := cell_of_row w4 (N + 1) 1 _ _ _ ((C.block (N + 1) (by omega)).trans KY)
      have p2 := cell_of_row w4 N 2 _ _ _ ((C.block N (by omega)).trans KX)
      have q2 := cell_of_row w4 (N + 1) 2 _ _ _ ((C.block (N + 1) (by omega)).trans KY)
      have p3 := cell_of_row w4 N 3 _ _ _ ((C.block N (by omega)).trans KX)
      have q3 := cell_of_row w4 (N + 1) 3 _ _ _ ((C.block (N + 1) (by omega)).trans KY)
      have p4 := cell_of_row w4 N 4 _ _ _ ((C.block N (by omega)).trans KX)
      have q4 := cell_of_row w4 (N + 1) 4 _ _ _ ((C.block (N + 1) (by omega)).trans KY)
      have p5 := cell_of_row w4 N 5 _ _ _ ((C.block N (by omega)).trans KX)
      have q5 := cell_of_row w4 (N + 1) 5 _ _ _ ((C.block (N + 1) (by omega)).trans KY)
      have p6 := cell_of_row w4 N 6 _ _ _ ((C.block N (by omega)).trans KX)
      have q6 := cell_of_row w4 (N + 1) 6 _ _ _ ((C.block (N + 1) (by omega)).trans KY)
      have p7 := cell_of_row w4 N 7 _ _ _ ((C.block N (by omega)).trans KX)
      have q7 := cell_of_row w4 (N + 1) 7 _ _ _ ((C.block (N + 1) (by omega)).trans KY)
      have p8 := cell_of_row w4 N 8 _ _ _ ((C.block N (by omega)).trans KX)
      have q8 := cell_of_row w4 (N + 1) 8 _ _ _ ((C.block (N + 1) (by omega)).trans KY)
      have p9 := cell_of_row w4 N 9 _ _ _ ((C.block N (by omega)).trans KX)
      have q9 := cell_of_row w4 (N + 1) 9 _ _ _ ((C.block (N + 1) (by omega)).trans KY)
      have p10 := cell_of_row w4 N 10 _ _ _ ((C.block N (by omega)).trans KX)
      have q10 := cell_of_row w4 (N + 1) 10 _ _ _ ((C.block (N + 1) (by omega)).trans KY)
      have p11 := cell_of_row w4 N 11 _ _ _ ((C.block N (by omega)).trans KX)
      have q11 := cell_of_row w4 (N + 1) 11 _ _ _ ((C.block (N + 1) (by omega)).trans KY)
      have p12 := cell_of_row w4 N 12 _ _ _ ((C.block N (by omega)).trans KX)
      have q12 := cell_of_row w4 (N + 1) 12 _ _ _ ((C.block (N + 1) (by omega)).trans KY)
      have CB := bytes_msg w4 _ hok
      have HR1 : Hid (rightM (ownB x so sc vo vc zs) = rightM x) := own_right hzs
      have HV1 : Hid ((ownB x so sc vo vc zs).v = x.v) := own_v hzs
      have HP : BytPost w4 (ownB x so sc vo vc zs) = fun e w' => ∃ bo m c, e = .returned (.tuple #[.slice bo m c, .int .i64 (if rightM x then 0 else 3)]) ∧ Sl w' bo m c (if rightM x then putB x.v else []) ∧ Below w4.heap.size w4 w' := by
        unfold BytPost
        rw [HR1.out, HV1.out]
      rw [HP] at CB
      clear HP HR1 HV1 hok hzs
      generalize ownB x so sc vo vc zs = z at CB
      unfold BM.val at CB ⊢
      go_wp2_with fail
      refine CB.mono ?_
      rintro e w5 ⟨bo, m1, c1, rfl, S1, D⟩
      have B := B.trans (D.mono B.size)
      have C := C.trans (D.mono C.size)
      clear D
      clear p0 q0 p1 q1 p2 q2 p3 q3 p4 q4 p5 q5 p6 q6 p7 q7 p8 q8 p9 q9 p10 q10 p11 q11 p12 q12
      have p0 := cell_of_row w5 N 0 _ _ _ ((C.block N (by omega)).trans KX)
      have q0 := cell_of_row w5 (N + 1) 0 _ _ _ ((C.block (N + 1) (by omega)).trans KY)
      have p1 := cell_of_row w5 N 1 _ _ _ ((C.block N (by omega)).trans KX)
      have q1 := cell_of_row w5 (N + 1) 1 _ _ _ ((C.block (N + 1) (by omega)).trans KY)
      have p2 := cell_of_row w5 N 2 _ _ _ ((C.block N (by omega)).trans KX)
      have q2 := cell_of_row w5 (N + 1) 2 _ _ _ ((C.block (N + 1) (by omega)).trans KY)
      have p3 := cell_of_row w5 N 3 _ _ _ ((C.block N (by omega)).trans KX)
      have q3 := cell_of_row w5 (N + 1) 3 _ _ _ ((C.block (N + 1) (by omega)).trans KY)
      have p4 := cell_of_row w5 N 4 _ _ _ ((C.block N (by omega)).trans KX)
      have q4 := cell_of_row w5 (N + 1) 4 _ _ _ ((C.block (N + 1) (by omega)).trans KY)
      have p5 := cell_of_row w5 N 5 _ _ _ ((C.block N (by omega)).trans KX)
      have q5 := cell_of_row w5 (N + 1) 5 _ _ _ ((C.block (N + 1) (by omega)).trans KY)
      have p6 := cell_of_row w5 N 6 _ _ _ ((C.block N (by omega)).trans KX)
      have q6 := cell_of_row w5 (N + 1) 6 _ _ _ ((C.block (N + 1) (by omega)).trans KY)
      have p7 := cell_of_row w5 N 7 _ _ _ ((C.block N (by omega)).trans KX)
      have q7 := cell_of_row w5 (N + 1) 7 _ _ _ ((C.block (N + 1) (by omega)).trans KY)
      have p8 := cell_of_row w5 N 8 _ _ _ ((C.block N (by omega)).trans KX)
      have q8 := cell_of_row w5 (N + 1) 8 _ _ _ ((C.block (N + 1) (by omega)).trans KY)
      have p9 := cell_of_row w5 N 9 _ _ _ ((C.block N (by omega)).trans KX)
      have q9 := cell_of_row w5 (N + 1) 9 _ _ _ ((C.block (N + 1) (by omega)).trans KY)
      have p10 := cell_of_row w5 N 10 _ _ _ ((C.block N (by omega)).trans KX)
      have q10 := cell_of_row w5 (N + 1) 10 _ _ _ ((C.block (N + 1) (by omega)).trans KY)
      have p11 := cell_of_row w5 N 11 _ _ _ ((C.block N (by omega)).trans KX)
      have q11 := cell_of_row w5 (N + 1) 11 _ _ _ ((C.block (N + 1) (by omega)).trans KY)
      have p12 := cell_of_row w5 N 12 _ _ _ ((C.block N (by omega)).trans KX)
      have q12 := cell_of_row w5 (N + 1) 12 _ _ _ ((C.block (N + 1) (by omega)).trans KY)
      clear CB
      obtain ⟨k1, hk1⟩ : ∃ k : Int, k = (if rightM x then 0 else 3) := ⟨_, rfl⟩
      have HK1 : Hid (k1 = (if rightM x then 0 else 3)) := hk1
      rw [← hk1]
      clear hk1
      go_wp2_with fail
      refine (own_any w5 y (hy.below B) (by have := LY.out.sn; omega) (by have := LY.out.tn; omega) (fun u hu => by have := (LY.out.t u hu).1; omega)).mono ?_
      rintro e w6 ⟨so2, sc2, vo2, vc2, zs2, rfl, hok, hzs, D⟩
      have S1 := S1.below D
      have B := B.trans (D.mono B.size)
      have C := C.trans (D.mono C.size)
      clear D
      clear p0 q0 p1 q1 p2 q2 p3 q3 p4 q4 p5 q5 p6 q6 p7 q7 p8 q8 p9 q9 p10 q10 p11 q11 p12 q12
      have p0 := cell_of_row w6 N 0 _ _ _ ((C.block N (by omega)).trans KX)
      have q0 := cell_of_row w6 (N + 1) 0 _ _ _ ((C.block (N + 1) (by omega)).trans KY)
      have p1 := cell_of_row w6 N 1 _ _ _ ((C.block N (by omega)).trans KX)
      have q1 := cell_of_row w6 (N + 1) 1 _ _ _ ((C.block (N + 1) (by omega)).trans KY)
      have p2 := cell_of_row w6 N 2 _ _ _ ((C.block N (by omega)).trans KX)
      have q2 := cell_of_row w6 (N + 1) 2 _ _ _ ((C.block (N + 1) (by omega)).trans KY)
      have p3 := cell_of_row w6 N 3 _ _ _ ((C.block N (by omega)).trans KX)
      have q3 := cell_of_row w6 (N + 1) 3 _ _ _ ((C.block (N + 1) (by omega)).trans KY)
      have p4 := cell_of_row w6 N 4 _ _ _ ((C.block N (by omega)).trans KX)
      have q4 := cell_of_row w6 (N + 1) 4 _ _ _ ((C.block (N + 1) (by omega)).trans KY)
      have p5 := cell_of_row w6 N 5 _ _ _ ((C.block N (by omega)).trans KX)
      have q5 := cell_of_row w6 (N + 1) 5 _ _ _ ((C.block (N + 1) (by omega)).trans KY)
      have p6 := cell_of_row w6 N 6 _ _ _ ((C.block N (by omega)).trans KX)
      have q6 := cell_of_row w6 (N + 1) 6 _ _ _ ((C.block (N + 1) (by omega)).trans KY)
      have p7 := cell_of_row w6 N 7 _ _ _ ((C.block N (by omega)).trans KX)
      have q7 := cell_of_row w6 (N + 1) 7 _ _ _ ((C.block (N + 1) (by omega)).trans KY)
      have p8 := cell_of_row w6 N 8 _ _ _ ((C.block N (by omega)).trans KX)
      have q8 := cell_of_row w6 (N + 1) 8 _ _ _ ((C.block (N + 1) (by omega)).trans KY)
      have p9 := cell_of_row w6 N 9 _ _ _ ((C.block N (by omega)).trans KX)
      have q9 := cell_of_row w6 (N + 1) 9 _ _ _ ((C.block (N + 1) (by omega)).trans KY)
      have p10 := cell_of_row w6 N 10 _ _ _ ((C.block N (by omega)).trans KX)
      have q10 := cell_of_row w6 (N + 1) 10 _ _ _ ((C.block (N + 1) (by omega)).trans KY)
      have p11 := cell_of_row w6 N 11 _ _ _ ((C.block N (by omega)).trans KX)
      have q11 := cell_of_row w6 (N + 1) 11 _ _ _ ((C.block (N + 1) (by omega)).trans KY)
      have p12 := cell_of_row w6 N 12 _ _ _ ((C.block N (by omega)).trans KX)
      have q12 := cell_of_row w6 (N + 1) 12 _ _ _ ((C.block (N + 1) (by omega)).trans KY)
      have CB := bytes_msg w6 _ hok
      have HR1 : Hid (rightM (ownB y so2 sc2 vo2 vc2 zs2) = rightM y) := own_right hzs
      have HV1 : Hid ((ownB y so2 sc2 vo2 vc2 zs2).v = y.v) := own_v hzs
      have HP : BytPost w6 (ownB y so2 sc2 vo2 vc2 zs2) = fun e w' => ∃ bo m c, e = .returned (.tuple #[.slice bo m c, .int .i64 (if rightM y then 0 else 3)]) ∧ Sl w' bo m c (if rightM y then putB y.v else []) ∧ Below w6.heap.size w6 w' := by
        unfold BytPost
        rw [HR1.out, HV1.out]
      rw [HP] at CB
      clear HP HR1 HV1 hok hzs
      generalize ownB y so2 sc2 vo2 vc2 zs2 = z2 at CB
      unfold BM.val at CB ⊢
      go_wp2_with fail
      refine CB.mono ?_
      rintro e w7 ⟨co, m2, c2, rfl, S2, D⟩
      have S1 := S1.below D
      have B := B.trans (D.mono B.size)
      have C := C.trans (D.mono C.size)
      clear D
      clear p0 q0 p1 q1 p2 q2 p3 q3 p4 q4 p5 q5 p6 q6 p7 q7 p8 q8 p9 q9 p10 q10 p11 q11 p12 q12
      have p0 := cell_of_row w7 N 0 _ _ _ ((C.block N (by omega)).trans KX)
      have q0 := cell_of_row w7 (N + 1) 0 _ _ _ ((C.block (N + 1) (by omega)).trans KY)
      have p1 := cell_of_row w7 N 1 _ _ _ ((C.block N (by omega)).trans KX)
      have q1 := cell_of_row w7 (N + 1) 1 _ _ _ ((C.block (N + 1) (by omega)).trans KY)
      have p2 := cell_of_row w7 N 2 _ _ _ ((C.block N (by omega)).trans KX)
      have q2 := cell_of_row w7 (N + 1) 2 _ _ _ ((C.block (N + 1) (by omega)).trans KY)
      have p3 := cell_of_row w7 N 3 _ _ _ ((C.block N (by omega)).trans KX)
      have q3 := cell_of_row w7 (N + 1) 3 _ _ _ ((C.block (N + 1) (by omega)).trans KY)
      have p4 := cell_of_row w7 N 4 _ _ _ ((C.block N (by omega)).trans KX)
      have q4 := cell_of_row w7 (N + 1) 4 _ _ _ ((C.block (N + 1) (by omega)).trans KY)
      have p5 := cell_of_row w7 N 5 _ _ _ ((C.block N (by omega)).trans KX)
      have q5 := cell_of_row w7 (N + 1) 5 _ _ _ ((C.block (N + 1) (by omega)).trans KY)
      have p6 := cell_of_row w7 N 6 _ _ _ ((C.block N (by omega)).trans KX)
      have q6 := cell_of_row w7 (N + 1) 6 _ _ _ ((C.block (N + 1) (by omega)).trans KY)
      have p7 := cell_of_row w7 N 7 _ _ _ ((C.block N (by omega)).trans KX)
      have q7 := cell_of_row w7 (N + 1) 7 _ _ _ ((C.block (N + 1) (by omega)).trans KY)
      have p8 := cell_of_row w7 N 8 _ _ _ ((C.block N (by omega)).trans KX)
      have q8 := cell_of_row w7 (N + 1) 8 _ _ _ ((C.block (N + 1) (by omega)).trans KY)
      have p9 := cell_of_row w7 N 9 _ _ _ ((C.block N (by omega)).trans KX)
      have q9 := cell_of_row w7 (N + 1) 9 _ _ _ ((C.block (N + 1) (by omega)).trans KY)
      have p10 := cell_of_row w7 N 10 _ _ _ ((C.block N (by omega)).trans KX)
      have q10 := cell_of_row w7 (N + 1) 10 _ _ _ ((C.block (N + 1) (by omega)).trans KY)
      have p11 := cell_of_row w7 N 11 _ _ _ ((C.block N (by omega)).trans KX)
      have q11 := cell_of_row w7 (N + 1) 11 _ _ _ ((C.block (N + 1) (by omega)).trans KY)
      have p12 := cell_of_row w7 N 12 _ _ _ ((C.block N (by omega)).trans KX)
      have q12 := cell_of_row w7 (N + 1) 12 _ _ _ ((C.block (N + 1) (by omega)).trans KY)
      clear CB
      obtain ⟨k2, hk2⟩ : ∃ k : Int, k = (if rightM y then 0 else 3) := ⟨_, rfl⟩
      have HK2 : Hid (k2 = (if rightM y then 0 else 3)) := hk2
      rw [← hk2]
      clear hk2
      cases hr1 : rightM x with
      | false =>
        have i1 : (k1 != 0) = true := by rw [HK1.out, hr1]; rfl
        clear hr1 S1 S2
        have CA := alive13 w7
        go_wp2_with (go_at_call 6; refine CA.mono ?_; rintro e w9 ⟨rfl, D⟩; have B9 := B.trans (D.mono B.size))
        go_ret
        exact ⟨rfl, B9⟩
      | true =>
        have i1 : (k1 != 0) = false := by rw [HK1.out, hr1]; rfl
        cases hr2 : rightM y with
        | false =>
          have i2 : (k2 != 0) = true := by rw [HK2.out, hr2]; rfl
          clear hr1 hr2 S1 S2
          have CA := alive13 w7
          go_wp2_with (go_at_call 6; refine CA.mono ?_; rintro e w9 ⟨rfl, D⟩; have B9 := B.trans (D.mono B.size))
          go_ret
          exact ⟨rfl, B9⟩
        | true =>
          have i2 : (k2 != 0) = false := by rw [HK2.out, hr2]; rfl
          rw [hr1, if_pos rfl] at S1
          rw [hr2, if_pos rfl] at S2
          have HEQ : decide (putB x.v = putB y.v) = sameB x y xs ys := apart_eq (hx.below B) (hy.below B) hr1 hr2 S1.byte S2.byte qx qy (fun q hq => OW.below B (ox q hq)) (fun q hq => OW.below B (oy q hq))
          obtain ⟨qb, hqb⟩ : ∃ b, b = sameB x y xs ys := ⟨_, rfl⟩
          have HSM : Hid (∀ V, Below w7.heap.size w7 V → Calls Try.prog 13 #[.slice bo m1 c1, .slice co m2 c2] V fun e w' => e = .returned (.bool qb) ∧ Below V.heap.size V w') := fun V hV => by
            rw [hqb, ← HEQ]
            exact below_same S1 S2 V hV
          have HRS : Hid (∀ V, Below w7.heap.size w7 V → Calls Try.prog 10 #[.agg #[.int .i64 x.kind, .int .u64 (x.view : Nat), .int .u64 (x.seq : Nat), .slice x.sum.ao x.sum.n x.sum.cap, .slice x.q.ao x.q.n x.q.cap, .int .u64 (x.cl : Nat), .int .u64 (x.st : Nat), .int .u64 (x.vw : Nat), .int .i64 x.e, .slice x.c.ao x.c.n x.c.cap, .bool x.more, .slice x.s.ao x.s.n x.s.cap, .slice x.t.ao x.t.n x.t.cap], .agg #[.int .i64 y.kind, .int .u64 (y.view : Nat), .int .u64 (y.seq : Nat), .slice y.sum.ao y.sum.n y.sum.cap, .slice y.q.ao y.q.n y.q.cap, .int .u64 (y.cl : Nat), .int .u64 (y.st : Nat), .int .u64 (y.vw : Nat), .int .i64 y.e, .slice y.c.ao y.c.n y.c.cap, .bool y.more, .slice y.s.ao y.s.n y.s.cap, .slice y.t.ao y.t.n y.t.cap]] V fun e w' => e = .returned (.bool qb) ∧ Below V.heap.size V w') := fun V hV => by
            have B9 := B.trans (hV.mono B.size)
            rw [hqb]
            exact rsame13 V x y xs ys (hx.below B9) (hy.below B9) qx qy (fun q hq => OW.below B9 (ox q hq)) (fun q hq => OW.below B9 (oy q hq)) LX.out.q LY.out.q
          clear hqb HEQ hr1 hr2 S1 S2 HK1 HK2 LX LY hx hy qx qy ox oy sx sy cx cy
          go_wp2_with fail
          clear p0 q0 p1 q1 p2 q2 p3 q3 p4 q4 p5 q5 p6 q6 p7 q7 p8 q8 p9 q9 p10 q10 p11 q11 p12 q12
          have tHS : Hid (∀ V, Below w7.heap.size w7 V → V.cell? ⟨N, 0, none⟩ = some (.int .i64 x.kind) ∧ V.cell? ⟨N, 1, none⟩ = some (.int .u64 (x.view : Nat)) ∧ V.cell? ⟨N, 2, none⟩ = some (.int .u64 (x.seq : Nat)) ∧ V.cell? ⟨N, 3, none⟩ = some (.slice x.sum.ao x.sum.n x.sum.cap) ∧ V.cell? ⟨N, 4, none⟩ = some (.slice x.q.ao x.q.n x.q.cap) ∧ V.cell? ⟨N, 5, none⟩ = some (.int .u64 (x.cl : Nat)) ∧ V.cell? ⟨N, 6, none⟩ = some (.int .u64 (x.st : Nat)) ∧ V.cell? ⟨N, 7, none⟩ = some (.int .u64 (x.vw : Nat)) ∧ V.cell? ⟨N, 8, none⟩ = some (.int .i64 x.e) ∧ V.cell? ⟨N, 9, none⟩ = some (.slice x.c.ao x.c.n x.c.cap) ∧ V.cell? ⟨N, 10, none⟩ = some (.bool x.more) ∧ V.cell? ⟨N, 11, none⟩ = some (.slice x.s.ao x.s.n x.s.cap) ∧ V.cell? ⟨N, 12, none⟩ = some (.slice x.t.ao x.t.n x.t.cap) ∧ V.cell? ⟨N + 1, 0, none⟩ = some (.int .i64 y.kind) ∧ V.cell? ⟨N + 1, 1, none⟩ = some (.int .u64 (y.view : Nat)) ∧ V.cell? ⟨N + 1, 2, none⟩ = some (.int .u64 (y.seq : Nat)) ∧ V.cell? ⟨N + 1, 3, none⟩ = some (.slice y.sum.ao y.sum.n y.sum.cap) ∧ V.cell? ⟨N + 1, 4, none⟩ = some (.slice y.q.ao y.q.n y.q.cap) ∧ V.cell? ⟨N + 1, 5, none⟩ = some (.int .u64 (y.cl : Nat)) ∧ V.cell? ⟨N + 1, 6, none⟩ = some (.int .u64 (y.st : Nat)) ∧ V.cell? ⟨N + 1, 7, none⟩ = some (.int .u64 (y.vw : Nat)) ∧ V.cell? ⟨N + 1, 8, none⟩ = some (.int .i64 y.e) ∧ V.cell? ⟨N + 1, 9, none⟩ = some (.slice y.c.ao y.c.n y.c.cap) ∧ V.cell? ⟨N + 1, 10, none⟩ = some (.bool y.more) ∧ V.cell? ⟨N + 1, 11, none⟩ = some (.slice y.s.ao y.s.n y.s.cap) ∧ V.cell? ⟨N + 1, 12, none⟩ = some (.slice y.t.ao y.t.n y.t.cap)) := fun V hV => by have C2 := C.trans (hV.mono C.size); have K1 := (C2.block N (by omega)).trans KX; have K2 := (C2.block (N + 1) (by omega)).trans KY; exact ⟨cell_of_row V N 0 _ _ _ K1, cell_of_row V N 1 _ _ _ K1, cell_of_row V N 2 _ _ _ K1, cell_of_row V N 3 _ _ _ K1, cell_of_row V N 4 _ _ _ K1, cell_of_row V N 5 _ _ _ K1, cell_of_row V N 6 _ _ _ K1, cell_of_row V N 7 _ _ _ K1, cell_of_row V N 8 _ _ _ K1, cell_of_row V N 9 _ _ _ K1, cell_of_row V N 10 _ _ _ K1, cell_of_row V N 11 _ _ _ K1, cell_of_row V N 12 _ _ _ K1, cell_of_row V (N + 1) 0 _ _ _ K2, cell_of_row V (N + 1) 1 _ _ _ K2, cell_of_row V (N + 1) 2 _ _ _ K2, cell_of_row V (N + 1) 3 _ _ _ K2, cell_of_row V (N + 1) 4 _ _ _ K2, cell_of_row V (N + 1) 5 _ _ _ K2, cell_of_row V (N + 1) 6 _ _ _ K2, cell_of_row V (N + 1) 7 _ _ _ K2, cell_of_row V (N + 1) 8 _ _ _ K2, cell_of_row V (N + 1) 9 _ _ _ K2, cell_of_row V (N + 1) 10 _ _ _ K2, cell_of_row V (N + 1) 11 _ _ _ K2, cell_of_row V (N + 1) 12 _ _ _ K2⟩
          have tE0 : Below w7.heap.size w7 w7.drew := (Below.refl _ _).drew
          refine wp_region_noPanic ?_
          refine wp_region_held_drew (S := fun V => V.cell? ⟨N, 0, none⟩ = some (.int .i64 x.kind) ∧ V.cell? ⟨N, 1, none⟩ = some (.int .u64 (x.view : Nat)) ∧ V.cell? ⟨N, 2, none⟩ = some (.int .u64 (x.seq : Nat)) ∧ V.cell? ⟨N, 3, none⟩ = some (.slice x.sum.ao x.sum.n x.sum.cap) ∧ V.cell? ⟨N, 4, none⟩ = some (.slice x.q.ao x.q.n x.q.cap) ∧ V.cell? ⟨N, 5, none⟩ = some (.int .u64 (x.cl : Nat)) ∧ V.cell? ⟨N, 6, none⟩ = some (.int .u64 (x.st : Nat)) ∧ V.cell? ⟨N, 7, none⟩ = some (.int .u64 (x.vw : Nat)) ∧ V.cell? ⟨N, 8, none⟩ = some (.int .i64 x.e) ∧ V.cell? ⟨N, 9, none⟩ = some (.slice x.c.ao x.c.n x.c.cap) ∧ V.cell? ⟨N, 10, none⟩ = some (.bool x.more) ∧ V.cell? ⟨N, 11, none⟩ = some (.slice x.s.ao x.s.n x.s.cap) ∧ V.cell? ⟨N, 12, none⟩ = some (.slice x.t.ao x.t.n x.t.cap) ∧ V.cell? ⟨N + 1, 0, none⟩ = some (.int .i64 y.kind) ∧ V.cell? ⟨N + 1, 1, none⟩ = some (.int .u64 (y.view : Nat)) ∧ V.cell? ⟨N + 1, 2, none⟩ = some (.int .u64 (y.seq : Nat)) ∧ V.cell? ⟨N + 1, 3, none⟩ = some (.slice y.sum.ao y.sum.n y.sum.cap) ∧ V.cell? ⟨N + 1, 4, none⟩ = some (.slice y.q.ao y.q.n y.q.cap) ∧ V.cell? ⟨N + 1, 5, none⟩ = some (.int .u64 (y.cl : Nat)) ∧ V.cell? ⟨N + 1, 6, none⟩ = some (.int .u64 (y.st : Nat)) ∧ V.cell? ⟨N + 1, 7, none⟩ = some (.int .u64 (y.vw : Nat)) ∧ V.cell? ⟨N + 1, 8, none⟩ = some (.int .i64 y.e) ∧ V.cell? ⟨N + 1, 9, none⟩ = some (.slice y.c.ao y.c.n y.c.cap) ∧ V.cell? ⟨N + 1, 10, none⟩ = some (.bool y.more) ∧ V.cell? ⟨N + 1, 11, none⟩ = some (.slice y.s.ao y.s.n y.s.cap) ∧ V.cell? ⟨N + 1, 12, none⟩ = some (.slice y.t.ao y.t.n y.t.cap)) (by kernel_rfl) (tHS.out _ tE0) (fun tH0 => ?_)
          obtain ⟨tv0, hv0⟩ : ∃ v, v = w7.drew := ⟨_, rfl⟩
          rw [← hv0] at tH0 tE0 ⊢
          clear hv0
          refine hr_take_w 0 (some 37) (.slice bo m1 c1) rfl rfl (by kernel_rfl) (by kernel_rfl) (by kernel_rfl) rfl (fun W hW => by obtain ⟨h0, h1, h2, h3, h4, h5, h6, h7, h8, h9, h10, h11, h12, h13, h14, h15, h16, h17, h18, h19, h20, h21, h22, h23, h24, h25⟩ := hW; go_simp) tH0 ?_
          simp only [FL]
          refine hr_take_w 1 (some 38) (.slice co m2 c2) rfl rfl (by kernel_rfl) (by kernel_rfl) (by kernel_rfl) rfl (fun W hW => by obtain ⟨h0, h1, h2, h3, h4, h5, h6, h7, h8, h9, h10, h11, h12, h13, h14, h15, h16, h17, h18, h19, h20, h21, h22, h23, h24, h25⟩ := hW; go_simp) tH0 ?_
          simp only [FL]
          refine hr_take_w 3 (some 40) (.agg #[.int .i64 x.kind, .int .u64 (x.view : Nat), .int .u64 (x.seq : Nat), .slice x.sum.ao x.sum.n x.sum.cap, .slice x.q.ao x.q.n x.q.cap, .int .u64 (x.cl : Nat), .int .u64 (x.st : Nat), .int .u64 (x.vw : Nat), .int .i64 x.e, .slice x.c.ao x.c.n x.c.cap, .bool x.more, .slice x.s.ao x.s.n x.s.cap, .slice x.t.ao x.t.n x.t.cap]) rfl rfl (by kernel_rfl) (by kernel_rfl) (by kernel_rfl) rfl (fun W hW => by obtain ⟨h0, h1, h2, h3, h4, h5, h6, h7, h8, h9, h10, h11, h12, h13, h14, h15, h16, h17, h18, h19, h20, h21, h22, h23, h24, h25⟩ := hW; go_simp) tH0 ?_
          simp only [FL]
          refine hr_take_w 4 (some 41) (.agg #[.int .i64 y.kind, .int .u64 (y.view : Nat), .int .u64 (y.seq : Nat), .slice y.sum.ao y.sum.n y.sum.cap, .slice y.q.ao y.q.n y.q.cap, .int .u64 (y.cl : Nat), .int .u64 (y.st : Nat), .int .u64 (y.vw : Nat), .int .i64 y.e, .slice y.c.ao y.c.n y.c.cap, .bool y.more, .slice y.s.ao y.s.n y.s.cap, .slice y.t.ao y.t.n y.t.cap]) rfl rfl (by kernel_rfl) (by kernel_rfl) (by kernel_rfl) rfl (fun W hW => by obtain ⟨h0, h1, h2, h3, h4, h5, h6, h7, h8, h9, h10, h11, h12, h13, h14, h15, h16, h17, h18, h19, h20, h21, h22, h23, h24, h25⟩ := hW; go_simp) tH0 ?_
          simp only [FL]
          refine wpAnyH_effto 5 (fun zi zv zw => (zi = 2 → zv = .bool qb) ∧ (zi = 5 → zv = .bool qb)) [(2, 39), (5, 42)] 47 (by kernel_rfl) (by decide) (by decide) rfl ?_ (fun W hW => tHS.out W (tE0.trans (hW.mono tE0.size))) ?_ ?_
          · intro zi v w w' h hb
            refine ⟨fun e => ?_, fun e => ?_⟩
            · have h := h.1 e
              exact h
            · have h := h.2 e
              exact h
          · intro zp zhi o a w ho hs hb hdep
            have tEB := tE0.trans (hb.mono tE0.size)
            simp only [List.mem_cons, List.not_mem_nil, or_false] at zhi
            rcases zhi with rfl | rfl
            · obtain rfl : _ = o := Option.some.inj (show some _ = some o from ho)
              have t37 : a.tmps[37]? = some (.slice bo m1 c1) := hs.get 37 (by kernel_rfl) rfl
              have t38 : a.tmps[38]? = some (.slice co m2 c2) := hs.get 38 (by kernel_rfl) rfl
              have CO := HSM.out w tEB
              exact .inr ⟨13, #[.slice bo m1 c1, .slice co m2 c2], by go_simp, CO.mono (by
                rintro e w' ⟨rfl, D⟩
                exact ⟨_, rfl, ⟨fun _ => rfl, fun e => absurd e (by decide)⟩, D⟩)⟩
            · obtain rfl : _ = o := Option.some.inj (show some _ = some o from ho)
              have t40 : a.tmps[40]? = some (.agg #[.int .i64 x.kind, .int .u64 (x.view : Nat), .int .u64 (x.seq : Nat), .slice x.sum.ao x.sum.n x.sum.cap, .slice x.q.ao x.q.n x.q.cap, .int .u64 (x.cl : Nat), .int .u64 (x.st : Nat), .int .u64 (x.vw : Nat), .int .i64 x.e, .slice x.c.ao x.c.n x.c.cap, .bool x.more, .slice x.s.ao x.s.n x.s.cap, .slice x.t.ao x.t.n x.t.cap]) := hs.get 40 (by kernel_rfl) rfl
              have t41 : a.tmps[41]? = some (.agg #[.int .i64 y.kind, .int .u64 (y.view : Nat), .int .u64 (y.seq : Nat), .slice y.sum.ao y.sum.n y.sum.cap, .slice y.q.ao y.q.n y.q.cap, .int .u64 (y.cl : Nat), .int .u64 (y.st : Nat), .int .u64 (y.vw : Nat), .int .i64 y.e, .slice y.c.ao y.c.n y.c.cap, .bool y.more, .slice y.s.ao y.s.n y.s.cap, .slice y.t.ao y.t.n y.t.cap]) := hs.get 41 (by kernel_rfl) rfl
              have CO := HRS.out w tEB
              exact .inr ⟨10, #[.agg #[.int .i64 x.kind, .int .u64 (x.view : Nat), .int .u64 (x.seq : Nat), .slice x.sum.ao x.sum.n x.sum.cap, .slice x.q.ao x.q.n x.q.cap, .int .u64 (x.cl : Nat), .int .u64 (x.st : Nat), .int .u64 (x.vw : Nat), .int .i64 x.e, .slice x.c.ao x.c.n x.c.cap, .bool x.more, .slice x.s.ao x.s.n x.s.cap, .slice x.t.ao x.t.n x.t.cap], .agg #[.int .i64 y.kind, .int .u64 (y.view : Nat), .int .u64 (y.seq : Nat), .slice y.sum.ao y.sum.n y.sum.cap, .slice y.q.ao y.q.n y.q.cap, .int .u64 (y.cl : Nat), .int .u64 (y.st : Nat), .int .u64 (y.vw : Nat), .int .i64 y.e, .slice y.c.ao y.c.n y.c.cap, .bool y.more, .slice y.s.ao y.s.n y.s.cap, .slice y.t.ao y.t.n y.t.cap]], by go_simp, CO.mono (by
                rintro e w' ⟨rfl, D⟩
                exact ⟨_, rfl, ⟨fun e => absurd e (by decide), fun _ => rfl⟩, D⟩)⟩
          intro zf tv1 hb hh
          have tE1 := tE0.trans (hb.mono tE0.size)
          obtain e2 := (hh (2, 39) (by simp)).1 rfl
          obtain e5 := (hh (5, 42) (by simp)).2 rfl
          clear hh hb
          simp only [putL, List.foldl_cons, List.foldl_nil, e2, e5]
          clear e2 e5
          simp only [FL]
          have tH1 := tHS.out tv1 tE1
          refine hr_take_w 6 (some 43) (.bool true) rfl rfl (by kernel_rfl) (by kernel_rfl) (by kernel_rfl) rfl (fun W hW => by obtain ⟨h0, h1, h2, h3, h4, h5, h6, h7, h8, h9, h10, h11, h12, h13, h14, h15, h16, h17, h18, h19, h20, h21, h22, h23, h24, h25⟩ := hW; go_simp) tH1 ?_
          simp only [FL]
          refine hr_take_w 7 (some 44) (.bool true) rfl rfl (by kernel_rfl) (by kernel_rfl) (by kernel_rfl) rfl (fun W hW => by obtain ⟨h0, h1, h2, h3, h4, h5, h6, h7, h8, h9, h10, h11, h12, h13, h14, h15, h16, h17, h18, h19, h20, h21, h22, h23, h24, h25⟩ := hW; go_simp) tH1 ?_
          simp only [FL]
          have B := B.trans (tE1.mono B.size)
          refine hr_call_w 8 (some 45) 6 #[] rfl rfl (by kernel_rfl) rfl (by go_simp) (fun v w' => v = .bool true ∧ Below tv1.heap.size tv1 w') ((alive13 tv1).mono (by
            rintro e w' ⟨rfl, C⟩
            exact ⟨_, rfl, rfl, C⟩)) ?_
          rintro v tv2 ⟨rfl, tC1⟩
          have tE2 := tE1.trans (tC1.mono tE1.size)
          have tH2 := tHS.out tv2 tE2
          refine ⟨tH2, ?_⟩
          simp only [FL]
          refine hr_take_w 9 (some 46) (.bool true) rfl rfl (by kernel_rfl) (by kernel_rfl) (by kernel_rfl) rfl (fun W hW => by obtain ⟨h0, h1, h2, h3, h4, h5, h6, h7, h8, h9, h10, h11, h12, h13, h14, h15, h16, h17, h18, h19, h20, h21, h22, h23, h24, h25⟩ := hW; go_simp) tH2 ?_
          simp only [FL]
          refine hr_take_w 10 (some 4) (.bool true) rfl rfl (by kernel_rfl) (by kernel_rfl) (by kernel_rfl) rfl (fun W hW => by obtain ⟨h0, h1, h2, h3, h4, h5, h6, h7, h8, h9, h10, h11, h12, h13, h14, h15, h16, h17, h18, h19, h20, h21, h22, h23, h24, h25⟩ := hW; go_simp) tH2 ?_
          simp only [FL]
          refine wpAnyH_done (by kernel_rfl) ?_ _
          refine NoPanic.normal ?_
          have B := B.trans (tC1.mono B.size)
          go_wp2
          go_ret
          exact ⟨rfl, B⟩
end Go.Proofs.Ytcgphdipfekccaa

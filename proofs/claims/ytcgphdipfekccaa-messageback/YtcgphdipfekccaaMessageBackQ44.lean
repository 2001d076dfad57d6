/-
  Texts in one: BackLaw13.
-/
import Derived.Test.YtcgphdipfekccaaMessageBackQFL
import Derived.Test.YtcgphdipfekccaaMessageBackQ39
import Derived.Test.YtcgphdipfekccaaMessageBackQ40
import Derived.Test.YtcgphdipfekccaaMessageBackQ43
namespace Go.Proofs.Ytcgphdipfekccaa
open Go.RowKit
theorem vs_small {w : World} {ao : Option Addr} {n cap : Nat} {l : List SA} (h : GL elS w ao n cap l) (hn : n ≤ 16) (hf : ∀ s ∈ l, s.b.n ≤ 2000 ∧ s.tag.n ≤ 100) : (putLs putV (l.map SA.v)).length ≤ 34200 := by
  have g : ∀ k : List SA, (∀ s ∈ k, s ∈ l) → (((k.map SA.v).map putV).flatten).length ≤ 2130 * k.length := by
    intro k
    induction k with
    | nil => intro _; simp
    | cons a k ih =>
      intro hm
      have i1 := ih (fun x hx => hm x (List.mem_cons_of_mem _ hx))
      have ha := hm a (List.mem_cons_self ..)
      have ok := h.ok a ha
      have f := hf a ha
      have e1 := enc_length ok.fr
      have e2 := ok.b.len
      have e3 := ok.tag.len
      have e4 := enc_length (n := a.b.xs.length) (by omega)
      have e5 := enc_length (n := a.tag.xs.length) (by omega)
      have e6 : (putV a.v).length ≤ 2130 := by
        unfold putV SA.v byts
        simp only [List.length_append]
        omega
      simp only [List.map_cons, List.flatten_cons, List.length_append, List.length_cons]
      omega
  have g1 := g l (fun _ h => h)
  have e1 := enc_length (n := l.length) (by have := h.len; omega)
  unfold putLs
  rw [List.length_append, List.length_map]
  have := h.len
  omega
theorem put_len {x : BM} {xl : List QE} {w : World} (h : x.ok w) (hr : rightM x = true) (lb : LB x xl) : (putB x.v).length ≤ 1000000 := by
  have g := rgt hr
  have kn := g.kind
  have e0 := enc_length (n := x.kind.toNat) (by omega)
  have e1 := enc_length h.view
  have e2 := enc_length h.seq
  have s1 := h.sum.len
  have s2 := g.sum
  have e3 := enc_length (n := x.sum.xs.length) (by omega)
  have q1 : (putLs (fun q => byts (putQ q)) (x.q.l.map QM.v)).length ≤ 8030 := by
    have hq := h.q.len
    have hq1 := g.qn
    have e := enc_length (n := (x.q.l.map QM.v).length) (by rw [List.length_map]; omega)
    unfold putLs
    rw [List.length_append]
    cases hl : x.q.l with
    | nil => rw [hl] at e; simp only [List.map_nil, List.flatten_nil, List.length_nil] at e ⊢; omega
    | cons a k =>
      have hk : k = [] := by
        rw [hl, List.length_cons] at hq
        exact List.eq_nil_of_length_eq_zero (by omega)
      subst hk
      have ha : a ∈ x.q.l := by rw [hl]; exact List.mem_singleton_self a
      have l1 := req_len (h.q.ok a ha) (g.q a ha)
      have l2 := enc_length (n := (putQ a.v).length) (by omega)
      rw [hl] at e
      simp only [List.map_cons, List.map_nil, List.flatten_cons, List.flatten_nil, List.length_append, List.length_nil, byts] at e ⊢
      omega
  have r1 : (if x.kind = 5 then putPV x.v.rep else []).length ≤ 8060 := by
    by_cases c : x.kind = 5
    · rw [if_pos c]
      have l1 := (res_back (g.r5 c) h.c.ok).2
      have l2 := enc_length (n := (putR (resR x.e x.c.l x.more)).length) (by omega)
      have l3 := enc_length h.cl
      have l4 := enc_length h.st
      have l5 := enc_length h.vw
      show (enc x.cl ++ (enc x.st ++ (enc x.vw ++ byts (putR (resR x.e x.c.l x.more))))).length ≤ _
      unfold byts
      simp only [List.length_append]
      omega
    · rw [if_neg c]
      exact Nat.zero_le _
  have v1 := vs_small h.s g.sn lb.s.2
  have t1 : (putLs (putLs putV) (x.t.l.map fun s => s.l.map SA.v)).length ≤ 600000 := by
    have tl := h.t.len
    have tn := g.tn
    have k : ∀ k : List (LS SA), (∀ t ∈ k, t ∈ x.t.l) → (((k.map fun s => s.l.map SA.v).map (putLs putV)).flatten).length ≤ 34200 * k.length := by
      intro k
      induction k with
      | nil => intro _; simp
      | cons a k ih =>
        intro hm
        have i1 := ih (fun x hx => hm x (List.mem_cons_of_mem _ hx))
        have ha := hm a (List.mem_cons_self ..)
        have i2 := vs_small (h.t.ok a ha) (g.t a ha).1 (lb.t a ha).2
        simp only [List.map_cons, List.flatten_cons, List.length_append, List.length_cons]
        omega
    have k1 := k x.t.l (fun _ h => h)
    have e := enc_length (n := (x.t.l.map fun s => s.l.map SA.v).length) (by rw [List.length_map]; omega)
    unfold putLs at k1 e ⊢
    rw [List.length_append]
    omega
  unfold putB
  show (enc x.kind.toNat ++ (enc x.view ++ (enc x.seq ++ (byts x.sum.xs ++ (putLs (fun q => byts (putQ q)) (x.q.l.map QM.v) ++ ((if x.kind = 5 then putPV x.v.rep else []) ++ (putLs putV (x.s.l.map SA.v) ++ putLs (putLs putV) (x.t.l.map fun s => s.l.map SA.v)))))))).length ≤ _
  simp only [List.length_append]
  have b1 : (byts x.sum.xs).length ≤ 42 := by unfold byts; rw [List.length_append]; omega
  omega
set_option maxRecDepth 100000 in
set_option maxHeartbeats 16000000 in
theorem messageBack_any (w : World) (x : BM) (xl : List QE) (ao : Option Addr) (n cap : Nat) (xs : List Int) (hx : x.ok w) (qx : x.q.l = xl.map QE.m) (ox : ∀ q ∈ xl, OW w 3 q.x) (sx : ∀ q ∈ xl, OSm 3 q.x) (cx : ∀ c ∈ x.c.l, c.small) (S : Sl w ao n cap xs) :
    Calls Try.prog 3 #[x.val, .slice ao n cap] w fun e w' => e = .returned (.bool true) ∧ Below w.heap.size w w' := by
  have B : Below w.heap.size w (w.alloc (Obj.cells #[.int .i64 x.kind, .int .u64 (x.view : Nat), .int .u64 (x.seq : Nat), .slice x.sum.ao x.sum.n x.sum.cap, .slice x.q.ao x.q.n x.q.cap, .int .u64 (x.cl : Nat), .int .u64 (x.st : Nat), .int .u64 (x.vw : Nat), .int .i64 x.e, .slice x.c.ao x.c.n x.c.cap, .bool x.more, .slice x.s.ao x.s.n x.s.cap, .slice x.t.ao x.t.n x.t.cap] 34)) := (Below.refl _ w).alloc (Nat.le_refl _) _
  have KX : (w.alloc (Obj.cells #[.int .i64 x.kind, .int .u64 (x.view : Nat), .int .u64 (x.seq : Nat), .slice x.sum.ao x.sum.n x.sum.cap, .slice x.q.ao x.q.n x.q.cap, .int .u64 (x.cl : Nat), .int .u64 (x.st : Nat), .int .u64 (x.vw : Nat), .int .i64 x.e, .slice x.c.ao x.c.n x.c.cap, .bool x.more, .slice x.s.ao x.s.n x.s.cap, .slice x.t.ao x.t.n x.t.cap] 34)).heap[w.heap.size]? = some (.cells #[.int .i64 x.kind, .int .u64 (x.view : Nat), .int .u64 (x.seq : Nat), .slice x.sum.ao x.sum.n x.sum.cap, .slice x.q.ao x.q.n x.q.cap, .int .u64 (x.cl : Nat), .int .u64 (x.st : Nat), .int .u64 (x.vw : Nat), .int .i64 x.e, .slice x.c.ao x.c.n x.c.cap, .bool x.more, .slice x.s.ao x.s.n x.s.cap, .slice x.t.ao x.t.n x.t.cap] 34) := heap_alloc_new w _
  have hmx := S.mx
  have hle := S.le
  simp only [maxLen] at hmx
  unfold BM.val
  go_enter Try.func3, Try.ntmps3
  go_wp2_with fail
  obtain ⟨w1, hw1⟩ : ∃ W, W = (w.alloc (Obj.cells #[.int .i64 x.kind, .int .u64 (x.view : Nat), .int .u64 (x.seq : Nat), .slice x.sum.ao x.sum.n x.sum.cap, .slice x.q.ao x.q.n x.q.cap, .int .u64 (x.cl : Nat), .int .u64 (x.st : Nat), .int .u64 (x.vw : Nat), .int .i64 x.e, .slice x.c.ao x.c.n x.c.cap, .bool x.more, .slice x.s.ao x.s.n x.s.cap, .slice x.t.ao x.t.n x.t.cap] 34)) := ⟨_, rfl⟩
  rw [← hw1] at B KX ⊢
  obtain ⟨N, hN⟩ : ∃ N, N = w.heap.size := ⟨_, rfl⟩
  rw [← hN] at KX ⊢
  have hN1 : N < w1.heap.size := (Array.getElem?_eq_some_iff.1 KX).1
  clear hw1 hN
  have C : Below w1.heap.size w1 w1 := Below.refl _ _
  refine (light13 w1 x xl (hx.below B) qx (fun q hq => OW.below B (ox q hq)) sx cx).mono ?_
  rintro e w2 ⟨b, rfl, hb, D⟩
  have B := B.trans (D.mono B.size)
  have C := C.trans (D.mono C.size)
  clear D
  have p0 := cell_of_row w2 N 0 _ _ _ ((C.block N (by omega)).trans KX)
  have p1 := cell_of_row w2 N 1 _ _ _ ((C.block N (by omega)).trans KX)
  have p2 := cell_of_row w2 N 2 _ _ _ ((C.block N (by omega)).trans KX)
  have p3 := cell_of_row w2 N 3 _ _ _ ((C.block N (by omega)).trans KX)
  have p4 := cell_of_row w2 N 4 _ _ _ ((C.block N (by omega)).trans KX)
  have p5 := cell_of_row w2 N 5 _ _ _ ((C.block N (by omega)).trans KX)
  have p6 := cell_of_row w2 N 6 _ _ _ ((C.block N (by omega)).trans KX)
  have p7 := cell_of_row w2 N 7 _ _ _ ((C.block N (by omega)).trans KX)
  have p8 := cell_of_row w2 N 8 _ _ _ ((C.block N (by omega)).trans KX)
  have p9 := cell_of_row w2 N 9 _ _ _ ((C.block N (by omega)).trans KX)
  have p10 := cell_of_row w2 N 10 _ _ _ ((C.block N (by omega)).trans KX)
  have p11 := cell_of_row w2 N 11 _ _ _ ((C.block N (by omega)).trans KX)
  have p12 := cell_of_row w2 N 12 _ _ _ ((C.block N (by omega)).trans KX)
  cases b with
  | false =>
    clear hb
    have CA := alive13 w2
    go_wp2_with (go_at_call 6; refine CA.mono ?_; rintro e w9 ⟨rfl, D⟩; have B9 := B.trans (D.mono B.size))
    go_ret
    exact ⟨rfl, B9⟩
  | true =>
    have LX : Hid (LB x xl) := hb rfl
    clear hb
    by_cases c20 : 20000 < n
    · have i20 : (20000 : Int) < (n : Int) := by omega
      clear c20
      have CA := alive13 w2
      go_wp2_with (go_at_call 6; refine CA.mono ?_; rintro e w9 ⟨rfl, D⟩; have B9 := B.trans (D.mono B.size))
      go_ret
      exact ⟨rfl, B9⟩
    have i20 : ¬ (20000 : Int) < (n : Int) := by omega
    go_wp2_with fail
    refine (own_any w2 x (hx.below B) (by have := LX.out.sn; omega) (by have := LX.out.tn; omega) (fun u hu => by have := (LX.out.t u hu).1; omega)).mono ?_
    rintro e w4 ⟨so, sc, vo, vc, zs, rfl, hok, hzs, D⟩
    have B := B.trans (D.mono B.size)
    have C := C.trans (D.mono C.size)
    clear D
    clear p0 p1 p2 p3 p4 p5 p6 p7 p8 p9 p10 p11 p12
    have p0 := cell_of_row w4 N 0 _ _ _ ((C.block N (by omega)).trans KX)
    have p1 := cell_of_row w4 N 1 _ _ _ ((C.block N (by omega)).trans KX)
    have p2 := cell_of_row w4 N 2 _ _ _ ((C.block N (by omega)).trans KX)
    have p3 := cell_of_row w4 N 3 _ _ _ ((C.block N (by omega)).trans KX)
    have p4 := cell_of_row w4 N 4 _ _ _ ((C.block N (by omega)).trans KX)
    have p5 := cell_of_row w4 N 5 _ _ _ ((C.block N (by omega)).trans KX)
    have p6 := cell_of_row w4 N 6 _ _ _ ((C.block N (by omega)).trans KX)
    have p7 := cell_of_row w4 N 7 _ _ _ ((C.block N (by omega)).trans KX)
    have p8 := cell_of_row w4 N 8 _ _ _ ((C.block N (by omega)).trans KX)
    have p9 := cell_of_row w4 N 9 _ _ _ ((C.block N (by omega)).trans KX)
    have p10 := cell_of_row w4 N 10 _ _ _ ((C.block N (by omega)).trans KX)
    have p11 := cell_of_row w4 N 11 _ _ _ ((C.block N (by omega)).trans KX)
    have p12 := cell_of_row w4 N 12 _ _ _ ((C.block N (by omega)).trans KX)
    have CB := bytes_msg w4 _ hok
    have HR1 : Hid (rightM (ownB x so sc vo vc zs) = rightM x) := own_right hzs
    have HV1 : Hid ((ownB x so sc vo vc zs).v = x.v) := own_v hzs
    have HP : BytPost w4 (ownB x so sc vo vc zs) = fun e w' => ∃ bo m c, e = .returned (.tuple #[.slice bo m c, .int .i64 (if rightM x then 0 else 3)]) ∧ Sl w' bo m c (if rightM x then putB x.v else []) ∧ Below w4.heap.size w4 w' := by
      unfold BytPost
      rw [HR1.out, HV1.out]
    rw [HP] at CB
    clear HP HR1 HV1 hok hzs
    generalize ownB x so sc vo vc zs = z0 at CB
    unfold BM.val at CB ⊢
    go_wp2_with fail
    refine CB.mono ?_
    rintro e w5 ⟨bo, m1, c1, rfl, S1, D⟩
    have B := B.trans (D.mono B.size)
    have C := C.trans (D.mono C.size)
    clear D
    clear p0 p1 p2 p3 p4 p5 p6 p7 p8 p9 p10 p11 p12
    clear CB
    obtain ⟨k1, hk1⟩ : ∃ k : Int, k = (if rightM x then 0 else 3) := ⟨_, rfl⟩
    have HK1 : Hid (k1 = (if rightM x then 0 else 3)) := hk1
    rw [← hk1]
    clear hk1
    cases hr1 : rightM x with
    | false =>
      have i1 : (k1 == 0) = false := by rw [HK1.out, hr1]; rfl
      clear hr1 S1 HK1 LX hx qx ox sx cx KX C
      have CZ := read_msg w5 ao n cap xs (S.below B) (by omega)
      go_wp2_with fail
      refine CZ.mono ?_
      rintro e wa ⟨z, zok, zfl, zv, rfl, D⟩
      have B := B.trans (D.mono B.size)
      clear D CZ
      by_cases hC : doneS (bT xs 0).2.1 (bT xs 0).2.2 = 0 ∧ rightM z = true
      · rw [if_pos hC]
        obtain ⟨e1, e2⟩ := rd_all S.byte hC.1
        have rz : Hid (rightM z = true) := hC.2
        have HX : Hid (putB z.v = xs) := by show _ = _; rw [zv]; exact e1.symm
        clear hC e1 e2 zv zfl
        have D : Below wa.heap.size wa (wa.alloc (Obj.cells #[.int .i64 z.kind, .int .u64 (z.view : Nat), .int .u64 (z.seq : Nat), .slice z.sum.ao z.sum.n z.sum.cap, .slice z.q.ao z.q.n z.q.cap, .int .u64 (z.cl : Nat), .int .u64 (z.st : Nat), .int .u64 (z.vw : Nat), .int .i64 z.e, .slice z.c.ao z.c.n z.c.cap, .bool z.more, .slice z.s.ao z.s.n z.s.cap, .slice z.t.ao z.t.n z.t.cap] 42)) := (Below.refl _ _).alloc (Nat.le_refl _) _
        have KZ : (wa.alloc (Obj.cells #[.int .i64 z.kind, .int .u64 (z.view : Nat), .int .u64 (z.seq : Nat), .slice z.sum.ao z.sum.n z.sum.cap, .slice z.q.ao z.q.n z.q.cap, .int .u64 (z.cl : Nat), .int .u64 (z.st : Nat), .int .u64 (z.vw : Nat), .int .i64 z.e, .slice z.c.ao z.c.n z.c.cap, .bool z.more, .slice z.s.ao z.s.n z.s.cap, .slice z.t.ao z.t.n z.t.cap] 42)).heap[wa.heap.size]? = some (.cells #[.int .i64 z.kind, .int .u64 (z.view : Nat), .int .u64 (z.seq : Nat), .slice z.sum.ao z.sum.n z.sum.cap, .slice z.q.ao z.q.n z.q.cap, .int .u64 (z.cl : Nat), .int .u64 (z.st : Nat), .int .u64 (z.vw : Nat), .int .i64 z.e, .slice z.c.ao z.c.n z.c.cap, .bool z.more, .slice z.s.ao z.s.n z.s.cap, .slice z.t.ao z.t.n z.t.cap] 42) := heap_alloc_new wa _
        have CB := bytes_msg (wa.alloc (Obj.cells #[.int .i64 z.kind, .int .u64 (z.view : Nat), .int .u64 (z.seq : Nat), .slice z.sum.ao z.sum.n z.sum.cap, .slice z.q.ao z.q.n z.q.cap, .int .u64 (z.cl : Nat), .int .u64 (z.st : Nat), .int .u64 (z.vw : Nat), .int .i64 z.e, .slice z.c.ao z.c.n z.c.cap, .bool z.more, .slice z.s.ao z.s.n z.s.cap, .slice z.t.ao z.t.n z.t.cap] 42)) z (zok.below D)
        have HP : Hid (BytPost (wa.alloc (Obj.cells #[.int .i64 z.kind, .int .u64 (z.view : Nat), .int .u64 (z.seq : Nat), .slice z.sum.ao z.sum.n z.sum.cap, .slice z.q.ao z.q.n z.q.cap, .int .u64 (z.cl : Nat), .int .u64 (z.st : Nat), .int .u64 (z.vw : Nat), .int .i64 z.e, .slice z.c.ao z.c.n z.c.cap, .bool z.more, .slice z.s.ao z.s.n z.s.cap, .slice z.t.ao z.t.n z.t.cap] 42)) z = fun e w' => ∃ bo m c, e = .returned (.tuple #[.slice bo m c, .int .i64 0]) ∧ Sl w' bo m c xs ∧ Below (wa.alloc (Obj.cells #[.int .i64 z.kind, .int .u64 (z.view : Nat), .int .u64 (z.seq : Nat), .slice z.sum.ao z.sum.n z.sum.cap, .slice z.q.ao z.q.n z.q.cap, .int .u64 (z.cl : Nat), .int .u64 (z.st : Nat), .int .u64 (z.vw : Nat), .int .i64 z.e, .slice z.c.ao z.c.n z.c.cap, .bool z.more, .slice z.s.ao z.s.n z.s.cap, .slice z.t.ao z.t.n z.t.cap] 42)).heap.size (wa.alloc (Obj.cells #[.int .i64 z.kind, .int .u64 (z.view : Nat), .int .u64 (z.seq : Nat), .slice z.sum.ao z.sum.n z.sum.cap, .slice z.q.ao z.q.n z.q.cap, .int .u64 (z.cl : Nat), .int .u64 (z.st : Nat), .int .u64 (z.vw : Nat), .int .i64 z.e, .slice z.c.ao z.c.n z.c.cap, .bool z.more, .slice z.s.ao z.s.n z.s.cap, .slice z.t.ao z.t.n z.t.cap] 42)) w') := by
          show _ = _
          unfold BytPost
          simp only [rz.out, if_true, HX.out]
        rw [HP.out] at CB
        unfold BM.val at CB ⊢
        clear HP rz HX zok
        go_wp2_with fail
        refine CB.mono ?_
        rintro e wb ⟨co, m2, c2, rfl, S2, D2⟩
        have B := (B.trans (D.mono B.size)).trans (D2.mono (Nat.le_trans B.size D.size))
        clear CB D D2 KZ
        have hm : m2 = n := by rw [← S2.len, S.len]
        subst hm
        have CS := same_true wb co ao m2 c2 m2 cap xs S2 (S.below B)
        go_wp2_with fail
        refine CS.mono ?_
        rintro e wc ⟨rfl, D⟩
        have B := B.trans (D.mono B.size)
        clear CS D S2 S
        have CA := alive13 wc
        go_wp2_with (go_at_call 6; refine CA.mono ?_; rintro e w9 ⟨rfl, D⟩; have B9 := B.trans (D.mono B.size))
        go_ret
        exact ⟨rfl, B9⟩
      · rw [if_neg hC]
        clear hC zv zfl zok
        have D : Below wa.heap.size wa (wa.alloc (Obj.cells #[.int .i64 0, .int .u64 0, .int .u64 0, .slice none 0 0, .slice none 0 0, .int .u64 0, .int .u64 0, .int .u64 0, .int .i64 0, .slice none 0 0, .bool false, .slice none 0 0, .slice none 0 0] 42)) := (Below.refl _ _).alloc (Nat.le_refl _) _
        have CB := back_two (wa.alloc (Obj.cells #[.int .i64 0, .int .u64 0, .int .u64 0, .slice none 0 0, .slice none 0 0, .int .u64 0, .int .u64 0, .int .u64 0, .int .i64 0, .slice none 0 0, .bool false, .slice none 0 0, .slice none 0 0] 42)) zB (zB_ok _) (by decide) (by decide) (fun u hu => (by cases hu))
        unfold BM.val at CB
        go_wp2_with fail
        refine CB.mono ?_
        rintro e wb ⟨so, sc, vo, vc, zs, rfl, ⟨hok, hzs⟩, D2⟩
        have B := (B.trans (D.mono B.size)).trans (D2.mono (Nat.le_trans B.size D.size))
        have CS := zero_same hok hzs
        clear CB D D2 hok hzs
        unfold BM.val at CS
        go_wp2_with fail
        refine CS.mono ?_
        rintro e wc ⟨rfl, D⟩
        have B := B.trans (D.mono B.size)
        clear CS D
        have CA := alive13 wc
        go_wp2_with (go_at_call 6; refine CA.mono ?_; rintro e w9 ⟨rfl, D⟩; have B9 := B.trans (D.mono B.size))
        go_ret
        exact ⟨rfl, B9⟩
    | true =>
      have i1 : (k1 == 0) = true := by rw [HK1.out, hr1]; rfl
      have rx : rightM x = true := hr1
      rw [hr1, if_pos rfl] at S1
      clear hr1 HK1
      have hx5 := hx.below B
      have bx := okB_of hx5 rx S1.byte
      have hl5 := put_len hx5 rx LX.out
      have hln := S1.len
      have CR := read_msg w5 bo m1 c1 (putB x.v) S1 (by omega)
      go_wp2_with fail
      refine CR.mono ?_
      rintro e w6 ⟨y, yok, yfl, yv, rfl, D⟩
      rw [bT_put bx] at yv ⊢
      have hyx : y.v = x.v := yv
      have ry : rightM y = true := by rw [rightM_v yok yfl, hyx, ← rightM_v hx5 (rightM_flat hx5 rx)]; exact rx
      rw [if_pos ⟨rfl, ry⟩]
      have B := B.trans (D.mono B.size)
      have C := C.trans (D.mono C.size)
      clear D CR yv yfl bx hx5 hl5 hln S1
      unfold BM.val
      have D : Below w6.heap.size w6 (w6.alloc (Obj.cells #[.int .i64 y.kind, .int .u64 (y.view : Nat), .int .u64 (y.seq : Nat), .slice y.sum.ao y.sum.n y.sum.cap, .slice y.q.ao y.q.n y.q.cap, .int .u64 (y.cl : Nat), .int .u64 (y.st : Nat), .int .u64 (y.vw : Nat), .int .i64 y.e, .slice y.c.ao y.c.n y.c.cap, .bool y.more, .slice y.s.ao y.s.n y.s.cap, .slice y.t.ao y.t.n y.t.cap] 42)) := (Below.refl _ _).alloc (Nat.le_refl _) _
      have KP : (w6.alloc (Obj.cells #[.int .i64 y.kind, .int .u64 (y.view : Nat), .int .u64 (y.seq : Nat), .slice y.sum.ao y.sum.n y.sum.cap, .slice y.q.ao y.q.n y.q.cap, .int .u64 (y.cl : Nat), .int .u64 (y.st : Nat), .int .u64 (y.vw : Nat), .int .i64 y.e, .slice y.c.ao y.c.n y.c.cap, .bool y.more, .slice y.s.ao y.s.n y.s.cap, .slice y.t.ao y.t.n y.t.cap] 42)).heap[w6.heap.size]? = some (.cells #[.int .i64 y.kind, .int .u64 (y.view : Nat), .int .u64 (y.seq : Nat), .slice y.sum.ao y.sum.n y.sum.cap, .slice y.q.ao y.q.n y.q.cap, .int .u64 (y.cl : Nat), .int .u64 (y.st : Nat), .int .u64 (y.vw : Nat), .int .i64 y.e, .slice y.c.ao y.c.n y.c.cap, .bool y.more, .slice y.s.ao y.s.n y.s.cap, .slice y.t.ao y.t.n y.t.cap] 42) := heap_alloc_new w6 _
      have yok := yok.below D
      have B := B.trans (D.mono B.size)
      have C := C.trans (D.mono C.size)
      go_wp2_with fail
      obtain ⟨w7, hw7⟩ : ∃ W, W = (w6.alloc (Obj.cells #[.int .i64 y.kind, .int .u64 (y.view : Nat), .int .u64 (y.seq : Nat), .slice y.sum.ao y.sum.n y.sum.cap, .slice y.q.ao y.q.n y.q.cap, .int .u64 (y.cl : Nat), .int .u64 (y.st : Nat), .int .u64 (y.vw : Nat), .int .i64 y.e, .slice y.c.ao y.c.n y.c.cap, .bool y.more, .slice y.s.ao y.s.n y.s.cap, .slice y.t.ao y.t.n y.t.cap] 42)) := ⟨_, rfl⟩
      rw [← hw7] at B C KP yok ⊢
      obtain ⟨P, hP⟩ : ∃ P, P = w6.heap.size := ⟨_, rfl⟩
      rw [← hP] at KP ⊢
      have hP7 : P < w7.heap.size := (Array.getElem?_eq_some_iff.1 KP).1
      clear hw7 hP D
      have gy := rgt ry
      have HRT : Hid (∀ V, Below w7.heap.size w7 V → Calls Try.prog 12 #[.agg #[.int .i64 y.kind, .int .u64 (y.view : Nat), .int .u64 (y.seq : Nat), .slice y.sum.ao y.sum.n y.sum.cap, .slice y.q.ao y.q.n y.q.cap, .int .u64 (y.cl : Nat), .int .u64 (y.st : Nat), .int .u64 (y.vw : Nat), .int .i64 y.e, .slice y.c.ao y.c.n y.c.cap, .bool y.more, .slice y.s.ao y.s.n y.s.cap, .slice y.t.ao y.t.n y.t.cap]] V fun e w' => e = .returned (.int .i64 0) ∧ Below V.heap.size V w') := fun V hV => by
        have := right_any V y (yok.below hV)
        simp only [ry, if_true] at this
        exact this
      have tHS : Hid (∀ V, Below w7.heap.size w7 V → V.cell? ⟨N, 0, none⟩ = some (.int .i64 x.kind) ∧ V.cell? ⟨N, 1, none⟩ = some (.int .u64 (x.view : Nat)) ∧ V.cell? ⟨N, 2, none⟩ = some (.int .u64 (x.seq : Nat)) ∧ V.cell? ⟨N, 3, none⟩ = some (.slice x.sum.ao x.sum.n x.sum.cap) ∧ V.cell? ⟨N, 4, none⟩ = some (.slice x.q.ao x.q.n x.q.cap) ∧ V.cell? ⟨N, 5, none⟩ = some (.int .u64 (x.cl : Nat)) ∧ V.cell? ⟨N, 6, none⟩ = some (.int .u64 (x.st : Nat)) ∧ V.cell? ⟨N, 7, none⟩ = some (.int .u64 (x.vw : Nat)) ∧ V.cell? ⟨N, 8, none⟩ = some (.int .i64 x.e) ∧ V.cell? ⟨N, 9, none⟩ = some (.slice x.c.ao x.c.n x.c.cap) ∧ V.cell? ⟨N, 10, none⟩ = some (.bool x.more) ∧ V.cell? ⟨N, 11, none⟩ = some (.slice x.s.ao x.s.n x.s.cap) ∧ V.cell? ⟨N, 12, none⟩ = some (.slice x.t.ao x.t.n x.t.cap) ∧ V.cell? ⟨P, 0, none⟩ = some (.int .i64 y.kind) ∧ V.cell? ⟨P, 1, none⟩ = some (.int .u64 (y.view : Nat)) ∧ V.cell? ⟨P, 2, none⟩ = some (.int .u64 (y.seq : Nat)) ∧ V.cell? ⟨P, 3, none⟩ = some (.slice y.sum.ao y.sum.n y.sum.cap) ∧ V.cell? ⟨P, 4, none⟩ = some (.slice y.q.ao y.q.n y.q.cap) ∧ V.cell? ⟨P, 5, none⟩ = some (.int .u64 (y.cl : Nat)) ∧ V.cell? ⟨P, 6, none⟩ = some (.int .u64 (y.st : Nat)) ∧ V.cell? ⟨P, 7, none⟩ = some (.int .u64 (y.vw : Nat)) ∧ V.cell? ⟨P, 8, none⟩ = some (.int .i64 y.e) ∧ V.cell? ⟨P, 9, none⟩ = some (.slice y.c.ao y.c.n y.c.cap) ∧ V.cell? ⟨P, 10, none⟩ = some (.bool y.more) ∧ V.cell? ⟨P, 11, none⟩ = some (.slice y.s.ao y.s.n y.s.cap) ∧ V.cell? ⟨P, 12, none⟩ = some (.slice y.t.ao y.t.n y.t.cap)) := fun V hV => by have K1 := ((C.trans (hV.mono C.size)).block N (by omega)).trans KX; have K2 := (hV.block P (by omega)).trans KP; exact ⟨cell_of_row V N 0 _ _ _ K1, cell_of_row V N 1 _ _ _ K1, cell_of_row V N 2 _ _ _ K1, cell_of_row V N 3 _ _ _ K1, cell_of_row V N 4 _ _ _ K1, cell_of_row V N 5 _ _ _ K1, cell_of_row V N 6 _ _ _ K1, cell_of_row V N 7 _ _ _ K1, cell_of_row V N 8 _ _ _ K1, cell_of_row V N 9 _ _ _ K1, cell_of_row V N 10 _ _ _ K1, cell_of_row V N 11 _ _ _ K1, cell_of_row V N 12 _ _ _ K1, cell_of_row V P 0 _ _ _ K2, cell_of_row V P 1 _ _ _ K2, cell_of_row V P 2 _ _ _ K2, cell_of_row V P 3 _ _ _ K2, cell_of_row V P 4 _ _ _ K2, cell_of_row V P 5 _ _ _ K2, cell_of_row V P 6 _ _ _ K2, cell_of_row V P 7 _ _ _ K2, cell_of_row V P 8 _ _ _ K2, cell_of_row V P 9 _ _ _ K2, cell_of_row V P 10 _ _ _ K2, cell_of_row V P 11 _ _ _ K2, cell_of_row V P 12 _ _ _ K2⟩
      have tE0 : Below w7.heap.size w7 w7.drew := (Below.refl _ _).drew
      refine wp_region_noPanic ?_
      refine wp_region_held_drew (S := fun V => V.cell? ⟨N, 0, none⟩ = some (.int .i64 x.kind) ∧ V.cell? ⟨N, 1, none⟩ = some (.int .u64 (x.view : Nat)) ∧ V.cell? ⟨N, 2, none⟩ = some (.int .u64 (x.seq : Nat)) ∧ V.cell? ⟨N, 3, none⟩ = some (.slice x.sum.ao x.sum.n x.sum.cap) ∧ V.cell? ⟨N, 4, none⟩ = some (.slice x.q.ao x.q.n x.q.cap) ∧ V.cell? ⟨N, 5, none⟩ = some (.int .u64 (x.cl : Nat)) ∧ V.cell? ⟨N, 6, none⟩ = some (.int .u64 (x.st : Nat)) ∧ V.cell? ⟨N, 7, none⟩ = some (.int .u64 (x.vw : Nat)) ∧ V.cell? ⟨N, 8, none⟩ = some (.int .i64 x.e) ∧ V.cell? ⟨N, 9, none⟩ = some (.slice x.c.ao x.c.n x.c.cap) ∧ V.cell? ⟨N, 10, none⟩ = some (.bool x.more) ∧ V.cell? ⟨N, 11, none⟩ = some (.slice x.s.ao x.s.n x.s.cap) ∧ V.cell? ⟨N, 12, none⟩ = some (.slice x.t.ao x.t.n x.t.cap) ∧ V.cell? ⟨P, 0, none⟩ = some (.int .i64 y.kind) ∧ V.cell? ⟨P, 1, none⟩ = some (.int .u64 (y.view : Nat)) ∧ V.cell? ⟨P, 2, none⟩ = some (.int .u64 (y.seq : Nat)) ∧ V.cell? ⟨P, 3, none⟩ = some (.slice y.sum.ao y.sum.n y.sum.cap) ∧ V.cell? ⟨P, 4, none⟩ = some (.slice y.q.ao y.q.n y.q.cap) ∧ V.cell? ⟨P, 5, none⟩ = some (.int .u64 (y.cl : Nat)) ∧ V.cell? ⟨P, 6, none⟩ = some (.int .u64 (y.st : Nat)) ∧ V.cell? ⟨P, 7, none⟩ = some (.int .u64 (y.vw : Nat)) ∧ V.cell? ⟨P, 8, none⟩ = some (.int .i64 y.e) ∧ V.cell? ⟨P, 9, none⟩ = some (.slice y.c.ao y.c.n y.c.cap) ∧ V.cell? ⟨P, 10, none⟩ = some (.bool y.more) ∧ V.cell? ⟨P, 11, none⟩ = some (.slice y.s.ao y.s.n y.s.cap) ∧ V.cell? ⟨P, 12, none⟩ = some (.slice y.t.ao y.t.n y.t.cap)) (by kernel_rfl) (tHS.out _ tE0) (fun tH0 => ?_)
      obtain ⟨tv0, hv0⟩ : ∃ v, v = w7.drew := ⟨_, rfl⟩
      rw [← hv0] at tH0 tE0 ⊢
      clear hv0
      refine hr_take_w 0 (some 35) (.int .i64 0) rfl rfl (by kernel_rfl) (by kernel_rfl) (by kernel_rfl) rfl (fun W hW => by obtain ⟨h0, h1, h2, h3, h4, h5, h6, h7, h8, h9, h10, h11, h12, h13, h14, h15, h16, h17, h18, h19, h20, h21, h22, h23, h24, h25⟩ := hW; go_simp) tH0 ?_
      simp only [FL]
      refine hr_take_w 1 (some 36) (.bool false) rfl rfl (by kernel_rfl) (by kernel_rfl) (by kernel_rfl) rfl (fun W hW => by obtain ⟨h0, h1, h2, h3, h4, h5, h6, h7, h8, h9, h10, h11, h12, h13, h14, h15, h16, h17, h18, h19, h20, h21, h22, h23, h24, h25⟩ := hW; go_simp) tH0 ?_
      simp only [FL]
      refine hr_take_w 2 (some 37) (.bool false) rfl rfl (by kernel_rfl) (by kernel_rfl) (by kernel_rfl) rfl (fun W hW => by obtain ⟨h0, h1, h2, h3, h4, h5, h6, h7, h8, h9, h10, h11, h12, h13, h14, h15, h16, h17, h18, h19, h20, h21, h22, h23, h24, h25⟩ := hW; go_simp) tH0 ?_
      simp only [FL]
      refine hr_take_w 3 (some 38) (.agg #[.int .i64 y.kind, .int .u64 (y.view : Nat), .int .u64 (y.seq : Nat), .slice y.sum.ao y.sum.n y.sum.cap, .slice y.q.ao y.q.n y.q.cap, .int .u64 (y.cl : Nat), .int .u64 (y.st : Nat), .int .u64 (y.vw : Nat), .int .i64 y.e, .slice y.c.ao y.c.n y.c.cap, .bool y.more, .slice y.s.ao y.s.n y.s.cap, .slice y.t.ao y.t.n y.t.cap]) rfl rfl (by kernel_rfl) (by kernel_rfl) (by kernel_rfl) rfl (fun W hW => by obtain ⟨h0, h1, h2, h3, h4, h5, h6, h7, h8, h9, h10, h11, h12, h13, h14, h15, h16, h17, h18, h19, h20, h21, h22, h23, h24, h25⟩ := hW; go_simp) tH0 ?_
      simp only [FL]
      refine hr_take_w 5 (some 40) (.agg #[.int .i64 x.kind, .int .u64 (x.view : Nat), .int .u64 (x.seq : Nat), .slice x.sum.ao x.sum.n x.sum.cap, .slice x.q.ao x.q.n x.q.cap, .int .u64 (x.cl : Nat), .int .u64 (x.st : Nat), .int .u64 (x.vw : Nat), .int .i64 x.e, .slice x.c.ao x.c.n x.c.cap, .bool x.more, .slice x.s.ao x.s.n x.s.cap, .slice x.t.ao x.t.n x.t.cap]) rfl rfl (by kernel_rfl) (by kernel_rfl) (by kernel_rfl) rfl (fun W hW => by obtain ⟨h0, h1, h2, h3, h4, h5, h6, h7, h8, h9, h10, h11, h12, h13, h14, h15, h16, h17, h18, h19, h20, h21, h22, h23, h24, h25⟩ := hW; go_simp) tH0 ?_
      simp only [FL]
      refine hr_call_w 4 (some 39) 11 #[.agg #[.int .i64 y.kind, .int .u64 (y.view : Nat), .int .u64 (y.seq : Nat), .slice y.sum.ao y.sum.n y.sum.cap, .slice y.q.ao y.q.n y.q.cap, .int .u64 (y.cl : Nat), .int .u64 (y.st : Nat), .int .u64 (y.vw : Nat), .int .i64 y.e, .slice y.c.ao y.c.n y.c.cap, .bool y.more, .slice y.s.ao y.s.n y.s.cap, .slice y.t.ao y.t.n y.t.cap]] rfl rfl (by kernel_rfl) rfl (by go_simp) (fun v w' => ∃ so sc vo vc zs, v = .agg #[.int .i64 y.kind, .int .u64 (y.view : Nat), .int .u64 (y.seq : Nat), .slice y.sum.ao y.sum.n y.sum.cap, .slice y.q.ao y.q.n y.q.cap, .int .u64 (y.cl : Nat), .int .u64 (y.st : Nat), .int .u64 (y.vw : Nat), .int .i64 y.e, .slice y.c.ao y.c.n y.c.cap, .bool y.more, .slice so y.s.n sc, .slice vo y.t.n vc] ∧ ((ownB y so sc vo vc zs).ok w' ∧ zs.map lsV = y.t.l.map lsV) ∧ Below tv0.heap.size tv0 w') ((back_two tv0 y (yok.below tE0) (by have := gy.sn; omega) (by have := gy.tn; omega) (fun u hu => by have := (gy.t u hu).1; omega)).mono (by
        rintro e w' ⟨so, sc, vo, vc, zs, rfl, F, C⟩
        exact ⟨_, rfl, so, sc, vo, vc, zs, rfl, F, C⟩)) ?_
      rintro v tv1 ⟨so, sc, vo, vc, zs, rfl, tF0, tC0⟩
      have tE1 := tE0.trans (tC0.mono tE0.size)
      have tH1 := tHS.out tv1 tE1
      refine ⟨tH1, ?_⟩
      simp only [FL]
      refine hr_call_w 6 (some 41) 10 #[.agg #[.int .i64 y.kind, .int .u64 (y.view : Nat), .int .u64 (y.seq : Nat), .slice y.sum.ao y.sum.n y.sum.cap, .slice y.q.ao y.q.n y.q.cap, .int .u64 (y.cl : Nat), .int .u64 (y.st : Nat), .int .u64 (y.vw : Nat), .int .i64 y.e, .slice y.c.ao y.c.n y.c.cap, .bool y.more, .slice so y.s.n sc, .slice vo y.t.n vc], .agg #[.int .i64 x.kind, .int .u64 (x.view : Nat), .int .u64 (x.seq : Nat), .slice x.sum.ao x.sum.n x.sum.cap, .slice x.q.ao x.q.n x.q.cap, .int .u64 (x.cl : Nat), .int .u64 (x.st : Nat), .int .u64 (x.vw : Nat), .int .i64 x.e, .slice x.c.ao x.c.n x.c.cap, .bool x.more, .slice x.s.ao x.s.n x.s.cap, .slice x.t.ao x.t.n x.t.cap]] rfl rfl (by kernel_rfl) rfl (by go_simp) (fun v w' => v = .bool true ∧ Below tv1.heap.size tv1 w') ((back_same hyx rx ry (yok.below tE1) tF0.1 tF0.2 (hx.below (B.trans (tE1.mono B.size))) qx (fun q hq => OW.below (B.trans (tE1.mono B.size)) (ox q hq)) LX.out.q).mono (by
        rintro e w' ⟨rfl, C⟩
        exact ⟨_, rfl, rfl, C⟩)) ?_
      rintro v tv2 ⟨rfl, tC1⟩
      have tE2 := tE1.trans (tC1.mono tE1.size)
      have tH2 := tHS.out tv2 tE2
      refine ⟨tH2, ?_⟩
      simp only [FL]
      refine hr_take_w 7 (some 42) (.bool false) rfl rfl (by kernel_rfl) (by kernel_rfl) (by kernel_rfl) rfl (fun W hW => by obtain ⟨h0, h1, h2, h3, h4, h5, h6, h7, h8, h9, h10, h11, h12, h13, h14, h15, h16, h17, h18, h19, h20, h21, h22, h23, h24, h25⟩ := hW; go_simp) tH2 ?_
      simp only [FL]
      refine hr_take_w 8 (some 43) (.bool false) rfl rfl (by kernel_rfl) (by kernel_rfl) (by kernel_rfl) rfl (fun W hW => by obtain ⟨h0, h1, h2, h3, h4, h5, h6, h7, h8, h9, h10, h11, h12, h13, h14, h15, h16, h17, h18, h19, h20, h21, h22, h23, h24, h25⟩ := hW; go_simp) tH2 ?_
      simp only [FL]
      refine hr_take_w 9 (some 44) (.bool false) rfl rfl (by kernel_rfl) (by kernel_rfl) (by kernel_rfl) rfl (fun W hW => by obtain ⟨h0, h1, h2, h3, h4, h5, h6, h7, h8, h9, h10, h11, h12, h13, h14, h15, h16, h17, h18, h19, h20, h21, h22, h23, h24, h25⟩ := hW; go_simp) tH2 ?_
      simp only [FL]
      refine hr_take_w 10 (some 45) (.agg #[.int .i64 y.kind, .int .u64 (y.view : Nat), .int .u64 (y.seq : Nat), .slice y.sum.ao y.sum.n y.sum.cap, .slice y.q.ao y.q.n y.q.cap, .int .u64 (y.cl : Nat), .int .u64 (y.st : Nat), .int .u64 (y.vw : Nat), .int .i64 y.e, .slice y.c.ao y.c.n y.c.cap, .bool y.more, .slice y.s.ao y.s.n y.s.cap, .slice y.t.ao y.t.n y.t.cap]) rfl rfl (by kernel_rfl) (by kernel_rfl) (by kernel_rfl) rfl (fun W hW => by obtain ⟨h0, h1, h2, h3, h4, h5, h6, h7, h8, h9, h10, h11, h12, h13, h14, h15, h16, h17, h18, h19, h20, h21, h22, h23, h24, h25⟩ := hW; go_simp) tH2 ?_
      simp only [FL]
      refine hr_call_w 11 (some 46) 12 #[.agg #[.int .i64 y.kind, .int .u64 (y.view : Nat), .int .u64 (y.seq : Nat), .slice y.sum.ao y.sum.n y.sum.cap, .slice y.q.ao y.q.n y.q.cap, .int .u64 (y.cl : Nat), .int .u64 (y.st : Nat), .int .u64 (y.vw : Nat), .int .i64 y.e, .slice y.c.ao y.c.n y.c.cap, .bool y.more, .slice y.s.ao y.s.n y.s.cap, .slice y.t.ao y.t.n y.t.cap]] rfl rfl (by kernel_rfl) rfl (by go_simp) (fun v w' => v = .int .i64 0 ∧ Below tv2.heap.size tv2 w') ((HRT.out tv2 tE2).mono (by
        rintro e w' ⟨rfl, C⟩
        exact ⟨_, rfl, rfl, C⟩)) ?_
      rintro v tv3 ⟨rfl, tC2⟩
      have tE3 := tE2.trans (tC2.mono tE2.size)
      have tH3 := tHS.out tv3 tE3
      refine ⟨tH3, ?_⟩
      simp only [FL]
      refine hr_take_w 12 (some 47) (.bool false) rfl rfl (by kernel_rfl) (by kernel_rfl) (by kernel_rfl) rfl (fun W hW => by obtain ⟨h0, h1, h2, h3, h4, h5, h6, h7, h8, h9, h10, h11, h12, h13, h14, h15, h16, h17, h18, h19, h20, h21, h22, h23, h24, h25⟩ := hW; go_simp) tH3 ?_
      simp only [FL]
      refine hr_take_w 13 (some 48) (.bool false) rfl rfl (by kernel_rfl) (by kernel_rfl) (by kernel_rfl) rfl (fun W hW => by obtain ⟨h0, h1, h2, h3, h4, h5, h6, h7, h8, h9, h10, h11, h12, h13, h14, h15, h16, h17, h18, h19, h20, h21, h22, h23, h24, h25⟩ := hW; go_simp) tH3 ?_
      simp only [FL]
      refine wpAnyH_done (by kernel_rfl) ?_ _
      refine NoPanic.normal ?_
      have B := B.trans (tE3.mono B.size)
      clear KX KP C hx qx ox sx cx LX HRT gy yok hyx rx ry tHS tF0 tC0 tC1 tC2 tE0 tE1 tE2 tH0 tH1 tH2 tH3
      have CZ := read_msg tv3 ao n cap xs (S.below B) (by omega)
      go_wp2_with fail
      refine CZ.mono ?_
      rintro e wa ⟨z, zok, zfl, zv, rfl, D⟩
      have B := B.trans (D.mono B.size)
      clear D CZ
      by_cases hC : doneS (bT xs 0).2.1 (bT xs 0).2.2 = 0 ∧ rightM z = true
      · rw [if_pos hC]
        obtain ⟨e1, e2⟩ := rd_all S.byte hC.1
        have rz : Hid (rightM z = true) := hC.2
        have HX : Hid (putB z.v = xs) := by show _ = _; rw [zv]; exact e1.symm
        clear hC e1 e2 zv zfl
        have D : Below wa.heap.size wa (wa.alloc (Obj.cells #[.int .i64 z.kind, .int .u64 (z.view : Nat), .int .u64 (z.seq : Nat), .slice z.sum.ao z.sum.n z.sum.cap, .slice z.q.ao z.q.n z.q.cap, .int .u64 (z.cl : Nat), .int .u64 (z.st : Nat), .int .u64 (z.vw : Nat), .int .i64 z.e, .slice z.c.ao z.c.n z.c.cap, .bool z.more, .slice z.s.ao z.s.n z.s.cap, .slice z.t.ao z.t.n z.t.cap] 42)) := (Below.refl _ _).alloc (Nat.le_refl _) _
        have KZ : (wa.alloc (Obj.cells #[.int .i64 z.kind, .int .u64 (z.view : Nat), .int .u64 (z.seq : Nat), .slice z.sum.ao z.sum.n z.sum.cap, .slice z.q.ao z.q.n z.q.cap, .int .u64 (z.cl : Nat), .int .u64 (z.st : Nat), .int .u64 (z.vw : Nat), .int .i64 z.e, .slice z.c.ao z.c.n z.c.cap, .bool z.more, .slice z.s.ao z.s.n z.s.cap, .slice z.t.ao z.t.n z.t.cap] 42)).heap[wa.heap.size]? = some (.cells #[.int .i64 z.kind, .int .u64 (z.view : Nat), .int .u64 (z.seq : Nat), .slice z.sum.ao z.sum.n z.sum.cap, .slice z.q.ao z.q.n z.q.cap, .int .u64 (z.cl : Nat), .int .u64 (z.st : Nat), .int .u64 (z.vw : Nat), .int .i64 z.e, .slice z.c.ao z.c.n z.c.cap, .bool z.more, .slice z.s.ao z.s.n z.s.cap, .slice z.t.ao z.t.n z.t.cap] 42) := heap_alloc_new wa _
        have CB := bytes_msg (wa.alloc (Obj.cells #[.int .i64 z.kind, .int .u64 (z.view : Nat), .int .u64 (z.seq : Nat), .slice z.sum.ao z.sum.n z.sum.cap, .slice z.q.ao z.q.n z.q.cap, .int .u64 (z.cl : Nat), .int .u64 (z.st : Nat), .int .u64 (z.vw : Nat), .int .i64 z.e, .slice z.c.ao z.c.n z.c.cap, .bool z.more, .slice z.s.ao z.s.n z.s.cap, .slice z.t.ao z.t.n z.t.cap] 42)) z (zok.below D)
        have HP : Hid (BytPost (wa.alloc (Obj.cells #[.int .i64 z.kind, .int .u64 (z.view : Nat), .int .u64 (z.seq : Nat), .slice z.sum.ao z.sum.n z.sum.cap, .slice z.q.ao z.q.n z.q.cap, .int .u64 (z.cl : Nat), .int .u64 (z.st : Nat), .int .u64 (z.vw : Nat), .int .i64 z.e, .slice z.c.ao z.c.n z.c.cap, .bool z.more, .slice z.s.ao z.s.n z.s.cap, .slice z.t.ao z.t.n z.t.cap] 42)) z = fun e w' => ∃ bo m c, e = .returned (.tuple #[.slice bo m c, .int .i64 0]) ∧ Sl w' bo m c xs ∧ Below (wa.alloc (Obj.cells #[.int .i64 z.kind, .int .u64 (z.view : Nat), .int .u64 (z.seq : Nat), .slice z.sum.ao z.sum.n z.sum.cap, .slice z.q.ao z.q.n z.q.cap, .int .u64 (z.cl : Nat), .int .u64 (z.st : Nat), .int .u64 (z.vw : Nat), .int .i64 z.e, .slice z.c.ao z.c.n z.c.cap, .bool z.more, .slice z.s.ao z.s.n z.s.cap, .slice z.t.ao z.t.n z.t.cap] 42)).heap.size (wa.alloc (Obj.cells #[.int .i64 z.kind, .int .u64 (z.view : Nat), .int .u64 (z.seq : Nat), .slice z.sum.ao z.sum.n z.sum.cap, .slice z.q.ao z.q.n z.q.cap, .int .u64 (z.cl : Nat), .int .u64 (z.st : Nat), .int .u64 (z.vw : Nat), .int .i64 z.e, .slice z.c.ao z.c.n z.c.cap, .bool z.more, .slice z.s.ao z.s.n z.s.cap, .slice z.t.ao z.t.n z.t.cap] 42)) w') := by
          show _ = _
          unfold BytPost
          simp only [rz.out, if_true, HX.out]
        rw [HP.out] at CB
        unfold BM.val at CB ⊢
        clear HP rz HX zok
        go_wp2_with fail
        refine CB.mono ?_
        rintro e wb ⟨co, m2, c2, rfl, S2, D2⟩
        have B := (B.trans (D.mono B.size)).trans (D2.mono (Nat.le_trans B.size D.size))
        clear CB D D2 KZ
        have hm : m2 = n := by rw [← S2.len, S.len]
        subst hm
        have CS := same_true wb co ao m2 c2 m2 cap xs S2 (S.below B)
        go_wp2_with fail
        refine CS.mono ?_
        rintro e wc ⟨rfl, D⟩
        have B := B.trans (D.mono B.size)
        clear CS D S2 S
        have CA := alive13 wc
        go_wp2_with (go_at_call 6; refine CA.mono ?_; rintro e w9 ⟨rfl, D⟩; have B9 := B.trans (D.mono B.size))
        go_ret
        exact ⟨rfl, B9⟩
      · rw [if_neg hC]
        clear hC zv zfl zok
        have D : Below wa.heap.size wa (wa.alloc (Obj.cells #[.int .i64 0, .int .u64 0, .int .u64 0, .slice none 0 0, .slice none 0 0, .int .u64 0, .int .u64 0, .int .u64 0, .int .i64 0, .slice none 0 0, .bool false, .slice none 0 0, .slice none 0 0] 42)) := (Below.refl _ _).alloc (Nat.le_refl _) _
        have CB := back_two (wa.alloc (Obj.cells #[.int .i64 0, .int .u64 0, .int .u64 0, .slice none 0 0, .slice none 0 0, .int .u64 0, .int .u64 0, .int .u64 0, .int .i64 0, .slice none 0 0, .bool false, .slice none 0 0, .slice none 0 0] 42)) zB (zB_ok _) (by decide) (by decide) (fun u hu => (by cases hu))
        unfold BM.val at CB
        go_wp2_with fail
        refine CB.mono ?_
        rintro e wb ⟨so, sc, vo, vc, zs, rfl, ⟨hok, hzs⟩, D2⟩
        have B := (B.trans (D.mono B.size)).trans (D2.mono (Nat.le_trans B.size D.size))
        have CS := zero_same hok hzs
        clear CB D D2 hok hzs
        unfold BM.val at CS
        go_wp2_with fail
        refine CS.mono ?_
        rintro e wc ⟨rfl, D⟩
        have B := B.trans (D.mono B.size)
        clear CS D
        have CA := alive13 wc
        go_wp2_with (go_at_call 6; refine CA.mono ?_; rintro e w9 ⟨rfl, D⟩; have B9 := B.trans (D.mono B.size))
        go_ret
        exact ⟨rfl, B9⟩
end Go.Proofs.Ytcgphdipfekccaa

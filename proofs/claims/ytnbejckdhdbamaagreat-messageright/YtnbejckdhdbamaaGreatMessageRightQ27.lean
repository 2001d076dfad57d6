/-
  Texts in one: RgRight.
-/
import Derived.Test.YtnbejckdhdbamaaGreatMessageRightQFL
import Derived.Test.YtnbejckdhdbamaaGreatMessageRightQ20
import Derived.Test.YtnbejckdhdbamaaGreatMessageRightQ21
import Derived.Test.YtnbejckdhdbamaaGreatMessageRightQ25
import Derived.Test.YtnbejckdhdbamaaGreatMessageRightQ26
import Derived.Deep.DeepCutAuto
import Derived.Deep.CutBlock
namespace Go.Proofs.YtnbejckdhdbamaaGreat
open Go.RowKit
theorem rwrites13 (w : World) (o : OA) : Calls Tryz.prog 23 #[o.val] w fun e w' => e = .returned (.bool (wrs o.kind)) ∧ Below w.heap.size w w' := by
 have B : Below w.heap.size w (w.alloc (Obj.cells #[.int .i64 o.kind, .string o.row, .string o.fam, .string o.qual, .int .u64 o.time, .string o.to, .slice o.va.ao o.va.n o.va.cap, .slice o.wa.ao o.wa.n o.wa.cap, .bool o.has, .slice o.so o.sn o.sc] 58)) := (Below.refl _ w).alloc (Nat.le_refl _) _
 unfold OA.val
 by_cases c1 : 1 ≤ o.kind
 ·have k1 : (1 : Int) ≤ o.kind := c1
  have d1 : decide ((1 : Int) ≤ o.kind) = true := decide_eq_true k1
  by_cases c2 : o.kind ≤ 6
  ·have k2 : o.kind ≤ (6 : Int) := c2
   have d2 : decide (o.kind ≤ (6 : Int)) = true := decide_eq_true k2
   have hv : Hid (wrs o.kind = true) := decide_eq_true ⟨c1, c2⟩
   go_enter Tryz.func23, Tryz.ntmps23
   go_wp2
   go_ret
   exact ⟨by rw [hv.out] <;> rfl, B⟩
  ·have k2 : ¬ o.kind ≤ (6 : Int) := c2
   have d2 : decide (o.kind ≤ (6 : Int)) = false := decide_eq_false k2
   have hv : Hid (wrs o.kind = false) := decide_eq_false (fun g => c2 g.2)
   go_enter Tryz.func23, Tryz.ntmps23
   go_wp2
   go_ret
   exact ⟨by rw [hv.out] <;> rfl, B⟩
 ·have k1 : ¬ (1 : Int) ≤ o.kind := c1
  have d1 : decide ((1 : Int) ≤ o.kind) = false := decide_eq_false k1
  have hv : Hid (wrs o.kind = false) := decide_eq_false (fun g => c1 g.1)
  go_enter Tryz.func23, Tryz.ntmps23
  go_wp2
  go_ret
  exact ⟨by rw [hv.out] <;> rfl, B⟩
set_option maxRecDepth 100000 in
set_option maxHeartbeats 16000000 in
theorem rright13_any (w : World) (x : BM) (xs : List QE) (hx : x.ok w) (qx : x.q.l = xs.map QE.m) (ox : ∀ q ∈ xs, OW w 3 q.x) (lx : ∀ q ∈ xs, lightD 3 q.x = true) :
  Calls Tryz.prog 9 #[x.val] w fun e w' => e = .returned (.int .i64 (if rightM x then 0 else 3)) ∧ Below w.heap.size w w' := by
 have B : Below w.heap.size w (w.alloc (Obj.cells #[.int .i64 x.kind, .int .u64 (x.view : Nat), .int .u64 (x.seq : Nat), .slice x.sum.ao x.sum.n x.sum.cap, .slice x.q.ao x.q.n x.q.cap, .int .u64 (x.cl : Nat), .int .u64 (x.st : Nat), .int .u64 (x.vw : Nat), .int .i64 x.e, .slice x.c.ao x.c.n x.c.cap, .bool x.more, .slice x.s.ao x.s.n x.s.cap, .slice x.t.ao x.t.n x.t.cap] 34)) := (Below.refl _ w).alloc (Nat.le_refl _) _
 have KX : (w.alloc (Obj.cells #[.int .i64 x.kind, .int .u64 (x.view : Nat), .int .u64 (x.seq : Nat), .slice x.sum.ao x.sum.n x.sum.cap, .slice x.q.ao x.q.n x.q.cap, .int .u64 (x.cl : Nat), .int .u64 (x.st : Nat), .int .u64 (x.vw : Nat), .int .i64 x.e, .slice x.c.ao x.c.n x.c.cap, .bool x.more, .slice x.s.ao x.s.n x.s.cap, .slice x.t.ao x.t.n x.t.cap] 34)).heap[w.heap.size]? = some (.cells #[.int .i64 x.kind, .int .u64 (x.view : Nat), .int .u64 (x.seq : Nat), .slice x.sum.ao x.sum.n x.sum.cap, .slice x.q.ao x.q.n x.q.cap, .int .u64 (x.cl : Nat), .int .u64 (x.st : Nat), .int .u64 (x.vw : Nat), .int .i64 x.e, .slice x.c.ao x.c.n x.c.cap, .bool x.more, .slice x.s.ao x.s.n x.s.cap, .slice x.t.ao x.t.n x.t.cap] 34) := heap_alloc_new w _
 have nq : xs.length = x.q.n := by rw [← hx.q.len, qx, List.length_map]
 have tl := hx.t.len
 have m1 := hx.q.mx
 have m2 := hx.q.le
 have m3 := hx.t.mx
 have m4 := hx.t.le
 simp only [maxLen] at m1 m3
 have GX : GL elQ w x.q.ao x.q.n x.q.cap (xs.map QE.m) := by rw [← qx]; exact hx.q
 have HRF : Hid (refR x = rightM x) := ref_right hx
 have HSO : Hid (sameB x (onlyB x) xs (onlyQ x xs) = noElse x) := same_only hx qx
 unfold BM.val
 go_enter Tryz.func9, Tryz.ntmps9
 go_upto_region 1 with fail
 obtain ⟨w1, hw1⟩ : ∃ W, W = (w.alloc (Obj.cells #[.int .i64 x.kind, .int .u64 (x.view : Nat), .int .u64 (x.seq : Nat), .slice x.sum.ao x.sum.n x.sum.cap, .slice x.q.ao x.q.n x.q.cap, .int .u64 (x.cl : Nat), .int .u64 (x.st : Nat), .int .u64 (x.vw : Nat), .int .i64 x.e, .slice x.c.ao x.c.n x.c.cap, .bool x.more, .slice x.s.ao x.s.n x.s.cap, .slice x.t.ao x.t.n x.t.cap] 34)) := ⟨_, rfl⟩
 rw [← hw1] at B KX ⊢
 obtain ⟨N, hN⟩ : ∃ N, N = w.heap.size := ⟨_, rfl⟩
 rw [← hN] at KX ⊢
 have hN1 : N < w1.heap.size := (Array.getElem?_eq_some_iff.1 KX).1
 clear hw1 hN
 go_cut [3] (fun s wx => s = .bool (r1 x) ∧ Below w.heap.size w wx ∧ Below w1.heap.size w1 wx)
 case first =>
  as_aux_lemma =>
   have HON : Hid (∀ V, Calls Tryz.prog 20 #[.agg #[.int .i64 x.kind, .int .u64 (x.view : Nat), .int .u64 (x.seq : Nat), .slice x.sum.ao x.sum.n x.sum.cap, .slice x.q.ao x.q.n x.q.cap, .int .u64 (x.cl : Nat), .int .u64 (x.st : Nat), .int .u64 (x.vw : Nat), .int .i64 x.e, .slice x.c.ao x.c.n x.c.cap, .bool x.more, .slice x.s.ao x.s.n x.s.cap, .slice x.t.ao x.t.n x.t.cap]] V fun e w' => e = .returned (onlyB x).val ∧ Below V.heap.size V w') := fun V => only13_any V x
   have HSM0 : Hid (∀ V, Below w1.heap.size w1 V → Calls Tryz.prog 11 #[.agg #[.int .i64 x.kind, .int .u64 (x.view : Nat), .int .u64 (x.seq : Nat), .slice x.sum.ao x.sum.n x.sum.cap, .slice x.q.ao x.q.n x.q.cap, .int .u64 (x.cl : Nat), .int .u64 (x.st : Nat), .int .u64 (x.vw : Nat), .int .i64 x.e, .slice x.c.ao x.c.n x.c.cap, .bool x.more, .slice x.s.ao x.s.n x.s.cap, .slice x.t.ao x.t.n x.t.cap], (onlyB x).val] V fun e w' => e = .returned (.bool (noElse x)) ∧ Below V.heap.size V w') := fun V hV => by
    have B9 := B.trans (hV.mono B.size)
    have h9 := hx.below B9
    have := rsame13 V x (onlyB x) xs (onlyQ x xs) h9 (onlyB_ok h9) qx (onlyQ_map qx) (fun q hq => OW.below B9 (ox q hq)) (fun q hq => OW.below B9 (ox q (onlyQ_mem hq))) lx (fun q hq => lx q (onlyQ_mem hq))
    rw [HSO.out] at this
    exact this
   have HR1 : Hid (r1 x = (noElse x && decide (1 ≤ x.kind ∧ x.kind ≤ 14 ∧ x.view ≤ 4611686018427387903 ∧ x.seq ≤ 4611686018427387903 ∧ x.t.n ≤ 16))) := rfl
   generalize onlyB x = z at HON HSM0
   unfold BM.val at HON HSM0
   clear GX HRF HSO qx ox lx
   cases hne : noElse x with
   | false =>
    have HSM : Hid (∀ V, Below w1.heap.size w1 V → Calls Tryz.prog 11 #[.agg #[.int .i64 x.kind, .int .u64 (x.view : Nat), .int .u64 (x.seq : Nat), .slice x.sum.ao x.sum.n x.sum.cap, .slice x.q.ao x.q.n x.q.cap, .int .u64 (x.cl : Nat), .int .u64 (x.st : Nat), .int .u64 (x.vw : Nat), .int .i64 x.e, .slice x.c.ao x.c.n x.c.cap, .bool x.more, .slice x.s.ao x.s.n x.s.cap, .slice x.t.ao x.t.n x.t.cap], .agg #[.int .i64 z.kind, .int .u64 (z.view : Nat), .int .u64 (z.seq : Nat), .slice z.sum.ao z.sum.n z.sum.cap, .slice z.q.ao z.q.n z.q.cap, .int .u64 (z.cl : Nat), .int .u64 (z.st : Nat), .int .u64 (z.vw : Nat), .int .i64 z.e, .slice z.c.ao z.c.n z.c.cap, .bool z.more, .slice z.s.ao z.s.n z.s.cap, .slice z.t.ao z.t.n z.t.cap]] V fun e w' => e = .returned (.bool false) ∧ Below V.heap.size V w') := fun V hV => by have := HSM0.out V hV; rw [hne] at this; exact this
    have hv : Hid (r1 x = false) := by
     show _ = _
     rw [HR1.out, hne]
     rfl
    have tHS : Hid (∀ V, Below w1.heap.size w1 V → V.cell? ⟨N, 0, none⟩ = some (.int .i64 x.kind) ∧ V.cell? ⟨N, 1, none⟩ = some (.int .u64 (x.view : Nat)) ∧ V.cell? ⟨N, 2, none⟩ = some (.int .u64 (x.seq : Nat)) ∧ V.cell? ⟨N, 3, none⟩ = some (.slice x.sum.ao x.sum.n x.sum.cap) ∧ V.cell? ⟨N, 4, none⟩ = some (.slice x.q.ao x.q.n x.q.cap) ∧ V.cell? ⟨N, 5, none⟩ = some (.int .u64 (x.cl : Nat)) ∧ V.cell? ⟨N, 6, none⟩ = some (.int .u64 (x.st : Nat)) ∧ V.cell? ⟨N, 7, none⟩ = some (.int .u64 (x.vw : Nat)) ∧ V.cell? ⟨N, 8, none⟩ = some (.int .i64 x.e) ∧ V.cell? ⟨N, 9, none⟩ = some (.slice x.c.ao x.c.n x.c.cap) ∧ V.cell? ⟨N, 10, none⟩ = some (.bool x.more) ∧ V.cell? ⟨N, 11, none⟩ = some (.slice x.s.ao x.s.n x.s.cap) ∧ V.cell? ⟨N, 12, none⟩ = some (.slice x.t.ao x.t.n x.t.cap)) := fun V hV => by have K := (hV.block N hN1).trans KX; exact ⟨cell_of_row V N 0 _ _ _ K, cell_of_row V N 1 _ _ _ K, cell_of_row V N 2 _ _ _ K, cell_of_row V N 3 _ _ _ K, cell_of_row V N 4 _ _ _ K, cell_of_row V N 5 _ _ _ K, cell_of_row V N 6 _ _ _ K, cell_of_row V N 7 _ _ _ K, cell_of_row V N 8 _ _ _ K, cell_of_row V N 9 _ _ _ K, cell_of_row V N 10 _ _ _ K, cell_of_row V N 11 _ _ _ K, cell_of_row V N 12 _ _ _ K⟩
    refine zB (by kernel_rfl) tHS.out fun tv0 tE0 tH0 => ?_
    refine zT 0 (some 9) (.agg #[.int .i64 x.kind, .int .u64 (x.view : Nat), .int .u64 (x.seq : Nat), .slice x.sum.ao x.sum.n x.sum.cap, .slice x.q.ao x.q.n x.q.cap, .int .u64 (x.cl : Nat), .int .u64 (x.st : Nat), .int .u64 (x.vw : Nat), .int .i64 x.e, .slice x.c.ao x.c.n x.c.cap, .bool x.more, .slice x.s.ao x.s.n x.s.cap, .slice x.t.ao x.t.n x.t.cap]) rfl rfl (by kernel_rfl) rfl (fun W ⟨h0, h1, h2, h3, h4, h5, h6, h7, h8, h9, h10, h11, h12⟩ => by go_simp) tH0 ?_
    simp only [FL]
    refine zT 1 (some 10) (.agg #[.int .i64 x.kind, .int .u64 (x.view : Nat), .int .u64 (x.seq : Nat), .slice x.sum.ao x.sum.n x.sum.cap, .slice x.q.ao x.q.n x.q.cap, .int .u64 (x.cl : Nat), .int .u64 (x.st : Nat), .int .u64 (x.vw : Nat), .int .i64 x.e, .slice x.c.ao x.c.n x.c.cap, .bool x.more, .slice x.s.ao x.s.n x.s.cap, .slice x.t.ao x.t.n x.t.cap]) rfl rfl (by kernel_rfl) rfl (fun W ⟨h0, h1, h2, h3, h4, h5, h6, h7, h8, h9, h10, h11, h12⟩ => by go_simp) tH0 ?_
    simp only [FL]
    refine hr_call_w 2 (some 11) 20 #[.agg #[.int .i64 x.kind, .int .u64 (x.view : Nat), .int .u64 (x.seq : Nat), .slice x.sum.ao x.sum.n x.sum.cap, .slice x.q.ao x.q.n x.q.cap, .int .u64 (x.cl : Nat), .int .u64 (x.st : Nat), .int .u64 (x.vw : Nat), .int .i64 x.e, .slice x.c.ao x.c.n x.c.cap, .bool x.more, .slice x.s.ao x.s.n x.s.cap, .slice x.t.ao x.t.n x.t.cap]] rfl rfl (by kernel_rfl) rfl (by go_simp) (fun v w' => v = .agg #[.int .i64 z.kind, .int .u64 (z.view : Nat), .int .u64 (z.seq : Nat), .slice z.sum.ao z.sum.n z.sum.cap, .slice z.q.ao z.q.n z.q.cap, .int .u64 (z.cl : Nat), .int .u64 (z.st : Nat), .int .u64 (z.vw : Nat), .int .i64 z.e, .slice z.c.ao z.c.n z.c.cap, .bool z.more, .slice z.s.ao z.s.n z.s.cap, .slice z.t.ao z.t.n z.t.cap] ∧ Below tv0.heap.size tv0 w') ((HON.out tv0).mono (by
     rintro e w' ⟨rfl, C⟩
     exact ⟨_, rfl, rfl, C⟩)) ?_
    rintro v tv1 ⟨rfl, tC0⟩
    have tE1 := tE0.trans (tC0.mono tE0.size)
    have tH1 := tHS.out tv1 tE1
    refine ⟨tH1, ?_⟩
    simp only [FL]
    refine hr_call_w 3 (some 12) 11 #[.agg #[.int .i64 x.kind, .int .u64 (x.view : Nat), .int .u64 (x.seq : Nat), .slice x.sum.ao x.sum.n x.sum.cap, .slice x.q.ao x.q.n x.q.cap, .int .u64 (x.cl : Nat), .int .u64 (x.st : Nat), .int .u64 (x.vw : Nat), .int .i64 x.e, .slice x.c.ao x.c.n x.c.cap, .bool x.more, .slice x.s.ao x.s.n x.s.cap, .slice x.t.ao x.t.n x.t.cap], .agg #[.int .i64 z.kind, .int .u64 (z.view : Nat), .int .u64 (z.seq : Nat), .slice z.sum.ao z.sum.n z.sum.cap, .slice z.q.ao z.q.n z.q.cap, .int .u64 (z.cl : Nat), .int .u64 (z.st : Nat), .int .u64 (z.vw : Nat), .int .i64 z.e, .slice z.c.ao z.c.n z.c.cap, .bool z.more, .slice z.s.ao z.s.n z.s.cap, .slice z.t.ao z.t.n z.t.cap]] rfl rfl (by kernel_rfl) rfl (by go_simp) (fun v w' => v = .bool false ∧ Below tv1.heap.size tv1 w') ((HSM.out tv1 tE1).mono (by
     rintro e w' ⟨rfl, C⟩
     exact ⟨_, rfl, rfl, C⟩)) ?_
    rintro v tv2 ⟨rfl, tC1⟩
    have tE2 := tE1.trans (tC1.mono tE1.size)
    have tH2 := tHS.out tv2 tE2
    refine ⟨tH2, ?_⟩
    simp only [FL]
    refine zT 4 (some 13) (.bool false) rfl rfl (by kernel_rfl) rfl (fun W ⟨h0, h1, h2, h3, h4, h5, h6, h7, h8, h9, h10, h11, h12⟩ => by go_simp) tH2 ?_
    simp only [FL]
    refine zN 5 (some 14) rfl rfl (by kernel_rfl) rfl tH2 ?_
    simp only [FL]
    refine zN 6 (some 15) rfl rfl (by kernel_rfl) rfl tH2 ?_
    simp only [FL]
    refine zN 7 (some 16) rfl rfl (by kernel_rfl) rfl tH2 ?_
    simp only [FL]
    refine zT 8 (some 17) (.bool false) rfl rfl (by kernel_rfl) rfl (fun W ⟨h0, h1, h2, h3, h4, h5, h6, h7, h8, h9, h10, h11, h12⟩ => by go_simp) tH2 ?_
    simp only [FL]
    refine zT 9 (some 18) (.bool false) rfl rfl (by kernel_rfl) rfl (fun W ⟨h0, h1, h2, h3, h4, h5, h6, h7, h8, h9, h10, h11, h12⟩ => by go_simp) tH2 ?_
    simp only [FL]
    refine zN 10 (some 19) rfl rfl (by kernel_rfl) rfl tH2 ?_
    simp only [FL]
    refine zN 11 (some 20) rfl rfl (by kernel_rfl) rfl tH2 ?_
    simp only [FL]
    refine zN 12 (some 21) rfl rfl (by kernel_rfl) rfl tH2 ?_
    simp only [FL]
    refine zT 13 (some 22) (.bool false) rfl rfl (by kernel_rfl) rfl (fun W ⟨h0, h1, h2, h3, h4, h5, h6, h7, h8, h9, h10, h11, h12⟩ => by go_simp) tH2 ?_
    simp only [FL]
    refine zT 14 (some 23) (.bool false) rfl rfl (by kernel_rfl) rfl (fun W ⟨h0, h1, h2, h3, h4, h5, h6, h7, h8, h9, h10, h11, h12⟩ => by go_simp) tH2 ?_
    simp only [FL]
    refine zN 15 (some 24) rfl rfl (by kernel_rfl) rfl tH2 ?_
    simp only [FL]
    refine zN 16 (some 25) rfl rfl (by kernel_rfl) rfl tH2 ?_
    simp only [FL]
    refine zN 17 (some 26) rfl rfl (by kernel_rfl) rfl tH2 ?_
    simp only [FL]
    refine zT 18 (some 27) (.bool false) rfl rfl (by kernel_rfl) rfl (fun W ⟨h0, h1, h2, h3, h4, h5, h6, h7, h8, h9, h10, h11, h12⟩ => by go_simp) tH2 ?_
    simp only [FL]
    refine zT 19 (some 28) (.bool false) rfl rfl (by kernel_rfl) rfl (fun W ⟨h0, h1, h2, h3, h4, h5, h6, h7, h8, h9, h10, h11, h12⟩ => by go_simp) tH2 ?_
    simp only [FL]
    refine zN 20 (some 29) rfl rfl (by kernel_rfl) rfl tH2 ?_
    simp only [FL]
    refine zN 21 (some 30) rfl rfl (by kernel_rfl) rfl tH2 ?_
    simp only [FL]
    refine zN 22 (some 31) rfl rfl (by kernel_rfl) rfl tH2 ?_
    simp only [FL]
    refine zT 23 (some 32) (.bool false) rfl rfl (by kernel_rfl) rfl (fun W ⟨h0, h1, h2, h3, h4, h5, h6, h7, h8, h9, h10, h11, h12⟩ => by go_simp) tH2 ?_
    simp only [FL]
    refine zT 24 (some 33) (.bool false) rfl rfl (by kernel_rfl) rfl (fun W ⟨h0, h1, h2, h3, h4, h5, h6, h7, h8, h9, h10, h11, h12⟩ => by go_simp) tH2 ?_
    simp only [FL]
    refine zN 25 (some 34) rfl rfl (by kernel_rfl) rfl tH2 ?_
    simp only [FL]
    refine zN 26 (some 35) rfl rfl (by kernel_rfl) rfl tH2 ?_
    simp only [FL]
    refine zN 27 (some 36) rfl rfl (by kernel_rfl) rfl tH2 ?_
    simp only [FL]
    refine zN 28 (some 37) rfl rfl (by kernel_rfl) rfl tH2 ?_
    simp only [FL]
    refine zT 29 (some 38) (.bool false) rfl rfl (by kernel_rfl) rfl (fun W ⟨h0, h1, h2, h3, h4, h5, h6, h7, h8, h9, h10, h11, h12⟩ => by go_simp) tH2 ?_
    simp only [FL]
    refine zT 30 (some 3) (.bool false) rfl rfl (by kernel_rfl) rfl (fun W ⟨h0, h1, h2, h3, h4, h5, h6, h7, h8, h9, h10, h11, h12⟩ => by go_simp) tH2 ?_
    simp only [FL]
    refine wpAnyH_done (by kernel_rfl) ?_ _
    refine NoPanic.normal ?_
    go_wp2_with fail
    go_meet
    exact ⟨by rw [hv.out], B.trans (tE2.mono B.size), tE2⟩
   | true =>
    have HSM : Hid (∀ V, Below w1.heap.size w1 V → Calls Tryz.prog 11 #[.agg #[.int .i64 x.kind, .int .u64 (x.view : Nat), .int .u64 (x.seq : Nat), .slice x.sum.ao x.sum.n x.sum.cap, .slice x.q.ao x.q.n x.q.cap, .int .u64 (x.cl : Nat), .int .u64 (x.st : Nat), .int .u64 (x.vw : Nat), .int .i64 x.e, .slice x.c.ao x.c.n x.c.cap, .bool x.more, .slice x.s.ao x.s.n x.s.cap, .slice x.t.ao x.t.n x.t.cap], .agg #[.int .i64 z.kind, .int .u64 (z.view : Nat), .int .u64 (z.seq : Nat), .slice z.sum.ao z.sum.n z.sum.cap, .slice z.q.ao z.q.n z.q.cap, .int .u64 (z.cl : Nat), .int .u64 (z.st : Nat), .int .u64 (z.vw : Nat), .int .i64 z.e, .slice z.c.ao z.c.n z.c.cap, .bool z.more, .slice z.s.ao z.s.n z.s.cap, .slice z.t.ao z.t.n z.t.cap]] V fun e w' => e = .returned (.bool true) ∧ Below V.heap.size V w') := fun V hV => by have := HSM0.out V hV; rw [hne] at this; exact this
    have tHS : Hid (∀ V, Below w1.heap.size w1 V → V.cell? ⟨N, 0, none⟩ = some (.int .i64 x.kind) ∧ V.cell? ⟨N, 1, none⟩ = some (.int .u64 (x.view : Nat)) ∧ V.cell? ⟨N, 2, none⟩ = some (.int .u64 (x.seq : Nat)) ∧ V.cell? ⟨N, 3, none⟩ = some (.slice x.sum.ao x.sum.n x.sum.cap) ∧ V.cell? ⟨N, 4, none⟩ = some (.slice x.q.ao x.q.n x.q.cap) ∧ V.cell? ⟨N, 5, none⟩ = some (.int .u64 (x.cl : Nat)) ∧ V.cell? ⟨N, 6, none⟩ = some (.int .u64 (x.st : Nat)) ∧ V.cell? ⟨N, 7, none⟩ = some (.int .u64 (x.vw : Nat)) ∧ V.cell? ⟨N, 8, none⟩ = some (.int .i64 x.e) ∧ V.cell? ⟨N, 9, none⟩ = some (.slice x.c.ao x.c.n x.c.cap) ∧ V.cell? ⟨N, 10, none⟩ = some (.bool x.more) ∧ V.cell? ⟨N, 11, none⟩ = some (.slice x.s.ao x.s.n x.s.cap) ∧ V.cell? ⟨N, 12, none⟩ = some (.slice x.t.ao x.t.n x.t.cap)) := fun V hV => by have K := (hV.block N hN1).trans KX; exact ⟨cell_of_row V N 0 _ _ _ K, cell_of_row V N 1 _ _ _ K, cell_of_row V N 2 _ _ _ K, cell_of_row V N 3 _ _ _ K, cell_of_row V N 4 _ _ _ K, cell_of_row V N 5 _ _ _ K, cell_of_row V N 6 _ _ _ K, cell_of_row V N 7 _ _ _ K, cell_of_row V N 8 _ _ _ K, cell_of_row V N 9 _ _ _ K, cell_of_row V N 10 _ _ _ K, cell_of_row V N 11 _ _ _ K, cell_of_row V N 12 _ _ _ K⟩
    refine zB (by kernel_rfl) tHS.out fun tv0 tE0 tH0 => ?_
    refine zT 0 (some 9) (.agg #[.int .i64 x.kind, .int .u64 (x.view : Nat), .int .u64 (x.seq : Nat), .slice x.sum.ao x.sum.n x.sum.cap, .slice x.q.ao x.q.n x.q.cap, .int .u64 (x.cl : Nat), .int .u64 (x.st : Nat), .int .u64 (x.vw : Nat), .int .i64 x.e, .slice x.c.ao x.c.n x.c.cap, .bool x.more, .slice x.s.ao x.s.n x.s.cap, .slice x.t.ao x.t.n x.t.cap]) rfl rfl (by kernel_rfl) rfl (fun W ⟨h0, h1, h2, h3, h4, h5, h6, h7, h8, h9, h10, h11, h12⟩ => by go_simp) tH0 ?_
    simp only [FL]
    refine zT 1 (some 10) (.agg #[.int .i64 x.kind, .int .u64 (x.view : Nat), .int .u64 (x.seq : Nat), .slice x.sum.ao x.sum.n x.sum.cap, .slice x.q.ao x.q.n x.q.cap, .int .u64 (x.cl : Nat), .int .u64 (x.st : Nat), .int .u64 (x.vw : Nat), .int .i64 x.e, .slice x.c.ao x.c.n x.c.cap, .bool x.more, .slice x.s.ao x.s.n x.s.cap, .slice x.t.ao x.t.n x.t.cap]) rfl rfl (by kernel_rfl) rfl (fun W ⟨h0, h1, h2, h3, h4, h5, h6, h7, h8, h9, h10, h11, h12⟩ => by go_simp) tH0 ?_
    simp only [FL]
    refine hr_call_w 2 (some 11) 20 #[.agg #[.int .i64 x.kind, .int .u64 (x.view : Nat), .int .u64 (x.seq : Nat), .slice x.sum.ao x.sum.n x.sum.cap, .slice x.q.ao x.q.n x.q.cap, .int .u64 (x.cl : Nat), .int .u64 (x.st : Nat), .int .u64 (x.vw : Nat), .int .i64 x.e, .slice x.c.ao x.c.n x.c.cap, .bool x.more, .slice x.s.ao x.s.n x.s.cap, .slice x.t.ao x.t.n x.t.cap]] rfl rfl (by kernel_rfl) rfl (by go_simp) (fun v w' => v = .agg #[.int .i64 z.kind, .int .u64 (z.view : Nat), .int .u64 (z.seq : Nat), .slice z.sum.ao z.sum.n z.sum.cap, .slice z.q.ao z.q.n z.q.cap, .int .u64 (z.cl : Nat), .int .u64 (z.st : Nat), .int .u64 (z.vw : Nat), .int .i64 z.e, .slice z.c.ao z.c.n z.c.cap, .bool z.more, .slice z.s.ao z.s.n z.s.cap, .slice z.t.ao z.t.n z.t.cap] ∧ Below tv0.heap.size tv0 w') ((HON.out tv0).mono (by
     rintro e w' ⟨rfl, C⟩
     exact ⟨_, rfl, rfl, C⟩)) ?_
    rintro v tv1 ⟨rfl, tC0⟩
    have tE1 := tE0.trans (tC0.mono tE0.size)
    have tH1 := tHS.out tv1 tE1
    refine ⟨tH1, ?_⟩
    simp only [FL]
    refine hr_call_w 3 (some 12) 11 #[.agg #[.int .i64 x.kind, .int .u64 (x.view : Nat), .int .u64 (x.seq : Nat), .slice x.sum.ao x.sum.n x.sum.cap, .slice x.q.ao x.q.n x.q.cap, .int .u64 (x.cl : Nat), .int .u64 (x.st : Nat), .int .u64 (x.vw : Nat), .int .i64 x.e, .slice x.c.ao x.c.n x.c.cap, .bool x.more, .slice x.s.ao x.s.n x.s.cap, .slice x.t.ao x.t.n x.t.cap], .agg #[.int .i64 z.kind, .int .u64 (z.view : Nat), .int .u64 (z.seq : Nat), .slice z.sum.ao z.sum.n z.sum.cap, .slice z.q.ao z.q.n z.q.cap, .int .u64 (z.cl : Nat), .int .u64 (z.st : Nat), .int .u64 (z.vw : Nat), .int .i64 z.e, .slice z.c.ao z.c.n z.c.cap, .bool z.more, .slice z.s.ao z.s.n z.s.cap, .slice z.t.ao z.t.n z.t.cap]] rfl rfl (by kernel_rfl) rfl (by go_simp) (fun v w' => v = .bool true ∧ Below tv1.heap.size tv1 w') ((HSM.out tv1 tE1).mono (by
     rintro e w' ⟨rfl, C⟩
     exact ⟨_, rfl, rfl, C⟩)) ?_
    rintro v tv2 ⟨rfl, tC1⟩
    have tE2 := tE1.trans (tC1.mono tE1.size)
    have tH2 := tHS.out tv2 tE2
    refine ⟨tH2, ?_⟩
    simp only [FL]
    refine zT 4 (some 13) (.bool true) rfl rfl (by kernel_rfl) rfl (fun W ⟨h0, h1, h2, h3, h4, h5, h6, h7, h8, h9, h10, h11, h12⟩ => by go_simp) tH2 ?_
    simp only [FL]
    refine zT 5 (some 14) (.pointer (some ⟨N, 0, none⟩)) rfl rfl (by kernel_rfl) rfl (fun W ⟨h0, h1, h2, h3, h4, h5, h6, h7, h8, h9, h10, h11, h12⟩ => by go_simp) tH2 ?_
    simp only [FL]
    refine zT 6 (some 15) (.int .i64 x.kind) rfl rfl (by kernel_rfl) rfl (fun W ⟨h0, h1, h2, h3, h4, h5, h6, h7, h8, h9, h10, h11, h12⟩ => by go_simp) tH2 ?_
    simp only [FL]
    by_cases c0 : 1 ≤ x.kind
    ·have k0 : (1 : Int) ≤ x.kind := by omega
     have d0 : decide ((1 : Int) ≤ x.kind) = true := decide_eq_true k0
     refine zT 7 (some 16) (.bool true) rfl rfl (by kernel_rfl) rfl (fun W ⟨h0, h1, h2, h3, h4, h5, h6, h7, h8, h9, h10, h11, h12⟩ => by (first | (go_simp; done) | (go_simp; first | exact k0 | omega))) tH2 ?_
     simp only [FL]
     refine zT 8 (some 17) (.bool true) rfl rfl (by kernel_rfl) rfl (fun W ⟨h0, h1, h2, h3, h4, h5, h6, h7, h8, h9, h10, h11, h12⟩ => by go_simp) tH2 ?_
     simp only [FL]
     refine zT 9 (some 18) (.bool true) rfl rfl (by kernel_rfl) rfl (fun W ⟨h0, h1, h2, h3, h4, h5, h6, h7, h8, h9, h10, h11, h12⟩ => by go_simp) tH2 ?_
     simp only [FL]
     refine zT 10 (some 19) (.pointer (some ⟨N, 0, none⟩)) rfl rfl (by kernel_rfl) rfl (fun W ⟨h0, h1, h2, h3, h4, h5, h6, h7, h8, h9, h10, h11, h12⟩ => by go_simp) tH2 ?_
     simp only [FL]
     refine zT 11 (some 20) (.int .i64 x.kind) rfl rfl (by kernel_rfl) rfl (fun W ⟨h0, h1, h2, h3, h4, h5, h6, h7, h8, h9, h10, h11, h12⟩ => by go_simp) tH2 ?_
     simp only [FL]
     by_cases c1 : x.kind ≤ 14
     ·have k1 : x.kind ≤ (14 : Int) := by omega
      have d1 : decide (x.kind ≤ (14 : Int)) = true := decide_eq_true k1
      refine zT 12 (some 21) (.bool true) rfl rfl (by kernel_rfl) rfl (fun W ⟨h0, h1, h2, h3, h4, h5, h6, h7, h8, h9, h10, h11, h12⟩ => by (first | (go_simp; done) | (go_simp; first | exact k1 | omega))) tH2 ?_
      simp only [FL]
      refine zT 13 (some 22) (.bool true) rfl rfl (by kernel_rfl) rfl (fun W ⟨h0, h1, h2, h3, h4, h5, h6, h7, h8, h9, h10, h11, h12⟩ => by go_simp) tH2 ?_
      simp only [FL]
      refine zT 14 (some 23) (.bool true) rfl rfl (by kernel_rfl) rfl (fun W ⟨h0, h1, h2, h3, h4, h5, h6, h7, h8, h9, h10, h11, h12⟩ => by go_simp) tH2 ?_
      simp only [FL]
      refine zT 15 (some 24) (.pointer (some ⟨N, 1, none⟩)) rfl rfl (by kernel_rfl) rfl (fun W ⟨h0, h1, h2, h3, h4, h5, h6, h7, h8, h9, h10, h11, h12⟩ => by go_simp) tH2 ?_
      simp only [FL]
      refine zT 16 (some 25) (.int .u64 (x.view : Nat)) rfl rfl (by kernel_rfl) rfl (fun W ⟨h0, h1, h2, h3, h4, h5, h6, h7, h8, h9, h10, h11, h12⟩ => by go_simp) tH2 ?_
      simp only [FL]
      by_cases c2 : x.view ≤ 4611686018427387903
      ·have k2 : (x.view : Int) ≤ 4611686018427387903 := by omega
       have d2 : decide ((x.view : Int) ≤ 4611686018427387903) = true := decide_eq_true k2
       refine zT 17 (some 26) (.bool true) rfl rfl (by kernel_rfl) rfl (fun W ⟨h0, h1, h2, h3, h4, h5, h6, h7, h8, h9, h10, h11, h12⟩ => by (first | (go_simp; done) | (go_simp; first | exact k2 | omega))) tH2 ?_
       simp only [FL]
       refine zT 18 (some 27) (.bool true) rfl rfl (by kernel_rfl) rfl (fun W ⟨h0, h1, h2, h3, h4, h5, h6, h7, h8, h9, h10, h11, h12⟩ => by go_simp) tH2 ?_
       simp only [FL]
       refine zT 19 (some 28) (.bool true) rfl rfl (by kernel_rfl) rfl (fun W ⟨h0, h1, h2, h3, h4, h5, h6, h7, h8, h9, h10, h11, h12⟩ => by go_simp) tH2 ?_
       simp only [FL]
       refine zT 20 (some 29) (.pointer (some ⟨N, 2, none⟩)) rfl rfl (by kernel_rfl) rfl (fun W ⟨h0, h1, h2, h3, h4, h5, h6, h7, h8, h9, h10, h11, h12⟩ => by go_simp) tH2 ?_
       simp only [FL]
       refine zT 21 (some 30) (.int .u64 (x.seq : Nat)) rfl rfl (by kernel_rfl) rfl (fun W ⟨h0, h1, h2, h3, h4, h5, h6, h7, h8, h9, h10, h11, h12⟩ => by go_simp) tH2 ?_
       simp only [FL]
       by_cases c3 : x.seq ≤ 4611686018427387903
       ·have k3 : (x.seq : Int) ≤ 4611686018427387903 := by omega
        have d3 : decide ((x.seq : Int) ≤ 4611686018427387903) = true := decide_eq_true k3
        refine zT 22 (some 31) (.bool true) rfl rfl (by kernel_rfl) rfl (fun W ⟨h0, h1, h2, h3, h4, h5, h6, h7, h8, h9, h10, h11, h12⟩ => by (first | (go_simp; done) | (go_simp; first | exact k3 | omega))) tH2 ?_
        simp only [FL]
        refine zT 23 (some 32) (.bool true) rfl rfl (by kernel_rfl) rfl (fun W ⟨h0, h1, h2, h3, h4, h5, h6, h7, h8, h9, h10, h11, h12⟩ => by go_simp) tH2 ?_
        simp only [FL]
        refine zT 24 (some 33) (.bool true) rfl rfl (by kernel_rfl) rfl (fun W ⟨h0, h1, h2, h3, h4, h5, h6, h7, h8, h9, h10, h11, h12⟩ => by go_simp) tH2 ?_
        simp only [FL]
        refine zT 25 (some 34) (.pointer (some ⟨N, 12, none⟩)) rfl rfl (by kernel_rfl) rfl (fun W ⟨h0, h1, h2, h3, h4, h5, h6, h7, h8, h9, h10, h11, h12⟩ => by go_simp) tH2 ?_
        simp only [FL]
        refine zT 26 (some 35) (.slice x.t.ao x.t.n x.t.cap) rfl rfl (by kernel_rfl) rfl (fun W ⟨h0, h1, h2, h3, h4, h5, h6, h7, h8, h9, h10, h11, h12⟩ => by go_simp) tH2 ?_
        simp only [FL]
        refine zT 27 (some 36) (.int .i64 x.t.n) rfl rfl (by kernel_rfl) rfl (fun W ⟨h0, h1, h2, h3, h4, h5, h6, h7, h8, h9, h10, h11, h12⟩ => by go_simp) tH2 ?_
        simp only [FL]
        by_cases c4 : x.t.n ≤ 16
        ·have k4 : (x.t.n : Int) ≤ 16 := by omega
         have d4 : decide ((x.t.n : Int) ≤ 16) = true := decide_eq_true k4
         refine zT 28 (some 37) (.bool true) rfl rfl (by kernel_rfl) rfl (fun W ⟨h0, h1, h2, h3, h4, h5, h6, h7, h8, h9, h10, h11, h12⟩ => by (first | (go_simp; done) | (go_simp; first | exact k4 | omega))) tH2 ?_
         simp only [FL]
         refine zT 29 (some 38) (.bool true) rfl rfl (by kernel_rfl) rfl (fun W ⟨h0, h1, h2, h3, h4, h5, h6, h7, h8, h9, h10, h11, h12⟩ => by go_simp) tH2 ?_
         simp only [FL]
         refine zT 30 (some 3) (.bool true) rfl rfl (by kernel_rfl) rfl (fun W ⟨h0, h1, h2, h3, h4, h5, h6, h7, h8, h9, h10, h11, h12⟩ => by go_simp) tH2 ?_
         simp only [FL]
         have hv : Hid (r1 x = true) := by
          show _ = _
          rw [HR1.out, hne, decide_eq_true ⟨c0, c1, c2, c3, c4⟩]
          rfl
         refine wpAnyH_done (by kernel_rfl) ?_ _
         refine NoPanic.normal ?_
         go_wp2_with fail
         go_meet
         exact ⟨by rw [hv.out], B.trans (tE2.mono B.size), tE2⟩
        ·have k4 : ¬ ((x.t.n : Int) ≤ 16) := by omega
         have d4 : decide ((x.t.n : Int) ≤ 16) = false := decide_eq_false k4
         have hv : Hid (r1 x = false) := by
          show _ = _
          rw [HR1.out, hne, decide_eq_false (fun h => c4 h.2.2.2.2)]
          rfl
         refine zT 28 (some 37) (.bool false) rfl rfl (by kernel_rfl) rfl (fun W ⟨h0, h1, h2, h3, h4, h5, h6, h7, h8, h9, h10, h11, h12⟩ => by (first | (go_simp; done) | (go_simp; first | exact k4 | omega))) tH2 ?_
         simp only [FL]
         refine zT 29 (some 38) (.bool false) rfl rfl (by kernel_rfl) rfl (fun W ⟨h0, h1, h2, h3, h4, h5, h6, h7, h8, h9, h10, h11, h12⟩ => by go_simp) tH2 ?_
         simp only [FL]
         refine zT 30 (some 3) (.bool false) rfl rfl (by kernel_rfl) rfl (fun W ⟨h0, h1, h2, h3, h4, h5, h6, h7, h8, h9, h10, h11, h12⟩ => by go_simp) tH2 ?_
         simp only [FL]
         refine wpAnyH_done (by kernel_rfl) ?_ _
         refine NoPanic.normal ?_
         go_wp2_with fail
         go_meet
         exact ⟨by rw [hv.out], B.trans (tE2.mono B.size), tE2⟩
       ·have k3 : ¬ ((x.seq : Int) ≤ 4611686018427387903) := by omega
        have d3 : decide ((x.seq : Int) ≤ 4611686018427387903) = false := decide_eq_false k3
        have hv : Hid (r1 x = false) := by
         show _ = _
         rw [HR1.out, hne, decide_eq_false (fun h => c3 h.2.2.2.1)]
         rfl
        refine zT 22 (some 31) (.bool false) rfl rfl (by kernel_rfl) rfl (fun W ⟨h0, h1, h2, h3, h4, h5, h6, h7, h8, h9, h10, h11, h12⟩ => by (first | (go_simp; done) | (go_simp; first | exact k3 | omega))) tH2 ?_
        simp only [FL]
        refine zT 23 (some 32) (.bool false) rfl rfl (by kernel_rfl) rfl (fun W ⟨h0, h1, h2, h3, h4, h5, h6, h7, h8, h9, h10, h11, h12⟩ => by go_simp) tH2 ?_
        simp only [FL]
        refine zT 24 (some 33) (.bool false) rfl rfl (by kernel_rfl) rfl (fun W ⟨h0, h1, h2, h3, h4, h5, h6, h7, h8, h9, h10, h11, h12⟩ => by go_simp) tH2 ?_
        simp only [FL]
        refine zN 25 (some 34) rfl rfl (by kernel_rfl) rfl tH2 ?_
        simp only [FL]
        refine zN 26 (some 35) rfl rfl (by kernel_rfl) rfl tH2 ?_
        simp only [FL]
        refine zN 27 (some 36) rfl rfl (by kernel_rfl) rfl tH2 ?_
        simp only [FL]
        refine zN 28 (some 37) rfl rfl (by kernel_rfl) rfl tH2 ?_
        simp only [FL]
        refine zT 29 (some 38) (.bool false) rfl rfl (by kernel_rfl) rfl (fun W ⟨h0, h1, h2, h3, h4, h5, h6, h7, h8, h9, h10, h11, h12⟩ => by go_simp) tH2 ?_
        simp only [FL]
        refine zT 30 (some 3) (.bool false) rfl rfl (by kernel_rfl) rfl (fun W ⟨h0, h1, h2, h3, h4, h5, h6, h7, h8, h9, h10, h11, h12⟩ => by go_simp) tH2 ?_
        simp only [FL]
        refine wpAnyH_done (by kernel_rfl) ?_ _
        refine NoPanic.normal ?_
        go_wp2_with fail
        go_meet
        exact ⟨by rw [hv.out], B.trans (tE2.mono B.size), tE2⟩
      ·have k2 : ¬ ((x.view : Int) ≤ 4611686018427387903) := by omega
       have d2 : decide ((x.view : Int) ≤ 4611686018427387903) = false := decide_eq_false k2
       have hv : Hid (r1 x = false) := by
        show _ = _
        rw [HR1.out, hne, decide_eq_false (fun h => c2 h.2.2.1)]
        rfl
       refine zT 17 (some 26) (.bool false) rfl rfl (by kernel_rfl) rfl (fun W ⟨h0, h1, h2, h3, h4, h5, h6, h7, h8, h9, h10, h11, h12⟩ => by (first | (go_simp; done) | (go_simp; first | exact k2 | omega))) tH2 ?_
       simp only [FL]
       refine zT 18 (some 27) (.bool false) rfl rfl (by kernel_rfl) rfl (fun W ⟨h0, h1, h2, h3, h4, h5, h6, h7, h8, h9, h10, h11, h12⟩ => by go_simp) tH2 ?_
       simp only [FL]
       refine zT 19 (some 28) (.bool false) rfl rfl (by kernel_rfl) rfl (fun W ⟨h0, h1, h2, h3, h4, h5, h6, h7, h8, h9, h10, h11, h12⟩ => by go_simp) tH2 ?_
       simp only [FL]
       refine zN 20 (some 29) rfl rfl (by kernel_rfl) rfl tH2 ?_
       simp only [FL]
       refine zN 21 (some 30) rfl rfl (by kernel_rfl) rfl tH2 ?_
       simp only [FL]
       refine zN 22 (some 31) rfl rfl (by kernel_rfl) rfl tH2 ?_
       simp only [FL]
       refine zT 23 (some 32) (.bool false) rfl rfl (by kernel_rfl) rfl (fun W ⟨h0, h1, h2, h3, h4, h5, h6, h7, h8, h9, h10, h11, h12⟩ => by go_simp) tH2 ?_
       simp only [FL]
       refine zT 24 (some 33) (.bool false) rfl rfl (by kernel_rfl) rfl (fun W ⟨h0, h1, h2, h3, h4, h5, h6, h7, h8, h9, h10, h11, h12⟩ => by go_simp) tH2 ?_
       simp only [FL]
       refine zN 25 (some 34) rfl rfl (by kernel_rfl) rfl tH2 ?_
       simp only [FL]
       refine zN 26 (some 35) rfl rfl (by kernel_rfl) rfl tH2 ?_
       simp only [FL]
       refine zN 27 (some 36) rfl rfl (by kernel_rfl) rfl tH2 ?_
       simp only [FL]
       refine zN 28 (some 37) rfl rfl (by kernel_rfl) rfl tH2 ?_
       simp only [FL]
       refine zT 29 (some 38) (.bool false) rfl rfl (by kernel_rfl) rfl (fun W ⟨h0, h1, h2, h3, h4, h5, h6, h7, h8, h9, h10, h11, h12⟩ => by go_simp) tH2 ?_
       simp only [FL]
       refine zT 30 (some 3) (.bool false) rfl rfl (by kernel_rfl) rfl (fun W ⟨h0, h1, h2, h3, h4, h5, h6, h7, h8, h9, h10, h11, h12⟩ => by go_simp) tH2 ?_
       simp only [FL]
       refine wpAnyH_done (by kernel_rfl) ?_ _
       refine NoPanic.normal ?_
       go_wp2_with fail
       go_meet
       exact ⟨by rw [hv.out], B.trans (tE2.mono B.size), tE2⟩
     ·have k1 : ¬ (x.kind ≤ (14 : Int)) := by omega
      have d1 : decide (x.kind ≤ (14 : Int)) = false := decide_eq_false k1
      have hv : Hid (r1 x = false) := by
       show _ = _
       rw [HR1.out, hne, decide_eq_false (fun h => c1 h.2.1)]
       rfl
      refine zT 12 (some 21) (.bool false) rfl rfl (by kernel_rfl) rfl (fun W ⟨h0, h1, h2, h3, h4, h5, h6, h7, h8, h9, h10, h11, h12⟩ => by (first | (go_simp; done) | (go_simp; first | exact k1 | omega))) tH2 ?_
      simp only [FL]
      refine zT 13 (some 22) (.bool false) rfl rfl (by kernel_rfl) rfl (fun W ⟨h0, h1, h2, h3, h4, h5, h6, h7, h8, h9, h10, h11, h12⟩ => by go_simp) tH2 ?_
      simp only [FL]
      refine zT 14 (some 23) (.bool false) rfl rfl (by kernel_rfl) rfl (fun W ⟨h0, h1, h2, h3, h4, h5, h6, h7, h8, h9, h10, h11, h12⟩ => by go_simp) tH2 ?_
      simp only [FL]
      refine zN 15 (some 24) rfl rfl (by kernel_rfl) rfl tH2 ?_
      simp only [FL]
      refine zN 16 (some 25) rfl rfl (by kernel_rfl) rfl tH2 ?_
      simp only [FL]
      refine zN 17 (some 26) rfl rfl (by kernel_rfl) rfl tH2 ?_
      simp only [FL]
      refine zT 18 (some 27) (.bool false) rfl rfl (by kernel_rfl) rfl (fun W ⟨h0, h1, h2, h3, h4, h5, h6, h7, h8, h9, h10, h11, h12⟩ => by go_simp) tH2 ?_
      simp only [FL]
      refine zT 19 (some 28) (.bool false) rfl rfl (by kernel_rfl) rfl (fun W ⟨h0, h1, h2, h3, h4, h5, h6, h7, h8, h9, h10, h11, h12⟩ => by go_simp) tH2 ?_
      simp only [FL]
      refine zN 20 (some 29) rfl rfl (by kernel_rfl) rfl tH2 ?_
      simp only [FL]
      refine zN 21 (some 30) rfl rfl (by kernel_rfl) rfl tH2 ?_
      simp only [FL]
      refine zN 22 (some 31) rfl rfl (by kernel_rfl) rfl tH2 ?_
      simp only [FL]
      refine zT 23 (some 32) (.bool false) rfl rfl (by kernel_rfl) rfl (fun W ⟨h0, h1, h2, h3, h4, h5, h6, h7, h8, h9, h10, h11, h12⟩ => by go_simp) tH2 ?_
      simp only [FL]
      refine zT 24 (some 33) (.bool false) rfl rfl (by kernel_rfl) rfl (fun W ⟨h0, h1, h2, h3, h4, h5, h6, h7, h8, h9, h10, h11, h12⟩ => by go_simp) tH2 ?_
      simp only [FL]
      refine zN 25 (some 34) rfl rfl (by kernel_rfl) rfl tH2 ?_
      simp only [FL]
      refine zN 26 (some 35) rfl rfl (by kernel_rfl) rfl tH2 ?_
      simp only [FL]
      refine zN 27 (some 36) rfl rfl (by kernel_rfl) rfl tH2 ?_
      simp only [FL]
      refine zN 28 (some 37) rfl rfl (by kernel_rfl) rfl tH2 ?_
      simp only [FL]
      refine zT 29 (some 38) (.bool false) rfl rfl (by kernel_rfl) rfl (fun W ⟨h0, h1, h2, h3, h4, h5, h6, h7, h8, h9, h10, h11, h12⟩ => by go_simp) tH2 ?_
      simp only [FL]
      refine zT 30 (some 3) (.bool false) rfl rfl (by kernel_rfl) rfl (fun W ⟨h0, h1, h2, h3, h4, h5, h6, h7, h8, h9, h10, h11, h12⟩ => by go_simp) tH2 ?_
      simp only [FL]
      refine wpAnyH_done (by kernel_rfl) ?_ _
      refine NoPanic.normal ?_
      go_wp2_with fail
      go_meet
      exact ⟨by rw [hv.out], B.trans (tE2.mono B.size), tE2⟩
    ·have k0 : ¬ ((1 : Int) ≤ x.kind) := by omega
     have d0 : decide ((1 : Int) ≤ x.kind) = false := decide_eq_false k0
     have hv : Hid (r1 x = false) := by
      show _ = _
      rw [HR1.out, hne, decide_eq_false (fun h => c0 h.1)]
      rfl
     refine zT 7 (some 16) (.bool false) rfl rfl (by kernel_rfl) rfl (fun W ⟨h0, h1, h2, h3, h4, h5, h6, h7, h8, h9, h10, h11, h12⟩ => by (first | (go_simp; done) | (go_simp; first | exact k0 | omega))) tH2 ?_
     simp only [FL]
     refine zT 8 (some 17) (.bool false) rfl rfl (by kernel_rfl) rfl (fun W ⟨h0, h1, h2, h3, h4, h5, h6, h7, h8, h9, h10, h11, h12⟩ => by go_simp) tH2 ?_
     simp only [FL]
     refine zT 9 (some 18) (.bool false) rfl rfl (by kernel_rfl) rfl (fun W ⟨h0, h1, h2, h3, h4, h5, h6, h7, h8, h9, h10, h11, h12⟩ => by go_simp) tH2 ?_
     simp only [FL]
     refine zN 10 (some 19) rfl rfl (by kernel_rfl) rfl tH2 ?_
     simp only [FL]
     refine zN 11 (some 20) rfl rfl (by kernel_rfl) rfl tH2 ?_
     simp only [FL]
     refine zN 12 (some 21) rfl rfl (by kernel_rfl) rfl tH2 ?_
     simp only [FL]
     refine zT 13 (some 22) (.bool false) rfl rfl (by kernel_rfl) rfl (fun W ⟨h0, h1, h2, h3, h4, h5, h6, h7, h8, h9, h10, h11, h12⟩ => by go_simp) tH2 ?_
     simp only [FL]
     refine zT 14 (some 23) (.bool false) rfl rfl (by kernel_rfl) rfl (fun W ⟨h0, h1, h2, h3, h4, h5, h6, h7, h8, h9, h10, h11, h12⟩ => by go_simp) tH2 ?_
     simp only [FL]
     refine zN 15 (some 24) rfl rfl (by kernel_rfl) rfl tH2 ?_
     simp only [FL]
     refine zN 16 (some 25) rfl rfl (by kernel_rfl) rfl tH2 ?_
     simp only [FL]
     refine zN 17 (some 26) rfl rfl (by kernel_rfl) rfl tH2 ?_
     simp only [FL]
     refine zT 18 (some 27) (.bool false) rfl rfl (by kernel_rfl) rfl (fun W ⟨h0, h1, h2, h3, h4, h5, h6, h7, h8, h9, h10, h11, h12⟩ => by go_simp) tH2 ?_
     simp only [FL]
     refine zT 19 (some 28) (.bool false) rfl rfl (by kernel_rfl) rfl (fun W ⟨h0, h1, h2, h3, h4, h5, h6, h7, h8, h9, h10, h11, h12⟩ => by go_simp) tH2 ?_
     simp only [FL]
     refine zN 20 (some 29) rfl rfl (by kernel_rfl) rfl tH2 ?_
     simp only [FL]
     refine zN 21 (some 30) rfl rfl (by kernel_rfl) rfl tH2 ?_
     simp only [FL]
     refine zN 22 (some 31) rfl rfl (by kernel_rfl) rfl tH2 ?_
     simp only [FL]
     refine zT 23 (some 32) (.bool false) rfl rfl (by kernel_rfl) rfl (fun W ⟨h0, h1, h2, h3, h4, h5, h6, h7, h8, h9, h10, h11, h12⟩ => by go_simp) tH2 ?_
     simp only [FL]
     refine zT 24 (some 33) (.bool false) rfl rfl (by kernel_rfl) rfl (fun W ⟨h0, h1, h2, h3, h4, h5, h6, h7, h8, h9, h10, h11, h12⟩ => by go_simp) tH2 ?_
     simp only [FL]
     refine zN 25 (some 34) rfl rfl (by kernel_rfl) rfl tH2 ?_
     simp only [FL]
     refine zN 26 (some 35) rfl rfl (by kernel_rfl) rfl tH2 ?_
     simp only [FL]
     refine zN 27 (some 36) rfl rfl (by kernel_rfl) rfl tH2 ?_
     simp only [FL]
     refine zN 28 (some 37) rfl rfl (by kernel_rfl) rfl tH2 ?_
     simp only [FL]
     refine zT 29 (some 38) (.bool false) rfl rfl (by kernel_rfl) rfl (fun W ⟨h0, h1, h2, h3, h4, h5, h6, h7, h8, h9, h10, h11, h12⟩ => by go_simp) tH2 ?_
     simp only [FL]
     refine zT 30 (some 3) (.bool false) rfl rfl (by kernel_rfl) rfl (fun W ⟨h0, h1, h2, h3, h4, h5, h6, h7, h8, h9, h10, h11, h12⟩ => by go_simp) tH2 ?_
     simp only [FL]
     refine wpAnyH_done (by kernel_rfl) ?_ _
     refine NoPanic.normal ?_
     go_wp2_with fail
     go_meet
     exact ⟨by rw [hv.out], B.trans (tE2.mono B.size), tE2⟩
 case rest =>
  obtain ⟨rfl, B, C⟩ := hcut
  obtain ⟨z1, hz1⟩ : ∃ z, z = r1 x := ⟨_, rfl⟩
  have HZ1 : Hid (z1 = r1 x) := hz1
  rw [← hz1]
  clear hz1
  have p0 := cell_of_row wc N 0 _ _ _ ((C.block N hN1).trans KX)
  have p1 := cell_of_row wc N 1 _ _ _ ((C.block N hN1).trans KX)
  have p2 := cell_of_row wc N 2 _ _ _ ((C.block N hN1).trans KX)
  have p3 := cell_of_row wc N 3 _ _ _ ((C.block N hN1).trans KX)
  have p4 := cell_of_row wc N 4 _ _ _ ((C.block N hN1).trans KX)
  have p5 := cell_of_row wc N 5 _ _ _ ((C.block N hN1).trans KX)
  have p6 := cell_of_row wc N 6 _ _ _ ((C.block N hN1).trans KX)
  have p7 := cell_of_row wc N 7 _ _ _ ((C.block N hN1).trans KX)
  have p8 := cell_of_row wc N 8 _ _ _ ((C.block N hN1).trans KX)
  have p9 := cell_of_row wc N 9 _ _ _ ((C.block N hN1).trans KX)
  have p10 := cell_of_row wc N 10 _ _ _ ((C.block N hN1).trans KX)
  have p11 := cell_of_row wc N 11 _ _ _ ((C.block N hN1).trans KX)
  have p12 := cell_of_row wc N 12 _ _ _ ((C.block N hN1).trans KX)
  go_upto_region 2 with fail
  go_cut [4] (fun s wx => s = .bool (hasSm x.kind) ∧ wx = wc)
  case first =>
   as_aux_lemma =>
    clear HRF HSO GX qx ox lx HZ1
    by_cases a1 : 2 ≤ x.kind ∧ x.kind ≤ 4
    ·have k1 : (2 : Int) ≤ x.kind := a1.1
     have k2 : x.kind ≤ (4 : Int) := a1.2
     have d1 : decide ((2 : Int) ≤ x.kind) = true := decide_eq_true k1
     have d2 : decide (x.kind ≤ (4 : Int)) = true := decide_eq_true k2
     have hv : Hid (hasSm x.kind = true) := decide_eq_true (by omega)
     clear a1
     go_wp2
     go_meet
     exact ⟨by rw [hv.out], rfl⟩
    by_cases a6 : x.kind = 6
    ·have hv : Hid (hasSm x.kind = true) := decide_eq_true (by omega)
     have HK : Hid (x.kind = 6) := a6
     rw [a6] at p0
     clear a1 a6
     go_wp2
     go_meet
     exact ⟨by rw [hv.out], rfl⟩
    by_cases a10 : x.kind = 10
    ·have hv : Hid (hasSm x.kind = true) := decide_eq_true (by omega)
     have HK : Hid (x.kind = 10) := a10
     rw [a10] at p0
     clear a1 a6 a10
     go_wp2
     go_meet
     exact ⟨by rw [hv.out], rfl⟩
    by_cases a11 : x.kind = 11
    ·have hv : Hid (hasSm x.kind = true) := decide_eq_true (by omega)
     have HK : Hid (x.kind = 11) := a11
     rw [a11] at p0
     clear a1 a6 a10 a11
     go_wp2
     go_meet
     exact ⟨by rw [hv.out], rfl⟩
    have hv : Hid (hasSm x.kind = false) := decide_eq_false (by omega)
    have t6 : (x.kind == 6) = false := by simp [a6]
    have t10 : (x.kind == 10) = false := by simp [a10]
    have t11 : (x.kind == 11) = false := by simp [a11]
    by_cases a2 : 2 ≤ x.kind
    ·have k1 : (2 : Int) ≤ x.kind := a2
     have k2 : ¬ x.kind ≤ (4 : Int) := by omega
     have d1 : decide ((2 : Int) ≤ x.kind) = true := decide_eq_true k1
     have d2 : decide (x.kind ≤ (4 : Int)) = false := decide_eq_false k2
     clear a1 a2 a6 a10 a11
     go_wp2
     go_meet
     exact ⟨by rw [hv.out], rfl⟩
    ·have k1 : ¬ (2 : Int) ≤ x.kind := a2
     have d1 : decide ((2 : Int) ≤ x.kind) = false := decide_eq_false k1
     clear a1 a2 a6 a10 a11
     go_wp2
     go_meet
     exact ⟨by rw [hv.out], rfl⟩
  case rest =>
   obtain ⟨rfl, rfl⟩ := hcut
   obtain ⟨z2, hz2⟩ : ∃ z, z = hasSm x.kind := ⟨_, rfl⟩
   have HZ2 : Hid (z2 = hasSm x.kind) := hz2
   rw [← hz2]
   clear hz2
   go_upto_region 3 with fail
   go_cut [3] (fun s wx => s = .bool (r3 x) ∧ wx = wc)
   case first =>
    have HR3 : Hid (r3 x = (z1 && (!z2 || decide (x.sum.n = 32)))) := by show _ = _; rw [HZ1.out, HZ2.out]; rfl
    clear HRF HSO GX qx ox lx HZ1 HZ2
    cases z1 with
    | false =>
     go_wp2
     go_meet
     exact ⟨by rw [HR3.out] <;> rfl, rfl⟩
    | true =>
     cases z2 with
     | false =>
      go_wp2
      go_meet
      exact ⟨by rw [HR3.out] <;> rfl, rfl⟩
     | true =>
      by_cases c : x.sum.n = 32
      ·have t1 : ((x.sum.n : Int) == 32) = true := by simp; omega
       have hv : Hid (r3 x = true) := by show _ = _; rw [HR3.out, decide_eq_true c]; rfl
       clear c HR3
       go_wp2
       go_meet
       exact ⟨by rw [hv.out], rfl⟩
      ·have t1 : ((x.sum.n : Int) == 32) = false := by simp; omega
       have hv : Hid (r3 x = false) := by show _ = _; rw [HR3.out, decide_eq_false c]; rfl
       clear c HR3
       go_wp2
       go_meet
       exact ⟨by rw [hv.out], rfl⟩
   case rest =>
    obtain ⟨rfl, rfl⟩ := hcut
    obtain ⟨z3, hz3⟩ : ∃ z, z = r3 x := ⟨_, rfl⟩
    have HZ3 : Hid (z3 = r3 x) := hz3
    rw [← hz3]
    clear hz3 HZ1 HZ2 HSO p0 p1 p2 p3 p4 p5 p6 p7 p8 p9 p10 p11 p12
    go_wp2_with fail
    go_loopw [3, 5, 6, 7] (fun s i _ _ wr => ∃ k : Nat, k ≤ x.q.n ∧ i = .int .i64 k ∧ s = .bool (z3 && (x.q.l.take k).all qOk) ∧ Below w.heap.size w wr ∧ Below w1.heap.size w1 wr) (fun _ i _ _ _ => x.q.n - (intOf i).toNat)
    case atStart => exact ⟨0, Nat.zero_le _, rfl, by simp, B, C⟩
    case round =>
     clear B C
     obtain ⟨k, hk, rfl, rfl, B, C⟩ := hrel
     have p4 := cell_of_row wr N 4 _ _ _ ((C.block N hN1).trans KX)
     by_cases hlt : k < x.q.n
     ·have hki : (k : Int) < (x.q.n : Int) := by omega
      have hkx : k < xs.length := by omega
      have hkl : k < x.q.l.length := by rw [qx, List.length_map]; exact hkx
      obtain ⟨b1, o1, e1, hc1⟩ := (GX.below elQ_fine B).atQ (by omega)
      have X := hc1 k (by rw [List.length_map]; exact hkx)
      rw [List.getElem_map] at X
      rw [e1] at p4
      have hmem := List.getElem_mem hkx
      have wu := OW.below B (ox _ hmem)
      have lu := lx _ hmem
      have eu : x.q.l[k] = (xs[k]).m := by simp only [qx, List.getElem_map]
      have okm : QM.ok (xs[k]).m w := by rw [← eu]; exact hx.q.ok _ (List.getElem_mem hkl)
      have HT : Hid ((x.q.l.take (k + 1)).all qOk = ((x.q.l.take k).all qOk && qOk (xs[k]).m)) := by
       show _ = _
       rw [List.take_succ_eq_append_getElem hkl, List.all_append, eu]
       simp
      obtain ⟨u, hu⟩ : ∃ u, u = xs[k] := ⟨_, rfl⟩
      rw [← hu] at X wu lu HT okm
      clear hu hc1 hmem eu hkl
      have wu0 : OW wr 3 ((show OA × List (OD 2) from u.x).1, (show OA × List (OD 2) from u.x).2) := wu
      have CQ := rreq_far 2 wr u.cl u.st (show OA × List (OD 2) from u.x).1 (show OA × List (OD 2) from u.x).2 okm.cl okm.st wu0 lu ((show OA × List (OD 2) from u.x).2.map (topD 2)) rfl
      have HQ : Hid (qOk u.m = decide (kq u.cl u.st (rightO (show OA × List (OD 2) from u.x).1.s (((show OA × List (OD 2) from u.x).2.map (topD 2)).map sn0)) = 0)) := rfl
      have X : QX wr b1 (o1 + k * 12) ⟨u.cl, u.st, (show OA × List (OD 2) from u.x).1, []⟩ := ⟨X.c0, X.c1, X.c2, X.c3, X.c4, X.c5, X.c6, X.c7, X.c8, X.c9, X.c10, X.c11⟩
      generalize kq u.cl u.st (rightO (show OA × List (OD 2) from u.x).1.s (((show OA × List (OD 2) from u.x).2.map (topD 2)).map sn0)) = kk at CQ HQ
      generalize (show OA × List (OD 2) from u.x).1 = ou at CQ X
      unfold qVal OA.cells at CQ
      obtain ⟨q0, q1, q2, q3, q4, q5, q6, q7, q8, q9, q10, q11⟩ := X
      simp only at q0 q1 q2 q3 q4 q5 q6 q7 q8 q9 q10 q11
      clear wu wu0 lu okm e1
      obtain ⟨zb, hzb⟩ : ∃ z, z = (z3 && (x.q.l.take k).all qOk) := ⟨_, rfl⟩
      rw [← hzb]
      have HZB : Hid (zb = (z3 && (x.q.l.take k).all qOk)) := hzb
      clear hzb
      go_wp2_with fail
      refine CQ.mono ?_
      rintro e w5 ⟨⟨bo, m, c, rfl, -, -⟩, D⟩
      have B := B.trans (D.mono B.size)
      have C := C.trans (D.mono C.size)
      clear CQ D q0 q1 q2 q3 q4 q5 q6 q7 q8 q9 q10 q11 p4
      have HB : Hid ((z3 && (x.q.l.take (k + 1)).all qOk) = (zb && decide (kk = 0))) := by
       show _ = _
       rw [HT.out, HQ.out, HZB.out, Bool.and_assoc]
      clear HT HQ HZB
      cases zb with
      | false =>
       go_wp2
       go_roundw
       case rel => exact ⟨k + 1, by omega, by go_num, by rw [HB.out] <;> rfl, B, C⟩
       case measure => simp [intOf]; omega
      | true =>
       by_cases c0 : kk = 0
       ·have t0 : (kk == 0) = true := by simp [c0]
        have HB2 : Hid ((z3 && (x.q.l.take (k + 1)).all qOk) = true) := by show _ = _; rw [HB.out, decide_eq_true c0]; rfl
        clear HB c0
        go_wp2
        go_roundw
        case rel => exact ⟨k + 1, by omega, by go_num, by rw [HB2.out], B, C⟩
        case measure => simp [intOf]; omega
       ·have t0 : (kk == 0) = false := by simp [c0]
        have HB2 : Hid ((z3 && (x.q.l.take (k + 1)).all qOk) = false) := by show _ = _; rw [HB.out, decide_eq_false c0]; rfl
        clear HB c0
        go_wp2
        go_roundw
        case rel => exact ⟨k + 1, by omega, by go_num, by rw [HB2.out], B, C⟩
        case measure => simp [intOf]; omega
     ·have hge : ¬ (k : Int) < (x.q.n : Int) := by omega
      have e0 : x.q.l.take k = x.q.l := List.take_of_length_le (by have := hx.q.len; omega)
      rw [e0]
      obtain ⟨z4, hz4⟩ : ∃ z, z = (z3 && x.q.l.all qOk) := ⟨_, rfl⟩
      have HZ4 : Hid (z4 = (z3 && x.q.l.all qOk)) := hz4
      rw [← hz4]
      clear hz4 e0
      go_wp2_with fail
      clear p4 hge hlt hk
      go_loopw [3, 8] (fun s i wr => ∃ k : Nat, k ≤ x.t.n ∧ i = .int .i64 k ∧ s = .bool (z4 && (x.t.l.take k).all tOk) ∧ Below w.heap.size w wr ∧ Below w1.heap.size w1 wr) (fun _ i _ => x.t.n - (intOf i).toNat)
      case atStart => exact ⟨0, Nat.zero_le _, rfl, by simp, B, C⟩
      case round =>
       clear B C
       obtain ⟨k, hk, rfl, rfl, B, C⟩ := hrel
       have p12 := cell_of_row wr N 12 _ _ _ ((C.block N hN1).trans KX)
       by_cases hlt : k < x.t.n
       ·have hki : (k : Int) < (x.t.n : Int) := by omega
        have hkl : k < x.t.l.length := by omega
        obtain ⟨b1, o1, e1, hc1⟩ := (hx.t.below elS_fine.lists B).atL (by omega)
        have X := hc1 k hkl
        rw [e1] at p12
        have ok : elS.lists.ok x.t.l[k] w := hx.t.ok _ (List.getElem_mem hkl)
        have HT : Hid ((z4 && (x.t.l.take (k + 1)).all tOk) = ((z4 && (x.t.l.take k).all tOk) && tOk x.t.l[k])) := by
         show _ = _
         rw [List.take_succ_eq_append_getElem hkl, List.all_append, Bool.and_assoc]
         simp
        obtain ⟨u, hu⟩ : ∃ u, u = x.t.l[k] := ⟨_, rfl⟩
        rw [← hu] at X ok HT
        clear hu hc1 e1
        have ok : GL elS w u.ao u.n u.cap u.l := ok
        have CS := rsigned_any wr u.ao u.n u.cap u.l (ok.below elS_fine B)
        have CS : Calls Tryz.prog 22 #[.slice u.ao u.n u.cap] wr fun e w' => e = .returned (.bool (tOk u)) ∧ Below wr.heap.size wr w' := CS
        obtain ⟨zb, hzb⟩ : ∃ z, z = (z4 && (x.t.l.take k).all tOk) := ⟨_, rfl⟩
        rw [← hzb] at HT ⊢
        clear hzb ok
        cases zb with
        | false =>
         clear CS
         go_wp2
         go_roundw
         case rel => exact ⟨k + 1, by omega, by go_num, by rw [HT.out] <;> rfl, B, C⟩
         case measure => simp [intOf]; omega
        | true =>
         rw [Bool.true_and] at HT
         obtain ⟨tb, htb⟩ : ∃ z, z = tOk u := ⟨_, rfl⟩
         rw [← htb] at HT CS
         clear htb
         go_wp2_with fail
         refine CS.mono ?_
         rintro e w5 ⟨rfl, D⟩
         have B := B.trans (D.mono B.size)
         have C := C.trans (D.mono C.size)
         clear CS D X p12
         go_wp2
         go_roundw
         case rel => exact ⟨k + 1, by omega, by go_num, by rw [HT.out], B, C⟩
         case measure => simp [intOf]; omega
       ·have hge : ¬ (k : Int) < (x.t.n : Int) := by omega
        have e0 : x.t.l.take k = x.t.l := List.take_of_length_le (by omega)
        rw [e0]
        obtain ⟨z5, hz5⟩ : ∃ z, z = (z4 && x.t.l.all tOk) := ⟨_, rfl⟩
        have HZ5 : Hid (z5 = (z4 && x.t.l.all tOk)) := hz5
        rw [← hz5]
        clear hz5 e0
        go_upto_region 13 with fail
        clear p12 hge hlt hk
        have p0 := cell_of_row wr N 0 _ _ _ ((C.block N hN1).trans KX)
        have p1 := cell_of_row wr N 1 _ _ _ ((C.block N hN1).trans KX)
        have p2 := cell_of_row wr N 2 _ _ _ ((C.block N hN1).trans KX)
        have p3 := cell_of_row wr N 3 _ _ _ ((C.block N hN1).trans KX)
        have p4 := cell_of_row wr N 4 _ _ _ ((C.block N hN1).trans KX)
        have p5 := cell_of_row wr N 5 _ _ _ ((C.block N hN1).trans KX)
        have p6 := cell_of_row wr N 6 _ _ _ ((C.block N hN1).trans KX)
        have p7 := cell_of_row wr N 7 _ _ _ ((C.block N hN1).trans KX)
        have p8 := cell_of_row wr N 8 _ _ _ ((C.block N hN1).trans KX)
        have p9 := cell_of_row wr N 9 _ _ _ ((C.block N hN1).trans KX)
        have p10 := cell_of_row wr N 10 _ _ _ ((C.block N hN1).trans KX)
        have p11 := cell_of_row wr N 11 _ _ _ ((C.block N hN1).trans KX)
        have p12 := cell_of_row wr N 12 _ _ _ ((C.block N hN1).trans KX)
        go_upto_block 4 with fail
        go_cut [3] (fun s wx => s = .bool (z5 && swR x) ∧ Below w.heap.size w wx ∧ Below w1.heap.size w1 wx)
        case first =>
         as_aux_lemma =>
          clear GX qx ox lx HRF HZ3 HZ4 HZ5
          by_cases a1 : x.kind = 1
          ·have HSW : Hid (swR x = decide (x.q.n = 1)) := by show _ = _; unfold swR;  rw [if_pos a1]
           have t1 : (x.kind == 1) = true := by simp [a1]
           clear a1
           cases z5 with
           | false =>
            clear HSW
            go_wp2
            go_meet
            exact ⟨rfl, B, C⟩
           | true =>
            by_cases cc : x.q.n = 1
            ·have t1 : ((x.q.n : Int) == 1) = true := by simp; omega
             have hv : Hid (swR x = true) := by show _ = _; rw [HSW.out, decide_eq_true cc]
             clear cc HSW 
             go_wp2
             go_meet
             exact ⟨by rw [hv.out] <;> rfl, B, C⟩
            ·have t1 : ((x.q.n : Int) == 1) = false := by simp; omega
             have hv : Hid (swR x = false) := by show _ = _; rw [HSW.out, decide_eq_false cc]
             clear cc HSW 
             go_wp2
             go_meet
             exact ⟨by rw [hv.out] <;> rfl, B, C⟩
          by_cases a12 : x.kind = 12
          ·have HSW : Hid (swR x = decide (x.s.n ≤ 4)) := by show _ = _; unfold swR; rw [if_neg (show ¬ x.kind = 1 by omega)]; rw [if_pos a12]
           have t1 : (x.kind == 1) = false := by simp [a1]
           have t12 : (x.kind == 12) = true := by simp [a12]
           clear a1 a12
           cases z5 with
           | false =>
            clear HSW
            go_wp2
            go_meet
            exact ⟨rfl, B, C⟩
           | true =>
            by_cases cc : x.s.n ≤ 4
            ·have t1 : (x.s.n : Int) ≤ 4 := by omega
             have t2 : decide ((x.s.n : Int) ≤ 4) = true := decide_eq_true t1
             have hv : Hid (swR x = true) := by show _ = _; rw [HSW.out, decide_eq_true cc]
             clear cc HSW
             go_wp2
             go_meet
             exact ⟨by rw [hv.out] <;> rfl, B, C⟩
            ·have t1 : ¬ (x.s.n : Int) ≤ 4 := by omega
             have t2 : decide ((x.s.n : Int) ≤ 4) = false := decide_eq_false t1
             have hv : Hid (swR x = false) := by show _ = _; rw [HSW.out, decide_eq_false cc]
             clear cc HSW
             go_wp2
             go_meet
             exact ⟨by rw [hv.out] <;> rfl, B, C⟩
          by_cases a13 : x.kind = 13
          ·have HSW : Hid (swR x = (decide (x.q.n = 1) && !(x.q.l.any fun q => wrs q.o.kind))) := by show _ = _; unfold swR; rw [if_neg (show ¬ x.kind = 1 by omega)]; rw [if_neg (show ¬ x.kind = 12 by omega)]; rw [if_pos a13]
           have t1 : (x.kind == 1) = false := by simp [a1]
           have t12 : (x.kind == 12) = false := by simp [a12]
           have t13 : (x.kind == 13) = true := by simp [a13]
           clear a1 a12 a13
           cases z5 with
           | false =>
            clear HSW
            go_wp2
            go_meet
            exact ⟨rfl, B, C⟩
           | true =>
            by_cases cc : x.q.n = 1
            ·have t1 : ((x.q.n : Int) == 1) = true := by simp; omega
             have t1b : (0 : Int) < (x.q.n : Int) := by omega
             obtain ⟨b1, o1, e1, hc1⟩ := (hx.q.below elQ_fine B).atQ (by omega)
             have hq1 : 0 < x.q.l.length := by have := hx.q.len; omega
             have X := hc1 0 hq1
             rw [Nat.zero_mul, Nat.add_zero] at X
             rw [e1] at p4
             have hv : Hid (swR x = !(wrs (x.q.l[0]).o.kind)) := by
              show _ = _
              rw [HSW.out, decide_eq_true cc, Bool.true_and]
              obtain ⟨a, ha⟩ : ∃ a, x.q.l = [a] := by
               have hl := hx.q.len
               cases hh : x.q.l with
               | nil => rw [hh] at hl; simp only [List.length_nil] at hl; omega
               | cons a l =>
                cases l with
                | nil => exact ⟨a, rfl⟩
                | cons b l => rw [hh] at hl; simp only [List.length_cons] at hl; omega
              simp [ha]
             obtain ⟨u, hu⟩ : ∃ u, u = x.q.l[0] := ⟨_, rfl⟩
             rw [← hu] at X hv
             clear hu hc1 e1 cc HSW
             obtain ⟨q0, q1, q2, q3, q4, q5, q6, q7, q8, q9, q10, q11⟩ := X
             have CW := rwrites13 wr u.o
             unfold OA.val at CW
             obtain ⟨wb, hwb⟩ : ∃ z, z = wrs u.o.kind := ⟨_, rfl⟩
             rw [← hwb] at hv CW
             clear hwb
             go_wp2_with fail
             refine CW.mono ?_
             rintro e w5 ⟨rfl, D⟩
             have B := B.trans (D.mono B.size)
             have C := C.trans (D.mono C.size)
             clear CW D q0 q1 q2 q3 q4 q5 q6 q7 q8 q9 q10 q11
             go_wp2
             go_meet
             exact ⟨by rw [hv.out] <;> simp, B, C⟩
            ·have t1 : ((x.q.n : Int) == 1) = false := by simp; omega
             have hv : Hid (swR x = false) := by show _ = _; rw [HSW.out, decide_eq_false cc, Bool.false_and]
             clear cc HSW
             go_wp2
             go_meet
             exact ⟨by rw [hv.out] <;> rfl, B, C⟩
          by_cases a5 : x.kind = 5
          ·have HSW : Hid (swR x = (decide (x.cl ≠ 0 ∧ x.st ≠ 0 ∧ x.vw ≤ 4611686018427387903) && rightR (resR x.e x.c.l x.more))) := by show _ = _; unfold swR; rw [if_neg (show ¬ x.kind = 1 by omega)]; rw [if_neg (show ¬ x.kind = 12 by omega)]; rw [if_neg (show ¬ x.kind = 13 by omega)]; rw [if_pos a5]
           have t1 : (x.kind == 1) = false := by simp [a1]
           have t12 : (x.kind == 12) = false := by simp [a12]
           have t13 : (x.kind == 13) = false := by simp [a13]
           have t5 : (x.kind == 5) = true := by simp [a5]
           clear a1 a12 a13 a5
           cases z5 with
           | false =>
            clear HSW
            go_wp2
            go_meet
            exact ⟨rfl, B, C⟩
           | true =>
            by_cases b1 : x.cl = 0
            ·have t1 : ((x.cl : Int) != 0) = false := by simp; omega
             have hv : Hid (swR x = false) := by show _ = _; rw [HSW.out, decide_eq_false (by omega), Bool.false_and]
             clear b1 HSW
             go_wp2
             go_meet
             exact ⟨by rw [hv.out] <;> rfl, B, C⟩
            have t1 : ((x.cl : Int) != 0) = true := by simp; omega
            by_cases b2 : x.st = 0
            ·have t2 : ((x.st : Int) != 0) = false := by simp; omega
             have hv : Hid (swR x = false) := by show _ = _; rw [HSW.out, decide_eq_false (by omega), Bool.false_and]
             clear b1 b2 HSW
             go_wp2
             go_meet
             exact ⟨by rw [hv.out] <;> rfl, B, C⟩
            have t2 : ((x.st : Int) != 0) = true := by simp; omega
            by_cases b3 : x.vw ≤ 4611686018427387903
            ·have t3 : (x.vw : Int) ≤ 4611686018427387903 := by omega
             have t4 : decide ((x.vw : Int) ≤ 4611686018427387903) = true := decide_eq_true t3
             have hv : Hid (swR x = rightR (resR x.e x.c.l x.more)) := by show _ = _; rw [HSW.out, decide_eq_true ⟨b1, b2, b3⟩, Bool.true_and]
             have CR := rrr_any wr x.e x.c.ao x.c.n x.c.cap x.c.l x.more (hx.c.below B)
             unfold resV at CR
             obtain ⟨rb, hrb⟩ : ∃ z, z = rightR (resR x.e x.c.l x.more) := ⟨_, rfl⟩
             rw [← hrb] at hv CR
             clear b1 b2 b3 HSW hrb
             go_wp2_with fail
             refine CR.mono ?_
             rintro e w5 ⟨rfl, D⟩
             have B := B.trans (D.mono B.size)
             have C := C.trans (D.mono C.size)
             clear CR D
             go_wp2
             go_meet
             exact ⟨by rw [hv.out] <;> simp, B, C⟩
            ·have t3 : ¬ (x.vw : Int) ≤ 4611686018427387903 := by omega
             have t4 : decide ((x.vw : Int) ≤ 4611686018427387903) = false := decide_eq_false t3
             have hv : Hid (swR x = false) := by show _ = _; rw [HSW.out, decide_eq_false (fun g => b3 g.2.2), Bool.false_and]
             clear b1 b2 b3 HSW
             go_wp2
             go_meet
             exact ⟨by rw [hv.out] <;> rfl, B, C⟩
          by_cases a8 : x.kind = 8
          ·have HSW : Hid (swR x = decide (x.t.n = 1)) := by show _ = _; unfold swR; rw [if_neg (show ¬ x.kind = 1 by omega)]; rw [if_neg (show ¬ x.kind = 12 by omega)]; rw [if_neg (show ¬ x.kind = 13 by omega)]; rw [if_neg (show ¬ x.kind = 5 by omega)]; rw [if_pos a8]
           have t1 : (x.kind == 1) = false := by simp [a1]
           have t12 : (x.kind == 12) = false := by simp [a12]
           have t13 : (x.kind == 13) = false := by simp [a13]
           have t5 : (x.kind == 5) = false := by simp [a5]
           have t8 : (x.kind == 8) = true := by simp [a8]
           clear a1 a12 a13 a5 a8
           cases z5 with
           | false =>
            clear HSW
            go_wp2
            go_meet
            exact ⟨rfl, B, C⟩
           | true =>
            by_cases cc : x.t.n = 1
            ·have t1 : ((x.t.n : Int) == 1) = true := by simp; omega
             have hv : Hid (swR x = true) := by show _ = _; rw [HSW.out, decide_eq_true cc]
             clear cc HSW 
             go_wp2
             go_meet
             exact ⟨by rw [hv.out] <;> rfl, B, C⟩
            ·have t1 : ((x.t.n : Int) == 1) = false := by simp; omega
             have hv : Hid (swR x = false) := by show _ = _; rw [HSW.out, decide_eq_false cc]
             clear cc HSW 
             go_wp2
             go_meet
             exact ⟨by rw [hv.out] <;> rfl, B, C⟩
          have hv : Hid (swR x = true) := by show _ = _; unfold swR; rw [if_neg a1, if_neg a12, if_neg a13, if_neg a5, if_neg a8]
          have t1 : (x.kind == 1) = false := by simp [a1]
          have t12 : (x.kind == 12) = false := by simp [a12]
          have t13 : (x.kind == 13) = false := by simp [a13]
          have t5 : (x.kind == 5) = false := by simp [a5]
          have t8 : (x.kind == 8) = false := by simp [a8]
          clear a1 a12 a13 a5 a8
          go_wp2
          go_meet
          exact ⟨by rw [hv.out] <;> simp, B, C⟩
        case rest =>
         obtain ⟨rfl, B, C⟩ := hcut
         obtain ⟨z6, hz6⟩ : ∃ z, z = (z5 && swR x) := ⟨_, rfl⟩
         have HZ6 : Hid (z6 = (z5 && swR x)) := hz6
         rw [← hz6]
         clear hz6 p0 p1 p2 p3 p4 p5 p6 p7 p8 p9 p10 p11 p12
         have p0 := cell_of_row wc N 0 _ _ _ ((C.block N hN1).trans KX)
         have p1 := cell_of_row wc N 1 _ _ _ ((C.block N hN1).trans KX)
         have p2 := cell_of_row wc N 2 _ _ _ ((C.block N hN1).trans KX)
         have p3 := cell_of_row wc N 3 _ _ _ ((C.block N hN1).trans KX)
         have p4 := cell_of_row wc N 4 _ _ _ ((C.block N hN1).trans KX)
         have p5 := cell_of_row wc N 5 _ _ _ ((C.block N hN1).trans KX)
         have p6 := cell_of_row wc N 6 _ _ _ ((C.block N hN1).trans KX)
         have p7 := cell_of_row wc N 7 _ _ _ ((C.block N hN1).trans KX)
         have p8 := cell_of_row wc N 8 _ _ _ ((C.block N hN1).trans KX)
         have p9 := cell_of_row wc N 9 _ _ _ ((C.block N hN1).trans KX)
         have p10 := cell_of_row wc N 10 _ _ _ ((C.block N hN1).trans KX)
         have p11 := cell_of_row wc N 11 _ _ _ ((C.block N hN1).trans KX)
         have p12 := cell_of_row wc N 12 _ _ _ ((C.block N hN1).trans KX)
         go_upto_if 186 with fail
         go_cut [3] (fun s wx => s = .bool (z6 && ctR x) ∧ Below w.heap.size w wx ∧ Below w1.heap.size w1 wx)
         case first =>
          as_aux_lemma =>
           clear GX qx ox lx HRF HZ3 HZ4 HZ5 HZ6
           by_cases a10 : x.kind = 10
           ·have HCT : Hid (ctR x = (decide (x.s.n = 1) && x.s.l.all SA.pl)) := by show _ = _; unfold ctR; rw [if_pos a10]
            have t10 : (x.kind == 10) = true := by simp [a10]
            clear a10
            cases z6 with
            | false =>
             clear HCT
             go_wp2
             go_meet
             exact ⟨rfl, B, C⟩
            | true =>
             by_cases cc : x.s.n = 1
             ·have t1 : ((x.s.n : Int) == 1) = true := by simp; omega
              have hv : Hid (ctR x = x.s.l.all SA.pl) := by show _ = _; rw [HCT.out, decide_eq_true cc, Bool.true_and]
              have CB := rbare_any wc x.s.ao x.s.n x.s.cap x.s.l (hx.s.below elS_fine B)
              obtain ⟨tb, htb⟩ : ∃ z, z = x.s.l.all SA.pl := ⟨_, rfl⟩
              rw [← htb] at hv CB
              clear cc HCT htb
              go_wp2_with fail
              refine CB.mono ?_
              rintro e w5 ⟨rfl, D⟩
              have B := B.trans (D.mono B.size)
              have C := C.trans (D.mono C.size)
              clear CB D
              go_wp2
              go_meet
              exact ⟨by rw [hv.out] <;> simp, B, C⟩
             ·have t1 : ((x.s.n : Int) == 1) = false := by simp; omega
              have hv : Hid (ctR x = false) := by show _ = _; rw [HCT.out, decide_eq_false cc, Bool.false_and]
              clear cc HCT
              go_wp2
              go_meet
              exact ⟨by rw [hv.out] <;> rfl, B, C⟩
           by_cases a14 : x.kind = 14
           ·have HCT : Hid (ctR x = (decide (x.s.n = 3) && x.s.l.all SA.pl)) := by show _ = _; unfold ctR; rw [if_neg a10, if_pos a14]
            have t10 : (x.kind == 10) = false := by simp [a10]
            have t14 : (x.kind == 14) = true := by simp [a14]
            clear a10 a14
            cases z6 with
            | false =>
             clear HCT
             go_wp2
             go_meet
             exact ⟨rfl, B, C⟩
            | true =>
             by_cases cc : x.s.n = 3
             ·have t1 : ((x.s.n : Int) == 3) = true := by simp; omega
              have hv : Hid (ctR x = x.s.l.all SA.pl) := by show _ = _; rw [HCT.out, decide_eq_true cc, Bool.true_and]
              have CB := rbare_any wc x.s.ao x.s.n x.s.cap x.s.l (hx.s.below elS_fine B)
              obtain ⟨tb, htb⟩ : ∃ z, z = x.s.l.all SA.pl := ⟨_, rfl⟩
              rw [← htb] at hv CB
              clear cc HCT htb
              go_wp2_with fail
              refine CB.mono ?_
              rintro e w5 ⟨rfl, D⟩
              have B := B.trans (D.mono B.size)
              have C := C.trans (D.mono C.size)
              clear CB D
              go_wp2
              go_meet
              exact ⟨by rw [hv.out] <;> simp, B, C⟩
             ·have t1 : ((x.s.n : Int) == 3) = false := by simp; omega
              have hv : Hid (ctR x = false) := by show _ = _; rw [HCT.out, decide_eq_false cc, Bool.false_and]
              clear cc HCT
              go_wp2
              go_meet
              exact ⟨by rw [hv.out] <;> rfl, B, C⟩
           have HCT : Hid (ctR x = tOk x.s) := by show _ = _; unfold ctR; rw [if_neg a10, if_neg a14]; rfl
           have t10 : (x.kind == 10) = false := by simp [a10]
           have t14 : (x.kind == 14) = false := by simp [a14]
           clear a10 a14
           cases z6 with
           | false =>
            clear HCT
            go_wp2
            go_meet
            exact ⟨rfl, B, C⟩
           | true =>
            have CB : Calls Tryz.prog 22 #[.slice x.s.ao x.s.n x.s.cap] wc fun e w' => e = .returned (.bool (tOk x.s)) ∧ Below wc.heap.size wc w' := rsigned_any wc x.s.ao x.s.n x.s.cap x.s.l (hx.s.below elS_fine B)
            obtain ⟨tb, htb⟩ : ∃ z, z = tOk x.s := ⟨_, rfl⟩
            rw [← htb] at HCT CB
            clear htb
            go_wp2_with fail
            refine CB.mono ?_
            rintro e w5 ⟨rfl, D⟩
            have B := B.trans (D.mono B.size)
            have C := C.trans (D.mono C.size)
            clear CB D
            go_wp2
            go_meet
            exact ⟨by rw [HCT.out] <;> simp, B, C⟩
         case rest =>
          obtain ⟨rfl, B, C⟩ := hcut
          have HV : Hid ((z6 && ctR x) = rightM x) := by
           show _ = _
           rw [← HRF.out, HZ6.out, HZ5.out, HZ4.out, HZ3.out]
           unfold refR
           simp only [Bool.and_assoc]
          rw [HV.out]
          clear HV HZ3 HZ4 HZ5 HZ6 HRF GX qx ox lx hx KX
          cases hr : rightM x with
          | false =>
           have HR : Hid (rightM x = false) := hr
           clear hr
           go_wp2
           all_goals first
            | exact absurd (HR.out.symm.trans ‹rightM x = true›) (by decide)
            | (go_ret; exact ⟨rfl, B⟩)
          | true =>
           have HR : Hid (rightM x = true) := hr
           clear hr
           go_wp2
           all_goals first
            | exact absurd HR.out ‹¬ rightM x = true›
            | (go_ret; exact ⟨rfl, B⟩)
end Go.Proofs.YtnbejckdhdbamaaGreat

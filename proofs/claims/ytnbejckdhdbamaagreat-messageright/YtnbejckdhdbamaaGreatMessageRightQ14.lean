/-
  Texts in one: RResG.
-/
import Derived.Test.YtnbejckdhdbamaaGreatMessageRightQ1
import Derived.Test.YtnbejckdhdbamaaGreatMessageRightQ3
namespace Go.Proofs.YtnbejckdhdbamaaGreat
open Go.RowKit
def cvB (a b : CV) : Bool := decide (a.row = b.row ∧ a.fam = b.fam ∧ a.qual = b.qual ∧ a.time = b.time ∧ a.gone = b.gone ∧ a.value = b.value)
theorem cvB_iff (a b : CV) : cvB a b = true ↔ a = b := by
 obtain ⟨a1, a2, a3, a4, a5, a6⟩ := a
 obtain ⟨b1, b2, b3, b4, b5, b6⟩ := b
 unfold cvB
 simp only [decide_eq_true_eq, CV.mk.injEq]
 constructor
 ·rintro ⟨h1, h2, h3, h4, h5, h6⟩; exact ⟨h1, h2, h3, h4, h6, h5⟩
 ·rintro ⟨h1, h2, h3, h4, h5, h6⟩; exact ⟨h1, h2, h3, h4, h6, h5⟩
def cvL : List CV → List CV → Bool
 | [], [] => true
 | a :: l, b :: m => cvB a b && cvL l m
 | _, _ => false
theorem cvL_iff : ∀ a b : List CV, cvL a b = true ↔ a = b
 | [], [] => ⟨fun _ => rfl, fun _ => rfl⟩
 | [], _ :: _ => ⟨fun h => by simp [cvL] at h, fun h => by cases h⟩
 | _ :: _, [] => ⟨fun h => by simp [cvL] at h, fun h => by cases h⟩
 | a :: l, b :: m => by simp [cvL, cvB_iff, cvL_iff l m]
def rvB (a b : RV) : Bool := decide (a.e = b.e ∧ a.more = b.more) && cvL a.cells b.cells
theorem rvB_iff (a b : RV) : rvB a b = true ↔ a = b := by
 obtain ⟨a1, a2, a3⟩ := a
 obtain ⟨b1, b2, b3⟩ := b
 unfold rvB
 simp only [Bool.and_eq_true, decide_eq_true_eq, cvL_iff, RV.mk.injEq]
 constructor
 ·rintro ⟨⟨h1, h2⟩, h3⟩; exact ⟨h1, h3, h2⟩
 ·rintro ⟨h1, h3, h2⟩; exact ⟨⟨h1, h2⟩, h3⟩
theorem rvB_no {a b : RV} (h : a ≠ b) : rvB a b = false := by
 cases e : rvB a b with
 | false => rfl
 | true => exact absurd ((rvB_iff a b).1 e) h
theorem toL_neG {a b : ByteArray} (h : a ≠ b) : (a.toList == b.toList) = false := toL_ne h
set_option maxRecDepth 100000 in
set_option maxHeartbeats 8000000 in
theorem rresg_any (w : World) (e e2 : Int) (ao bo : Option Addr) (n cap n2 cap2 : Nat) (l l2 : List CA) (m m2 : Bool) (L : CL w ao n cap l) (L2 : CL w bo n2 cap2 l2) :
  Calls Tryz.prog 72 #[.agg #[.int .i64 e, .slice ao n cap, .bool m], .agg #[.int .i64 e2, .slice bo n2 cap2, .bool m2]] w fun x w' => x = .returned (.bool (rvB (resR e l m) (resR e2 l2 m2))) ∧ Below w.heap.size w w' := by
 have l1 : l.length = n := L.len
 have l3 : l2.length = n2 := L2.len
 have hmx := L.mx
 have hle := L.le
 simp only [maxLen] at hmx
 have B : Below w.heap.size w ((w.alloc (Obj.cells #[.int .i64 e, .slice ao n cap, .bool m] 28)).alloc (Obj.cells #[.int .i64 e2, .slice bo n2 cap2, .bool m2] 28)) := ((Below.refl _ w).alloc (Nat.le_refl _) _).alloc (by simp) _
 by_cases c0 : ¬ (e = e2)
 ·have i0 : (e != e2) = true := by simp [c0]
  have hv : Hid (rvB (resR e l m) (resR e2 l2 m2) = false) := rvB_no fun h => c0 (congrArg RV.e h)
  clear c0 L L2 l1 l3
  go_enter Tryz.func72, Tryz.ntmps72
  go_wp2
  go_ret
  exact ⟨by rw [hv.out] <;> rfl, B⟩
 have Hc0 : Hid (e = e2) := Classical.not_not.1 c0
 have i0 : (e != e2) = false := by simp [Hc0.out]
 clear c0
 by_cases c1 : ¬ (m = m2)
 ·have i1 : (m == m2) = false := by simp [c1]
  have hv : Hid (rvB (resR e l m) (resR e2 l2 m2) = false) := rvB_no fun h => c1 (congrArg RV.more h)
  clear c1 L L2 l1 l3
  go_enter Tryz.func72, Tryz.ntmps72
  go_wp2
  go_ret
  exact ⟨by rw [hv.out] <;> rfl, B⟩
 have Hc1 : Hid (m = m2) := Classical.not_not.1 c1
 have i1 : (m == m2) = true := by simp [Hc1.out]
 clear c1
 by_cases c2 : ¬ (n = n2)
 ·have i2 : ((n : Int) != (n2 : Int)) = true := by simp; omega
  have hv : Hid (rvB (resR e l m) (resR e2 l2 m2) = false) := rvB_no fun h => c2 (by have := congrArg (fun r => r.cells.length) h; simp only [resR, List.length_map] at this; omega)
  clear c2 L L2 l1 l3
  go_enter Tryz.func72, Tryz.ntmps72
  go_wp2
  go_ret
  exact ⟨by rw [hv.out] <;> rfl, B⟩
 have Hc2 : Hid (n = n2) := Classical.not_not.1 c2
 have i2 : ((n : Int) != (n2 : Int)) = false := by simp; have := Hc2.out; omega
 clear c2
 obtain rfl := Hc0.out
 obtain rfl := Hc1.out
 obtain rfl := Hc2.out
 clear Hc0 Hc1 Hc2
 have K : RC ((w.alloc (Obj.cells #[.int .i64 e, .slice ao n cap, .bool m] 28)).alloc (Obj.cells #[.int .i64 e, .slice bo n cap2, .bool m] 28)) w.heap.size e ao n cap m := (heap_alloc_old _ _ (by simp)).trans (heap_alloc_new w _)
 have K2 : RC ((w.alloc (Obj.cells #[.int .i64 e, .slice ao n cap, .bool m] 28)).alloc (Obj.cells #[.int .i64 e, .slice bo n cap2, .bool m] 28)) (w.heap.size + 1) e bo n cap2 m := by
  have := heap_alloc_new (w.alloc (Obj.cells #[.int .i64 e, .slice ao n cap, .bool m] 28)) (Obj.cells #[.int .i64 e, .slice bo n cap2, .bool m] 28)
  unfold RC
  simpa using this
 have M1 := L.below B
 have M2 := L2.below B
 clear L L2
 go_enter Tryz.func72, Tryz.ntmps72
 go_wp2_with fail
 obtain ⟨w1, hw1⟩ : ∃ W, W = (w.alloc (Obj.cells #[.int .i64 e, .slice ao n cap, .bool m] 28)).alloc (Obj.cells #[.int .i64 e, .slice bo n cap2, .bool m] 28) := ⟨_, rfl⟩
 obtain ⟨N, hN⟩ : ∃ N, N = w.heap.size := ⟨_, rfl⟩
 rw [← hw1] at B K K2 M1 M2 ⊢
 rw [← hN] at B K K2 ⊢
 have HN : Hid (N = w.heap.size) := hN
 clear hw1 hN i0 i1 i2
 go_loopw [5, 6, 7] (fun i _ _ wr => ∃ k : Nat, k ≤ n ∧ i = .int .i64 k ∧ Below N w wr ∧ Below w1.heap.size w1 wr ∧ Hid ((l.take k).map CA.c = (l2.take k).map CA.c)) (fun i _ _ _ => n - (intOf i).toNat)
 case atStart => exact ⟨0, Nat.zero_le _, rfl, B, Below.refl _ _, rfl⟩
 case round =>
  clear B
  obtain ⟨k, hk, rfl, B, C1, HTK⟩ := hrel
  have A1 := K.keep C1
  have A2 := K2.keep C1
  have r1 := A1.c1
  have r2 := A2.c1
  by_cases hlt : k < n
  ·obtain ⟨b1, o1, rfl, hc1⟩ := M1.at (by omega)
   obtain ⟨b2, o2, rfl, hc2⟩ := M2.at (by omega)
   have hk1 : k < l.length := by omega
   have hk2 : k < l2.length := by omega
   have X1 := (hc1 k hk1).below C1
   have X2 := (hc2 k hk2).below C1
   have ok1 : (l[k]).ok wr := (M1.ok _ (List.getElem_mem hk1)).below C1
   have ok2 : (l2[k]).ok wr := (M2.ok _ (List.getElem_mem hk2)).below C1
   have HNO : Hid ((l[k]).c ≠ (l2[k]).c → rvB (resR e l m) (resR e l2 m) = false) := fun hne => rvB_no fun h => hne (by
    have h1 : l.map CA.c = l2.map CA.c := congrArg RV.cells h
    have e1 : (l.map CA.c)[k]? = some (l[k]).c := by simp [hk1]
    have e2 : (l2.map CA.c)[k]? = some (l2[k]).c := by simp [hk2]
    rw [h1] at e1
    exact Option.some.inj (e1.symm.trans e2))
   have HYS : Hid ((l[k]).c = (l2[k]).c → (l.take (k + 1)).map CA.c = (l2.take (k + 1)).map CA.c) := fun he => by
    rw [List.take_succ_eq_append_getElem hk1, List.take_succ_eq_append_getElem hk2, List.map_append, List.map_append, HTK.out, List.map_singleton, List.map_singleton, he]
   obtain ⟨x, hx⟩ : ∃ c : CA, c = l[k] := ⟨_, rfl⟩
   obtain ⟨y, hy⟩ : ∃ c : CA, c = l2[k] := ⟨_, rfl⟩
   rw [← hx] at X1 ok1 HNO HYS
   rw [← hy] at X2 ok2 HNO HYS
   clear hx hy hc1 hc2 HTK hk1 hk2
   obtain ⟨xr, xf, xq, xt, xv, xg⟩ := x
   obtain ⟨yr, yf, yq, yt, yv, yg⟩ := y
   have V1 := ok1.va
   have V2 := ok2.va
   simp only at V1 V2
   clear ok1 ok2
   have i6 : (k : Int) < (n : Int) := by omega
   obtain ⟨p0, p1, p2, p3, p4, p5⟩ := X1
   obtain ⟨q0, q1, q2, q3, q4, q5⟩ := X2
   simp only at p0 p1 p2 p3 p4 p5 q0 q1 q2 q3 q4 q5
   have a1 := A1.lt
   have a2 := A2.lt
   have b1l := World.block_lt_of_cell? wr _ p0
   have b2l := World.block_lt_of_cell? wr _ q0
   simp only at b1l b2l
   by_cases d0 : ¬ (xr = yr)
   ·have j0 : (xr.toList == yr.toList) = false := toL_neG d0
    have hv : Hid (rvB (resR e l m) (resR e l2 m) = false) := HNO.out fun h => d0 (congrArg CV.row h)
    clear HNO HYS d0
    go_wp2_with fail
    go_region
    ·have Bv : Below wr.heap.size wr ((wr.alloc (Obj.cells #[.string xr, .string xf, .string xq, .int .u64 xt, .slice xv.ao xv.n xv.cap, .bool xg] 98)).alloc (Obj.cells #[.string yr, .string yf, .string yq, .int .u64 yt, .slice yv.ao yv.n yv.cap, .bool yg] 98)).drew := (((Below.refl _ _).alloc (Nat.le_refl _) _).alloc (by simp) _).drew
     have B6 := B.trans (Bv.mono (by have := B.size; have := HN.out; omega))
     clear V1 V2 B C1 Bv A1 A2 M1 M2 K K2
     go_wp2
     go_ret
     exact ⟨by rw [hv.out] <;> rfl, by rw [← HN.out]; exact B6⟩
    ·have Bv : Below wr.heap.size wr ((wr.alloc (Obj.cells #[.string yr, .string yf, .string yq, .int .u64 yt, .slice yv.ao yv.n yv.cap, .bool yg] 98)).alloc (Obj.cells #[.string xr, .string xf, .string xq, .int .u64 xt, .slice xv.ao xv.n xv.cap, .bool xg] 98)).drew := (((Below.refl _ _).alloc (Nat.le_refl _) _).alloc (by simp) _).drew
     have B6 := B.trans (Bv.mono (by have := B.size; have := HN.out; omega))
     clear V1 V2 B C1 Bv A1 A2 M1 M2 K K2
     go_wp2
     go_ret
     exact ⟨by rw [hv.out] <;> rfl, by rw [← HN.out]; exact B6⟩
   have Hd0 : Hid (xr = yr) := Classical.not_not.1 d0
   have j0 : (xr.toList == yr.toList) = true := by have d0 := Hd0.out; rw [d0]; exact beq_self_eq_true _
   clear d0
   by_cases d1 : ¬ (xf = yf)
   ·have j1 : (xf.toList == yf.toList) = false := toL_neG d1
    have hv : Hid (rvB (resR e l m) (resR e l2 m) = false) := HNO.out fun h => d1 (congrArg CV.fam h)
    clear HNO HYS d1
    go_wp2_with fail
    go_region
    ·have Bv : Below wr.heap.size wr ((wr.alloc (Obj.cells #[.string xr, .string xf, .string xq, .int .u64 xt, .slice xv.ao xv.n xv.cap, .bool xg] 98)).alloc (Obj.cells #[.string yr, .string yf, .string yq, .int .u64 yt, .slice yv.ao yv.n yv.cap, .bool yg] 98)).drew := (((Below.refl _ _).alloc (Nat.le_refl _) _).alloc (by simp) _).drew
     have B6 := B.trans (Bv.mono (by have := B.size; have := HN.out; omega))
     clear V1 V2 B C1 Bv A1 A2 M1 M2 K K2
     go_wp2
     go_ret
     exact ⟨by rw [hv.out] <;> rfl, by rw [← HN.out]; exact B6⟩
    ·have Bv : Below wr.heap.size wr ((wr.alloc (Obj.cells #[.string yr, .string yf, .string yq, .int .u64 yt, .slice yv.ao yv.n yv.cap, .bool yg] 98)).alloc (Obj.cells #[.string xr, .string xf, .string xq, .int .u64 xt, .slice xv.ao xv.n xv.cap, .bool xg] 98)).drew := (((Below.refl _ _).alloc (Nat.le_refl _) _).alloc (by simp) _).drew
     have B6 := B.trans (Bv.mono (by have := B.size; have := HN.out; omega))
     clear V1 V2 B C1 Bv A1 A2 M1 M2 K K2
     go_wp2
     go_ret
     exact ⟨by rw [hv.out] <;> rfl, by rw [← HN.out]; exact B6⟩
   have Hd1 : Hid (xf = yf) := Classical.not_not.1 d1
   have j1 : (xf.toList == yf.toList) = true := by have d1 := Hd1.out; rw [d1]; exact beq_self_eq_true _
   clear d1
   by_cases d2 : ¬ (xq = yq)
   ·have j2 : (xq.toList == yq.toList) = false := toL_neG d2
    have hv : Hid (rvB (resR e l m) (resR e l2 m) = false) := HNO.out fun h => d2 (congrArg CV.qual h)
    clear HNO HYS d2
    go_wp2_with fail
    go_region
    ·have Bv : Below wr.heap.size wr ((wr.alloc (Obj.cells #[.string xr, .string xf, .string xq, .int .u64 xt, .slice xv.ao xv.n xv.cap, .bool xg] 98)).alloc (Obj.cells #[.string yr, .string yf, .string yq, .int .u64 yt, .slice yv.ao yv.n yv.cap, .bool yg] 98)).drew := (((Below.refl _ _).alloc (Nat.le_refl _) _).alloc (by simp) _).drew
     have B6 := B.trans (Bv.mono (by have := B.size; have := HN.out; omega))
     clear V1 V2 B C1 Bv A1 A2 M1 M2 K K2
     go_wp2
     go_ret
     exact ⟨by rw [hv.out] <;> rfl, by rw [← HN.out]; exact B6⟩
    ·have Bv : Below wr.heap.size wr ((wr.alloc (Obj.cells #[.string yr, .string yf, .string yq, .int .u64 yt, .slice yv.ao yv.n yv.cap, .bool yg] 98)).alloc (Obj.cells #[.string xr, .string xf, .string xq, .int .u64 xt, .slice xv.ao xv.n xv.cap, .bool xg] 98)).drew := (((Below.refl _ _).alloc (Nat.le_refl _) _).alloc (by simp) _).drew
     have B6 := B.trans (Bv.mono (by have := B.size; have := HN.out; omega))
     clear V1 V2 B C1 Bv A1 A2 M1 M2 K K2
     go_wp2
     go_ret
     exact ⟨by rw [hv.out] <;> rfl, by rw [← HN.out]; exact B6⟩
   have Hd2 : Hid (xq = yq) := Classical.not_not.1 d2
   have j2 : (xq.toList == yq.toList) = true := by have d2 := Hd2.out; rw [d2]; exact beq_self_eq_true _
   clear d2
   by_cases d3 : ¬ (xt = yt)
   ·have j3 : ((xt : Int) == (yt : Int)) = false := by simp; omega
    have hv : Hid (rvB (resR e l m) (resR e l2 m) = false) := HNO.out fun h => d3 (congrArg CV.time h)
    clear HNO HYS d3
    go_wp2_with fail
    go_region
    ·have Bv : Below wr.heap.size wr ((wr.alloc (Obj.cells #[.string xr, .string xf, .string xq, .int .u64 xt, .slice xv.ao xv.n xv.cap, .bool xg] 98)).alloc (Obj.cells #[.string yr, .string yf, .string yq, .int .u64 yt, .slice yv.ao yv.n yv.cap, .bool yg] 98)).drew := (((Below.refl _ _).alloc (Nat.le_refl _) _).alloc (by simp) _).drew
     have B6 := B.trans (Bv.mono (by have := B.size; have := HN.out; omega))
     clear V1 V2 B C1 Bv A1 A2 M1 M2 K K2
     go_wp2
     go_ret
     exact ⟨by rw [hv.out] <;> rfl, by rw [← HN.out]; exact B6⟩
    ·have Bv : Below wr.heap.size wr ((wr.alloc (Obj.cells #[.string yr, .string yf, .string yq, .int .u64 yt, .slice yv.ao yv.n yv.cap, .bool yg] 98)).alloc (Obj.cells #[.string xr, .string xf, .string xq, .int .u64 xt, .slice xv.ao xv.n xv.cap, .bool xg] 98)).drew := (((Below.refl _ _).alloc (Nat.le_refl _) _).alloc (by simp) _).drew
     have B6 := B.trans (Bv.mono (by have := B.size; have := HN.out; omega))
     clear V1 V2 B C1 Bv A1 A2 M1 M2 K K2
     go_wp2
     go_ret
     exact ⟨by rw [hv.out] <;> rfl, by rw [← HN.out]; exact B6⟩
   have Hd3 : Hid (xt = yt) := Classical.not_not.1 d3
   have j3 : ((xt : Int) == (yt : Int)) = true := by have d3 := Hd3.out; simp; omega
   clear d3
   by_cases d4 : ¬ (xg = yg)
   ·have j4 : (xg == yg) = false := by simp [d4]
    have hv : Hid (rvB (resR e l m) (resR e l2 m) = false) := HNO.out fun h => d4 (congrArg CV.gone h)
    clear HNO HYS d4
    go_wp2_with fail
    go_region
    ·have Bv : Below wr.heap.size wr ((wr.alloc (Obj.cells #[.string xr, .string xf, .string xq, .int .u64 xt, .slice xv.ao xv.n xv.cap, .bool xg] 98)).alloc (Obj.cells #[.string yr, .string yf, .string yq, .int .u64 yt, .slice yv.ao yv.n yv.cap, .bool yg] 98)).drew := (((Below.refl _ _).alloc (Nat.le_refl _) _).alloc (by simp) _).drew
     have B6 := B.trans (Bv.mono (by have := B.size; have := HN.out; omega))
     clear V1 V2 B C1 Bv A1 A2 M1 M2 K K2
     go_wp2
     go_ret
     exact ⟨by rw [hv.out] <;> rfl, by rw [← HN.out]; exact B6⟩
    ·have Bv : Below wr.heap.size wr ((wr.alloc (Obj.cells #[.string yr, .string yf, .string yq, .int .u64 yt, .slice yv.ao yv.n yv.cap, .bool yg] 98)).alloc (Obj.cells #[.string xr, .string xf, .string xq, .int .u64 xt, .slice xv.ao xv.n xv.cap, .bool xg] 98)).drew := (((Below.refl _ _).alloc (Nat.le_refl _) _).alloc (by simp) _).drew
     have B6 := B.trans (Bv.mono (by have := B.size; have := HN.out; omega))
     clear V1 V2 B C1 Bv A1 A2 M1 M2 K K2
     go_wp2
     go_ret
     exact ⟨by rw [hv.out] <;> rfl, by rw [← HN.out]; exact B6⟩
   have Hd4 : Hid (xg = yg) := Classical.not_not.1 d4
   have j4 : (xg == yg) = true := by have d4 := Hd4.out; simp [d4]
   clear d4
   have HD : Hid (xr = yr ∧ xf = yf ∧ xq = yq ∧ xt = yt ∧ xg = yg) := ⟨Hd0.out, Hd1.out, Hd2.out, Hd3.out, Hd4.out⟩
   clear Hd0 Hd1 Hd2 Hd3 Hd4
   go_wp2_with fail
   go_region
   ·have Bv : Below wr.heap.size wr ((wr.alloc (Obj.cells #[.string xr, .string xf, .string xq, .int .u64 xt, .slice xv.ao xv.n xv.cap, .bool xg] 98)).alloc (Obj.cells #[.string yr, .string yf, .string yq, .int .u64 yt, .slice yv.ao yv.n yv.cap, .bool yg] 98)).drew := (((Below.refl _ _).alloc (Nat.le_refl _) _).alloc (by simp) _).drew
    have S1 := V1.below Bv
    have S2 := V2.below Bv
    have B6 := B.trans (Bv.mono (by have := B.size; have := HN.out; omega))
    have D6 := C1.trans (Bv.mono C1.size)
    clear V1 V2 B C1 Bv A1 A2 M1 M2 K K2
    go_wp2_with fail
    refine (same_any _ _ _ _ _ _ _ _ _ S1 S2).mono ?_
    rintro x w7 ⟨rfl, q, hw⟩
    have B7 : Below N w w7 := by rw [hw]; exact belN B6 q
    have D7 : Below w1.heap.size w1 w7 := by rw [hw]; exact belN D6 q
    clear hw S1 S2 B6 D6
    by_cases d5 : xv.xs = yv.xs
    ·rw [decide_eq_true d5]
     have HE : Hid ((l.take (k + 1)).map CA.c = (l2.take (k + 1)).map CA.c) := HYS.out (by obtain ⟨h0, h1, h2, h3, h4⟩ := HD.out; show (⟨_, _, _, _, _, _⟩ : CV) = ⟨_, _, _, _, _, _⟩; rw [h0, h1, h2, h3, h4, d5])
     clear d5 HNO HYS
     go_wp2
     go_roundw
     case rel => exact ⟨k + 1, by omega, by go_num, B7, D7, HE⟩
     case measure => simp [intOf]; omega
    ·rw [decide_eq_false d5]
     have hv : Hid (rvB (resR e l m) (resR e l2 m) = false) := HNO.out fun h => d5 (congrArg CV.value h)
     clear d5 HNO HYS
     go_wp2
     go_ret
     exact ⟨by rw [hv.out] <;> rfl, by rw [← HN.out]; exact B7⟩
   ·have Bv : Below wr.heap.size wr ((wr.alloc (Obj.cells #[.string yr, .string yf, .string yq, .int .u64 yt, .slice yv.ao yv.n yv.cap, .bool yg] 98)).alloc (Obj.cells #[.string xr, .string xf, .string xq, .int .u64 xt, .slice xv.ao xv.n xv.cap, .bool xg] 98)).drew := (((Below.refl _ _).alloc (Nat.le_refl _) _).alloc (by simp) _).drew
    have S1 := V1.below Bv
    have S2 := V2.below Bv
    have B6 := B.trans (Bv.mono (by have := B.size; have := HN.out; omega))
    have D6 := C1.trans (Bv.mono C1.size)
    clear V1 V2 B C1 Bv A1 A2 M1 M2 K K2
    go_wp2_with fail
    refine (same_any _ _ _ _ _ _ _ _ _ S1 S2).mono ?_
    rintro x w7 ⟨rfl, q, hw⟩
    have B7 : Below N w w7 := by rw [hw]; exact belN B6 q
    have D7 : Below w1.heap.size w1 w7 := by rw [hw]; exact belN D6 q
    clear hw S1 S2 B6 D6
    by_cases d5 : xv.xs = yv.xs
    ·rw [decide_eq_true d5]
     have HE : Hid ((l.take (k + 1)).map CA.c = (l2.take (k + 1)).map CA.c) := HYS.out (by obtain ⟨h0, h1, h2, h3, h4⟩ := HD.out; show (⟨_, _, _, _, _, _⟩ : CV) = ⟨_, _, _, _, _, _⟩; rw [h0, h1, h2, h3, h4, d5])
     clear d5 HNO HYS
     go_wp2
     go_roundw
     case rel => exact ⟨k + 1, by omega, by go_num, B7, D7, HE⟩
     case measure => simp [intOf]; omega
    ·rw [decide_eq_false d5]
     have hv : Hid (rvB (resR e l m) (resR e l2 m) = false) := HNO.out fun h => d5 (congrArg CV.value h)
     clear d5 HNO HYS
     go_wp2
     go_ret
     exact ⟨by rw [hv.out] <;> rfl, by rw [← HN.out]; exact B7⟩
  ·have i6 : (n : Int) ≤ (k : Int) := by omega
   have hv : Hid (rvB (resR e l m) (resR e l2 m) = true) := (rvB_iff _ _).2 (by
    have h := HTK.out
    rw [List.take_of_length_le (by omega), List.take_of_length_le (by omega)] at h
    unfold resR
    rw [h])
   clear HTK
   go_wp2
   go_ret
   exact ⟨by rw [hv.out] <;> rfl, by rw [← HN.out]; exact B⟩
end Go.Proofs.YtnbejckdhdbamaaGreat

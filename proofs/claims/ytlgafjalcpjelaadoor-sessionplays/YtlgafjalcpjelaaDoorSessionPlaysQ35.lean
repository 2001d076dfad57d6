/-
  Texts in one: RResults.
-/
import Derived.Test.YtlgafjalcpjelaaDoorSessionPlaysQ3
import Derived.Test.YtlgafjalcpjelaaDoorSessionPlaysQ11
namespace Go.Proofs.YtlgafjalcpjelaaDoor
open Go.RowKit
set_option maxRecDepth 100000 in
set_option maxHeartbeats 4000000 in
theorem rresults_any (w : World) (e : Int) (ao bo : Option Addr) (n cap cap2 : Nat) (l l2 : List CA) (m : Bool) (L : CL w ao n cap l) (L2 : CL w bo n cap2 l2) (hl : l.map CA.c = l2.map CA.c) (hn : n ≤ 1000) :
    Calls Tryd.prog 13 #[resV e ao n cap m, resV e bo n cap2 m] w fun x w' => x = .returned (.bool true) ∧ Below w.heap.size w w' := by
  have l1 : l.length = n := L.len
  have l3 : l2.length = n := L2.len
  have B : Below w.heap.size w ((w.alloc (Obj.cells #[.int .i64 e, .slice ao n cap, .bool m] 37)).alloc (Obj.cells #[.int .i64 e, .slice bo n cap2, .bool m] 37)) := ((Below.refl _ w).alloc (Nat.le_refl _) _).alloc (by simp) _
  have K : RC ((w.alloc (Obj.cells #[.int .i64 e, .slice ao n cap, .bool m] 37)).alloc (Obj.cells #[.int .i64 e, .slice bo n cap2, .bool m] 37)) w.heap.size e ao n cap m := (heap_alloc_old _ _ (by simp)).trans (heap_alloc_new w _)
  have K2 : RC ((w.alloc (Obj.cells #[.int .i64 e, .slice ao n cap, .bool m] 37)).alloc (Obj.cells #[.int .i64 e, .slice bo n cap2, .bool m] 37)) (w.heap.size + 1) e bo n cap2 m := by
    have := heap_alloc_new (w.alloc (Obj.cells #[.int .i64 e, .slice ao n cap, .bool m] 37)) (Obj.cells #[.int .i64 e, .slice bo n cap2, .bool m] 37)
    unfold RC
    simpa using this
  have M1 := L.below B
  have M2 := L2.below B
  have HL : Hid (l.map CA.c = l2.map CA.c) := hl
  unfold resV
  clear L L2 hl
  go_enter Tryd.func13, Tryd.ntmps13
  go_wp2_with fail
  obtain ⟨w1, hw1⟩ : ∃ W, W = (w.alloc (Obj.cells #[.int .i64 e, .slice ao n cap, .bool m] 37)).alloc (Obj.cells #[.int .i64 e, .slice bo n cap2, .bool m] 37) := ⟨_, rfl⟩
  obtain ⟨N, hN⟩ : ∃ N, N = w.heap.size := ⟨_, rfl⟩
  rw [← hw1] at B K K2 M1 M2 ⊢
  rw [← hN] at B K K2 ⊢
  have HN : Hid (N = w.heap.size) := hN
  clear hw1 hN
  go_loopw [5, 6, 7] (fun i _ _ wr => ∃ k : Nat, k ≤ n ∧ i = .int .i64 k ∧ Below N w wr ∧ Below w1.heap.size w1 wr) (fun i _ _ _ => n - (intOf i).toNat)
  case atStart => exact ⟨0, Nat.zero_le _, rfl, B, Below.refl _ _⟩
  case round =>
    clear B
    obtain ⟨k, hk, rfl, B, C1⟩ := hrel
    have A1 := K.keep C1
    have A2 := K2.keep C1
    have r1 := A1.c1
    have r2 := A2.c1
    by_cases hlt : k < n
    · obtain ⟨b1, o1, rfl, hc1⟩ := M1.at (by omega)
      obtain ⟨b2, o2, rfl, hc2⟩ := M2.at (by omega)
      have X1 := (hc1 k (by omega)).below C1
      have X2 := (hc2 k (by omega)).below C1
      have ok1 : (l[k]).ok wr := (M1.ok _ (List.getElem_mem (by omega))).below C1
      have ok2 : (l2[k]).ok wr := (M2.ok _ (List.getElem_mem (by omega))).below C1
      have hxy : (l[k]).c = (l2[k]).c := by
        have e1 : (l.map CA.c)[k]? = some (l[k]).c := by simp [show k < l.length by omega]
        have e2 : (l2.map CA.c)[k]? = some (l2[k]).c := by simp [show k < l2.length by omega]
        rw [HL.out] at e1
        exact Option.some.inj (e1.symm.trans e2)
      obtain ⟨x, hx⟩ : ∃ c : CA, c = l[k] := ⟨_, rfl⟩
      obtain ⟨y, hy⟩ : ∃ c : CA, c = l2[k] := ⟨_, rfl⟩
      rw [← hx] at X1 ok1 hxy
      rw [← hy] at X2 ok2 hxy
      clear hx hy hc1 hc2
      obtain ⟨xr, xf, xq, xt, xv, xg⟩ := x
      obtain ⟨yr, yf, yq, yt, yv, yg⟩ := y
      simp only [CA.c, CV.mk.injEq] at hxy
      obtain ⟨rfl, rfl, rfl, rfl, hv, rfl⟩ := hxy
      have V1 := ok1.va
      have V2 := ok2.va
      rw [hv] at V1
      simp only at V1 V2
      clear ok1 ok2 hv
      have i6 : (k : Int) < (n : Int) := by omega
      obtain ⟨p0, p1, p2, p3, p4, p5⟩ := X1
      obtain ⟨q0, q1, q2, q3, q4, q5⟩ := X2
      simp only at p0 p1 p2 p3 p4 p5 q0 q1 q2 q3 q4 q5
      have a1 := A1.lt
      have a2 := A2.lt
      have b1l := World.block_lt_of_cell? wr _ p0
      have b2l := World.block_lt_of_cell? wr _ q0
      simp only at b1l b2l
      go_wp2_with fail
      go_region
      · have Bv : Below wr.heap.size wr ((wr.alloc (Obj.cells #[.string xr, .string xf, .string xq, .int .u64 xt, .slice xv.ao xv.n xv.cap, .bool xg] 71)).alloc (Obj.cells #[.string xr, .string xf, .string xq, .int .u64 xt, .slice yv.ao yv.n yv.cap, .bool xg] 71)).drew := (((Below.refl _ _).alloc (Nat.le_refl _) _).alloc (by simp) _).drew
        have S1 := V1.below Bv
        have S2 := V2.below Bv
        have B6 := B.trans (Bv.mono (by have := B.size; have := HN.out; omega))
        have D6 := C1.trans (Bv.mono C1.size)
        clear V1 V2 B C1 Bv A1 A2 M1 M2 K K2
        go_wp2_with fail
        refine (same_any _ _ _ _ _ _ _ _ _ S1 S2).mono ?_
        rintro x w7 ⟨rfl, q, hw⟩
        rw [decide_eq_true rfl]
        have B7 : Below N w w7 := by rw [hw]; exact belN B6 q
        have D7 : Below w1.heap.size w1 w7 := by rw [hw]; exact belN D6 q
        clear hw S1 S2 B6 D6
        go_wp2
        go_roundw
        case rel => exact ⟨k + 1, by omega, by go_num, B7, D7⟩
        case measure => simp [intOf]; omega
      · have Bv : Below wr.heap.size wr ((wr.alloc (Obj.cells #[.string xr, .string xf, .string xq, .int .u64 xt, .slice yv.ao yv.n yv.cap, .bool xg] 71)).alloc (Obj.cells #[.string xr, .string xf, .string xq, .int .u64 xt, .slice xv.ao xv.n xv.cap, .bool xg] 71)).drew := (((Below.refl _ _).alloc (Nat.le_refl _) _).alloc (by simp) _).drew
        have S1 := V1.below Bv
        have S2 := V2.below Bv
        have B6 := B.trans (Bv.mono (by have := B.size; have := HN.out; omega))
        have D6 := C1.trans (Bv.mono C1.size)
        clear V1 V2 B C1 Bv A1 A2 M1 M2 K K2
        go_wp2_with fail
        refine (same_any _ _ _ _ _ _ _ _ _ S1 S2).mono ?_
        rintro x w7 ⟨rfl, q, hw⟩
        rw [decide_eq_true rfl]
        have B7 : Below N w w7 := by rw [hw]; exact belN B6 q
        have D7 : Below w1.heap.size w1 w7 := by rw [hw]; exact belN D6 q
        clear hw S1 S2 B6 D6
        go_wp2
        go_roundw
        case rel => exact ⟨k + 1, by omega, by go_num, B7, D7⟩
        case measure => simp [intOf]; omega
    · have i6 : (n : Int) ≤ (k : Int) := by omega
      go_wp2
      go_ret
      exact ⟨rfl, by rw [← HN.out]; exact B⟩
end Go.Proofs.YtlgafjalcpjelaaDoor

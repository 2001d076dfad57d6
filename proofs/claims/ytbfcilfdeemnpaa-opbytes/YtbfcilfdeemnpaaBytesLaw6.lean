/-
  OpBytes.
-/
import Derived.Test.YtbfcilfdeemnpaaLLight
import Derived.Test.YtbfcilfdeemnpaaRReq
namespace Go.Proofs.Ytbfcilfdeemnpaa
open Go.RowKit

set_option maxRecDepth 100000 in
set_option maxHeartbeats 16000000 in
theorem opBytes_any (w : World) (cl st : Nat) (y : OD 4) (hcl : cl < 18446744073709551616) (hst : st < 18446744073709551616) (hy : OW w 4 y) (sm : OSm 4 y) :
    Calls Try.prog 3 #[qVal cl st (topD 4 y)] w fun e w' => e = .returned (.bool true) ∧ Below w.heap.size w w' := by
  obtain ⟨o, pl⟩ := y
  obtain ⟨l, he⟩ : ∃ l : List OA, l = pl.map (topD 3) := ⟨_, rfl⟩
  have B : Below w.heap.size w (w.alloc (Obj.cells #[.int .u64 cl, .int .u64 st, .int .i64 o.kind, .string o.row, .string o.fam, .string o.qual, .int .u64 o.time, .string o.to, .slice o.va.ao o.va.n o.va.cap, .slice o.wa.ao o.wa.n o.wa.cap, .bool o.has, .slice o.so o.sn o.sc] 30)) := (Below.refl _ w).alloc (Nat.le_refl _) _
  have K : QC (w.alloc (Obj.cells #[.int .u64 cl, .int .u64 st, .int .i64 o.kind, .string o.row, .string o.fam, .string o.qual, .int .u64 o.time, .string o.to, .slice o.va.ao o.va.n o.va.cap, .slice o.wa.ao o.wa.n o.wa.cap, .bool o.has, .slice o.so o.sn o.sc] 30)) w.heap.size cl st o := heap_alloc_new w _
  have W := hy.below B
  clear hy
  rw [show qVal cl st (topD 4 (o, pl)) = .agg #[.int .u64 cl, .int .u64 st, .int .i64 o.kind, .string o.row, .string o.fam, .string o.qual, .int .u64 o.time, .string o.to, .slice o.va.ao o.va.n o.va.cap, .slice o.wa.ao o.wa.n o.wa.cap, .bool o.has, .slice o.so o.sn o.sc] from rfl]
  go_enter Try.func3, Try.ntmps3
  go_wp2_with fail
  obtain ⟨w1, hw1⟩ : ∃ W, W = w.alloc (Obj.cells #[.int .u64 cl, .int .u64 st, .int .i64 o.kind, .string o.row, .string o.fam, .string o.qual, .int .u64 o.time, .string o.to, .slice o.va.ao o.va.n o.va.cap, .slice o.wa.ao o.wa.n o.wa.cap, .bool o.has, .slice o.so o.sn o.sc] 30) := ⟨_, rfl⟩
  obtain ⟨N, hN⟩ : ∃ N, N = w.heap.size := ⟨_, rfl⟩
  rw [← hw1] at B K W ⊢
  rw [← hN] at B K ⊢
  have HN : Hid (N = w.heap.size) := hN
  clear hw1 hN
  have LC := light_any 4 w1 (o, pl) W sm (by omega)
  rw [show (((4 : Nat) : Int) - 1) = 3 from rfl] at LC
  refine LC.mono ?_
  rintro e w2 ⟨rfl, C⟩
  have K2 := K.keep C
  have B2 := B.trans (C.mono (by have := B.size; have := HN.out; omega))
  have W2 := W.below C
  clear K B W LC sm C
  cases hb : lightD 4 (o, pl) with
  | false =>
    go_wp2_with (go_at_call 10; refine (alive6 _).mono ?_; rintro e wz ⟨rfl, Cz⟩; have Bz := B2.trans (Cz.mono (by have := B2.size; have := HN.out; omega)))
    go_ret
    exact ⟨rfl, by rw [← HN.out]; exact Bz⟩
  | true =>
    have flat : ∀ V, OW V 4 (o, pl) → OWL V 0 o.so o.sn o.sc l := fun V h => by rw [he]; exact h.subs.flat
    have HFL : Hid (∀ V, OW V 4 (o, pl) → OWL V 0 o.so o.sn o.sc l) := flat
    clear flat
    obtain ⟨b, hbb⟩ : ∃ b, b = rightO o.s (l.map sn0) := ⟨_, rfl⟩
    obtain ⟨ys, hys⟩ : ∃ ys, ys = putA o l := ⟨_, rfl⟩
    have HBB : Hid (b = rightO o.s (l.map sn0)) := hbb
    have HYS : Hid (ys = putA o l) := hys
    have HE : Hid (l = pl.map (topD 3)) := he
    clear hbb hys he
    obtain ⟨q0, q1, q2, q3, q4, q5, q6, q7, q8, q9, q10, q11⟩ := K2.cs
    go_wp2_with fail
    clear q0 q1 q2 q3 q4 q5 q6 q7 q8 q9 q10 q11
    refine (pbytes6_any w2 o l W2.1 (HFL.out w2 W2)).mono ?_
    rintro e w3 ⟨⟨b3, m3, c3, rfl, S3⟩, C⟩
    rw [← HBB.out, ← HYS.out] at S3
    rw [← HBB.out]
    have K3 := K2.keep C
    have B3 := B2.trans (C.mono (by have := B2.size; have := HN.out; omega))
    have W3 := W2.below C
    clear K2 B2 W2
    clear C
    obtain ⟨q0, q1, q2, q3, q4, q5, q6, q7, q8, q9, q10, q11⟩ := K3.cs
    go_wp2_with fail
    clear q0 q1 q2 q3 q4 q5 q6 q7 q8 q9 q10 q11
    refine (rbytes6_any 3 w3 o pl W3 hb l HE.out).mono ?_
    rintro e w4 ⟨⟨b4, m4, c4, rfl, S4⟩, C⟩
    rw [← HBB.out, ← HYS.out] at S4
    rw [← HBB.out]
    have T4 := S3.below C
    have K4 := K3.keep C
    have B4 := B3.trans (C.mono (by have := B3.size; have := HN.out; omega))
    have W4 := W3.below C
    clear K3 B3 W3
    clear C S3
    obtain ⟨q0, q1, q2, q3, q4, q5, q6, q7, q8, q9, q10, q11⟩ := K4.cs
    go_wp2_with fail
    clear q0 q1 q2 q3 q4 q5 q6 q7 q8 q9 q10 q11
    refine (preq_any w4 cl st o l hcl hst W4.1 (HFL.out w4 W4)).mono ?_
    rintro e w5 ⟨⟨b5, m5, c5, rfl, S5⟩, C⟩
    rw [← HBB.out, ← HYS.out] at S5
    rw [← HBB.out]
    have S4 := S4.below C
    have T4 := T4.below C
    have K5 := K4.keep C
    have B5 := B4.trans (C.mono (by have := B4.size; have := HN.out; omega))
    have W5 := W4.below C
    clear K4 B4 W4
    clear C
    obtain ⟨q0, q1, q2, q3, q4, q5, q6, q7, q8, q9, q10, q11⟩ := K5.cs
    go_wp2_with fail
    clear q0 q1 q2 q3 q4 q5 q6 q7 q8 q9 q10 q11
    refine (rreq_any 3 w5 cl st o pl hcl hst W5 hb l HE.out).mono ?_
    rintro e w6 ⟨⟨b6, m6, c6, rfl, S6⟩, C⟩
    rw [← HBB.out, ← HYS.out] at S6
    rw [← HBB.out]
    have S4 := S4.below C
    have T4 := T4.below C
    have S5 := S5.below C
    have B6 := B5.trans (C.mono (by have := B5.size; have := HN.out; omega))
    clear C K5 B5 W5 HFL HE HBB HYS
    obtain ⟨k1, hk1⟩ : ∃ k, k = kindO b := ⟨_, rfl⟩
    obtain ⟨k2, hk2⟩ : ∃ k, k = kq cl st b := ⟨_, rfl⟩
    obtain ⟨z1, hz1⟩ : ∃ z : List Int, z = (if b then ys else []) := ⟨_, rfl⟩
    obtain ⟨z2, hz2⟩ : ∃ z : List Int, z = (if kq cl st b = 0 then enc cl ++ (enc st ++ ys) else []) := ⟨_, rfl⟩
    rw [← hz1] at S4 T4
    rw [← hz2] at S5 S6
    rw [← hk1, ← hk2]
    clear hk1 hk2 hz1 hz2
    go_wp2_with fail
    refine (same_any w6 b3 b4 m3 c3 m4 c4 z1 z1 T4 S4).mono ?_
    rintro x w7 ⟨rfl, q, hw⟩
    rw [decide_eq_true rfl]
    have B7 : Below N w w7 := by rw [hw]; exact belN B6 q
    have E7 : Below w6.heap.size w6 w7 := by rw [hw]; exact belN (Below.refl _ _) q
    have S5 := S5.below E7
    have S6 := S6.below E7
    clear hw S4 T4 E7 B6
    go_wp2_with fail
    refine (same_any w7 b5 b6 m5 c5 m6 c6 z2 z2 S5 S6).mono ?_
    rintro x w8 ⟨rfl, q2, hw⟩
    rw [decide_eq_true rfl]
    have B8 : Below N w w8 := by rw [hw]; exact belN B7 q2
    clear hw S5 S6
    go_wp2_with (go_at_call 10; refine (alive6 _).mono ?_; rintro e wz ⟨rfl, Cz⟩; have Bz := B8.trans (Cz.mono (by have := B8.size; have := HN.out; omega)))
    go_ret
    exact ⟨rfl, by rw [← HN.out]; exact Bz⟩
end Go.Proofs.Ytbfcilfdeemnpaa

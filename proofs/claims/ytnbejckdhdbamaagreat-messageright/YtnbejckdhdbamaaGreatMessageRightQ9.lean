/-
  Texts in one: PReq, POr2, RBytesB, Own10, HRegB, ScopeMid, PTakeM, KeyT.
-/
import Derived.Test.YtnbejckdhdbamaaGreatMessageRightQFL
import Derived.Test.YtnbejckdhdbamaaGreatMessageRightQ8
import Derived.Test.YtnbejckdhdbamaaGreatMessageRightQ1
import Derived.Test.YtnbejckdhdbamaaGreatMessageRightQ0
import Derived.Test.YtnbejckdhdbamaaGreatMessageRightQ3
namespace Go.Proofs.YtnbejckdhdbamaaGreat
open Go.RowKit
def QC (V : World) (p : Nat) (cl st : Nat) (o : OA) : Prop := V.heap[p]? = some (.cells #[.int .u64 cl, .int .u64 st, .int .i64 o.kind, .string o.row, .string o.fam, .string o.qual, .int .u64 o.time, .string o.to, .slice o.va.ao o.va.n o.va.cap, .slice o.wa.ao o.wa.n o.wa.cap, .bool o.has, .slice o.so o.sn o.sc] 60)
theorem QC.lt {V : World} {p cl st : Nat} {o : OA} (h : QC V p cl st o) : p < V.heap.size := (Array.getElem?_eq_some_iff.1 h).1
theorem QC.keep {V V' : World} {p cl st : Nat} {o : OA} (h : QC V p cl st o) (hb : Below V.heap.size V V') : QC V' p cl st o := (hb.block p h.lt).trans h
structure QCs (V : World) (p : Nat) (cl st : Nat) (o : OA) : Prop where
 c0 : V.cell? ⟨p, 0, none⟩ = some (.int .u64 cl)
 c1 : V.cell? ⟨p, 1, none⟩ = some (.int .u64 st)
 c2 : V.cell? ⟨p, 2, none⟩ = some (.int .i64 o.kind)
 c3 : V.cell? ⟨p, 3, none⟩ = some (.string o.row)
 c4 : V.cell? ⟨p, 4, none⟩ = some (.string o.fam)
 c5 : V.cell? ⟨p, 5, none⟩ = some (.string o.qual)
 c6 : V.cell? ⟨p, 6, none⟩ = some (.int .u64 o.time)
 c7 : V.cell? ⟨p, 7, none⟩ = some (.string o.to)
 c8 : V.cell? ⟨p, 8, none⟩ = some (.slice o.va.ao o.va.n o.va.cap)
 c9 : V.cell? ⟨p, 9, none⟩ = some (.slice o.wa.ao o.wa.n o.wa.cap)
 c10 : V.cell? ⟨p, 10, none⟩ = some (.bool o.has)
 c11 : V.cell? ⟨p, 11, none⟩ = some (.slice o.so o.sn o.sc)
theorem QC.cs {V : World} {p cl st : Nat} {o : OA} (h : QC V p cl st o) : QCs V p cl st o :=
 ⟨cell_of_row V p 0 _ _ _ h, cell_of_row V p 1 _ _ _ h, cell_of_row V p 2 _ _ _ h, cell_of_row V p 3 _ _ _ h, cell_of_row V p 4 _ _ _ h, cell_of_row V p 5 _ _ _ h, cell_of_row V p 6 _ _ _ h, cell_of_row V p 7 _ _ _ h, cell_of_row V p 8 _ _ _ h, cell_of_row V p 9 _ _ _ h, cell_of_row V p 10 _ _ _ h, cell_of_row V p 11 _ _ _ h⟩
def kq (cl st : Nat) (b : Bool) : Int := if cl = 0 ∨ st = 0 then 1 else kindO b
def ReqPost (w : World) (k : Int) (ys : List Int) (e : Ending) (w' : World) : Prop :=
 (∃ bo m c, e = .returned (.tuple #[.slice bo m c, .int .i64 k]) ∧ Sl w' bo m c (if k = 0 then ys else [])) ∧ Below w.heap.size w w'
theorem kq_zero {cl st : Nat} {b : Bool} (h : kq cl st b = 0) : cl ≠ 0 ∧ st ≠ 0 ∧ b = true := by
 unfold kq kindO at h
 by_cases c : cl = 0 ∨ st = 0
 ·rw [if_pos c] at h; omega
 ·rw [if_neg c] at h
  cases b with
  | true => exact ⟨by omega, by omega, rfl⟩
  | false => simp at h
set_option maxRecDepth 100000 in
set_option maxHeartbeats 4000000 in
theorem prq_any (w : World) (cl st : Nat) (o : OA) (l : List OA) (h : o.ok w) (hs : OWL w 0 o.so o.sn o.sc l) :
  Calls Tryz.prog 88 #[qVal cl st o] w fun e w' => e = .returned (.int .i64 (kq cl st (rightO o.s (l.map sn0)))) ∧ Below w.heap.size w w' := by
 have B : Below w.heap.size w (w.alloc (Obj.cells #[.int .u64 cl, .int .u64 st, .int .i64 o.kind, .string o.row, .string o.fam, .string o.qual, .int .u64 o.time, .string o.to, .slice o.va.ao o.va.n o.va.cap, .slice o.wa.ao o.wa.n o.wa.cap, .bool o.has, .slice o.so o.sn o.sc] 60)) := (Below.refl _ w).alloc (Nat.le_refl _) _
 have h1 := h.below B
 have hs1 := hs.below B
 have CR := pRight_any _ o l h1 hs1
 clear h hs h1 hs1
 rw [show qVal cl st o = .agg #[.int .u64 cl, .int .u64 st, .int .i64 o.kind, .string o.row, .string o.fam, .string o.qual, .int .u64 o.time, .string o.to, .slice o.va.ao o.va.n o.va.cap, .slice o.wa.ao o.wa.n o.wa.cap, .bool o.has, .slice o.so o.sn o.sc] from rfl]
 by_cases z1 : cl = 0
 ·have i1 : ((cl : Int) == 0) = true := by simp; omega
  have hv : Hid (kq cl st (rightO o.s (l.map sn0)) = 1) := if_pos (.inl z1)
  clear CR z1
  go_enter Tryz.func88, Tryz.ntmps88
  go_wp2
  go_ret
  exact ⟨by rw [hv.out] <;> rfl, B⟩
 have i1 : ((cl : Int) == 0) = false := by simp; omega
 by_cases z2 : st = 0
 ·have i2 : ((st : Int) == 0) = true := by simp; omega
  have hv : Hid (kq cl st (rightO o.s (l.map sn0)) = 1) := if_pos (.inr z2)
  clear CR z1 z2
  go_enter Tryz.func88, Tryz.ntmps88
  go_wp2
  go_ret
  exact ⟨by rw [hv.out] <;> rfl, B⟩
 have i2 : ((st : Int) == 0) = false := by simp; omega
 have hv : Hid (kq cl st (rightO o.s (l.map sn0)) = kindO (rightO o.s (l.map sn0))) := if_neg (by omega)
 clear z1 z2
 go_enter Tryz.func88, Tryz.ntmps88
 go_wp2_with (go_at_call 114; refine CR.mono ?_; rintro e w2 ⟨rfl, C⟩; have D := B.trans (C.mono B.size))
 go_ret
 exact ⟨by rw [hv.out] <;> rfl, D⟩
set_option maxRecDepth 100000 in
set_option maxHeartbeats 8000000 in
theorem preq_any (w : World) (cl st : Nat) (o : OA) (l : List OA) (hcl : cl < 18446744073709551616) (hst : st < 18446744073709551616) (h : o.ok w) (hs : OWL w 0 o.so o.sn o.sc l) :
  Calls Tryz.prog 54 #[qVal cl st o] w (ReqPost w (kq cl st (rightO o.s (l.map sn0))) (enc cl ++ (enc st ++ putA o l))) := by
 have B : Below w.heap.size w (w.alloc (Obj.cells #[.int .u64 cl, .int .u64 st, .int .i64 o.kind, .string o.row, .string o.fam, .string o.qual, .int .u64 o.time, .string o.to, .slice o.va.ao o.va.n o.va.cap, .slice o.wa.ao o.wa.n o.wa.cap, .bool o.has, .slice o.so o.sn o.sc] 60)) := (Below.refl _ w).alloc (Nat.le_refl _) _
 have K : QC (w.alloc (Obj.cells #[.int .u64 cl, .int .u64 st, .int .i64 o.kind, .string o.row, .string o.fam, .string o.qual, .int .u64 o.time, .string o.to, .slice o.va.ao o.va.n o.va.cap, .slice o.wa.ao o.wa.n o.wa.cap, .bool o.has, .slice o.so o.sn o.sc] 60)) w.heap.size cl st o := heap_alloc_new w _
 have h1 := h.below B
 have hs1 := hs.below B
 have hp : rightO o.s (l.map sn0) = true → o.s.fits ∧ l.length ≤ 8 ∧ (∀ x ∈ l, x.s.fits) ∧ ∀ x ∈ l, x.sn = 0 := fun q => right_parts q h hs.ok
 clear h hs
 rw [show qVal cl st o = .agg #[.int .u64 cl, .int .u64 st, .int .i64 o.kind, .string o.row, .string o.fam, .string o.qual, .int .u64 o.time, .string o.to, .slice o.va.ao o.va.n o.va.cap, .slice o.wa.ao o.wa.n o.wa.cap, .bool o.has, .slice o.so o.sn o.sc] from rfl]
 go_enter Tryz.func54, Tryz.ntmps54
 go_wp2_with fail
 obtain ⟨w1, hw1⟩ : ∃ W, W = w.alloc (Obj.cells #[.int .u64 cl, .int .u64 st, .int .i64 o.kind, .string o.row, .string o.fam, .string o.qual, .int .u64 o.time, .string o.to, .slice o.va.ao o.va.n o.va.cap, .slice o.wa.ao o.wa.n o.wa.cap, .bool o.has, .slice o.so o.sn o.sc] 60) := ⟨_, rfl⟩
 obtain ⟨N, hN⟩ : ∃ N, N = w.heap.size := ⟨_, rfl⟩
 rw [← hw1] at B K h1 hs1 ⊢
 rw [← hN] at B K ⊢
 have HN : Hid (N = w.heap.size) := hN
 clear hw1 hN
 refine (prq_any w1 cl st o l h1 hs1).mono ?_
 rintro e w2 ⟨rfl, C⟩
 have K2 := K.keep C
 have B2 := B.trans (C.mono (by have := B.size; have := K.lt; omega))
 have h2 := h1.below C
 have hs2 := hs1.below C
 clear C K B h1 hs1
 by_cases hk : kq cl st (rightO o.s (l.map sn0)) = 0
 ·obtain ⟨_, _, hb⟩ := kq_zero hk
  obtain ⟨p1, p2, p3, p4⟩ := hp hb
  rw [hk]
  have g1 := enc_length hcl
  have g2 := enc_length hst
  go_wp2_with fail
  have HS : Hid (∀ V, Below w2.heap.size w2 V → V.cell? ⟨N, 0, none⟩ = some (.int .u64 cl) ∧ V.cell? ⟨N, 1, none⟩ = some (.int .u64 st) ∧ V.cell? ⟨N, 2, none⟩ = some (.int .i64 o.kind) ∧ V.cell? ⟨N, 3, none⟩ = some (.string o.row) ∧ V.cell? ⟨N, 4, none⟩ = some (.string o.fam) ∧ V.cell? ⟨N, 5, none⟩ = some (.string o.qual) ∧ V.cell? ⟨N, 6, none⟩ = some (.int .u64 o.time) ∧ V.cell? ⟨N, 7, none⟩ = some (.string o.to) ∧ V.cell? ⟨N, 8, none⟩ = some (.slice o.va.ao o.va.n o.va.cap) ∧ V.cell? ⟨N, 9, none⟩ = some (.slice o.wa.ao o.wa.n o.wa.cap) ∧ V.cell? ⟨N, 10, none⟩ = some (.bool o.has) ∧ V.cell? ⟨N, 11, none⟩ = some (.slice o.so o.sn o.sc)) := fun V hV => have q := (K2.keep hV).cs; ⟨q.c0, q.c1, q.c2, q.c3, q.c4, q.c5, q.c6, q.c7, q.c8, q.c9, q.c10, q.c11⟩
  refine zB (by kernel_rfl) HS.out fun v0 E0 H0 => ?_
  refine zT 0 (some 10) (.pointer (some ⟨N, 0, none⟩)) rfl rfl (by kernel_rfl) rfl (fun W ⟨h0, h1, h2, h3, h4, h5, h6, h7, h8, h9, h10, h11⟩ => by go_simp) H0 ?_
  simp only [FL]
  refine zT 1 (some 11) (.int .u64 cl) rfl rfl (by kernel_rfl) rfl (fun W ⟨h0, h1, h2, h3, h4, h5, h6, h7, h8, h9, h10, h11⟩ => by go_simp) H0 ?_
  simp only [FL]
  refine zT 3 (some 13) (.pointer (some ⟨N, 1, none⟩)) rfl rfl (by kernel_rfl) rfl (fun W ⟨h0, h1, h2, h3, h4, h5, h6, h7, h8, h9, h10, h11⟩ => by go_simp) H0 ?_
  simp only [FL]
  refine zT 4 (some 14) (.int .u64 st) rfl rfl (by kernel_rfl) rfl (fun W ⟨h0, h1, h2, h3, h4, h5, h6, h7, h8, h9, h10, h11⟩ => by go_simp) H0 ?_
  simp only [FL]
  refine zT 6 (some 16) (.pointer (some ⟨N, 2, none⟩)) rfl rfl (by kernel_rfl) rfl (fun W ⟨h0, h1, h2, h3, h4, h5, h6, h7, h8, h9, h10, h11⟩ => by go_simp) H0 ?_
  simp only [FL]
  refine zT 7 (some 17) (.agg #[.int .i64 o.kind, .string o.row, .string o.fam, .string o.qual, .int .u64 o.time, .string o.to, .slice o.va.ao o.va.n o.va.cap, .slice o.wa.ao o.wa.n o.wa.cap, .bool o.has, .slice o.so o.sn o.sc]) rfl rfl (by kernel_rfl) rfl (fun W ⟨h0, h1, h2, h3, h4, h5, h6, h7, h8, h9, h10, h11⟩ => by go_simp) H0 ?_
  simp only [FL]
  refine hr_call_w 2 (some 12) 86 #[.slice none 0 0, .int .u64 cl] rfl rfl (by kernel_rfl) rfl (by go_simp) (fun v w' => ∃ b1 m1 c1, v = .slice b1 m1 c1 ∧ Sl w' b1 m1 c1 ([] ++ enc cl) ∧ Below v0.heap.size v0 w') ((fUint v0 none 0 0 cl [] (Sl.nothing _) (by omega) hcl).mono (by
   rintro e w' ⟨b1, m1, c1, rfl, F, C⟩
   exact ⟨_, rfl, b1, m1, c1, rfl, F, C⟩)) ?_
  rintro v v1 ⟨b1, m1, c1, rfl, F0, C0⟩
  have E1 := E0.trans (C0.mono E0.size)
  have H1 := HS.out v1 E1
  refine ⟨H1, ?_⟩
  simp only [FL]
  have l1 := F0.len
  simp only [List.length_append, List.length_nil] at l1
  refine hr_call_w 5 (some 15) 86 #[.slice b1 m1 c1, .int .u64 st] rfl rfl (by kernel_rfl) rfl (by go_simp) (fun v w' => ∃ b2 m2 c2, v = .slice b2 m2 c2 ∧ Sl w' b2 m2 c2 ([] ++ enc cl ++ enc st) ∧ Below v1.heap.size v1 w') ((fUint v1 b1 m1 c1 st _ F0 (by omega) hst).mono (by
   rintro e w' ⟨b2, m2, c2, rfl, F, C⟩
   exact ⟨_, rfl, b2, m2, c2, rfl, F, C⟩)) ?_
  rintro v v2 ⟨b2, m2, c2, rfl, F1, C1⟩
  have E2 := E1.trans (C1.mono E1.size)
  have H2 := HS.out v2 E2
  refine ⟨H2, ?_⟩
  simp only [FL]
  have l2 := F1.len
  simp only [List.length_append, List.length_nil] at l2
  refine hr_call_w 8 (some 18) 89 #[.slice b2 m2 c2, .agg #[.int .i64 o.kind, .string o.row, .string o.fam, .string o.qual, .int .u64 o.time, .string o.to, .slice o.va.ao o.va.n o.va.cap, .slice o.wa.ao o.wa.n o.wa.cap, .bool o.has, .slice o.so o.sn o.sc]] rfl rfl (by kernel_rfl) rfl (by go_simp) (fun v w' => ∃ b3 m3 c3, v = .slice b3 m3 c3 ∧ Sl w' b3 m3 c3 ([] ++ enc cl ++ enc st ++ (putS o.s l.length ++ (l.map fun x => putS x.s 0).flatten)) ∧ Below v2.heap.size v2 w') ((pput_any v2 b2 m2 c2 _ F1 (by omega) o (h2.below E2) p1 l (hs2.below E2) p2 p3 p4).mono (by
   rintro e w' ⟨b3, m3, c3, rfl, F, C⟩
   exact ⟨_, rfl, b3, m3, c3, rfl, F, C⟩)) ?_
  rintro v v3 ⟨b3, m3, c3, rfl, F2, C2⟩
  have E3 := E2.trans (C2.mono E2.size)
  have H3 := HS.out v3 E3
  refine ⟨H3, ?_⟩
  simp only [FL]
  refine zT 9 (some 2) (.slice b3 m3 c3) rfl rfl (by kernel_rfl) rfl (fun W ⟨h0, h1, h2, h3, h4, h5, h6, h7, h8, h9, h10, h11⟩ => by go_simp) H3 ?_
  simp only [FL]
  refine zT 10 (some 3) (.int .i64 0) rfl rfl (by kernel_rfl) rfl (fun W ⟨h0, h1, h2, h3, h4, h5, h6, h7, h8, h9, h10, h11⟩ => by go_simp) H3 ?_
  simp only [FL]
  refine wpAnyH_done (by kernel_rfl) ?_ _
  refine NoPanic.normal ?_
  have B3 := B2.trans (E3.mono (by have := B2.size; have := HN.out; omega))
  go_wp2
  go_ret2
  refine ⟨⟨b3, m3, c3, by rw [hk] <;> rfl, ?_⟩, by rw [← HN.out]; exact B3⟩
  rw [if_pos hk]
  simpa only [List.nil_append, List.append_assoc, putA] using F2
 ·obtain ⟨k, hkk⟩ : ∃ k, k = kq cl st (rightO o.s (l.map sn0)) := ⟨_, rfl⟩
  rw [← hkk] at hk ⊢
  have i1 : (k != 0) = true := by simp [hk]
  have HK : Hid (¬ k = 0) := hk
  have HKK : Hid (k = kq cl st (rightO o.s (l.map sn0))) := hkk
  clear hk hkk hp
  go_wp2
  go_ret2
  exact ⟨⟨none, 0, 0, by rw [← HKK.out] <;> rfl, by rw [← HKK.out, if_neg HK.out]; exact Sl.nothing _⟩, by rw [← HN.out]; exact B2⟩
open Go.RowKit
def or2 (a b : Int) : Int := if a = 0 then b else a
set_option maxRecDepth 100000 in
set_option maxHeartbeats 2000000 in
theorem por2_any (w : World) (g : Nat) (c0 c1 : Int) (hg : w.heap[g]? = some (.cells #[.int .i64 c0, .int .i64 c1] 25)) :
  Calls Tryz.prog 109 #[.slice (some ⟨g, 0, none⟩) 2 2] w fun e w' => e = .returned (.int .i64 (or2 c0 c1)) ∧ w' = w := by
 have q0 : w.cell? ⟨g, 0, none⟩ = some (.int .i64 c0) := cell_of_row w g 0 _ _ _ hg
 have q1 : w.cell? ⟨g, 1, none⟩ = some (.int .i64 c1) := cell_of_row w g 1 _ _ _ hg
 clear hg
 go_enter Tryz.func109, Tryz.ntmps109
 go_wp2_with fail
 go_loopw [5, 8] (fun _ i wr => wr = w ∧ ∃ j : Nat, i = .int .i64 j ∧ j ≤ 2 ∧ (0 < j → c0 = 0) ∧ (1 < j → c1 = 0)) (fun _ i _ => 2 - (intOf i).toNat)
 case atStart => exact ⟨rfl, 0, rfl, by omega, by omega, by omega⟩
 case round =>
  obtain ⟨rfl, j, rfl, hj, h1, h2⟩ := hrel
  obtain rfl | rfl | rfl : j = 0 ∨ j = 1 ∨ j = 2 := by omega
  ·by_cases z : c0 = 0
   ·subst z
    clear h1 h2
    go_wp2
    go_roundw
    case rel => exact ⟨trivial, 1, rfl, by omega, fun _ => trivial, by omega⟩
    case measure => simp [intOf]
   ·have zb : (c0 != 0) = true := by simp [z]
    have zc : (c0 == 0) = false := by simp [z]
    have hv : Hid (or2 c0 c1 = c0) := if_neg z
    clear h1 h2 z
    go_wp2
    go_ret
    exact ⟨by rw [hv.out] <;> rfl, rfl⟩
  ·obtain rfl := h1 (by omega)
   by_cases z : c1 = 0
   ·subst z
    clear h1 h2
    go_wp2
    go_roundw
    case rel => exact ⟨trivial, 2, rfl, by omega, fun _ => trivial, fun _ => trivial⟩
    case measure => simp [intOf]
   ·have zb : (c1 != 0) = true := by simp [z]
    have zc : (c1 == 0) = false := by simp [z]
    have hv : Hid (or2 0 c1 = c1) := if_pos rfl
    clear h1 h2 z
    go_wp2
    go_ret
    exact ⟨by rw [hv.out] <;> rfl, rfl⟩
  ·obtain rfl := h1 (by omega)
   obtain rfl := h2 (by omega)
   clear h1 h2
   go_wp2
   go_ret
   exact ⟨rfl, rfl⟩
open Go.RowKit
set_option maxHeartbeats 800000 in
theorem bool_any (w : World) (p L : Nat) (xs : List Int) (k : Int) (h : R w p L xs k) : Calls Tryz.prog 111 #[.pointer (some ⟨p, 0, none⟩)] w fun e w' =>
  e = .returned (.bool (boolS xs k).1) ∧ R w' p L (boolS xs k).2.1 (boolS xs k).2.2 ∧ w.grownBy w' (some p) := by
 have hR := h
 obtain ⟨ao, n, cap, hr⟩ := h
 have hc0 := hr.c0
 have hc1 := hr.c1
 have hf0 := hr.f0
 have hl := hr.sl.len
 by_cases hk : k = 0
 ·subst hk
  cases xs with
  | nil =>
   obtain rfl : n = 0 := by simpa using hl.symm
   rw [show boolS [] 0 = (false, [], 2) from rfl]
   clear hr hl
   go_enter Tryz.func111, Tryz.ntmps111
   go_wp2_with (first | (go_at_call 75; refine (failed_any _ p 0 hc1).mono ?_; rintro e w' ⟨rfl, rfl⟩) | (go_at_call 76; refine (fail_any _ p L [] 2 hR (by decide)).mono ?_; rintro e w2 ⟨rfl, hr2, hg2⟩))
   go_ret
   exact ⟨rfl, hr2, hg2⟩
  | cons c r =>
   have hn : 0 < n := by rw [← hl]; simp
   have hnb : ((n : Int) == 0) = false := by simp; omega
   have hn1 : (0 : Int) < (n : Int) := by omega
   have hn2 : (1 : Int) ≤ (n : Int) := by omega
   have hby := hr.sl.byte c (by simp)
   obtain ⟨b, off, rfl, hcell⟩ := hr.sl.at hn
   have c0 := hcell 0 hn
   rw [Nat.add_zero, show (c :: r).getD 0 0 = c from rfl] at c0
   have hle := hr.sl.le
   have hmx := hr.sl.mx
   unfold maxLen at hmx
   clear hcell
   by_cases hbig : 1 < c
   ·rw [show boolS (c :: r) 0 = (false, [], 3) from by simp [boolS, hbig]]
    clear hr
    go_enter Tryz.func111, Tryz.ntmps111
    go_wp2_with (first | (go_at_call 75; refine (failed_any _ p 0 hc1).mono ?_; rintro e w' ⟨rfl, rfl⟩) | (go_at_call 76; refine (fail_any _ p L (c :: r) 3 hR (by decide)).mono ?_; rintro e w2 ⟨rfl, hr2, hg2⟩))
    go_ret
    exact ⟨rfl, hr2, hg2⟩
   ·have hc1' : c ≤ 1 := by omega
    rw [show boolS (c :: r) 0 = (c == 1, r, 0) from by simp [boolS, hbig]]
    have hsd := hr.sl.drop 1 hn
    rw [show (c :: r).drop 1 = r from rfl] at hsd
    have hsa : cap = 1 → Sl w (some ⟨b, off, none⟩) (n - 1) 0 r := by
     intro hc
     subst hc
     exact hr.sl.dropAll hn
    clear hbig
    go_enter Tryz.func111, Tryz.ntmps111
    go_wp2_with (first | (go_at_call 75; refine (failed_any _ p 0 hc1).mono ?_; rintro e w' ⟨rfl, rfl⟩) | fail)
    ·have hcap : cap = 1 := by assumption
     have hfin : R (w'.setCell ⟨p, 0, none⟩ (.slice (some ⟨b, off, none⟩) (n - 1) 0)) p L r 0 := ⟨_, _, _, hr.rest (hsa hcap) (fun a ha hp => by omega) (by omega)⟩
     go_ret
     exact ⟨rfl, hfin, grown_setCell _ _ _ _⟩
    ·have hfin := hr.rest hsd (low_drop hr.low (by omega)) (by omega)
     rw [show Option.map (fun x => x.add 1) (some (⟨b, off, none⟩ : Addr)) = some ⟨b, off + 1, none⟩ from by rw [Option.map_some, Addr.add_lit]] at hfin
     go_ret
     exact ⟨rfl, ⟨_, _, _, hfin⟩, grown_setCell _ _ _ _⟩
 ·have hb : (k != 0) = true := by simp [hk]
  have hs : boolS xs k = (false, xs, k) := by simp [boolS, hk]
  rw [hs]
  clear hr hk hs
  go_enter Tryz.func111, Tryz.ntmps111
  go_wp2_with (go_at_call 75; refine (failed_any _ p k hc1).mono ?_; rintro e w' ⟨rfl, rfl⟩)
  go_ret
  exact ⟨rfl, hR, World.grownBy.refl _ _⟩
open Go.RowKit
theorem opInfo : (Tryz.prog.info? 58).map (fun i => (i.zero, i.size, i.bytes)) = some (some (.agg #[.int .i64 0, .string ⟨#[]⟩, .string ⟨#[]⟩, .string ⟨#[]⟩, .int .u64 0, .string ⟨#[]⟩, .slice none 0 0, .slice none 0 0, .bool false, .slice none 0 0]), 10, 160) := by kernel_rfl
def cellsO (l : List OA) : List Value := (l.map OA.cells).flatten
theorem OWL.own {w : World} {base : Nat} {v : Value} {n : Nat} {l : List OA} (h : w.ownsRow base 58 10 v n (cellsO l)) (hok : ∀ o ∈ l, o.ok w) : ∃ ao cap, v = .slice ao n cap ∧ OWL w 0 ao n cap l := by
 have hl : l.length = n := by
  have := h.1
  unfold cellsO at this
  rw [flat_len OA.cells 10 (fun _ => rfl)] at this
  omega
 rcases h.2 with ⟨rfl, rfl⟩ | ⟨g, cap, cur, rfl, a1, a2, a3, a4, a5, a6⟩
 ·exact ⟨Option.none, 0, rfl, hl, Nat.le_refl _, Nat.zero_le _, fun _ => ⟨rfl, rfl⟩, fun _ h => by simp at h, fun y hy => hok y hy⟩
 ·refine ⟨some ⟨g, 0, Option.none⟩, cap, rfl, hl, a3, a4, fun h => by simp at h, fun a ha i hi j u hu => ?_, fun y hy => hok y hy⟩
  obtain rfl := Option.some.inj ha
  have hj : j < 10 := (List.getElem?_eq_some_iff.1 hu).1
  refine h.cells (g := g) rfl (i * 10 + j) u ?_
  unfold cellsO
  rw [flat_get OA.cells 10 (fun _ => rfl) l i j hi hj]
  exact hu
def OA.blks (o : OA) (x : Nat) : Prop := o.va.blk x ∨ o.wa.blk x
theorem OA.ok.blk_lt {o : OA} {w : World} (h : o.ok w) {x : Nat} (hx : o.blks x) : x < w.heap.size := by
 rcases hx with hx | hx
 ·exact h.va.blk_lt hx
 ·exact h.wa.blk_lt hx
theorem OA.ok.kept {o : OA} {w w' : World} (h : o.ok w) (hk : ∀ x, o.blks x → w'.heap[x]? = w.heap[x]?) : o.ok w' :=
 ⟨h.kind, h.row, h.fam, h.qual, h.time, h.to, h.va.kept (fun x hx => hk x (.inl hx)), h.wa.kept (fun x hx => hk x (.inr hx)), h.le, h.mx, h.nil⟩
end Go.Proofs.YtnbejckdhdbamaaGreat
namespace Go
section
variable {P : Program} {ops : Array Oper} {S : World → Prop} {Q : Exit → Act → World → Prop} {fuel : Nat} {listed : Array Bool} {a : Act} {w : World}
theorem op_do (i : Nat) (d : Option Tmp) (v : Value) {oi : Oper} {w' : World} (hi : ops[i]? = some oi) (hd : oi.dst = d) (hg : oi.guard = none) (hrun : (execOp a.eval oi).run P w = .ok (.value v) w') (hS : S w')
  (h : wpAnyH P .any ops (NoPanic Q) S fuel (listed.setIfInBounds i true) (a.put d v) w') : wpOp P ops (NoPanic Q) i (fun a' w' => S w' ∧ wpAnyH P .any ops (NoPanic Q) S fuel (listed.setIfInBounds i true) a' w') a w := by
 have hw : Region.wanted oi (yielded ops a.tmps) = true := by simp [Region.wanted, hg]
 unfold wpOp
 simp only [hi, hw, if_true, Oper.wp, hrun, Oper.upon, hd]
 exact .inl ⟨hS, h⟩
theorem op_call (i : Nat) (d : Option Tmp) {oi : Oper} (f : FuncId) (args : Array Value) (hi : ops[i]? = some oi) (hd : oi.dst = d) (hg : oi.guard = none) (hrun : (execOp a.eval oi).run P w = .ok (.enter f args) w)
  (R : Value → World → Prop) (hc : Calls P f args w fun e w' => ∃ v, e = .returned v ∧ R v w')
  (h : ∀ v w', R v w' → S w' ∧ wpAnyH P .any ops (NoPanic Q) S fuel (listed.setIfInBounds i true) (a.put d v) w') : wpOp P ops (NoPanic Q) i (fun a' w' => S w' ∧ wpAnyH P .any ops (NoPanic Q) S fuel (listed.setIfInBounds i true) a' w') a w := by
 have hw : Region.wanted oi (yielded ops a.tmps) = true := by simp [Region.wanted, hg]
 unfold wpOp
 simp only [hi, hw, if_true, Oper.wp, hrun, Oper.upon, hd]
 refine .inl (hc.mono ?_)
 rintro e w' ⟨v, rfl, hR⟩
 exact h v w' hR
theorem hr_two {i j : Nat} (hr : Region.ready .any ops listed = [i, j]) (h1 : wpOp P ops (NoPanic Q) i (fun a' w' => S w' ∧ wpAnyH P .any ops (NoPanic Q) S fuel (listed.setIfInBounds i true) a' w') a w)
  (h2 : wpOp P ops (NoPanic Q) j (fun a' w' => S w' ∧ wpAnyH P .any ops (NoPanic Q) S fuel (listed.setIfInBounds j true) a' w') a w) : wpAnyH P .any ops (NoPanic Q) S (fuel + 1) listed a w := by
 refine wpAnyH_all hr (by simp) fun k hk => ?_
 simp only [List.mem_cons, List.not_mem_nil, or_false] at hk
 rcases hk with rfl | rfl
 ·exact h1
 ·exact h2
theorem hr_own (i : Nat) (d : Option Tmp) {oi : Oper} (hi : ops[i]? = some oi) (hd : oi.dst = d) (hr : Region.ready .any ops listed = [i]) (hg : oi.guard = none) (s x : Operand) (t : TypeId)
  (ho : oi.op = .call { callee := .builtin .append, args := #[s, x], argTypes := #[t, t] })
  (base : Nat) (e : TypeId) (inf : TypeInfo) (z : Value) (size bytes : Nat) (ht : P.underlying t = some (.slice e)) (hinf : P.info? e = some inf) (hz : inf.zero = some z)
  (hsize : inf.size = size) (hby : inf.bytes = bytes) (hzs : z.cells.size = size) (hsz : 0 < size)
  (v : Value) (n : Nat) (xs : List Value) (hs : a.eval s = v) (hown : w.ownsRow base e size v n xs)
  (ad : Addr) (m c : Nat) (news : List Value) (hx : a.eval x = .slice (some ad) m c) (hl : news.length = m * size) (hnews : ∀ j u, news[j]? = some u → w.cell? (ad.add j) = some u) (h1 : ∀ u ∈ news, u.oneCell' = true)
  (h63 : n + m ≤ maxLen) (hbytes : (n + m) * bytes ≤ 140737488355328) (hbase : base ≤ w.heap.size)
  (h : ∀ v' w', w'.ownsRow base e size v' (n + m) (xs ++ news) → w.grownBy w' v.ownBlock → (∀ g, v'.ownBlock = some g → v.ownBlock = some g ∨ w.heap.size ≤ g) → S w' ∧ wpAnyH P .any ops (NoPanic Q) S fuel (listed.setIfInBounds i true) (a.put d v') w') : wpAnyH P .any ops (NoPanic Q) S (fuel + 1) listed a w := by
 refine wpAnyH_all hr (by simp) fun j hj => ?_
 obtain rfl := List.mem_singleton.1 hj
 have hw : Region.wanted oi (yielded ops a.tmps) = true := by simp [Region.wanted, hg]
 obtain ⟨v', w', hrun, h2, h3, h4⟩ := Go.Proofs.YtnbejckdhdbamaaGreat.run_append_own2 (P := P) w base t oi.type e inf z size bytes ht hinf hz hsize hby hzs hsz v n xs hown ad m c news hl hnews h1 h63 hbytes hbase
 unfold wpOp
 simp only [hi, hw, if_true]
 refine .inl ?_
 unfold Oper.wp execOp
 simp only [ho, resolve, invoke, builtin, Sem.run_bind, Sem.run_pure, Result.andThen_ok, List.map_toArray, List.map_cons, List.map_nil, hs, hx, hrun, Oper.upon, hd]
 exact h v' w' h2 h3 h4
end
end Go
namespace Go.Proofs.YtnbejckdhdbamaaGreat
open Go.RowKit
theorem wp_scope_mid {P : Program} {Q : Exit → Act → World → Prop} {a : Act} {w : World} {h1 h2 h3 h4 h5 y : Code} (l : Nat) (J : Act → World → Prop) (μ : Act → World → Nat)
  (hf : findLabel (h1.seq (h2.seq (h3.seq (h4.seq (h5.seq ((Code.label l).seq y)))))) l = some (.seq .skip y))
  (first : h1.wp P (Exit.then (fun a w => h2.wp P (Exit.then (fun a w => h3.wp P (Exit.then (fun a w => h4.wp P (Exit.then (fun a w => h5.wp P (Exit.then J (Exit.jump l J Q)) a w) (Exit.jump l J Q)) a w) (Exit.jump l J Q)) a w) (Exit.jump l J Q)) a w) (Exit.jump l J Q)) a w)
  (pass : ∀ a w, J a w → y.wp P (Exit.jump l (fun a' w' => J a' w' ∧ μ a' w' < μ a w) Q) a w) :
  (Code.scope (h1.seq (h2.seq (h3.seq (h4.seq (h5.seq ((Code.label l).seq y))))))).wp P Q a w := by
 refine wp_scope_jumps l J μ hf ?_ ?_
 ·have last : ∀ a w, J a w → ((Code.label l).seq y).wp P (Exit.jump l J Q) a w := fun a w hJ => by
   refine wp_seq (wp_label ?_)
   show y.wp P _ a w
   refine wp_mono (pass a w hJ) ?_
   intro e a' w' h
   cases e with
   | goto l' => exact ⟨h.1, h.2.1⟩
   | _ => exact h
  have up : ∀ {K K' : Act → World → Prop} {Q' : Exit → Act → World → Prop}, (∀ a w, K a w → K' a w) → ∀ e a w, Exit.then K Q' e a w → Exit.then K' Q' e a w := fun hk e a w h => by
   cases e with
   | normal => exact hk a w h
   | _ => exact h
  refine wp_seq (wp_mono first (up fun a w h => ?_))
  refine wp_seq (wp_mono h (up fun a w h => ?_))
  refine wp_seq (wp_mono h (up fun a w h => ?_))
  refine wp_seq (wp_mono h (up fun a w h => ?_))
  exact wp_seq (wp_mono h (up fun a w h => last a w h))
 ·intro a w hJ
  exact wp_seq (wp_skip (pass a w hJ))
open Go.RowKit
def OV (V : World) (p : Nat) (o : OA) (v : Value) : Prop := V.heap[p]? = some (.cells #[.int .i64 o.kind, .string o.row, .string o.fam, .string o.qual, .int .u64 o.time, .string o.to, .slice o.va.ao o.va.n o.va.cap, .slice o.wa.ao o.wa.n o.wa.cap, .bool o.has, v] 58)
theorem OV.lt {V : World} {p : Nat} {o : OA} {v : Value} (h : OV V p o v) : p < V.heap.size := (Array.getElem?_eq_some_iff.1 h).1
theorem OV.kept {V V' : World} {p : Nat} {o : OA} {v : Value} (h : OV V p o v) (hk : V'.heap[p]? = V.heap[p]?) : OV V' p o v := hk.trans h
theorem OV.grown {V V' : World} {q p : Nat} {o : OA} {v : Value} (h : OV V q o v) (hg : V.grownBy V' (some p)) (hne : q ≠ p) : OV V' q o v := h.kept (hg.block q h.lt (by simp; omega))
structure OVs (V : World) (p : Nat) (o : OA) (v : Value) : Prop where
 c0 : V.cell? ⟨p, 0, none⟩ = some (.int .i64 o.kind)
 c1 : V.cell? ⟨p, 1, none⟩ = some (.string o.row)
 c2 : V.cell? ⟨p, 2, none⟩ = some (.string o.fam)
 c3 : V.cell? ⟨p, 3, none⟩ = some (.string o.qual)
 c4 : V.cell? ⟨p, 4, none⟩ = some (.int .u64 o.time)
 c5 : V.cell? ⟨p, 5, none⟩ = some (.string o.to)
 c6 : V.cell? ⟨p, 6, none⟩ = some (.slice o.va.ao o.va.n o.va.cap)
 c7 : V.cell? ⟨p, 7, none⟩ = some (.slice o.wa.ao o.wa.n o.wa.cap)
 c8 : V.cell? ⟨p, 8, none⟩ = some (.bool o.has)
 c9 : V.cell? ⟨p, 9, none⟩ = some (v)
theorem OV.cs {V : World} {p : Nat} {o : OA} {v : Value} (h : OV V p o v) : OVs V p o v :=
 ⟨cell_of_row V p 0 _ _ _ h, cell_of_row V p 1 _ _ _ h, cell_of_row V p 2 _ _ _ h, cell_of_row V p 3 _ _ _ h, cell_of_row V p 4 _ _ _ h, cell_of_row V p 5 _ _ _ h, cell_of_row V p 6 _ _ _ h, cell_of_row V p 7 _ _ _ h, cell_of_row V p 8 _ _ _ h, cell_of_row V p 9 _ _ _ h⟩
theorem OV.fz {V : World} {p : Nat} {o : OA} {v : Value} (h : OV V p o v) (i : Nat) : V.frozen? ⟨p, i, none⟩ = false := frozen_of_row V p i _ _ h
theorem OV.setV {V : World} {p : Nat} {o : OA} {v : Value} (h : OV V p o v) (b : Bs) : OV (V.setCell ⟨p, 6, none⟩ (.slice b.ao b.n b.cap)) p { o with va := b } v := heap_setCell_same V p 6 _ _ _ h
theorem OV.setW {V : World} {p : Nat} {o : OA} {v : Value} (h : OV V p o v) (b : Bs) : OV (V.setCell ⟨p, 7, none⟩ (.slice b.ao b.n b.cap)) p { o with wa := b } v := heap_setCell_same V p 7 _ _ _ h
theorem OV.setH {V : World} {p : Nat} {o : OA} {v : Value} (h : OV V p o v) (b : Bool) : OV (V.setCell ⟨p, 8, none⟩ (.bool b)) p { o with has := b } v := heap_setCell_same V p 8 _ _ _ h
theorem OV.setP {V : World} {p : Nat} {o : OA} {v : Value} (h : OV V p o v) (u : Value) : OV (V.setCell ⟨p, 9, none⟩ u) p o u := heap_setCell_same V p 9 _ _ _ h
def OA.sblk (o : OA) (x : Nat) : Prop := ∃ a, o.so = some a ∧ 0 < o.sn ∧ a.block = x
def TakePost (F : Nat) (w : World) (p L most : Nat) (xs : List Int) (k : Int) (e : Ending) (w' : World) : Prop :=
 ∃ (o : OA) (l : List OA), e = .returned o.val ∧ o.ok w' ∧ OWL w' 0 o.so o.sn o.sc l ∧ (∀ x, (o.blks x ∨ o.sblk x ∨ ∃ y ∈ l, y.blks x) → x < F ∨ w.heap.size ≤ x) ∧ o.s = (sT most xs k).1.1 ∧
  l.map sn0 = (repT (sT 0) (sT most xs k).1.2 (sT most xs k).2.1 (sT most xs k).2.2).1 ∧ Left w p L (repT (sT 0) (sT most xs k).1.2 (sT most xs k).2.1 (sT most xs k).2.2).2 w'
def lenAt (M : Nat) (V : World) : Nat := match V.cell? ⟨M, 9, none⟩ with
 | some (.slice _ n _) => n
 | _ => 0
def ptrOf : Value → Nat
 | .pointer (some a) => a.block
 | _ => 0
structure TakeInv (F : Nat) (w : World) (p L N M parts : Nat) (o : OA) (hx : List Int) (hk : Int) (V : World) (v : Value) (l : List OA) : Prop where
 rd : R V p L (repT (sT 0) l.length hx hk).2.1 (repT (sT 0) l.length hx hk).2.2
 ov : OV V M o v
 res : V.heap[N]? = some (.cells #[.int .i64 0, .string ⟨#[]⟩, .string ⟨#[]⟩, .string ⟨#[]⟩, .int .u64 0, .string ⟨#[]⟩, .slice none 0 0, .slice none 0 0, .bool false, .slice none 0 0] 58)
 own : V.ownsRow (M + 1) 58 10 v l.length (cellsO l)
 ok : o.ok V
 oks : ∀ y ∈ l, y.ok V
 far : ∀ x, (o.blks x ∨ ∃ y ∈ l, y.blks x) → (x < F ∨ M < x) ∧ v.ownBlock ≠ some x
 thr : l.map sn0 = (repT (sT 0) l.length hx hk).1
 gr : w.grownBy V (some p)
 le : l.length ≤ parts
 pos : L ≤ p ∧ p < N ∧ N < M ∧ w.heap.size ≤ N ∧ F ≤ L
theorem TakeInv.drew {F : Nat} {w : World} {p L N M parts : Nat} {o : OA} {hx : List Int} {hk : Int} {V : World} {v : Value} {l : List OA} (h : TakeInv F w p L N M parts o hx hk V v l) : TakeInv F w p L N M parts o hx hk V.drew v l :=
 ⟨h.rd.below (Below.refl _ _).drew, h.ov, h.res, h.own.drew, h.ok.below (Below.refl _ _).drew, fun y hy => (h.oks y hy).below (Below.refl _ _).drew, h.far, h.thr, grown_trans h.gr (grown_below (Below.refl _ _).drew), h.le, h.pos⟩
theorem TakeInv.ownlt {F : Nat} {w : World} {p L N M parts : Nat} {o : OA} {hx : List Int} {hk : Int} {V : World} {v : Value} {l : List OA} (h : TakeInv F w p L N M parts o hx hk V v l) {g : Nat} (hg : v.ownBlock = some g) : M < g ∧ g < V.heap.size := by
 have := h.own.lt g hg
 omega
theorem TakeInv.step {F : Nat} {w : World} {p L N M parts : Nat} {o : OA} {hx : List Int} {hk : Int} {V : World} {v : Value} {l : List OA} (h : TakeInv F w p L N M parts o hx hk V v l) (hlt : l.length < parts)
  {y : OA} {V1 V3 : World} {v' : Value} {ob : Obj} (y1 : y.ok V1) (y2 : ∀ x, y.blks x → x < F ∨ V.heap.size ≤ x) (y3 : sn0 y = (sT 0 (repT (sT 0) l.length hx hk).2.1 (repT (sT 0) l.length hx hk).2.2).1)
  (y4 : R V1 p L (sT 0 (repT (sT 0) l.length hx hk).2.1 (repT (sT 0) l.length hx hk).2.2).2.1 (sT 0 (repT (sT 0) l.length hx hk).2.1 (repT (sT 0) l.length hx hk).2.2).2.2) (y5 : V.grownBy V1 (some p))
  (a1 : V3.ownsRow (M + 1) 58 10 v' (l.length + 1) (cellsO l ++ y.cells)) (a2 : (V1.alloc ob).grownBy V3 v.ownBlock) (a3 : ∀ g, v'.ownBlock = some g → v.ownBlock = some g ∨ (V1.alloc ob).heap.size ≤ g) :
  TakeInv F w p L N M parts o hx hk (V3.setCell ⟨M, 9, none⟩ v') v' (l ++ [y]) := by
 have hp := h.pos
 have sz1 := y5.size
 have sz2 : (V1.alloc ob).heap.size = V1.heap.size + 1 := by simp
 have sz3 := a2.size
 have key : ∀ x, x < V1.heap.size → v.ownBlock ≠ some x → V3.heap[x]? = V1.heap[x]? := fun x hx1 hx2 => (a2.block x (by omega) (fun e => hx2 e.symm)).trans (heap_alloc_old V1 ob hx1)
 have own1 : ∀ x, x ≤ M → v.ownBlock ≠ some x := fun x hx1 hx2 => by have := (h.ownlt hx2).1; omega
 have hM : M < V.heap.size := h.ov.lt
 have RB : ∀ x, x < V.heap.size → x ≠ p → V1.heap[x]? = V.heap[x]? := fun x hx1 hx2 => y5.block x hx1 (by simp; exact hx2)
 have ov1 : OV V1 M o v := h.ov.kept (RB M hM (by omega))
 have ov3 : OV V3 M o v := ov1.kept (key M (by omega) (own1 M (Nat.le_refl _)))
 have hset : ∀ x, x ≠ M → (V3.setCell ⟨M, 9, none⟩ v').heap[x]? = V3.heap[x]? := (same_set V3 M 9 v').2
 have fin : ∀ x, x < V.heap.size → x ≠ p → x ≠ M → v.ownBlock ≠ some x → (V3.setCell ⟨M, 9, none⟩ v').heap[x]? = V.heap[x]? := fun x b1 b2 b3 b4 => ((hset x b3).trans (key x (by omega) b4)).trans (RB x b1 b2)
 have oldfar : ∀ x, (o.blks x ∨ ∃ y ∈ l, y.blks x) → x ≠ p ∧ x ≠ M := fun x hx1 => by have := (h.far x hx1).1; omega
 refine ⟨?_, ov3.setP v', ?_, ?_, ?_, ?_, ?_, ?_, ?_, ?_, hp⟩
 ·rw [List.length_append, List.length_singleton, repT_snoc]
  obtain ⟨ao, n, cap, r⟩ := y4
  have r3 : R V3 p L (sT 0 (repT (sT 0) l.length hx hk).2.1 (repT (sT 0) l.length hx hk).2.2).2.1 (sT 0 (repT (sT 0) l.length hx hk).2.1 (repT (sT 0) l.length hx hk).2.2).2.2 := by
   have rp : p < V1.heap.size := r.plt
   have hbk := key p rp (own1 p (by omega))
   refine ⟨ao, n, cap, (World.cell?_of_block (a := ⟨p, 0, none⟩) hbk).trans r.c0, (World.cell?_of_block (a := ⟨p, 1, none⟩) hbk).trans r.c1, (World.frozen?_of_block (a := ⟨p, 0, none⟩) hbk).trans r.f0, (World.frozen?_of_block (a := ⟨p, 1, none⟩) hbk).trans r.f1, ?_, r.low, r.le, r.sm⟩
   exact Sl.kept (b := ⟨ao, n, cap, _⟩) r.sl (fun x hx1 => by
    obtain ⟨a, ha, hn, rfl⟩ := hx1
    have hl1 := r.low a ha hn
    exact key _ (by omega) (own1 _ (by omega)))
  exact r3.own (by omega) (by omega)
 ·exact (fin N (Array.getElem?_eq_some_iff.1 h.res).1 (by omega) (by omega) (own1 N (by omega))).trans h.res
 ·rw [List.length_append, List.length_singleton]
  have e : cellsO (l ++ [y]) = cellsO l ++ y.cells := by unfold cellsO; simp
  rw [e]
  refine own_kept a1 fun g hg => hset g ?_
  have := (a1.lt g hg).1
  omega
 ·exact h.ok.kept fun x hx1 => fin x (h.ok.blk_lt hx1) (oldfar x (.inl hx1)).1 (oldfar x (.inl hx1)).2 (h.far x (.inl hx1)).2
 ·intro q hq
  rcases List.mem_append.1 hq with hq | hq
  ·exact (h.oks q hq).kept fun x hx1 => fin x ((h.oks q hq).blk_lt hx1) (oldfar x (.inr ⟨q, hq, hx1⟩)).1 (oldfar x (.inr ⟨q, hq, hx1⟩)).2 (h.far x (.inr ⟨q, hq, hx1⟩)).2
  ·rw [List.mem_singleton.1 hq]
   refine y1.kept fun x hx1 => ?_
   have c1 := y2 x hx1
   have c2 := y1.blk_lt hx1
   have c3 : v.ownBlock ≠ some x := fun e => by have := h.ownlt e; omega
   exact (hset x (by omega)).trans (key x c2 c3)
 ·intro x hx1
  have old : ∀ x, x < V1.heap.size → v.ownBlock ≠ some x → v'.ownBlock ≠ some x := fun x b1 b2 b3 => by
   rcases a3 x b3 with c | c
   ·exact b2 c
   ·omega
  rcases hx1 with hx1 | ⟨q, hq, hx1⟩
  ·have := h.far x (.inl hx1)
   exact ⟨this.1, old x (by have := h.ok.blk_lt hx1; omega) this.2⟩
  ·rcases List.mem_append.1 hq with hq | hq
   ·have := h.far x (.inr ⟨q, hq, hx1⟩)
    exact ⟨this.1, old x (by have := (h.oks q hq).blk_lt hx1; omega) this.2⟩
   ·rw [List.mem_singleton.1 hq] at hx1
    have c1 := y2 x hx1
    have c2 := y1.blk_lt hx1
    refine ⟨by omega, old x c2 fun e => ?_⟩
    have := h.ownlt e
    omega
 ·rw [List.length_append, List.length_singleton, repT_snoc, List.map_append, h.thr, ← y3]
  rfl
 ·refine grown_own ?_ (by omega)
  refine ⟨?_, ?_, ?_, ?_, ?_⟩
  ·rw [a2.os]; exact y5.os.trans h.gr.os
  ·rw [a2.tape]; exact y5.tape.trans h.gr.tape
  ·rw [a2.output]; exact y5.output.trans h.gr.output
  ·have := h.gr.size; omega
  ·intro x b1 b2
   have b3 := h.gr.size
   exact ((key x (by omega) (own1 x (by omega))).trans (y5.block x (by omega) b2)).trans (h.gr.block x b1 b2)
 ·rw [List.length_append, List.length_singleton]
  omega
open Go.RowKit
theorem txT_ok {xs : List Int} (h : Byt xs) {k : Int} : (txT 32 xs k).1.size ≤ 32 := by
 show (strOfNums (bytesS xs k ((32 : Nat) : Int)).1).size ≤ 32
 rw [str_size (bytesS_byt h k 32).1]
 exact bytesS_le xs k 32
theorem txT_byt {xs : List Int} (h : Byt xs) {k : Int} : Byt (txT 32 xs k).2.1 := (bytesS_byt h k 32).2
theorem keyT_ok {xs : List Int} (h : Byt xs) {k : Int} : (keyT xs k).1.1.size ≤ 32 ∧ (keyT xs k).1.2.1.size ≤ 32 ∧ (keyT xs k).1.2.2.1.size ≤ 32 ∧ (keyT xs k).1.2.2.2 < 18446744073709551616 :=
 ⟨txT_ok h, txT_ok (txT_byt h), txT_ok (txT_byt (txT_byt h)), uintS_lt (txT_byt (txT_byt (txT_byt h)))⟩
end Go.Proofs.YtnbejckdhdbamaaGreat

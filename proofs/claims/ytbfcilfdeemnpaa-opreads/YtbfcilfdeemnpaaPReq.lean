/-
  Requests: the program's.
-/
import Derived.Test.YtbfcilfdeemnpaaPBytes6
import Derived.Test.YtbfcilfdeemnpaaMB
namespace Go.Proofs.Ytbfcilfdeemnpaa
open Go.RowKit

/-- The request lies in block p. -/
def QC (V : World) (p : Nat) (cl st : Nat) (o : OA) : Prop := V.heap[p]? = some (.cells #[.int .u64 cl, .int .u64 st, .int .i64 o.kind, .string o.row, .string o.fam, .string o.qual, .int .u64 o.time, .string o.to, .slice o.va.ao o.va.n o.va.cap, .slice o.wa.ao o.wa.n o.wa.cap, .bool o.has, .slice o.so o.sn o.sc] 30)
theorem QC.lt {V : World} {p cl st : Nat} {o : OA} (h : QC V p cl st o) : p < V.heap.size := (Array.getElem?_eq_some_iff.1 h).1
theorem QC.keep {V V' : World} {p cl st : Nat} {o : OA} (h : QC V p cl st o) (hb : Below V.heap.size V V') : QC V' p cl st o := (hb.block p h.lt).trans h
structure QCs (V : World) (p : Nat) (cl st : Nat) (o : OA) : Prop where
  c0 : V.cell? ⟨p, 0, none⟩ = some (.int .u64 cl)
  c1 : V.cell? ⟨p, 1, none⟩ = some (.int .u64 st)
  c2 : V.cell? ⟨p, 2, none⟩ = some (.int .i64 o.kind)
  c3 : V.cell? ⟨p, 3, none⟩ = some (.string o.row)
  c4 : V.cell? ⟨p, 4, none⟩ = some (.string o.fam)
  c5 : V.cell? ⟨p, 5, none⟩ = some (.string o.qual)
  c6 : V.cell? ⟨p, 6, none⟩ = some (.int .u64 o.time)
  c7 : V.cell? ⟨p, 7, none⟩ = some (.string o.to)
  c8 : V.cell? ⟨p, 8, none⟩ = some (.slice o.va.ao o.va.n o.va.cap)
  c9 : V.cell? ⟨p, 9, none⟩ = some (.slice o.wa.ao o.wa.n o.wa.cap)
  c10 : V.cell? ⟨p, 10, none⟩ = some (.bool o.has)
  c11 : V.cell? ⟨p, 11, none⟩ = some (.slice o.so o.sn o.sc)
theorem QC.cs {V : World} {p cl st : Nat} {o : OA} (h : QC V p cl st o) : QCs V p cl st o :=
  ⟨cell_of_row V p 0 _ _ _ h, cell_of_row V p 1 _ _ _ h, cell_of_row V p 2 _ _ _ h, cell_of_row V p 3 _ _ _ h, cell_of_row V p 4 _ _ _ h, cell_of_row V p 5 _ _ _ h, cell_of_row V p 6 _ _ _ h, cell_of_row V p 7 _ _ _ h, cell_of_row V p 8 _ _ _ h, cell_of_row V p 9 _ _ _ h, cell_of_row V p 10 _ _ _ h, cell_of_row V p 11 _ _ _ h⟩
/-- A request's kind; its bytes. -/
def kq (cl st : Nat) (b : Bool) : Int := if cl = 0 ∨ st = 0 then 1 else kindO b
def ReqPost (w : World) (k : Int) (ys : List Int) (e : Ending) (w' : World) : Prop :=
  (∃ bo m c, e = .returned (.tuple #[.slice bo m c, .int .i64 k]) ∧ Sl w' bo m c (if k = 0 then ys else [])) ∧ Below w.heap.size w w'
theorem kq_zero {cl st : Nat} {b : Bool} (h : kq cl st b = 0) : cl ≠ 0 ∧ st ≠ 0 ∧ b = true := by
  unfold kq kindO at h
  by_cases c : cl = 0 ∨ st = 0
  · rw [if_pos c] at h; omega
  · rw [if_neg c] at h
    cases b with
    | true => exact ⟨by omega, by omega, rfl⟩
    | false => simp at h

set_option maxRecDepth 100000 in
set_option maxHeartbeats 4000000 in
theorem prq_any (w : World) (cl st : Nat) (o : OA) (l : List OA) (h : o.ok w) (hs : OWL w 0 o.so o.sn o.sc l) :
    Calls Try.prog 32 #[qVal cl st o] w fun e w' => e = .returned (.int .i64 (kq cl st (rightO o.s (l.map sn0)))) ∧ Below w.heap.size w w' := by
  have B : Below w.heap.size w (w.alloc (Obj.cells #[.int .u64 cl, .int .u64 st, .int .i64 o.kind, .string o.row, .string o.fam, .string o.qual, .int .u64 o.time, .string o.to, .slice o.va.ao o.va.n o.va.cap, .slice o.wa.ao o.wa.n o.wa.cap, .bool o.has, .slice o.so o.sn o.sc] 30)) := (Below.refl _ w).alloc (Nat.le_refl _) _
  have h1 := h.below B
  have hs1 := hs.below B
  have CR := pRight_any _ o l h1 hs1
  clear h hs h1 hs1
  rw [show qVal cl st o = .agg #[.int .u64 cl, .int .u64 st, .int .i64 o.kind, .string o.row, .string o.fam, .string o.qual, .int .u64 o.time, .string o.to, .slice o.va.ao o.va.n o.va.cap, .slice o.wa.ao o.wa.n o.wa.cap, .bool o.has, .slice o.so o.sn o.sc] from rfl]
  by_cases z1 : cl = 0
  · have i1 : ((cl : Int) == 0) = true := by simp; omega
    have hv : Hid (kq cl st (rightO o.s (l.map sn0)) = 1) := if_pos (.inl z1)
    clear CR z1
    go_enter Try.func32, Try.ntmps32
    go_wp2
    go_ret
    exact ⟨by rw [hv.out] <;> rfl, B⟩
  have i1 : ((cl : Int) == 0) = false := by simp; omega
  by_cases z2 : st = 0
  · have i2 : ((st : Int) == 0) = true := by simp; omega
    have hv : Hid (kq cl st (rightO o.s (l.map sn0)) = 1) := if_pos (.inr z2)
    clear CR z1 z2
    go_enter Try.func32, Try.ntmps32
    go_wp2
    go_ret
    exact ⟨by rw [hv.out] <;> rfl, B⟩
  have i2 : ((st : Int) == 0) = false := by simp; omega
  have hv : Hid (kq cl st (rightO o.s (l.map sn0)) = kindO (rightO o.s (l.map sn0))) := if_neg (by omega)
  clear z1 z2
  go_enter Try.func32, Try.ntmps32
  go_wp2_with (go_at_call 27; refine CR.mono ?_; rintro e w2 ⟨rfl, C⟩; have D := B.trans (C.mono B.size))
  go_ret
  exact ⟨by rw [hv.out] <;> rfl, D⟩

set_option maxRecDepth 100000 in
set_option maxHeartbeats 8000000 in
theorem preq_any (w : World) (cl st : Nat) (o : OA) (l : List OA) (hcl : cl < 18446744073709551616) (hst : st < 18446744073709551616) (h : o.ok w) (hs : OWL w 0 o.so o.sn o.sc l) :
    Calls Try.prog 13 #[qVal cl st o] w (ReqPost w (kq cl st (rightO o.s (l.map sn0))) (enc cl ++ (enc st ++ putA o l))) := by
  have B : Below w.heap.size w (w.alloc (Obj.cells #[.int .u64 cl, .int .u64 st, .int .i64 o.kind, .string o.row, .string o.fam, .string o.qual, .int .u64 o.time, .string o.to, .slice o.va.ao o.va.n o.va.cap, .slice o.wa.ao o.wa.n o.wa.cap, .bool o.has, .slice o.so o.sn o.sc] 30)) := (Below.refl _ w).alloc (Nat.le_refl _) _
  have K : QC (w.alloc (Obj.cells #[.int .u64 cl, .int .u64 st, .int .i64 o.kind, .string o.row, .string o.fam, .string o.qual, .int .u64 o.time, .string o.to, .slice o.va.ao o.va.n o.va.cap, .slice o.wa.ao o.wa.n o.wa.cap, .bool o.has, .slice o.so o.sn o.sc] 30)) w.heap.size cl st o := heap_alloc_new w _
  have h1 := h.below B
  have hs1 := hs.below B
  have hp : rightO o.s (l.map sn0) = true → o.s.fits ∧ l.length ≤ 8 ∧ (∀ x ∈ l, x.s.fits) ∧ ∀ x ∈ l, x.sn = 0 := fun q => right_parts q h hs.ok
  clear h hs
  rw [show qVal cl st o = .agg #[.int .u64 cl, .int .u64 st, .int .i64 o.kind, .string o.row, .string o.fam, .string o.qual, .int .u64 o.time, .string o.to, .slice o.va.ao o.va.n o.va.cap, .slice o.wa.ao o.wa.n o.wa.cap, .bool o.has, .slice o.so o.sn o.sc] from rfl]
  go_enter Try.func13, Try.ntmps13
  go_wp2_with fail
  obtain ⟨w1, hw1⟩ : ∃ W, W = w.alloc (Obj.cells #[.int .u64 cl, .int .u64 st, .int .i64 o.kind, .string o.row, .string o.fam, .string o.qual, .int .u64 o.time, .string o.to, .slice o.va.ao o.va.n o.va.cap, .slice o.wa.ao o.wa.n o.wa.cap, .bool o.has, .slice o.so o.sn o.sc] 30) := ⟨_, rfl⟩
  obtain ⟨N, hN⟩ : ∃ N, N = w.heap.size := ⟨_, rfl⟩
  rw [← hw1] at B K h1 hs1 ⊢
  rw [← hN] at B K ⊢
  have HN : Hid (N = w.heap.size) := hN
  clear hw1 hN
  refine (prq_any w1 cl st o l h1 hs1).mono ?_
  rintro e w2 ⟨rfl, C⟩
  have K2 := K.keep C
  have B2 := B.trans (C.mono (by have := B.size; have := K.lt; omega))
  have h2 := h1.below C
  have hs2 := hs1.below C
  clear C K B h1 hs1
  by_cases hk : kq cl st (rightO o.s (l.map sn0)) = 0
  · obtain ⟨_, _, hb⟩ := kq_zero hk
    obtain ⟨p1, p2, p3, p4⟩ := hp hb
    rw [hk]
    have g1 := enc_length hcl
    have g2 := enc_length hst
    go_wp2_with fail
    have HS : Hid (∀ V, Below w2.heap.size w2 V → V.cell? ⟨N, 0, none⟩ = some (.int .u64 cl) ∧ V.cell? ⟨N, 1, none⟩ = some (.int .u64 st) ∧ V.cell? ⟨N, 2, none⟩ = some (.int .i64 o.kind) ∧ V.cell? ⟨N, 3, none⟩ = some (.string o.row) ∧ V.cell? ⟨N, 4, none⟩ = some (.string o.fam) ∧ V.cell? ⟨N, 5, none⟩ = some (.string o.qual) ∧ V.cell? ⟨N, 6, none⟩ = some (.int .u64 o.time) ∧ V.cell? ⟨N, 7, none⟩ = some (.string o.to) ∧ V.cell? ⟨N, 8, none⟩ = some (.slice o.va.ao o.va.n o.va.cap) ∧ V.cell? ⟨N, 9, none⟩ = some (.slice o.wa.ao o.wa.n o.wa.cap) ∧ V.cell? ⟨N, 10, none⟩ = some (.bool o.has) ∧ V.cell? ⟨N, 11, none⟩ = some (.slice o.so o.sn o.sc)) := fun V hV => have q := (K2.keep hV).cs; ⟨q.c0, q.c1, q.c2, q.c3, q.c4, q.c5, q.c6, q.c7, q.c8, q.c9, q.c10, q.c11⟩
    have E0 : Below w2.heap.size w2 w2.drew := (Below.refl _ _).drew
    refine wp_region_noPanic ?_
    refine wp_region_held_drew (S := fun V => V.cell? ⟨N, 0, none⟩ = some (.int .u64 cl) ∧ V.cell? ⟨N, 1, none⟩ = some (.int .u64 st) ∧ V.cell? ⟨N, 2, none⟩ = some (.int .i64 o.kind) ∧ V.cell? ⟨N, 3, none⟩ = some (.string o.row) ∧ V.cell? ⟨N, 4, none⟩ = some (.string o.fam) ∧ V.cell? ⟨N, 5, none⟩ = some (.string o.qual) ∧ V.cell? ⟨N, 6, none⟩ = some (.int .u64 o.time) ∧ V.cell? ⟨N, 7, none⟩ = some (.string o.to) ∧ V.cell? ⟨N, 8, none⟩ = some (.slice o.va.ao o.va.n o.va.cap) ∧ V.cell? ⟨N, 9, none⟩ = some (.slice o.wa.ao o.wa.n o.wa.cap) ∧ V.cell? ⟨N, 10, none⟩ = some (.bool o.has) ∧ V.cell? ⟨N, 11, none⟩ = some (.slice o.so o.sn o.sc)) (by kernel_rfl) (HS.out _ E0) (fun H0 => ?_)
    obtain ⟨v0, hv0⟩ : ∃ v, v = w2.drew := ⟨_, rfl⟩
    rw [← hv0] at H0 E0 ⊢
    clear hv0
    refine hr_take_w 0 (some 10) (.pointer (some ⟨N, 0, none⟩)) rfl rfl (by kernel_rfl) (by kernel_rfl) (by kernel_rfl) rfl (fun W hW => by obtain ⟨h0, h1, h2, h3, h4, h5, h6, h7, h8, h9, h10, h11⟩ := hW; go_simp) H0 ?_
    simp only [Act.put, List.setIfInBounds_toArray, List.set_cons_zero, List.set_cons_succ]
    refine hr_take_w 1 (some 11) (.int .u64 cl) rfl rfl (by kernel_rfl) (by kernel_rfl) (by kernel_rfl) rfl (fun W hW => by obtain ⟨h0, h1, h2, h3, h4, h5, h6, h7, h8, h9, h10, h11⟩ := hW; go_simp) H0 ?_
    simp only [Act.put, List.setIfInBounds_toArray, List.set_cons_zero, List.set_cons_succ]
    refine hr_take_w 3 (some 13) (.pointer (some ⟨N, 1, none⟩)) rfl rfl (by kernel_rfl) (by kernel_rfl) (by kernel_rfl) rfl (fun W hW => by obtain ⟨h0, h1, h2, h3, h4, h5, h6, h7, h8, h9, h10, h11⟩ := hW; go_simp) H0 ?_
    simp only [Act.put, List.setIfInBounds_toArray, List.set_cons_zero, List.set_cons_succ]
    refine hr_take_w 4 (some 14) (.int .u64 st) rfl rfl (by kernel_rfl) (by kernel_rfl) (by kernel_rfl) rfl (fun W hW => by obtain ⟨h0, h1, h2, h3, h4, h5, h6, h7, h8, h9, h10, h11⟩ := hW; go_simp) H0 ?_
    simp only [Act.put, List.setIfInBounds_toArray, List.set_cons_zero, List.set_cons_succ]
    refine hr_take_w 6 (some 16) (.pointer (some ⟨N, 2, none⟩)) rfl rfl (by kernel_rfl) (by kernel_rfl) (by kernel_rfl) rfl (fun W hW => by obtain ⟨h0, h1, h2, h3, h4, h5, h6, h7, h8, h9, h10, h11⟩ := hW; go_simp) H0 ?_
    simp only [Act.put, List.setIfInBounds_toArray, List.set_cons_zero, List.set_cons_succ]
    refine hr_take_w 7 (some 17) (.agg #[.int .i64 o.kind, .string o.row, .string o.fam, .string o.qual, .int .u64 o.time, .string o.to, .slice o.va.ao o.va.n o.va.cap, .slice o.wa.ao o.wa.n o.wa.cap, .bool o.has, .slice o.so o.sn o.sc]) rfl rfl (by kernel_rfl) (by kernel_rfl) (by kernel_rfl) rfl (fun W hW => by obtain ⟨h0, h1, h2, h3, h4, h5, h6, h7, h8, h9, h10, h11⟩ := hW; go_simp) H0 ?_
    simp only [Act.put, List.setIfInBounds_toArray, List.set_cons_zero, List.set_cons_succ]
    refine hr_call_w 2 (some 12) 33 #[.slice none 0 0, .int .u64 cl] rfl rfl (by kernel_rfl) rfl (by go_simp) (fun v w' => ∃ b1 m1 c1, v = .slice b1 m1 c1 ∧ Sl w' b1 m1 c1 ([] ++ enc cl) ∧ Below v0.heap.size v0 w') ((fUint v0 none 0 0 cl [] (Sl.nothing _) (by omega) hcl).mono (by
      rintro e w' ⟨b1, m1, c1, rfl, F, C⟩
      exact ⟨_, rfl, b1, m1, c1, rfl, F, C⟩)) ?_
    rintro v v1 ⟨b1, m1, c1, rfl, F0, C0⟩
    have E1 := E0.trans (C0.mono E0.size)
    have H1 := HS.out v1 E1
    refine ⟨H1, ?_⟩
    simp only [Act.put, List.setIfInBounds_toArray, List.set_cons_zero, List.set_cons_succ]
    have l1 := F0.len
    simp only [List.length_append, List.length_nil] at l1
    refine hr_call_w 5 (some 15) 33 #[.slice b1 m1 c1, .int .u64 st] rfl rfl (by kernel_rfl) rfl (by go_simp) (fun v w' => ∃ b2 m2 c2, v = .slice b2 m2 c2 ∧ Sl w' b2 m2 c2 ([] ++ enc cl ++ enc st) ∧ Below v1.heap.size v1 w') ((fUint v1 b1 m1 c1 st _ F0 (by omega) hst).mono (by
      rintro e w' ⟨b2, m2, c2, rfl, F, C⟩
      exact ⟨_, rfl, b2, m2, c2, rfl, F, C⟩)) ?_
    rintro v v2 ⟨b2, m2, c2, rfl, F1, C1⟩
    have E2 := E1.trans (C1.mono E1.size)
    have H2 := HS.out v2 E2
    refine ⟨H2, ?_⟩
    simp only [Act.put, List.setIfInBounds_toArray, List.set_cons_zero, List.set_cons_succ]
    have l2 := F1.len
    simp only [List.length_append, List.length_nil] at l2
    refine hr_call_w 8 (some 18) 29 #[.slice b2 m2 c2, .agg #[.int .i64 o.kind, .string o.row, .string o.fam, .string o.qual, .int .u64 o.time, .string o.to, .slice o.va.ao o.va.n o.va.cap, .slice o.wa.ao o.wa.n o.wa.cap, .bool o.has, .slice o.so o.sn o.sc]] rfl rfl (by kernel_rfl) rfl (by go_simp) (fun v w' => ∃ b3 m3 c3, v = .slice b3 m3 c3 ∧ Sl w' b3 m3 c3 ([] ++ enc cl ++ enc st ++ (putS o.s l.length ++ (l.map fun x => putS x.s 0).flatten)) ∧ Below v2.heap.size v2 w') ((pput_any v2 b2 m2 c2 _ F1 (by omega) o (h2.below E2) p1 l (hs2.below E2) p2 p3 p4).mono (by
      rintro e w' ⟨b3, m3, c3, rfl, F, C⟩
      exact ⟨_, rfl, b3, m3, c3, rfl, F, C⟩)) ?_
    rintro v v3 ⟨b3, m3, c3, rfl, F2, C2⟩
    have E3 := E2.trans (C2.mono E2.size)
    have H3 := HS.out v3 E3
    refine ⟨H3, ?_⟩
    simp only [Act.put, List.setIfInBounds_toArray, List.set_cons_zero, List.set_cons_succ]
    refine hr_take_w 9 (some 2) (.slice b3 m3 c3) rfl rfl (by kernel_rfl) (by kernel_rfl) (by kernel_rfl) rfl (fun W hW => by obtain ⟨h0, h1, h2, h3, h4, h5, h6, h7, h8, h9, h10, h11⟩ := hW; go_simp) H3 ?_
    simp only [Act.put, List.setIfInBounds_toArray, List.set_cons_zero, List.set_cons_succ]
    refine hr_take_w 10 (some 3) (.int .i64 0) rfl rfl (by kernel_rfl) (by kernel_rfl) (by kernel_rfl) rfl (fun W hW => by obtain ⟨h0, h1, h2, h3, h4, h5, h6, h7, h8, h9, h10, h11⟩ := hW; go_simp) H3 ?_
    simp only [Act.put, List.setIfInBounds_toArray, List.set_cons_zero, List.set_cons_succ]
    refine wpAnyH_done (by kernel_rfl) ?_ _
    refine NoPanic.normal ?_
    have B3 := B2.trans (E3.mono (by have := B2.size; have := HN.out; omega))
    go_wp2
    go_ret2
    refine ⟨⟨b3, m3, c3, by rw [hk] <;> rfl, ?_⟩, by rw [← HN.out]; exact B3⟩
    rw [if_pos hk]
    simpa only [List.nil_append, List.append_assoc, putA] using F2
  · obtain ⟨k, hkk⟩ : ∃ k, k = kq cl st (rightO o.s (l.map sn0)) := ⟨_, rfl⟩
    rw [← hkk] at hk ⊢
    have i1 : (k != 0) = true := by simp [hk]
    have HK : Hid (¬ k = 0) := hk
    have HKK : Hid (k = kq cl st (rightO o.s (l.map sn0))) := hkk
    clear hk hkk hp
    go_wp2
    go_ret2
    exact ⟨⟨none, 0, 0, by rw [← HKK.out] <;> rfl, by rw [← HKK.out, if_neg HK.out]; exact Sl.nothing _⟩, by rw [← HN.out]; exact B2⟩
end Go.Proofs.Ytbfcilfdeemnpaa

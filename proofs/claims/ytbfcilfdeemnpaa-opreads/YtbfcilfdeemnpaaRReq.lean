/-
  Requests: the reference's.
-/
import Derived.Test.YtbfcilfdeemnpaaPReq
import Derived.Test.YtbfcilfdeemnpaaRBytes6
namespace Go.Proofs.Ytbfcilfdeemnpaa
open Go.RowKit

set_option maxRecDepth 100000 in
set_option maxHeartbeats 8000000 in
theorem rreq_any (d : Nat) (w : World) (cl st : Nat) (o : OA) (pl : List (OD d)) (hcl : cl < 18446744073709551616) (hst : st < 18446744073709551616) (h : OW w (d + 1) (o, pl)) (hl : lightD (d + 1) (o, pl) = true) (l : List OA) (he : l = pl.map (topD d)) :
    Calls Try.prog 14 #[qVal cl st o] w (ReqPost w (kq cl st (rightO o.s (l.map sn0))) (enc cl ++ (enc st ++ putA o l))) := by
  have e1 : l.map sn0 = pl.map (snD d) := by rw [he]; exact map_flat d pl
  have B : Below w.heap.size w (w.alloc (Obj.cells #[.int .u64 cl, .int .u64 st, .int .i64 o.kind, .string o.row, .string o.fam, .string o.qual, .int .u64 o.time, .string o.to, .slice o.va.ao o.va.n o.va.cap, .slice o.wa.ao o.wa.n o.wa.cap, .bool o.has, .slice o.so o.sn o.sc] 30)) := (Below.refl _ w).alloc (Nat.le_refl _) _
  have K : QC (w.alloc (Obj.cells #[.int .u64 cl, .int .u64 st, .int .i64 o.kind, .string o.row, .string o.fam, .string o.qual, .int .u64 o.time, .string o.to, .slice o.va.ao o.va.n o.va.cap, .slice o.wa.ao o.wa.n o.wa.cap, .bool o.has, .slice o.so o.sn o.sc] 30)) w.heap.size cl st o := heap_alloc_new w _
  have CR := rright6 d _ o pl (h.below B) hl
  rw [← e1] at CR
  have hs : OWL w 0 o.so o.sn o.sc l := by rw [he]; exact h.subs.flat
  have h1 := h.1.below B
  have hs1 := hs.below B
  have hp : rightO o.s (l.map sn0) = true → o.s.fits ∧ l.length ≤ 8 ∧ (∀ x ∈ l, x.s.fits) ∧ ∀ x ∈ l, x.sn = 0 := fun q => right_parts q h.1 hs.ok
  clear h hs hl he e1
  rw [show qVal cl st o = .agg #[.int .u64 cl, .int .u64 st, .int .i64 o.kind, .string o.row, .string o.fam, .string o.qual, .int .u64 o.time, .string o.to, .slice o.va.ao o.va.n o.va.cap, .slice o.wa.ao o.wa.n o.wa.cap, .bool o.has, .slice o.so o.sn o.sc] from rfl]
  by_cases z1 : cl = 0
  · have i1 : ((cl : Int) == 0) = true := by simp; omega
    have hv : Hid (kq cl st (rightO o.s (l.map sn0)) = 1) := if_pos (.inl z1)
    clear CR z1 hp
    go_enter Try.func14, Try.ntmps14
    go_wp2
    go_ret2
    exact ⟨⟨none, 0, 0, by rw [hv.out] <;> rfl, by rw [hv.out]; exact Sl.nothing _⟩, B⟩
  have i1 : ((cl : Int) == 0) = false := by simp; omega
  by_cases z2 : st = 0
  · have i2 : ((st : Int) == 0) = true := by simp; omega
    have hv : Hid (kq cl st (rightO o.s (l.map sn0)) = 1) := if_pos (.inr z2)
    clear CR z1 z2 hp
    go_enter Try.func14, Try.ntmps14
    go_wp2
    go_ret2
    exact ⟨⟨none, 0, 0, by rw [hv.out] <;> rfl, by rw [hv.out]; exact Sl.nothing _⟩, B⟩
  have i2 : ((st : Int) == 0) = false := by simp; omega
  have hv : Hid (kq cl st (rightO o.s (l.map sn0)) = kindO (rightO o.s (l.map sn0))) := if_neg (by omega)
  clear z1 z2
  go_enter Try.func14, Try.ntmps14
  go_wp2_with fail
  obtain ⟨w1, hw1⟩ : ∃ W, W = w.alloc (Obj.cells #[.int .u64 cl, .int .u64 st, .int .i64 o.kind, .string o.row, .string o.fam, .string o.qual, .int .u64 o.time, .string o.to, .slice o.va.ao o.va.n o.va.cap, .slice o.wa.ao o.wa.n o.wa.cap, .bool o.has, .slice o.so o.sn o.sc] 30) := ⟨_, rfl⟩
  obtain ⟨N, hN⟩ : ∃ N, N = w.heap.size := ⟨_, rfl⟩
  rw [← hw1] at B K h1 hs1 CR ⊢
  rw [← hN] at B K ⊢
  have HN : Hid (N = w.heap.size) := hN
  clear hw1 hN
  refine CR.mono ?_
  rintro e w2 ⟨rfl, C⟩
  have K2 := K.keep C
  have B2 := B.trans (C.mono (by have := B.size; have := K.lt; omega))
  have h2 := h1.below C
  have hs2 := hs1.below C
  clear C K B h1 hs1
  cases hb : rightO o.s (l.map sn0) with
  | true =>
    obtain ⟨p1, p2, p3, p4⟩ := hp hb
    rw [show kindO true = 0 from rfl]
    have g1 := enc_length hcl
    have g2 := enc_length hst
    go_wp2_with fail
    have HS : Hid (∀ V, Below w2.heap.size w2 V → V.cell? ⟨N, 0, none⟩ = some (.int .u64 cl) ∧ V.cell? ⟨N, 1, none⟩ = some (.int .u64 st) ∧ V.cell? ⟨N, 2, none⟩ = some (.int .i64 o.kind) ∧ V.cell? ⟨N, 3, none⟩ = some (.string o.row) ∧ V.cell? ⟨N, 4, none⟩ = some (.string o.fam) ∧ V.cell? ⟨N, 5, none⟩ = some (.string o.qual) ∧ V.cell? ⟨N, 6, none⟩ = some (.int .u64 o.time) ∧ V.cell? ⟨N, 7, none⟩ = some (.string o.to) ∧ V.cell? ⟨N, 8, none⟩ = some (.slice o.va.ao o.va.n o.va.cap) ∧ V.cell? ⟨N, 9, none⟩ = some (.slice o.wa.ao o.wa.n o.wa.cap) ∧ V.cell? ⟨N, 10, none⟩ = some (.bool o.has) ∧ V.cell? ⟨N, 11, none⟩ = some (.slice o.so o.sn o.sc)) := fun V hV => have q := (K2.keep hV).cs; ⟨q.c0, q.c1, q.c2, q.c3, q.c4, q.c5, q.c6, q.c7, q.c8, q.c9, q.c10, q.c11⟩
    have E0 : Below w2.heap.size w2 w2.drew := (Below.refl _ _).drew
    refine wp_region_noPanic ?_
    refine wp_region_held_drew (S := fun V => V.cell? ⟨N, 0, none⟩ = some (.int .u64 cl) ∧ V.cell? ⟨N, 1, none⟩ = some (.int .u64 st) ∧ V.cell? ⟨N, 2, none⟩ = some (.int .i64 o.kind) ∧ V.cell? ⟨N, 3, none⟩ = some (.string o.row) ∧ V.cell? ⟨N, 4, none⟩ = some (.string o.fam) ∧ V.cell? ⟨N, 5, none⟩ = some (.string o.qual) ∧ V.cell? ⟨N, 6, none⟩ = some (.int .u64 o.time) ∧ V.cell? ⟨N, 7, none⟩ = some (.string o.to) ∧ V.cell? ⟨N, 8, none⟩ = some (.slice o.va.ao o.va.n o.va.cap) ∧ V.cell? ⟨N, 9, none⟩ = some (.slice o.wa.ao o.wa.n o.wa.cap) ∧ V.cell? ⟨N, 10, none⟩ = some (.bool o.has) ∧ V.cell? ⟨N, 11, none⟩ = some (.slice o.so o.sn o.sc)) (by kernel_rfl) (HS.out _ E0) (fun H0 => ?_)
    obtain ⟨v0, hv0⟩ : ∃ v, v = w2.drew := ⟨_, rfl⟩
    rw [← hv0] at H0 E0 ⊢
    clear hv0
    refine hr_take_w 0 (some 19) (.pointer (some ⟨N, 0, none⟩)) rfl rfl (by kernel_rfl) (by kernel_rfl) (by kernel_rfl) rfl (fun W hW => by obtain ⟨h0, h1, h2, h3, h4, h5, h6, h7, h8, h9, h10, h11⟩ := hW; go_simp) H0 ?_
    simp only [Act.put, List.setIfInBounds_toArray, List.set_cons_zero, List.set_cons_succ]
    refine hr_take_w 1 (some 20) (.int .u64 cl) rfl rfl (by kernel_rfl) (by kernel_rfl) (by kernel_rfl) rfl (fun W hW => by obtain ⟨h0, h1, h2, h3, h4, h5, h6, h7, h8, h9, h10, h11⟩ := hW; go_simp) H0 ?_
    simp only [Act.put, List.setIfInBounds_toArray, List.set_cons_zero, List.set_cons_succ]
    refine hr_take_w 3 (some 22) (.pointer (some ⟨N, 1, none⟩)) rfl rfl (by kernel_rfl) (by kernel_rfl) (by kernel_rfl) rfl (fun W hW => by obtain ⟨h0, h1, h2, h3, h4, h5, h6, h7, h8, h9, h10, h11⟩ := hW; go_simp) H0 ?_
    simp only [Act.put, List.setIfInBounds_toArray, List.set_cons_zero, List.set_cons_succ]
    refine hr_take_w 4 (some 23) (.int .u64 st) rfl rfl (by kernel_rfl) (by kernel_rfl) (by kernel_rfl) rfl (fun W hW => by obtain ⟨h0, h1, h2, h3, h4, h5, h6, h7, h8, h9, h10, h11⟩ := hW; go_simp) H0 ?_
    simp only [Act.put, List.setIfInBounds_toArray, List.set_cons_zero, List.set_cons_succ]
    refine hr_take_w 6 (some 25) (.pointer (some ⟨N, 2, none⟩)) rfl rfl (by kernel_rfl) (by kernel_rfl) (by kernel_rfl) rfl (fun W hW => by obtain ⟨h0, h1, h2, h3, h4, h5, h6, h7, h8, h9, h10, h11⟩ := hW; go_simp) H0 ?_
    simp only [Act.put, List.setIfInBounds_toArray, List.set_cons_zero, List.set_cons_succ]
    refine hr_take_w 7 (some 26) (.agg #[.int .i64 o.kind, .string o.row, .string o.fam, .string o.qual, .int .u64 o.time, .string o.to, .slice o.va.ao o.va.n o.va.cap, .slice o.wa.ao o.wa.n o.wa.cap, .bool o.has, .slice o.so o.sn o.sc]) rfl rfl (by kernel_rfl) (by kernel_rfl) (by kernel_rfl) rfl (fun W hW => by obtain ⟨h0, h1, h2, h3, h4, h5, h6, h7, h8, h9, h10, h11⟩ := hW; go_simp) H0 ?_
    simp only [Act.put, List.setIfInBounds_toArray, List.set_cons_zero, List.set_cons_succ]
    refine hr_call_w 2 (some 21) 34 #[.slice none 0 0, .int .u64 cl] rfl rfl (by kernel_rfl) rfl (by go_simp) (fun v w' => ∃ b1 m1 c1, v = .slice b1 m1 c1 ∧ Sl w' b1 m1 c1 ([] ++ enc cl) ∧ Below v0.heap.size v0 w') ((gUint v0 none 0 0 cl [] (Sl.nothing _) (by omega) hcl).mono (by
      rintro e w' ⟨b1, m1, c1, rfl, F, C⟩
      exact ⟨_, rfl, b1, m1, c1, rfl, F, C⟩)) ?_
    rintro v v1 ⟨b1, m1, c1, rfl, F0, C0⟩
    have E1 := E0.trans (C0.mono E0.size)
    have H1 := HS.out v1 E1
    refine ⟨H1, ?_⟩
    simp only [Act.put, List.setIfInBounds_toArray, List.set_cons_zero, List.set_cons_succ]
    have l1 := F0.len
    simp only [List.length_append, List.length_nil] at l1
    refine hr_call_w 5 (some 24) 34 #[.slice b1 m1 c1, .int .u64 st] rfl rfl (by kernel_rfl) rfl (by go_simp) (fun v w' => ∃ b2 m2 c2, v = .slice b2 m2 c2 ∧ Sl w' b2 m2 c2 ([] ++ enc cl ++ enc st) ∧ Below v1.heap.size v1 w') ((gUint v1 b1 m1 c1 st _ F0 (by omega) hst).mono (by
      rintro e w' ⟨b2, m2, c2, rfl, F, C⟩
      exact ⟨_, rfl, b2, m2, c2, rfl, F, C⟩)) ?_
    rintro v v2 ⟨b2, m2, c2, rfl, F1, C1⟩
    have E2 := E1.trans (C1.mono E1.size)
    have H2 := HS.out v2 E2
    refine ⟨H2, ?_⟩
    simp only [Act.put, List.setIfInBounds_toArray, List.set_cons_zero, List.set_cons_succ]
    have l2 := F1.len
    simp only [List.length_append, List.length_nil] at l2
    refine hr_call_w 8 (some 27) 31 #[.slice b2 m2 c2, .agg #[.int .i64 o.kind, .string o.row, .string o.fam, .string o.qual, .int .u64 o.time, .string o.to, .slice o.va.ao o.va.n o.va.cap, .slice o.wa.ao o.wa.n o.wa.cap, .bool o.has, .slice o.so o.sn o.sc]] rfl rfl (by kernel_rfl) rfl (by go_simp) (fun v w' => ∃ b3 m3 c3, v = .slice b3 m3 c3 ∧ Sl w' b3 m3 c3 ([] ++ enc cl ++ enc st ++ (putS o.s l.length ++ (l.map fun x => putS x.s 0).flatten)) ∧ Below v2.heap.size v2 w') ((rput_any v2 b2 m2 c2 _ F1 (by omega) o (h2.below E2) p1 l (hs2.below E2) p2 p3 p4).mono (by
      rintro e w' ⟨b3, m3, c3, rfl, F, C⟩
      exact ⟨_, rfl, b3, m3, c3, rfl, F, C⟩)) ?_
    rintro v v3 ⟨b3, m3, c3, rfl, F2, C2⟩
    have E3 := E2.trans (C2.mono E2.size)
    have H3 := HS.out v3 E3
    refine ⟨H3, ?_⟩
    simp only [Act.put, List.setIfInBounds_toArray, List.set_cons_zero, List.set_cons_succ]
    refine hr_take_w 9 (some 2) (.slice b3 m3 c3) rfl rfl (by kernel_rfl) (by kernel_rfl) (by kernel_rfl) rfl (fun W hW => by obtain ⟨h0, h1, h2, h3, h4, h5, h6, h7, h8, h9, h10, h11⟩ := hW; go_simp) H3 ?_
    simp only [Act.put, List.setIfInBounds_toArray, List.set_cons_zero, List.set_cons_succ]
    refine hr_take_w 10 (some 3) (.int .i64 0) rfl rfl (by kernel_rfl) (by kernel_rfl) (by kernel_rfl) rfl (fun W hW => by obtain ⟨h0, h1, h2, h3, h4, h5, h6, h7, h8, h9, h10, h11⟩ := hW; go_simp) H3 ?_
    simp only [Act.put, List.setIfInBounds_toArray, List.set_cons_zero, List.set_cons_succ]
    refine wpAnyH_done (by kernel_rfl) ?_ _
    refine NoPanic.normal ?_
    have B3 := B2.trans (E3.mono (by have := B2.size; have := HN.out; omega))
    go_wp2
    go_ret2
    refine ⟨⟨b3, m3, c3, by rw [hv.out, hb] <;> rfl, ?_⟩, by rw [← HN.out]; exact B3⟩
    rw [hv.out, hb, show kindO true = 0 from rfl, if_pos rfl]
    simpa only [List.nil_append, List.append_assoc, putA] using F2
  | false =>
    rw [show kindO false = 6 from rfl]
    clear hp
    go_wp2
    go_ret2
    exact ⟨⟨none, 0, 0, by rw [hv.out, hb] <;> rfl, by rw [hv.out, hb]; exact Sl.nothing _⟩, by rw [← HN.out]; exact B2⟩
end Go.Proofs.Ytbfcilfdeemnpaa

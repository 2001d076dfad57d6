/-
  Texts in one: RPutOp, RReq, RReqs, GNew, GSet, ExSt, MgSm.
-/
import Derived.Test.YtcgphdipfekccaaGreatDoorMessageOrderQFL
import Derived.Test.YtcgphdipfekccaaGreatDoorMessageOrderQ39
import Derived.Test.YtcgphdipfekccaaGreatDoorMessageOrderQ40
import Derived.Test.YtcgphdipfekccaaGreatDoorMessageOrderQ9
import Derived.Test.YtcgphdipfekccaaGreatDoorMessageOrderQ36
import Derived.Test.YtcgphdipfekccaaGreatDoorMessageOrderQ0
import Derived.Test.YtcgphdipfekccaaGreatDoorMessageOrderQ13
import Derived.DataElems
import Derived.ArgAppend
import Derived.Deep.Upon
import Derived.Deep.MidRow
import Derived.Test.YtcgphdipfekccaaGreatDoorMessageOrderQ12
import Derived.Test.YtcgphdipfekccaaGreatDoorMessageOrderQ33
namespace Go.Proofs.YtcgphdipfekccaaGreatDoor
open Go.RowKit
theorem rput_leaf (w : World) (ao : Option Addr) (n cap : Nat) (xs : List Int) (h : Sl w ao n cap xs) (hr : n ≤ 800000) (o : OA) (ho : o.ok w) (hf : o.s.fits) (hz : o.sn = 0) :
    Calls Tryz.prog 13 #[.slice ao n cap, o.val] w (PutPost w (xs ++ putS o.s 0)) := by
  have := rput_gen w ao n cap xs h 800000 (by omega) hr o ho hf [] (OWL.none ho hz) (by decide) (fun x hx => by simp at hx) (fun _ _ _ _ _ x hx => by simp at hx)
  simpa using this
theorem rput_any (w : World) (ao : Option Addr) (n cap : Nat) (xs : List Int) (h : Sl w ao n cap xs) (hr : n ≤ 700000) (o : OA) (ho : o.ok w) (hf : o.s.fits) (l : List OA) (L : OWL w 0 o.so o.sn o.sc l) (hl8 : l.length ≤ 8) (hlf : ∀ x ∈ l, x.s.fits) (hlz : ∀ x ∈ l, x.sn = 0) :
    Calls Tryz.prog 13 #[.slice ao n cap, o.val] w (PutPost w (xs ++ (putS o.s l.length ++ (l.map fun x => putS x.s 0).flatten))) :=
  rput_gen w ao n cap xs h 700000 (by omega) hr o ho hf l L hl8 hlf (fun W bo m c ys x hx S hm hok => rput_leaf W bo m c ys S (by omega) x hok (hlf x hx) (hlz x hx))
open Go.RowKit
set_option maxRecDepth 100000 in
set_option maxHeartbeats 8000000 in
theorem rreq_any (d : Nat) (w : World) (cl st : Nat) (o : OA) (pl : List (OD d)) (hcl : cl < 18446744073709551616) (hst : st < 18446744073709551616) (h : OW w (d + 1) (o, pl)) (hl : lightD (d + 1) (o, pl) = true) (l : List OA) (he : l = pl.map (topD d)) :
    Calls Tryz.prog 6 #[qVal cl st o] w (ReqPost w (kq cl st (rightO o.s (l.map sn0))) (enc cl ++ (enc st ++ putA o l))) := by
  have e1 : l.map sn0 = pl.map (snD d) := by rw [he]; exact map_flat d pl
  have B : Below w.heap.size w (w.alloc (Obj.cells #[.int .u64 cl, .int .u64 st, .int .i64 o.kind, .string o.row, .string o.fam, .string o.qual, .int .u64 o.time, .string o.to, .slice o.va.ao o.va.n o.va.cap, .slice o.wa.ao o.wa.n o.wa.cap, .bool o.has, .slice o.so o.sn o.sc] 33)) := (Below.refl _ w).alloc (Nat.le_refl _) _
  have K : QC (w.alloc (Obj.cells #[.int .u64 cl, .int .u64 st, .int .i64 o.kind, .string o.row, .string o.fam, .string o.qual, .int .u64 o.time, .string o.to, .slice o.va.ao o.va.n o.va.cap, .slice o.wa.ao o.wa.n o.wa.cap, .bool o.has, .slice o.so o.sn o.sc] 33)) w.heap.size cl st o := heap_alloc_new w _
  have CR := rright6 d _ o pl (h.below B) hl
  rw [← e1] at CR
  have hs : OWL w 0 o.so o.sn o.sc l := by rw [he]; exact h.subs.flat
  have h1 := h.1.below B
  have hs1 := hs.below B
  have hp : rightO o.s (l.map sn0) = true → o.s.fits ∧ l.length ≤ 8 ∧ (∀ x ∈ l, x.s.fits) ∧ ∀ x ∈ l, x.sn = 0 := fun q => right_parts q h.1 hs.ok
  clear h hs hl he e1
  rw [show qVal cl st o = .agg #[.int .u64 cl, .int .u64 st, .int .i64 o.kind, .string o.row, .string o.fam, .string o.qual, .int .u64 o.time, .string o.to, .slice o.va.ao o.va.n o.va.cap, .slice o.wa.ao o.wa.n o.wa.cap, .bool o.has, .slice o.so o.sn o.sc] from rfl]
  by_cases z1 : cl = 0
  · have i1 : ((cl : Int) == 0) = true := by simp; omega
    have hv : Hid (kq cl st (rightO o.s (l.map sn0)) = 1) := if_pos (.inl z1)
    clear CR z1 hp
    go_enter Tryz.func6, Tryz.ntmps6
    go_wp2
    go_ret2
    exact ⟨⟨none, 0, 0, by rw [hv.out] <;> rfl, by rw [hv.out]; exact Sl.nothing _⟩, B⟩
  have i1 : ((cl : Int) == 0) = false := by simp; omega
  by_cases z2 : st = 0
  · have i2 : ((st : Int) == 0) = true := by simp; omega
    have hv : Hid (kq cl st (rightO o.s (l.map sn0)) = 1) := if_pos (.inr z2)
    clear CR z1 z2 hp
    go_enter Tryz.func6, Tryz.ntmps6
    go_wp2
    go_ret2
    exact ⟨⟨none, 0, 0, by rw [hv.out] <;> rfl, by rw [hv.out]; exact Sl.nothing _⟩, B⟩
  have i2 : ((st : Int) == 0) = false := by simp; omega
  have hv : Hid (kq cl st (rightO o.s (l.map sn0)) = kindO (rightO o.s (l.map sn0))) := if_neg (by omega)
  clear z1 z2
  go_enter Tryz.func6, Tryz.ntmps6
  go_wp2_with fail
  obtain ⟨w1, hw1⟩ : ∃ W, W = w.alloc (Obj.cells #[.int .u64 cl, .int .u64 st, .int .i64 o.kind, .string o.row, .string o.fam, .string o.qual, .int .u64 o.time, .string o.to, .slice o.va.ao o.va.n o.va.cap, .slice o.wa.ao o.wa.n o.wa.cap, .bool o.has, .slice o.so o.sn o.sc] 33) := ⟨_, rfl⟩
  obtain ⟨N, hN⟩ : ∃ N, N = w.heap.size := ⟨_, rfl⟩
  rw [← hw1] at B K h1 hs1 CR ⊢
  rw [← hN] at B K ⊢
  have HN : Hid (N = w.heap.size) := hN
  clear hw1 hN
  refine CR.mono ?_
  rintro e w2 ⟨rfl, C⟩
  have K2 := K.keep C
  have B2 := B.trans (C.mono (by have := B.size; have := K.lt; omega))
  have h2 := h1.below C
  have hs2 := hs1.below C
  clear C K B h1 hs1
  cases hb : rightO o.s (l.map sn0) with
  | true =>
    obtain ⟨p1, p2, p3, p4⟩ := hp hb
    rw [show kindO true = 0 from rfl]
    have g1 := enc_length hcl
    have g2 := enc_length hst
    go_wp2_with fail
    have HS : Hid (∀ V, Below w2.heap.size w2 V → V.cell? ⟨N, 0, none⟩ = some (.int .u64 cl) ∧ V.cell? ⟨N, 1, none⟩ = some (.int .u64 st) ∧ V.cell? ⟨N, 2, none⟩ = some (.int .i64 o.kind) ∧ V.cell? ⟨N, 3, none⟩ = some (.string o.row) ∧ V.cell? ⟨N, 4, none⟩ = some (.string o.fam) ∧ V.cell? ⟨N, 5, none⟩ = some (.string o.qual) ∧ V.cell? ⟨N, 6, none⟩ = some (.int .u64 o.time) ∧ V.cell? ⟨N, 7, none⟩ = some (.string o.to) ∧ V.cell? ⟨N, 8, none⟩ = some (.slice o.va.ao o.va.n o.va.cap) ∧ V.cell? ⟨N, 9, none⟩ = some (.slice o.wa.ao o.wa.n o.wa.cap) ∧ V.cell? ⟨N, 10, none⟩ = some (.bool o.has) ∧ V.cell? ⟨N, 11, none⟩ = some (.slice o.so o.sn o.sc)) := fun V hV => have q := (K2.keep hV).cs; ⟨q.c0, q.c1, q.c2, q.c3, q.c4, q.c5, q.c6, q.c7, q.c8, q.c9, q.c10, q.c11⟩
    have E0 : Below w2.heap.size w2 w2.drew := (Below.refl _ _).drew
    refine wp_region_noPanic ?_
    refine wp_region_held_drew (S := fun V => V.cell? ⟨N, 0, none⟩ = some (.int .u64 cl) ∧ V.cell? ⟨N, 1, none⟩ = some (.int .u64 st) ∧ V.cell? ⟨N, 2, none⟩ = some (.int .i64 o.kind) ∧ V.cell? ⟨N, 3, none⟩ = some (.string o.row) ∧ V.cell? ⟨N, 4, none⟩ = some (.string o.fam) ∧ V.cell? ⟨N, 5, none⟩ = some (.string o.qual) ∧ V.cell? ⟨N, 6, none⟩ = some (.int .u64 o.time) ∧ V.cell? ⟨N, 7, none⟩ = some (.string o.to) ∧ V.cell? ⟨N, 8, none⟩ = some (.slice o.va.ao o.va.n o.va.cap) ∧ V.cell? ⟨N, 9, none⟩ = some (.slice o.wa.ao o.wa.n o.wa.cap) ∧ V.cell? ⟨N, 10, none⟩ = some (.bool o.has) ∧ V.cell? ⟨N, 11, none⟩ = some (.slice o.so o.sn o.sc)) (by kernel_rfl) (HS.out _ E0) (fun H0 => ?_)
    obtain ⟨v0, hv0⟩ : ∃ v, v = w2.drew := ⟨_, rfl⟩
    rw [← hv0] at H0 E0 ⊢
    clear hv0
    refine hr_take_w 0 (some 19) (.pointer (some ⟨N, 0, none⟩)) rfl rfl (by kernel_rfl) (by kernel_rfl) (by kernel_rfl) rfl (fun W hW => by obtain ⟨h0, h1, h2, h3, h4, h5, h6, h7, h8, h9, h10, h11⟩ := hW; go_simp) H0 ?_
    simp only [FL]
    refine hr_take_w 1 (some 20) (.int .u64 cl) rfl rfl (by kernel_rfl) (by kernel_rfl) (by kernel_rfl) rfl (fun W hW => by obtain ⟨h0, h1, h2, h3, h4, h5, h6, h7, h8, h9, h10, h11⟩ := hW; go_simp) H0 ?_
    simp only [FL]
    refine hr_take_w 3 (some 22) (.pointer (some ⟨N, 1, none⟩)) rfl rfl (by kernel_rfl) (by kernel_rfl) (by kernel_rfl) rfl (fun W hW => by obtain ⟨h0, h1, h2, h3, h4, h5, h6, h7, h8, h9, h10, h11⟩ := hW; go_simp) H0 ?_
    simp only [FL]
    refine hr_take_w 4 (some 23) (.int .u64 st) rfl rfl (by kernel_rfl) (by kernel_rfl) (by kernel_rfl) rfl (fun W hW => by obtain ⟨h0, h1, h2, h3, h4, h5, h6, h7, h8, h9, h10, h11⟩ := hW; go_simp) H0 ?_
    simp only [FL]
    refine hr_take_w 6 (some 25) (.pointer (some ⟨N, 2, none⟩)) rfl rfl (by kernel_rfl) (by kernel_rfl) (by kernel_rfl) rfl (fun W hW => by obtain ⟨h0, h1, h2, h3, h4, h5, h6, h7, h8, h9, h10, h11⟩ := hW; go_simp) H0 ?_
    simp only [FL]
    refine hr_take_w 7 (some 26) (.agg #[.int .i64 o.kind, .string o.row, .string o.fam, .string o.qual, .int .u64 o.time, .string o.to, .slice o.va.ao o.va.n o.va.cap, .slice o.wa.ao o.wa.n o.wa.cap, .bool o.has, .slice o.so o.sn o.sc]) rfl rfl (by kernel_rfl) (by kernel_rfl) (by kernel_rfl) rfl (fun W hW => by obtain ⟨h0, h1, h2, h3, h4, h5, h6, h7, h8, h9, h10, h11⟩ := hW; go_simp) H0 ?_
    simp only [FL]
    refine hr_call_w 2 (some 21) 14 #[.slice none 0 0, .int .u64 cl] rfl rfl (by kernel_rfl) rfl (by go_simp) (fun v w' => ∃ b1 m1 c1, v = .slice b1 m1 c1 ∧ Sl w' b1 m1 c1 ([] ++ enc cl) ∧ Below v0.heap.size v0 w') ((gUint v0 none 0 0 cl [] (Sl.nothing _) (by omega) hcl).mono (by
      rintro e w' ⟨b1, m1, c1, rfl, F, C⟩
      exact ⟨_, rfl, b1, m1, c1, rfl, F, C⟩)) ?_
    rintro v v1 ⟨b1, m1, c1, rfl, F0, C0⟩
    have E1 := E0.trans (C0.mono E0.size)
    have H1 := HS.out v1 E1
    refine ⟨H1, ?_⟩
    simp only [FL]
    have l1 := F0.len
    simp only [List.length_append, List.length_nil] at l1
    refine hr_call_w 5 (some 24) 14 #[.slice b1 m1 c1, .int .u64 st] rfl rfl (by kernel_rfl) rfl (by go_simp) (fun v w' => ∃ b2 m2 c2, v = .slice b2 m2 c2 ∧ Sl w' b2 m2 c2 ([] ++ enc cl ++ enc st) ∧ Below v1.heap.size v1 w') ((gUint v1 b1 m1 c1 st _ F0 (by omega) hst).mono (by
      rintro e w' ⟨b2, m2, c2, rfl, F, C⟩
      exact ⟨_, rfl, b2, m2, c2, rfl, F, C⟩)) ?_
    rintro v v2 ⟨b2, m2, c2, rfl, F1, C1⟩
    have E2 := E1.trans (C1.mono E1.size)
    have H2 := HS.out v2 E2
    refine ⟨H2, ?_⟩
    simp only [FL]
    have l2 := F1.len
    simp only [List.length_append, List.length_nil] at l2
    refine hr_call_w 8 (some 27) 13 #[.slice b2 m2 c2, .agg #[.int .i64 o.kind, .string o.row, .string o.fam, .string o.qual, .int .u64 o.time, .string o.to, .slice o.va.ao o.va.n o.va.cap, .slice o.wa.ao o.wa.n o.wa.cap, .bool o.has, .slice o.so o.sn o.sc]] rfl rfl (by kernel_rfl) rfl (by go_simp) (fun v w' => ∃ b3 m3 c3, v = .slice b3 m3 c3 ∧ Sl w' b3 m3 c3 ([] ++ enc cl ++ enc st ++ (putS o.s l.length ++ (l.map fun x => putS x.s 0).flatten)) ∧ Below v2.heap.size v2 w') ((rput_any v2 b2 m2 c2 _ F1 (by omega) o (h2.below E2) p1 l (hs2.below E2) p2 p3 p4).mono (by
      rintro e w' ⟨b3, m3, c3, rfl, F, C⟩
      exact ⟨_, rfl, b3, m3, c3, rfl, F, C⟩)) ?_
    rintro v v3 ⟨b3, m3, c3, rfl, F2, C2⟩
    have E3 := E2.trans (C2.mono E2.size)
    have H3 := HS.out v3 E3
    refine ⟨H3, ?_⟩
    simp only [FL]
    refine hr_take_w 9 (some 2) (.slice b3 m3 c3) rfl rfl (by kernel_rfl) (by kernel_rfl) (by kernel_rfl) rfl (fun W hW => by obtain ⟨h0, h1, h2, h3, h4, h5, h6, h7, h8, h9, h10, h11⟩ := hW; go_simp) H3 ?_
    simp only [FL]
    refine hr_take_w 10 (some 3) (.int .i64 0) rfl rfl (by kernel_rfl) (by kernel_rfl) (by kernel_rfl) rfl (fun W hW => by obtain ⟨h0, h1, h2, h3, h4, h5, h6, h7, h8, h9, h10, h11⟩ := hW; go_simp) H3 ?_
    simp only [FL]
    refine wpAnyH_done (by kernel_rfl) ?_ _
    refine NoPanic.normal ?_
    have B3 := B2.trans (E3.mono (by have := B2.size; have := HN.out; omega))
    go_wp2
    go_ret2
    refine ⟨⟨b3, m3, c3, by rw [hv.out, hb] <;> rfl, ?_⟩, by rw [← HN.out]; exact B3⟩
    rw [hv.out, hb, show kindO true = 0 from rfl, if_pos rfl]
    simpa only [List.nil_append, List.append_assoc, putA] using F2
  | false =>
    rw [show kindO false = 6 from rfl]
    clear hp
    go_wp2
    go_ret2
    exact ⟨⟨none, 0, 0, by rw [hv.out, hb] <;> rfl, by rw [hv.out, hb]; exact Sl.nothing _⟩, by rw [← HN.out]; exact B2⟩
open Go.RowKit
set_option maxRecDepth 100000 in
set_option maxHeartbeats 4000000 in
theorem rreqs_any (d : Nat) (w : World) (c1 t1 c2 t2 : Nat) (x y : OD d) (hx : OW w d x) (hy : OW w d y) (lx : lightD d x = true) (ly : lightD d y = true) :
    Calls Tryz.prog 7 #[qVal c1 t1 (topD d x), qVal c2 t2 (topD d y)] w fun e w' => e = .returned (.bool (decide (c1 = c2) && (decide (t1 = t2) && sameD d x y))) ∧ Below w.heap.size w w' := by
  obtain ⟨a, ha⟩ : ∃ a, a = topD d x := ⟨_, rfl⟩
  obtain ⟨b, hb⟩ : ∃ b, b = topD d y := ⟨_, rfl⟩
  have B : Below w.heap.size w ((w.alloc (Obj.cells #[.int .u64 c1, .int .u64 t1, .int .i64 a.kind, .string a.row, .string a.fam, .string a.qual, .int .u64 a.time, .string a.to, .slice a.va.ao a.va.n a.va.cap, .slice a.wa.ao a.wa.n a.wa.cap, .bool a.has, .slice a.so a.sn a.sc] 33)).alloc (Obj.cells #[.int .u64 c2, .int .u64 t2, .int .i64 b.kind, .string b.row, .string b.fam, .string b.qual, .int .u64 b.time, .string b.to, .slice b.va.ao b.va.n b.va.cap, .slice b.wa.ao b.wa.n b.wa.cap, .bool b.has, .slice b.so b.sn b.sc] 33)) := ((Below.refl _ w).alloc (Nat.le_refl _) _).alloc (by simp) _
  have CR := rsame6 d ((w.alloc (Obj.cells #[.int .u64 c1, .int .u64 t1, .int .i64 a.kind, .string a.row, .string a.fam, .string a.qual, .int .u64 a.time, .string a.to, .slice a.va.ao a.va.n a.va.cap, .slice a.wa.ao a.wa.n a.wa.cap, .bool a.has, .slice a.so a.sn a.sc] 33)).alloc (Obj.cells #[.int .u64 c2, .int .u64 t2, .int .i64 b.kind, .string b.row, .string b.fam, .string b.qual, .int .u64 b.time, .string b.to, .slice b.va.ao b.va.n b.va.cap, .slice b.wa.ao b.wa.n b.wa.cap, .bool b.has, .slice b.so b.sn b.sc] 33)) x y (hx.below B) (hy.below B) lx ly
  rw [← ha, ← hb] at CR ⊢
  clear hx hy lx ly ha hb
  rw [show qVal c1 t1 a = .agg #[.int .u64 c1, .int .u64 t1, .int .i64 a.kind, .string a.row, .string a.fam, .string a.qual, .int .u64 a.time, .string a.to, .slice a.va.ao a.va.n a.va.cap, .slice a.wa.ao a.wa.n a.wa.cap, .bool a.has, .slice a.so a.sn a.sc] from rfl, show qVal c2 t2 b = .agg #[.int .u64 c2, .int .u64 t2, .int .i64 b.kind, .string b.row, .string b.fam, .string b.qual, .int .u64 b.time, .string b.to, .slice b.va.ao b.va.n b.va.cap, .slice b.wa.ao b.wa.n b.wa.cap, .bool b.has, .slice b.so b.sn b.sc] from rfl]
  unfold OA.val at CR
  by_cases z1 : c1 = c2
  case neg =>
    have i1 : ((c1 : Int) == (c2 : Int)) = false := by simp; omega
    have hv : Hid ((decide (c1 = c2) && (decide (t1 = t2) && sameD d x y)) = false) := by show _ = _; simp [z1]
    clear CR z1
    go_enter Tryz.func7, Tryz.ntmps7
    go_wp2
    go_ret
    exact ⟨by rw [hv.out] <;> rfl, B⟩
  by_cases z2 : t1 = t2
  case neg =>
    have i1 : ((c1 : Int) == (c2 : Int)) = true := by simp; omega
    have i2 : ((t1 : Int) == (t2 : Int)) = false := by simp; omega
    have hv : Hid ((decide (c1 = c2) && (decide (t1 = t2) && sameD d x y)) = false) := by show _ = _; simp [z2]
    clear CR z1 z2
    go_enter Tryz.func7, Tryz.ntmps7
    go_wp2
    go_ret
    exact ⟨by rw [hv.out] <;> rfl, B⟩
  have i1 : ((c1 : Int) == (c2 : Int)) = true := by simp; omega
  have i2 : ((t1 : Int) == (t2 : Int)) = true := by simp; omega
  have hv : Hid ((decide (c1 = c2) && (decide (t1 = t2) && sameD d x y)) = sameD d x y) := by show _ = _; simp [z1, z2]
  clear z1 z2
  go_enter Tryz.func7, Tryz.ntmps7
  go_wp2_with (go_at_call 15; refine CR.mono ?_; rintro e w2 ⟨rfl, C⟩; have D := B.trans (C.mono B.size))
  go_ret
  exact ⟨by rw [hv.out] <;> rfl, D⟩
end Go.Proofs.YtcgphdipfekccaaGreatDoor
namespace Go.Proofs.YtcgphdipfekccaaGreatDoor
open Go.RowKit
def flatE {α : Type} (E : El α) (l : List α) : List Value := (l.map E.c).flatten
variable {α : Type} {E : El α} {w0 w W W' : World} {base : Nat} {v : Value} {l qs : List α} {t s : TypeId} {bytes : Nat} {z : Value}
theorem flatE_app (E : El α) (l m : List α) : flatE E (l ++ m) = flatE E l ++ flatE E m := by simp [flatE]
theorem flatE_one (F : E.Fine) (l : List α) : ∀ u ∈ flatE E l, u.oneCell' = true := by
  intro u hu
  unfold flatE at hu
  obtain ⟨cs, h1, h2⟩ := List.mem_flatten.1 hu
  obtain ⟨c, -, rfl⟩ := List.mem_map.1 h1
  exact F.one c u h2
theorem flatE_len (F : E.Fine) (l : List α) : (flatE E l).length = l.length * E.sz := flat_len E.c E.sz F.len l
theorem GL.flat (F : E.Fine) {ao : Option Addr} {n cap : Nat} (h : GL E w ao n cap qs) {a : Addr} (ha : ao = some a) : ∀ j u, (flatE E qs)[j]? = some u → w.cell? (a.add j) = some u := fun j u hu => by
  have hj := (List.getElem?_eq_some_iff.1 hu).1
  rw [flatE_len F] at hj
  have hz := F.pos
  have hq : j / E.sz < qs.length := (Nat.div_lt_iff_lt_mul hz).2 hj
  have ej : j / E.sz * E.sz + j % E.sz = j := by rw [Nat.mul_comm]; exact Nat.div_add_mod j E.sz
  have hg := flat_get E.c E.sz F.len qs (j / E.sz) (j % E.sz) hq (Nat.mod_lt _ hz)
  rw [ej] at hg
  have := h.cell a ha (j / E.sz) hq (j % E.sz) u (hg.symm.trans hu)
  rw [ej] at this
  exact this
structure GNew (E : El α) (t : TypeId) (w0 W : World) (base : Nat) (v : Value) (l : List α) : Prop where
  row : W.ownsRow base t E.sz v l.length (flatE E l)
  ok : ∀ c ∈ l, E.ok c w0
theorem GNew.gl (F : E.Fine) (h : GNew E t w0 W base v l) (hb : Below w0.heap.size w0 W) : ∃ ao cap, v = .slice ao l.length cap ∧ GL E W ao l.length cap l ∧ ∀ z, sblk ao l.length z → base ≤ z := by
  have hok : ∀ c ∈ l, E.ok c W := fun c hc => F.kept c w0 W (h.ok c hc) fun z hz => hb.block z (F.lt c w0 z (h.ok c hc) hz)
  rcases h.row.2 with ⟨rfl, e⟩ | ⟨g, cap, cur, rfl, a1, a2, a3, a4, a5, a6⟩
  · rw [e]
    have : l = [] := List.eq_nil_of_length_eq_zero e
    subst this
    exact ⟨none, 0, rfl, GL.nothing E W, fun z hz => by obtain ⟨a, ha, _⟩ := hz; cases ha⟩
  · refine ⟨some ⟨g, 0, none⟩, cap, rfl, ⟨rfl, a3, a4, fun h => by simp at h, fun a ha i hi j u hu => ?_, hok⟩, fun z hz => by obtain ⟨a, ha, _, rfl⟩ := hz; cases ha; exact a1⟩
    obtain rfl := Option.some.inj ha
    have hj : j < E.sz := by have := (List.getElem?_eq_some_iff.1 hu).1; rw [F.len] at this; exact this
    refine h.row.cells (g := g) rfl (i * E.sz + j) u ?_
    unfold flatE
    rw [flat_get E.c E.sz F.len l i j hi hj]
    exact hu
theorem src_nil {P : Program} {w : World} {t e : TypeId} {i : TypeInfo} {bo : Option Addr} {c : Nat} (ht : P.underlying t = some (.slice e)) : Src P i.size t (.slice bo 0 c) 0 [] w := by
  refine ⟨.inl ⟨e, ht⟩, fun w' => rfl, ?_, ?_, by simp, by simp⟩ <;> cases bo <;> simp [Builtin.firstCells] <;> rfl
theorem run_appGs (F : E.Fine) (hty : GTy E.sz bytes z t s) (ty : TypeId) (h : GNew E t w0 w base v l) (hb : base ≤ w.heap.size) {bo : Option Addr} {m c : Nat} (hx : GL E w bo m c qs) (hok : ∀ q ∈ qs, E.ok q w0) (hn : (l.length + m) * bytes ≤ 140737488355328) (hm : l.length + m ≤ maxLen) :
    ∃ v' w', (Builtin.append_ #[s, s] ty #[v, .slice bo m c]).run Tryz.prog w = .ok v' w' ∧ GNew E t w0 w' base v' (l ++ qs) ∧ Below base w w' := by
  obtain ⟨i0, hi, hz0, hz1, hz2⟩ := info_parts hty.info
  have hlen := hx.len
  have key : ∀ d ∈ l ++ qs, E.ok d w0 := fun d hd => by
    rcases List.mem_append.1 hd with hd | hd
    · exact h.ok d hd
    · exact hok d hd
  by_cases h0 : m = 0
  · subst h0
    obtain rfl : qs = [] := List.eq_nil_of_length_eq_zero hlen
    have hv : ∃ ao cap, v = .slice ao l.length cap ∧ l.length ≤ cap := by
      rcases h.row.2 with ⟨rfl, e⟩ | ⟨g, cap, cur, rfl, hg, hh, hle, _⟩
      · rw [e]
        exact ⟨none, 0, rfl, Nat.le_refl _⟩
      · exact ⟨_, cap, rfl, hle⟩
    obtain ⟨ao, cap, rfl, hle⟩ := hv
    refine ⟨_, w, run_append_nothing w s s ty t i0 hty.und hi ao l.length cap hle _ (src_nil hty.und), ⟨?_, key⟩, Below.refl _ _⟩
    simpa using h.row
  · obtain ⟨ad, rfl⟩ : ∃ ad, bo = some ad := by
      cases bo with
      | none => have := (hx.nil rfl).1; omega
      | some ad => exact ⟨ad, rfl⟩
    obtain ⟨v', w', h1, h2, h3, -⟩ := run_append_own (P := Tryz.prog) w base s ty t i0 _ E.sz bytes hty.und hi hz0 hz1 hz2 hty.zs F.pos v l.length (flatE E l) h.row ad m c (flatE E qs) (by rw [flatE_len F, hlen]) (hx.flat F rfl) (flatE_one F qs) hm hn hb
    refine ⟨v', w', h1, ⟨?_, key⟩, (Below.refl _ w).grown h3 hb (fun k hk => (h.row.lt k hk).1)⟩
    rw [flatE_app, List.length_append, hlen]
    exact h2
theorem run_appG0 (F : E.Fine) (hty : GTy E.sz bytes z t s) (ty : TypeId) {g : Nat} (hbg : base ≤ g) (hg : Arr w g t []) {bo : Option Addr} {m c : Nat} (hx : GL E w bo m c qs) (hok : ∀ q ∈ qs, E.ok q w0) (hn : m * bytes ≤ 140737488355328) (hm : m ≤ 1000000) (hb : base ≤ w.heap.size) :
    ∃ v' w', (Builtin.append_ #[s, s] ty #[.slice (some ⟨g, 0, none⟩) 0 0, .slice bo m c]).run Tryz.prog w = .ok v' w' ∧ GNew E t w0 w' base v' qs ∧ Below w.heap.size w w' := by
  have hlen := hx.len
  have O : GNew E t w0 w base (.slice (some ⟨g, 0, none⟩) 0 0) ([] : List α) := ⟨⟨by simp [flatE], .inr ⟨g, 0, #[], rfl, hbg, hg, Nat.le_refl _, Nat.zero_le _, by simp, by simp [flatE]⟩⟩, fun _ h => absurd h List.not_mem_nil⟩
  obtain ⟨i0, hi, hz0, hz1, hz2⟩ := info_parts hty.info
  by_cases h0 : m = 0
  · subst h0
    obtain rfl : qs = [] := List.eq_nil_of_length_eq_zero hlen
    exact ⟨_, w, run_append_nothing w s s ty t i0 hty.und hi _ 0 0 (Nat.le_refl _) _ (src_nil hty.und), O, Below.refl _ _⟩
  · obtain ⟨ad, rfl⟩ : ∃ ad, bo = some ad := by
      cases bo with
      | none => have := (hx.nil rfl).1; omega
      | some ad => exact ⟨ad, rfl⟩
    obtain ⟨v', w', hr, h1, -⟩ := run_appGs (w0 := w0) (l := []) F hty ty O hb hx hok (by simpa using hn) (by simp [maxLen]; omega)
    have hr2 := run_append_grow (P := Tryz.prog) w s ty t i0 _ hty.und hi hz0 ⟨g, 0, none⟩ 0 0 [] (by simp) (fun j v h => by simp at h) ad m c (flatE E qs) (by rw [flatE_len F, hlen, hz1]) (hx.flat F rfl) (by omega) (by omega) (by
        rw [hz2]
        exact growslice_fits (by omega) (by simpa using hn))
    rw [hr] at hr2
    simp only [Result.ok.injEq] at hr2
    obtain ⟨rfl, rfl⟩ := hr2
    exact ⟨_, _, hr, by simpa using h1, (Below.refl _ w).drew.alloc (by simp) _⟩
end Go.Proofs.YtcgphdipfekccaaGreatDoor
namespace Go.Proofs.YtcgphdipfekccaaGreatDoor
open Go.RowKit
variable {α : Type} {E : El α} {w0 w W : World} {base : Nat} {v : Value} {l : List α} {t : TypeId}
theorem cells_grown (w : World) (p o : Nat) (vs : List Value) : w.grownBy (w.setCells p o vs) (some p) := by
  induction vs generalizing w o with
  | nil => exact ⟨rfl, rfl, rfl, Nat.le_refl _, fun _ _ _ => rfl⟩
  | cons v vs ih =>
    have h1 : w.grownBy (w.setCell ⟨p, o, none⟩ v) (some p) := grown_set (bel_grown (Below.refl _ w) _) o v
    exact gro_trans h1 (ih _ _)
theorem GNew.free {g n cap : Nat} (h : GNew E t w0 W base (.slice (some ⟨g, 0, none⟩) n cap) l) (j : Nat) : W.frozen? ⟨g, j, none⟩ = false := by
  rcases h.row.2 with ⟨e, _⟩ | ⟨g', cap', cur, e, _, hh, _⟩
  · simp at e
  · simp only [Value.slice.injEq, Option.some.injEq, Addr.mk.injEq, and_true] at e
    obtain ⟨rfl, -, -⟩ := e
    exact frozen_of_row W _ j _ _ hh
theorem GL.there (F : E.Fine) {g n cap : Nat} (h : GL E w (some ⟨g, 0, none⟩) n cap l) (hf : ∀ j, w.frozen? ⟨g, j, none⟩ = false) (k : Nat) (hk : k < l.length) : w.there g (k * E.sz) E.sz := fun j hj => by
  refine ⟨?_, hf _⟩
  have := h.get F rfl k hk j hj
  rw [Addr.add_lit, Nat.zero_add] at this
  rw [this]
  rfl
theorem GL.setAt (F : E.Fine) {g n cap : Nat} (h : GL E w (some ⟨g, 0, none⟩) n cap l) (k : Nat) (hk : k < l.length) (y : α) (hy : E.ok y w) (hoff : ∀ x, (x ∈ l ∨ x = y) → ∀ z, E.blk x z → z ≠ g) :
    GL E (w.setCells g (k * E.sz) (E.c y)) (some ⟨g, 0, none⟩) n cap (l.set k y) := by
  have G := cells_grown w g (k * E.sz) (E.c y)
  have keep : ∀ x, (x ∈ l ∨ x = y) → E.ok x w → E.ok x (w.setCells g (k * E.sz) (E.c y)) := fun x hx ho => F.kept x _ _ ho fun z hz => G.block z (F.lt x w z ho hz) (fun e => hoff x hx z hz (Option.some.inj e))
  refine ⟨by rw [List.length_set]; exact h.len, h.le, h.mx, fun e => by simp at e, fun a ha i hi j v hv => ?_, fun x hx => ?_⟩
  · obtain rfl := Option.some.inj ha
    rw [List.length_set] at hi
    have hj : j < E.sz := by have := (List.getElem?_eq_some_iff.1 hv).1; rw [F.len] at this; exact this
    rw [Addr.add_lit, Nat.zero_add]
    by_cases e : k = i
    · subst e
      rw [List.getElem_set_self] at hv
      have hj2 : j < (E.c y).length := by rw [F.len]; exact hj
      rw [World.cell?_setCells_in g (E.c y) (k * E.sz) w (fun q hq => ?_) j hj2]
      · rw [List.getElem?_eq_getElem hj2] at hv
        exact hv
      · rw [F.len] at hq
        have := h.get F rfl k hk q hq
        rw [Addr.add_lit, Nat.zero_add] at this
        rw [this]
        rfl
    · rw [List.getElem_set_ne e] at hv
      rw [World.cell?_setCells_out g (E.c y) (k * E.sz) w ⟨g, i * E.sz + j, none⟩ (fun _ _ => ?_)]
      · have := h.cell _ rfl i hi j v hv
        rw [Addr.add_lit, Nat.zero_add] at this
        exact this
      · rw [F.len]
        show i * E.sz + j < k * E.sz ∨ k * E.sz + E.sz ≤ i * E.sz + j
        rcases Nat.lt_or_gt_of_ne e with q | q
        · right
          have : (k + 1) * E.sz ≤ i * E.sz := Nat.mul_le_mul_right _ q
          rw [Nat.add_mul, Nat.one_mul] at this
          omega
        · left
          have : (i + 1) * E.sz ≤ k * E.sz := Nat.mul_le_mul_right _ q
          rw [Nat.add_mul, Nat.one_mul] at this
          omega
  · rcases List.mem_or_eq_of_mem_set hx with hx | rfl
    · exact keep x (.inl hx) (h.ok x hx)
    · exact keep x (.inr rfl) hy
end Go.Proofs.YtcgphdipfekccaaGreatDoor
namespace Go.Proofs.YtcgphdipfekccaaGreatDoor
open Go.RowKit
theorem exec_store {P : Program} {w w' : World} {o : Oper} {a : Act} {t : TypeId} {x y : Operand} {p v : Value} (ho : o.op = .store t x y) (hx : a.eval x = p) (hy : a.eval y = v) (h : (Instr.storeAt t p v).run P w = .ok () w') : (execOp a.eval o).run P w = .ok .skip w' := by
  unfold execOp
  simp only [ho, hx, hy, Sem.run_bind, h, Result.andThen_ok, Sem.run_pure]
open Go.RowKit
theorem sameL_map {α : Type} (f : α → α → Bool) (h : α → SO) (hf : ∀ x y, f x y = true → h x = h y) : ∀ l m : List α, sameL f l m = true → l.map h = m.map h
  | [], [], _ => rfl
  | [], _ :: _, h => by simp [sameL] at h
  | _ :: _, [], h => by simp [sameL] at h
  | a :: l, b :: m, q => by
    rw [sameL, Bool.and_eq_true] at q
    rw [List.map_cons, List.map_cons, hf a b q.1, sameL_map f h hf l m q.2]
theorem sameD_top : ∀ (d : Nat) (x y : OD d), sameD d x y = true → (topD d x).s = (topD d y).s
  | 0, x, y, h => (sameS_iff _ _).1 h
  | d + 1, x, y, h => by
    have h : (sameS x.1.s y.1.s && sameL (sameD d) x.2 y.2) = true := h
    rw [Bool.and_eq_true] at h
    exact (sameS_iff _ _).1 h.1
theorem sameD_parts (d : Nat) (x y : OD (d + 1)) (h : sameD (d + 1) x y = true) : ((show OA × List (OD d) from x).2.map (topD d)).map OA.s = ((show OA × List (OD d) from y).2.map (topD d)).map OA.s := by
  have h : (sameS (show OA × List (OD d) from x).1.s (show OA × List (OD d) from y).1.s && sameL (sameD d) (show OA × List (OD d) from x).2 (show OA × List (OD d) from y).2) = true := h
  rw [Bool.and_eq_true] at h
  rw [List.map_map, List.map_map]
  exact sameL_map (sameD d) (fun z => (topD d z).s) (sameD_top d) _ _ h.2
theorem same_v (x y : QE) (h : (decide (x.cl = y.cl) && (decide (x.st = y.st) && sameD 3 x.x y.x)) = true) : x.m.v = y.m.v := by
  simp only [Bool.and_eq_true, decide_eq_true_eq] at h
  obtain ⟨h1, h2, h3⟩ := h
  unfold QM.v QE.m
  simp only
  rw [h1, h2, sameD_top 3 _ _ h3, sameD_parts 2 _ _ h3]
end Go.Proofs.YtcgphdipfekccaaGreatDoor

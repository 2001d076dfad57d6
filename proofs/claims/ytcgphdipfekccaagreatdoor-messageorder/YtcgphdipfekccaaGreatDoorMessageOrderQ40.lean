/-
  Texts in one: ROp.
-/
import Derived.Test.YtcgphdipfekccaaGreatDoorMessageOrderQFL
import Derived.Test.YtcgphdipfekccaaGreatDoorMessageOrderQ9
import Derived.Test.YtcgphdipfekccaaGreatDoorMessageOrderQ39
namespace Go.Proofs.YtcgphdipfekccaaGreatDoor
open Go.RowKit
set_option maxRecDepth 100000 in
set_option maxHeartbeats 16000000 in
theorem rput_gen (w : World) (ao : Option Addr) (n cap : Nat) (xs : List Int) (h : Sl w ao n cap xs) (M : Nat) (hM : M ≤ 850000) (hr : n ≤ M) (o : OA) (ho : o.ok w) (hf : o.s.fits) (l : List OA) (L : OWL w 0 o.so o.sn o.sc l) (hl8 : l.length ≤ 8) (hlf : ∀ x ∈ l, x.s.fits)
    (rec : ∀ (W : World) (bo : Option Addr) (m c : Nat) (ys : List Int) (x : OA), x ∈ l → Sl W bo m c ys → m ≤ M + 10000 → x.ok W → Calls Tryz.prog 13 #[.slice bo m c, x.val] W (PutPost W (ys ++ putS x.s 0))) :
    Calls Tryz.prog 13 #[.slice ao n cap, o.val] w (PutPost w (xs ++ (putS o.s l.length ++ (l.map fun x => putS x.s 0).flatten))) := by
  have hxl := h.len
  have hl : l.length = o.sn := L.len
  have B : Below w.heap.size w (w.alloc (Obj.cells #[.int .i64 o.kind, .string o.row, .string o.fam, .string o.qual, .int .u64 o.time, .string o.to, .slice o.va.ao o.va.n o.va.cap, .slice o.wa.ao o.wa.n o.wa.cap, .bool o.has, .slice o.so o.sn o.sc] 31)) := (Below.refl _ w).alloc (Nat.le_refl _) _
  have K : OC (w.alloc (Obj.cells #[.int .i64 o.kind, .string o.row, .string o.fam, .string o.qual, .int .u64 o.time, .string o.to, .slice o.va.ao o.va.n o.va.cap, .slice o.wa.ao o.wa.n o.wa.cap, .bool o.has, .slice o.so o.sn o.sc] 31)) w.heap.size o := OC.new w o
  have h1 := h.below B
  have ho1 := ho.below B
  have L1 := L.below B
  clear h ho L
  obtain ⟨kd0, kd1⟩ : 0 ≤ o.kind ∧ o.kind ≤ 100 := hf.kind
  have hkf : KA.fits o.key := ⟨hf.row, hf.fam, hf.qual, hf.time⟩
  have lt : o.to.size ≤ 32 := hf.to
  have lv : o.va.xs.length ≤ 256 := hf.value.1
  have lw : o.wa.xs.length ≤ 256 := hf.want.1
  have g0 := enc_length (n := o.kind.toNat) (by omega)
  have g1 := putK_len hkf
  have g2 := txt_len lt
  have g3 := byts_len lv
  have g4 := byts_len lw
  have g5 := enb_len o.has
  have g6 := enc_length (n := o.sn) (by omega)
  unfold OA.val
  go_enter Tryz.func13, Tryz.ntmps13
  go_wp2_with fail
  obtain ⟨w1, hw1⟩ : ∃ W, W = w.alloc (Obj.cells #[.int .i64 o.kind, .string o.row, .string o.fam, .string o.qual, .int .u64 o.time, .string o.to, .slice o.va.ao o.va.n o.va.cap, .slice o.wa.ao o.wa.n o.wa.cap, .bool o.has, .slice o.so o.sn o.sc] 31) := ⟨_, rfl⟩
  obtain ⟨N, hN⟩ : ∃ N, N = w.heap.size := ⟨_, rfl⟩
  rw [← hw1] at B K h1 ho1 L1 ⊢
  rw [← hN] at B K ⊢
  have HN : Hid (N = w.heap.size) := hN
  clear hw1 hN
  have HS : Hid (∀ V, Below w1.heap.size w1 V → V.cell? ⟨N, 0, none⟩ = some (.int .i64 o.kind) ∧ V.cell? ⟨N, 1, none⟩ = some (.string o.row) ∧ V.cell? ⟨N, 2, none⟩ = some (.string o.fam) ∧ V.cell? ⟨N, 3, none⟩ = some (.string o.qual) ∧ V.cell? ⟨N, 4, none⟩ = some (.int .u64 o.time) ∧ V.cell? ⟨N, 5, none⟩ = some (.string o.to) ∧ V.cell? ⟨N, 6, none⟩ = some (.slice o.va.ao o.va.n o.va.cap) ∧ V.cell? ⟨N, 7, none⟩ = some (.slice o.wa.ao o.wa.n o.wa.cap) ∧ V.cell? ⟨N, 8, none⟩ = some (.bool o.has) ∧ V.cell? ⟨N, 9, none⟩ = some (.slice o.so o.sn o.sc)) := fun V hV => have q := (K.keep hV).cs; ⟨q.c0, q.c1, q.c2, q.c3, q.c4, q.c5, q.c6, q.c7, q.c8, q.c9⟩
  have E0 : Below w1.heap.size w1 w1.drew := (Below.refl _ _).drew
  refine wp_region_noPanic ?_
  refine wp_region_held_drew (S := fun V => V.cell? ⟨N, 0, none⟩ = some (.int .i64 o.kind) ∧ V.cell? ⟨N, 1, none⟩ = some (.string o.row) ∧ V.cell? ⟨N, 2, none⟩ = some (.string o.fam) ∧ V.cell? ⟨N, 3, none⟩ = some (.string o.qual) ∧ V.cell? ⟨N, 4, none⟩ = some (.int .u64 o.time) ∧ V.cell? ⟨N, 5, none⟩ = some (.string o.to) ∧ V.cell? ⟨N, 6, none⟩ = some (.slice o.va.ao o.va.n o.va.cap) ∧ V.cell? ⟨N, 7, none⟩ = some (.slice o.wa.ao o.wa.n o.wa.cap) ∧ V.cell? ⟨N, 8, none⟩ = some (.bool o.has) ∧ V.cell? ⟨N, 9, none⟩ = some (.slice o.so o.sn o.sc)) (by kernel_rfl) (HS.out _ E0) (fun H0 => ?_)
  obtain ⟨v0, hv0⟩ : ∃ v, v = w1.drew := ⟨_, rfl⟩
  rw [← hv0] at H0 E0 ⊢
  clear hv0
  refine hr_take_w 0 (some 6) (.slice ao n cap) rfl rfl (by kernel_rfl) (by kernel_rfl) (by kernel_rfl) rfl (fun W hW => by obtain ⟨h0, h1, h2, h3, h4, h5, h6, h7, h8, h9⟩ := hW; go_simp) H0 ?_
  simp only [FL]
  refine hr_take_w 1 (some 7) (.pointer (some ⟨N, 0, none⟩)) rfl rfl (by kernel_rfl) (by kernel_rfl) (by kernel_rfl) rfl (fun W hW => by obtain ⟨h0, h1, h2, h3, h4, h5, h6, h7, h8, h9⟩ := hW; go_simp) H0 ?_
  simp only [FL]
  refine hr_take_w 2 (some 8) (.int .i64 o.kind) rfl rfl (by kernel_rfl) (by kernel_rfl) (by kernel_rfl) rfl (fun W hW => by obtain ⟨h0, h1, h2, h3, h4, h5, h6, h7, h8, h9⟩ := hW; go_simp) H0 ?_
  simp only [FL]
  refine hr_take_w 3 (some 9) (.int .u64 o.kind) rfl rfl (by kernel_rfl) (by kernel_rfl) (by kernel_rfl) rfl (fun W hW => by obtain ⟨h0, h1, h2, h3, h4, h5, h6, h7, h8, h9⟩ := hW; go_simp; exact IntWalk.u64_in _ (by omega)) H0 ?_
  simp only [FL]
  refine hr_take_w 5 (some 11) (.pointer (some ⟨N, 1, none⟩)) rfl rfl (by kernel_rfl) (by kernel_rfl) (by kernel_rfl) rfl (fun W hW => by obtain ⟨h0, h1, h2, h3, h4, h5, h6, h7, h8, h9⟩ := hW; go_simp) H0 ?_
  simp only [FL]
  refine hr_take_w 6 (some 12) (.agg #[.string o.row, .string o.fam, .string o.qual, .int .u64 o.time]) rfl rfl (by kernel_rfl) (by kernel_rfl) (by kernel_rfl) rfl (fun W hW => by obtain ⟨h0, h1, h2, h3, h4, h5, h6, h7, h8, h9⟩ := hW; go_simp) H0 ?_
  simp only [FL]
  refine hr_take_w 8 (some 14) (.pointer (some ⟨N, 5, none⟩)) rfl rfl (by kernel_rfl) (by kernel_rfl) (by kernel_rfl) rfl (fun W hW => by obtain ⟨h0, h1, h2, h3, h4, h5, h6, h7, h8, h9⟩ := hW; go_simp) H0 ?_
  simp only [FL]
  refine hr_take_w 9 (some 15) (.string o.to) rfl rfl (by kernel_rfl) (by kernel_rfl) (by kernel_rfl) rfl (fun W hW => by obtain ⟨h0, h1, h2, h3, h4, h5, h6, h7, h8, h9⟩ := hW; go_simp) H0 ?_
  simp only [FL]
  refine hr_call_w 4 (some 10) 14 #[.slice ao n cap, .int .u64 o.kind] rfl rfl (by kernel_rfl) rfl (by go_simp) (fun v w' => ∃ b2 m2 c2, v = .slice b2 m2 c2 ∧ Sl w' b2 m2 c2 (xs ++ enc o.kind.toNat) ∧ Below v0.heap.size v0 w') ((gUintI v0 ao n cap o.kind xs (h1.below E0) (by omega) kd0 (by omega)).mono (by
    rintro e w' ⟨b2, m2, c2, rfl, F, C⟩
    exact ⟨_, rfl, b2, m2, c2, rfl, F, C⟩)) ?_
  rintro v v1 ⟨b2, m2, c2, rfl, F0, C0⟩
  have E1 := E0.trans (C0.mono E0.size)
  have H1 := HS.out v1 E1
  refine ⟨H1, ?_⟩
  simp only [FL]
  have l2 := F0.len
  simp only [List.length_append] at l2
  refine hr_call_w 7 (some 13) 35 #[.slice b2 m2 c2, .agg #[.string o.row, .string o.fam, .string o.qual, .int .u64 o.time]] rfl rfl (by kernel_rfl) rfl (by go_simp) (fun v w' => ∃ b3 m3 c3, v = .slice b3 m3 c3 ∧ Sl w' b3 m3 c3 (xs ++ enc o.kind.toNat ++ putK o.key) ∧ Below v1.heap.size v1 w') ((rkey_any v1 b2 m2 c2 _ F0 (by omega) o.key hkf).mono (by
    rintro e w' ⟨b3, m3, c3, rfl, F, C⟩
    exact ⟨_, rfl, b3, m3, c3, rfl, F, C⟩)) ?_
  rintro v v2 ⟨b3, m3, c3, rfl, F1, C1⟩
  have E2 := E1.trans (C1.mono E1.size)
  have H2 := HS.out v2 E2
  refine ⟨H2, ?_⟩
  simp only [FL]
  have l3 := F1.len
  simp only [List.length_append] at l3
  refine hr_call_w 10 (some 16) 34 #[.slice b3 m3 c3, .string o.to] rfl rfl (by kernel_rfl) rfl (by go_simp) (fun v w' => ∃ b4 m4 c4, v = .slice b4 m4 c4 ∧ Sl w' b4 m4 c4 (xs ++ enc o.kind.toNat ++ putK o.key ++ txt o.to) ∧ Below v2.heap.size v2 w') ((rtext_any v2 b3 m3 c3 _ F1 (by omega) o.to lt).mono (by
    rintro e w' ⟨b4, m4, c4, rfl, F, C⟩
    exact ⟨_, rfl, b4, m4, c4, rfl, F, C⟩)) ?_
  rintro v v3 ⟨b4, m4, c4, rfl, F2, C2⟩
  have E3 := E2.trans (C2.mono E2.size)
  have H3 := HS.out v3 E3
  refine ⟨H3, ?_⟩
  simp only [FL]
  have l4 := F2.len
  simp only [List.length_append] at l4
  refine hr_take_w 11 (some 0) (.slice b4 m4 c4) rfl rfl (by kernel_rfl) (by kernel_rfl) (by kernel_rfl) rfl (fun W hW => by obtain ⟨h0, h1, h2, h3, h4, h5, h6, h7, h8, h9⟩ := hW; go_simp) H3 ?_
  simp only [FL]
  refine wpAnyH_done (by kernel_rfl) ?_ _
  refine NoPanic.normal ?_
  have K4 := K.keep E3
  have A4 := E3
  have B4 := B.trans (E3.mono (by have := B.size; have := HN.out; omega))
  have S4 := F2
  obtain ⟨w4, hw4⟩ : ∃ V, V = v3 := ⟨_, rfl⟩
  rw [← hw4] at K4 B4 S4 A4 ⊢
  clear hw4 HS E0 E1 E2 E3 H0 H1 H2 H3 F0 F1 F2 C0 C1 C2 K B h1
  go_wp2_with fail
  have HS : Hid (∀ V, Below w4.heap.size w4 V → V.cell? ⟨N, 0, none⟩ = some (.int .i64 o.kind) ∧ V.cell? ⟨N, 1, none⟩ = some (.string o.row) ∧ V.cell? ⟨N, 2, none⟩ = some (.string o.fam) ∧ V.cell? ⟨N, 3, none⟩ = some (.string o.qual) ∧ V.cell? ⟨N, 4, none⟩ = some (.int .u64 o.time) ∧ V.cell? ⟨N, 5, none⟩ = some (.string o.to) ∧ V.cell? ⟨N, 6, none⟩ = some (.slice o.va.ao o.va.n o.va.cap) ∧ V.cell? ⟨N, 7, none⟩ = some (.slice o.wa.ao o.wa.n o.wa.cap) ∧ V.cell? ⟨N, 8, none⟩ = some (.bool o.has) ∧ V.cell? ⟨N, 9, none⟩ = some (.slice o.so o.sn o.sc)) := fun V hV => have q := (K4.keep hV).cs; ⟨q.c0, q.c1, q.c2, q.c3, q.c4, q.c5, q.c6, q.c7, q.c8, q.c9⟩
  have E0 : Below w4.heap.size w4 w4.drew := (Below.refl _ _).drew
  refine wp_region_noPanic ?_
  refine wp_region_held_drew (S := fun V => V.cell? ⟨N, 0, none⟩ = some (.int .i64 o.kind) ∧ V.cell? ⟨N, 1, none⟩ = some (.string o.row) ∧ V.cell? ⟨N, 2, none⟩ = some (.string o.fam) ∧ V.cell? ⟨N, 3, none⟩ = some (.string o.qual) ∧ V.cell? ⟨N, 4, none⟩ = some (.int .u64 o.time) ∧ V.cell? ⟨N, 5, none⟩ = some (.string o.to) ∧ V.cell? ⟨N, 6, none⟩ = some (.slice o.va.ao o.va.n o.va.cap) ∧ V.cell? ⟨N, 7, none⟩ = some (.slice o.wa.ao o.wa.n o.wa.cap) ∧ V.cell? ⟨N, 8, none⟩ = some (.bool o.has) ∧ V.cell? ⟨N, 9, none⟩ = some (.slice o.so o.sn o.sc)) (by kernel_rfl) (HS.out _ E0) (fun H0 => ?_)
  obtain ⟨v0, hv0⟩ : ∃ v, v = w4.drew := ⟨_, rfl⟩
  rw [← hv0] at H0 E0 ⊢
  clear hv0
  refine hr_take_w 0 (some 17) (.slice b4 m4 c4) rfl rfl (by kernel_rfl) (by kernel_rfl) (by kernel_rfl) rfl (fun W hW => by obtain ⟨h0, h1, h2, h3, h4, h5, h6, h7, h8, h9⟩ := hW; go_simp) H0 ?_
  simp only [FL]
  refine hr_take_w 1 (some 18) (.pointer (some ⟨N, 6, none⟩)) rfl rfl (by kernel_rfl) (by kernel_rfl) (by kernel_rfl) rfl (fun W hW => by obtain ⟨h0, h1, h2, h3, h4, h5, h6, h7, h8, h9⟩ := hW; go_simp) H0 ?_
  simp only [FL]
  refine hr_take_w 2 (some 19) (.slice o.va.ao o.va.n o.va.cap) rfl rfl (by kernel_rfl) (by kernel_rfl) (by kernel_rfl) rfl (fun W hW => by obtain ⟨h0, h1, h2, h3, h4, h5, h6, h7, h8, h9⟩ := hW; go_simp) H0 ?_
  simp only [FL]
  refine hr_take_w 4 (some 21) (.pointer (some ⟨N, 7, none⟩)) rfl rfl (by kernel_rfl) (by kernel_rfl) (by kernel_rfl) rfl (fun W hW => by obtain ⟨h0, h1, h2, h3, h4, h5, h6, h7, h8, h9⟩ := hW; go_simp) H0 ?_
  simp only [FL]
  refine hr_take_w 5 (some 22) (.slice o.wa.ao o.wa.n o.wa.cap) rfl rfl (by kernel_rfl) (by kernel_rfl) (by kernel_rfl) rfl (fun W hW => by obtain ⟨h0, h1, h2, h3, h4, h5, h6, h7, h8, h9⟩ := hW; go_simp) H0 ?_
  simp only [FL]
  refine hr_take_w 7 (some 24) (.pointer (some ⟨N, 8, none⟩)) rfl rfl (by kernel_rfl) (by kernel_rfl) (by kernel_rfl) rfl (fun W hW => by obtain ⟨h0, h1, h2, h3, h4, h5, h6, h7, h8, h9⟩ := hW; go_simp) H0 ?_
  simp only [FL]
  refine hr_take_w 8 (some 25) (.bool o.has) rfl rfl (by kernel_rfl) (by kernel_rfl) (by kernel_rfl) rfl (fun W hW => by obtain ⟨h0, h1, h2, h3, h4, h5, h6, h7, h8, h9⟩ := hW; go_simp) H0 ?_
  simp only [FL]
  refine hr_call_w 3 (some 20) 37 #[.slice b4 m4 c4, .slice o.va.ao o.va.n o.va.cap] rfl rfl (by kernel_rfl) rfl (by go_simp) (fun v w' => ∃ b5 m5 c5, v = .slice b5 m5 c5 ∧ Sl w' b5 m5 c5 (xs ++ enc o.kind.toNat ++ putK o.key ++ txt o.to ++ byts o.va.xs) ∧ Below v0.heap.size v0 w') ((gBytes v0 b4 _ m4 c4 _ _ _ _ (S4.below E0) ((ho1.below A4).below E0).va (by omega) (by have := ho1.va.len; omega)).mono (by
    rintro e w' ⟨b5, m5, c5, rfl, F, C⟩
    exact ⟨_, rfl, b5, m5, c5, rfl, F, C⟩)) ?_
  rintro v v1 ⟨b5, m5, c5, rfl, F0, C0⟩
  have E1 := E0.trans (C0.mono E0.size)
  have H1 := HS.out v1 E1
  refine ⟨H1, ?_⟩
  simp only [FL]
  have l5 := F0.len
  simp only [List.length_append] at l5
  refine hr_call_w 6 (some 23) 37 #[.slice b5 m5 c5, .slice o.wa.ao o.wa.n o.wa.cap] rfl rfl (by kernel_rfl) rfl (by go_simp) (fun v w' => ∃ b6 m6 c6, v = .slice b6 m6 c6 ∧ Sl w' b6 m6 c6 (xs ++ enc o.kind.toNat ++ putK o.key ++ txt o.to ++ byts o.va.xs ++ byts o.wa.xs) ∧ Below v1.heap.size v1 w') ((gBytes v1 b5 _ m5 c5 _ _ _ _ F0 ((ho1.below A4).below E1).wa (by omega) (by have := ho1.wa.len; omega)).mono (by
    rintro e w' ⟨b6, m6, c6, rfl, F, C⟩
    exact ⟨_, rfl, b6, m6, c6, rfl, F, C⟩)) ?_
  rintro v v2 ⟨b6, m6, c6, rfl, F1, C1⟩
  have E2 := E1.trans (C1.mono E1.size)
  have H2 := HS.out v2 E2
  refine ⟨H2, ?_⟩
  simp only [FL]
  have l6 := F1.len
  simp only [List.length_append] at l6
  refine hr_call_w 9 (some 26) 36 #[.slice b6 m6 c6, .bool o.has] rfl rfl (by kernel_rfl) rfl (by go_simp) (fun v w' => ∃ b7 m7 c7, v = .slice b7 m7 c7 ∧ Sl w' b7 m7 c7 (xs ++ enc o.kind.toNat ++ putK o.key ++ txt o.to ++ byts o.va.xs ++ byts o.wa.xs ++ enb o.has) ∧ Below v2.heap.size v2 w') ((gBool v2 b6 m6 c6 o.has _ F1 (by omega)).mono (by
    rintro e w' ⟨b7, m7, c7, rfl, F, C⟩
    exact ⟨_, rfl, b7, m7, c7, rfl, F, C⟩)) ?_
  rintro v v3 ⟨b7, m7, c7, rfl, F2, C2⟩
  have E3 := E2.trans (C2.mono E2.size)
  have H3 := HS.out v3 E3
  refine ⟨H3, ?_⟩
  simp only [FL]
  have l7 := F2.len
  simp only [List.length_append] at l7
  refine hr_take_w 10 (some 0) (.slice b7 m7 c7) rfl rfl (by kernel_rfl) (by kernel_rfl) (by kernel_rfl) rfl (fun W hW => by obtain ⟨h0, h1, h2, h3, h4, h5, h6, h7, h8, h9⟩ := hW; go_simp) H3 ?_
  simp only [FL]
  refine wpAnyH_done (by kernel_rfl) ?_ _
  refine NoPanic.normal ?_
  have K7 := K4.keep E3
  have A7 := A4.trans (E3.mono A4.size)
  have B7 := B4.trans (E3.mono (by have := B4.size; have := HN.out; omega))
  have S7 := F2
  obtain ⟨w7, hw7⟩ : ∃ V, V = v3 := ⟨_, rfl⟩
  rw [← hw7] at K7 B7 S7 A7 ⊢
  clear hw7 HS E0 E1 E2 E3 H0 H1 H2 H3 F0 F1 F2 C0 C1 C2 K4 B4 S4 A4
  have r9 := K7.cs.c9
  go_wp2_with fail
  clear r9
  refine (gUint w7 b7 m7 c7 o.sn _ S7 (by omega) (by omega)).mono ?_
  rintro e w8 ⟨b8, m8, c8, rfl, S8, C⟩
  have K8 := K7.keep C
  have B8 := B7.trans (C.mono (by have := B7.size; have := K7.lt; omega))
  have A8 := A7.trans (C.mono A7.size)
  have l8 := S8.len
  simp only [List.length_append] at l8
  clear C K7 B7 A7 S7
  have hS : xs ++ enc o.kind.toNat ++ putK o.key ++ txt o.to ++ byts o.va.xs ++ byts o.wa.xs ++ enb o.has ++ enc o.sn = xs ++ putS o.s l.length := by
    unfold putS putK OA.key OA.s
    rw [hl]
    simp only [List.append_assoc]
  rw [hS] at S8
  have L8 := L1.below A8
  have m8b : m8 ≤ M + 2000 := by omega
  clear l2 l3 l4 l5 l6 l7 l8 g0 g1 g2 g3 g4 g5 g6 L1 ho1 A8 hS lv lw lt hkf kd0 kd1
  have hs8 := B8.size
  go_wp2_with fail
  go_loopw [0, 5] (fun b i wr => ∃ (k : Nat) (bo : Option Addr) (m c : Nat), k ≤ o.sn ∧ i = .int .i64 k ∧ b = .slice bo m c ∧ Sl wr bo m c (xs ++ putS o.s l.length ++ ((l.take k).map fun x => putS x.s 0).flatten) ∧ m ≤ m8 + 800 * k ∧ Below N w wr ∧ Below w8.heap.size w8 wr) (fun _ i _ => o.sn - (intOf i).toNat)
  case atStart => exact ⟨0, b8, m8, c8, Nat.zero_le _, rfl, rfl, by simpa using S8, by omega, B8, Below.refl _ _⟩
  case round =>
    clear S8 B8
    obtain ⟨k, bo, m, c, hk, rfl, rfl, S, hm, B, C⟩ := hrel
    have K9 := K8.keep C
    have r9 := K9.cs.c9
    by_cases hlt : k < o.sn
    · obtain ⟨b, off, ea, hc⟩ := L8.at (by omega)
      have hkl : k < l.length := by omega
      have X := (hc k hkl).below C
      have hok : (l[k]).ok wr := (L8.ok _ (List.getElem_mem hkl)).below C
      have hmem := List.getElem_mem hkl
      have i6 : (k : Int) < (o.sn : Int) := by omega
      have HT : Hid (((l.take (k + 1)).map fun x => putS x.s 0).flatten = ((l.take k).map fun x => putS x.s 0).flatten ++ putS l[k].s 0) := by
        show _ = _
        rw [List.take_succ_eq_append_getElem hkl, List.map_append, List.flatten_append]
        simp
      have HF := putS_len (n := 0) (hlf _ hmem) (by omega)
      obtain ⟨x, hx⟩ : ∃ x : OA, x = l[k] := ⟨_, rfl⟩
      have X : OX wr b (off + k * 10) x := by rw [hx]; exact X
      obtain ⟨p, hp⟩ : ∃ p, p = ((l.take k).map fun x => putS x.s 0).flatten := ⟨_, rfl⟩
      rw [← hx] at hok HT HF hmem
      rw [← hp] at S HT
      have hm2 : m ≤ M + 10000 := by omega
      have CR := (rec _ bo m c _ x hmem S hm2 hok)
      clear hp hx hc rec K9
      rw [ea] at r9
      clear ea
      obtain ⟨q0, q1, q2, q3, q4, q5, q6, q7, q8, q9⟩ := X
      have lS := S.len
      clear S
      go_wp2_with (go_at_call 13; refine CR.mono ?_; rintro e w9 ⟨b9, m9, c9, rfl, S9, C9⟩; have B9 := B.trans (C9.mono (by have := B.size; have := HN.out; omega)); have D9 := C.trans (C9.mono C.size); have l9 := S9.len)
      have hm9 : m9 ≤ m8 + 800 * (k + 1) := by
        simp only [List.length_append] at l9 lS
        omega
      go_roundw
      case rel => exact ⟨k + 1, b9, m9, c9, by omega, by go_num, rfl, by rw [HT.out, ← List.append_assoc]; exact S9, hm9, B9, D9⟩
      case measure => simp [intOf]; omega
    · have i6 : (o.sn : Int) ≤ (k : Int) := by omega
      rw [List.take_of_length_le (by omega), List.append_assoc] at S
      go_wp2
      go_ret
      exact ⟨bo, m, c, rfl, S, by rw [← HN.out]; exact B⟩
end Go.Proofs.YtcgphdipfekccaaGreatDoor

/-
  Texts in one: RReqF.
-/
import Derived.Test.YtnbejckdhdbamaaGreatMessageRightQFL
import Derived.Test.YtnbejckdhdbamaaGreatMessageRightQ9
import Derived.Test.YtnbejckdhdbamaaGreatMessageRightQ24
import Derived.Test.YtnbejckdhdbamaaGreatMessageRightQ8
namespace Go.Proofs.YtnbejckdhdbamaaGreat
open Go.RowKit
theorem gUintF (w : World) (ao : Option Addr) (n cap m : Nat) (xs : List Int) (h : Sl w ao n cap xs) (hr : n ≤ 1000000) (hm : m < 18446744073709551616) :
  Calls Tryz.prog 66 #[.slice ao n cap, .int .u64 m] w fun e w' => ∃ bo k c, e = .returned (.slice bo k c) ∧ Sl w' bo k c (xs ++ enc m) ∧ Below w.heap.size w w' ∧ ∀ a, bo = some a → w.heap.size ≤ a.block := by
 refine (rUint_any w ao n cap m xs h (by omega) hm).mono ?_
 rintro e w' ⟨v, rfl, O, B⟩
 obtain ⟨bo, c, rfl, s, f⟩ := Sl.own O (h.byte.append (enc_byte hm))
 exact ⟨bo, _, c, rfl, s, B, fun a ha => (f a ha).1⟩
set_option maxRecDepth 100000 in
set_option maxHeartbeats 16000000 in
theorem rput_genF (w : World) (ao : Option Addr) (n cap : Nat) (xs : List Int) (h : Sl w ao n cap xs) (M : Nat) (hM : M ≤ 850000) (hr : n ≤ M) (o : OA) (ho : o.ok w) (hf : o.s.fits) (l : List OA) (L : OWL w 0 o.so o.sn o.sc l) (hl8 : l.length ≤ 8) (hlf : ∀ x ∈ l, x.s.fits)
  (rec : ∀ (W : World) (bo : Option Addr) (m c : Nat) (ys : List Int) (x : OA), x ∈ l → Sl W bo m c ys → m ≤ M + 10000 → x.ok W → Calls Tryz.prog 65 #[.slice bo m c, x.val] W (PutPostF W (ys ++ putS x.s 0))) :
  Calls Tryz.prog 65 #[.slice ao n cap, o.val] w (PutPostF w (xs ++ (putS o.s l.length ++ (l.map fun x => putS x.s 0).flatten))) := by
 have hxl := h.len
 have hl : l.length = o.sn := L.len
 have B : Below w.heap.size w (w.alloc (Obj.cells #[.int .i64 o.kind, .string o.row, .string o.fam, .string o.qual, .int .u64 o.time, .string o.to, .slice o.va.ao o.va.n o.va.cap, .slice o.wa.ao o.wa.n o.wa.cap, .bool o.has, .slice o.so o.sn o.sc] 58)) := (Below.refl _ w).alloc (Nat.le_refl _) _
 have K : OC (w.alloc (Obj.cells #[.int .i64 o.kind, .string o.row, .string o.fam, .string o.qual, .int .u64 o.time, .string o.to, .slice o.va.ao o.va.n o.va.cap, .slice o.wa.ao o.wa.n o.wa.cap, .bool o.has, .slice o.so o.sn o.sc] 58)) w.heap.size o := OC.new w o
 have h1 := h.below B
 have ho1 := ho.below B
 have L1 := L.below B
 clear h ho L
 obtain ⟨kd0, kd1⟩ : 0 ≤ o.kind ∧ o.kind ≤ 100 := hf.kind
 have hkf : KA.fits o.key := ⟨hf.row, hf.fam, hf.qual, hf.time⟩
 have lt : o.to.size ≤ 32 := hf.to
 have lv : o.va.xs.length ≤ 256 := hf.value.1
 have lw : o.wa.xs.length ≤ 256 := hf.want.1
 have g0 := enc_length (n := o.kind.toNat) (by omega)
 have g1 := putK_len hkf
 have g2 := txt_len lt
 have g3 := byts_len lv
 have g4 := byts_len lw
 have g5 := enb_len o.has
 have g6 := enc_length (n := o.sn) (by omega)
 unfold OA.val
 go_enter Tryz.func65, Tryz.ntmps65
 go_wp2_with fail
 obtain ⟨w1, hw1⟩ : ∃ W, W = w.alloc (Obj.cells #[.int .i64 o.kind, .string o.row, .string o.fam, .string o.qual, .int .u64 o.time, .string o.to, .slice o.va.ao o.va.n o.va.cap, .slice o.wa.ao o.wa.n o.wa.cap, .bool o.has, .slice o.so o.sn o.sc] 58) := ⟨_, rfl⟩
 obtain ⟨N, hN⟩ : ∃ N, N = w.heap.size := ⟨_, rfl⟩
 rw [← hw1] at B K h1 ho1 L1 ⊢
 rw [← hN] at B K ⊢
 have HN : Hid (N = w.heap.size) := hN
 clear hw1 hN
 have HS : Hid (∀ V, Below w1.heap.size w1 V → V.cell? ⟨N, 0, none⟩ = some (.int .i64 o.kind) ∧ V.cell? ⟨N, 1, none⟩ = some (.string o.row) ∧ V.cell? ⟨N, 2, none⟩ = some (.string o.fam) ∧ V.cell? ⟨N, 3, none⟩ = some (.string o.qual) ∧ V.cell? ⟨N, 4, none⟩ = some (.int .u64 o.time) ∧ V.cell? ⟨N, 5, none⟩ = some (.string o.to) ∧ V.cell? ⟨N, 6, none⟩ = some (.slice o.va.ao o.va.n o.va.cap) ∧ V.cell? ⟨N, 7, none⟩ = some (.slice o.wa.ao o.wa.n o.wa.cap) ∧ V.cell? ⟨N, 8, none⟩ = some (.bool o.has) ∧ V.cell? ⟨N, 9, none⟩ = some (.slice o.so o.sn o.sc)) := fun V hV => have q := (K.keep hV).cs; ⟨q.c0, q.c1, q.c2, q.c3, q.c4, q.c5, q.c6, q.c7, q.c8, q.c9⟩
 refine zB (by kernel_rfl) HS.out fun v0 E0 H0 => ?_
 refine zT 0 (some 6) (.slice ao n cap) rfl rfl (by kernel_rfl) rfl (fun W ⟨h0, h1, h2, h3, h4, h5, h6, h7, h8, h9⟩ => by go_simp) H0 ?_
 simp only [FL]
 refine zT 1 (some 7) (.pointer (some ⟨N, 0, none⟩)) rfl rfl (by kernel_rfl) rfl (fun W ⟨h0, h1, h2, h3, h4, h5, h6, h7, h8, h9⟩ => by go_simp) H0 ?_
 simp only [FL]
 refine zT 2 (some 8) (.int .i64 o.kind) rfl rfl (by kernel_rfl) rfl (fun W ⟨h0, h1, h2, h3, h4, h5, h6, h7, h8, h9⟩ => by go_simp) H0 ?_
 simp only [FL]
 refine zT 3 (some 9) (.int .u64 o.kind) rfl rfl (by kernel_rfl) rfl (fun W ⟨h0, h1, h2, h3, h4, h5, h6, h7, h8, h9⟩ => by go_simp; exact IntWalk.u64_in _ (by omega)) H0 ?_
 simp only [FL]
 refine zT 5 (some 11) (.pointer (some ⟨N, 1, none⟩)) rfl rfl (by kernel_rfl) rfl (fun W ⟨h0, h1, h2, h3, h4, h5, h6, h7, h8, h9⟩ => by go_simp) H0 ?_
 simp only [FL]
 refine zT 6 (some 12) (.agg #[.string o.row, .string o.fam, .string o.qual, .int .u64 o.time]) rfl rfl (by kernel_rfl) rfl (fun W ⟨h0, h1, h2, h3, h4, h5, h6, h7, h8, h9⟩ => by go_simp) H0 ?_
 simp only [FL]
 refine zT 8 (some 14) (.pointer (some ⟨N, 5, none⟩)) rfl rfl (by kernel_rfl) rfl (fun W ⟨h0, h1, h2, h3, h4, h5, h6, h7, h8, h9⟩ => by go_simp) H0 ?_
 simp only [FL]
 refine zT 9 (some 15) (.string o.to) rfl rfl (by kernel_rfl) rfl (fun W ⟨h0, h1, h2, h3, h4, h5, h6, h7, h8, h9⟩ => by go_simp) H0 ?_
 simp only [FL]
 refine hr_call_w 4 (some 10) 66 #[.slice ao n cap, .int .u64 o.kind] rfl rfl (by kernel_rfl) rfl (by go_simp) (fun v w' => ∃ b2 m2 c2, v = .slice b2 m2 c2 ∧ Sl w' b2 m2 c2 (xs ++ enc o.kind.toNat) ∧ Below v0.heap.size v0 w') ((gUintI v0 ao n cap o.kind xs (h1.below E0) (by omega) kd0 (by omega)).mono (by
  rintro e w' ⟨b2, m2, c2, rfl, F, C⟩
  exact ⟨_, rfl, b2, m2, c2, rfl, F, C⟩)) ?_
 rintro v v1 ⟨b2, m2, c2, rfl, F0, C0⟩
 have E1 := E0.trans (C0.mono E0.size)
 have H1 := HS.out v1 E1
 refine ⟨H1, ?_⟩
 simp only [FL]
 have l2 := F0.len
 simp only [List.length_append] at l2
 refine hr_call_w 7 (some 13) 102 #[.slice b2 m2 c2, .agg #[.string o.row, .string o.fam, .string o.qual, .int .u64 o.time]] rfl rfl (by kernel_rfl) rfl (by go_simp) (fun v w' => ∃ b3 m3 c3, v = .slice b3 m3 c3 ∧ Sl w' b3 m3 c3 (xs ++ enc o.kind.toNat ++ putK o.key) ∧ Below v1.heap.size v1 w') ((rkey_any v1 b2 m2 c2 _ F0 (by omega) o.key hkf).mono (by
  rintro e w' ⟨b3, m3, c3, rfl, F, C⟩
  exact ⟨_, rfl, b3, m3, c3, rfl, F, C⟩)) ?_
 rintro v v2 ⟨b3, m3, c3, rfl, F1, C1⟩
 have E2 := E1.trans (C1.mono E1.size)
 have H2 := HS.out v2 E2
 refine ⟨H2, ?_⟩
 simp only [FL]
 have l3 := F1.len
 simp only [List.length_append] at l3
 refine hr_call_w 10 (some 16) 101 #[.slice b3 m3 c3, .string o.to] rfl rfl (by kernel_rfl) rfl (by go_simp) (fun v w' => ∃ b4 m4 c4, v = .slice b4 m4 c4 ∧ Sl w' b4 m4 c4 (xs ++ enc o.kind.toNat ++ putK o.key ++ txt o.to) ∧ Below v2.heap.size v2 w') ((rtext_any v2 b3 m3 c3 _ F1 (by omega) o.to lt).mono (by
  rintro e w' ⟨b4, m4, c4, rfl, F, C⟩
  exact ⟨_, rfl, b4, m4, c4, rfl, F, C⟩)) ?_
 rintro v v3 ⟨b4, m4, c4, rfl, F2, C2⟩
 have E3 := E2.trans (C2.mono E2.size)
 have H3 := HS.out v3 E3
 refine ⟨H3, ?_⟩
 simp only [FL]
 have l4 := F2.len
 simp only [List.length_append] at l4
 refine zT 11 (some 0) (.slice b4 m4 c4) rfl rfl (by kernel_rfl) rfl (fun W ⟨h0, h1, h2, h3, h4, h5, h6, h7, h8, h9⟩ => by go_simp) H3 ?_
 simp only [FL]
 refine wpAnyH_done (by kernel_rfl) ?_ _
 refine NoPanic.normal ?_
 have K4 := K.keep E3
 have A4 := E3
 have B4 := B.trans (E3.mono (by have := B.size; have := HN.out; omega))
 have S4 := F2
 obtain ⟨w4, hw4⟩ : ∃ V, V = v3 := ⟨_, rfl⟩
 rw [← hw4] at K4 B4 S4 A4 ⊢
 clear hw4 HS E0 E1 E2 E3 H0 H1 H2 H3 F0 F1 F2 C0 C1 C2 K B h1
 go_wp2_with fail
 have HS : Hid (∀ V, Below w4.heap.size w4 V → V.cell? ⟨N, 0, none⟩ = some (.int .i64 o.kind) ∧ V.cell? ⟨N, 1, none⟩ = some (.string o.row) ∧ V.cell? ⟨N, 2, none⟩ = some (.string o.fam) ∧ V.cell? ⟨N, 3, none⟩ = some (.string o.qual) ∧ V.cell? ⟨N, 4, none⟩ = some (.int .u64 o.time) ∧ V.cell? ⟨N, 5, none⟩ = some (.string o.to) ∧ V.cell? ⟨N, 6, none⟩ = some (.slice o.va.ao o.va.n o.va.cap) ∧ V.cell? ⟨N, 7, none⟩ = some (.slice o.wa.ao o.wa.n o.wa.cap) ∧ V.cell? ⟨N, 8, none⟩ = some (.bool o.has) ∧ V.cell? ⟨N, 9, none⟩ = some (.slice o.so o.sn o.sc)) := fun V hV => have q := (K4.keep hV).cs; ⟨q.c0, q.c1, q.c2, q.c3, q.c4, q.c5, q.c6, q.c7, q.c8, q.c9⟩
 refine zB (by kernel_rfl) HS.out fun v0 E0 H0 => ?_
 refine zT 0 (some 17) (.slice b4 m4 c4) rfl rfl (by kernel_rfl) rfl (fun W ⟨h0, h1, h2, h3, h4, h5, h6, h7, h8, h9⟩ => by go_simp) H0 ?_
 simp only [FL]
 refine zT 1 (some 18) (.pointer (some ⟨N, 6, none⟩)) rfl rfl (by kernel_rfl) rfl (fun W ⟨h0, h1, h2, h3, h4, h5, h6, h7, h8, h9⟩ => by go_simp) H0 ?_
 simp only [FL]
 refine zT 2 (some 19) (.slice o.va.ao o.va.n o.va.cap) rfl rfl (by kernel_rfl) rfl (fun W ⟨h0, h1, h2, h3, h4, h5, h6, h7, h8, h9⟩ => by go_simp) H0 ?_
 simp only [FL]
 refine zT 4 (some 21) (.pointer (some ⟨N, 7, none⟩)) rfl rfl (by kernel_rfl) rfl (fun W ⟨h0, h1, h2, h3, h4, h5, h6, h7, h8, h9⟩ => by go_simp) H0 ?_
 simp only [FL]
 refine zT 5 (some 22) (.slice o.wa.ao o.wa.n o.wa.cap) rfl rfl (by kernel_rfl) rfl (fun W ⟨h0, h1, h2, h3, h4, h5, h6, h7, h8, h9⟩ => by go_simp) H0 ?_
 simp only [FL]
 refine zT 7 (some 24) (.pointer (some ⟨N, 8, none⟩)) rfl rfl (by kernel_rfl) rfl (fun W ⟨h0, h1, h2, h3, h4, h5, h6, h7, h8, h9⟩ => by go_simp) H0 ?_
 simp only [FL]
 refine zT 8 (some 25) (.bool o.has) rfl rfl (by kernel_rfl) rfl (fun W ⟨h0, h1, h2, h3, h4, h5, h6, h7, h8, h9⟩ => by go_simp) H0 ?_
 simp only [FL]
 refine hr_call_w 3 (some 20) 104 #[.slice b4 m4 c4, .slice o.va.ao o.va.n o.va.cap] rfl rfl (by kernel_rfl) rfl (by go_simp) (fun v w' => ∃ b5 m5 c5, v = .slice b5 m5 c5 ∧ Sl w' b5 m5 c5 (xs ++ enc o.kind.toNat ++ putK o.key ++ txt o.to ++ byts o.va.xs) ∧ Below v0.heap.size v0 w') ((gBytes v0 b4 _ m4 c4 _ _ _ _ (S4.below E0) ((ho1.below A4).below E0).va (by omega) (by have := ho1.va.len; omega)).mono (by
  rintro e w' ⟨b5, m5, c5, rfl, F, C⟩
  exact ⟨_, rfl, b5, m5, c5, rfl, F, C⟩)) ?_
 rintro v v1 ⟨b5, m5, c5, rfl, F0, C0⟩
 have E1 := E0.trans (C0.mono E0.size)
 have H1 := HS.out v1 E1
 refine ⟨H1, ?_⟩
 simp only [FL]
 have l5 := F0.len
 simp only [List.length_append] at l5
 refine hr_call_w 6 (some 23) 104 #[.slice b5 m5 c5, .slice o.wa.ao o.wa.n o.wa.cap] rfl rfl (by kernel_rfl) rfl (by go_simp) (fun v w' => ∃ b6 m6 c6, v = .slice b6 m6 c6 ∧ Sl w' b6 m6 c6 (xs ++ enc o.kind.toNat ++ putK o.key ++ txt o.to ++ byts o.va.xs ++ byts o.wa.xs) ∧ Below v1.heap.size v1 w') ((gBytes v1 b5 _ m5 c5 _ _ _ _ F0 ((ho1.below A4).below E1).wa (by omega) (by have := ho1.wa.len; omega)).mono (by
  rintro e w' ⟨b6, m6, c6, rfl, F, C⟩
  exact ⟨_, rfl, b6, m6, c6, rfl, F, C⟩)) ?_
 rintro v v2 ⟨b6, m6, c6, rfl, F1, C1⟩
 have E2 := E1.trans (C1.mono E1.size)
 have H2 := HS.out v2 E2
 refine ⟨H2, ?_⟩
 simp only [FL]
 have l6 := F1.len
 simp only [List.length_append] at l6
 refine hr_call_w 9 (some 26) 103 #[.slice b6 m6 c6, .bool o.has] rfl rfl (by kernel_rfl) rfl (by go_simp) (fun v w' => ∃ b7 m7 c7, v = .slice b7 m7 c7 ∧ Sl w' b7 m7 c7 (xs ++ enc o.kind.toNat ++ putK o.key ++ txt o.to ++ byts o.va.xs ++ byts o.wa.xs ++ enb o.has) ∧ Below v2.heap.size v2 w') ((gBool v2 b6 m6 c6 o.has _ F1 (by omega)).mono (by
  rintro e w' ⟨b7, m7, c7, rfl, F, C⟩
  exact ⟨_, rfl, b7, m7, c7, rfl, F, C⟩)) ?_
 rintro v v3 ⟨b7, m7, c7, rfl, F2, C2⟩
 have E3 := E2.trans (C2.mono E2.size)
 have H3 := HS.out v3 E3
 refine ⟨H3, ?_⟩
 simp only [FL]
 have l7 := F2.len
 simp only [List.length_append] at l7
 refine zT 10 (some 0) (.slice b7 m7 c7) rfl rfl (by kernel_rfl) rfl (fun W ⟨h0, h1, h2, h3, h4, h5, h6, h7, h8, h9⟩ => by go_simp) H3 ?_
 simp only [FL]
 refine wpAnyH_done (by kernel_rfl) ?_ _
 refine NoPanic.normal ?_
 have K7 := K4.keep E3
 have A7 := A4.trans (E3.mono A4.size)
 have B7 := B4.trans (E3.mono (by have := B4.size; have := HN.out; omega))
 have S7 := F2
 obtain ⟨w7, hw7⟩ : ∃ V, V = v3 := ⟨_, rfl⟩
 rw [← hw7] at K7 B7 S7 A7 ⊢
 clear hw7 HS E0 E1 E2 E3 H0 H1 H2 H3 F0 F1 F2 C0 C1 C2 K4 B4 S4 A4
 have r9 := K7.cs.c9
 go_wp2_with fail
 clear r9
 refine (gUintF w7 b7 m7 c7 o.sn _ S7 (by omega) (by omega)).mono ?_
 rintro e w8 ⟨b8, m8, c8, rfl, S8, C, F8⟩
 have HF8 : Hid (∀ a, b8 = some a → N ≤ a.block) := fun a ha => by have := F8 a ha; have := B7.size; have := HN.out; omega
 clear F8
 have K8 := K7.keep C
 have B8 := B7.trans (C.mono (by have := B7.size; have := K7.lt; omega))
 have A8 := A7.trans (C.mono A7.size)
 have l8 := S8.len
 simp only [List.length_append] at l8
 clear C K7 B7 A7 S7
 have hS : xs ++ enc o.kind.toNat ++ putK o.key ++ txt o.to ++ byts o.va.xs ++ byts o.wa.xs ++ enb o.has ++ enc o.sn = xs ++ putS o.s l.length := by
  unfold putS putK OA.key OA.s
  rw [hl]
  simp only [List.append_assoc]
 rw [hS] at S8
 have L8 := L1.below A8
 have m8b : m8 ≤ M + 2000 := by omega
 clear l2 l3 l4 l5 l6 l7 l8 g0 g1 g2 g3 g4 g5 g6 L1 ho1 A8 hS lv lw lt hkf kd0 kd1
 have hs8 := B8.size
 go_wp2_with fail
 go_loopw [0, 5] (fun b i wr => ∃ (k : Nat) (bo : Option Addr) (m c : Nat), k ≤ o.sn ∧ i = .int .i64 k ∧ b = .slice bo m c ∧ Sl wr bo m c (xs ++ putS o.s l.length ++ ((l.take k).map fun x => putS x.s 0).flatten) ∧ m ≤ m8 + 800 * k ∧ Below N w wr ∧ Below w8.heap.size w8 wr ∧ Hid (∀ a, bo = some a → N ≤ a.block)) (fun _ i _ => o.sn - (intOf i).toNat)
 case atStart => exact ⟨0, b8, m8, c8, Nat.zero_le _, rfl, rfl, by simpa using S8, by omega, B8, Below.refl _ _, HF8⟩
 case round =>
  clear S8 B8 HF8
  obtain ⟨k, bo, m, c, hk, rfl, rfl, S, hm, B, C, HFB⟩ := hrel
  have K9 := K8.keep C
  have r9 := K9.cs.c9
  by_cases hlt : k < o.sn
  ·obtain ⟨b, off, ea, hc⟩ := L8.at (by omega)
   have hkl : k < l.length := by omega
   have X := (hc k hkl).below C
   have hok : (l[k]).ok wr := (L8.ok _ (List.getElem_mem hkl)).below C
   have hmem := List.getElem_mem hkl
   have i6 : (k : Int) < (o.sn : Int) := by omega
   have HT : Hid (((l.take (k + 1)).map fun x => putS x.s 0).flatten = ((l.take k).map fun x => putS x.s 0).flatten ++ putS l[k].s 0) := by
    show _ = _
    rw [List.take_succ_eq_append_getElem hkl, List.map_append, List.flatten_append]
    simp
   have HF := putS_len (n := 0) (hlf _ hmem) (by omega)
   obtain ⟨x, hx⟩ : ∃ x : OA, x = l[k] := ⟨_, rfl⟩
   have X : OX wr b (off + k * 10) x := by rw [hx]; exact X
   obtain ⟨p, hp⟩ : ∃ p, p = ((l.take k).map fun x => putS x.s 0).flatten := ⟨_, rfl⟩
   rw [← hx] at hok HT HF hmem
   rw [← hp] at S HT
   have hm2 : m ≤ M + 10000 := by omega
   have CR := (rec _ bo m c _ x hmem S hm2 hok)
   clear hp hx hc rec K9
   rw [ea] at r9
   clear ea
   obtain ⟨q0, q1, q2, q3, q4, q5, q6, q7, q8, q9⟩ := X
   have lS := S.len
   clear S
   go_wp2_with (go_at_call 65; refine CR.mono ?_; rintro e w9 ⟨b9, m9, c9, rfl, S9, C9, F9⟩; have HF9 : Hid (∀ a, b9 = some a → N ≤ a.block) := (fun a ha => by have := F9 a ha; have := B.size; have := HN.out; omega); clear F9; have B9 := B.trans (C9.mono (by have := B.size; have := HN.out; omega)); have D9 := C.trans (C9.mono C.size); have l9 := S9.len)
   have hm9 : m9 ≤ m8 + 800 * (k + 1) := by
    simp only [List.length_append] at l9 lS
    omega
   go_roundw
   case rel => exact ⟨k + 1, b9, m9, c9, by omega, by go_num, rfl, by rw [HT.out, ← List.append_assoc]; exact S9, hm9, B9, D9, HF9⟩
   case measure => simp [intOf]; omega
  ·have i6 : (o.sn : Int) ≤ (k : Int) := by omega
   rw [List.take_of_length_le (by omega), List.append_assoc] at S
   go_wp2
   go_ret
   exact ⟨bo, m, c, rfl, S, by rw [← HN.out]; exact B, by rw [← HN.out]; exact HFB.out⟩
theorem rput_leafF (w : World) (ao : Option Addr) (n cap : Nat) (xs : List Int) (h : Sl w ao n cap xs) (hr : n ≤ 800000) (o : OA) (ho : o.ok w) (hf : o.s.fits) (hz : o.sn = 0) :
  Calls Tryz.prog 65 #[.slice ao n cap, o.val] w (PutPostF w (xs ++ putS o.s 0)) := by
 have := rput_genF w ao n cap xs h 800000 (by omega) hr o ho hf [] (OWL.none ho hz) (by decide) (fun x hx => by simp at hx) (fun _ _ _ _ _ x hx => by simp at hx)
 simpa using this
theorem rput_anyF (w : World) (ao : Option Addr) (n cap : Nat) (xs : List Int) (h : Sl w ao n cap xs) (hr : n ≤ 700000) (o : OA) (ho : o.ok w) (hf : o.s.fits) (l : List OA) (L : OWL w 0 o.so o.sn o.sc l) (hl8 : l.length ≤ 8) (hlf : ∀ x ∈ l, x.s.fits) (hlz : ∀ x ∈ l, x.sn = 0) :
  Calls Tryz.prog 65 #[.slice ao n cap, o.val] w (PutPostF w (xs ++ (putS o.s l.length ++ (l.map fun x => putS x.s 0).flatten))) :=
 rput_genF w ao n cap xs h 700000 (by omega) hr o ho hf l L hl8 hlf (fun W bo m c ys x hx S hm hok => rput_leafF W bo m c ys S (by omega) x hok (hlf x hx) (hlz x hx))
set_option maxRecDepth 100000 in
set_option maxHeartbeats 8000000 in
theorem rreq_far (d : Nat) (w : World) (cl st : Nat) (o : OA) (pl : List (OD d)) (hcl : cl < 18446744073709551616) (hst : st < 18446744073709551616) (h : OW w (d + 1) (o, pl)) (hl : lightD (d + 1) (o, pl) = true) (l : List OA) (he : l = pl.map (topD d)) :
  Calls Tryz.prog 21 #[qVal cl st o] w (ReqPostF w (kq cl st (rightO o.s (l.map sn0))) (enc cl ++ (enc st ++ putA o l))) := by
 have e1 : l.map sn0 = pl.map (snD d) := by rw [he]; exact map_flat d pl
 have B : Below w.heap.size w (w.alloc (Obj.cells #[.int .u64 cl, .int .u64 st, .int .i64 o.kind, .string o.row, .string o.fam, .string o.qual, .int .u64 o.time, .string o.to, .slice o.va.ao o.va.n o.va.cap, .slice o.wa.ao o.wa.n o.wa.cap, .bool o.has, .slice o.so o.sn o.sc] 60)) := (Below.refl _ w).alloc (Nat.le_refl _) _
 have K : QC (w.alloc (Obj.cells #[.int .u64 cl, .int .u64 st, .int .i64 o.kind, .string o.row, .string o.fam, .string o.qual, .int .u64 o.time, .string o.to, .slice o.va.ao o.va.n o.va.cap, .slice o.wa.ao o.wa.n o.wa.cap, .bool o.has, .slice o.so o.sn o.sc] 60)) w.heap.size cl st o := heap_alloc_new w _
 have CR := rright6 d _ o pl (h.below B) hl
 rw [← e1] at CR
 have hs : OWL w 0 o.so o.sn o.sc l := by rw [he]; exact h.subs.flat
 have h1 := h.1.below B
 have hs1 := hs.below B
 have hp : rightO o.s (l.map sn0) = true → o.s.fits ∧ l.length ≤ 8 ∧ (∀ x ∈ l, x.s.fits) ∧ ∀ x ∈ l, x.sn = 0 := fun q => right_parts q h.1 hs.ok
 clear h hs hl he e1
 rw [show qVal cl st o = .agg #[.int .u64 cl, .int .u64 st, .int .i64 o.kind, .string o.row, .string o.fam, .string o.qual, .int .u64 o.time, .string o.to, .slice o.va.ao o.va.n o.va.cap, .slice o.wa.ao o.wa.n o.wa.cap, .bool o.has, .slice o.so o.sn o.sc] from rfl]
 by_cases z1 : cl = 0
 ·have i1 : ((cl : Int) == 0) = true := by simp; omega
  have hv : Hid (kq cl st (rightO o.s (l.map sn0)) = 1) := if_pos (.inl z1)
  clear CR z1 hp
  go_enter Tryz.func21, Tryz.ntmps21
  go_wp2
  go_ret2
  exact ⟨⟨none, 0, 0, by rw [hv.out] <;> rfl, by rw [hv.out]; exact Sl.nothing _, fun _ h => by cases h⟩, B⟩
 have i1 : ((cl : Int) == 0) = false := by simp; omega
 by_cases z2 : st = 0
 ·have i2 : ((st : Int) == 0) = true := by simp; omega
  have hv : Hid (kq cl st (rightO o.s (l.map sn0)) = 1) := if_pos (.inr z2)
  clear CR z1 z2 hp
  go_enter Tryz.func21, Tryz.ntmps21
  go_wp2
  go_ret2
  exact ⟨⟨none, 0, 0, by rw [hv.out] <;> rfl, by rw [hv.out]; exact Sl.nothing _, fun _ h => by cases h⟩, B⟩
 have i2 : ((st : Int) == 0) = false := by simp; omega
 have hv : Hid (kq cl st (rightO o.s (l.map sn0)) = kindO (rightO o.s (l.map sn0))) := if_neg (by omega)
 clear z1 z2
 go_enter Tryz.func21, Tryz.ntmps21
 go_wp2_with fail
 obtain ⟨w1, hw1⟩ : ∃ W, W = w.alloc (Obj.cells #[.int .u64 cl, .int .u64 st, .int .i64 o.kind, .string o.row, .string o.fam, .string o.qual, .int .u64 o.time, .string o.to, .slice o.va.ao o.va.n o.va.cap, .slice o.wa.ao o.wa.n o.wa.cap, .bool o.has, .slice o.so o.sn o.sc] 60) := ⟨_, rfl⟩
 obtain ⟨N, hN⟩ : ∃ N, N = w.heap.size := ⟨_, rfl⟩
 rw [← hw1] at B K h1 hs1 CR ⊢
 rw [← hN] at B K ⊢
 have HN : Hid (N = w.heap.size) := hN
 clear hw1 hN
 refine CR.mono ?_
 rintro e w2 ⟨rfl, C⟩
 have K2 := K.keep C
 have B2 := B.trans (C.mono (by have := B.size; have := K.lt; omega))
 have h2 := h1.below C
 have hs2 := hs1.below C
 clear C K B h1 hs1
 cases hb : rightO o.s (l.map sn0) with
 | true =>
  obtain ⟨p1, p2, p3, p4⟩ := hp hb
  rw [show kindO true = 0 from rfl]
  have g1 := enc_length hcl
  have g2 := enc_length hst
  go_wp2_with fail
  have HS : Hid (∀ V, Below w2.heap.size w2 V → V.cell? ⟨N, 0, none⟩ = some (.int .u64 cl) ∧ V.cell? ⟨N, 1, none⟩ = some (.int .u64 st) ∧ V.cell? ⟨N, 2, none⟩ = some (.int .i64 o.kind) ∧ V.cell? ⟨N, 3, none⟩ = some (.string o.row) ∧ V.cell? ⟨N, 4, none⟩ = some (.string o.fam) ∧ V.cell? ⟨N, 5, none⟩ = some (.string o.qual) ∧ V.cell? ⟨N, 6, none⟩ = some (.int .u64 o.time) ∧ V.cell? ⟨N, 7, none⟩ = some (.string o.to) ∧ V.cell? ⟨N, 8, none⟩ = some (.slice o.va.ao o.va.n o.va.cap) ∧ V.cell? ⟨N, 9, none⟩ = some (.slice o.wa.ao o.wa.n o.wa.cap) ∧ V.cell? ⟨N, 10, none⟩ = some (.bool o.has) ∧ V.cell? ⟨N, 11, none⟩ = some (.slice o.so o.sn o.sc)) := fun V hV => have q := (K2.keep hV).cs; ⟨q.c0, q.c1, q.c2, q.c3, q.c4, q.c5, q.c6, q.c7, q.c8, q.c9, q.c10, q.c11⟩
  refine zB (by kernel_rfl) HS.out fun v0 E0 H0 => ?_
  refine zT 0 (some 19) (.pointer (some ⟨N, 0, none⟩)) rfl rfl (by kernel_rfl) rfl (fun W ⟨h0, h1, h2, h3, h4, h5, h6, h7, h8, h9, h10, h11⟩ => by go_simp) H0 ?_
  simp only [FL]
  refine zT 1 (some 20) (.int .u64 cl) rfl rfl (by kernel_rfl) rfl (fun W ⟨h0, h1, h2, h3, h4, h5, h6, h7, h8, h9, h10, h11⟩ => by go_simp) H0 ?_
  simp only [FL]
  refine zT 3 (some 22) (.pointer (some ⟨N, 1, none⟩)) rfl rfl (by kernel_rfl) rfl (fun W ⟨h0, h1, h2, h3, h4, h5, h6, h7, h8, h9, h10, h11⟩ => by go_simp) H0 ?_
  simp only [FL]
  refine zT 4 (some 23) (.int .u64 st) rfl rfl (by kernel_rfl) rfl (fun W ⟨h0, h1, h2, h3, h4, h5, h6, h7, h8, h9, h10, h11⟩ => by go_simp) H0 ?_
  simp only [FL]
  refine zT 6 (some 25) (.pointer (some ⟨N, 2, none⟩)) rfl rfl (by kernel_rfl) rfl (fun W ⟨h0, h1, h2, h3, h4, h5, h6, h7, h8, h9, h10, h11⟩ => by go_simp) H0 ?_
  simp only [FL]
  refine zT 7 (some 26) (.agg #[.int .i64 o.kind, .string o.row, .string o.fam, .string o.qual, .int .u64 o.time, .string o.to, .slice o.va.ao o.va.n o.va.cap, .slice o.wa.ao o.wa.n o.wa.cap, .bool o.has, .slice o.so o.sn o.sc]) rfl rfl (by kernel_rfl) rfl (fun W ⟨h0, h1, h2, h3, h4, h5, h6, h7, h8, h9, h10, h11⟩ => by go_simp) H0 ?_
  simp only [FL]
  refine hr_call_w 2 (some 21) 66 #[.slice none 0 0, .int .u64 cl] rfl rfl (by kernel_rfl) rfl (by go_simp) (fun v w' => ∃ b1 m1 c1, v = .slice b1 m1 c1 ∧ Sl w' b1 m1 c1 ([] ++ enc cl) ∧ Below v0.heap.size v0 w') ((gUint v0 none 0 0 cl [] (Sl.nothing _) (by omega) hcl).mono (by
   rintro e w' ⟨b1, m1, c1, rfl, F, C⟩
   exact ⟨_, rfl, b1, m1, c1, rfl, F, C⟩)) ?_
  rintro v v1 ⟨b1, m1, c1, rfl, F0, C0⟩
  have E1 := E0.trans (C0.mono E0.size)
  have H1 := HS.out v1 E1
  refine ⟨H1, ?_⟩
  simp only [FL]
  have l1 := F0.len
  simp only [List.length_append, List.length_nil] at l1
  refine hr_call_w 5 (some 24) 66 #[.slice b1 m1 c1, .int .u64 st] rfl rfl (by kernel_rfl) rfl (by go_simp) (fun v w' => ∃ b2 m2 c2, v = .slice b2 m2 c2 ∧ Sl w' b2 m2 c2 ([] ++ enc cl ++ enc st) ∧ Below v1.heap.size v1 w') ((gUint v1 b1 m1 c1 st _ F0 (by omega) hst).mono (by
   rintro e w' ⟨b2, m2, c2, rfl, F, C⟩
   exact ⟨_, rfl, b2, m2, c2, rfl, F, C⟩)) ?_
  rintro v v2 ⟨b2, m2, c2, rfl, F1, C1⟩
  have E2 := E1.trans (C1.mono E1.size)
  have H2 := HS.out v2 E2
  refine ⟨H2, ?_⟩
  simp only [FL]
  have l2 := F1.len
  simp only [List.length_append, List.length_nil] at l2
  refine hr_call_w 8 (some 27) 65 #[.slice b2 m2 c2, .agg #[.int .i64 o.kind, .string o.row, .string o.fam, .string o.qual, .int .u64 o.time, .string o.to, .slice o.va.ao o.va.n o.va.cap, .slice o.wa.ao o.wa.n o.wa.cap, .bool o.has, .slice o.so o.sn o.sc]] rfl rfl (by kernel_rfl) rfl (by go_simp) (fun v w' => ∃ b3 m3 c3, v = .slice b3 m3 c3 ∧ Sl w' b3 m3 c3 ([] ++ enc cl ++ enc st ++ (putS o.s l.length ++ (l.map fun x => putS x.s 0).flatten)) ∧ Below v2.heap.size v2 w' ∧ ∀ a, b3 = some a → v2.heap.size ≤ a.block) ((rput_anyF v2 b2 m2 c2 _ F1 (by omega) o (h2.below E2) p1 l (hs2.below E2) p2 p3 p4).mono (by
   rintro e w' ⟨b3, m3, c3, rfl, F, C, FF⟩
   exact ⟨_, rfl, b3, m3, c3, rfl, F, C, FF⟩)) ?_
  rintro v v3 ⟨b3, m3, c3, rfl, F2, C2, FF⟩
  have HFF : Hid (∀ a, b3 = some a → N ≤ a.block) := fun a ha => by have := FF a ha; have := E2.size; have := B2.size; have := HN.out; omega
  clear FF
  have E3 := E2.trans (C2.mono E2.size)
  have H3 := HS.out v3 E3
  refine ⟨H3, ?_⟩
  simp only [FL]
  refine zT 9 (some 2) (.slice b3 m3 c3) rfl rfl (by kernel_rfl) rfl (fun W ⟨h0, h1, h2, h3, h4, h5, h6, h7, h8, h9, h10, h11⟩ => by go_simp) H3 ?_
  simp only [FL]
  refine zT 10 (some 3) (.int .i64 0) rfl rfl (by kernel_rfl) rfl (fun W ⟨h0, h1, h2, h3, h4, h5, h6, h7, h8, h9, h10, h11⟩ => by go_simp) H3 ?_
  simp only [FL]
  refine wpAnyH_done (by kernel_rfl) ?_ _
  refine NoPanic.normal ?_
  have B3 := B2.trans (E3.mono (by have := B2.size; have := HN.out; omega))
  go_wp2
  go_ret2
  refine ⟨⟨b3, m3, c3, by rw [hv.out, hb] <;> rfl, ?_, by rw [← HN.out]; exact HFF.out⟩, by rw [← HN.out]; exact B3⟩
  rw [hv.out, hb, show kindO true = 0 from rfl, if_pos rfl]
  simpa only [List.nil_append, List.append_assoc, putA] using F2
 | false =>
  rw [show kindO false = 6 from rfl]
  clear hp
  go_wp2
  go_ret2
  exact ⟨⟨none, 0, 0, by rw [hv.out, hb] <;> rfl, by rw [hv.out, hb]; exact Sl.nothing _, fun _ h => by cases h⟩, by rw [← HN.out]; exact B2⟩
end Go.Proofs.YtnbejckdhdbamaaGreat

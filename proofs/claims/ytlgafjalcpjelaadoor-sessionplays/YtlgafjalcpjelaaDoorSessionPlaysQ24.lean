/-
  Texts in one: RResult.
-/
import Derived.Test.YtlgafjalcpjelaaDoorSessionPlaysQFL
import Derived.Test.YtlgafjalcpjelaaDoorSessionPlaysQ10
import Derived.Test.YtlgafjalcpjelaaDoorSessionPlaysQ20
import Derived.Test.YtlgafjalcpjelaaDoorSessionPlaysQ23
namespace Go.Proofs.YtlgafjalcpjelaaDoor
open Go.RowKit
set_option maxRecDepth 100000 in
set_option maxHeartbeats 16000000 in
theorem rresult_any (w : World) (e : Int) (ao : Option Addr) (n cap : Nat) (l : List CA) (m : Bool) (L : CL w ao n cap l) :
    Calls Tryd.prog 34 #[resV e ao n cap m] w (ResPost w (resR e l m)) := by
  have hl : l.length = n := L.len
  have B : Below w.heap.size w (w.alloc (Obj.cells #[.int .i64 e, .slice ao n cap, .bool m] 37)) := (Below.refl _ w).alloc (Nat.le_refl _) _
  have K : RC (w.alloc (Obj.cells #[.int .i64 e, .slice ao n cap, .bool m] 37)) w.heap.size e ao n cap m := heap_alloc_new w _
  have L1 := L.below B
  have hp : rightR (resR e l m) = true → (0 ≤ e ∧ e ≤ 18) ∧ l.length ≤ 16 ∧ ∀ c ∈ l, c.key.fits ∧ c.va.xs.length ≤ 256 := fun q => right_cells q L.ok
  clear L
  unfold resV
  go_enter Tryd.func34, Tryd.ntmps34
  go_wp2_with fail
  obtain ⟨w1, hw1⟩ : ∃ W, W = w.alloc (Obj.cells #[.int .i64 e, .slice ao n cap, .bool m] 37) := ⟨_, rfl⟩
  obtain ⟨N, hN⟩ : ∃ N, N = w.heap.size := ⟨_, rfl⟩
  rw [← hw1] at B K L1 ⊢
  rw [← hN] at B K ⊢
  have HN : Hid (N = w.heap.size) := hN
  clear hw1 hN
  refine (rrr_any w1 e ao n cap l m L1).mono ?_
  rintro x w2 ⟨rfl, C⟩
  have K2 := K.keep C
  have B2 := B.trans (C.mono (by have := B.size; have := K.lt; omega))
  have L2 := L1.below C
  clear C K B L1
  cases hb : rightR (resR e l m) with
  | false =>
    have hk : kindR (resR e l m) = 1 := by unfold kindR; rw [hb]; rfl
    go_wp2
    go_ret2
    exact ⟨⟨none, 0, 0, by rw [hk] <;> rfl, by rw [hb]; exact Sl.nothing _⟩, by rw [← HN.out]; exact B2⟩
  | true =>
    have hk : kindR (resR e l m) = 0 := by unfold kindR; rw [hb]; rfl
    obtain ⟨⟨e0, e18⟩, l16, hcf⟩ := hp hb
    clear hp
    go_wp2_with fail
    have g0 := enc_length (n := e.toNat) (by omega)
    have g1 := enc_length (n := n) (by omega)
    have HS : Hid (∀ V, Below w2.heap.size w2 V → V.cell? ⟨N, 0, none⟩ = some (.int .i64 e) ∧ V.cell? ⟨N, 1, none⟩ = some (.slice ao n cap)) := fun V hV => have q := K2.keep hV; ⟨q.c0, q.c1⟩
    have E0 : Below w2.heap.size w2 w2.drew := (Below.refl _ _).drew
    refine wp_region_noPanic ?_
    refine wp_region_held_drew (S := fun V => V.cell? ⟨N, 0, none⟩ = some (.int .i64 e) ∧ V.cell? ⟨N, 1, none⟩ = some (.slice ao n cap)) (by kernel_rfl) (HS.out _ E0) (fun H0 => ?_)
    obtain ⟨v0, hv0⟩ : ∃ v, v = w2.drew := ⟨_, rfl⟩
    rw [← hv0] at H0 E0 ⊢
    clear hv0
    refine hr_take_w 0 (some 9) (.pointer (some ⟨N, 0, none⟩)) rfl rfl (by kernel_rfl) (by kernel_rfl) (by kernel_rfl) rfl (fun W hW => by obtain ⟨h0, h1⟩ := hW; go_simp) H0 ?_
    simp only [FL]
    refine hr_take_w 1 (some 10) (.int .i64 e) rfl rfl (by kernel_rfl) (by kernel_rfl) (by kernel_rfl) rfl (fun W hW => by obtain ⟨h0, h1⟩ := hW; go_simp) H0 ?_
    simp only [FL]
    refine hr_take_w 2 (some 11) (.int .u64 e) rfl rfl (by kernel_rfl) (by kernel_rfl) (by kernel_rfl) rfl (fun W hW => by obtain ⟨h0, h1⟩ := hW; go_simp; exact IntWalk.u64_in _ (by omega)) H0 ?_
    simp only [FL]
    refine hr_take_w 4 (some 13) (.pointer (some ⟨N, 1, none⟩)) rfl rfl (by kernel_rfl) (by kernel_rfl) (by kernel_rfl) rfl (fun W hW => by obtain ⟨h0, h1⟩ := hW; go_simp) H0 ?_
    simp only [FL]
    refine hr_take_w 5 (some 14) (.slice ao n cap) rfl rfl (by kernel_rfl) (by kernel_rfl) (by kernel_rfl) rfl (fun W hW => by obtain ⟨h0, h1⟩ := hW; go_simp) H0 ?_
    simp only [FL]
    refine hr_take_w 6 (some 15) (.int .i64 n) rfl rfl (by kernel_rfl) (by kernel_rfl) (by kernel_rfl) rfl (fun W hW => by obtain ⟨h0, h1⟩ := hW; go_simp) H0 ?_
    simp only [FL]
    refine hr_take_w 7 (some 16) (.int .u64 n) rfl rfl (by kernel_rfl) (by kernel_rfl) (by kernel_rfl) rfl (fun W hW => by obtain ⟨h0, h1⟩ := hW; go_simp; exact IntWalk.u64_in _ (by omega)) H0 ?_
    simp only [FL]
    refine hr_call_w 3 (some 12) 33 #[.slice none 0 0, .int .u64 e] rfl rfl (by kernel_rfl) rfl (by go_simp) (fun v w' => ∃ b1 m1 c1, v = .slice b1 m1 c1 ∧ Sl w' b1 m1 c1 ([] ++ enc e.toNat) ∧ Below v0.heap.size v0 w') ((gUintI v0 none 0 0 e [] (Sl.nothing _) (by omega) e0 (by omega)).mono (by
      rintro e w' ⟨b1, m1, c1, rfl, F, C⟩
      exact ⟨_, rfl, b1, m1, c1, rfl, F, C⟩)) ?_
    rintro v v1 ⟨b1, m1, c1, rfl, F0, C0⟩
    have E1 := E0.trans (C0.mono E0.size)
    have H1 := HS.out v1 E1
    refine ⟨H1, ?_⟩
    simp only [FL]
    have l1 := F0.len
    simp only [List.length_append, List.length_nil] at l1
    refine hr_call_w 8 (some 17) 33 #[.slice b1 m1 c1, .int .u64 n] rfl rfl (by kernel_rfl) rfl (by go_simp) (fun v w' => ∃ b2 m2 c2, v = .slice b2 m2 c2 ∧ Sl w' b2 m2 c2 ([] ++ enc e.toNat ++ enc n) ∧ Below v1.heap.size v1 w') ((gUint v1 b1 m1 c1 n _ F0 (by omega) (by omega)).mono (by
      rintro e w' ⟨b2, m2, c2, rfl, F, C⟩
      exact ⟨_, rfl, b2, m2, c2, rfl, F, C⟩)) ?_
    rintro v v2 ⟨b2, m2, c2, rfl, F1, C1⟩
    have E2 := E1.trans (C1.mono E1.size)
    have H2 := HS.out v2 E2
    refine ⟨H2, ?_⟩
    simp only [FL]
    have l2 := F1.len
    simp only [List.length_append, List.length_nil] at l2
    refine hr_take_w 9 (some 4) (.slice b2 m2 c2) rfl rfl (by kernel_rfl) (by kernel_rfl) (by kernel_rfl) rfl (fun W hW => by obtain ⟨h0, h1⟩ := hW; go_simp) H2 ?_
    simp only [FL]
    refine wpAnyH_done (by kernel_rfl) ?_ _
    refine NoPanic.normal ?_
    have K4 := K2.keep E2
    have B4 := B2.trans (E2.mono (by have := B2.size; have := K2.lt; omega))
    have L4 := L2.below E2
    have m4b : m2 ≤ 20 := by omega
    rw [List.nil_append] at F1
    obtain ⟨w4, hw4⟩ : ∃ V, V = v2 := ⟨_, rfl⟩
    rw [← hw4] at K4 B4 L4 F1 ⊢
    clear hw4 HS E0 E1 E2 H0 H1 H2 F0 C0 C1 l1 l2 g0 g1 K2 B2 L2
    go_wp2_with fail
    go_loopw [4, 5] (fun b i wr => ∃ (k : Nat) (bo : Option Addr) (m c : Nat), k ≤ n ∧ i = .int .i64 k ∧ b = .slice bo m c ∧ Sl wr bo m c (enc e.toNat ++ enc n ++ ((l.take k).map fun c => putC c.c).flatten) ∧ m ≤ 20 + 410 * k ∧ Below N w wr ∧ Below w4.heap.size w4 wr) (fun _ i _ => n - (intOf i).toNat)
    case atStart => exact ⟨0, b2, m2, c2, Nat.zero_le _, rfl, rfl, by simpa using F1, by omega, B4, Below.refl _ _⟩
    case round =>
      clear F1 B4
      obtain ⟨k, bo, m1, c1, hk1, rfl, rfl, S, hm, B, C⟩ := hrel
      have K5 := K4.keep C
      clear K4
      by_cases hlt : k < n
      · obtain ⟨b, off, rfl, hc⟩ := L4.at (by omega)
        have hkl : k < l.length := by omega
        have X := (hc k hkl).below C
        have hok : (l[k]).ok wr := (L4.ok _ (List.getElem_mem hkl)).below C
        have hcf1 := hcf _ (List.getElem_mem hkl)
        have i6 : (k : Int) < (n : Int) := by omega
        have HT : Hid (((l.take (k + 1)).map fun c => putC c.c).flatten = ((l.take k).map fun c => putC c.c).flatten ++ putC l[k].c) := by
          show _ = _
          rw [List.take_succ_eq_append_getElem hkl, List.map_append, List.flatten_append]
          simp
        obtain ⟨c, hx⟩ : ∃ c : CA, c = l[k] := ⟨_, rfl⟩
        obtain ⟨p, hp⟩ : ∃ p, p = ((l.take k).map fun c => putC c.c).flatten := ⟨_, rfl⟩
        rw [← hx] at hok HT X hcf1
        rw [← hp] at S HT
        clear hx hc hp
        have lS := S.len
        have g1 := putK_len hcf1.1
        have g2 := byts_len hcf1.2
        have g3 := enb_len c.gone
        simp only [List.length_append] at lS
        have r1 := K5.c1
        go_wp2_with fail
        clear r1
        have HS : Hid (∀ V, Below wr.heap.size wr V → V.cell? ⟨N, 1, none⟩ = some (.slice (some ⟨b, off, none⟩) n cap) ∧ V.cell? ⟨b, off + k * 6, none⟩ = some (.string c.row) ∧ V.cell? ⟨b, off + k * 6 + 1, none⟩ = some (.string c.fam) ∧ V.cell? ⟨b, off + k * 6 + 2, none⟩ = some (.string c.qual) ∧ V.cell? ⟨b, off + k * 6 + 3, none⟩ = some (.int .u64 c.time) ∧ V.cell? ⟨b, off + k * 6 + 4, none⟩ = some (.slice c.va.ao c.va.n c.va.cap) ∧ V.cell? ⟨b, off + k * 6 + 5, none⟩ = some (.bool c.gone)) := fun V hV => have q := K5.keep hV; have x := X.below hV; ⟨q.c1, x.c0, x.c1, x.c2, x.c3, x.c4, x.c5⟩
        have E0 : Below wr.heap.size wr wr.drew := (Below.refl _ _).drew
        refine wp_region_noPanic ?_
        refine wp_region_held_drew (S := fun V => V.cell? ⟨N, 1, none⟩ = some (.slice (some ⟨b, off, none⟩) n cap) ∧ V.cell? ⟨b, off + k * 6, none⟩ = some (.string c.row) ∧ V.cell? ⟨b, off + k * 6 + 1, none⟩ = some (.string c.fam) ∧ V.cell? ⟨b, off + k * 6 + 2, none⟩ = some (.string c.qual) ∧ V.cell? ⟨b, off + k * 6 + 3, none⟩ = some (.int .u64 c.time) ∧ V.cell? ⟨b, off + k * 6 + 4, none⟩ = some (.slice c.va.ao c.va.n c.va.cap) ∧ V.cell? ⟨b, off + k * 6 + 5, none⟩ = some (.bool c.gone)) (by kernel_rfl) (HS.out _ E0) (fun H0 => ?_)
        obtain ⟨v0, hv0⟩ : ∃ v, v = wr.drew := ⟨_, rfl⟩
        rw [← hv0] at H0 E0 ⊢
        clear hv0
        refine hr_take_w 0 (some 25) (.slice bo m1 c1) rfl rfl (by kernel_rfl) (by kernel_rfl) (by kernel_rfl) rfl (fun W hW => by obtain ⟨h0, h1, h2, h3, h4, h5, h6⟩ := hW; go_simp) H0 ?_
        simp only [FL]
        refine hr_take_w 1 (some 26) (.pointer (some ⟨N, 1, none⟩)) rfl rfl (by kernel_rfl) (by kernel_rfl) (by kernel_rfl) rfl (fun W hW => by obtain ⟨h0, h1, h2, h3, h4, h5, h6⟩ := hW; go_simp) H0 ?_
        simp only [FL]
        refine hr_take_w 2 (some 27) (.slice (some ⟨b, off, none⟩) n cap) rfl rfl (by kernel_rfl) (by kernel_rfl) (by kernel_rfl) rfl (fun W hW => by obtain ⟨h0, h1, h2, h3, h4, h5, h6⟩ := hW; go_simp) H0 ?_
        simp only [FL]
        refine hr_take_w 3 (some 28) (.int .i64 k) rfl rfl (by kernel_rfl) (by kernel_rfl) (by kernel_rfl) rfl (fun W hW => by obtain ⟨h0, h1, h2, h3, h4, h5, h6⟩ := hW; go_simp) H0 ?_
        simp only [FL]
        refine hr_take_w 4 (some 29) (.pointer (some ⟨b, off + k * 6, none⟩)) rfl rfl (by kernel_rfl) (by kernel_rfl) (by kernel_rfl) rfl (fun W hW => by obtain ⟨h0, h1, h2, h3, h4, h5, h6⟩ := hW; go_simp) H0 ?_
        simp only [FL]
        refine hr_take_w 5 (some 30) (.pointer (some ⟨b, off + k * 6, none⟩)) rfl rfl (by kernel_rfl) (by kernel_rfl) (by kernel_rfl) rfl (fun W hW => by obtain ⟨h0, h1, h2, h3, h4, h5, h6⟩ := hW; go_simp) H0 ?_
        simp only [FL]
        refine hr_take_w 6 (some 31) (.agg #[.string c.row, .string c.fam, .string c.qual, .int .u64 c.time]) rfl rfl (by kernel_rfl) (by kernel_rfl) (by kernel_rfl) rfl (fun W hW => by obtain ⟨h0, h1, h2, h3, h4, h5, h6⟩ := hW; go_simp) H0 ?_
        simp only [FL]
        refine hr_take_w 8 (some 33) (.pointer (some ⟨N, 1, none⟩)) rfl rfl (by kernel_rfl) (by kernel_rfl) (by kernel_rfl) rfl (fun W hW => by obtain ⟨h0, h1, h2, h3, h4, h5, h6⟩ := hW; go_simp) H0 ?_
        simp only [FL]
        refine hr_take_w 9 (some 34) (.slice (some ⟨b, off, none⟩) n cap) rfl rfl (by kernel_rfl) (by kernel_rfl) (by kernel_rfl) rfl (fun W hW => by obtain ⟨h0, h1, h2, h3, h4, h5, h6⟩ := hW; go_simp) H0 ?_
        simp only [FL]
        refine hr_take_w 10 (some 35) (.int .i64 k) rfl rfl (by kernel_rfl) (by kernel_rfl) (by kernel_rfl) rfl (fun W hW => by obtain ⟨h0, h1, h2, h3, h4, h5, h6⟩ := hW; go_simp) H0 ?_
        simp only [FL]
        refine hr_take_w 11 (some 36) (.pointer (some ⟨b, off + k * 6, none⟩)) rfl rfl (by kernel_rfl) (by kernel_rfl) (by kernel_rfl) rfl (fun W hW => by obtain ⟨h0, h1, h2, h3, h4, h5, h6⟩ := hW; go_simp) H0 ?_
        simp only [FL]
        refine hr_take_w 12 (some 37) (.pointer (some ⟨b, off + k * 6 + 4, none⟩)) rfl rfl (by kernel_rfl) (by kernel_rfl) (by kernel_rfl) rfl (fun W hW => by obtain ⟨h0, h1, h2, h3, h4, h5, h6⟩ := hW; go_simp) H0 ?_
        simp only [FL]
        refine hr_take_w 13 (some 38) (.slice c.va.ao c.va.n c.va.cap) rfl rfl (by kernel_rfl) (by kernel_rfl) (by kernel_rfl) rfl (fun W hW => by obtain ⟨h0, h1, h2, h3, h4, h5, h6⟩ := hW; go_simp) H0 ?_
        simp only [FL]
        refine hr_take_w 15 (some 40) (.pointer (some ⟨N, 1, none⟩)) rfl rfl (by kernel_rfl) (by kernel_rfl) (by kernel_rfl) rfl (fun W hW => by obtain ⟨h0, h1, h2, h3, h4, h5, h6⟩ := hW; go_simp) H0 ?_
        simp only [FL]
        refine hr_take_w 16 (some 41) (.slice (some ⟨b, off, none⟩) n cap) rfl rfl (by kernel_rfl) (by kernel_rfl) (by kernel_rfl) rfl (fun W hW => by obtain ⟨h0, h1, h2, h3, h4, h5, h6⟩ := hW; go_simp) H0 ?_
        simp only [FL]
        refine hr_take_w 17 (some 42) (.int .i64 k) rfl rfl (by kernel_rfl) (by kernel_rfl) (by kernel_rfl) rfl (fun W hW => by obtain ⟨h0, h1, h2, h3, h4, h5, h6⟩ := hW; go_simp) H0 ?_
        simp only [FL]
        refine hr_take_w 18 (some 43) (.pointer (some ⟨b, off + k * 6, none⟩)) rfl rfl (by kernel_rfl) (by kernel_rfl) (by kernel_rfl) rfl (fun W hW => by obtain ⟨h0, h1, h2, h3, h4, h5, h6⟩ := hW; go_simp) H0 ?_
        simp only [FL]
        refine hr_take_w 19 (some 44) (.pointer (some ⟨b, off + k * 6 + 5, none⟩)) rfl rfl (by kernel_rfl) (by kernel_rfl) (by kernel_rfl) rfl (fun W hW => by obtain ⟨h0, h1, h2, h3, h4, h5, h6⟩ := hW; go_simp) H0 ?_
        simp only [FL]
        refine hr_take_w 20 (some 45) (.bool c.gone) rfl rfl (by kernel_rfl) (by kernel_rfl) (by kernel_rfl) rfl (fun W hW => by obtain ⟨h0, h1, h2, h3, h4, h5, h6⟩ := hW; go_simp) H0 ?_
        simp only [FL]
        refine hr_call_w 7 (some 32) 48 #[.slice bo m1 c1, .agg #[.string c.row, .string c.fam, .string c.qual, .int .u64 c.time]] rfl rfl (by kernel_rfl) rfl (by go_simp) (fun v w' => ∃ b5 m5 c5, v = .slice b5 m5 c5 ∧ Sl w' b5 m5 c5 (enc e.toNat ++ enc n ++ p ++ putK c.key) ∧ Below v0.heap.size v0 w') ((rkey_any v0 bo m1 c1 _ (S.below E0) (by omega) c.key hcf1.1).mono (by
          rintro e w' ⟨b5, m5, c5, rfl, F, C⟩
          exact ⟨_, rfl, b5, m5, c5, rfl, F, C⟩)) ?_
        rintro v v1 ⟨b5, m5, c5, rfl, F0, C0⟩
        have E1 := E0.trans (C0.mono E0.size)
        have H1 := HS.out v1 E1
        refine ⟨H1, ?_⟩
        simp only [FL]
        have l5 := F0.len
        simp only [List.length_append] at l5
        refine hr_call_w 14 (some 39) 35 #[.slice b5 m5 c5, .slice c.va.ao c.va.n c.va.cap] rfl rfl (by kernel_rfl) rfl (by go_simp) (fun v w' => ∃ b6 m6 c6, v = .slice b6 m6 c6 ∧ Sl w' b6 m6 c6 (enc e.toNat ++ enc n ++ p ++ putK c.key ++ byts c.va.xs) ∧ Below v1.heap.size v1 w') ((gBytes v1 b5 _ m5 c5 _ _ _ _ F0 (hok.below E1).va (by omega) (by have := hok.va.len; omega)).mono (by
          rintro e w' ⟨b6, m6, c6, rfl, F, C⟩
          exact ⟨_, rfl, b6, m6, c6, rfl, F, C⟩)) ?_
        rintro v v2 ⟨b6, m6, c6, rfl, F1, C1⟩
        have E2 := E1.trans (C1.mono E1.size)
        have H2 := HS.out v2 E2
        refine ⟨H2, ?_⟩
        simp only [FL]
        have l6 := F1.len
        simp only [List.length_append] at l6
        refine hr_call_w 21 (some 46) 47 #[.slice b6 m6 c6, .bool c.gone] rfl rfl (by kernel_rfl) rfl (by go_simp) (fun v w' => ∃ b7 m7 c7, v = .slice b7 m7 c7 ∧ Sl w' b7 m7 c7 (enc e.toNat ++ enc n ++ p ++ putK c.key ++ byts c.va.xs ++ enb c.gone) ∧ Below v2.heap.size v2 w') ((gBool v2 b6 m6 c6 c.gone _ F1 (by omega)).mono (by
          rintro e w' ⟨b7, m7, c7, rfl, F, C⟩
          exact ⟨_, rfl, b7, m7, c7, rfl, F, C⟩)) ?_
        rintro v v3 ⟨b7, m7, c7, rfl, F2, C2⟩
        have E3 := E2.trans (C2.mono E2.size)
        have H3 := HS.out v3 E3
        refine ⟨H3, ?_⟩
        simp only [FL]
        have l7 := F2.len
        simp only [List.length_append] at l7
        refine hr_take_w 22 (some 4) (.slice b7 m7 c7) rfl rfl (by kernel_rfl) (by kernel_rfl) (by kernel_rfl) rfl (fun W hW => by obtain ⟨h0, h1, h2, h3, h4, h5, h6⟩ := hW; go_simp) H3 ?_
        simp only [FL]
        refine wpAnyH_done (by kernel_rfl) ?_ _
        refine NoPanic.normal ?_
        have m7b : m7 ≤ 20 + 410 * (k + 1) := by omega
        have B7 := B.trans (E3.mono (by have := B.size; have := HN.out; omega))
        have D7 := C.trans (E3.mono C.size)
        have fin : enc e.toNat ++ enc n ++ p ++ putK c.key ++ byts c.va.xs ++ enb c.gone = enc e.toNat ++ enc n ++ (p ++ putC c.c) := by
          rw [putC_key]
          simp only [List.append_assoc]
        rw [fin] at F2
        clear l5 l6 l7 lS F0 F1 S HS E0 E1 E2 E3 C0 C1 C2 H0 H1 H2 H3
        go_wp2
        go_roundw
        case rel => exact ⟨k + 1, b7, m7, c7, by omega, by go_num, rfl, by rw [HT.out]; exact F2, m7b, B7, D7⟩
        case measure => simp [intOf]; omega
      · have i6 : (n : Int) ≤ (k : Int) := by omega
        rw [List.take_of_length_le (by omega)] at S
        have r1 := K5.c1
        have r2 := K5.c2
        go_wp2_with fail
        clear r1 r2
        refine (gBool wr bo m1 c1 m _ S (by omega)).mono ?_
        rintro x w5 ⟨b5, m5, c5, rfl, S5, C5⟩
        have B5 := B.trans (C5.mono (by have := B.size; have := HN.out; omega))
        go_wp2
        go_ret2
        refine ⟨⟨b5, m5, c5, by rw [hk] <;> rfl, ?_⟩, by rw [← HN.out]; exact B5⟩
        rw [if_pos hb, putR_res, hl]
        simpa only [List.append_assoc] using S5
end Go.Proofs.YtlgafjalcpjelaaDoor

/-
  Texts in one: SeRef4.
-/
import Derived.Test.YtlgafjalcpjelaaDoorSessionPlaysQFL
import Derived.Test.YtlgafjalcpjelaaDoorSessionPlaysQ21
import Derived.Test.YtlgafjalcpjelaaDoorSessionPlaysQ22
import Derived.Test.YtlgafjalcpjelaaDoorSessionPlaysQ24
import Derived.Test.YtlgafjalcpjelaaDoorSessionPlaysQ30
namespace Go.Proofs.YtlgafjalcpjelaaDoor
open Go.RowKit
theorem len8 {r : RV} (h : rightR r = true) (hw : ∀ c ∈ r.cells, c.wf) : (putR r).length ≤ 8000 := by
  obtain ⟨_, h3, h4⟩ := rightR_fits h hw
  have h1 : 0 ≤ r.e ∧ r.e ≤ 18 ∧ r.cells.length ≤ 16 := by
    have h0 := h
    unfold rightR at h0
    exact of_decide_eq_true (Bool.and_eq_true_iff.1 h0).1
  have g2 : ∀ k : List CV, (∀ c ∈ k, c ∈ r.cells) → ((k.map putC).flatten).length ≤ 410 * k.length := by
    intro k
    induction k with
    | nil => intro _; simp
    | cons a k ih =>
      intro hk
      have i1 := ih (fun x hx => hk x (List.mem_cons_of_mem _ hx))
      have h5 := h4 a (hk a (List.mem_cons_self ..))
      have i2 := putC_len (c := ⟨a.row, a.fam, a.qual, a.time, ⟨none, 0, 0, a.value⟩, a.gone⟩) ⟨h5.row, h5.fam, h5.qual, h5.time⟩ h5.value.1
      have e2 : CA.c ⟨a.row, a.fam, a.qual, a.time, ⟨none, 0, 0, a.value⟩, a.gone⟩ = a := rfl
      rw [e2] at i2
      simp only [List.map_cons, List.flatten_cons, List.length_append, List.length_cons]
      omega
  have g3 := g2 r.cells (fun _ h => h)
  have g4 := enc_length (n := r.e.toNat) (by omega)
  have g5 := enc_length (n := r.cells.length) (by omega)
  have g6 := enb_len r.more
  unfold putR
  simp only [List.length_append]
  omega
theorem bytT_len8 {l : List EN} (ok : ∀ e ∈ l, e.ok) (n8 : l.length ≤ 8) : (bytT l).length ≤ 65000 := by
  have key : ∀ k : List EN, (∀ e ∈ k, e.ok) → ((k.map bytE).flatten).length ≤ 8040 * k.length := by
    intro k
    induction k with
    | nil => intro _; simp
    | cons a k ih =>
      intro hk
      have i1 := ih (fun x hx => hk x (List.mem_cons_of_mem _ hx))
      have ha := hk a (List.mem_cons_self ..)
      have h1 := enc_length ha.cl
      have h2 := enc_length ha.st
      have h4 := len8 ha.right ha.wf
      have h3 := enc_length (n := (putR a.r).length) (by omega)
      have h5 : (bytE a).length ≤ 8040 := by
        unfold bytE byts
        simp only [List.length_append]
        omega
      simp only [List.map_cons, List.flatten_cons, List.length_append, List.length_cons]
      omega
  have h1 := key l ok
  have h2 := enc_length (n := l.length) (by omega)
  unfold bytT
  rw [List.length_append]
  omega
set_option maxRecDepth 100000 in
set_option maxHeartbeats 4000000 in
theorem rBytes12 (w : World) (ao : Option Addr) (n cap : Nat) (ys : List LA) (l : List EN) (h : LL12 w ao n cap ys) (he : ys.map LA.en = l) (hn : n ≤ 8) (ok : ∀ e ∈ l, e.ok) :
    Calls Tryd.prog 19 #[.slice ao n cap] w (PutPost w (bytT l)) := by
  have hl := h.len
  have hll : l.length = n := by rw [← he, List.length_map]; exact hl
  have hni : (n : Int) ≤ 8 := by omega
  have HE : Hid (ys.map LA.en = l) := he
  have HOK : Hid (∀ e ∈ l, e.ok) := ok
  have CU := gUint w none 0 0 n [] (Sl.nothing w) (by omega) (by omega)
  have el := enc_length (n := n) (by omega)
  have HB : Hid (bytT l = enc n ++ (l.map bytE).flatten) := by show _ = _; unfold bytT; rw [hll]
  clear he ok
  go_enter Tryd.func19, Tryd.ntmps19
  go_wp2_with fail
  refine CU.mono ?_
  rintro x w1 ⟨bo, bn, bc, rfl, S1, B1⟩
  clear CU
  go_wp2_with fail
  go_loopw [3, 4] (fun b i wr => ∃ (k : Nat) (bo : Option Addr) (m c : Nat), k ≤ n ∧ i = .int .i64 k ∧ b = .slice bo m c ∧ Sl wr bo m c (enc n ++ ((l.take k).map bytE).flatten) ∧ Below w.heap.size w wr) (fun _ i _ => n - (intOf i).toNat)
  case atStart => exact ⟨0, bo, bn, bc, Nat.zero_le _, rfl, rfl, by simpa using S1, B1⟩
  case round =>
    clear S1 B1
    obtain ⟨k, bo, m, c, hk, rfl, rfl, S, B⟩ := hrel
    have hm := S.len
    have hlb := bytL_len (l := l.take k) (fun e he => HOK.out e (List.mem_of_mem_take he))
    rw [List.length_append] at hm
    rw [List.length_take] at hlb
    by_cases hlt : k < n
    · have hki : (k : Int) < (n : Int) := by omega
      have k1 : k < ys.length := by omega
      have k2 : k < l.length := by omega
      obtain ⟨b, off, rfl, hc⟩ := h.at (by omega)
      have X := (hc k k1).below B
      have hok := (h.ok _ (List.getElem_mem k1)).below B
      have hen := en_get HE.out k k1 k2
      have heo := HOK.out _ (List.getElem_mem k2)
      have HT : Hid (((l.take (k + 1)).map bytE).flatten = ((l.take k).map bytE).flatten ++ bytE l[k]) := by
        show _ = _
        rw [List.take_succ_eq_append_getElem k2, List.map_append, List.flatten_append]
        simp
      obtain ⟨y, hy⟩ : ∃ y, y = ys[k] := ⟨_, rfl⟩
      obtain ⟨e, hee⟩ : ∃ e, e = l[k] := ⟨_, rfl⟩
      rw [← hy] at X hok hen
      rw [← hee] at hen heo HT
      clear hy hee hc
      have a1 : y.cl = e.cl := congrArg EN.cl hen
      have a2 : y.st = e.st := congrArg EN.st hen
      have a3 : resR y.e y.cs y.m = e.r := congrArg EN.r hen
      have hycl : y.cl < 18446744073709551616 := hok.cl
      have hyst : y.st < 18446744073709551616 := hok.st
      have l1 := enc_length hycl
      have l2 := enc_length hyst
      have l3 := heo.len
      have CR := rresult_any wr y.e y.ao y.n y.cap y.cs y.m hok.cs
      rw [a3] at CR
      have HBE : Hid (bytE e = enc y.cl ++ (enc y.st ++ byts (putR e.r))) := by show _ = _; unfold bytE; rw [a1, a2]
      have hrt := heo.right
      obtain ⟨q0, q1, q2, q3, q4⟩ := X
      have X : LX wr b (off + k * 5) y := ⟨q0, q1, q2, q3, q4⟩
      unfold resV at CR
      clear a1 a2 a3 hen heo
      go_wp2_with fail
      refine CR.mono ?_
      rintro x w2 ⟨⟨ro, rk, rc, rfl, SR⟩, C2⟩
      rw [if_pos hrt] at SR
      have hkd : kindR e.r = 0 := by unfold kindR; rw [hrt]; rfl
      rw [hkd]
      have hrk := SR.len
      have S2 := S.below C2
      have X2 := X.below C2
      have B2 := B.trans (C2.mono B.size)
      clear CR C2 S X B hkd hrt q0 q1 q2 q3 q4
      obtain ⟨xs, hxs⟩ : ∃ xs, xs = enc n ++ ((l.take k).map bytE).flatten := ⟨_, rfl⟩
      rw [← hxs] at S2
      have hm2 : m ≤ 600000 := by omega
      have hxm : xs.length = m := S2.len
      go_wp2_with fail
      have zHS : Hid (∀ V, Below w2.heap.size w2 V → V.cell? ⟨b, off + k * 5, none⟩ = some (.int .u64 y.cl) ∧ V.cell? ⟨b, off + k * 5 + 1, none⟩ = some (.int .u64 y.st)) := fun V hV => ⟨(X2.below hV).c0, (X2.below hV).c1⟩
      have zE0 : Below w2.heap.size w2 w2.drew := (Below.refl _ _).drew
      refine wp_region_noPanic ?_
      refine wp_region_held_drew (S := fun V => V.cell? ⟨b, off + k * 5, none⟩ = some (.int .u64 y.cl) ∧ V.cell? ⟨b, off + k * 5 + 1, none⟩ = some (.int .u64 y.st)) (by kernel_rfl) (zHS.out _ zE0) (fun zH0 => ?_)
      obtain ⟨zv0, hv0⟩ : ∃ v, v = w2.drew := ⟨_, rfl⟩
      rw [← hv0] at zH0 zE0 ⊢
      clear hv0
      refine hr_take_w 0 (some 26) (.slice bo m c) rfl rfl (by kernel_rfl) (by kernel_rfl) (by kernel_rfl) rfl (fun W hW => by obtain ⟨h0, h1⟩ := hW; go_simp) zH0 ?_
      simp only [FL]
      refine hr_take_w 1 (some 27) (.slice (some ⟨b, off, none⟩) n cap) rfl rfl (by kernel_rfl) (by kernel_rfl) (by kernel_rfl) rfl (fun W hW => by obtain ⟨h0, h1⟩ := hW; go_simp) zH0 ?_
      simp only [FL]
      refine hr_take_w 2 (some 28) (.int .i64 (k : Nat)) rfl rfl (by kernel_rfl) (by kernel_rfl) (by kernel_rfl) rfl (fun W hW => by obtain ⟨h0, h1⟩ := hW; go_simp) zH0 ?_
      simp only [FL]
      refine hr_take_w 3 (some 29) (.pointer (some ⟨b, off + k * 5, none⟩)) rfl rfl (by kernel_rfl) (by kernel_rfl) (by kernel_rfl) rfl (fun W hW => by obtain ⟨h0, h1⟩ := hW; go_simp) zH0 ?_
      simp only [FL]
      refine hr_take_w 4 (some 30) (.pointer (some ⟨b, off + k * 5, none⟩)) rfl rfl (by kernel_rfl) (by kernel_rfl) (by kernel_rfl) rfl (fun W hW => by obtain ⟨h0, h1⟩ := hW; go_simp) zH0 ?_
      simp only [FL]
      refine hr_take_w 5 (some 31) (.int .u64 y.cl) rfl rfl (by kernel_rfl) (by kernel_rfl) (by kernel_rfl) rfl (fun W hW => by obtain ⟨h0, h1⟩ := hW; go_simp) zH0 ?_
      simp only [FL]
      refine hr_take_w 7 (some 33) (.slice (some ⟨b, off, none⟩) n cap) rfl rfl (by kernel_rfl) (by kernel_rfl) (by kernel_rfl) rfl (fun W hW => by obtain ⟨h0, h1⟩ := hW; go_simp) zH0 ?_
      simp only [FL]
      refine hr_take_w 8 (some 34) (.int .i64 (k : Nat)) rfl rfl (by kernel_rfl) (by kernel_rfl) (by kernel_rfl) rfl (fun W hW => by obtain ⟨h0, h1⟩ := hW; go_simp) zH0 ?_
      simp only [FL]
      refine hr_take_w 9 (some 35) (.pointer (some ⟨b, off + k * 5, none⟩)) rfl rfl (by kernel_rfl) (by kernel_rfl) (by kernel_rfl) rfl (fun W hW => by obtain ⟨h0, h1⟩ := hW; go_simp) zH0 ?_
      simp only [FL]
      refine hr_take_w 10 (some 36) (.pointer (some ⟨b, off + k * 5 + 1, none⟩)) rfl rfl (by kernel_rfl) (by kernel_rfl) (by kernel_rfl) rfl (fun W hW => by obtain ⟨h0, h1⟩ := hW; go_simp) zH0 ?_
      simp only [FL]
      refine hr_take_w 11 (some 37) (.int .u64 y.st) rfl rfl (by kernel_rfl) (by kernel_rfl) (by kernel_rfl) rfl (fun W hW => by obtain ⟨h0, h1⟩ := hW; go_simp) zH0 ?_
      simp only [FL]
      refine hr_take_w 13 (some 39) (.slice ro rk rc) rfl rfl (by kernel_rfl) (by kernel_rfl) (by kernel_rfl) rfl (fun W hW => by obtain ⟨h0, h1⟩ := hW; go_simp) zH0 ?_
      simp only [FL]
      refine hr_call_w 6 (some 32) 33 #[.slice bo m c, .int .u64 y.cl] rfl rfl (by kernel_rfl) rfl (by go_simp) (fun v w' => ∃ b6 m6 c6, v = .slice b6 m6 c6 ∧ Sl w' b6 m6 c6 (xs ++ enc y.cl) ∧ Below zv0.heap.size zv0 w') ((gUint zv0 bo m c y.cl xs (S2.below zE0) (by omega) hycl).mono (by
        rintro e w' ⟨b6, m6, c6, rfl, F, C⟩
        exact ⟨_, rfl, b6, m6, c6, rfl, F, C⟩)) ?_
      rintro v zv1 ⟨b6, m6, c6, rfl, zF0, zC0⟩
      have zE1 := zE0.trans (zC0.mono zE0.size)
      have zH1 := zHS.out zv1 zE1
      refine ⟨zH1, ?_⟩
      simp only [FL]
      have hm6 := zF0.len
      rw [List.length_append] at hm6
      refine hr_call_w 12 (some 38) 33 #[.slice b6 m6 c6, .int .u64 y.st] rfl rfl (by kernel_rfl) rfl (by go_simp) (fun v w' => ∃ b7 m7 c7, v = .slice b7 m7 c7 ∧ Sl w' b7 m7 c7 (xs ++ enc y.cl ++ enc y.st) ∧ Below zv1.heap.size zv1 w') ((gUint zv1 b6 m6 c6 y.st (xs ++ enc y.cl) zF0 (by omega) hyst).mono (by
        rintro e w' ⟨b7, m7, c7, rfl, F, C⟩
        exact ⟨_, rfl, b7, m7, c7, rfl, F, C⟩)) ?_
      rintro v zv2 ⟨b7, m7, c7, rfl, zF1, zC1⟩
      have zE2 := zE1.trans (zC1.mono zE1.size)
      have zH2 := zHS.out zv2 zE2
      refine ⟨zH2, ?_⟩
      simp only [FL]
      have hm7 := zF1.len
      rw [List.length_append, List.length_append] at hm7
      refine hr_call_w 14 (some 40) 35 #[.slice b7 m7 c7, .slice ro rk rc] rfl rfl (by kernel_rfl) rfl (by go_simp) (fun v w' => ∃ b8 m8 c8, v = .slice b8 m8 c8 ∧ Sl w' b8 m8 c8 (xs ++ enc y.cl ++ enc y.st ++ byts (putR e.r)) ∧ Below zv2.heap.size zv2 w') ((gBytes zv2 b7 ro m7 c7 rk rc (xs ++ enc y.cl ++ enc y.st) (putR e.r) zF1 (SR.below zE2) (by omega) (by omega)).mono (by
        rintro e w' ⟨b8, m8, c8, rfl, F, C⟩
        exact ⟨_, rfl, b8, m8, c8, rfl, F, C⟩)) ?_
      rintro v zv3 ⟨b8, m8, c8, rfl, zF2, zC2⟩
      have zE3 := zE2.trans (zC2.mono zE2.size)
      have zH3 := zHS.out zv3 zE3
      refine ⟨zH3, ?_⟩
      simp only [FL]
      refine hr_take_w 15 (some 3) (.slice b8 m8 c8) rfl rfl (by kernel_rfl) (by kernel_rfl) (by kernel_rfl) rfl (fun W hW => by obtain ⟨h0, h1⟩ := hW; go_simp) zH3 ?_
      simp only [FL]
      refine wpAnyH_done (by kernel_rfl) ?_ _
      refine NoPanic.normal ?_
      have B3 := B2.trans (zE3.mono B2.size)
      clear zHS zH0 zH1 zH2 zH3 zE0 zE1 zE2 zE3 zC0 zC1 zC2 zF0 zF1 hm6 hm7
      go_wp2
      go_roundw
      case rel =>
        refine ⟨k + 1, b8, m8, c8, by omega, by go_num, rfl, ?_, B3⟩
        rw [HT.out, HBE.out, ← List.append_assoc, ← hxs]
        simp only [List.append_assoc] at zF2 ⊢
        exact zF2
      case measure => simp [intOf]; omega
    · have hge : (n : Int) ≤ (k : Int) := by omega
      have HT : Hid ((l.take k).map bytE = l.map bytE) := by show _ = _; rw [List.take_of_length_le (by omega)]
      rw [HT.out, ← HB.out] at S
      go_wp2
      go_ret
      exact ⟨bo, m, c, rfl, S, B⟩
theorem rSum12 (w : World) (ao : Option Addr) (n cap : Nat) (ys : List LA) (l : List EN) (h : LL12 w ao n cap ys) (he : ys.map LA.en = l) (hn : n ≤ 8) (ok : ∀ e ∈ l, e.ok) :
    Calls Tryd.prog 21 #[.slice ao n cap] w (PutPost w (sumT l)) := by
  have hll : l.length = n := by rw [← he, List.length_map]; exact h.len
  have CB := rBytes12 w ao n cap ys l h he hn ok
  have hbl := bytT_len8 ok (by omega)
  go_enter Tryd.func21, Tryd.ntmps21
  go_wp2_with fail
  refine CB.mono ?_
  rintro x w1 ⟨bo, m, c, rfl, S1, B1⟩
  have hm := S1.len
  have B2 : Below w1.heap.size w1 (w1.alloc (.cells #[.slice bo m c] 50)) := (Below.refl _ w1).alloc (Nat.le_refl _) _
  have P2 := PL.one1 w1 ⟨bo, m, c, bytT l⟩ S1
  have D2 := B1.trans (B2.mono B1.size)
  have CO := rof_any _ ⟨#[115, 101, 115, 115, 105, 111, 110]⟩ _ _ _ _ P2 (by decide) (by omega) (fun q hq => by rw [List.mem_singleton.1 hq]; show m ≤ _; omega) (by
    have e0 : (sb ⟨#[115, 101, 115, 115, 105, 111, 110]⟩).length = 7 := by rw [sb_len]; rfl
    have e1 := enc_length (n := 7) (by decide)
    have e2 := enc_length (n := 1) (by decide)
    have e3 := enc_length (n := (bytT l).length) (by omega)
    unfold formL fmP pxs
    rw [e0]
    simp only [List.map_cons, List.map_nil, List.flatMap_cons, List.flatMap_nil, List.append_nil, List.length_append, List.length_cons, List.length_nil, e0, Nat.zero_add]
    omega)
  clear CB B1 S1
  go_wp2_with fail
  refine CO.mono ?_
  rintro x w3 ⟨v, rfl, O, C3⟩
  obtain ⟨ro, rc, rfl, S, -⟩ := Sl.own O (sumL_byte _)
  have D3 := D2.trans (C3.mono D2.size)
  clear CO P2 B2 D2 C3 O
  go_wp2
  go_ret
  exact ⟨ro, 32, rc, rfl, S, D3⟩
end Go.Proofs.YtlgafjalcpjelaaDoor

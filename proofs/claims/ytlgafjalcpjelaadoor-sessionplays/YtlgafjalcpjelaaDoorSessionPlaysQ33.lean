/-
  Texts in one: SeAll.
-/
import Derived.Test.YtlgafjalcpjelaaDoorSessionPlaysQFL
import Derived.Test.YtlgafjalcpjelaaDoorSessionPlaysQ20
import Derived.Test.YtlgafjalcpjelaaDoorSessionPlaysQ14
namespace Go.Proofs.YtlgafjalcpjelaaDoor
open Go.RowKit
set_option maxRecDepth 100000 in
set_option maxHeartbeats 8000000 in
theorem cAll_any (w : World) (p g : Nat) (l : List EN) (h : TS w p g l) :
    Calls Tryd.prog 16 #[.pointer (some ⟨p, 0, none⟩)] w (LsIs w w.heap.size l) := by
  have n8 := h.n8
  have n8i : (l.length : Int) ≤ 8 := by omega
  obtain ⟨cp, t0, R0, hcp⟩ := h.tab
  go_enter Tryd.func16, Tryd.ntmps16
  go_wp2_with fail
  go_loopw [3, 13] (fun v i wr => ∃ (k : Nat) (ys : List LA), k ≤ l.length ∧ i = .int .i64 k ∧ AllI 72 wr w.heap.size v ys ∧ Hid (ys.map LA.en = l.take k) ∧ Hid (∀ y ∈ ys, ∀ x, y.blk x → w.heap.size ≤ x) ∧ Below w.heap.size w wr) (fun _ i _ => l.length - (intOf i).toNat)
  case atStart => exact ⟨0, [], Nat.zero_le _, rfl, AllI.nil _ _ _, rfl, fun _ h => by simp at h, Below.refl _ _⟩
  case round =>
    obtain ⟨k, ys, hk, rfl, N, HY, HLO, B⟩ := hrel
    obtain ⟨vo, vn, vc, hvs⟩ := N.slice
    obtain ⟨v, hv⟩ : ∃ v, v = Value.slice vo vn vc := ⟨_, rfl⟩
    rw [hvs, ← hv] at N
    rw [hvs, ← hv]
    clear hvs
    have hyl : ys.length = k := by
      have := congrArg List.length HY.out
      simp only [List.length_map, List.length_take] at this
      omega
    by_cases hlt : k < l.length
    · have hki : (k : Int) < (l.length : Int) := by omega
      have R := R0.keep (B.block g R0.lt)
      have q0 := R.cell k hlt 0 _ rfl
      have q1 := R.cell k hlt 1 _ rfl
      have q2 := R.cell k hlt 2 _ rfl
      simp only [Nat.add_zero] at q0
      have hok := h.ok _ (List.getElem_mem hlt)
      have HT : Hid (l.take (k + 1) = l.take k ++ [l[k]]) := List.take_succ_eq_append_getElem hlt
      obtain ⟨e, he⟩ : ∃ e, e = l[k] := ⟨_, rfl⟩
      rw [← he] at q0 q1 q2 hok HT
      clear he R
      have C2 : Below wr.heap.size wr (wr.alloc (.cells #[.int .u64 e.cl, .int .u64 e.st, .string e.an] 61)) := (Below.refl _ _).alloc (Nat.le_refl _) _
      have K2 : (wr.alloc (.cells #[.int .u64 e.cl, .int .u64 e.st, .string e.an] 61)).heap[wr.heap.size]? = some (.cells #[.int .u64 e.cl, .int .u64 e.st, .string e.an] 61) := heap_alloc_new _ _
      have N := N.below C2
      have B := B.trans (C2.mono B.size)
      go_wp2_with fail
      obtain ⟨w2, hw2⟩ : ∃ W, W = wr.alloc (.cells #[.int .u64 e.cl, .int .u64 e.st, .string e.an] 61) := ⟨_, rfl⟩
      obtain ⟨E, hE⟩ : ∃ E, E = wr.heap.size := ⟨_, rfl⟩
      rw [← hw2] at K2 N B ⊢
      rw [← hE] at K2 ⊢
      clear hw2 hE C2 q0 q1 q2
      have hE : E < w2.heap.size := (Array.getElem?_eq_some_iff.1 K2).1
      have E0 : Below w2.heap.size w2 w2.drew := (Below.refl _ _).drew
      refine wp_region_noPanic ?_
      refine wp_region_held_drew (S := fun _ => True) (by kernel_rfl) trivial (fun _ => ?_)
      obtain ⟨v0, hv0⟩ : ∃ v, v = w2.drew := ⟨_, rfl⟩
      rw [← hv0] at E0 ⊢
      clear hv0
      refine hr_take_w 0 (some 17) (v) rfl rfl (by kernel_rfl) (by kernel_rfl) (by kernel_rfl) rfl (fun W hW => by go_simp) trivial ?_
      simp only [FL]
      refine hr_take_w 1 (some 18) (.pointer (some ⟨E, 0, none⟩)) rfl rfl (by kernel_rfl) (by kernel_rfl) (by kernel_rfl) rfl (fun W hW => by go_simp) trivial ?_
      simp only [FL]
      refine hr_take_w 3 (some 20) (.pointer (some ⟨E, 1, none⟩)) rfl rfl (by kernel_rfl) (by kernel_rfl) (by kernel_rfl) rfl (fun W hW => by go_simp) trivial ?_
      simp only [FL]
      refine wpAnyH_effto 2 (fun zi zv zw => (zi = 2 → zv = .int .u64 e.cl) ∧ (zi = 4 → zv = .int .u64 e.st) ∧ (zi = 5 → zv = .agg #[.int .u64 e.cl, .int .u64 e.st, .string e.an]) ∧ (zi = 6 → ∃ y : LA, zv = .agg #[.int .i64 y.e, .slice y.ao y.n y.cap, .bool y.m] ∧ YOK zw w2.heap.size e y) ∧ (zi = 7 → ∃ y : LA, zv = .agg #[.int .u64 y.cl, .int .u64 y.st, .int .i64 y.e, .slice y.ao y.n y.cap, .bool y.m] ∧ YOK zw w2.heap.size e y) ∧ (zi = 8 → ∃ (y : LA) (g1 : Nat), zv = .slice (some ⟨g1, 0, none⟩) 1 1 ∧ zw.heap[g1]? = some (.cells #[.int .u64 y.cl, .int .u64 y.st, .int .i64 y.e, .slice y.ao y.n y.cap, .bool y.m] 72) ∧ YOK zw w2.heap.size e y)) [(2, 19), (4, 21), (5, 22), (6, 23), (7, 24), (8, 25)] 29 (by kernel_rfl) (by decide) (by decide) rfl ?_ (fun _ _ => trivial) ?_ ?_
      · intro zi v w w' h hb
        refine ⟨fun e => ?_, fun e => ?_, fun e => ?_, fun e => ?_, fun e => ?_, fun e => ?_⟩
        · have h := h.1 e
          exact h
        · have h := h.2.1 e
          exact h
        · have h := h.2.2.1 e
          exact h
        · have h := h.2.2.2.1 e
          obtain ⟨y, h1, h2⟩ := h
          exact ⟨y, h1, h2.below hb⟩
        · have h := h.2.2.2.2.1 e
          obtain ⟨y, h1, h2⟩ := h
          exact ⟨y, h1, h2.below hb⟩
        · have h := h.2.2.2.2.2 e
          obtain ⟨y, g1, h1, h2, h3⟩ := h
          exact ⟨y, g1, h1, (hb.block g1 (Array.getElem?_eq_some_iff.1 h2).1).trans h2, h3.below hb⟩
      · intro zp zhi o a w ho hs hb hdep
        have EB := E0.trans (hb.mono E0.size)
        simp only [List.mem_cons, List.not_mem_nil, or_false] at zhi
        rcases zhi with rfl | rfl | rfl | rfl | rfl | rfl
        · obtain rfl : _ = o := Option.some.inj (show some _ = some o from ho)
          have t18 : a.tmps[18]? = some (.pointer (some ⟨E, 0, none⟩)) := hs.get 18 (by kernel_rfl) rfl
          have lk := (EB.block E hE).trans K2
          have lc := cell_of_row w E 0 _ _ _ lk
          exact .inl ⟨.int .u64 e.cl, w, by go_simp, ⟨fun _ => rfl, fun e => absurd e (by decide), fun e => absurd e (by decide), fun e => absurd e (by decide), fun e => absurd e (by decide), fun e => absurd e (by decide)⟩, Below.refl _ _⟩
        · obtain rfl : _ = o := Option.some.inj (show some _ = some o from ho)
          have t20 : a.tmps[20]? = some (.pointer (some ⟨E, 1, none⟩)) := hs.get 20 (by kernel_rfl) rfl
          have lk := (EB.block E hE).trans K2
          have lc := cell_of_row w E 1 _ _ _ lk
          exact .inl ⟨.int .u64 e.st, w, by go_simp, ⟨fun e => absurd e (by decide), fun _ => rfl, fun e => absurd e (by decide), fun e => absurd e (by decide), fun e => absurd e (by decide), fun e => absurd e (by decide)⟩, Below.refl _ _⟩
        · obtain rfl : _ = o := Option.some.inj (show some _ = some o from ho)
          have t5 : a.tmps[5]? = some (.pointer (some ⟨E, 0, none⟩)) := hs.get 5 (by kernel_rfl) rfl
          have lk := (EB.block E hE).trans K2
          have lc0 := cell_of_row w E 0 _ _ _ lk
          have lc1 := cell_of_row w E 1 _ _ _ lk
          have lc2 := cell_of_row w E 2 _ _ _ lk
          exact .inl ⟨.agg #[.int .u64 e.cl, .int .u64 e.st, .string e.an], w, by go_simp, ⟨fun e => absurd e (by decide), fun e => absurd e (by decide), fun _ => rfl, fun e => absurd e (by decide), fun e => absurd e (by decide), fun e => absurd e (by decide)⟩, Below.refl _ _⟩
        · obtain rfl : _ = o := Option.some.inj (show some _ = some o from ho)
          obtain ⟨x22, t22, f22⟩ := (hdep 5 (by kernel_rfl)).at 22 (by kernel_rfl)
          replace f22 := f22.2.2.1 rfl
          subst f22
          have hsz := EB.size
          refine .inr ⟨30, #[.agg #[.int .u64 e.cl, .int .u64 e.st, .string e.an]], by go_simp, (cresult_any w e hok).mono ?_⟩
          rintro x w' ⟨q, ao, n, cap, cs, m, rfl, L, hq, C, hf⟩
          exact ⟨_, rfl, ⟨fun e => absurd e (by decide), fun e => absurd e (by decide), fun e => absurd e (by decide), fun _ => ⟨⟨e.cl, e.st, q, ao, n, cap, cs, m⟩, rfl, rfl, rfl, ⟨hok.cl, hok.st, L⟩, hq.symm, fun z hz => Nat.le_trans hsz (hf z hz)⟩, fun e => absurd e (by decide), fun e => absurd e (by decide)⟩, C⟩
        · obtain rfl : _ = o := Option.some.inj (show some _ = some o from ho)
          obtain ⟨x19, t19, f19⟩ := (hdep 2 (by kernel_rfl)).at 19 (by kernel_rfl)
          replace f19 := f19.1 rfl
          obtain ⟨x21, t21, f21⟩ := (hdep 4 (by kernel_rfl)).at 21 (by kernel_rfl)
          replace f21 := f21.2.1 rfl
          obtain ⟨x23, t23, f23⟩ := (hdep 6 (by kernel_rfl)).at 23 (by kernel_rfl)
          replace f23 := f23.2.2.2.1 rfl
          subst f19
          subst f21
          obtain ⟨y, rfl, Y⟩ := f23
          have hc1 := Y.cl
          have hc2 := Y.st
          exact .inl ⟨.agg #[.int .u64 y.cl, .int .u64 y.st, .int .i64 y.e, .slice y.ao y.n y.cap, .bool y.m], w, by rw [hc1, hc2]; go_simp, ⟨fun e => absurd e (by decide), fun e => absurd e (by decide), fun e => absurd e (by decide), fun e => absurd e (by decide), fun _ => ⟨y, rfl, Y⟩, fun e => absurd e (by decide)⟩, Below.refl _ _⟩
        · obtain rfl : _ = o := Option.some.inj (show some _ = some o from ho)
          obtain ⟨x24, t24, f24⟩ := (hdep 7 (by kernel_rfl)).at 24 (by kernel_rfl)
          replace f24 := f24.2.2.2.2.1 rfl
          obtain ⟨y, rfl, Y⟩ := f24
          have CA : Below w.heap.size w (w.alloc (.cells #[.int .u64 y.cl, .int .u64 y.st, .int .i64 y.e, .slice y.ao y.n y.cap, .bool y.m] 72)) := (Below.refl _ _).alloc (Nat.le_refl _) _
          exact .inl ⟨_, _, by go_simp, ⟨fun e => absurd e (by decide), fun e => absurd e (by decide), fun e => absurd e (by decide), fun e => absurd e (by decide), fun e => absurd e (by decide), fun _ => ⟨y, _, rfl, heap_alloc_new w _, Y.below CA⟩⟩, CA⟩
      intro zf v1 hb hh
      have E1 := E0.trans (hb.mono E0.size)
      obtain e2 := (hh (2, 19) (by simp)).1 rfl
      obtain e4 := (hh (4, 21) (by simp)).2.1 rfl
      obtain e5 := (hh (5, 22) (by simp)).2.2.1 rfl
      obtain ⟨y, g1, e8, G1, Y1⟩ := (hh (8, 25) (by simp)).2.2.2.2.2 rfl
      clear hh hb
      simp only [putL, List.foldl_cons, List.foldl_nil, e2, e4, e5, e8]
      clear e2 e4 e5 e8
      simp only [FL]
      have N1 := N.below E1
      have hsb := B.size
      have hsv := E1.size
      obtain ⟨v', W1, ha, N2, B2, ao2, n2, c2, rfl⟩ := N1.app lty1 47 (cp := 1) G1 Y1.ok (fun x hx e => by
        have h1 := Y1.far x hx
        have h2 := (N.own.lt x e).2
        omega) (by omega) (by omega)
      refine hr_ex 9 (some 26) rfl rfl (by kernel_rfl) rfl (R := fun v w' => (.slice ao2 n2 c2) = v ∧ W1 = w') ⟨_, W1, by simp [execOp, Act.eval, resolve, invoke, builtin, ha], rfl, rfl⟩ ?_
      rintro v w' ⟨rfl, rfl⟩
      refine ⟨trivial, ?_⟩
      simp only [FL]
      refine hr_take_w 10 (some 3) ((.slice ao2 n2 c2)) rfl rfl (by kernel_rfl) (by kernel_rfl) (by kernel_rfl) rfl (fun W hW => by go_simp) trivial ?_
      simp only [FL]
      refine wpAnyH_done (by kernel_rfl) ?_ _
      refine NoPanic.normal ?_
      have hen := Y1.en
      have HYF : Hid (∀ x, y.blk x → w.heap.size ≤ x) := fun x hx => Nat.le_trans hsb (Y1.far x hx)
      have B3 := (B.trans (E1.mono (by omega))).trans B2
      clear ha N1 G1 Y1 N B E1 B2 hsb hsv
      go_wp2
      go_roundw
      case rel =>
        refine ⟨k + 1, ys ++ [y], by omega, by go_num, N2, ?_, fun z hz => ?_, B3⟩
        · show _ = _
          rw [HT.out, List.map_append, HY.out]
          simp [hen]
        · rcases List.mem_append.1 hz with hz | hz
          · exact HLO.out z hz
          · rw [List.mem_singleton.1 hz]
            exact HYF.out
      case measure => simp [intOf]; omega
    · have hge : (l.length : Int) ≤ (k : Int) := by omega
      have HY2 : Hid (ys.map LA.en = l) := by
        show _ = _
        rw [HY.out, List.take_of_length_le (by omega)]
      obtain ⟨ao, cap, hs, LL, hlow⟩ := N.ll
      have HLW : Hid (∀ z, sblk ao ys.length z → w.heap.size ≤ z) := hlow
      rw [hs]
      clear N HY hv hlow
      go_wp2
      go_ret
      exact ⟨ao, _, cap, ys, rfl, LL, HY2.out, B, fun z hz => by
        rcases hz with hz | ⟨y, hy, hz⟩
        · exact HLW.out z hz
        · exact HLO.out y hy z hz⟩
end Go.Proofs.YtlgafjalcpjelaaDoor

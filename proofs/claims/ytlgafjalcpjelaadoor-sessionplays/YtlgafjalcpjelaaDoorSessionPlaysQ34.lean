/-
  Texts in one: SeBack.
-/
import Derived.Test.YtlgafjalcpjelaaDoorSessionPlaysQFL
import Derived.Test.YtlgafjalcpjelaaDoorSessionPlaysQ14
namespace Go.Proofs.YtlgafjalcpjelaaDoor
open Go.RowKit
set_option maxRecDepth 100000 in
set_option maxHeartbeats 8000000 in
theorem lback_any (w : World) (ao : Option Addr) (n cap : Nat) (ls : List LA) (h : LL12 w ao n cap ls) (hn : n ≤ 100) (D : Nat) (hD : D ≤ w.heap.size) (hF : ∀ z, LLb ao n ls z → D ≤ z) :
    Calls Tryd.prog 15 #[.slice ao n cap] w (LsIs w D (ls.map LA.en)) := by
  have HF : Hid (∀ y ∈ ls, ∀ z, y.blk z → D ≤ z) := fun y hy z hz => hF z (.inr ⟨y, hy, hz⟩)
  clear hF
  have hl := h.len
  have hni : (n : Int) ≤ 100 := by omega
  have hcl := h.le
  go_enter Tryd.func15, Tryd.ntmps15
  go_wp2_with fail
  go_loopw [3, 4] (fun v i wr => ∃ (k : Nat), k ≤ n ∧ i = .int .i64 k ∧ AllI 39 wr w.heap.size v (ls.take k) ∧ Below w.heap.size w wr) (fun _ i _ => n - (intOf i).toNat)
  case atStart => exact ⟨0, Nat.zero_le _, rfl, AllI.nil _ _ _, Below.refl _ _⟩
  case round =>
    obtain ⟨k, hk, rfl, N, B⟩ := hrel
    obtain ⟨vo, vn, vc, hvs⟩ := N.slice
    obtain ⟨v, hv⟩ : ∃ v, v = Value.slice vo vn vc := ⟨_, rfl⟩
    rw [hvs, ← hv] at N
    rw [hvs, ← hv]
    clear hvs
    by_cases hlt : k < n
    · have hki : (k : Int) < (n : Int) := by omega
      have hkl : k < ls.length := by omega
      obtain ⟨b, off, rfl, hc⟩ := h.at (by omega)
      have X := (hc k hkl).below B
      have HX : Hid (∀ V, Below wr.heap.size wr V → LX V b (off + k * 5) ls[k]) := fun V hV => X.below hV
      have hok := h.ok _ (List.getElem_mem hkl)
      have hyl : (ls.take k).length ≤ 100 := by rw [List.length_take]; omega
      have HT : Hid (ls.take (k + 1) = ls.take k ++ [ls[k]]) := List.take_succ_eq_append_getElem hkl
      obtain ⟨y, hy⟩ : ∃ y, y = ls[k] := ⟨_, rfl⟩
      rw [← hy] at HX hok HT
      clear hy hc X
      go_wp2_with fail
      have E0 : Below wr.heap.size wr wr.drew := (Below.refl _ _).drew
      refine wp_region_noPanic ?_
      refine wp_region_held_drew (S := fun _ => True) (by kernel_rfl) trivial (fun _ => ?_)
      obtain ⟨v0, hv0⟩ : ∃ v, v = wr.drew := ⟨_, rfl⟩
      rw [← hv0] at E0 ⊢
      clear hv0
      refine hr_take_w 0 (some 11) (v) rfl rfl (by kernel_rfl) (by kernel_rfl) (by kernel_rfl) rfl (fun W hW => by go_simp) trivial ?_
      simp only [FL]
      refine hr_take_w 1 (some 12) (.slice (some ⟨b, off, none⟩) n cap) rfl rfl (by kernel_rfl) (by kernel_rfl) (by kernel_rfl) rfl (fun W hW => by go_simp) trivial ?_
      simp only [FL]
      refine hr_take_w 2 (some 13) (.int .i64 (k : Nat)) rfl rfl (by kernel_rfl) (by kernel_rfl) (by kernel_rfl) rfl (fun W hW => by go_simp) trivial ?_
      simp only [FL]
      refine hr_take_w 3 (some 14) (.pointer (some ⟨b, off + k * 5, none⟩)) rfl rfl (by kernel_rfl) (by kernel_rfl) (by kernel_rfl) rfl (fun W hW => by go_simp) trivial ?_
      simp only [FL]
      refine hr_take_w 4 (some 15) (.pointer (some ⟨b, off + k * 5, none⟩)) rfl rfl (by kernel_rfl) (by kernel_rfl) (by kernel_rfl) rfl (fun W hW => by go_simp) trivial ?_
      simp only [FL]
      refine hr_take_w 6 (some 17) (.slice (some ⟨b, off, none⟩) n cap) rfl rfl (by kernel_rfl) (by kernel_rfl) (by kernel_rfl) rfl (fun W hW => by go_simp) trivial ?_
      simp only [FL]
      refine hr_take_w 7 (some 18) (.int .i64 (k : Nat)) rfl rfl (by kernel_rfl) (by kernel_rfl) (by kernel_rfl) rfl (fun W hW => by go_simp) trivial ?_
      simp only [FL]
      refine hr_take_w 8 (some 19) (.pointer (some ⟨b, off + k * 5, none⟩)) rfl rfl (by kernel_rfl) (by kernel_rfl) (by kernel_rfl) rfl (fun W hW => by go_simp) trivial ?_
      simp only [FL]
      refine hr_take_w 9 (some 20) (.pointer (some ⟨b, off + k * 5 + 1, none⟩)) rfl rfl (by kernel_rfl) (by kernel_rfl) (by kernel_rfl) rfl (fun W hW => by go_simp) trivial ?_
      simp only [FL]
      refine hr_take_w 11 (some 22) (.slice (some ⟨b, off, none⟩) n cap) rfl rfl (by kernel_rfl) (by kernel_rfl) (by kernel_rfl) rfl (fun W hW => by go_simp) trivial ?_
      simp only [FL]
      refine hr_take_w 12 (some 23) (.int .i64 (k : Nat)) rfl rfl (by kernel_rfl) (by kernel_rfl) (by kernel_rfl) rfl (fun W hW => by go_simp) trivial ?_
      simp only [FL]
      refine hr_take_w 13 (some 24) (.pointer (some ⟨b, off + k * 5, none⟩)) rfl rfl (by kernel_rfl) (by kernel_rfl) (by kernel_rfl) rfl (fun W hW => by go_simp) trivial ?_
      simp only [FL]
      refine hr_take_w 14 (some 25) (.pointer (some ⟨b, off + k * 5 + 2, none⟩)) rfl rfl (by kernel_rfl) (by kernel_rfl) (by kernel_rfl) rfl (fun W hW => by go_simp) trivial ?_
      simp only [FL]
      refine wpAnyH_effto 2 (fun zi zv zw => (zi = 5 → zv = .int .u64 y.cl) ∧ (zi = 10 → zv = .int .u64 y.st) ∧ (zi = 15 → zv = .agg #[.int .i64 y.e, .slice y.ao y.n y.cap, .bool y.m]) ∧ (zi = 16 → zv = .agg #[.int .u64 y.cl, .int .u64 y.st, .int .i64 y.e, .slice y.ao y.n y.cap, .bool y.m]) ∧ (zi = 17 → ∃ g1 : Nat, zv = .slice (some ⟨g1, 0, none⟩) 1 1 ∧ zw.heap[g1]? = some (.cells #[.int .u64 y.cl, .int .u64 y.st, .int .i64 y.e, .slice y.ao y.n y.cap, .bool y.m] 39))) [(5, 16), (10, 21), (15, 26), (16, 27), (17, 28)] 31 (by kernel_rfl) (by decide) (by decide) rfl ?_ (fun _ _ => trivial) ?_ ?_
      · intro zi v w w' h hb
        refine ⟨fun e => ?_, fun e => ?_, fun e => ?_, fun e => ?_, fun e => ?_⟩
        · have h := h.1 e
          exact h
        · have h := h.2.1 e
          exact h
        · have h := h.2.2.1 e
          exact h
        · have h := h.2.2.2.1 e
          exact h
        · have h := h.2.2.2.2 e
          obtain ⟨g1, h1, h2⟩ := h
          exact ⟨g1, h1, (hb.block g1 (Array.getElem?_eq_some_iff.1 h2).1).trans h2⟩
      · intro zp zhi o a w ho hs hb hdep
        have EB := E0.trans (hb.mono E0.size)
        simp only [List.mem_cons, List.not_mem_nil, or_false] at zhi
        rcases zhi with rfl | rfl | rfl | rfl | rfl
        · obtain rfl : _ = o := Option.some.inj (show some _ = some o from ho)
          have t15 : a.tmps[15]? = some (.pointer (some ⟨b, off + k * 5, none⟩)) := hs.get 15 (by kernel_rfl) rfl
          have X := (HX.out w EB).c0
          exact .inl ⟨.int .u64 y.cl, w, by go_simp, ⟨fun _ => rfl, fun e => absurd e (by decide), fun e => absurd e (by decide), fun e => absurd e (by decide), fun e => absurd e (by decide)⟩, Below.refl _ _⟩
        · obtain rfl : _ = o := Option.some.inj (show some _ = some o from ho)
          have t20 : a.tmps[20]? = some (.pointer (some ⟨b, off + k * 5 + 1, none⟩)) := hs.get 20 (by kernel_rfl) rfl
          have X := (HX.out w EB).c1
          exact .inl ⟨.int .u64 y.st, w, by go_simp, ⟨fun e => absurd e (by decide), fun _ => rfl, fun e => absurd e (by decide), fun e => absurd e (by decide), fun e => absurd e (by decide)⟩, Below.refl _ _⟩
        · obtain rfl : _ = o := Option.some.inj (show some _ = some o from ho)
          have t25 : a.tmps[25]? = some (.pointer (some ⟨b, off + k * 5 + 2, none⟩)) := hs.get 25 (by kernel_rfl) rfl
          have X2 := (HX.out w EB).c2
          have X3 := (HX.out w EB).c3
          have X4 := (HX.out w EB).c4
          exact .inl ⟨.agg #[.int .i64 y.e, .slice y.ao y.n y.cap, .bool y.m], w, by go_simp, ⟨fun e => absurd e (by decide), fun e => absurd e (by decide), fun _ => rfl, fun e => absurd e (by decide), fun e => absurd e (by decide)⟩, Below.refl _ _⟩
        · obtain rfl : _ = o := Option.some.inj (show some _ = some o from ho)
          obtain ⟨x16, t16, f16⟩ := (hdep 5 (by kernel_rfl)).at 16 (by kernel_rfl)
          replace f16 := f16.1 rfl
          obtain ⟨x21, t21, f21⟩ := (hdep 10 (by kernel_rfl)).at 21 (by kernel_rfl)
          replace f21 := f21.2.1 rfl
          obtain ⟨x26, t26, f26⟩ := (hdep 15 (by kernel_rfl)).at 26 (by kernel_rfl)
          replace f26 := f26.2.2.1 rfl
          subst f16
          subst f21
          subst f26
          exact .inl ⟨.agg #[.int .u64 y.cl, .int .u64 y.st, .int .i64 y.e, .slice y.ao y.n y.cap, .bool y.m], w, by go_simp, ⟨fun e => absurd e (by decide), fun e => absurd e (by decide), fun e => absurd e (by decide), fun _ => rfl, fun e => absurd e (by decide)⟩, Below.refl _ _⟩
        · obtain rfl : _ = o := Option.some.inj (show some _ = some o from ho)
          obtain ⟨x27, t27, f27⟩ := (hdep 16 (by kernel_rfl)).at 27 (by kernel_rfl)
          replace f27 := f27.2.2.2.1 rfl
          subst f27
          have CA : Below w.heap.size w (w.alloc (.cells #[.int .u64 y.cl, .int .u64 y.st, .int .i64 y.e, .slice y.ao y.n y.cap, .bool y.m] 39)) := (Below.refl _ _).alloc (Nat.le_refl _) _
          exact .inl ⟨_, _, by go_simp, ⟨fun e => absurd e (by decide), fun e => absurd e (by decide), fun e => absurd e (by decide), fun e => absurd e (by decide), fun _ => ⟨_, rfl, heap_alloc_new w _⟩⟩, CA⟩
      intro zf v1 hb hh
      have E1 := E0.trans (hb.mono E0.size)
      obtain e5 := (hh (5, 16) (by simp)).1 rfl
      obtain e10 := (hh (10, 21) (by simp)).2.1 rfl
      obtain e15 := (hh (15, 26) (by simp)).2.2.1 rfl
      obtain e16 := (hh (16, 27) (by simp)).2.2.2.1 rfl
      obtain ⟨g1, e17, G1⟩ := (hh (17, 28) (by simp)).2.2.2.2 rfl
      clear hh hb
      simp only [putL, List.foldl_cons, List.foldl_nil, e5, e10, e15, e16, e17]
      clear e5 e10 e15 e16 e17
      simp only [FL]
      have N1 := N.below E1
      have hsb := B.size
      have hsv := E1.size
      obtain ⟨v', W1, ha, N2, B2, ao2, n2, c2, rfl⟩ := N1.app lty2 23 (cp := 1) G1 (hok.below (B.trans (E1.mono (by omega)))) (fun x hx e => by
        have h1 := hok.blk_lt hx
        have h2 := (N.own.lt x e).1
        omega) (by omega) (by omega)
      refine hr_ex 18 (some 29) rfl rfl (by kernel_rfl) rfl (R := fun v w' => (.slice ao2 n2 c2) = v ∧ W1 = w') ⟨_, W1, by simp [execOp, Act.eval, resolve, invoke, builtin, ha], rfl, rfl⟩ ?_
      rintro v w' ⟨rfl, rfl⟩
      refine ⟨trivial, ?_⟩
      simp only [FL]
      refine hr_take_w 19 (some 3) ((.slice ao2 n2 c2)) rfl rfl (by kernel_rfl) (by kernel_rfl) (by kernel_rfl) rfl (fun W hW => by go_simp) trivial ?_
      simp only [FL]
      refine wpAnyH_done (by kernel_rfl) ?_ _
      refine NoPanic.normal ?_
      have B3 := (B.trans (E1.mono (by omega))).trans B2
      clear ha N1 G1 N B E1 B2 hsb hsv
      go_wp2
      go_roundw
      case rel =>
        refine ⟨k + 1, by omega, by go_num, ?_, B3⟩
        rw [HT.out]
        exact N2
      case measure => simp [intOf]; omega
    · have hge : (n : Int) ≤ (k : Int) := by omega
      rw [List.take_of_length_le (by omega)] at N
      obtain ⟨ao2, cap2, hs, LL, hlow⟩ := N.ll
      have HLW : Hid (∀ z, sblk ao2 ls.length z → D ≤ z) := fun z hz => Nat.le_trans hD (hlow z hz)
      rw [hs]
      clear N hv hlow
      go_wp2
      go_ret
      exact ⟨ao2, _, cap2, ls, rfl, LL, rfl, B, fun z hz => by
        rcases hz with hz | ⟨y, hy, hz⟩
        · exact HLW.out z hz
        · exact HF.out y hy z hz⟩
end Go.Proofs.YtlgafjalcpjelaaDoor

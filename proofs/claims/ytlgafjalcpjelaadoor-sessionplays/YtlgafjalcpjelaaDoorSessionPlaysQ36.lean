/-
  Texts in one: SeSame.
-/
import Derived.Test.YtlgafjalcpjelaaDoorSessionPlaysQFL
import Derived.Test.YtlgafjalcpjelaaDoorSessionPlaysQ14
import Derived.Test.YtlgafjalcpjelaaDoorSessionPlaysQ35
import Derived.Test.YtlgafjalcpjelaaDoorSessionPlaysQ7
namespace Go.Proofs.YtlgafjalcpjelaaDoor
open Go.RowKit
set_option maxRecDepth 100000 in
set_option maxHeartbeats 8000000 in
theorem rsame12 (w : World) (ao bo : Option Addr) (n cap cap2 : Nat) (l m : List LA) (L : LL12 w ao n cap l) (M : LL12 w bo n cap2 m) (he : l.map LA.en = m.map LA.en) (hn : n ≤ 100) (hq : ∀ y ∈ l, y.n ≤ 1000) :
    Calls Tryd.prog 14 #[.slice ao n cap, .slice bo n cap2] w fun e w' => e = .returned (.bool true) ∧ Below w.heap.size w w' := by
  have l1 := L.len
  have l2 := M.len
  have hni : (n : Int) ≤ 100 := by omega
  have HE : Hid (l.map LA.en = m.map LA.en) := he
  have HQ : Hid (∀ y ∈ l, y.n ≤ 1000) := hq
  clear he hq
  go_enter Tryd.func14, Tryd.ntmps14
  go_wp2_with fail
  go_loopw [5] (fun i wr => ∃ k : Nat, k ≤ n ∧ i = .int .i64 k ∧ Below w.heap.size w wr) (fun i _ => n - (intOf i).toNat)
  case atStart => exact ⟨0, Nat.zero_le _, rfl, Below.refl _ _⟩
  case round =>
    obtain ⟨k, hk, rfl, B⟩ := hrel
    by_cases hlt : k < n
    · have hki : (k : Int) < (n : Int) := by omega
      have k1 : k < l.length := by omega
      have k2 : k < m.length := by omega
      obtain ⟨b1, o1, rfl, h1⟩ := L.at (by omega)
      obtain ⟨b2, o2, rfl, h2⟩ := M.at (by omega)
      have X1 := (h1 k k1).below B
      have X2 := (h2 k k2).below B
      have ok1 := (L.ok _ (List.getElem_mem k1)).below B
      have ok2 := (M.ok _ (List.getElem_mem k2)).below B
      have hn1 := HQ.out _ (List.getElem_mem k1)
      have hen : (l[k]).en = (m[k]).en := by
        have e1 : (l.map LA.en)[k]? = some (l[k]).en := by simp [k1]
        have e2 : (m.map LA.en)[k]? = some (m[k]).en := by simp [k2]
        rw [HE.out] at e1
        exact Option.some.inj (e1.symm.trans e2)
      obtain ⟨x, hx⟩ : ∃ x, x = l[k] := ⟨_, rfl⟩
      obtain ⟨y, hy⟩ : ∃ y, y = m[k] := ⟨_, rfl⟩
      rw [← hx] at X1 ok1 hn1 hen
      rw [← hy] at X2 ok2 hen
      clear hx hy h1 h2
      unfold LA.en resR at hen
      simp only [EN.mk.injEq, RV.mk.injEq] at hen
      obtain ⟨c1, c2, c3, c4, c5⟩ := hen
      have c6 : y.n = x.n := by
        have := congrArg List.length c4
        simp only [List.length_map] at this
        rw [← ok1.cs.len, ← ok2.cs.len, this]
      have HC : Hid (∀ V, Below wr.heap.size wr V → Calls Tryd.prog 13 #[.agg #[.int .i64 x.e, .slice x.ao x.n x.cap, .bool x.m], .agg #[.int .i64 y.e, .slice y.ao y.n y.cap, .bool y.m]] V fun e w' => e = .returned (.bool true) ∧ Below V.heap.size V w') := fun V hV => by
        have a2 := ok2.cs.below hV
        rw [c6] at a2
        rw [← c3, ← c5, c6]
        exact rresults_any V x.e x.ao y.ao x.n x.cap y.cap x.cs y.cs x.m (ok1.cs.below hV) a2 c4 hn1
      have HI1 : Hid ((x.cl : Int) = (y.cl : Int)) := show (x.cl : Int) = (y.cl : Int) by rw [c1]
      have HI2 : Hid ((x.st : Int) = (y.st : Int)) := show (x.st : Int) = (y.st : Int) by rw [c2]
      clear c1 c2 c3 c4 c5 c6 ok1 ok2 hn1
      go_wp2_with fail
      have HS : Hid (∀ V, Below wr.heap.size wr V → V.cell? ⟨b1, o1 + k * 5, none⟩ = some (.int .u64 x.cl) ∧ V.cell? ⟨b1, o1 + k * 5 + 1, none⟩ = some (.int .u64 x.st) ∧ V.cell? ⟨b1, o1 + k * 5 + 2, none⟩ = some (.int .i64 x.e) ∧ V.cell? ⟨b1, o1 + k * 5 + 3, none⟩ = some (.slice x.ao x.n x.cap) ∧ V.cell? ⟨b1, o1 + k * 5 + 4, none⟩ = some (.bool x.m) ∧ V.cell? ⟨b2, o2 + k * 5, none⟩ = some (.int .u64 y.cl) ∧ V.cell? ⟨b2, o2 + k * 5 + 1, none⟩ = some (.int .u64 y.st) ∧ V.cell? ⟨b2, o2 + k * 5 + 2, none⟩ = some (.int .i64 y.e) ∧ V.cell? ⟨b2, o2 + k * 5 + 3, none⟩ = some (.slice y.ao y.n y.cap) ∧ V.cell? ⟨b2, o2 + k * 5 + 4, none⟩ = some (.bool y.m)) := fun V hV => ⟨(X1.below hV).c0, (X1.below hV).c1, (X1.below hV).c2, (X1.below hV).c3, (X1.below hV).c4, (X2.below hV).c0, (X2.below hV).c1, (X2.below hV).c2, (X2.below hV).c3, (X2.below hV).c4⟩
      have E0 : Below wr.heap.size wr wr.drew := (Below.refl _ _).drew
      refine wp_region_noPanic ?_
      refine wp_region_held_drew (S := fun V => V.cell? ⟨b1, o1 + k * 5, none⟩ = some (.int .u64 x.cl) ∧ V.cell? ⟨b1, o1 + k * 5 + 1, none⟩ = some (.int .u64 x.st) ∧ V.cell? ⟨b1, o1 + k * 5 + 2, none⟩ = some (.int .i64 x.e) ∧ V.cell? ⟨b1, o1 + k * 5 + 3, none⟩ = some (.slice x.ao x.n x.cap) ∧ V.cell? ⟨b1, o1 + k * 5 + 4, none⟩ = some (.bool x.m) ∧ V.cell? ⟨b2, o2 + k * 5, none⟩ = some (.int .u64 y.cl) ∧ V.cell? ⟨b2, o2 + k * 5 + 1, none⟩ = some (.int .u64 y.st) ∧ V.cell? ⟨b2, o2 + k * 5 + 2, none⟩ = some (.int .i64 y.e) ∧ V.cell? ⟨b2, o2 + k * 5 + 3, none⟩ = some (.slice y.ao y.n y.cap) ∧ V.cell? ⟨b2, o2 + k * 5 + 4, none⟩ = some (.bool y.m)) (by kernel_rfl) (HS.out _ E0) (fun H0 => ?_)
      obtain ⟨v0, hv0⟩ : ∃ v, v = wr.drew := ⟨_, rfl⟩
      rw [← hv0] at H0 E0 ⊢
      clear hv0
      refine hr_take_w 0 (some 17) (.slice (some ⟨b1, o1, none⟩) n cap) rfl rfl (by kernel_rfl) (by kernel_rfl) (by kernel_rfl) rfl (fun W hW => by obtain ⟨h0, h1, h2, h3, h4, h5, h6, h7, h8, h9⟩ := hW; go_simp) H0 ?_
      simp only [FL]
      refine hr_take_w 1 (some 18) (.int .i64 (k : Nat)) rfl rfl (by kernel_rfl) (by kernel_rfl) (by kernel_rfl) rfl (fun W hW => by obtain ⟨h0, h1, h2, h3, h4, h5, h6, h7, h8, h9⟩ := hW; go_simp) H0 ?_
      simp only [FL]
      refine hr_take_w 2 (some 19) (.pointer (some ⟨b1, o1 + k * 5, none⟩)) rfl rfl (by kernel_rfl) (by kernel_rfl) (by kernel_rfl) rfl (fun W hW => by obtain ⟨h0, h1, h2, h3, h4, h5, h6, h7, h8, h9⟩ := hW; go_simp) H0 ?_
      simp only [FL]
      refine hr_take_w 3 (some 20) (.pointer (some ⟨b1, o1 + k * 5, none⟩)) rfl rfl (by kernel_rfl) (by kernel_rfl) (by kernel_rfl) rfl (fun W hW => by obtain ⟨h0, h1, h2, h3, h4, h5, h6, h7, h8, h9⟩ := hW; go_simp) H0 ?_
      simp only [FL]
      refine hr_take_w 4 (some 21) (.int .u64 x.cl) rfl rfl (by kernel_rfl) (by kernel_rfl) (by kernel_rfl) rfl (fun W hW => by obtain ⟨h0, h1, h2, h3, h4, h5, h6, h7, h8, h9⟩ := hW; go_simp) H0 ?_
      simp only [FL]
      refine hr_take_w 5 (some 22) (.slice (some ⟨b2, o2, none⟩) n cap2) rfl rfl (by kernel_rfl) (by kernel_rfl) (by kernel_rfl) rfl (fun W hW => by obtain ⟨h0, h1, h2, h3, h4, h5, h6, h7, h8, h9⟩ := hW; go_simp) H0 ?_
      simp only [FL]
      refine hr_take_w 6 (some 23) (.int .i64 (k : Nat)) rfl rfl (by kernel_rfl) (by kernel_rfl) (by kernel_rfl) rfl (fun W hW => by obtain ⟨h0, h1, h2, h3, h4, h5, h6, h7, h8, h9⟩ := hW; go_simp) H0 ?_
      simp only [FL]
      refine hr_take_w 7 (some 24) (.pointer (some ⟨b2, o2 + k * 5, none⟩)) rfl rfl (by kernel_rfl) (by kernel_rfl) (by kernel_rfl) rfl (fun W hW => by obtain ⟨h0, h1, h2, h3, h4, h5, h6, h7, h8, h9⟩ := hW; go_simp) H0 ?_
      simp only [FL]
      refine hr_take_w 8 (some 25) (.pointer (some ⟨b2, o2 + k * 5, none⟩)) rfl rfl (by kernel_rfl) (by kernel_rfl) (by kernel_rfl) rfl (fun W hW => by obtain ⟨h0, h1, h2, h3, h4, h5, h6, h7, h8, h9⟩ := hW; go_simp) H0 ?_
      simp only [FL]
      refine hr_take_w 9 (some 26) (.int .u64 y.cl) rfl rfl (by kernel_rfl) (by kernel_rfl) (by kernel_rfl) rfl (fun W hW => by obtain ⟨h0, h1, h2, h3, h4, h5, h6, h7, h8, h9⟩ := hW; go_simp) H0 ?_
      simp only [FL]
      refine hr_take_w 10 (some 27) (.bool false) rfl rfl (by kernel_rfl) (by kernel_rfl) (by kernel_rfl) rfl (fun W hW => by obtain ⟨h0, h1, h2, h3, h4, h5, h6, h7, h8, h9⟩ := hW; go_simp; exact HI1.out) H0 ?_
      simp only [FL]
      refine hr_take_w 11 (some 28) (.bool false) rfl rfl (by kernel_rfl) (by kernel_rfl) (by kernel_rfl) rfl (fun W hW => by obtain ⟨h0, h1, h2, h3, h4, h5, h6, h7, h8, h9⟩ := hW; go_simp) H0 ?_
      simp only [FL]
      refine hr_take_w 12 (some 29) (.slice (some ⟨b1, o1, none⟩) n cap) rfl rfl (by kernel_rfl) (by kernel_rfl) (by kernel_rfl) rfl (fun W hW => by obtain ⟨h0, h1, h2, h3, h4, h5, h6, h7, h8, h9⟩ := hW; go_simp) H0 ?_
      simp only [FL]
      refine hr_take_w 13 (some 30) (.int .i64 (k : Nat)) rfl rfl (by kernel_rfl) (by kernel_rfl) (by kernel_rfl) rfl (fun W hW => by obtain ⟨h0, h1, h2, h3, h4, h5, h6, h7, h8, h9⟩ := hW; go_simp) H0 ?_
      simp only [FL]
      refine hr_take_w 14 (some 31) (.pointer (some ⟨b1, o1 + k * 5, none⟩)) rfl rfl (by kernel_rfl) (by kernel_rfl) (by kernel_rfl) rfl (fun W hW => by obtain ⟨h0, h1, h2, h3, h4, h5, h6, h7, h8, h9⟩ := hW; go_simp) H0 ?_
      simp only [FL]
      refine hr_take_w 15 (some 32) (.pointer (some ⟨b1, o1 + k * 5 + 1, none⟩)) rfl rfl (by kernel_rfl) (by kernel_rfl) (by kernel_rfl) rfl (fun W hW => by obtain ⟨h0, h1, h2, h3, h4, h5, h6, h7, h8, h9⟩ := hW; go_simp) H0 ?_
      simp only [FL]
      refine hr_take_w 16 (some 33) (.int .u64 x.st) rfl rfl (by kernel_rfl) (by kernel_rfl) (by kernel_rfl) rfl (fun W hW => by obtain ⟨h0, h1, h2, h3, h4, h5, h6, h7, h8, h9⟩ := hW; go_simp) H0 ?_
      simp only [FL]
      refine hr_take_w 17 (some 34) (.slice (some ⟨b2, o2, none⟩) n cap2) rfl rfl (by kernel_rfl) (by kernel_rfl) (by kernel_rfl) rfl (fun W hW => by obtain ⟨h0, h1, h2, h3, h4, h5, h6, h7, h8, h9⟩ := hW; go_simp) H0 ?_
      simp only [FL]
      refine hr_take_w 18 (some 35) (.int .i64 (k : Nat)) rfl rfl (by kernel_rfl) (by kernel_rfl) (by kernel_rfl) rfl (fun W hW => by obtain ⟨h0, h1, h2, h3, h4, h5, h6, h7, h8, h9⟩ := hW; go_simp) H0 ?_
      simp only [FL]
      refine hr_take_w 19 (some 36) (.pointer (some ⟨b2, o2 + k * 5, none⟩)) rfl rfl (by kernel_rfl) (by kernel_rfl) (by kernel_rfl) rfl (fun W hW => by obtain ⟨h0, h1, h2, h3, h4, h5, h6, h7, h8, h9⟩ := hW; go_simp) H0 ?_
      simp only [FL]
      refine hr_take_w 20 (some 37) (.pointer (some ⟨b2, o2 + k * 5 + 1, none⟩)) rfl rfl (by kernel_rfl) (by kernel_rfl) (by kernel_rfl) rfl (fun W hW => by obtain ⟨h0, h1, h2, h3, h4, h5, h6, h7, h8, h9⟩ := hW; go_simp) H0 ?_
      simp only [FL]
      refine hr_take_w 21 (some 38) (.int .u64 y.st) rfl rfl (by kernel_rfl) (by kernel_rfl) (by kernel_rfl) rfl (fun W hW => by obtain ⟨h0, h1, h2, h3, h4, h5, h6, h7, h8, h9⟩ := hW; go_simp) H0 ?_
      simp only [FL]
      refine hr_take_w 22 (some 39) (.bool false) rfl rfl (by kernel_rfl) (by kernel_rfl) (by kernel_rfl) rfl (fun W hW => by obtain ⟨h0, h1, h2, h3, h4, h5, h6, h7, h8, h9⟩ := hW; go_simp; exact HI2.out) H0 ?_
      simp only [FL]
      refine hr_take_w 23 (some 40) (.bool false) rfl rfl (by kernel_rfl) (by kernel_rfl) (by kernel_rfl) rfl (fun W hW => by obtain ⟨h0, h1, h2, h3, h4, h5, h6, h7, h8, h9⟩ := hW; go_simp) H0 ?_
      simp only [FL]
      refine hr_take_w 24 (some 41) (.bool false) rfl rfl (by kernel_rfl) (by kernel_rfl) (by kernel_rfl) rfl (fun W hW => by obtain ⟨h0, h1, h2, h3, h4, h5, h6, h7, h8, h9⟩ := hW; go_simp) H0 ?_
      simp only [FL]
      refine hr_take_w 25 (some 42) (.slice (some ⟨b1, o1, none⟩) n cap) rfl rfl (by kernel_rfl) (by kernel_rfl) (by kernel_rfl) rfl (fun W hW => by obtain ⟨h0, h1, h2, h3, h4, h5, h6, h7, h8, h9⟩ := hW; go_simp) H0 ?_
      simp only [FL]
      refine hr_take_w 26 (some 43) (.int .i64 (k : Nat)) rfl rfl (by kernel_rfl) (by kernel_rfl) (by kernel_rfl) rfl (fun W hW => by obtain ⟨h0, h1, h2, h3, h4, h5, h6, h7, h8, h9⟩ := hW; go_simp) H0 ?_
      simp only [FL]
      refine hr_take_w 27 (some 44) (.pointer (some ⟨b1, o1 + k * 5, none⟩)) rfl rfl (by kernel_rfl) (by kernel_rfl) (by kernel_rfl) rfl (fun W hW => by obtain ⟨h0, h1, h2, h3, h4, h5, h6, h7, h8, h9⟩ := hW; go_simp) H0 ?_
      simp only [FL]
      refine hr_take_w 28 (some 45) (.pointer (some ⟨b1, o1 + k * 5 + 2, none⟩)) rfl rfl (by kernel_rfl) (by kernel_rfl) (by kernel_rfl) rfl (fun W hW => by obtain ⟨h0, h1, h2, h3, h4, h5, h6, h7, h8, h9⟩ := hW; go_simp) H0 ?_
      simp only [FL]
      refine hr_take_w 29 (some 46) (.agg #[.int .i64 x.e, .slice x.ao x.n x.cap, .bool x.m]) rfl rfl (by kernel_rfl) (by kernel_rfl) (by kernel_rfl) rfl (fun W hW => by obtain ⟨h0, h1, h2, h3, h4, h5, h6, h7, h8, h9⟩ := hW; go_simp) H0 ?_
      simp only [FL]
      refine hr_take_w 30 (some 47) (.slice (some ⟨b2, o2, none⟩) n cap2) rfl rfl (by kernel_rfl) (by kernel_rfl) (by kernel_rfl) rfl (fun W hW => by obtain ⟨h0, h1, h2, h3, h4, h5, h6, h7, h8, h9⟩ := hW; go_simp) H0 ?_
      simp only [FL]
      refine hr_take_w 31 (some 48) (.int .i64 (k : Nat)) rfl rfl (by kernel_rfl) (by kernel_rfl) (by kernel_rfl) rfl (fun W hW => by obtain ⟨h0, h1, h2, h3, h4, h5, h6, h7, h8, h9⟩ := hW; go_simp) H0 ?_
      simp only [FL]
      refine hr_take_w 32 (some 49) (.pointer (some ⟨b2, o2 + k * 5, none⟩)) rfl rfl (by kernel_rfl) (by kernel_rfl) (by kernel_rfl) rfl (fun W hW => by obtain ⟨h0, h1, h2, h3, h4, h5, h6, h7, h8, h9⟩ := hW; go_simp) H0 ?_
      simp only [FL]
      refine hr_take_w 33 (some 50) (.pointer (some ⟨b2, o2 + k * 5 + 2, none⟩)) rfl rfl (by kernel_rfl) (by kernel_rfl) (by kernel_rfl) rfl (fun W hW => by obtain ⟨h0, h1, h2, h3, h4, h5, h6, h7, h8, h9⟩ := hW; go_simp) H0 ?_
      simp only [FL]
      refine hr_take_w 34 (some 51) (.agg #[.int .i64 y.e, .slice y.ao y.n y.cap, .bool y.m]) rfl rfl (by kernel_rfl) (by kernel_rfl) (by kernel_rfl) rfl (fun W hW => by obtain ⟨h0, h1, h2, h3, h4, h5, h6, h7, h8, h9⟩ := hW; go_simp) H0 ?_
      simp only [FL]
      refine hr_call_w 35 (some 52) 13 #[.agg #[.int .i64 x.e, .slice x.ao x.n x.cap, .bool x.m], .agg #[.int .i64 y.e, .slice y.ao y.n y.cap, .bool y.m]] rfl rfl (by kernel_rfl) rfl (by go_simp) (fun v w' => v = .bool true ∧ Below v0.heap.size v0 w') ((HC.out v0 E0).mono (by
        rintro e w' ⟨rfl, C⟩
        exact ⟨_, rfl, rfl, C⟩)) ?_
      rintro v v1 ⟨rfl, C0⟩
      have E1 := E0.trans (C0.mono E0.size)
      have H1 := HS.out v1 E1
      refine ⟨H1, ?_⟩
      simp only [FL]
      refine hr_take_w 36 (some 53) (.bool false) rfl rfl (by kernel_rfl) (by kernel_rfl) (by kernel_rfl) rfl (fun W hW => by obtain ⟨h0, h1, h2, h3, h4, h5, h6, h7, h8, h9⟩ := hW; go_simp) H1 ?_
      simp only [FL]
      refine hr_take_w 37 (some 54) (.bool false) rfl rfl (by kernel_rfl) (by kernel_rfl) (by kernel_rfl) rfl (fun W hW => by obtain ⟨h0, h1, h2, h3, h4, h5, h6, h7, h8, h9⟩ := hW; go_simp) H1 ?_
      simp only [FL]
      refine wpAnyH_done (by kernel_rfl) ?_ _
      refine NoPanic.normal ?_
      have B3 := B.trans (E1.mono B.size)
      clear HS H0 H1 E0 E1 C0 X1 X2 B HI1 HI2
      go_wp2
      go_roundw
      case rel => exact ⟨k + 1, by omega, by go_num, B3⟩
      case measure => simp [intOf]; omega
    · have hge : (n : Int) ≤ (k : Int) := by omega
      go_wp2
      go_ret
      exact ⟨rfl, B⟩
end Go.Proofs.YtlgafjalcpjelaaDoor

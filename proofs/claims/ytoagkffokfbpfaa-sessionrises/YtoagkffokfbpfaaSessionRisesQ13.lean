/-
  Texts in one: SeSame, SeClone, SeNew, SeAlive.
-/
import Derived.Test.YtoagkffokfbpfaaSessionRisesQFL
import Derived.Test.YtoagkffokfbpfaaSessionRisesQ11
import Derived.Test.YtoagkffokfbpfaaSessionRisesQ12
import Derived.Test.YtoagkffokfbpfaaSessionRisesQ3
import Derived.Lib.SliceRun
import Derived.Test.YtoagkffokfbpfaaSessionRisesQ9
namespace Go.Proofs.Ytoagkffokfbpfaa
open Go.RowKit
set_option maxRecDepth 100000 in
set_option maxHeartbeats 8000000 in
theorem rsame12 (w : World) (ao bo : Option Addr) (n cap cap2 : Nat) (l m : List LA) (L : LL12 w ao n cap l) (M : LL12 w bo n cap2 m) (he : l.map LA.en = m.map LA.en) (hn : n ≤ 100) (hq : ∀ y ∈ l, y.n ≤ 1000) :
    Calls Try.prog 8 #[.slice ao n cap, .slice bo n cap2] w fun e w' => e = .returned (.bool true) ∧ Below w.heap.size w w' := by
  have l1 := L.len
  have l2 := M.len
  have hni : (n : Int) ≤ 100 := by omega
  have HE : Hid (l.map LA.en = m.map LA.en) := he
  have HQ : Hid (∀ y ∈ l, y.n ≤ 1000) := hq
  clear he hq
  go_enter Try.func8, Try.ntmps8
  go_wp2_with fail
  go_loopw [5] (fun i wr => ∃ k : Nat, k ≤ n ∧ i = .int .i64 k ∧ Below w.heap.size w wr) (fun i _ => n - (intOf i).toNat)
  case atStart => exact ⟨0, Nat.zero_le _, rfl, Below.refl _ _⟩
  case round =>
    obtain ⟨k, hk, rfl, B⟩ := hrel
    by_cases hlt : k < n
    · have hki : (k : Int) < (n : Int) := by omega
      have k1 : k < l.length := by omega
      have k2 : k < m.length := by omega
      obtain ⟨b1, o1, rfl, h1⟩ := L.at (by omega)
      obtain ⟨b2, o2, rfl, h2⟩ := M.at (by omega)
      have X1 := (h1 k k1).below B
      have X2 := (h2 k k2).below B
      have ok1 := (L.ok _ (List.getElem_mem k1)).below B
      have ok2 := (M.ok _ (List.getElem_mem k2)).below B
      have hn1 := HQ.out _ (List.getElem_mem k1)
      have hen : (l[k]).en = (m[k]).en := by
        have e1 : (l.map LA.en)[k]? = some (l[k]).en := by simp [k1]
        have e2 : (m.map LA.en)[k]? = some (m[k]).en := by simp [k2]
        rw [HE.out] at e1
        exact Option.some.inj (e1.symm.trans e2)
      obtain ⟨x, hx⟩ : ∃ x, x = l[k] := ⟨_, rfl⟩
      obtain ⟨y, hy⟩ : ∃ y, y = m[k] := ⟨_, rfl⟩
      rw [← hx] at X1 ok1 hn1 hen
      rw [← hy] at X2 ok2 hen
      clear hx hy h1 h2
      unfold LA.en resR at hen
      simp only [EN.mk.injEq, RV.mk.injEq] at hen
      obtain ⟨c1, c2, c3, c4, c5⟩ := hen
      have c6 : y.n = x.n := by
        have := congrArg List.length c4
        simp only [List.length_map] at this
        rw [← ok1.cs.len, ← ok2.cs.len, this]
      have HC : Hid (∀ V, Below wr.heap.size wr V → Calls Try.prog 16 #[.agg #[.int .i64 x.e, .slice x.ao x.n x.cap, .bool x.m], .agg #[.int .i64 y.e, .slice y.ao y.n y.cap, .bool y.m]] V fun e w' => e = .returned (.bool true) ∧ Below V.heap.size V w') := fun V hV => by
        have a2 := ok2.cs.below hV
        rw [c6] at a2
        rw [← c3, ← c5, c6]
        exact rresults_any V x.e x.ao y.ao x.n x.cap y.cap x.cs y.cs x.m (ok1.cs.below hV) a2 c4 hn1
      have HI1 : Hid ((x.cl : Int) = (y.cl : Int)) := show (x.cl : Int) = (y.cl : Int) by rw [c1]
      have HI2 : Hid ((x.st : Int) = (y.st : Int)) := show (x.st : Int) = (y.st : Int) by rw [c2]
      clear c1 c2 c3 c4 c5 c6 ok1 ok2 hn1
      go_wp2_with fail
      have HS : Hid (∀ V, Below wr.heap.size wr V → V.cell? ⟨b1, o1 + k * 5, none⟩ = some (.int .u64 x.cl) ∧ V.cell? ⟨b1, o1 + k * 5 + 1, none⟩ = some (.int .u64 x.st) ∧ V.cell? ⟨b1, o1 + k * 5 + 2, none⟩ = some (.int .i64 x.e) ∧ V.cell? ⟨b1, o1 + k * 5 + 3, none⟩ = some (.slice x.ao x.n x.cap) ∧ V.cell? ⟨b1, o1 + k * 5 + 4, none⟩ = some (.bool x.m) ∧ V.cell? ⟨b2, o2 + k * 5, none⟩ = some (.int .u64 y.cl) ∧ V.cell? ⟨b2, o2 + k * 5 + 1, none⟩ = some (.int .u64 y.st) ∧ V.cell? ⟨b2, o2 + k * 5 + 2, none⟩ = some (.int .i64 y.e) ∧ V.cell? ⟨b2, o2 + k * 5 + 3, none⟩ = some (.slice y.ao y.n y.cap) ∧ V.cell? ⟨b2, o2 + k * 5 + 4, none⟩ = some (.bool y.m)) := fun V hV => ⟨(X1.below hV).c0, (X1.below hV).c1, (X1.below hV).c2, (X1.below hV).c3, (X1.below hV).c4, (X2.below hV).c0, (X2.below hV).c1, (X2.below hV).c2, (X2.below hV).c3, (X2.below hV).c4⟩
      have E0 : Below wr.heap.size wr wr.drew := (Below.refl _ _).drew
      refine wp_region_noPanic ?_
      refine wp_region_held_drew (S := fun V => V.cell? ⟨b1, o1 + k * 5, none⟩ = some (.int .u64 x.cl) ∧ V.cell? ⟨b1, o1 + k * 5 + 1, none⟩ = some (.int .u64 x.st) ∧ V.cell? ⟨b1, o1 + k * 5 + 2, none⟩ = some (.int .i64 x.e) ∧ V.cell? ⟨b1, o1 + k * 5 + 3, none⟩ = some (.slice x.ao x.n x.cap) ∧ V.cell? ⟨b1, o1 + k * 5 + 4, none⟩ = some (.bool x.m) ∧ V.cell? ⟨b2, o2 + k * 5, none⟩ = some (.int .u64 y.cl) ∧ V.cell? ⟨b2, o2 + k * 5 + 1, none⟩ = some (.int .u64 y.st) ∧ V.cell? ⟨b2, o2 + k * 5 + 2, none⟩ = some (.int .i64 y.e) ∧ V.cell? ⟨b2, o2 + k * 5 + 3, none⟩ = some (.slice y.ao y.n y.cap) ∧ V.cell? ⟨b2, o2 + k * 5 + 4, none⟩ = some (.bool y.m)) (by kernel_rfl) (HS.out _ E0) (fun H0 => ?_)
      obtain ⟨v0, hv0⟩ : ∃ v, v = wr.drew := ⟨_, rfl⟩
      rw [← hv0] at H0 E0 ⊢
      clear hv0
      refine hr_take_w 0 (some 17) (.slice (some ⟨b1, o1, none⟩) n cap) rfl rfl (by kernel_rfl) (by kernel_rfl) (by kernel_rfl) rfl (fun W hW => by obtain ⟨h0, h1, h2, h3, h4, h5, h6, h7, h8, h9⟩ := hW; go_simp) H0 ?_
      simp only [FL]
      refine hr_take_w 1 (some 18) (.int .i64 (k : Nat)) rfl rfl (by kernel_rfl) (by kernel_rfl) (by kernel_rfl) rfl (fun W hW => by obtain ⟨h0, h1, h2, h3, h4, h5, h6, h7, h8, h9⟩ := hW; go_simp) H0 ?_
      simp only [FL]
      refine hr_take_w 2 (some 19) (.pointer (some ⟨b1, o1 + k * 5, none⟩)) rfl rfl (by kernel_rfl) (by kernel_rfl) (by kernel_rfl) rfl (fun W hW => by obtain ⟨h0, h1, h2, h3, h4, h5, h6, h7, h8, h9⟩ := hW; go_simp) H0 ?_
      simp only [FL]
      refine hr_take_w 3 (some 20) (.pointer (some ⟨b1, o1 + k * 5, none⟩)) rfl rfl (by kernel_rfl) (by kernel_rfl) (by kernel_rfl) rfl (fun W hW => by obtain ⟨h0, h1, h2, h3, h4, h5, h6, h7, h8, h9⟩ := hW; go_simp) H0 ?_
      simp only [FL]
      refine hr_take_w 4 (some 21) (.int .u64 x.cl) rfl rfl (by kernel_rfl) (by kernel_rfl) (by kernel_rfl) rfl (fun W hW => by obtain ⟨h0, h1, h2, h3, h4, h5, h6, h7, h8, h9⟩ := hW; go_simp) H0 ?_
      simp only [FL]
      refine hr_take_w 5 (some 22) (.slice (some ⟨b2, o2, none⟩) n cap2) rfl rfl (by kernel_rfl) (by kernel_rfl) (by kernel_rfl) rfl (fun W hW => by obtain ⟨h0, h1, h2, h3, h4, h5, h6, h7, h8, h9⟩ := hW; go_simp) H0 ?_
      simp only [FL]
      refine hr_take_w 6 (some 23) (.int .i64 (k : Nat)) rfl rfl (by kernel_rfl) (by kernel_rfl) (by kernel_rfl) rfl (fun W hW => by obtain ⟨h0, h1, h2, h3, h4, h5, h6, h7, h8, h9⟩ := hW; go_simp) H0 ?_
      simp only [FL]
      refine hr_take_w 7 (some 24) (.pointer (some ⟨b2, o2 + k * 5, none⟩)) rfl rfl (by kernel_rfl) (by kernel_rfl) (by kernel_rfl) rfl (fun W hW => by obtain ⟨h0, h1, h2, h3, h4, h5, h6, h7, h8, h9⟩ := hW; go_simp) H0 ?_
      simp only [FL]
      refine hr_take_w 8 (some 25) (.pointer (some ⟨b2, o2 + k * 5, none⟩)) rfl rfl (by kernel_rfl) (by kernel_rfl) (by kernel_rfl) rfl (fun W hW => by obtain ⟨h0, h1, h2, h3, h4, h5, h6, h7, h8, h9⟩ := hW; go_simp) H0 ?_
      simp only [FL]
      refine hr_take_w 9 (some 26) (.int .u64 y.cl) rfl rfl (by kernel_rfl) (by kernel_rfl) (by kernel_rfl) rfl (fun W hW => by obtain ⟨h0, h1, h2, h3, h4, h5, h6, h7, h8, h9⟩ := hW; go_simp) H0 ?_
      simp only [FL]
      refine hr_take_w 10 (some 27) (.bool false) rfl rfl (by kernel_rfl) (by kernel_rfl) (by kernel_rfl) rfl (fun W hW => by obtain ⟨h0, h1, h2, h3, h4, h5, h6, h7, h8, h9⟩ := hW; go_simp; exact HI1.out) H0 ?_
      simp only [FL]
      refine hr_take_w 11 (some 28) (.bool false) rfl rfl (by kernel_rfl) (by kernel_rfl) (by kernel_rfl) rfl (fun W hW => by obtain ⟨h0, h1, h2, h3, h4, h5, h6, h7, h8, h9⟩ := hW; go_simp) H0 ?_
      simp only [FL]
      refine hr_take_w 12 (some 29) (.slice (some ⟨b1, o1, none⟩) n cap) rfl rfl (by kernel_rfl) (by kernel_rfl) (by kernel_rfl) rfl (fun W hW => by obtain ⟨h0, h1, h2, h3, h4, h5, h6, h7, h8, h9⟩ := hW; go_simp) H0 ?_
      simp only [FL]
      refine hr_take_w 13 (some 30) (.int .i64 (k : Nat)) rfl rfl (by kernel_rfl) (by kernel_rfl) (by kernel_rfl) rfl (fun W hW => by obtain ⟨h0, h1, h2, h3, h4, h5, h6, h7, h8, h9⟩ := hW; go_simp) H0 ?_
      simp only [FL]
      refine hr_take_w 14 (some 31) (.pointer (some ⟨b1, o1 + k * 5, none⟩)) rfl rfl (by kernel_rfl) (by kernel_rfl) (by kernel_rfl) rfl (fun W hW => by obtain ⟨h0, h1, h2, h3, h4, h5, h6, h7, h8, h9⟩ := hW; go_simp) H0 ?_
      simp only [FL]
      refine hr_take_w 15 (some 32) (.pointer (some ⟨b1, o1 + k * 5 + 1, none⟩)) rfl rfl (by kernel_rfl) (by kernel_rfl) (by kernel_rfl) rfl (fun W hW => by obtain ⟨h0, h1, h2, h3, h4, h5, h6, h7, h8, h9⟩ := hW; go_simp) H0 ?_
      simp only [FL]
      refine hr_take_w 16 (some 33) (.int .u64 x.st) rfl rfl (by kernel_rfl) (by kernel_rfl) (by kernel_rfl) rfl (fun W hW => by obtain ⟨h0, h1, h2, h3, h4, h5, h6, h7, h8, h9⟩ := hW; go_simp) H0 ?_
      simp only [FL]
      refine hr_take_w 17 (some 34) (.slice (some ⟨b2, o2, none⟩) n cap2) rfl rfl (by kernel_rfl) (by kernel_rfl) (by kernel_rfl) rfl (fun W hW => by obtain ⟨h0, h1, h2, h3, h4, h5, h6, h7, h8, h9⟩ := hW; go_simp) H0 ?_
      simp only [FL]
      refine hr_take_w 18 (some 35) (.int .i64 (k : Nat)) rfl rfl (by kernel_rfl) (by kernel_rfl) (by kernel_rfl) rfl (fun W hW => by obtain ⟨h0, h1, h2, h3, h4, h5, h6, h7, h8, h9⟩ := hW; go_simp) H0 ?_
      simp only [FL]
      refine hr_take_w 19 (some 36) (.pointer (some ⟨b2, o2 + k * 5, none⟩)) rfl rfl (by kernel_rfl) (by kernel_rfl) (by kernel_rfl) rfl (fun W hW => by obtain ⟨h0, h1, h2, h3, h4, h5, h6, h7, h8, h9⟩ := hW; go_simp) H0 ?_
      simp only [FL]
      refine hr_take_w 20 (some 37) (.pointer (some ⟨b2, o2 + k * 5 + 1, none⟩)) rfl rfl (by kernel_rfl) (by kernel_rfl) (by kernel_rfl) rfl (fun W hW => by obtain ⟨h0, h1, h2, h3, h4, h5, h6, h7, h8, h9⟩ := hW; go_simp) H0 ?_
      simp only [FL]
      refine hr_take_w 21 (some 38) (.int .u64 y.st) rfl rfl (by kernel_rfl) (by kernel_rfl) (by kernel_rfl) rfl (fun W hW => by obtain ⟨h0, h1, h2, h3, h4, h5, h6, h7, h8, h9⟩ := hW; go_simp) H0 ?_
      simp only [FL]
      refine hr_take_w 22 (some 39) (.bool false) rfl rfl (by kernel_rfl) (by kernel_rfl) (by kernel_rfl) rfl (fun W hW => by obtain ⟨h0, h1, h2, h3, h4, h5, h6, h7, h8, h9⟩ := hW; go_simp; exact HI2.out) H0 ?_
      simp only [FL]
      refine hr_take_w 23 (some 40) (.bool false) rfl rfl (by kernel_rfl) (by kernel_rfl) (by kernel_rfl) rfl (fun W hW => by obtain ⟨h0, h1, h2, h3, h4, h5, h6, h7, h8, h9⟩ := hW; go_simp) H0 ?_
      simp only [FL]
      refine hr_take_w 24 (some 41) (.bool false) rfl rfl (by kernel_rfl) (by kernel_rfl) (by kernel_rfl) rfl (fun W hW => by obtain ⟨h0, h1, h2, h3, h4, h5, h6, h7, h8, h9⟩ := hW; go_simp) H0 ?_
      simp only [FL]
      refine hr_take_w 25 (some 42) (.slice (some ⟨b1, o1, none⟩) n cap) rfl rfl (by kernel_rfl) (by kernel_rfl) (by kernel_rfl) rfl (fun W hW => by obtain ⟨h0, h1, h2, h3, h4, h5, h6, h7, h8, h9⟩ := hW; go_simp) H0 ?_
      simp only [FL]
      refine hr_take_w 26 (some 43) (.int .i64 (k : Nat)) rfl rfl (by kernel_rfl) (by kernel_rfl) (by kernel_rfl) rfl (fun W hW => by obtain ⟨h0, h1, h2, h3, h4, h5, h6, h7, h8, h9⟩ := hW; go_simp) H0 ?_
      simp only [FL]
      refine hr_take_w 27 (some 44) (.pointer (some ⟨b1, o1 + k * 5, none⟩)) rfl rfl (by kernel_rfl) (by kernel_rfl) (by kernel_rfl) rfl (fun W hW => by obtain ⟨h0, h1, h2, h3, h4, h5, h6, h7, h8, h9⟩ := hW; go_simp) H0 ?_
      simp only [FL]
      refine hr_take_w 28 (some 45) (.pointer (some ⟨b1, o1 + k * 5 + 2, none⟩)) rfl rfl (by kernel_rfl) (by kernel_rfl) (by kernel_rfl) rfl (fun W hW => by obtain ⟨h0, h1, h2, h3, h4, h5, h6, h7, h8, h9⟩ := hW; go_simp) H0 ?_
      simp only [FL]
      refine hr_take_w 29 (some 46) (.agg #[.int .i64 x.e, .slice x.ao x.n x.cap, .bool x.m]) rfl rfl (by kernel_rfl) (by kernel_rfl) (by kernel_rfl) rfl (fun W hW => by obtain ⟨h0, h1, h2, h3, h4, h5, h6, h7, h8, h9⟩ := hW; go_simp) H0 ?_
      simp only [FL]
      refine hr_take_w 30 (some 47) (.slice (some ⟨b2, o2, none⟩) n cap2) rfl rfl (by kernel_rfl) (by kernel_rfl) (by kernel_rfl) rfl (fun W hW => by obtain ⟨h0, h1, h2, h3, h4, h5, h6, h7, h8, h9⟩ := hW; go_simp) H0 ?_
      simp only [FL]
      refine hr_take_w 31 (some 48) (.int .i64 (k : Nat)) rfl rfl (by kernel_rfl) (by kernel_rfl) (by kernel_rfl) rfl (fun W hW => by obtain ⟨h0, h1, h2, h3, h4, h5, h6, h7, h8, h9⟩ := hW; go_simp) H0 ?_
      simp only [FL]
      refine hr_take_w 32 (some 49) (.pointer (some ⟨b2, o2 + k * 5, none⟩)) rfl rfl (by kernel_rfl) (by kernel_rfl) (by kernel_rfl) rfl (fun W hW => by obtain ⟨h0, h1, h2, h3, h4, h5, h6, h7, h8, h9⟩ := hW; go_simp) H0 ?_
      simp only [FL]
      refine hr_take_w 33 (some 50) (.pointer (some ⟨b2, o2 + k * 5 + 2, none⟩)) rfl rfl (by kernel_rfl) (by kernel_rfl) (by kernel_rfl) rfl (fun W hW => by obtain ⟨h0, h1, h2, h3, h4, h5, h6, h7, h8, h9⟩ := hW; go_simp) H0 ?_
      simp only [FL]
      refine hr_take_w 34 (some 51) (.agg #[.int .i64 y.e, .slice y.ao y.n y.cap, .bool y.m]) rfl rfl (by kernel_rfl) (by kernel_rfl) (by kernel_rfl) rfl (fun W hW => by obtain ⟨h0, h1, h2, h3, h4, h5, h6, h7, h8, h9⟩ := hW; go_simp) H0 ?_
      simp only [FL]
      refine hr_call_w 35 (some 52) 16 #[.agg #[.int .i64 x.e, .slice x.ao x.n x.cap, .bool x.m], .agg #[.int .i64 y.e, .slice y.ao y.n y.cap, .bool y.m]] rfl rfl (by kernel_rfl) rfl (by go_simp) (fun v w' => v = .bool true ∧ Below v0.heap.size v0 w') ((HC.out v0 E0).mono (by
        rintro e w' ⟨rfl, C⟩
        exact ⟨_, rfl, rfl, C⟩)) ?_
      rintro v v1 ⟨rfl, C0⟩
      have E1 := E0.trans (C0.mono E0.size)
      have H1 := HS.out v1 E1
      refine ⟨H1, ?_⟩
      simp only [FL]
      refine hr_take_w 36 (some 53) (.bool false) rfl rfl (by kernel_rfl) (by kernel_rfl) (by kernel_rfl) rfl (fun W hW => by obtain ⟨h0, h1, h2, h3, h4, h5, h6, h7, h8, h9⟩ := hW; go_simp) H1 ?_
      simp only [FL]
      refine hr_take_w 37 (some 54) (.bool false) rfl rfl (by kernel_rfl) (by kernel_rfl) (by kernel_rfl) rfl (fun W hW => by obtain ⟨h0, h1, h2, h3, h4, h5, h6, h7, h8, h9⟩ := hW; go_simp) H1 ?_
      simp only [FL]
      refine wpAnyH_done (by kernel_rfl) ?_ _
      refine NoPanic.normal ?_
      have B3 := B.trans (E1.mono B.size)
      clear HS H0 H1 E0 E1 C0 X1 X2 B HI1 HI2
      go_wp2
      go_roundw
      case rel => exact ⟨k + 1, by omega, by go_num, B3⟩
      case measure => simp [intOf]; omega
    · have hge : (n : Int) ≤ (k : Int) := by omega
      go_wp2
      go_ret
      exact ⟨rfl, B⟩
open Go.RowKit
theorem er_cells {w : World} {g cap : Nat} {l : List EN} (h : ER w g cap l) : ∀ j u, (cellsE l)[j]? = some u → w.cell? ((⟨g, 0, none⟩ : Addr).add j) = some u := by
  intro j u hu
  have hj := (List.getElem?_eq_some_iff.1 hu).1
  rw [cellsE_len] at hj
  have hq : j / 3 < l.length := by omega
  have ej : j / 3 * 3 + j % 3 = j := by omega
  have hg := cellsE_get l (j / 3) (j % 3) hq (by omega)
  rw [ej, hu] at hg
  have := h.cell (j / 3) hq (j % 3) u hg.symm
  rw [ej] at this
  rw [Addr.add_lit, Nat.zero_add]
  exact this
theorem cellsE_one (l : List EN) : ∀ u ∈ cellsE l, u.oneCell' = true := by
  intro u hu
  unfold cellsE at hu
  obtain ⟨cs, h1, h2⟩ := List.mem_flatten.1 hu
  obtain ⟨c, -, rfl⟩ := List.mem_map.1 h1
  exact e_one c u h2
set_option maxHeartbeats 400000 in
set_option maxRecDepth 100000 in
theorem eclone_any (w : World) (g cap : Nat) (l : List EN) (h : ER w g cap l) (h1 : 1 ≤ l.length) (h8 : l.length ≤ 8) :
    Calls Try.prog 35 #[.slice (some ⟨g, 0, none⟩) l.length cap] w fun e w' => ∃ v, e = .returned v ∧ w'.ownsRow w.heap.size 60 3 v l.length (cellsE l) ∧ Below w.heap.size w w' := by
  have B0 : Below w.heap.size w (w.alloc (.cells #[] 60)) := (Below.refl _ w).alloc (Nat.le_refl _) _
  have R0 := h.keep (B0.block g h.lt)
  have hq : ∀ W, _ := fun W => Lib.run_eql_slice_nil (P := Try.prog) W 53 60 (some ⟨g, 0, none⟩) l.length cap 0 0 Try.underlying53
  have O0 : (w.alloc (.cells #[] 60)).ownsRow w.heap.size 60 3 (.slice (some ⟨w.heap.size, 0, none⟩) 0 0) 0 [] := World.ownsRow_made w #[] 0 (Nat.le_refl _) (Nat.zero_le _) rfl
  obtain ⟨i0, hi, hz0, hz1, hz2⟩ := info_parts entInfo
  go_enter Try.func35, Try.ntmps35
  go_wp2_with (at_builtin; refine wpList_append_own _ rfl _ _ 53 rfl w.heap.size 60 i0 _ 3 32 Try.underlying53 hi hz0 hz1 hz2 rfl (by decide) _ 0 [] rfl O0 ⟨g, 0, none⟩ l.length cap (cellsE l) rfl (cellsE_len l) (er_cells R0) (cellsE_one l) (by unfold maxLen; omega) (by omega) (by simp) ?_; intro v1 w1 O1 G1 _)
  have B1 : Below w.heap.size w w1 := B0.grown G1 (by simp) (fun k hk => (O0.lt k hk).1)
  simp only [Nat.zero_add, List.nil_append] at O1
  have hsl : ∃ ao n cap, v1 = .slice ao n cap := by
    rcases O1.2 with ⟨rfl, _⟩ | ⟨g, cap, cur, rfl, _⟩
    · exact ⟨none, 0, 0, rfl⟩
    · exact ⟨_, _, cap, rfl⟩
  obtain ⟨ao, n, c, rfl⟩ := hsl
  go_wp2
  go_ret
  exact ⟨_, rfl, O1, B1⟩
theorem cClone_any (w : World) (p g : Nat) (l : List EN) (h : TS w p g l) :
    Calls Try.prog 13 #[.pointer (some ⟨p, 0, none⟩)] w fun e w' => ∃ p2 g2, e = .returned (.pointer (some ⟨p2, 0, none⟩)) ∧ TS w' p2 g2 l ∧ w.heap.size ≤ p2 ∧ w.heap.size ≤ g2 ∧ Below w.heap.size w w' := by
  obtain ⟨cp, t0, R0, hcp⟩ := h.tab
  have h1 := h.n1
  have h8 := h.n8
  have CC := eclone_any w g cp l R0 h1 h8
  have HOK : Hid (∀ e ∈ l, e.ok) := h.ok
  clear R0 h
  go_enter Try.func13, Try.ntmps13
  go_wp2_with fail
  refine CC.mono ?_
  rintro x w1 ⟨v, rfl, O1, B1⟩
  clear CC t0
  rcases O1.2 with ⟨_, e⟩ | ⟨g2, cap, cur, rfl, a1, a2, a3, a4, a5, a6⟩
  · omega
  have hglt : g2 < w1.heap.size := (Array.getElem?_eq_some_iff.1 a2).1
  have C2 : Below w1.heap.size w1 (w1.alloc (.cells #[.slice (some ⟨g2, 0, none⟩) l.length cap] 55)) := (Below.refl _ _).alloc (Nat.le_refl _) _
  have T2 : TS (w1.alloc (.cells #[.slice (some ⟨g2, 0, none⟩) l.length cap] 55)) w1.heap.size g2 l := by
    refine ⟨⟨cap, heap_alloc_new _ _, cur, (C2.block g2 hglt).trans a2, a3, a4, a5, fun i hi j v hv => ?_⟩, HOK.out, h1, h8, by omega⟩
    have hj : j < 3 := (List.getElem?_eq_some_iff.1 hv).1
    have h2 := cellsE_get l i j hi hj
    rw [hv, ← a6, List.getElem?_take_of_lt (by omega)] at h2
    exact h2
  have B2 := B1.trans (C2.mono B1.size)
  have hp2 := B1.size
  clear a2 a3 a4 a5 a6 O1 HOK
  go_wp2
  go_ret
  exact ⟨_, g2, rfl, T2, hp2, a1, B2⟩
open Go.RowKit
def jdg (ns : List Nat) : Int := if 1 ≤ ns.length ∧ ns.length ≤ 8 ∧ riseF 0 ns = true then 0 else 1
set_option maxHeartbeats 1000000 in
theorem judge_any (w : World) (ao : Option Addr) (n cap : Nat) (ns : List Nat) (h : NL w ao n cap ns) :
    Calls Try.prog 25 #[.slice ao n cap] w fun e w' => e = .returned (.int .i64 (jdg ns)) ∧ w' = w := by
  have hl := h.len
  by_cases h0 : n = 0
  · have hv : Hid (jdg ns = 1) := by
      show _ = _
      unfold jdg
      rw [if_neg (by omega)]
    subst h0
    go_enter Try.func25, Try.ntmps25
    go_wp2
    go_ret
    exact ⟨by rw [hv.out] <;> rfl, rfl⟩
  have e0 : ((n : Int) == 0) = false := by simp; omega
  by_cases h1 : 8 < n
  · have hv : Hid (jdg ns = 1) := by
      show _ = _
      unfold jdg
      rw [if_neg (by omega)]
    have e1 : (8 : Int) < (n : Int) := by omega
    go_enter Try.func25, Try.ntmps25
    go_wp2
    go_ret
    exact ⟨by rw [hv.out] <;> rfl, rfl⟩
  have e1 : decide ((8 : Int) < (n : Int)) = false := by simp; omega
  have HV : Hid (jdg ns = if riseF 0 ns = true then 0 else 1) := by
    show _ = _
    unfold jdg
    by_cases q : riseF 0 ns = true
    · rw [if_pos ⟨by omega, by omega, q⟩, if_pos q]
    · rw [if_neg (fun z => q z.2.2), if_neg q]
  have hn8 : (n : Int) ≤ 8 := by omega
  go_enter Try.func25, Try.ntmps25
  go_wp2
  go_loopw [3, 16] (fun v i wr => ∃ (k l : Nat), k ≤ n ∧ v = .int .u64 l ∧ i = .int .i64 k ∧ w = wr ∧ Hid (riseF 0 ns = riseF l (ns.drop k)) ∧ l < 18446744073709551616) (fun _ i _ => n - (intOf i).toNat)
  case atStart => exact ⟨0, 0, Nat.zero_le _, rfl, rfl, rfl, rfl, by omega⟩
  case round =>
    obtain ⟨k, l, hk, rfl, rfl, rfl, HR, hl64⟩ := hrel
    by_cases hlt : k < n
    · have hki : (k : Int) < (n : Int) := by omega
      have hkl : k < ns.length := by omega
      obtain ⟨b, off, rfl, hc⟩ := h.at (by omega)
      have c1 := hc k hlt
      have hx64 := h.rng ns[k] (List.getElem_mem hkl)
      have HD : Hid (ns.drop k = ns[k] :: ns.drop (k + 1)) := List.drop_eq_getElem_cons hkl
      have e5 : ns.getD k 0 = ns[k] := by simp [List.getD, hkl]
      rw [e5] at c1
      obtain ⟨x, hx⟩ : ∃ x, x = ns[k] := ⟨_, rfl⟩
      rw [← hx] at c1 HD hx64
      clear hx e5 hc
      by_cases hle : x ≤ l
      · have hlei : (x : Int) ≤ (l : Int) := by omega
        go_wp2
        go_ret
        refine ⟨?_, rfl⟩
        have : riseF 0 ns = false := by
          rw [HR.out, HD.out]
          simp [riseF]
          omega
        rw [HV.out, this]
        rfl
      · have hlei : decide ((x : Int) ≤ (l : Int)) = false := by simp; omega
        go_wp2
        go_roundw
        case rel =>
          refine ⟨k + 1, x, by omega, rfl, by go_num, trivial, ?_, hx64⟩
          show _ = _
          rw [HR.out, HD.out]
          simp [riseF]
          omega
        case measure => simp [intOf]; omega
    · have hge : decide ((k : Int) < (n : Int)) = false := by simp; omega
      go_wp2
      go_ret
      refine ⟨?_, rfl⟩
      have : riseF 0 ns = true := by
        rw [HR.out, List.drop_of_length_le (by omega)]
        rfl
      rw [HV.out, this]
      rfl
theorem noAnswer_any (w : World) : Calls Try.prog 33 #[] w fun e w' => e = .returned (.string (strOfNums (putR zRV))) ∧ Below w.heap.size w w' := by
  have CR := presult_any w 0 none 0 0 [] false (CL.nothing w)
  have er : Hid (rightR (resR 0 [] false) = true) := show rightR (resR 0 [] false) = true by decide
  go_enter Try.func33, Try.ntmps33
  go_wp2_with fail
  refine CR.mono ?_
  rintro e w' ⟨⟨bo, k, c, rfl, S⟩, C⟩
  rw [if_pos er.out] at S
  have cv := conv_str S
  clear CR S
  go_wp2
  go_ret
  exact ⟨rfl, C⟩
theorem cNew_bad (w : World) (ao : Option Addr) (n cap : Nat) (ns : List Nat) (h : NL w ao n cap ns) (hj : jdg ns = 1) :
    Calls Try.prog 11 #[.slice ao n cap] w fun e w' => e = .returned (.tuple #[.pointer none, .int .i64 1]) ∧ w' = w := by
  have CJ := judge_any w ao n cap ns h
  rw [hj] at CJ
  go_enter Try.func11, Try.ntmps11
  go_wp2_with fail
  refine CJ.mono ?_
  rintro e w' ⟨rfl, hw⟩
  obtain rfl := hw.symm
  clear hw CJ
  go_wp2
  go_ret2
  exact ⟨rfl, rfl⟩
def newT (ns : List Nat) : List EN := ns.map fun c => ⟨c, 0, zRV⟩
set_option maxRecDepth 100000 in
set_option maxHeartbeats 4000000 in
theorem cNew_good (w : World) (ao : Option Addr) (n cap : Nat) (ns : List Nat) (h : NL w ao n cap ns) (hj : jdg ns = 0) :
    Calls Try.prog 11 #[.slice ao n cap] w fun e w' => ∃ p g, e = .returned (.tuple #[.pointer (some ⟨p, 0, none⟩), .int .i64 0]) ∧ TS w' p g (newT ns) ∧ w.heap.size ≤ p ∧ w.heap.size ≤ g ∧ Below w.heap.size w w' := by
  have CJ := judge_any w ao n cap ns h
  have hl := h.len
  have hb : 1 ≤ ns.length ∧ ns.length ≤ 8 := by
    unfold jdg at hj
    by_cases q : 1 ≤ ns.length ∧ ns.length ≤ 8 ∧ riseF 0 ns = true
    · exact ⟨q.1, q.2.1⟩
    · rw [if_neg q] at hj
      cases hj
  rw [hj] at CJ
  have B0 : Below w.heap.size w (w.alloc (.cells #[.slice none 0 0] 55)) := (Below.refl _ w).alloc (Nat.le_refl _) _
  have N0 : NewI (w.alloc (.cells #[.slice none 0 0] 55)) w.heap.size (.slice none 0 0) (newT (ns.take 0)) := ⟨heap_alloc_new w _, World.ownsRow_nil _ _ _ _, fun _ h => by simp [newT] at h⟩
  go_enter Try.func11, Try.ntmps11
  go_wp2_with fail
  refine CJ.mono ?_
  rintro e w' ⟨rfl, hw⟩
  obtain rfl := hw.symm
  clear hw CJ
  go_wp2_with fail
  obtain ⟨w1, hw1⟩ : ∃ W, W = w.alloc (.cells #[.slice none 0 0] 55) := ⟨_, rfl⟩
  obtain ⟨p, hp⟩ : ∃ p, p = w.heap.size := ⟨_, rfl⟩
  rw [← hw1] at B0 N0 ⊢
  rw [← hp] at N0 B0 ⊢
  have hpw : w.heap.size ≤ p := Nat.le_of_eq hp.symm
  have HP : Hid (p = w.heap.size) := hp
  clear hw1 hp
  go_loopw [17] (fun i wr => ∃ (k : Nat) (v : Value), k ≤ n ∧ i = .int .i64 k ∧ NewI wr p v (newT (ns.take k)) ∧ Below p w wr) (fun i _ => n - (intOf i).toNat)
  case atStart => exact ⟨0, _, Nat.zero_le _, rfl, N0, B0⟩
  case round =>
    clear N0 B0
    obtain ⟨k, v, hk, rfl, N, B⟩ := hrel
    by_cases hlt : k < n
    · have hki : (k : Int) < (n : Int) := by omega
      have hkl : k < ns.length := by omega
      obtain ⟨b, off, rfl, hc⟩ := (h.below (B.mono (Nat.le_of_eq HP.out.symm))).at (by omega)
      have c1 := hc k hlt
      have e3 : ns.getD k 0 = ns[k] := by simp [List.getD, hkl]
      rw [e3] at c1
      have hx64 := h.rng ns[k] (List.getElem_mem hkl)
      have HT : Hid (newT (ns.take (k + 1)) = newT (ns.take k) ++ [⟨ns[k], 0, zRV⟩]) := by
        show _ = _
        unfold newT
        rw [List.take_add_one, List.getElem?_eq_getElem hkl, List.map_append]
        rfl
      have hlk : (newT (ns.take k)).length ≤ 8 := by simp [newT]; omega
      obtain ⟨x, hx⟩ : ∃ x, x = ns[k] := ⟨_, rfl⟩
      rw [← hx] at c1 hx64 HT
      clear hx hc e3
      obtain ⟨ao, an, ac, rfl⟩ := N.slice
      obtain ⟨v, hv⟩ : ∃ v, v = Value.slice ao an ac := ⟨_, rfl⟩
      rw [← hv] at N
      go_wp2_with fail
      have E0 : Below wr.heap.size wr wr.drew := (Below.refl _ _).drew
      refine wp_region_noPanic ?_
      refine wp_region_held_drew (S := fun _ => True) (by kernel_rfl) trivial (fun _ => ?_)
      obtain ⟨v0, hv0⟩ : ∃ v, v = wr.drew := ⟨_, rfl⟩
      rw [← hv0] at E0 ⊢
      clear hv0
      refine hr_take_w 0 (some 21) (.pointer (some ⟨p, 0, none⟩)) rfl rfl (by kernel_rfl) (by kernel_rfl) (by kernel_rfl) rfl (fun W hW => by go_simp) trivial ?_
      simp only [FL]
      refine hr_take_w 1 (some 22) (.pointer (some ⟨p, 0, none⟩)) rfl rfl (by kernel_rfl) (by kernel_rfl) (by kernel_rfl) rfl (fun W hW => by go_simp) trivial ?_
      simp only [FL]
      refine hr_take_w 2 (some 23) (.pointer (some ⟨p, 0, none⟩)) rfl rfl (by kernel_rfl) (by kernel_rfl) (by kernel_rfl) rfl (fun W hW => by go_simp) trivial ?_
      simp only [FL]
      refine hr_take_w 3 (some 24) (.pointer (some ⟨p, 0, none⟩)) rfl rfl (by kernel_rfl) (by kernel_rfl) (by kernel_rfl) rfl (fun W hW => by go_simp) trivial ?_
      simp only [FL]
      refine hr_take_w 5 (some 26) (.int .u64 x) rfl rfl (by kernel_rfl) (by kernel_rfl) (by kernel_rfl) rfl (fun W hW => by go_simp) trivial ?_
      simp only [FL]
      refine wpAnyH_effto 4 (fun zi zv zw => (zi = 4 → zv = v) ∧ (zi = 6 → zv = .string (EN.an ⟨x, 0, zRV⟩)) ∧ (zi = 7 → zv = .agg #[.int .u64 x, .int .u64 0, .string (EN.an ⟨x, 0, zRV⟩)]) ∧ (zi = 8 → ∃ g1, zv = .slice (some ⟨g1, 0, none⟩) 1 1 ∧ zw.heap[g1]? = some (.cells #[.int .u64 x, .int .u64 0, .string (EN.an ⟨x, 0, zRV⟩)] 60))) [(4, 25), (6, 27), (7, 28), (8, 29)] 35 (by kernel_rfl) (by decide) (by decide) rfl ?_ (fun _ _ => trivial) ?_ ?_
      · intro zi v w w' h hb
        refine ⟨fun e => ?_, fun e => ?_, fun e => ?_, fun e => ?_⟩
        · have h := h.1 e
          exact h
        · have h := h.2.1 e
          exact h
        · have h := h.2.2.1 e
          exact h
        · have h := h.2.2.2 e
          obtain ⟨g1, h1, h2⟩ := h
          exact ⟨g1, h1, (hb.block g1 (Array.getElem?_eq_some_iff.1 h2).1).trans h2⟩
      · intro zp zhi o a w ho hs hb hdep
        have EB := E0.trans (hb.mono E0.size)
        simp only [List.mem_cons, List.not_mem_nil, or_false] at zhi
        rcases zhi with rfl | rfl | rfl | rfl
        · obtain rfl : _ = o := Option.some.inj (show some _ = some o from ho)
          have t24 : a.tmps[24]? = some (.pointer (some ⟨p, 0, none⟩)) := hs.get 24 (by kernel_rfl) rfl
          have lc := cell_of_row w p 0 _ _ _ (N.below EB).tab
          exact .inl ⟨v, w, by go_simp, ⟨fun _ => rfl, fun e => absurd e (by decide), fun e => absurd e (by decide), fun e => absurd e (by decide)⟩, Below.refl _ _⟩
        · obtain rfl : _ = o := Option.some.inj (show some _ = some o from ho)
          refine .inr ⟨33, #[], by go_simp, (noAnswer_any w).mono ?_⟩
          rintro e w' ⟨rfl, C⟩
          exact ⟨_, rfl, ⟨fun e => absurd e (by decide), fun _ => rfl, fun e => absurd e (by decide), fun e => absurd e (by decide)⟩, C⟩
        · obtain rfl : _ = o := Option.some.inj (show some _ = some o from ho)
          have t26 : a.tmps[26]? = some (.int .u64 x) := hs.get 26 (by kernel_rfl) rfl
          obtain ⟨x27, t27, f27⟩ := (hdep 6 (by kernel_rfl)).at 27 (by kernel_rfl)
          replace f27 := f27.2.1 rfl
          subst f27
          exact .inl ⟨_, w, by go_simp, ⟨fun e => absurd e (by decide), fun e => absurd e (by decide), fun _ => rfl, fun e => absurd e (by decide)⟩, Below.refl _ _⟩
        · obtain rfl : _ = o := Option.some.inj (show some _ = some o from ho)
          obtain ⟨x28, t28, f28⟩ := (hdep 7 (by kernel_rfl)).at 28 (by kernel_rfl)
          replace f28 := f28.2.2.1 rfl
          subst f28
          exact .inl ⟨_, _, by go_simp, ⟨fun e => absurd e (by decide), fun e => absurd e (by decide), fun e => absurd e (by decide), fun _ => ⟨_, rfl, heap_alloc_new w _⟩⟩, (Below.refl _ _).alloc (Nat.le_refl _) _⟩
      intro zf v1 hb hh
      have E1 := E0.trans (hb.mono E0.size)
      obtain e4 := (hh (4, 25) (by simp)).1 rfl
      obtain e6 := (hh (6, 27) (by simp)).2.1 rfl
      obtain e7 := (hh (7, 28) (by simp)).2.2.1 rfl
      obtain ⟨g1, e8, G1⟩ := (hh (8, 29) (by simp)).2.2.2 rfl
      clear hh hb
      simp only [putL, List.foldl_cons, List.foldl_nil, e4, e6, e7, e8]
      clear e4 e6 e7 e8
      simp only [FL]
      have N1 := N.below E1
      obtain ⟨v', W1, ha, T1, N2, B2, -, -, ao2, n2, c2, rfl⟩ := N1.app 53 (cp := 1) (e := ⟨x, 0, zRV⟩) G1 (zRV_ok x hx64) (by omega)
      refine hr_ex 9 (some 30) rfl rfl (by kernel_rfl) rfl (R := fun v w' => (.slice ao2 n2 c2) = v ∧ W1 = w') ⟨_, W1, by simp [execOp, Act.eval, resolve, invoke, builtin, ha], rfl, rfl⟩ ?_
      rintro v w' ⟨rfl, rfl⟩
      refine ⟨trivial, ?_⟩
      simp only [FL]
      refine hr_take_w 10 (some 31) (.pointer (some ⟨p, 0, none⟩)) rfl rfl (by kernel_rfl) (by kernel_rfl) (by kernel_rfl) rfl (fun W hW => by go_simp) trivial ?_
      simp only [FL]
      refine hr_take_w 11 (some 32) (.pointer (some ⟨p, 0, none⟩)) rfl rfl (by kernel_rfl) (by kernel_rfl) (by kernel_rfl) rfl (fun W hW => by go_simp) trivial ?_
      simp only [FL]
      have lc := cell_of_row W1 p 0 _ _ _ T1
      have lf := frozen_of_row W1 p 0 _ _ T1
      refine hr_skip 12 none (w' := W1.setCell ⟨p, 0, none⟩ (.slice ao2 n2 c2)) rfl rfl (by kernel_rfl) rfl (by go_simp) trivial ?_
      simp only [Act.put]
      refine wpAnyH_done (by kernel_rfl) ?_ _
      refine NoPanic.normal ?_
      clear lc lf ha T1 N1 G1
      have B3 := B.trans ((E1.mono (Nat.le_of_lt N.plt)).trans B2)
      obtain ⟨W2, hW2⟩ : ∃ W2, W2 = W1.setCell ⟨p, 0, none⟩ (.slice ao2 n2 c2) := ⟨_, rfl⟩
      rw [← hW2] at N2 B3 ⊢
      clear hW2 B2 E1 N B
      go_wp2
      go_roundw
      case rel =>
        refine ⟨k + 1, .slice ao2 n2 c2, by omega, by go_num, ?_, B3⟩
        rw [HT.out]
        exact N2
      case measure => simp [intOf]; omega
    · have hge : decide ((k : Int) < (n : Int)) = false := by simp; omega
      have N9 : NewI wr p v (newT ns) := by rw [List.take_of_length_le (by omega)] at N; exact N
      obtain ⟨g, T, hg⟩ := N9.done (by simp [newT]; omega) (by simp [newT]; omega)
      clear N N9
      go_wp2
      go_ret2
      exact ⟨p, g, rfl, T, by omega, by omega, by rw [← HP.out]; exact B⟩
open Go.RowKit
theorem belowG {a b c : World} {g : Nat} (h : Below a.heap.size a b) (k : b.grownBy c (some g)) (hg : a.heap.size ≤ g) : Below a.heap.size a c := h.grown k h.size (fun _ e => by cases e; exact hg)
def r7 : RV := ⟨7, [], false⟩
theorem putE_a : putE (newT [1]) 1 5 r7 = ([⟨1, 5, r7⟩], 0) := by rfl
theorem askE_a5 : askE [⟨1, 5, r7⟩] 1 5 = (r7, 0) := by rfl
theorem askE_a4 : askE [⟨1, 5, r7⟩] 1 4 = (zRV, 16) := by rfl
theorem askE_a6 : askE [⟨1, 5, r7⟩] 1 6 = (zRV, 7) := by rfl
set_option maxRecDepth 100000 in
set_option maxHeartbeats 4000000 in
theorem alive12 (w : World) : Calls Try.prog 5 #[] w fun e w' => e = .returned (.bool true) ∧ Below w.heap.size w w' := by
  have B0 : Below w.heap.size w (w.alloc (.cells #[.int .u64 1] 39)) := (Below.refl _ w).alloc (Nat.le_refl _) _
  have N0 : NL (w.alloc (.cells #[.int .u64 1] 39)) (some ⟨w.heap.size, 0, none⟩) 1 1 [1] := NL.new w [1] 39 (by decide) (by decide)
  have CN := cNew_good _ _ _ _ _ N0 (by decide)
  go_enter Try.func5, Try.ntmps5
  go_wp2_with fail
  refine CN.mono ?_
  rintro x w1 ⟨p, g, rfl, T1, hp, hg, C1⟩
  have B1 := B0.trans (C1.mono B0.size)
  have hg1 : w.heap.size ≤ g := Nat.le_trans B0.size hg
  clear CN N0 B0 C1 hp hg
  have CP := cPut_any w1 p g 1 5 _ T1 (by decide) (by decide) 7 none 0 0 [] false (CL.nothing _)
  go_wp2_with fail
  refine CP.mono ?_
  rintro x w2 ⟨rfl, T2, G2⟩
  have e2 : putE (newT [1]) 1 5 (resR 7 [] false) = ([⟨1, 5, r7⟩], 0) := putE_a
  rw [e2] at T2
  rw [e2]
  have B2 := belowG B1 G2 hg1
  clear CP T1 G2 B1 e2 hg1
  simp only at T2
  have C5 := cAsk_any w2 p g 1 5 _ T2
  rw [askE_a5] at C5
  go_wp2_with fail
  refine C5.mono ?_
  rintro x w3 ⟨q, ao, n, cap, cs, m, rfl, -, hq, D3⟩
  have hq7 : q = 7 := by
    have := congrArg RV.e hq
    simpa [r7, resR] using this.symm
  subst hq7
  have T3 := T2.below D3
  have B3 := B2.trans (D3.mono B2.size)
  clear C5 T2 B2 D3 hq
  have A3 : Below w3.heap.size w3 (w3.alloc (.cells #[.int .i64 7, .slice ao n cap, .bool m] 42)) := (Below.refl _ _).alloc (Nat.le_refl _) _
  have K3 : RW (w3.alloc (.cells #[.int .i64 7, .slice ao n cap, .bool m] 42)) w3.heap.size 7 (.slice ao n cap) m := heap_alloc_new _ _
  have C4 := cAsk_any _ p g 1 4 _ (T3.below A3)
  rw [askE_a4] at C4
  have T4 := T3.below A3
  have B4 := B3.trans (A3.mono B3.size)
  unfold resV
  go_wp2_with fail
  obtain ⟨w4, hw4⟩ : ∃ W, W = w3.alloc (.cells #[.int .i64 7, .slice ao n cap, .bool m] 42) := ⟨_, rfl⟩
  obtain ⟨M, hM⟩ : ∃ M, M = w3.heap.size := ⟨_, rfl⟩
  rw [← hw4] at K3 C4 T4 B4 ⊢
  rw [← hM] at K3 ⊢
  clear hw4 hM A3 T3 B3
  refine C4.mono ?_
  rintro x w5 ⟨q5, ao5, n5, cap5, cs5, m5, rfl, -, -, D5⟩
  have T5 := T4.below D5
  have B5 := B4.trans (D5.mono B4.size)
  have K5 : RW w5 M 7 (.slice ao n cap) m := K3.kept (D5.block _ K3.lt)
  clear C4 T4 B4 D5 K3
  have A5 : Below w5.heap.size w5 (w5.alloc (.cells #[.int .i64 q5, .slice ao5 n5 cap5, .bool m5] 42)) := (Below.refl _ _).alloc (Nat.le_refl _) _
  have K6 : RW (w5.alloc (.cells #[.int .i64 q5, .slice ao5 n5 cap5, .bool m5] 42)) M 7 (.slice ao n cap) m := K5.kept (A5.block _ K5.lt)
  have C6 := cAsk_any _ p g 1 6 _ (T5.below A5)
  rw [askE_a6] at C6
  have B6 := B5.trans (A5.mono B5.size)
  unfold resV
  go_wp2_with fail
  obtain ⟨w6, hw6⟩ : ∃ W, W = w5.alloc (.cells #[.int .i64 q5, .slice ao5 n5 cap5, .bool m5] 42) := ⟨_, rfl⟩
  obtain ⟨M2, hM2⟩ : ∃ M, M = w5.heap.size := ⟨_, rfl⟩
  rw [← hw6] at K6 C6 B6 ⊢
  rw [← hM2]
  clear hw6 hM2 A5 T5 B5 K5
  refine C6.mono ?_
  rintro x w7 ⟨q7, ao7, n7, cap7, cs7, m7, rfl, -, -, D7⟩
  have B7 := B6.trans (D7.mono B6.size)
  have K7 : RW w7 M 7 (.slice ao n cap) m := K6.kept (D7.block _ K6.lt)
  clear C6 B6 D7 K6
  have hlt := K7.lt
  have A7 : Below w7.heap.size w7 (w7.alloc (.cells #[.int .i64 q7, .slice ao7 n7 cap7, .bool m7] 42)) := (Below.refl _ _).alloc (Nat.le_refl _) _
  have r0 := K7.c0
  have B8 : Hid (Below w.heap.size w (w7.alloc (.cells #[.int .i64 q7, .slice ao7 n7 cap7, .bool m7] 42))) := B7.trans (A7.mono B7.size)
  clear K7 A7 B7
  unfold resV
  go_wp2
  go_ret
  exact ⟨rfl, B8.out⟩
end Go.Proofs.Ytoagkffokfbpfaa

/-
  SealIdeal: of a book that is not real nothing is ever forged.
-/
import Derived.Test.YtkncfjokkojfpaaDoorOpL
namespace Go.Proofs.YtkncfjokkojfpaaDoor
open Go.RowKit

set_option maxRecDepth 100000 in
set_option maxHeartbeats 8000000 in
theorem sealIdeal_any (w : World) (no : Option Addr) (nn nc : Nat) (ns : List Nat) (ao : Option Addr) (n cap : Nat) (os : List OpV) (hN : NL w no nn nc ns) (hO : OL w ao n cap os) (hT : Tabs w) :
    Calls Tryd.prog 5 #[.slice no nn nc, .slice ao n cap] w fun e w' => e = .returned (.bool true) ∧ Below w.heap.size w w' := by
  have h2 := hT.two
  have hl := hO.len
  go_enter Tryd.func5, Tryd.ntmps5
  go_wp2_with fail
  refine (light3_any w ao n cap os hO).mono ?_
  rintro e w' ⟨⟨bb, rfl, hb1⟩, hw⟩
  obtain rfl := hw.symm
  clear hw
  have B00 : Below w.heap.size w w := Below.refl _ _
  cases bb
  · skip
    go_wp2_with fail
    refine (alive_any _ (hT.below B00 h2)).mono ?_
    rintro e wz ⟨rfl, Bz⟩
    go_wp2
    go_ret
    exact ⟨rfl, B00.trans (Bz.mono (Nat.le_refl _))⟩
  obtain ⟨hn30, hq⟩ := hb1 rfl
  clear hb1
  have hni : (n : Int) ≤ 30 := by omega
  by_cases h3 : 200 < nn
  · have d1 : (200 : Int) < (nn : Int) := by omega
    have d2 : decide ((200 : Int) < (nn : Int)) = true := by simp; omega
    go_wp2_with fail
    refine (alive_any _ (hT.below B00 h2)).mono ?_
    rintro e wz ⟨rfl, Bz⟩
    go_wp2
    go_ret
    exact ⟨rfl, B00.trans (Bz.mono (Nat.le_refl _))⟩
  have y1 : (nn : Int) ≤ 200 := by omega
  have y2 : decide ((200 : Int) < (nn : Int)) = false := by simp; omega
  go_wp2_with fail
  by_cases hbad : nn = 0 ∨ 64 < nn ∨ riseF 0 ns = false
  · refine (new_bad w false none 0 0 no nn nc ns hN hbad).mono ?_
    rintro e w' ⟨rfl, hw⟩
    obtain rfl := hw.symm
    clear hw
    go_wp2_with fail
    refine (alive_any _ (hT.below B00 h2)).mono ?_
    rintro e wz ⟨rfl, Bz⟩
    go_wp2
    go_ret
    exact ⟨rfl, B00.trans (Bz.mono (Nat.le_refl _))⟩
  have hn0 : 0 < nn := by omega
  have hr : riseF 0 ns = true := by
    cases e : riseF 0 ns with
    | true => rfl
    | false => exact absurd (.inr (.inr e)) hbad
  have hn64 : nn ≤ 64 := by omega
  clear hbad h3 y1 y2
  refine (new_good w false none 0 0 [] no nn nc ns hN (Sl.nothing w) (by omega) hT hn0 hn64 hr).mono ?_
  rintro e w1 ⟨p, mk, ms, nk, KF, rfl, P1⟩
  have B1 := P1.bel
  have nms := P1.nm
  have K1 := P1.bk
  have N1 := P1.kn
  clear P1 B00
  generalize (fun x => decide (x ∈ ns)) = kn at N1
  go_wp2_with fail
  go_loopw [7] (fun i wr => ∃ (k m : Nat) (SF : Value → Option Value), k ≤ n ∧ m ≤ k ∧ i = .int .i64 k ∧ Below w.heap.size w wr ∧ BK wr p mk ms false nk m KF SF ∧ KN wr false [] kn KF ∧ SU SF) (fun i _ => n - (intOf i).toNat)
  case atStart => exact ⟨0, 0, _, by omega, by omega, rfl, B1, K1, N1, SU.none⟩
  case round =>
    clear K1 N1 B1
    obtain ⟨k, m, SF, hk, hm, rfl, B2, K2, N2, U2⟩ := hrel
    have s2 := B2.size
    have lms := K2.said.lt
    by_cases hlt : k < n
    · have hki : (k : Int) < (n : Int) := by omega
      have hkl : k < os.length := by omega
      obtain ⟨b, off, rfl, -⟩ := hO.at (by omega)
      have hcl : ∀ V, Below w.heap.size w V → ∀ i (hi : i < os.length), V.cell? ⟨b, off + i * 4, none⟩ = some (.int .i64 os[i].kind) ∧ V.cell? ⟨b, off + i * 4 + 1, none⟩ = some (.int .u64 os[i].node) ∧ V.cell? ⟨b, off + i * 4 + 2, none⟩ = some os[i].body.val ∧ V.cell? ⟨b, off + i * 4 + 3, none⟩ = some os[i].tag.val := by
        intro V hV i hi
        obtain ⟨b', off', e', h'⟩ := (hO.below hV).at (by omega)
        simp only [Option.some.injEq, Addr.mk.injEq, and_true] at e'
        obtain ⟨rfl, rfl⟩ := e'
        exact h' i hi
      have HCL : Hid (∀ V, Below w.heap.size w V → ∀ i (hi : i < os.length), V.cell? ⟨b, off + i * 4, none⟩ = some (.int .i64 os[i].kind) ∧ V.cell? ⟨b, off + i * 4 + 1, none⟩ = some (.int .u64 os[i].node) ∧ V.cell? ⟨b, off + i * 4 + 2, none⟩ = some os[i].body.val ∧ V.cell? ⟨b, off + i * 4 + 3, none⟩ = some os[i].tag.val) := hcl
      obtain ⟨c0, c1, c2, c3⟩ := hcl wr B2 k hkl
      obtain ⟨x, hx⟩ : ∃ x, x = os[k] := ⟨_, rfl⟩
      have SXB := (hO.sl os[k] (List.getElem_mem hkl)).1
      have SX := (hO.sl os[k] (List.getElem_mem hkl)).2.1
      have xn := (hO.sl os[k] (List.getElem_mem hkl)).2.2
      have xb1 := (hq os[k] (List.getElem_mem hkl)).1
      rw [← hx] at c0 c1 c2 c3 SXB SX xn xb1
      clear hx hcl
      unfold Part.val at c2 c3
      obtain ⟨xb, hxb⟩ : ∃ xb, xb = wr.heap.size := ⟨_, rfl⟩
      by_cases hkind : x.kind = 0
      · go_wp2_with fail
        have B3' : Below w.heap.size w (wr.alloc (Obj.cells #[.int .i64 0, .int .u64 x.node, .slice x.body.ao x.body.n x.body.cap, .slice x.tag.ao x.tag.n x.tag.cap] 38)) := B2.alloc s2 _
        have D3' : Below wr.heap.size wr (wr.alloc (Obj.cells #[.int .i64 0, .int .u64 x.node, .slice x.body.ao x.body.n x.body.cap, .slice x.tag.ao x.tag.n x.tag.cap] 38)) := (Below.refl _ wr).alloc (Nat.le_refl _) _
        have CT' : (wr.alloc (Obj.cells #[.int .i64 0, .int .u64 x.node, .slice x.body.ao x.body.n x.body.cap, .slice x.tag.ao x.tag.n x.tag.cap] 38)).cell? ⟨xb, 3, none⟩ = some (.slice x.tag.ao x.tag.n x.tag.cap) := by rw [World.cell?_alloc_at _ _ _ _ hxb]; rfl
        obtain ⟨W3, hW3⟩ : ∃ W, W = wr.alloc (Obj.cells #[.int .i64 0, .int .u64 x.node, .slice x.body.ao x.body.n x.body.cap, .slice x.tag.ao x.tag.n x.tag.cap] 38) := ⟨_, rfl⟩
        rw [← hW3] at B3' D3' CT' ⊢
        rw [← hxb]
        have B3 : Below w.heap.size w W3 := B3'
        have D3 : Below wr.heap.size wr W3 := D3'
        have CT : W3.cell? ⟨xb, 3, none⟩ = some (.slice x.tag.ao x.tag.n x.tag.cap) := CT'
        have K3 := K2.below D3
        have N3 := N2.below D3
        have lxb : ms < xb := by omega
        clear B3' D3' CT' hW3 K2 N2 c0 c1 c2 c3 hxb B2 D3
        by_cases hkn : kn x.node = true
        · refine (tag_known W3 p mk ms false nk m KF SF [] kn x.node x.body.ao x.body.n x.body.cap x.body.xs K3 N3 (hT.below B3 h2) xn hkn (SXB.below B3) (by omega) (by omega) (by omega)).mono ?_
          rintro e W4 ⟨g, m4, SF4, rfl, P4⟩
          have B4 : Below w.heap.size w W4 := below_of B3 P4.grown nms
          have K4 := P4.bk
          have U4 := P4.su U2
          have N4 := N3.grown P4.grown K3.said.isMap
          have hm4 : m4 ≤ k + 1 := by
            by_cases hs : SF (sv x.node (dgL false x.node x.body.xs)) = none
            · have := P4.more hs; omega
            · have := P4.same hs; omega
          have CT4 : W4.cell? ⟨xb, 3, none⟩ = some (.slice x.tag.ao x.tag.n x.tag.cap) := (World.cell?_of_block (P4.grown.block xb (World.block_lt_of_cell? _ _ CT) (by intro e; have := Option.some.inj e; omega))).trans CT
          clear P4 B3 K3 N3 U2 CT
          go_wp2_with fail
          have tS := B4.size
          go_wp2_with fail
          go_loopw [9] (fun i wz => ∃ j : Nat, j ≤ n ∧ i = .int .i64 j ∧ Below W4.heap.size W4 wz) (fun i _ => n - (intOf i).toNat)
          case atStart => exact ⟨0, by omega, rfl, Below.refl _ _⟩
          case round =>
            obtain ⟨j, hj, rfl, E⟩ := hrel
            have F0' : Below w.heap.size w wr := B4.trans (E.mono tS)
            by_cases hjt : j < n
            · have hji : (j : Int) < (n : Int) := by omega
              have hjl : j < os.length := by omega
              obtain ⟨y, hy⟩ : ∃ y, y = os[j] := ⟨_, rfl⟩
              have HY : Hid (y = os[j]) := hy
              have SB := (hO.sl os[j] (List.getElem_mem hjl)).1.below B4
              have yn := (hO.sl os[j] (List.getElem_mem hjl)).2.2
              have yb := (hq os[j] (List.getElem_mem hjl)).1
              have ST := SX.below B4
              have HS : Hid (∀ V : World, Below W4.heap.size W4 V → V.cell? ⟨b, off + j * 4 + 1, none⟩ = some (.int .u64 y.node) ∧ V.cell? ⟨b, off + j * 4 + 2, none⟩ = some (.slice y.body.ao y.body.n y.body.cap) ∧ V.cell? ⟨xb, 3, none⟩ = some (.slice x.tag.ao x.tag.n x.tag.cap)) := by
                intro V hV
                have hc := HCL.out V (B4.trans (hV.mono tS)) j hjl
                rw [← hy] at hc
                exact ⟨hc.2.1, hc.2.2.1, (hV.cell (World.block_lt_of_cell? _ _ CT4)).trans CT4⟩
              rw [← hy] at SB yn yb
              clear hy
              have HF : Hid ((chB SF4 false [] kn y.node y.body.xs x.tag.xs && !saB SF4 false y.node y.body.xs) = false) := by
                show _ = _
                unfold chB
                cases saB SF4 false y.node y.body.xs <;> simp
              obtain ⟨c, hc⟩ : ∃ c, c = chB SF4 false [] kn y.node y.body.xs x.tag.xs := ⟨_, rfl⟩
              cases c with
              | false =>
                have HC : Hid (chB SF4 false [] kn y.node y.body.xs x.tag.xs = false) := hc.symm
                clear hc
                go_wp2_with fail
                obtain ⟨wd, hwd⟩ : ∃ wd, wd = wr.drew := ⟨_, rfl⟩
                have E0 : Below W4.heap.size W4 wd := by rw [hwd]; exact E.drew
                have F0 : Below w.heap.size w wd := B4.trans (E0.mono tS)
                refine wp_region_noPanic ?_
                refine wp_region_held_drew (S := fun V => V.cell? ⟨b, off + j * 4 + 1, none⟩ = some (.int .u64 y.node) ∧ V.cell? ⟨b, off + j * 4 + 2, none⟩ = some (.slice y.body.ao y.body.n y.body.cap) ∧ V.cell? ⟨xb, 3, none⟩ = some (.slice x.tag.ao x.tag.n x.tag.cap)) (by kernel_rfl) (HS.out _ E.drew) (fun hH => ?_)
                rw [← hwd] at hH ⊢
                clear hwd
                refine hr_take_w 0 (some 60) (.pointer (some ⟨p, 0, none⟩)) rfl rfl (by kernel_rfl) (by kernel_rfl) (by kernel_rfl) rfl (fun W hW => by obtain ⟨h1, h2, h3⟩ := hW; go_simp) hH ?_
                simp only [Act.put, List.setIfInBounds_toArray, List.set_cons_zero, List.set_cons_succ]
                refine hr_take_w 1 (some 61) (.slice (some ⟨b, off, none⟩) n cap) rfl rfl (by kernel_rfl) (by kernel_rfl) (by kernel_rfl) rfl (fun W hW => by obtain ⟨h1, h2, h3⟩ := hW; go_simp) hH ?_
                simp only [Act.put, List.setIfInBounds_toArray, List.set_cons_zero, List.set_cons_succ]
                refine hr_take_w 2 (some 62) (.int .i64 j) rfl rfl (by kernel_rfl) (by kernel_rfl) (by kernel_rfl) rfl (fun W hW => by obtain ⟨h1, h2, h3⟩ := hW; go_simp) hH ?_
                simp only [Act.put, List.setIfInBounds_toArray, List.set_cons_zero, List.set_cons_succ]
                refine hr_take_w 3 (some 63) (.pointer (some ⟨b, off + j * 4, none⟩)) rfl rfl (by kernel_rfl) (by kernel_rfl) (by kernel_rfl) rfl (fun W hW => by obtain ⟨h1, h2, h3⟩ := hW; go_simp) hH ?_
                simp only [Act.put, List.setIfInBounds_toArray, List.set_cons_zero, List.set_cons_succ]
                refine hr_take_w 4 (some 64) (.pointer (some ⟨b, off + j * 4 + 1, none⟩)) rfl rfl (by kernel_rfl) (by kernel_rfl) (by kernel_rfl) rfl (fun W hW => by obtain ⟨h1, h2, h3⟩ := hW; go_simp) hH ?_
                simp only [Act.put, List.setIfInBounds_toArray, List.set_cons_zero, List.set_cons_succ]
                refine hr_take_w 5 (some 65) (.int .u64 y.node) rfl rfl (by kernel_rfl) (by kernel_rfl) (by kernel_rfl) rfl (fun W hW => by obtain ⟨h1, h2, h3⟩ := hW; go_simp) hH ?_
                simp only [Act.put, List.setIfInBounds_toArray, List.set_cons_zero, List.set_cons_succ]
                refine hr_take_w 6 (some 66) (.slice (some ⟨b, off, none⟩) n cap) rfl rfl (by kernel_rfl) (by kernel_rfl) (by kernel_rfl) rfl (fun W hW => by obtain ⟨h1, h2, h3⟩ := hW; go_simp) hH ?_
                simp only [Act.put, List.setIfInBounds_toArray, List.set_cons_zero, List.set_cons_succ]
                refine hr_take_w 7 (some 67) (.int .i64 j) rfl rfl (by kernel_rfl) (by kernel_rfl) (by kernel_rfl) rfl (fun W hW => by obtain ⟨h1, h2, h3⟩ := hW; go_simp) hH ?_
                simp only [Act.put, List.setIfInBounds_toArray, List.set_cons_zero, List.set_cons_succ]
                refine hr_take_w 8 (some 68) (.pointer (some ⟨b, off + j * 4, none⟩)) rfl rfl (by kernel_rfl) (by kernel_rfl) (by kernel_rfl) rfl (fun W hW => by obtain ⟨h1, h2, h3⟩ := hW; go_simp) hH ?_
                simp only [Act.put, List.setIfInBounds_toArray, List.set_cons_zero, List.set_cons_succ]
                refine hr_take_w 9 (some 69) (.pointer (some ⟨b, off + j * 4 + 2, none⟩)) rfl rfl (by kernel_rfl) (by kernel_rfl) (by kernel_rfl) rfl (fun W hW => by obtain ⟨h1, h2, h3⟩ := hW; go_simp) hH ?_
                simp only [Act.put, List.setIfInBounds_toArray, List.set_cons_zero, List.set_cons_succ]
                refine hr_take_w 10 (some 70) (.slice y.body.ao y.body.n y.body.cap) rfl rfl (by kernel_rfl) (by kernel_rfl) (by kernel_rfl) rfl (fun W hW => by obtain ⟨h1, h2, h3⟩ := hW; go_simp) hH ?_
                simp only [Act.put, List.setIfInBounds_toArray, List.set_cons_zero, List.set_cons_succ]
                refine hr_take_w 11 (some 71) (.pointer (some ⟨xb, 3, none⟩)) rfl rfl (by kernel_rfl) (by kernel_rfl) (by kernel_rfl) rfl (fun W hW => by obtain ⟨h1, h2, h3⟩ := hW; go_simp) hH ?_
                simp only [Act.put, List.setIfInBounds_toArray, List.set_cons_zero, List.set_cons_succ]
                refine hr_take_w 12 (some 72) (.slice x.tag.ao x.tag.n x.tag.cap) rfl rfl (by kernel_rfl) (by kernel_rfl) (by kernel_rfl) rfl (fun W hW => by obtain ⟨h1, h2, h3⟩ := hW; go_simp) hH ?_
                simp only [Act.put, List.setIfInBounds_toArray, List.set_cons_zero, List.set_cons_succ]
                refine hr_call_w 13 (some 73) 22 #[.pointer (some ⟨p, 0, none⟩), .int .u64 y.node, .slice y.body.ao y.body.n y.body.cap, .slice x.tag.ao x.tag.n x.tag.cap] rfl rfl (by kernel_rfl) rfl (by go_simp) (fun v w' => v = .bool false ∧ Below wd.heap.size wd w') ((forged_any _ p mk ms false nk m4 KF SF4 [] kn y.node y.body.ao y.body.n y.body.cap y.body.xs x.tag.ao x.tag.n x.tag.cap x.tag.xs (K4.below E0) (N4.below E0) (hT.below F0 h2) yn (SB.below E0) (by omega) (ST.below E0) U4).mono (by
                  rintro e w' ⟨rfl, C⟩
                  exact ⟨_, rfl, by rw [HF.out], C⟩)) ?_
                rintro v v1 ⟨rfl, C1⟩
                have E1 := E0.trans (C1.mono E0.size)
                have F1 : Below w.heap.size w v1 := B4.trans (E1.mono tS)
                have S1 := HS.out v1 E1
                refine ⟨S1, ?_⟩
                simp only [Act.put, List.setIfInBounds_toArray, List.set_cons_zero, List.set_cons_succ]
                refine hr_take_w 14 (some 74) (.bool false) rfl rfl (by kernel_rfl) (by kernel_rfl) (by kernel_rfl) rfl (fun W hW => by obtain ⟨h1, h2, h3⟩ := hW; go_simp) S1 ?_
                simp only [Act.put, List.setIfInBounds_toArray, List.set_cons_zero, List.set_cons_succ]
                refine hr_take_w 15 (some 75) (.pointer (some ⟨p, 0, none⟩)) rfl rfl (by kernel_rfl) (by kernel_rfl) (by kernel_rfl) rfl (fun W hW => by obtain ⟨h1, h2, h3⟩ := hW; go_simp) S1 ?_
                simp only [Act.put, List.setIfInBounds_toArray, List.set_cons_zero, List.set_cons_succ]
                refine hr_take_w 16 (some 76) (.slice (some ⟨b, off, none⟩) n cap) rfl rfl (by kernel_rfl) (by kernel_rfl) (by kernel_rfl) rfl (fun W hW => by obtain ⟨h1, h2, h3⟩ := hW; go_simp) S1 ?_
                simp only [Act.put, List.setIfInBounds_toArray, List.set_cons_zero, List.set_cons_succ]
                refine hr_take_w 17 (some 77) (.int .i64 j) rfl rfl (by kernel_rfl) (by kernel_rfl) (by kernel_rfl) rfl (fun W hW => by obtain ⟨h1, h2, h3⟩ := hW; go_simp) S1 ?_
                simp only [Act.put, List.setIfInBounds_toArray, List.set_cons_zero, List.set_cons_succ]
                refine hr_take_w 18 (some 78) (.pointer (some ⟨b, off + j * 4, none⟩)) rfl rfl (by kernel_rfl) (by kernel_rfl) (by kernel_rfl) rfl (fun W hW => by obtain ⟨h1, h2, h3⟩ := hW; go_simp) S1 ?_
                simp only [Act.put, List.setIfInBounds_toArray, List.set_cons_zero, List.set_cons_succ]
                refine hr_take_w 19 (some 79) (.pointer (some ⟨b, off + j * 4 + 1, none⟩)) rfl rfl (by kernel_rfl) (by kernel_rfl) (by kernel_rfl) rfl (fun W hW => by obtain ⟨h1, h2, h3⟩ := hW; go_simp) S1 ?_
                simp only [Act.put, List.setIfInBounds_toArray, List.set_cons_zero, List.set_cons_succ]
                refine hr_take_w 20 (some 80) (.int .u64 y.node) rfl rfl (by kernel_rfl) (by kernel_rfl) (by kernel_rfl) rfl (fun W hW => by obtain ⟨h1, h2, h3⟩ := hW; go_simp) S1 ?_
                simp only [Act.put, List.setIfInBounds_toArray, List.set_cons_zero, List.set_cons_succ]
                refine hr_take_w 21 (some 81) (.slice (some ⟨b, off, none⟩) n cap) rfl rfl (by kernel_rfl) (by kernel_rfl) (by kernel_rfl) rfl (fun W hW => by obtain ⟨h1, h2, h3⟩ := hW; go_simp) S1 ?_
                simp only [Act.put, List.setIfInBounds_toArray, List.set_cons_zero, List.set_cons_succ]
                refine hr_take_w 22 (some 82) (.int .i64 j) rfl rfl (by kernel_rfl) (by kernel_rfl) (by kernel_rfl) rfl (fun W hW => by obtain ⟨h1, h2, h3⟩ := hW; go_simp) S1 ?_
                simp only [Act.put, List.setIfInBounds_toArray, List.set_cons_zero, List.set_cons_succ]
                refine hr_take_w 23 (some 83) (.pointer (some ⟨b, off + j * 4, none⟩)) rfl rfl (by kernel_rfl) (by kernel_rfl) (by kernel_rfl) rfl (fun W hW => by obtain ⟨h1, h2, h3⟩ := hW; go_simp) S1 ?_
                simp only [Act.put, List.setIfInBounds_toArray, List.set_cons_zero, List.set_cons_succ]
                refine hr_take_w 24 (some 84) (.pointer (some ⟨b, off + j * 4 + 2, none⟩)) rfl rfl (by kernel_rfl) (by kernel_rfl) (by kernel_rfl) rfl (fun W hW => by obtain ⟨h1, h2, h3⟩ := hW; go_simp) S1 ?_
                simp only [Act.put, List.setIfInBounds_toArray, List.set_cons_zero, List.set_cons_succ]
                refine hr_take_w 25 (some 85) (.slice y.body.ao y.body.n y.body.cap) rfl rfl (by kernel_rfl) (by kernel_rfl) (by kernel_rfl) rfl (fun W hW => by obtain ⟨h1, h2, h3⟩ := hW; go_simp) S1 ?_
                simp only [Act.put, List.setIfInBounds_toArray, List.set_cons_zero, List.set_cons_succ]
                refine hr_take_w 26 (some 86) (.pointer (some ⟨xb, 3, none⟩)) rfl rfl (by kernel_rfl) (by kernel_rfl) (by kernel_rfl) rfl (fun W hW => by obtain ⟨h1, h2, h3⟩ := hW; go_simp) S1 ?_
                simp only [Act.put, List.setIfInBounds_toArray, List.set_cons_zero, List.set_cons_succ]
                refine hr_take_w 27 (some 87) (.slice x.tag.ao x.tag.n x.tag.cap) rfl rfl (by kernel_rfl) (by kernel_rfl) (by kernel_rfl) rfl (fun W hW => by obtain ⟨h1, h2, h3⟩ := hW; go_simp) S1 ?_
                simp only [Act.put, List.setIfInBounds_toArray, List.set_cons_zero, List.set_cons_succ]
                refine hr_call_w 28 (some 88) 20 #[.pointer (some ⟨p, 0, none⟩), .int .u64 y.node, .slice y.body.ao y.body.n y.body.cap, .slice x.tag.ao x.tag.n x.tag.cap] rfl rfl (by kernel_rfl) rfl (by go_simp) (fun v w' => v = .bool false ∧ Below v1.heap.size v1 w') ((check_any v1 p mk ms false nk m4 KF SF4 [] kn y.node y.body.ao y.body.n y.body.cap y.body.xs x.tag.ao x.tag.n x.tag.cap x.tag.xs (K4.below E1) (N4.below E1) (hT.below F1 h2) yn (SB.below E1) (by omega) (ST.below E1) U4).mono (by
                  rintro e w' ⟨rfl, C⟩
                  exact ⟨_, rfl, by rw [HC.out], C⟩)) ?_
                rintro v v2 ⟨rfl, C2⟩
                have E2 := E1.trans (C2.mono E1.size)
                have F2 : Below w.heap.size w v2 := B4.trans (E2.mono tS)
                have S2 := HS.out v2 E2
                refine ⟨S2, ?_⟩
                simp only [Act.put, List.setIfInBounds_toArray, List.set_cons_zero, List.set_cons_succ]
                refine hr_take_w 29 (some 89) (.bool false) rfl rfl (by kernel_rfl) (by kernel_rfl) (by kernel_rfl) rfl (fun W hW => by obtain ⟨h1, h2, h3⟩ := hW; go_simp) S2 ?_
                simp only [Act.put, List.setIfInBounds_toArray, List.set_cons_zero, List.set_cons_succ]
                refine hr_none 30 (some 90) rfl rfl (by kernel_rfl) (by kernel_rfl) (by kernel_rfl) rfl S2 ?_
                simp only [Act.put, List.setIfInBounds_toArray, List.set_cons_zero, List.set_cons_succ]
                refine hr_none 31 (some 91) rfl rfl (by kernel_rfl) (by kernel_rfl) (by kernel_rfl) rfl S2 ?_
                simp only [Act.put, List.setIfInBounds_toArray, List.set_cons_zero, List.set_cons_succ]
                refine hr_none 32 (some 92) rfl rfl (by kernel_rfl) (by kernel_rfl) (by kernel_rfl) rfl S2 ?_
                simp only [Act.put, List.setIfInBounds_toArray, List.set_cons_zero, List.set_cons_succ]
                refine hr_none 33 (some 93) rfl rfl (by kernel_rfl) (by kernel_rfl) (by kernel_rfl) rfl S2 ?_
                simp only [Act.put, List.setIfInBounds_toArray, List.set_cons_zero, List.set_cons_succ]
                refine hr_none 34 (some 94) rfl rfl (by kernel_rfl) (by kernel_rfl) (by kernel_rfl) rfl S2 ?_
                simp only [Act.put, List.setIfInBounds_toArray, List.set_cons_zero, List.set_cons_succ]
                refine hr_none 35 (some 95) rfl rfl (by kernel_rfl) (by kernel_rfl) (by kernel_rfl) rfl S2 ?_
                simp only [Act.put, List.setIfInBounds_toArray, List.set_cons_zero, List.set_cons_succ]
                refine hr_none 36 (some 96) rfl rfl (by kernel_rfl) (by kernel_rfl) (by kernel_rfl) rfl S2 ?_
                simp only [Act.put, List.setIfInBounds_toArray, List.set_cons_zero, List.set_cons_succ]
                refine hr_none 37 (some 97) rfl rfl (by kernel_rfl) (by kernel_rfl) (by kernel_rfl) rfl S2 ?_
                simp only [Act.put, List.setIfInBounds_toArray, List.set_cons_zero, List.set_cons_succ]
                refine hr_none 38 (some 98) rfl rfl (by kernel_rfl) (by kernel_rfl) (by kernel_rfl) rfl S2 ?_
                simp only [Act.put, List.setIfInBounds_toArray, List.set_cons_zero, List.set_cons_succ]
                refine hr_none 39 (some 99) rfl rfl (by kernel_rfl) (by kernel_rfl) (by kernel_rfl) rfl S2 ?_
                simp only [Act.put, List.setIfInBounds_toArray, List.set_cons_zero, List.set_cons_succ]
                refine hr_none 40 (some 100) rfl rfl (by kernel_rfl) (by kernel_rfl) (by kernel_rfl) rfl S2 ?_
                simp only [Act.put, List.setIfInBounds_toArray, List.set_cons_zero, List.set_cons_succ]
                refine hr_none 41 (some 101) rfl rfl (by kernel_rfl) (by kernel_rfl) (by kernel_rfl) rfl S2 ?_
                simp only [Act.put, List.setIfInBounds_toArray, List.set_cons_zero, List.set_cons_succ]
                refine hr_none 42 (some 102) rfl rfl (by kernel_rfl) (by kernel_rfl) (by kernel_rfl) rfl S2 ?_
                simp only [Act.put, List.setIfInBounds_toArray, List.set_cons_zero, List.set_cons_succ]
                refine hr_take_w 43 (some 103) (.bool false) rfl rfl (by kernel_rfl) (by kernel_rfl) (by kernel_rfl) rfl (fun W hW => by obtain ⟨h1, h2, h3⟩ := hW; go_simp) S2 ?_
                simp only [Act.put, List.setIfInBounds_toArray, List.set_cons_zero, List.set_cons_succ]
                refine hr_take_w 44 (some 104) (.bool false) rfl rfl (by kernel_rfl) (by kernel_rfl) (by kernel_rfl) rfl (fun W hW => by obtain ⟨h1, h2, h3⟩ := hW; go_simp) S2 ?_
                simp only [Act.put, List.setIfInBounds_toArray, List.set_cons_zero, List.set_cons_succ]
                refine wpAnyH_done (by kernel_rfl) ?_ _
                refine NoPanic.normal ?_
                go_wp2
                go_roundw
                case rel => exact ⟨j + 1, by omega, by go_num, E2⟩
                case measure => simp [intOf]; omega
              | true =>
                have HC : Hid (chB SF4 false [] kn y.node y.body.xs x.tag.xs = true) := hc.symm
                have HSA : Hid (saB SF4 false y.node y.body.xs = true) := by
                  show _ = _
                  unfold chB at hc
                  cases h : saB SF4 false y.node y.body.xs with
                  | true => rfl
                  | false => rw [h] at hc; simp at hc
                clear hc
                go_wp2_with fail
                obtain ⟨wd, hwd⟩ : ∃ wd, wd = wr.drew := ⟨_, rfl⟩
                have E0 : Below W4.heap.size W4 wd := by rw [hwd]; exact E.drew
                have F0 : Below w.heap.size w wd := B4.trans (E0.mono tS)
                refine wp_region_noPanic ?_
                refine wp_region_held_drew (S := fun V => V.cell? ⟨b, off + j * 4 + 1, none⟩ = some (.int .u64 y.node) ∧ V.cell? ⟨b, off + j * 4 + 2, none⟩ = some (.slice y.body.ao y.body.n y.body.cap) ∧ V.cell? ⟨xb, 3, none⟩ = some (.slice x.tag.ao x.tag.n x.tag.cap)) (by kernel_rfl) (HS.out _ E.drew) (fun hH => ?_)
                rw [← hwd] at hH ⊢
                clear hwd
                refine hr_take_w 0 (some 60) (.pointer (some ⟨p, 0, none⟩)) rfl rfl (by kernel_rfl) (by kernel_rfl) (by kernel_rfl) rfl (fun W hW => by obtain ⟨h1, h2, h3⟩ := hW; go_simp) hH ?_
                simp only [Act.put, List.setIfInBounds_toArray, List.set_cons_zero, List.set_cons_succ]
                refine hr_take_w 1 (some 61) (.slice (some ⟨b, off, none⟩) n cap) rfl rfl (by kernel_rfl) (by kernel_rfl) (by kernel_rfl) rfl (fun W hW => by obtain ⟨h1, h2, h3⟩ := hW; go_simp) hH ?_
                simp only [Act.put, List.setIfInBounds_toArray, List.set_cons_zero, List.set_cons_succ]
                refine hr_take_w 2 (some 62) (.int .i64 j) rfl rfl (by kernel_rfl) (by kernel_rfl) (by kernel_rfl) rfl (fun W hW => by obtain ⟨h1, h2, h3⟩ := hW; go_simp) hH ?_
                simp only [Act.put, List.setIfInBounds_toArray, List.set_cons_zero, List.set_cons_succ]
                refine hr_take_w 3 (some 63) (.pointer (some ⟨b, off + j * 4, none⟩)) rfl rfl (by kernel_rfl) (by kernel_rfl) (by kernel_rfl) rfl (fun W hW => by obtain ⟨h1, h2, h3⟩ := hW; go_simp) hH ?_
                simp only [Act.put, List.setIfInBounds_toArray, List.set_cons_zero, List.set_cons_succ]
                refine hr_take_w 4 (some 64) (.pointer (some ⟨b, off + j * 4 + 1, none⟩)) rfl rfl (by kernel_rfl) (by kernel_rfl) (by kernel_rfl) rfl (fun W hW => by obtain ⟨h1, h2, h3⟩ := hW; go_simp) hH ?_
                simp only [Act.put, List.setIfInBounds_toArray, List.set_cons_zero, List.set_cons_succ]
                refine hr_take_w 5 (some 65) (.int .u64 y.node) rfl rfl (by kernel_rfl) (by kernel_rfl) (by kernel_rfl) rfl (fun W hW => by obtain ⟨h1, h2, h3⟩ := hW; go_simp) hH ?_
                simp only [Act.put, List.setIfInBounds_toArray, List.set_cons_zero, List.set_cons_succ]
                refine hr_take_w 6 (some 66) (.slice (some ⟨b, off, none⟩) n cap) rfl rfl (by kernel_rfl) (by kernel_rfl) (by kernel_rfl) rfl (fun W hW => by obtain ⟨h1, h2, h3⟩ := hW; go_simp) hH ?_
                simp only [Act.put, List.setIfInBounds_toArray, List.set_cons_zero, List.set_cons_succ]
                refine hr_take_w 7 (some 67) (.int .i64 j) rfl rfl (by kernel_rfl) (by kernel_rfl) (by kernel_rfl) rfl (fun W hW => by obtain ⟨h1, h2, h3⟩ := hW; go_simp) hH ?_
                simp only [Act.put, List.setIfInBounds_toArray, List.set_cons_zero, List.set_cons_succ]
                refine hr_take_w 8 (some 68) (.pointer (some ⟨b, off + j * 4, none⟩)) rfl rfl (by kernel_rfl) (by kernel_rfl) (by kernel_rfl) rfl (fun W hW => by obtain ⟨h1, h2, h3⟩ := hW; go_simp) hH ?_
                simp only [Act.put, List.setIfInBounds_toArray, List.set_cons_zero, List.set_cons_succ]
                refine hr_take_w 9 (some 69) (.pointer (some ⟨b, off + j * 4 + 2, none⟩)) rfl rfl (by kernel_rfl) (by kernel_rfl) (by kernel_rfl) rfl (fun W hW => by obtain ⟨h1, h2, h3⟩ := hW; go_simp) hH ?_
                simp only [Act.put, List.setIfInBounds_toArray, List.set_cons_zero, List.set_cons_succ]
                refine hr_take_w 10 (some 70) (.slice y.body.ao y.body.n y.body.cap) rfl rfl (by kernel_rfl) (by kernel_rfl) (by kernel_rfl) rfl (fun W hW => by obtain ⟨h1, h2, h3⟩ := hW; go_simp) hH ?_
                simp only [Act.put, List.setIfInBounds_toArray, List.set_cons_zero, List.set_cons_succ]
                refine hr_take_w 11 (some 71) (.pointer (some ⟨xb, 3, none⟩)) rfl rfl (by kernel_rfl) (by kernel_rfl) (by kernel_rfl) rfl (fun W hW => by obtain ⟨h1, h2, h3⟩ := hW; go_simp) hH ?_
                simp only [Act.put, List.setIfInBounds_toArray, List.set_cons_zero, List.set_cons_succ]
                refine hr_take_w 12 (some 72) (.slice x.tag.ao x.tag.n x.tag.cap) rfl rfl (by kernel_rfl) (by kernel_rfl) (by kernel_rfl) rfl (fun W hW => by obtain ⟨h1, h2, h3⟩ := hW; go_simp) hH ?_
                simp only [Act.put, List.setIfInBounds_toArray, List.set_cons_zero, List.set_cons_succ]
                refine hr_call_w 13 (some 73) 22 #[.pointer (some ⟨p, 0, none⟩), .int .u64 y.node, .slice y.body.ao y.body.n y.body.cap, .slice x.tag.ao x.tag.n x.tag.cap] rfl rfl (by kernel_rfl) rfl (by go_simp) (fun v w' => v = .bool false ∧ Below wd.heap.size wd w') ((forged_any _ p mk ms false nk m4 KF SF4 [] kn y.node y.body.ao y.body.n y.body.cap y.body.xs x.tag.ao x.tag.n x.tag.cap x.tag.xs (K4.below E0) (N4.below E0) (hT.below F0 h2) yn (SB.below E0) (by omega) (ST.below E0) U4).mono (by
                  rintro e w' ⟨rfl, C⟩
                  exact ⟨_, rfl, by rw [HF.out], C⟩)) ?_
                rintro v v1 ⟨rfl, C1⟩
                have E1 := E0.trans (C1.mono E0.size)
                have F1 : Below w.heap.size w v1 := B4.trans (E1.mono tS)
                have S1 := HS.out v1 E1
                refine ⟨S1, ?_⟩
                simp only [Act.put, List.setIfInBounds_toArray, List.set_cons_zero, List.set_cons_succ]
                refine hr_take_w 14 (some 74) (.bool false) rfl rfl (by kernel_rfl) (by kernel_rfl) (by kernel_rfl) rfl (fun W hW => by obtain ⟨h1, h2, h3⟩ := hW; go_simp) S1 ?_
                simp only [Act.put, List.setIfInBounds_toArray, List.set_cons_zero, List.set_cons_succ]
                refine hr_take_w 15 (some 75) (.pointer (some ⟨p, 0, none⟩)) rfl rfl (by kernel_rfl) (by kernel_rfl) (by kernel_rfl) rfl (fun W hW => by obtain ⟨h1, h2, h3⟩ := hW; go_simp) S1 ?_
                simp only [Act.put, List.setIfInBounds_toArray, List.set_cons_zero, List.set_cons_succ]
                refine hr_take_w 16 (some 76) (.slice (some ⟨b, off, none⟩) n cap) rfl rfl (by kernel_rfl) (by kernel_rfl) (by kernel_rfl) rfl (fun W hW => by obtain ⟨h1, h2, h3⟩ := hW; go_simp) S1 ?_
                simp only [Act.put, List.setIfInBounds_toArray, List.set_cons_zero, List.set_cons_succ]
                refine hr_take_w 17 (some 77) (.int .i64 j) rfl rfl (by kernel_rfl) (by kernel_rfl) (by kernel_rfl) rfl (fun W hW => by obtain ⟨h1, h2, h3⟩ := hW; go_simp) S1 ?_
                simp only [Act.put, List.setIfInBounds_toArray, List.set_cons_zero, List.set_cons_succ]
                refine hr_take_w 18 (some 78) (.pointer (some ⟨b, off + j * 4, none⟩)) rfl rfl (by kernel_rfl) (by kernel_rfl) (by kernel_rfl) rfl (fun W hW => by obtain ⟨h1, h2, h3⟩ := hW; go_simp) S1 ?_
                simp only [Act.put, List.setIfInBounds_toArray, List.set_cons_zero, List.set_cons_succ]
                refine hr_take_w 19 (some 79) (.pointer (some ⟨b, off + j * 4 + 1, none⟩)) rfl rfl (by kernel_rfl) (by kernel_rfl) (by kernel_rfl) rfl (fun W hW => by obtain ⟨h1, h2, h3⟩ := hW; go_simp) S1 ?_
                simp only [Act.put, List.setIfInBounds_toArray, List.set_cons_zero, List.set_cons_succ]
                refine hr_take_w 20 (some 80) (.int .u64 y.node) rfl rfl (by kernel_rfl) (by kernel_rfl) (by kernel_rfl) rfl (fun W hW => by obtain ⟨h1, h2, h3⟩ := hW; go_simp) S1 ?_
                simp only [Act.put, List.setIfInBounds_toArray, List.set_cons_zero, List.set_cons_succ]
                refine hr_take_w 21 (some 81) (.slice (some ⟨b, off, none⟩) n cap) rfl rfl (by kernel_rfl) (by kernel_rfl) (by kernel_rfl) rfl (fun W hW => by obtain ⟨h1, h2, h3⟩ := hW; go_simp) S1 ?_
                simp only [Act.put, List.setIfInBounds_toArray, List.set_cons_zero, List.set_cons_succ]
                refine hr_take_w 22 (some 82) (.int .i64 j) rfl rfl (by kernel_rfl) (by kernel_rfl) (by kernel_rfl) rfl (fun W hW => by obtain ⟨h1, h2, h3⟩ := hW; go_simp) S1 ?_
                simp only [Act.put, List.setIfInBounds_toArray, List.set_cons_zero, List.set_cons_succ]
                refine hr_take_w 23 (some 83) (.pointer (some ⟨b, off + j * 4, none⟩)) rfl rfl (by kernel_rfl) (by kernel_rfl) (by kernel_rfl) rfl (fun W hW => by obtain ⟨h1, h2, h3⟩ := hW; go_simp) S1 ?_
                simp only [Act.put, List.setIfInBounds_toArray, List.set_cons_zero, List.set_cons_succ]
                refine hr_take_w 24 (some 84) (.pointer (some ⟨b, off + j * 4 + 2, none⟩)) rfl rfl (by kernel_rfl) (by kernel_rfl) (by kernel_rfl) rfl (fun W hW => by obtain ⟨h1, h2, h3⟩ := hW; go_simp) S1 ?_
                simp only [Act.put, List.setIfInBounds_toArray, List.set_cons_zero, List.set_cons_succ]
                refine hr_take_w 25 (some 85) (.slice y.body.ao y.body.n y.body.cap) rfl rfl (by kernel_rfl) (by kernel_rfl) (by kernel_rfl) rfl (fun W hW => by obtain ⟨h1, h2, h3⟩ := hW; go_simp) S1 ?_
                simp only [Act.put, List.setIfInBounds_toArray, List.set_cons_zero, List.set_cons_succ]
                refine hr_take_w 26 (some 86) (.pointer (some ⟨xb, 3, none⟩)) rfl rfl (by kernel_rfl) (by kernel_rfl) (by kernel_rfl) rfl (fun W hW => by obtain ⟨h1, h2, h3⟩ := hW; go_simp) S1 ?_
                simp only [Act.put, List.setIfInBounds_toArray, List.set_cons_zero, List.set_cons_succ]
                refine hr_take_w 27 (some 87) (.slice x.tag.ao x.tag.n x.tag.cap) rfl rfl (by kernel_rfl) (by kernel_rfl) (by kernel_rfl) rfl (fun W hW => by obtain ⟨h1, h2, h3⟩ := hW; go_simp) S1 ?_
                simp only [Act.put, List.setIfInBounds_toArray, List.set_cons_zero, List.set_cons_succ]
                refine hr_call_w 28 (some 88) 20 #[.pointer (some ⟨p, 0, none⟩), .int .u64 y.node, .slice y.body.ao y.body.n y.body.cap, .slice x.tag.ao x.tag.n x.tag.cap] rfl rfl (by kernel_rfl) rfl (by go_simp) (fun v w' => v = .bool true ∧ Below v1.heap.size v1 w') ((check_any v1 p mk ms false nk m4 KF SF4 [] kn y.node y.body.ao y.body.n y.body.cap y.body.xs x.tag.ao x.tag.n x.tag.cap x.tag.xs (K4.below E1) (N4.below E1) (hT.below F1 h2) yn (SB.below E1) (by omega) (ST.below E1) U4).mono (by
                  rintro e w' ⟨rfl, C⟩
                  exact ⟨_, rfl, by rw [HC.out], C⟩)) ?_
                rintro v v2 ⟨rfl, C2⟩
                have E2 := E1.trans (C2.mono E1.size)
                have F2 : Below w.heap.size w v2 := B4.trans (E2.mono tS)
                have S2 := HS.out v2 E2
                refine ⟨S2, ?_⟩
                simp only [Act.put, List.setIfInBounds_toArray, List.set_cons_zero, List.set_cons_succ]
                refine hr_take_w 29 (some 89) (.bool true) rfl rfl (by kernel_rfl) (by kernel_rfl) (by kernel_rfl) rfl (fun W hW => by obtain ⟨h1, h2, h3⟩ := hW; go_simp) S2 ?_
                simp only [Act.put, List.setIfInBounds_toArray, List.set_cons_zero, List.set_cons_succ]
                refine hr_take_w 30 (some 90) (.pointer (some ⟨p, 0, none⟩)) rfl rfl (by kernel_rfl) (by kernel_rfl) (by kernel_rfl) rfl (fun W hW => by obtain ⟨h1, h2, h3⟩ := hW; go_simp) S2 ?_
                simp only [Act.put, List.setIfInBounds_toArray, List.set_cons_zero, List.set_cons_succ]
                refine hr_take_w 31 (some 91) (.slice (some ⟨b, off, none⟩) n cap) rfl rfl (by kernel_rfl) (by kernel_rfl) (by kernel_rfl) rfl (fun W hW => by obtain ⟨h1, h2, h3⟩ := hW; go_simp) S2 ?_
                simp only [Act.put, List.setIfInBounds_toArray, List.set_cons_zero, List.set_cons_succ]
                refine hr_take_w 32 (some 92) (.int .i64 j) rfl rfl (by kernel_rfl) (by kernel_rfl) (by kernel_rfl) rfl (fun W hW => by obtain ⟨h1, h2, h3⟩ := hW; go_simp) S2 ?_
                simp only [Act.put, List.setIfInBounds_toArray, List.set_cons_zero, List.set_cons_succ]
                refine hr_take_w 33 (some 93) (.pointer (some ⟨b, off + j * 4, none⟩)) rfl rfl (by kernel_rfl) (by kernel_rfl) (by kernel_rfl) rfl (fun W hW => by obtain ⟨h1, h2, h3⟩ := hW; go_simp) S2 ?_
                simp only [Act.put, List.setIfInBounds_toArray, List.set_cons_zero, List.set_cons_succ]
                refine hr_take_w 34 (some 94) (.pointer (some ⟨b, off + j * 4 + 1, none⟩)) rfl rfl (by kernel_rfl) (by kernel_rfl) (by kernel_rfl) rfl (fun W hW => by obtain ⟨h1, h2, h3⟩ := hW; go_simp) S2 ?_
                simp only [Act.put, List.setIfInBounds_toArray, List.set_cons_zero, List.set_cons_succ]
                refine hr_take_w 35 (some 95) (.int .u64 y.node) rfl rfl (by kernel_rfl) (by kernel_rfl) (by kernel_rfl) rfl (fun W hW => by obtain ⟨h1, h2, h3⟩ := hW; go_simp) S2 ?_
                simp only [Act.put, List.setIfInBounds_toArray, List.set_cons_zero, List.set_cons_succ]
                refine hr_take_w 36 (some 96) (.slice (some ⟨b, off, none⟩) n cap) rfl rfl (by kernel_rfl) (by kernel_rfl) (by kernel_rfl) rfl (fun W hW => by obtain ⟨h1, h2, h3⟩ := hW; go_simp) S2 ?_
                simp only [Act.put, List.setIfInBounds_toArray, List.set_cons_zero, List.set_cons_succ]
                refine hr_take_w 37 (some 97) (.int .i64 j) rfl rfl (by kernel_rfl) (by kernel_rfl) (by kernel_rfl) rfl (fun W hW => by obtain ⟨h1, h2, h3⟩ := hW; go_simp) S2 ?_
                simp only [Act.put, List.setIfInBounds_toArray, List.set_cons_zero, List.set_cons_succ]
                refine hr_take_w 38 (some 98) (.pointer (some ⟨b, off + j * 4, none⟩)) rfl rfl (by kernel_rfl) (by kernel_rfl) (by kernel_rfl) rfl (fun W hW => by obtain ⟨h1, h2, h3⟩ := hW; go_simp) S2 ?_
                simp only [Act.put, List.setIfInBounds_toArray, List.set_cons_zero, List.set_cons_succ]
                refine hr_take_w 39 (some 99) (.pointer (some ⟨b, off + j * 4 + 2, none⟩)) rfl rfl (by kernel_rfl) (by kernel_rfl) (by kernel_rfl) rfl (fun W hW => by obtain ⟨h1, h2, h3⟩ := hW; go_simp) S2 ?_
                simp only [Act.put, List.setIfInBounds_toArray, List.set_cons_zero, List.set_cons_succ]
                refine hr_take_w 40 (some 100) (.slice y.body.ao y.body.n y.body.cap) rfl rfl (by kernel_rfl) (by kernel_rfl) (by kernel_rfl) rfl (fun W hW => by obtain ⟨h1, h2, h3⟩ := hW; go_simp) S2 ?_
                simp only [Act.put, List.setIfInBounds_toArray, List.set_cons_zero, List.set_cons_succ]
                refine hr_call_w 41 (some 101) 21 #[.pointer (some ⟨p, 0, none⟩), .int .u64 y.node, .slice y.body.ao y.body.n y.body.cap] rfl rfl (by kernel_rfl) rfl (by go_simp) (fun v w' => v = .bool true ∧ Below v2.heap.size v2 w') ((said_any v2 p mk ms false nk m4 KF SF4 y.node y.body.ao y.body.n y.body.cap y.body.xs (K4.below E2) (hT.below F2 h2) yn (SB.below E2) (by omega) U4).mono (by
                  rintro e w' ⟨rfl, C⟩
                  exact ⟨_, rfl, by rw [show (SF4 (sv y.node (dgL false y.node y.body.xs))).isSome = true from HSA.out], C⟩)) ?_
                rintro v v3 ⟨rfl, C3⟩
                have E3 := E2.trans (C3.mono E2.size)
                have S3 := HS.out v3 E3
                refine ⟨S3, ?_⟩
                simp only [Act.put, List.setIfInBounds_toArray, List.set_cons_zero, List.set_cons_succ]
                refine hr_take_w 42 (some 102) (.bool false) rfl rfl (by kernel_rfl) (by kernel_rfl) (by kernel_rfl) rfl (fun W hW => by obtain ⟨h1, h2, h3⟩ := hW; go_simp) S3 ?_
                simp only [Act.put, List.setIfInBounds_toArray, List.set_cons_zero, List.set_cons_succ]
                refine hr_take_w 43 (some 103) (.bool false) rfl rfl (by kernel_rfl) (by kernel_rfl) (by kernel_rfl) rfl (fun W hW => by obtain ⟨h1, h2, h3⟩ := hW; go_simp) S3 ?_
                simp only [Act.put, List.setIfInBounds_toArray, List.set_cons_zero, List.set_cons_succ]
                refine hr_take_w 44 (some 104) (.bool false) rfl rfl (by kernel_rfl) (by kernel_rfl) (by kernel_rfl) rfl (fun W hW => by obtain ⟨h1, h2, h3⟩ := hW; go_simp) S3 ?_
                simp only [Act.put, List.setIfInBounds_toArray, List.set_cons_zero, List.set_cons_succ]
                refine wpAnyH_done (by kernel_rfl) ?_ _
                refine NoPanic.normal ?_
                go_wp2
                go_roundw
                case rel => exact ⟨j + 1, by omega, by go_num, E3⟩
                case measure => simp [intOf]; omega
            · have hge : (n : Int) ≤ (j : Int) := by omega
              have FE : Below w.heap.size w wr := B4.trans (E.mono tS)
              go_wp2
              go_roundw
              case rel => exact ⟨k + 1, _, SF4, by omega, hm4, by go_num, FE, K4.below E, N4.below E, U4⟩
              case measure => simp [intOf]; omega
        · have hkf : (KF (.int .u64 x.node)).isSome = false := (N3.isSome xn).trans (by simpa using hkn)
          refine (tag_unknown W3 p mk ms false nk m KF SF x.node _ K3 xn hkf).mono ?_
          rintro e w' ⟨rfl, hw⟩
          obtain rfl := hw.symm
          clear hw
          go_wp2_with fail
          have tS := B3.size
          go_wp2_with fail
          go_loopw [9] (fun i wz => ∃ j : Nat, j ≤ n ∧ i = .int .i64 j ∧ Below W3.heap.size W3 wz) (fun i _ => n - (intOf i).toNat)
          case atStart => exact ⟨0, by omega, rfl, Below.refl _ _⟩
          case round =>
            obtain ⟨j, hj, rfl, E⟩ := hrel
            have F0' : Below w.heap.size w wr := B3.trans (E.mono tS)
            by_cases hjt : j < n
            · have hji : (j : Int) < (n : Int) := by omega
              have hjl : j < os.length := by omega
              obtain ⟨y, hy⟩ : ∃ y, y = os[j] := ⟨_, rfl⟩
              have HY : Hid (y = os[j]) := hy
              have SB := (hO.sl os[j] (List.getElem_mem hjl)).1.below B3
              have yn := (hO.sl os[j] (List.getElem_mem hjl)).2.2
              have yb := (hq os[j] (List.getElem_mem hjl)).1
              have ST := SX.below B3
              have HS : Hid (∀ V : World, Below W3.heap.size W3 V → V.cell? ⟨b, off + j * 4 + 1, none⟩ = some (.int .u64 y.node) ∧ V.cell? ⟨b, off + j * 4 + 2, none⟩ = some (.slice y.body.ao y.body.n y.body.cap) ∧ V.cell? ⟨xb, 3, none⟩ = some (.slice x.tag.ao x.tag.n x.tag.cap)) := by
                intro V hV
                have hc := HCL.out V (B3.trans (hV.mono tS)) j hjl
                rw [← hy] at hc
                exact ⟨hc.2.1, hc.2.2.1, (hV.cell (World.block_lt_of_cell? _ _ CT)).trans CT⟩
              rw [← hy] at SB yn yb
              clear hy
              have HF : Hid ((chB SF false [] kn y.node y.body.xs x.tag.xs && !saB SF false y.node y.body.xs) = false) := by
                show _ = _
                unfold chB
                cases saB SF false y.node y.body.xs <;> simp
              obtain ⟨c, hc⟩ : ∃ c, c = chB SF false [] kn y.node y.body.xs x.tag.xs := ⟨_, rfl⟩
              cases c with
              | false =>
                have HC : Hid (chB SF false [] kn y.node y.body.xs x.tag.xs = false) := hc.symm
                clear hc
                go_wp2_with fail
                obtain ⟨wd, hwd⟩ : ∃ wd, wd = wr.drew := ⟨_, rfl⟩
                have E0 : Below W3.heap.size W3 wd := by rw [hwd]; exact E.drew
                have F0 : Below w.heap.size w wd := B3.trans (E0.mono tS)
                refine wp_region_noPanic ?_
                refine wp_region_held_drew (S := fun V => V.cell? ⟨b, off + j * 4 + 1, none⟩ = some (.int .u64 y.node) ∧ V.cell? ⟨b, off + j * 4 + 2, none⟩ = some (.slice y.body.ao y.body.n y.body.cap) ∧ V.cell? ⟨xb, 3, none⟩ = some (.slice x.tag.ao x.tag.n x.tag.cap)) (by kernel_rfl) (HS.out _ E.drew) (fun hH => ?_)
                rw [← hwd] at hH ⊢
                clear hwd
                refine hr_take_w 0 (some 60) (.pointer (some ⟨p, 0, none⟩)) rfl rfl (by kernel_rfl) (by kernel_rfl) (by kernel_rfl) rfl (fun W hW => by obtain ⟨h1, h2, h3⟩ := hW; go_simp) hH ?_
                simp only [Act.put, List.setIfInBounds_toArray, List.set_cons_zero, List.set_cons_succ]
                refine hr_take_w 1 (some 61) (.slice (some ⟨b, off, none⟩) n cap) rfl rfl (by kernel_rfl) (by kernel_rfl) (by kernel_rfl) rfl (fun W hW => by obtain ⟨h1, h2, h3⟩ := hW; go_simp) hH ?_
                simp only [Act.put, List.setIfInBounds_toArray, List.set_cons_zero, List.set_cons_succ]
                refine hr_take_w 2 (some 62) (.int .i64 j) rfl rfl (by kernel_rfl) (by kernel_rfl) (by kernel_rfl) rfl (fun W hW => by obtain ⟨h1, h2, h3⟩ := hW; go_simp) hH ?_
                simp only [Act.put, List.setIfInBounds_toArray, List.set_cons_zero, List.set_cons_succ]
                refine hr_take_w 3 (some 63) (.pointer (some ⟨b, off + j * 4, none⟩)) rfl rfl (by kernel_rfl) (by kernel_rfl) (by kernel_rfl) rfl (fun W hW => by obtain ⟨h1, h2, h3⟩ := hW; go_simp) hH ?_
                simp only [Act.put, List.setIfInBounds_toArray, List.set_cons_zero, List.set_cons_succ]
                refine hr_take_w 4 (some 64) (.pointer (some ⟨b, off + j * 4 + 1, none⟩)) rfl rfl (by kernel_rfl) (by kernel_rfl) (by kernel_rfl) rfl (fun W hW => by obtain ⟨h1, h2, h3⟩ := hW; go_simp) hH ?_
                simp only [Act.put, List.setIfInBounds_toArray, List.set_cons_zero, List.set_cons_succ]
                refine hr_take_w 5 (some 65) (.int .u64 y.node) rfl rfl (by kernel_rfl) (by kernel_rfl) (by kernel_rfl) rfl (fun W hW => by obtain ⟨h1, h2, h3⟩ := hW; go_simp) hH ?_
                simp only [Act.put, List.setIfInBounds_toArray, List.set_cons_zero, List.set_cons_succ]
                refine hr_take_w 6 (some 66) (.slice (some ⟨b, off, none⟩) n cap) rfl rfl (by kernel_rfl) (by kernel_rfl) (by kernel_rfl) rfl (fun W hW => by obtain ⟨h1, h2, h3⟩ := hW; go_simp) hH ?_
                simp only [Act.put, List.setIfInBounds_toArray, List.set_cons_zero, List.set_cons_succ]
                refine hr_take_w 7 (some 67) (.int .i64 j) rfl rfl (by kernel_rfl) (by kernel_rfl) (by kernel_rfl) rfl (fun W hW => by obtain ⟨h1, h2, h3⟩ := hW; go_simp) hH ?_
                simp only [Act.put, List.setIfInBounds_toArray, List.set_cons_zero, List.set_cons_succ]
                refine hr_take_w 8 (some 68) (.pointer (some ⟨b, off + j * 4, none⟩)) rfl rfl (by kernel_rfl) (by kernel_rfl) (by kernel_rfl) rfl (fun W hW => by obtain ⟨h1, h2, h3⟩ := hW; go_simp) hH ?_
                simp only [Act.put, List.setIfInBounds_toArray, List.set_cons_zero, List.set_cons_succ]
                refine hr_take_w 9 (some 69) (.pointer (some ⟨b, off + j * 4 + 2, none⟩)) rfl rfl (by kernel_rfl) (by kernel_rfl) (by kernel_rfl) rfl (fun W hW => by obtain ⟨h1, h2, h3⟩ := hW; go_simp) hH ?_
                simp only [Act.put, List.setIfInBounds_toArray, List.set_cons_zero, List.set_cons_succ]
                refine hr_take_w 10 (some 70) (.slice y.body.ao y.body.n y.body.cap) rfl rfl (by kernel_rfl) (by kernel_rfl) (by kernel_rfl) rfl (fun W hW => by obtain ⟨h1, h2, h3⟩ := hW; go_simp) hH ?_
                simp only [Act.put, List.setIfInBounds_toArray, List.set_cons_zero, List.set_cons_succ]
                refine hr_take_w 11 (some 71) (.pointer (some ⟨xb, 3, none⟩)) rfl rfl (by kernel_rfl) (by kernel_rfl) (by kernel_rfl) rfl (fun W hW => by obtain ⟨h1, h2, h3⟩ := hW; go_simp) hH ?_
                simp only [Act.put, List.setIfInBounds_toArray, List.set_cons_zero, List.set_cons_succ]
                refine hr_take_w 12 (some 72) (.slice x.tag.ao x.tag.n x.tag.cap) rfl rfl (by kernel_rfl) (by kernel_rfl) (by kernel_rfl) rfl (fun W hW => by obtain ⟨h1, h2, h3⟩ := hW; go_simp) hH ?_
                simp only [Act.put, List.setIfInBounds_toArray, List.set_cons_zero, List.set_cons_succ]
                refine hr_call_w 13 (some 73) 22 #[.pointer (some ⟨p, 0, none⟩), .int .u64 y.node, .slice y.body.ao y.body.n y.body.cap, .slice x.tag.ao x.tag.n x.tag.cap] rfl rfl (by kernel_rfl) rfl (by go_simp) (fun v w' => v = .bool false ∧ Below wd.heap.size wd w') ((forged_any _ p mk ms false nk m KF SF [] kn y.node y.body.ao y.body.n y.body.cap y.body.xs x.tag.ao x.tag.n x.tag.cap x.tag.xs (K3.below E0) (N3.below E0) (hT.below F0 h2) yn (SB.below E0) (by omega) (ST.below E0) U2).mono (by
                  rintro e w' ⟨rfl, C⟩
                  exact ⟨_, rfl, by rw [HF.out], C⟩)) ?_
                rintro v v1 ⟨rfl, C1⟩
                have E1 := E0.trans (C1.mono E0.size)
                have F1 : Below w.heap.size w v1 := B3.trans (E1.mono tS)
                have S1 := HS.out v1 E1
                refine ⟨S1, ?_⟩
                simp only [Act.put, List.setIfInBounds_toArray, List.set_cons_zero, List.set_cons_succ]
                refine hr_take_w 14 (some 74) (.bool false) rfl rfl (by kernel_rfl) (by kernel_rfl) (by kernel_rfl) rfl (fun W hW => by obtain ⟨h1, h2, h3⟩ := hW; go_simp) S1 ?_
                simp only [Act.put, List.setIfInBounds_toArray, List.set_cons_zero, List.set_cons_succ]
                refine hr_take_w 15 (some 75) (.pointer (some ⟨p, 0, none⟩)) rfl rfl (by kernel_rfl) (by kernel_rfl) (by kernel_rfl) rfl (fun W hW => by obtain ⟨h1, h2, h3⟩ := hW; go_simp) S1 ?_
                simp only [Act.put, List.setIfInBounds_toArray, List.set_cons_zero, List.set_cons_succ]
                refine hr_take_w 16 (some 76) (.slice (some ⟨b, off, none⟩) n cap) rfl rfl (by kernel_rfl) (by kernel_rfl) (by kernel_rfl) rfl (fun W hW => by obtain ⟨h1, h2, h3⟩ := hW; go_simp) S1 ?_
                simp only [Act.put, List.setIfInBounds_toArray, List.set_cons_zero, List.set_cons_succ]
                refine hr_take_w 17 (some 77) (.int .i64 j) rfl rfl (by kernel_rfl) (by kernel_rfl) (by kernel_rfl) rfl (fun W hW => by obtain ⟨h1, h2, h3⟩ := hW; go_simp) S1 ?_
                simp only [Act.put, List.setIfInBounds_toArray, List.set_cons_zero, List.set_cons_succ]
                refine hr_take_w 18 (some 78) (.pointer (some ⟨b, off + j * 4, none⟩)) rfl rfl (by kernel_rfl) (by kernel_rfl) (by kernel_rfl) rfl (fun W hW => by obtain ⟨h1, h2, h3⟩ := hW; go_simp) S1 ?_
                simp only [Act.put, List.setIfInBounds_toArray, List.set_cons_zero, List.set_cons_succ]
                refine hr_take_w 19 (some 79) (.pointer (some ⟨b, off + j * 4 + 1, none⟩)) rfl rfl (by kernel_rfl) (by kernel_rfl) (by kernel_rfl) rfl (fun W hW => by obtain ⟨h1, h2, h3⟩ := hW; go_simp) S1 ?_
                simp only [Act.put, List.setIfInBounds_toArray, List.set_cons_zero, List.set_cons_succ]
                refine hr_take_w 20 (some 80) (.int .u64 y.node) rfl rfl (by kernel_rfl) (by kernel_rfl) (by kernel_rfl) rfl (fun W hW => by obtain ⟨h1, h2, h3⟩ := hW; go_simp) S1 ?_
                simp only [Act.put, List.setIfInBounds_toArray, List.set_cons_zero, List.set_cons_succ]
                refine hr_take_w 21 (some 81) (.slice (some ⟨b, off, none⟩) n cap) rfl rfl (by kernel_rfl) (by kernel_rfl) (by kernel_rfl) rfl (fun W hW => by obtain ⟨h1, h2, h3⟩ := hW; go_simp) S1 ?_
                simp only [Act.put, List.setIfInBounds_toArray, List.set_cons_zero, List.set_cons_succ]
                refine hr_take_w 22 (some 82) (.int .i64 j) rfl rfl (by kernel_rfl) (by kernel_rfl) (by kernel_rfl) rfl (fun W hW => by obtain ⟨h1, h2, h3⟩ := hW; go_simp) S1 ?_
                simp only [Act.put, List.setIfInBounds_toArray, List.set_cons_zero, List.set_cons_succ]
                refine hr_take_w 23 (some 83) (.pointer (some ⟨b, off + j * 4, none⟩)) rfl rfl (by kernel_rfl) (by kernel_rfl) (by kernel_rfl) rfl (fun W hW => by obtain ⟨h1, h2, h3⟩ := hW; go_simp) S1 ?_
                simp only [Act.put, List.setIfInBounds_toArray, List.set_cons_zero, List.set_cons_succ]
                refine hr_take_w 24 (some 84) (.pointer (some ⟨b, off + j * 4 + 2, none⟩)) rfl rfl (by kernel_rfl) (by kernel_rfl) (by kernel_rfl) rfl (fun W hW => by obtain ⟨h1, h2, h3⟩ := hW; go_simp) S1 ?_
                simp only [Act.put, List.setIfInBounds_toArray, List.set_cons_zero, List.set_cons_succ]
                refine hr_take_w 25 (some 85) (.slice y.body.ao y.body.n y.body.cap) rfl rfl (by kernel_rfl) (by kernel_rfl) (by kernel_rfl) rfl (fun W hW => by obtain ⟨h1, h2, h3⟩ := hW; go_simp) S1 ?_
                simp only [Act.put, List.setIfInBounds_toArray, List.set_cons_zero, List.set_cons_succ]
                refine hr_take_w 26 (some 86) (.pointer (some ⟨xb, 3, none⟩)) rfl rfl (by kernel_rfl) (by kernel_rfl) (by kernel_rfl) rfl (fun W hW => by obtain ⟨h1, h2, h3⟩ := hW; go_simp) S1 ?_
                simp only [Act.put, List.setIfInBounds_toArray, List.set_cons_zero, List.set_cons_succ]
                refine hr_take_w 27 (some 87) (.slice x.tag.ao x.tag.n x.tag.cap) rfl rfl (by kernel_rfl) (by kernel_rfl) (by kernel_rfl) rfl (fun W hW => by obtain ⟨h1, h2, h3⟩ := hW; go_simp) S1 ?_
                simp only [Act.put, List.setIfInBounds_toArray, List.set_cons_zero, List.set_cons_succ]
                refine hr_call_w 28 (some 88) 20 #[.pointer (some ⟨p, 0, none⟩), .int .u64 y.node, .slice y.body.ao y.body.n y.body.cap, .slice x.tag.ao x.tag.n x.tag.cap] rfl rfl (by kernel_rfl) rfl (by go_simp) (fun v w' => v = .bool false ∧ Below v1.heap.size v1 w') ((check_any v1 p mk ms false nk m KF SF [] kn y.node y.body.ao y.body.n y.body.cap y.body.xs x.tag.ao x.tag.n x.tag.cap x.tag.xs (K3.below E1) (N3.below E1) (hT.below F1 h2) yn (SB.below E1) (by omega) (ST.below E1) U2).mono (by
                  rintro e w' ⟨rfl, C⟩
                  exact ⟨_, rfl, by rw [HC.out], C⟩)) ?_
                rintro v v2 ⟨rfl, C2⟩
                have E2 := E1.trans (C2.mono E1.size)
                have F2 : Below w.heap.size w v2 := B3.trans (E2.mono tS)
                have S2 := HS.out v2 E2
                refine ⟨S2, ?_⟩
                simp only [Act.put, List.setIfInBounds_toArray, List.set_cons_zero, List.set_cons_succ]
                refine hr_take_w 29 (some 89) (.bool false) rfl rfl (by kernel_rfl) (by kernel_rfl) (by kernel_rfl) rfl (fun W hW => by obtain ⟨h1, h2, h3⟩ := hW; go_simp) S2 ?_
                simp only [Act.put, List.setIfInBounds_toArray, List.set_cons_zero, List.set_cons_succ]
                refine hr_none 30 (some 90) rfl rfl (by kernel_rfl) (by kernel_rfl) (by kernel_rfl) rfl S2 ?_
                simp only [Act.put, List.setIfInBounds_toArray, List.set_cons_zero, List.set_cons_succ]
                refine hr_none 31 (some 91) rfl rfl (by kernel_rfl) (by kernel_rfl) (by kernel_rfl) rfl S2 ?_
                simp only [Act.put, List.setIfInBounds_toArray, List.set_cons_zero, List.set_cons_succ]
                refine hr_none 32 (some 92) rfl rfl (by kernel_rfl) (by kernel_rfl) (by kernel_rfl) rfl S2 ?_
                simp only [Act.put, List.setIfInBounds_toArray, List.set_cons_zero, List.set_cons_succ]
                refine hr_none 33 (some 93) rfl rfl (by kernel_rfl) (by kernel_rfl) (by kernel_rfl) rfl S2 ?_
                simp only [Act.put, List.setIfInBounds_toArray, List.set_cons_zero, List.set_cons_succ]
                refine hr_none 34 (some 94) rfl rfl (by kernel_rfl) (by kernel_rfl) (by kernel_rfl) rfl S2 ?_
                simp only [Act.put, List.setIfInBounds_toArray, List.set_cons_zero, List.set_cons_succ]
                refine hr_none 35 (some 95) rfl rfl (by kernel_rfl) (by kernel_rfl) (by kernel_rfl) rfl S2 ?_
                simp only [Act.put, List.setIfInBounds_toArray, List.set_cons_zero, List.set_cons_succ]
                refine hr_none 36 (some 96) rfl rfl (by kernel_rfl) (by kernel_rfl) (by kernel_rfl) rfl S2 ?_
                simp only [Act.put, List.setIfInBounds_toArray, List.set_cons_zero, List.set_cons_succ]
                refine hr_none 37 (some 97) rfl rfl (by kernel_rfl) (by kernel_rfl) (by kernel_rfl) rfl S2 ?_
                simp only [Act.put, List.setIfInBounds_toArray, List.set_cons_zero, List.set_cons_succ]
                refine hr_none 38 (some 98) rfl rfl (by kernel_rfl) (by kernel_rfl) (by kernel_rfl) rfl S2 ?_
                simp only [Act.put, List.setIfInBounds_toArray, List.set_cons_zero, List.set_cons_succ]
                refine hr_none 39 (some 99) rfl rfl (by kernel_rfl) (by kernel_rfl) (by kernel_rfl) rfl S2 ?_
                simp only [Act.put, List.setIfInBounds_toArray, List.set_cons_zero, List.set_cons_succ]
                refine hr_none 40 (some 100) rfl rfl (by kernel_rfl) (by kernel_rfl) (by kernel_rfl) rfl S2 ?_
                simp only [Act.put, List.setIfInBounds_toArray, List.set_cons_zero, List.set_cons_succ]
                refine hr_none 41 (some 101) rfl rfl (by kernel_rfl) (by kernel_rfl) (by kernel_rfl) rfl S2 ?_
                simp only [Act.put, List.setIfInBounds_toArray, List.set_cons_zero, List.set_cons_succ]
                refine hr_none 42 (some 102) rfl rfl (by kernel_rfl) (by kernel_rfl) (by kernel_rfl) rfl S2 ?_
                simp only [Act.put, List.setIfInBounds_toArray, List.set_cons_zero, List.set_cons_succ]
                refine hr_take_w 43 (some 103) (.bool false) rfl rfl (by kernel_rfl) (by kernel_rfl) (by kernel_rfl) rfl (fun W hW => by obtain ⟨h1, h2, h3⟩ := hW; go_simp) S2 ?_
                simp only [Act.put, List.setIfInBounds_toArray, List.set_cons_zero, List.set_cons_succ]
                refine hr_take_w 44 (some 104) (.bool false) rfl rfl (by kernel_rfl) (by kernel_rfl) (by kernel_rfl) rfl (fun W hW => by obtain ⟨h1, h2, h3⟩ := hW; go_simp) S2 ?_
                simp only [Act.put, List.setIfInBounds_toArray, List.set_cons_zero, List.set_cons_succ]
                refine wpAnyH_done (by kernel_rfl) ?_ _
                refine NoPanic.normal ?_
                go_wp2
                go_roundw
                case rel => exact ⟨j + 1, by omega, by go_num, E2⟩
                case measure => simp [intOf]; omega
              | true =>
                have HC : Hid (chB SF false [] kn y.node y.body.xs x.tag.xs = true) := hc.symm
                have HSA : Hid (saB SF false y.node y.body.xs = true) := by
                  show _ = _
                  unfold chB at hc
                  cases h : saB SF false y.node y.body.xs with
                  | true => rfl
                  | false => rw [h] at hc; simp at hc
                clear hc
                go_wp2_with fail
                obtain ⟨wd, hwd⟩ : ∃ wd, wd = wr.drew := ⟨_, rfl⟩
                have E0 : Below W3.heap.size W3 wd := by rw [hwd]; exact E.drew
                have F0 : Below w.heap.size w wd := B3.trans (E0.mono tS)
                refine wp_region_noPanic ?_
                refine wp_region_held_drew (S := fun V => V.cell? ⟨b, off + j * 4 + 1, none⟩ = some (.int .u64 y.node) ∧ V.cell? ⟨b, off + j * 4 + 2, none⟩ = some (.slice y.body.ao y.body.n y.body.cap) ∧ V.cell? ⟨xb, 3, none⟩ = some (.slice x.tag.ao x.tag.n x.tag.cap)) (by kernel_rfl) (HS.out _ E.drew) (fun hH => ?_)
                rw [← hwd] at hH ⊢
                clear hwd
                refine hr_take_w 0 (some 60) (.pointer (some ⟨p, 0, none⟩)) rfl rfl (by kernel_rfl) (by kernel_rfl) (by kernel_rfl) rfl (fun W hW => by obtain ⟨h1, h2, h3⟩ := hW; go_simp) hH ?_
                simp only [Act.put, List.setIfInBounds_toArray, List.set_cons_zero, List.set_cons_succ]
                refine hr_take_w 1 (some 61) (.slice (some ⟨b, off, none⟩) n cap) rfl rfl (by kernel_rfl) (by kernel_rfl) (by kernel_rfl) rfl (fun W hW => by obtain ⟨h1, h2, h3⟩ := hW; go_simp) hH ?_
                simp only [Act.put, List.setIfInBounds_toArray, List.set_cons_zero, List.set_cons_succ]
                refine hr_take_w 2 (some 62) (.int .i64 j) rfl rfl (by kernel_rfl) (by kernel_rfl) (by kernel_rfl) rfl (fun W hW => by obtain ⟨h1, h2, h3⟩ := hW; go_simp) hH ?_
                simp only [Act.put, List.setIfInBounds_toArray, List.set_cons_zero, List.set_cons_succ]
                refine hr_take_w 3 (some 63) (.pointer (some ⟨b, off + j * 4, none⟩)) rfl rfl (by kernel_rfl) (by kernel_rfl) (by kernel_rfl) rfl (fun W hW => by obtain ⟨h1, h2, h3⟩ := hW; go_simp) hH ?_
                simp only [Act.put, List.setIfInBounds_toArray, List.set_cons_zero, List.set_cons_succ]
                refine hr_take_w 4 (some 64) (.pointer (some ⟨b, off + j * 4 + 1, none⟩)) rfl rfl (by kernel_rfl) (by kernel_rfl) (by kernel_rfl) rfl (fun W hW => by obtain ⟨h1, h2, h3⟩ := hW; go_simp) hH ?_
                simp only [Act.put, List.setIfInBounds_toArray, List.set_cons_zero, List.set_cons_succ]
                refine hr_take_w 5 (some 65) (.int .u64 y.node) rfl rfl (by kernel_rfl) (by kernel_rfl) (by kernel_rfl) rfl (fun W hW => by obtain ⟨h1, h2, h3⟩ := hW; go_simp) hH ?_
                simp only [Act.put, List.setIfInBounds_toArray, List.set_cons_zero, List.set_cons_succ]
                refine hr_take_w 6 (some 66) (.slice (some ⟨b, off, none⟩) n cap) rfl rfl (by kernel_rfl) (by kernel_rfl) (by kernel_rfl) rfl (fun W hW => by obtain ⟨h1, h2, h3⟩ := hW; go_simp) hH ?_
                simp only [Act.put, List.setIfInBounds_toArray, List.set_cons_zero, List.set_cons_succ]
                refine hr_take_w 7 (some 67) (.int .i64 j) rfl rfl (by kernel_rfl) (by kernel_rfl) (by kernel_rfl) rfl (fun W hW => by obtain ⟨h1, h2, h3⟩ := hW; go_simp) hH ?_
                simp only [Act.put, List.setIfInBounds_toArray, List.set_cons_zero, List.set_cons_succ]
                refine hr_take_w 8 (some 68) (.pointer (some ⟨b, off + j * 4, none⟩)) rfl rfl (by kernel_rfl) (by kernel_rfl) (by kernel_rfl) rfl (fun W hW => by obtain ⟨h1, h2, h3⟩ := hW; go_simp) hH ?_
                simp only [Act.put, List.setIfInBounds_toArray, List.set_cons_zero, List.set_cons_succ]
                refine hr_take_w 9 (some 69) (.pointer (some ⟨b, off + j * 4 + 2, none⟩)) rfl rfl (by kernel_rfl) (by kernel_rfl) (by kernel_rfl) rfl (fun W hW => by obtain ⟨h1, h2, h3⟩ := hW; go_simp) hH ?_
                simp only [Act.put, List.setIfInBounds_toArray, List.set_cons_zero, List.set_cons_succ]
                refine hr_take_w 10 (some 70) (.slice y.body.ao y.body.n y.body.cap) rfl rfl (by kernel_rfl) (by kernel_rfl) (by kernel_rfl) rfl (fun W hW => by obtain ⟨h1, h2, h3⟩ := hW; go_simp) hH ?_
                simp only [Act.put, List.setIfInBounds_toArray, List.set_cons_zero, List.set_cons_succ]
                refine hr_take_w 11 (some 71) (.pointer (some ⟨xb, 3, none⟩)) rfl rfl (by kernel_rfl) (by kernel_rfl) (by kernel_rfl) rfl (fun W hW => by obtain ⟨h1, h2, h3⟩ := hW; go_simp) hH ?_
                simp only [Act.put, List.setIfInBounds_toArray, List.set_cons_zero, List.set_cons_succ]
                refine hr_take_w 12 (some 72) (.slice x.tag.ao x.tag.n x.tag.cap) rfl rfl (by kernel_rfl) (by kernel_rfl) (by kernel_rfl) rfl (fun W hW => by obtain ⟨h1, h2, h3⟩ := hW; go_simp) hH ?_
                simp only [Act.put, List.setIfInBounds_toArray, List.set_cons_zero, List.set_cons_succ]
                refine hr_call_w 13 (some 73) 22 #[.pointer (some ⟨p, 0, none⟩), .int .u64 y.node, .slice y.body.ao y.body.n y.body.cap, .slice x.tag.ao x.tag.n x.tag.cap] rfl rfl (by kernel_rfl) rfl (by go_simp) (fun v w' => v = .bool false ∧ Below wd.heap.size wd w') ((forged_any _ p mk ms false nk m KF SF [] kn y.node y.body.ao y.body.n y.body.cap y.body.xs x.tag.ao x.tag.n x.tag.cap x.tag.xs (K3.below E0) (N3.below E0) (hT.below F0 h2) yn (SB.below E0) (by omega) (ST.below E0) U2).mono (by
                  rintro e w' ⟨rfl, C⟩
                  exact ⟨_, rfl, by rw [HF.out], C⟩)) ?_
                rintro v v1 ⟨rfl, C1⟩
                have E1 := E0.trans (C1.mono E0.size)
                have F1 : Below w.heap.size w v1 := B3.trans (E1.mono tS)
                have S1 := HS.out v1 E1
                refine ⟨S1, ?_⟩
                simp only [Act.put, List.setIfInBounds_toArray, List.set_cons_zero, List.set_cons_succ]
                refine hr_take_w 14 (some 74) (.bool false) rfl rfl (by kernel_rfl) (by kernel_rfl) (by kernel_rfl) rfl (fun W hW => by obtain ⟨h1, h2, h3⟩ := hW; go_simp) S1 ?_
                simp only [Act.put, List.setIfInBounds_toArray, List.set_cons_zero, List.set_cons_succ]
                refine hr_take_w 15 (some 75) (.pointer (some ⟨p, 0, none⟩)) rfl rfl (by kernel_rfl) (by kernel_rfl) (by kernel_rfl) rfl (fun W hW => by obtain ⟨h1, h2, h3⟩ := hW; go_simp) S1 ?_
                simp only [Act.put, List.setIfInBounds_toArray, List.set_cons_zero, List.set_cons_succ]
                refine hr_take_w 16 (some 76) (.slice (some ⟨b, off, none⟩) n cap) rfl rfl (by kernel_rfl) (by kernel_rfl) (by kernel_rfl) rfl (fun W hW => by obtain ⟨h1, h2, h3⟩ := hW; go_simp) S1 ?_
                simp only [Act.put, List.setIfInBounds_toArray, List.set_cons_zero, List.set_cons_succ]
                refine hr_take_w 17 (some 77) (.int .i64 j) rfl rfl (by kernel_rfl) (by kernel_rfl) (by kernel_rfl) rfl (fun W hW => by obtain ⟨h1, h2, h3⟩ := hW; go_simp) S1 ?_
                simp only [Act.put, List.setIfInBounds_toArray, List.set_cons_zero, List.set_cons_succ]
                refine hr_take_w 18 (some 78) (.pointer (some ⟨b, off + j * 4, none⟩)) rfl rfl (by kernel_rfl) (by kernel_rfl) (by kernel_rfl) rfl (fun W hW => by obtain ⟨h1, h2, h3⟩ := hW; go_simp) S1 ?_
                simp only [Act.put, List.setIfInBounds_toArray, List.set_cons_zero, List.set_cons_succ]
                refine hr_take_w 19 (some 79) (.pointer (some ⟨b, off + j * 4 + 1, none⟩)) rfl rfl (by kernel_rfl) (by kernel_rfl) (by kernel_rfl) rfl (fun W hW => by obtain ⟨h1, h2, h3⟩ := hW; go_simp) S1 ?_
                simp only [Act.put, List.setIfInBounds_toArray, List.set_cons_zero, List.set_cons_succ]
                refine hr_take_w 20 (some 80) (.int .u64 y.node) rfl rfl (by kernel_rfl) (by kernel_rfl) (by kernel_rfl) rfl (fun W hW => by obtain ⟨h1, h2, h3⟩ := hW; go_simp) S1 ?_
                simp only [Act.put, List.setIfInBounds_toArray, List.set_cons_zero, List.set_cons_succ]
                refine hr_take_w 21 (some 81) (.slice (some ⟨b, off, none⟩) n cap) rfl rfl (by kernel_rfl) (by kernel_rfl) (by kernel_rfl) rfl (fun W hW => by obtain ⟨h1, h2, h3⟩ := hW; go_simp) S1 ?_
                simp only [Act.put, List.setIfInBounds_toArray, List.set_cons_zero, List.set_cons_succ]
                refine hr_take_w 22 (some 82) (.int .i64 j) rfl rfl (by kernel_rfl) (by kernel_rfl) (by kernel_rfl) rfl (fun W hW => by obtain ⟨h1, h2, h3⟩ := hW; go_simp) S1 ?_
                simp only [Act.put, List.setIfInBounds_toArray, List.set_cons_zero, List.set_cons_succ]
                refine hr_take_w 23 (some 83) (.pointer (some ⟨b, off + j * 4, none⟩)) rfl rfl (by kernel_rfl) (by kernel_rfl) (by kernel_rfl) rfl (fun W hW => by obtain ⟨h1, h2, h3⟩ := hW; go_simp) S1 ?_
                simp only [Act.put, List.setIfInBounds_toArray, List.set_cons_zero, List.set_cons_succ]
                refine hr_take_w 24 (some 84) (.pointer (some ⟨b, off + j * 4 + 2, none⟩)) rfl rfl (by kernel_rfl) (by kernel_rfl) (by kernel_rfl) rfl (fun W hW => by obtain ⟨h1, h2, h3⟩ := hW; go_simp) S1 ?_
                simp only [Act.put, List.setIfInBounds_toArray, List.set_cons_zero, List.set_cons_succ]
                refine hr_take_w 25 (some 85) (.slice y.body.ao y.body.n y.body.cap) rfl rfl (by kernel_rfl) (by kernel_rfl) (by kernel_rfl) rfl (fun W hW => by obtain ⟨h1, h2, h3⟩ := hW; go_simp) S1 ?_
                simp only [Act.put, List.setIfInBounds_toArray, List.set_cons_zero, List.set_cons_succ]
                refine hr_take_w 26 (some 86) (.pointer (some ⟨xb, 3, none⟩)) rfl rfl (by kernel_rfl) (by kernel_rfl) (by kernel_rfl) rfl (fun W hW => by obtain ⟨h1, h2, h3⟩ := hW; go_simp) S1 ?_
                simp only [Act.put, List.setIfInBounds_toArray, List.set_cons_zero, List.set_cons_succ]
                refine hr_take_w 27 (some 87) (.slice x.tag.ao x.tag.n x.tag.cap) rfl rfl (by kernel_rfl) (by kernel_rfl) (by kernel_rfl) rfl (fun W hW => by obtain ⟨h1, h2, h3⟩ := hW; go_simp) S1 ?_
                simp only [Act.put, List.setIfInBounds_toArray, List.set_cons_zero, List.set_cons_succ]
                refine hr_call_w 28 (some 88) 20 #[.pointer (some ⟨p, 0, none⟩), .int .u64 y.node, .slice y.body.ao y.body.n y.body.cap, .slice x.tag.ao x.tag.n x.tag.cap] rfl rfl (by kernel_rfl) rfl (by go_simp) (fun v w' => v = .bool true ∧ Below v1.heap.size v1 w') ((check_any v1 p mk ms false nk m KF SF [] kn y.node y.body.ao y.body.n y.body.cap y.body.xs x.tag.ao x.tag.n x.tag.cap x.tag.xs (K3.below E1) (N3.below E1) (hT.below F1 h2) yn (SB.below E1) (by omega) (ST.below E1) U2).mono (by
                  rintro e w' ⟨rfl, C⟩
                  exact ⟨_, rfl, by rw [HC.out], C⟩)) ?_
                rintro v v2 ⟨rfl, C2⟩
                have E2 := E1.trans (C2.mono E1.size)
                have F2 : Below w.heap.size w v2 := B3.trans (E2.mono tS)
                have S2 := HS.out v2 E2
                refine ⟨S2, ?_⟩
                simp only [Act.put, List.setIfInBounds_toArray, List.set_cons_zero, List.set_cons_succ]
                refine hr_take_w 29 (some 89) (.bool true) rfl rfl (by kernel_rfl) (by kernel_rfl) (by kernel_rfl) rfl (fun W hW => by obtain ⟨h1, h2, h3⟩ := hW; go_simp) S2 ?_
                simp only [Act.put, List.setIfInBounds_toArray, List.set_cons_zero, List.set_cons_succ]
                refine hr_take_w 30 (some 90) (.pointer (some ⟨p, 0, none⟩)) rfl rfl (by kernel_rfl) (by kernel_rfl) (by kernel_rfl) rfl (fun W hW => by obtain ⟨h1, h2, h3⟩ := hW; go_simp) S2 ?_
                simp only [Act.put, List.setIfInBounds_toArray, List.set_cons_zero, List.set_cons_succ]
                refine hr_take_w 31 (some 91) (.slice (some ⟨b, off, none⟩) n cap) rfl rfl (by kernel_rfl) (by kernel_rfl) (by kernel_rfl) rfl (fun W hW => by obtain ⟨h1, h2, h3⟩ := hW; go_simp) S2 ?_
                simp only [Act.put, List.setIfInBounds_toArray, List.set_cons_zero, List.set_cons_succ]
                refine hr_take_w 32 (some 92) (.int .i64 j) rfl rfl (by kernel_rfl) (by kernel_rfl) (by kernel_rfl) rfl (fun W hW => by obtain ⟨h1, h2, h3⟩ := hW; go_simp) S2 ?_
                simp only [Act.put, List.setIfInBounds_toArray, List.set_cons_zero, List.set_cons_succ]
                refine hr_take_w 33 (some 93) (.pointer (some ⟨b, off + j * 4, none⟩)) rfl rfl (by kernel_rfl) (by kernel_rfl) (by kernel_rfl) rfl (fun W hW => by obtain ⟨h1, h2, h3⟩ := hW; go_simp) S2 ?_
                simp only [Act.put, List.setIfInBounds_toArray, List.set_cons_zero, List.set_cons_succ]
                refine hr_take_w 34 (some 94) (.pointer (some ⟨b, off + j * 4 + 1, none⟩)) rfl rfl (by kernel_rfl) (by kernel_rfl) (by kernel_rfl) rfl (fun W hW => by obtain ⟨h1, h2, h3⟩ := hW; go_simp) S2 ?_
                simp only [Act.put, List.setIfInBounds_toArray, List.set_cons_zero, List.set_cons_succ]
                refine hr_take_w 35 (some 95) (.int .u64 y.node) rfl rfl (by kernel_rfl) (by kernel_rfl) (by kernel_rfl) rfl (fun W hW => by obtain ⟨h1, h2, h3⟩ := hW; go_simp) S2 ?_
                simp only [Act.put, List.setIfInBounds_toArray, List.set_cons_zero, List.set_cons_succ]
                refine hr_take_w 36 (some 96) (.slice (some ⟨b, off, none⟩) n cap) rfl rfl (by kernel_rfl) (by kernel_rfl) (by kernel_rfl) rfl (fun W hW => by obtain ⟨h1, h2, h3⟩ := hW; go_simp) S2 ?_
                simp only [Act.put, List.setIfInBounds_toArray, List.set_cons_zero, List.set_cons_succ]
                refine hr_take_w 37 (some 97) (.int .i64 j) rfl rfl (by kernel_rfl) (by kernel_rfl) (by kernel_rfl) rfl (fun W hW => by obtain ⟨h1, h2, h3⟩ := hW; go_simp) S2 ?_
                simp only [Act.put, List.setIfInBounds_toArray, List.set_cons_zero, List.set_cons_succ]
                refine hr_take_w 38 (some 98) (.pointer (some ⟨b, off + j * 4, none⟩)) rfl rfl (by kernel_rfl) (by kernel_rfl) (by kernel_rfl) rfl (fun W hW => by obtain ⟨h1, h2, h3⟩ := hW; go_simp) S2 ?_
                simp only [Act.put, List.setIfInBounds_toArray, List.set_cons_zero, List.set_cons_succ]
                refine hr_take_w 39 (some 99) (.pointer (some ⟨b, off + j * 4 + 2, none⟩)) rfl rfl (by kernel_rfl) (by kernel_rfl) (by kernel_rfl) rfl (fun W hW => by obtain ⟨h1, h2, h3⟩ := hW; go_simp) S2 ?_
                simp only [Act.put, List.setIfInBounds_toArray, List.set_cons_zero, List.set_cons_succ]
                refine hr_take_w 40 (some 100) (.slice y.body.ao y.body.n y.body.cap) rfl rfl (by kernel_rfl) (by kernel_rfl) (by kernel_rfl) rfl (fun W hW => by obtain ⟨h1, h2, h3⟩ := hW; go_simp) S2 ?_
                simp only [Act.put, List.setIfInBounds_toArray, List.set_cons_zero, List.set_cons_succ]
                refine hr_call_w 41 (some 101) 21 #[.pointer (some ⟨p, 0, none⟩), .int .u64 y.node, .slice y.body.ao y.body.n y.body.cap] rfl rfl (by kernel_rfl) rfl (by go_simp) (fun v w' => v = .bool true ∧ Below v2.heap.size v2 w') ((said_any v2 p mk ms false nk m KF SF y.node y.body.ao y.body.n y.body.cap y.body.xs (K3.below E2) (hT.below F2 h2) yn (SB.below E2) (by omega) U2).mono (by
                  rintro e w' ⟨rfl, C⟩
                  exact ⟨_, rfl, by rw [show (SF (sv y.node (dgL false y.node y.body.xs))).isSome = true from HSA.out], C⟩)) ?_
                rintro v v3 ⟨rfl, C3⟩
                have E3 := E2.trans (C3.mono E2.size)
                have S3 := HS.out v3 E3
                refine ⟨S3, ?_⟩
                simp only [Act.put, List.setIfInBounds_toArray, List.set_cons_zero, List.set_cons_succ]
                refine hr_take_w 42 (some 102) (.bool false) rfl rfl (by kernel_rfl) (by kernel_rfl) (by kernel_rfl) rfl (fun W hW => by obtain ⟨h1, h2, h3⟩ := hW; go_simp) S3 ?_
                simp only [Act.put, List.setIfInBounds_toArray, List.set_cons_zero, List.set_cons_succ]
                refine hr_take_w 43 (some 103) (.bool false) rfl rfl (by kernel_rfl) (by kernel_rfl) (by kernel_rfl) rfl (fun W hW => by obtain ⟨h1, h2, h3⟩ := hW; go_simp) S3 ?_
                simp only [Act.put, List.setIfInBounds_toArray, List.set_cons_zero, List.set_cons_succ]
                refine hr_take_w 44 (some 104) (.bool false) rfl rfl (by kernel_rfl) (by kernel_rfl) (by kernel_rfl) rfl (fun W hW => by obtain ⟨h1, h2, h3⟩ := hW; go_simp) S3 ?_
                simp only [Act.put, List.setIfInBounds_toArray, List.set_cons_zero, List.set_cons_succ]
                refine wpAnyH_done (by kernel_rfl) ?_ _
                refine NoPanic.normal ?_
                go_wp2
                go_roundw
                case rel => exact ⟨j + 1, by omega, by go_num, E3⟩
                case measure => simp [intOf]; omega
            · have hge : (n : Int) ≤ (j : Int) := by omega
              have FE : Below w.heap.size w wr := B3.trans (E.mono tS)
              go_wp2
              go_roundw
              case rel => exact ⟨k + 1, _, SF, by omega, by omega, by go_num, FE, K3.below E, N3.below E, U2⟩
              case measure => simp [intOf]; omega
      · have dk : (x.kind == 0) = false := by simp; omega
        go_wp2_with fail
        have B3' : Below w.heap.size w (wr.alloc (Obj.cells #[.int .i64 x.kind, .int .u64 x.node, .slice x.body.ao x.body.n x.body.cap, .slice x.tag.ao x.tag.n x.tag.cap] 38)) := B2.alloc s2 _
        have D3' : Below wr.heap.size wr (wr.alloc (Obj.cells #[.int .i64 x.kind, .int .u64 x.node, .slice x.body.ao x.body.n x.body.cap, .slice x.tag.ao x.tag.n x.tag.cap] 38)) := (Below.refl _ wr).alloc (Nat.le_refl _) _
        have CT' : (wr.alloc (Obj.cells #[.int .i64 x.kind, .int .u64 x.node, .slice x.body.ao x.body.n x.body.cap, .slice x.tag.ao x.tag.n x.tag.cap] 38)).cell? ⟨xb, 3, none⟩ = some (.slice x.tag.ao x.tag.n x.tag.cap) := by rw [World.cell?_alloc_at _ _ _ _ hxb]; rfl
        obtain ⟨W3, hW3⟩ : ∃ W, W = wr.alloc (Obj.cells #[.int .i64 x.kind, .int .u64 x.node, .slice x.body.ao x.body.n x.body.cap, .slice x.tag.ao x.tag.n x.tag.cap] 38) := ⟨_, rfl⟩
        rw [← hW3] at B3' D3' CT' ⊢
        rw [← hxb]
        have B3 : Below w.heap.size w W3 := B3'
        have D3 : Below wr.heap.size wr W3 := D3'
        have CT : W3.cell? ⟨xb, 3, none⟩ = some (.slice x.tag.ao x.tag.n x.tag.cap) := CT'
        have K3 := K2.below D3
        have N3 := N2.below D3
        have lxb : ms < xb := by omega
        clear B3' D3' CT' hW3 K2 N2 c0 c1 c2 c3 hxb B2 D3
        have tS := B3.size
        go_wp2_with fail
        go_loopw [9] (fun i wz => ∃ j : Nat, j ≤ n ∧ i = .int .i64 j ∧ Below W3.heap.size W3 wz) (fun i _ => n - (intOf i).toNat)
        case atStart => exact ⟨0, by omega, rfl, Below.refl _ _⟩
        case round =>
          obtain ⟨j, hj, rfl, E⟩ := hrel
          have F0' : Below w.heap.size w wr := B3.trans (E.mono tS)
          by_cases hjt : j < n
          · have hji : (j : Int) < (n : Int) := by omega
            have hjl : j < os.length := by omega
            obtain ⟨y, hy⟩ : ∃ y, y = os[j] := ⟨_, rfl⟩
            have HY : Hid (y = os[j]) := hy
            have SB := (hO.sl os[j] (List.getElem_mem hjl)).1.below B3
            have yn := (hO.sl os[j] (List.getElem_mem hjl)).2.2
            have yb := (hq os[j] (List.getElem_mem hjl)).1
            have ST := SX.below B3
            have HS : Hid (∀ V : World, Below W3.heap.size W3 V → V.cell? ⟨b, off + j * 4 + 1, none⟩ = some (.int .u64 y.node) ∧ V.cell? ⟨b, off + j * 4 + 2, none⟩ = some (.slice y.body.ao y.body.n y.body.cap) ∧ V.cell? ⟨xb, 3, none⟩ = some (.slice x.tag.ao x.tag.n x.tag.cap)) := by
              intro V hV
              have hc := HCL.out V (B3.trans (hV.mono tS)) j hjl
              rw [← hy] at hc
              exact ⟨hc.2.1, hc.2.2.1, (hV.cell (World.block_lt_of_cell? _ _ CT)).trans CT⟩
            rw [← hy] at SB yn yb
            clear hy
            have HF : Hid ((chB SF false [] kn y.node y.body.xs x.tag.xs && !saB SF false y.node y.body.xs) = false) := by
              show _ = _
              unfold chB
              cases saB SF false y.node y.body.xs <;> simp
            obtain ⟨c, hc⟩ : ∃ c, c = chB SF false [] kn y.node y.body.xs x.tag.xs := ⟨_, rfl⟩
            cases c with
            | false =>
              have HC : Hid (chB SF false [] kn y.node y.body.xs x.tag.xs = false) := hc.symm
              clear hc
              go_wp2_with fail
              obtain ⟨wd, hwd⟩ : ∃ wd, wd = wr.drew := ⟨_, rfl⟩
              have E0 : Below W3.heap.size W3 wd := by rw [hwd]; exact E.drew
              have F0 : Below w.heap.size w wd := B3.trans (E0.mono tS)
              refine wp_region_noPanic ?_
              refine wp_region_held_drew (S := fun V => V.cell? ⟨b, off + j * 4 + 1, none⟩ = some (.int .u64 y.node) ∧ V.cell? ⟨b, off + j * 4 + 2, none⟩ = some (.slice y.body.ao y.body.n y.body.cap) ∧ V.cell? ⟨xb, 3, none⟩ = some (.slice x.tag.ao x.tag.n x.tag.cap)) (by kernel_rfl) (HS.out _ E.drew) (fun hH => ?_)
              rw [← hwd] at hH ⊢
              clear hwd
              refine hr_take_w 0 (some 60) (.pointer (some ⟨p, 0, none⟩)) rfl rfl (by kernel_rfl) (by kernel_rfl) (by kernel_rfl) rfl (fun W hW => by obtain ⟨h1, h2, h3⟩ := hW; go_simp) hH ?_
              simp only [Act.put, List.setIfInBounds_toArray, List.set_cons_zero, List.set_cons_succ]
              refine hr_take_w 1 (some 61) (.slice (some ⟨b, off, none⟩) n cap) rfl rfl (by kernel_rfl) (by kernel_rfl) (by kernel_rfl) rfl (fun W hW => by obtain ⟨h1, h2, h3⟩ := hW; go_simp) hH ?_
              simp only [Act.put, List.setIfInBounds_toArray, List.set_cons_zero, List.set_cons_succ]
              refine hr_take_w 2 (some 62) (.int .i64 j) rfl rfl (by kernel_rfl) (by kernel_rfl) (by kernel_rfl) rfl (fun W hW => by obtain ⟨h1, h2, h3⟩ := hW; go_simp) hH ?_
              simp only [Act.put, List.setIfInBounds_toArray, List.set_cons_zero, List.set_cons_succ]
              refine hr_take_w 3 (some 63) (.pointer (some ⟨b, off + j * 4, none⟩)) rfl rfl (by kernel_rfl) (by kernel_rfl) (by kernel_rfl) rfl (fun W hW => by obtain ⟨h1, h2, h3⟩ := hW; go_simp) hH ?_
              simp only [Act.put, List.setIfInBounds_toArray, List.set_cons_zero, List.set_cons_succ]
              refine hr_take_w 4 (some 64) (.pointer (some ⟨b, off + j * 4 + 1, none⟩)) rfl rfl (by kernel_rfl) (by kernel_rfl) (by kernel_rfl) rfl (fun W hW => by obtain ⟨h1, h2, h3⟩ := hW; go_simp) hH ?_
              simp only [Act.put, List.setIfInBounds_toArray, List.set_cons_zero, List.set_cons_succ]
              refine hr_take_w 5 (some 65) (.int .u64 y.node) rfl rfl (by kernel_rfl) (by kernel_rfl) (by kernel_rfl) rfl (fun W hW => by obtain ⟨h1, h2, h3⟩ := hW; go_simp) hH ?_
              simp only [Act.put, List.setIfInBounds_toArray, List.set_cons_zero, List.set_cons_succ]
              refine hr_take_w 6 (some 66) (.slice (some ⟨b, off, none⟩) n cap) rfl rfl (by kernel_rfl) (by kernel_rfl) (by kernel_rfl) rfl (fun W hW => by obtain ⟨h1, h2, h3⟩ := hW; go_simp) hH ?_
              simp only [Act.put, List.setIfInBounds_toArray, List.set_cons_zero, List.set_cons_succ]
              refine hr_take_w 7 (some 67) (.int .i64 j) rfl rfl (by kernel_rfl) (by kernel_rfl) (by kernel_rfl) rfl (fun W hW => by obtain ⟨h1, h2, h3⟩ := hW; go_simp) hH ?_
              simp only [Act.put, List.setIfInBounds_toArray, List.set_cons_zero, List.set_cons_succ]
              refine hr_take_w 8 (some 68) (.pointer (some ⟨b, off + j * 4, none⟩)) rfl rfl (by kernel_rfl) (by kernel_rfl) (by kernel_rfl) rfl (fun W hW => by obtain ⟨h1, h2, h3⟩ := hW; go_simp) hH ?_
              simp only [Act.put, List.setIfInBounds_toArray, List.set_cons_zero, List.set_cons_succ]
              refine hr_take_w 9 (some 69) (.pointer (some ⟨b, off + j * 4 + 2, none⟩)) rfl rfl (by kernel_rfl) (by kernel_rfl) (by kernel_rfl) rfl (fun W hW => by obtain ⟨h1, h2, h3⟩ := hW; go_simp) hH ?_
              simp only [Act.put, List.setIfInBounds_toArray, List.set_cons_zero, List.set_cons_succ]
              refine hr_take_w 10 (some 70) (.slice y.body.ao y.body.n y.body.cap) rfl rfl (by kernel_rfl) (by kernel_rfl) (by kernel_rfl) rfl (fun W hW => by obtain ⟨h1, h2, h3⟩ := hW; go_simp) hH ?_
              simp only [Act.put, List.setIfInBounds_toArray, List.set_cons_zero, List.set_cons_succ]
              refine hr_take_w 11 (some 71) (.pointer (some ⟨xb, 3, none⟩)) rfl rfl (by kernel_rfl) (by kernel_rfl) (by kernel_rfl) rfl (fun W hW => by obtain ⟨h1, h2, h3⟩ := hW; go_simp) hH ?_
              simp only [Act.put, List.setIfInBounds_toArray, List.set_cons_zero, List.set_cons_succ]
              refine hr_take_w 12 (some 72) (.slice x.tag.ao x.tag.n x.tag.cap) rfl rfl (by kernel_rfl) (by kernel_rfl) (by kernel_rfl) rfl (fun W hW => by obtain ⟨h1, h2, h3⟩ := hW; go_simp) hH ?_
              simp only [Act.put, List.setIfInBounds_toArray, List.set_cons_zero, List.set_cons_succ]
              refine hr_call_w 13 (some 73) 22 #[.pointer (some ⟨p, 0, none⟩), .int .u64 y.node, .slice y.body.ao y.body.n y.body.cap, .slice x.tag.ao x.tag.n x.tag.cap] rfl rfl (by kernel_rfl) rfl (by go_simp) (fun v w' => v = .bool false ∧ Below wd.heap.size wd w') ((forged_any _ p mk ms false nk m KF SF [] kn y.node y.body.ao y.body.n y.body.cap y.body.xs x.tag.ao x.tag.n x.tag.cap x.tag.xs (K3.below E0) (N3.below E0) (hT.below F0 h2) yn (SB.below E0) (by omega) (ST.below E0) U2).mono (by
                rintro e w' ⟨rfl, C⟩
                exact ⟨_, rfl, by rw [HF.out], C⟩)) ?_
              rintro v v1 ⟨rfl, C1⟩
              have E1 := E0.trans (C1.mono E0.size)
              have F1 : Below w.heap.size w v1 := B3.trans (E1.mono tS)
              have S1 := HS.out v1 E1
              refine ⟨S1, ?_⟩
              simp only [Act.put, List.setIfInBounds_toArray, List.set_cons_zero, List.set_cons_succ]
              refine hr_take_w 14 (some 74) (.bool false) rfl rfl (by kernel_rfl) (by kernel_rfl) (by kernel_rfl) rfl (fun W hW => by obtain ⟨h1, h2, h3⟩ := hW; go_simp) S1 ?_
              simp only [Act.put, List.setIfInBounds_toArray, List.set_cons_zero, List.set_cons_succ]
              refine hr_take_w 15 (some 75) (.pointer (some ⟨p, 0, none⟩)) rfl rfl (by kernel_rfl) (by kernel_rfl) (by kernel_rfl) rfl (fun W hW => by obtain ⟨h1, h2, h3⟩ := hW; go_simp) S1 ?_
              simp only [Act.put, List.setIfInBounds_toArray, List.set_cons_zero, List.set_cons_succ]
              refine hr_take_w 16 (some 76) (.slice (some ⟨b, off, none⟩) n cap) rfl rfl (by kernel_rfl) (by kernel_rfl) (by kernel_rfl) rfl (fun W hW => by obtain ⟨h1, h2, h3⟩ := hW; go_simp) S1 ?_
              simp only [Act.put, List.setIfInBounds_toArray, List.set_cons_zero, List.set_cons_succ]
              refine hr_take_w 17 (some 77) (.int .i64 j) rfl rfl (by kernel_rfl) (by kernel_rfl) (by kernel_rfl) rfl (fun W hW => by obtain ⟨h1, h2, h3⟩ := hW; go_simp) S1 ?_
              simp only [Act.put, List.setIfInBounds_toArray, List.set_cons_zero, List.set_cons_succ]
              refine hr_take_w 18 (some 78) (.pointer (some ⟨b, off + j * 4, none⟩)) rfl rfl (by kernel_rfl) (by kernel_rfl) (by kernel_rfl) rfl (fun W hW => by obtain ⟨h1, h2, h3⟩ := hW; go_simp) S1 ?_
              simp only [Act.put, List.setIfInBounds_toArray, List.set_cons_zero, List.set_cons_succ]
              refine hr_take_w 19 (some 79) (.pointer (some ⟨b, off + j * 4 + 1, none⟩)) rfl rfl (by kernel_rfl) (by kernel_rfl) (by kernel_rfl) rfl (fun W hW => by obtain ⟨h1, h2, h3⟩ := hW; go_simp) S1 ?_
              simp only [Act.put, List.setIfInBounds_toArray, List.set_cons_zero, List.set_cons_succ]
              refine hr_take_w 20 (some 80) (.int .u64 y.node) rfl rfl (by kernel_rfl) (by kernel_rfl) (by kernel_rfl) rfl (fun W hW => by obtain ⟨h1, h2, h3⟩ := hW; go_simp) S1 ?_
              simp only [Act.put, List.setIfInBounds_toArray, List.set_cons_zero, List.set_cons_succ]
              refine hr_take_w 21 (some 81) (.slice (some ⟨b, off, none⟩) n cap) rfl rfl (by kernel_rfl) (by kernel_rfl) (by kernel_rfl) rfl (fun W hW => by obtain ⟨h1, h2, h3⟩ := hW; go_simp) S1 ?_
              simp only [Act.put, List.setIfInBounds_toArray, List.set_cons_zero, List.set_cons_succ]
              refine hr_take_w 22 (some 82) (.int .i64 j) rfl rfl (by kernel_rfl) (by kernel_rfl) (by kernel_rfl) rfl (fun W hW => by obtain ⟨h1, h2, h3⟩ := hW; go_simp) S1 ?_
              simp only [Act.put, List.setIfInBounds_toArray, List.set_cons_zero, List.set_cons_succ]
              refine hr_take_w 23 (some 83) (.pointer (some ⟨b, off + j * 4, none⟩)) rfl rfl (by kernel_rfl) (by kernel_rfl) (by kernel_rfl) rfl (fun W hW => by obtain ⟨h1, h2, h3⟩ := hW; go_simp) S1 ?_
              simp only [Act.put, List.setIfInBounds_toArray, List.set_cons_zero, List.set_cons_succ]
              refine hr_take_w 24 (some 84) (.pointer (some ⟨b, off + j * 4 + 2, none⟩)) rfl rfl (by kernel_rfl) (by kernel_rfl) (by kernel_rfl) rfl (fun W hW => by obtain ⟨h1, h2, h3⟩ := hW; go_simp) S1 ?_
              simp only [Act.put, List.setIfInBounds_toArray, List.set_cons_zero, List.set_cons_succ]
              refine hr_take_w 25 (some 85) (.slice y.body.ao y.body.n y.body.cap) rfl rfl (by kernel_rfl) (by kernel_rfl) (by kernel_rfl) rfl (fun W hW => by obtain ⟨h1, h2, h3⟩ := hW; go_simp) S1 ?_
              simp only [Act.put, List.setIfInBounds_toArray, List.set_cons_zero, List.set_cons_succ]
              refine hr_take_w 26 (some 86) (.pointer (some ⟨xb, 3, none⟩)) rfl rfl (by kernel_rfl) (by kernel_rfl) (by kernel_rfl) rfl (fun W hW => by obtain ⟨h1, h2, h3⟩ := hW; go_simp) S1 ?_
              simp only [Act.put, List.setIfInBounds_toArray, List.set_cons_zero, List.set_cons_succ]
              refine hr_take_w 27 (some 87) (.slice x.tag.ao x.tag.n x.tag.cap) rfl rfl (by kernel_rfl) (by kernel_rfl) (by kernel_rfl) rfl (fun W hW => by obtain ⟨h1, h2, h3⟩ := hW; go_simp) S1 ?_
              simp only [Act.put, List.setIfInBounds_toArray, List.set_cons_zero, List.set_cons_succ]
              refine hr_call_w 28 (some 88) 20 #[.pointer (some ⟨p, 0, none⟩), .int .u64 y.node, .slice y.body.ao y.body.n y.body.cap, .slice x.tag.ao x.tag.n x.tag.cap] rfl rfl (by kernel_rfl) rfl (by go_simp) (fun v w' => v = .bool false ∧ Below v1.heap.size v1 w') ((check_any v1 p mk ms false nk m KF SF [] kn y.node y.body.ao y.body.n y.body.cap y.body.xs x.tag.ao x.tag.n x.tag.cap x.tag.xs (K3.below E1) (N3.below E1) (hT.below F1 h2) yn (SB.below E1) (by omega) (ST.below E1) U2).mono (by
                rintro e w' ⟨rfl, C⟩
                exact ⟨_, rfl, by rw [HC.out], C⟩)) ?_
              rintro v v2 ⟨rfl, C2⟩
              have E2 := E1.trans (C2.mono E1.size)
              have F2 : Below w.heap.size w v2 := B3.trans (E2.mono tS)
              have S2 := HS.out v2 E2
              refine ⟨S2, ?_⟩
              simp only [Act.put, List.setIfInBounds_toArray, List.set_cons_zero, List.set_cons_succ]
              refine hr_take_w 29 (some 89) (.bool false) rfl rfl (by kernel_rfl) (by kernel_rfl) (by kernel_rfl) rfl (fun W hW => by obtain ⟨h1, h2, h3⟩ := hW; go_simp) S2 ?_
              simp only [Act.put, List.setIfInBounds_toArray, List.set_cons_zero, List.set_cons_succ]
              refine hr_none 30 (some 90) rfl rfl (by kernel_rfl) (by kernel_rfl) (by kernel_rfl) rfl S2 ?_
              simp only [Act.put, List.setIfInBounds_toArray, List.set_cons_zero, List.set_cons_succ]
              refine hr_none 31 (some 91) rfl rfl (by kernel_rfl) (by kernel_rfl) (by kernel_rfl) rfl S2 ?_
              simp only [Act.put, List.setIfInBounds_toArray, List.set_cons_zero, List.set_cons_succ]
              refine hr_none 32 (some 92) rfl rfl (by kernel_rfl) (by kernel_rfl) (by kernel_rfl) rfl S2 ?_
              simp only [Act.put, List.setIfInBounds_toArray, List.set_cons_zero, List.set_cons_succ]
              refine hr_none 33 (some 93) rfl rfl (by kernel_rfl) (by kernel_rfl) (by kernel_rfl) rfl S2 ?_
              simp only [Act.put, List.setIfInBounds_toArray, List.set_cons_zero, List.set_cons_succ]
              refine hr_none 34 (some 94) rfl rfl (by kernel_rfl) (by kernel_rfl) (by kernel_rfl) rfl S2 ?_
              simp only [Act.put, List.setIfInBounds_toArray, List.set_cons_zero, List.set_cons_succ]
              refine hr_none 35 (some 95) rfl rfl (by kernel_rfl) (by kernel_rfl) (by kernel_rfl) rfl S2 ?_
              simp only [Act.put, List.setIfInBounds_toArray, List.set_cons_zero, List.set_cons_succ]
              refine hr_none 36 (some 96) rfl rfl (by kernel_rfl) (by kernel_rfl) (by kernel_rfl) rfl S2 ?_
              simp only [Act.put, List.setIfInBounds_toArray, List.set_cons_zero, List.set_cons_succ]
              refine hr_none 37 (some 97) rfl rfl (by kernel_rfl) (by kernel_rfl) (by kernel_rfl) rfl S2 ?_
              simp only [Act.put, List.setIfInBounds_toArray, List.set_cons_zero, List.set_cons_succ]
              refine hr_none 38 (some 98) rfl rfl (by kernel_rfl) (by kernel_rfl) (by kernel_rfl) rfl S2 ?_
              simp only [Act.put, List.setIfInBounds_toArray, List.set_cons_zero, List.set_cons_succ]
              refine hr_none 39 (some 99) rfl rfl (by kernel_rfl) (by kernel_rfl) (by kernel_rfl) rfl S2 ?_
              simp only [Act.put, List.setIfInBounds_toArray, List.set_cons_zero, List.set_cons_succ]
              refine hr_none 40 (some 100) rfl rfl (by kernel_rfl) (by kernel_rfl) (by kernel_rfl) rfl S2 ?_
              simp only [Act.put, List.setIfInBounds_toArray, List.set_cons_zero, List.set_cons_succ]
              refine hr_none 41 (some 101) rfl rfl (by kernel_rfl) (by kernel_rfl) (by kernel_rfl) rfl S2 ?_
              simp only [Act.put, List.setIfInBounds_toArray, List.set_cons_zero, List.set_cons_succ]
              refine hr_none 42 (some 102) rfl rfl (by kernel_rfl) (by kernel_rfl) (by kernel_rfl) rfl S2 ?_
              simp only [Act.put, List.setIfInBounds_toArray, List.set_cons_zero, List.set_cons_succ]
              refine hr_take_w 43 (some 103) (.bool false) rfl rfl (by kernel_rfl) (by kernel_rfl) (by kernel_rfl) rfl (fun W hW => by obtain ⟨h1, h2, h3⟩ := hW; go_simp) S2 ?_
              simp only [Act.put, List.setIfInBounds_toArray, List.set_cons_zero, List.set_cons_succ]
              refine hr_take_w 44 (some 104) (.bool false) rfl rfl (by kernel_rfl) (by kernel_rfl) (by kernel_rfl) rfl (fun W hW => by obtain ⟨h1, h2, h3⟩ := hW; go_simp) S2 ?_
              simp only [Act.put, List.setIfInBounds_toArray, List.set_cons_zero, List.set_cons_succ]
              refine wpAnyH_done (by kernel_rfl) ?_ _
              refine NoPanic.normal ?_
              go_wp2
              go_roundw
              case rel => exact ⟨j + 1, by omega, by go_num, E2⟩
              case measure => simp [intOf]; omega
            | true =>
              have HC : Hid (chB SF false [] kn y.node y.body.xs x.tag.xs = true) := hc.symm
              have HSA : Hid (saB SF false y.node y.body.xs = true) := by
                show _ = _
                unfold chB at hc
                cases h : saB SF false y.node y.body.xs with
                | true => rfl
                | false => rw [h] at hc; simp at hc
              clear hc
              go_wp2_with fail
              obtain ⟨wd, hwd⟩ : ∃ wd, wd = wr.drew := ⟨_, rfl⟩
              have E0 : Below W3.heap.size W3 wd := by rw [hwd]; exact E.drew
              have F0 : Below w.heap.size w wd := B3.trans (E0.mono tS)
              refine wp_region_noPanic ?_
              refine wp_region_held_drew (S := fun V => V.cell? ⟨b, off + j * 4 + 1, none⟩ = some (.int .u64 y.node) ∧ V.cell? ⟨b, off + j * 4 + 2, none⟩ = some (.slice y.body.ao y.body.n y.body.cap) ∧ V.cell? ⟨xb, 3, none⟩ = some (.slice x.tag.ao x.tag.n x.tag.cap)) (by kernel_rfl) (HS.out _ E.drew) (fun hH => ?_)
              rw [← hwd] at hH ⊢
              clear hwd
              refine hr_take_w 0 (some 60) (.pointer (some ⟨p, 0, none⟩)) rfl rfl (by kernel_rfl) (by kernel_rfl) (by kernel_rfl) rfl (fun W hW => by obtain ⟨h1, h2, h3⟩ := hW; go_simp) hH ?_
              simp only [Act.put, List.setIfInBounds_toArray, List.set_cons_zero, List.set_cons_succ]
              refine hr_take_w 1 (some 61) (.slice (some ⟨b, off, none⟩) n cap) rfl rfl (by kernel_rfl) (by kernel_rfl) (by kernel_rfl) rfl (fun W hW => by obtain ⟨h1, h2, h3⟩ := hW; go_simp) hH ?_
              simp only [Act.put, List.setIfInBounds_toArray, List.set_cons_zero, List.set_cons_succ]
              refine hr_take_w 2 (some 62) (.int .i64 j) rfl rfl (by kernel_rfl) (by kernel_rfl) (by kernel_rfl) rfl (fun W hW => by obtain ⟨h1, h2, h3⟩ := hW; go_simp) hH ?_
              simp only [Act.put, List.setIfInBounds_toArray, List.set_cons_zero, List.set_cons_succ]
              refine hr_take_w 3 (some 63) (.pointer (some ⟨b, off + j * 4, none⟩)) rfl rfl (by kernel_rfl) (by kernel_rfl) (by kernel_rfl) rfl (fun W hW => by obtain ⟨h1, h2, h3⟩ := hW; go_simp) hH ?_
              simp only [Act.put, List.setIfInBounds_toArray, List.set_cons_zero, List.set_cons_succ]
              refine hr_take_w 4 (some 64) (.pointer (some ⟨b, off + j * 4 + 1, none⟩)) rfl rfl (by kernel_rfl) (by kernel_rfl) (by kernel_rfl) rfl (fun W hW => by obtain ⟨h1, h2, h3⟩ := hW; go_simp) hH ?_
              simp only [Act.put, List.setIfInBounds_toArray, List.set_cons_zero, List.set_cons_succ]
              refine hr_take_w 5 (some 65) (.int .u64 y.node) rfl rfl (by kernel_rfl) (by kernel_rfl) (by kernel_rfl) rfl (fun W hW => by obtain ⟨h1, h2, h3⟩ := hW; go_simp) hH ?_
              simp only [Act.put, List.setIfInBounds_toArray, List.set_cons_zero, List.set_cons_succ]
              refine hr_take_w 6 (some 66) (.slice (some ⟨b, off, none⟩) n cap) rfl rfl (by kernel_rfl) (by kernel_rfl) (by kernel_rfl) rfl (fun W hW => by obtain ⟨h1, h2, h3⟩ := hW; go_simp) hH ?_
              simp only [Act.put, List.setIfInBounds_toArray, List.set_cons_zero, List.set_cons_succ]
              refine hr_take_w 7 (some 67) (.int .i64 j) rfl rfl (by kernel_rfl) (by kernel_rfl) (by kernel_rfl) rfl (fun W hW => by obtain ⟨h1, h2, h3⟩ := hW; go_simp) hH ?_
              simp only [Act.put, List.setIfInBounds_toArray, List.set_cons_zero, List.set_cons_succ]
              refine hr_take_w 8 (some 68) (.pointer (some ⟨b, off + j * 4, none⟩)) rfl rfl (by kernel_rfl) (by kernel_rfl) (by kernel_rfl) rfl (fun W hW => by obtain ⟨h1, h2, h3⟩ := hW; go_simp) hH ?_
              simp only [Act.put, List.setIfInBounds_toArray, List.set_cons_zero, List.set_cons_succ]
              refine hr_take_w 9 (some 69) (.pointer (some ⟨b, off + j * 4 + 2, none⟩)) rfl rfl (by kernel_rfl) (by kernel_rfl) (by kernel_rfl) rfl (fun W hW => by obtain ⟨h1, h2, h3⟩ := hW; go_simp) hH ?_
              simp only [Act.put, List.setIfInBounds_toArray, List.set_cons_zero, List.set_cons_succ]
              refine hr_take_w 10 (some 70) (.slice y.body.ao y.body.n y.body.cap) rfl rfl (by kernel_rfl) (by kernel_rfl) (by kernel_rfl) rfl (fun W hW => by obtain ⟨h1, h2, h3⟩ := hW; go_simp) hH ?_
              simp only [Act.put, List.setIfInBounds_toArray, List.set_cons_zero, List.set_cons_succ]
              refine hr_take_w 11 (some 71) (.pointer (some ⟨xb, 3, none⟩)) rfl rfl (by kernel_rfl) (by kernel_rfl) (by kernel_rfl) rfl (fun W hW => by obtain ⟨h1, h2, h3⟩ := hW; go_simp) hH ?_
              simp only [Act.put, List.setIfInBounds_toArray, List.set_cons_zero, List.set_cons_succ]
              refine hr_take_w 12 (some 72) (.slice x.tag.ao x.tag.n x.tag.cap) rfl rfl (by kernel_rfl) (by kernel_rfl) (by kernel_rfl) rfl (fun W hW => by obtain ⟨h1, h2, h3⟩ := hW; go_simp) hH ?_
              simp only [Act.put, List.setIfInBounds_toArray, List.set_cons_zero, List.set_cons_succ]
              refine hr_call_w 13 (some 73) 22 #[.pointer (some ⟨p, 0, none⟩), .int .u64 y.node, .slice y.body.ao y.body.n y.body.cap, .slice x.tag.ao x.tag.n x.tag.cap] rfl rfl (by kernel_rfl) rfl (by go_simp) (fun v w' => v = .bool false ∧ Below wd.heap.size wd w') ((forged_any _ p mk ms false nk m KF SF [] kn y.node y.body.ao y.body.n y.body.cap y.body.xs x.tag.ao x.tag.n x.tag.cap x.tag.xs (K3.below E0) (N3.below E0) (hT.below F0 h2) yn (SB.below E0) (by omega) (ST.below E0) U2).mono (by
                rintro e w' ⟨rfl, C⟩
                exact ⟨_, rfl, by rw [HF.out], C⟩)) ?_
              rintro v v1 ⟨rfl, C1⟩
              have E1 := E0.trans (C1.mono E0.size)
              have F1 : Below w.heap.size w v1 := B3.trans (E1.mono tS)
              have S1 := HS.out v1 E1
              refine ⟨S1, ?_⟩
              simp only [Act.put, List.setIfInBounds_toArray, List.set_cons_zero, List.set_cons_succ]
              refine hr_take_w 14 (some 74) (.bool false) rfl rfl (by kernel_rfl) (by kernel_rfl) (by kernel_rfl) rfl (fun W hW => by obtain ⟨h1, h2, h3⟩ := hW; go_simp) S1 ?_
              simp only [Act.put, List.setIfInBounds_toArray, List.set_cons_zero, List.set_cons_succ]
              refine hr_take_w 15 (some 75) (.pointer (some ⟨p, 0, none⟩)) rfl rfl (by kernel_rfl) (by kernel_rfl) (by kernel_rfl) rfl (fun W hW => by obtain ⟨h1, h2, h3⟩ := hW; go_simp) S1 ?_
              simp only [Act.put, List.setIfInBounds_toArray, List.set_cons_zero, List.set_cons_succ]
              refine hr_take_w 16 (some 76) (.slice (some ⟨b, off, none⟩) n cap) rfl rfl (by kernel_rfl) (by kernel_rfl) (by kernel_rfl) rfl (fun W hW => by obtain ⟨h1, h2, h3⟩ := hW; go_simp) S1 ?_
              simp only [Act.put, List.setIfInBounds_toArray, List.set_cons_zero, List.set_cons_succ]
              refine hr_take_w 17 (some 77) (.int .i64 j) rfl rfl (by kernel_rfl) (by kernel_rfl) (by kernel_rfl) rfl (fun W hW => by obtain ⟨h1, h2, h3⟩ := hW; go_simp) S1 ?_
              simp only [Act.put, List.setIfInBounds_toArray, List.set_cons_zero, List.set_cons_succ]
              refine hr_take_w 18 (some 78) (.pointer (some ⟨b, off + j * 4, none⟩)) rfl rfl (by kernel_rfl) (by kernel_rfl) (by kernel_rfl) rfl (fun W hW => by obtain ⟨h1, h2, h3⟩ := hW; go_simp) S1 ?_
              simp only [Act.put, List.setIfInBounds_toArray, List.set_cons_zero, List.set_cons_succ]
              refine hr_take_w 19 (some 79) (.pointer (some ⟨b, off + j * 4 + 1, none⟩)) rfl rfl (by kernel_rfl) (by kernel_rfl) (by kernel_rfl) rfl (fun W hW => by obtain ⟨h1, h2, h3⟩ := hW; go_simp) S1 ?_
              simp only [Act.put, List.setIfInBounds_toArray, List.set_cons_zero, List.set_cons_succ]
              refine hr_take_w 20 (some 80) (.int .u64 y.node) rfl rfl (by kernel_rfl) (by kernel_rfl) (by kernel_rfl) rfl (fun W hW => by obtain ⟨h1, h2, h3⟩ := hW; go_simp) S1 ?_
              simp only [Act.put, List.setIfInBounds_toArray, List.set_cons_zero, List.set_cons_succ]
              refine hr_take_w 21 (some 81) (.slice (some ⟨b, off, none⟩) n cap) rfl rfl (by kernel_rfl) (by kernel_rfl) (by kernel_rfl) rfl (fun W hW => by obtain ⟨h1, h2, h3⟩ := hW; go_simp) S1 ?_
              simp only [Act.put, List.setIfInBounds_toArray, List.set_cons_zero, List.set_cons_succ]
              refine hr_take_w 22 (some 82) (.int .i64 j) rfl rfl (by kernel_rfl) (by kernel_rfl) (by kernel_rfl) rfl (fun W hW => by obtain ⟨h1, h2, h3⟩ := hW; go_simp) S1 ?_
              simp only [Act.put, List.setIfInBounds_toArray, List.set_cons_zero, List.set_cons_succ]
              refine hr_take_w 23 (some 83) (.pointer (some ⟨b, off + j * 4, none⟩)) rfl rfl (by kernel_rfl) (by kernel_rfl) (by kernel_rfl) rfl (fun W hW => by obtain ⟨h1, h2, h3⟩ := hW; go_simp) S1 ?_
              simp only [Act.put, List.setIfInBounds_toArray, List.set_cons_zero, List.set_cons_succ]
              refine hr_take_w 24 (some 84) (.pointer (some ⟨b, off + j * 4 + 2, none⟩)) rfl rfl (by kernel_rfl) (by kernel_rfl) (by kernel_rfl) rfl (fun W hW => by obtain ⟨h1, h2, h3⟩ := hW; go_simp) S1 ?_
              simp only [Act.put, List.setIfInBounds_toArray, List.set_cons_zero, List.set_cons_succ]
              refine hr_take_w 25 (some 85) (.slice y.body.ao y.body.n y.body.cap) rfl rfl (by kernel_rfl) (by kernel_rfl) (by kernel_rfl) rfl (fun W hW => by obtain ⟨h1, h2, h3⟩ := hW; go_simp) S1 ?_
              simp only [Act.put, List.setIfInBounds_toArray, List.set_cons_zero, List.set_cons_succ]
              refine hr_take_w 26 (some 86) (.pointer (some ⟨xb, 3, none⟩)) rfl rfl (by kernel_rfl) (by kernel_rfl) (by kernel_rfl) rfl (fun W hW => by obtain ⟨h1, h2, h3⟩ := hW; go_simp) S1 ?_
              simp only [Act.put, List.setIfInBounds_toArray, List.set_cons_zero, List.set_cons_succ]
              refine hr_take_w 27 (some 87) (.slice x.tag.ao x.tag.n x.tag.cap) rfl rfl (by kernel_rfl) (by kernel_rfl) (by kernel_rfl) rfl (fun W hW => by obtain ⟨h1, h2, h3⟩ := hW; go_simp) S1 ?_
              simp only [Act.put, List.setIfInBounds_toArray, List.set_cons_zero, List.set_cons_succ]
              refine hr_call_w 28 (some 88) 20 #[.pointer (some ⟨p, 0, none⟩), .int .u64 y.node, .slice y.body.ao y.body.n y.body.cap, .slice x.tag.ao x.tag.n x.tag.cap] rfl rfl (by kernel_rfl) rfl (by go_simp) (fun v w' => v = .bool true ∧ Below v1.heap.size v1 w') ((check_any v1 p mk ms false nk m KF SF [] kn y.node y.body.ao y.body.n y.body.cap y.body.xs x.tag.ao x.tag.n x.tag.cap x.tag.xs (K3.below E1) (N3.below E1) (hT.below F1 h2) yn (SB.below E1) (by omega) (ST.below E1) U2).mono (by
                rintro e w' ⟨rfl, C⟩
                exact ⟨_, rfl, by rw [HC.out], C⟩)) ?_
              rintro v v2 ⟨rfl, C2⟩
              have E2 := E1.trans (C2.mono E1.size)
              have F2 : Below w.heap.size w v2 := B3.trans (E2.mono tS)
              have S2 := HS.out v2 E2
              refine ⟨S2, ?_⟩
              simp only [Act.put, List.setIfInBounds_toArray, List.set_cons_zero, List.set_cons_succ]
              refine hr_take_w 29 (some 89) (.bool true) rfl rfl (by kernel_rfl) (by kernel_rfl) (by kernel_rfl) rfl (fun W hW => by obtain ⟨h1, h2, h3⟩ := hW; go_simp) S2 ?_
              simp only [Act.put, List.setIfInBounds_toArray, List.set_cons_zero, List.set_cons_succ]
              refine hr_take_w 30 (some 90) (.pointer (some ⟨p, 0, none⟩)) rfl rfl (by kernel_rfl) (by kernel_rfl) (by kernel_rfl) rfl (fun W hW => by obtain ⟨h1, h2, h3⟩ := hW; go_simp) S2 ?_
              simp only [Act.put, List.setIfInBounds_toArray, List.set_cons_zero, List.set_cons_succ]
              refine hr_take_w 31 (some 91) (.slice (some ⟨b, off, none⟩) n cap) rfl rfl (by kernel_rfl) (by kernel_rfl) (by kernel_rfl) rfl (fun W hW => by obtain ⟨h1, h2, h3⟩ := hW; go_simp) S2 ?_
              simp only [Act.put, List.setIfInBounds_toArray, List.set_cons_zero, List.set_cons_succ]
              refine hr_take_w 32 (some 92) (.int .i64 j) rfl rfl (by kernel_rfl) (by kernel_rfl) (by kernel_rfl) rfl (fun W hW => by obtain ⟨h1, h2, h3⟩ := hW; go_simp) S2 ?_
              simp only [Act.put, List.setIfInBounds_toArray, List.set_cons_zero, List.set_cons_succ]
              refine hr_take_w 33 (some 93) (.pointer (some ⟨b, off + j * 4, none⟩)) rfl rfl (by kernel_rfl) (by kernel_rfl) (by kernel_rfl) rfl (fun W hW => by obtain ⟨h1, h2, h3⟩ := hW; go_simp) S2 ?_
              simp only [Act.put, List.setIfInBounds_toArray, List.set_cons_zero, List.set_cons_succ]
              refine hr_take_w 34 (some 94) (.pointer (some ⟨b, off + j * 4 + 1, none⟩)) rfl rfl (by kernel_rfl) (by kernel_rfl) (by kernel_rfl) rfl (fun W hW => by obtain ⟨h1, h2, h3⟩ := hW; go_simp) S2 ?_
              simp only [Act.put, List.setIfInBounds_toArray, List.set_cons_zero, List.set_cons_succ]
              refine hr_take_w 35 (some 95) (.int .u64 y.node) rfl rfl (by kernel_rfl) (by kernel_rfl) (by kernel_rfl) rfl (fun W hW => by obtain ⟨h1, h2, h3⟩ := hW; go_simp) S2 ?_
              simp only [Act.put, List.setIfInBounds_toArray, List.set_cons_zero, List.set_cons_succ]
              refine hr_take_w 36 (some 96) (.slice (some ⟨b, off, none⟩) n cap) rfl rfl (by kernel_rfl) (by kernel_rfl) (by kernel_rfl) rfl (fun W hW => by obtain ⟨h1, h2, h3⟩ := hW; go_simp) S2 ?_
              simp only [Act.put, List.setIfInBounds_toArray, List.set_cons_zero, List.set_cons_succ]
              refine hr_take_w 37 (some 97) (.int .i64 j) rfl rfl (by kernel_rfl) (by kernel_rfl) (by kernel_rfl) rfl (fun W hW => by obtain ⟨h1, h2, h3⟩ := hW; go_simp) S2 ?_
              simp only [Act.put, List.setIfInBounds_toArray, List.set_cons_zero, List.set_cons_succ]
              refine hr_take_w 38 (some 98) (.pointer (some ⟨b, off + j * 4, none⟩)) rfl rfl (by kernel_rfl) (by kernel_rfl) (by kernel_rfl) rfl (fun W hW => by obtain ⟨h1, h2, h3⟩ := hW; go_simp) S2 ?_
              simp only [Act.put, List.setIfInBounds_toArray, List.set_cons_zero, List.set_cons_succ]
              refine hr_take_w 39 (some 99) (.pointer (some ⟨b, off + j * 4 + 2, none⟩)) rfl rfl (by kernel_rfl) (by kernel_rfl) (by kernel_rfl) rfl (fun W hW => by obtain ⟨h1, h2, h3⟩ := hW; go_simp) S2 ?_
              simp only [Act.put, List.setIfInBounds_toArray, List.set_cons_zero, List.set_cons_succ]
              refine hr_take_w 40 (some 100) (.slice y.body.ao y.body.n y.body.cap) rfl rfl (by kernel_rfl) (by kernel_rfl) (by kernel_rfl) rfl (fun W hW => by obtain ⟨h1, h2, h3⟩ := hW; go_simp) S2 ?_
              simp only [Act.put, List.setIfInBounds_toArray, List.set_cons_zero, List.set_cons_succ]
              refine hr_call_w 41 (some 101) 21 #[.pointer (some ⟨p, 0, none⟩), .int .u64 y.node, .slice y.body.ao y.body.n y.body.cap] rfl rfl (by kernel_rfl) rfl (by go_simp) (fun v w' => v = .bool true ∧ Below v2.heap.size v2 w') ((said_any v2 p mk ms false nk m KF SF y.node y.body.ao y.body.n y.body.cap y.body.xs (K3.below E2) (hT.below F2 h2) yn (SB.below E2) (by omega) U2).mono (by
                rintro e w' ⟨rfl, C⟩
                exact ⟨_, rfl, by rw [show (SF (sv y.node (dgL false y.node y.body.xs))).isSome = true from HSA.out], C⟩)) ?_
              rintro v v3 ⟨rfl, C3⟩
              have E3 := E2.trans (C3.mono E2.size)
              have S3 := HS.out v3 E3
              refine ⟨S3, ?_⟩
              simp only [Act.put, List.setIfInBounds_toArray, List.set_cons_zero, List.set_cons_succ]
              refine hr_take_w 42 (some 102) (.bool false) rfl rfl (by kernel_rfl) (by kernel_rfl) (by kernel_rfl) rfl (fun W hW => by obtain ⟨h1, h2, h3⟩ := hW; go_simp) S3 ?_
              simp only [Act.put, List.setIfInBounds_toArray, List.set_cons_zero, List.set_cons_succ]
              refine hr_take_w 43 (some 103) (.bool false) rfl rfl (by kernel_rfl) (by kernel_rfl) (by kernel_rfl) rfl (fun W hW => by obtain ⟨h1, h2, h3⟩ := hW; go_simp) S3 ?_
              simp only [Act.put, List.setIfInBounds_toArray, List.set_cons_zero, List.set_cons_succ]
              refine hr_take_w 44 (some 104) (.bool false) rfl rfl (by kernel_rfl) (by kernel_rfl) (by kernel_rfl) rfl (fun W hW => by obtain ⟨h1, h2, h3⟩ := hW; go_simp) S3 ?_
              simp only [Act.put, List.setIfInBounds_toArray, List.set_cons_zero, List.set_cons_succ]
              refine wpAnyH_done (by kernel_rfl) ?_ _
              refine NoPanic.normal ?_
              go_wp2
              go_roundw
              case rel => exact ⟨j + 1, by omega, by go_num, E3⟩
              case measure => simp [intOf]; omega
          · have hge : (n : Int) ≤ (j : Int) := by omega
            have FE : Below w.heap.size w wr := B3.trans (E.mono tS)
            go_wp2
            go_roundw
            case rel => exact ⟨k + 1, _, SF, by omega, by omega, by go_num, FE, K3.below E, N3.below E, U2⟩
            case measure => simp [intOf]; omega
    · have hge : (n : Int) ≤ (k : Int) := by omega
      go_wp2_with fail
      refine (alive_any _ (hT.below B2 h2)).mono ?_
      rintro e wz ⟨rfl, Bz⟩
      go_wp2
      go_ret
      exact ⟨rfl, B2.trans (Bz.mono s2)⟩

end Go.Proofs.YtkncfjokkojfpaaDoor

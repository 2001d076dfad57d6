/-
  Texts in one: RgPut.
-/
import Derived.Test.YtkjaapomaaakmaaGreatMessageBytesQFL
import Derived.Test.YtkjaapomaaakmaaGreatMessageBytesQ28
import Derived.Test.YtkjaapomaaakmaaGreatMessageBytesQ21
import Derived.Test.YtkjaapomaaakmaaGreatMessageBytesQ22
import Derived.Test.YtkjaapomaaakmaaGreatMessageBytesQ35
import Derived.Test.YtkjaapomaaakmaaGreatMessageBytesQ14
namespace Go.Proofs.YtkjaapomaaakmaaGreat
open Go.RowKit
theorem wrap_smallP {n : Nat} (h : n ≤ 1000000) : IntKind.u64.wrap (n : Int) = (n : Int) := by
 unfold IntKind.wrap
 simp [IntKind.bits, IntKind.signed]
 omega
set_option maxRecDepth 100000 in
set_option maxHeartbeats 8000000 in
theorem rputs_any (w : World) (ao : Option Addr) (n cap : Nat) (xs : List Int) (h : Sl w ao n cap xs) (lo : Option Addr) (ln lc : Nat) (l : List SA) (L : GL elS w lo ln lc l) (hn : n ≤ 800000) (hl20 : ln ≤ 20) (hsm : ∀ s ∈ l, s.b.n ≤ 2000 ∧ s.tag.n ≤ 100) :
  Calls Tryz.prog 84 #[.slice ao n cap, .slice lo ln lc] w (PutPost w (xs ++ putLs putV (l.map SA.v))) := by
 have hl := L.len
 have g0 := enc_length (n := ln) (by omega)
 have CU := gUint w ao n cap ln xs h (by omega) (by omega)
 have iw : IntKind.u64.wrap (ln : Int) = (ln : Int) := wrap_smallP (by omega)
 have hxl := h.len
 go_enter Tryz.func84, Tryz.ntmps84
 go_wp2_with fail
 refine CU.mono ?_
 rintro e w1 ⟨b0, m0, c0, rfl, S0, C0⟩
 have hm0 := S0.len
 rw [List.length_append] at hm0
 clear CU h
 go_wp2_with fail
 go_loopw [0, 5] (fun s i wr => ∃ (k : Nat) (bo : Option Addr) (m c : Nat), k ≤ ln ∧ i = .int .i64 k ∧ s = .slice bo m c ∧ Sl wr bo m c (xs ++ (enc ln ++ (((l.take k).map SA.v).map putV).flatten)) ∧ m ≤ n + 10 + 2130 * k ∧ Below w.heap.size w wr) (fun _ i _ => ln - (intOf i).toNat)
 case atStart => exact ⟨0, b0, m0, c0, Nat.zero_le _, rfl, rfl, by simpa using S0, by omega, C0⟩
 case round =>
  clear S0 C0 hm0
  obtain ⟨k, bo, m, c, hk, rfl, rfl, S, hm, B⟩ := hrel
  by_cases hlt : k < ln
  ·have hki : (k : Int) < (ln : Int) := by omega
   have hkl : k < l.length := by omega
   obtain ⟨b, off, rfl, hc⟩ := (L.below elS_fine B).atS (by omega)
   have X := hc k hkl
   have uok := (elS_fine.below (L.ok _ (List.getElem_mem hkl)) B)
   have usm := hsm _ (List.getElem_mem hkl)
   have HT : Hid (xs ++ (enc ln ++ (((l.take (k + 1)).map SA.v).map putV).flatten) = xs ++ (enc ln ++ (((l.take k).map SA.v).map putV).flatten) ++ enc l[k].fr ++ byts l[k].b.xs ++ byts l[k].tag.xs) := by
    show _ = _
    rw [List.take_succ_eq_append_getElem hkl, List.map_append, List.map_append, List.flatten_append, List.map_singleton, List.map_singleton, List.flatten_singleton]
    show xs ++ (enc ln ++ (_ ++ (enc l[k].fr ++ (byts l[k].b.xs ++ byts l[k].tag.xs)))) = _
    simp only [List.append_assoc]
   obtain ⟨u, hu⟩ : ∃ u, u = l[k] := ⟨_, rfl⟩
   rw [← hu] at X uok usm HT
   clear hu hc
   have uok : SA.ok u wr := uok
   obtain ⟨x0, x1, x2⟩ := X
   have hSl := S.len
   have e1 := enc_length uok.fr
   have e2 := uok.b.len
   have e3 := uok.tag.len
   have e4 : (byts u.b.xs).length ≤ 2010 := by have := enc_length (n := u.b.xs.length) (by omega); unfold byts; rw [List.length_append]; omega
   have e5 : (byts u.tag.xs).length ≤ 110 := by have := enc_length (n := u.tag.xs.length) (by omega); unfold byts; rw [List.length_append]; omega
   obtain ⟨YS, hYS⟩ : ∃ y, y = xs ++ (enc ln ++ (((l.take k).map SA.v).map putV).flatten) := ⟨_, rfl⟩
   rw [← hYS] at S HT hSl
   clear hYS
   go_wp2_with fail
   have tHS : Hid (∀ V, Below wr.heap.size wr V → V.cell? ⟨b, off + k * 3, none⟩ = some (.int .u64 (u.fr : Nat)) ∧ V.cell? ⟨b, off + k * 3 + 1, none⟩ = some (.slice u.b.ao u.b.n u.b.cap) ∧ V.cell? ⟨b, off + k * 3 + 2, none⟩ = some (.slice u.tag.ao u.tag.n u.tag.cap)) := fun V hV => ⟨(hV.cell (World.block_lt_of_cell? _ _ x0)).trans x0, (hV.cell (World.block_lt_of_cell? _ _ x1)).trans x1, (hV.cell (World.block_lt_of_cell? _ _ x2)).trans x2⟩
   refine zB (by kernel_rfl) tHS.out fun tv0 tE0 tH0 => ?_
   refine zT 0 (some 17) (.slice bo m c) rfl rfl (by kernel_rfl) rfl (fun W ⟨h0, h1, h2⟩ => by go_simp) tH0 ?_
   simp only [FL]
   refine zT 1 (some 18) (.slice (some ⟨b, off, none⟩) ln lc) rfl rfl (by kernel_rfl) rfl (fun W ⟨h0, h1, h2⟩ => by go_simp) tH0 ?_
   simp only [FL]
   refine zT 2 (some 19) (.int .i64 (k : Nat)) rfl rfl (by kernel_rfl) rfl (fun W ⟨h0, h1, h2⟩ => by go_simp) tH0 ?_
   simp only [FL]
   refine zT 3 (some 20) (.pointer (some ⟨b, off + k * 3, none⟩)) rfl rfl (by kernel_rfl) rfl (fun W ⟨h0, h1, h2⟩ => by go_simp) tH0 ?_
   simp only [FL]
   refine zT 4 (some 21) (.pointer (some ⟨b, off + k * 3, none⟩)) rfl rfl (by kernel_rfl) rfl (fun W ⟨h0, h1, h2⟩ => by go_simp) tH0 ?_
   simp only [FL]
   refine zT 5 (some 22) (.int .u64 (u.fr : Nat)) rfl rfl (by kernel_rfl) rfl (fun W ⟨h0, h1, h2⟩ => by go_simp) tH0 ?_
   simp only [FL]
   refine zT 7 (some 24) (.slice (some ⟨b, off, none⟩) ln lc) rfl rfl (by kernel_rfl) rfl (fun W ⟨h0, h1, h2⟩ => by go_simp) tH0 ?_
   simp only [FL]
   refine zT 8 (some 25) (.int .i64 (k : Nat)) rfl rfl (by kernel_rfl) rfl (fun W ⟨h0, h1, h2⟩ => by go_simp) tH0 ?_
   simp only [FL]
   refine zT 9 (some 26) (.pointer (some ⟨b, off + k * 3, none⟩)) rfl rfl (by kernel_rfl) rfl (fun W ⟨h0, h1, h2⟩ => by go_simp) tH0 ?_
   simp only [FL]
   refine zT 10 (some 27) (.pointer (some ⟨b, off + k * 3 + 1, none⟩)) rfl rfl (by kernel_rfl) rfl (fun W ⟨h0, h1, h2⟩ => by go_simp) tH0 ?_
   simp only [FL]
   refine zT 11 (some 28) (.slice u.b.ao u.b.n u.b.cap) rfl rfl (by kernel_rfl) rfl (fun W ⟨h0, h1, h2⟩ => by go_simp) tH0 ?_
   simp only [FL]
   refine zT 13 (some 30) (.slice (some ⟨b, off, none⟩) ln lc) rfl rfl (by kernel_rfl) rfl (fun W ⟨h0, h1, h2⟩ => by go_simp) tH0 ?_
   simp only [FL]
   refine zT 14 (some 31) (.int .i64 (k : Nat)) rfl rfl (by kernel_rfl) rfl (fun W ⟨h0, h1, h2⟩ => by go_simp) tH0 ?_
   simp only [FL]
   refine zT 15 (some 32) (.pointer (some ⟨b, off + k * 3, none⟩)) rfl rfl (by kernel_rfl) rfl (fun W ⟨h0, h1, h2⟩ => by go_simp) tH0 ?_
   simp only [FL]
   refine zT 16 (some 33) (.pointer (some ⟨b, off + k * 3 + 2, none⟩)) rfl rfl (by kernel_rfl) rfl (fun W ⟨h0, h1, h2⟩ => by go_simp) tH0 ?_
   simp only [FL]
   refine zT 17 (some 34) (.slice u.tag.ao u.tag.n u.tag.cap) rfl rfl (by kernel_rfl) rfl (fun W ⟨h0, h1, h2⟩ => by go_simp) tH0 ?_
   simp only [FL]
   have St := S.below tE0
   refine hr_call_w 6 (some 23) 69 #[.slice bo m c, .int .u64 (u.fr : Nat)] rfl rfl (by kernel_rfl) rfl (by go_simp) (fun v w' => ∃ b1 m1 c1, v = .slice b1 m1 c1 ∧ Sl w' b1 m1 c1 (YS ++ enc u.fr) ∧ Below tv0.heap.size tv0 w') ((gUint tv0 bo m c u.fr YS St (by omega) uok.fr).mono (by
    rintro e w' ⟨b1, m1, c1, rfl, F, C⟩
    exact ⟨_, rfl, b1, m1, c1, rfl, F, C⟩)) ?_
   rintro v tv1 ⟨b1, m1, c1, rfl, tF0, tC0⟩
   have tE1 := tE0.trans (tC0.mono tE0.size)
   have tH1 := tHS.out tv1 tE1
   refine ⟨tH1, ?_⟩
   simp only [FL]
   have l1 := tF0.len
   rw [List.length_append] at l1
   refine hr_call_w 12 (some 29) 82 #[.slice b1 m1 c1, .slice u.b.ao u.b.n u.b.cap] rfl rfl (by kernel_rfl) rfl (by go_simp) (fun v w' => ∃ b2 m2 c2, v = .slice b2 m2 c2 ∧ Sl w' b2 m2 c2 (YS ++ enc u.fr ++ byts u.b.xs) ∧ Below tv1.heap.size tv1 w') ((gBytes tv1 b1 u.b.ao m1 c1 u.b.n u.b.cap _ _ tF0 (uok.b.below tE1) (by omega) (by omega)).mono (by
    rintro e w' ⟨b2, m2, c2, rfl, F, C⟩
    exact ⟨_, rfl, b2, m2, c2, rfl, F, C⟩)) ?_
   rintro v tv2 ⟨b2, m2, c2, rfl, tF1, tC1⟩
   have tE2 := tE1.trans (tC1.mono tE1.size)
   have tH2 := tHS.out tv2 tE2
   refine ⟨tH2, ?_⟩
   simp only [FL]
   have l2 := tF1.len
   rw [List.length_append, List.length_append] at l2
   refine hr_call_w 18 (some 35) 82 #[.slice b2 m2 c2, .slice u.tag.ao u.tag.n u.tag.cap] rfl rfl (by kernel_rfl) rfl (by go_simp) (fun v w' => ∃ b3 m3 c3, v = .slice b3 m3 c3 ∧ Sl w' b3 m3 c3 (YS ++ enc u.fr ++ byts u.b.xs ++ byts u.tag.xs) ∧ Below tv2.heap.size tv2 w') ((gBytes tv2 b2 u.tag.ao m2 c2 u.tag.n u.tag.cap _ _ tF1 (uok.tag.below tE2) (by omega) (by omega)).mono (by
    rintro e w' ⟨b3, m3, c3, rfl, F, C⟩
    exact ⟨_, rfl, b3, m3, c3, rfl, F, C⟩)) ?_
   rintro v tv3 ⟨b3, m3, c3, rfl, tF2, tC2⟩
   have tE3 := tE2.trans (tC2.mono tE2.size)
   have tH3 := tHS.out tv3 tE3
   refine ⟨tH3, ?_⟩
   simp only [FL]
   have l3 := tF2.len
   rw [List.length_append, List.length_append, List.length_append] at l3
   refine zT 19 (some 0) (.slice b3 m3 c3) rfl rfl (by kernel_rfl) rfl (fun W ⟨h0, h1, h2⟩ => by go_simp) tH3 ?_
   simp only [FL]
   refine wpAnyH_done (by kernel_rfl) ?_ _
   refine NoPanic.normal ?_
   have B3 := B.trans (tE3.mono B.size)
   rw [← HT.out] at tF2
   clear tF0 tF1 tHS St
   go_wp2
   go_roundw
   case rel => exact ⟨k + 1, b3, m3, c3, by omega, by go_num, rfl, tF2, by omega, B3⟩
   case measure => simp [intOf]; omega
  ·have hge : ¬ (k : Int) < (ln : Int) := by omega
   rw [List.take_of_length_le (by omega)] at S
   have e : enc ln ++ ((l.map SA.v).map putV).flatten = putLs putV (l.map SA.v) := by unfold putLs; rw [List.length_map, hl]
   rw [e] at S
   clear e
   go_wp2
   go_ret
   exact ⟨bo, m, c, rfl, S, B⟩
theorem vs_small2 {w : World} {ao : Option Addr} {n cap : Nat} {l : List SA} (h : GL elS w ao n cap l) (hn : n ≤ 16) (hf : ∀ s ∈ l, s.b.n ≤ 2000 ∧ s.tag.n ≤ 100) : (putLs putV (l.map SA.v)).length ≤ 34200 := by
 have g : ∀ k : List SA, (∀ s ∈ k, s ∈ l) → (((k.map SA.v).map putV).flatten).length ≤ 2130 * k.length := by
  intro k
  induction k with
  | nil => intro _; simp
  | cons a k ih =>
   intro hm
   have i1 := ih (fun x hx => hm x (List.mem_cons_of_mem _ hx))
   have ha := hm a (List.mem_cons_self ..)
   have ok := h.ok a ha
   have f := hf a ha
   have e1 := enc_length ok.fr
   have e2 := ok.b.len
   have e3 := ok.tag.len
   have e4 := enc_length (n := a.b.xs.length) (by omega)
   have e5 := enc_length (n := a.tag.xs.length) (by omega)
   have e6 : (putV a.v).length ≤ 2130 := by
    unfold putV SA.v byts
    simp only [List.length_append]
    omega
   simp only [List.map_cons, List.flatten_cons, List.length_append, List.length_cons]
   omega
 have g1 := g l (fun _ h => h)
 have e1 := enc_length (n := l.length) (by have := h.len; omega)
 unfold putLs
 rw [List.length_append, List.length_map]
 have := h.len
 omega
set_option maxRecDepth 100000 in
set_option maxHeartbeats 16000000 in
theorem rput13_any (w : World) (x : BM) (xs : List QE) (hx : x.ok w) (qx : x.q.l = xs.map QE.m) (ox : ∀ q ∈ xs, OW w 3 q.x) (lx : ∀ q ∈ xs, lightD 3 q.x = true) (hr : rightM x = true) (lb : LB x xs) :
  Calls Tryz.prog 43 #[x.val] w (PutPost w (putB x.v)) := by
 have B : Below w.heap.size w (w.alloc (Obj.cells #[.int .i64 x.kind, .int .u64 (x.view : Nat), .int .u64 (x.seq : Nat), .slice x.sum.ao x.sum.n x.sum.cap, .slice x.q.ao x.q.n x.q.cap, .int .u64 (x.cl : Nat), .int .u64 (x.st : Nat), .int .u64 (x.vw : Nat), .int .i64 x.e, .slice x.c.ao x.c.n x.c.cap, .bool x.more, .slice x.s.ao x.s.n x.s.cap, .slice x.t.ao x.t.n x.t.cap] 34)) := (Below.refl _ w).alloc (Nat.le_refl _) _
 have KX : (w.alloc (Obj.cells #[.int .i64 x.kind, .int .u64 (x.view : Nat), .int .u64 (x.seq : Nat), .slice x.sum.ao x.sum.n x.sum.cap, .slice x.q.ao x.q.n x.q.cap, .int .u64 (x.cl : Nat), .int .u64 (x.st : Nat), .int .u64 (x.vw : Nat), .int .i64 x.e, .slice x.c.ao x.c.n x.c.cap, .bool x.more, .slice x.s.ao x.s.n x.s.cap, .slice x.t.ao x.t.n x.t.cap] 34)).heap[w.heap.size]? = some (.cells #[.int .i64 x.kind, .int .u64 (x.view : Nat), .int .u64 (x.seq : Nat), .slice x.sum.ao x.sum.n x.sum.cap, .slice x.q.ao x.q.n x.q.cap, .int .u64 (x.cl : Nat), .int .u64 (x.st : Nat), .int .u64 (x.vw : Nat), .int .i64 x.e, .slice x.c.ao x.c.n x.c.cap, .bool x.more, .slice x.s.ao x.s.n x.s.cap, .slice x.t.ao x.t.n x.t.cap] 34) := heap_alloc_new w _
 have g := rgt hr
 have gk := g.kind
 have nq : xs.length = x.q.n := by rw [← hx.q.len, qx, List.length_map]
 have tl := hx.t.len
 have gqn := g.qn
 have gtn := g.tn
 have gsn := g.sn
 have gsm := g.sum
 have gv := g.view
 have gs := g.seq
 have e0 := enc_length (n := x.kind.toNat) (by omega)
 have e1 := enc_length hx.view
 have e2 := enc_length hx.seq
 have e3 := hx.sum.len
 have e4 : (byts x.sum.xs).length ≤ 42 := by have := enc_length (n := x.sum.xs.length) (by omega); unfold byts; rw [List.length_append]; omega
 have e5 := enc_length (n := x.q.n) (by omega)
 have e6 := enc_length (n := x.t.n) (by omega)
 have e7 := vs_small2 hx.s gsn lb.s.2
 have GX : GL elQ w x.q.ao x.q.n x.q.cap (xs.map QE.m) := by rw [← qx]; exact hx.q
 unfold BM.val
 go_enter Tryz.func43, Tryz.ntmps43
 go_wp2_with fail
 obtain ⟨w1, hw1⟩ : ∃ W, W = (w.alloc (Obj.cells #[.int .i64 x.kind, .int .u64 (x.view : Nat), .int .u64 (x.seq : Nat), .slice x.sum.ao x.sum.n x.sum.cap, .slice x.q.ao x.q.n x.q.cap, .int .u64 (x.cl : Nat), .int .u64 (x.st : Nat), .int .u64 (x.vw : Nat), .int .i64 x.e, .slice x.c.ao x.c.n x.c.cap, .bool x.more, .slice x.s.ao x.s.n x.s.cap, .slice x.t.ao x.t.n x.t.cap] 34)) := ⟨_, rfl⟩
 rw [← hw1] at B KX ⊢
 obtain ⟨N, hN⟩ : ∃ N, N = w.heap.size := ⟨_, rfl⟩
 rw [← hN] at KX ⊢
 have hN1 : N < w1.heap.size := (Array.getElem?_eq_some_iff.1 KX).1
 clear hw1 hN
 have C : Below w1.heap.size w1 w1 := Below.refl _ _
 have aHS : Hid (∀ V, Below w1.heap.size w1 V → V.cell? ⟨N, 0, none⟩ = some (.int .i64 x.kind) ∧ V.cell? ⟨N, 1, none⟩ = some (.int .u64 (x.view : Nat)) ∧ V.cell? ⟨N, 2, none⟩ = some (.int .u64 (x.seq : Nat))) := fun V hV => by have K := ((C.trans (hV.mono C.size)).block N hN1).trans KX; exact ⟨cell_of_row V N 0 _ _ _ K, cell_of_row V N 1 _ _ _ K, cell_of_row V N 2 _ _ _ K⟩
 refine zB (by kernel_rfl) aHS.out fun av0 aE0 aH0 => ?_
 refine zT 0 (some 10) (.pointer (some ⟨N, 0, none⟩)) rfl rfl (by kernel_rfl) rfl (fun W ⟨h0, h1, h2⟩ => by go_simp) aH0 ?_
 simp only [FL]
 refine zT 1 (some 11) (.int .i64 x.kind) rfl rfl (by kernel_rfl) rfl (fun W ⟨h0, h1, h2⟩ => by go_simp) aH0 ?_
 simp only [FL]
 refine zT 2 (some 12) (.int .u64 x.kind) rfl rfl (by kernel_rfl) rfl (fun W ⟨h0, h1, h2⟩ => by go_simp; exact IntWalk.u64_in _ (by omega)) aH0 ?_
 simp only [FL]
 refine zT 4 (some 14) (.pointer (some ⟨N, 1, none⟩)) rfl rfl (by kernel_rfl) rfl (fun W ⟨h0, h1, h2⟩ => by go_simp) aH0 ?_
 simp only [FL]
 refine zT 5 (some 15) (.int .u64 (x.view : Nat)) rfl rfl (by kernel_rfl) rfl (fun W ⟨h0, h1, h2⟩ => by go_simp) aH0 ?_
 simp only [FL]
 refine zT 7 (some 17) (.pointer (some ⟨N, 2, none⟩)) rfl rfl (by kernel_rfl) rfl (fun W ⟨h0, h1, h2⟩ => by go_simp) aH0 ?_
 simp only [FL]
 refine zT 8 (some 18) (.int .u64 (x.seq : Nat)) rfl rfl (by kernel_rfl) rfl (fun W ⟨h0, h1, h2⟩ => by go_simp) aH0 ?_
 simp only [FL]
 refine hr_call_w 3 (some 13) 69 #[.slice none 0 0, .int .u64 x.kind] rfl rfl (by kernel_rfl) rfl (by go_simp) (fun v w' => ∃ b1 m1 c1, v = .slice b1 m1 c1 ∧ Sl w' b1 m1 c1 ([] ++ enc x.kind.toNat) ∧ Below av0.heap.size av0 w') ((gUintI av0 none 0 0 x.kind [] (Sl.nothing _) (by omega) (by omega) (by omega)).mono (by
  rintro e w' ⟨b1, m1, c1, rfl, F, C⟩
  exact ⟨_, rfl, b1, m1, c1, rfl, F, C⟩)) ?_
 rintro v av1 ⟨b1, m1, c1, rfl, aF0, aC0⟩
 have aE1 := aE0.trans (aC0.mono aE0.size)
 have aH1 := aHS.out av1 aE1
 refine ⟨aH1, ?_⟩
 simp only [FL]
 have l1 := aF0.len
 rw [List.nil_append] at aF0 l1
 refine hr_call_w 6 (some 16) 69 #[.slice b1 m1 c1, .int .u64 (x.view : Nat)] rfl rfl (by kernel_rfl) rfl (by go_simp) (fun v w' => ∃ b2 m2 c2, v = .slice b2 m2 c2 ∧ Sl w' b2 m2 c2 (enc x.kind.toNat ++ enc x.view) ∧ Below av1.heap.size av1 w') ((gUint av1 b1 m1 c1 x.view _ aF0 (by omega) hx.view).mono (by
  rintro e w' ⟨b2, m2, c2, rfl, F, C⟩
  exact ⟨_, rfl, b2, m2, c2, rfl, F, C⟩)) ?_
 rintro v av2 ⟨b2, m2, c2, rfl, aF1, aC1⟩
 have aE2 := aE1.trans (aC1.mono aE1.size)
 have aH2 := aHS.out av2 aE2
 refine ⟨aH2, ?_⟩
 simp only [FL]
 have l2 := aF1.len
 rw [List.length_append] at l2
 refine hr_call_w 9 (some 19) 69 #[.slice b2 m2 c2, .int .u64 (x.seq : Nat)] rfl rfl (by kernel_rfl) rfl (by go_simp) (fun v w' => ∃ b3 m3 c3, v = .slice b3 m3 c3 ∧ Sl w' b3 m3 c3 (enc x.kind.toNat ++ enc x.view ++ enc x.seq) ∧ Below av2.heap.size av2 w') ((gUint av2 b2 m2 c2 x.seq _ aF1 (by omega) hx.seq).mono (by
  rintro e w' ⟨b3, m3, c3, rfl, F, C⟩
  exact ⟨_, rfl, b3, m3, c3, rfl, F, C⟩)) ?_
 rintro v av3 ⟨b3, m3, c3, rfl, aF2, aC2⟩
 have aE3 := aE2.trans (aC2.mono aE2.size)
 have aH3 := aHS.out av3 aE3
 refine ⟨aH3, ?_⟩
 simp only [FL]
 have l3 := aF2.len
 rw [List.length_append, List.length_append] at l3
 refine zT 10 (some 3) (.slice b3 m3 c3) rfl rfl (by kernel_rfl) rfl (fun W ⟨h0, h1, h2⟩ => by go_simp) aH3 ?_
 simp only [FL]
 refine wpAnyH_done (by kernel_rfl) ?_ _
 refine NoPanic.normal ?_
 have B := B.trans (aE3.mono B.size)
 have C := C.trans (aE3.mono C.size)
 obtain ⟨w2, hw2⟩ : ∃ W, W = av3 := ⟨_, rfl⟩
 have S := aF2
 rw [← hw2] at S B C ⊢
 clear hw2 aF0 aF1 aF2 aHS aE0 aE1 aE2 aE3 aH0 aH1 aH2 aH3 aC0 aC1 aC2
 obtain ⟨Y1, hY1⟩ : ∃ y, y = enc x.kind.toNat ++ enc x.view ++ enc x.seq := ⟨_, rfl⟩
 rw [← hY1] at S
 have HY1 : Hid (Y1 = enc x.kind.toNat ++ enc x.view ++ enc x.seq) := hY1
 have hS1 := S.len
 clear hY1
 go_wp2_with fail
 have dHS : Hid (∀ V, Below w2.heap.size w2 V → V.cell? ⟨N, 3, none⟩ = some (.slice x.sum.ao x.sum.n x.sum.cap) ∧ V.cell? ⟨N, 4, none⟩ = some (.slice x.q.ao x.q.n x.q.cap)) := fun V hV => by have K := ((C.trans (hV.mono C.size)).block N hN1).trans KX; exact ⟨cell_of_row V N 3 _ _ _ K, cell_of_row V N 4 _ _ _ K⟩
 refine zB (by kernel_rfl) dHS.out fun dv0 dE0 dH0 => ?_
 refine zT 0 (some 20) (.slice b3 m3 c3) rfl rfl (by kernel_rfl) rfl (fun W ⟨h0, h1⟩ => by go_simp) dH0 ?_
 simp only [FL]
 refine zT 1 (some 21) (.pointer (some ⟨N, 3, none⟩)) rfl rfl (by kernel_rfl) rfl (fun W ⟨h0, h1⟩ => by go_simp) dH0 ?_
 simp only [FL]
 refine zT 2 (some 22) (.slice x.sum.ao x.sum.n x.sum.cap) rfl rfl (by kernel_rfl) rfl (fun W ⟨h0, h1⟩ => by go_simp) dH0 ?_
 simp only [FL]
 refine zT 4 (some 24) (.pointer (some ⟨N, 4, none⟩)) rfl rfl (by kernel_rfl) rfl (fun W ⟨h0, h1⟩ => by go_simp) dH0 ?_
 simp only [FL]
 refine zT 5 (some 25) (.slice x.q.ao x.q.n x.q.cap) rfl rfl (by kernel_rfl) rfl (fun W ⟨h0, h1⟩ => by go_simp) dH0 ?_
 simp only [FL]
 refine zT 6 (some 26) (.int .i64 x.q.n) rfl rfl (by kernel_rfl) rfl (fun W ⟨h0, h1⟩ => by go_simp) dH0 ?_
 simp only [FL]
 refine zT 7 (some 27) (.int .u64 (x.q.n : Nat)) rfl rfl (by kernel_rfl) rfl (fun W ⟨h0, h1⟩ => by go_simp; exact IntWalk.u64_in _ (by omega)) dH0 ?_
 simp only [FL]
 have Sd := S.below dE0
 refine hr_call_w 3 (some 23) 82 #[.slice b3 m3 c3, .slice x.sum.ao x.sum.n x.sum.cap] rfl rfl (by kernel_rfl) rfl (by go_simp) (fun v w' => ∃ b4 m4 c4, v = .slice b4 m4 c4 ∧ Sl w' b4 m4 c4 (Y1 ++ byts x.sum.xs) ∧ Below dv0.heap.size dv0 w') ((gBytes dv0 b3 x.sum.ao m3 c3 x.sum.n x.sum.cap _ _ Sd (hx.sum.below (B.trans (dE0.mono B.size))) (by omega) (by omega)).mono (by
  rintro e w' ⟨b4, m4, c4, rfl, F, C⟩
  exact ⟨_, rfl, b4, m4, c4, rfl, F, C⟩)) ?_
 rintro v dv1 ⟨b4, m4, c4, rfl, dF0, dC0⟩
 have dE1 := dE0.trans (dC0.mono dE0.size)
 have dH1 := dHS.out dv1 dE1
 refine ⟨dH1, ?_⟩
 simp only [FL]
 have l4 := dF0.len
 rw [List.length_append] at l4
 refine hr_call_w 8 (some 28) 69 #[.slice b4 m4 c4, .int .u64 (x.q.n : Nat)] rfl rfl (by kernel_rfl) rfl (by go_simp) (fun v w' => ∃ b5 m5 c5, v = .slice b5 m5 c5 ∧ Sl w' b5 m5 c5 (Y1 ++ byts x.sum.xs ++ enc x.q.n) ∧ Below dv1.heap.size dv1 w') ((gUint dv1 b4 m4 c4 x.q.n _ dF0 (by omega) (by omega)).mono (by
  rintro e w' ⟨b5, m5, c5, rfl, F, C⟩
  exact ⟨_, rfl, b5, m5, c5, rfl, F, C⟩)) ?_
 rintro v dv2 ⟨b5, m5, c5, rfl, dF1, dC1⟩
 have dE2 := dE1.trans (dC1.mono dE1.size)
 have dH2 := dHS.out dv2 dE2
 refine ⟨dH2, ?_⟩
 simp only [FL]
 have l5 := dF1.len
 rw [List.length_append, List.length_append] at l5
 refine zT 9 (some 3) (.slice b5 m5 c5) rfl rfl (by kernel_rfl) rfl (fun W ⟨h0, h1⟩ => by go_simp) dH2 ?_
 simp only [FL]
 refine wpAnyH_done (by kernel_rfl) ?_ _
 refine NoPanic.normal ?_
 have B := B.trans (dE2.mono B.size)
 have C := C.trans (dE2.mono C.size)
 obtain ⟨w3, hw3⟩ : ∃ W, W = dv2 := ⟨_, rfl⟩
 have S := dF1
 rw [← hw3] at S B C ⊢
 clear hw3 dF0 dF1 dHS dE0 dE1 dE2 dH0 dH1 dH2 dC0 dC1 Sd
 go_wp2_with fail
 go_loopw [3, 4, 5, 6] (fun s i _ _ wr => ∃ (k : Nat) (bo : Option Addr) (m c : Nat), k ≤ x.q.n ∧ i = .int .i64 k ∧ s = .slice bo m c ∧ Sl wr bo m c (Y1 ++ byts x.sum.xs ++ (enc x.q.n ++ (((x.q.l.take k).map QM.v).map (fun q => byts (putQ q))).flatten)) ∧ m ≤ 100 + 8020 * k ∧ Below w.heap.size w wr ∧ Below w1.heap.size w1 wr) (fun _ i _ _ _ => x.q.n - (intOf i).toNat)
 case atStart => exact ⟨0, b5, m5, c5, Nat.zero_le _, rfl, rfl, by simpa using S, by omega, B, C⟩
 case round =>
  clear S B C
  obtain ⟨k, bo, m, c, hk, rfl, rfl, S, hm, B, C⟩ := hrel
  have p4 := cell_of_row wr N 4 _ _ _ ((C.block N hN1).trans KX)
  by_cases hlt : k < x.q.n
  ·have hki : (k : Int) < (x.q.n : Int) := by omega
   have hkx : k < xs.length := by omega
   have hkl : k < x.q.l.length := by rw [qx, List.length_map]; exact hkx
   obtain ⟨b1, o1, e1, hc1⟩ := (GX.below elQ_fine B).atQ (by omega)
   have X := hc1 k (by rw [List.length_map]; exact hkx)
   rw [List.getElem_map] at X
   rw [e1] at p4
   have hmem := List.getElem_mem hkx
   have wu := OW.below B (ox _ hmem)
   have lu := lx _ hmem
   have eu : x.q.l[k] = (xs[k]).m := by simp only [qx, List.getElem_map]
   have okm : QM.ok (xs[k]).m w := by rw [← eu]; exact hx.q.ok _ (List.getElem_mem hkl)
   have km : kq (xs[k]).m.cl (xs[k]).m.st (rightO (xs[k]).m.o.s ((xs[k]).m.l.map sn0)) = 0 := by rw [← eu]; exact g.q _ (List.getElem_mem hkl)
   have HT : Hid (Y1 ++ byts x.sum.xs ++ (enc x.q.n ++ (((x.q.l.take (k + 1)).map QM.v).map (fun q => byts (putQ q))).flatten) = Y1 ++ byts x.sum.xs ++ (enc x.q.n ++ (((x.q.l.take k).map QM.v).map (fun q => byts (putQ q))).flatten) ++ byts (putQ (xs[k]).m.v)) := by
    show _ = _
    rw [List.take_succ_eq_append_getElem hkl, eu, List.map_append, List.map_append, List.flatten_append, List.map_singleton, List.map_singleton, List.flatten_singleton]
    simp only [List.append_assoc]
   obtain ⟨u, hu⟩ : ∃ u, u = xs[k] := ⟨_, rfl⟩
   rw [← hu] at X wu lu HT okm km
   clear hu hc1 hmem eu hkl
   have lq := req_len okm km
   have wu0 : OW wr 3 ((show OA × List (OD 2) from u.x).1, (show OA × List (OD 2) from u.x).2) := wu
   have CQ := rreq_far 2 wr u.cl u.st (show OA × List (OD 2) from u.x).1 (show OA × List (OD 2) from u.x).2 okm.cl okm.st wu0 lu ((show OA × List (OD 2) from u.x).2.map (topD 2)) rfl
   have HP : ∃ ys, ys = putQ u.m.v ∧ Calls Tryz.prog 24 #[qVal u.cl u.st (show OA × List (OD 2) from u.x).1] wr fun e w' => ∃ bo m c, e = .returned (.tuple #[.slice bo m c, .int .i64 0]) ∧ Sl w' bo m c ys ∧ Below wr.heap.size wr w' := ⟨_, rfl, CQ.mono (by
    rintro e w' ⟨⟨bo, m, c, rfl, s, -⟩, D⟩
    have km : kq u.cl u.st (rightO (show OA × List (OD 2) from u.x).1.s (((show OA × List (OD 2) from u.x).2.map (topD 2)).map sn0)) = 0 := km
    rw [km, if_pos rfl] at s
    refine ⟨bo, m, c, by rw [km], ?_, D⟩
    have e : putQ u.m.v = enc u.cl ++ (enc u.st ++ putA (show OA × List (OD 2) from u.x).1 ((show OA × List (OD 2) from u.x).2.map (topD 2))) := by
     unfold putQ QM.v
     rw [putA_P]
     rfl
    rw [e]
    exact s)⟩
   obtain ⟨ys, hys, CQ⟩ := HP
   rw [← hys] at HT lq
   have X : QX wr b1 (o1 + k * 12) ⟨u.cl, u.st, (show OA × List (OD 2) from u.x).1, []⟩ := ⟨X.c0, X.c1, X.c2, X.c3, X.c4, X.c5, X.c6, X.c7, X.c8, X.c9, X.c10, X.c11⟩
   generalize (show OA × List (OD 2) from u.x).1 = ou at CQ X
   unfold qVal OA.cells at CQ
   obtain ⟨q0, q1, q2, q3, q4, q5, q6, q7, q8, q9, q10, q11⟩ := X
   simp only at q0 q1 q2 q3 q4 q5 q6 q7 q8 q9 q10 q11
   have hSl := S.len
   clear wu wu0 lu okm e1 hys km
   go_wp2_with fail
   refine CQ.mono ?_
   rintro e w5 ⟨b6, m6, c6, rfl, S6, D⟩
   have S := S.below D
   have B := B.trans (D.mono B.size)
   have C := C.trans (D.mono C.size)
   have hS6 := S6.len
   clear CQ D q0 q1 q2 q3 q4 q5 q6 q7 q8 q9 q10 q11 p4
   have CB := gBytes w5 bo b6 m c m6 c6 _ _ S S6 (by omega) (by omega)
   rw [← HT.out] at CB
   have hln := (congrArg List.length HT.out).trans List.length_append
   have lby : (byts ys).length ≤ 8010 := by have := enc_length (n := ys.length) (by omega); unfold byts; rw [List.length_append]; omega
   clear S S6 HT
   go_wp2_with fail
   refine CB.mono ?_
   rintro e w6 ⟨b7, m7, c7, rfl, S, D⟩
   have B := B.trans (D.mono B.size)
   have C := C.trans (D.mono C.size)
   have hS7 := S.len
   clear CB D
   go_wp2
   go_roundw
   case rel => exact ⟨k + 1, b7, m7, c7, by omega, by go_num, rfl, S, by omega, B, C⟩
   case measure => simp [intOf]; omega
  ·have hge : ¬ (k : Int) < (x.q.n : Int) := by omega
   rw [List.take_of_length_le (by have := hx.q.len; omega)] at S
   have e : Y1 ++ byts x.sum.xs ++ (enc x.q.n ++ ((x.q.l.map QM.v).map (fun q => byts (putQ q))).flatten) = Y1 ++ byts x.sum.xs ++ putLs (fun q => byts (putQ q)) (x.q.l.map QM.v) := by
    unfold putLs
    rw [List.length_map, hx.q.len]
   rw [e] at S
   have hS3 := S.len
   have p0 := cell_of_row wr N 0 _ _ _ ((C.block N hN1).trans KX)
   clear e GX ox lx
   by_cases h5 : x.kind = 5
   ·have t5 : (x.kind == 5) = true := by simp [h5]
    have HK5 : Hid (x.kind = 5) := h5
    have hrr := g.r5 h5
    have lr := (res_back hrr hx.c.ok).2
    have CR := rresult_any wr x.e x.c.ao x.c.n x.c.cap x.c.l x.more (hx.c.below B)
    have HR : ∃ ys, ys = putR (resR x.e x.c.l x.more) ∧ Calls Tryz.prog 83 #[.agg #[.int .i64 x.e, .slice x.c.ao x.c.n x.c.cap, .bool x.more]] wr fun e w' => ∃ bo m c, e = .returned (.tuple #[.slice bo m c, .int .i64 0]) ∧ Sl w' bo m c ys ∧ Below wr.heap.size wr w' := ⟨_, rfl, CR.mono (by
     rintro e w' ⟨⟨bo, m, c, rfl, s⟩, D⟩
     rw [hrr, if_pos rfl] at s
     have hk : kindR (resR x.e x.c.l x.more) = 0 := by unfold kindR; rw [hrr]; rfl
     exact ⟨bo, m, c, by rw [hk], s, D⟩)⟩
    obtain ⟨ys, hys, CR⟩ := HR
    rw [← hys] at lr
    have HYS : Hid (ys = putR (resR x.e x.c.l x.more)) := hys
    have p8 := cell_of_row wr N 8 _ _ _ ((C.block N hN1).trans KX)
    have p9 := cell_of_row wr N 9 _ _ _ ((C.block N hN1).trans KX)
    have p10 := cell_of_row wr N 10 _ _ _ ((C.block N hN1).trans KX)
    clear hys h5 hrr
    go_wp2_with fail
    refine CR.mono ?_
    rintro e w5 ⟨ro, rm, rc, rfl, SR, D⟩
    have S := S.below D
    have B := B.trans (D.mono B.size)
    have C := C.trans (D.mono C.size)
    have hSR := SR.len
    clear CR D p0 p4 p8 p9 p10
    obtain ⟨Y3, hY3⟩ : ∃ y, y = Y1 ++ byts x.sum.xs ++ putLs (fun q => byts (putQ q)) (x.q.l.map QM.v) := ⟨_, rfl⟩
    rw [← hY3] at S hS3
    have HY3 : Hid (Y3 = Y1 ++ byts x.sum.xs ++ putLs (fun q => byts (putQ q)) (x.q.l.map QM.v)) := hY3
    clear hY3
    have f1 := enc_length hx.cl
    have f2 := enc_length hx.st
    have f3 := enc_length hx.vw
    rw [HYS.out] at SR hSR lr
    have f4 : (byts (putR (resR x.e x.c.l x.more))).length ≤ 8010 := by have := enc_length (n := (putR (resR x.e x.c.l x.more)).length) (by omega); unfold byts; rw [List.length_append]; omega
    go_wp2_with fail
    have dHS : Hid (∀ V, Below w5.heap.size w5 V → V.cell? ⟨N, 5, none⟩ = some (.int .u64 (x.cl : Nat)) ∧ V.cell? ⟨N, 6, none⟩ = some (.int .u64 (x.st : Nat)) ∧ V.cell? ⟨N, 7, none⟩ = some (.int .u64 (x.vw : Nat))) := fun V hV => by have K := ((C.trans (hV.mono C.size)).block N hN1).trans KX; exact ⟨cell_of_row V N 5 _ _ _ K, cell_of_row V N 6 _ _ _ K, cell_of_row V N 7 _ _ _ K⟩
    refine zB (by kernel_rfl) dHS.out fun dv0 dE0 dH0 => ?_
    refine zT 0 (some 58) (.slice bo m c) rfl rfl (by kernel_rfl) rfl (fun W ⟨h0, h1, h2⟩ => by go_simp) dH0 ?_
    simp only [FL]
    refine zT 1 (some 59) (.pointer (some ⟨N, 5, none⟩)) rfl rfl (by kernel_rfl) rfl (fun W ⟨h0, h1, h2⟩ => by go_simp) dH0 ?_
    simp only [FL]
    refine zT 2 (some 60) (.pointer (some ⟨N, 5, none⟩)) rfl rfl (by kernel_rfl) rfl (fun W ⟨h0, h1, h2⟩ => by go_simp) dH0 ?_
    simp only [FL]
    refine zT 3 (some 61) (.int .u64 (x.cl : Nat)) rfl rfl (by kernel_rfl) rfl (fun W ⟨h0, h1, h2⟩ => by go_simp) dH0 ?_
    simp only [FL]
    refine zT 5 (some 63) (.pointer (some ⟨N, 5, none⟩)) rfl rfl (by kernel_rfl) rfl (fun W ⟨h0, h1, h2⟩ => by go_simp) dH0 ?_
    simp only [FL]
    refine zT 6 (some 64) (.pointer (some ⟨N, 6, none⟩)) rfl rfl (by kernel_rfl) rfl (fun W ⟨h0, h1, h2⟩ => by go_simp) dH0 ?_
    simp only [FL]
    refine zT 7 (some 65) (.int .u64 (x.st : Nat)) rfl rfl (by kernel_rfl) rfl (fun W ⟨h0, h1, h2⟩ => by go_simp) dH0 ?_
    simp only [FL]
    refine zT 9 (some 67) (.pointer (some ⟨N, 5, none⟩)) rfl rfl (by kernel_rfl) rfl (fun W ⟨h0, h1, h2⟩ => by go_simp) dH0 ?_
    simp only [FL]
    refine zT 10 (some 68) (.pointer (some ⟨N, 7, none⟩)) rfl rfl (by kernel_rfl) rfl (fun W ⟨h0, h1, h2⟩ => by go_simp) dH0 ?_
    simp only [FL]
    refine zT 11 (some 69) (.int .u64 (x.vw : Nat)) rfl rfl (by kernel_rfl) rfl (fun W ⟨h0, h1, h2⟩ => by go_simp) dH0 ?_
    simp only [FL]
    refine zT 13 (some 71) (.slice ro rm rc) rfl rfl (by kernel_rfl) rfl (fun W ⟨h0, h1, h2⟩ => by go_simp) dH0 ?_
    simp only [FL]
    have Sd := S.below dE0
    refine hr_call_w 4 (some 62) 69 #[.slice bo m c, .int .u64 (x.cl : Nat)] rfl rfl (by kernel_rfl) rfl (by go_simp) (fun v w' => ∃ b1 m1 c1, v = .slice b1 m1 c1 ∧ Sl w' b1 m1 c1 (Y3 ++ enc x.cl) ∧ Below dv0.heap.size dv0 w') ((gUint dv0 bo m c x.cl _ Sd (by omega) hx.cl).mono (by
     rintro e w' ⟨b1, m1, c1, rfl, F, C⟩
     exact ⟨_, rfl, b1, m1, c1, rfl, F, C⟩)) ?_
    rintro v dv1 ⟨b1, m1, c1, rfl, dF0, dC0⟩
    have dE1 := dE0.trans (dC0.mono dE0.size)
    have dH1 := dHS.out dv1 dE1
    refine ⟨dH1, ?_⟩
    simp only [FL]
    have l1 := dF0.len
    rw [List.length_append] at l1
    refine hr_call_w 8 (some 66) 69 #[.slice b1 m1 c1, .int .u64 (x.st : Nat)] rfl rfl (by kernel_rfl) rfl (by go_simp) (fun v w' => ∃ b2 m2 c2, v = .slice b2 m2 c2 ∧ Sl w' b2 m2 c2 (Y3 ++ enc x.cl ++ enc x.st) ∧ Below dv1.heap.size dv1 w') ((gUint dv1 b1 m1 c1 x.st _ dF0 (by omega) hx.st).mono (by
     rintro e w' ⟨b2, m2, c2, rfl, F, C⟩
     exact ⟨_, rfl, b2, m2, c2, rfl, F, C⟩)) ?_
    rintro v dv2 ⟨b2, m2, c2, rfl, dF1, dC1⟩
    have dE2 := dE1.trans (dC1.mono dE1.size)
    have dH2 := dHS.out dv2 dE2
    refine ⟨dH2, ?_⟩
    simp only [FL]
    have l2 := dF1.len
    rw [List.length_append, List.length_append] at l2
    refine hr_call_w 12 (some 70) 69 #[.slice b2 m2 c2, .int .u64 (x.vw : Nat)] rfl rfl (by kernel_rfl) rfl (by go_simp) (fun v w' => ∃ b3 m3 c3, v = .slice b3 m3 c3 ∧ Sl w' b3 m3 c3 (Y3 ++ enc x.cl ++ enc x.st ++ enc x.vw) ∧ Below dv2.heap.size dv2 w') ((gUint dv2 b2 m2 c2 x.vw _ dF1 (by omega) hx.vw).mono (by
     rintro e w' ⟨b3, m3, c3, rfl, F, C⟩
     exact ⟨_, rfl, b3, m3, c3, rfl, F, C⟩)) ?_
    rintro v dv3 ⟨b3, m3, c3, rfl, dF2, dC2⟩
    have dE3 := dE2.trans (dC2.mono dE2.size)
    have dH3 := dHS.out dv3 dE3
    refine ⟨dH3, ?_⟩
    simp only [FL]
    have l3 := dF2.len
    rw [List.length_append, List.length_append, List.length_append] at l3
    refine hr_call_w 14 (some 72) 82 #[.slice b3 m3 c3, .slice ro rm rc] rfl rfl (by kernel_rfl) rfl (by go_simp) (fun v w' => ∃ b4 m4 c4, v = .slice b4 m4 c4 ∧ Sl w' b4 m4 c4 (Y3 ++ enc x.cl ++ enc x.st ++ enc x.vw ++ byts (putR (resR x.e x.c.l x.more))) ∧ Below dv3.heap.size dv3 w') ((gBytes dv3 b3 ro m3 c3 rm rc _ _ dF2 (SR.below dE3) (by omega) (by omega)).mono (by
     rintro e w' ⟨b4, m4, c4, rfl, F, C⟩
     exact ⟨_, rfl, b4, m4, c4, rfl, F, C⟩)) ?_
    rintro v dv4 ⟨b4, m4, c4, rfl, dF3, dC3⟩
    have dE4 := dE3.trans (dC3.mono dE3.size)
    have dH4 := dHS.out dv4 dE4
    refine ⟨dH4, ?_⟩
    simp only [FL]
    have l4 := dF3.len
    rw [List.length_append, List.length_append, List.length_append, List.length_append] at l4
    refine zT 15 (some 3) (.slice b4 m4 c4) rfl rfl (by kernel_rfl) rfl (fun W ⟨h0, h1, h2⟩ => by go_simp) dH4 ?_
    simp only [FL]
    refine wpAnyH_done (by kernel_rfl) ?_ _
    refine NoPanic.normal ?_
    have B := B.trans (dE4.mono B.size)
    have C := C.trans (dE4.mono C.size)
    have S := dF3
    clear dF0 dF1 dF2 dF3 dHS dE0 dE1 dE2 dE3 dE4 dH0 dH1 dH2 dH3 dH4 dC0 dC1 dC2 dC3 Sd SR HYS
    obtain ⟨bo, hbo⟩ : ∃ b, b = b4 := ⟨_, rfl⟩
    obtain ⟨m, hm9⟩ : ∃ b, b = m4 := ⟨_, rfl⟩
    obtain ⟨c, hc9⟩ : ∃ b, b = c4 := ⟨_, rfl⟩
    rw [← hbo, ← hm9, ← hc9] at S ⊢
    rw [← hm9] at l4
    clear hbo hm9 hc9
    obtain ⟨w6, hw6⟩ : ∃ W, W = dv4 := ⟨_, rfl⟩
    rw [← hw6] at S B C ⊢
    clear hw6
    obtain ⟨Y4, hY4⟩ : ∃ y, y = Y3 ++ enc x.cl ++ enc x.st ++ enc x.vw ++ byts (putR (resR x.e x.c.l x.more)) := ⟨_, rfl⟩
    rw [← hY4] at S
    have HY4 : Hid (Y4 = enc x.kind.toNat ++ enc x.view ++ enc x.seq ++ byts x.sum.xs ++ putLs (fun q => byts (putQ q)) (x.q.l.map QM.v) ++ (if x.kind = 5 then putPV x.v.rep else [])) := by
     show _ = _
     rw [hY4]
     rw [if_pos HK5.out, HY3.out, HY1.out]; show _ = _ ++ (enc x.cl ++ (enc x.st ++ (enc x.vw ++ byts (putR (resR x.e x.c.l x.more))))); simp only [List.append_assoc]
    clear hY4
    have hS4 := S.len
    go_wp2_with fail
    have fHS : Hid (∀ V, Below w6.heap.size w6 V → V.cell? ⟨N, 11, none⟩ = some (.slice x.s.ao x.s.n x.s.cap) ∧ V.cell? ⟨N, 12, none⟩ = some (.slice x.t.ao x.t.n x.t.cap)) := fun V hV => by have K := ((C.trans (hV.mono C.size)).block N hN1).trans KX; exact ⟨cell_of_row V N 11 _ _ _ K, cell_of_row V N 12 _ _ _ K⟩
    refine zB (by kernel_rfl) fHS.out fun fv0 fE0 fH0 => ?_
    refine zT 0 (some 73) (.slice bo m c) rfl rfl (by kernel_rfl) rfl (fun W ⟨h0, h1⟩ => by go_simp) fH0 ?_
    simp only [FL]
    refine zT 1 (some 74) (.pointer (some ⟨N, 11, none⟩)) rfl rfl (by kernel_rfl) rfl (fun W ⟨h0, h1⟩ => by go_simp) fH0 ?_
    simp only [FL]
    refine zT 2 (some 75) (.slice x.s.ao x.s.n x.s.cap) rfl rfl (by kernel_rfl) rfl (fun W ⟨h0, h1⟩ => by go_simp) fH0 ?_
    simp only [FL]
    refine zT 4 (some 77) (.pointer (some ⟨N, 12, none⟩)) rfl rfl (by kernel_rfl) rfl (fun W ⟨h0, h1⟩ => by go_simp) fH0 ?_
    simp only [FL]
    refine zT 5 (some 78) (.slice x.t.ao x.t.n x.t.cap) rfl rfl (by kernel_rfl) rfl (fun W ⟨h0, h1⟩ => by go_simp) fH0 ?_
    simp only [FL]
    refine zT 6 (some 79) (.int .i64 x.t.n) rfl rfl (by kernel_rfl) rfl (fun W ⟨h0, h1⟩ => by go_simp) fH0 ?_
    simp only [FL]
    refine zT 7 (some 80) (.int .u64 (x.t.n : Nat)) rfl rfl (by kernel_rfl) rfl (fun W ⟨h0, h1⟩ => by go_simp; exact IntWalk.u64_in _ (by omega)) fH0 ?_
    simp only [FL]
    have Sd := S.below fE0
    refine hr_call_w 3 (some 76) 84 #[.slice bo m c, .slice x.s.ao x.s.n x.s.cap] rfl rfl (by kernel_rfl) rfl (by go_simp) (fun v w' => ∃ b7 m7 c7, v = .slice b7 m7 c7 ∧ Sl w' b7 m7 c7 (Y4 ++ putLs putV (x.s.l.map SA.v)) ∧ Below fv0.heap.size fv0 w') ((rputs_any fv0 bo m c _ Sd x.s.ao x.s.n x.s.cap x.s.l (hx.s.below elS_fine (B.trans (fE0.mono B.size))) (by omega) lb.s.1 lb.s.2).mono (by
     rintro e w' ⟨b7, m7, c7, rfl, F, C⟩
     exact ⟨_, rfl, b7, m7, c7, rfl, F, C⟩)) ?_
    rintro v fv1 ⟨b7, m7, c7, rfl, fF0, fC0⟩
    have fE1 := fE0.trans (fC0.mono fE0.size)
    have fH1 := fHS.out fv1 fE1
    refine ⟨fH1, ?_⟩
    simp only [FL]
    have l7 := fF0.len
    rw [List.length_append] at l7
    refine hr_call_w 8 (some 81) 69 #[.slice b7 m7 c7, .int .u64 (x.t.n : Nat)] rfl rfl (by kernel_rfl) rfl (by go_simp) (fun v w' => ∃ b8 m8 c8, v = .slice b8 m8 c8 ∧ Sl w' b8 m8 c8 (Y4 ++ putLs putV (x.s.l.map SA.v) ++ enc x.t.n) ∧ Below fv1.heap.size fv1 w') ((gUint fv1 b7 m7 c7 x.t.n _ fF0 (by omega) (by omega)).mono (by
     rintro e w' ⟨b8, m8, c8, rfl, F, C⟩
     exact ⟨_, rfl, b8, m8, c8, rfl, F, C⟩)) ?_
    rintro v fv2 ⟨b8, m8, c8, rfl, fF1, fC1⟩
    have fE2 := fE1.trans (fC1.mono fE1.size)
    have fH2 := fHS.out fv2 fE2
    refine ⟨fH2, ?_⟩
    simp only [FL]
    have l8 := fF1.len
    rw [List.length_append, List.length_append] at l8
    refine zT 9 (some 3) (.slice b8 m8 c8) rfl rfl (by kernel_rfl) rfl (fun W ⟨h0, h1⟩ => by go_simp) fH2 ?_
    simp only [FL]
    refine wpAnyH_done (by kernel_rfl) ?_ _
    refine NoPanic.normal ?_
    have B := B.trans (fE2.mono B.size)
    have C := C.trans (fE2.mono C.size)
    obtain ⟨w7, hw7⟩ : ∃ W, W = fv2 := ⟨_, rfl⟩
    have S := fF1
    rw [← hw7] at S B C ⊢
    clear hw7 fF0 fF1 fHS fE0 fE1 fE2 fH0 fH1 fH2 fC0 fC1 Sd
    go_wp2_with fail
    go_loopw [3, 9] (fun s i wr => ∃ (k : Nat) (bo : Option Addr) (m c : Nat), k ≤ x.t.n ∧ i = .int .i64 k ∧ s = .slice bo m c ∧ Sl wr bo m c (Y4 ++ putLs putV (x.s.l.map SA.v) ++ (enc x.t.n ++ (((x.t.l.take k).map fun s => s.l.map SA.v).map (putLs putV)).flatten)) ∧ m ≤ 60000 + 34200 * k ∧ Below w.heap.size w wr ∧ Below w1.heap.size w1 wr) (fun _ i _ => x.t.n - (intOf i).toNat)
    case atStart => exact ⟨0, b8, m8, c8, Nat.zero_le _, rfl, rfl, by simpa using S, by omega, B, C⟩
    case round =>
     clear S B C
     obtain ⟨k, bo, m, c, hk, rfl, rfl, S, hm, B, C⟩ := hrel
     have p12 := cell_of_row wr N 12 _ _ _ ((C.block N hN1).trans KX)
     by_cases hlt : k < x.t.n
     ·have hki : (k : Int) < (x.t.n : Int) := by omega
      have hkl : k < x.t.l.length := by omega
      obtain ⟨b1, o1, e1, hc1⟩ := (hx.t.below elS_fine.lists B).atL (by omega)
      have X := hc1 k hkl
      rw [e1] at p12
      have ok : elS.lists.ok x.t.l[k] w := hx.t.ok _ (List.getElem_mem hkl)
      have gt := (g.t _ (List.getElem_mem hkl)).1
      have st := lb.t _ (List.getElem_mem hkl)
      have HT : Hid (Y4 ++ putLs putV (x.s.l.map SA.v) ++ (enc x.t.n ++ (((x.t.l.take (k + 1)).map fun s => s.l.map SA.v).map (putLs putV)).flatten) = Y4 ++ putLs putV (x.s.l.map SA.v) ++ (enc x.t.n ++ (((x.t.l.take k).map fun s => s.l.map SA.v).map (putLs putV)).flatten) ++ putLs putV (x.t.l[k].l.map SA.v)) := by
       show _ = _
       rw [List.take_succ_eq_append_getElem hkl, List.map_append, List.map_append, List.flatten_append, List.map_singleton, List.map_singleton, List.flatten_singleton]
       simp only [List.append_assoc]
      obtain ⟨u, hu⟩ : ∃ u, u = x.t.l[k] := ⟨_, rfl⟩
      rw [← hu] at X ok HT gt st
      clear hu hc1 e1
      have ok : GL elS w u.ao u.n u.cap u.l := ok
      have hv := vs_small2 ok gt st.2
      have CP := rputs_any wr bo m c _ S u.ao u.n u.cap u.l (ok.below elS_fine B) (by omega) st.1 st.2
      rw [← HT.out] at CP
      have hSl := S.len
      have hln := (congrArg List.length HT.out).trans List.length_append
      clear S
      go_wp2_with fail
      refine CP.mono ?_
      rintro e wz ⟨b9, m9, c9, rfl, S, D⟩
      have B := B.trans (D.mono B.size)
      have C := C.trans (D.mono C.size)
      have hS9 := S.len
      clear CP D X p12 HT ok
      go_wp2
      go_roundw
      case rel => exact ⟨k + 1, b9, m9, c9, by omega, by go_num, rfl, S, by omega, B, C⟩
      case measure => simp [intOf]; omega
     ·have hge : ¬ (k : Int) < (x.t.n : Int) := by omega
      rw [List.take_of_length_le (by omega)] at S
      have e : Y4 ++ putLs putV (x.s.l.map SA.v) ++ (enc x.t.n ++ ((x.t.l.map fun s => s.l.map SA.v).map (putLs putV)).flatten) = putB x.v := by
       rw [HY4.out]
       unfold putB
       show _ = enc x.kind.toNat ++ (enc x.view ++ (enc x.seq ++ (byts x.sum.xs ++ (putLs (fun q => byts (putQ q)) (x.q.l.map QM.v) ++ ((if x.kind = 5 then putPV x.v.rep else []) ++ (putLs putV (x.s.l.map SA.v) ++ putLs (putLs putV) (x.t.l.map fun s => s.l.map SA.v)))))))
       have e2 : putLs (putLs putV) (x.t.l.map fun s => s.l.map SA.v) = enc x.t.n ++ ((x.t.l.map fun s => s.l.map SA.v).map (putLs putV)).flatten := by
        unfold putLs
        rw [List.length_map, tl]
       rw [e2]
       simp only [List.append_assoc]
      rw [e] at S
      clear e HY4
      go_wp2
      go_ret
      exact ⟨bo, m, c, rfl, S, B⟩
   ·have t5 : (x.kind == 5) = false := by simp [h5]
    have HK5 : Hid (¬ x.kind = 5) := h5
    clear h5
    go_wp2_with fail
    clear p0 p4
    obtain ⟨w6, hw6⟩ : ∃ W, W = wr := ⟨_, rfl⟩
    rw [← hw6] at S B C ⊢
    clear hw6
    obtain ⟨Y4, hY4⟩ : ∃ y, y = Y1 ++ byts x.sum.xs ++ putLs (fun q => byts (putQ q)) (x.q.l.map QM.v) := ⟨_, rfl⟩
    rw [← hY4] at S
    have HY4 : Hid (Y4 = enc x.kind.toNat ++ enc x.view ++ enc x.seq ++ byts x.sum.xs ++ putLs (fun q => byts (putQ q)) (x.q.l.map QM.v) ++ (if x.kind = 5 then putPV x.v.rep else [])) := by
     show _ = _
     rw [hY4]
     rw [if_neg HK5.out, HY1.out, List.append_nil]
    clear hY4
    have hS4 := S.len
    go_wp2_with fail
    have fHS : Hid (∀ V, Below w6.heap.size w6 V → V.cell? ⟨N, 11, none⟩ = some (.slice x.s.ao x.s.n x.s.cap) ∧ V.cell? ⟨N, 12, none⟩ = some (.slice x.t.ao x.t.n x.t.cap)) := fun V hV => by have K := ((C.trans (hV.mono C.size)).block N hN1).trans KX; exact ⟨cell_of_row V N 11 _ _ _ K, cell_of_row V N 12 _ _ _ K⟩
    refine zB (by kernel_rfl) fHS.out fun fv0 fE0 fH0 => ?_
    refine zT 0 (some 73) (.slice bo m c) rfl rfl (by kernel_rfl) rfl (fun W ⟨h0, h1⟩ => by go_simp) fH0 ?_
    simp only [FL]
    refine zT 1 (some 74) (.pointer (some ⟨N, 11, none⟩)) rfl rfl (by kernel_rfl) rfl (fun W ⟨h0, h1⟩ => by go_simp) fH0 ?_
    simp only [FL]
    refine zT 2 (some 75) (.slice x.s.ao x.s.n x.s.cap) rfl rfl (by kernel_rfl) rfl (fun W ⟨h0, h1⟩ => by go_simp) fH0 ?_
    simp only [FL]
    refine zT 4 (some 77) (.pointer (some ⟨N, 12, none⟩)) rfl rfl (by kernel_rfl) rfl (fun W ⟨h0, h1⟩ => by go_simp) fH0 ?_
    simp only [FL]
    refine zT 5 (some 78) (.slice x.t.ao x.t.n x.t.cap) rfl rfl (by kernel_rfl) rfl (fun W ⟨h0, h1⟩ => by go_simp) fH0 ?_
    simp only [FL]
    refine zT 6 (some 79) (.int .i64 x.t.n) rfl rfl (by kernel_rfl) rfl (fun W ⟨h0, h1⟩ => by go_simp) fH0 ?_
    simp only [FL]
    refine zT 7 (some 80) (.int .u64 (x.t.n : Nat)) rfl rfl (by kernel_rfl) rfl (fun W ⟨h0, h1⟩ => by go_simp; exact IntWalk.u64_in _ (by omega)) fH0 ?_
    simp only [FL]
    have Sd := S.below fE0
    refine hr_call_w 3 (some 76) 84 #[.slice bo m c, .slice x.s.ao x.s.n x.s.cap] rfl rfl (by kernel_rfl) rfl (by go_simp) (fun v w' => ∃ b7 m7 c7, v = .slice b7 m7 c7 ∧ Sl w' b7 m7 c7 (Y4 ++ putLs putV (x.s.l.map SA.v)) ∧ Below fv0.heap.size fv0 w') ((rputs_any fv0 bo m c _ Sd x.s.ao x.s.n x.s.cap x.s.l (hx.s.below elS_fine (B.trans (fE0.mono B.size))) (by omega) lb.s.1 lb.s.2).mono (by
     rintro e w' ⟨b7, m7, c7, rfl, F, C⟩
     exact ⟨_, rfl, b7, m7, c7, rfl, F, C⟩)) ?_
    rintro v fv1 ⟨b7, m7, c7, rfl, fF0, fC0⟩
    have fE1 := fE0.trans (fC0.mono fE0.size)
    have fH1 := fHS.out fv1 fE1
    refine ⟨fH1, ?_⟩
    simp only [FL]
    have l7 := fF0.len
    rw [List.length_append] at l7
    refine hr_call_w 8 (some 81) 69 #[.slice b7 m7 c7, .int .u64 (x.t.n : Nat)] rfl rfl (by kernel_rfl) rfl (by go_simp) (fun v w' => ∃ b8 m8 c8, v = .slice b8 m8 c8 ∧ Sl w' b8 m8 c8 (Y4 ++ putLs putV (x.s.l.map SA.v) ++ enc x.t.n) ∧ Below fv1.heap.size fv1 w') ((gUint fv1 b7 m7 c7 x.t.n _ fF0 (by omega) (by omega)).mono (by
     rintro e w' ⟨b8, m8, c8, rfl, F, C⟩
     exact ⟨_, rfl, b8, m8, c8, rfl, F, C⟩)) ?_
    rintro v fv2 ⟨b8, m8, c8, rfl, fF1, fC1⟩
    have fE2 := fE1.trans (fC1.mono fE1.size)
    have fH2 := fHS.out fv2 fE2
    refine ⟨fH2, ?_⟩
    simp only [FL]
    have l8 := fF1.len
    rw [List.length_append, List.length_append] at l8
    refine zT 9 (some 3) (.slice b8 m8 c8) rfl rfl (by kernel_rfl) rfl (fun W ⟨h0, h1⟩ => by go_simp) fH2 ?_
    simp only [FL]
    refine wpAnyH_done (by kernel_rfl) ?_ _
    refine NoPanic.normal ?_
    have B := B.trans (fE2.mono B.size)
    have C := C.trans (fE2.mono C.size)
    obtain ⟨w7, hw7⟩ : ∃ W, W = fv2 := ⟨_, rfl⟩
    have S := fF1
    rw [← hw7] at S B C ⊢
    clear hw7 fF0 fF1 fHS fE0 fE1 fE2 fH0 fH1 fH2 fC0 fC1 Sd
    go_wp2_with fail
    go_loopw [3, 9] (fun s i wr => ∃ (k : Nat) (bo : Option Addr) (m c : Nat), k ≤ x.t.n ∧ i = .int .i64 k ∧ s = .slice bo m c ∧ Sl wr bo m c (Y4 ++ putLs putV (x.s.l.map SA.v) ++ (enc x.t.n ++ (((x.t.l.take k).map fun s => s.l.map SA.v).map (putLs putV)).flatten)) ∧ m ≤ 60000 + 34200 * k ∧ Below w.heap.size w wr ∧ Below w1.heap.size w1 wr) (fun _ i _ => x.t.n - (intOf i).toNat)
    case atStart => exact ⟨0, b8, m8, c8, Nat.zero_le _, rfl, rfl, by simpa using S, by omega, B, C⟩
    case round =>
     clear S B C
     obtain ⟨k, bo, m, c, hk, rfl, rfl, S, hm, B, C⟩ := hrel
     have p12 := cell_of_row wr N 12 _ _ _ ((C.block N hN1).trans KX)
     by_cases hlt : k < x.t.n
     ·have hki : (k : Int) < (x.t.n : Int) := by omega
      have hkl : k < x.t.l.length := by omega
      obtain ⟨b1, o1, e1, hc1⟩ := (hx.t.below elS_fine.lists B).atL (by omega)
      have X := hc1 k hkl
      rw [e1] at p12
      have ok : elS.lists.ok x.t.l[k] w := hx.t.ok _ (List.getElem_mem hkl)
      have gt := (g.t _ (List.getElem_mem hkl)).1
      have st := lb.t _ (List.getElem_mem hkl)
      have HT : Hid (Y4 ++ putLs putV (x.s.l.map SA.v) ++ (enc x.t.n ++ (((x.t.l.take (k + 1)).map fun s => s.l.map SA.v).map (putLs putV)).flatten) = Y4 ++ putLs putV (x.s.l.map SA.v) ++ (enc x.t.n ++ (((x.t.l.take k).map fun s => s.l.map SA.v).map (putLs putV)).flatten) ++ putLs putV (x.t.l[k].l.map SA.v)) := by
       show _ = _
       rw [List.take_succ_eq_append_getElem hkl, List.map_append, List.map_append, List.flatten_append, List.map_singleton, List.map_singleton, List.flatten_singleton]
       simp only [List.append_assoc]
      obtain ⟨u, hu⟩ : ∃ u, u = x.t.l[k] := ⟨_, rfl⟩
      rw [← hu] at X ok HT gt st
      clear hu hc1 e1
      have ok : GL elS w u.ao u.n u.cap u.l := ok
      have hv := vs_small2 ok gt st.2
      have CP := rputs_any wr bo m c _ S u.ao u.n u.cap u.l (ok.below elS_fine B) (by omega) st.1 st.2
      rw [← HT.out] at CP
      have hSl := S.len
      have hln := (congrArg List.length HT.out).trans List.length_append
      clear S
      go_wp2_with fail
      refine CP.mono ?_
      rintro e wz ⟨b9, m9, c9, rfl, S, D⟩
      have B := B.trans (D.mono B.size)
      have C := C.trans (D.mono C.size)
      have hS9 := S.len
      clear CP D X p12 HT ok
      go_wp2
      go_roundw
      case rel => exact ⟨k + 1, b9, m9, c9, by omega, by go_num, rfl, S, by omega, B, C⟩
      case measure => simp [intOf]; omega
     ·have hge : ¬ (k : Int) < (x.t.n : Int) := by omega
      rw [List.take_of_length_le (by omega)] at S
      have e : Y4 ++ putLs putV (x.s.l.map SA.v) ++ (enc x.t.n ++ ((x.t.l.map fun s => s.l.map SA.v).map (putLs putV)).flatten) = putB x.v := by
       rw [HY4.out]
       unfold putB
       show _ = enc x.kind.toNat ++ (enc x.view ++ (enc x.seq ++ (byts x.sum.xs ++ (putLs (fun q => byts (putQ q)) (x.q.l.map QM.v) ++ ((if x.kind = 5 then putPV x.v.rep else []) ++ (putLs putV (x.s.l.map SA.v) ++ putLs (putLs putV) (x.t.l.map fun s => s.l.map SA.v)))))))
       have e2 : putLs (putLs putV) (x.t.l.map fun s => s.l.map SA.v) = enc x.t.n ++ ((x.t.l.map fun s => s.l.map SA.v).map (putLs putV)).flatten := by
        unfold putLs
        rw [List.length_map, tl]
       rw [e2]
       simp only [List.append_assoc]
      rw [e] at S
      clear e HY4
      go_wp2
      go_ret
      exact ⟨bo, m, c, rfl, S, B⟩
end Go.Proofs.YtkjaapomaaakmaaGreat

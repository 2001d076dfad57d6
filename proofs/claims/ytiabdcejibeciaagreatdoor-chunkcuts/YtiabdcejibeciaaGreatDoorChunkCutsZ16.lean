/-
  Texts in one: RCut, LSame9, CText, CBelow, RDel7, RPut7, RPutW.
-/
import Derived.Test.YtiabdcejibeciaaGreatDoorChunkCutsZ15
import Derived.Test.YtiabdcejibeciaaGreatDoorChunkCutsZ2
import Derived.Test.YtiabdcejibeciaaGreatDoorChunkCutsZ11
import Derived.Test.YtiabdcejibeciaaGreatDoorChunkCutsZ7
import Derived.Test.YtiabdcejibeciaaGreatDoorChunkCutsZ3
import Derived.Test.YtiabdcejibeciaaGreatDoorChunkCutsZ9
namespace Go.Proofs.YtiabdcejibeciaaGreatDoor
open Go.RowKit

set_option maxHeartbeats 1000000 in
set_option maxRecDepth 100000 in
theorem rcut_bad (w : World) (v : Value) (l : List It) (per : Int) (hp : per < 1 ∨ 64 < per) : Calls Tryz.prog 10 #[v, .int .i64 per] w (CutPost w l per) := by
  rcases hp with hp | hp
  · go_enter Tryz.func10, Tryz.ntmps10
    go_wp2
    go_ret2
    exact ⟨fun _ => rfl, fun h => by omega, Below.refl _ _⟩
  · have hp1 : ¬ per < 1 := by omega
    go_enter Tryz.func10, Tryz.ntmps10
    go_wp2
    go_ret2
    exact ⟨fun _ => rfl, fun _ h => by omega, Below.refl _ _⟩

set_option maxHeartbeats 8000000 in
set_option maxRecDepth 100000 in
theorem rcut_good (w : World) (ao : Option Addr) (n cap : Nat) (its : List IP) (per : Nat) (hp0 : 0 < per) (hp1 : per ≤ 64) (h : IL w ao n cap its) (hn : n ≤ 50000) (hb : ∀ q ∈ its, q.k.n ≤ 1000000 ∧ q.v.n ≤ 1000000) :
    Calls Tryz.prog 10 #[.slice ao n cap, .int .i64 per] w (CutPost w (its.map IP.it) per) := by
  have hpa : ¬ (per : Int) < 1 := by omega
  have hpb : ¬ (64 : Int) < (per : Int) := by omega
  have HB : Hid (∀ q ∈ its, q.k.n ≤ 1000000 ∧ q.v.n ≤ 1000000) := hb
  clear hb
  go_enter Tryz.func10, Tryz.ntmps10
  go_wp2_with fail
  go_loopw [0, 6] (fun lv v wr => ∃ (lo : Option Addr) (ln lc : Nat) (rest : List IP) (qs : List Part), lv = .slice lo ln lc ∧ ln ≤ n ∧ IL w lo ln lc rest ∧ Hid (∀ q ∈ rest, q ∈ its) ∧ RcI w wr v qs ∧ qs.length + ln ≤ n ∧ Hid (qs.map Part.xs ++ (cuts per (rest.map IP.it)).map putCk = (cuts per (its.map IP.it)).map putCk)) (fun lv _ _ => lenOf lv)
  case atStart => exact ⟨ao, n, cap, its, [], rfl, Nat.le_refl _, h, fun _ hq => hq, ⟨⟨rfl, .inl ⟨rfl, rfl⟩⟩, fun _ h => by simp at h, Below.refl _ _⟩, by simp, rfl⟩
  case round =>
    obtain ⟨lo, ln, lc, rest, qs, rfl, hln, IR, HM, K, hql, HC⟩ := hrel
    have hlen1 := Nat.le_of_eq IR.len
    have hlen2 := Nat.le_of_eq IR.len.symm
    by_cases hz : ln = 0
    · have HE : Hid (qs.map Part.xs = (cuts per (its.map IP.it)).map putCk) := by
        show _ = _
        have hr : rest = [] := List.eq_nil_of_length_eq_zero (by omega)
        have := HC.out
        rw [hr] at this
        rw [← this]
        simp [cuts_nil]
      subst hz
      obtain ⟨qo, qc, rfl, KK⟩ := K.kl
      have hB := K.bel
      obtain ⟨qn, hqn⟩ : ∃ n, n = qs.length := ⟨_, rfl⟩
      rw [← hqn] at KK ⊢
      clear K IR HC
      go_wp2
      go_ret2
      exact ⟨fun h => by omega, fun _ _ => ⟨qo, qn, qc, qs, rfl, KK, by rw [Int.toNat_natCast]; exact HE.out⟩, hB⟩
    have hlp : (0 : Int) < (ln : Int) := by omega
    obtain ⟨m, hm⟩ : ∃ m, m = min per ln := ⟨_, rfl⟩
    have hm1 : 0 < m ∧ m ≤ ln ∧ m ≤ 64 := by rw [hm]; simp only [Nat.min_def]; split <;> omega
    have hminI : (if (ln : Int) < (per : Int) then (ln : Int) else (per : Int)) = (m : Int) := by
      rw [hm, Nat.min_def]
      split <;> split <;> omega
    have hminN : (if ln < per then (ln : Int) else (per : Int)) = (m : Int) := by
      rw [hm, Nat.min_def]
      split <;> split <;> omega
    have HMIN : Hid ((if ln < per then (ln : Int) else (per : Int)) = (m : Int)) := hminN
    have HCC : Hid (cuts per (rest.map IP.it) = (rest.map IP.it).take m :: cuts per ((rest.map IP.it).drop m)) := by
      show _ = _
      have := cuts_min hp0 (l := rest.map IP.it) (fun e => by
        have := congrArg List.length e
        rw [List.length_map, List.length_nil] at this
        omega)
      rw [List.length_map, show rest.length = ln by omega, ← hm] at this
      exact this
    have hrm : ∀ V, (Builtin.min_ #[3, 3] 3 #[.int .i64 per, .int .i64 ln]).run Tryz.prog V = .ok (.int .i64 m) V := fun V => by
      rw [run_min_int2, hminI]
    clear hm hminI hminN hz
    go_wp2_with fail
    refine (rUintT wr m (by omega)).mono ?_
    rintro e w1 ⟨fo0, fn0, fc0, rfl, SF0, C1⟩
    have K1 := K.below C1
    have hB1 := K1.bel
    clear K C1 hrm
    go_wp2_with fail
    obtain ⟨wo, rfl⟩ : ∃ W, W = w1 := ⟨w1, rfl⟩
    go_loopw [8, 9] (fun fv ji wq => ∃ (j fn : Nat) (fo : Option Addr) (fc : Nat), j ≤ m ∧ ji = .int .i64 j ∧ fv = .slice fo fn fc ∧ SlT wq ⟨fo, fn, fc, formTk m ((rest.map IP.it).take j)⟩ ∧ Below wo.heap.size wo wq) (fun _ ji _ => m - (intOf ji).toNat)
    case atStart =>
      refine ⟨0, fn0, fo0, fc0, Nat.zero_le _, rfl, rfl, ?_, Below.refl _ _⟩
      have e : formTk m ((rest.map IP.it).take 0) = enc m := by simp [formTk]
      rw [e]
      exact SF0
    case round =>
      clear SF0
      obtain ⟨j, fn, fo, fc, hjm, rfl, rfl, SF, hBq⟩ := hrel
      by_cases hlt : j < m
      · have hji : (j : Int) < (m : Int) := by omega
        have hjl : (j : Int) < (ln : Int) := by omega
        have hjr : j < rest.length := by omega
        have hBw := hB1.trans (hBq.mono hB1.size)
        have ILq := IR.below hBw
        obtain ⟨b, off, rfl, hc⟩ := ILq.at (by omega)
        obtain ⟨c1, c2⟩ := hc j hjr
        have SQ := ILq.sl rest[j] (List.getElem_mem hjr)
        have hq := HB.out rest[j] (HM.out _ (List.getElem_mem hjr))
        have HT : Hid ((rest.map IP.it).take (j + 1) = (rest.map IP.it).take j ++ [rest[j].it]) := by show _ = _; rw [List.take_succ_eq_append_getElem (by simpa using hjr), List.getElem_map]
        obtain ⟨q, hqe⟩ : ∃ q, q = rest[j] := ⟨_, rfl⟩
        rw [← hqe] at c1 c2 SQ hq HT
        obtain ⟨q1, q2⟩ := hq
        unfold Part.val at c1 c2
        have lk := SQ.1.len
        have lv := SQ.2.len
        have HLB : ∀ x ∈ (rest.map IP.it).take j, x.k.length ≤ 1000000 ∧ x.v.length ≤ 1000000 := fun x hx => by
          obtain ⟨y, hy, rfl⟩ := List.mem_map.1 (List.mem_of_mem_take hx)
          have h1 := (ILq.sl y hy).1.len
          have h2 := (ILq.sl y hy).2.len
          have := HB.out y (HM.out y hy)
          exact ⟨by show y.k.xs.length ≤ _; omega, by show y.v.xs.length ≤ _; omega⟩
        have hF0 := formTk_len m (by omega) _ HLB
        have hF1 : ((rest.map IP.it).take j).length ≤ 64 := by rw [List.length_take]; omega
        have lf := SF.1.len
        obtain ⟨F, hF⟩ : ∃ F, F = formTk m ((rest.map IP.it).take j) := ⟨_, rfl⟩
        have HF : Hid (F = formTk m ((rest.map IP.it).take j)) := hF
        rw [← hF] at SF hF0
        have hfl : F.length = fn := SF.1.len
        have hFl : F.length ≤ 110000000000 := Nat.le_trans hF0 (by omega)
        have hfn : fn ≤ 110000000000 := by omega
        have hlt1 : (0 : Int) ≤ (j : Int) := by omega
        clear hc hqe hF hF0 hF1 lf ILq HLB
        go_wp2_with fail
        have HS : Hid (∀ V, Below wr.heap.size wr V → V.cell? ⟨b, off + j * 2, none⟩ = some (.slice q.k.ao q.k.n q.k.cap) ∧ V.cell? ⟨b, off + j * 2 + 1, none⟩ = some (.slice q.v.ao q.v.n q.v.cap)) := fun V hV => ⟨(hV.cell (World.block_lt_of_cell? _ _ c1)).trans c1, (hV.cell (World.block_lt_of_cell? _ _ c2)).trans c2⟩
        have E0 : Below wr.heap.size wr wr.drew := (Below.refl _ _).drew
        refine wp_region_noPanic ?_
        refine wp_region_held_drew (S := fun V => V.cell? ⟨b, off + j * 2, none⟩ = some (.slice q.k.ao q.k.n q.k.cap) ∧ V.cell? ⟨b, off + j * 2 + 1, none⟩ = some (.slice q.v.ao q.v.n q.v.cap)) (by kernel_rfl) (HS.out _ E0) (fun H0 => ?_)
        obtain ⟨v0, hv0⟩ : ∃ v, v = wr.drew := ⟨_, rfl⟩
        rw [← hv0] at H0 E0 ⊢
        clear hv0
        refine hr_take_w 0 (some 31) (.slice fo fn fc) rfl rfl (by kernel_rfl) (by kernel_rfl) (by kernel_rfl) rfl (fun W hW => by obtain ⟨h0, h1⟩ := hW; go_simp) H0 ?_
        simp only [Act.put, List.setIfInBounds_toArray, List.set_cons_zero, List.set_cons_succ]
        refine hr_take_w 1 (some 32) (.slice (some ⟨b, off, none⟩) ln lc) rfl rfl (by kernel_rfl) (by kernel_rfl) (by kernel_rfl) rfl (fun W hW => by obtain ⟨h0, h1⟩ := hW; go_simp) H0 ?_
        simp only [Act.put, List.setIfInBounds_toArray, List.set_cons_zero, List.set_cons_succ]
        refine hr_take_w 2 (some 33) (.int .i64 j) rfl rfl (by kernel_rfl) (by kernel_rfl) (by kernel_rfl) rfl (fun W hW => by obtain ⟨h0, h1⟩ := hW; go_simp) H0 ?_
        simp only [Act.put, List.setIfInBounds_toArray, List.set_cons_zero, List.set_cons_succ]
        refine hr_take_w 3 (some 34) (.pointer (some ⟨b, off + j * 2, none⟩)) rfl rfl (by kernel_rfl) (by kernel_rfl) (by kernel_rfl) rfl (fun W hW => by obtain ⟨h0, h1⟩ := hW; go_simp) H0 ?_
        simp only [Act.put, List.setIfInBounds_toArray, List.set_cons_zero, List.set_cons_succ]
        refine hr_take_w 4 (some 35) (.pointer (some ⟨b, off + j * 2, none⟩)) rfl rfl (by kernel_rfl) (by kernel_rfl) (by kernel_rfl) rfl (fun W hW => by obtain ⟨h0, h1⟩ := hW; go_simp) H0 ?_
        simp only [Act.put, List.setIfInBounds_toArray, List.set_cons_zero, List.set_cons_succ]
        refine hr_take_w 5 (some 36) (.slice q.k.ao q.k.n q.k.cap) rfl rfl (by kernel_rfl) (by kernel_rfl) (by kernel_rfl) rfl (fun W hW => by obtain ⟨h0, h1⟩ := hW; go_simp) H0 ?_
        simp only [Act.put, List.setIfInBounds_toArray, List.set_cons_zero, List.set_cons_succ]
        refine hr_take_w 7 (some 38) (.slice (some ⟨b, off, none⟩) ln lc) rfl rfl (by kernel_rfl) (by kernel_rfl) (by kernel_rfl) rfl (fun W hW => by obtain ⟨h0, h1⟩ := hW; go_simp) H0 ?_
        simp only [Act.put, List.setIfInBounds_toArray, List.set_cons_zero, List.set_cons_succ]
        refine hr_take_w 8 (some 39) (.int .i64 j) rfl rfl (by kernel_rfl) (by kernel_rfl) (by kernel_rfl) rfl (fun W hW => by obtain ⟨h0, h1⟩ := hW; go_simp) H0 ?_
        simp only [Act.put, List.setIfInBounds_toArray, List.set_cons_zero, List.set_cons_succ]
        refine hr_take_w 9 (some 40) (.pointer (some ⟨b, off + j * 2, none⟩)) rfl rfl (by kernel_rfl) (by kernel_rfl) (by kernel_rfl) rfl (fun W hW => by obtain ⟨h0, h1⟩ := hW; go_simp) H0 ?_
        simp only [Act.put, List.setIfInBounds_toArray, List.set_cons_zero, List.set_cons_succ]
        refine hr_take_w 10 (some 41) (.pointer (some ⟨b, off + j * 2 + 1, none⟩)) rfl rfl (by kernel_rfl) (by kernel_rfl) (by kernel_rfl) rfl (fun W hW => by obtain ⟨h0, h1⟩ := hW; go_simp) H0 ?_
        simp only [Act.put, List.setIfInBounds_toArray, List.set_cons_zero, List.set_cons_succ]
        refine hr_take_w 11 (some 42) (.slice q.v.ao q.v.n q.v.cap) rfl rfl (by kernel_rfl) (by kernel_rfl) (by kernel_rfl) rfl (fun W hW => by obtain ⟨h0, h1⟩ := hW; go_simp) H0 ?_
        simp only [Act.put, List.setIfInBounds_toArray, List.set_cons_zero, List.set_cons_succ]
        refine hr_call_w 6 (some 37) 32 #[.slice fo fn fc, .slice q.k.ao q.k.n q.k.cap] rfl rfl (by kernel_rfl) rfl (by go_simp) (fun v w' => ∃ f1 n1 g1, v = .slice f1 n1 g1 ∧ SlT w' ⟨f1, n1, g1, F ++ bytF q.k.xs⟩ ∧ Below v0.heap.size v0 w') ((rBytesT v0 fo q.k.ao fn fc q.k.n q.k.cap F q.k.xs (SF.1.below E0) (SQ.1.below E0) (by omega)).mono (by
          rintro e w' ⟨f1, n1, g1, rfl, F, C⟩
          exact ⟨_, rfl, f1, n1, g1, rfl, F, C⟩)) ?_
        rintro v v1 ⟨f1, n1, g1, rfl, F0, C0⟩
        have E1 := E0.trans (C0.mono E0.size)
        have H1 := HS.out v1 E1
        refine ⟨H1, ?_⟩
        simp only [Act.put, List.setIfInBounds_toArray, List.set_cons_zero, List.set_cons_succ]
        have l1 := F0.1.len
        have hn1 : n1 ≤ 120000000000 := by
          have h3 : (F ++ bytF q.k.xs).length = n1 := l1
          have h4 := bytF_len q.k.xs (by omega)
          rw [List.length_append] at h3
          omega
        refine hr_call_w 12 (some 43) 32 #[.slice f1 n1 g1, .slice q.v.ao q.v.n q.v.cap] rfl rfl (by kernel_rfl) rfl (by go_simp) (fun v w' => ∃ f2 n2 g2, v = .slice f2 n2 g2 ∧ SlT w' ⟨f2, n2, g2, (F ++ bytF q.k.xs) ++ bytF q.v.xs⟩ ∧ Below v1.heap.size v1 w') ((rBytesT v1 f1 q.v.ao n1 g1 q.v.n q.v.cap (F ++ bytF q.k.xs) q.v.xs F0.1 (SQ.2.below E1) (by omega)).mono (by
          rintro e w' ⟨f2, n2, g2, rfl, F, C⟩
          exact ⟨_, rfl, f2, n2, g2, rfl, F, C⟩)) ?_
        rintro v v2 ⟨f2, n2, g2, rfl, F1, C1⟩
        have E2 := E1.trans (C1.mono E1.size)
        have H2 := HS.out v2 E2
        refine ⟨H2, ?_⟩
        simp only [Act.put, List.setIfInBounds_toArray, List.set_cons_zero, List.set_cons_succ]
        refine hr_take_w 13 (some 8) (.slice f2 n2 g2) rfl rfl (by kernel_rfl) (by kernel_rfl) (by kernel_rfl) rfl (fun W hW => by obtain ⟨h0, h1⟩ := hW; go_simp) H2 ?_
        simp only [Act.put, List.setIfInBounds_toArray, List.set_cons_zero, List.set_cons_succ]
        refine wpAnyH_done (by kernel_rfl) ?_ _
        refine NoPanic.normal ?_
        have hE := hBq.trans (E2.mono hBq.size)
        have HFIN : Hid ((F ++ bytF q.k.xs) ++ bytF q.v.xs = formTk m ((rest.map IP.it).take (j + 1))) := by
          show _ = _
          rw [HT.out, formTk_snoc, HF.out]
          rfl
        clear c1 c2
        go_wp2
        go_roundw
        case rel =>
          refine ⟨j + 1, n2, f2, g2, by omega, by go_num, rfl, ?_, hE⟩
          rw [← HFIN.out]
          exact F1
        case measure => simp [intOf]; omega
      · have hge : ¬ (j : Int) < (m : Int) := by omega
        have hjm2 : j = m := by omega
        subst hjm2
        have K2 := K1.below hBq
        have HQX : Hid (formTk j ((rest.map IP.it).take j) = putCk ((rest.map IP.it).take j)) := by
          show _ = _
          unfold putCk formTk
          rw [List.length_take, List.length_map, Nat.min_eq_left (by omega)]
        obtain ⟨v', W3, hrun, K3⟩ := K2.step (q := ⟨fo, fn, fc, formTk j ((rest.map IP.it).take j)⟩) SF rfl (by omega) 33 1
        unfold Part.val at hrun
        have HRUN : Hid ((Builtin.append_ #[33, 33] 33 #[_, .slice (some ⟨wr.heap.size, 0, none⟩) 1 1]).run Tryz.prog (wr.alloc (.cells #[.slice fo fn fc] 30)) = .ok v' W3) := hrun
        have r1 := fun V => run_back2 (W := V) (ao := lo) (n := ln) (cap := lc) (j := j) (by omega)
        have IR2 := IR.from j (by omega)
        have HK3 : Hid (RcI w W3 v' (qs ++ [⟨fo, fn, fc, formTk j ((rest.map IP.it).take j)⟩])) := K3
        clear hrun K3 K2 K1 SF
        go_wp2_with (at_builtin; refine wpList_appR rfl _ _ _ _ rfl _ _ _ rfl rfl HRUN.out ?_)
        go_roundw
        case rel =>
          refine ⟨_, _, _, rest.drop j, qs ++ [⟨fo, fn, fc, formTk j ((rest.map IP.it).take j)⟩], rfl, by omega, IR2, fun q hq => HM.out q (List.mem_of_mem_drop hq), HK3.out, by rw [List.length_append]; simp only [List.length_cons, List.length_nil]; omega, ?_⟩
          show _ = _
          rw [← HC.out, HCC.out, List.map_append, List.map_cons, List.map_drop, List.append_assoc]
          show _ ++ ([formTk j ((rest.map IP.it).take j)] ++ _) = _
          rw [HQX.out]
          rfl
        case measure => simp [lenOf]; omega

theorem rcut_any (w : World) (ao : Option Addr) (n cap : Nat) (its : List IP) (per : Int) (h : IL w ao n cap its) (hn : n ≤ 50000) (hb : ∀ q ∈ its, q.k.n ≤ 1000000 ∧ q.v.n ≤ 1000000) :
    Calls Tryz.prog 10 #[.slice ao n cap, .int .i64 per] w (CutPost w (its.map IP.it) per) := by
  by_cases c : per < 1 ∨ 64 < per
  · exact rcut_bad w _ _ per c
  · obtain ⟨k, rfl⟩ := Int.eq_ofNat_of_zero_le (show 0 ≤ per by omega)
    exact rcut_good w ao n cap its k (by omega) (by omega) h hn hb
end Go.Proofs.YtiabdcejibeciaaGreatDoor

namespace Go.Proofs.YtiabdcejibeciaaGreatDoor
open Go.RowKit

set_option maxHeartbeats 4000000 in
set_option maxRecDepth 100000 in
theorem lsame9_any (w : World) (ao bo : Option Addr) (n cap m c : Nat) (ps qs : List Part) (h : KL w ao n cap ps) (h2 : KL w bo m c qs) (hn : n ≤ 1000000) :
    Calls Tryz.prog 11 #[.slice ao n cap, .slice bo m c] w fun e w' => e = .returned (.bool (decide (ps.map Part.xs = qs.map Part.xs))) ∧ Below w.heap.size w w' := by
  have hl1 := Nat.le_of_eq h.len
  have hl2 := Nat.le_of_eq h.len.symm
  have hl3 := Nat.le_of_eq h2.len
  have hl4 := Nat.le_of_eq h2.len.symm
  by_cases hm : n = m
  · have hmb : ((n : Int) != (m : Int)) = false := by simp [hm]
    have hm1 := Nat.le_of_eq hm
    have hm2 := Nat.le_of_eq hm.symm
    clear hm
    go_enter Tryz.func11, Tryz.ntmps11
    go_wp2
    go_loopw [5] (fun i wr => ∃ k : Nat, k ≤ n ∧ i = .int .i64 k ∧ Hid ((ps.map Part.xs).take k = (qs.map Part.xs).take k) ∧ Below w.heap.size w wr) (fun i _ => n - (intOf i).toNat)
    case atStart => exact ⟨0, Nat.zero_le _, rfl, rfl, Below.refl _ _⟩
    case round =>
      obtain ⟨k, hkn, rfl, HJ, hB⟩ := hrel
      by_cases hlt : k < n
      · have hki : (k : Int) < (n : Int) := by omega
        have hkm : (k : Int) < (m : Int) := by omega
        have hkl : k < ps.length := by omega
        have hkj : k < qs.length := by omega
        obtain ⟨b, off, rfl, hc⟩ := (h.below hB).vl.at (by omega)
        obtain ⟨b2, off2, rfl, hc2⟩ := (h2.below hB).vl.at (by omega)
        have c1 := hc k (by simpa using hkl)
        have d1 := hc2 k (by simpa using hkj)
        rw [List.getElem_map] at c1 d1
        have S1 := (h.below hB).sl ps[k] (List.getElem_mem hkl)
        have S2 := (h2.below hB).sl qs[k] (List.getElem_mem hkj)
        have HT : Hid ((ps.map Part.xs).take (k + 1) = (ps.map Part.xs).take k ++ [ps[k].xs] ∧ (qs.map Part.xs).take (k + 1) = (qs.map Part.xs).take k ++ [qs[k].xs]) := ⟨by rw [List.take_succ_eq_append_getElem (by simpa using hkl), List.getElem_map], by rw [List.take_succ_eq_append_getElem (by simpa using hkj), List.getElem_map]⟩
        have HG : Hid ((ps.map Part.xs)[k]? = some ps[k].xs ∧ (qs.map Part.xs)[k]? = some qs[k].xs) := ⟨by simp [hkl], by simp [hkj]⟩
        obtain ⟨p, hp⟩ : ∃ p, p = ps[k] := ⟨_, rfl⟩
        obtain ⟨q, hq⟩ : ∃ q, q = qs[k] := ⟨_, rfl⟩
        rw [← hp] at c1 S1 HT HG
        rw [← hq] at d1 S2 HT HG
        unfold Part.val at c1 d1
        have CB : ∀ W, Below wr.heap.size wr W → Calls Tryz.prog 27 #[.slice p.ao p.n p.cap, .slice q.ao q.n q.cap] W fun e w' => e = .returned (.bool (decide (p.xs = q.xs))) ∧ Below W.heap.size W w' := fun W hW => (same_any W _ _ _ _ _ _ _ _ (S1.below hW) (S2.below hW)).mono fun e w' ⟨h, z, hz⟩ => ⟨h, by rw [hz]; exact below_drewN _ _ _⟩
        clear hc hc2 hp hq S1 S2
        by_cases he : p.xs = q.xs
        · rw [decide_eq_true he] at CB
          have HE : Hid (p.xs = q.xs) := he
          clear he
          go_wp2_with fail
          have HS : Hid (∀ V, Below wr.heap.size wr V → V.cell? ⟨b, off + k, none⟩ = some (.slice p.ao p.n p.cap) ∧ V.cell? ⟨b2, off2 + k, none⟩ = some (.slice q.ao q.n q.cap)) := fun V hV => ⟨(hV.cell (World.block_lt_of_cell? _ _ c1)).trans c1, (hV.cell (World.block_lt_of_cell? _ _ d1)).trans d1⟩
          have E0 : Below wr.heap.size wr wr.drew := (Below.refl _ _).drew
          refine wp_region_noPanic ?_
          refine wp_region_held_drew (S := fun V => V.cell? ⟨b, off + k, none⟩ = some (.slice p.ao p.n p.cap) ∧ V.cell? ⟨b2, off2 + k, none⟩ = some (.slice q.ao q.n q.cap)) (by kernel_rfl) (HS.out _ E0) (fun H0 => ?_)
          obtain ⟨v0, hv0⟩ : ∃ v, v = wr.drew := ⟨_, rfl⟩
          rw [← hv0] at H0 E0 ⊢
          clear hv0
          refine hr_take_w 0 (some 17) (.slice (some ⟨b, off, none⟩) n cap) rfl rfl (by kernel_rfl) (by kernel_rfl) (by kernel_rfl) rfl (fun W hW => by obtain ⟨h0, h1⟩ := hW; go_simp) H0 ?_
          simp only [Act.put, List.setIfInBounds_toArray, List.set_cons_zero, List.set_cons_succ]
          refine hr_take_w 1 (some 18) (.int .i64 k) rfl rfl (by kernel_rfl) (by kernel_rfl) (by kernel_rfl) rfl (fun W hW => by obtain ⟨h0, h1⟩ := hW; go_simp) H0 ?_
          simp only [Act.put, List.setIfInBounds_toArray, List.set_cons_zero, List.set_cons_succ]
          refine hr_take_w 2 (some 19) (.pointer (some ⟨b, off + k, none⟩)) rfl rfl (by kernel_rfl) (by kernel_rfl) (by kernel_rfl) rfl (fun W hW => by obtain ⟨h0, h1⟩ := hW; go_simp) H0 ?_
          simp only [Act.put, List.setIfInBounds_toArray, List.set_cons_zero, List.set_cons_succ]
          refine hr_take_w 3 (some 20) (.slice p.ao p.n p.cap) rfl rfl (by kernel_rfl) (by kernel_rfl) (by kernel_rfl) rfl (fun W hW => by obtain ⟨h0, h1⟩ := hW; go_simp) H0 ?_
          simp only [Act.put, List.setIfInBounds_toArray, List.set_cons_zero, List.set_cons_succ]
          refine hr_take_w 4 (some 21) (.slice (some ⟨b2, off2, none⟩) m c) rfl rfl (by kernel_rfl) (by kernel_rfl) (by kernel_rfl) rfl (fun W hW => by obtain ⟨h0, h1⟩ := hW; go_simp) H0 ?_
          simp only [Act.put, List.setIfInBounds_toArray, List.set_cons_zero, List.set_cons_succ]
          refine hr_take_w 5 (some 22) (.int .i64 k) rfl rfl (by kernel_rfl) (by kernel_rfl) (by kernel_rfl) rfl (fun W hW => by obtain ⟨h0, h1⟩ := hW; go_simp) H0 ?_
          simp only [Act.put, List.setIfInBounds_toArray, List.set_cons_zero, List.set_cons_succ]
          refine hr_take_w 6 (some 23) (.pointer (some ⟨b2, off2 + k, none⟩)) rfl rfl (by kernel_rfl) (by kernel_rfl) (by kernel_rfl) rfl (fun W hW => by obtain ⟨h0, h1⟩ := hW; go_simp) H0 ?_
          simp only [Act.put, List.setIfInBounds_toArray, List.set_cons_zero, List.set_cons_succ]
          refine hr_take_w 7 (some 24) (.slice q.ao q.n q.cap) rfl rfl (by kernel_rfl) (by kernel_rfl) (by kernel_rfl) rfl (fun W hW => by obtain ⟨h0, h1⟩ := hW; go_simp) H0 ?_
          simp only [Act.put, List.setIfInBounds_toArray, List.set_cons_zero, List.set_cons_succ]
          refine hr_call_w 8 (some 25) 27 #[.slice p.ao p.n p.cap, .slice q.ao q.n q.cap] rfl rfl (by kernel_rfl) rfl (by go_simp) (fun v w' => v = .bool true ∧ Below v0.heap.size v0 w') ((CB v0 E0).mono (by
            rintro e w' ⟨rfl, C⟩
            exact ⟨_, rfl, rfl, C⟩)) ?_
          rintro v v1 ⟨rfl, C0⟩
          have E1 := E0.trans (C0.mono E0.size)
          have H1 := HS.out v1 E1
          refine ⟨H1, ?_⟩
          simp only [Act.put, List.setIfInBounds_toArray, List.set_cons_zero, List.set_cons_succ]
          refine hr_take_w 9 (some 26) (.bool false) rfl rfl (by kernel_rfl) (by kernel_rfl) (by kernel_rfl) rfl (fun W hW => by obtain ⟨h0, h1⟩ := hW; go_simp) H1 ?_
          simp only [Act.put, List.setIfInBounds_toArray, List.set_cons_zero, List.set_cons_succ]
          refine wpAnyH_done (by kernel_rfl) ?_ _
          refine NoPanic.normal ?_
          clear CB c1 d1
          go_wp2
          go_roundw
          case rel =>
            refine ⟨k + 1, by omega, by go_num, ?_, hB.trans (E1.mono hB.size)⟩
            show _ = _
            rw [HT.out.1, HT.out.2, HJ.out, HE.out]
          case measure => simp [intOf]; omega
        · rw [decide_eq_false he] at CB
          have HR : Hid (decide (ps.map Part.xs = qs.map Part.xs) = false) := by
            refine decide_eq_false fun e => he ?_
            have := HG.out.1
            rw [e, HG.out.2] at this
            exact (Option.some.inj this).symm
          clear he
          go_wp2_with fail
          have HS : Hid (∀ V, Below wr.heap.size wr V → V.cell? ⟨b, off + k, none⟩ = some (.slice p.ao p.n p.cap) ∧ V.cell? ⟨b2, off2 + k, none⟩ = some (.slice q.ao q.n q.cap)) := fun V hV => ⟨(hV.cell (World.block_lt_of_cell? _ _ c1)).trans c1, (hV.cell (World.block_lt_of_cell? _ _ d1)).trans d1⟩
          have E0 : Below wr.heap.size wr wr.drew := (Below.refl _ _).drew
          refine wp_region_noPanic ?_
          refine wp_region_held_drew (S := fun V => V.cell? ⟨b, off + k, none⟩ = some (.slice p.ao p.n p.cap) ∧ V.cell? ⟨b2, off2 + k, none⟩ = some (.slice q.ao q.n q.cap)) (by kernel_rfl) (HS.out _ E0) (fun H0 => ?_)
          obtain ⟨v0, hv0⟩ : ∃ v, v = wr.drew := ⟨_, rfl⟩
          rw [← hv0] at H0 E0 ⊢
          clear hv0
          refine hr_take_w 0 (some 17) (.slice (some ⟨b, off, none⟩) n cap) rfl rfl (by kernel_rfl) (by kernel_rfl) (by kernel_rfl) rfl (fun W hW => by obtain ⟨h0, h1⟩ := hW; go_simp) H0 ?_
          simp only [Act.put, List.setIfInBounds_toArray, List.set_cons_zero, List.set_cons_succ]
          refine hr_take_w 1 (some 18) (.int .i64 k) rfl rfl (by kernel_rfl) (by kernel_rfl) (by kernel_rfl) rfl (fun W hW => by obtain ⟨h0, h1⟩ := hW; go_simp) H0 ?_
          simp only [Act.put, List.setIfInBounds_toArray, List.set_cons_zero, List.set_cons_succ]
          refine hr_take_w 2 (some 19) (.pointer (some ⟨b, off + k, none⟩)) rfl rfl (by kernel_rfl) (by kernel_rfl) (by kernel_rfl) rfl (fun W hW => by obtain ⟨h0, h1⟩ := hW; go_simp) H0 ?_
          simp only [Act.put, List.setIfInBounds_toArray, List.set_cons_zero, List.set_cons_succ]
          refine hr_take_w 3 (some 20) (.slice p.ao p.n p.cap) rfl rfl (by kernel_rfl) (by kernel_rfl) (by kernel_rfl) rfl (fun W hW => by obtain ⟨h0, h1⟩ := hW; go_simp) H0 ?_
          simp only [Act.put, List.setIfInBounds_toArray, List.set_cons_zero, List.set_cons_succ]
          refine hr_take_w 4 (some 21) (.slice (some ⟨b2, off2, none⟩) m c) rfl rfl (by kernel_rfl) (by kernel_rfl) (by kernel_rfl) rfl (fun W hW => by obtain ⟨h0, h1⟩ := hW; go_simp) H0 ?_
          simp only [Act.put, List.setIfInBounds_toArray, List.set_cons_zero, List.set_cons_succ]
          refine hr_take_w 5 (some 22) (.int .i64 k) rfl rfl (by kernel_rfl) (by kernel_rfl) (by kernel_rfl) rfl (fun W hW => by obtain ⟨h0, h1⟩ := hW; go_simp) H0 ?_
          simp only [Act.put, List.setIfInBounds_toArray, List.set_cons_zero, List.set_cons_succ]
          refine hr_take_w 6 (some 23) (.pointer (some ⟨b2, off2 + k, none⟩)) rfl rfl (by kernel_rfl) (by kernel_rfl) (by kernel_rfl) rfl (fun W hW => by obtain ⟨h0, h1⟩ := hW; go_simp) H0 ?_
          simp only [Act.put, List.setIfInBounds_toArray, List.set_cons_zero, List.set_cons_succ]
          refine hr_take_w 7 (some 24) (.slice q.ao q.n q.cap) rfl rfl (by kernel_rfl) (by kernel_rfl) (by kernel_rfl) rfl (fun W hW => by obtain ⟨h0, h1⟩ := hW; go_simp) H0 ?_
          simp only [Act.put, List.setIfInBounds_toArray, List.set_cons_zero, List.set_cons_succ]
          refine hr_call_w 8 (some 25) 27 #[.slice p.ao p.n p.cap, .slice q.ao q.n q.cap] rfl rfl (by kernel_rfl) rfl (by go_simp) (fun v w' => v = .bool false ∧ Below v0.heap.size v0 w') ((CB v0 E0).mono (by
            rintro e w' ⟨rfl, C⟩
            exact ⟨_, rfl, rfl, C⟩)) ?_
          rintro v v1 ⟨rfl, C0⟩
          have E1 := E0.trans (C0.mono E0.size)
          have H1 := HS.out v1 E1
          refine ⟨H1, ?_⟩
          simp only [Act.put, List.setIfInBounds_toArray, List.set_cons_zero, List.set_cons_succ]
          refine hr_take_w 9 (some 26) (.bool true) rfl rfl (by kernel_rfl) (by kernel_rfl) (by kernel_rfl) rfl (fun W hW => by obtain ⟨h0, h1⟩ := hW; go_simp) H1 ?_
          simp only [Act.put, List.setIfInBounds_toArray, List.set_cons_zero, List.set_cons_succ]
          refine wpAnyH_done (by kernel_rfl) ?_ _
          refine NoPanic.normal ?_
          clear CB c1 d1
          go_wp2
          go_ret
          rw [HR.out]
          exact ⟨rfl, hB.trans (E1.mono hB.size)⟩
      · have hge : ¬ (k : Int) < (n : Int) := by omega
        have HR : Hid (decide (ps.map Part.xs = qs.map Part.xs) = true) := by
          refine decide_eq_true ?_
          have := HJ.out
          rw [List.take_of_length_le (by simp; omega), List.take_of_length_le (by simp; omega)] at this
          exact this
        go_wp2
        go_ret
        rw [HR.out]
        exact ⟨rfl, hB⟩
  · have hmb : ((n : Int) != (m : Int)) = true := by simp; omega
    have HR : Hid (decide (ps.map Part.xs = qs.map Part.xs) = false) := by
      refine decide_eq_false fun e => hm ?_
      have := congrArg List.length e
      simp only [List.length_map] at this
      omega
    clear hm
    go_enter Tryz.func11, Tryz.ntmps11
    go_wp2
    go_ret
    rw [HR.out]
    exact ⟨rfl, Below.refl _ _⟩
end Go.Proofs.YtiabdcejibeciaaGreatDoor

namespace Go.Proofs.YtiabdcejibeciaaGreatDoor
open Go.RowKit

set_option maxRecDepth 100000 in
set_option maxHeartbeats 2000000 in
theorem text_any (w : World) (s t : ByteArray) (hs : s.size ≤ maxLen) (ht : t.size ≤ maxLen) :
    Calls Tryz.prog 53 #[.string s, .string t] w fun e w' => e = .returned (.int .i64 (cmpL (sb s) (sb t))) ∧ Below w.heap.size w w' := by
  simp only [maxLen] at hs ht
  go_enter Tryz.func53, Tryz.ntmps53
  go_wp2_with fail
  go_loopw [5] (fun i wr => ∃ k : Nat, k ≤ s.size ∧ k ≤ t.size ∧ i = .int .i64 k ∧ Below w.heap.size w wr ∧ cmpL (sb s) (sb t) = cmpL ((sb s).drop k) ((sb t).drop k)) (fun i _ => s.size - (intOf i).toNat)
  case atStart => exact ⟨0, by omega, by omega, rfl, Below.refl _ _, rfl⟩
  case round =>
    obtain ⟨k, h1, h2, rfl, B, hc⟩ := hrel
    by_cases l1 : k < s.size
    · have i1 : (k : Int) < (s.size : Int) := by omega
      by_cases l2 : k < t.size
      · have i2 : (k : Int) < (t.size : Int) := by omega
        rw [sb_at s k l1, sb_at t k l2] at hc
        obtain ⟨x, hx⟩ : ∃ x : Nat, x = s[k].toNat := ⟨_, rfl⟩
        obtain ⟨y, hy⟩ : ∃ y : Nat, y = t[k].toNat := ⟨_, rfl⟩
        rw [← hx, ← hy] at hc
        have r1 : ∀ W : World, (Instr.index 9 (.string s) (.int .i64 k)).run Tryz.prog W = .ok (.int .u8 x) W := fun W => by
          rw [run_index_string W _ s _ _ Tryz.underlying9, dif_pos ⟨by omega, i1⟩, hx]
          rfl
        have r2 : ∀ W : World, (Instr.index 9 (.string t) (.int .i64 k)).run Tryz.prog W = .ok (.int .u8 y) W := fun W => by
          rw [run_index_string W _ t _ _ Tryz.underlying9, dif_pos ⟨by omega, i2⟩, hy]
          rfl
        clear hx hy
        by_cases e : x = y
        · subst e
          have hc' : Hid (cmpL (sb s) (sb t) = cmpL ((sb s).drop (k + 1)) ((sb t).drop (k + 1))) := by
            show _ = _
            rw [hc]
            rw [cmpL_cons, if_pos rfl]
          clear hc
          go_wp2_with fail
          go_quiet (fail)
          rename Nat => q
          go_wp2
          go_roundw
          case rel => exact ⟨k + 1, by omega, by omega, by go_num, belN B q, hc'.out⟩
          case measure => simp [intOf]; omega
        · have ne : ((x : Int) == (y : Int)) = false := by simp; omega
          have nn : ((x : Int) != (y : Int)) = true := by simp; omega
          by_cases l : x < y
          · have li : (x : Int) < (y : Int) := by omega
            have hc' : Hid (cmpL (sb s) (sb t) = -1) := by
              show _ = _
              rw [hc, cmpL_cons, if_neg (by omega), if_pos li]
            clear hc
            go_wp2_with fail
            go_quiet (fail)
            rename Nat => q
            go_wp2_with fail
            go_quiet (fail)
            rename Nat => q2
            go_wp2
            go_ret
            exact ⟨by rw [hc'.out] <;> rfl, belN (belN B q) q2⟩
          · have li : ¬ (x : Int) < (y : Int) := by omega
            have hc' : Hid (cmpL (sb s) (sb t) = 1) := by
              show _ = _
              rw [hc, cmpL_cons, if_neg (by omega), if_neg li]
            clear hc
            go_wp2_with fail
            go_quiet (fail)
            rename Nat => q
            go_wp2_with fail
            go_quiet (fail)
            rename Nat => q2
            go_wp2
            go_ret
            exact ⟨by rw [hc'.out] <;> rfl, belN (belN B q) q2⟩
      · have i2 : (t.size : Int) ≤ (k : Int) := by omega
        rw [sb_at s k l1, sb_end t k (by omega)] at hc
        have hc' : Hid (cmpL (sb s) (sb t) = 1) := hc
        clear hc
        have f1 : ((s.size : Int) == (t.size : Int)) = false := by simp; omega
        have f2 : ¬ (s.size : Int) < (t.size : Int) := by omega
        go_wp2
        go_ret
        exact ⟨by rw [hc'.out] <;> rfl, B⟩
    · have i1 : (s.size : Int) ≤ (k : Int) := by omega
      rw [sb_end s k (by omega)] at hc
      by_cases l2 : k < t.size
      · rw [sb_at t k l2] at hc
        have hc' : Hid (cmpL (sb s) (sb t) = -1) := hc
        clear hc
        have f1 : ((s.size : Int) == (t.size : Int)) = false := by simp; omega
        have f2 : (s.size : Int) < (t.size : Int) := by omega
        go_wp2
        go_ret
        exact ⟨by rw [hc'.out] <;> rfl, B⟩
      · rw [sb_end t k (by omega)] at hc
        have hc' : Hid (cmpL (sb s) (sb t) = 0) := hc
        clear hc
        have f1 : ((s.size : Int) == (t.size : Int)) = true := by simp; omega
        go_wp2
        go_ret
        exact ⟨by rw [hc'.out] <;> rfl, B⟩
end Go.Proofs.YtiabdcejibeciaaGreatDoor

namespace Go.Proofs.YtiabdcejibeciaaGreatDoor
open Go.RowKit

set_option maxHeartbeats 1000000 in
set_option maxRecDepth 100000 in
theorem rbelow_any (w : World) (ao bo : Option Addr) (n cap m cap2 : Nat) (xs ys : List Int) (h : Sl w ao n cap xs) (h2 : Sl w bo m cap2 ys) :
    Calls Tryz.prog 26 #[.slice ao n cap, .slice bo m cap2] w fun e w' => e = .returned (.bool (decide (cmpL xs ys < 0))) ∧ Below w.heap.size w w' := by
  have c1 := conv_str h
  have c2 := conv_str h2
  have hn := h.len
  have hm := h2.len
  have m1 := h.mx
  have m2 := h2.mx
  have l1 := h.le
  have l2 := h2.le
  go_enter Tryz.func26, Tryz.ntmps26
  go_wp2_with fail
  refine (text_any w (strOfNums xs) (strOfNums ys) (by rw [strOfNums_size]; omega) (by rw [strOfNums_size]; omega)).mono ?_
  rintro e w1 ⟨rfl, B⟩
  rw [sb_str h.byte, sb_str h2.byte]
  go_wp2
  go_ret
  exact ⟨rfl, B⟩
end Go.Proofs.YtiabdcejibeciaaGreatDoor

namespace Go.Proofs.YtiabdcejibeciaaGreatDoor
open Go.RowKit

theorem own_slice {W : World} {base n : Nat} {e : TypeId} {size : Nat} {v : Value} {xs : List Value} (h : W.ownsRow base e size v n xs) : ∃ ao cap, v = .slice ao n cap := by
  rcases h.2 with ⟨rfl, rfl⟩ | ⟨g, cap, cur, rfl, _⟩
  · exact ⟨none, 0, rfl⟩
  · exact ⟨_, cap, rfl⟩
end Go.Proofs.YtiabdcejibeciaaGreatDoor

namespace Go.Proofs.YtiabdcejibeciaaGreatDoor
open Go.RowKit

/-- append of items to a row of the call's own. -/
theorem wpList_appIs {w : World} {ops : Array Oper} {rest : List Oper} {o : Oper} {a : Act} {Q : Exit → Act → World → Prop} (hgd : o.guard = none) (s x : Operand)
    (ho : o.op = .call { callee := .builtin .append, args := #[s, x], argTypes := #[22, 22] })
    (base : Nat) (v : Value) (ps : List IP) (hs : a.eval s = v) (hown : w.ownsRow base 32 2 v ps.length (flatI ps))
    (bo : Option Addr) (m c : Nat) (qs : List IP) (hx : a.eval x = .slice bo m c) (hil : IL w bo m c qs) (hn : ps.length + m ≤ 1000000) (hbase : base ≤ w.heap.size)
    (h : ∀ v' w', w'.ownsRow base 32 2 v' (ps ++ qs).length (flatI (ps ++ qs)) → Below base w w' → wpList Tryz.prog ops Q rest (a.put o.dst v') w') : wpList Tryz.prog ops Q (o :: rest) a w := by
  obtain ⟨v', w', hr, h1, h2⟩ := run_appI (w := w) o.type hown hbase hil hn
  refine wpList_plain hgd fun _ hK => ?_
  unfold Oper.wp execOp
  simp only [ho, resolve, invoke, builtin, Sem.run_bind, Sem.run_pure, Result.andThen_ok, List.map_toArray, List.map_cons, List.map_nil, hs, hx, hr, Oper.upon]
  exact hK _ _ (h v' w' h1 h2)

theorem put_parts {l : List It} {k : Nat} {key : List Int} (h1 : ∀ x ∈ l.take k, cmpL x.k key < 0) (h2 : ∀ x ∈ l.drop k, ¬ cmpL x.k key < 0) : lo key l = l.take k ∧ hi key l = (l.drop k).filter fun x => decide (cmpL key x.k < 0) := by
  have e : l = l.take k ++ l.drop k := (List.take_append_drop k l).symm
  constructor
  · unfold lo
    conv => lhs; rw [e]
    rw [List.filter_append, List.filter_eq_self.2 fun x hx => decide_eq_true (h1 x hx), List.filter_eq_nil_iff.2 fun x hx => by simpa using h2 x hx, List.append_nil]
  · unfold hi
    conv => lhs; rw [e]
    rw [List.filter_append, List.filter_eq_nil_iff.2 fun x hx => by simpa using cmpL_asym (h1 x hx), List.nil_append]
theorem put_drop {l : List It} (hs : Srt l) {k : Nat} {key : List Int} (hk : ∀ x r, l.drop k = x :: r → ¬ cmpL x.k key < 0) : ∀ x ∈ l.drop k, ¬ cmpL x.k key < 0 := by
  intro x hx
  cases hd : l.drop k with
  | nil => rw [hd] at hx; simp at hx
  | cons y r =>
    rw [hd] at hx
    have hy := hk y r hd
    have hsd : Srt (y :: r) := by rw [← hd]; exact List.Pairwise.sublist (List.drop_sublist k l) hs
    rcases List.mem_cons.1 hx with rfl | hx
    · exact hy
    · intro hlt
      exact hy (cmpL_lt_trans _ _ _ (hsd.cons.1 x hx) hlt)
/-- With the key's own item there. -/
theorem put_same {l : List It} (hs : Srt l) {k : Nat} {x y : It} {r : List It} (h1 : ∀ z ∈ l.take k, cmpL z.k x.k < 0) (hd : l.drop k = y :: r) (hy : y.k = x.k) : l.take k ++ x :: r = ins l x := by
  have hsd : Srt (y :: r) := by rw [← hd]; exact List.Pairwise.sublist (List.drop_sublist k l) hs
  obtain ⟨e1, e2⟩ := put_parts h1 (put_drop hs fun z q hz => by rw [hd] at hz; obtain ⟨rfl, -⟩ := List.cons.inj hz; rw [hy]; exact cmpL_irr _)
  unfold ins
  rw [e1, e2, hd, List.filter_cons, if_neg (by rw [hy]; simpa using cmpL_irr x.k), List.filter_eq_self.2 fun z hz => decide_eq_true (by rw [← hy]; exact hsd.cons.1 z hz)]
/-- Without. -/
theorem put_new {l : List It} (hs : Srt l) {k : Nat} {x : It} (h1 : ∀ z ∈ l.take k, cmpL z.k x.k < 0) (hd : ∀ y r, l.drop k = y :: r → ¬ cmpL y.k x.k < 0 ∧ y.k ≠ x.k) : l.take k ++ x :: l.drop k = ins l x := by
  have h2 := put_drop hs fun z q hz => (hd z q hz).1
  obtain ⟨e1, e2⟩ := put_parts h1 h2
  unfold ins
  rw [e1, e2, List.filter_eq_self.2 fun z hz => decide_eq_true ?_]
  cases he : l.drop k with
  | nil => rw [he] at hz; simp at hz
  | cons y r =>
    have hsd : Srt (y :: r) := by rw [← he]; exact List.Pairwise.sublist (List.drop_sublist k l) hs
    obtain ⟨g1, g2⟩ := hd y r he
    have gy : cmpL x.k y.k < 0 := by
      rcases cmpL_total x.k y.k with h | h | h
      · exact h
      · exact absurd h.symm g2
      · exact absurd h g1
    rw [he] at hz
    rcases List.mem_cons.1 hz with rfl | hz
    · exact gy
    · exact cmpL_lt_trans _ _ _ gy (hsd.cons.1 z hz)
end Go.Proofs.YtiabdcejibeciaaGreatDoor

namespace Go.Proofs.YtiabdcejibeciaaGreatDoor
open Go.RowKit

theorem own_any3 {W : World} {base n : Nat} {e : TypeId} {size : Nat} {v : Value} {xs : List Value} (h : W.ownsRow base e size v n xs) : ∃ ao m cap, v = .slice ao m cap := by
  obtain ⟨ao, cap, rfl⟩ := own_slice h
  exact ⟨ao, _, cap, rfl⟩
/-- What it answers. -/
def RPutPost (w : World) (l : List It) (x : It) (e : Ending) (w' : World) : Prop := ∃ ro rn rc ps, e = .returned (.slice ro rn rc) ∧ IL w' ro rn rc ps ∧ ps.map IP.it = ins l x ∧ Below w.heap.size w w'

set_option maxHeartbeats 4000000 in
set_option maxRecDepth 100000 in
theorem rput7_any (w : World) (ao ko vo : Option Addr) (n cap kn kc vn vc : Nat) (its : List IP) (key val : List Int) (h : IL w ao n cap its) (hs : Srt (its.map IP.it)) (hk : Sl w ko kn kc key) (hv : Sl w vo vn vc val) (hn : n ≤ 100000) :
    Calls Tryz.prog 8 #[.slice ao n cap, .slice ko kn kc, .slice vo vn vc] w (RPutPost w (its.map IP.it) ⟨key, val⟩) := by
  have hl1 := Nat.le_of_eq h.len
  have hl2 := Nat.le_of_eq h.len.symm
  have hle := h.le
  have hnx : (n : Int) ≤ 100000 := by omega
  go_enter Tryz.func8, Tryz.ntmps8
  go_wp2
  go_loopw [7] (fun i wr => ∃ k : Nat, k ≤ n ∧ i = .int .i64 k ∧ (∀ q ∈ its.take k, cmpL q.k.xs key < 0) ∧ Below w.heap.size w wr) (fun i _ => n - (intOf i).toNat)
  case atStart => exact ⟨0, Nat.zero_le _, rfl, by simp, Below.refl _ _⟩
  case round =>
    obtain ⟨k, hkn, rfl, hj, hB⟩ := hrel
    have HJ : Hid (∀ q ∈ its.take k, cmpL q.k.xs key < 0) := hj
    have HL : Hid (∀ z ∈ (its.map IP.it).take k, cmpL z.k (⟨key, val⟩ : It).k < 0) := by
      show ∀ _, _
      intro z hz
      rw [← List.map_take] at hz
      obtain ⟨q, hq, rfl⟩ := List.mem_map.1 hz
      exact hj q hq
    clear hj
    have hki0 : (k : Int) ≤ 100000 := by omega
    have F1 : ∀ W, _ := fun W => run_upto2 (W := W) (ao := ao) (n := n) (cap := cap) (i := k) (by omega)
    have F2 : ∀ W, _ := fun W => run_back2 (W := W) (ao := ao) (n := n) (cap := cap) (j := k) (by omega)
    by_cases hlt : k < n
    · have hki : (k : Int) < (n : Int) := by omega
      have hkl : k < its.length := by omega
      have hck : cap ≠ k := by omega
      have S1 := h.sl its[k] (List.getElem_mem hkl)
      obtain ⟨b, off, rfl, hc0⟩ := (h.below hB).at (by omega)
      have ebk : bk2 (some ⟨b, off, none⟩) cap k = some ⟨b, off + k * 2, none⟩ := by unfold bk2; rw [if_neg hck]; simp [Addr.add_lit]
      rw [ebk] at F2
      obtain ⟨c1, -⟩ := hc0 k hkl
      have HD : Hid ((its.map IP.it).drop k = its[k].it :: (its.drop (k + 1)).map IP.it) := by show _ = _; rw [← List.map_drop, List.drop_eq_getElem_cons hkl]; rfl
      have HT : Hid (its.take (k + 1) = its.take k ++ [its[k]]) := List.take_succ_eq_append_getElem hkl
      obtain ⟨q, hq⟩ : ∃ q, q = its[k] := ⟨_, rfl⟩
      rw [← hq] at c1 S1 HD HT
      unfold Part.val at c1
      clear hc0 hq
      have CL := rbelow_any wr _ _ _ _ _ _ _ _ (S1.1.below hB) (hk.below hB)
      by_cases g1 : cmpL q.k.xs key < 0
      · rw [decide_eq_true g1] at CL
        have G1 : Hid (cmpL q.k.xs key < 0) := g1
        clear g1 F1 F2 ebk
        go_wp2_with fail
        refine CL.mono ?_
        rintro e w2 ⟨rfl, C2⟩
        clear CL
        go_wp2
        go_roundw
        case rel =>
          refine ⟨k + 1, by omega, by go_num, fun r hr => ?_, hB.trans (C2.mono hB.size)⟩
          rw [HT.out] at hr
          rcases List.mem_append.1 hr with hr | hr
          · exact HJ.out r hr
          · rw [List.mem_singleton.1 hr]
            exact G1.out
        case measure => simp [intOf]; omega
      · rw [decide_eq_false g1] at CL
        have G1 : Hid (¬ cmpL q.k.xs key < 0) := g1
        clear g1
        obtain ⟨d, hd⟩ : ∃ d, d = n - k := ⟨_, rfl⟩
        rw [← hd] at F2
        have hd1 : 0 < d := by omega
        have hd2 : d ≤ n := by omega
        have hdi : (d : Int) > 0 := by omega
        have HDD : Hid (d = n - k) := hd
        have F3 : ∀ W, _ := fun W => run_back2 (W := W) (ao := some ⟨b, off + k * 2, none⟩) (n := d) (cap := cap - k) (j := 1) (by omega)
        simp only [Int.natCast_one] at F3
        have ILR : IL w (some ⟨b, off + k * 2, none⟩) d (cap - k) (its.drop k) := by rw [hd, ← ebk]; exact h.from k hkn
        clear hd ebk
        go_wp2_with fail
        refine CL.mono ?_
        rintro e w2 ⟨rfl, C2⟩
        have c1 := (C2.cell (World.block_lt_of_cell? _ _ c1)).trans c1
        have B2 := hB.trans (C2.mono hB.size)
        clear CL C2
        have CS := same_any w2 _ _ _ _ _ _ _ _ (S1.1.below B2) (hk.below B2)
        by_cases g2 : q.k.xs = key
        · rw [decide_eq_true g2] at CS
          have G2 : Hid (q.k.xs = key) := g2
          clear g2
          go_wp2_with fail
          refine CS.mono ?_
          rintro e w3 ⟨rfl, z, hz⟩
          have BZ : Below w.heap.size w w3 := by rw [hz]; exact B2.trans (below_drewN _ _ _)
          clear CS hz
          have wzs := BZ.size
          have O0 := own_none w3
          have Ba : Below w3.heap.size w3 (w3.alloc (.cells #[] 32)) := (Below.refl _ w3).alloc (Nat.le_refl _) _
          have Bas := Ba.size
          have I0 := ((h.below BZ).front k (by omega)).below Ba
          have IR := ((ILR.below BZ).from 1 (by omega)).below (Below.refl _ _)
          go_wp2_with (at_builtin; first
            | (refine wpList_appIs rfl _ _ rfl w3.heap.size _ [] rfl O0 _ _ _ (its.take k) rfl I0 (by simp; omega) Bas ?_; intro v1 u1 own1 B1; obtain ⟨r1, n1, c1, e1⟩ := own_any3 own1; subst e1; have hu1 := B1.size; have ownN := own_below own1 ((Below.refl _ u1).alloc (Nat.le_refl _) (.cells #[.slice ko kn kc, .slice vo vn vc] 32)); have hnew := heap_alloc_new u1 (.cells #[.slice ko kn kc, .slice vo vn vc] 32); have BN : Below u1.heap.size u1 (u1.alloc (.cells #[.slice ko kn kc, .slice vo vn vc] 32)) := (Below.refl _ u1).alloc (Nat.le_refl _) _; have bsz := BN.size)
            | (refine wpList_appI rfl _ _ rfl w3.heap.size _ ([] ++ its.take k) rfl ownN _ _ ⟨⟨ko, kn, kc, key⟩, ⟨vo, vn, vc, val⟩⟩ rfl hnew (by simp only [List.nil_append, List.length_take]; omega) (by omega) ?_; intro v2 u2 own2 B2; have BB := (Ba.trans B1).trans ((BN.mono (by omega)).trans B2); have I2 := IR.below BB; have hu2 := B2.size; obtain ⟨r2, n2, c2, e2⟩ := own_any3 own2; subst e2)
            | (refine wpList_appIs rfl _ _ rfl w3.heap.size _ ([] ++ its.take k ++ [(⟨⟨ko, kn, kc, key⟩, ⟨vo, vn, vc, val⟩⟩ : IP)]) rfl own2 _ _ _ ((its.drop k).drop 1) rfl I2 (by simp only [List.nil_append, List.length_append, List.length_take, List.length_cons, List.length_nil]; omega) (by omega) ?_; intro v3 u3 own3 B3))
          have BF := BZ.trans ((BB.trans B3).mono BZ.size)
          obtain ⟨r3, c3, rfl, I3⟩ := own_items own3 (fun q hq => by
            simp only [List.nil_append, List.mem_append, List.mem_singleton] at hq
            rcases hq with (hq | rfl) | hq
            · exact (h.sl q (List.mem_of_mem_take hq)).below BF
            · exact ⟨hk.below BF, hv.below BF⟩
            · exact (h.sl q (List.mem_of_mem_drop (List.mem_of_mem_drop hq))).below BF)
          go_wp2
          go_ret
          refine ⟨_, _, _, _, rfl, I3, ?_, BF⟩
          have hd1 : (its.drop k).drop 1 = its.drop (k + 1) := by rw [List.drop_drop]
          rw [List.nil_append, List.append_assoc, List.map_append, List.map_append, hd1, List.map_take]
          exact put_same hs HL.out HD.out G2.out
        · rw [decide_eq_false g2] at CS
          have G2 : Hid (¬ q.k.xs = key) := g2
          clear g2 F3
          go_wp2_with fail
          refine CS.mono ?_
          rintro e w3 ⟨rfl, z, hz⟩
          have BZ : Below w.heap.size w w3 := by rw [hz]; exact B2.trans (below_drewN _ _ _)
          clear CS hz
          have wzs := BZ.size
          have O0 := own_none w3
          have Ba : Below w3.heap.size w3 (w3.alloc (.cells #[] 32)) := (Below.refl _ w3).alloc (Nat.le_refl _) _
          have Bas := Ba.size
          have I0 := ((h.below BZ).front k (by omega)).below Ba
          have IR := ILR.below BZ
          go_wp2_with (at_builtin; first
            | (refine wpList_appIs rfl _ _ rfl w3.heap.size _ [] rfl O0 _ _ _ (its.take k) rfl I0 (by simp; omega) Bas ?_; intro v1 u1 own1 B1; obtain ⟨r1, n1, c1, e1⟩ := own_any3 own1; subst e1; have hu1 := B1.size; have ownN := own_below own1 ((Below.refl _ u1).alloc (Nat.le_refl _) (.cells #[.slice ko kn kc, .slice vo vn vc] 32)); have hnew := heap_alloc_new u1 (.cells #[.slice ko kn kc, .slice vo vn vc] 32); have BN : Below u1.heap.size u1 (u1.alloc (.cells #[.slice ko kn kc, .slice vo vn vc] 32)) := (Below.refl _ u1).alloc (Nat.le_refl _) _; have bsz := BN.size)
            | (refine wpList_appI rfl _ _ rfl w3.heap.size _ ([] ++ its.take k) rfl ownN _ _ ⟨⟨ko, kn, kc, key⟩, ⟨vo, vn, vc, val⟩⟩ rfl hnew (by simp only [List.nil_append, List.length_take]; omega) (by omega) ?_; intro v2 u2 own2 B2; have BB := (Ba.trans B1).trans ((BN.mono (by omega)).trans B2); have I2 := IR.below BB; have hu2 := B2.size; obtain ⟨r2, n2, c2, e2⟩ := own_any3 own2; subst e2)
            | (refine wpList_appIs rfl _ _ rfl w3.heap.size _ ([] ++ its.take k ++ [(⟨⟨ko, kn, kc, key⟩, ⟨vo, vn, vc, val⟩⟩ : IP)]) rfl own2 _ _ _ (its.drop k) rfl I2 (by simp only [List.nil_append, List.length_append, List.length_take, List.length_cons, List.length_nil]; omega) (by omega) ?_; intro v3 u3 own3 B3))
          have BF := BZ.trans ((BB.trans B3).mono BZ.size)
          obtain ⟨r3, c3, rfl, I3⟩ := own_items own3 (fun q hq => by
            simp only [List.nil_append, List.mem_append, List.mem_singleton] at hq
            rcases hq with (hq | rfl) | hq
            · exact (h.sl q (List.mem_of_mem_take hq)).below BF
            · exact ⟨hk.below BF, hv.below BF⟩
            · exact (h.sl q (List.mem_of_mem_drop hq)).below BF)
          go_wp2
          go_ret
          refine ⟨_, _, _, _, rfl, I3, ?_, BF⟩
          rw [List.nil_append, List.append_assoc, List.map_append, List.map_append, List.map_take, List.map_drop]
          exact put_new hs HL.out (fun y r hy => by rw [HD.out] at hy; obtain ⟨rfl, -⟩ := List.cons.inj hy; exact ⟨by have := G1.out; show ¬ cmpL q.k.xs key < 0; omega, G2.out⟩)
    · have hge : ¬ (k : Int) < (n : Int) := by omega
      obtain ⟨d, hd⟩ : ∃ d, d = n - k := ⟨_, rfl⟩
      rw [← hd] at F2
      have hdi : ¬ (d : Int) > 0 := by omega
      have hd2 : d ≤ n := by omega
      have ILR : IL w (bk2 ao cap k) d (cap - k) (its.drop k) := by rw [hd]; exact h.from k hkn
      have HZ : Hid ((its.map IP.it).drop k = []) := List.drop_eq_nil_of_le (by simp; omega)
      clear hd
      have BZ := hB
      obtain ⟨a0, ha0⟩ : ∃ a, a = bk2 ao cap k := ⟨_, rfl⟩
      rw [← ha0] at F2 ILR
      clear ha0
      have wzs := BZ.size
      have O0 := own_none wr
      have Ba : Below wr.heap.size wr (wr.alloc (.cells #[] 32)) := (Below.refl _ wr).alloc (Nat.le_refl _) _
      have Bas := Ba.size
      have I0 := ((h.below BZ).front k (by omega)).below Ba
      have IR := ILR.below BZ
      go_wp2_with (at_builtin; first
        | (refine wpList_appIs rfl _ _ rfl wr.heap.size _ [] rfl O0 _ _ _ (its.take k) rfl I0 (by simp; omega) Bas ?_; intro v1 u1 own1 B1; obtain ⟨r1, n1, c1, e1⟩ := own_any3 own1; subst e1; have hu1 := B1.size; have ownN := own_below own1 ((Below.refl _ u1).alloc (Nat.le_refl _) (.cells #[.slice ko kn kc, .slice vo vn vc] 32)); have hnew := heap_alloc_new u1 (.cells #[.slice ko kn kc, .slice vo vn vc] 32); have BN : Below u1.heap.size u1 (u1.alloc (.cells #[.slice ko kn kc, .slice vo vn vc] 32)) := (Below.refl _ u1).alloc (Nat.le_refl _) _; have bsz := BN.size)
        | (refine wpList_appI rfl _ _ rfl wr.heap.size _ ([] ++ its.take k) rfl ownN _ _ ⟨⟨ko, kn, kc, key⟩, ⟨vo, vn, vc, val⟩⟩ rfl hnew (by simp only [List.nil_append, List.length_take]; omega) (by omega) ?_; intro v2 u2 own2 B2; have BB := (Ba.trans B1).trans ((BN.mono (by omega)).trans B2); have I2 := IR.below BB; have hu2 := B2.size; obtain ⟨r2, n2, c2, e2⟩ := own_any3 own2; subst e2)
        | (refine wpList_appIs rfl _ _ rfl wr.heap.size _ ([] ++ its.take k ++ [(⟨⟨ko, kn, kc, key⟩, ⟨vo, vn, vc, val⟩⟩ : IP)]) rfl own2 _ _ _ (its.drop k) rfl I2 (by simp only [List.nil_append, List.length_append, List.length_take, List.length_cons, List.length_nil]; omega) (by omega) ?_; intro v3 u3 own3 B3))
      have BF := BZ.trans ((BB.trans B3).mono BZ.size)
      obtain ⟨r3, c3, rfl, I3⟩ := own_items own3 (fun q hq => by
        simp only [List.nil_append, List.mem_append, List.mem_singleton] at hq
        rcases hq with (hq | rfl) | hq
        · exact (h.sl q (List.mem_of_mem_take hq)).below BF
        · exact ⟨hk.below BF, hv.below BF⟩
        · exact (h.sl q (List.mem_of_mem_drop hq)).below BF)
      go_wp2
      go_ret
      refine ⟨_, _, _, _, rfl, I3, ?_, BF⟩
      rw [List.nil_append, List.append_assoc, List.map_append, List.map_append, List.map_take, List.map_drop]
      exact put_new hs HL.out (fun y r hy => by rw [HZ.out] at hy; simp at hy)
end Go.Proofs.YtiabdcejibeciaaGreatDoor

/-
  Texts in one: SeAsk, SeNew, SeAlive.
-/
import Derived.Test.YtoagkffokfbpfaaDoorSessionOrderQFL
import Derived.Test.YtoagkffokfbpfaaDoorSessionOrderQ5
import Derived.Test.YtoagkffokfbpfaaDoorSessionOrderQ7
import Derived.Test.YtoagkffokfbpfaaDoorSessionOrderQ3
namespace Go.Proofs.YtoagkffokfbpfaaDoor
open Go.RowKit
def ResIs (w : World) (r : RV) (x : Ending) (w' : World) : Prop := ∃ (q : Int) (ao : Option Addr) (n cap : Nat) (cs : List CA) (m : Bool), x = .returned (resV q ao n cap m) ∧ CL w' ao n cap cs ∧ r = resR q cs m ∧ Below w.heap.size w w'
theorem row3_get {w : World} {N i : Nat} {x y z u : Value} {t : TypeId} (h : w.heap[N]? = some (.cells #[x, y, z] t)) (hc : w.cell? ⟨N, i, none⟩ = some u) : u = x ∨ u = y ∨ u = z := by
  rw [cell_of_row w N i _ _ _ h] at hc
  match i, hc with
  | 0, hc => exact .inl (by simpa using hc.symm)
  | 1, hc => exact .inr (.inl (by simpa using hc.symm))
  | 2, hc => exact .inr (.inr (by simpa using hc.symm))
  | i + 3, hc => simp at hc
theorem CL.offR {w : World} {N : Nat} {e : Int} {a : Option Addr} {x y : Nat} {m : Bool} (K : RW w N e (.slice a x y) m) {ao : Option Addr} {n cap : Nat} {cs : List CA} (L : CL w ao n cap cs) : ∀ z, (sblk ao n z ∨ ∃ c ∈ cs, c.va.blk z) → z ≠ N := by
  rintro z (⟨b, rfl, hn, rfl⟩ | ⟨c, hc, b, hb, hn, rfl⟩) rfl
  · have hl := L.len
    have h0 := L.cell b rfl 0 (by omega) 0 _ rfl
    obtain ⟨bb, off, spot⟩ := b
    have hs : spot = none := by simpa [Addr.add] using World.cell?_spot h0
    subst hs
    rw [Addr.add_lit] at h0
    rcases row3_get K h0 with h | h | h <;> cases h
  · have S := (L.ok c hc).va
    have h0 := S.cell b hb 0 hn
    obtain ⟨bb, off, spot⟩ := b
    have hs : spot = none := by simpa [Addr.add] using World.cell?_spot h0
    subst hs
    rw [Addr.add_lit] at h0
    rcases row3_get K h0 with h | h | h <;> cases h
theorem CL.setR {w : World} {N : Nat} {e e' : Int} {a : Option Addr} {x y : Nat} {m m' : Bool} {u : Value} (K : RW w N e (.slice a x y) m) {ao : Option Addr} {n cap : Nat} {cs : List CA} (L : CL w ao n cap cs) : CL (((w.setCell ⟨N, 0, none⟩ (.int .i64 e')).setCell ⟨N, 1, none⟩ u).setCell ⟨N, 2, none⟩ (.bool m')) ao n cap cs :=
  L.kept fun z hz => (((same_set _ N 2 _).2 z (L.offR K z hz)).trans ((same_set _ N 1 _).2 z (L.offR K z hz))).trans ((same_set _ N 0 _).2 z (L.offR K z hz))
set_option maxRecDepth 100000 in
set_option maxHeartbeats 4000000 in
theorem cresult_any (w : World) (e : EN) (he : e.ok) :
    Calls Tryd.prog 35 #[.agg #[.int .u64 e.cl, .int .u64 e.st, .string e.an]] w (ResIs w e.r) := by
  have hsz : e.an.size ≤ 65536 := by
    have := he.len
    rw [← sb_len, he.sb]
    exact this
  have B0 : Below w.heap.size w ((w.alloc (.cells #[.int .u64 e.cl, .int .u64 e.st, .string e.an] 66)).alloc (.cells #[.int .i64 0, .slice none 0 0, .bool false] 37)) := ((Below.refl _ w).alloc (Nat.le_refl _) _).alloc (by simp) _
  have K0 : RW ((w.alloc (.cells #[.int .u64 e.cl, .int .u64 e.st, .string e.an] 66)).alloc (.cells #[.int .i64 0, .slice none 0 0, .bool false] 37)) (w.heap.size + 1) 0 (.slice none 0 0) false := by
    have := heap_alloc_new (w.alloc (.cells #[.int .u64 e.cl, .int .u64 e.st, .string e.an] 66)) (.cells #[.int .i64 0, .slice none 0 0, .bool false] 37)
    unfold RW
    simpa using this
  have HSB : Hid (sb e.an = putR e.r) := he.sb
  have HRD : Hid (rdR (putR e.r) = .inr e.r) := he.rd
  obtain ⟨a, ha⟩ : ∃ a, a = e.an := ⟨_, rfl⟩
  rw [← ha] at hsz B0 K0 HSB ⊢
  clear ha he
  go_enter Tryd.func35, Tryd.ntmps35
  go_wp2_with (refine wpList_conv_bytes rfl (.tmp 7) rfl a rfl (by omega) ?_; intro g1 c1 w1 hg1 S1 B1; clear hg1)
  have B2 := B0.trans (B1.mono B0.size)
  have K2 : RW w1 (w.heap.size + 1) 0 (.slice none 0 0) false := K0.kept (B1.block _ K0.lt)
  clear B0 B1 K0
  rw [HSB.out] at S1
  have CR := prdr_any w1 _ _ _ _ S1 (by omega)
  refine CR.mono ?_
  rintro x w3 h3
  obtain ⟨q, ao, n, cap, cs, m, rfl, L3, hq⟩ := h3.good _ HRD.out
  have C3 := h3.bel
  have B3 := B2.trans (C3.mono B2.size)
  have K3 : RW w3 (w.heap.size + 1) 0 (.slice none 0 0) false := K2.kept (C3.block _ K2.lt)
  have HQ : Hid (e.r = resR q cs m) := hq
  clear CR h3 C3 K2 B2 hq S1
  have r0 := K3.c0
  have r1 := K3.c1
  have r2 := K3.c2
  have f0 := K3.fz 0
  have f1 := K3.fz 1
  have f2 := K3.fz 2
  have hlt := K3.lt
  have K5 : RW (((w3.setCell ⟨w.heap.size + 1, 0, none⟩ (.int .i64 q)).setCell ⟨w.heap.size + 1, 1, none⟩ (.slice ao n cap)).setCell ⟨w.heap.size + 1, 2, none⟩ (.bool m)) (w.heap.size + 1) q (.slice ao n cap) m := heap_setCell_same _ _ 2 _ _ _ (heap_setCell_same _ _ 1 _ _ _ (heap_setCell_same _ _ 0 _ _ _ K3))
  have L5 : CL (((w3.setCell ⟨w.heap.size + 1, 0, none⟩ (.int .i64 q)).setCell ⟨w.heap.size + 1, 1, none⟩ (.slice ao n cap)).setCell ⟨w.heap.size + 1, 2, none⟩ (.bool m)) ao n cap cs := CL.setR K3 L3
  have C5 : Below (((w3.setCell ⟨w.heap.size + 1, 0, none⟩ (.int .i64 q)).setCell ⟨w.heap.size + 1, 1, none⟩ (.slice ao n cap)).setCell ⟨w.heap.size + 1, 2, none⟩ (.bool m)).heap.size (((w3.setCell ⟨w.heap.size + 1, 0, none⟩ (.int .i64 q)).setCell ⟨w.heap.size + 1, 1, none⟩ (.slice ao n cap)).setCell ⟨w.heap.size + 1, 2, none⟩ (.bool m)) ((((w3.setCell ⟨w.heap.size + 1, 0, none⟩ (.int .i64 q)).setCell ⟨w.heap.size + 1, 1, none⟩ (.slice ao n cap)).setCell ⟨w.heap.size + 1, 2, none⟩ (.bool m)).alloc (.cells #[.int .i64 q, .slice ao n cap, .bool m] 37)) := (Below.refl _ _).alloc (Nat.le_refl _) _
  have L6 := L5.below C5
  have K6 : RW ((((w3.setCell ⟨w.heap.size + 1, 0, none⟩ (.int .i64 q)).setCell ⟨w.heap.size + 1, 1, none⟩ (.slice ao n cap)).setCell ⟨w.heap.size + 1, 2, none⟩ (.bool m)).alloc (.cells #[.int .i64 q, .slice ao n cap, .bool m] 37)) (w.heap.size + 1) q (.slice ao n cap) m := K5.kept (C5.block _ K5.lt)
  have B5 : Below w.heap.size w (((w3.setCell ⟨w.heap.size + 1, 0, none⟩ (.int .i64 q)).setCell ⟨w.heap.size + 1, 1, none⟩ (.slice ao n cap)).setCell ⟨w.heap.size + 1, 2, none⟩ (.bool m)) := ((B3.setCell (p := ⟨w.heap.size + 1, 0, none⟩) (Nat.le_succ _) _).setCell (p := ⟨w.heap.size + 1, 1, none⟩) (Nat.le_succ _) _).setCell (p := ⟨w.heap.size + 1, 2, none⟩) (Nat.le_succ _) _
  have B6 := B5.trans (C5.mono B5.size)
  have n0 := K6.c0
  have n1 := K6.c1
  have n2 := K6.c2
  have HF : Hid (CL ((((w3.setCell ⟨w.heap.size + 1, 0, none⟩ (.int .i64 q)).setCell ⟨w.heap.size + 1, 1, none⟩ (.slice ao n cap)).setCell ⟨w.heap.size + 1, 2, none⟩ (.bool m)).alloc (.cells #[.int .i64 q, .slice ao n cap, .bool m] 37)) ao n cap cs ∧ Below w.heap.size w ((((w3.setCell ⟨w.heap.size + 1, 0, none⟩ (.int .i64 q)).setCell ⟨w.heap.size + 1, 1, none⟩ (.slice ao n cap)).setCell ⟨w.heap.size + 1, 2, none⟩ (.bool m)).alloc (.cells #[.int .i64 q, .slice ao n cap, .bool m] 37))) := ⟨L6, B6⟩
  clear C5 K5 L3 B3 K3 L5 L6 B5 B6 K6
  unfold resV
  go_wp2
  refine bodyPost_ret (v := .agg #[.int .i64 q, .slice ao n cap, .bool m]) (by simp [results, Tryd.results35, go_sem, n0, n1, n2]) rfl ?_
  exact ⟨q, ao, n, cap, cs, m, rfl, HF.out.1, HQ.out, HF.out.2⟩
def askE (l : List EN) (c s : Nat) : RV × Int :=
  match fnd l c with
  | none => (zRV, 15)
  | some i => if s < (l[i]?.map EN.st).getD 0 then (zRV, 16) else if (l[i]?.map EN.st).getD 0 < s then (zRV, 7) else ((l[i]?.map EN.r).getD zRV, 0)
theorem askE_none {l : List EN} {c s : Nat} (h : fnd l c = none) : askE l c s = (zRV, 15) := by unfold askE; rw [h]
theorem askE_stale {l : List EN} {c s i : Nat} (h : fnd l c = some i) (hi : i < l.length) (hs : s < l[i].st) : askE l c s = (zRV, 16) := by
  unfold askE
  rw [h]
  simp only [List.getElem?_eq_getElem hi, Option.map_some, Option.getD_some]
  rw [if_pos hs]
theorem askE_missing {l : List EN} {c s i : Nat} (h : fnd l c = some i) (hi : i < l.length) (hs : l[i].st < s) : askE l c s = (zRV, 7) := by
  unfold askE
  rw [h]
  simp only [List.getElem?_eq_getElem hi, Option.map_some, Option.getD_some]
  rw [if_neg (by omega), if_pos hs]
theorem askE_ok {l : List EN} {c s i : Nat} (h : fnd l c = some i) (hi : i < l.length) (hs : l[i].st = s) : askE l c s = (l[i].r, 0) := by
  unfold askE
  rw [h]
  simp only [List.getElem?_eq_getElem hi, Option.map_some, Option.getD_some]
  rw [if_neg (by omega), if_neg (by omega)]
def AskIs (w : World) (a : RV × Int) (x : Ending) (w' : World) : Prop := ∃ (q : Int) (ao : Option Addr) (n cap : Nat) (cs : List CA) (m : Bool), x = .returned (.tuple #[resV q ao n cap m, .int .i64 a.2]) ∧ CL w' ao n cap cs ∧ a.1 = resR q cs m ∧ Below w.heap.size w w'
theorem RW.set3 {w W : World} {N : Nat} {e : Int} {a : Option Addr} {x y : Nat} {m : Bool} (K : RW W N e (.slice a x y) m) (B : Below N w W) (q : Int) (ao : Option Addr) (n cap : Nat) (cs : List CA) (m' : Bool) (L : CL W ao n cap cs) :
    RW (((W.setCell ⟨N, 0, none⟩ (.int .i64 q)).setCell ⟨N, 1, none⟩ (.slice ao n cap)).setCell ⟨N, 2, none⟩ (.bool m')) N q (.slice ao n cap) m' ∧ CL (((W.setCell ⟨N, 0, none⟩ (.int .i64 q)).setCell ⟨N, 1, none⟩ (.slice ao n cap)).setCell ⟨N, 2, none⟩ (.bool m')) ao n cap cs ∧ Below N w (((W.setCell ⟨N, 0, none⟩ (.int .i64 q)).setCell ⟨N, 1, none⟩ (.slice ao n cap)).setCell ⟨N, 2, none⟩ (.bool m')) :=
  ⟨heap_setCell_same _ _ 2 _ _ _ (heap_setCell_same _ _ 1 _ _ _ (heap_setCell_same _ _ 0 _ _ _ K)), CL.setR K L, ((B.setCell (p := ⟨N, 0, none⟩) (Nat.le_refl _) _).setCell (p := ⟨N, 1, none⟩) (Nat.le_refl _) _).setCell (p := ⟨N, 2, none⟩) (Nat.le_refl _) _⟩
set_option maxRecDepth 100000 in
set_option maxHeartbeats 4000000 in
theorem cAsk_any (w : World) (p g c s : Nat) (l : List EN) (h : TS w p g l) :
    Calls Tryd.prog 14 #[.pointer (some ⟨p, 0, none⟩), .int .u64 c, .int .u64 s] w (AskIs w (askE l c s)) := by
  have B0 : Below w.heap.size w (w.alloc (.cells #[.int .i64 0, .slice none 0 0, .bool false] 37)) := (Below.refl _ w).alloc (Nat.le_refl _) _
  have K0 : RW (w.alloc (.cells #[.int .i64 0, .slice none 0 0, .bool false] 37)) w.heap.size 0 (.slice none 0 0) false := heap_alloc_new w _
  have T1 := h.below B0
  have CF := find_any _ p g c l T1
  go_enter Tryd.func14, Tryd.ntmps14
  go_wp2_with fail
  obtain ⟨w1, hw1⟩ : ∃ W, W = w.alloc (.cells #[.int .i64 0, .slice none 0 0, .bool false] 37) := ⟨_, rfl⟩
  obtain ⟨N, hN⟩ : ∃ N, N = w.heap.size := ⟨_, rfl⟩
  rw [← hw1] at B0 K0 T1 CF ⊢
  rw [← hN] at K0 B0 ⊢
  have HN : Hid (N = w.heap.size) := hN
  clear hw1 hN
  refine CF.mono ?_
  rintro x w2 ⟨r, rfl, hr, C2⟩
  have T2 := T1.below C2
  have K2 : RW w2 N 0 (.slice none 0 0) false := K0.kept (C2.block _ K0.lt)
  have B2 := B0.trans (C2.mono (by have := B0.size; have := HN.out; omega))
  clear CF T1 K0 C2 B0
  obtain ⟨X1, X2, X3⟩ := K2.set3 B2 0 none 0 0 [] false (CL.nothing w2)
  have HX : Hid (∀ k, askE l c s = (zRV, k) → AskIs w (askE l c s) (.returned (.tuple #[.agg #[.int .i64 0, .slice none 0 0, .bool false], .int .i64 k])) (((w2.setCell ⟨N, 0, none⟩ (.int .i64 0)).setCell ⟨N, 1, none⟩ (.slice none 0 0)).setCell ⟨N, 2, none⟩ (.bool false))) := fun k hk => by
    rw [hk]
    exact ⟨0, none, 0, 0, [], false, rfl, X2, rfl, by rw [← HN.out]; exact X3⟩
  have n0 := X1.c0
  have n1 := X1.c1
  have n2 := X1.c2
  clear X1 X2 X3
  have r0 := K2.c0
  have r1 := K2.c1
  have r2 := K2.c2
  have f0 := K2.fz 0
  have f1 := K2.fz 1
  have f2 := K2.fz 2
  rcases hr with ⟨rfl, hf⟩ | ⟨k, rfl, hf⟩
  · have HV : Hid (askE l c s = (zRV, 15)) := askE_none hf
    clear hf
    go_wp2
    refine bodyPost_ret (v := .tuple #[.agg #[.int .i64 0, .slice none 0 0, .bool false], .int .i64 15]) (by simp [results, Tryd.results14, go_sem, n0, n1, n2]) rfl ?_
    exact HX.out 15 HV.out
  obtain ⟨hk, hcl⟩ := fnd_some hf
  have HF : Hid (fnd l c = some k) := hf
  obtain ⟨cp, t0, R2, hcp⟩ := T2.tab
  have q0 := R2.cell k hk 0 _ rfl
  have q1 := R2.cell k hk 1 _ rfl
  have q2 := R2.cell k hk 2 _ rfl
  simp only [Nat.add_zero] at q0
  have ki : (k : Int) < (l.length : Int) := by omega
  have k0 : decide ((k : Int) < 0) = false := by simp
  have n8 : (l.length : Int) ≤ 8 := by have := h.n8; omega
  have hok := h.ok _ (List.getElem_mem hk)
  have hst : l[k].st < 18446744073709551616 := hok.st
  clear hf hcl R2
  by_cases hle : s < l[k].st
  · have i1 : (s : Int) < (l[k].st : Int) := by omega
    have HV : Hid (askE l c s = (zRV, 16)) := askE_stale HF.out hk hle
    clear hle
    go_wp2
    refine bodyPost_ret (v := .tuple #[.agg #[.int .i64 0, .slice none 0 0, .bool false], .int .i64 16]) (by simp [results, Tryd.results14, go_sem, n0, n1, n2]) rfl ?_
    exact HX.out 16 HV.out
  have i1 : (l[k].st : Int) ≤ (s : Int) := by omega
  by_cases hgt : l[k].st < s
  · have i2 : (l[k].st : Int) < (s : Int) := by omega
    have HV : Hid (askE l c s = (zRV, 7)) := askE_missing HF.out hk hgt
    clear hle hgt
    go_wp2
    refine bodyPost_ret (v := .tuple #[.agg #[.int .i64 0, .slice none 0 0, .bool false], .int .i64 7]) (by simp [results, Tryd.results14, go_sem, n0, n1, n2]) rfl ?_
    exact HX.out 7 HV.out
  have i2 : (s : Int) ≤ (l[k].st : Int) := by omega
  have HV : Hid (askE l c s = (l[k].r, 0)) := askE_ok HF.out hk (by omega)
  have CR := cresult_any w2 l[k] hok
  clear hle hgt HX n0 n1 n2 r0 r1 r2 f0 f1 f2 hok
  go_wp2_with fail
  refine CR.mono ?_
  rintro x w3 ⟨q, ao, n, cap, cs, m, rfl, L3, hq, C3⟩
  have HQ : Hid (l[k].r = resR q cs m) := hq
  have K3 : RW w3 N 0 (.slice none 0 0) false := K2.kept (C3.block _ K2.lt)
  have B3 := B2.trans (C3.mono (by have := B2.size; have := HN.out; omega))
  clear CR C3 hq K2 B2 q0 q1 q2 t0
  obtain ⟨X1, X2, X3⟩ := K3.set3 B3 q ao n cap cs m L3
  have r0 := K3.c0
  have r1 := K3.c1
  have r2 := K3.c2
  have f0 := K3.fz 0
  have f1 := K3.fz 1
  have f2 := K3.fz 2
  have n0 := X1.c0
  have n1 := X1.c1
  have n2 := X1.c2
  clear X1 K3 L3 B3
  unfold resV
  go_wp2
  refine bodyPost_ret (v := .tuple #[.agg #[.int .i64 q, .slice ao n cap, .bool m], .int .i64 0]) (by simp [results, Tryd.results14, go_sem, n0, n1, n2]) rfl ?_
  rw [HV.out]
  exact ⟨q, ao, n, cap, cs, m, rfl, X2, HQ.out, by rw [← HN.out]; exact X3⟩
open Go.RowKit
def jdg (ns : List Nat) : Int := if 1 ≤ ns.length ∧ ns.length ≤ 8 ∧ riseF 0 ns = true then 0 else 1
set_option maxHeartbeats 1000000 in
theorem judge_any (w : World) (ao : Option Addr) (n cap : Nat) (ns : List Nat) (h : NL w ao n cap ns) :
    Calls Tryd.prog 28 #[.slice ao n cap] w fun e w' => e = .returned (.int .i64 (jdg ns)) ∧ w' = w := by
  have hl := h.len
  by_cases h0 : n = 0
  · have hv : Hid (jdg ns = 1) := by
      show _ = _
      unfold jdg
      rw [if_neg (by omega)]
    subst h0
    go_enter Tryd.func28, Tryd.ntmps28
    go_wp2
    go_ret
    exact ⟨by rw [hv.out] <;> rfl, rfl⟩
  have e0 : ((n : Int) == 0) = false := by simp; omega
  by_cases h1 : 8 < n
  · have hv : Hid (jdg ns = 1) := by
      show _ = _
      unfold jdg
      rw [if_neg (by omega)]
    have e1 : (8 : Int) < (n : Int) := by omega
    go_enter Tryd.func28, Tryd.ntmps28
    go_wp2
    go_ret
    exact ⟨by rw [hv.out] <;> rfl, rfl⟩
  have e1 : decide ((8 : Int) < (n : Int)) = false := by simp; omega
  have HV : Hid (jdg ns = if riseF 0 ns = true then 0 else 1) := by
    show _ = _
    unfold jdg
    by_cases q : riseF 0 ns = true
    · rw [if_pos ⟨by omega, by omega, q⟩, if_pos q]
    · rw [if_neg (fun z => q z.2.2), if_neg q]
  have hn8 : (n : Int) ≤ 8 := by omega
  go_enter Tryd.func28, Tryd.ntmps28
  go_wp2
  go_loopw [3, 16] (fun v i wr => ∃ (k l : Nat), k ≤ n ∧ v = .int .u64 l ∧ i = .int .i64 k ∧ w = wr ∧ Hid (riseF 0 ns = riseF l (ns.drop k)) ∧ l < 18446744073709551616) (fun _ i _ => n - (intOf i).toNat)
  case atStart => exact ⟨0, 0, Nat.zero_le _, rfl, rfl, rfl, rfl, by omega⟩
  case round =>
    obtain ⟨k, l, hk, rfl, rfl, rfl, HR, hl64⟩ := hrel
    by_cases hlt : k < n
    · have hki : (k : Int) < (n : Int) := by omega
      have hkl : k < ns.length := by omega
      obtain ⟨b, off, rfl, hc⟩ := h.at (by omega)
      have c1 := hc k hlt
      have hx64 := h.rng ns[k] (List.getElem_mem hkl)
      have HD : Hid (ns.drop k = ns[k] :: ns.drop (k + 1)) := List.drop_eq_getElem_cons hkl
      have e5 : ns.getD k 0 = ns[k] := by simp [List.getD, hkl]
      rw [e5] at c1
      obtain ⟨x, hx⟩ : ∃ x, x = ns[k] := ⟨_, rfl⟩
      rw [← hx] at c1 HD hx64
      clear hx e5 hc
      by_cases hle : x ≤ l
      · have hlei : (x : Int) ≤ (l : Int) := by omega
        go_wp2
        go_ret
        refine ⟨?_, rfl⟩
        have : riseF 0 ns = false := by
          rw [HR.out, HD.out]
          simp [riseF]
          omega
        rw [HV.out, this]
        rfl
      · have hlei : decide ((x : Int) ≤ (l : Int)) = false := by simp; omega
        go_wp2
        go_roundw
        case rel =>
          refine ⟨k + 1, x, by omega, rfl, by go_num, trivial, ?_, hx64⟩
          show _ = _
          rw [HR.out, HD.out]
          simp [riseF]
          omega
        case measure => simp [intOf]; omega
    · have hge : decide ((k : Int) < (n : Int)) = false := by simp; omega
      go_wp2
      go_ret
      refine ⟨?_, rfl⟩
      have : riseF 0 ns = true := by
        rw [HR.out, List.drop_of_length_le (by omega)]
        rfl
      rw [HV.out, this]
      rfl
theorem noAnswer_any (w : World) : Calls Tryd.prog 29 #[] w fun e w' => e = .returned (.string (strOfNums (putR zRV))) ∧ Below w.heap.size w w' := by
  have CR := presult_any w 0 none 0 0 [] false (CL.nothing w)
  have er : Hid (rightR (resR 0 [] false) = true) := show rightR (resR 0 [] false) = true by decide
  go_enter Tryd.func29, Tryd.ntmps29
  go_wp2_with fail
  refine CR.mono ?_
  rintro e w' ⟨⟨bo, k, c, rfl, S⟩, C⟩
  rw [if_pos er.out] at S
  have cv := conv_str S
  clear CR S
  go_wp2
  go_ret
  exact ⟨rfl, C⟩
theorem cNew_bad (w : World) (ao : Option Addr) (n cap : Nat) (ns : List Nat) (h : NL w ao n cap ns) (hj : jdg ns = 1) :
    Calls Tryd.prog 9 #[.slice ao n cap] w fun e w' => e = .returned (.tuple #[.pointer none, .int .i64 1]) ∧ w' = w := by
  have CJ := judge_any w ao n cap ns h
  rw [hj] at CJ
  go_enter Tryd.func9, Tryd.ntmps9
  go_wp2_with fail
  refine CJ.mono ?_
  rintro e w' ⟨rfl, hw⟩
  obtain rfl := hw.symm
  clear hw CJ
  go_wp2
  go_ret2
  exact ⟨rfl, rfl⟩
def newT (ns : List Nat) : List EN := ns.map fun c => ⟨c, 0, zRV⟩
set_option maxRecDepth 100000 in
set_option maxHeartbeats 4000000 in
theorem cNew_good (w : World) (ao : Option Addr) (n cap : Nat) (ns : List Nat) (h : NL w ao n cap ns) (hj : jdg ns = 0) :
    Calls Tryd.prog 9 #[.slice ao n cap] w fun e w' => ∃ p g, e = .returned (.tuple #[.pointer (some ⟨p, 0, none⟩), .int .i64 0]) ∧ TS w' p g (newT ns) ∧ w.heap.size ≤ p ∧ w.heap.size ≤ g ∧ Below w.heap.size w w' := by
  have CJ := judge_any w ao n cap ns h
  have hl := h.len
  have hb : 1 ≤ ns.length ∧ ns.length ≤ 8 := by
    unfold jdg at hj
    by_cases q : 1 ≤ ns.length ∧ ns.length ≤ 8 ∧ riseF 0 ns = true
    · exact ⟨q.1, q.2.1⟩
    · rw [if_neg q] at hj
      cases hj
  rw [hj] at CJ
  have B0 : Below w.heap.size w (w.alloc (.cells #[.slice none 0 0] 63)) := (Below.refl _ w).alloc (Nat.le_refl _) _
  have N0 : NewI (w.alloc (.cells #[.slice none 0 0] 63)) w.heap.size (.slice none 0 0) (newT (ns.take 0)) := ⟨heap_alloc_new w _, World.ownsRow_nil _ _ _ _, fun _ h => by simp [newT] at h⟩
  go_enter Tryd.func9, Tryd.ntmps9
  go_wp2_with fail
  refine CJ.mono ?_
  rintro e w' ⟨rfl, hw⟩
  obtain rfl := hw.symm
  clear hw CJ
  go_wp2_with fail
  obtain ⟨w1, hw1⟩ : ∃ W, W = w.alloc (.cells #[.slice none 0 0] 63) := ⟨_, rfl⟩
  obtain ⟨p, hp⟩ : ∃ p, p = w.heap.size := ⟨_, rfl⟩
  rw [← hw1] at B0 N0 ⊢
  rw [← hp] at N0 B0 ⊢
  have hpw : w.heap.size ≤ p := Nat.le_of_eq hp.symm
  have HP : Hid (p = w.heap.size) := hp
  clear hw1 hp
  go_loopw [17] (fun i wr => ∃ (k : Nat) (v : Value), k ≤ n ∧ i = .int .i64 k ∧ NewI wr p v (newT (ns.take k)) ∧ Below p w wr) (fun i _ => n - (intOf i).toNat)
  case atStart => exact ⟨0, _, Nat.zero_le _, rfl, N0, B0⟩
  case round =>
    clear N0 B0
    obtain ⟨k, v, hk, rfl, N, B⟩ := hrel
    by_cases hlt : k < n
    · have hki : (k : Int) < (n : Int) := by omega
      have hkl : k < ns.length := by omega
      obtain ⟨b, off, rfl, hc⟩ := (h.below (B.mono (Nat.le_of_eq HP.out.symm))).at (by omega)
      have c1 := hc k hlt
      have e3 : ns.getD k 0 = ns[k] := by simp [List.getD, hkl]
      rw [e3] at c1
      have hx64 := h.rng ns[k] (List.getElem_mem hkl)
      have HT : Hid (newT (ns.take (k + 1)) = newT (ns.take k) ++ [⟨ns[k], 0, zRV⟩]) := by
        show _ = _
        unfold newT
        rw [List.take_add_one, List.getElem?_eq_getElem hkl, List.map_append]
        rfl
      have hlk : (newT (ns.take k)).length ≤ 8 := by simp [newT]; omega
      obtain ⟨x, hx⟩ : ∃ x, x = ns[k] := ⟨_, rfl⟩
      rw [← hx] at c1 hx64 HT
      clear hx hc e3
      obtain ⟨ao, an, ac, rfl⟩ := N.slice
      obtain ⟨v, hv⟩ : ∃ v, v = Value.slice ao an ac := ⟨_, rfl⟩
      rw [← hv] at N
      go_wp2_with fail
      have E0 : Below wr.heap.size wr wr.drew := (Below.refl _ _).drew
      refine wp_region_noPanic ?_
      refine wp_region_held_drew (S := fun _ => True) (by kernel_rfl) trivial (fun _ => ?_)
      obtain ⟨v0, hv0⟩ : ∃ v, v = wr.drew := ⟨_, rfl⟩
      rw [← hv0] at E0 ⊢
      clear hv0
      refine hr_take_w 0 (some 21) (.pointer (some ⟨p, 0, none⟩)) rfl rfl (by kernel_rfl) (by kernel_rfl) (by kernel_rfl) rfl (fun W hW => by go_simp) trivial ?_
      simp only [FL]
      refine hr_take_w 1 (some 22) (.pointer (some ⟨p, 0, none⟩)) rfl rfl (by kernel_rfl) (by kernel_rfl) (by kernel_rfl) rfl (fun W hW => by go_simp) trivial ?_
      simp only [FL]
      refine hr_take_w 2 (some 23) (.pointer (some ⟨p, 0, none⟩)) rfl rfl (by kernel_rfl) (by kernel_rfl) (by kernel_rfl) rfl (fun W hW => by go_simp) trivial ?_
      simp only [FL]
      refine hr_take_w 3 (some 24) (.pointer (some ⟨p, 0, none⟩)) rfl rfl (by kernel_rfl) (by kernel_rfl) (by kernel_rfl) rfl (fun W hW => by go_simp) trivial ?_
      simp only [FL]
      refine hr_take_w 5 (some 26) (.int .u64 x) rfl rfl (by kernel_rfl) (by kernel_rfl) (by kernel_rfl) rfl (fun W hW => by go_simp) trivial ?_
      simp only [FL]
      refine wpAnyH_effto 4 (fun zi zv zw => (zi = 4 → zv = v) ∧ (zi = 6 → zv = .string (EN.an ⟨x, 0, zRV⟩)) ∧ (zi = 7 → zv = .agg #[.int .u64 x, .int .u64 0, .string (EN.an ⟨x, 0, zRV⟩)]) ∧ (zi = 8 → ∃ g1, zv = .slice (some ⟨g1, 0, none⟩) 1 1 ∧ zw.heap[g1]? = some (.cells #[.int .u64 x, .int .u64 0, .string (EN.an ⟨x, 0, zRV⟩)] 66))) [(4, 25), (6, 27), (7, 28), (8, 29)] 35 (by kernel_rfl) (by decide) (by decide) rfl ?_ (fun _ _ => trivial) ?_ ?_
      · intro zi v w w' h hb
        refine ⟨fun e => ?_, fun e => ?_, fun e => ?_, fun e => ?_⟩
        · have h := h.1 e
          exact h
        · have h := h.2.1 e
          exact h
        · have h := h.2.2.1 e
          exact h
        · have h := h.2.2.2 e
          obtain ⟨g1, h1, h2⟩ := h
          exact ⟨g1, h1, (hb.block g1 (Array.getElem?_eq_some_iff.1 h2).1).trans h2⟩
      · intro zp zhi o a w ho hs hb hdep
        have EB := E0.trans (hb.mono E0.size)
        simp only [List.mem_cons, List.not_mem_nil, or_false] at zhi
        rcases zhi with rfl | rfl | rfl | rfl
        · obtain rfl : _ = o := Option.some.inj (show some _ = some o from ho)
          have t24 : a.tmps[24]? = some (.pointer (some ⟨p, 0, none⟩)) := hs.get 24 (by kernel_rfl) rfl
          have lc := cell_of_row w p 0 _ _ _ (N.below EB).tab
          exact .inl ⟨v, w, by go_simp, ⟨fun _ => rfl, fun e => absurd e (by decide), fun e => absurd e (by decide), fun e => absurd e (by decide)⟩, Below.refl _ _⟩
        · obtain rfl : _ = o := Option.some.inj (show some _ = some o from ho)
          refine .inr ⟨29, #[], by go_simp, (noAnswer_any w).mono ?_⟩
          rintro e w' ⟨rfl, C⟩
          exact ⟨_, rfl, ⟨fun e => absurd e (by decide), fun _ => rfl, fun e => absurd e (by decide), fun e => absurd e (by decide)⟩, C⟩
        · obtain rfl : _ = o := Option.some.inj (show some _ = some o from ho)
          have t26 : a.tmps[26]? = some (.int .u64 x) := hs.get 26 (by kernel_rfl) rfl
          obtain ⟨x27, t27, f27⟩ := (hdep 6 (by kernel_rfl)).at 27 (by kernel_rfl)
          replace f27 := f27.2.1 rfl
          subst f27
          exact .inl ⟨_, w, by go_simp, ⟨fun e => absurd e (by decide), fun e => absurd e (by decide), fun _ => rfl, fun e => absurd e (by decide)⟩, Below.refl _ _⟩
        · obtain rfl : _ = o := Option.some.inj (show some _ = some o from ho)
          obtain ⟨x28, t28, f28⟩ := (hdep 7 (by kernel_rfl)).at 28 (by kernel_rfl)
          replace f28 := f28.2.2.1 rfl
          subst f28
          exact .inl ⟨_, _, by go_simp, ⟨fun e => absurd e (by decide), fun e => absurd e (by decide), fun e => absurd e (by decide), fun _ => ⟨_, rfl, heap_alloc_new w _⟩⟩, (Below.refl _ _).alloc (Nat.le_refl _) _⟩
      intro zf v1 hb hh
      have E1 := E0.trans (hb.mono E0.size)
      obtain e4 := (hh (4, 25) (by simp)).1 rfl
      obtain e6 := (hh (6, 27) (by simp)).2.1 rfl
      obtain e7 := (hh (7, 28) (by simp)).2.2.1 rfl
      obtain ⟨g1, e8, G1⟩ := (hh (8, 29) (by simp)).2.2.2 rfl
      clear hh hb
      simp only [putL, List.foldl_cons, List.foldl_nil, e4, e6, e7, e8]
      clear e4 e6 e7 e8
      simp only [FL]
      have N1 := N.below E1
      obtain ⟨v', W1, ha, T1, N2, B2, -, -, ao2, n2, c2, rfl⟩ := N1.app 61 (cp := 1) (e := ⟨x, 0, zRV⟩) G1 (zRV_ok x hx64) (by omega)
      refine hr_ex 9 (some 30) rfl rfl (by kernel_rfl) rfl (R := fun v w' => (.slice ao2 n2 c2) = v ∧ W1 = w') ⟨_, W1, by simp [execOp, Act.eval, resolve, invoke, builtin, ha], rfl, rfl⟩ ?_
      rintro v w' ⟨rfl, rfl⟩
      refine ⟨trivial, ?_⟩
      simp only [FL]
      refine hr_take_w 10 (some 31) (.pointer (some ⟨p, 0, none⟩)) rfl rfl (by kernel_rfl) (by kernel_rfl) (by kernel_rfl) rfl (fun W hW => by go_simp) trivial ?_
      simp only [FL]
      refine hr_take_w 11 (some 32) (.pointer (some ⟨p, 0, none⟩)) rfl rfl (by kernel_rfl) (by kernel_rfl) (by kernel_rfl) rfl (fun W hW => by go_simp) trivial ?_
      simp only [FL]
      have lc := cell_of_row W1 p 0 _ _ _ T1
      have lf := frozen_of_row W1 p 0 _ _ T1
      refine hr_skip 12 none (w' := W1.setCell ⟨p, 0, none⟩ (.slice ao2 n2 c2)) rfl rfl (by kernel_rfl) rfl (by go_simp) trivial ?_
      simp only [Act.put]
      refine wpAnyH_done (by kernel_rfl) ?_ _
      refine NoPanic.normal ?_
      clear lc lf ha T1 N1 G1
      have B3 := B.trans ((E1.mono (Nat.le_of_lt N.plt)).trans B2)
      obtain ⟨W2, hW2⟩ : ∃ W2, W2 = W1.setCell ⟨p, 0, none⟩ (.slice ao2 n2 c2) := ⟨_, rfl⟩
      rw [← hW2] at N2 B3 ⊢
      clear hW2 B2 E1 N B
      go_wp2
      go_roundw
      case rel =>
        refine ⟨k + 1, .slice ao2 n2 c2, by omega, by go_num, ?_, B3⟩
        rw [HT.out]
        exact N2
      case measure => simp [intOf]; omega
    · have hge : decide ((k : Int) < (n : Int)) = false := by simp; omega
      have N9 : NewI wr p v (newT ns) := by rw [List.take_of_length_le (by omega)] at N; exact N
      obtain ⟨g, T, hg⟩ := N9.done (by simp [newT]; omega) (by simp [newT]; omega)
      clear N N9
      go_wp2
      go_ret2
      exact ⟨p, g, rfl, T, by omega, by omega, by rw [← HP.out]; exact B⟩
open Go.RowKit
theorem belowG {a b c : World} {g : Nat} (h : Below a.heap.size a b) (k : b.grownBy c (some g)) (hg : a.heap.size ≤ g) : Below a.heap.size a c := h.grown k h.size (fun _ e => by cases e; exact hg)
def r7 : RV := ⟨7, [], false⟩
theorem putE_a : putE (newT [1]) 1 5 r7 = ([⟨1, 5, r7⟩], 0) := by rfl
theorem askE_a5 : askE [⟨1, 5, r7⟩] 1 5 = (r7, 0) := by rfl
theorem askE_a4 : askE [⟨1, 5, r7⟩] 1 4 = (zRV, 16) := by rfl
theorem askE_a6 : askE [⟨1, 5, r7⟩] 1 6 = (zRV, 7) := by rfl
set_option maxRecDepth 100000 in
set_option maxHeartbeats 4000000 in
theorem alive12 (w : World) : Calls Tryd.prog 8 #[] w fun e w' => e = .returned (.bool true) ∧ Below w.heap.size w w' := by
  have B0 : Below w.heap.size w (w.alloc (.cells #[.int .u64 1] 34)) := (Below.refl _ w).alloc (Nat.le_refl _) _
  have N0 : NL (w.alloc (.cells #[.int .u64 1] 34)) (some ⟨w.heap.size, 0, none⟩) 1 1 [1] := NL.new w [1] 34 (by decide) (by decide)
  have CN := cNew_good _ _ _ _ _ N0 (by decide)
  go_enter Tryd.func8, Tryd.ntmps8
  go_wp2_with fail
  refine CN.mono ?_
  rintro x w1 ⟨p, g, rfl, T1, hp, hg, C1⟩
  have B1 := B0.trans (C1.mono B0.size)
  have hg1 : w.heap.size ≤ g := Nat.le_trans B0.size hg
  clear CN N0 B0 C1 hp hg
  have CP := cPut_any w1 p g 1 5 _ T1 (by decide) (by decide) 7 none 0 0 [] false (CL.nothing _)
  go_wp2_with fail
  refine CP.mono ?_
  rintro x w2 ⟨rfl, T2, G2⟩
  have e2 : putE (newT [1]) 1 5 (resR 7 [] false) = ([⟨1, 5, r7⟩], 0) := putE_a
  rw [e2] at T2
  rw [e2]
  have B2 := belowG B1 G2 hg1
  clear CP T1 G2 B1 e2 hg1
  simp only at T2
  have C5 := cAsk_any w2 p g 1 5 _ T2
  rw [askE_a5] at C5
  go_wp2_with fail
  refine C5.mono ?_
  rintro x w3 ⟨q, ao, n, cap, cs, m, rfl, -, hq, D3⟩
  have hq7 : q = 7 := by
    have := congrArg RV.e hq
    simpa [r7, resR] using this.symm
  subst hq7
  have T3 := T2.below D3
  have B3 := B2.trans (D3.mono B2.size)
  clear C5 T2 B2 D3 hq
  have A3 : Below w3.heap.size w3 (w3.alloc (.cells #[.int .i64 7, .slice ao n cap, .bool m] 37)) := (Below.refl _ _).alloc (Nat.le_refl _) _
  have K3 : RW (w3.alloc (.cells #[.int .i64 7, .slice ao n cap, .bool m] 37)) w3.heap.size 7 (.slice ao n cap) m := heap_alloc_new _ _
  have C4 := cAsk_any _ p g 1 4 _ (T3.below A3)
  rw [askE_a4] at C4
  have T4 := T3.below A3
  have B4 := B3.trans (A3.mono B3.size)
  unfold resV
  go_wp2_with fail
  obtain ⟨w4, hw4⟩ : ∃ W, W = w3.alloc (.cells #[.int .i64 7, .slice ao n cap, .bool m] 37) := ⟨_, rfl⟩
  obtain ⟨M, hM⟩ : ∃ M, M = w3.heap.size := ⟨_, rfl⟩
  rw [← hw4] at K3 C4 T4 B4 ⊢
  rw [← hM] at K3 ⊢
  clear hw4 hM A3 T3 B3
  refine C4.mono ?_
  rintro x w5 ⟨q5, ao5, n5, cap5, cs5, m5, rfl, -, -, D5⟩
  have T5 := T4.below D5
  have B5 := B4.trans (D5.mono B4.size)
  have K5 : RW w5 M 7 (.slice ao n cap) m := K3.kept (D5.block _ K3.lt)
  clear C4 T4 B4 D5 K3
  have A5 : Below w5.heap.size w5 (w5.alloc (.cells #[.int .i64 q5, .slice ao5 n5 cap5, .bool m5] 37)) := (Below.refl _ _).alloc (Nat.le_refl _) _
  have K6 : RW (w5.alloc (.cells #[.int .i64 q5, .slice ao5 n5 cap5, .bool m5] 37)) M 7 (.slice ao n cap) m := K5.kept (A5.block _ K5.lt)
  have C6 := cAsk_any _ p g 1 6 _ (T5.below A5)
  rw [askE_a6] at C6
  have B6 := B5.trans (A5.mono B5.size)
  unfold resV
  go_wp2_with fail
  obtain ⟨w6, hw6⟩ : ∃ W, W = w5.alloc (.cells #[.int .i64 q5, .slice ao5 n5 cap5, .bool m5] 37) := ⟨_, rfl⟩
  obtain ⟨M2, hM2⟩ : ∃ M, M = w5.heap.size := ⟨_, rfl⟩
  rw [← hw6] at K6 C6 B6 ⊢
  rw [← hM2]
  clear hw6 hM2 A5 T5 B5 K5
  refine C6.mono ?_
  rintro x w7 ⟨q7, ao7, n7, cap7, cs7, m7, rfl, -, -, D7⟩
  have B7 := B6.trans (D7.mono B6.size)
  have K7 : RW w7 M 7 (.slice ao n cap) m := K6.kept (D7.block _ K6.lt)
  clear C6 B6 D7 K6
  have hlt := K7.lt
  have A7 : Below w7.heap.size w7 (w7.alloc (.cells #[.int .i64 q7, .slice ao7 n7 cap7, .bool m7] 37)) := (Below.refl _ _).alloc (Nat.le_refl _) _
  have r0 := K7.c0
  have B8 : Hid (Below w.heap.size w (w7.alloc (.cells #[.int .i64 q7, .slice ao7 n7 cap7, .bool m7] 37))) := B7.trans (A7.mono B7.size)
  clear K7 A7 B7
  unfold resV
  go_wp2
  go_ret
  exact ⟨rfl, B8.out⟩
end Go.Proofs.YtoagkffokfbpfaaDoor

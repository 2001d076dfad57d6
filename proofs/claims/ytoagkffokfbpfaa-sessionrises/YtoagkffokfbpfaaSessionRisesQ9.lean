/-
  Texts in one: SeAsk, SeMath2, SeOpen.
-/
import Derived.Test.YtoagkffokfbpfaaSessionRisesQ3
import Derived.Test.YtoagkffokfbpfaaSessionRisesQ8
import Derived.Test.YtoagkffokfbpfaaSessionRisesQ0
namespace Go.Proofs.Ytoagkffokfbpfaa
open Go.RowKit
def ResIs (w : World) (r : RV) (x : Ending) (w' : World) : Prop := ∃ (q : Int) (ao : Option Addr) (n cap : Nat) (cs : List CA) (m : Bool), x = .returned (resV q ao n cap m) ∧ CL w' ao n cap cs ∧ r = resR q cs m ∧ Below w.heap.size w w' ∧ ∀ z, (sblk ao n z ∨ ∃ c ∈ cs, c.va.blk z) → w.heap.size ≤ z
theorem row3_get {w : World} {N i : Nat} {x y z u : Value} {t : TypeId} (h : w.heap[N]? = some (.cells #[x, y, z] t)) (hc : w.cell? ⟨N, i, none⟩ = some u) : u = x ∨ u = y ∨ u = z := by
  rw [cell_of_row w N i _ _ _ h] at hc
  match i, hc with
  | 0, hc => exact .inl (by simpa using hc.symm)
  | 1, hc => exact .inr (.inl (by simpa using hc.symm))
  | 2, hc => exact .inr (.inr (by simpa using hc.symm))
  | i + 3, hc => simp at hc
theorem CL.offR {w : World} {N : Nat} {e : Int} {a : Option Addr} {x y : Nat} {m : Bool} (K : RW w N e (.slice a x y) m) {ao : Option Addr} {n cap : Nat} {cs : List CA} (L : CL w ao n cap cs) : ∀ z, (sblk ao n z ∨ ∃ c ∈ cs, c.va.blk z) → z ≠ N := by
  rintro z (⟨b, rfl, hn, rfl⟩ | ⟨c, hc, b, hb, hn, rfl⟩) rfl
  · have hl := L.len
    have h0 := L.cell b rfl 0 (by omega) 0 _ rfl
    obtain ⟨bb, off, spot⟩ := b
    have hs : spot = none := by simpa [Addr.add] using World.cell?_spot h0
    subst hs
    rw [Addr.add_lit] at h0
    rcases row3_get K h0 with h | h | h <;> cases h
  · have S := (L.ok c hc).va
    have h0 := S.cell b hb 0 hn
    obtain ⟨bb, off, spot⟩ := b
    have hs : spot = none := by simpa [Addr.add] using World.cell?_spot h0
    subst hs
    rw [Addr.add_lit] at h0
    rcases row3_get K h0 with h | h | h <;> cases h
theorem CL.setR {w : World} {N : Nat} {e e' : Int} {a : Option Addr} {x y : Nat} {m m' : Bool} {u : Value} (K : RW w N e (.slice a x y) m) {ao : Option Addr} {n cap : Nat} {cs : List CA} (L : CL w ao n cap cs) : CL (((w.setCell ⟨N, 0, none⟩ (.int .i64 e')).setCell ⟨N, 1, none⟩ u).setCell ⟨N, 2, none⟩ (.bool m')) ao n cap cs :=
  L.kept fun z hz => (((same_set _ N 2 _).2 z (L.offR K z hz)).trans ((same_set _ N 1 _).2 z (L.offR K z hz))).trans ((same_set _ N 0 _).2 z (L.offR K z hz))
set_option maxRecDepth 100000 in
set_option maxHeartbeats 4000000 in
theorem cresult_any (w : World) (e : EN) (he : e.ok) :
    Calls Try.prog 32 #[.agg #[.int .u64 e.cl, .int .u64 e.st, .string e.an]] w (ResIs w e.r) := by
  have hsz : e.an.size ≤ 65536 := by
    have := he.len
    rw [← sb_len, he.sb]
    exact this
  have B0 : Below w.heap.size w ((w.alloc (.cells #[.int .u64 e.cl, .int .u64 e.st, .string e.an] 60)).alloc (.cells #[.int .i64 0, .slice none 0 0, .bool false] 42)) := ((Below.refl _ w).alloc (Nat.le_refl _) _).alloc (by simp) _
  have K0 : RW ((w.alloc (.cells #[.int .u64 e.cl, .int .u64 e.st, .string e.an] 60)).alloc (.cells #[.int .i64 0, .slice none 0 0, .bool false] 42)) (w.heap.size + 1) 0 (.slice none 0 0) false := by
    have := heap_alloc_new (w.alloc (.cells #[.int .u64 e.cl, .int .u64 e.st, .string e.an] 60)) (.cells #[.int .i64 0, .slice none 0 0, .bool false] 42)
    unfold RW
    simpa using this
  have HSB : Hid (sb e.an = putR e.r) := he.sb
  have HRD : Hid (rdR (putR e.r) = .inr e.r) := he.rd
  obtain ⟨a, ha⟩ : ∃ a, a = e.an := ⟨_, rfl⟩
  rw [← ha] at hsz B0 K0 HSB ⊢
  clear ha he
  go_enter Try.func32, Try.ntmps32
  go_wp2_with (refine wpList_conv_bytes rfl (.tmp 7) rfl a rfl (by omega) ?_; intro g1 c1 w1 hg1 S1 B1; clear hg1)
  have B2 := B0.trans (B1.mono B0.size)
  have K2 : RW w1 (w.heap.size + 1) 0 (.slice none 0 0) false := K0.kept (B1.block _ K0.lt)
  clear B0 B1 K0
  rw [HSB.out] at S1
  have CR := prdr_far w1 _ _ _ _ S1 (by omega)
  refine CR.mono ?_
  rintro x w3 h3
  obtain ⟨q, ao, n, cap, cs, m, rfl, L3, hq, hfr⟩ := h3.good _ HRD.out
  have HFR : Hid (∀ z, (sblk ao n z ∨ ∃ c ∈ cs, c.va.blk z) → w.heap.size ≤ z) := fun z hz => Nat.le_trans B2.size (hfr z hz)
  have C3 := h3.bel
  have B3 := B2.trans (C3.mono B2.size)
  have K3 : RW w3 (w.heap.size + 1) 0 (.slice none 0 0) false := K2.kept (C3.block _ K2.lt)
  have HQ : Hid (e.r = resR q cs m) := hq
  clear CR h3 C3 K2 B2 hq S1 hfr
  have r0 := K3.c0
  have r1 := K3.c1
  have r2 := K3.c2
  have f0 := K3.fz 0
  have f1 := K3.fz 1
  have f2 := K3.fz 2
  have hlt := K3.lt
  have K5 : RW (((w3.setCell ⟨w.heap.size + 1, 0, none⟩ (.int .i64 q)).setCell ⟨w.heap.size + 1, 1, none⟩ (.slice ao n cap)).setCell ⟨w.heap.size + 1, 2, none⟩ (.bool m)) (w.heap.size + 1) q (.slice ao n cap) m := heap_setCell_same _ _ 2 _ _ _ (heap_setCell_same _ _ 1 _ _ _ (heap_setCell_same _ _ 0 _ _ _ K3))
  have L5 : CL (((w3.setCell ⟨w.heap.size + 1, 0, none⟩ (.int .i64 q)).setCell ⟨w.heap.size + 1, 1, none⟩ (.slice ao n cap)).setCell ⟨w.heap.size + 1, 2, none⟩ (.bool m)) ao n cap cs := CL.setR K3 L3
  have C5 : Below (((w3.setCell ⟨w.heap.size + 1, 0, none⟩ (.int .i64 q)).setCell ⟨w.heap.size + 1, 1, none⟩ (.slice ao n cap)).setCell ⟨w.heap.size + 1, 2, none⟩ (.bool m)).heap.size (((w3.setCell ⟨w.heap.size + 1, 0, none⟩ (.int .i64 q)).setCell ⟨w.heap.size + 1, 1, none⟩ (.slice ao n cap)).setCell ⟨w.heap.size + 1, 2, none⟩ (.bool m)) ((((w3.setCell ⟨w.heap.size + 1, 0, none⟩ (.int .i64 q)).setCell ⟨w.heap.size + 1, 1, none⟩ (.slice ao n cap)).setCell ⟨w.heap.size + 1, 2, none⟩ (.bool m)).alloc (.cells #[.int .i64 q, .slice ao n cap, .bool m] 42)) := (Below.refl _ _).alloc (Nat.le_refl _) _
  have L6 := L5.below C5
  have K6 : RW ((((w3.setCell ⟨w.heap.size + 1, 0, none⟩ (.int .i64 q)).setCell ⟨w.heap.size + 1, 1, none⟩ (.slice ao n cap)).setCell ⟨w.heap.size + 1, 2, none⟩ (.bool m)).alloc (.cells #[.int .i64 q, .slice ao n cap, .bool m] 42)) (w.heap.size + 1) q (.slice ao n cap) m := K5.kept (C5.block _ K5.lt)
  have B5 : Below w.heap.size w (((w3.setCell ⟨w.heap.size + 1, 0, none⟩ (.int .i64 q)).setCell ⟨w.heap.size + 1, 1, none⟩ (.slice ao n cap)).setCell ⟨w.heap.size + 1, 2, none⟩ (.bool m)) := ((B3.setCell (p := ⟨w.heap.size + 1, 0, none⟩) (Nat.le_succ _) _).setCell (p := ⟨w.heap.size + 1, 1, none⟩) (Nat.le_succ _) _).setCell (p := ⟨w.heap.size + 1, 2, none⟩) (Nat.le_succ _) _
  have B6 := B5.trans (C5.mono B5.size)
  have n0 := K6.c0
  have n1 := K6.c1
  have n2 := K6.c2
  have HF : Hid (CL ((((w3.setCell ⟨w.heap.size + 1, 0, none⟩ (.int .i64 q)).setCell ⟨w.heap.size + 1, 1, none⟩ (.slice ao n cap)).setCell ⟨w.heap.size + 1, 2, none⟩ (.bool m)).alloc (.cells #[.int .i64 q, .slice ao n cap, .bool m] 42)) ao n cap cs ∧ Below w.heap.size w ((((w3.setCell ⟨w.heap.size + 1, 0, none⟩ (.int .i64 q)).setCell ⟨w.heap.size + 1, 1, none⟩ (.slice ao n cap)).setCell ⟨w.heap.size + 1, 2, none⟩ (.bool m)).alloc (.cells #[.int .i64 q, .slice ao n cap, .bool m] 42))) := ⟨L6, B6⟩
  clear C5 K5 L3 B3 K3 L5 L6 B5 B6 K6
  unfold resV
  go_wp2
  refine bodyPost_ret (v := .agg #[.int .i64 q, .slice ao n cap, .bool m]) (by simp [results, Try.results32, go_sem, n0, n1, n2]) rfl ?_
  exact ⟨q, ao, n, cap, cs, m, rfl, HF.out.1, HQ.out, HF.out.2, HFR.out⟩
def askE (l : List EN) (c s : Nat) : RV × Int :=
  match fnd l c with
  | none => (zRV, 15)
  | some i => if s < (l[i]?.map EN.st).getD 0 then (zRV, 16) else if (l[i]?.map EN.st).getD 0 < s then (zRV, 7) else ((l[i]?.map EN.r).getD zRV, 0)
theorem askE_none {l : List EN} {c s : Nat} (h : fnd l c = none) : askE l c s = (zRV, 15) := by unfold askE; rw [h]
theorem askE_stale {l : List EN} {c s i : Nat} (h : fnd l c = some i) (hi : i < l.length) (hs : s < l[i].st) : askE l c s = (zRV, 16) := by
  unfold askE
  rw [h]
  simp only [List.getElem?_eq_getElem hi, Option.map_some, Option.getD_some]
  rw [if_pos hs]
theorem askE_missing {l : List EN} {c s i : Nat} (h : fnd l c = some i) (hi : i < l.length) (hs : l[i].st < s) : askE l c s = (zRV, 7) := by
  unfold askE
  rw [h]
  simp only [List.getElem?_eq_getElem hi, Option.map_some, Option.getD_some]
  rw [if_neg (by omega), if_pos hs]
theorem askE_ok {l : List EN} {c s i : Nat} (h : fnd l c = some i) (hi : i < l.length) (hs : l[i].st = s) : askE l c s = (l[i].r, 0) := by
  unfold askE
  rw [h]
  simp only [List.getElem?_eq_getElem hi, Option.map_some, Option.getD_some]
  rw [if_neg (by omega), if_neg (by omega)]
def AskIs (w : World) (a : RV × Int) (x : Ending) (w' : World) : Prop := ∃ (q : Int) (ao : Option Addr) (n cap : Nat) (cs : List CA) (m : Bool), x = .returned (.tuple #[resV q ao n cap m, .int .i64 a.2]) ∧ CL w' ao n cap cs ∧ a.1 = resR q cs m ∧ Below w.heap.size w w'
theorem RW.set3 {w W : World} {N : Nat} {e : Int} {a : Option Addr} {x y : Nat} {m : Bool} (K : RW W N e (.slice a x y) m) (B : Below N w W) (q : Int) (ao : Option Addr) (n cap : Nat) (cs : List CA) (m' : Bool) (L : CL W ao n cap cs) :
    RW (((W.setCell ⟨N, 0, none⟩ (.int .i64 q)).setCell ⟨N, 1, none⟩ (.slice ao n cap)).setCell ⟨N, 2, none⟩ (.bool m')) N q (.slice ao n cap) m' ∧ CL (((W.setCell ⟨N, 0, none⟩ (.int .i64 q)).setCell ⟨N, 1, none⟩ (.slice ao n cap)).setCell ⟨N, 2, none⟩ (.bool m')) ao n cap cs ∧ Below N w (((W.setCell ⟨N, 0, none⟩ (.int .i64 q)).setCell ⟨N, 1, none⟩ (.slice ao n cap)).setCell ⟨N, 2, none⟩ (.bool m')) :=
  ⟨heap_setCell_same _ _ 2 _ _ _ (heap_setCell_same _ _ 1 _ _ _ (heap_setCell_same _ _ 0 _ _ _ K)), CL.setR K L, ((B.setCell (p := ⟨N, 0, none⟩) (Nat.le_refl _) _).setCell (p := ⟨N, 1, none⟩) (Nat.le_refl _) _).setCell (p := ⟨N, 2, none⟩) (Nat.le_refl _) _⟩
set_option maxRecDepth 100000 in
set_option maxHeartbeats 4000000 in
theorem cAsk_any (w : World) (p g c s : Nat) (l : List EN) (h : TS w p g l) :
    Calls Try.prog 15 #[.pointer (some ⟨p, 0, none⟩), .int .u64 c, .int .u64 s] w (AskIs w (askE l c s)) := by
  have B0 : Below w.heap.size w (w.alloc (.cells #[.int .i64 0, .slice none 0 0, .bool false] 42)) := (Below.refl _ w).alloc (Nat.le_refl _) _
  have K0 : RW (w.alloc (.cells #[.int .i64 0, .slice none 0 0, .bool false] 42)) w.heap.size 0 (.slice none 0 0) false := heap_alloc_new w _
  have T1 := h.below B0
  have CF := find_any _ p g c l T1
  go_enter Try.func15, Try.ntmps15
  go_wp2_with fail
  obtain ⟨w1, hw1⟩ : ∃ W, W = w.alloc (.cells #[.int .i64 0, .slice none 0 0, .bool false] 42) := ⟨_, rfl⟩
  obtain ⟨N, hN⟩ : ∃ N, N = w.heap.size := ⟨_, rfl⟩
  rw [← hw1] at B0 K0 T1 CF ⊢
  rw [← hN] at K0 B0 ⊢
  have HN : Hid (N = w.heap.size) := hN
  clear hw1 hN
  refine CF.mono ?_
  rintro x w2 ⟨r, rfl, hr, C2⟩
  have T2 := T1.below C2
  have K2 : RW w2 N 0 (.slice none 0 0) false := K0.kept (C2.block _ K0.lt)
  have B2 := B0.trans (C2.mono (by have := B0.size; have := HN.out; omega))
  clear CF T1 K0 C2 B0
  obtain ⟨X1, X2, X3⟩ := K2.set3 B2 0 none 0 0 [] false (CL.nothing w2)
  have HX : Hid (∀ k, askE l c s = (zRV, k) → AskIs w (askE l c s) (.returned (.tuple #[.agg #[.int .i64 0, .slice none 0 0, .bool false], .int .i64 k])) (((w2.setCell ⟨N, 0, none⟩ (.int .i64 0)).setCell ⟨N, 1, none⟩ (.slice none 0 0)).setCell ⟨N, 2, none⟩ (.bool false))) := fun k hk => by
    rw [hk]
    exact ⟨0, none, 0, 0, [], false, rfl, X2, rfl, by rw [← HN.out]; exact X3⟩
  have n0 := X1.c0
  have n1 := X1.c1
  have n2 := X1.c2
  clear X1 X2 X3
  have r0 := K2.c0
  have r1 := K2.c1
  have r2 := K2.c2
  have f0 := K2.fz 0
  have f1 := K2.fz 1
  have f2 := K2.fz 2
  rcases hr with ⟨rfl, hf⟩ | ⟨k, rfl, hf⟩
  · have HV : Hid (askE l c s = (zRV, 15)) := askE_none hf
    clear hf
    go_wp2
    refine bodyPost_ret (v := .tuple #[.agg #[.int .i64 0, .slice none 0 0, .bool false], .int .i64 15]) (by simp [results, Try.results15, go_sem, n0, n1, n2]) rfl ?_
    exact HX.out 15 HV.out
  obtain ⟨hk, hcl⟩ := fnd_some hf
  have HF : Hid (fnd l c = some k) := hf
  obtain ⟨cp, t0, R2, hcp⟩ := T2.tab
  have q0 := R2.cell k hk 0 _ rfl
  have q1 := R2.cell k hk 1 _ rfl
  have q2 := R2.cell k hk 2 _ rfl
  simp only [Nat.add_zero] at q0
  have ki : (k : Int) < (l.length : Int) := by omega
  have k0 : decide ((k : Int) < 0) = false := by simp
  have n8 : (l.length : Int) ≤ 8 := by have := h.n8; omega
  have hok := h.ok _ (List.getElem_mem hk)
  have hst : l[k].st < 18446744073709551616 := hok.st
  clear hf hcl R2
  by_cases hle : s < l[k].st
  · have i1 : (s : Int) < (l[k].st : Int) := by omega
    have HV : Hid (askE l c s = (zRV, 16)) := askE_stale HF.out hk hle
    clear hle
    go_wp2
    refine bodyPost_ret (v := .tuple #[.agg #[.int .i64 0, .slice none 0 0, .bool false], .int .i64 16]) (by simp [results, Try.results15, go_sem, n0, n1, n2]) rfl ?_
    exact HX.out 16 HV.out
  have i1 : (l[k].st : Int) ≤ (s : Int) := by omega
  by_cases hgt : l[k].st < s
  · have i2 : (l[k].st : Int) < (s : Int) := by omega
    have HV : Hid (askE l c s = (zRV, 7)) := askE_missing HF.out hk hgt
    clear hle hgt
    go_wp2
    refine bodyPost_ret (v := .tuple #[.agg #[.int .i64 0, .slice none 0 0, .bool false], .int .i64 7]) (by simp [results, Try.results15, go_sem, n0, n1, n2]) rfl ?_
    exact HX.out 7 HV.out
  have i2 : (s : Int) ≤ (l[k].st : Int) := by omega
  have HV : Hid (askE l c s = (l[k].r, 0)) := askE_ok HF.out hk (by omega)
  have CR := cresult_any w2 l[k] hok
  clear hle hgt HX n0 n1 n2 r0 r1 r2 f0 f1 f2 hok
  go_wp2_with fail
  refine CR.mono ?_
  rintro x w3 ⟨q, ao, n, cap, cs, m, rfl, L3, hq, C3, -⟩
  have HQ : Hid (l[k].r = resR q cs m) := hq
  have K3 : RW w3 N 0 (.slice none 0 0) false := K2.kept (C3.block _ K2.lt)
  have B3 := B2.trans (C3.mono (by have := B2.size; have := HN.out; omega))
  clear CR C3 hq K2 B2 q0 q1 q2 t0
  obtain ⟨X1, X2, X3⟩ := K3.set3 B3 q ao n cap cs m L3
  have r0 := K3.c0
  have r1 := K3.c1
  have r2 := K3.c2
  have f0 := K3.fz 0
  have f1 := K3.fz 1
  have f2 := K3.fz 2
  have n0 := X1.c0
  have n1 := X1.c1
  have n2 := X1.c2
  clear X1 K3 L3 B3
  unfold resV
  go_wp2
  refine bodyPost_ret (v := .tuple #[.agg #[.int .i64 q, .slice ao n cap, .bool m], .int .i64 0]) (by simp [results, Try.results15, go_sem, n0, n1, n2]) rfl ?_
  rw [HV.out]
  exact ⟨q, ao, n, cap, cs, m, rfl, X2, HQ.out, by rw [← HN.out]; exact X3⟩
open Go.RowKit
theorem putE_cases (l : List EN) (c s : Nat) (r : RV) : (∃ k : Int, k ≠ 0 ∧ putE l c s r = (l, k)) ∨ ∃ (i : Nat) (hi : i < l.length), fnd l c = some i ∧ l[i].cl = c ∧ l[i].st < s ∧ rightR r = true ∧ putE l c s r = (l.set i ⟨c, s, r⟩, 0) := by
  cases hf : fnd l c with
  | none => exact .inl ⟨15, by decide, putE_none hf⟩
  | some i =>
    obtain ⟨hi, hc⟩ := fnd_some hf
    by_cases hs : s ≤ l[i].st
    · exact .inl ⟨16, by decide, putE_stale hf hi hs⟩
    · cases hr : rightR r with
      | false => exact .inl ⟨1, by decide, putE_bad hf hi (by omega) hr⟩
      | true => exact .inr ⟨i, hi, rfl, hc, by omega, rfl, putE_ok hf hi (by omega) hr⟩
structure PutK (l l' : List EN) (c s : Nat) (r : RV) (k : Int) : Prop where
  len : l'.length = l.length
  ge : ∀ j (h : j < l.length) (h' : j < l'.length), l[j].st ≤ l'[j].st
  st : ∀ j (h : j < l.length) (h' : j < l'.length), l'[j].cl ≠ c → l'[j].st = l[j].st
  bad : k ≠ 0 → l' = l
  ask : k = 0 → askE l' c s = (r, 0) ∧ rightR r = true
theorem putE_K (l : List EN) (c s : Nat) (r : RV) : PutK l (putE l c s r).1 c s r (putE l c s r).2 := by
  rcases putE_cases l c s r with ⟨k, hk, e⟩ | ⟨i, hi, hf, hc, hs, hr, e⟩
  · rw [e]
    exact ⟨rfl, fun _ _ _ => Nat.le_refl _, fun _ _ _ _ => rfl, fun _ => rfl, fun h => absurd h hk⟩
  · rw [e]
    refine ⟨by simp, fun j h h' => ?_, fun j h h' hne => ?_, fun h => absurd rfl h, fun _ => ⟨?_, hr⟩⟩
    · simp only [List.getElem_set]
      by_cases q : i = j
      · subst q
        rw [if_pos rfl]
        simp only
        omega
      · rw [if_neg q]
        omega
    · simp only [List.getElem_set] at hne ⊢
      by_cases q : i = j
      · subst q
        rw [if_pos rfl] at hne
        exact absurd rfl hne
      · rw [if_neg q]
    · have hf2 : fnd (l.set i ⟨c, s, r⟩) c = some i := by
        refine List.findIdx?_eq_some_iff_getElem.2 ⟨by simpa using hi, by simp, fun j hj => ?_⟩
        obtain ⟨_, _, h3⟩ := List.findIdx?_eq_some_iff_getElem.1 hf
        have := h3 j hj
        rw [List.getElem_set_ne (by omega)]
        exact this
      have hl : i < (l.set i ⟨c, s, r⟩).length := by simpa using hi
      rw [askE_ok hf2 hl (by simp)]
      simp
open Go.RowKit Go.ChangeShapes Go.WideShapes
structure ResTypes (P : Program) where
  key : TypeId
  str : TypeId
  u64 : TypeId
  bys : TypeId
  u8 : TypeId
  bool : TypeId
  cel : TypeId
  cels : TypeId
  knd : TypeId
  res : TypeId
  g0 : Field
  g1 : Field
  g2 : Field
  g3 : Field
  f0 : Field
  f1 : Field
  f2 : Field
  r0 : Field
  r1 : Field
  r2 : Field
  hkey : P.underlying key = some (.struct #[g0, g1, g2, g3])
  hstr : P.underlying str = some .string
  hu64 : P.underlying u64 = some (.int .u64)
  hbys : P.underlying bys = some (.slice u8)
  hu8 : P.underlying u8 = some (.int .u8)
  hbool : P.underlying bool = some .bool
  hcel : P.underlying cel = some (.struct #[f0, f1, f2])
  hcels : P.underlying cels = some (.slice cel)
  hknd : P.underlying knd = some (.int .i64)
  hres : P.underlying res = some (.struct #[r0, r1, r2])
  ckey : P.cellsOf key = 4
  cstr : P.cellsOf str = 1
  cu64 : P.cellsOf u64 = 1
  cbys : P.cellsOf bys = 1
  cu8 : P.cellsOf u8 = 1
  bu8 : P.bytesOf u8 = 1
  cbool : P.cellsOf bool = 1
  ccel : P.cellsOf cel = 6
  ccels : P.cellsOf cels = 1
  cknd : P.cellsOf knd = 1
  cres : P.cellsOf res = 3
  p0 : g0.type = str ∧ g0.offset = 0
  p1 : g1.type = str ∧ g1.offset = 1
  p2 : g2.type = str ∧ g2.offset = 2
  p3 : g3.type = u64 ∧ g3.offset = 3
  o0 : f0.type = key ∧ f0.offset = 0
  o1 : f1.type = bys ∧ f1.offset = 4
  o2 : f2.type = bool ∧ f2.offset = 5
  q0 : r0.type = knd ∧ r0.offset = 0
  q1 : r1.type = cels ∧ r1.offset = 1
  q2 : r2.type = bool ∧ r2.offset = 2
variable {H : Type} {enc : TypeId × Value → H} {P : Program} {w : World} {base : Nat} {spare : Nat → Bool} {held : Bool}
set_option maxHeartbeats 1000000 in
theorem open_cellS (T : ResTypes P) {fuel : Nat} {cs : List Value} {x : DataW H × List MemPlace} (h : DataW.trod enc P w base spare held fuel T.cel cs = some x) : ∃ c : CA, cs = c.cells ∧ c.ok w ∧ (Wt P x.1 T.cel → c.small) := by
  obtain ⟨xs, k, _, hx, hl, hlen, hf⟩ := DataW.trod_struct T.hcel h
  rw [T.ccel] at hl
  obtain ⟨c0, c1, c2, c3, c4, c5, rfl⟩ : ∃ c0 c1 c2 c3 c4 c5, cs = [c0, c1, c2, c3, c4, c5] := by
    match cs, hl with
    | [c0, c1, c2, c3, c4, c5], _ => exact ⟨_, _, _, _, _, _, rfl⟩
  obtain ⟨x0, x1, x2, rfl⟩ : ∃ x0 x1 x2, xs = [x0, x1, x2] := by
    match xs, hlen with
    | [x0, x1, x2], _ => exact ⟨_, _, _, rfl⟩
  have e0 := hf 0 T.f0 rfl
  have e1 := hf 1 T.f1 rfl
  have e2 := hf 2 T.f2 rfl
  rw [T.o0.1, T.o0.2, T.ckey] at e0
  rw [T.o1.1, T.o1.2, T.cbys] at e1
  rw [T.o2.1, T.o2.2, T.cbool] at e2
  simp only [List.drop_succ_cons, List.drop_zero, List.take_succ_cons, List.take_zero, List.getElem?_cons_zero, List.getElem?_cons_succ] at e0 e1 e2
  obtain ⟨ys, k2, _, hx2, _, hlen2, hf2⟩ := DataW.trod_struct T.hkey e0
  obtain ⟨y0, y1, y2, y3, rfl⟩ : ∃ y0 y1 y2 y3, ys = [y0, y1, y2, y3] := by
    match ys, hlen2 with
    | [y0, y1, y2, y3], _ => exact ⟨_, _, _, _, rfl⟩
  have d0 := hf2 0 T.g0 rfl
  have d1 := hf2 1 T.g1 rfl
  have d2 := hf2 2 T.g2 rfl
  have d3 := hf2 3 T.g3 rfl
  rw [T.p0.1, T.p0.2, T.cstr] at d0
  rw [T.p1.1, T.p1.2, T.cstr] at d1
  rw [T.p2.1, T.p2.2, T.cstr] at d2
  rw [T.p3.1, T.p3.2, T.cu64] at d3
  simp only [List.drop_succ_cons, List.drop_zero, List.take_succ_cons, List.take_zero, List.getElem?_cons_zero, List.getElem?_cons_succ] at d0 d1 d2 d3
  obtain ⟨rw_, q1, r1, w1⟩ := DataW.trod_string T.hstr d0
  obtain rfl : c0 = .string rw_ := by simpa using q1
  obtain ⟨fm, q2, r2, w2⟩ := DataW.trod_string T.hstr d1
  obtain rfl : c1 = .string fm := by simpa using q2
  obtain ⟨ql, q3, r3, w3⟩ := DataW.trod_string T.hstr d2
  obtain rfl : c2 = .string ql := by simpa using q3
  obtain ⟨tm, q4, _, w4⟩ := DataW.trod_int T.hu64 d3
  obtain rfl : c3 = .int .u64 tm := by simpa using q4
  obtain ⟨va, q6, s6, sv⟩ := Sl.of_ints T.hbys T.hu8 T.cu8 T.bu8 e1
  obtain ⟨gn, q8, _⟩ := DataW.trod_bool T.hbool e2
  obtain rfl : c5 = .bool gn := by simpa using q8
  have gt : 0 ≤ tm ∧ tm < 18446744073709551616 := by
    simp [Lit.wf, IntKind.min, IntKind.max, IntKind.signed, IntKind.bits] at w4
    omega
  have ez : ((tm.toNat : Nat) : Int) = tm := Int.toNat_of_nonneg gt.1
  subst q6
  refine ⟨⟨rw_, fm, ql, tm.toNat, va, gn⟩, ?_, ⟨w1, w2, w3, by show tm.toNat < _; omega, s6⟩, fun hwt => ?_⟩
  · simp [CA.cells, ez]
  · rw [hx] at hwt
    have hk := hwt.field T.hcel 0 (u := T.key) (by simp [T.o0.1]) rfl
    rw [hx2] at hk
    have g0 := hk.field T.hkey 0 (u := T.str) (by simp [T.p0.1]) rfl
    have g1 := hk.field T.hkey 1 (u := T.str) (by simp [T.p1.1]) rfl
    have g2 := hk.field T.hkey 2 (u := T.str) (by simp [T.p2.1]) rfl
    rw [r1] at g0
    rw [r2] at g1
    rw [r3] at g2
    exact ⟨g0.text, g1.text, g2.text, sv (hwt.field T.hcel 1 (u := T.bys) (by simp [T.o1.1]) rfl)⟩
theorem open_cellsS (T : ResTypes P) {fuel : Nat} {v : Value} {x : DataW H × List MemPlace} (h : DataW.trod enc P w base spare held fuel T.cels [v] = some x) : ∃ ao n cap l, v = .slice ao n cap ∧ CL w ao n cap l ∧ (Wt P x.1 T.cels → ∀ c ∈ l, c.small) := by
  rcases Deep.open_slice T.hcels h with ⟨hcs, _⟩ | ⟨a, l, c, m, n, D, Pl, hcs, _, hl, hm, hmm, hy0, hx⟩
  · exact ⟨none, 0, 0, [], by simpa using hcs, CL.nothing w, fun _ _ h => by simp at h⟩
  · have hlm : l ≤ m := by rw [hmm]; split <;> omega
    obtain ⟨z, hz1, hz2⟩ := gather_list (p := fun i y => ((∀ j v, (CA.cells y)[j]? = some v → w.cell? (a.add (i * 6 + j)) = some v) ∧ CA.ok y w) ∧ (Wt P (D i) T.cel → CA.small y)) l (fun i hi => by
      obtain ⟨cs', h1, h2⟩ := hx i (by omega)
      rw [T.ccel] at h1
      obtain ⟨_, hlen, hcell⟩ := World.cells?_some h1
      obtain ⟨y, e1, w1, sm1⟩ := open_cellS T h2
      refine ⟨y, ⟨fun j v hv => ?_, w1⟩, sm1⟩
      rw [← e1] at hv
      have hj : j < cs'.length := (List.getElem?_eq_some_iff.1 hv).1
      have := hcell j (by omega)
      rw [Deep.add_add, hv] at this
      exact this)
    refine ⟨some a, l, c, z, by simpa using hcs, ⟨hz1, hl, hm, fun h => by simp at h, fun b hb i hi => ?_, fun y hy => ?_⟩, fun hwt y hy => ?_⟩
    · obtain rfl := Option.some.inj hb
      exact (hz2 i hi).1.1
    · obtain ⟨i, hi, rfl⟩ := List.getElem_of_mem hy
      exact (hz2 i hi).1.2
    · obtain ⟨i, hi, rfl⟩ := List.getElem_of_mem hy
      refine (hz2 i hi).2 fun n hn2 => hwt n ?_
      rw [hy0]
      simp only [DataW.weights, T.hcels]
      refine List.mem_cons_of_mem _ (List.mem_append_left _ (weights_mem_all (j := i) ?_ n hn2))
      rw [List.getElem?_map, List.getElem?_range (by omega)]
      rfl
theorem open_resS (T : ResTypes P) {fuel : Nat} {l : List Value} {x : DataW H × List MemPlace} (h : DataW.trod enc P w base spare held fuel T.res l = some x) :
    ∃ (e : Int) (ao : Option Addr) (n cap : Nat) (cs : List CA) (m : Bool), l = [.int .i64 e, .slice ao n cap, .bool m] ∧ CL w ao n cap cs ∧ (Wt P x.1 T.res → ∀ c ∈ cs, c.small) := by
  obtain ⟨xs, k, _, hx, hl, hlen, hfl⟩ := DataW.trod_struct T.hres h
  rw [T.cres] at hl
  obtain ⟨x0, x1, x2, rfl⟩ : ∃ x0 x1 x2, xs = [x0, x1, x2] := by
    match xs, hlen with
    | [x0, x1, x2], _ => exact ⟨_, _, _, rfl⟩
  have e0 := hfl 0 T.r0 rfl
  have e1 := hfl 1 T.r1 rfl
  have e2 := hfl 2 T.r2 rfl
  rw [T.q0.1, T.q0.2, T.cknd] at e0
  rw [T.q1.1, T.q1.2, T.ccels] at e1
  rw [T.q2.1, T.q2.2, T.cbool] at e2
  obtain ⟨a, b, c, rfl⟩ : ∃ a b c, l = [a, b, c] := by
    match l, hl with
    | [a, b, c], _ => exact ⟨_, _, _, rfl⟩
  simp only [List.drop_succ_cons, List.drop_zero, List.take_succ_cons, List.take_zero, List.getElem?_cons_zero, List.getElem?_cons_succ] at e0 e1 e2
  obtain ⟨z0, q0, _, w0⟩ := DataW.trod_int T.hknd e0
  obtain rfl : a = .int .i64 z0 := by simpa using q0
  obtain ⟨ao, n, cap, cl, rfl, hcl, sm⟩ := open_cellsS T e1
  obtain ⟨m, q2, _⟩ := DataW.trod_bool T.hbool e2
  obtain rfl : c = .bool m := by simpa using q2
  refine ⟨z0, ao, n, cap, cl, m, rfl, hcl, fun hwt => ?_⟩
  rw [hx] at hwt
  exact sm (hwt.field T.hres 1 (u := T.cels) (by simp [T.q1.1]) rfl)
structure LA where
  cl : Nat
  st : Nat
  e : Int
  ao : Option Addr
  n : Nat
  cap : Nat
  cs : List CA
  m : Bool
def LA.cells (y : LA) : List Value := [.int .u64 y.cl, .int .u64 y.st, .int .i64 y.e, .slice y.ao y.n y.cap, .bool y.m]
structure LA.ok (y : LA) (w : World) : Prop where
  cl : y.cl < 18446744073709551616
  st : y.st < 18446744073709551616
  cs : CL w y.ao y.n y.cap y.cs
def LA.small (y : LA) : Prop := ∀ c ∈ y.cs, c.small
theorem LA.ok.below {y : LA} {w w' : World} (h : y.ok w) (hb : Below w.heap.size w w') : y.ok w' := ⟨h.cl, h.st, h.cs.below hb⟩
structure LL12 (w : World) (ao : Option Addr) (n cap : Nat) (l : List LA) : Prop where
  len : l.length = n
  le : n ≤ cap
  mx : cap ≤ maxLen
  nil : ao = none → n = 0 ∧ cap = 0
  cell : ∀ a, ao = some a → ∀ i (h : i < l.length), ∀ j v, l[i].cells[j]? = some v → w.cell? (a.add (i * 5 + j)) = some v
  ok : ∀ y ∈ l, y.ok w
theorem LL12.nothing (w : World) : LL12 w none 0 0 [] := ⟨rfl, Nat.le_refl _, Nat.zero_le _, fun _ => ⟨rfl, rfl⟩, fun _ h => by simp at h, fun _ h => by simp at h⟩
theorem LL12.below {w w' : World} {ao : Option Addr} {n cap : Nat} {l : List LA} (h : LL12 w ao n cap l) (hb : Below w.heap.size w w') : LL12 w' ao n cap l :=
  ⟨h.len, h.le, h.mx, h.nil, fun a ha i hi j v hv => (hb.cell (World.block_lt_of_cell? w _ (h.cell a ha i hi j v hv))).trans (h.cell a ha i hi j v hv), fun y hy => (h.ok y hy).below hb⟩
structure LastTypes (P : Program) (T : ResTypes P) where
  last : TypeId
  lasts : TypeId
  f0 : Field
  f1 : Field
  f2 : Field
  hlast : P.underlying last = some (.struct #[f0, f1, f2])
  hlasts : P.underlying lasts = some (.slice last)
  clast : P.cellsOf last = 5
  o0 : f0.type = T.u64 ∧ f0.offset = 0
  o1 : f1.type = T.u64 ∧ f1.offset = 1
  o2 : f2.type = T.res ∧ f2.offset = 2
theorem open_last (T : ResTypes P) (M : LastTypes P T) {fuel : Nat} {l : List Value} {x : DataW H × List MemPlace} (h : DataW.trod enc P w base spare held fuel M.last l = some x) : ∃ y : LA, l = y.cells ∧ y.ok w ∧ (Wt P x.1 M.last → y.small) := by
  obtain ⟨xs, k, _, hx, hl, hlen, hfl⟩ := DataW.trod_struct M.hlast h
  rw [M.clast] at hl
  obtain ⟨x0, x1, x2, rfl⟩ : ∃ x0 x1 x2, xs = [x0, x1, x2] := by
    match xs, hlen with
    | [x0, x1, x2], _ => exact ⟨_, _, _, rfl⟩
  have e0 := hfl 0 M.f0 rfl
  have e1 := hfl 1 M.f1 rfl
  have e2 := hfl 2 M.f2 rfl
  rw [M.o0.1, M.o0.2, T.cu64] at e0
  rw [M.o1.1, M.o1.2, T.cu64] at e1
  rw [M.o2.1, M.o2.2, T.cres] at e2
  obtain ⟨a, b, c, d, e, rfl⟩ : ∃ a b c d e, l = [a, b, c, d, e] := by
    match l, hl with
    | [a, b, c, d, e], _ => exact ⟨_, _, _, _, _, rfl⟩
  simp only [List.drop_succ_cons, List.drop_zero, List.take_succ_cons, List.take_zero, List.getElem?_cons_zero, List.getElem?_cons_succ] at e0 e1 e2
  obtain ⟨z0, q0, _, w0⟩ := DataW.trod_int T.hu64 e0
  obtain ⟨z1, q1, _, w1⟩ := DataW.trod_int T.hu64 e1
  obtain rfl : a = .int .u64 z0 := by simpa using q0
  obtain rfl : b = .int .u64 z1 := by simpa using q1
  obtain ⟨k, ao, n, cap, cl, m, e3, L, sm⟩ := open_resS T e2
  simp only [List.cons.injEq, and_true] at e3
  obtain ⟨rfl, rfl, rfl⟩ := e3
  have g0 : 0 ≤ z0 ∧ z0 < 18446744073709551616 := by
    simp [Lit.wf, IntKind.min, IntKind.max, IntKind.signed, IntKind.bits] at w0
    omega
  have g1 : 0 ≤ z1 ∧ z1 < 18446744073709551616 := by
    simp [Lit.wf, IntKind.min, IntKind.max, IntKind.signed, IntKind.bits] at w1
    omega
  have n0 : ((z0.toNat : Nat) : Int) = z0 := Int.toNat_of_nonneg g0.1
  have n1 : ((z1.toNat : Nat) : Int) = z1 := Int.toNat_of_nonneg g1.1
  refine ⟨⟨z0.toNat, z1.toNat, k, ao, n, cap, cl, m⟩, ?_, ⟨by show z0.toNat < _; omega, by show z1.toNat < _; omega, L⟩, fun hwt => ?_⟩
  · simp [LA.cells, n0, n1]
  · rw [hx] at hwt
    exact sm (hwt.field M.hlast 2 (u := T.res) (by simp [M.o2.1]) rfl)
theorem open_lasts (T : ResTypes P) (M : LastTypes P T) {fuel : Nat} {v : Value} {x : DataW H × List MemPlace} (h : DataW.trod enc P w base spare held fuel M.lasts [v] = some x) : ∃ ao n cap l, v = .slice ao n cap ∧ LL12 w ao n cap l ∧ (Wt P x.1 M.lasts → ∀ y ∈ l, y.small) := by
  rcases Deep.open_slice M.hlasts h with ⟨hcs, _⟩ | ⟨a, l, c, m, n, D, Pl, hcs, _, hl, hm, hmm, hy0, hx⟩
  · exact ⟨none, 0, 0, [], by simpa using hcs, LL12.nothing w, fun _ _ h => by simp at h⟩
  · have hlm : l ≤ m := by rw [hmm]; split <;> omega
    obtain ⟨z, hz1, hz2⟩ := gather_list (p := fun i y => ((∀ j v, (LA.cells y)[j]? = some v → w.cell? (a.add (i * 5 + j)) = some v) ∧ LA.ok y w) ∧ (Wt P (D i) M.last → LA.small y)) l (fun i hi => by
      obtain ⟨cs', h1, h2⟩ := hx i (by omega)
      rw [M.clast] at h1
      obtain ⟨_, hlen, hcell⟩ := World.cells?_some h1
      obtain ⟨y, e1, w1, sm1⟩ := open_last T M h2
      refine ⟨y, ⟨fun j v hv => ?_, w1⟩, sm1⟩
      rw [← e1] at hv
      have hj : j < cs'.length := (List.getElem?_eq_some_iff.1 hv).1
      have := hcell j (by omega)
      rw [Deep.add_add, hv] at this
      exact this)
    refine ⟨some a, l, c, z, by simpa using hcs, ⟨hz1, hl, hm, fun h => by simp at h, fun b hb i hi => ?_, fun y hy => ?_⟩, fun hwt y hy => ?_⟩
    · obtain rfl := Option.some.inj hb
      exact (hz2 i hi).1.1
    · obtain ⟨i, hi, rfl⟩ := List.getElem_of_mem hy
      exact (hz2 i hi).1.2
    · obtain ⟨i, hi, rfl⟩ := List.getElem_of_mem hy
      refine (hz2 i hi).2 fun n hn2 => hwt n ?_
      rw [hy0]
      simp only [DataW.weights, M.hlasts]
      refine List.mem_cons_of_mem _ (List.mem_append_left _ (weights_mem_all (j := i) ?_ n hn2))
      rw [List.getElem?_map, List.getElem?_range (by omega)]
      rfl
end Go.Proofs.Ytoagkffokfbpfaa

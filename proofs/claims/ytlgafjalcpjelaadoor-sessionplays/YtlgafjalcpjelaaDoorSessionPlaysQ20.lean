/-
  Texts in one: SeAsk, RRes.
-/
import Derived.Test.YtlgafjalcpjelaaDoorSessionPlaysQ17
import Derived.Test.YtlgafjalcpjelaaDoorSessionPlaysQ19
import Derived.Test.YtlgafjalcpjelaaDoorSessionPlaysQ9
import Derived.Test.YtlgafjalcpjelaaDoorSessionPlaysQ2
namespace Go.Proofs.YtlgafjalcpjelaaDoor
open Go.RowKit
def ResIs (w : World) (r : RV) (x : Ending) (w' : World) : Prop := ∃ (q : Int) (ao : Option Addr) (n cap : Nat) (cs : List CA) (m : Bool), x = .returned (resV q ao n cap m) ∧ CL w' ao n cap cs ∧ r = resR q cs m ∧ Below w.heap.size w w' ∧ ∀ z, (sblk ao n z ∨ ∃ c ∈ cs, c.va.blk z) → w.heap.size ≤ z
theorem row3_get {w : World} {N i : Nat} {x y z u : Value} {t : TypeId} (h : w.heap[N]? = some (.cells #[x, y, z] t)) (hc : w.cell? ⟨N, i, none⟩ = some u) : u = x ∨ u = y ∨ u = z := by
  rw [cell_of_row w N i _ _ _ h] at hc
  match i, hc with
  | 0, hc => exact .inl (by simpa using hc.symm)
  | 1, hc => exact .inr (.inl (by simpa using hc.symm))
  | 2, hc => exact .inr (.inr (by simpa using hc.symm))
  | i + 3, hc => simp at hc
theorem CL.offR {w : World} {N : Nat} {e : Int} {a : Option Addr} {x y : Nat} {m : Bool} (K : RW w N e (.slice a x y) m) {ao : Option Addr} {n cap : Nat} {cs : List CA} (L : CL w ao n cap cs) : ∀ z, (sblk ao n z ∨ ∃ c ∈ cs, c.va.blk z) → z ≠ N := by
  rintro z (⟨b, rfl, hn, rfl⟩ | ⟨c, hc, b, hb, hn, rfl⟩) rfl
  · have hl := L.len
    have h0 := L.cell b rfl 0 (by omega) 0 _ rfl
    obtain ⟨bb, off, spot⟩ := b
    have hs : spot = none := by simpa [Addr.add] using World.cell?_spot h0
    subst hs
    rw [Addr.add_lit] at h0
    rcases row3_get K h0 with h | h | h <;> cases h
  · have S := (L.ok c hc).va
    have h0 := S.cell b hb 0 hn
    obtain ⟨bb, off, spot⟩ := b
    have hs : spot = none := by simpa [Addr.add] using World.cell?_spot h0
    subst hs
    rw [Addr.add_lit] at h0
    rcases row3_get K h0 with h | h | h <;> cases h
theorem CL.setR {w : World} {N : Nat} {e e' : Int} {a : Option Addr} {x y : Nat} {m m' : Bool} {u : Value} (K : RW w N e (.slice a x y) m) {ao : Option Addr} {n cap : Nat} {cs : List CA} (L : CL w ao n cap cs) : CL (((w.setCell ⟨N, 0, none⟩ (.int .i64 e')).setCell ⟨N, 1, none⟩ u).setCell ⟨N, 2, none⟩ (.bool m')) ao n cap cs :=
  L.kept fun z hz => (((same_set _ N 2 _).2 z (L.offR K z hz)).trans ((same_set _ N 1 _).2 z (L.offR K z hz))).trans ((same_set _ N 0 _).2 z (L.offR K z hz))
set_option maxRecDepth 100000 in
set_option maxHeartbeats 4000000 in
theorem cresult_any (w : World) (e : EN) (he : e.ok) :
    Calls Tryd.prog 30 #[.agg #[.int .u64 e.cl, .int .u64 e.st, .string e.an]] w (ResIs w e.r) := by
  have hsz : e.an.size ≤ 65536 := by
    have := he.len
    rw [← sb_len, he.sb]
    exact this
  have B0 : Below w.heap.size w ((w.alloc (.cells #[.int .u64 e.cl, .int .u64 e.st, .string e.an] 61)).alloc (.cells #[.int .i64 0, .slice none 0 0, .bool false] 37)) := ((Below.refl _ w).alloc (Nat.le_refl _) _).alloc (by simp) _
  have K0 : RW ((w.alloc (.cells #[.int .u64 e.cl, .int .u64 e.st, .string e.an] 61)).alloc (.cells #[.int .i64 0, .slice none 0 0, .bool false] 37)) (w.heap.size + 1) 0 (.slice none 0 0) false := by
    have := heap_alloc_new (w.alloc (.cells #[.int .u64 e.cl, .int .u64 e.st, .string e.an] 61)) (.cells #[.int .i64 0, .slice none 0 0, .bool false] 37)
    unfold RW
    simpa using this
  have HSB : Hid (sb e.an = putR e.r) := he.sb
  have HRD : Hid (rdR (putR e.r) = .inr e.r) := he.rd
  obtain ⟨a, ha⟩ : ∃ a, a = e.an := ⟨_, rfl⟩
  rw [← ha] at hsz B0 K0 HSB ⊢
  clear ha he
  go_enter Tryd.func30, Tryd.ntmps30
  go_wp2_with (refine wpList_conv_bytes rfl (.tmp 7) rfl a rfl (by omega) ?_; intro g1 c1 w1 hg1 S1 B1; clear hg1)
  have B2 := B0.trans (B1.mono B0.size)
  have K2 : RW w1 (w.heap.size + 1) 0 (.slice none 0 0) false := K0.kept (B1.block _ K0.lt)
  clear B0 B1 K0
  rw [HSB.out] at S1
  have CR := prdr_far w1 _ _ _ _ S1 (by omega)
  refine CR.mono ?_
  rintro x w3 h3
  obtain ⟨q, ao, n, cap, cs, m, rfl, L3, hq, hfr⟩ := h3.good _ HRD.out
  have HFR : Hid (∀ z, (sblk ao n z ∨ ∃ c ∈ cs, c.va.blk z) → w.heap.size ≤ z) := fun z hz => Nat.le_trans B2.size (hfr z hz)
  have C3 := h3.bel
  have B3 := B2.trans (C3.mono B2.size)
  have K3 : RW w3 (w.heap.size + 1) 0 (.slice none 0 0) false := K2.kept (C3.block _ K2.lt)
  have HQ : Hid (e.r = resR q cs m) := hq
  clear CR h3 C3 K2 B2 hq S1 hfr
  have r0 := K3.c0
  have r1 := K3.c1
  have r2 := K3.c2
  have f0 := K3.fz 0
  have f1 := K3.fz 1
  have f2 := K3.fz 2
  have hlt := K3.lt
  have K5 : RW (((w3.setCell ⟨w.heap.size + 1, 0, none⟩ (.int .i64 q)).setCell ⟨w.heap.size + 1, 1, none⟩ (.slice ao n cap)).setCell ⟨w.heap.size + 1, 2, none⟩ (.bool m)) (w.heap.size + 1) q (.slice ao n cap) m := heap_setCell_same _ _ 2 _ _ _ (heap_setCell_same _ _ 1 _ _ _ (heap_setCell_same _ _ 0 _ _ _ K3))
  have L5 : CL (((w3.setCell ⟨w.heap.size + 1, 0, none⟩ (.int .i64 q)).setCell ⟨w.heap.size + 1, 1, none⟩ (.slice ao n cap)).setCell ⟨w.heap.size + 1, 2, none⟩ (.bool m)) ao n cap cs := CL.setR K3 L3
  have C5 : Below (((w3.setCell ⟨w.heap.size + 1, 0, none⟩ (.int .i64 q)).setCell ⟨w.heap.size + 1, 1, none⟩ (.slice ao n cap)).setCell ⟨w.heap.size + 1, 2, none⟩ (.bool m)).heap.size (((w3.setCell ⟨w.heap.size + 1, 0, none⟩ (.int .i64 q)).setCell ⟨w.heap.size + 1, 1, none⟩ (.slice ao n cap)).setCell ⟨w.heap.size + 1, 2, none⟩ (.bool m)) ((((w3.setCell ⟨w.heap.size + 1, 0, none⟩ (.int .i64 q)).setCell ⟨w.heap.size + 1, 1, none⟩ (.slice ao n cap)).setCell ⟨w.heap.size + 1, 2, none⟩ (.bool m)).alloc (.cells #[.int .i64 q, .slice ao n cap, .bool m] 37)) := (Below.refl _ _).alloc (Nat.le_refl _) _
  have L6 := L5.below C5
  have K6 : RW ((((w3.setCell ⟨w.heap.size + 1, 0, none⟩ (.int .i64 q)).setCell ⟨w.heap.size + 1, 1, none⟩ (.slice ao n cap)).setCell ⟨w.heap.size + 1, 2, none⟩ (.bool m)).alloc (.cells #[.int .i64 q, .slice ao n cap, .bool m] 37)) (w.heap.size + 1) q (.slice ao n cap) m := K5.kept (C5.block _ K5.lt)
  have B5 : Below w.heap.size w (((w3.setCell ⟨w.heap.size + 1, 0, none⟩ (.int .i64 q)).setCell ⟨w.heap.size + 1, 1, none⟩ (.slice ao n cap)).setCell ⟨w.heap.size + 1, 2, none⟩ (.bool m)) := ((B3.setCell (p := ⟨w.heap.size + 1, 0, none⟩) (Nat.le_succ _) _).setCell (p := ⟨w.heap.size + 1, 1, none⟩) (Nat.le_succ _) _).setCell (p := ⟨w.heap.size + 1, 2, none⟩) (Nat.le_succ _) _
  have B6 := B5.trans (C5.mono B5.size)
  have n0 := K6.c0
  have n1 := K6.c1
  have n2 := K6.c2
  have HF : Hid (CL ((((w3.setCell ⟨w.heap.size + 1, 0, none⟩ (.int .i64 q)).setCell ⟨w.heap.size + 1, 1, none⟩ (.slice ao n cap)).setCell ⟨w.heap.size + 1, 2, none⟩ (.bool m)).alloc (.cells #[.int .i64 q, .slice ao n cap, .bool m] 37)) ao n cap cs ∧ Below w.heap.size w ((((w3.setCell ⟨w.heap.size + 1, 0, none⟩ (.int .i64 q)).setCell ⟨w.heap.size + 1, 1, none⟩ (.slice ao n cap)).setCell ⟨w.heap.size + 1, 2, none⟩ (.bool m)).alloc (.cells #[.int .i64 q, .slice ao n cap, .bool m] 37))) := ⟨L6, B6⟩
  clear C5 K5 L3 B3 K3 L5 L6 B5 B6 K6
  unfold resV
  go_wp2
  refine bodyPost_ret (v := .agg #[.int .i64 q, .slice ao n cap, .bool m]) (by simp [results, Tryd.results30, go_sem, n0, n1, n2]) rfl ?_
  exact ⟨q, ao, n, cap, cs, m, rfl, HF.out.1, HQ.out, HF.out.2, HFR.out⟩
def askE (l : List EN) (c s : Nat) : RV × Int :=
  match fnd l c with
  | none => (zRV, 15)
  | some i => if s < (l[i]?.map EN.st).getD 0 then (zRV, 16) else if (l[i]?.map EN.st).getD 0 < s then (zRV, 7) else ((l[i]?.map EN.r).getD zRV, 0)
theorem askE_none {l : List EN} {c s : Nat} (h : fnd l c = none) : askE l c s = (zRV, 15) := by unfold askE; rw [h]
theorem askE_stale {l : List EN} {c s i : Nat} (h : fnd l c = some i) (hi : i < l.length) (hs : s < l[i].st) : askE l c s = (zRV, 16) := by
  unfold askE
  rw [h]
  simp only [List.getElem?_eq_getElem hi, Option.map_some, Option.getD_some]
  rw [if_pos hs]
theorem askE_missing {l : List EN} {c s i : Nat} (h : fnd l c = some i) (hi : i < l.length) (hs : l[i].st < s) : askE l c s = (zRV, 7) := by
  unfold askE
  rw [h]
  simp only [List.getElem?_eq_getElem hi, Option.map_some, Option.getD_some]
  rw [if_neg (by omega), if_pos hs]
theorem askE_ok {l : List EN} {c s i : Nat} (h : fnd l c = some i) (hi : i < l.length) (hs : l[i].st = s) : askE l c s = (l[i].r, 0) := by
  unfold askE
  rw [h]
  simp only [List.getElem?_eq_getElem hi, Option.map_some, Option.getD_some]
  rw [if_neg (by omega), if_neg (by omega)]
def AskIs (w : World) (a : RV × Int) (x : Ending) (w' : World) : Prop := ∃ (q : Int) (ao : Option Addr) (n cap : Nat) (cs : List CA) (m : Bool), x = .returned (.tuple #[resV q ao n cap m, .int .i64 a.2]) ∧ CL w' ao n cap cs ∧ a.1 = resR q cs m ∧ Below w.heap.size w w'
theorem RW.set3 {w W : World} {N : Nat} {e : Int} {a : Option Addr} {x y : Nat} {m : Bool} (K : RW W N e (.slice a x y) m) (B : Below N w W) (q : Int) (ao : Option Addr) (n cap : Nat) (cs : List CA) (m' : Bool) (L : CL W ao n cap cs) :
    RW (((W.setCell ⟨N, 0, none⟩ (.int .i64 q)).setCell ⟨N, 1, none⟩ (.slice ao n cap)).setCell ⟨N, 2, none⟩ (.bool m')) N q (.slice ao n cap) m' ∧ CL (((W.setCell ⟨N, 0, none⟩ (.int .i64 q)).setCell ⟨N, 1, none⟩ (.slice ao n cap)).setCell ⟨N, 2, none⟩ (.bool m')) ao n cap cs ∧ Below N w (((W.setCell ⟨N, 0, none⟩ (.int .i64 q)).setCell ⟨N, 1, none⟩ (.slice ao n cap)).setCell ⟨N, 2, none⟩ (.bool m')) :=
  ⟨heap_setCell_same _ _ 2 _ _ _ (heap_setCell_same _ _ 1 _ _ _ (heap_setCell_same _ _ 0 _ _ _ K)), CL.setR K L, ((B.setCell (p := ⟨N, 0, none⟩) (Nat.le_refl _) _).setCell (p := ⟨N, 1, none⟩) (Nat.le_refl _) _).setCell (p := ⟨N, 2, none⟩) (Nat.le_refl _) _⟩
set_option maxRecDepth 100000 in
set_option maxHeartbeats 4000000 in
theorem cAsk_any (w : World) (p g c s : Nat) (l : List EN) (h : TS w p g l) :
    Calls Tryd.prog 11 #[.pointer (some ⟨p, 0, none⟩), .int .u64 c, .int .u64 s] w (AskIs w (askE l c s)) := by
  have B0 : Below w.heap.size w (w.alloc (.cells #[.int .i64 0, .slice none 0 0, .bool false] 37)) := (Below.refl _ w).alloc (Nat.le_refl _) _
  have K0 : RW (w.alloc (.cells #[.int .i64 0, .slice none 0 0, .bool false] 37)) w.heap.size 0 (.slice none 0 0) false := heap_alloc_new w _
  have T1 := h.below B0
  have CF := find_any _ p g c l T1
  go_enter Tryd.func11, Tryd.ntmps11
  go_wp2_with fail
  obtain ⟨w1, hw1⟩ : ∃ W, W = w.alloc (.cells #[.int .i64 0, .slice none 0 0, .bool false] 37) := ⟨_, rfl⟩
  obtain ⟨N, hN⟩ : ∃ N, N = w.heap.size := ⟨_, rfl⟩
  rw [← hw1] at B0 K0 T1 CF ⊢
  rw [← hN] at K0 B0 ⊢
  have HN : Hid (N = w.heap.size) := hN
  clear hw1 hN
  refine CF.mono ?_
  rintro x w2 ⟨r, rfl, hr, C2⟩
  have T2 := T1.below C2
  have K2 : RW w2 N 0 (.slice none 0 0) false := K0.kept (C2.block _ K0.lt)
  have B2 := B0.trans (C2.mono (by have := B0.size; have := HN.out; omega))
  clear CF T1 K0 C2 B0
  obtain ⟨X1, X2, X3⟩ := K2.set3 B2 0 none 0 0 [] false (CL.nothing w2)
  have HX : Hid (∀ k, askE l c s = (zRV, k) → AskIs w (askE l c s) (.returned (.tuple #[.agg #[.int .i64 0, .slice none 0 0, .bool false], .int .i64 k])) (((w2.setCell ⟨N, 0, none⟩ (.int .i64 0)).setCell ⟨N, 1, none⟩ (.slice none 0 0)).setCell ⟨N, 2, none⟩ (.bool false))) := fun k hk => by
    rw [hk]
    exact ⟨0, none, 0, 0, [], false, rfl, X2, rfl, by rw [← HN.out]; exact X3⟩
  have n0 := X1.c0
  have n1 := X1.c1
  have n2 := X1.c2
  clear X1 X2 X3
  have r0 := K2.c0
  have r1 := K2.c1
  have r2 := K2.c2
  have f0 := K2.fz 0
  have f1 := K2.fz 1
  have f2 := K2.fz 2
  rcases hr with ⟨rfl, hf⟩ | ⟨k, rfl, hf⟩
  · have HV : Hid (askE l c s = (zRV, 15)) := askE_none hf
    clear hf
    go_wp2
    refine bodyPost_ret (v := .tuple #[.agg #[.int .i64 0, .slice none 0 0, .bool false], .int .i64 15]) (by simp [results, Tryd.results11, go_sem, n0, n1, n2]) rfl ?_
    exact HX.out 15 HV.out
  obtain ⟨hk, hcl⟩ := fnd_some hf
  have HF : Hid (fnd l c = some k) := hf
  obtain ⟨cp, t0, R2, hcp⟩ := T2.tab
  have q0 := R2.cell k hk 0 _ rfl
  have q1 := R2.cell k hk 1 _ rfl
  have q2 := R2.cell k hk 2 _ rfl
  simp only [Nat.add_zero] at q0
  have ki : (k : Int) < (l.length : Int) := by omega
  have k0 : decide ((k : Int) < 0) = false := by simp
  have n8 : (l.length : Int) ≤ 8 := by have := h.n8; omega
  have hok := h.ok _ (List.getElem_mem hk)
  have hst : l[k].st < 18446744073709551616 := hok.st
  clear hf hcl R2
  by_cases hle : s < l[k].st
  · have i1 : (s : Int) < (l[k].st : Int) := by omega
    have HV : Hid (askE l c s = (zRV, 16)) := askE_stale HF.out hk hle
    clear hle
    go_wp2
    refine bodyPost_ret (v := .tuple #[.agg #[.int .i64 0, .slice none 0 0, .bool false], .int .i64 16]) (by simp [results, Tryd.results11, go_sem, n0, n1, n2]) rfl ?_
    exact HX.out 16 HV.out
  have i1 : (l[k].st : Int) ≤ (s : Int) := by omega
  by_cases hgt : l[k].st < s
  · have i2 : (l[k].st : Int) < (s : Int) := by omega
    have HV : Hid (askE l c s = (zRV, 7)) := askE_missing HF.out hk hgt
    clear hle hgt
    go_wp2
    refine bodyPost_ret (v := .tuple #[.agg #[.int .i64 0, .slice none 0 0, .bool false], .int .i64 7]) (by simp [results, Tryd.results11, go_sem, n0, n1, n2]) rfl ?_
    exact HX.out 7 HV.out
  have i2 : (s : Int) ≤ (l[k].st : Int) := by omega
  have HV : Hid (askE l c s = (l[k].r, 0)) := askE_ok HF.out hk (by omega)
  have CR := cresult_any w2 l[k] hok
  clear hle hgt HX n0 n1 n2 r0 r1 r2 f0 f1 f2 hok
  go_wp2_with fail
  refine CR.mono ?_
  rintro x w3 ⟨q, ao, n, cap, cs, m, rfl, L3, hq, C3, -⟩
  have HQ : Hid (l[k].r = resR q cs m) := hq
  have K3 : RW w3 N 0 (.slice none 0 0) false := K2.kept (C3.block _ K2.lt)
  have B3 := B2.trans (C3.mono (by have := B2.size; have := HN.out; omega))
  clear CR C3 hq K2 B2 q0 q1 q2 t0
  obtain ⟨X1, X2, X3⟩ := K3.set3 B3 q ao n cap cs m L3
  have r0 := K3.c0
  have r1 := K3.c1
  have r2 := K3.c2
  have f0 := K3.fz 0
  have f1 := K3.fz 1
  have f2 := K3.fz 2
  have n0 := X1.c0
  have n1 := X1.c1
  have n2 := X1.c2
  clear X1 K3 L3 B3
  unfold resV
  go_wp2
  refine bodyPost_ret (v := .tuple #[.agg #[.int .i64 q, .slice ao n cap, .bool m], .int .i64 0]) (by simp [results, Tryd.results11, go_sem, n0, n1, n2]) rfl ?_
  rw [HV.out]
  exact ⟨q, ao, n, cap, cs, m, rfl, X2, HQ.out, by rw [← HN.out]; exact X3⟩
open Go.RowKit
set_option maxRecDepth 100000 in
set_option maxHeartbeats 8000000 in
theorem rrr_any (w : World) (e : Int) (ao : Option Addr) (n cap : Nat) (l : List CA) (m : Bool) (L : CL w ao n cap l) :
    Calls Tryd.prog 27 #[resV e ao n cap m] w fun x w' => x = .returned (.bool (rightR (resR e l m))) ∧ Below w.heap.size w w' := by
  have hl : l.length = n := L.len
  have B : Below w.heap.size w (w.alloc (Obj.cells #[.int .i64 e, .slice ao n cap, .bool m] 37)) := (Below.refl _ w).alloc (Nat.le_refl _) _
  have K : RC (w.alloc (Obj.cells #[.int .i64 e, .slice ao n cap, .bool m] 37)) w.heap.size e ao n cap m := heap_alloc_new w _
  have L1 := L.below B
  unfold resV
  by_cases c0 : e < 0
  · have i0 : decide (e < 0) = true := by simp; omega
    have hv : Hid (rightR (resR e l m) = false) := resR_no e l m (by omega)
    clear L L1 K hl c0
    go_enter Tryd.func27, Tryd.ntmps27
    go_wp2
    go_ret
    exact ⟨by rw [hv.out] <;> rfl, B⟩
  have i0 : decide (e < 0) = false := by simp; omega
  by_cases c1 : 18 < e
  · have i1 : decide (18 < e) = true := by simp; omega
    have hv : Hid (rightR (resR e l m) = false) := resR_no e l m (by omega)
    clear L L1 K hl c0 c1
    go_enter Tryd.func27, Tryd.ntmps27
    go_wp2
    go_ret
    exact ⟨by rw [hv.out] <;> rfl, B⟩
  have i1 : decide (18 < e) = false := by simp; omega
  by_cases c2 : 16 < n
  · have i2 : decide ((16 : Int) < (n : Int)) = true := by simp; omega
    have hv : Hid (rightR (resR e l m) = false) := resR_no e l m (by omega)
    clear L L1 K hl c0 c1 c2
    go_enter Tryd.func27, Tryd.ntmps27
    go_wp2
    go_ret
    exact ⟨by rw [hv.out] <;> rfl, B⟩
  have i2 : decide ((16 : Int) < (n : Int)) = false := by simp; omega
  have HV : Hid (rightR (resR e l m) = l.all fun c => cellR c.c) := resR_all e l m (by omega)
  have hn16 : n ≤ 16 := by omega
  clear c0 c1 c2 L
  go_enter Tryd.func27, Tryd.ntmps27
  go_wp2_with fail
  obtain ⟨w1, hw1⟩ : ∃ W, W = w.alloc (Obj.cells #[.int .i64 e, .slice ao n cap, .bool m] 37) := ⟨_, rfl⟩
  rw [← hw1] at B K L1 ⊢
  clear hw1
  go_loopw [3] (fun i wr => ∃ k : Nat, k ≤ n ∧ i = .int .i64 k ∧ Below w.heap.size w wr ∧ Below w1.heap.size w1 wr ∧ (l.take k).all (fun c => cellR c.c) = true) (fun i _ => n - (intOf i).toNat)
  case atStart => exact ⟨0, Nat.zero_le _, rfl, B, Below.refl _ _, rfl⟩
  case round =>
    clear B
    obtain ⟨k, hk, rfl, B, C1, hall⟩ := hrel
    have HA : Hid ((l.take k).all (fun c => cellR c.c) = true) := hall
    have K1 := K.keep C1
    clear hall K
    by_cases hlt : k < n
    · obtain ⟨b, off, rfl, hc⟩ := L1.at (by omega)
      have hkl : k < l.length := by omega
      have X := (hc k hkl).below C1
      have hok : (l[k]).ok wr := (L1.ok _ (List.getElem_mem hkl)).below C1
      have i6 : (k : Int) < (n : Int) := by omega
      have HT : Hid ((l.take (k + 1)).all (fun c => cellR c.c) = cellR l[k].c) := by
        show _ = _
        exact all_take_succ (fun c : CA => cellR c.c) hkl HA.out
      have HL : Hid (cellR l[k].c = false → rightR (resR e l m) = false) := fun hb => by
        rw [HV.out, List.all_eq_false]
        exact ⟨_, List.getElem_mem hkl, by rw [hb]; simp⟩
      obtain ⟨c, hx⟩ : ∃ c : CA, c = l[k] := ⟨_, rfl⟩
      rw [← hx] at hok HT HL X
      clear hx hc HA
      have hcr := cellR_ok hok
      have HX : Hid (∀ V, Below wr.heap.size wr V → CX V b (off + k * 6) c) := fun V hV => X.below hV
      obtain ⟨q0, q1, q2, q3, q4, q5⟩ := X
      have r1 := K1.c1
      cases kr : c.key.isRight with
      | false =>
        have hr : c.key.kind = 5 := by unfold KA.kind; rw [kr]; rfl
        have hv : Hid (rightR (resR e l m) = false) := HL.out (by rw [hcr, kr]; rfl)
        go_wp2_with (go_at_call 38; refine (rright_any _ c.key).mono ?_; rintro x w2 ⟨rfl, C⟩; have D : Below w.heap.size w w2 := B.trans (C.mono B.size); have D1 := C1.trans (C.mono C1.size); have K2 := K1.keep C; have X2 := HX.out w2 C; rw [hr]; clear q0 q1 q2 q3 q4 q5 r1; have r1 := K2.c1; obtain ⟨q0, q1, q2, q3, q4, q5⟩ := X2)
        go_ret
        exact ⟨by rw [hv.out] <;> rfl, D⟩
      | true =>
        have hr : c.key.kind = 0 := by unfold KA.kind; rw [kr]; rfl
        by_cases lv : 256 < c.va.n
        · have il : decide ((256 : Int) < (c.va.n : Int)) = true := by simp; omega
          have hv : Hid (rightR (resR e l m) = false) := HL.out (by rw [hcr, kr, decide_eq_false (by omega)]; rfl)
          clear lv
          go_wp2_with (go_at_call 38; refine (rright_any _ c.key).mono ?_; rintro x w2 ⟨rfl, C⟩; have D : Below w.heap.size w w2 := B.trans (C.mono B.size); have D1 := C1.trans (C.mono C1.size); have K2 := K1.keep C; have X2 := HX.out w2 C; rw [hr]; clear q0 q1 q2 q3 q4 q5 r1; have r1 := K2.c1; obtain ⟨q0, q1, q2, q3, q4, q5⟩ := X2)
          go_ret
          exact ⟨by rw [hv.out] <;> rfl, D⟩
        · have il : decide ((256 : Int) < (c.va.n : Int)) = false := by simp; omega
          have hcc : Hid (cellR c.c = true) := by show _ = _; rw [hcr, kr, decide_eq_true (by omega)]; rfl
          clear lv
          go_wp2_with (go_at_call 38; refine (rright_any _ c.key).mono ?_; rintro x w2 ⟨rfl, C⟩; have D : Below w.heap.size w w2 := B.trans (C.mono B.size); have D1 := C1.trans (C.mono C1.size); have K2 := K1.keep C; have X2 := HX.out w2 C; rw [hr]; clear q0 q1 q2 q3 q4 q5 r1; have r1 := K2.c1; obtain ⟨q0, q1, q2, q3, q4, q5⟩ := X2)
          go_roundw
          case rel => exact ⟨k + 1, by omega, by go_num, D, D1, by rw [HT.out, hcc.out]⟩
          case measure => simp [intOf]; omega
    · have i6 : (n : Int) ≤ (k : Int) := by omega
      have hv : Hid (rightR (resR e l m) = true) := by
        show _ = _
        rw [HV.out, ← HA.out, List.take_of_length_le (by omega)]
      have r1 := K1.c1
      go_wp2
      go_ret
      exact ⟨by rw [hv.out] <;> rfl, B⟩
end Go.Proofs.YtlgafjalcpjelaaDoor

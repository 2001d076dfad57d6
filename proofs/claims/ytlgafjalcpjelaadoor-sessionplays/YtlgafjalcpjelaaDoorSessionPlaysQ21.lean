/-
  Texts in one: SeRef2, SeRef3, OfM.
-/
import Derived.Test.YtlgafjalcpjelaaDoorSessionPlaysQ16
import Derived.Test.YtlgafjalcpjelaaDoorSessionPlaysQ20
import Derived.Test.YtlgafjalcpjelaaDoorSessionPlaysQ7
import Derived.Test.YtlgafjalcpjelaaDoorSessionPlaysQ9
import Derived.Test.YtlgafjalcpjelaaDoorSessionPlaysQ0
namespace Go.Proofs.YtlgafjalcpjelaaDoor
open Go.RowKit
theorem en_get {l : List EN} {ys : List LA} (e : ys.map LA.en = l) (j : Nat) (h1 : j < ys.length) (h2 : j < l.length) : (ys[j]).en = l[j] := by
  subst e
  simp
set_option maxRecDepth 100000 in
set_option maxHeartbeats 4000000 in
theorem rAsk12 (w : World) (ao : Option Addr) (n cap c s : Nat) (ys : List LA) (l : List EN) (h : LL12 w ao n cap ys) (he : ys.map LA.en = l) (hn : n ≤ 100) :
    Calls Tryd.prog 12 #[.slice ao n cap, .int .u64 c, .int .u64 s] w (AskIs w (askE l c s)) := by
  have hl := h.len
  have hll : l.length = n := by rw [← he, List.length_map]; exact hl
  have B0 : Below w.heap.size w (w.alloc (.cells #[.int .i64 0, .slice none 0 0, .bool false] 37)) := (Below.refl _ w).alloc (Nat.le_refl _) _
  have K0 : RW (w.alloc (.cells #[.int .i64 0, .slice none 0 0, .bool false] 37)) w.heap.size 0 (.slice none 0 0) false := heap_alloc_new w _
  have h1 := h.below B0
  have CF := rfind12 _ ao n cap c ys l h1 he hn
  have HE : Hid (ys.map LA.en = l) := he
  clear he h
  go_enter Tryd.func12, Tryd.ntmps12
  go_wp2_with fail
  obtain ⟨w1, hw1⟩ : ∃ W, W = w.alloc (.cells #[.int .i64 0, .slice none 0 0, .bool false] 37) := ⟨_, rfl⟩
  obtain ⟨N, hN⟩ : ∃ N, N = w.heap.size := ⟨_, rfl⟩
  rw [← hw1] at B0 K0 h1 CF ⊢
  rw [← hN] at K0 B0 ⊢
  have HN : Hid (N = w.heap.size) := hN
  clear hw1 hN
  refine CF.mono ?_
  rintro x w2 ⟨r, rfl, hr, hw⟩
  obtain rfl := hw.symm
  clear hw CF
  obtain ⟨X1, X2, X3⟩ := K0.set3 B0 0 none 0 0 [] false (CL.nothing w1)
  have HX : Hid (∀ k, askE l c s = (zRV, k) → AskIs w (askE l c s) (.returned (.tuple #[.agg #[.int .i64 0, .slice none 0 0, .bool false], .int .i64 k])) (((w1.setCell ⟨N, 0, none⟩ (.int .i64 0)).setCell ⟨N, 1, none⟩ (.slice none 0 0)).setCell ⟨N, 2, none⟩ (.bool false))) := fun k hk => by
    rw [hk]
    exact ⟨0, none, 0, 0, [], false, rfl, X2, rfl, by rw [← HN.out]; exact X3⟩
  have n0 := X1.c0
  have n1 := X1.c1
  have n2 := X1.c2
  clear X1 X2 X3
  have r0 := K0.c0
  have r1 := K0.c1
  have r2 := K0.c2
  have f0 := K0.fz 0
  have f1 := K0.fz 1
  have f2 := K0.fz 2
  rcases hr with ⟨rfl, hf⟩ | ⟨k, rfl, hf⟩
  · have HV : Hid (askE l c s = (zRV, 15)) := askE_none hf
    clear hf
    go_wp2
    refine bodyPost_ret (v := .tuple #[.agg #[.int .i64 0, .slice none 0 0, .bool false], .int .i64 15]) (by simp [results, Tryd.results12, go_sem, n0, n1, n2]) rfl ?_
    exact HX.out 15 HV.out
  obtain ⟨hk, hcl⟩ := fnd_some hf
  have HF : Hid (fnd l c = some k) := hf
  have k1 : k < ys.length := by omega
  obtain ⟨b, off, rfl, hc⟩ := h1.at (by omega)
  have X := hc k k1
  have hok := h1.ok _ (List.getElem_mem k1)
  have hen := en_get HE.out k k1 hk
  have hst : ys[k].st = l[k].st := congrArg EN.st hen
  have hrr : resR ys[k].e ys[k].cs ys[k].m = l[k].r := congrArg EN.r hen
  obtain ⟨y, hy⟩ : ∃ y, y = ys[k] := ⟨_, rfl⟩
  rw [← hy] at X hok hst hrr
  have HQ : Hid (l[k].r = resR y.e y.cs y.m) := hrr.symm
  clear hy hc hen hrr
  obtain ⟨q0, q1, q2, q3, q4⟩ := X
  rw [hst] at q1
  have ki : (k : Int) < (n : Int) := by omega
  have k0 : decide ((k : Int) < 0) = false := by simp
  have n8 : (n : Int) ≤ 100 := by omega
  clear hf hcl hst
  by_cases hle : s < l[k].st
  · have i1 : (s : Int) < (l[k].st : Int) := by omega
    have HV : Hid (askE l c s = (zRV, 16)) := askE_stale HF.out hk hle
    clear hle
    go_wp2
    refine bodyPost_ret (v := .tuple #[.agg #[.int .i64 0, .slice none 0 0, .bool false], .int .i64 16]) (by simp [results, Tryd.results12, go_sem, n0, n1, n2]) rfl ?_
    exact HX.out 16 HV.out
  have i1 : (l[k].st : Int) ≤ (s : Int) := by omega
  by_cases hgt : l[k].st < s
  · have i2 : (l[k].st : Int) < (s : Int) := by omega
    have HV : Hid (askE l c s = (zRV, 7)) := askE_missing HF.out hk hgt
    clear hle hgt
    go_wp2
    refine bodyPost_ret (v := .tuple #[.agg #[.int .i64 0, .slice none 0 0, .bool false], .int .i64 7]) (by simp [results, Tryd.results12, go_sem, n0, n1, n2]) rfl ?_
    exact HX.out 7 HV.out
  have i2 : (s : Int) ≤ (l[k].st : Int) := by omega
  have HV : Hid (askE l c s = (l[k].r, 0)) := askE_ok HF.out hk (by omega)
  clear hle hgt HX n0 n1 n2
  obtain ⟨X1, X2, X3⟩ := K0.set3 B0 y.e y.ao y.n y.cap y.cs y.m hok.cs
  have n0 := X1.c0
  have n1 := X1.c1
  have n2 := X1.c2
  clear X1 K0 B0 h1
  go_wp2
  refine bodyPost_ret (v := .tuple #[.agg #[.int .i64 y.e, .slice y.ao y.n y.cap, .bool y.m], .int .i64 0]) (by simp [results, Tryd.results12, go_sem, n0, n1, n2]) rfl ?_
  rw [HV.out]
  exact ⟨y.e, y.ao, y.n, y.cap, y.cs, y.m, rfl, X2, HQ.out, by rw [← HN.out]; exact X3⟩
open Go.RowKit
def set5 (W : World) (g o : Nat) (y : LA) : World := ((((W.setCell ⟨g, o, none⟩ (.int .u64 y.cl)).setCell ⟨g, o + 1, none⟩ (.int .u64 y.st)).setCell ⟨g, o + 2, none⟩ (.int .i64 y.e)).setCell ⟨g, o + 3, none⟩ (.slice y.ao y.n y.cap)).setCell ⟨g, o + 4, none⟩ (.bool y.m)
theorem set5_other (W : World) (g o : Nat) (y : LA) {x : Nat} (hx : x ≠ g) : (set5 W g o y).heap[x]? = W.heap[x]? :=
  ((same_set _ g _ _).2 x hx).trans (((same_set _ g _ _).2 x hx).trans (((same_set _ g _ _).2 x hx).trans (((same_set _ g _ _).2 x hx).trans ((same_set _ g _ _).2 x hx))))
set_option maxHeartbeats 4000000 in
theorem ll_put {t : TypeId} {W : World} {base g n cap : Nat} {ys : List LA} (h : AllI t W base (.slice (some ⟨g, 0, none⟩) n cap) ys) (k : Nat) (hk : k < ys.length) (y : LA) (hy : y.ok W) (hf : ∀ x, y.blk x → x ≠ g) : LL12 (set5 W g (k * 5) y) (some ⟨g, 0, none⟩) n cap (ys.set k y) ∧ Below base W (set5 W g (k * 5) y) := by
  rcases h.own.2 with ⟨e, _⟩ | ⟨g', cap', cur, e, a1, a2, a3, a4, a5, a6⟩
  · simp at e
  cases e
  have h1 := heap_setCell_same W g (k * 5) _ _ (.int .u64 y.cl) a2
  have h2 := heap_setCell_same _ g (k * 5 + 1) _ _ (.int .u64 y.st) h1
  have h3 := heap_setCell_same _ g (k * 5 + 2) _ _ (.int .i64 y.e) h2
  have h4 := heap_setCell_same _ g (k * 5 + 3) _ _ (.slice y.ao y.n y.cap) h3
  have h5 := heap_setCell_same _ g (k * 5 + 4) _ _ (.bool y.m) h4
  have hb : Below base W (set5 W g (k * 5) y) := (((((Below.refl _ W).setCell (p := ⟨g, k * 5, none⟩) a1 _).setCell (p := ⟨g, k * 5 + 1, none⟩) a1 _).setCell (p := ⟨g, k * 5 + 2, none⟩) a1 _).setCell (p := ⟨g, k * 5 + 3, none⟩) a1 _).setCell (p := ⟨g, k * 5 + 4, none⟩) a1 _
  refine ⟨⟨by rw [List.length_set], a3, a4, fun q => by simp at q, fun a ha i hi j v hv => ?_, fun z hz => ?_⟩, hb⟩
  · obtain rfl := Option.some.inj ha
    rw [List.length_set] at hi
    have hj : j < 5 := (List.getElem?_eq_some_iff.1 hv).1
    rw [Addr.add_lit, Nat.zero_add]
    have hc := cell_of_row _ g (i * 5 + j) _ _ (0, 0) h5
    refine Eq.trans hc ?_
    have hsz : i * 5 + j < cur.size := by omega
    have hks : k * 5 + 4 < cur.size := by omega
    by_cases c : i = k
    · subst c
      rw [List.getElem_set_self] at hv
      have hj5 : j = 0 ∨ j = 1 ∨ j = 2 ∨ j = 3 ∨ j = 4 := by omega
      rcases hj5 with rfl | rfl | rfl | rfl | rfl
      · have : v = .int .u64 y.cl := by simpa [LA.cells] using hv.symm
        subst this
        rw [Array.getElem?_setIfInBounds_ne (by omega), Array.getElem?_setIfInBounds_ne (by omega), Array.getElem?_setIfInBounds_ne (by omega), Array.getElem?_setIfInBounds_ne (by omega)]
        exact Array.getElem?_setIfInBounds_self_of_lt (by omega)
      · have : v = .int .u64 y.st := by simpa [LA.cells] using hv.symm
        subst this
        rw [Array.getElem?_setIfInBounds_ne (by omega), Array.getElem?_setIfInBounds_ne (by omega), Array.getElem?_setIfInBounds_ne (by omega), Array.getElem?_setIfInBounds_self_of_lt (by simp; omega)]
      · have : v = .int .i64 y.e := by simpa [LA.cells] using hv.symm
        subst this
        rw [Array.getElem?_setIfInBounds_ne (by omega), Array.getElem?_setIfInBounds_ne (by omega), Array.getElem?_setIfInBounds_self_of_lt (by simp; omega)]
      · have : v = .slice y.ao y.n y.cap := by simpa [LA.cells] using hv.symm
        subst this
        rw [Array.getElem?_setIfInBounds_ne (by omega), Array.getElem?_setIfInBounds_self_of_lt (by simp; omega)]
      · have : v = .bool y.m := by simpa [LA.cells] using hv.symm
        subst this
        rw [Array.getElem?_setIfInBounds_self_of_lt (by simp; omega)]
    · rw [List.getElem_set_ne (fun e => c e.symm)] at hv
      have hg := flat_get LA.cells 5 (fun _ => rfl) ys i j hi hj
      have hh : (cellsL ys)[i * 5 + j]? = some v := hg.trans hv
      rw [← a6, List.getElem?_take_of_lt (by omega), Array.getElem?_toList] at hh
      rw [Array.getElem?_setIfInBounds_ne (by omega), Array.getElem?_setIfInBounds_ne (by omega), Array.getElem?_setIfInBounds_ne (by omega), Array.getElem?_setIfInBounds_ne (by omega), Array.getElem?_setIfInBounds_ne (by omega)]
      exact hh
  · have key : ∀ u : LA, u.ok W → (∀ x, u.blk x → x ≠ g) → u.ok (set5 W g (k * 5) y) := fun u hu hx => hu.kept fun x hxx => set5_other W g (k * 5) y (hx x hxx)
    rcases List.mem_or_eq_of_mem_set hz with hz | rfl
    · exact key z (h.ok z hz) (fun x hx e => h.far z hz x hx (by rw [e]; rfl))
    · exact key z hy hf
theorem all_copy {W : World} {bo : Option Addr} {m c : Nat} {ys : List LA} (h : LL12 W bo m c ys) (hn : m ≤ 1000) (h1 : 1 ≤ m) :
    ∃ v' W1, (Builtin.append_ #[23, 23] 23 #[.slice (some ⟨W.heap.size, 0, none⟩) 0 0, .slice bo m c]).run Tryd.prog (W.alloc (.cells #[] 39)) = .ok v' W1 ∧ AllI 39 W1 W.heap.size v' ys ∧ Below W.heap.size W W1 ∧ ∃ g cap, v' = .slice (some ⟨g, 0, none⟩) m cap := by
  obtain ⟨i0, hi, hz0, hz1, hz2⟩ := info_parts lty2.info
  have hl := h.len
  have B0 : Below W.heap.size W (W.alloc (.cells #[] 39)) := (Below.refl _ W).alloc (Nat.le_refl _) _
  have h0 := h.below B0
  have O0 : (W.alloc (.cells #[] 39)).ownsRow W.heap.size 39 5 (.slice (some ⟨W.heap.size, 0, none⟩) 0 0) 0 [] := World.ownsRow_made W #[] 0 (Nat.le_refl _) (Nat.zero_le _) rfl
  obtain ⟨ad, rfl⟩ : ∃ ad, bo = some ad := by
    cases bo with
    | none => have := (h.nil rfl).1; omega
    | some ad => exact ⟨ad, rfl⟩
  obtain ⟨v', W1, hr, ho, hg, ha⟩ := run_append_own2 (P := Tryd.prog) (W.alloc (.cells #[] 39)) W.heap.size 23 23 39 i0 _ 5 56 lty2.und hi hz0 hz1 hz2 rfl (by decide) _ 0 [] O0 ad m c (cellsL ys) (by unfold cellsL; rw [flat_len LA.cells 5 (fun _ => rfl), hl])
    (fun j u hu => by
      have hj := (List.getElem?_eq_some_iff.1 hu).1
      unfold cellsL at hj
      rw [flat_len LA.cells 5 (fun _ => rfl)] at hj
      have hq : j / 5 < ys.length := by omega
      have ej : j / 5 * 5 + j % 5 = j := by omega
      have hg := flat_get LA.cells 5 (fun _ => rfl) ys (j / 5) (j % 5) hq (by omega)
      rw [ej] at hg
      have := h0.cell ad rfl (j / 5) hq (j % 5) u (hg.symm.trans hu)
      rw [ej] at this
      exact this)
    (fun u hu => by
      unfold cellsL at hu
      obtain ⟨cs, h1, h2⟩ := List.mem_flatten.1 hu
      obtain ⟨z, -, rfl⟩ := List.mem_map.1 h1
      exact l_one z u h2) (by unfold maxLen; omega) (by omega) (by simp)
  rw [Nat.zero_add, List.nil_append] at ho
  have hb1 : Below W.heap.size W W1 := B0.grown hg (by simp) (fun k hk => (O0.lt k hk).1)
  have far : ∀ z ∈ ys, ∀ x, z.blk x → v'.ownBlock ≠ some x := fun z hz x hx e => by
    have q1 := (h.ok z hz).blk_lt hx
    have q2 := (ho.lt x e).1
    omega
  refine ⟨v', W1, hr, ⟨by rw [hl]; exact ho, fun z hz => (h.ok z hz).below hb1, far⟩, hb1, ?_⟩
  rcases ho.2 with ⟨_, e⟩ | ⟨g, cap, cur, rfl, _⟩
  · omega
  · exact ⟨g, cap, rfl⟩
def PtIs (w : World) (F : Nat → Prop) (a : List EN × Int) (x : Ending) (w' : World) : Prop := ∃ (ro : Option Addr) (rn rc : Nat) (zs : List LA), x = .returned (.tuple #[.slice ro rn rc, .int .i64 a.2]) ∧ LL12 w' ro rn rc zs ∧ zs.map LA.en = a.1 ∧ Below w.heap.size w w' ∧ ∀ z, LLb ro rn zs z → F z ∨ w.heap.size ≤ z
set_option maxRecDepth 100000 in
set_option maxHeartbeats 8000000 in
theorem rPut12 (w : World) (ao : Option Addr) (n cap c s : Nat) (ys : List LA) (l : List EN) (h : LL12 w ao n cap ys) (he : ys.map LA.en = l) (hn : n ≤ 100) (hc : c < 18446744073709551616) (hs : s < 18446744073709551616) (e : Int) (bo : Option Addr) (m cp : Nat) (cs : List CA) (mo : Bool) (L : CL w bo m cp cs) (F : Nat → Prop) (hF : ∀ z, LLb ao n ys z → F z) (hF2 : ∀ z, LA.blk ⟨c, s, e, bo, m, cp, cs, mo⟩ z → F z) :
    Calls Tryd.prog 9 #[.slice ao n cap, .int .u64 c, .int .u64 s, resV e bo m cp mo] w (PtIs w F (putE l c s (resR e cs mo))) := by
  have HF1 : Hid (∀ z, LLb ao n ys z → F z) := hF
  have HF2 : Hid (∀ z, LA.blk ⟨c, s, e, bo, m, cp, cs, mo⟩ z → F z) := hF2
  clear hF hF2
  have hl := h.len
  have hll : l.length = n := by rw [← he, List.length_map]; exact hl
  have B0 : Below w.heap.size w (w.alloc (.cells #[.int .i64 e, .slice bo m cp, .bool mo] 37)) := (Below.refl _ w).alloc (Nat.le_refl _) _
  have K0 : RW (w.alloc (.cells #[.int .i64 e, .slice bo m cp, .bool mo] 37)) w.heap.size e (.slice bo m cp) mo := heap_alloc_new w _
  have h1 := h.below B0
  have L1 := L.below B0
  have CF := rfind12 _ ao n cap c ys l h1 he hn
  have HE : Hid (ys.map LA.en = l) := he
  unfold resV
  clear he h L
  go_enter Tryd.func9, Tryd.ntmps9
  go_wp2_with fail
  obtain ⟨w1, hw1⟩ : ∃ W, W = w.alloc (.cells #[.int .i64 e, .slice bo m cp, .bool mo] 37) := ⟨_, rfl⟩
  obtain ⟨N, hN⟩ : ∃ N, N = w.heap.size := ⟨_, rfl⟩
  rw [← hw1] at B0 K0 h1 CF L1 ⊢
  rw [← hN] at K0 ⊢
  clear hw1 hN
  refine CF.mono ?_
  rintro x w2 ⟨r, rfl, hr, hw⟩
  obtain rfl := hw.symm
  clear hw CF
  rcases hr with ⟨rfl, hf⟩ | ⟨k, rfl, hf⟩
  · have HV : Hid (putE l c s (resR e cs mo) = (l, 15)) := putE_none hf
    clear hf K0 L1
    go_wp2
    go_ret2
    rw [HV.out]
    exact ⟨ao, n, cap, ys, rfl, h1, HE.out, B0, fun z hz => .inl (HF1.out z hz)⟩
  obtain ⟨hk, hcl⟩ := fnd_some hf
  have HF : Hid (fnd l c = some k) := hf
  have k1 : k < ys.length := by omega
  obtain ⟨b, off, rfl, hcc⟩ := h1.at (by omega)
  have q1 := (hcc k k1).c1
  have hst : ys[k].st = l[k].st := congrArg EN.st (en_get HE.out k k1 hk)
  rw [hst] at q1
  have ki : (k : Int) < (n : Int) := by omega
  have k0 : decide ((k : Int) < 0) = false := by simp
  have n8 : (n : Int) ≤ 100 := by omega
  clear hf hcl hst hcc
  by_cases hle : s ≤ l[k].st
  · have i1 : (s : Int) ≤ (l[k].st : Int) := by omega
    have HV : Hid (putE l c s (resR e cs mo) = (l, 16)) := putE_stale HF.out hk hle
    clear hle K0 L1
    go_wp2
    go_ret2
    rw [HV.out]
    exact ⟨_, n, cap, ys, rfl, h1, HE.out, B0, fun z hz => .inl (HF1.out z hz)⟩
  have i1 : decide ((s : Int) ≤ (l[k].st : Int)) = false := by simp; omega
  have CR := rrr_any w1 e bo m cp cs mo L1
  have r0 := K0.c0
  have r1 := K0.c1
  have r2 := K0.c2
  unfold resV at CR
  go_wp2_with fail
  refine CR.mono ?_
  rintro x w3 ⟨rfl, C3⟩
  have h3 := h1.below C3
  have L3 := L1.below C3
  have B3 := B0.trans (C3.mono B0.size)
  have K3 : RW w3 N e (.slice bo m cp) mo := K0.kept (C3.block _ K0.lt)
  clear CR C3 h1 L1 B0 K0 r0 r1 r2 q1
  cases hr : rightR (resR e cs mo) with
  | false =>
    have HV : Hid (putE l c s (resR e cs mo) = (l, 1)) := putE_bad HF.out hk (by omega) hr
    clear hr K3 L3
    go_wp2
    go_ret2
    rw [HV.out]
    exact ⟨_, n, cap, ys, rfl, h3, HE.out, B3, fun z hz => .inl (HF1.out z hz)⟩
  | true =>
    have HV : Hid (putE l c s (resR e cs mo) = (l.set k ⟨c, s, resR e cs mo⟩, 0)) := putE_ok HF.out hk (by omega) hr
    obtain ⟨v', w4, ha, A4, C4, g4, cap4, rfl⟩ := all_copy h3 (by omega) (by omega)
    have hw4 := L3.below C4
    have B4 := B3.trans (C4.mono B3.size)
    have K4 : RW w4 N e (.slice bo m cp) mo := K3.kept (C4.block _ K3.lt)
    have hg4 : w3.heap.size ≤ g4 := (A4.own.lt g4 rfl).1
    have hgw : w.heap.size ≤ g4 := Nat.le_trans B3.size hg4
    have hyo : LA.ok ⟨c, s, e, bo, m, cp, cs, mo⟩ w4 := ⟨hc, hs, hw4⟩
    obtain ⟨P5, C5⟩ := ll_put A4 k k1 ⟨c, s, e, bo, m, cp, cs, mo⟩ hyo (fun x hx ee => by
      have q1 := (LA.ok.blk_lt (y := ⟨c, s, e, bo, m, cp, cs, mo⟩) (w := w3) ⟨hc, hs, L3⟩ hx)
      omega)
    have B5 := B4.trans (C5.mono B3.size)
    have HM : Hid ((ys.set k ⟨c, s, e, bo, m, cp, cs, mo⟩).map LA.en = l.set k ⟨c, s, resR e cs mo⟩) := by
      show _ = _
      rw [List.map_set, HE.out]
      rfl
    rcases A4.own.2 with ⟨ee, _⟩ | ⟨g', cap', cur, ee, b1, b2, b3, b4, b5, b6⟩
    · simp at ee
    cases ee
    have s0 := K4.c0
    have s1 := K4.c1
    have s2 := K4.c2
    have fz : ∀ i, w4.frozen? ⟨g4, i, none⟩ = false := fun i => frozen_of_row w4 g4 i _ _ b2
    have f0 := fz (k * 5)
    have f1 := fz (k * 5 + 1)
    have f2 := fz (k * 5 + 2)
    have f3 := fz (k * 5 + 3)
    have f4 := fz (k * 5 + 4)
    have cl : ∀ j, j < 5 → ∃ u, w4.cell? ⟨g4, k * 5 + j, none⟩ = some u := fun j hj => by
      rw [cell_of_row w4 g4 (k * 5 + j) _ _ (0, 0) b2]
      exact ⟨_, Array.getElem?_eq_getElem (by omega)⟩
    obtain ⟨u0, c0⟩ := cl 0 (by omega)
    obtain ⟨u1, c1⟩ := cl 1 (by omega)
    obtain ⟨u2, c2⟩ := cl 2 (by omega)
    obtain ⟨u3, c3⟩ := cl 3 (by omega)
    obtain ⟨u4, c4⟩ := cl 4 (by omega)
    rw [Nat.add_zero] at c0
    have HP : Hid (LL12 (set5 w4 g4 (k * 5) ⟨c, s, e, bo, m, cp, cs, mo⟩) (some ⟨g4, 0, none⟩) ys.length cap4 (ys.set k ⟨c, s, e, bo, m, cp, cs, mo⟩) ∧ Below w.heap.size w (set5 w4 g4 (k * 5) ⟨c, s, e, bo, m, cp, cs, mo⟩)) := ⟨P5, B5⟩
    unfold set5 at HP
    clear P5 C5 B5 B4 B3 A4 C4 K3 K4 hyo hw4 L3 h3 fz cl hr b1 b2 b3 b4 b5 b6
    go_wp2_with (at_builtin; refine wpList_runB rfl _ _ 23 rfl rfl rfl ha ?_)
    go_ret2
    rw [HV.out]
    exact ⟨_, ys.length, cap4, _, rfl, HP.out.1, HM.out, HP.out.2, fun z hz => by
      rcases hz with ⟨a, ha, _, rfl⟩ | ⟨y, hy, hz⟩
      · cases ha
        exact .inr hgw
      · rcases List.mem_or_eq_of_mem_set hy with hy | rfl
        · exact .inl (HF1.out z (.inr ⟨y, hy, hz⟩))
        · exact .inl (HF2.out z hz)⟩
open Go.RowKit
def fmP (xs : List (List Int)) : List Int := xs.flatMap fun x => enc x.length ++ x
def formL (s : List Int) (xs : List (List Int)) : List Int := enc s.length ++ s ++ enc xs.length ++ fmP xs
theorem fmP_snoc (xs : List (List Int)) (x : List Int) : fmP (xs ++ [x]) = fmP xs ++ (enc x.length ++ x) := by simp [fmP]
def pxs (ps : List Part) : List (List Int) := ps.map Part.xs
theorem pxs_take (ps : List Part) (k : Nat) (h : k < ps.length) : pxs (ps.take (k + 1)) = pxs (ps.take k) ++ [ps[k].xs] := by
  unfold pxs
  rw [List.take_add_one, List.getElem?_eq_getElem h, List.map_append]
  rfl
theorem pxs_len (ps : List Part) : (pxs ps).length = ps.length := by simp [pxs]
theorem fmP_le (xs : List (List Int)) (B : Nat) (hB : B < 18446744073709551616) (h : ∀ x ∈ xs, x.length ≤ B) : (fmP xs).length ≤ xs.length * (B + 10) := by
  induction xs with
  | nil => simp [fmP]
  | cons x xs ih =>
    have h1 := ih (fun y hy => h y (List.mem_cons_of_mem _ hy))
    have h2 := h x (List.mem_cons_self ..)
    have h3 := enc_length (n := x.length) (by omega)
    have e : fmP (x :: xs) = enc x.length ++ x ++ fmP xs := by simp [fmP]
    rw [e, List.length_append, List.length_append, List.length_cons, Nat.succ_mul]
    omega
theorem fmP_byte (xs : List (List Int)) (h : ∀ x ∈ xs, Byt x ∧ x.length < 18446744073709551616) : Byt (fmP xs) := by
  intro y hy
  simp only [fmP, List.mem_flatMap] at hy
  obtain ⟨x, hx, hy⟩ := hy
  rcases List.mem_append.1 hy with h1 | h1
  · exact enc_byte (h x hx).2 y h1
  · exact (h x hx).1 y h1
set_option maxRecDepth 100000 in
set_option maxHeartbeats 4000000 in
theorem of_any (w : World) (s : ByteArray) (ao : Option Addr) (n cap : Nat) (ps : List Part) (hP : PL w ao n cap ps) (hT : Tabs w) (hs : s.size ≤ 1000000) (hn : n ≤ 1000000) (hq : ∀ q ∈ ps, q.n ≤ 1000000) :
    Calls Tryd.prog 36 #[.string s, .slice ao n cap] w fun e w' => ∃ v, e = .returned v ∧ w'.ownsRow w.heap.size 5 1 v 32 (bv (sumL (formL (sb s) (pxs ps)))) ∧ Below w.heap.size w w' := by
  have h2 := hT.two
  have hl := hP.len
  have hni : (n : Int) ≤ 1000000 := by omega
  have hsl := sb_len s
  have es := enc_length (n := s.size) (by omega)
  have en := enc_length (n := n) (by omega)
  go_enter Tryd.func36, Tryd.ntmps36
  go_wp2_with (first
    | (go_at_call 49; refine (new_any w).mono ?_; rintro e w1 ⟨rfl, H1, g1⟩; have B1 : Below w.heap.size w w1 := (Below.refl _ w).grown g1 (Nat.le_refl _) (by simp); have p1 := H1.lt; clear g1)
    | (refine wpList_conv_bytes rfl (.tmp 10) rfl s rfl (by omega) ?_; intro g2 c2 w2 hg2 S2 C2; have B2 : Below w.heap.size w w2 := B1.trans (C2.mono (by omega)); have H2 := H1.below C2 p1; have s2 := C2.size; clear C2 H1 hg2)
    | (go_at_call 32; refine (wBytes_any w2 none _ 0 0 s.size c2 [] _ (Sl.nothing w2) S2 (by omega)).mono ?_; rintro e w3 ⟨v3, rfl, own3, C3⟩; simp only [List.nil_append, Nat.zero_add] at own3; obtain ⟨fo, fc, rfl, S3, hS3⟩ := Sl.own own3 (Byt.append (enc_byte (by omega)) (sb_byte s)); have B3 : Below w.heap.size w w3 := B2.trans (C3.mono (by omega)); have H3 := H2.below C3 (by omega); have s3 := C3.size; clear C3 own3 H2 S2 B2)
    | (go_at_call 50; refine (add_any w3 w.heap.size [] fo _ fc _ (hT.below B3 h2) H3 h2 S3 (fun a ha _ => by have := (hS3 a ha).1; omega) (by simp; omega)).mono ?_; rintro e w4 ⟨⟨v4, rfl⟩, H4, g4⟩; have B4 : Below w.heap.size w w4 := B3.grown g4 (by omega) (by intro k hk; cases hk; exact Nat.le_refl _); have s4 := g4.size; clear g4 H3 S3 hS3 B3)
    | (go_at_call 31; refine (wUint_any w4 none 0 0 n [] (Sl.nothing w4) (by omega) (by omega)).mono ?_; rintro e w5 ⟨v5, rfl, own5, C5⟩; simp only [List.nil_append, Nat.zero_add] at own5; obtain ⟨uo, uc, rfl, S5, hS5⟩ := Sl.own own5 (enc_byte (by omega)); have B5 : Below w.heap.size w w5 := B4.trans (C5.mono (by omega)); have H5 := H4.below C5 (by omega); have s5 := C5.size; clear C5 own5 H4 B4))
  refine (add_any w5 w.heap.size _ uo _ uc _ (hT.below B5 h2) H5 h2 S5 (fun a ha _ => by have := (hS5 a ha).1; omega) (by simp; omega)).mono ?_
  rintro e w6 ⟨⟨v6, rfl⟩, H6, g6⟩
  have B6 : Below w.heap.size w w6 := B5.grown g6 (by omega) (by intro k hk; cases hk; exact Nat.le_refl _)
  have s6 := g6.size
  clear g6 H5 S5 hS5 B5
  obtain ⟨F, hF⟩ : ∃ F, F = enc s.size ++ sb s ++ enc n := ⟨_, rfl⟩
  have hFl : F.length ≤ 1000020 := by rw [hF]; simp; omega
  have HF : Hid (formL (sb s) (pxs ps) = F ++ fmP (pxs ps)) := by
    show _ = _
    rw [hF, formL, hsl, pxs_len, hl]
  simp only [List.nil_append] at H6
  rw [← hF] at H6
  clear hF hsl es en
  go_wp2_with fail
  go_loopw [22] (fun i wr => ∃ k : Nat, k ≤ n ∧ i = .int .i64 k ∧ Below w.heap.size w wr ∧ w.heap.size < wr.heap.size ∧ HS wr w.heap.size (F ++ fmP (pxs (ps.take k)))) (fun i _ => n - (intOf i).toNat)
  case atStart => exact ⟨0, by omega, rfl, B6, by omega, by simpa [pxs, fmP] using H6⟩
  case round =>
    clear H6 B6
    obtain ⟨k, hk, rfl, B7, t7, H7⟩ := hrel
    have T7 := hT.below B7 h2
    by_cases hlt : k < n
    · have hki : (k : Int) < (n : Int) := by omega
      have hkl : k < ps.length := by omega
      obtain ⟨ab, aof, rfl, hc⟩ := (hP.below B7).at (by omega)
      have c1 := hc k hkl
      have S1 := (hP.below B7).sl ps[k] (List.getElem_mem hkl)
      have HX : Hid (fmP (pxs (ps.take (k + 1))) = fmP (pxs (ps.take k)) ++ (enc ps[k].n ++ ps[k].xs)) := by
        show _ = _
        rw [pxs_take ps k hkl, fmP_snoc, S1.len]
      have hqn := hq ps[k] (List.getElem_mem hkl)
      have hFM : (fmP (pxs (ps.take k))).length ≤ k * (1000000 + 10) := by
        refine Nat.le_trans (fmP_le _ 1000000 (by omega) (fun x hx => ?_)) ?_
        · obtain ⟨q, hq', rfl⟩ := List.mem_map.1 hx
          rw [(hP.sl q (List.mem_of_mem_take hq')).len]
          exact hq q (List.mem_of_mem_take hq')
        · rw [pxs_len, List.length_take]
          exact Nat.mul_le_mul_right _ (by omega)
      obtain ⟨q, hqe⟩ : ∃ q, q = ps[k] := ⟨_, rfl⟩
      rw [← hqe] at c1 S1 HX hqn
      clear hqe hc
      have hql := S1.len
      have hqb := S1.byte
      have eq := enc_length (n := q.n) (by omega)
      unfold Part.val at c1
      go_wp2_with (first
        | (go_at_call 32; refine (wBytes_any wr none q.ao 0 0 q.n q.cap [] q.xs (Sl.nothing wr) S1 (by omega)).mono ?_; rintro e w8 ⟨v8, rfl, own8, C8⟩; simp only [List.nil_append, Nat.zero_add] at own8; obtain ⟨fo, fc, rfl, S8, hS8⟩ := Sl.own own8 (Byt.append (enc_byte (by omega)) hqb); have B8 : Below w.heap.size w w8 := B7.trans (C8.mono (by omega)); have H8 := H7.below C8 (by omega); have s8 := C8.size; clear C8 own8 H7 S1)
        | (go_at_call 50; refine (add_any w8 w.heap.size _ fo _ fc _ (hT.below B8 h2) H8 h2 S8 (fun a ha _ => by have := (hS8 a ha).1; omega) (by simp; omega)).mono ?_; rintro e w9 ⟨⟨v9, rfl⟩, H9, g9⟩; have B9 : Below w.heap.size w w9 := B8.grown g9 (by omega) (by intro k hk; cases hk; exact Nat.le_refl _); have s9 := g9.size; clear g9 H8 S8 hS8 B8))
      go_roundw
      case rel =>
        refine ⟨k + 1, by omega, by go_num, B9, by omega, ?_⟩
        rw [HX.out, ← List.append_assoc F]
        exact H9
      case measure => simp [intOf]; omega
    · have hge : (n : Int) ≤ (k : Int) := by omega
      have e : ps.take k = ps := List.take_of_length_le (by omega)
      rw [e] at H7
      clear e
      have hFM : (fmP (pxs ps)).length ≤ n * (1000000 + 10) := by
        refine Nat.le_trans (fmP_le _ 1000000 (by omega) (fun x hx => ?_)) ?_
        · obtain ⟨q, hq', rfl⟩ := List.mem_map.1 hx
          rw [(hP.sl q hq').len]
          exact hq q hq'
        · rw [pxs_len]
          exact Nat.mul_le_mul_right _ (by omega)
      go_wp2_with (go_at_call 51; refine (hsum_any wr w.heap.size _ T7 H7 (by simp; omega)).mono ?_; rintro e w3 ⟨v, rfl, own3, B3⟩)
      go_ret
      refine ⟨_, rfl, ?_, B7.trans (B3.mono (by omega))⟩
      rw [HF.out]
      exact own_base own3 (by omega)
end Go.Proofs.YtlgafjalcpjelaaDoor

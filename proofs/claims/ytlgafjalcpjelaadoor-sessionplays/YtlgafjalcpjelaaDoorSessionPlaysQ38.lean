/-
  Texts in one: PlaysLaw12.
-/
import Derived.Test.YtlgafjalcpjelaaDoorSessionPlaysQFL
import Derived.Test.YtlgafjalcpjelaaDoorSessionPlaysQ21
import Derived.Test.YtlgafjalcpjelaaDoorSessionPlaysQ17
import Derived.Test.YtlgafjalcpjelaaDoorSessionPlaysQ31
import Derived.Test.YtlgafjalcpjelaaDoorSessionPlaysQ32
import Derived.Test.YtlgafjalcpjelaaDoorSessionPlaysQ33
import Derived.Test.YtlgafjalcpjelaaDoorSessionPlaysQ34
import Derived.Test.YtlgafjalcpjelaaDoorSessionPlaysQ36
import Derived.Test.YtlgafjalcpjelaaDoorSessionPlaysQ37
import Derived.Test.YtlgafjalcpjelaaDoorSessionPlaysQ11
namespace Go.Proofs.YtlgafjalcpjelaaDoor
open Go.RowKit
theorem en_small {l : List EN} {ys : List LA} {w : World} {ao : Option Addr} {n cap : Nat} (h : LL12 w ao n cap ys) (e : ys.map LA.en = l) (ok : ∀ e ∈ l, e.ok) : ∀ y ∈ ys, y.n ≤ 1000 := fun y hy => by
  have h1 := (ok y.en (by rw [← e]; exact List.mem_map.2 ⟨y, hy, rfl⟩)).right
  have h2 := (h.ok y hy).cs.len
  unfold rightR at h1
  have h3 := of_decide_eq_true (Bool.and_eq_true_iff.1 h1).1
  have h4 : (y.cs.map CA.c).length ≤ 16 := h3.2.2
  rw [List.length_map] at h4
  omega
theorem RW.below {V V' : World} {p : Nat} {e : Int} {v : Value} {m : Bool} (h : RW V p e v m) (hb : Below V.heap.size V V') : RW V' p e v m := h.kept (hb.block p h.lt)
theorem askE_right {l : List EN} (ok : ∀ e ∈ l, e.ok) (c s : Nat) : rightR (askE l c s).1 = true := by
  have hz : rightR zRV = true := by decide
  cases hf : fnd l c with
  | none => rw [askE_none hf]; exact hz
  | some i =>
    obtain ⟨hi, _⟩ := fnd_some hf
    by_cases h1 : s < l[i].st
    · rw [askE_stale hf hi h1]; exact hz
    · by_cases h2 : l[i].st < s
      · rw [askE_missing hf hi h2]; exact hz
      · rw [askE_ok hf hi (by omega)]
        exact (ok _ (List.getElem_mem hi)).right
theorem newY_en (ns : List Nat) : (ns.map newY).map LA.en = newT ns := by
  unfold newT
  rw [List.map_map]
  rfl
set_option maxRecDepth 100000 in
set_option maxHeartbeats 16000000 in
theorem sessionPlays_any (w : World) (ao : Option Addr) (n cap : Nat) (ns : List Nat) (h : NL w ao n cap ns) (bo : Option Addr) (m cap2 : Nat) (ls : List LA) (L : LL12 w bo m cap2 ls) (sm : ∀ y ∈ ls, y.small) (xo : Option Addr) (mc3 cap3 : Nat) (aks : List LA) (A : LL12 w xo mc3 cap3 aks) (hT : Tabs w) :
    Calls Tryd.prog 3 #[.slice ao n cap, .slice bo m cap2, .slice xo mc3 cap3] w fun e w' => e = .returned (.bool true) ∧ Below w.heap.size w w' := by
  have t2 := hT.two
  have hl := h.len
  have hmx := h.mx
  have hle := h.le
  have hnx : (n : Int) ≤ 9223372036854775807 := by unfold maxLen at hmx; omega
  have hxm := A.mx
  have hxl := A.le
  have hxx : (mc3 : Int) ≤ 9223372036854775807 := by unfold maxLen at hxm; omega
  have lm := L.len
  have lm3 := A.len
  have BW : Below w.heap.size w w := Below.refl _ _
  go_enter Tryd.func3, Tryd.ntmps3
  by_cases hb : 100 < n
  · have i1 : (100 : Int) < (n : Int) := by omega
    clear hb
    have CA := alive12 w
    go_wp2_with fail
    refine CA.mono ?_
    rintro x w5 ⟨rfl, C5⟩
    have B5 := BW.trans (C5.mono BW.size)
    clear CA
    go_wp2
    go_ret
    exact ⟨rfl, B5⟩
  have i1 : (n : Int) ≤ 100 := by omega
  have CC := llight_any w bo m cap2 ls L sm
  go_wp2_with fail
  refine CC.mono ?_
  rintro x w1 ⟨rfl, B1⟩
  clear CC
  cases hlt : lightL ls with
  | false =>
    clear hlt
    have CA := alive12 w1
    go_wp2_with fail
    refine CA.mono ?_
    rintro x w5 ⟨rfl, C5⟩
    have B5 := B1.trans (C5.mono B1.size)
    clear CA
    go_wp2
    go_ret
    exact ⟨rfl, B5⟩
  | true =>
    have hm40 : m ≤ 40 := by
      unfold lightL at hlt
      have := of_decide_eq_true (Bool.and_eq_true_iff.1 hlt).1
      omega
    have hmi : (m : Int) ≤ 40 := by omega
    clear hlt sm
    by_cases hx2 : 40 < mc3
    · have i2 : (40 : Int) < (mc3 : Int) := by omega
      clear hx2
      have CA := alive12 w1
      go_wp2_with fail
      refine CA.mono ?_
      rintro x w5 ⟨rfl, C5⟩
      have B5 := B1.trans (C5.mono B1.size)
      clear CA
      go_wp2
      go_ret
      exact ⟨rfl, B5⟩
    have i2 : (mc3 : Int) ≤ 40 := by omega
    have h1 := h.below B1
    clear h
    by_cases hj : jdg ns = 0
    · have hn8 : n ≤ 8 := by
        unfold jdg at hj
        by_cases q : 1 ≤ ns.length ∧ ns.length ≤ 8 ∧ riseF 0 ns = true
        · omega
        · rw [if_neg q] at hj
          cases hj
      have CN := cNew_good w1 ao n cap ns h1 hj
      go_wp2_with fail
      refine CN.mono ?_
      rintro x w2 ⟨p, g, rfl, T, hp, hg1, C2⟩
      have hg : w.heap.size ≤ g := Nat.le_trans B1.size hg1
      have B2 := B1.trans (C2.mono B1.size)
      have h2 := h1.below C2
      clear CN h1 hp hg1 C2
      have CR := rright12 w2 ao n cap ns h2 (by omega)
      have hjb : (jdg ns == 0) = true := by rw [hj]; rfl
      rw [hjb] at CR
      go_wp2_with fail
      refine CR.mono ?_
      rintro x w3 ⟨rfl, C3⟩
      have T := T.below C3
      have B3 := B2.trans (C3.mono B2.size)
      have h3 := h2.below C3
      clear CR C3 h2 B2 hjb hj
      have CA := alive12 w3
      go_wp2_with fail
      refine CA.mono ?_
      rintro x w4 ⟨rfl, C4⟩
      have T := T.below C4
      have B4 := B3.trans (C4.mono B3.size)
      have h4 := h3.below C4
      clear CA C4 h3 B3
      have CW := rnew12 w4 ao n cap ns h4 (by omega)
      go_wp2_with fail
      refine CW.mono ?_
      rintro x w5 ⟨ro, rc, rfl, M, C5, hlo⟩
      have gx := T.glt
      have T := T.below C5
      have B := B4.trans (C5.mono B4.size)
      have HLO : Hid (∀ z, LLb ro n (ns.map newY) z → z < w.heap.size ∨ g < z) := fun z hz => .inr (by have := hlo z hz; omega)
      have HZ : Hid ((ns.map newY).map LA.en = newT ns) := newY_en ns
      clear CW C5 h4 B4 hlo gx
      go_wp2_with fail
      go_loopw [9, 10] (fun mv i wr => ∃ (k : Nat) (l : List EN) (mo : Option Addr) (nn mc : Nat) (zs : List LA), k ≤ m ∧ i = .int .i64 k ∧ mv = .slice mo nn mc ∧ TS wr p g l ∧ LL12 wr mo nn mc zs ∧ Hid (zs.map LA.en = l) ∧ Hid (∀ z, LLb mo nn zs z → z < w.heap.size ∨ g < z) ∧ Below w.heap.size w wr) (fun _ i _ => m - (intOf i).toNat)
      case atStart => exact ⟨0, _, ro, n, rc, _, Nat.zero_le _, rfl, rfl, T, M, HZ, HLO, B⟩
      case round =>
        clear T M HZ HLO B
        obtain ⟨k, l, mo, nn, mc, zs, hk, rfl, rfl, T, M, HZ, HLO, B⟩ := hrel
        have n8 := T.n8
        have hnn : nn = l.length := by
          have e1 := M.len
          have e2 := congrArg List.length HZ.out
          rw [List.length_map] at e2
          omega
        by_cases hkm : k < m
        · have hki : (k : Int) < (m : Int) := by omega
          have hkl : k < ls.length := by omega
          obtain ⟨b, off, rfl, hc⟩ := L.at (by omega)
          have XX := hc k hkl
          have hok := L.ok _ (List.getElem_mem hkl)
          obtain ⟨y, hy⟩ : ∃ y, y = ls[k] := ⟨_, rfl⟩
          rw [← hy] at XX hok
          clear hy hc
          have HS : Hid (∀ V, Below w.heap.size w V → V.cell? ⟨b, off + k * 5, none⟩ = some (.int .u64 y.cl) ∧ V.cell? ⟨b, off + k * 5 + 1, none⟩ = some (.int .u64 y.st) ∧ V.cell? ⟨b, off + k * 5 + 2, none⟩ = some (.int .i64 y.e) ∧ V.cell? ⟨b, off + k * 5 + 3, none⟩ = some (.slice y.ao y.n y.cap) ∧ V.cell? ⟨b, off + k * 5 + 4, none⟩ = some (.bool y.m)) := fun V hV => ⟨(XX.below hV).c0, (XX.below hV).c1, (XX.below hV).c2, (XX.below hV).c3, (XX.below hV).c4⟩
          go_wp2_with fail
          have xE0 : Below w.heap.size w wr.drew := B.trans ((Below.refl _ _).drew)
          refine wp_region_noPanic ?_
          refine wp_region_held_drew (S := fun V => V.cell? ⟨b, off + k * 5, none⟩ = some (.int .u64 y.cl) ∧ V.cell? ⟨b, off + k * 5 + 1, none⟩ = some (.int .u64 y.st) ∧ V.cell? ⟨b, off + k * 5 + 2, none⟩ = some (.int .i64 y.e) ∧ V.cell? ⟨b, off + k * 5 + 3, none⟩ = some (.slice y.ao y.n y.cap) ∧ V.cell? ⟨b, off + k * 5 + 4, none⟩ = some (.bool y.m)) (by kernel_rfl) (HS.out _ xE0) (fun xH0 => ?_)
          have T := T.below (Below.refl _ _).drew
          have M := M.below (Below.refl _ _).drew
          obtain ⟨xv0, hv0⟩ : ∃ v, v = wr.drew := ⟨_, rfl⟩
          rw [← hv0] at xH0 xE0 T M ⊢
          clear hv0
          refine hr_take_w 0 (some 67) (.slice mo nn mc) rfl rfl (by kernel_rfl) (by kernel_rfl) (by kernel_rfl) rfl (fun W hW => by obtain ⟨h0, h1, h2, h3, h4⟩ := hW; go_simp) xH0 ?_
          simp only [FL]
          refine hr_take_w 1 (some 68) (.slice (some ⟨b, off, none⟩) m cap2) rfl rfl (by kernel_rfl) (by kernel_rfl) (by kernel_rfl) rfl (fun W hW => by obtain ⟨h0, h1, h2, h3, h4⟩ := hW; go_simp) xH0 ?_
          simp only [FL]
          refine hr_take_w 2 (some 69) (.int .i64 (k : Nat)) rfl rfl (by kernel_rfl) (by kernel_rfl) (by kernel_rfl) rfl (fun W hW => by obtain ⟨h0, h1, h2, h3, h4⟩ := hW; go_simp) xH0 ?_
          simp only [FL]
          refine hr_take_w 3 (some 70) (.pointer (some ⟨b, off + k * 5, none⟩)) rfl rfl (by kernel_rfl) (by kernel_rfl) (by kernel_rfl) rfl (fun W hW => by obtain ⟨h0, h1, h2, h3, h4⟩ := hW; go_simp) xH0 ?_
          simp only [FL]
          refine hr_take_w 4 (some 71) (.pointer (some ⟨b, off + k * 5, none⟩)) rfl rfl (by kernel_rfl) (by kernel_rfl) (by kernel_rfl) rfl (fun W hW => by obtain ⟨h0, h1, h2, h3, h4⟩ := hW; go_simp) xH0 ?_
          simp only [FL]
          refine hr_take_w 5 (some 72) (.int .u64 y.cl) rfl rfl (by kernel_rfl) (by kernel_rfl) (by kernel_rfl) rfl (fun W hW => by obtain ⟨h0, h1, h2, h3, h4⟩ := hW; go_simp) xH0 ?_
          simp only [FL]
          refine hr_take_w 6 (some 73) (.slice (some ⟨b, off, none⟩) m cap2) rfl rfl (by kernel_rfl) (by kernel_rfl) (by kernel_rfl) rfl (fun W hW => by obtain ⟨h0, h1, h2, h3, h4⟩ := hW; go_simp) xH0 ?_
          simp only [FL]
          refine hr_take_w 7 (some 74) (.int .i64 (k : Nat)) rfl rfl (by kernel_rfl) (by kernel_rfl) (by kernel_rfl) rfl (fun W hW => by obtain ⟨h0, h1, h2, h3, h4⟩ := hW; go_simp) xH0 ?_
          simp only [FL]
          refine hr_take_w 8 (some 75) (.pointer (some ⟨b, off + k * 5, none⟩)) rfl rfl (by kernel_rfl) (by kernel_rfl) (by kernel_rfl) rfl (fun W hW => by obtain ⟨h0, h1, h2, h3, h4⟩ := hW; go_simp) xH0 ?_
          simp only [FL]
          refine hr_take_w 9 (some 76) (.pointer (some ⟨b, off + k * 5 + 1, none⟩)) rfl rfl (by kernel_rfl) (by kernel_rfl) (by kernel_rfl) rfl (fun W hW => by obtain ⟨h0, h1, h2, h3, h4⟩ := hW; go_simp) xH0 ?_
          simp only [FL]
          refine hr_take_w 10 (some 77) (.int .u64 y.st) rfl rfl (by kernel_rfl) (by kernel_rfl) (by kernel_rfl) rfl (fun W hW => by obtain ⟨h0, h1, h2, h3, h4⟩ := hW; go_simp) xH0 ?_
          simp only [FL]
          refine hr_take_w 11 (some 78) (.slice (some ⟨b, off, none⟩) m cap2) rfl rfl (by kernel_rfl) (by kernel_rfl) (by kernel_rfl) rfl (fun W hW => by obtain ⟨h0, h1, h2, h3, h4⟩ := hW; go_simp) xH0 ?_
          simp only [FL]
          refine hr_take_w 12 (some 79) (.int .i64 (k : Nat)) rfl rfl (by kernel_rfl) (by kernel_rfl) (by kernel_rfl) rfl (fun W hW => by obtain ⟨h0, h1, h2, h3, h4⟩ := hW; go_simp) xH0 ?_
          simp only [FL]
          refine hr_take_w 13 (some 80) (.pointer (some ⟨b, off + k * 5, none⟩)) rfl rfl (by kernel_rfl) (by kernel_rfl) (by kernel_rfl) rfl (fun W hW => by obtain ⟨h0, h1, h2, h3, h4⟩ := hW; go_simp) xH0 ?_
          simp only [FL]
          refine hr_take_w 14 (some 81) (.pointer (some ⟨b, off + k * 5 + 2, none⟩)) rfl rfl (by kernel_rfl) (by kernel_rfl) (by kernel_rfl) rfl (fun W hW => by obtain ⟨h0, h1, h2, h3, h4⟩ := hW; go_simp) xH0 ?_
          simp only [FL]
          refine hr_take_w 15 (some 82) (.agg #[.int .i64 y.e, .slice y.ao y.n y.cap, .bool y.m]) rfl rfl (by kernel_rfl) (by kernel_rfl) (by kernel_rfl) rfl (fun W hW => by obtain ⟨h0, h1, h2, h3, h4⟩ := hW; go_simp) xH0 ?_
          simp only [FL]
          refine hr_call_w 16 (some 83) 9 #[.slice mo nn mc, .int .u64 y.cl, .int .u64 y.st, .agg #[.int .i64 y.e, .slice y.ao y.n y.cap, .bool y.m]] rfl rfl (by kernel_rfl) rfl (by go_simp) (fun v w' => ∃ (ro : Option Addr) (rn rc : Nat) (us : List LA), v = .tuple #[.slice ro rn rc, .int .i64 (putE l y.cl y.st (resR y.e y.cs y.m)).2] ∧ LL12 w' ro rn rc us ∧ us.map LA.en = (putE l y.cl y.st (resR y.e y.cs y.m)).1 ∧ Below xv0.heap.size xv0 w' ∧ ∀ z, LLb ro rn us z → (z < w.heap.size ∨ g < z) ∨ xv0.heap.size ≤ z) ((rPut12 xv0 mo nn mc y.cl y.st zs l M HZ.out (by omega) hok.cl hok.st y.e y.ao y.n y.cap y.cs y.m (hok.cs.below xE0) (fun z => z < w.heap.size ∨ g < z) HLO.out (fun z hz => .inl (hok.blk_lt hz))).mono (by
            rintro e w' ⟨ro, rn, rc, us, rfl, F1, F2, C, F3⟩
            exact ⟨_, rfl, ro, rn, rc, us, rfl, F1, F2, C, F3⟩)) ?_
          rintro v xv1 ⟨ro, rn, rc, us, rfl, M1, hus, xC, hlo⟩
          have xE1 := xE0.trans (xC.mono xE0.size)
          have gx := T.glt
          have T := T.below xC
          have HLO2 : Hid (∀ z, LLb ro rn us z → z < w.heap.size ∨ g < z) := fun z hz => by
            rcases hlo z hz with q | q
            · exact q
            · exact .inr (by omega)
          refine ⟨HS.out xv1 xE1, ?_⟩
          simp only [FL]
          have xH1 := HS.out xv1 xE1
          refine hr_take_w 17 (some 66) (.tuple #[.slice ro rn rc, .int .i64 (putE l y.cl y.st (resR y.e y.cs y.m)).2]) rfl rfl (by kernel_rfl) (by kernel_rfl) (by kernel_rfl) rfl (fun W hW => by obtain ⟨h0, h1, h2, h3, h4⟩ := hW; go_simp) xH1 ?_
          simp only [FL]
          refine hr_take_w 18 (some 84) (.slice ro rn rc) rfl rfl (by kernel_rfl) (by kernel_rfl) (by kernel_rfl) rfl (fun W hW => by obtain ⟨h0, h1, h2, h3, h4⟩ := hW; go_simp) xH1 ?_
          simp only [FL]
          refine hr_take_w 19 (some 85) (.int .i64 (putE l y.cl y.st (resR y.e y.cs y.m)).2) rfl rfl (by kernel_rfl) (by kernel_rfl) (by kernel_rfl) rfl (fun W hW => by obtain ⟨h0, h1, h2, h3, h4⟩ := hW; go_simp) xH1 ?_
          simp only [FL]
          refine hr_take_w 20 (some 11) (.slice ro rn rc) rfl rfl (by kernel_rfl) (by kernel_rfl) (by kernel_rfl) rfl (fun W hW => by obtain ⟨h0, h1, h2, h3, h4⟩ := hW; go_simp) xH1 ?_
          simp only [FL]
          refine hr_take_w 21 (some 12) (.int .i64 (putE l y.cl y.st (resR y.e y.cs y.m)).2) rfl rfl (by kernel_rfl) (by kernel_rfl) (by kernel_rfl) rfl (fun W hW => by obtain ⟨h0, h1, h2, h3, h4⟩ := hW; go_simp) xH1 ?_
          simp only [FL]
          refine wpAnyH_done (by kernel_rfl) ?_ _
          refine NoPanic.normal ?_
          clear xH0 xH1 xC hlo gx B
          go_wp2_with fail
          have yE0 : Below w.heap.size w xv1.drew := xE1.trans ((Below.refl _ _).drew)
          refine wp_region_noPanic ?_
          refine wp_region_held_drew (S := fun V => V.cell? ⟨b, off + k * 5, none⟩ = some (.int .u64 y.cl) ∧ V.cell? ⟨b, off + k * 5 + 1, none⟩ = some (.int .u64 y.st) ∧ V.cell? ⟨b, off + k * 5 + 2, none⟩ = some (.int .i64 y.e) ∧ V.cell? ⟨b, off + k * 5 + 3, none⟩ = some (.slice y.ao y.n y.cap) ∧ V.cell? ⟨b, off + k * 5 + 4, none⟩ = some (.bool y.m)) (by kernel_rfl) (HS.out _ yE0) (fun yH0 => ?_)
          have T := T.below (Below.refl _ _).drew
          have M1 := M1.below (Below.refl _ _).drew
          obtain ⟨yv0, hv0⟩ : ∃ v, v = xv1.drew := ⟨_, rfl⟩
          rw [← hv0] at yH0 yE0 T M1 ⊢
          clear hv0
          refine hr_take_w 0 (some 86) (.pointer (some ⟨p, 0, none⟩)) rfl rfl (by kernel_rfl) (by kernel_rfl) (by kernel_rfl) rfl (fun W hW => by obtain ⟨h0, h1, h2, h3, h4⟩ := hW; go_simp) yH0 ?_
          simp only [FL]
          refine hr_take_w 1 (some 87) (.slice (some ⟨b, off, none⟩) m cap2) rfl rfl (by kernel_rfl) (by kernel_rfl) (by kernel_rfl) rfl (fun W hW => by obtain ⟨h0, h1, h2, h3, h4⟩ := hW; go_simp) yH0 ?_
          simp only [FL]
          refine hr_take_w 2 (some 88) (.int .i64 (k : Nat)) rfl rfl (by kernel_rfl) (by kernel_rfl) (by kernel_rfl) rfl (fun W hW => by obtain ⟨h0, h1, h2, h3, h4⟩ := hW; go_simp) yH0 ?_
          simp only [FL]
          refine hr_take_w 3 (some 89) (.pointer (some ⟨b, off + k * 5, none⟩)) rfl rfl (by kernel_rfl) (by kernel_rfl) (by kernel_rfl) rfl (fun W hW => by obtain ⟨h0, h1, h2, h3, h4⟩ := hW; go_simp) yH0 ?_
          simp only [FL]
          refine hr_take_w 4 (some 90) (.pointer (some ⟨b, off + k * 5, none⟩)) rfl rfl (by kernel_rfl) (by kernel_rfl) (by kernel_rfl) rfl (fun W hW => by obtain ⟨h0, h1, h2, h3, h4⟩ := hW; go_simp) yH0 ?_
          simp only [FL]
          refine hr_take_w 5 (some 91) (.int .u64 y.cl) rfl rfl (by kernel_rfl) (by kernel_rfl) (by kernel_rfl) rfl (fun W hW => by obtain ⟨h0, h1, h2, h3, h4⟩ := hW; go_simp) yH0 ?_
          simp only [FL]
          refine hr_take_w 6 (some 92) (.slice (some ⟨b, off, none⟩) m cap2) rfl rfl (by kernel_rfl) (by kernel_rfl) (by kernel_rfl) rfl (fun W hW => by obtain ⟨h0, h1, h2, h3, h4⟩ := hW; go_simp) yH0 ?_
          simp only [FL]
          refine hr_take_w 7 (some 93) (.int .i64 (k : Nat)) rfl rfl (by kernel_rfl) (by kernel_rfl) (by kernel_rfl) rfl (fun W hW => by obtain ⟨h0, h1, h2, h3, h4⟩ := hW; go_simp) yH0 ?_
          simp only [FL]
          refine hr_take_w 8 (some 94) (.pointer (some ⟨b, off + k * 5, none⟩)) rfl rfl (by kernel_rfl) (by kernel_rfl) (by kernel_rfl) rfl (fun W hW => by obtain ⟨h0, h1, h2, h3, h4⟩ := hW; go_simp) yH0 ?_
          simp only [FL]
          refine hr_take_w 9 (some 95) (.pointer (some ⟨b, off + k * 5 + 1, none⟩)) rfl rfl (by kernel_rfl) (by kernel_rfl) (by kernel_rfl) rfl (fun W hW => by obtain ⟨h0, h1, h2, h3, h4⟩ := hW; go_simp) yH0 ?_
          simp only [FL]
          refine hr_take_w 10 (some 96) (.int .u64 y.st) rfl rfl (by kernel_rfl) (by kernel_rfl) (by kernel_rfl) rfl (fun W hW => by obtain ⟨h0, h1, h2, h3, h4⟩ := hW; go_simp) yH0 ?_
          simp only [FL]
          refine hr_take_w 11 (some 97) (.slice (some ⟨b, off, none⟩) m cap2) rfl rfl (by kernel_rfl) (by kernel_rfl) (by kernel_rfl) rfl (fun W hW => by obtain ⟨h0, h1, h2, h3, h4⟩ := hW; go_simp) yH0 ?_
          simp only [FL]
          refine hr_take_w 12 (some 98) (.int .i64 (k : Nat)) rfl rfl (by kernel_rfl) (by kernel_rfl) (by kernel_rfl) rfl (fun W hW => by obtain ⟨h0, h1, h2, h3, h4⟩ := hW; go_simp) yH0 ?_
          simp only [FL]
          refine hr_take_w 13 (some 99) (.pointer (some ⟨b, off + k * 5, none⟩)) rfl rfl (by kernel_rfl) (by kernel_rfl) (by kernel_rfl) rfl (fun W hW => by obtain ⟨h0, h1, h2, h3, h4⟩ := hW; go_simp) yH0 ?_
          simp only [FL]
          refine hr_take_w 14 (some 100) (.pointer (some ⟨b, off + k * 5 + 2, none⟩)) rfl rfl (by kernel_rfl) (by kernel_rfl) (by kernel_rfl) rfl (fun W hW => by obtain ⟨h0, h1, h2, h3, h4⟩ := hW; go_simp) yH0 ?_
          simp only [FL]
          refine hr_take_w 15 (some 101) (.agg #[.int .i64 y.e, .slice y.ao y.n y.cap, .bool y.m]) rfl rfl (by kernel_rfl) (by kernel_rfl) (by kernel_rfl) rfl (fun W hW => by obtain ⟨h0, h1, h2, h3, h4⟩ := hW; go_simp) yH0 ?_
          simp only [FL]
          refine hr_take_w 17 (some 103) (.int .i64 (putE l y.cl y.st (resR y.e y.cs y.m)).2) rfl rfl (by kernel_rfl) (by kernel_rfl) (by kernel_rfl) rfl (fun W hW => by obtain ⟨h0, h1, h2, h3, h4⟩ := hW; go_simp) yH0 ?_
          simp only [FL]
          refine hr_call_w 16 (some 102) 10 #[.pointer (some ⟨p, 0, none⟩), .int .u64 y.cl, .int .u64 y.st, .agg #[.int .i64 y.e, .slice y.ao y.n y.cap, .bool y.m]] rfl rfl (by kernel_rfl) rfl (by go_simp) (fun v w' => v = .int .i64 (putE l y.cl y.st (resR y.e y.cs y.m)).2 ∧ TS w' p g (putE l y.cl y.st (resR y.e y.cs y.m)).1 ∧ yv0.grownBy w' (some g)) ((cPut_any yv0 p g y.cl y.st l T hok.cl hok.st y.e y.ao y.n y.cap y.cs y.m (hok.cs.below yE0)).mono (by
            rintro e w' ⟨rfl, F, C⟩
            exact ⟨_, rfl, rfl, F, C⟩)) ?_
          rintro v yv1 ⟨rfl, yF, yG⟩
          have yE1 := yE0.grown yG yE0.size (fun _ e => by cases e; exact hg)
          have M2 : LL12 yv1 ro rn rc us := M1.kept fun z hz => yG.block z (M1.blk_lt hz) (by
            rcases HLO2.out z hz with q | q
            · simp; omega
            · simp; omega)
          refine ⟨HS.out yv1 yE1, ?_⟩
          have yH1 := HS.out yv1 yE1
          simp only [FL]
          refine hr_take_w 18 (some 104) (.bool false) rfl rfl (by kernel_rfl) (by kernel_rfl) (by kernel_rfl) rfl (fun W hW => by obtain ⟨h0, h1, h2, h3, h4⟩ := hW; go_simp) yH1 ?_
          simp only [FL]
          refine wpAnyH_done (by kernel_rfl) ?_ _
          refine NoPanic.normal ?_
          have T2 := yF
          clear yH0 yH1 yF yG
          have hl2 : (putE l y.cl y.st (resR y.e y.cs y.m)).1.length = l.length := by
            have := congrArg List.length (putE_cl l y.cl y.st (resR y.e y.cs y.m))
            rw [List.length_map, List.length_map] at this
            exact this
          have hrn : rn ≤ 8 := by
            have e1 := M2.len
            have e2 := congrArg List.length hus
            rw [List.length_map] at e2
            omega
          by_cases hka : k < mc3
          · have hka1 : (k : Int) < (mc3 : Int) := by omega
            have hkl3 : k < aks.length := by omega
            obtain ⟨b3, o3, rfl, hc3⟩ := A.at (by omega)
            have X3 := hc3 k hkl3
            obtain ⟨q, hq⟩ : ∃ y, y = aks[k] := ⟨_, rfl⟩
            rw [← hq] at X3
            clear hq hc3
            have X3 := X3.below yE1
            go_wp2_with fail
            have aHS : Hid (∀ V, Below yv1.heap.size yv1 V → V.cell? ⟨b3, o3 + k * 5, none⟩ = some (.int .u64 q.cl) ∧ V.cell? ⟨b3, o3 + k * 5 + 1, none⟩ = some (.int .u64 q.st)) := fun V hV => ⟨(X3.below hV).c0, (X3.below hV).c1⟩
            have aE0 : Below yv1.heap.size yv1 yv1.drew := (Below.refl _ _).drew
            refine wp_region_noPanic ?_
            refine wp_region_held_drew (S := fun V => V.cell? ⟨b3, o3 + k * 5, none⟩ = some (.int .u64 q.cl) ∧ V.cell? ⟨b3, o3 + k * 5 + 1, none⟩ = some (.int .u64 q.st)) (by kernel_rfl) (aHS.out _ aE0) (fun aH0 => ?_)
            obtain ⟨av0, hv0⟩ : ∃ v, v = yv1.drew := ⟨_, rfl⟩
            rw [← hv0] at aH0 aE0 ⊢
            clear hv0
            refine hr_take_w 0 (some 111) (.pointer (some ⟨p, 0, none⟩)) rfl rfl (by kernel_rfl) (by kernel_rfl) (by kernel_rfl) rfl (fun W hW => by obtain ⟨h0, h1⟩ := hW; go_simp) aH0 ?_
            simp only [FL]
            refine hr_take_w 1 (some 112) (.slice (some ⟨b3, o3, none⟩) mc3 cap3) rfl rfl (by kernel_rfl) (by kernel_rfl) (by kernel_rfl) rfl (fun W hW => by obtain ⟨h0, h1⟩ := hW; go_simp) aH0 ?_
            simp only [FL]
            refine hr_take_w 2 (some 113) (.int .i64 (k : Nat)) rfl rfl (by kernel_rfl) (by kernel_rfl) (by kernel_rfl) rfl (fun W hW => by obtain ⟨h0, h1⟩ := hW; go_simp) aH0 ?_
            simp only [FL]
            refine hr_take_w 3 (some 114) (.pointer (some ⟨b3, o3 + k * 5, none⟩)) rfl rfl (by kernel_rfl) (by kernel_rfl) (by kernel_rfl) rfl (fun W hW => by obtain ⟨h0, h1⟩ := hW; go_simp) aH0 ?_
            simp only [FL]
            refine hr_take_w 4 (some 115) (.pointer (some ⟨b3, o3 + k * 5, none⟩)) rfl rfl (by kernel_rfl) (by kernel_rfl) (by kernel_rfl) rfl (fun W hW => by obtain ⟨h0, h1⟩ := hW; go_simp) aH0 ?_
            simp only [FL]
            refine hr_take_w 5 (some 116) (.int .u64 q.cl) rfl rfl (by kernel_rfl) (by kernel_rfl) (by kernel_rfl) rfl (fun W hW => by obtain ⟨h0, h1⟩ := hW; go_simp) aH0 ?_
            simp only [FL]
            refine hr_take_w 6 (some 117) (.slice (some ⟨b3, o3, none⟩) mc3 cap3) rfl rfl (by kernel_rfl) (by kernel_rfl) (by kernel_rfl) rfl (fun W hW => by obtain ⟨h0, h1⟩ := hW; go_simp) aH0 ?_
            simp only [FL]
            refine hr_take_w 7 (some 118) (.int .i64 (k : Nat)) rfl rfl (by kernel_rfl) (by kernel_rfl) (by kernel_rfl) rfl (fun W hW => by obtain ⟨h0, h1⟩ := hW; go_simp) aH0 ?_
            simp only [FL]
            refine hr_take_w 8 (some 119) (.pointer (some ⟨b3, o3 + k * 5, none⟩)) rfl rfl (by kernel_rfl) (by kernel_rfl) (by kernel_rfl) rfl (fun W hW => by obtain ⟨h0, h1⟩ := hW; go_simp) aH0 ?_
            simp only [FL]
            refine hr_take_w 9 (some 120) (.pointer (some ⟨b3, o3 + k * 5 + 1, none⟩)) rfl rfl (by kernel_rfl) (by kernel_rfl) (by kernel_rfl) rfl (fun W hW => by obtain ⟨h0, h1⟩ := hW; go_simp) aH0 ?_
            simp only [FL]
            refine hr_take_w 10 (some 121) (.int .u64 q.st) rfl rfl (by kernel_rfl) (by kernel_rfl) (by kernel_rfl) rfl (fun W hW => by obtain ⟨h0, h1⟩ := hW; go_simp) aH0 ?_
            simp only [FL]
            refine hr_two (i := 11) (j := 15) (by kernel_rfl) ?_ ?_
            · refine op_calls 11 (some 122) 11 #[.pointer (some ⟨p, 0, none⟩), .int .u64 q.cl, .int .u64 q.st] rfl rfl rfl (by go_simp) (fun v w' => ∃ (q0 : Int) (ao : Option Addr) (n cap : Nat) (cs : List CA) (m : Bool), v = .tuple #[.agg #[.int .i64 q0, .slice ao n cap, .bool m], .int .i64 (askE (putE l y.cl y.st (resR y.e y.cs y.m)).1 q.cl q.st).2] ∧ CL w' ao n cap cs ∧ (askE (putE l y.cl y.st (resR y.e y.cs y.m)).1 q.cl q.st).1 = resR q0 cs m ∧ Below av0.heap.size av0 w') ((cAsk_any av0 p g q.cl q.st (putE l y.cl y.st (resR y.e y.cs y.m)).1 (T2.below aE0)).mono (by
                rintro e w' ⟨q0, ao, n, cap, cs, m, rfl, F1, F2, C⟩
                exact ⟨_, rfl, q0, ao, n, cap, cs, m, rfl, F1, F2, C⟩)) ?_
              rintro v av1 ⟨aq, ao, an, ac, acs, am, rfl, aL, aR, aU1⟩
              have aE1 := aE0.trans (aU1.mono aE0.size)
              have aH1 := aHS.out av1 aE1
              refine ⟨aH1, ?_⟩
              simp only [FL]
              refine hr_take_w 12 (some 110) (.tuple #[.agg #[.int .i64 aq, .slice ao an ac, .bool am], .int .i64 (askE (putE l y.cl y.st (resR y.e y.cs y.m)).1 q.cl q.st).2]) rfl rfl (by kernel_rfl) (by kernel_rfl) (by kernel_rfl) rfl (fun W hW => by obtain ⟨h0, h1⟩ := hW; go_simp) aH1 ?_
              simp only [FL]
              refine hr_take_w 13 (some 123) (.agg #[.int .i64 aq, .slice ao an ac, .bool am]) rfl rfl (by kernel_rfl) (by kernel_rfl) (by kernel_rfl) rfl (fun W hW => by obtain ⟨h0, h1⟩ := hW; go_simp) aH1 ?_
              simp only [FL]
              refine hr_take_w 14 (some 124) (.int .i64 (askE (putE l y.cl y.st (resR y.e y.cs y.m)).1 q.cl q.st).2) rfl rfl (by kernel_rfl) (by kernel_rfl) (by kernel_rfl) rfl (fun W hW => by obtain ⟨h0, h1⟩ := hW; go_simp) aH1 ?_
              simp only [FL]
              refine hr_ex 15 (some 13) rfl rfl (by kernel_rfl) rfl (R := fun v w' => ∃ N, v = .pointer (some ⟨N, 0, none⟩) ∧ RW w' N 0 (.slice none 0 0) false ∧ yv1.heap.size ≤ N ∧ Below av1.heap.size av1 w') ⟨_, av1.alloc (.cells #[.int .i64 0, .slice none 0 0, .bool false] 37), by go_simp, _, rfl, heap_alloc_new _ _, aE1.size, (Below.refl _ _).alloc (Nat.le_refl _) _⟩ ?_
              rintro v av2 ⟨aN, rfl, aK0, ahN, aU2⟩
              have aE2 := aE1.trans (aU2.mono aE1.size)
              have aH2 := aHS.out av2 aE2
              have aL := aL.below aU2
              refine ⟨aH2, ?_⟩
              simp only [FL]
              have r0 := aK0.c0
              have r1 := aK0.c1
              have r2 := aK0.c2
              have f0 := aK0.fz 0
              have f1 := aK0.fz 1
              have f2 := aK0.fz 2
              obtain ⟨aK, aL, aX⟩ := aK0.set3 (Below.refl aN av2) aq ao an ac acs am aL
              have aC3 := aE2.trans (aX.mono ahN)
              have aH3 := aHS.out _ aC3
              refine hr_skip 16 none (w' := ((av2.setCell ⟨aN, 0, none⟩ (.int .i64 aq)).setCell ⟨aN, 1, none⟩ (.slice ao an ac)).setCell ⟨aN, 2, none⟩ (.bool am)) rfl rfl (by kernel_rfl) rfl (by go_simp) aH3 ?_
              simp only [Act.put]
              refine hr_take_w 17 (some 14) (.int .i64 (askE (putE l y.cl y.st (resR y.e y.cs y.m)).1 q.cl q.st).2) rfl rfl (by kernel_rfl) (by kernel_rfl) (by kernel_rfl) rfl (fun W hW => by obtain ⟨h0, h1⟩ := hW; go_simp) aH3 ?_
              simp only [FL]
              refine wpAnyH_done (by kernel_rfl) ?_ _
              refine NoPanic.normal ?_
              have aE3 := yE1.trans (aC3.mono yE1.size)
              clear r0 r1 r2 f0 f1 f2 aK0 aX aH0 aH1 aH2 aH3 aHS
              obtain ⟨aw, haw⟩ : ∃ W, W = ((av2.setCell ⟨aN, 0, none⟩ (.int .i64 aq)).setCell ⟨aN, 1, none⟩ (.slice ao an ac)).setCell ⟨aN, 2, none⟩ (.bool am) := ⟨_, rfl⟩
              rw [← haw] at aK aL aC3 aE3 ⊢
              clear haw aE0 aE1 aE2 ahN aU1 aU2
              have T2 := T2.below aC3
              have M2 := M2.below aC3
              have X3 := X3.below aC3
              clear aC3
              go_wp2_with fail
              have bHS : Hid (∀ V, Below aw.heap.size aw V → V.cell? ⟨b3, o3 + k * 5, none⟩ = some (.int .u64 q.cl) ∧ V.cell? ⟨b3, o3 + k * 5 + 1, none⟩ = some (.int .u64 q.st)) := fun V hV => ⟨(X3.below hV).c0, (X3.below hV).c1⟩
              have bE0 : Below aw.heap.size aw aw.drew := (Below.refl _ _).drew
              refine wp_region_noPanic ?_
              refine wp_region_held_drew (S := fun V => V.cell? ⟨b3, o3 + k * 5, none⟩ = some (.int .u64 q.cl) ∧ V.cell? ⟨b3, o3 + k * 5 + 1, none⟩ = some (.int .u64 q.st)) (by kernel_rfl) (bHS.out _ bE0) (fun bH0 => ?_)
              obtain ⟨bv0, hv0⟩ : ∃ v, v = aw.drew := ⟨_, rfl⟩
              rw [← hv0] at bH0 bE0 ⊢
              clear hv0
              refine hr_take_w 0 (some 126) (.slice ro rn rc) rfl rfl (by kernel_rfl) (by kernel_rfl) (by kernel_rfl) rfl (fun W hW => by obtain ⟨h0, h1⟩ := hW; go_simp) bH0 ?_
              simp only [FL]
              refine hr_take_w 1 (some 127) (.slice (some ⟨b3, o3, none⟩) mc3 cap3) rfl rfl (by kernel_rfl) (by kernel_rfl) (by kernel_rfl) rfl (fun W hW => by obtain ⟨h0, h1⟩ := hW; go_simp) bH0 ?_
              simp only [FL]
              refine hr_take_w 2 (some 128) (.int .i64 (k : Nat)) rfl rfl (by kernel_rfl) (by kernel_rfl) (by kernel_rfl) rfl (fun W hW => by obtain ⟨h0, h1⟩ := hW; go_simp) bH0 ?_
              simp only [FL]
              refine hr_take_w 3 (some 129) (.pointer (some ⟨b3, o3 + k * 5, none⟩)) rfl rfl (by kernel_rfl) (by kernel_rfl) (by kernel_rfl) rfl (fun W hW => by obtain ⟨h0, h1⟩ := hW; go_simp) bH0 ?_
              simp only [FL]
              refine hr_take_w 4 (some 130) (.pointer (some ⟨b3, o3 + k * 5, none⟩)) rfl rfl (by kernel_rfl) (by kernel_rfl) (by kernel_rfl) rfl (fun W hW => by obtain ⟨h0, h1⟩ := hW; go_simp) bH0 ?_
              simp only [FL]
              refine hr_take_w 5 (some 131) (.int .u64 q.cl) rfl rfl (by kernel_rfl) (by kernel_rfl) (by kernel_rfl) rfl (fun W hW => by obtain ⟨h0, h1⟩ := hW; go_simp) bH0 ?_
              simp only [FL]
              refine hr_take_w 6 (some 132) (.slice (some ⟨b3, o3, none⟩) mc3 cap3) rfl rfl (by kernel_rfl) (by kernel_rfl) (by kernel_rfl) rfl (fun W hW => by obtain ⟨h0, h1⟩ := hW; go_simp) bH0 ?_
              simp only [FL]
              refine hr_take_w 7 (some 133) (.int .i64 (k : Nat)) rfl rfl (by kernel_rfl) (by kernel_rfl) (by kernel_rfl) rfl (fun W hW => by obtain ⟨h0, h1⟩ := hW; go_simp) bH0 ?_
              simp only [FL]
              refine hr_take_w 8 (some 134) (.pointer (some ⟨b3, o3 + k * 5, none⟩)) rfl rfl (by kernel_rfl) (by kernel_rfl) (by kernel_rfl) rfl (fun W hW => by obtain ⟨h0, h1⟩ := hW; go_simp) bH0 ?_
              simp only [FL]
              refine hr_take_w 9 (some 135) (.pointer (some ⟨b3, o3 + k * 5 + 1, none⟩)) rfl rfl (by kernel_rfl) (by kernel_rfl) (by kernel_rfl) rfl (fun W hW => by obtain ⟨h0, h1⟩ := hW; go_simp) bH0 ?_
              simp only [FL]
              refine hr_take_w 10 (some 136) (.int .u64 q.st) rfl rfl (by kernel_rfl) (by kernel_rfl) (by kernel_rfl) rfl (fun W hW => by obtain ⟨h0, h1⟩ := hW; go_simp) bH0 ?_
              simp only [FL]
              refine hr_two (i := 11) (j := 15) (by kernel_rfl) ?_ ?_
              · refine op_calls 11 (some 137) 12 #[.slice ro rn rc, .int .u64 q.cl, .int .u64 q.st] rfl rfl rfl (by go_simp) (fun v w' => ∃ (q0 : Int) (ao : Option Addr) (n cap : Nat) (cs : List CA) (m : Bool), v = .tuple #[.agg #[.int .i64 q0, .slice ao n cap, .bool m], .int .i64 (askE (putE l y.cl y.st (resR y.e y.cs y.m)).1 q.cl q.st).2] ∧ CL w' ao n cap cs ∧ (askE (putE l y.cl y.st (resR y.e y.cs y.m)).1 q.cl q.st).1 = resR q0 cs m ∧ Below bv0.heap.size bv0 w') ((rAsk12 bv0 ro rn rc q.cl q.st us (putE l y.cl y.st (resR y.e y.cs y.m)).1 (M2.below bE0) hus (by omega)).mono (by
                  rintro e w' ⟨q0, ao, n, cap, cs, m, rfl, F1, F2, C⟩
                  exact ⟨_, rfl, q0, ao, n, cap, cs, m, rfl, F1, F2, C⟩)) ?_
                rintro v bv1 ⟨bq, bo, bn, bc, bcs, bm, rfl, bL, bR, bU1⟩
                have bE1 := bE0.trans (bU1.mono bE0.size)
                have bH1 := bHS.out bv1 bE1
                refine ⟨bH1, ?_⟩
                simp only [FL]
                refine hr_take_w 12 (some 125) (.tuple #[.agg #[.int .i64 bq, .slice bo bn bc, .bool bm], .int .i64 (askE (putE l y.cl y.st (resR y.e y.cs y.m)).1 q.cl q.st).2]) rfl rfl (by kernel_rfl) (by kernel_rfl) (by kernel_rfl) rfl (fun W hW => by obtain ⟨h0, h1⟩ := hW; go_simp) bH1 ?_
                simp only [FL]
                refine hr_take_w 13 (some 138) (.agg #[.int .i64 bq, .slice bo bn bc, .bool bm]) rfl rfl (by kernel_rfl) (by kernel_rfl) (by kernel_rfl) rfl (fun W hW => by obtain ⟨h0, h1⟩ := hW; go_simp) bH1 ?_
                simp only [FL]
                refine hr_take_w 14 (some 139) (.int .i64 (askE (putE l y.cl y.st (resR y.e y.cs y.m)).1 q.cl q.st).2) rfl rfl (by kernel_rfl) (by kernel_rfl) (by kernel_rfl) rfl (fun W hW => by obtain ⟨h0, h1⟩ := hW; go_simp) bH1 ?_
                simp only [FL]
                refine hr_ex 15 (some 15) rfl rfl (by kernel_rfl) rfl (R := fun v w' => ∃ N, v = .pointer (some ⟨N, 0, none⟩) ∧ RW w' N 0 (.slice none 0 0) false ∧ aw.heap.size ≤ N ∧ Below bv1.heap.size bv1 w') ⟨_, bv1.alloc (.cells #[.int .i64 0, .slice none 0 0, .bool false] 37), by go_simp, _, rfl, heap_alloc_new _ _, bE1.size, (Below.refl _ _).alloc (Nat.le_refl _) _⟩ ?_
                rintro v bv2 ⟨bN, rfl, bK0, bhN, bU2⟩
                have bE2 := bE1.trans (bU2.mono bE1.size)
                have bH2 := bHS.out bv2 bE2
                have bL := bL.below bU2
                refine ⟨bH2, ?_⟩
                simp only [FL]
                have r0 := bK0.c0
                have r1 := bK0.c1
                have r2 := bK0.c2
                have f0 := bK0.fz 0
                have f1 := bK0.fz 1
                have f2 := bK0.fz 2
                obtain ⟨bK, bL, bX⟩ := bK0.set3 (Below.refl bN bv2) bq bo bn bc bcs bm bL
                have bC3 := bE2.trans (bX.mono bhN)
                have bH3 := bHS.out _ bC3
                refine hr_skip 16 none (w' := ((bv2.setCell ⟨bN, 0, none⟩ (.int .i64 bq)).setCell ⟨bN, 1, none⟩ (.slice bo bn bc)).setCell ⟨bN, 2, none⟩ (.bool bm)) rfl rfl (by kernel_rfl) rfl (by go_simp) bH3 ?_
                simp only [Act.put]
                refine hr_take_w 17 (some 16) (.int .i64 (askE (putE l y.cl y.st (resR y.e y.cs y.m)).1 q.cl q.st).2) rfl rfl (by kernel_rfl) (by kernel_rfl) (by kernel_rfl) rfl (fun W hW => by obtain ⟨h0, h1⟩ := hW; go_simp) bH3 ?_
                simp only [FL]
                refine wpAnyH_done (by kernel_rfl) ?_ _
                refine NoPanic.normal ?_
                have bE3 := aE3.trans (bC3.mono aE3.size)
                clear r0 r1 r2 f0 f1 f2 bK0 bX bH0 bH1 bH2 bH3 bHS
                obtain ⟨bw, hbw⟩ : ∃ W, W = ((bv2.setCell ⟨bN, 0, none⟩ (.int .i64 bq)).setCell ⟨bN, 1, none⟩ (.slice bo bn bc)).setCell ⟨bN, 2, none⟩ (.bool bm) := ⟨_, rfl⟩
                rw [← hbw] at bK bL bC3 bE3 ⊢
                clear hbw bE0 bE1 bE2 bhN bU1 bU2
                have T2 := T2.below bC3
                have M2 := M2.below bC3
                have aL := aL.below bC3
                have aK := aK.below bC3
                clear bC3
                have hrr := askE_right T2.ok q.cl q.st
                have hrs : resR aq acs am = resR bq bcs bm := aR.symm.trans bR
                rw [aR] at hrr
                clear aR bR
                generalize (askE (putE l y.cl y.st (resR y.e y.cs y.m)).1 q.cl q.st).2 = kk at *
                unfold resR at hrs
                simp only [RV.mk.injEq] at hrs
                obtain ⟨f1, f2, f3⟩ := hrs
                have f4 : bn = an := by
                  have := congrArg List.length f2
                  simp only [List.length_map] at this
                  rw [← aL.len, ← bL.len, this]
                have hn16 : an ≤ 1000 := by
                  unfold rightR resR at hrr
                  have h3 := of_decide_eq_true (Bool.and_eq_true_iff.1 hrr).1
                  have h4 : (acs.map CA.c).length ≤ 16 := h3.2.2
                  rw [List.length_map] at h4
                  have := aL.len
                  omega
                subst f4 f1 f3
                have CRR := rresults_any bw aq ao bo bn ac bc acs bcs am aL bL f2 hn16
                have k0 := aK.c0
                have k1 := aK.c1
                have k2 := aK.c2
                have j0 := bK.c0
                have j1 := bK.c1
                have j2 := bK.c2
                have kx : (kk == kk) = true := by simp
                unfold resV at CRR
                clear f2 hrr aL bL
                go_wp2_with fail
                refine CRR.mono ?_
                rintro x w9 ⟨rfl, C9⟩
                have T2 := T2.below C9
                have M2 := M2.below C9
                have B9 := bE3.trans (C9.mono bE3.size)
                clear CRR C9 k0 k1 k2 j0 j1 j2
                go_wp2
                go_roundw
                case rel => exact ⟨k + 1, _, ro, rn, rc, us, by omega, by go_num, rfl, T2, M2, hus, HLO2, B9⟩
                case measure => simp [intOf]; omega
              · refine op_ex 15 (some 15) rfl rfl rfl (R := fun v w' => ∃ N, v = .pointer (some ⟨N, 0, none⟩) ∧ RW w' N 0 (.slice none 0 0) false ∧ aw.heap.size ≤ N ∧ Below bv0.heap.size bv0 w') ⟨_, bv0.alloc (.cells #[.int .i64 0, .slice none 0 0, .bool false] 37), by go_simp, _, rfl, heap_alloc_new _ _, bE0.size, (Below.refl _ _).alloc (Nat.le_refl _) _⟩ ?_
                rintro v bv1 ⟨bN, rfl, bK0, bhN, bU1⟩
                have bE1 := bE0.trans (bU1.mono bE0.size)
                have bH1 := bHS.out bv1 bE1
                refine ⟨bH1, ?_⟩
                simp only [FL]
                refine hr_call_w 11 (some 137) 12 #[.slice ro rn rc, .int .u64 q.cl, .int .u64 q.st] rfl rfl (by kernel_rfl) rfl (by go_simp) (fun v w' => ∃ (q0 : Int) (ao : Option Addr) (n cap : Nat) (cs : List CA) (m : Bool), v = .tuple #[.agg #[.int .i64 q0, .slice ao n cap, .bool m], .int .i64 (askE (putE l y.cl y.st (resR y.e y.cs y.m)).1 q.cl q.st).2] ∧ CL w' ao n cap cs ∧ (askE (putE l y.cl y.st (resR y.e y.cs y.m)).1 q.cl q.st).1 = resR q0 cs m ∧ Below bv1.heap.size bv1 w') ((rAsk12 bv1 ro rn rc q.cl q.st us (putE l y.cl y.st (resR y.e y.cs y.m)).1 (M2.below bE1) hus (by omega)).mono (by
                  rintro e w' ⟨q0, ao, n, cap, cs, m, rfl, F1, F2, C⟩
                  exact ⟨_, rfl, q0, ao, n, cap, cs, m, rfl, F1, F2, C⟩)) ?_
                rintro v bv2 ⟨bq, bo, bn, bc, bcs, bm, rfl, bL, bR, bU2⟩
                have bE2 := bE1.trans (bU2.mono bE1.size)
                have bH2 := bHS.out bv2 bE2
                have bK0 := bK0.below bU2
                refine ⟨bH2, ?_⟩
                simp only [FL]
                refine hr_take_w 12 (some 125) (.tuple #[.agg #[.int .i64 bq, .slice bo bn bc, .bool bm], .int .i64 (askE (putE l y.cl y.st (resR y.e y.cs y.m)).1 q.cl q.st).2]) rfl rfl (by kernel_rfl) (by kernel_rfl) (by kernel_rfl) rfl (fun W hW => by obtain ⟨h0, h1⟩ := hW; go_simp) bH2 ?_
                simp only [FL]
                refine hr_take_w 13 (some 138) (.agg #[.int .i64 bq, .slice bo bn bc, .bool bm]) rfl rfl (by kernel_rfl) (by kernel_rfl) (by kernel_rfl) rfl (fun W hW => by obtain ⟨h0, h1⟩ := hW; go_simp) bH2 ?_
                simp only [FL]
                refine hr_take_w 14 (some 139) (.int .i64 (askE (putE l y.cl y.st (resR y.e y.cs y.m)).1 q.cl q.st).2) rfl rfl (by kernel_rfl) (by kernel_rfl) (by kernel_rfl) rfl (fun W hW => by obtain ⟨h0, h1⟩ := hW; go_simp) bH2 ?_
                simp only [FL]
                have r0 := bK0.c0
                have r1 := bK0.c1
                have r2 := bK0.c2
                have f0 := bK0.fz 0
                have f1 := bK0.fz 1
                have f2 := bK0.fz 2
                obtain ⟨bK, bL, bX⟩ := bK0.set3 (Below.refl bN bv2) bq bo bn bc bcs bm bL
                have bC3 := bE2.trans (bX.mono bhN)
                have bH3 := bHS.out _ bC3
                refine hr_skip 16 none (w' := ((bv2.setCell ⟨bN, 0, none⟩ (.int .i64 bq)).setCell ⟨bN, 1, none⟩ (.slice bo bn bc)).setCell ⟨bN, 2, none⟩ (.bool bm)) rfl rfl (by kernel_rfl) rfl (by go_simp) bH3 ?_
                simp only [Act.put]
                refine hr_take_w 17 (some 16) (.int .i64 (askE (putE l y.cl y.st (resR y.e y.cs y.m)).1 q.cl q.st).2) rfl rfl (by kernel_rfl) (by kernel_rfl) (by kernel_rfl) rfl (fun W hW => by obtain ⟨h0, h1⟩ := hW; go_simp) bH3 ?_
                simp only [FL]
                refine wpAnyH_done (by kernel_rfl) ?_ _
                refine NoPanic.normal ?_
                have bE3 := aE3.trans (bC3.mono aE3.size)
                clear r0 r1 r2 f0 f1 f2 bK0 bX bH0 bH1 bH2 bH3 bHS
                obtain ⟨bw, hbw⟩ : ∃ W, W = ((bv2.setCell ⟨bN, 0, none⟩ (.int .i64 bq)).setCell ⟨bN, 1, none⟩ (.slice bo bn bc)).setCell ⟨bN, 2, none⟩ (.bool bm) := ⟨_, rfl⟩
                rw [← hbw] at bK bL bC3 bE3 ⊢
                clear hbw bE0 bE1 bE2 bhN bU1 bU2
                have T2 := T2.below bC3
                have M2 := M2.below bC3
                have aL := aL.below bC3
                have aK := aK.below bC3
                clear bC3
                have hrr := askE_right T2.ok q.cl q.st
                have hrs : resR aq acs am = resR bq bcs bm := aR.symm.trans bR
                rw [aR] at hrr
                clear aR bR
                generalize (askE (putE l y.cl y.st (resR y.e y.cs y.m)).1 q.cl q.st).2 = kk at *
                unfold resR at hrs
                simp only [RV.mk.injEq] at hrs
                obtain ⟨f1, f2, f3⟩ := hrs
                have f4 : bn = an := by
                  have := congrArg List.length f2
                  simp only [List.length_map] at this
                  rw [← aL.len, ← bL.len, this]
                have hn16 : an ≤ 1000 := by
                  unfold rightR resR at hrr
                  have h3 := of_decide_eq_true (Bool.and_eq_true_iff.1 hrr).1
                  have h4 : (acs.map CA.c).length ≤ 16 := h3.2.2
                  rw [List.length_map] at h4
                  have := aL.len
                  omega
                subst f4 f1 f3
                have CRR := rresults_any bw aq ao bo bn ac bc acs bcs am aL bL f2 hn16
                have k0 := aK.c0
                have k1 := aK.c1
                have k2 := aK.c2
                have j0 := bK.c0
                have j1 := bK.c1
                have j2 := bK.c2
                have kx : (kk == kk) = true := by simp
                unfold resV at CRR
                clear f2 hrr aL bL
                go_wp2_with fail
                refine CRR.mono ?_
                rintro x w9 ⟨rfl, C9⟩
                have T2 := T2.below C9
                have M2 := M2.below C9
                have B9 := bE3.trans (C9.mono bE3.size)
                clear CRR C9 k0 k1 k2 j0 j1 j2
                go_wp2
                go_roundw
                case rel => exact ⟨k + 1, _, ro, rn, rc, us, by omega, by go_num, rfl, T2, M2, hus, HLO2, B9⟩
                case measure => simp [intOf]; omega
            · refine op_ex 15 (some 13) rfl rfl rfl (R := fun v w' => ∃ N, v = .pointer (some ⟨N, 0, none⟩) ∧ RW w' N 0 (.slice none 0 0) false ∧ yv1.heap.size ≤ N ∧ Below av0.heap.size av0 w') ⟨_, av0.alloc (.cells #[.int .i64 0, .slice none 0 0, .bool false] 37), by go_simp, _, rfl, heap_alloc_new _ _, aE0.size, (Below.refl _ _).alloc (Nat.le_refl _) _⟩ ?_
              rintro v av1 ⟨aN, rfl, aK0, ahN, aU1⟩
              have aE1 := aE0.trans (aU1.mono aE0.size)
              have aH1 := aHS.out av1 aE1
              refine ⟨aH1, ?_⟩
              simp only [FL]
              refine hr_call_w 11 (some 122) 11 #[.pointer (some ⟨p, 0, none⟩), .int .u64 q.cl, .int .u64 q.st] rfl rfl (by kernel_rfl) rfl (by go_simp) (fun v w' => ∃ (q0 : Int) (ao : Option Addr) (n cap : Nat) (cs : List CA) (m : Bool), v = .tuple #[.agg #[.int .i64 q0, .slice ao n cap, .bool m], .int .i64 (askE (putE l y.cl y.st (resR y.e y.cs y.m)).1 q.cl q.st).2] ∧ CL w' ao n cap cs ∧ (askE (putE l y.cl y.st (resR y.e y.cs y.m)).1 q.cl q.st).1 = resR q0 cs m ∧ Below av1.heap.size av1 w') ((cAsk_any av1 p g q.cl q.st (putE l y.cl y.st (resR y.e y.cs y.m)).1 (T2.below aE1)).mono (by
                rintro e w' ⟨q0, ao, n, cap, cs, m, rfl, F1, F2, C⟩
                exact ⟨_, rfl, q0, ao, n, cap, cs, m, rfl, F1, F2, C⟩)) ?_
              rintro v av2 ⟨aq, ao, an, ac, acs, am, rfl, aL, aR, aU2⟩
              have aE2 := aE1.trans (aU2.mono aE1.size)
              have aH2 := aHS.out av2 aE2
              have aK0 := aK0.below aU2
              refine ⟨aH2, ?_⟩
              simp only [FL]
              refine hr_take_w 12 (some 110) (.tuple #[.agg #[.int .i64 aq, .slice ao an ac, .bool am], .int .i64 (askE (putE l y.cl y.st (resR y.e y.cs y.m)).1 q.cl q.st).2]) rfl rfl (by kernel_rfl) (by kernel_rfl) (by kernel_rfl) rfl (fun W hW => by obtain ⟨h0, h1⟩ := hW; go_simp) aH2 ?_
              simp only [FL]
              refine hr_take_w 13 (some 123) (.agg #[.int .i64 aq, .slice ao an ac, .bool am]) rfl rfl (by kernel_rfl) (by kernel_rfl) (by kernel_rfl) rfl (fun W hW => by obtain ⟨h0, h1⟩ := hW; go_simp) aH2 ?_
              simp only [FL]
              refine hr_take_w 14 (some 124) (.int .i64 (askE (putE l y.cl y.st (resR y.e y.cs y.m)).1 q.cl q.st).2) rfl rfl (by kernel_rfl) (by kernel_rfl) (by kernel_rfl) rfl (fun W hW => by obtain ⟨h0, h1⟩ := hW; go_simp) aH2 ?_
              simp only [FL]
              have r0 := aK0.c0
              have r1 := aK0.c1
              have r2 := aK0.c2
              have f0 := aK0.fz 0
              have f1 := aK0.fz 1
              have f2 := aK0.fz 2
              obtain ⟨aK, aL, aX⟩ := aK0.set3 (Below.refl aN av2) aq ao an ac acs am aL
              have aC3 := aE2.trans (aX.mono ahN)
              have aH3 := aHS.out _ aC3
              refine hr_skip 16 none (w' := ((av2.setCell ⟨aN, 0, none⟩ (.int .i64 aq)).setCell ⟨aN, 1, none⟩ (.slice ao an ac)).setCell ⟨aN, 2, none⟩ (.bool am)) rfl rfl (by kernel_rfl) rfl (by go_simp) aH3 ?_
              simp only [Act.put]
              refine hr_take_w 17 (some 14) (.int .i64 (askE (putE l y.cl y.st (resR y.e y.cs y.m)).1 q.cl q.st).2) rfl rfl (by kernel_rfl) (by kernel_rfl) (by kernel_rfl) rfl (fun W hW => by obtain ⟨h0, h1⟩ := hW; go_simp) aH3 ?_
              simp only [FL]
              refine wpAnyH_done (by kernel_rfl) ?_ _
              refine NoPanic.normal ?_
              have aE3 := yE1.trans (aC3.mono yE1.size)
              clear r0 r1 r2 f0 f1 f2 aK0 aX aH0 aH1 aH2 aH3 aHS
              obtain ⟨aw, haw⟩ : ∃ W, W = ((av2.setCell ⟨aN, 0, none⟩ (.int .i64 aq)).setCell ⟨aN, 1, none⟩ (.slice ao an ac)).setCell ⟨aN, 2, none⟩ (.bool am) := ⟨_, rfl⟩
              rw [← haw] at aK aL aC3 aE3 ⊢
              clear haw aE0 aE1 aE2 ahN aU1 aU2
              have T2 := T2.below aC3
              have M2 := M2.below aC3
              have X3 := X3.below aC3
              clear aC3
              go_wp2_with fail
              have bHS : Hid (∀ V, Below aw.heap.size aw V → V.cell? ⟨b3, o3 + k * 5, none⟩ = some (.int .u64 q.cl) ∧ V.cell? ⟨b3, o3 + k * 5 + 1, none⟩ = some (.int .u64 q.st)) := fun V hV => ⟨(X3.below hV).c0, (X3.below hV).c1⟩
              have bE0 : Below aw.heap.size aw aw.drew := (Below.refl _ _).drew
              refine wp_region_noPanic ?_
              refine wp_region_held_drew (S := fun V => V.cell? ⟨b3, o3 + k * 5, none⟩ = some (.int .u64 q.cl) ∧ V.cell? ⟨b3, o3 + k * 5 + 1, none⟩ = some (.int .u64 q.st)) (by kernel_rfl) (bHS.out _ bE0) (fun bH0 => ?_)
              obtain ⟨bv0, hv0⟩ : ∃ v, v = aw.drew := ⟨_, rfl⟩
              rw [← hv0] at bH0 bE0 ⊢
              clear hv0
              refine hr_take_w 0 (some 126) (.slice ro rn rc) rfl rfl (by kernel_rfl) (by kernel_rfl) (by kernel_rfl) rfl (fun W hW => by obtain ⟨h0, h1⟩ := hW; go_simp) bH0 ?_
              simp only [FL]
              refine hr_take_w 1 (some 127) (.slice (some ⟨b3, o3, none⟩) mc3 cap3) rfl rfl (by kernel_rfl) (by kernel_rfl) (by kernel_rfl) rfl (fun W hW => by obtain ⟨h0, h1⟩ := hW; go_simp) bH0 ?_
              simp only [FL]
              refine hr_take_w 2 (some 128) (.int .i64 (k : Nat)) rfl rfl (by kernel_rfl) (by kernel_rfl) (by kernel_rfl) rfl (fun W hW => by obtain ⟨h0, h1⟩ := hW; go_simp) bH0 ?_
              simp only [FL]
              refine hr_take_w 3 (some 129) (.pointer (some ⟨b3, o3 + k * 5, none⟩)) rfl rfl (by kernel_rfl) (by kernel_rfl) (by kernel_rfl) rfl (fun W hW => by obtain ⟨h0, h1⟩ := hW; go_simp) bH0 ?_
              simp only [FL]
              refine hr_take_w 4 (some 130) (.pointer (some ⟨b3, o3 + k * 5, none⟩)) rfl rfl (by kernel_rfl) (by kernel_rfl) (by kernel_rfl) rfl (fun W hW => by obtain ⟨h0, h1⟩ := hW; go_simp) bH0 ?_
              simp only [FL]
              refine hr_take_w 5 (some 131) (.int .u64 q.cl) rfl rfl (by kernel_rfl) (by kernel_rfl) (by kernel_rfl) rfl (fun W hW => by obtain ⟨h0, h1⟩ := hW; go_simp) bH0 ?_
              simp only [FL]
              refine hr_take_w 6 (some 132) (.slice (some ⟨b3, o3, none⟩) mc3 cap3) rfl rfl (by kernel_rfl) (by kernel_rfl) (by kernel_rfl) rfl (fun W hW => by obtain ⟨h0, h1⟩ := hW; go_simp) bH0 ?_
              simp only [FL]
              refine hr_take_w 7 (some 133) (.int .i64 (k : Nat)) rfl rfl (by kernel_rfl) (by kernel_rfl) (by kernel_rfl) rfl (fun W hW => by obtain ⟨h0, h1⟩ := hW; go_simp) bH0 ?_
              simp only [FL]
              refine hr_take_w 8 (some 134) (.pointer (some ⟨b3, o3 + k * 5, none⟩)) rfl rfl (by kernel_rfl) (by kernel_rfl) (by kernel_rfl) rfl (fun W hW => by obtain ⟨h0, h1⟩ := hW; go_simp) bH0 ?_
              simp only [FL]
              refine hr_take_w 9 (some 135) (.pointer (some ⟨b3, o3 + k * 5 + 1, none⟩)) rfl rfl (by kernel_rfl) (by kernel_rfl) (by kernel_rfl) rfl (fun W hW => by obtain ⟨h0, h1⟩ := hW; go_simp) bH0 ?_
              simp only [FL]
              refine hr_take_w 10 (some 136) (.int .u64 q.st) rfl rfl (by kernel_rfl) (by kernel_rfl) (by kernel_rfl) rfl (fun W hW => by obtain ⟨h0, h1⟩ := hW; go_simp) bH0 ?_
              simp only [FL]
              refine hr_two (i := 11) (j := 15) (by kernel_rfl) ?_ ?_
              · refine op_calls 11 (some 137) 12 #[.slice ro rn rc, .int .u64 q.cl, .int .u64 q.st] rfl rfl rfl (by go_simp) (fun v w' => ∃ (q0 : Int) (ao : Option Addr) (n cap : Nat) (cs : List CA) (m : Bool), v = .tuple #[.agg #[.int .i64 q0, .slice ao n cap, .bool m], .int .i64 (askE (putE l y.cl y.st (resR y.e y.cs y.m)).1 q.cl q.st).2] ∧ CL w' ao n cap cs ∧ (askE (putE l y.cl y.st (resR y.e y.cs y.m)).1 q.cl q.st).1 = resR q0 cs m ∧ Below bv0.heap.size bv0 w') ((rAsk12 bv0 ro rn rc q.cl q.st us (putE l y.cl y.st (resR y.e y.cs y.m)).1 (M2.below bE0) hus (by omega)).mono (by
                  rintro e w' ⟨q0, ao, n, cap, cs, m, rfl, F1, F2, C⟩
                  exact ⟨_, rfl, q0, ao, n, cap, cs, m, rfl, F1, F2, C⟩)) ?_
                rintro v bv1 ⟨bq, bo, bn, bc, bcs, bm, rfl, bL, bR, bU1⟩
                have bE1 := bE0.trans (bU1.mono bE0.size)
                have bH1 := bHS.out bv1 bE1
                refine ⟨bH1, ?_⟩
                simp only [FL]
                refine hr_take_w 12 (some 125) (.tuple #[.agg #[.int .i64 bq, .slice bo bn bc, .bool bm], .int .i64 (askE (putE l y.cl y.st (resR y.e y.cs y.m)).1 q.cl q.st).2]) rfl rfl (by kernel_rfl) (by kernel_rfl) (by kernel_rfl) rfl (fun W hW => by obtain ⟨h0, h1⟩ := hW; go_simp) bH1 ?_
                simp only [FL]
                refine hr_take_w 13 (some 138) (.agg #[.int .i64 bq, .slice bo bn bc, .bool bm]) rfl rfl (by kernel_rfl) (by kernel_rfl) (by kernel_rfl) rfl (fun W hW => by obtain ⟨h0, h1⟩ := hW; go_simp) bH1 ?_
                simp only [FL]
                refine hr_take_w 14 (some 139) (.int .i64 (askE (putE l y.cl y.st (resR y.e y.cs y.m)).1 q.cl q.st).2) rfl rfl (by kernel_rfl) (by kernel_rfl) (by kernel_rfl) rfl (fun W hW => by obtain ⟨h0, h1⟩ := hW; go_simp) bH1 ?_
                simp only [FL]
                refine hr_ex 15 (some 15) rfl rfl (by kernel_rfl) rfl (R := fun v w' => ∃ N, v = .pointer (some ⟨N, 0, none⟩) ∧ RW w' N 0 (.slice none 0 0) false ∧ aw.heap.size ≤ N ∧ Below bv1.heap.size bv1 w') ⟨_, bv1.alloc (.cells #[.int .i64 0, .slice none 0 0, .bool false] 37), by go_simp, _, rfl, heap_alloc_new _ _, bE1.size, (Below.refl _ _).alloc (Nat.le_refl _) _⟩ ?_
                rintro v bv2 ⟨bN, rfl, bK0, bhN, bU2⟩
                have bE2 := bE1.trans (bU2.mono bE1.size)
                have bH2 := bHS.out bv2 bE2
                have bL := bL.below bU2
                refine ⟨bH2, ?_⟩
                simp only [FL]
                have r0 := bK0.c0
                have r1 := bK0.c1
                have r2 := bK0.c2
                have f0 := bK0.fz 0
                have f1 := bK0.fz 1
                have f2 := bK0.fz 2
                obtain ⟨bK, bL, bX⟩ := bK0.set3 (Below.refl bN bv2) bq bo bn bc bcs bm bL
                have bC3 := bE2.trans (bX.mono bhN)
                have bH3 := bHS.out _ bC3
                refine hr_skip 16 none (w' := ((bv2.setCell ⟨bN, 0, none⟩ (.int .i64 bq)).setCell ⟨bN, 1, none⟩ (.slice bo bn bc)).setCell ⟨bN, 2, none⟩ (.bool bm)) rfl rfl (by kernel_rfl) rfl (by go_simp) bH3 ?_
                simp only [Act.put]
                refine hr_take_w 17 (some 16) (.int .i64 (askE (putE l y.cl y.st (resR y.e y.cs y.m)).1 q.cl q.st).2) rfl rfl (by kernel_rfl) (by kernel_rfl) (by kernel_rfl) rfl (fun W hW => by obtain ⟨h0, h1⟩ := hW; go_simp) bH3 ?_
                simp only [FL]
                refine wpAnyH_done (by kernel_rfl) ?_ _
                refine NoPanic.normal ?_
                have bE3 := aE3.trans (bC3.mono aE3.size)
                clear r0 r1 r2 f0 f1 f2 bK0 bX bH0 bH1 bH2 bH3 bHS
                obtain ⟨bw, hbw⟩ : ∃ W, W = ((bv2.setCell ⟨bN, 0, none⟩ (.int .i64 bq)).setCell ⟨bN, 1, none⟩ (.slice bo bn bc)).setCell ⟨bN, 2, none⟩ (.bool bm) := ⟨_, rfl⟩
                rw [← hbw] at bK bL bC3 bE3 ⊢
                clear hbw bE0 bE1 bE2 bhN bU1 bU2
                have T2 := T2.below bC3
                have M2 := M2.below bC3
                have aL := aL.below bC3
                have aK := aK.below bC3
                clear bC3
                have hrr := askE_right T2.ok q.cl q.st
                have hrs : resR aq acs am = resR bq bcs bm := aR.symm.trans bR
                rw [aR] at hrr
                clear aR bR
                generalize (askE (putE l y.cl y.st (resR y.e y.cs y.m)).1 q.cl q.st).2 = kk at *
                unfold resR at hrs
                simp only [RV.mk.injEq] at hrs
                obtain ⟨f1, f2, f3⟩ := hrs
                have f4 : bn = an := by
                  have := congrArg List.length f2
                  simp only [List.length_map] at this
                  rw [← aL.len, ← bL.len, this]
                have hn16 : an ≤ 1000 := by
                  unfold rightR resR at hrr
                  have h3 := of_decide_eq_true (Bool.and_eq_true_iff.1 hrr).1
                  have h4 : (acs.map CA.c).length ≤ 16 := h3.2.2
                  rw [List.length_map] at h4
                  have := aL.len
                  omega
                subst f4 f1 f3
                have CRR := rresults_any bw aq ao bo bn ac bc acs bcs am aL bL f2 hn16
                have k0 := aK.c0
                have k1 := aK.c1
                have k2 := aK.c2
                have j0 := bK.c0
                have j1 := bK.c1
                have j2 := bK.c2
                have kx : (kk == kk) = true := by simp
                unfold resV at CRR
                clear f2 hrr aL bL
                go_wp2_with fail
                refine CRR.mono ?_
                rintro x w9 ⟨rfl, C9⟩
                have T2 := T2.below C9
                have M2 := M2.below C9
                have B9 := bE3.trans (C9.mono bE3.size)
                clear CRR C9 k0 k1 k2 j0 j1 j2
                go_wp2
                go_roundw
                case rel => exact ⟨k + 1, _, ro, rn, rc, us, by omega, by go_num, rfl, T2, M2, hus, HLO2, B9⟩
                case measure => simp [intOf]; omega
              · refine op_ex 15 (some 15) rfl rfl rfl (R := fun v w' => ∃ N, v = .pointer (some ⟨N, 0, none⟩) ∧ RW w' N 0 (.slice none 0 0) false ∧ aw.heap.size ≤ N ∧ Below bv0.heap.size bv0 w') ⟨_, bv0.alloc (.cells #[.int .i64 0, .slice none 0 0, .bool false] 37), by go_simp, _, rfl, heap_alloc_new _ _, bE0.size, (Below.refl _ _).alloc (Nat.le_refl _) _⟩ ?_
                rintro v bv1 ⟨bN, rfl, bK0, bhN, bU1⟩
                have bE1 := bE0.trans (bU1.mono bE0.size)
                have bH1 := bHS.out bv1 bE1
                refine ⟨bH1, ?_⟩
                simp only [FL]
                refine hr_call_w 11 (some 137) 12 #[.slice ro rn rc, .int .u64 q.cl, .int .u64 q.st] rfl rfl (by kernel_rfl) rfl (by go_simp) (fun v w' => ∃ (q0 : Int) (ao : Option Addr) (n cap : Nat) (cs : List CA) (m : Bool), v = .tuple #[.agg #[.int .i64 q0, .slice ao n cap, .bool m], .int .i64 (askE (putE l y.cl y.st (resR y.e y.cs y.m)).1 q.cl q.st).2] ∧ CL w' ao n cap cs ∧ (askE (putE l y.cl y.st (resR y.e y.cs y.m)).1 q.cl q.st).1 = resR q0 cs m ∧ Below bv1.heap.size bv1 w') ((rAsk12 bv1 ro rn rc q.cl q.st us (putE l y.cl y.st (resR y.e y.cs y.m)).1 (M2.below bE1) hus (by omega)).mono (by
                  rintro e w' ⟨q0, ao, n, cap, cs, m, rfl, F1, F2, C⟩
                  exact ⟨_, rfl, q0, ao, n, cap, cs, m, rfl, F1, F2, C⟩)) ?_
                rintro v bv2 ⟨bq, bo, bn, bc, bcs, bm, rfl, bL, bR, bU2⟩
                have bE2 := bE1.trans (bU2.mono bE1.size)
                have bH2 := bHS.out bv2 bE2
                have bK0 := bK0.below bU2
                refine ⟨bH2, ?_⟩
                simp only [FL]
                refine hr_take_w 12 (some 125) (.tuple #[.agg #[.int .i64 bq, .slice bo bn bc, .bool bm], .int .i64 (askE (putE l y.cl y.st (resR y.e y.cs y.m)).1 q.cl q.st).2]) rfl rfl (by kernel_rfl) (by kernel_rfl) (by kernel_rfl) rfl (fun W hW => by obtain ⟨h0, h1⟩ := hW; go_simp) bH2 ?_
                simp only [FL]
                refine hr_take_w 13 (some 138) (.agg #[.int .i64 bq, .slice bo bn bc, .bool bm]) rfl rfl (by kernel_rfl) (by kernel_rfl) (by kernel_rfl) rfl (fun W hW => by obtain ⟨h0, h1⟩ := hW; go_simp) bH2 ?_
                simp only [FL]
                refine hr_take_w 14 (some 139) (.int .i64 (askE (putE l y.cl y.st (resR y.e y.cs y.m)).1 q.cl q.st).2) rfl rfl (by kernel_rfl) (by kernel_rfl) (by kernel_rfl) rfl (fun W hW => by obtain ⟨h0, h1⟩ := hW; go_simp) bH2 ?_
                simp only [FL]
                have r0 := bK0.c0
                have r1 := bK0.c1
                have r2 := bK0.c2
                have f0 := bK0.fz 0
                have f1 := bK0.fz 1
                have f2 := bK0.fz 2
                obtain ⟨bK, bL, bX⟩ := bK0.set3 (Below.refl bN bv2) bq bo bn bc bcs bm bL
                have bC3 := bE2.trans (bX.mono bhN)
                have bH3 := bHS.out _ bC3
                refine hr_skip 16 none (w' := ((bv2.setCell ⟨bN, 0, none⟩ (.int .i64 bq)).setCell ⟨bN, 1, none⟩ (.slice bo bn bc)).setCell ⟨bN, 2, none⟩ (.bool bm)) rfl rfl (by kernel_rfl) rfl (by go_simp) bH3 ?_
                simp only [Act.put]
                refine hr_take_w 17 (some 16) (.int .i64 (askE (putE l y.cl y.st (resR y.e y.cs y.m)).1 q.cl q.st).2) rfl rfl (by kernel_rfl) (by kernel_rfl) (by kernel_rfl) rfl (fun W hW => by obtain ⟨h0, h1⟩ := hW; go_simp) bH3 ?_
                simp only [FL]
                refine wpAnyH_done (by kernel_rfl) ?_ _
                refine NoPanic.normal ?_
                have bE3 := aE3.trans (bC3.mono aE3.size)
                clear r0 r1 r2 f0 f1 f2 bK0 bX bH0 bH1 bH2 bH3 bHS
                obtain ⟨bw, hbw⟩ : ∃ W, W = ((bv2.setCell ⟨bN, 0, none⟩ (.int .i64 bq)).setCell ⟨bN, 1, none⟩ (.slice bo bn bc)).setCell ⟨bN, 2, none⟩ (.bool bm) := ⟨_, rfl⟩
                rw [← hbw] at bK bL bC3 bE3 ⊢
                clear hbw bE0 bE1 bE2 bhN bU1 bU2
                have T2 := T2.below bC3
                have M2 := M2.below bC3
                have aL := aL.below bC3
                have aK := aK.below bC3
                clear bC3
                have hrr := askE_right T2.ok q.cl q.st
                have hrs : resR aq acs am = resR bq bcs bm := aR.symm.trans bR
                rw [aR] at hrr
                clear aR bR
                generalize (askE (putE l y.cl y.st (resR y.e y.cs y.m)).1 q.cl q.st).2 = kk at *
                unfold resR at hrs
                simp only [RV.mk.injEq] at hrs
                obtain ⟨f1, f2, f3⟩ := hrs
                have f4 : bn = an := by
                  have := congrArg List.length f2
                  simp only [List.length_map] at this
                  rw [← aL.len, ← bL.len, this]
                have hn16 : an ≤ 1000 := by
                  unfold rightR resR at hrr
                  have h3 := of_decide_eq_true (Bool.and_eq_true_iff.1 hrr).1
                  have h4 : (acs.map CA.c).length ≤ 16 := h3.2.2
                  rw [List.length_map] at h4
                  have := aL.len
                  omega
                subst f4 f1 f3
                have CRR := rresults_any bw aq ao bo bn ac bc acs bcs am aL bL f2 hn16
                have k0 := aK.c0
                have k1 := aK.c1
                have k2 := aK.c2
                have j0 := bK.c0
                have j1 := bK.c1
                have j2 := bK.c2
                have kx : (kk == kk) = true := by simp
                unfold resV at CRR
                clear f2 hrr aL bL
                go_wp2_with fail
                refine CRR.mono ?_
                rintro x w9 ⟨rfl, C9⟩
                have T2 := T2.below C9
                have M2 := M2.below C9
                have B9 := bE3.trans (C9.mono bE3.size)
                clear CRR C9 k0 k1 k2 j0 j1 j2
                go_wp2
                go_roundw
                case rel => exact ⟨k + 1, _, ro, rn, rc, us, by omega, by go_num, rfl, T2, M2, hus, HLO2, B9⟩
                case measure => simp [intOf]; omega
          · have hka1 : (mc3 : Int) ≤ (k : Int) := by omega
            go_wp2
            go_roundw
            case rel => exact ⟨k + 1, _, ro, rn, rc, us, by omega, by go_num, rfl, T2, M2, hus, HLO2, yE1⟩
            case measure => simp [intOf]; omega
        · have hge : (m : Int) ≤ (k : Int) := by omega
          have TB := hT.below B t2
          have tt : 2 ≤ wr.heap.size := Nat.le_trans t2 B.size
          have HOK : Hid (∀ e ∈ l, e.ok) := T.ok
          subst hnn
          clear hT t2 L A HLO
          have CL := cAll_any wr p g l T
          go_wp2_with fail
          refine CL.mono ?_
          rintro x v1 ⟨ao1, n1, ca1, ya1, rfl, LA1, ea1, C1, -⟩
          have n1b : n1 ≤ 100 := by
            have h1 := LA1.len
            have h2 := congrArg List.length ea1
            rw [List.length_map] at h2
            omega
          have T := T.below C1
          have M := M.below C1
          have TB := TB.below C1 tt
          have tt : 2 ≤ v1.heap.size := Nat.le_trans tt C1.size
          have B := B.trans (C1.mono B.size)
          have CB := lback_any v1 ao1 n1 ca1 ya1 LA1 n1b 0 (Nat.zero_le _) (fun _ _ => Nat.zero_le _)
          rw [ea1] at CB
          clear CL C1 LA1 n1b ea1
          go_wp2_with fail
          refine CB.mono ?_
          rintro x v2 ⟨bo2, m2, cb2, yb2, rfl, LB2, eb2, D2, -⟩
          have hm2 : m2 = l.length := by
            have h1 := LB2.len
            have h2 := congrArg List.length eb2
            rw [List.length_map] at h2
            omega
          subst hm2
          have T := T.below D2
          have M := M.below D2
          have TB := TB.below D2 tt
          have tt : 2 ≤ v2.heap.size := Nat.le_trans tt D2.size
          have B := B.trans (D2.mono B.size)
          clear CB D2
          have CS := rsame12 v2 bo2 mo l.length cb2 mc yb2 zs LB2 M (eb2.trans HZ.out.symm) (by omega) (en_small LB2 eb2 HOK.out)
          go_wp2_with fail
          refine CS.mono ?_
          rintro x v3 ⟨rfl, C3⟩
          have T := T.below C3
          have M := M.below C3
          have TB := TB.below C3 tt
          have tt : 2 ≤ v3.heap.size := Nat.le_trans tt C3.size
          have B := B.trans (C3.mono B.size)
          clear CS C3 LB2 eb2
          have CY := cBytes_any v3 p g l T
          go_wp2_with fail
          refine CY.mono ?_
          rintro x v4 ⟨a4, m4, c4, rfl, S4, C4⟩
          have T := T.below C4
          have M := M.below C4
          have TB := TB.below C4 tt
          have tt : 2 ≤ v4.heap.size := Nat.le_trans tt C4.size
          have B := B.trans (C4.mono B.size)
          clear CY C4
          have CY := rBytes12 v4 mo l.length mc zs l M HZ.out n8 HOK.out
          go_wp2_with fail
          refine CY.mono ?_
          rintro x v5 ⟨a5, m5, c5, rfl, S5, C5⟩
          have S4 := S4.below C5
          have T := T.below C5
          have M := M.below C5
          have TB := TB.below C5 tt
          have tt : 2 ≤ v5.heap.size := Nat.le_trans tt C5.size
          have B := B.trans (C5.mono B.size)
          clear CY C5
          have CE := same_any v5 a4 a5 m4 c4 m5 c5 _ _ S4 S5
          rw [decide_eq_true rfl] at CE
          go_wp2_with fail
          refine CE.mono ?_
          rintro x v6 ⟨rfl, q6, hq6⟩
          have C6 : Below v5.heap.size v5 v6 := by rw [hq6]; exact belN (Below.refl _ _) q6
          have T := T.below C6
          have M := M.below C6
          have TB := TB.below C6 tt
          have tt : 2 ≤ v6.heap.size := Nat.le_trans tt C6.size
          have B := B.trans (C6.mono B.size)
          clear CE C6 hq6 S4 S5
          have CY := cSum_any v6 p g l T TB
          go_wp2_with fail
          refine CY.mono ?_
          rintro x v7 ⟨a7, m7, c7, rfl, S7, C7⟩
          have M := M.below C7
          have B := B.trans (C7.mono B.size)
          clear CY C7 T TB tt
          have CY := rSum12 v7 mo l.length mc zs l M HZ.out n8 HOK.out
          go_wp2_with fail
          refine CY.mono ?_
          rintro x v8 ⟨a8, m8, c8, rfl, S8, C8⟩
          have S7 := S7.below C8
          have B := B.trans (C8.mono B.size)
          clear CY C8 M
          have CE := same_any v8 a7 a8 m7 c7 m8 c8 _ _ S7 S8
          rw [decide_eq_true rfl] at CE
          go_wp2_with fail
          refine CE.mono ?_
          rintro x v9 ⟨rfl, q9, hq9⟩
          have B : Below w.heap.size w v9 := by rw [hq9]; exact belN B q9
          clear CE hq9 S7 S8
          go_wp2
          go_ret
          exact ⟨rfl, B⟩
    · have hj1 : jdg ns = 1 := by
        unfold jdg at hj ⊢
        by_cases q : 1 ≤ ns.length ∧ ns.length ≤ 8 ∧ riseF 0 ns = true
        · rw [if_pos q] at hj; exact absurd rfl hj
        · rw [if_neg q]
      have hjb : (jdg ns == 0) = false := by rw [hj1]; rfl
      clear hj
      have CN := cNew_bad w1 ao n cap ns h1 hj1
      have CR := rright12 w1 ao n cap ns h1 (by omega)
      rw [hjb] at CR
      go_wp2_with fail
      refine CN.mono ?_
      rintro x w2 ⟨rfl, hw⟩
      obtain rfl := hw.symm
      clear hw CN hj1 hjb
      go_wp2_with fail
      refine CR.mono ?_
      rintro x w3 ⟨rfl, C3⟩
      have B3 := B1.trans (C3.mono B1.size)
      clear CR C3
      have CA := alive12 w3
      go_wp2_with fail
      refine CA.mono ?_
      rintro x w5 ⟨rfl, C5⟩
      have B5 := B3.trans (C5.mono B3.size)
      clear CA
      go_wp2
      go_ret
      exact ⟨rfl, B5⟩
end Go.Proofs.YtlgafjalcpjelaaDoor

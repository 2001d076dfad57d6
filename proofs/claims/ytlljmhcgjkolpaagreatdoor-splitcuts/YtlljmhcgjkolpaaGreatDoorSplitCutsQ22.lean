/-
  Texts in one: TbSame, TbLim, RbMath, SpMath, SpCells, CText, RbSmall.
-/
import Derived.Test.YtlljmhcgjkolpaaGreatDoorSplitCutsQFL
import Derived.Test.YtlljmhcgjkolpaaGreatDoorSplitCutsQ21
import Derived.Test.YtlljmhcgjkolpaaGreatDoorSplitCutsQ19
import Derived.Test.YtlljmhcgjkolpaaGreatDoorSplitCutsQ18
import Derived.Test.YtlljmhcgjkolpaaGreatDoorSplitCutsQ7
import Derived.Test.YtlljmhcgjkolpaaGreatDoorSplitCutsQ4
import Derived.Deep.QuietTactic
import Derived.BigQuiet
import Derived.Test.YtlljmhcgjkolpaaGreatDoorSplitCutsQ20
import Derived.Test.YtlljmhcgjkolpaaGreatDoorSplitCutsQ8
import Derived.Test.YtlljmhcgjkolpaaGreatDoorSplitCutsQ0
namespace Go.Proofs.YtlljmhcgjkolpaaGreatDoor
open Go.RowKit
set_option maxHeartbeats 1000000 in
theorem same10_any (w : World) (ao bo : Option Addr) (n cap cap2 : Nat) (l l2 : List CA) (L : CL w ao n cap l) (L2 : CL w bo n cap2 l2) (hl : l.map CA.c = l2.map CA.c) (hn : n ≤ 1000) :
    Calls Tryz.prog 16 #[.slice ao n cap, .slice bo n cap2] w fun x w' => x = .returned (.bool true) ∧ Below w.heap.size w w' := by
  have CR := rresults_any w 0 ao bo n cap cap2 l l2 false L L2 hl hn
  unfold resV at CR
  clear L L2 hl
  go_enter Tryz.func16, Tryz.ntmps16
  go_wp2_with fail
  refine CR.mono ?_
  rintro e w2 ⟨rfl, C2⟩
  clear CR
  go_wp2
  go_ret
  exact ⟨rfl, C2⟩
theorem CL.len_of {w w' : World} {ao bo : Option Addr} {n m cap cap2 : Nat} {l l2 : List CA} (L : CL w ao n cap l) (L2 : CL w' bo m cap2 l2) (hl : l.map CA.c = l2.map CA.c) : m = n := by
  have := congrArg List.length hl
  rw [List.length_map, List.length_map, L.len, L2.len] at this
  exact this.symm
open Go.RowKit
structure Lim (cs : List CV) : Prop where
  len : cs.length ≤ 32
  col : ∀ k : KA, (colC k cs).length ≤ 4
theorem lay_last {ds : List CV} {c : CV} (h : ∀ x ∈ ds, cmpL (keyL x.kv) (keyL c.kv) < 0) : cIns ds c = ds ++ [c] := by
  unfold cIns cLo cHi
  rw [List.filter_eq_self.2 (fun x hx => decide_eq_true (h x hx)), List.filter_eq_nil_iff.2 (fun x hx => by simpa using cmpL_asym (h x hx))]
theorem layAll_srt : ∀ (cs ds : List CV), CSrt (ds ++ cs) → layAll ds cs = ds ++ cs
  | [], ds, _ => (List.append_nil ds).symm
  | c :: cs, ds, h => by
    have h1 : ∀ x ∈ ds, cmpL (keyL x.kv) (keyL c.kv) < 0 := fun x hx => by
      unfold CSrt Srt at h
      rw [List.map_append, List.pairwise_append] at h
      exact h.2.2 (itm x) (List.mem_map.2 ⟨x, hx, rfl⟩) (itm c) (List.mem_map.2 ⟨c, List.mem_cons_self .., rfl⟩)
    show layAll (cIns ds c) cs = _
    rw [lay_last h1, layAll_srt cs (ds ++ [c]) (by rw [List.append_assoc]; exact h), List.append_assoc]
    rfl
theorem srt_one {cs : List CV} (h : CSrt cs) (k : KA) : cntK k (cs.map CV.ky) ≤ 1 := by
  rw [cnt_map]
  have hp : (cs.filter fun c => keq k c.ky).Pairwise (fun a b => cmpL (keyL a.kv) (keyL b.kv) < 0) := by
    have h1 : cs.Pairwise (fun a b => cmpL (keyL a.kv) (keyL b.kv) < 0) := by
      unfold CSrt Srt at h
      rw [List.pairwise_map] at h
      exact h
    exact h1.filter _
  have hall : ∀ x ∈ cs.filter (fun c => keq k c.ky), x.ky = k := fun x hx => ((keq_iff k x.ky).1 (List.mem_filter.1 hx).2).symm
  unfold cnt
  generalize cs.filter (fun c => keq k c.ky) = l at hp hall
  match l, hp, hall with
  | [], _, _ => exact Nat.zero_le _
  | [_], _, _ => exact Nat.le_refl _
  | a :: b :: l, hp, hall =>
    exfalso
    have h1 := (List.pairwise_cons.1 hp).1 b (List.mem_cons_self ..)
    have h2 := hall a (List.mem_cons_self ..)
    have h3 := hall b (List.mem_cons_of_mem _ (List.mem_cons_self ..))
    have h4 : a.kv = b.kv := by
      have h5 : a.ky = b.ky := h2.trans h3.symm
      simp only [CV.ky, KA.mk.injEq] at h5
      show KV.mk _ _ _ _ = KV.mk _ _ _ _
      rw [h5.1, h5.2.1, h5.2.2.1, h5.2.2.2]
    rw [h4] at h1
    exact cmpL_irr _ h1
theorem col_few {cs : List CV} (h : Lim cs) (k : KA) : cntK k (cs.map fun c => c.ky.colK) ≤ 4 := by
  rw [cnt_map]
  refine Nat.le_trans ?_ (h.col k)
  rw [colC_cnt]
  unfold cnt
  rw [← List.countP_eq_length_filter, ← List.countP_eq_length_filter]
  refine List.countP_mono_left fun c _ hc => ?_
  obtain ⟨e1, e2, e3, -⟩ := of_decide_eq_true hc
  exact decide_eq_true ⟨e1.symm, e2.symm, e3.symm⟩
theorem judge_own {f t : ByteArray} {n : Nat} {cs : List CV} (h : Stand f t n cs) (hl : Lim cs) : judgeK f t cs = 0 := by
  unfold judgeK
  have h1 : cs.any notR = false := List.any_eq_false.2 fun c hc => by
    have := (h.good c hc).right
    have h2 : c.ky.isRight = true := by
      rw [KA.isRight_kv]
      exact decide_eq_true this
    unfold notR
    rw [h2]
    simp
  have h2 : cs.any (fun c => !(inRows f t c.row)) = false := List.any_eq_false.2 fun c hc => by rw [h.rows c hc]; simp
  have h3 : cs.any wrongV = false := List.any_eq_false.2 fun c hc => by
    have g := h.good c hc
    have g1 := g.val
    unfold wrongV
    rw [decide_eq_false (by omega)]
    cases hg : c.gone with
    | false => simp
    | true => rw [g.gone hg]; simp
  have h4 := mostK_le' _ 1 (srt_one h.srt)
  have h5 := mostK_le' _ 4 (col_few hl)
  have h6 := hl.len
  rw [h1, h2, h3, decide_eq_false (by omega), if_neg (by simp), if_neg (by simp), if_neg (by simp), if_neg (by omega), if_neg (by omega)]
open Go.RowKit
theorem CSrt.pw {l : List CV} (h : CSrt l) : l.Pairwise (fun a b => cmpL (keyL a.kv) (keyL b.kv) < 0) := by
  unfold CSrt Srt at h
  rw [List.pairwise_map] at h
  exact h
theorem CSrt.sub {l m : List CV} (h : CSrt l) (hm : m.Sublist l) : CSrt m := by
  unfold CSrt Srt at h ⊢
  exact h.sublist (hm.map itm)
theorem ccut_parts {l : List CV} {k : Nat} {q : KV} (h1 : ∀ x ∈ l.take k, cmpL (keyL x.kv) (keyL q) < 0) (h2 : ∀ x ∈ l.drop k, ¬ cmpL (keyL x.kv) (keyL q) < 0) : cLo q l = l.take k ∧ cHi q l = (l.drop k).filter fun x => decide (cmpL (keyL q) (keyL x.kv) < 0) := by
  have e : l = l.take k ++ l.drop k := (List.take_append_drop k l).symm
  constructor
  · unfold cLo
    conv => lhs; rw [e]
    rw [List.filter_append, List.filter_eq_self.2 fun x hx => decide_eq_true (h1 x hx), List.filter_eq_nil_iff.2 fun x hx => by simpa using h2 x hx, List.append_nil]
  · unfold cHi
    conv => lhs; rw [e]
    rw [List.filter_append, List.filter_eq_nil_iff.2 fun x hx => by simpa using cmpL_asym (h1 x hx), List.nil_append]
theorem ccut_drop {l : List CV} (hs : CSrt l) {k : Nat} {q : KV} (hk : ∀ x r, l.drop k = x :: r → ¬ cmpL (keyL x.kv) (keyL q) < 0) : ∀ x ∈ l.drop k, ¬ cmpL (keyL x.kv) (keyL q) < 0 := by
  intro x hx
  cases hd : l.drop k with
  | nil => rw [hd] at hx; simp at hx
  | cons y r =>
    rw [hd] at hx
    have hy := hk y r hd
    have hsd : CSrt (y :: r) := by rw [← hd]; exact hs.sub (List.drop_sublist k l)
    rcases List.mem_cons.1 hx with rfl | hx
    · exact hy
    · intro hlt
      exact hy (cmpL_lt_trans _ _ _ ((List.pairwise_cons.1 hsd.pw).1 x hx) hlt)
theorem cput_same {l : List CV} (hs : CSrt l) {k : Nat} {c y : CV} {r : List CV} (h1 : ∀ z ∈ l.take k, cmpL (keyL z.kv) (keyL c.kv) < 0) (hd : l.drop k = y :: r) (hy : keyL y.kv = keyL c.kv) : l.take k ++ c :: r = cIns l c := by
  have hsd : CSrt (y :: r) := by rw [← hd]; exact hs.sub (List.drop_sublist k l)
  obtain ⟨e1, e2⟩ := ccut_parts h1 (ccut_drop hs fun z q hz => by rw [hd] at hz; obtain ⟨rfl, -⟩ := List.cons.inj hz; rw [hy]; exact cmpL_irr _)
  unfold cIns
  rw [e1, e2, hd, List.filter_cons, if_neg (by rw [hy]; simpa using cmpL_irr (keyL c.kv)), List.filter_eq_self.2 fun z hz => decide_eq_true (by rw [← hy]; exact (List.pairwise_cons.1 hsd.pw).1 z hz)]
theorem cput_new {l : List CV} (hs : CSrt l) {k : Nat} {c : CV} (h1 : ∀ z ∈ l.take k, cmpL (keyL z.kv) (keyL c.kv) < 0) (hd : ∀ y r, l.drop k = y :: r → ¬ cmpL (keyL y.kv) (keyL c.kv) < 0 ∧ keyL y.kv ≠ keyL c.kv) : l.take k ++ c :: l.drop k = cIns l c := by
  have h2 := ccut_drop hs fun z q hz => (hd z q hz).1
  obtain ⟨e1, e2⟩ := ccut_parts h1 h2
  unfold cIns
  rw [e1, e2, List.filter_eq_self.2 fun z hz => decide_eq_true ?_]
  cases he : l.drop k with
  | nil => rw [he] at hz; simp at hz
  | cons y r =>
    have hsd : CSrt (y :: r) := by rw [← he]; exact hs.sub (List.drop_sublist k l)
    obtain ⟨g1, g2⟩ := hd y r he
    have gy : cmpL (keyL c.kv) (keyL y.kv) < 0 := by
      rcases cmpL_total (keyL c.kv) (keyL y.kv) with h | h | h
      · exact h
      · exact absurd h.symm g2
      · exact absurd h g1
    rw [he] at hz
    rcases List.mem_cons.1 hz with rfl | hz
    · exact gy
    · exact cmpL_lt_trans _ _ _ gy ((List.pairwise_cons.1 hsd.pw).1 z hz)
open Go.RowKit
def belR (a : ByteArray) (c : CV) : Bool := decide (cmpL (sb c.row) (sb a) < 0)
def splitK (f t a : ByteArray) : Int := if a.size = 0 ∨ 32 < a.size then 1 else if ¬ cmpL (sb f) (sb a) < 0 ∨ (t.size ≠ 0 ∧ ¬ cmpL (sb a) (sb t) < 0) then 8 else 0
theorem splitK_ok {f t a : ByteArray} (h : splitK f t a = 0) : 1 ≤ a.size ∧ a.size ≤ 32 ∧ cmpL (sb f) (sb a) < 0 ∧ (t.size = 0 ∨ cmpL (sb a) (sb t) < 0) := by
  unfold splitK at h
  split at h
  · simp at h
  rename_i h1
  split at h
  · simp at h
  rename_i h2
  refine ⟨by omega, by omega, ?_, ?_⟩
  · by_cases g : cmpL (sb f) (sb a) < 0
    · exact g
    · exact absurd (.inl g) h2
  · by_cases g : t.size = 0
    · exact .inl g
    · by_cases g2 : cmpL (sb a) (sb t) < 0
      · exact .inr g2
      · exact absurd (.inr ⟨g, g2⟩) h2
theorem newK_ok {f t : ByteArray} (h : newK f t = 0) : f.size ≤ 32 ∧ t.size ≤ 32 ∧ (t.size = 0 ∨ cmpL (sb f) (sb t) < 0) := by
  unfold newK at h
  split at h
  · assumption
  · simp at h
theorem newK_of {f t : ByteArray} (h : f.size ≤ 32 ∧ t.size ≤ 32 ∧ (t.size = 0 ∨ cmpL (sb f) (sb t) < 0)) : newK f t = 0 := by
  unfold newK
  rw [if_pos h]
theorem Lim.filter {cs : List CV} (h : Lim cs) (q : CV → Bool) : Lim (cs.filter q) := by
  refine ⟨Nat.le_trans (List.length_filter_le _ _) h.len, fun k => ?_⟩
  have h1 := h.col k
  unfold colC at h1 ⊢
  rw [List.filter_filter]
  refine Nat.le_trans ?_ h1
  rw [← List.countP_eq_length_filter, ← List.countP_eq_length_filter]
  exact List.countP_mono_left fun c _ hc => (Bool.and_eq_true_iff.1 hc).1
theorem Stand.sub {f t f2 t2 : ByteArray} {n : Nat} {cs : List CV} (h : Stand f t n cs) (q : CV → Bool) (hr : ∀ c ∈ cs, q c = true → inRows f2 t2 c.row = true) : Stand f2 t2 n (cs.filter q) :=
  ⟨h.srt.sub List.filter_sublist, fun c hc => h.good c (List.mem_filter.1 hc).1, fun c hc => hr c (List.mem_filter.1 hc).1 (List.mem_filter.1 hc).2, Nat.le_trans (List.length_filter_le _ _) h.len⟩
theorem low_rows {f t a : ByteArray} {n : Nat} {cs : List CV} (h : Stand f t n cs) : Stand f a n (cs.filter (belR a)) := h.sub _ fun c hc hb => by
  have h1 := of_decide_eq_true (h.rows c hc)
  exact decide_eq_true ⟨h1.1, .inr (of_decide_eq_true hb)⟩
theorem high_rows {f t a : ByteArray} {n : Nat} {cs : List CV} (h : Stand f t n cs) : Stand a t n (cs.filter fun c => !(belR a c)) := h.sub _ fun c hc hb => by
  have h1 := of_decide_eq_true (h.rows c hc)
  refine decide_eq_true ⟨fun g => ?_, h1.2⟩
  rw [show belR a c = true from decide_eq_true g] at hb
  simp at hb
theorem of_own {f t : ByteArray} {n : Nat} {cs : List CV} (h : Stand f t n cs) (hl : Lim cs) (hk : newK f t = 0) : ofK f t cs = 0 ∧ layAll [] cs = cs := by
  refine ⟨?_, by rw [layAll_srt cs [] h.srt, List.nil_append]⟩
  unfold ofK
  rw [if_pos hk]
  exact judge_own h hl
open Go.RowKit
set_option maxHeartbeats 1000000 in
set_option maxRecDepth 100000 in
theorem cells_row (w : World) (p : Nat) (f t : ByteArray) (cs : List CV) (hT : TB w p f t cs) (hs : CSrt cs) (hg : CGood cs) (hf : f.size ≤ 32) (ht : t.size ≤ 32) (hr : ∀ c ∈ cs, inRows f t c.row = true) (hn : cs.length ≤ 1000) :
    Calls Tryz.prog 17 #[.pointer (some ⟨p, 0, none⟩)] w (AmRow w cs) := by
  have hcs : (cs.filter fun c => inRows f t c.row && true) = cs := List.filter_eq_self.2 fun c hc => by
    rw [Bool.and_true]
    exact hr c hc
  have HA : Hid (∀ V, Below w.heap.size w V → Calls Tryz.prog 47 #[.pointer (some ⟨p, 0, none⟩), .string f, .string t, .func (.func 48) #[] #[]] V fun e w' => ∃ ao n cap l, e = .returned (.slice ao n cap) ∧ ((∃ base, w.heap.size ≤ base ∧ CRow w' base (.slice ao n cap) l) ∧ l.map CA.c = cs) ∧ Below V.heap.size V w') := fun V hV => by
    have := among_row V p f t cs f t 48 #[] (fun _ => true) (enters_of Tryz.func48 (by kernel_rfl) rfl) (hT.below hV) hs hg hf ht (by omega) (all_tells V)
    rw [hcs] at this
    refine this.mono ?_
    rintro e w2 ⟨v, base, l, rfl, hb, R, h3, C2⟩
    obtain ⟨ao, cap, rfl, -⟩ := R.cl
    exact ⟨ao, _, cap, l, rfl, ⟨⟨base, Nat.le_trans hV.size hb, R⟩, h3⟩, C2⟩
  obtain ⟨u, A0, -⟩ := hT
  have c0 : w.cell? ⟨p, 0, none⟩ = some (.string f) := Arr.cell A0 0
  have c1 : w.cell? ⟨p, 1, none⟩ = some (.string t) := Arr.cell A0 1
  clear hcs A0 hs hg hr
  go_enter Tryz.func17, Tryz.ntmps17
  go_wp2
  have zHS : Hid (∀ V, Below w.heap.size w V → V.cell? ⟨p, 0, none⟩ = some (.string f) ∧ V.cell? ⟨p, 1, none⟩ = some (.string t)) := fun V hV => ⟨(hV.cell (World.block_lt_of_cell? _ _ c0)).trans c0, (hV.cell (World.block_lt_of_cell? _ _ c1)).trans c1⟩
  have zE0 : Below w.heap.size w w.drew := (Below.refl _ _).drew
  refine wp_region_noPanic ?_
  refine wp_region_held_drew (S := fun V => V.cell? ⟨p, 0, none⟩ = some (.string f) ∧ V.cell? ⟨p, 1, none⟩ = some (.string t)) (by kernel_rfl) (zHS.out _ zE0) (fun zH0 => ?_)
  obtain ⟨zv0, hv0⟩ : ∃ v, v = w.drew := ⟨_, rfl⟩
  rw [← hv0] at zH0 zE0 ⊢
  clear hv0
  refine hr_take_w 0 (some 5) (.pointer (some ⟨p, 0, none⟩)) rfl rfl (by kernel_rfl) (by kernel_rfl) (by kernel_rfl) rfl (fun W hW => by obtain ⟨h0, h1⟩ := hW; go_simp) zH0 ?_
  simp only [FL]
  refine hr_take_w 1 (some 6) (.pointer (some ⟨p, 0, none⟩)) rfl rfl (by kernel_rfl) (by kernel_rfl) (by kernel_rfl) rfl (fun W hW => by obtain ⟨h0, h1⟩ := hW; go_simp) zH0 ?_
  simp only [FL]
  refine hr_take_w 2 (some 7) (.pointer (some ⟨p, 0, none⟩)) rfl rfl (by kernel_rfl) (by kernel_rfl) (by kernel_rfl) rfl (fun W hW => by obtain ⟨h0, h1⟩ := hW; go_simp) zH0 ?_
  simp only [FL]
  refine hr_take_w 3 (some 8) (.pointer (some ⟨p, 0, none⟩)) rfl rfl (by kernel_rfl) (by kernel_rfl) (by kernel_rfl) rfl (fun W hW => by obtain ⟨h0, h1⟩ := hW; go_simp) zH0 ?_
  simp only [FL]
  refine hr_take_w 4 (some 9) (.string f) rfl rfl (by kernel_rfl) (by kernel_rfl) (by kernel_rfl) rfl (fun W hW => by obtain ⟨h0, h1⟩ := hW; go_simp) zH0 ?_
  simp only [FL]
  refine hr_take_w 5 (some 10) (.pointer (some ⟨p, 0, none⟩)) rfl rfl (by kernel_rfl) (by kernel_rfl) (by kernel_rfl) rfl (fun W hW => by obtain ⟨h0, h1⟩ := hW; go_simp) zH0 ?_
  simp only [FL]
  refine hr_take_w 6 (some 11) (.pointer (some ⟨p, 0, none⟩)) rfl rfl (by kernel_rfl) (by kernel_rfl) (by kernel_rfl) rfl (fun W hW => by obtain ⟨h0, h1⟩ := hW; go_simp) zH0 ?_
  simp only [FL]
  refine hr_take_w 7 (some 12) (.pointer (some ⟨p, 1, none⟩)) rfl rfl (by kernel_rfl) (by kernel_rfl) (by kernel_rfl) rfl (fun W hW => by obtain ⟨h0, h1⟩ := hW; go_simp) zH0 ?_
  simp only [FL]
  refine hr_take_w 8 (some 13) (.string t) rfl rfl (by kernel_rfl) (by kernel_rfl) (by kernel_rfl) rfl (fun W hW => by obtain ⟨h0, h1⟩ := hW; go_simp) zH0 ?_
  simp only [FL]
  refine hr_call_w 9 (some 14) 47 #[.pointer (some ⟨p, 0, none⟩), .string f, .string t, .func (.func 48) #[] #[]] rfl rfl (by kernel_rfl) rfl (by go_simp) (fun v w' => ∃ ao n cap l, v = .slice ao n cap ∧ ((∃ base, w.heap.size ≤ base ∧ CRow w' base (.slice ao n cap) l) ∧ l.map CA.c = cs) ∧ Below zv0.heap.size zv0 w') ((HA.out zv0 zE0).mono (by
    rintro e w' ⟨ao, n, cap, l, rfl, F, C⟩
    exact ⟨_, rfl, ao, n, cap, l, rfl, F, C⟩)) ?_
  rintro v zv1 ⟨ao, n, cap, l, rfl, zF0, zC0⟩
  have zE1 := zE0.trans (zC0.mono zE0.size)
  have zH1 := zHS.out zv1 zE1
  refine ⟨zH1, ?_⟩
  simp only [FL]
  refine hr_take_w 10 (some 2) (.slice ao n cap) rfl rfl (by kernel_rfl) (by kernel_rfl) (by kernel_rfl) rfl (fun W hW => by obtain ⟨h0, h1⟩ := hW; go_simp) zH1 ?_
  simp only [FL]
  refine wpAnyH_done (by kernel_rfl) ?_ _
  refine NoPanic.normal ?_
  go_wp2
  go_ret
  obtain ⟨⟨base, hb, R⟩, h3⟩ := zF0
  exact ⟨_, base, l, rfl, hb, R, h3, zE1⟩
open Go.RowKit
set_option maxRecDepth 100000 in
set_option maxHeartbeats 2000000 in
theorem text_any (w : World) (s t : ByteArray) (hs : s.size ≤ maxLen) (ht : t.size ≤ maxLen) :
    Calls Tryz.prog 54 #[.string s, .string t] w fun e w' => e = .returned (.int .i64 (cmpL (sb s) (sb t))) ∧ Below w.heap.size w w' := by
  simp only [maxLen] at hs ht
  go_enter Tryz.func54, Tryz.ntmps54
  go_wp2_with fail
  go_loopw [5] (fun i wr => ∃ k : Nat, k ≤ s.size ∧ k ≤ t.size ∧ i = .int .i64 k ∧ Below w.heap.size w wr ∧ cmpL (sb s) (sb t) = cmpL ((sb s).drop k) ((sb t).drop k)) (fun i _ => s.size - (intOf i).toNat)
  case atStart => exact ⟨0, by omega, by omega, rfl, Below.refl _ _, rfl⟩
  case round =>
    obtain ⟨k, h1, h2, rfl, B, hc⟩ := hrel
    by_cases l1 : k < s.size
    · have i1 : (k : Int) < (s.size : Int) := by omega
      by_cases l2 : k < t.size
      · have i2 : (k : Int) < (t.size : Int) := by omega
        rw [sb_at s k l1, sb_at t k l2] at hc
        obtain ⟨x, hx⟩ : ∃ x : Nat, x = s[k].toNat := ⟨_, rfl⟩
        obtain ⟨y, hy⟩ : ∃ y : Nat, y = t[k].toNat := ⟨_, rfl⟩
        rw [← hx, ← hy] at hc
        have r1 : ∀ W : World, (Instr.index 9 (.string s) (.int .i64 k)).run Tryz.prog W = .ok (.int .u8 x) W := fun W => by
          rw [run_index_string W _ s _ _ Tryz.underlying9, dif_pos ⟨by omega, i1⟩, hx]
          rfl
        have r2 : ∀ W : World, (Instr.index 9 (.string t) (.int .i64 k)).run Tryz.prog W = .ok (.int .u8 y) W := fun W => by
          rw [run_index_string W _ t _ _ Tryz.underlying9, dif_pos ⟨by omega, i2⟩, hy]
          rfl
        clear hx hy
        by_cases e : x = y
        · subst e
          have hc' : Hid (cmpL (sb s) (sb t) = cmpL ((sb s).drop (k + 1)) ((sb t).drop (k + 1))) := by
            show _ = _
            rw [hc]
            rw [cmpL_cons, if_pos rfl]
          clear hc
          go_wp2_with fail
          go_quiet (fail)
          rename Nat => q
          go_wp2
          go_roundw
          case rel => exact ⟨k + 1, by omega, by omega, by go_num, belN B q, hc'.out⟩
          case measure => simp [intOf]; omega
        · have ne : ((x : Int) == (y : Int)) = false := by simp; omega
          have nn : ((x : Int) != (y : Int)) = true := by simp; omega
          by_cases l : x < y
          · have li : (x : Int) < (y : Int) := by omega
            have hc' : Hid (cmpL (sb s) (sb t) = -1) := by
              show _ = _
              rw [hc, cmpL_cons, if_neg (by omega), if_pos li]
            clear hc
            go_wp2_with fail
            go_quiet (fail)
            rename Nat => q
            go_wp2_with fail
            go_quiet (fail)
            rename Nat => q2
            go_wp2
            go_ret
            exact ⟨by rw [hc'.out] <;> rfl, belN (belN B q) q2⟩
          · have li : ¬ (x : Int) < (y : Int) := by omega
            have hc' : Hid (cmpL (sb s) (sb t) = 1) := by
              show _ = _
              rw [hc, cmpL_cons, if_neg (by omega), if_neg li]
            clear hc
            go_wp2_with fail
            go_quiet (fail)
            rename Nat => q
            go_wp2_with fail
            go_quiet (fail)
            rename Nat => q2
            go_wp2
            go_ret
            exact ⟨by rw [hc'.out] <;> rfl, belN (belN B q) q2⟩
      · have i2 : (t.size : Int) ≤ (k : Int) := by omega
        rw [sb_at s k l1, sb_end t k (by omega)] at hc
        have hc' : Hid (cmpL (sb s) (sb t) = 1) := hc
        clear hc
        have f1 : ((s.size : Int) == (t.size : Int)) = false := by simp; omega
        have f2 : ¬ (s.size : Int) < (t.size : Int) := by omega
        go_wp2
        go_ret
        exact ⟨by rw [hc'.out] <;> rfl, B⟩
    · have i1 : (s.size : Int) ≤ (k : Int) := by omega
      rw [sb_end s k (by omega)] at hc
      by_cases l2 : k < t.size
      · rw [sb_at t k l2] at hc
        have hc' : Hid (cmpL (sb s) (sb t) = -1) := hc
        clear hc
        have f1 : ((s.size : Int) == (t.size : Int)) = false := by simp; omega
        have f2 : (s.size : Int) < (t.size : Int) := by omega
        go_wp2
        go_ret
        exact ⟨by rw [hc'.out] <;> rfl, B⟩
      · rw [sb_end t k (by omega)] at hc
        have hc' : Hid (cmpL (sb s) (sb t) = 0) := hc
        clear hc
        have f1 : ((s.size : Int) == (t.size : Int)) = true := by simp; omega
        go_wp2
        go_ret
        exact ⟨by rw [hc'.out] <;> rfl, B⟩
open Go.RowKit
theorem empty_facts (t : ByteArray) (b : Bool) (h : b = decide (t.size ≠ 0)) : (t.toList == (ByteArray.mk #[]).toList) = !b ∧ t.toList.isEmpty = !b ∧ (t.toList == []) = !b := by
  have te0 : (t.toList == (ByteArray.mk #[]).toList) = !b := by
    rw [h]
    by_cases hz : t.size = 0
    · rw [empty_of hz]; simp; rfl
    · rw [toL_ne (fun h => hz (by rw [h]; rfl))]; simp [hz]
  refine ⟨te0, by rw [toE, h]; simp, ?_⟩
  rw [← te0]
  congr 1
  simp
set_option maxHeartbeats 1000000 in
theorem rright10_any (w : World) (f t : ByteArray) (hf : f.size ≤ maxLen) (ht : t.size ≤ maxLen) :
    Calls Tryz.prog 32 #[.string f, .string t] w fun e w' => e = .returned (.bool (decide (newK f t = 0))) ∧ Below w.heap.size w w' := by
  obtain ⟨b, hb⟩ : ∃ b, b = decide (newK f t = 0) := ⟨_, rfl⟩
  rw [← hb]
  have HB : Hid (b = decide (f.size ≤ 32 ∧ t.size ≤ 32 ∧ (t.size = 0 ∨ cmpL (sb f) (sb t) < 0))) := by
    show b = _
    rw [hb]
    unfold newK
    by_cases h : f.size ≤ 32 ∧ t.size ≤ 32 ∧ (t.size = 0 ∨ cmpL (sb f) (sb t) < 0)
    · rw [if_pos h, decide_eq_true h]; rfl
    · rw [if_neg h, decide_eq_false h]; rfl
  clear hb
  have CT := text_any w f t hf ht
  obtain ⟨c, hc⟩ : ∃ c, c = cmpL (sb f) (sb t) := ⟨_, rfl⟩
  rw [← hc] at CT HB
  clear hc
  by_cases g1 : f.size ≤ 32
  case neg =>
    have i1 : ¬ (f.size : Int) ≤ 32 := by omega
    obtain rfl : b = false := HB.out.trans (decide_eq_false fun h => g1 h.1)
    clear CT
    go_enter Tryz.func32, Tryz.ntmps32
    go_wp2
    go_ret
    exact ⟨rfl, Below.refl _ _⟩
  have i1 : (f.size : Int) ≤ 32 := by omega
  by_cases g2 : t.size ≤ 32
  case neg =>
    have i2 : ¬ (t.size : Int) ≤ 32 := by omega
    obtain rfl : b = false := HB.out.trans (decide_eq_false fun h => g2 h.2.1)
    clear CT
    go_enter Tryz.func32, Tryz.ntmps32
    go_wp2
    go_ret
    exact ⟨rfl, Below.refl _ _⟩
  have i2 : (t.size : Int) ≤ 32 := by omega
  obtain ⟨tb, htb⟩ : ∃ b, b = decide (t.size ≠ 0) := ⟨_, rfl⟩
  obtain ⟨te0, te1, te2⟩ := empty_facts t tb htb
  cases tb with
  | false =>
    have hz : t.size = 0 := by
      have := of_decide_eq_false htb.symm
      omega
    obtain rfl : b = true := HB.out.trans (decide_eq_true ⟨g1, g2, .inl hz⟩)
    clear CT htb
    go_enter Tryz.func32, Tryz.ntmps32
    go_wp2
    go_ret
    exact ⟨rfl, Below.refl _ _⟩
  | true =>
    have hz : t.size ≠ 0 := of_decide_eq_true htb.symm
    clear htb
    by_cases g3 : c < 0
    · obtain rfl : b = true := HB.out.trans (decide_eq_true ⟨g1, g2, .inr g3⟩)
      clear HB
      go_enter Tryz.func32, Tryz.ntmps32
      go_wp2_with fail
      refine CT.mono ?_
      rintro e w2 ⟨rfl, C2⟩
      clear CT
      go_wp2
      go_ret
      exact ⟨rfl, C2⟩
    · obtain rfl : b = false := HB.out.trans (decide_eq_false fun h => h.2.2.elim hz g3)
      have dg : Hid (decide (c < 0) = false) := decide_eq_false g3
      clear HB g3
      go_enter Tryz.func32, Tryz.ntmps32
      go_wp2_with fail
      refine CT.mono ?_
      rintro e w2 ⟨rfl, C2⟩
      clear CT
      go_wp2
      go_ret
      rw [dg.out]
      exact ⟨rfl, C2⟩
set_option maxHeartbeats 1000000 in
theorem rinside10_any (w : World) (f t r : ByteArray) (ao : Option Addr) (n cap : Nat) (hf : f.size ≤ maxLen) (ht : t.size ≤ maxLen) (hr : r.size ≤ maxLen) :
    Calls Tryz.prog 34 #[.agg #[.string f, .string t, .slice ao n cap], .string r] w fun e w' => e = .returned (.bool (inRows f t r)) ∧ Below w.heap.size w w' := by
  obtain ⟨b, hb⟩ : ∃ b, b = inRows f t r := ⟨_, rfl⟩
  rw [← hb]
  have HB : Hid (b = decide (0 ≤ cmpL (sb r) (sb f) ∧ (t.size = 0 ∨ cmpL (sb r) (sb t) < 0))) := by
    show b = _
    rw [hb]
    unfold inRows
    simp only [Int.not_lt]
  clear hb
  obtain ⟨W1, hW1⟩ : ∃ V, V = w.alloc (.cells #[.string f, .string t, .slice ao n cap] 39) := ⟨_, rfl⟩
  have C1 : Below w.heap.size w W1 := by rw [hW1]; exact (Below.refl _ _).alloc (Nat.le_refl _) _
  have A1 : Arr W1 w.heap.size 39 [.string f, .string t, .slice ao n cap] := by rw [hW1]; exact heap_alloc_new w _
  have CT := text_any W1 r f hr hf
  have CU := fun V => text_any V r t hr ht
  obtain ⟨c, hc⟩ : ∃ c, c = cmpL (sb r) (sb f) := ⟨_, rfl⟩
  obtain ⟨d, hd⟩ : ∃ c, c = cmpL (sb r) (sb t) := ⟨_, rfl⟩
  rw [← hc] at CT HB
  rw [← hd] at CU HB
  clear hc hd
  obtain ⟨tb, htb⟩ : ∃ b, b = decide (t.size ≠ 0) := ⟨_, rfl⟩
  obtain ⟨te0, te1, te2⟩ := empty_facts t tb htb
  go_enter Tryz.func34, Tryz.ntmps34
  go_wp2_with fail
  rw [← hW1]
  clear hW1
  refine CT.mono ?_
  rintro e w2 ⟨rfl, C2⟩
  have A2 := arr_below A1 C2
  have c1 : w2.cell? ⟨w.heap.size, 1, none⟩ = some (.string t) := A2.cell 1
  have B2 := C1.trans (C2.mono C1.size)
  clear CT A1 A2
  by_cases g1 : c < 0
  · have i1 : ¬ (0 : Int) ≤ c := by omega
    obtain rfl : b = false := HB.out.trans (decide_eq_false fun h => i1 h.1)
    clear CU HB
    go_wp2
    go_ret
    exact ⟨rfl, B2⟩
  have i1 : (0 : Int) ≤ c := by omega
  cases tb with
  | false =>
    have hz : t.size = 0 := by
      have := of_decide_eq_false htb.symm
      omega
    obtain rfl : b = true := HB.out.trans (decide_eq_true ⟨i1, .inl hz⟩)
    clear CU htb HB
    go_wp2
    go_ret
    exact ⟨rfl, B2⟩
  | true =>
    have hz : t.size ≠ 0 := of_decide_eq_true htb.symm
    clear htb
    have CU := CU w2
    by_cases g3 : d < 0
    · obtain rfl : b = true := HB.out.trans (decide_eq_true ⟨i1, .inr g3⟩)
      clear HB
      go_wp2_with fail
      refine CU.mono ?_
      rintro e w3 ⟨rfl, C3⟩
      clear CU
      go_wp2
      go_ret
      exact ⟨rfl, B2.trans (C3.mono B2.size)⟩
    · obtain rfl : b = false := HB.out.trans (decide_eq_false fun h => h.2.elim hz g3)
      have dg : Hid (decide (d < 0) = false) := decide_eq_false g3
      clear HB g3
      go_wp2_with fail
      refine CU.mono ?_
      rintro e w3 ⟨rfl, C3⟩
      clear CU
      go_wp2
      go_ret
      rw [dg.out]
      exact ⟨rfl, B2.trans (C3.mono B2.size)⟩
end Go.Proofs.YtlljmhcgjkolpaaGreatDoor

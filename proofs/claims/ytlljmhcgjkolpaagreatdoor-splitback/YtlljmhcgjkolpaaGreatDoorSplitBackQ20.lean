/-
  Texts in one: TbDelF, TbLim, RbMath, SpMath, SpCells, CText, RbSmall.
-/
import Derived.Test.YtlljmhcgjkolpaaGreatDoorSplitBackQFL
import Derived.Test.YtlljmhcgjkolpaaGreatDoorSplitBackQ19
import Derived.Test.YtlljmhcgjkolpaaGreatDoorSplitBackQ18
import Derived.Test.YtlljmhcgjkolpaaGreatDoorSplitBackQ7
import Derived.Test.YtlljmhcgjkolpaaGreatDoorSplitBackQ4
import Derived.Deep.QuietTactic
import Derived.BigQuiet
import Derived.Test.YtlljmhcgjkolpaaGreatDoorSplitBackQ8
import Derived.Test.YtlljmhcgjkolpaaGreatDoorSplitBackQ3
import Derived.Test.YtlljmhcgjkolpaaGreatDoorSplitBackQ0
namespace Go.Proofs.YtlljmhcgjkolpaaGreatDoor
open Go.RowKit
def zC (n : Nat) : List Value := (Builtin.zeroCells #[.string ⟨#[]⟩, .string ⟨#[]⟩, .string ⟨#[]⟩, .int .u64 0, .slice none 0 0, .bool false] n).toList
theorem zC_len (n : Nat) : (zC n).length = n * 6 := by simp [zC, Builtin.zeroCells]
theorem zC_one (n : Nat) : ∀ v ∈ zC n, v.oneCell' = true := fun v hv => by
  unfold zC Builtin.zeroCells at hv
  simp only [Array.toList_map, List.mem_map] at hv
  obtain ⟨i, -, rfl⟩ := hv
  have : i % 6 < 6 := Nat.mod_lt _ (by decide)
  show (#[Value.string ⟨#[]⟩, .string ⟨#[]⟩, .string ⟨#[]⟩, .int .u64 0, .slice none 0 0, .bool false] : Array Value)[i % 6]!.oneCell' = true
  generalize i % 6 = y at this ⊢
  match y, this with
  | 0, _ => rfl
  | 1, _ => rfl
  | 2, _ => rfl
  | 3, _ => rfl
  | 4, _ => rfl
  | 5, _ => rfl
theorem Del.start {w : World} {base g n cap : Nat} {l : List CA} (h : CRow w base (.slice (some ⟨g, 0, none⟩) n cap) l) {k : Nat} (hk : k < l.length) : Del w g cap l (l.take k) (k + 1) ∧ cap ≤ maxLen ∧ base ≤ g := by
  rcases h.row.2 with ⟨e, -⟩ | ⟨g', cap', cur, e, a1, a2, a3, a4, a5, a6⟩
  · simp at e
  · cases e
    have key : ∀ x (hx : x < l.length) y v, l[x].cells[y]? = some v → cur.toList[x * 6 + y]? = some v := fun x hx y v hv => by
      have hy := cells_lt hv
      have h1 : (cellsC l)[x * 6 + y]? = some v := by
        unfold cellsC
        rw [flat_get CA.cells 6 (fun _ => rfl) l x y hx hy]
        exact hv
      rw [← a6, List.getElem?_take_of_lt (by omega)] at h1
      exact h1
    refine ⟨⟨⟨cur.toList, a2, by rw [Array.length_toList]; exact a5, fun x hx y v hv => ?_, fun x hx _ y v hv => key x hx y v hv⟩, h.ok, h.sl, fun c hc => List.mem_of_mem_take hc, by rw [List.length_take]; omega, a3⟩, a4, a1⟩
    rw [List.length_take] at hx
    rw [List.getElem_take] at hv
    exact key x (by omega) y v hv
set_option maxHeartbeats 4000000 in
set_option maxRecDepth 100000 in
theorem delete_of (w : World) (base : Nat) (v : Value) (l : List CA) (fn : Nat) (lb : Array Value) (pr : CV → Bool) (eg : ∀ args w, (callFunc fn args).run Tryz.prog w = .ok (.enter fn args) w) (h : CRow w base v l) (hn : l.length ≤ 1000) (hand : ∀ W g, base ≤ g → Wr g w W → Tells W fn lb pr) :
    Calls Tryz.prog 53 #[v, .func (.func fn) #[] lb] w fun e w' => ∃ ao n cap l', e = .returned (.slice ao n cap) ∧ CL w' ao n cap l' ∧ l'.map CA.c = (l.map CA.c).filter (fun c => !pr c) ∧ ∃ g, base ≤ g ∧ Wr g w w' := by
  obtain ⟨ao, cap, rfl, hcl⟩ := h.cl
  have CI := index_any w ao l.length cap l fn lb pr eg hcl hn (hand w base (Nat.le_refl _) (Wr.refl _ _))
  obtain ⟨n, hnl⟩ : ∃ n, n = l.length := ⟨_, rfl⟩
  rw [← hnl] at CI hcl h hn ⊢
  have hl1 := Nat.le_of_eq hnl
  have hl2 := Nat.le_of_eq hnl.symm
  have HH : Hid (∀ W g, base ≤ g → Wr g w W → Tells W fn lb pr) := hand
  clear hand hnl
  go_enter Tryz.func53, Tryz.ntmps53
  go_wp2_with fail
  refine CI.mono ?_
  rintro e w2 ⟨r, rfl, hr, C2⟩
  clear CI
  rcases hr with ⟨rfl, hv⟩ | ⟨h0, hv, k, rfl, ht, hkl, hp⟩
  · have HF : Hid ((l.map CA.c).filter (fun c => !pr c) = l.map CA.c) := List.filter_eq_self.2 fun c hc => by
      have := List.any_eq_false.1 hv c hc
      simpa using this
    have hcl2 := hcl.below C2
    clear hv
    go_wp2
    go_ret
    exact ⟨ao, n, cap, l, rfl, hcl2, HF.out.symm, base, Nat.le_refl _, Wr.of C2⟩
  · have e1 : ((k : Int) == -1) = false := by simp
    have hni : (n : Int) ≤ 1000 := by omega
    rw [List.getElem_map] at hp
    rw [List.length_map] at hkl
    have hki : (k : Int) ≤ 1000 := by omega
    obtain ⟨g, rfl⟩ : ∃ g, ao = some ⟨g, 0, none⟩ := by
      rcases h.row.2 with ⟨e, -⟩ | ⟨g', cap', cur, e, -⟩
      · have : n = 0 := by cases e; rfl
        omega
      · cases e
        exact ⟨g', rfl⟩
    obtain ⟨D0, hmx, hbg⟩ := Del.start (h.below C2) hkl
    have H0 : Hid ((l.take k).map CA.c = ((l.map CA.c).take (k + 1)).filter (fun c => !pr c)) := by
      show _ = _
      rw [List.take_succ_eq_append_getElem (by rw [List.length_map]; exact hkl), List.filter_append, List.filter_eq_self.2 (fun c hc => by have := List.any_eq_false.1 ht c hc; simpa using this), List.map_take]
      simp [hp]
    have hq0 : (l.take k).length = k := by rw [List.length_take]; omega
    have K0 := Wr.of (p := g) C2
    have hcn : n ≤ cap := hcl.le
    clear hv ht hp h0 hcl h
    go_wp2
    go_loopw [5, 6] (fun i j wr => ∃ (q m : Nat) (kept : List CA), i = .int .i64 q ∧ j = .int .i64 m ∧ Hid (kept.length = q) ∧ m ≤ n ∧ Del wr g cap l kept m ∧ Hid (kept.map CA.c = ((l.map CA.c).take m).filter (fun c => !pr c)) ∧ Wr g w wr) (fun _ j _ => n - (intOf j).toNat)
    case atStart => exact ⟨k, k + 1, l.take k, rfl, by go_num, hq0, by omega, D0, H0, K0⟩
    case round =>
      obtain ⟨q, m, kept, rfl, rfl, HQ, hm, D, HK, K⟩ := hrel
      have hqm : q < m := by have := D.lt; have := HQ.out; omega
      by_cases hlt : m < n
      · have hmi : (m : Int) < (n : Int) := by omega
        have hml : m < l.length := by omega
        have X := D.at hml
        have hok := D.ok _ (List.getElem_mem hml)
        have DP := D.put hml
        have HT : Hid (((l.map CA.c).take (m + 1)).filter (fun c => !pr c) = ((l.map CA.c).take m).filter (fun c => !pr c) ++ [l[m].c].filter (fun c => !pr c)) := by
          show _ = _
          rw [List.take_succ_eq_append_getElem (by rw [List.length_map]; exact hml), List.filter_append, List.getElem_map]
        obtain ⟨c, hce⟩ : ∃ c, c = l[m] := ⟨_, rfl⟩
        have HCE : Hid (c = l[m]) := hce
        rw [← hce] at X hok HT
        clear DP
        obtain ⟨q0, q1, q2, q3, q4, q5⟩ := X
        obtain ⟨W1, hW1⟩ : ∃ V, V = wr.alloc (.cells #[.string c.row, .string c.fam, .string c.qual, .int .u64 c.time, .slice c.va.ao c.va.n c.va.cap, .bool c.gone] 33) := ⟨_, rfl⟩
        have C1 : Below wr.heap.size wr W1 := by rw [hW1]; exact (Below.refl _ _).alloc (Nat.le_refl _) _
        have A1 : Arr W1 wr.heap.size 33 (#[.string c.row, .string c.fam, .string c.qual, .int .u64 c.time, .slice c.va.ao c.va.n c.va.cap, .bool c.gone]).toList := by rw [hW1]; exact heap_alloc_new wr _
        have CH := HH.out W1 g hbg (K.trans (Wr.of C1)) W1 c (Below.refl _ _) (hok.below C1)
        clear hce
        go_wp2_with fail
        rw [← hW1]
        refine CH.mono ?_
        rintro e w3 ⟨rfl, C3⟩
        have D3 := (D.below C1).below C3
        have K3 := K.trans ((Wr.of C1).trans (Wr.of C3))
        have A3 := arr_below A1 C3
        clear CH q0 q1 q2 q3 q4 q5 hW1 A1
        cases hp : pr c.c with
        | true =>
          have HK2 : Hid (kept.map CA.c = ((l.map CA.c).take (m + 1)).filter (fun c => !pr c)) := by
            show _ = _
            rw [HT.out, ← HK.out]
            simp [hp]
          have D4 := D3.skip
          clear hp HT HK
          go_wp2
          go_roundw
          case rel => exact ⟨q, m + 1, kept, rfl, by go_num, HQ, by omega, D4, HK2, K3⟩
          case measure => simp [intOf]; omega
        | false =>
          have HK2 : Hid ((kept ++ [c]).map CA.c = ((l.map CA.c).take (m + 1)).filter (fun c => !pr c)) := by
            show _ = _
            rw [HT.out, ← HK.out]
            simp [hp]
          have D4 : Del (stC w3 g (q * 6) c) g cap l (kept ++ [c]) (m + 1) := by
            have := D3.put hml
            rw [HQ.out, ← HCE.out] at this
            exact this
          have HQ2 : Hid ((kept ++ [c]).length = q + 1) := by show _ = _; rw [List.length_append, HQ.out]; rfl
          have K4 := K3.trans (stC_wr w3 g (q * 6) c)
          obtain ⟨cur, A4, hlc, -, -⟩ := D3.arr
          have hci : ∀ y, y < 6 → ∃ u, w3.cell? ⟨g, q * 6 + y, none⟩ = some u := fun y hy => by
            rw [A4.cell, List.getElem?_eq_getElem (by omega)]
            exact ⟨_, rfl⟩
          obtain ⟨u0, g0⟩ := hci 0 (by decide)
          have f0 := A4.free (q * 6 + 0)
          obtain ⟨u1, g1⟩ := hci 1 (by decide)
          have f1 := A4.free (q * 6 + 1)
          obtain ⟨u2, g2⟩ := hci 2 (by decide)
          have f2 := A4.free (q * 6 + 2)
          obtain ⟨u3, g3⟩ := hci 3 (by decide)
          have f3 := A4.free (q * 6 + 3)
          obtain ⟨u4, g4⟩ := hci 4 (by decide)
          have f4 := A4.free (q * 6 + 4)
          obtain ⟨u5, g5⟩ := hci 5 (by decide)
          have f5 := A4.free (q * 6 + 5)
          rw [Nat.add_zero] at g0 f0
          have hglt := A4.lt
          have q0 : w3.cell? ⟨wr.heap.size, 0, none⟩ = some (.string c.row) := A3.cell 0
          have q1 : w3.cell? ⟨wr.heap.size, 1, none⟩ = some (.string c.fam) := A3.cell 1
          have q2 : w3.cell? ⟨wr.heap.size, 2, none⟩ = some (.string c.qual) := A3.cell 2
          have q3 : w3.cell? ⟨wr.heap.size, 3, none⟩ = some (.int .u64 c.time) := A3.cell 3
          have q4 : w3.cell? ⟨wr.heap.size, 4, none⟩ = some (.slice c.va.ao c.va.n c.va.cap) := A3.cell 4
          have q5 : w3.cell? ⟨wr.heap.size, 5, none⟩ = some (.bool c.gone) := A3.cell 5
          have hqi : (q : Int) < (n : Int) := by omega
          unfold stC at D4 K4
          clear hp HT HK hci
          go_wp2
          go_roundw
          case rel => exact ⟨q + 1, m + 1, kept ++ [c], by go_num, by go_num, HQ2, by omega, D4, HK2, K4⟩
          case measure => simp [intOf]; omega
      · have hge : ¬ (m : Int) < (n : Int) := by omega
        obtain rfl : m = n := by omega
        obtain ⟨cur, A4, hlc, -, -⟩ := D.arr
        have hcl : ∀ ty, (Builtin.clear_ #[31] ty #[.slice (some ⟨g, q * 6, none⟩) (m - q) (cap - q)]).run Tryz.prog wr = .ok (.tuple #[]) (wr.setCells g (q * 6) (zC (m - q))) := fun ty =>
          run_clear_cells wr 31 33 ty (.agg #[.string ⟨#[]⟩, .string ⟨#[]⟩, .string ⟨#[]⟩, .int .u64 0, .slice none 0 0, .bool false]) Tryz.underlying31 (fun w => rfl) g (q * 6) (m - q) (cap - q) (by omega) (zC (m - q)) rfl (zC_one _) (fun j hj => by
            rw [zC_len] at hj
            rw [A4.cell, List.getElem?_eq_getElem (by omega)]
            rfl) (fun j _ => A4.free _)
        have DD := D.done hl1 hmx (zC (m - q))
        rw [HQ.out] at DD
        have K5 := K.trans (setCells_wr g (zC (m - q)) (q * 6) wr)
        have HF : Hid (kept.map CA.c = (l.map CA.c).filter (fun c => !pr c)) := by
          show _ = _
          rw [HK.out, List.take_of_length_le (by rw [List.length_map]; omega)]
        have hqi : (q : Int) ≤ (m : Int) := by omega
        have hqc : (q : Int) ≤ (cap : Int) := by omega
        clear HK
        go_wp2
        go_ret
        exact ⟨some ⟨g, 0, none⟩, q, cap, rfl, kept, DD, HF.out, g, hbg, K5⟩
open Go.RowKit
structure Lim (cs : List CV) : Prop where
  len : cs.length ≤ 32
  col : ∀ k : KA, (colC k cs).length ≤ 4
theorem lay_last {ds : List CV} {c : CV} (h : ∀ x ∈ ds, cmpL (keyL x.kv) (keyL c.kv) < 0) : cIns ds c = ds ++ [c] := by
  unfold cIns cLo cHi
  rw [List.filter_eq_self.2 (fun x hx => decide_eq_true (h x hx)), List.filter_eq_nil_iff.2 (fun x hx => by simpa using cmpL_asym (h x hx))]
theorem layAll_srt : ∀ (cs ds : List CV), CSrt (ds ++ cs) → layAll ds cs = ds ++ cs
  | [], ds, _ => (List.append_nil ds).symm
  | c :: cs, ds, h => by
    have h1 : ∀ x ∈ ds, cmpL (keyL x.kv) (keyL c.kv) < 0 := fun x hx => by
      unfold CSrt Srt at h
      rw [List.map_append, List.pairwise_append] at h
      exact h.2.2 (itm x) (List.mem_map.2 ⟨x, hx, rfl⟩) (itm c) (List.mem_map.2 ⟨c, List.mem_cons_self .., rfl⟩)
    show layAll (cIns ds c) cs = _
    rw [lay_last h1, layAll_srt cs (ds ++ [c]) (by rw [List.append_assoc]; exact h), List.append_assoc]
    rfl
theorem srt_one {cs : List CV} (h : CSrt cs) (k : KA) : cntK k (cs.map CV.ky) ≤ 1 := by
  rw [cnt_map]
  have hp : (cs.filter fun c => keq k c.ky).Pairwise (fun a b => cmpL (keyL a.kv) (keyL b.kv) < 0) := by
    have h1 : cs.Pairwise (fun a b => cmpL (keyL a.kv) (keyL b.kv) < 0) := by
      unfold CSrt Srt at h
      rw [List.pairwise_map] at h
      exact h
    exact h1.filter _
  have hall : ∀ x ∈ cs.filter (fun c => keq k c.ky), x.ky = k := fun x hx => ((keq_iff k x.ky).1 (List.mem_filter.1 hx).2).symm
  unfold cnt
  generalize cs.filter (fun c => keq k c.ky) = l at hp hall
  match l, hp, hall with
  | [], _, _ => exact Nat.zero_le _
  | [_], _, _ => exact Nat.le_refl _
  | a :: b :: l, hp, hall =>
    exfalso
    have h1 := (List.pairwise_cons.1 hp).1 b (List.mem_cons_self ..)
    have h2 := hall a (List.mem_cons_self ..)
    have h3 := hall b (List.mem_cons_of_mem _ (List.mem_cons_self ..))
    have h4 : a.kv = b.kv := by
      have h5 : a.ky = b.ky := h2.trans h3.symm
      simp only [CV.ky, KA.mk.injEq] at h5
      show KV.mk _ _ _ _ = KV.mk _ _ _ _
      rw [h5.1, h5.2.1, h5.2.2.1, h5.2.2.2]
    rw [h4] at h1
    exact cmpL_irr _ h1
theorem col_few {cs : List CV} (h : Lim cs) (k : KA) : cntK k (cs.map fun c => c.ky.colK) ≤ 4 := by
  rw [cnt_map]
  refine Nat.le_trans ?_ (h.col k)
  rw [colC_cnt]
  unfold cnt
  rw [← List.countP_eq_length_filter, ← List.countP_eq_length_filter]
  refine List.countP_mono_left fun c _ hc => ?_
  obtain ⟨e1, e2, e3, -⟩ := of_decide_eq_true hc
  exact decide_eq_true ⟨e1.symm, e2.symm, e3.symm⟩
theorem judge_own {f t : ByteArray} {n : Nat} {cs : List CV} (h : Stand f t n cs) (hl : Lim cs) : judgeK f t cs = 0 := by
  unfold judgeK
  have h1 : cs.any notR = false := List.any_eq_false.2 fun c hc => by
    have := (h.good c hc).right
    have h2 : c.ky.isRight = true := by
      rw [KA.isRight_kv]
      exact decide_eq_true this
    unfold notR
    rw [h2]
    simp
  have h2 : cs.any (fun c => !(inRows f t c.row)) = false := List.any_eq_false.2 fun c hc => by rw [h.rows c hc]; simp
  have h3 : cs.any wrongV = false := List.any_eq_false.2 fun c hc => by
    have g := h.good c hc
    have g1 := g.val
    unfold wrongV
    rw [decide_eq_false (by omega)]
    cases hg : c.gone with
    | false => simp
    | true => rw [g.gone hg]; simp
  have h4 := mostK_le' _ 1 (srt_one h.srt)
  have h5 := mostK_le' _ 4 (col_few hl)
  have h6 := hl.len
  rw [h1, h2, h3, decide_eq_false (by omega), if_neg (by simp), if_neg (by simp), if_neg (by simp), if_neg (by omega), if_neg (by omega)]
open Go.RowKit
theorem CSrt.pw {l : List CV} (h : CSrt l) : l.Pairwise (fun a b => cmpL (keyL a.kv) (keyL b.kv) < 0) := by
  unfold CSrt Srt at h
  rw [List.pairwise_map] at h
  exact h
theorem CSrt.sub {l m : List CV} (h : CSrt l) (hm : m.Sublist l) : CSrt m := by
  unfold CSrt Srt at h ⊢
  exact h.sublist (hm.map itm)
theorem ccut_parts {l : List CV} {k : Nat} {q : KV} (h1 : ∀ x ∈ l.take k, cmpL (keyL x.kv) (keyL q) < 0) (h2 : ∀ x ∈ l.drop k, ¬ cmpL (keyL x.kv) (keyL q) < 0) : cLo q l = l.take k ∧ cHi q l = (l.drop k).filter fun x => decide (cmpL (keyL q) (keyL x.kv) < 0) := by
  have e : l = l.take k ++ l.drop k := (List.take_append_drop k l).symm
  constructor
  · unfold cLo
    conv => lhs; rw [e]
    rw [List.filter_append, List.filter_eq_self.2 fun x hx => decide_eq_true (h1 x hx), List.filter_eq_nil_iff.2 fun x hx => by simpa using h2 x hx, List.append_nil]
  · unfold cHi
    conv => lhs; rw [e]
    rw [List.filter_append, List.filter_eq_nil_iff.2 fun x hx => by simpa using cmpL_asym (h1 x hx), List.nil_append]
theorem ccut_drop {l : List CV} (hs : CSrt l) {k : Nat} {q : KV} (hk : ∀ x r, l.drop k = x :: r → ¬ cmpL (keyL x.kv) (keyL q) < 0) : ∀ x ∈ l.drop k, ¬ cmpL (keyL x.kv) (keyL q) < 0 := by
  intro x hx
  cases hd : l.drop k with
  | nil => rw [hd] at hx; simp at hx
  | cons y r =>
    rw [hd] at hx
    have hy := hk y r hd
    have hsd : CSrt (y :: r) := by rw [← hd]; exact hs.sub (List.drop_sublist k l)
    rcases List.mem_cons.1 hx with rfl | hx
    · exact hy
    · intro hlt
      exact hy (cmpL_lt_trans _ _ _ ((List.pairwise_cons.1 hsd.pw).1 x hx) hlt)
theorem cput_same {l : List CV} (hs : CSrt l) {k : Nat} {c y : CV} {r : List CV} (h1 : ∀ z ∈ l.take k, cmpL (keyL z.kv) (keyL c.kv) < 0) (hd : l.drop k = y :: r) (hy : keyL y.kv = keyL c.kv) : l.take k ++ c :: r = cIns l c := by
  have hsd : CSrt (y :: r) := by rw [← hd]; exact hs.sub (List.drop_sublist k l)
  obtain ⟨e1, e2⟩ := ccut_parts h1 (ccut_drop hs fun z q hz => by rw [hd] at hz; obtain ⟨rfl, -⟩ := List.cons.inj hz; rw [hy]; exact cmpL_irr _)
  unfold cIns
  rw [e1, e2, hd, List.filter_cons, if_neg (by rw [hy]; simpa using cmpL_irr (keyL c.kv)), List.filter_eq_self.2 fun z hz => decide_eq_true (by rw [← hy]; exact (List.pairwise_cons.1 hsd.pw).1 z hz)]
theorem cput_new {l : List CV} (hs : CSrt l) {k : Nat} {c : CV} (h1 : ∀ z ∈ l.take k, cmpL (keyL z.kv) (keyL c.kv) < 0) (hd : ∀ y r, l.drop k = y :: r → ¬ cmpL (keyL y.kv) (keyL c.kv) < 0 ∧ keyL y.kv ≠ keyL c.kv) : l.take k ++ c :: l.drop k = cIns l c := by
  have h2 := ccut_drop hs fun z q hz => (hd z q hz).1
  obtain ⟨e1, e2⟩ := ccut_parts h1 h2
  unfold cIns
  rw [e1, e2, List.filter_eq_self.2 fun z hz => decide_eq_true ?_]
  cases he : l.drop k with
  | nil => rw [he] at hz; simp at hz
  | cons y r =>
    have hsd : CSrt (y :: r) := by rw [← he]; exact hs.sub (List.drop_sublist k l)
    obtain ⟨g1, g2⟩ := hd y r he
    have gy : cmpL (keyL c.kv) (keyL y.kv) < 0 := by
      rcases cmpL_total (keyL c.kv) (keyL y.kv) with h | h | h
      · exact h
      · exact absurd h.symm g2
      · exact absurd h g1
    rw [he] at hz
    rcases List.mem_cons.1 hz with rfl | hz
    · exact gy
    · exact cmpL_lt_trans _ _ _ gy ((List.pairwise_cons.1 hsd.pw).1 z hz)
open Go.RowKit
def belR (a : ByteArray) (c : CV) : Bool := decide (cmpL (sb c.row) (sb a) < 0)
def splitK (f t a : ByteArray) : Int := if a.size = 0 ∨ 32 < a.size then 1 else if ¬ cmpL (sb f) (sb a) < 0 ∨ (t.size ≠ 0 ∧ ¬ cmpL (sb a) (sb t) < 0) then 8 else 0
theorem splitK_ok {f t a : ByteArray} (h : splitK f t a = 0) : 1 ≤ a.size ∧ a.size ≤ 32 ∧ cmpL (sb f) (sb a) < 0 ∧ (t.size = 0 ∨ cmpL (sb a) (sb t) < 0) := by
  unfold splitK at h
  split at h
  · simp at h
  rename_i h1
  split at h
  · simp at h
  rename_i h2
  refine ⟨by omega, by omega, ?_, ?_⟩
  · by_cases g : cmpL (sb f) (sb a) < 0
    · exact g
    · exact absurd (.inl g) h2
  · by_cases g : t.size = 0
    · exact .inl g
    · by_cases g2 : cmpL (sb a) (sb t) < 0
      · exact .inr g2
      · exact absurd (.inr ⟨g, g2⟩) h2
theorem newK_ok {f t : ByteArray} (h : newK f t = 0) : f.size ≤ 32 ∧ t.size ≤ 32 ∧ (t.size = 0 ∨ cmpL (sb f) (sb t) < 0) := by
  unfold newK at h
  split at h
  · assumption
  · simp at h
theorem newK_of {f t : ByteArray} (h : f.size ≤ 32 ∧ t.size ≤ 32 ∧ (t.size = 0 ∨ cmpL (sb f) (sb t) < 0)) : newK f t = 0 := by
  unfold newK
  rw [if_pos h]
theorem Lim.filter {cs : List CV} (h : Lim cs) (q : CV → Bool) : Lim (cs.filter q) := by
  refine ⟨Nat.le_trans (List.length_filter_le _ _) h.len, fun k => ?_⟩
  have h1 := h.col k
  unfold colC at h1 ⊢
  rw [List.filter_filter]
  refine Nat.le_trans ?_ h1
  rw [← List.countP_eq_length_filter, ← List.countP_eq_length_filter]
  exact List.countP_mono_left fun c _ hc => (Bool.and_eq_true_iff.1 hc).1
theorem Stand.sub {f t f2 t2 : ByteArray} {n : Nat} {cs : List CV} (h : Stand f t n cs) (q : CV → Bool) (hr : ∀ c ∈ cs, q c = true → inRows f2 t2 c.row = true) : Stand f2 t2 n (cs.filter q) :=
  ⟨h.srt.sub List.filter_sublist, fun c hc => h.good c (List.mem_filter.1 hc).1, fun c hc => hr c (List.mem_filter.1 hc).1 (List.mem_filter.1 hc).2, Nat.le_trans (List.length_filter_le _ _) h.len⟩
theorem low_rows {f t a : ByteArray} {n : Nat} {cs : List CV} (h : Stand f t n cs) : Stand f a n (cs.filter (belR a)) := h.sub _ fun c hc hb => by
  have h1 := of_decide_eq_true (h.rows c hc)
  exact decide_eq_true ⟨h1.1, .inr (of_decide_eq_true hb)⟩
theorem high_rows {f t a : ByteArray} {n : Nat} {cs : List CV} (h : Stand f t n cs) : Stand a t n (cs.filter fun c => !(belR a c)) := h.sub _ fun c hc hb => by
  have h1 := of_decide_eq_true (h.rows c hc)
  refine decide_eq_true ⟨fun g => ?_, h1.2⟩
  rw [show belR a c = true from decide_eq_true g] at hb
  simp at hb
theorem of_own {f t : ByteArray} {n : Nat} {cs : List CV} (h : Stand f t n cs) (hl : Lim cs) (hk : newK f t = 0) : ofK f t cs = 0 ∧ layAll [] cs = cs := by
  refine ⟨?_, by rw [layAll_srt cs [] h.srt, List.nil_append]⟩
  unfold ofK
  rw [if_pos hk]
  exact judge_own h hl
theorem cmpK_row {a b : KV} (h : cmpL a.row b.row < 0) : cmpK a b < 0 := by
  unfold cmpK
  rw [if_neg (by omega)]
  exact h
theorem cmpK_row_le {a b : KV} (h : cmpK a b < 0) : cmpL a.row b.row < 0 ∨ a.row = b.row := by
  unfold cmpK at h
  by_cases e : cmpL a.row b.row = 0
  · exact .inr (cmpL_eq _ _ e)
  · rw [if_neg e] at h
    exact .inl h
theorem key_rows {a b : CV} (ha : a.time < 18446744073709551616) (hb : b.time < 18446744073709551616) (h : cmpL (sb a.row) (sb b.row) < 0) : cmpL (keyL a.kv) (keyL b.kv) < 0 := by
  rw [keyL_cmp _ _ (CV.kvByt ha) (CV.kvByt hb)]
  exact cmpK_row h
theorem join_stand {f e t : ByteArray} {n m : Nat} {cs ds : List CV} (h1 : Stand f e n cs) (h2 : Stand e t m ds) (he : e.size ≠ 0) (hk1 : newK f e = 0) (hk2 : newK e t = 0) : Stand f t (n + m) (cs ++ ds) ∧ newK f t = 0 := by
  obtain ⟨a1, a2, a3⟩ := newK_ok hk1
  obtain ⟨b1, b2, b3⟩ := newK_ok hk2
  have hfe : cmpL (sb f) (sb e) < 0 := a3.resolve_left he
  have hlow : ∀ c ∈ cs, cmpL (sb c.row) (sb e) < 0 := fun c hc => (of_decide_eq_true (h1.rows c hc)).2.resolve_left he
  have hhigh : ∀ d ∈ ds, ¬ cmpL (sb d.row) (sb e) < 0 := fun d hd => (of_decide_eq_true (h2.rows d hd)).1
  refine ⟨⟨?_, fun c hc => ?_, fun c hc => ?_, ?_⟩, newK_of ⟨a1, b2, b3.imp id fun h => cmpL_lt_trans _ _ _ hfe h⟩⟩
  · unfold CSrt Srt
    rw [List.map_append, List.pairwise_append]
    refine ⟨h1.srt, h2.srt, fun x hx y hy => ?_⟩
    obtain ⟨c, hc, rfl⟩ := List.mem_map.1 hx
    obtain ⟨d, hd, rfl⟩ := List.mem_map.1 hy
    refine key_rows (h1.good c hc).time (h2.good d hd).time ?_
    have g1 := hlow c hc
    have g2 := hhigh d hd
    rcases cmpL_total (sb e) (sb d.row) with g | g | g
    · exact cmpL_lt_trans _ _ _ g1 g
    · rw [← g]; exact g1
    · exact absurd g g2
  · rcases List.mem_append.1 hc with hc | hc
    · exact h1.good c hc
    · exact h2.good c hc
  · rcases List.mem_append.1 hc with hc | hc
    · have g := of_decide_eq_true (h1.rows c hc)
      exact decide_eq_true ⟨g.1, b3.imp id fun h => cmpL_lt_trans _ _ _ (hlow c hc) h⟩
    · have g := of_decide_eq_true (h2.rows c hc)
      refine decide_eq_true ⟨fun g2 => g.1 (cmpL_lt_trans _ _ _ g2 hfe), g.2⟩
  · rw [List.length_append]
    have := h1.len
    have := h2.len
    omega
theorem join_col {f e t : ByteArray} {n m : Nat} {cs ds : List CV} (h1 : Stand f e n cs) (h2 : Stand e t m ds) (he : e.size ≠ 0) (l1 : Lim cs) (l2 : Lim ds) (k : KA) : (colC k (cs ++ ds)).length ≤ 4 := by
  have hz : colC k cs = [] ∨ colC k ds = [] := by
    by_cases g : cmpL (sb k.row) (sb e) < 0
    · refine .inr (List.filter_eq_nil_iff.2 fun d hd hc => ?_)
      have g1 := (of_decide_eq_true (h2.rows d hd)).1
      have g2 := (of_decide_eq_true hc).1
      rw [g2] at g1
      exact g1 g
    · refine .inl (List.filter_eq_nil_iff.2 fun c hc hk => ?_)
      have g1 := (of_decide_eq_true (h1.rows c hc)).2.resolve_left he
      have g2 := (of_decide_eq_true hk).1
      rw [g2] at g1
      exact g g1
  have e1 : colC k (cs ++ ds) = colC k cs ++ colC k ds := List.filter_append ..
  rw [e1, List.length_append]
  have := l1.col k
  have := l2.col k
  rcases hz with h | h <;> rw [h, List.length_nil] <;> omega
theorem join_of {f e t : ByteArray} {n m : Nat} {cs ds : List CV} (h1 : Stand f e n cs) (h2 : Stand e t m ds) (he : e.size ≠ 0) (hk1 : newK f e = 0) (hk2 : newK e t = 0) (l1 : Lim cs) (l2 : Lim ds) (hl : cs.length + ds.length ≤ 32) : ofK f t (cs ++ ds) = 0 ∧ layAll [] (cs ++ ds) = cs ++ ds := by
  obtain ⟨h3, h4⟩ := join_stand h1 h2 he hk1 hk2
  exact of_own h3 ⟨by rw [List.length_append]; exact hl, join_col h1 h2 he l1 l2⟩ h4
theorem cut_join {cs : List CV} (h : CSrt cs) (ht : ∀ c ∈ cs, c.time < 18446744073709551616) (a : ByteArray) : cs.filter (belR a) ++ cs.filter (fun c => !(belR a c)) = cs := by
  induction cs with
  | nil => rfl
  | cons c cs ih =>
    have hp := List.pairwise_cons.1 h.pw
    have ih := ih (h.sub (List.sublist_cons_self c cs)) (fun x hx => ht x (List.mem_cons_of_mem _ hx))
    rw [List.filter_cons, List.filter_cons]
    cases hb : belR a c with
    | true =>
      simp only [if_true, Bool.not_true, Bool.false_eq_true, if_false, List.cons_append]
      rw [ih]
    | false =>
      have hall : ∀ x ∈ cs, belR a x = false := fun x hx => by
        have g1 := hp.1 x hx
        rw [keyL_cmp _ _ (CV.kvByt (ht c (List.mem_cons_self ..))) (CV.kvByt (ht x (List.mem_cons_of_mem _ hx)))] at g1
        have g2 := cmpK_row_le g1
        have g3 := of_decide_eq_false hb
        refine decide_eq_false fun g4 => g3 ?_
        rcases g2 with g2 | g2
        · exact cmpL_lt_trans _ _ _ g2 g4
        · have e : sb c.row = sb x.row := g2
          rw [e]; exact g4
      simp only [Bool.false_eq_true, if_false, Bool.not_false, if_true]
      rw [List.filter_eq_nil_iff.2 (fun x hx => by rw [hall x hx]; simp), List.nil_append, List.filter_eq_self.2 (fun x hx => by rw [hall x hx]; rfl)]
open Go.RowKit
set_option maxHeartbeats 1000000 in
set_option maxRecDepth 100000 in
theorem cells_row (w : World) (p : Nat) (f t : ByteArray) (cs : List CV) (hT : TB w p f t cs) (hs : CSrt cs) (hg : CGood cs) (hf : f.size ≤ 32) (ht : t.size ≤ 32) (hr : ∀ c ∈ cs, inRows f t c.row = true) (hn : cs.length ≤ 1000) :
    Calls Tryz.prog 17 #[.pointer (some ⟨p, 0, none⟩)] w (AmRow w cs) := by
  have hcs : (cs.filter fun c => inRows f t c.row && true) = cs := List.filter_eq_self.2 fun c hc => by
    rw [Bool.and_true]
    exact hr c hc
  have HA : Hid (∀ V, Below w.heap.size w V → Calls Tryz.prog 47 #[.pointer (some ⟨p, 0, none⟩), .string f, .string t, .func (.func 48) #[] #[]] V fun e w' => ∃ ao n cap l, e = .returned (.slice ao n cap) ∧ ((∃ base, w.heap.size ≤ base ∧ CRow w' base (.slice ao n cap) l) ∧ l.map CA.c = cs) ∧ Below V.heap.size V w') := fun V hV => by
    have := among_row V p f t cs f t 48 #[] (fun _ => true) (enters_of Tryz.func48 (by kernel_rfl) rfl) (hT.below hV) hs hg hf ht (by omega) (all_tells V)
    rw [hcs] at this
    refine this.mono ?_
    rintro e w2 ⟨v, base, l, rfl, hb, R, h3, C2⟩
    obtain ⟨ao, cap, rfl, -⟩ := R.cl
    exact ⟨ao, _, cap, l, rfl, ⟨⟨base, Nat.le_trans hV.size hb, R⟩, h3⟩, C2⟩
  obtain ⟨u, A0, -⟩ := hT
  have c0 : w.cell? ⟨p, 0, none⟩ = some (.string f) := Arr.cell A0 0
  have c1 : w.cell? ⟨p, 1, none⟩ = some (.string t) := Arr.cell A0 1
  clear hcs A0 hs hg hr
  go_enter Tryz.func17, Tryz.ntmps17
  go_wp2
  have zHS : Hid (∀ V, Below w.heap.size w V → V.cell? ⟨p, 0, none⟩ = some (.string f) ∧ V.cell? ⟨p, 1, none⟩ = some (.string t)) := fun V hV => ⟨(hV.cell (World.block_lt_of_cell? _ _ c0)).trans c0, (hV.cell (World.block_lt_of_cell? _ _ c1)).trans c1⟩
  have zE0 : Below w.heap.size w w.drew := (Below.refl _ _).drew
  refine wp_region_noPanic ?_
  refine wp_region_held_drew (S := fun V => V.cell? ⟨p, 0, none⟩ = some (.string f) ∧ V.cell? ⟨p, 1, none⟩ = some (.string t)) (by kernel_rfl) (zHS.out _ zE0) (fun zH0 => ?_)
  obtain ⟨zv0, hv0⟩ : ∃ v, v = w.drew := ⟨_, rfl⟩
  rw [← hv0] at zH0 zE0 ⊢
  clear hv0
  refine hr_take_w 0 (some 5) (.pointer (some ⟨p, 0, none⟩)) rfl rfl (by kernel_rfl) (by kernel_rfl) (by kernel_rfl) rfl (fun W hW => by obtain ⟨h0, h1⟩ := hW; go_simp) zH0 ?_
  simp only [FL]
  refine hr_take_w 1 (some 6) (.pointer (some ⟨p, 0, none⟩)) rfl rfl (by kernel_rfl) (by kernel_rfl) (by kernel_rfl) rfl (fun W hW => by obtain ⟨h0, h1⟩ := hW; go_simp) zH0 ?_
  simp only [FL]
  refine hr_take_w 2 (some 7) (.pointer (some ⟨p, 0, none⟩)) rfl rfl (by kernel_rfl) (by kernel_rfl) (by kernel_rfl) rfl (fun W hW => by obtain ⟨h0, h1⟩ := hW; go_simp) zH0 ?_
  simp only [FL]
  refine hr_take_w 3 (some 8) (.pointer (some ⟨p, 0, none⟩)) rfl rfl (by kernel_rfl) (by kernel_rfl) (by kernel_rfl) rfl (fun W hW => by obtain ⟨h0, h1⟩ := hW; go_simp) zH0 ?_
  simp only [FL]
  refine hr_take_w 4 (some 9) (.string f) rfl rfl (by kernel_rfl) (by kernel_rfl) (by kernel_rfl) rfl (fun W hW => by obtain ⟨h0, h1⟩ := hW; go_simp) zH0 ?_
  simp only [FL]
  refine hr_take_w 5 (some 10) (.pointer (some ⟨p, 0, none⟩)) rfl rfl (by kernel_rfl) (by kernel_rfl) (by kernel_rfl) rfl (fun W hW => by obtain ⟨h0, h1⟩ := hW; go_simp) zH0 ?_
  simp only [FL]
  refine hr_take_w 6 (some 11) (.pointer (some ⟨p, 0, none⟩)) rfl rfl (by kernel_rfl) (by kernel_rfl) (by kernel_rfl) rfl (fun W hW => by obtain ⟨h0, h1⟩ := hW; go_simp) zH0 ?_
  simp only [FL]
  refine hr_take_w 7 (some 12) (.pointer (some ⟨p, 1, none⟩)) rfl rfl (by kernel_rfl) (by kernel_rfl) (by kernel_rfl) rfl (fun W hW => by obtain ⟨h0, h1⟩ := hW; go_simp) zH0 ?_
  simp only [FL]
  refine hr_take_w 8 (some 13) (.string t) rfl rfl (by kernel_rfl) (by kernel_rfl) (by kernel_rfl) rfl (fun W hW => by obtain ⟨h0, h1⟩ := hW; go_simp) zH0 ?_
  simp only [FL]
  refine hr_call_w 9 (some 14) 47 #[.pointer (some ⟨p, 0, none⟩), .string f, .string t, .func (.func 48) #[] #[]] rfl rfl (by kernel_rfl) rfl (by go_simp) (fun v w' => ∃ ao n cap l, v = .slice ao n cap ∧ ((∃ base, w.heap.size ≤ base ∧ CRow w' base (.slice ao n cap) l) ∧ l.map CA.c = cs) ∧ Below zv0.heap.size zv0 w') ((HA.out zv0 zE0).mono (by
    rintro e w' ⟨ao, n, cap, l, rfl, F, C⟩
    exact ⟨_, rfl, ao, n, cap, l, rfl, F, C⟩)) ?_
  rintro v zv1 ⟨ao, n, cap, l, rfl, zF0, zC0⟩
  have zE1 := zE0.trans (zC0.mono zE0.size)
  have zH1 := zHS.out zv1 zE1
  refine ⟨zH1, ?_⟩
  simp only [FL]
  refine hr_take_w 10 (some 2) (.slice ao n cap) rfl rfl (by kernel_rfl) (by kernel_rfl) (by kernel_rfl) rfl (fun W hW => by obtain ⟨h0, h1⟩ := hW; go_simp) zH1 ?_
  simp only [FL]
  refine wpAnyH_done (by kernel_rfl) ?_ _
  refine NoPanic.normal ?_
  go_wp2
  go_ret
  obtain ⟨⟨base, hb, R⟩, h3⟩ := zF0
  exact ⟨_, base, l, rfl, hb, R, h3, zE1⟩
open Go.RowKit
set_option maxRecDepth 100000 in
set_option maxHeartbeats 2000000 in
theorem text_any (w : World) (s t : ByteArray) (hs : s.size ≤ maxLen) (ht : t.size ≤ maxLen) :
    Calls Tryz.prog 54 #[.string s, .string t] w fun e w' => e = .returned (.int .i64 (cmpL (sb s) (sb t))) ∧ Below w.heap.size w w' := by
  simp only [maxLen] at hs ht
  go_enter Tryz.func54, Tryz.ntmps54
  go_wp2_with fail
  go_loopw [5] (fun i wr => ∃ k : Nat, k ≤ s.size ∧ k ≤ t.size ∧ i = .int .i64 k ∧ Below w.heap.size w wr ∧ cmpL (sb s) (sb t) = cmpL ((sb s).drop k) ((sb t).drop k)) (fun i _ => s.size - (intOf i).toNat)
  case atStart => exact ⟨0, by omega, by omega, rfl, Below.refl _ _, rfl⟩
  case round =>
    obtain ⟨k, h1, h2, rfl, B, hc⟩ := hrel
    by_cases l1 : k < s.size
    · have i1 : (k : Int) < (s.size : Int) := by omega
      by_cases l2 : k < t.size
      · have i2 : (k : Int) < (t.size : Int) := by omega
        rw [sb_at s k l1, sb_at t k l2] at hc
        obtain ⟨x, hx⟩ : ∃ x : Nat, x = s[k].toNat := ⟨_, rfl⟩
        obtain ⟨y, hy⟩ : ∃ y : Nat, y = t[k].toNat := ⟨_, rfl⟩
        rw [← hx, ← hy] at hc
        have r1 : ∀ W : World, (Instr.index 9 (.string s) (.int .i64 k)).run Tryz.prog W = .ok (.int .u8 x) W := fun W => by
          rw [run_index_string W _ s _ _ Tryz.underlying9, dif_pos ⟨by omega, i1⟩, hx]
          rfl
        have r2 : ∀ W : World, (Instr.index 9 (.string t) (.int .i64 k)).run Tryz.prog W = .ok (.int .u8 y) W := fun W => by
          rw [run_index_string W _ t _ _ Tryz.underlying9, dif_pos ⟨by omega, i2⟩, hy]
          rfl
        clear hx hy
        by_cases e : x = y
        · subst e
          have hc' : Hid (cmpL (sb s) (sb t) = cmpL ((sb s).drop (k + 1)) ((sb t).drop (k + 1))) := by
            show _ = _
            rw [hc]
            rw [cmpL_cons, if_pos rfl]
          clear hc
          go_wp2_with fail
          go_quiet (fail)
          rename Nat => q
          go_wp2
          go_roundw
          case rel => exact ⟨k + 1, by omega, by omega, by go_num, belN B q, hc'.out⟩
          case measure => simp [intOf]; omega
        · have ne : ((x : Int) == (y : Int)) = false := by simp; omega
          have nn : ((x : Int) != (y : Int)) = true := by simp; omega
          by_cases l : x < y
          · have li : (x : Int) < (y : Int) := by omega
            have hc' : Hid (cmpL (sb s) (sb t) = -1) := by
              show _ = _
              rw [hc, cmpL_cons, if_neg (by omega), if_pos li]
            clear hc
            go_wp2_with fail
            go_quiet (fail)
            rename Nat => q
            go_wp2_with fail
            go_quiet (fail)
            rename Nat => q2
            go_wp2
            go_ret
            exact ⟨by rw [hc'.out] <;> rfl, belN (belN B q) q2⟩
          · have li : ¬ (x : Int) < (y : Int) := by omega
            have hc' : Hid (cmpL (sb s) (sb t) = 1) := by
              show _ = _
              rw [hc, cmpL_cons, if_neg (by omega), if_neg li]
            clear hc
            go_wp2_with fail
            go_quiet (fail)
            rename Nat => q
            go_wp2_with fail
            go_quiet (fail)
            rename Nat => q2
            go_wp2
            go_ret
            exact ⟨by rw [hc'.out] <;> rfl, belN (belN B q) q2⟩
      · have i2 : (t.size : Int) ≤ (k : Int) := by omega
        rw [sb_at s k l1, sb_end t k (by omega)] at hc
        have hc' : Hid (cmpL (sb s) (sb t) = 1) := hc
        clear hc
        have f1 : ((s.size : Int) == (t.size : Int)) = false := by simp; omega
        have f2 : ¬ (s.size : Int) < (t.size : Int) := by omega
        go_wp2
        go_ret
        exact ⟨by rw [hc'.out] <;> rfl, B⟩
    · have i1 : (s.size : Int) ≤ (k : Int) := by omega
      rw [sb_end s k (by omega)] at hc
      by_cases l2 : k < t.size
      · rw [sb_at t k l2] at hc
        have hc' : Hid (cmpL (sb s) (sb t) = -1) := hc
        clear hc
        have f1 : ((s.size : Int) == (t.size : Int)) = false := by simp; omega
        have f2 : (s.size : Int) < (t.size : Int) := by omega
        go_wp2
        go_ret
        exact ⟨by rw [hc'.out] <;> rfl, B⟩
      · rw [sb_end t k (by omega)] at hc
        have hc' : Hid (cmpL (sb s) (sb t) = 0) := hc
        clear hc
        have f1 : ((s.size : Int) == (t.size : Int)) = true := by simp; omega
        go_wp2
        go_ret
        exact ⟨by rw [hc'.out] <;> rfl, B⟩
open Go.RowKit
theorem empty_facts (t : ByteArray) (b : Bool) (h : b = decide (t.size ≠ 0)) : (t.toList == (ByteArray.mk #[]).toList) = !b ∧ t.toList.isEmpty = !b ∧ (t.toList == []) = !b := by
  have te0 : (t.toList == (ByteArray.mk #[]).toList) = !b := by
    rw [h]
    by_cases hz : t.size = 0
    · rw [empty_of hz]; simp; rfl
    · rw [toL_ne (fun h => hz (by rw [h]; rfl))]; simp [hz]
  refine ⟨te0, by rw [toE, h]; simp, ?_⟩
  rw [← te0]
  congr 1
  simp
set_option maxHeartbeats 1000000 in
theorem rright10_any (w : World) (f t : ByteArray) (hf : f.size ≤ maxLen) (ht : t.size ≤ maxLen) :
    Calls Tryz.prog 32 #[.string f, .string t] w fun e w' => e = .returned (.bool (decide (newK f t = 0))) ∧ Below w.heap.size w w' := by
  obtain ⟨b, hb⟩ : ∃ b, b = decide (newK f t = 0) := ⟨_, rfl⟩
  rw [← hb]
  have HB : Hid (b = decide (f.size ≤ 32 ∧ t.size ≤ 32 ∧ (t.size = 0 ∨ cmpL (sb f) (sb t) < 0))) := by
    show b = _
    rw [hb]
    unfold newK
    by_cases h : f.size ≤ 32 ∧ t.size ≤ 32 ∧ (t.size = 0 ∨ cmpL (sb f) (sb t) < 0)
    · rw [if_pos h, decide_eq_true h]; rfl
    · rw [if_neg h, decide_eq_false h]; rfl
  clear hb
  have CT := text_any w f t hf ht
  obtain ⟨c, hc⟩ : ∃ c, c = cmpL (sb f) (sb t) := ⟨_, rfl⟩
  rw [← hc] at CT HB
  clear hc
  by_cases g1 : f.size ≤ 32
  case neg =>
    have i1 : ¬ (f.size : Int) ≤ 32 := by omega
    obtain rfl : b = false := HB.out.trans (decide_eq_false fun h => g1 h.1)
    clear CT
    go_enter Tryz.func32, Tryz.ntmps32
    go_wp2
    go_ret
    exact ⟨rfl, Below.refl _ _⟩
  have i1 : (f.size : Int) ≤ 32 := by omega
  by_cases g2 : t.size ≤ 32
  case neg =>
    have i2 : ¬ (t.size : Int) ≤ 32 := by omega
    obtain rfl : b = false := HB.out.trans (decide_eq_false fun h => g2 h.2.1)
    clear CT
    go_enter Tryz.func32, Tryz.ntmps32
    go_wp2
    go_ret
    exact ⟨rfl, Below.refl _ _⟩
  have i2 : (t.size : Int) ≤ 32 := by omega
  obtain ⟨tb, htb⟩ : ∃ b, b = decide (t.size ≠ 0) := ⟨_, rfl⟩
  obtain ⟨te0, te1, te2⟩ := empty_facts t tb htb
  cases tb with
  | false =>
    have hz : t.size = 0 := by
      have := of_decide_eq_false htb.symm
      omega
    obtain rfl : b = true := HB.out.trans (decide_eq_true ⟨g1, g2, .inl hz⟩)
    clear CT htb
    go_enter Tryz.func32, Tryz.ntmps32
    go_wp2
    go_ret
    exact ⟨rfl, Below.refl _ _⟩
  | true =>
    have hz : t.size ≠ 0 := of_decide_eq_true htb.symm
    clear htb
    by_cases g3 : c < 0
    · obtain rfl : b = true := HB.out.trans (decide_eq_true ⟨g1, g2, .inr g3⟩)
      clear HB
      go_enter Tryz.func32, Tryz.ntmps32
      go_wp2_with fail
      refine CT.mono ?_
      rintro e w2 ⟨rfl, C2⟩
      clear CT
      go_wp2
      go_ret
      exact ⟨rfl, C2⟩
    · obtain rfl : b = false := HB.out.trans (decide_eq_false fun h => h.2.2.elim hz g3)
      have dg : Hid (decide (c < 0) = false) := decide_eq_false g3
      clear HB g3
      go_enter Tryz.func32, Tryz.ntmps32
      go_wp2_with fail
      refine CT.mono ?_
      rintro e w2 ⟨rfl, C2⟩
      clear CT
      go_wp2
      go_ret
      rw [dg.out]
      exact ⟨rfl, C2⟩
set_option maxHeartbeats 1000000 in
theorem rinside10_any (w : World) (f t r : ByteArray) (ao : Option Addr) (n cap : Nat) (hf : f.size ≤ maxLen) (ht : t.size ≤ maxLen) (hr : r.size ≤ maxLen) :
    Calls Tryz.prog 34 #[.agg #[.string f, .string t, .slice ao n cap], .string r] w fun e w' => e = .returned (.bool (inRows f t r)) ∧ Below w.heap.size w w' := by
  obtain ⟨b, hb⟩ : ∃ b, b = inRows f t r := ⟨_, rfl⟩
  rw [← hb]
  have HB : Hid (b = decide (0 ≤ cmpL (sb r) (sb f) ∧ (t.size = 0 ∨ cmpL (sb r) (sb t) < 0))) := by
    show b = _
    rw [hb]
    unfold inRows
    simp only [Int.not_lt]
  clear hb
  obtain ⟨W1, hW1⟩ : ∃ V, V = w.alloc (.cells #[.string f, .string t, .slice ao n cap] 39) := ⟨_, rfl⟩
  have C1 : Below w.heap.size w W1 := by rw [hW1]; exact (Below.refl _ _).alloc (Nat.le_refl _) _
  have A1 : Arr W1 w.heap.size 39 [.string f, .string t, .slice ao n cap] := by rw [hW1]; exact heap_alloc_new w _
  have CT := text_any W1 r f hr hf
  have CU := fun V => text_any V r t hr ht
  obtain ⟨c, hc⟩ : ∃ c, c = cmpL (sb r) (sb f) := ⟨_, rfl⟩
  obtain ⟨d, hd⟩ : ∃ c, c = cmpL (sb r) (sb t) := ⟨_, rfl⟩
  rw [← hc] at CT HB
  rw [← hd] at CU HB
  clear hc hd
  obtain ⟨tb, htb⟩ : ∃ b, b = decide (t.size ≠ 0) := ⟨_, rfl⟩
  obtain ⟨te0, te1, te2⟩ := empty_facts t tb htb
  go_enter Tryz.func34, Tryz.ntmps34
  go_wp2_with fail
  rw [← hW1]
  clear hW1
  refine CT.mono ?_
  rintro e w2 ⟨rfl, C2⟩
  have A2 := arr_below A1 C2
  have c1 : w2.cell? ⟨w.heap.size, 1, none⟩ = some (.string t) := A2.cell 1
  have B2 := C1.trans (C2.mono C1.size)
  clear CT A1 A2
  by_cases g1 : c < 0
  · have i1 : ¬ (0 : Int) ≤ c := by omega
    obtain rfl : b = false := HB.out.trans (decide_eq_false fun h => i1 h.1)
    clear CU HB
    go_wp2
    go_ret
    exact ⟨rfl, B2⟩
  have i1 : (0 : Int) ≤ c := by omega
  cases tb with
  | false =>
    have hz : t.size = 0 := by
      have := of_decide_eq_false htb.symm
      omega
    obtain rfl : b = true := HB.out.trans (decide_eq_true ⟨i1, .inl hz⟩)
    clear CU htb HB
    go_wp2
    go_ret
    exact ⟨rfl, B2⟩
  | true =>
    have hz : t.size ≠ 0 := of_decide_eq_true htb.symm
    clear htb
    have CU := CU w2
    by_cases g3 : d < 0
    · obtain rfl : b = true := HB.out.trans (decide_eq_true ⟨i1, .inr g3⟩)
      clear HB
      go_wp2_with fail
      refine CU.mono ?_
      rintro e w3 ⟨rfl, C3⟩
      clear CU
      go_wp2
      go_ret
      exact ⟨rfl, B2.trans (C3.mono B2.size)⟩
    · obtain rfl : b = false := HB.out.trans (decide_eq_false fun h => h.2.elim hz g3)
      have dg : Hid (decide (d < 0) = false) := decide_eq_false g3
      clear HB g3
      go_wp2_with fail
      refine CU.mono ?_
      rintro e w3 ⟨rfl, C3⟩
      clear CU
      go_wp2
      go_ret
      rw [dg.out]
      exact ⟨rfl, B2.trans (C3.mono B2.size)⟩
end Go.Proofs.YtlljmhcgjkolpaaGreatDoor

/-
  Texts in one: TbDelF.
-/
import Derived.Test.YtlljmhcgjkolpaaGreatDoorSplitCutsQ19
namespace Go.Proofs.YtlljmhcgjkolpaaGreatDoor
open Go.RowKit
def zC (n : Nat) : List Value := (Builtin.zeroCells #[.string ⟨#[]⟩, .string ⟨#[]⟩, .string ⟨#[]⟩, .int .u64 0, .slice none 0 0, .bool false] n).toList
theorem zC_len (n : Nat) : (zC n).length = n * 6 := by simp [zC, Builtin.zeroCells]
theorem zC_one (n : Nat) : ∀ v ∈ zC n, v.oneCell' = true := fun v hv => by
  unfold zC Builtin.zeroCells at hv
  simp only [Array.toList_map, List.mem_map] at hv
  obtain ⟨i, -, rfl⟩ := hv
  have : i % 6 < 6 := Nat.mod_lt _ (by decide)
  show (#[Value.string ⟨#[]⟩, .string ⟨#[]⟩, .string ⟨#[]⟩, .int .u64 0, .slice none 0 0, .bool false] : Array Value)[i % 6]!.oneCell' = true
  generalize i % 6 = y at this ⊢
  match y, this with
  | 0, _ => rfl
  | 1, _ => rfl
  | 2, _ => rfl
  | 3, _ => rfl
  | 4, _ => rfl
  | 5, _ => rfl
theorem Del.start {w : World} {base g n cap : Nat} {l : List CA} (h : CRow w base (.slice (some ⟨g, 0, none⟩) n cap) l) {k : Nat} (hk : k < l.length) : Del w g cap l (l.take k) (k + 1) ∧ cap ≤ maxLen ∧ base ≤ g := by
  rcases h.row.2 with ⟨e, -⟩ | ⟨g', cap', cur, e, a1, a2, a3, a4, a5, a6⟩
  · simp at e
  · cases e
    have key : ∀ x (hx : x < l.length) y v, l[x].cells[y]? = some v → cur.toList[x * 6 + y]? = some v := fun x hx y v hv => by
      have hy := cells_lt hv
      have h1 : (cellsC l)[x * 6 + y]? = some v := by
        unfold cellsC
        rw [flat_get CA.cells 6 (fun _ => rfl) l x y hx hy]
        exact hv
      rw [← a6, List.getElem?_take_of_lt (by omega)] at h1
      exact h1
    refine ⟨⟨⟨cur.toList, a2, by rw [Array.length_toList]; exact a5, fun x hx y v hv => ?_, fun x hx _ y v hv => key x hx y v hv⟩, h.ok, h.sl, fun c hc => List.mem_of_mem_take hc, by rw [List.length_take]; omega, a3⟩, a4, a1⟩
    rw [List.length_take] at hx
    rw [List.getElem_take] at hv
    exact key x (by omega) y v hv
set_option maxHeartbeats 4000000 in
set_option maxRecDepth 100000 in
theorem delete_of (w : World) (base : Nat) (v : Value) (l : List CA) (fn : Nat) (lb : Array Value) (pr : CV → Bool) (eg : ∀ args w, (callFunc fn args).run Tryz.prog w = .ok (.enter fn args) w) (h : CRow w base v l) (hn : l.length ≤ 1000) (hand : ∀ W g, base ≤ g → Wr g w W → Tells W fn lb pr) :
    Calls Tryz.prog 53 #[v, .func (.func fn) #[] lb] w fun e w' => ∃ ao n cap l', e = .returned (.slice ao n cap) ∧ CL w' ao n cap l' ∧ l'.map CA.c = (l.map CA.c).filter (fun c => !pr c) ∧ ∃ g, base ≤ g ∧ Wr g w w' := by
  obtain ⟨ao, cap, rfl, hcl⟩ := h.cl
  have CI := index_any w ao l.length cap l fn lb pr eg hcl hn (hand w base (Nat.le_refl _) (Wr.refl _ _))
  obtain ⟨n, hnl⟩ : ∃ n, n = l.length := ⟨_, rfl⟩
  rw [← hnl] at CI hcl h hn ⊢
  have hl1 := Nat.le_of_eq hnl
  have hl2 := Nat.le_of_eq hnl.symm
  have HH : Hid (∀ W g, base ≤ g → Wr g w W → Tells W fn lb pr) := hand
  clear hand hnl
  go_enter Tryz.func53, Tryz.ntmps53
  go_wp2_with fail
  refine CI.mono ?_
  rintro e w2 ⟨r, rfl, hr, C2⟩
  clear CI
  rcases hr with ⟨rfl, hv⟩ | ⟨h0, hv, k, rfl, ht, hkl, hp⟩
  · have HF : Hid ((l.map CA.c).filter (fun c => !pr c) = l.map CA.c) := List.filter_eq_self.2 fun c hc => by
      have := List.any_eq_false.1 hv c hc
      simpa using this
    have hcl2 := hcl.below C2
    clear hv
    go_wp2
    go_ret
    exact ⟨ao, n, cap, l, rfl, hcl2, HF.out.symm, base, Nat.le_refl _, Wr.of C2⟩
  · have e1 : ((k : Int) == -1) = false := by simp
    have hni : (n : Int) ≤ 1000 := by omega
    rw [List.getElem_map] at hp
    rw [List.length_map] at hkl
    have hki : (k : Int) ≤ 1000 := by omega
    obtain ⟨g, rfl⟩ : ∃ g, ao = some ⟨g, 0, none⟩ := by
      rcases h.row.2 with ⟨e, -⟩ | ⟨g', cap', cur, e, -⟩
      · have : n = 0 := by cases e; rfl
        omega
      · cases e
        exact ⟨g', rfl⟩
    obtain ⟨D0, hmx, hbg⟩ := Del.start (h.below C2) hkl
    have H0 : Hid ((l.take k).map CA.c = ((l.map CA.c).take (k + 1)).filter (fun c => !pr c)) := by
      show _ = _
      rw [List.take_succ_eq_append_getElem (by rw [List.length_map]; exact hkl), List.filter_append, List.filter_eq_self.2 (fun c hc => by have := List.any_eq_false.1 ht c hc; simpa using this), List.map_take]
      simp [hp]
    have hq0 : (l.take k).length = k := by rw [List.length_take]; omega
    have K0 := Wr.of (p := g) C2
    have hcn : n ≤ cap := hcl.le
    clear hv ht hp h0 hcl h
    go_wp2
    go_loopw [5, 6] (fun i j wr => ∃ (q m : Nat) (kept : List CA), i = .int .i64 q ∧ j = .int .i64 m ∧ Hid (kept.length = q) ∧ m ≤ n ∧ Del wr g cap l kept m ∧ Hid (kept.map CA.c = ((l.map CA.c).take m).filter (fun c => !pr c)) ∧ Wr g w wr) (fun _ j _ => n - (intOf j).toNat)
    case atStart => exact ⟨k, k + 1, l.take k, rfl, by go_num, hq0, by omega, D0, H0, K0⟩
    case round =>
      obtain ⟨q, m, kept, rfl, rfl, HQ, hm, D, HK, K⟩ := hrel
      have hqm : q < m := by have := D.lt; have := HQ.out; omega
      by_cases hlt : m < n
      · have hmi : (m : Int) < (n : Int) := by omega
        have hml : m < l.length := by omega
        have X := D.at hml
        have hok := D.ok _ (List.getElem_mem hml)
        have DP := D.put hml
        have HT : Hid (((l.map CA.c).take (m + 1)).filter (fun c => !pr c) = ((l.map CA.c).take m).filter (fun c => !pr c) ++ [l[m].c].filter (fun c => !pr c)) := by
          show _ = _
          rw [List.take_succ_eq_append_getElem (by rw [List.length_map]; exact hml), List.filter_append, List.getElem_map]
        obtain ⟨c, hce⟩ : ∃ c, c = l[m] := ⟨_, rfl⟩
        have HCE : Hid (c = l[m]) := hce
        rw [← hce] at X hok HT
        clear DP
        obtain ⟨q0, q1, q2, q3, q4, q5⟩ := X
        obtain ⟨W1, hW1⟩ : ∃ V, V = wr.alloc (.cells #[.string c.row, .string c.fam, .string c.qual, .int .u64 c.time, .slice c.va.ao c.va.n c.va.cap, .bool c.gone] 33) := ⟨_, rfl⟩
        have C1 : Below wr.heap.size wr W1 := by rw [hW1]; exact (Below.refl _ _).alloc (Nat.le_refl _) _
        have A1 : Arr W1 wr.heap.size 33 (#[.string c.row, .string c.fam, .string c.qual, .int .u64 c.time, .slice c.va.ao c.va.n c.va.cap, .bool c.gone]).toList := by rw [hW1]; exact heap_alloc_new wr _
        have CH := HH.out W1 g hbg (K.trans (Wr.of C1)) W1 c (Below.refl _ _) (hok.below C1)
        clear hce
        go_wp2_with fail
        rw [← hW1]
        refine CH.mono ?_
        rintro e w3 ⟨rfl, C3⟩
        have D3 := (D.below C1).below C3
        have K3 := K.trans ((Wr.of C1).trans (Wr.of C3))
        have A3 := arr_below A1 C3
        clear CH q0 q1 q2 q3 q4 q5 hW1 A1
        cases hp : pr c.c with
        | true =>
          have HK2 : Hid (kept.map CA.c = ((l.map CA.c).take (m + 1)).filter (fun c => !pr c)) := by
            show _ = _
            rw [HT.out, ← HK.out]
            simp [hp]
          have D4 := D3.skip
          clear hp HT HK
          go_wp2
          go_roundw
          case rel => exact ⟨q, m + 1, kept, rfl, by go_num, HQ, by omega, D4, HK2, K3⟩
          case measure => simp [intOf]; omega
        | false =>
          have HK2 : Hid ((kept ++ [c]).map CA.c = ((l.map CA.c).take (m + 1)).filter (fun c => !pr c)) := by
            show _ = _
            rw [HT.out, ← HK.out]
            simp [hp]
          have D4 : Del (stC w3 g (q * 6) c) g cap l (kept ++ [c]) (m + 1) := by
            have := D3.put hml
            rw [HQ.out, ← HCE.out] at this
            exact this
          have HQ2 : Hid ((kept ++ [c]).length = q + 1) := by show _ = _; rw [List.length_append, HQ.out]; rfl
          have K4 := K3.trans (stC_wr w3 g (q * 6) c)
          obtain ⟨cur, A4, hlc, -, -⟩ := D3.arr
          have hci : ∀ y, y < 6 → ∃ u, w3.cell? ⟨g, q * 6 + y, none⟩ = some u := fun y hy => by
            rw [A4.cell, List.getElem?_eq_getElem (by omega)]
            exact ⟨_, rfl⟩
          obtain ⟨u0, g0⟩ := hci 0 (by decide)
          have f0 := A4.free (q * 6 + 0)
          obtain ⟨u1, g1⟩ := hci 1 (by decide)
          have f1 := A4.free (q * 6 + 1)
          obtain ⟨u2, g2⟩ := hci 2 (by decide)
          have f2 := A4.free (q * 6 + 2)
          obtain ⟨u3, g3⟩ := hci 3 (by decide)
          have f3 := A4.free (q * 6 + 3)
          obtain ⟨u4, g4⟩ := hci 4 (by decide)
          have f4 := A4.free (q * 6 + 4)
          obtain ⟨u5, g5⟩ := hci 5 (by decide)
          have f5 := A4.free (q * 6 + 5)
          rw [Nat.add_zero] at g0 f0
          have hglt := A4.lt
          have q0 : w3.cell? ⟨wr.heap.size, 0, none⟩ = some (.string c.row) := A3.cell 0
          have q1 : w3.cell? ⟨wr.heap.size, 1, none⟩ = some (.string c.fam) := A3.cell 1
          have q2 : w3.cell? ⟨wr.heap.size, 2, none⟩ = some (.string c.qual) := A3.cell 2
          have q3 : w3.cell? ⟨wr.heap.size, 3, none⟩ = some (.int .u64 c.time) := A3.cell 3
          have q4 : w3.cell? ⟨wr.heap.size, 4, none⟩ = some (.slice c.va.ao c.va.n c.va.cap) := A3.cell 4
          have q5 : w3.cell? ⟨wr.heap.size, 5, none⟩ = some (.bool c.gone) := A3.cell 5
          have hqi : (q : Int) < (n : Int) := by omega
          unfold stC at D4 K4
          clear hp HT HK hci
          go_wp2
          go_roundw
          case rel => exact ⟨q + 1, m + 1, kept ++ [c], by go_num, by go_num, HQ2, by omega, D4, HK2, K4⟩
          case measure => simp [intOf]; omega
      · have hge : ¬ (m : Int) < (n : Int) := by omega
        obtain rfl : m = n := by omega
        obtain ⟨cur, A4, hlc, -, -⟩ := D.arr
        have hcl : ∀ ty, (Builtin.clear_ #[31] ty #[.slice (some ⟨g, q * 6, none⟩) (m - q) (cap - q)]).run Tryz.prog wr = .ok (.tuple #[]) (wr.setCells g (q * 6) (zC (m - q))) := fun ty =>
          run_clear_cells wr 31 33 ty (.agg #[.string ⟨#[]⟩, .string ⟨#[]⟩, .string ⟨#[]⟩, .int .u64 0, .slice none 0 0, .bool false]) Tryz.underlying31 (fun w => rfl) g (q * 6) (m - q) (cap - q) (by omega) (zC (m - q)) rfl (zC_one _) (fun j hj => by
            rw [zC_len] at hj
            rw [A4.cell, List.getElem?_eq_getElem (by omega)]
            rfl) (fun j _ => A4.free _)
        have DD := D.done hl1 hmx (zC (m - q))
        rw [HQ.out] at DD
        have K5 := K.trans (setCells_wr g (zC (m - q)) (q * 6) wr)
        have HF : Hid (kept.map CA.c = (l.map CA.c).filter (fun c => !pr c)) := by
          show _ = _
          rw [HK.out, List.take_of_length_le (by rw [List.length_map]; omega)]
        have hqi : (q : Int) ≤ (m : Int) := by omega
        have hqc : (q : Int) ≤ (cap : Int) := by omega
        clear HK
        go_wp2
        go_ret
        exact ⟨some ⟨g, 0, none⟩, q, cap, rfl, kept, DD, HF.out, g, hbg, K5⟩
end Go.Proofs.YtlljmhcgjkolpaaGreatDoor

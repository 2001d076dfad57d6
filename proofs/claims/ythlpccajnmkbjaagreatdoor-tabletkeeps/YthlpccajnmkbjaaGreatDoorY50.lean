/-
  Texts in one: TbClear, TbDel, TbDelF, TbTake, TbScan, TbDo2, TbMeets, TbChk.
-/
import Derived.Test.YthlpccajnmkbjaaGreatDoorY25
import Derived.Lib.SliceRun
import Derived.Test.YthlpccajnmkbjaaGreatDoorY34
import Derived.Test.YthlpccajnmkbjaaGreatDoorY7
import Derived.Test.YthlpccajnmkbjaaGreatDoorY35
import Derived.Deep.QuietTactic
import Derived.BigQuiet
namespace Go.Proofs.YthlpccajnmkbjaaGreatDoor
open Go.RowKit

/-- 'clear(s)', s of n > 0 elements: their cells hold the zero value's. -/
theorem run_clear_cells {P : Program} (w : World) (t e ty : TypeId) (z : Value) (ht : P.underlying t = some (.slice e)) (hv : ∀ w, (zeroValue e).run P w = .ok z w) (b o n c : Nat) (hn : 0 < n) (L : List Value) (hL : (Builtin.zeroCells z.cells n).toList = L) (h1 : ∀ v ∈ L, v.oneCell' = true)
    (hc : ∀ j, j < L.length → (w.cell? ⟨b, o + j, none⟩).isSome = true) (hf : ∀ j, j < L.length → w.frozen? ⟨b, o + j, none⟩ = false) :
    (Builtin.clear_ #[t] ty #[.slice (some ⟨b, o, none⟩) n c]).run P w = .ok (.tuple #[]) (w.setCells b o L) := by
  have hst := run_storeCells_cells (P := P) b o L 0 w (by simpa using hc) (by simpa using hf) h1
  simp only [Nat.add_zero] at hst
  obtain ⟨m, rfl⟩ : ∃ m, n = m + 1 := ⟨n - 1, by omega⟩
  simp [Builtin.clear_, run_underlying ht, hv, hL, hst]
end Go.Proofs.YthlpccajnmkbjaaGreatDoor

namespace Go.Proofs.YthlpccajnmkbjaaGreatDoor
open Go.RowKit

def set6 (cur : List Value) (o : Nat) (c : CA) : List Value := (((((cur.set o (.string c.row)).set (o + 1) (.string c.fam)).set (o + 2) (.string c.qual)).set (o + 3) (.int .u64 c.time)).set (o + 4) (.slice c.va.ao c.va.n c.va.cap)).set (o + 5) (.bool c.gone)
theorem set6_len (cur : List Value) (o : Nat) (c : CA) : (set6 cur o c).length = cur.length := by simp [set6]
theorem set6_out (cur : List Value) (o z : Nat) (c : CA) (h : z < o ∨ o + 6 ≤ z) : (set6 cur o c)[z]? = cur[z]? := by
  unfold set6
  rw [List.getElem?_set_ne (by omega), List.getElem?_set_ne (by omega), List.getElem?_set_ne (by omega), List.getElem?_set_ne (by omega), List.getElem?_set_ne (by omega), List.getElem?_set_ne (by omega)]
theorem set6_in (cur : List Value) (o y : Nat) (c : CA) (v : Value) (h : o + 6 ≤ cur.length) (hv : c.cells[y]? = some v) : (set6 cur o c)[o + y]? = some v := by
  unfold set6
  match y, hv with
  | 0, hv => cases hv; simp only [Nat.add_zero]; rw [List.getElem?_set_ne (by omega), List.getElem?_set_ne (by omega), List.getElem?_set_ne (by omega), List.getElem?_set_ne (by omega), List.getElem?_set_ne (by omega), List.getElem?_set_self (by omega)]
  | 1, hv => cases hv; rw [List.getElem?_set_ne (by omega), List.getElem?_set_ne (by omega), List.getElem?_set_ne (by omega), List.getElem?_set_ne (by omega), List.getElem?_set_self (by simp; omega)]
  | 2, hv => cases hv; rw [List.getElem?_set_ne (by omega), List.getElem?_set_ne (by omega), List.getElem?_set_ne (by omega), List.getElem?_set_self (by simp; omega)]
  | 3, hv => cases hv; rw [List.getElem?_set_ne (by omega), List.getElem?_set_ne (by omega), List.getElem?_set_self (by simp; omega)]
  | 4, hv => cases hv; rw [List.getElem?_set_ne (by omega), List.getElem?_set_self (by simp; omega)]
  | 5, hv => cases hv; rw [List.getElem?_set_self (by simp; omega)]
  | y + 6, hv => simp [CA.cells] at hv
/-- The world behind the store of a cell. -/
def stC (W : World) (g o : Nat) (c : CA) : World := (((((W.setCell ⟨g, o, none⟩ (.string c.row)).setCell ⟨g, o + 1, none⟩ (.string c.fam)).setCell ⟨g, o + 2, none⟩ (.string c.qual)).setCell ⟨g, o + 3, none⟩ (.int .u64 c.time)).setCell ⟨g, o + 4, none⟩ (.slice c.va.ao c.va.n c.va.cap)).setCell ⟨g, o + 5, none⟩ (.bool c.gone)
theorem stC_wr (W : World) (g o : Nat) (c : CA) : Wr g W (stC W g o c) := ((((((Wr.refl _ _).set _ _).set _ _).set _ _).set _ _).set _ _).set _ _
theorem stC_arr {W : World} {g : Nat} {t : TypeId} {cur : List Value} (h : Arr W g t cur) (o : Nat) (c : CA) : Arr (stC W g o c) g t (set6 cur o c) := (((((h.set _ _).set _ _).set _ _).set _ _).set _ _).set _ _
theorem setCells_wr (g : Nat) : ∀ (L : List Value) (o : Nat) (W : World), Wr g W (W.setCells g o L)
  | [], _, W => Wr.refl g W
  | v :: L, o, W => ((Wr.refl g W).set o v).trans (setCells_wr g L (o + 1) _)

/-- Up to j the row has been looked at; what was kept stands first. -/
structure Del (W : World) (g cap : Nat) (l kept : List CA) (j : Nat) : Prop where
  arr : ∃ cur, Arr W g 69 cur ∧ cur.length = cap * 6 ∧ (∀ x (h : x < kept.length) y v, kept[x].cells[y]? = some v → cur[x * 6 + y]? = some v) ∧ (∀ x (h : x < l.length), j ≤ x → ∀ y v, l[x].cells[y]? = some v → cur[x * 6 + y]? = some v)
  ok : ∀ c ∈ l, c.ok W
  sl : ∀ c ∈ l, SlT W ⟨c.va.ao, c.va.n, c.va.cap, c.va.xs⟩
  sub : ∀ c ∈ kept, c ∈ l
  lt : kept.length < j
  cap : l.length ≤ cap
theorem Del.skip {W : World} {g cap j : Nat} {l kept : List CA} (h : Del W g cap l kept j) : Del W g cap l kept (j + 1) := by
  obtain ⟨cur, A, hl, h1, h2⟩ := h.arr
  exact ⟨⟨cur, A, hl, h1, fun x hx hj => h2 x hx (by omega)⟩, h.ok, h.sl, h.sub, by have := h.lt; omega, h.cap⟩
theorem Del.below {W W' : World} {g cap j : Nat} {l kept : List CA} (h : Del W g cap l kept j) (hb : Below W.heap.size W W') : Del W' g cap l kept j := by
  obtain ⟨cur, A, hl, h1, h2⟩ := h.arr
  exact ⟨⟨cur, arr_below A hb, hl, h1, h2⟩, fun c hc => (h.ok c hc).below hb, fun c hc => (h.sl c hc).kp (KpB.below hb), h.sub, h.lt, h.cap⟩
theorem cells_lt {c : CA} {y : Nat} {v : Value} (h : c.cells[y]? = some v) : y < 6 := (List.getElem?_eq_some_iff.1 h).1
theorem Del.put {W : World} {g cap j : Nat} {l kept : List CA} (h : Del W g cap l kept j) (hj : j < l.length) : Del (stC W g (kept.length * 6) l[j]) g cap l (kept ++ [l[j]]) (j + 1) := by
  obtain ⟨cur, A, hl, h1, h2⟩ := h.arr
  have hlt := h.lt
  have hcap := h.cap
  have kp := KpB.wr A (by decide) (stC_wr W g (kept.length * 6) l[j])
  refine ⟨⟨set6 cur (kept.length * 6) l[j], stC_arr A _ _, (set6_len _ _ _).trans hl, fun x hx y v hv => ?_, fun x hx hjx y v hv => ?_⟩, fun c hc => ⟨(h.ok c hc).row, (h.ok c hc).fam, (h.ok c hc).qual, (h.ok c hc).time, ((h.sl c hc).kp kp).1⟩, fun c hc => (h.sl c hc).kp kp, fun c hc => ?_, by rw [List.length_append, List.length_singleton]; omega, hcap⟩
  · have hy := cells_lt hv
    rw [List.length_append, List.length_singleton] at hx
    by_cases e : x < kept.length
    · rw [List.getElem_append_left e] at hv
      rw [set6_out _ _ _ _ (by omega)]
      exact h1 x e y v hv
    · obtain rfl : x = kept.length := by omega
      rw [List.getElem_append_right (Nat.le_refl _)] at hv
      simp only [Nat.sub_self, List.getElem_singleton] at hv
      exact set6_in _ _ _ _ _ (by omega) hv
  · have hy := cells_lt hv
    rw [set6_out _ _ _ _ (by omega)]
    exact h2 x hx (by omega) y v hv
  · rcases List.mem_append.1 hc with hc | hc
    · exact h.sub c hc
    · rw [List.mem_singleton.1 hc]; exact List.getElem_mem hj
/-- What lies at j. -/
theorem Del.at {W : World} {g cap j : Nat} {l kept : List CA} (h : Del W g cap l kept j) (hj : j < l.length) : CX W g (j * 6) l[j] := by
  obtain ⟨cur, A, hl, h1, h2⟩ := h.arr
  have k := h2 j hj (Nat.le_refl _)
  exact ⟨(A.cell _).trans (k 0 _ rfl), (A.cell _).trans (k 1 _ rfl), (A.cell _).trans (k 2 _ rfl), (A.cell _).trans (k 3 _ rfl), (A.cell _).trans (k 4 _ rfl), (A.cell _).trans (k 5 _ rfl)⟩
/-- The rest is cleared. -/
theorem Del.done {W : World} {g cap j : Nat} {l kept : List CA} (h : Del W g cap l kept j) (hj : j ≤ l.length) (hm : cap ≤ maxLen) (L : List Value) : CL (W.setCells g (kept.length * 6) L) (some ⟨g, 0, none⟩) kept.length cap kept := by
  obtain ⟨cur, A, hl, h1, h2⟩ := h.arr
  have hlt := h.lt
  have hcap := h.cap
  have kp := KpB.wr A (by decide) (setCells_wr g L (kept.length * 6) W)
  refine ⟨rfl, by omega, hm, fun h => by simp at h, fun a ha i hi y v hv => ?_, fun c hc => ?_⟩
  · obtain rfl := Option.some.inj ha
    have hy := cells_lt hv
    rw [Addr.add_lit, Nat.zero_add, World.cell?_setCells_out g L _ W ⟨g, i * 6 + y, none⟩ (fun _ _ => .inl (by show i * 6 + y < _; omega)), A.cell]
    exact h1 i hi y v hv
  · have ok := h.ok c (h.sub c hc)
    exact ⟨ok.row, ok.fam, ok.qual, ok.time, ((h.sl c (h.sub c hc)).kp kp).1⟩
end Go.Proofs.YthlpccajnmkbjaaGreatDoor

namespace Go.Proofs.YthlpccajnmkbjaaGreatDoor
open Go.RowKit

/-- The zero cells. -/
def zC (n : Nat) : List Value := (Builtin.zeroCells #[.string ⟨#[]⟩, .string ⟨#[]⟩, .string ⟨#[]⟩, .int .u64 0, .slice none 0 0, .bool false] n).toList
theorem zC_len (n : Nat) : (zC n).length = n * 6 := by simp [zC, Builtin.zeroCells]
theorem zC_one (n : Nat) : ∀ v ∈ zC n, v.oneCell' = true := fun v hv => by
  unfold zC Builtin.zeroCells at hv
  simp only [Array.toList_map, List.mem_map] at hv
  obtain ⟨i, -, rfl⟩ := hv
  have : i % 6 < 6 := Nat.mod_lt _ (by decide)
  show (#[Value.string ⟨#[]⟩, .string ⟨#[]⟩, .string ⟨#[]⟩, .int .u64 0, .slice none 0 0, .bool false] : Array Value)[i % 6]!.oneCell' = true
  generalize i % 6 = y at this ⊢
  match y, this with
  | 0, _ => rfl
  | 1, _ => rfl
  | 2, _ => rfl
  | 3, _ => rfl
  | 4, _ => rfl
  | 5, _ => rfl
theorem Del.start {w : World} {base g n cap : Nat} {l : List CA} (h : CRow w base (.slice (some ⟨g, 0, none⟩) n cap) l) {k : Nat} (hk : k < l.length) : Del w g cap l (l.take k) (k + 1) ∧ cap ≤ maxLen ∧ base ≤ g := by
  rcases h.row.2 with ⟨e, -⟩ | ⟨g', cap', cur, e, a1, a2, a3, a4, a5, a6⟩
  · simp at e
  · cases e
    have key : ∀ x (hx : x < l.length) y v, l[x].cells[y]? = some v → cur.toList[x * 6 + y]? = some v := fun x hx y v hv => by
      have hy := cells_lt hv
      have h1 : (cellsC l)[x * 6 + y]? = some v := by
        unfold cellsC
        rw [flat_get CA.cells 6 (fun _ => rfl) l x y hx hy]
        exact hv
      rw [← a6, List.getElem?_take_of_lt (by omega)] at h1
      exact h1
    refine ⟨⟨⟨cur.toList, a2, by rw [Array.length_toList]; exact a5, fun x hx y v hv => ?_, fun x hx _ y v hv => key x hx y v hv⟩, h.ok, h.sl, fun c hc => List.mem_of_mem_take hc, by rw [List.length_take]; omega, a3⟩, a4, a1⟩
    rw [List.length_take] at hx
    rw [List.getElem_take] at hv
    exact key x (by omega) y v hv

set_option maxHeartbeats 4000000 in
set_option maxRecDepth 100000 in
theorem delete_any (w : World) (base : Nat) (v : Value) (l : List CA) (fn : Nat) (lb : Array Value) (pr : CV → Bool) (eg : ∀ args w, (callFunc fn args).run Tryz.prog w = .ok (.enter fn args) w) (h : CRow w base v l) (hn : l.length ≤ 1000) (hand : ∀ W, Tells W fn lb pr) :
    Calls Tryz.prog 118 #[v, .func (.func fn) #[] lb] w fun e w' => ∃ ao n cap l', e = .returned (.slice ao n cap) ∧ CL w' ao n cap l' ∧ l'.map CA.c = (l.map CA.c).filter (fun c => !pr c) ∧ ∃ g, base ≤ g ∧ Wr g w w' := by
  obtain ⟨ao, cap, rfl, hcl⟩ := h.cl
  have CI := index_any w ao l.length cap l fn lb pr eg hcl hn (hand w)
  obtain ⟨n, hnl⟩ : ∃ n, n = l.length := ⟨_, rfl⟩
  rw [← hnl] at CI hcl h hn ⊢
  have hl1 := Nat.le_of_eq hnl
  have hl2 := Nat.le_of_eq hnl.symm
  have HH : Hid (∀ W, Tells W fn lb pr) := hand
  clear hand hnl
  go_enter Tryz.func118, Tryz.ntmps118
  go_wp2_with fail
  refine CI.mono ?_
  rintro e w2 ⟨r, rfl, hr, C2⟩
  clear CI
  rcases hr with ⟨rfl, hv⟩ | ⟨h0, hv, k, rfl, ht, hkl, hp⟩
  · have HF : Hid ((l.map CA.c).filter (fun c => !pr c) = l.map CA.c) := List.filter_eq_self.2 fun c hc => by
      have := List.any_eq_false.1 hv c hc
      simpa using this
    have hcl2 := hcl.below C2
    clear hv
    go_wp2
    go_ret
    exact ⟨ao, n, cap, l, rfl, hcl2, HF.out.symm, base, Nat.le_refl _, Wr.of C2⟩
  · have e1 : ((k : Int) == -1) = false := by simp
    have hni : (n : Int) ≤ 1000 := by omega
    rw [List.getElem_map] at hp
    rw [List.length_map] at hkl
    have hki : (k : Int) ≤ 1000 := by omega
    obtain ⟨g, rfl⟩ : ∃ g, ao = some ⟨g, 0, none⟩ := by
      rcases h.row.2 with ⟨e, -⟩ | ⟨g', cap', cur, e, -⟩
      · have : n = 0 := by cases e; rfl
        omega
      · cases e
        exact ⟨g', rfl⟩
    obtain ⟨D0, hmx, hbg⟩ := Del.start (h.below C2) hkl
    have H0 : Hid ((l.take k).map CA.c = ((l.map CA.c).take (k + 1)).filter (fun c => !pr c)) := by
      show _ = _
      rw [List.take_succ_eq_append_getElem (by rw [List.length_map]; exact hkl), List.filter_append, List.filter_eq_self.2 (fun c hc => by have := List.any_eq_false.1 ht c hc; simpa using this), List.map_take]
      simp [hp]
    have hq0 : (l.take k).length = k := by rw [List.length_take]; omega
    have K0 := Wr.of (p := g) C2
    have hcn : n ≤ cap := hcl.le
    clear hv ht hp h0 hcl h
    go_wp2
    go_loopw [5, 6] (fun i j wr => ∃ (q m : Nat) (kept : List CA), i = .int .i64 q ∧ j = .int .i64 m ∧ Hid (kept.length = q) ∧ m ≤ n ∧ Del wr g cap l kept m ∧ Hid (kept.map CA.c = ((l.map CA.c).take m).filter (fun c => !pr c)) ∧ Wr g w wr) (fun _ j _ => n - (intOf j).toNat)
    case atStart => exact ⟨k, k + 1, l.take k, rfl, by go_num, hq0, by omega, D0, H0, K0⟩
    case round =>
      obtain ⟨q, m, kept, rfl, rfl, HQ, hm, D, HK, K⟩ := hrel
      have hqm : q < m := by have := D.lt; have := HQ.out; omega
      by_cases hlt : m < n
      · have hmi : (m : Int) < (n : Int) := by omega
        have hml : m < l.length := by omega
        have X := D.at hml
        have hok := D.ok _ (List.getElem_mem hml)
        have DP := D.put hml
        have HT : Hid (((l.map CA.c).take (m + 1)).filter (fun c => !pr c) = ((l.map CA.c).take m).filter (fun c => !pr c) ++ [l[m].c].filter (fun c => !pr c)) := by
          show _ = _
          rw [List.take_succ_eq_append_getElem (by rw [List.length_map]; exact hml), List.filter_append, List.getElem_map]
        obtain ⟨c, hce⟩ : ∃ c, c = l[m] := ⟨_, rfl⟩
        have HCE : Hid (c = l[m]) := hce
        rw [← hce] at X hok HT
        clear DP
        obtain ⟨q0, q1, q2, q3, q4, q5⟩ := X
        obtain ⟨W1, hW1⟩ : ∃ V, V = wr.alloc (.cells #[.string c.row, .string c.fam, .string c.qual, .int .u64 c.time, .slice c.va.ao c.va.n c.va.cap, .bool c.gone] 69) := ⟨_, rfl⟩
        have C1 : Below wr.heap.size wr W1 := by rw [hW1]; exact (Below.refl _ _).alloc (Nat.le_refl _) _
        have A1 : Arr W1 wr.heap.size 69 (#[.string c.row, .string c.fam, .string c.qual, .int .u64 c.time, .slice c.va.ao c.va.n c.va.cap, .bool c.gone]).toList := by rw [hW1]; exact heap_alloc_new wr _
        have CH := HH.out W1 W1 c (Below.refl _ _) (hok.below C1)
        clear hce
        go_wp2_with fail
        rw [← hW1]
        refine CH.mono ?_
        rintro e w3 ⟨rfl, C3⟩
        have D3 := (D.below C1).below C3
        have K3 := K.trans ((Wr.of C1).trans (Wr.of C3))
        have A3 := arr_below A1 C3
        clear CH q0 q1 q2 q3 q4 q5 hW1 A1
        cases hp : pr c.c with
        | true =>
          have HK2 : Hid (kept.map CA.c = ((l.map CA.c).take (m + 1)).filter (fun c => !pr c)) := by
            show _ = _
            rw [HT.out, ← HK.out]
            simp [hp]
          have D4 := D3.skip
          clear hp HT HK
          go_wp2
          go_roundw
          case rel => exact ⟨q, m + 1, kept, rfl, by go_num, HQ, by omega, D4, HK2, K3⟩
          case measure => simp [intOf]; omega
        | false =>
          have HK2 : Hid ((kept ++ [c]).map CA.c = ((l.map CA.c).take (m + 1)).filter (fun c => !pr c)) := by
            show _ = _
            rw [HT.out, ← HK.out]
            simp [hp]
          have D4 : Del (stC w3 g (q * 6) c) g cap l (kept ++ [c]) (m + 1) := by
            have := D3.put hml
            rw [HQ.out, ← HCE.out] at this
            exact this
          have HQ2 : Hid ((kept ++ [c]).length = q + 1) := by show _ = _; rw [List.length_append, HQ.out]; rfl
          have K4 := K3.trans (stC_wr w3 g (q * 6) c)
          obtain ⟨cur, A4, hlc, -, -⟩ := D3.arr
          have hci : ∀ y, y < 6 → ∃ u, w3.cell? ⟨g, q * 6 + y, none⟩ = some u := fun y hy => by
            rw [A4.cell, List.getElem?_eq_getElem (by omega)]
            exact ⟨_, rfl⟩
          obtain ⟨u0, g0⟩ := hci 0 (by decide)
          have f0 := A4.free (q * 6 + 0)
          obtain ⟨u1, g1⟩ := hci 1 (by decide)
          have f1 := A4.free (q * 6 + 1)
          obtain ⟨u2, g2⟩ := hci 2 (by decide)
          have f2 := A4.free (q * 6 + 2)
          obtain ⟨u3, g3⟩ := hci 3 (by decide)
          have f3 := A4.free (q * 6 + 3)
          obtain ⟨u4, g4⟩ := hci 4 (by decide)
          have f4 := A4.free (q * 6 + 4)
          obtain ⟨u5, g5⟩ := hci 5 (by decide)
          have f5 := A4.free (q * 6 + 5)
          rw [Nat.add_zero] at g0 f0
          have hglt := A4.lt
          have q0 : w3.cell? ⟨wr.heap.size, 0, none⟩ = some (.string c.row) := A3.cell 0
          have q1 : w3.cell? ⟨wr.heap.size, 1, none⟩ = some (.string c.fam) := A3.cell 1
          have q2 : w3.cell? ⟨wr.heap.size, 2, none⟩ = some (.string c.qual) := A3.cell 2
          have q3 : w3.cell? ⟨wr.heap.size, 3, none⟩ = some (.int .u64 c.time) := A3.cell 3
          have q4 : w3.cell? ⟨wr.heap.size, 4, none⟩ = some (.slice c.va.ao c.va.n c.va.cap) := A3.cell 4
          have q5 : w3.cell? ⟨wr.heap.size, 5, none⟩ = some (.bool c.gone) := A3.cell 5
          have hqi : (q : Int) < (n : Int) := by omega
          unfold stC at D4 K4
          clear hp HT HK hci
          go_wp2
          go_roundw
          case rel => exact ⟨q + 1, m + 1, kept ++ [c], by go_num, by go_num, HQ2, by omega, D4, HK2, K4⟩
          case measure => simp [intOf]; omega
      · have hge : ¬ (m : Int) < (n : Int) := by omega
        obtain rfl : m = n := by omega
        obtain ⟨cur, A4, hlc, -, -⟩ := D.arr
        have hcl : ∀ ty, (Builtin.clear_ #[30] ty #[.slice (some ⟨g, q * 6, none⟩) (m - q) (cap - q)]).run Tryz.prog wr = .ok (.tuple #[]) (wr.setCells g (q * 6) (zC (m - q))) := fun ty =>
          run_clear_cells wr 30 69 ty (.agg #[.string ⟨#[]⟩, .string ⟨#[]⟩, .string ⟨#[]⟩, .int .u64 0, .slice none 0 0, .bool false]) Tryz.underlying30 (fun w => rfl) g (q * 6) (m - q) (cap - q) (by omega) (zC (m - q)) rfl (zC_one _) (fun j hj => by
            rw [zC_len] at hj
            rw [A4.cell, List.getElem?_eq_getElem (by omega)]
            rfl) (fun j _ => A4.free _)
        have DD := D.done hl1 hmx (zC (m - q))
        rw [HQ.out] at DD
        have K5 := K.trans (setCells_wr g (zC (m - q)) (q * 6) wr)
        have HF : Hid (kept.map CA.c = (l.map CA.c).filter (fun c => !pr c)) := by
          show _ = _
          rw [HK.out, List.take_of_length_le (by rw [List.length_map]; omega)]
        have hqi : (q : Int) ≤ (m : Int) := by omega
        have hqc : (q : Int) ≤ (cap : Int) := by omega
        clear HK
        go_wp2
        go_ret
        exact ⟨some ⟨g, 0, none⟩, q, cap, rfl, kept, DD, HF.out, g, hbg, K5⟩
end Go.Proofs.YthlpccajnmkbjaaGreatDoor

namespace Go.Proofs.YthlpccajnmkbjaaGreatDoor
open Go.RowKit

/-- All of some cells go. -/
def mTake (cs l : List CV) : List CV := l.foldl (fun x c => cDel x c.kv) cs
theorem mTake_srt : ∀ (l cs : List CV), CSrt cs → CSrt (mTake cs l)
  | [], _, h => h
  | c :: l, cs, h => mTake_srt l (cDel cs c.kv) (h.del _)
theorem mTake_good : ∀ (l cs : List CV), CGood cs → CGood (mTake cs l)
  | [], _, h => h
  | c :: l, cs, h => mTake_good l (cDel cs c.kv) (h.del _)
theorem mTake_len : ∀ (l cs : List CV), (mTake cs l).length ≤ cs.length
  | [], _ => Nat.le_refl _
  | c :: l, cs => Nat.le_trans (mTake_len l (cDel cs c.kv)) (cDel_len cs c.kv)
theorem mTake_snoc (cs l : List CV) (c : CV) : mTake cs (l ++ [c]) = cDel (mTake cs l) c.kv := by unfold mTake; rw [List.foldl_append]; rfl

set_option maxHeartbeats 2000000 in
set_option maxRecDepth 100000 in
theorem takeAll_any (w : World) (p : Nat) (f t : ByteArray) (cs : List CV) (ao : Option Addr) (n cap : Nat) (l : List CA) (hT : TB w p f t cs) (hs : CSrt cs) (hn : cs.length ≤ 1000) (hl : CL w ao n cap l) (hg : ∀ c ∈ l, c.c.good) (hln : n ≤ 1000) :
    Calls Tryz.prog 75 #[.pointer (some ⟨p, 0, none⟩), .slice ao n cap] w (PutPost10 w p f t (if n = 0 then (cs, 7) else (mTake cs (l.map CA.c), 0))) := by
  have hl1 := Nat.le_of_eq hl.len
  have hl2 := Nat.le_of_eq hl.len.symm
  by_cases hz : n = 0
  · subst hz
    rw [if_pos rfl]
    go_enter Tryz.func75, Tryz.ntmps75
    go_wp2
    go_ret
    exact ⟨rfl, hT, Wr.refl _ _⟩
  rw [if_neg hz]
  have hzb : ((n : Int) == 0) = false := by simp; omega
  have hni : (n : Int) ≤ 1000 := by omega
  obtain ⟨b, off, rfl, hc⟩ := hl.at (by omega)
  have HG : Hid (∀ c ∈ l, c.c.good) := hg
  clear hc hg
  go_enter Tryz.func75, Tryz.ntmps75
  go_wp2
  go_loopw [12] (fun i wr => ∃ k : Nat, k ≤ n ∧ i = .int .i64 k ∧ TB wr p f t (mTake cs ((l.take k).map CA.c)) ∧ CL wr (some ⟨b, off, none⟩) n cap l ∧ Wr p w wr) (fun i _ => n - (intOf i).toNat)
  case atStart => exact ⟨0, Nat.zero_le _, rfl, hT, hl, Wr.refl _ _⟩
  case round =>
    obtain ⟨k, hk, rfl, X0, L0, K0⟩ := hrel
    by_cases hlt : k < n
    · have hki : (k : Int) < (n : Int) := by omega
      have hkl : k < l.length := by omega
      obtain ⟨b', off', e, hc⟩ := L0.at (by omega)
      cases e
      have X := hc k hkl
      have hok := L0.ok _ (List.getElem_mem hkl)
      have hgd := HG.out _ (List.getElem_mem hkl)
      have HTK : Hid (mTake cs ((l.take (k + 1)).map CA.c) = cDel (mTake cs ((l.take k).map CA.c)) l[k].c.kv) := by
        show _ = _
        rw [List.take_succ_eq_append_getElem hkl, List.map_append, List.map_cons, List.map_nil, mTake_snoc]
      have hsr := mTake_srt ((l.take k).map CA.c) cs hs
      have hle := mTake_len ((l.take k).map CA.c) cs
      obtain ⟨ds, hds⟩ : ∃ ds, ds = mTake cs ((l.take k).map CA.c) := ⟨_, rfl⟩
      obtain ⟨c, hce⟩ : ∃ c, c = l[k] := ⟨_, rfl⟩
      rw [← hce] at X hok hgd HTK
      rw [← hds] at X0 hsr hle HTK
      obtain ⟨q0, q1, q2, q3, q4, q5⟩ := X
      have hcn : c.va.n ≤ 100000 := by rw [← hok.va.len]; have := hgd.val; show c.c.value.length ≤ _; omega
      obtain ⟨W1, hW1⟩ : ∃ V, V = wr.alloc (.cells #[.string c.row, .string c.fam, .string c.qual, .int .u64 c.time, .slice c.va.ao c.va.n c.va.cap, .bool c.gone] 69) := ⟨_, rfl⟩
      have C1 : Below wr.heap.size wr W1 := by rw [hW1]; exact (Below.refl _ _).alloc (Nat.le_refl _) _
      have CT := take_any W1 p f t ds c (X0.below C1) hsr (by omega) (hok.below C1) hgd hcn
      unfold CA.val at CT
      clear hc hce hds
      go_wp2_with fail
      rw [← hW1]
      clear hW1
      refine CT.mono ?_
      rintro e w2 ⟨rfl, X2, K2⟩
      obtain ⟨u, A1, -⟩ := X0.below C1
      have L2 := (L0.below C1).tb A1 K2
      clear CT q0 q1 q2 q3 q4 q5
      go_wp2
      go_roundw
      case rel => exact ⟨k + 1, by omega, by go_num, by rw [HTK.out]; exact X2, L2, K0.trans ((Wr.of C1).trans K2)⟩
      case measure => simp [intOf]; omega
    · have hge : ¬ (k : Int) < (n : Int) := by omega
      have X1 : TB wr p f t (mTake cs (l.map CA.c)) := by rw [List.take_of_length_le (by omega)] at X0; exact X0
      clear X0
      go_wp2
      go_ret
      exact ⟨rfl, X1, K0⟩

set_option maxHeartbeats 400000 in
set_option maxRecDepth 100000 in
theorem row1_tells (w : World) (rb : Nat) (r : ByteArray) (hr : Arr w rb 9 [.string r]) : Tells w 122 #[.pointer (some ⟨rb, 0, none⟩)] fun c => decide (c.row = r) := fun W c hb _ => by
  show Calls Tryz.prog 122 #[.agg #[.string c.row, .string c.fam, .string c.qual, .int .u64 c.time, .slice c.va.ao c.va.n c.va.cap, .bool c.gone], .pointer (some ⟨rb, 0, none⟩)] W _
  have C1 : Below W.heap.size W (W.alloc (.cells #[.string c.row, .string c.fam, .string c.qual, .int .u64 c.time, .slice c.va.ao c.va.n c.va.cap, .bool c.gone] 69)) := (Below.refl _ _).alloc (Nat.le_refl _) _
  have q0 : (W.alloc (.cells #[.string c.row, .string c.fam, .string c.qual, .int .u64 c.time, .slice c.va.ao c.va.n c.va.cap, .bool c.gone] 69)).cell? ⟨rb, 0, none⟩ = some (.string r) := (arr_below (arr_below hr hb) C1).cell 0
  by_cases e : c.row = r
  · have t1 : (c.row.toList == r.toList) = true := by rw [e]; simp
    have hv : Hid (decide (c.c.row = r) = true) := decide_eq_true e
    clear e
    go_enter Tryz.func122, Tryz.ntmps122
    go_wp2
    go_ret
    exact ⟨by rw [hv.out] <;> rfl, C1⟩
  · have t1 := toL_ne e
    have hv : Hid (decide (c.c.row = r) = false) := decide_eq_false e
    clear e
    go_enter Tryz.func122, Tryz.ntmps122
    go_wp2
    go_ret
    exact ⟨by rw [hv.out] <;> rfl, C1⟩
theorem row_rows (r : ByteArray) (cs : List CV) : (cs.filter fun c => inRows r ⟨#[]⟩ c.row && decide (c.row = r)) = cs.filter fun c => decide (c.row = r) := by
  refine List.filter_congr fun c _ => ?_
  by_cases h : c.row = r
  · rw [decide_eq_true h, Bool.and_true, h]
    exact decide_eq_true ⟨cmpL_irr _, .inl rfl⟩
  · rw [decide_eq_false h, Bool.and_false]

set_option maxHeartbeats 1000000 in
set_option maxRecDepth 100000 in
theorem row_any (w : World) (p : Nat) (f t : ByteArray) (cs : List CV) (r : ByteArray) (hT : TB w p f t cs) (hs : CSrt cs) (hg : CGood cs) (hr : r.size ≤ 32) (hn : cs.length ≤ 1000) :
    Calls Tryz.prog 77 #[.pointer (some ⟨p, 0, none⟩), .string r] w (AmPost w (cs.filter fun c => decide (c.row = r))) := by
  obtain ⟨W1, hW1⟩ : ∃ V, V = w.alloc (.cells #[.string r] 9) := ⟨_, rfl⟩
  have C1 : Below w.heap.size w W1 := by rw [hW1]; exact (Below.refl _ _).alloc (Nat.le_refl _) _
  have K1 : Arr W1 w.heap.size 9 [.string r] := by rw [hW1]; exact heap_alloc_new w _
  have CA := among_any W1 p f t cs r ⟨#[]⟩ 122 #[.pointer (some ⟨w.heap.size, 0, none⟩)] (fun c => decide (c.row = r)) (enters_of Tryz.func122 (by kernel_rfl) rfl) (hT.below C1) hs hg hr (by decide) hn (row1_tells W1 _ r K1)
  rw [row_rows] at CA
  go_enter Tryz.func77, Tryz.ntmps77
  go_wp2_with fail
  rw [← hW1]
  refine CA.mono ?_
  rintro e w2 ⟨ao, n, cap, l, rfl, h1, h2, h3, C2⟩
  go_wp2
  go_ret
  exact ⟨ao, n, cap, l, rfl, h1, h2, h3, C1.trans (C2.mono C1.size)⟩

set_option maxHeartbeats 400000 in
theorem scan1_tells (w : World) : Tells w 123 #[] fun c => !c.gone := fun W c hb _ => by
  show Calls Tryz.prog 123 #[.agg #[.string c.row, .string c.fam, .string c.qual, .int .u64 c.time, .slice c.va.ao c.va.n c.va.cap, .bool c.gone]] W _
  have C1 : Below W.heap.size W (W.alloc (.cells #[.string c.row, .string c.fam, .string c.qual, .int .u64 c.time, .slice c.va.ao c.va.n c.va.cap, .bool c.gone] 69)) := (Below.refl _ _).alloc (Nat.le_refl _) _
  go_enter Tryz.func123, Tryz.ntmps123
  go_wp2
  go_ret
  exact ⟨rfl, C1⟩
set_option maxHeartbeats 400000 in
theorem gone_tells (w : World) : Tells w 119 #[] fun c => c.gone := fun W c hb _ => by
  show Calls Tryz.prog 119 #[.agg #[.string c.row, .string c.fam, .string c.qual, .int .u64 c.time, .slice c.va.ao c.va.n c.va.cap, .bool c.gone]] W _
  have C1 : Below W.heap.size W (W.alloc (.cells #[.string c.row, .string c.fam, .string c.qual, .int .u64 c.time, .slice c.va.ao c.va.n c.va.cap, .bool c.gone] 69)) := (Below.refl _ _).alloc (Nat.le_refl _) _
  go_enter Tryz.func119, Tryz.ntmps119
  go_wp2
  go_ret
  exact ⟨rfl, C1⟩
set_option maxHeartbeats 400000 in
theorem all_tells (w : World) : Tells w 50 #[] fun _ => true := fun W c hb _ => by
  show Calls Tryz.prog 50 #[.agg #[.string c.row, .string c.fam, .string c.qual, .int .u64 c.time, .slice c.va.ao c.va.n c.va.cap, .bool c.gone]] W _
  have C1 : Below W.heap.size W (W.alloc (.cells #[.string c.row, .string c.fam, .string c.qual, .int .u64 c.time, .slice c.va.ao c.va.n c.va.cap, .bool c.gone] 69)) := (Below.refl _ _).alloc (Nat.le_refl _) _
  go_enter Tryz.func50, Tryz.ntmps50
  go_wp2
  go_ret
  exact ⟨rfl, C1⟩
end Go.Proofs.YthlpccajnmkbjaaGreatDoor

namespace Go.Proofs.YthlpccajnmkbjaaGreatDoor
open Go.RowKit

/-- A scan. -/
def mScan (cs : List CV) (a b : ByteArray) : RV := ⟨0, (cs.filter fun c => inRows a b c.row && !c.gone).take 16, decide (16 < (cs.filter fun c => inRows a b c.row && !c.gone).length)⟩
theorem size6 (w : World) : (sizeOf 69).run Tryz.prog w = .ok 6 w := by
  have hI := cellInfo
  cases hi : Tryz.prog.info? 69 with
  | none => rw [hi] at hI; simp at hI
  | some i =>
    rw [hi] at hI
    simp only [Option.map_some, Option.some.injEq, Prod.mk.injEq] at hI
    simp [sizeOf, typeInfo, hi, hI.2.1]
/-- l[:i] -/
theorem run_uptoC {W : World} {ao : Option Addr} {n cap i : Nat} (h2 : i ≤ cap) :
    (Instr.sliceAt 30 (.slice ao n cap) none (some (.int .i64 (i : Nat))) none).run Tryz.prog W = .ok (.slice ao i cap) W := by
  have ht := Tryz.underlying30
  have he : Tryz.prog.elem 30 = 69 := by simp [Program.elem, ht]
  rw [run_sliceAt_slice W 30 _ _ _ _ (by rw [he]; exact ht), run_slice_h W 30 ao n cap (by rw [he]; exact ht) .i64 i (by omega) (by omega), he, size6]
  simp only [Result.andThen_ok, sliced, Int.toNat_natCast, Nat.zero_mul, Nat.sub_zero]
  cases ao with
  | none => simp
  | some a => simp [Addr.add_nought]
theorem CL.front {w : World} {ao : Option Addr} {n cap : Nat} {l : List CA} (h : CL w ao n cap l) (i : Nat) (hi : i ≤ n) : CL w ao i cap (l.take i) := by
  have h1 := h.len
  refine ⟨by simp; omega, Nat.le_trans hi h.le, h.mx, fun hn => ?_, fun a ha j hj k v hv => ?_, fun c hc => h.ok c (List.mem_of_mem_take hc)⟩
  · have := h.nil hn
    omega
  · simp only [List.length_take] at hj
    rw [List.getElem_take] at hv
    exact h.cell a ha j (by omega) k v hv

set_option maxHeartbeats 2000000 in
set_option maxRecDepth 100000 in
theorem scan_any (w : World) (p : Nat) (f t : ByteArray) (cs : List CV) (a b : ByteArray) (hT : TB w p f t cs) (hs : CSrt cs) (hg : CGood cs) (hn : cs.length ≤ 1000) (ha : a.size ≤ 32) (hb : b.size ≤ 32) :
    Calls Tryz.prog 80 #[.pointer (some ⟨p, 0, none⟩), .string a, .string b] w fun e w' => ResP (mScan cs a b) e w' ∧ Below w.heap.size w w' := by
  obtain ⟨W2, hW2⟩ : ∃ V, V = w.alloc (.cells #[.int .i64 0, .slice none 0 0, .bool false] 34) := ⟨_, rfl⟩
  have B2 : Below w.heap.size w W2 := by rw [hW2]; exact (Below.refl _ _).alloc (Nat.le_refl _) _
  have R2 : Arr W2 w.heap.size 34 [.int .i64 0, .slice none 0 0, .bool false] := by rw [hW2]; exact heap_alloc_new w _
  have CO := among_any W2 p f t cs a b 123 #[] (fun c => !c.gone) (enters_of Tryz.func123 (by kernel_rfl) rfl) (hT.below B2) hs hg ha hb hn (scan1_tells W2)
  go_enter Tryz.func80, Tryz.ntmps80
  go_wp2_with fail
  rw [← hW2]
  clear hW2
  refine CO.mono ?_
  rintro e w3 ⟨ao, n, cap, l, rfl, h1, -, hl, C3⟩
  have B3 := B2.trans (C3.mono B2.size)
  have R3 := arr_below R2 C3
  have hll := h1.len
  have hn1 : n ≤ 1000 := by
    have h3 := congrArg List.length hl
    rw [List.length_map, hll] at h3
    have h4 := List.length_filter_le (fun c : CV => inRows a b c.row && !c.gone) cs
    omega
  have hni : (n : Int) ≤ 1000 := by omega
  have HLN : Hid ((cs.filter fun c => inRows a b c.row && !c.gone).length = n) := by show _ = _; rw [← hl, List.length_map, hll]
  have HL : Hid (l.map CA.c = cs.filter fun c => inRows a b c.row && !c.gone) := hl
  have hcap := h1.le
  clear CO R2 C3 hl
  have r0 : w3.cell? ⟨w.heap.size, 0, none⟩ = some (.int .i64 0) := R3.cell 0
  have r1 : w3.cell? ⟨w.heap.size, 1, none⟩ = some (.slice none 0 0) := R3.cell 1
  have r2 : w3.cell? ⟨w.heap.size, 2, none⟩ = some (.bool false) := R3.cell 2
  have f0 := R3.free 0
  have f1 := R3.free 1
  have f2 := R3.free 2
  by_cases g : n ≤ 16
  · have g1 : (n : Int) ≤ 16 := by omega
    have HM : Hid (mScan cs a b = ⟨0, l.map CA.c, false⟩) := by
      show _ = _
      unfold mScan
      rw [HLN.out, ← HL.out, List.take_of_length_le (by rw [List.length_map]; omega), decide_eq_false (by omega)]
    have mm : min (n : Int) 16 = (n : Int) := by omega
    have sl := run_uptoC (W := w3) (ao := ao) (n := n) (cap := cap) (i := n) hcap
    have KW : Wr w.heap.size w3 (((w3.setCell ⟨w.heap.size, 0, none⟩ (.int .i64 0)).setCell ⟨w.heap.size, 1, none⟩ (.slice ao n cap)).setCell ⟨w.heap.size, 2, none⟩ (.bool false)) := (((Wr.refl _ _).set 0 _).set 1 _).set 2 _
    go_wp2
    exact bodyPost_ret (v := .agg #[.int .i64 0, .slice ao n cap, .bool false]) (by simp [results, Tryz.results80, go_sem, r0, r1, r2]) rfl ⟨by rw [HM.out]; exact ⟨ao, n, cap, l, rfl, h1.wr R3 (by simp) (by simp) (by simp) (by simp) (by simp) (by simp) KW, rfl⟩, Wr.below B3 KW B3.size (Nat.le_refl _)⟩
  · have g1 : ¬ (n : Int) ≤ 16 := by omega
    have HM : Hid (mScan cs a b = ⟨0, (l.take 16).map CA.c, true⟩) := by
      show _ = _
      unfold mScan
      rw [HLN.out, ← HL.out, List.map_take, decide_eq_true (by omega)]
    have mm : min (n : Int) 16 = 16 := by omega
    have g2 : (16 : Int) < (n : Int) := by omega
    have sl : (Instr.sliceAt 30 (.slice ao n cap) none (some (.int .i64 16)) none).run Tryz.prog w3 = .ok (.slice ao 16 cap) w3 := run_uptoC (W := w3) (ao := ao) (n := n) (cap := cap) (i := 16) (by omega)
    have KW : Wr w.heap.size w3 (((w3.setCell ⟨w.heap.size, 0, none⟩ (.int .i64 0)).setCell ⟨w.heap.size, 1, none⟩ (.slice ao 16 cap)).setCell ⟨w.heap.size, 2, none⟩ (.bool true)) := (((Wr.refl _ _).set 0 _).set 1 _).set 2 _
    go_wp2
    exact bodyPost_ret (v := .agg #[.int .i64 0, .slice ao 16 cap, .bool true]) (by simp [results, Tryz.results80, go_sem, r0, r1, r2]) rfl ⟨by rw [HM.out]; exact ⟨ao, 16, cap, l.take 16, rfl, (h1.front 16 (by omega)).wr R3 (by simp) (by simp) (by simp) (by simp) (by simp) (by simp) KW, rfl⟩, Wr.below B3 KW B3.size (Nat.le_refl _)⟩

set_option maxHeartbeats 1000000 in
set_option maxRecDepth 100000 in
theorem cells_st (w : World) (p : Nat) (f t : ByteArray) (cs : List CV) (hT : TB w p f t cs) (hs : CSrt cs) (hg : CGood cs) (hf : f.size ≤ 32) (ht : t.size ≤ 32) (hr : ∀ c ∈ cs, inRows f t c.row = true) (hn : cs.length ≤ 1000) :
    Calls Tryz.prog 17 #[.pointer (some ⟨p, 0, none⟩)] w (AmPost w cs) := by
  have hcs : (cs.filter fun c => inRows f t c.row && true) = cs := List.filter_eq_self.2 fun c hc => by
    rw [Bool.and_true]
    exact hr c hc
  have HA : Hid (∀ V, Below w.heap.size w V → Calls Tryz.prog 49 #[.pointer (some ⟨p, 0, none⟩), .string f, .string t, .func (.func 50) #[] #[]] V fun e w' => ∃ ao n cap l, e = .returned (.slice ao n cap) ∧ (CL w' ao n cap l ∧ (∀ c ∈ l, SlT w' ⟨c.va.ao, c.va.n, c.va.cap, c.va.xs⟩) ∧ l.map CA.c = cs) ∧ Below V.heap.size V w') := fun V hV => by
    have := among_any V p f t cs f t 50 #[] (fun _ => true) (enters_of Tryz.func50 (by kernel_rfl) rfl) (hT.below hV) hs hg hf ht (by omega) (all_tells V)
    rw [hcs] at this
    refine this.mono ?_
    rintro e w2 ⟨ao, n, cap, l, rfl, h1, h2, h3, C2⟩
    exact ⟨ao, n, cap, l, rfl, ⟨h1, h2, h3⟩, C2⟩
  obtain ⟨u, A0, -⟩ := hT
  have c0 : w.cell? ⟨p, 0, none⟩ = some (.string f) := Arr.cell A0 0
  have c1 : w.cell? ⟨p, 1, none⟩ = some (.string t) := Arr.cell A0 1
  clear hcs A0 hs hg hr
  go_enter Tryz.func17, Tryz.ntmps17
  go_wp2
  have zHS : Hid (∀ V, Below w.heap.size w V → V.cell? ⟨p, 0, none⟩ = some (.string f) ∧ V.cell? ⟨p, 1, none⟩ = some (.string t)) := fun V hV => ⟨(hV.cell (World.block_lt_of_cell? _ _ c0)).trans c0, (hV.cell (World.block_lt_of_cell? _ _ c1)).trans c1⟩
  have zE0 : Below w.heap.size w w.drew := (Below.refl _ _).drew
  refine wp_region_noPanic ?_
  refine wp_region_held_drew (S := fun V => V.cell? ⟨p, 0, none⟩ = some (.string f) ∧ V.cell? ⟨p, 1, none⟩ = some (.string t)) (by kernel_rfl) (zHS.out _ zE0) (fun zH0 => ?_)
  obtain ⟨zv0, hv0⟩ : ∃ v, v = w.drew := ⟨_, rfl⟩
  rw [← hv0] at zH0 zE0 ⊢
  clear hv0
  refine hr_take_w 0 (some 5) (.pointer (some ⟨p, 0, none⟩)) rfl rfl (by kernel_rfl) (by kernel_rfl) (by kernel_rfl) rfl (fun W hW => by obtain ⟨h0, h1⟩ := hW; go_simp) zH0 ?_
  simp only [Act.put, List.setIfInBounds_toArray, List.set_cons_zero, List.set_cons_succ]
  refine hr_take_w 1 (some 6) (.pointer (some ⟨p, 0, none⟩)) rfl rfl (by kernel_rfl) (by kernel_rfl) (by kernel_rfl) rfl (fun W hW => by obtain ⟨h0, h1⟩ := hW; go_simp) zH0 ?_
  simp only [Act.put, List.setIfInBounds_toArray, List.set_cons_zero, List.set_cons_succ]
  refine hr_take_w 2 (some 7) (.pointer (some ⟨p, 0, none⟩)) rfl rfl (by kernel_rfl) (by kernel_rfl) (by kernel_rfl) rfl (fun W hW => by obtain ⟨h0, h1⟩ := hW; go_simp) zH0 ?_
  simp only [Act.put, List.setIfInBounds_toArray, List.set_cons_zero, List.set_cons_succ]
  refine hr_take_w 3 (some 8) (.pointer (some ⟨p, 0, none⟩)) rfl rfl (by kernel_rfl) (by kernel_rfl) (by kernel_rfl) rfl (fun W hW => by obtain ⟨h0, h1⟩ := hW; go_simp) zH0 ?_
  simp only [Act.put, List.setIfInBounds_toArray, List.set_cons_zero, List.set_cons_succ]
  refine hr_take_w 4 (some 9) (.string f) rfl rfl (by kernel_rfl) (by kernel_rfl) (by kernel_rfl) rfl (fun W hW => by obtain ⟨h0, h1⟩ := hW; go_simp) zH0 ?_
  simp only [Act.put, List.setIfInBounds_toArray, List.set_cons_zero, List.set_cons_succ]
  refine hr_take_w 5 (some 10) (.pointer (some ⟨p, 0, none⟩)) rfl rfl (by kernel_rfl) (by kernel_rfl) (by kernel_rfl) rfl (fun W hW => by obtain ⟨h0, h1⟩ := hW; go_simp) zH0 ?_
  simp only [Act.put, List.setIfInBounds_toArray, List.set_cons_zero, List.set_cons_succ]
  refine hr_take_w 6 (some 11) (.pointer (some ⟨p, 0, none⟩)) rfl rfl (by kernel_rfl) (by kernel_rfl) (by kernel_rfl) rfl (fun W hW => by obtain ⟨h0, h1⟩ := hW; go_simp) zH0 ?_
  simp only [Act.put, List.setIfInBounds_toArray, List.set_cons_zero, List.set_cons_succ]
  refine hr_take_w 7 (some 12) (.pointer (some ⟨p, 1, none⟩)) rfl rfl (by kernel_rfl) (by kernel_rfl) (by kernel_rfl) rfl (fun W hW => by obtain ⟨h0, h1⟩ := hW; go_simp) zH0 ?_
  simp only [Act.put, List.setIfInBounds_toArray, List.set_cons_zero, List.set_cons_succ]
  refine hr_take_w 8 (some 13) (.string t) rfl rfl (by kernel_rfl) (by kernel_rfl) (by kernel_rfl) rfl (fun W hW => by obtain ⟨h0, h1⟩ := hW; go_simp) zH0 ?_
  simp only [Act.put, List.setIfInBounds_toArray, List.set_cons_zero, List.set_cons_succ]
  refine hr_call_w 9 (some 14) 49 #[.pointer (some ⟨p, 0, none⟩), .string f, .string t, .func (.func 50) #[] #[]] rfl rfl (by kernel_rfl) rfl (by go_simp) (fun v w' => ∃ ao n cap l, v = .slice ao n cap ∧ (CL w' ao n cap l ∧ (∀ c ∈ l, SlT w' ⟨c.va.ao, c.va.n, c.va.cap, c.va.xs⟩) ∧ l.map CA.c = cs) ∧ Below zv0.heap.size zv0 w') ((HA.out zv0 zE0).mono (by
    rintro e w' ⟨ao, n, cap, l, rfl, F, C⟩
    exact ⟨_, rfl, ao, n, cap, l, rfl, F, C⟩)) ?_
  rintro v zv1 ⟨ao, n, cap, l, rfl, zF0, zC0⟩
  have zE1 := zE0.trans (zC0.mono zE0.size)
  have zH1 := zHS.out zv1 zE1
  refine ⟨zH1, ?_⟩
  simp only [Act.put, List.setIfInBounds_toArray, List.set_cons_zero, List.set_cons_succ]
  refine hr_take_w 10 (some 2) (.slice ao n cap) rfl rfl (by kernel_rfl) (by kernel_rfl) (by kernel_rfl) rfl (fun W hW => by obtain ⟨h0, h1⟩ := hW; go_simp) zH1 ?_
  simp only [Act.put, List.setIfInBounds_toArray, List.set_cons_zero, List.set_cons_succ]
  refine wpAnyH_done (by kernel_rfl) ?_ _
  refine NoPanic.normal ?_
  go_wp2
  go_ret
  exact ⟨ao, n, cap, l, rfl, zF0.1, zF0.2.1, zF0.2.2, zE1⟩
theorem cells_any (w : World) (p : Nat) (f t : ByteArray) (cs : List CV) (hT : TB w p f t cs) (h : TbOk f t cs) :
    Calls Tryz.prog 17 #[.pointer (some ⟨p, 0, none⟩)] w (AmPost w cs) :=
  cells_st w p f t cs hT h.srt h.good h.from_ h.to_ (fun c hc => decide_eq_true (h.rows c hc)) (by have := h.many; omega)
end Go.Proofs.YthlpccajnmkbjaaGreatDoor

namespace Go.Proofs.YthlpccajnmkbjaaGreatDoor
open Go.RowKit

/-- Cells are deleted. -/
def mDelC (cs l : List CV) : List CV × Int := if l = [] then (cs, 7) else (mTake cs l, 0)
theorem mDelC_if (cs l : List CV) (n : Nat) (h : l.length = n) : (if n = 0 then (cs, 7) else (mTake cs l, 0)) = mDelC cs l := by
  unfold mDelC
  cases l with
  | nil => subst h; rfl
  | cons a l => rw [if_neg (by rw [← h]; simp), if_neg (by simp)]

set_option maxHeartbeats 2000000 in
set_option maxRecDepth 100000 in
theorem do_delcol (w : World) (p : Nat) (f t : ByteArray) (cs : List CV) (o : OA) (hk : o.kind = 3) (hT : TB w p f t cs) (hs : CSrt cs) (hg : CGood cs) (hn : cs.length ≤ 1000) (hr : o.row.size ≤ 32) :
    Calls Tryz.prog 48 #[.pointer (some ⟨p, 0, none⟩), o.val] w (DoPost w p f t ((mDelC cs (colC o.key cs)).1, ⟨(mDelC cs (colC o.key cs)).2, [], false⟩)) := by
  obtain ⟨W1, hW1⟩ : ∃ V, V = w.alloc (.cells #[.int .i64 o.kind, .string o.row, .string o.fam, .string o.qual, .int .u64 o.time, .string o.to, .slice o.va.ao o.va.n o.va.cap, .slice o.wa.ao o.wa.n o.wa.cap, .bool o.has, .slice o.so o.sn o.sc] 42) := ⟨_, rfl⟩
  obtain ⟨W2, hW2⟩ : ∃ V, V = W1.alloc (.cells #[.int .i64 0, .slice none 0 0, .bool false] 34) := ⟨_, rfl⟩
  have C1 : Below w.heap.size w W1 := by rw [hW1]; exact (Below.refl _ _).alloc (Nat.le_refl _) _
  have C2 : Below W1.heap.size W1 W2 := by rw [hW2]; exact (Below.refl _ _).alloc (Nat.le_refl _) _
  have B2 := C1.trans (C2.mono C1.size)
  have s1 : W1.heap.size = w.heap.size + 1 := by rw [hW1]; exact Array.size_push ..
  have O1 : OC W1 w.heap.size o := by rw [hW1]; exact OC.new w o
  have O2 := O1.keep C2
  have R2 : Arr W2 (w.heap.size + 1) 34 [.int .i64 0, .slice none 0 0, .bool false] := by rw [hW2, ← s1]; exact heap_alloc_new W1 _
  have hp := hT.lt
  have CP := column_any W2 p f t cs o.key (hT.below B2) hs hg hr hn
  rw [show o.key.val = .agg #[.string o.row, .string o.fam, .string o.qual, .int .u64 o.time] from rfl] at CP
  have k1 : (o.kind == 1) = false := by simp [hk]
  have k2 : (o.kind == 2) = false := by simp [hk]
  have k3 : (o.kind == 3) = true := by simp [hk]
  have k4 : (o.kind == 4) = false := by simp [hk]
  have k5 : (o.kind == 5) = false := by simp [hk]
  have k6 : (o.kind == 6) = false := by simp [hk]
  have k7 : (o.kind == 7) = false := by simp [hk]
  obtain ⟨m, hm⟩ : ∃ m, m = mDelC cs (colC o.key cs) := ⟨_, rfl⟩
  rw [← hm]
  have HM : Hid (m = mDelC cs (colC o.key cs)) := hm
  clear hk hm
  unfold OA.val
  go_enter Tryz.func48, Tryz.ntmps48
  go_wp2_with fail
  rw [← hW1, ← hW2]
  clear hW1 hW2 s1
  refine CP.mono ?_
  rintro e w3 ⟨ao, n, cap, l, rfl, L3, -, hl, C3⟩
  have B3 := B2.trans (C3.mono B2.size)
  have R3 := arr_below R2 C3
  have hgl : ∀ c ∈ l, c.c.good := fun c hc => by
    have : c.c ∈ l.map CA.c := List.mem_map.2 ⟨c, hc, rfl⟩
    rw [hl] at this
    exact hg _ (List.mem_filter.1 this).1
  have hn1 : n ≤ 1000 := by
    have h3 := congrArg List.length hl
    rw [List.length_map, L3.len] at h3
    have h4 : (colC o.key cs).length ≤ cs.length := List.length_filter_le _ cs
    omega
  have CT := takeAll_any w3 p f t cs ao n cap l (hT.below B3) hs hn L3 hgl hn1
  rw [hl, mDelC_if cs (colC o.key cs) n (by rw [← hl, List.length_map, L3.len]), ← HM.out] at CT
  clear CP R2 hgl hl L3 HM C3
  go_wp2_with fail
  refine CT.mono ?_
  rintro e w4 ⟨rfl, X4, K4⟩
  have R4 : Arr w4 (w.heap.size + 1) 34 [.int .i64 0, .slice none 0 0, .bool false] := (K4.block _ R3.lt (by omega)).trans R3
  have K4' := (Wr.of (p := p) B3).trans K4
  clear CT R3
  have CB := only_any w4 m.2
  unfold resV at CB
  go_wp2_with fail
  refine CB.mono ?_
  rintro e w5 ⟨rfl, C5⟩
  have R5 := arr_below R4 C5
  have X5 := X4.below C5
  have K5 := K4'.trans (Wr.of C5)
  have r0 : w5.cell? ⟨w.heap.size + 1, 0, none⟩ = some (.int .i64 0) := R5.cell 0
  have f0 := R5.free 0
  have r1 : w5.cell? ⟨w.heap.size + 1, 1, none⟩ = some (.slice none 0 0) := R5.cell 1
  have f1 := R5.free 1
  have r2 : w5.cell? ⟨w.heap.size + 1, 2, none⟩ = some (.bool false) := R5.cell 2
  have f2 := R5.free 2
  have lt := R5.lt
  clear CB R4 X4
  have KW : Wr (w.heap.size + 1) w5 (((w5.setCell ⟨w.heap.size + 1, 0, none⟩ (.int .i64 m.2)).setCell ⟨w.heap.size + 1, 1, none⟩ (.slice none 0 0)).setCell ⟨w.heap.size + 1, 2, none⟩ (.bool false)) := (((Wr.refl _ _).set 0 _).set 1 _).set 2 _
  go_wp2
  exact bodyPost_ret (v := .agg #[.int .i64 m.2, .slice none 0 0, .bool false]) (by simp [results, Tryz.results48, go_sem, r0, r1, r2]) rfl ⟨ResP.bad m.2 _, TB.dull R5 (Dull.res _ _) KW (by omega) X5, K5.new KW (Nat.le_succ _)⟩

set_option maxHeartbeats 2000000 in
set_option maxRecDepth 100000 in
theorem do_delrow (w : World) (p : Nat) (f t : ByteArray) (cs : List CV) (o : OA) (hk : o.kind = 4) (hT : TB w p f t cs) (hs : CSrt cs) (hg : CGood cs) (hn : cs.length ≤ 1000) (hr : o.row.size ≤ 32) :
    Calls Tryz.prog 48 #[.pointer (some ⟨p, 0, none⟩), o.val] w (DoPost w p f t ((mDelC cs (cs.filter fun c => decide (c.row = o.row))).1, ⟨(mDelC cs (cs.filter fun c => decide (c.row = o.row))).2, [], false⟩)) := by
  obtain ⟨W1, hW1⟩ : ∃ V, V = w.alloc (.cells #[.int .i64 o.kind, .string o.row, .string o.fam, .string o.qual, .int .u64 o.time, .string o.to, .slice o.va.ao o.va.n o.va.cap, .slice o.wa.ao o.wa.n o.wa.cap, .bool o.has, .slice o.so o.sn o.sc] 42) := ⟨_, rfl⟩
  obtain ⟨W2, hW2⟩ : ∃ V, V = W1.alloc (.cells #[.int .i64 0, .slice none 0 0, .bool false] 34) := ⟨_, rfl⟩
  have C1 : Below w.heap.size w W1 := by rw [hW1]; exact (Below.refl _ _).alloc (Nat.le_refl _) _
  have C2 : Below W1.heap.size W1 W2 := by rw [hW2]; exact (Below.refl _ _).alloc (Nat.le_refl _) _
  have B2 := C1.trans (C2.mono C1.size)
  have s1 : W1.heap.size = w.heap.size + 1 := by rw [hW1]; exact Array.size_push ..
  have O1 : OC W1 w.heap.size o := by rw [hW1]; exact OC.new w o
  have O2 := O1.keep C2
  have R2 : Arr W2 (w.heap.size + 1) 34 [.int .i64 0, .slice none 0 0, .bool false] := by rw [hW2, ← s1]; exact heap_alloc_new W1 _
  have hp := hT.lt
  have CP := row_any W2 p f t cs o.row (hT.below B2) hs hg hr hn
  have k1 : (o.kind == 1) = false := by simp [hk]
  have k2 : (o.kind == 2) = false := by simp [hk]
  have k3 : (o.kind == 3) = false := by simp [hk]
  have k4 : (o.kind == 4) = true := by simp [hk]
  have k5 : (o.kind == 5) = false := by simp [hk]
  have k6 : (o.kind == 6) = false := by simp [hk]
  have k7 : (o.kind == 7) = false := by simp [hk]
  obtain ⟨m, hm⟩ : ∃ m, m = mDelC cs (cs.filter fun c => decide (c.row = o.row)) := ⟨_, rfl⟩
  rw [← hm]
  have HM : Hid (m = mDelC cs (cs.filter fun c => decide (c.row = o.row))) := hm
  clear hk hm
  unfold OA.val
  go_enter Tryz.func48, Tryz.ntmps48
  go_wp2_with fail
  rw [← hW1, ← hW2]
  clear hW1 hW2 s1
  refine CP.mono ?_
  rintro e w3 ⟨ao, n, cap, l, rfl, L3, -, hl, C3⟩
  have B3 := B2.trans (C3.mono B2.size)
  have R3 := arr_below R2 C3
  have hgl : ∀ c ∈ l, c.c.good := fun c hc => by
    have : c.c ∈ l.map CA.c := List.mem_map.2 ⟨c, hc, rfl⟩
    rw [hl] at this
    exact hg _ (List.mem_filter.1 this).1
  have hn1 : n ≤ 1000 := by
    have h3 := congrArg List.length hl
    rw [List.length_map, L3.len] at h3
    have h4 : (cs.filter fun c => decide (c.row = o.row)).length ≤ cs.length := List.length_filter_le _ cs
    omega
  have CT := takeAll_any w3 p f t cs ao n cap l (hT.below B3) hs hn L3 hgl hn1
  rw [hl, mDelC_if cs (cs.filter fun c => decide (c.row = o.row)) n (by rw [← hl, List.length_map, L3.len]), ← HM.out] at CT
  clear CP R2 hgl hl L3 HM C3
  go_wp2_with fail
  refine CT.mono ?_
  rintro e w4 ⟨rfl, X4, K4⟩
  have R4 : Arr w4 (w.heap.size + 1) 34 [.int .i64 0, .slice none 0 0, .bool false] := (K4.block _ R3.lt (by omega)).trans R3
  have K4' := (Wr.of (p := p) B3).trans K4
  clear CT R3
  have CB := only_any w4 m.2
  unfold resV at CB
  go_wp2_with fail
  refine CB.mono ?_
  rintro e w5 ⟨rfl, C5⟩
  have R5 := arr_below R4 C5
  have X5 := X4.below C5
  have K5 := K4'.trans (Wr.of C5)
  have r0 : w5.cell? ⟨w.heap.size + 1, 0, none⟩ = some (.int .i64 0) := R5.cell 0
  have f0 := R5.free 0
  have r1 : w5.cell? ⟨w.heap.size + 1, 1, none⟩ = some (.slice none 0 0) := R5.cell 1
  have f1 := R5.free 1
  have r2 : w5.cell? ⟨w.heap.size + 1, 2, none⟩ = some (.bool false) := R5.cell 2
  have f2 := R5.free 2
  have lt := R5.lt
  clear CB R4 X4
  have KW : Wr (w.heap.size + 1) w5 (((w5.setCell ⟨w.heap.size + 1, 0, none⟩ (.int .i64 m.2)).setCell ⟨w.heap.size + 1, 1, none⟩ (.slice none 0 0)).setCell ⟨w.heap.size + 1, 2, none⟩ (.bool false)) := (((Wr.refl _ _).set 0 _).set 1 _).set 2 _
  go_wp2
  exact bodyPost_ret (v := .agg #[.int .i64 m.2, .slice none 0 0, .bool false]) (by simp [results, Tryz.results48, go_sem, r0, r1, r2]) rfl ⟨ResP.bad m.2 _, TB.dull R5 (Dull.res _ _) KW (by omega) X5, K5.new KW (Nat.le_succ _)⟩

set_option maxHeartbeats 2000000 in
set_option maxRecDepth 100000 in
theorem do_scan (w : World) (p : Nat) (f t : ByteArray) (cs : List CV) (o : OA) (hk : o.kind = 8) (hT : TB w p f t cs) (hs : CSrt cs) (hg : CGood cs) (hn : cs.length ≤ 1000) (hr : o.row.size ≤ 32) (hto : o.to.size ≤ 32) :
    Calls Tryz.prog 48 #[.pointer (some ⟨p, 0, none⟩), o.val] w (DoPost w p f t (cs, mScan cs o.row o.to)) := by
  obtain ⟨W1, hW1⟩ : ∃ V, V = w.alloc (.cells #[.int .i64 o.kind, .string o.row, .string o.fam, .string o.qual, .int .u64 o.time, .string o.to, .slice o.va.ao o.va.n o.va.cap, .slice o.wa.ao o.wa.n o.wa.cap, .bool o.has, .slice o.so o.sn o.sc] 42) := ⟨_, rfl⟩
  obtain ⟨W2, hW2⟩ : ∃ V, V = W1.alloc (.cells #[.int .i64 0, .slice none 0 0, .bool false] 34) := ⟨_, rfl⟩
  have C1 : Below w.heap.size w W1 := by rw [hW1]; exact (Below.refl _ _).alloc (Nat.le_refl _) _
  have C2 : Below W1.heap.size W1 W2 := by rw [hW2]; exact (Below.refl _ _).alloc (Nat.le_refl _) _
  have B2 := C1.trans (C2.mono C1.size)
  have s1 : W1.heap.size = w.heap.size + 1 := by rw [hW1]; exact Array.size_push ..
  have O1 : OC W1 w.heap.size o := by rw [hW1]; exact OC.new w o
  have O2 := O1.keep C2
  have R2 : Arr W2 (w.heap.size + 1) 34 [.int .i64 0, .slice none 0 0, .bool false] := by rw [hW2, ← s1]; exact heap_alloc_new W1 _
  have hp := hT.lt
  have CP := scan_any W2 p f t cs o.row o.to (hT.below B2) hs hg hn hr hto
  have k1 : (o.kind == 1) = false := by simp [hk]
  have k2 : (o.kind == 2) = false := by simp [hk]
  have k3 : (o.kind == 3) = false := by simp [hk]
  have k4 : (o.kind == 4) = false := by simp [hk]
  have k5 : (o.kind == 5) = false := by simp [hk]
  have k6 : (o.kind == 6) = false := by simp [hk]
  have k7 : (o.kind == 7) = false := by simp [hk]
  clear hk
  obtain ⟨m, hm⟩ : ∃ m, m = mScan cs o.row o.to := ⟨_, rfl⟩
  rw [← hm] at CP ⊢
  clear hm
  unfold OA.val
  go_enter Tryz.func48, Tryz.ntmps48
  go_wp2_with fail
  rw [← hW1, ← hW2]
  clear hW1 hW2 s1
  refine CP.mono ?_
  rintro e w3 ⟨⟨ao, n, cap, l, rfl, L3, hl⟩, C3⟩
  have R3 := arr_below R2 C3
  have B3 := B2.trans (C3.mono B2.size)
  unfold resV
  have r0 : w3.cell? ⟨w.heap.size + 1, 0, none⟩ = some (.int .i64 0) := R3.cell 0
  have f0 := R3.free 0
  have r1 : w3.cell? ⟨w.heap.size + 1, 1, none⟩ = some (.slice none 0 0) := R3.cell 1
  have f1 := R3.free 1
  have r2 : w3.cell? ⟨w.heap.size + 1, 2, none⟩ = some (.bool false) := R3.cell 2
  have f2 := R3.free 2
  have lt := R3.lt
  have KW : Wr (w.heap.size + 1) w3 (((w3.setCell ⟨w.heap.size + 1, 0, none⟩ (.int .i64 m.e)).setCell ⟨w.heap.size + 1, 1, none⟩ (.slice ao n cap)).setCell ⟨w.heap.size + 1, 2, none⟩ (.bool m.more)) := (((Wr.refl _ _).set 0 _).set 1 _).set 2 _
  clear CP R2
  go_wp2
  exact bodyPost_ret (v := .agg #[.int .i64 m.e, .slice ao n cap, .bool m.more]) (by simp [results, Tryz.results48, go_sem, r0, r1, r2]) rfl ⟨⟨ao, n, cap, l, rfl, L3.wr R3 (by simp) (by simp) (by simp) (by simp) (by simp) (by simp) KW, hl⟩, TB.dull R3 (Dull.res _ _) KW (by omega) (hT.below B3), (Wr.of B3).new KW (Nat.le_succ _)⟩
end Go.Proofs.YthlpccajnmkbjaaGreatDoor

namespace Go.Proofs.YthlpccajnmkbjaaGreatDoor
open Go.RowKit

/-- Is what Get told what a CheckPut asks for. -/
def meetsR (r : RV) (has : Bool) (want : List Int) : Bool := if has then decide (r.e = 0 ∧ r.cells.map CV.value = [want]) else decide (r.e ≠ 0)
theorem mGet_cases (cs : List CV) (k : KA) : mGet cs k = ⟨7, [], false⟩ ∨ ∃ c, mGet cs k = ⟨0, [c], false⟩ := by
  unfold mGet
  split
  · exact .inl rfl
  · split
    · exact .inl rfl
    · exact .inr ⟨_, rfl⟩

set_option maxHeartbeats 2000000 in
set_option maxRecDepth 100000 in
theorem meets_any (w : World) (p : Nat) (f t : ByteArray) (cs : List CV) (o : OA) (hT : TB w p f t cs) (hs : CSrt cs) (hg : CGood cs) (hn : cs.length ≤ 1000) (hr : o.row.size ≤ 32) (hw : Sl w o.wa.ao o.wa.n o.wa.cap o.wa.xs) :
    Calls Tryz.prog 72 #[.pointer (some ⟨p, 0, none⟩), o.val] w fun e w' => e = .returned (.bool (meetsR (mGet cs o.key) o.has o.wa.xs)) ∧ Below w.heap.size w w' := by
  obtain ⟨W1, hW1⟩ : ∃ V, V = w.alloc (.cells #[.int .i64 o.kind, .string o.row, .string o.fam, .string o.qual, .int .u64 o.time, .string o.to, .slice o.va.ao o.va.n o.va.cap, .slice o.wa.ao o.wa.n o.wa.cap, .bool o.has, .slice o.so o.sn o.sc] 42) := ⟨_, rfl⟩
  have C1 : Below w.heap.size w W1 := by rw [hW1]; exact (Below.refl _ _).alloc (Nat.le_refl _) _
  have O1 : OC W1 w.heap.size o := by rw [hW1]; exact OC.new w o
  have CG := get_any W1 p f t cs o.key (hT.below C1) hs hg hn hr
  rw [show o.key.val = .agg #[.string o.row, .string o.fam, .string o.qual, .int .u64 o.time] from rfl] at CG
  unfold OA.val
  go_enter Tryz.func72, Tryz.ntmps72
  go_wp2_with fail
  rw [← hW1]
  clear hW1
  refine CG.mono ?_
  rintro e w3 ⟨⟨ao, n, cap, l, rfl, L3, hl⟩, C3⟩
  have B3 := C1.trans (C3.mono C1.size)
  have O3 := O1.keep C3
  have lt3 := O3.lt
  clear CG O1
  unfold resV
  rcases mGet_cases cs o.key with hm | ⟨c, hm⟩
  · rw [hm] at hl ⊢
    dsimp only at hl ⊢
    obtain ⟨W4, hW4⟩ : ∃ V, V = w3.alloc (.cells #[.int .i64 7, .slice ao n cap, .bool false] 34) := ⟨_, rfl⟩
    have C4 : Below w3.heap.size w3 W4 := by rw [hW4]; exact (Below.refl _ _).alloc (Nat.le_refl _) _
    have B4 := B3.trans (C4.mono B3.size)
    have O4 := O3.keep C4
    have A4 : Arr W4 w3.heap.size 34 [.int .i64 7, .slice ao n cap, .bool false] := by rw [hW4]; exact heap_alloc_new w3 _
    have a0 : W4.cell? ⟨w3.heap.size, 0, none⟩ = some (.int .i64 7) := A4.cell 0
    have a1 : W4.cell? ⟨w3.heap.size, 1, none⟩ = some (.slice ao n cap) := A4.cell 1
    have o8 : W4.cell? ⟨w.heap.size, 8, none⟩ = some (.bool o.has) := O4.cs.c8
    have o7 : W4.cell? ⟨w.heap.size, 7, none⟩ = some (.slice o.wa.ao o.wa.n o.wa.cap) := O4.cs.c7
    cases hh : o.has with
    | false =>
      rw [hh] at o8
      have HV : Hid (meetsR (mGet cs o.key) o.has o.wa.xs = true) := by
        show _ = _
        rw [hm, hh]
        rfl
      clear hh hm hl L3
      subst hW4
      go_wp2
      go_ret
      exact ⟨by rw [HV.out]; rfl, B4⟩
    | true =>
      rw [hh] at o8
      have HV : Hid (meetsR (mGet cs o.key) o.has o.wa.xs = false) := by
        show _ = _
        rw [hm, hh]
        unfold meetsR
        simp
      clear hh hm hl L3
      subst hW4
      have d0 : ((7 : Int) == 0) = false := rfl
      go_wp2_with fail
      go_quiet (fail)
      go_wp2
      go_ret
      exact ⟨by rw [HV.out]; rfl, belN B4 _⟩
  · rw [hm] at hl ⊢
    dsimp only at hl ⊢
    obtain ⟨d, rfl⟩ : ∃ d, l = [d] := by
      match l, hl with
      | [d], _ => exact ⟨d, rfl⟩
    obtain rfl : n = 1 := L3.len.symm
    have hdc : d.c = c := by simpa using hl
    obtain ⟨lb, lo, rfl, hc⟩ := L3.at (by omega)
    have X := hc 0 (by simp)
    rw [Nat.zero_mul, Nat.add_zero, List.getElem_singleton] at X
    have hok := (L3.ok d (by simp)).va
    obtain ⟨W4, hW4⟩ : ∃ V, V = w3.alloc (.cells #[.int .i64 0, .slice (some ⟨lb, lo, none⟩) 1 cap, .bool false] 34) := ⟨_, rfl⟩
    have C4 : Below w3.heap.size w3 W4 := by rw [hW4]; exact (Below.refl _ _).alloc (Nat.le_refl _) _
    have B4 := B3.trans (C4.mono B3.size)
    have O4 := O3.keep C4
    have A4 : Arr W4 w3.heap.size 34 [.int .i64 0, .slice (some ⟨lb, lo, none⟩) 1 cap, .bool false] := by rw [hW4]; exact heap_alloc_new w3 _
    have a0 : W4.cell? ⟨w3.heap.size, 0, none⟩ = some (.int .i64 0) := A4.cell 0
    have a1 : W4.cell? ⟨w3.heap.size, 1, none⟩ = some (.slice (some ⟨lb, lo, none⟩) 1 cap) := A4.cell 1
    have o8 : W4.cell? ⟨w.heap.size, 8, none⟩ = some (.bool o.has) := O4.cs.c8
    have o7 : W4.cell? ⟨w.heap.size, 7, none⟩ = some (.slice o.wa.ao o.wa.n o.wa.cap) := O4.cs.c7
    have S4 : Sl W4 d.va.ao d.va.n d.va.cap d.va.xs := hok.below C4
    have q4 : W4.cell? ⟨lb, lo + 4, none⟩ = some (.slice d.va.ao d.va.n d.va.cap) := (X.below C4).c4
    have w4 : Sl W4 o.wa.ao o.wa.n o.wa.cap o.wa.xs := hw.below B4
    cases hh : o.has with
    | false =>
      rw [hh] at o8
      have HV : Hid (meetsR (mGet cs o.key) o.has o.wa.xs = false) := by
        show _ = _
        rw [hm, hh]
        rfl
      clear hh hm hl L3 hc
      subst hW4
      go_wp2
      go_ret
      exact ⟨by rw [HV.out]; rfl, B4⟩
    | true =>
      rw [hh] at o8
      have HV : Hid (meetsR (mGet cs o.key) o.has o.wa.xs = decide (d.va.xs = o.wa.xs)) := by
        show _ = _
        rw [hm, hh, ← hdc]
        unfold meetsR
        simp [CA.c]
      clear hh hm hl L3 hc hdc
      subst hW4
      have d0 : ((0 : Int) == 0) = true := rfl
      have h01 : (0 : Int) < (1 : Nat) := by decide
      go_wp2_with fail
      go_quiet ((go_at_call 115; refine Calls.quiet_of_same (pequal_any _ _ _ _ _ _ _ _ _ (S4.below (below_drewN _ _ _)) (w4.below (below_drewN _ _ _)))))
      go_wp2
      go_ret
      exact ⟨by rw [HV.out]; rfl, belN B4 _⟩
end Go.Proofs.YthlpccajnmkbjaaGreatDoor

namespace Go.Proofs.YthlpccajnmkbjaaGreatDoor
open Go.RowKit

/-- A put under a check. -/
def mChk (cs : List CV) (o : OA) : List CV × Int := if meetsR (mGet cs o.key) o.has o.wa.xs then mPut cs o.cell.c else (cs, 18)

set_option maxHeartbeats 2000000 in
set_option maxRecDepth 100000 in
theorem do_check (w : World) (p : Nat) (f t : ByteArray) (cs : List CV) (o : OA) (hk : o.kind = 5) (hTb : Tabs w) (hT : TB w p f t cs) (hs : CSrt cs) (hg : CGood cs) (hn : cs.length ≤ 900) (hok : o.ok w) (hgd : o.cell.c.good) (hr : o.row.size ≤ 32) :
    Calls Tryz.prog 48 #[.pointer (some ⟨p, 0, none⟩), o.val] w (DoPost w p f t ((mChk cs o).1, ⟨(mChk cs o).2, [], false⟩)) := by
  have t2 := hTb.two
  obtain ⟨W1, hW1⟩ : ∃ V, V = w.alloc (.cells #[.int .i64 o.kind, .string o.row, .string o.fam, .string o.qual, .int .u64 o.time, .string o.to, .slice o.va.ao o.va.n o.va.cap, .slice o.wa.ao o.wa.n o.wa.cap, .bool o.has, .slice o.so o.sn o.sc] 42) := ⟨_, rfl⟩
  obtain ⟨W2, hW2⟩ : ∃ V, V = W1.alloc (.cells #[.int .i64 0, .slice none 0 0, .bool false] 34) := ⟨_, rfl⟩
  have C1 : Below w.heap.size w W1 := by rw [hW1]; exact (Below.refl _ _).alloc (Nat.le_refl _) _
  have C2 : Below W1.heap.size W1 W2 := by rw [hW2]; exact (Below.refl _ _).alloc (Nat.le_refl _) _
  have B2 := C1.trans (C2.mono C1.size)
  have s1 : W1.heap.size = w.heap.size + 1 := by rw [hW1]; exact Array.size_push ..
  have O1 : OC W1 w.heap.size o := by rw [hW1]; exact OC.new w o
  have O2 := O1.keep C2
  have R2 : Arr W2 (w.heap.size + 1) 34 [.int .i64 0, .slice none 0 0, .bool false] := by rw [hW2, ← s1]; exact heap_alloc_new W1 _
  have hp := hT.lt
  have hvn : o.va.n ≤ 100000 := by rw [← hok.va.len]; have := hgd.val; show o.cell.c.value.length ≤ _; omega
  have CM := meets_any W2 p f t cs o (hT.below B2) hs hg (by omega) hr (hok.wa.below B2)
  have k1 : (o.kind == 1) = false := by simp [hk]
  have k2 : (o.kind == 2) = false := by simp [hk]
  have k3 : (o.kind == 3) = false := by simp [hk]
  have k4 : (o.kind == 4) = false := by simp [hk]
  have k5 : (o.kind == 5) = true := by simp [hk]
  have k6 : (o.kind == 6) = false := by simp [hk]
  have k7 : (o.kind == 7) = false := by simp [hk]
  obtain ⟨mc, hmc⟩ : ∃ m, m = mChk cs o := ⟨_, rfl⟩
  rw [← hmc]
  have HMC : Hid (mc = mChk cs o) := hmc
  clear hmc hk
  unfold OA.val at CM ⊢
  go_enter Tryz.func48, Tryz.ntmps48
  go_wp2_with fail
  rw [← hW1, ← hW2]
  clear hW1 hW2 s1
  refine CM.mono ?_
  rintro e w3 ⟨rfl, C3⟩
  have B3 := B2.trans (C3.mono B2.size)
  have R3 := arr_below R2 C3
  have O3 := O2.keep C3
  clear CM R2
  cases hh : meetsR (mGet cs o.key) o.has o.wa.xs with
  | false =>
    have H2 : Hid (mc = (cs, 18)) := by
      show _ = _
      rw [HMC.out]
      unfold mChk
      rw [hh]
      rfl
    have CB := only_any w3 18
    unfold resV at CB
    clear HMC hh
    go_wp2_with fail
    refine CB.mono ?_
    rintro e w4 ⟨rfl, C4⟩
    have B4 := B3.trans (C4.mono B3.size)
    have R4 := arr_below R3 C4
    have r0 : w4.cell? ⟨w.heap.size + 1, 0, none⟩ = some (.int .i64 0) := R4.cell 0
    have f0 := R4.free 0
    have r1 : w4.cell? ⟨w.heap.size + 1, 1, none⟩ = some (.slice none 0 0) := R4.cell 1
    have f1 := R4.free 1
    have r2 : w4.cell? ⟨w.heap.size + 1, 2, none⟩ = some (.bool false) := R4.cell 2
    have f2 := R4.free 2
    have lt := R4.lt
    clear CB R3
    have KW : Wr (w.heap.size + 1) w4 (((w4.setCell ⟨w.heap.size + 1, 0, none⟩ (.int .i64 18)).setCell ⟨w.heap.size + 1, 1, none⟩ (.slice none 0 0)).setCell ⟨w.heap.size + 1, 2, none⟩ (.bool false)) := (((Wr.refl _ _).set 0 _).set 1 _).set 2 _
    go_wp2
    exact bodyPost_ret (v := .agg #[.int .i64 18, .slice none 0 0, .bool false]) (by simp [results, Tryz.results48, go_sem, r0, r1, r2]) rfl (by rw [H2.out]; exact ⟨ResP.bad 18 _, TB.dull R4 (Dull.res _ _) KW (by omega) (hT.below B4), (Wr.of B4).new KW (Nat.le_succ _)⟩)
  | true =>
    have H2 : Hid (mc = mPut cs o.cell.c) := by
      show _ = _
      rw [HMC.out]
      unfold mChk
      rw [hh]
      rfl
    have CP := put_any w3 p f t cs o.cell (hTb.below B3 t2) (hT.below B3) hs hg hn ⟨hok.row, hok.fam, hok.qual, hok.time, hok.va.below B3⟩ hgd hvn
    rw [show o.cell.val = .agg #[.string o.row, .string o.fam, .string o.qual, .int .u64 o.time, .slice o.va.ao o.va.n o.va.cap, .bool false] from rfl, ← H2.out] at CP
    have o0 : w3.cell? ⟨w.heap.size, 0, none⟩ = some (.int .i64 o.kind) := O3.cs.c0
    have o1 : w3.cell? ⟨w.heap.size, 1, none⟩ = some (.string o.row) := O3.cs.c1
    have o2 : w3.cell? ⟨w.heap.size, 2, none⟩ = some (.string o.fam) := O3.cs.c2
    have o3 : w3.cell? ⟨w.heap.size, 3, none⟩ = some (.string o.qual) := O3.cs.c3
    have o4 : w3.cell? ⟨w.heap.size, 4, none⟩ = some (.int .u64 o.time) := O3.cs.c4
    have o5 : w3.cell? ⟨w.heap.size, 5, none⟩ = some (.string o.to) := O3.cs.c5
    have o6 : w3.cell? ⟨w.heap.size, 6, none⟩ = some (.slice o.va.ao o.va.n o.va.cap) := O3.cs.c6
    have o7 : w3.cell? ⟨w.heap.size, 7, none⟩ = some (.slice o.wa.ao o.wa.n o.wa.cap) := O3.cs.c7
    have o8 : w3.cell? ⟨w.heap.size, 8, none⟩ = some (.bool o.has) := O3.cs.c8
    have o9 : w3.cell? ⟨w.heap.size, 9, none⟩ = some (.slice o.so o.sn o.sc) := O3.cs.c9
    clear HMC hh H2
    go_wp2_with fail
    clear o0 o1 o2 o3 o4 o5 o6 o7 o8 o9
    refine CP.mono ?_
    rintro e w4 ⟨rfl, X4, K4⟩
    have R4 : Arr w4 (w.heap.size + 1) 34 [.int .i64 0, .slice none 0 0, .bool false] := (K4.block _ R3.lt (by omega)).trans R3
    have K4' := (Wr.of (p := p) B3).trans K4
    clear CP R3
    have CB := only_any w4 mc.2
    unfold resV at CB
    go_wp2_with fail
    refine CB.mono ?_
    rintro e w5 ⟨rfl, C5⟩
    have R5 := arr_below R4 C5
    have X5 := X4.below C5
    have K5 := K4'.trans (Wr.of C5)
    have r0 : w5.cell? ⟨w.heap.size + 1, 0, none⟩ = some (.int .i64 0) := R5.cell 0
    have f0 := R5.free 0
    have r1 : w5.cell? ⟨w.heap.size + 1, 1, none⟩ = some (.slice none 0 0) := R5.cell 1
    have f1 := R5.free 1
    have r2 : w5.cell? ⟨w.heap.size + 1, 2, none⟩ = some (.bool false) := R5.cell 2
    have f2 := R5.free 2
    have lt := R5.lt
    clear CB R4 X4
    have KW : Wr (w.heap.size + 1) w5 (((w5.setCell ⟨w.heap.size + 1, 0, none⟩ (.int .i64 mc.2)).setCell ⟨w.heap.size + 1, 1, none⟩ (.slice none 0 0)).setCell ⟨w.heap.size + 1, 2, none⟩ (.bool false)) := (((Wr.refl _ _).set 0 _).set 1 _).set 2 _
    go_wp2
    exact bodyPost_ret (v := .agg #[.int .i64 mc.2, .slice none 0 0, .bool false]) (by simp [results, Tryz.results48, go_sem, r0, r1, r2]) rfl ⟨ResP.bad mc.2 _, TB.dull R5 (Dull.res _ _) KW (by omega) X5, K5.new KW (Nat.le_succ _)⟩

end Go.Proofs.YthlpccajnmkbjaaGreatDoor

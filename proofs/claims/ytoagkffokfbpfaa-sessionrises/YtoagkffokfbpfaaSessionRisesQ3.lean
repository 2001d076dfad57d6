/-
  Texts in one: Own2, CellRow, NumL, SameBut, SeMem, SeFind, HRegC, HRegE, HRegG, SePut, Same.
-/
import Derived.Test.YtoagkffokfbpfaaSessionRisesQFL
import Derived.Test.YtoagkffokfbpfaaSessionRisesQ0
import Derived.Test.YtoagkffokfbpfaaSessionRisesQ1
import Derived.Test.YtoagkffokfbpfaaSessionRisesQ2
import Derived.Deep.Slices
import Derived.ArgAppend
import Derived.Deep.Upon
import Derived.DataElems
import Derived.Deep.QuietTactic
import Derived.BigQuiet
namespace Go.Proofs.Ytoagkffokfbpfaa
open Go.RowKit
theorem run_append_own2 {P : Program} (w : World) (base : Nat) (t ty e : TypeId) (i : TypeInfo) (z : Value) (size bytes : Nat) (ht : P.underlying t = some (.slice e)) (hi : P.info? e = some i) (hz : i.zero = some z)
    (hsize : i.size = size) (hby : i.bytes = bytes) (hzs : z.cells.size = size) (hsz : 0 < size)
    (v : Value) (n : Nat) (xs : List Value) (hown : w.ownsRow base e size v n xs)
    (a : Addr) (m c : Nat) (news : List Value) (hl : news.length = m * size) (hnews : ∀ j u, news[j]? = some u → w.cell? (a.add j) = some u) (h1 : ∀ u ∈ news, u.oneCell' = true)
    (h63 : n + m ≤ maxLen) (hbytes : (n + m) * bytes ≤ 140737488355328) (hbase : base ≤ w.heap.size) :
    ∃ v' w', (Builtin.append_ #[t, t] ty #[v, .slice (some a) m c]).run P w = .ok v' w' ∧ w'.ownsRow base e size v' (n + m) (xs ++ news) ∧ w.grownBy w' v.ownBlock ∧
      ∀ g, v'.ownBlock = some g → v.ownBlock = some g ∨ w.heap.size ≤ g := by
  obtain ⟨v', w', hr, ho, hg, _⟩ := run_append_own (P := P) w base t ty e i z size bytes ht hi hz hsize hby hzs hsz v n xs hown a m c news hl hnews h1 h63 hbytes hbase
  refine ⟨v', w', hr, ho, hg, ?_⟩
  have hsmall : n + m ≤ 9223372036854775807 := by simp only [maxLen] at h63; omega
  subst hsize
  subst hby
  rcases hown.2 with ⟨rfl, rfl⟩ | ⟨g, cap, cur, rfl, hbg, hgc, hnc, hcm, hcs, htake⟩
  · have hown2 : w.ownsRow w.heap.size e i.size (.slice none 0 0) 0 xs := ⟨hown.1, .inl ⟨rfl, rfl⟩⟩
    obtain ⟨v2, w2, hr2, ho2, _, _⟩ := run_append_own (P := P) w w.heap.size t ty e i z i.size i.bytes ht hi hz rfl rfl hzs hsz _ 0 xs hown2 a m c news hl hnews h1 h63 hbytes (Nat.le_refl _)
    rw [hr] at hr2
    simp only [Result.ok.injEq] at hr2
    obtain ⟨rfl, rfl⟩ := hr2
    intro g hgv
    exact .inr (ho2.lt g hgv).1
  · by_cases hroom : n + m ≤ cap
    · have hfit : n * i.size + news.length ≤ cur.size := by rw [hl, hcs, ← Nat.add_mul]; exact Nat.mul_le_mul_right _ hroom
      have hr2 := run_append_room (P := P) w t ty e i ht hi g n cap cur hgc a m c news hl hnews h1 hroom hfit
      rw [hr] at hr2
      simp only [Result.ok.injEq] at hr2
      obtain ⟨rfl, rfl⟩ := hr2
      intro g' hg'
      exact .inl hg'
    · have holds : ∀ j u, xs[j]? = some u → w.cell? ((⟨g, 0, none⟩ : Addr).add j) = some u := hown.cells (g := g) rfl
      have hr2 := run_append_grow (P := P) w t ty e i z ht hi hz ⟨g, 0, none⟩ n cap xs hown.1 holds a m c news hl hnews (by omega) (by omega) (growslice_fits (by omega) hbytes)
      rw [hr] at hr2
      simp only [Result.ok.injEq] at hr2
      obtain ⟨rfl, rfl⟩ := hr2
      intro g' hg'
      simp only [Value.ownBlock, Option.some.injEq] at hg'
      exact .inr (by omega)
theorem own_kept {w w' : World} {base : Nat} {e : TypeId} {size : Nat} {v : Value} {n : Nat} {xs : List Value} (h : w.ownsRow base e size v n xs) (hb : ∀ g, v.ownBlock = some g → w'.heap[g]? = w.heap[g]?) : w'.ownsRow base e size v n xs := by
  refine ⟨h.1, ?_⟩
  rcases h.2 with c | ⟨g, cap, cur, rfl, a1, a2, a3, a4, a5, a6⟩
  · exact .inl c
  · exact .inr ⟨g, cap, cur, rfl, a1, (hb g rfl).trans a2, a3, a4, a5, a6⟩
open Go.RowKit
theorem cellInfo : (Try.prog.info? 81).map (fun i => (i.zero, i.size, i.bytes)) = some (some (.agg #[.string ⟨#[]⟩, .string ⟨#[]⟩, .string ⟨#[]⟩, .int .u64 0, .slice none 0 0, .bool false]), 6, 88) := by kernel_rfl
theorem flat_get {α : Type} (f : α → List Value) (s : Nat) (hs : ∀ x, (f x).length = s) : ∀ (l : List α) (i j : Nat) (hi : i < l.length), j < s → (l.map f).flatten[i * s + j]? = (f l[i])[j]?
  | [], i, _, hi, _ => by simp at hi
  | a :: l, 0, j, _, hj => by
    rw [List.map_cons, List.flatten_cons, Nat.zero_mul, Nat.zero_add, List.getElem?_append_left (by rw [hs]; exact hj)]
    rfl
  | a :: l, i + 1, j, hi, hj => by
    have e : (i + 1) * s + j = s + (i * s + j) := by rw [Nat.add_mul]; omega
    rw [List.map_cons, List.flatten_cons, e, List.getElem?_append_right (by rw [hs]; omega), hs, Nat.add_sub_cancel_left]
    exact flat_get f s hs l i j (by simpa using hi) hj
theorem flat_len {α : Type} (f : α → List Value) (s : Nat) (hs : ∀ x, (f x).length = s) : ∀ l : List α, (l.map f).flatten.length = l.length * s
  | [] => by simp
  | a :: l => by
    rw [List.map_cons, List.flatten_cons, List.length_append, hs, flat_len f s hs l, List.length_cons, Nat.add_mul]
    omega
def cellsC (l : List CA) : List Value := (l.map CA.cells).flatten
theorem CL.own {w : World} {base : Nat} {v : Value} {n : Nat} {l : List CA} (h : w.ownsRow base 81 6 v n (cellsC l)) (hok : ∀ o ∈ l, o.ok w) : ∃ ao cap, v = .slice ao n cap ∧ CL w ao n cap l := by
  have hl : l.length = n := by
    have := h.1
    unfold cellsC at this
    rw [flat_len CA.cells 6 (fun _ => rfl)] at this
    omega
  rcases h.2 with ⟨rfl, rfl⟩ | ⟨g, cap, cur, rfl, a1, a2, a3, a4, a5, a6⟩
  · exact ⟨none, 0, rfl, hl, Nat.le_refl _, Nat.zero_le _, fun _ => ⟨rfl, rfl⟩, fun _ h => by simp at h, fun y hy => hok y hy⟩
  · refine ⟨some ⟨g, 0, none⟩, cap, rfl, hl, a3, a4, fun h => by simp at h, fun a ha i hi j u hu => ?_, fun y hy => hok y hy⟩
    obtain rfl := Option.some.inj ha
    have hj : j < 6 := (List.getElem?_eq_some_iff.1 hu).1
    refine h.cells (g := g) rfl (i * 6 + j) u ?_
    unfold cellsC
    rw [flat_get CA.cells 6 (fun _ => rfl) l i j hi hj]
    exact hu
theorem c_one (y : CA) : ∀ u ∈ y.cells, u.oneCell' = true := by
  intro u hu
  unfold CA.cells at hu
  simp only [List.mem_cons, List.not_mem_nil, or_false] at hu
  rcases hu with rfl | rfl | rfl | rfl | rfl | rfl <;> rfl
open Go.RowKit
structure NL (w : World) (ao : Option Addr) (n cap : Nat) (ns : List Nat) : Prop where
  len : ns.length = n
  le : n ≤ cap
  mx : cap ≤ maxLen
  nil : ao = none → n = 0
  cell : ∀ a, ao = some a → ∀ i, i < n → w.cell? (a.add i) = some (.int .u64 (ns.getD i 0))
  rng : ∀ x ∈ ns, x < 18446744073709551616
theorem NL.nothing (w : World) : NL w none 0 0 [] := ⟨rfl, Nat.le_refl _, Nat.zero_le _, fun _ => rfl, fun _ h => by simp at h, fun _ h => by simp at h⟩
theorem NL.row {w : World} {a : Addr} {n cap : Nat} {zs : List Int} (hl : n ≤ cap) (hm : cap ≤ maxLen) (hz : zs.length = cap) (hc : ∀ i, i < zs.length → w.cell? (a.add i) = some (.int .u64 (zs.getD i 0))) (hw : ∀ z ∈ zs, (Lit.int .u64 z).wf = true) :
    NL w (some a) n cap ((zs.take n).map Int.toNat) := by
  have hb : ∀ z ∈ zs, 0 ≤ z ∧ z < 18446744073709551616 := fun z h => by
    have := hw z h
    simp [Lit.wf, IntKind.min, IntKind.max, IntKind.signed, IntKind.bits] at this
    omega
  refine ⟨by simp; omega, hl, hm, fun h => by simp at h, fun b hb' i hi => ?_, fun x hx => ?_⟩
  · obtain rfl := Option.some.inj hb'
    rw [hc i (by omega)]
    have h1 : i < zs.length := by omega
    have := hb zs[i] (List.getElem_mem h1)
    simp [List.getD, hi, h1]
    omega
  · obtain ⟨z, h1, rfl⟩ := List.mem_map.1 hx
    have := hb z (List.mem_of_mem_take h1)
    omega
theorem NL.below {w w' : World} {ao : Option Addr} {n cap : Nat} {ns : List Nat} (h : NL w ao n cap ns) (hb : Below w.heap.size w w') : NL w' ao n cap ns :=
  ⟨h.len, h.le, h.mx, h.nil, fun a ha i hi => by have hc := h.cell a ha i hi; rw [← hc]; exact hb.cell (World.block_lt_of_cell? w _ hc), h.rng⟩
theorem NL.at {w : World} {ao : Option Addr} {n cap : Nat} {ns : List Nat} (h : NL w ao n cap ns) (hn : 0 < n) : ∃ b off, ao = some ⟨b, off, none⟩ ∧ ∀ i, i < n → w.cell? ⟨b, off + i, none⟩ = some (.int .u64 (ns.getD i 0)) := by
  cases ao with
  | none => have := h.nil rfl; omega
  | some a =>
    obtain ⟨b, off, spot⟩ := a
    have hc := h.cell _ rfl 0 hn
    have hs : spot = none := by simpa [Addr.add] using World.cell?_spot hc
    subst hs
    exact ⟨b, off, rfl, fun i hi => by have := h.cell _ rfl i hi; rw [Addr.add_lit] at this; exact this⟩
theorem NL.new (w : World) (ns : List Nat) (t : TypeId) (h : ∀ x ∈ ns, x < 18446744073709551616) (hl : ns.length ≤ maxLen) : NL (w.alloc (.cells (ns.map fun x => Value.int .u64 (x : Nat)).toArray t)) (some ⟨w.heap.size, 0, none⟩) ns.length ns.length ns := by
  refine ⟨rfl, Nat.le_refl _, hl, fun h => by simp at h, fun a ha i hi => ?_, h⟩
  obtain rfl := Option.some.inj ha
  rw [Addr.add_lit, Nat.zero_add, cell_of_row _ _ i _ _ _ (heap_alloc_new w _)]
  simp [List.getD, hi]
def riseF : Nat → List Nat → Bool
  | _, [] => true
  | l, x :: xs => decide (l < x) && riseF x xs
open Go.RowKit
theorem SameBut.trans {N : Nat} {a b c : World} (h : b.heap.size = a.heap.size ∧ ∀ j, j ≠ N → b.heap[j]? = a.heap[j]?) (k : c.heap.size = b.heap.size ∧ ∀ j, j ≠ N → c.heap[j]? = b.heap[j]?) : c.heap.size = a.heap.size ∧ ∀ j, j ≠ N → c.heap[j]? = a.heap[j]? :=
  ⟨k.1.trans h.1, fun j hj => (k.2 j hj).trans (h.2 j hj)⟩
theorem same_set (w : World) (N i : Nat) (v : Value) : (w.setCell ⟨N, i, none⟩ v).heap.size = w.heap.size ∧ ∀ j, j ≠ N → (w.setCell ⟨N, i, none⟩ v).heap[j]? = w.heap[j]? :=
  ⟨World.size_setCell .., fun j hj => Below.heap_setCell w ⟨N, i, none⟩ v j hj⟩
open Go.RowKit
structure EN where
  cl : Nat
  st : Nat
  r : RV
def EN.an (e : EN) : ByteArray := strOfNums (putR e.r)
structure EN.ok (e : EN) : Prop where
  cl : e.cl < 18446744073709551616
  st : e.st < 18446744073709551616
  right : rightR e.r = true
  byt : Byt (putR e.r)
  len : (putR e.r).length ≤ 65536
  rd : rdR (putR e.r) = .inr e.r
  wf : ∀ c ∈ e.r.cells, c.wf
theorem EN.ok.sb {e : EN} (h : e.ok) : sb e.an = putR e.r := sb_str h.byt
def EN.cells (e : EN) : List Value := [.int .u64 e.cl, .int .u64 e.st, .string e.an]
def cellsE (l : List EN) : List Value := (l.map EN.cells).flatten
theorem cellsE_len (l : List EN) : (cellsE l).length = l.length * 3 := flat_len EN.cells 3 (fun _ => rfl) l
theorem cellsE_app (l m : List EN) : cellsE (l ++ m) = cellsE l ++ cellsE m := by simp [cellsE]
theorem cellsE_get (l : List EN) (i j : Nat) (hi : i < l.length) (hj : j < 3) : (cellsE l)[i * 3 + j]? = (l[i].cells)[j]? := flat_get EN.cells 3 (fun _ => rfl) l i j hi hj
theorem e_one (e : EN) : ∀ u ∈ e.cells, u.oneCell' = true := by
  intro u hu
  unfold EN.cells at hu
  simp only [List.mem_cons, List.not_mem_nil, or_false] at hu
  rcases hu with rfl | rfl | rfl <;> rfl
theorem entInfo : (Try.prog.info? 60).map (fun i => (i.zero, i.size, i.bytes)) = some (some (.agg #[.int .u64 0, .int .u64 0, .string ⟨#[]⟩]), 3, 32) := by kernel_rfl
def zRV : RV := ⟨0, [], false⟩
theorem zRV_put : putR zRV = [0, 0, 0] := by decide
theorem zRV_ok (c : Nat) (h : c < 18446744073709551616) : EN.ok ⟨c, 0, zRV⟩ := by
  have hr : rightR zRV = true := by decide
  refine ⟨h, by show 0 < _; decide, hr, ?_, ?_, ?_, fun c hc => by simp [zRV] at hc⟩
  · show Byt (putR zRV)
    rw [zRV_put]
    intro x hx
    simp at hx
    omega
  · show (putR zRV).length ≤ 65536
    rw [zRV_put]
    decide
  · exact rdAll_put good_r kindR _ (rightR_fits hr (fun c hc => by simp [zRV] at hc)) (by unfold kindR; rw [hr]; rfl)
def ER (w : World) (g cap : Nat) (l : List EN) : Prop := ∃ cur, w.heap[g]? = some (.cells cur 60) ∧ l.length ≤ cap ∧ cap ≤ maxLen ∧ cur.size = cap * 3 ∧ ∀ i (hi : i < l.length) j v, (l[i].cells)[j]? = some v → cur.toList[i * 3 + j]? = some v
structure TS (w : World) (p g : Nat) (l : List EN) : Prop where
  mem : ∃ cap, w.heap[p]? = some (.cells #[.slice (some ⟨g, 0, none⟩) l.length cap] 55) ∧ ER w g cap l
  ok : ∀ e ∈ l, e.ok
  n1 : 1 ≤ l.length
  n8 : l.length ≤ 8
  ne : p ≠ g
theorem ER.keep {w w' : World} {g cap : Nat} {l : List EN} (h : ER w g cap l) (hg : w'.heap[g]? = w.heap[g]?) : ER w' g cap l := by
  obtain ⟨cur, h1, h2⟩ := h
  exact ⟨cur, hg.trans h1, h2⟩
theorem ER.lt {w : World} {g cap : Nat} {l : List EN} (h : ER w g cap l) : g < w.heap.size := by
  obtain ⟨cur, h1, _⟩ := h
  exact (Array.getElem?_eq_some_iff.1 h1).1
theorem ER.cell {w : World} {g cap : Nat} {l : List EN} (h : ER w g cap l) (i : Nat) (hi : i < l.length) (j : Nat) (v : Value) (hv : (l[i].cells)[j]? = some v) : w.cell? ⟨g, i * 3 + j, none⟩ = some v := by
  obtain ⟨cur, h1, _, _, _, h5⟩ := h
  rw [cell_of_row w g (i * 3 + j) cur _ _ h1]
  have := h5 i hi j v hv
  simpa using this
theorem ER.fz {w : World} {g cap : Nat} {l : List EN} (h : ER w g cap l) (i : Nat) : w.frozen? ⟨g, i, none⟩ = false := by
  obtain ⟨cur, h1, _⟩ := h
  exact frozen_of_row w g i _ _ h1
theorem TS.plt {w : World} {p g : Nat} {l : List EN} (h : TS w p g l) : p < w.heap.size := by
  obtain ⟨cap, h1, _⟩ := h.mem
  exact (Array.getElem?_eq_some_iff.1 h1).1
theorem TS.glt {w : World} {p g : Nat} {l : List EN} (h : TS w p g l) : g < w.heap.size := by
  obtain ⟨cap, _, h2⟩ := h.mem
  exact h2.lt
theorem TS.keep {w w' : World} {p g : Nat} {l : List EN} (h : TS w p g l) (hp : w'.heap[p]? = w.heap[p]?) (hg : w'.heap[g]? = w.heap[g]?) : TS w' p g l := by
  obtain ⟨cap, h1, h2⟩ := h.mem
  exact ⟨⟨cap, hp.trans h1, h2.keep hg⟩, h.ok, h.n1, h.n8, h.ne⟩
theorem TS.below {w w' : World} {p g : Nat} {l : List EN} (h : TS w p g l) (hb : Below w.heap.size w w') : TS w' p g l := h.keep (hb.block p h.plt) (hb.block g h.glt)
theorem TS.grown {w w' : World} {p g q : Nat} {l : List EN} (h : TS w p g l) (hb : w.grownBy w' (some q)) (hp : p ≠ q) (hg : g ≠ q) : TS w' p g l := h.keep (hb.block p h.plt (by simp; omega)) (hb.block g h.glt (by simp; omega))
theorem TS.tab {w : World} {p g : Nat} {l : List EN} (h : TS w p g l) : ∃ cap, w.cell? ⟨p, 0, none⟩ = some (.slice (some ⟨g, 0, none⟩) l.length cap) ∧ ER w g cap l ∧ l.length ≤ cap := by
  obtain ⟨cap, h1, h2⟩ := h.mem
  have h3 : l.length ≤ cap := by obtain ⟨_, _, h3, _⟩ := h2; exact h3
  exact ⟨cap, cell_of_row w p 0 _ _ _ h1, h2, h3⟩
theorem TS.put {w : World} {p g : Nat} {l : List EN} (h : TS w p g l) (i : Nat) (hi : i < l.length) (e : EN) (he : e.ok) (hc : e.cl = l[i].cl) :
    TS ((w.setCell ⟨g, i * 3 + 1, none⟩ (.int .u64 e.st)).setCell ⟨g, i * 3 + 2, none⟩ (.string e.an)) p g (l.set i e) := by
  obtain ⟨cap, h1, cur, h2, h3, h4, h5, h6⟩ := h.mem
  have hh := heap_setCell_same w g (i * 3 + 1) _ _ (.int .u64 e.st) h2
  have hh2 := heap_setCell_same _ g (i * 3 + 2) _ _ (.string e.an) hh
  have hp : ((w.setCell ⟨g, i * 3 + 1, none⟩ (.int .u64 e.st)).setCell ⟨g, i * 3 + 2, none⟩ (.string e.an)).heap[p]? = w.heap[p]? := ((same_set _ g _ _).2 p h.ne).trans ((same_set w g _ _).2 p h.ne)
  refine ⟨⟨cap, by rw [List.length_set]; exact hp.trans h1, _, hh2, by rw [List.length_set]; exact h3, h4, by simp [h5], fun k hk j v hv => ?_⟩, fun x hx => ?_, by rw [List.length_set]; exact h.n1, by rw [List.length_set]; exact h.n8, h.ne⟩
  · have hj : j < 3 := (List.getElem?_eq_some_iff.1 hv).1
    rw [List.length_set] at hk
    have hlt : i * 3 + 2 < cur.size := by omega
    by_cases c : k = i
    · subst c
      rw [List.getElem_set_self] at hv
      have h0 := h6 k hi 0 _ rfl
      match j, hj with
      | 0, _ =>
        have : v = .int .u64 l[k].cl := by rw [← hc]; simpa [EN.cells] using hv.symm
        subst this
        rw [Array.getElem?_toList] at h0 ⊢
        rw [Array.getElem?_setIfInBounds_ne (by omega), Array.getElem?_setIfInBounds_ne (by omega)]
        exact h0
      | 1, _ =>
        have : v = .int .u64 e.st := by simpa [EN.cells] using hv.symm
        subst this
        rw [Array.getElem?_toList, Array.getElem?_setIfInBounds_ne (by omega), Array.getElem?_setIfInBounds_self_of_lt (by omega)]
      | 2, _ =>
        have : v = .string e.an := by simpa [EN.cells] using hv.symm
        subst this
        rw [Array.getElem?_toList, Array.getElem?_setIfInBounds_self_of_lt (by rw [Array.size_setIfInBounds]; omega)]
    · rw [List.getElem_set_ne (fun e => c e.symm)] at hv
      have h0 := h6 k hk j v hv
      rw [Array.getElem?_toList] at h0 ⊢
      rw [Array.getElem?_setIfInBounds_ne (by omega), Array.getElem?_setIfInBounds_ne (by omega)]
      exact h0
  · rcases List.mem_or_eq_of_mem_set hx with hx | rfl
    · exact h.ok x hx
    · exact he
theorem put_grown (w : World) (g i j : Nat) (u v : Value) : w.grownBy ((w.setCell ⟨g, i, none⟩ u).setCell ⟨g, j, none⟩ v) (some g) :=
  ⟨rfl, rfl, rfl, by simp, fun k hk hn => ((same_set _ g j v).2 k (by simpa using hn)).trans ((same_set w g i u).2 k (by simpa using hn))⟩
structure NewI (W : World) (p : Nat) (v : Value) (l : List EN) : Prop where
  tab : W.heap[p]? = some (.cells #[v] 55)
  own : W.ownsRow (p + 1) 60 3 v l.length (cellsE l)
  ok : ∀ e ∈ l, e.ok
theorem NewI.plt {W : World} {p : Nat} {v : Value} {l : List EN} (h : NewI W p v l) : p < W.heap.size := (Array.getElem?_eq_some_iff.1 h.tab).1
theorem NewI.own_lt {W : World} {p : Nat} {v : Value} {l : List EN} (h : NewI W p v l) {x : Nat} (hx : v.ownBlock = some x) : p < x ∧ x < W.heap.size := by
  have := h.own.lt x hx
  omega
theorem NewI.keep {W W' : World} {p : Nat} {v : Value} {l : List EN} (h : NewI W p v l) (hp : W'.heap[p]? = W.heap[p]?) (hg : ∀ x, v.ownBlock = some x → W'.heap[x]? = W.heap[x]?) : NewI W' p v l := ⟨hp.trans h.tab, own_kept h.own hg, h.ok⟩
theorem NewI.below {W W' : World} {p : Nat} {v : Value} {l : List EN} (h : NewI W p v l) (hb : Below W.heap.size W W') : NewI W' p v l := h.keep (hb.block p h.plt) fun x hx => hb.block x (h.own_lt hx).2
theorem NewI.slice {W : World} {p : Nat} {v : Value} {l : List EN} (h : NewI W p v l) : ∃ ao n cap, v = .slice ao n cap := by
  rcases h.own.2 with ⟨rfl, _⟩ | ⟨g, cap, cur, rfl, _⟩
  · exact ⟨none, 0, 0, rfl⟩
  · exact ⟨_, _, cap, rfl⟩
theorem NewI.app {W : World} {p : Nat} {v : Value} {l : List EN} (h : NewI W p v l) (ty : TypeId) {g cp : Nat} {e : EN} (hG : W.heap[g]? = some (.cells #[.int .u64 e.cl, .int .u64 e.st, .string e.an] 60)) (he : e.ok) (hn : l.length ≤ 1000) :
    ∃ v' W1, (Builtin.append_ #[53, 53] ty #[v, .slice (some ⟨g, 0, none⟩) 1 cp]).run Try.prog W = .ok v' W1 ∧ W1.heap[p]? = some (.cells #[v] 55) ∧ NewI (W1.setCell ⟨p, 0, none⟩ v') p v' (l ++ [e]) ∧ Below p W (W1.setCell ⟨p, 0, none⟩ v') ∧
      (∀ x, x < W.heap.size → x ≠ p → v.ownBlock ≠ some x → (W1.setCell ⟨p, 0, none⟩ v').heap[x]? = W.heap[x]?) ∧ (∀ x, v'.ownBlock = some x → v.ownBlock = some x ∨ W.heap.size ≤ x) ∧ ∃ ao n cap, v' = .slice ao n cap := by
  obtain ⟨i0, hi, hz0, hz1, hz2⟩ := info_parts entInfo
  have hp := h.plt
  obtain ⟨v', W1, hr, ho, hg, ha⟩ := run_append_own2 (P := Try.prog) W (p + 1) 53 ty 60 i0 _ 3 32 Try.underlying53 hi hz0 hz1 hz2 rfl (by decide) v l.length (cellsE l) h.own ⟨g, 0, none⟩ 1 cp e.cells rfl
    (fun j u hu => by
      rw [Addr.add_lit, Nat.zero_add, cell_of_row W g j _ _ _ hG]
      simpa [EN.cells] using hu) (e_one e) (by unfold maxLen; omega) (by omega) (by omega)
  have hb1 : Below (p + 1) W W1 := (Below.refl _ W).grown hg (by omega) (fun k hk => (h.own.lt k hk).1)
  have hpb : W1.heap[p]? = W.heap[p]? := hb1.block p (by omega)
  have hset := (same_set W1 p 0 v').2
  have hown : W1.ownsRow (p + 1) 60 3 v' (l ++ [e]).length (cellsE (l ++ [e])) := by
    rw [cellsE_app, List.length_append]
    have e1 : cellsE [e] = e.cells := by simp [cellsE]
    rw [e1]
    exact ho
  refine ⟨v', W1, hr, hpb.trans h.tab, ⟨heap_setCell_same W1 p 0 _ _ v' (hpb.trans h.tab), own_kept hown fun x hx => hset x ?_, fun y hy => ?_⟩, Below.setCell (hb1.mono (Nat.le_succ p)) (by show p ≤ p; exact Nat.le_refl _) _, fun x hx h1 h2 => (hset x h1).trans (hg.block x hx (fun e => h2 e.symm)), ha, ?_⟩
  · have := (hown.lt x hx).1
    omega
  · rcases List.mem_append.1 hy with hy | hy
    · exact h.ok y hy
    · rw [List.mem_singleton.1 hy]; exact he
  · rcases ho.2 with ⟨rfl, _⟩ | ⟨g, cap, cur, rfl, _⟩
    · exact ⟨none, 0, 0, rfl⟩
    · exact ⟨_, _, cap, rfl⟩
theorem NewI.done {W : World} {p : Nat} {v : Value} {l : List EN} (h : NewI W p v l) (h1 : 1 ≤ l.length) (h8 : l.length ≤ 8) : ∃ g, TS W p g l ∧ p < g := by
  rcases h.own.2 with ⟨_, e⟩ | ⟨g, cap, cur, rfl, a1, a2, a3, a4, a5, a6⟩
  · omega
  · refine ⟨g, ⟨⟨cap, h.tab, cur, a2, a3, a4, a5, fun i hi j v hv => ?_⟩, h.ok, h1, h8, by omega⟩, a1⟩
    have hj : j < 3 := (List.getElem?_eq_some_iff.1 hv).1
    have h2 := cellsE_get l i j hi hj
    rw [hv, ← a6, List.getElem?_take_of_lt (by omega)] at h2
    exact h2
open Go.RowKit
def fnd (l : List EN) (c : Nat) : Option Nat := l.findIdx? fun e => decide (e.cl = c)
theorem fnd_some {l : List EN} {c k : Nat} (h : fnd l c = some k) : ∃ hk : k < l.length, (l[k]).cl = c := by
  unfold fnd at h
  obtain ⟨hk, h1, _⟩ := List.findIdx?_eq_some_iff_getElem.1 h
  exact ⟨hk, by simpa using h1⟩
def FxPost (l : List EN) (c : Nat) (r : Int) : Prop := (r = -1 ∧ fnd l c = none) ∨ ∃ k : Nat, r = k ∧ fnd l c = some k
theorem find1_tells (W : World) (cb : Nat) (c : Nat) (e : EN) (h : W.cell? ⟨cb, 0, none⟩ = some (.int .u64 c)) :
    Calls Try.prog 50 #[.agg #[.int .u64 e.cl, .int .u64 e.st, .string e.an], .pointer (some ⟨cb, 0, none⟩)] W fun x W' => x = .returned (.bool (decide (e.cl = c))) ∧ Below W.heap.size W W' := by
  have hlt : cb < W.heap.size := World.block_lt_of_cell? _ _ h
  have h1 : (W.alloc (.cells #[.int .u64 e.cl, .int .u64 e.st, .string e.an] 60)).cell? ⟨cb, 0, none⟩ = some (.int .u64 c) := (((Below.refl _ W).alloc (Nat.le_refl _) _).cell (p := ⟨cb, 0, none⟩) hlt).trans h
  by_cases q : e.cl = c
  · have i1 : ((e.cl : Int) == (c : Int)) = true := by simp; omega
    have hv : Hid (decide (e.cl = c) = true) := decide_eq_true q
    clear q
    go_enter Try.func50, Try.ntmps50
    go_wp2
    go_ret
    exact ⟨by rw [hv.out] <;> rfl, (Below.refl _ _).alloc (Nat.le_refl _) _⟩
  · have i1 : ((e.cl : Int) == (c : Int)) = false := by simp; omega
    have hv : Hid (decide (e.cl = c) = false) := decide_eq_false q
    clear q
    go_enter Try.func50, Try.ntmps50
    go_wp2
    go_ret
    exact ⟨by rw [hv.out] <;> rfl, (Below.refl _ _).alloc (Nat.le_refl _) _⟩
theorem fnd_take {l : List EN} {c k : Nat} (hk : k < l.length) (h : (l.take k).any (fun e => decide (e.cl = c)) = false) (hc : l[k].cl = c) : fnd l c = some k := by
  unfold fnd
  refine List.findIdx?_eq_some_iff_getElem.2 ⟨hk, by simpa using hc, fun j hj => ?_⟩
  have := List.any_eq_false.1 h l[j] (List.mem_iff_getElem.2 ⟨j, by rw [List.length_take]; omega, by rw [List.getElem_take]⟩)
  simpa using this
theorem fnd_none {l : List EN} {c : Nat} (h : l.any (fun e => decide (e.cl = c)) = false) : fnd l c = none := by
  unfold fnd
  refine List.findIdx?_eq_none_iff.2 fun x hx => ?_
  have := List.any_eq_false.1 h x hx
  simpa using this
set_option maxHeartbeats 2000000 in
set_option maxRecDepth 100000 in
theorem eindex_any (w : World) (g cap cb c : Nat) (l : List EN) (h : ER w g cap l) (hn : l.length ≤ 8) (hcb : w.cell? ⟨cb, 0, none⟩ = some (.int .u64 c)) :
    Calls Try.prog 49 #[.slice (some ⟨g, 0, none⟩) l.length cap, .func (.func 50) #[] #[.pointer (some ⟨cb, 0, none⟩)]] w fun e w' => ∃ r, e = .returned (.int .i64 r) ∧ FxPost l c r ∧ Below w.heap.size w w' := by
  have hni : (l.length : Int) ≤ 8 := by omega
  have hcl : cb < w.heap.size := World.block_lt_of_cell? _ _ hcb
  go_enter Try.func49, Try.ntmps49
  go_wp2
  go_loopw [8] (fun i wr => ∃ k : Nat, k ≤ l.length ∧ i = .int .i64 k ∧ Hid ((l.take k).any (fun e => decide (e.cl = c)) = false) ∧ Below w.heap.size w wr) (fun i _ => l.length - (intOf i).toNat)
  case atStart => exact ⟨0, Nat.zero_le _, rfl, rfl, Below.refl _ _⟩
  case round =>
    obtain ⟨k, hk, rfl, HA, B0⟩ := hrel
    by_cases hlt : k < l.length
    · have hki : (k : Int) < (l.length : Int) := by omega
      have R := h.keep (B0.block g h.lt)
      have q0 := R.cell k hlt 0 _ rfl
      have q1 := R.cell k hlt 1 _ rfl
      have q2 := R.cell k hlt 2 _ rfl
      have CH := find1_tells wr cb c l[k] ((B0.cell (p := ⟨cb, 0, none⟩) hcl).trans hcb)
      have HTK : Hid ((l.take (k + 1)).any (fun e => decide (e.cl = c)) = decide (l[k].cl = c)) := by
        show _ = _
        rw [List.take_succ_eq_append_getElem hlt, List.any_append, HA.out]
        simp
      have HFK : Hid (l[k].cl = c → fnd l c = some k) := fun e => fnd_take hlt HA.out e
      obtain ⟨e, hce⟩ : ∃ e, e = l[k] := ⟨_, rfl⟩
      rw [← hce] at q0 q1 q2 CH HTK HFK
      clear hce R
      simp only [Nat.add_zero] at q0
      go_wp2_with fail
      refine CH.mono ?_
      rintro x w2 ⟨rfl, C2⟩
      have B2 := B0.trans (C2.mono B0.size)
      clear CH q0 q1 q2
      by_cases hp : e.cl = c
      · rw [decide_eq_true hp]
        have HA2 : Hid (fnd l c = some k) := HFK.out hp
        clear hp HFK HTK
        go_wp2
        go_ret
        exact ⟨(k : Int), rfl, .inr ⟨k, rfl, HA2.out⟩, B2⟩
      · rw [decide_eq_false hp]
        have HA2 : Hid ((l.take (k + 1)).any (fun e => decide (e.cl = c)) = false) := by show _ = _; rw [HTK.out, decide_eq_false hp]
        clear hp HFK HTK
        go_wp2
        go_roundw
        case rel => exact ⟨k + 1, by omega, by go_num, HA2, B2⟩
        case measure => simp [intOf]; omega
    · have hge : ¬ (k : Int) < (l.length : Int) := by omega
      have HA2 : Hid (fnd l c = none) := by
        show _ = _
        refine fnd_none ?_
        rw [← HA.out, List.take_of_length_le (by omega)]
      go_wp2
      go_ret
      exact ⟨-1, rfl, .inl ⟨rfl, HA2.out⟩, B0⟩
theorem find_any (w : World) (p g c : Nat) (l : List EN) (h : TS w p g l) :
    Calls Try.prog 36 #[.pointer (some ⟨p, 0, none⟩), .int .u64 c] w fun e w' => ∃ r, e = .returned (.int .i64 r) ∧ FxPost l c r ∧ Below w.heap.size w w' := by
  have B : Below w.heap.size w (w.alloc (.cells #[.int .u64 c] 39)) := (Below.refl _ w).alloc (Nat.le_refl _) _
  have h1 := h.below B
  obtain ⟨cap, t0, R, _⟩ := h1.tab
  have hcb : (w.alloc (.cells #[.int .u64 c] 39)).cell? ⟨w.heap.size, 0, none⟩ = some (.int .u64 c) := cell_one_new _ _ _ 0 _ (by simp)
  have CI := eindex_any _ g cap w.heap.size c l R h.n8 hcb
  clear R h h1
  go_enter Try.func36, Try.ntmps36
  go_wp2_with fail
  refine CI.mono ?_
  rintro e w2 ⟨r, rfl, hr, C2⟩
  have B2 := B.trans (C2.mono B.size)
  clear CI t0 hcb
  go_wp2
  go_ret
  exact ⟨r, rfl, hr, B2⟩
end Go.Proofs.Ytoagkffokfbpfaa
namespace Go
section
variable {P : Program} {ops : Array Oper} {S : World → Prop} {Q : Exit → Act → World → Prop} {fuel : Nat} {listed : Array Bool} {a : Act} {w : World}
theorem hr_ex (i : Nat) (d : Option Tmp) {oi : Oper} {R : Value → World → Prop} (hi : ops[i]? = some oi) (hd : oi.dst = d) (hr : Region.ready .any ops listed = [i]) (hw : Region.wanted oi (yielded ops a.tmps) = true)
    (hrun : ∃ v w', (execOp a.eval oi).run P w = .ok (.value v) w' ∧ R v w')
    (h : ∀ v w', R v w' → S w' ∧ wpAnyH P .any ops (NoPanic Q) S fuel (listed.setIfInBounds i true) (a.put d v) w') : wpAnyH P .any ops (NoPanic Q) S (fuel + 1) listed a w := by
  refine wpAnyH_all hr (by simp) fun j hj => ?_
  obtain rfl := List.mem_singleton.1 hj
  obtain ⟨v, w', hrun, hR⟩ := hrun
  unfold wpOp
  simp only [hi, hw, if_true, Oper.wp, hrun, Oper.upon, hd]
  exact .inl (h v w' hR)
end
end Go
namespace Go.Proofs.Ytoagkffokfbpfaa
open Go.RowKit
end Go.Proofs.Ytoagkffokfbpfaa
namespace Go
open Go.RowKit
def EffRun (P : Program) (o : Oper) (a : Act) (w : World) (R : Value → World → Prop) : Prop :=
  (∃ v w', (execOp a.eval o).run P w = .ok (.value v) w' ∧ R v w') ∨
  (∃ f args, (execOp a.eval o).run P w = .ok (.enter f args) w ∧ Calls P f args w fun e w' => ∃ v, e = .returned v ∧ R v w')
end Go
namespace Go
open Go.RowKit
def setL (L : Array Bool) (is : List Nat) : Array Bool := is.foldl (fun L i => L.setIfInBounds i true) L
theorem setL_size (is : List Nat) : ∀ L : Array Bool, (setL L is).size = L.size := by
  induction is with
  | nil => intro L; rfl
  | cons i is ih => intro L; exact (ih _).trans (by simp)
theorem setL_get (is : List Nat) : ∀ (L : Array Bool) (j : Nat), j < L.size → (setL L is).getD j true = (L.getD j true || is.contains j) := by
  induction is with
  | nil => intro L j _; simp [setL]
  | cons i is ih =>
    intro L j hj
    have h := ih (L.setIfInBounds i true) j (by simpa using hj)
    show (setL (L.setIfInBounds i true) is).getD j true = _
    rw [h]
    by_cases hij : i = j
    · subst hij
      have : (L.setIfInBounds i true).getD i true = true := by simp [hj]
      rw [this]
      simp
    · rw [getD_set_ne true hij]
      have : (i :: is).contains j = is.contains j := by
        rw [List.contains_cons, show (j == i) = false by simpa using fun e => hij e.symm, Bool.false_or]
      rw [this]
theorem arr_ext {A B : Array Bool} (hs : A.size = B.size) (h : ∀ j, j < A.size → A.getD j true = B.getD j true) : A = B := by
  refine Array.ext hs fun j h1 h2 => ?_
  have := h j h1
  simpa [h1, h2] using this
def depOk (ops : Array Oper) (L : Array Bool) (i : Nat) : Bool := ((ops[i]?).map (·.after.all fun e => !Region.binds .any e || L.getD e.on false)).getD false
theorem depOk_of {ops : Array Oper} {L : Array Bool} {i : Nat} {o : Oper} (ho : ops[i]? = some o) (h : ∀ e ∈ o.after, Region.binds .any e = true → L.getD e.on false = true) : depOk ops L i = true := by
  simp only [depOk, ho, Option.map_some, Option.getD_some]
  refine Array.all_eq_true_iff_forall_mem.2 fun e he => ?_
  by_cases hb : Region.binds .any e = true
  · rw [h e he hb, Bool.or_true]
  · simp [hb]
theorem getD_set_on {L : Array Bool} {i j : Nat} (h : L.getD j false = true) : (L.setIfInBounds i true).getD j false = true := by
  by_cases hij : i = j
  · subst hij
    by_cases hlt : i < L.size
    · simp [hlt]
    · simp [hlt] at h
  · simp only [Array.getD_eq_getD_getElem?] at h ⊢
    rw [Array.getElem?_setIfInBounds_ne hij]
    exact h
theorem depOk_set {ops : Array Oper} {L : Array Bool} {i j : Nat} (h : depOk ops L i = true) : depOk ops (L.setIfInBounds j true) i = true := by
  cases ho : ops[i]? with
  | none => simp [depOk, ho] at h
  | some o =>
    refine depOk_of ho fun e he hb => ?_
    simp only [depOk, ho, Option.map_some, Option.getD_some] at h
    have := Array.all_eq_true_iff_forall_mem.1 h e he
    rw [hb, Bool.not_true, Bool.false_or] at this
    exact getD_set_on this
def effChk (ops : Array Oper) (all : List Nat) : List Nat → Array Bool → Bool → Bool
  | [], L, sk => !sk || !(all.all fun i => !L.getD i true || depOk ops L i) || (!(Region.ready .any ops L).isEmpty && (Region.ready .any ops L).all fun j => all.contains j)
  | i :: is, L, sk => effChk ops all is (L.setIfInBounds i true) sk && effChk ops all is L true
theorem effChk_spec {ops : Array Oper} {all : List Nat} (c : Nat → Bool) : ∀ (is : List Nat) (L : Array Bool) (sk : Bool), effChk ops all is L sk = true → (sk = true ∨ ∃ i ∈ is, c i = false) → (∀ i ∈ all, (setL L (is.filter c)).getD i true = true → depOk ops (setL L (is.filter c)) i = true) →
    Region.ready .any ops (setL L (is.filter c)) ≠ [] ∧ ∀ j ∈ Region.ready .any ops (setL L (is.filter c)), j ∈ all
  | [], L, sk, h, hs, hcl => by
    rcases hs with rfl | ⟨i, hi, _⟩
    · have hcl' : (all.all fun i => !L.getD i true || depOk ops L i) = true := List.all_eq_true.2 fun i hi => by
        by_cases hL : L.getD i true = true
        · have := hcl i hi hL
          have h2 : depOk ops L i = true := this
          rw [h2, Bool.or_true]
        · have h2 : L.getD i true = false := by simpa using hL
          rw [h2]
          rfl
      simp only [effChk, hcl', Bool.not_true, Bool.false_or, Bool.and_eq_true] at h
      refine ⟨fun e => ?_, fun j hj => ?_⟩
      · have : Region.ready .any ops L = [] := e
        rw [this] at h
        simp at h
      · have := List.all_eq_true.1 h.2 j hj
        simpa using this
    · simp at hi
  | i :: is, L, sk, h, hs, hcl => by
    simp only [effChk, Bool.and_eq_true] at h
    by_cases hc : c i = true
    · rw [List.filter_cons, if_pos hc] at hcl ⊢
      refine effChk_spec c is (L.setIfInBounds i true) sk h.1 ?_ hcl
      rcases hs with hs | ⟨j, hj, hf⟩
      · exact .inl hs
      · rcases List.mem_cons.1 hj with rfl | hj
        · rw [hc] at hf; simp at hf
        · exact .inr ⟨j, hj, hf⟩
    · rw [List.filter_cons, if_neg hc] at hcl ⊢
      exact effChk_spec c is L true h.2 (.inl rfl) hcl
def unC (c : Nat → Bool) : List Nat → Nat
  | [] => 0
  | i :: is => unC c is + (if c i then 0 else 1)
theorem unC_same {c d : Nat → Bool} : ∀ (is : List Nat), (∀ i ∈ is, c i = d i) → unC c is = unC d is
  | [], _ => rfl
  | i :: is, h => by rw [unC, unC, unC_same is (fun j hj => h j (List.mem_cons_of_mem _ hj)), h i (List.mem_cons_self ..)]
theorem unC_set {c : Nat → Bool} {i : Nat} (hc : c i = false) : ∀ (is : List Nat), is.Nodup → i ∈ is → unC c is = unC (fun j => c j || j == i) is + 1
  | [], _, h => by simp at h
  | j :: is, hn, h => by
    have hn' := List.nodup_cons.1 hn
    rw [unC, unC]
    by_cases hji : j = i
    · subst hji
      have := unC_same (c := c) (d := fun k => c k || k == j) is (fun k hk => by
        have hne : k ≠ j := fun e => hn'.1 (e ▸ hk)
        have : (k == j) = false := by simpa using hne
        simp [this])
      rw [← this, hc]
      simp
    · have hi : i ∈ is := by
        rcases List.mem_cons.1 h with h | h
        · exact absurd h.symm hji
        · exact h
      have ih := unC_set hc is hn'.2 hi
      have : (j == i) = false := by simpa using hji
      rw [ih]
      simp only [this, Bool.or_false]
      omega
theorem unC_zero {c : Nat → Bool} : ∀ (is : List Nat), unC c is = 0 → ∀ i ∈ is, c i = true
  | [], _, i, h => by simp at h
  | j :: is, h0, i, h => by
    rw [unC] at h0
    rcases List.mem_cons.1 h with rfl | h
    · by_cases hc : c i = true
      · exact hc
      · rw [if_neg hc] at h0; omega
    · exact unC_zero is (by omega) i h
theorem unC_none : ∀ (is : List Nat), unC (fun _ => false) is = is.length
  | [] => rfl
  | i :: is => by rw [unC, unC_none is]; simp
def putL (a : Act) (f : Nat → Value) (ids : List (Nat × Nat)) : Act := ids.foldl (fun a p => a.put (some p.2) (f p.1)) a
theorem putL_size (f : Nat → Value) (ids : List (Nat × Nat)) : ∀ a : Act, (putL a f ids).tmps.size = a.tmps.size := by
  induction ids with
  | nil => intro a; rfl
  | cons p ids ih => intro a; exact (ih _).trans (by simp [Act.put])
theorem putL_defers (f : Nat → Value) (ids : List (Nat × Nat)) : ∀ a : Act, (putL a f ids).defers = a.defers := by
  induction ids with
  | nil => intro a; rfl
  | cons p ids ih => intro a; exact (ih _).trans rfl
theorem putL_other (f : Nat → Value) (k : Nat) (ids : List (Nat × Nat)) : ∀ a : Act, (∀ p ∈ ids, p.2 ≠ k) → (putL a f ids).tmps[k]? = a.tmps[k]? := by
  induction ids with
  | nil => intro a _; rfl
  | cons p ids ih =>
    intro a h
    have h1 := ih (a.put (some p.2) (f p.1)) (fun q hq => h q (List.mem_cons_of_mem _ hq))
    refine h1.trans ?_
    have hne := h p (List.mem_cons_self ..)
    simp [Act.put, Array.getElem?_setIfInBounds_ne hne]
theorem putL_at (f : Nat → Value) : ∀ (ids : List (Nat × Nat)) (a : Act), (ids.map (·.2)).Nodup → ∀ p ∈ ids, p.2 < a.tmps.size → (putL a f ids).tmps[p.2]? = some (f p.1)
  | [], a, _, p, h, _ => by simp at h
  | q :: ids, a, hn, p, h, hlt => by
    have hn' := List.nodup_cons.1 hn
    rcases List.mem_cons.1 h with rfl | h
    · have h1 := putL_other f p.2 ids (a.put (some p.2) (f p.1)) (fun q hq e => hn'.1 (List.mem_map.2 ⟨q, hq, e⟩))
      refine h1.trans ?_
      simp [Act.put, hlt]
    · exact putL_at f ids (a.put (some q.2) (f q.1)) hn'.2 p h (by simpa [Act.put] using hlt)
def effTo (ops : Array Oper) (L0 : Array Bool) (ids : List (Nat × Nat)) (n : Nat) : Bool :=
  ids.all (fun p => decide (p.2 < n) && !L0.getD p.1 true && (match ops[p.1]? with | some o => o.dst == some p.2 && o.guard.isNone | none => false)) &&
  effChk ops (ids.map (·.1)) (ids.map (·.1)) L0 false && decide (L0.size = ops.size)
def EffGot (ids : List (Nat × Nat)) (F : Nat → Value → World → Prop) (a : Act) (w : World) (j : Nat) : Prop := ∀ p ∈ ids, p.1 = j → ∃ v, a.tmps[p.2]? = some v ∧ F j v w
structure EffKeep (ids : List (Nat × Nat)) (a0 a : Act) : Prop where
  defers : a.defers = a0.defers
  size : a.tmps.size = a0.tmps.size
  same : ∀ k, (∀ p ∈ ids, p.2 ≠ k) → a.tmps[k]? = a0.tmps[k]?
theorem EffKeep.get {ids : List (Nat × Nat)} {a0 a : Act} (h : EffKeep ids a0 a) (k : Nat) {v : Value} (hk : ids.all (fun p => p.2 != k) = true) (h0 : a0.tmps[k]? = some v) : a.tmps[k]? = some v := by
  rw [h.same k (fun p hp => by simpa using List.all_eq_true.1 hk p hp)]
  exact h0
theorem EffGot.at {ids : List (Nat × Nat)} {F : Nat → Value → World → Prop} {a : Act} {w : World} {j : Nat} (h : EffGot ids F a w j) (d : Nat) (hd : ids.contains (j, d) = true) : ∃ v, a.tmps[d]? = some v ∧ F j v w :=
  h (j, d) (by simpa using hd) rfl
theorem wpAnyH_effto {P : Program} {ops : Array Oper} {S : World → Prop} {Q : Exit → Act → World → Prop} {a0 : Act} {W0 : World} {L0 : Array Bool} (m : Nat) (F : Nat → Value → World → Prop) (ids : List (Nat × Nat)) (n : Nat)
    (hok : effTo ops L0 ids n = true) (hn1 : (ids.map (·.1)).Nodup) (hn2 : (ids.map (·.2)).Nodup) (hn : n = a0.tmps.size)
    (mono : ∀ i v w w', F i v w → Below w.heap.size w w' → F i v w')
    (hS : ∀ w, Below W0.heap.size W0 w → S w)
    (step : ∀ p ∈ ids, ∀ o a w, ops[p.1]? = some o → EffKeep ids a0 a → Below W0.heap.size W0 w → (∀ j, o.after.any (fun e => Region.binds .any e && e.on == j) = true → EffGot ids F a w j) → EffRun P o a w (fun v w' => F p.1 v w' ∧ Below w.heap.size w w'))
    (fin : ∀ (f : Nat → Value) w, Below W0.heap.size W0 w → (∀ p ∈ ids, F p.1 (f p.1) w) → wpAnyH P .any ops (NoPanic Q) S m (setL L0 (ids.map (·.1))) (putL a0 f ids) w) :
    wpAnyH P .any ops (NoPanic Q) S (ids.length + m) L0 a0 W0 := by
  simp only [effTo, Bool.and_eq_true, decide_eq_true_eq] at hok
  obtain ⟨⟨hok1, hok2⟩, hLs⟩ := hok
  have hat : ∀ p ∈ ids, p.2 < a0.tmps.size ∧ L0.getD p.1 true = false ∧ ∃ o, ops[p.1]? = some o ∧ o.dst = some p.2 ∧ o.guard = none := fun p hp => by
    have h := List.all_eq_true.1 hok1 p hp
    simp only [Bool.and_eq_true, decide_eq_true_eq, Bool.not_eq_true'] at h
    obtain ⟨⟨h1, h2⟩, h3⟩ := h
    refine ⟨hn ▸ h1, h2, ?_⟩
    cases ho : ops[p.1]? with
    | none => rw [ho] at h3; simp at h3
    | some o =>
      rw [ho] at h3
      simp only [Bool.and_eq_true, beq_iff_eq] at h3
      exact ⟨o, rfl, h3.1, Option.isNone_iff_eq_none.1 h3.2⟩
  have main : ∀ (k : Nat) (c : Nat → Bool) (a : Act) (w : World), unC c (ids.map (·.1)) = k → EffKeep ids a0 a → Below W0.heap.size W0 w → (∀ p ∈ ids, c p.1 = true → ∃ v, a.tmps[p.2]? = some v ∧ F p.1 v w) →
      (∀ i ∈ ids.map (·.1), (setL L0 ((ids.map (·.1)).filter c)).getD i true = true → depOk ops (setL L0 ((ids.map (·.1)).filter c)) i = true) →
      wpAnyH P .any ops (NoPanic Q) S (k + m) (setL L0 ((ids.map (·.1)).filter c)) a w := by
    intro k
    induction k with
    | zero =>
      intro c a w hu hs hb hh _
      have hz := unC_zero _ hu
      have hall : ∀ p ∈ ids, ∃ v, a.tmps[p.2]? = some v ∧ F p.1 v w := fun p hp => hh p hp (hz p.1 (List.mem_map_of_mem hp))
      have hLeq : setL L0 ((ids.map (·.1)).filter c) = setL L0 (ids.map (·.1)) := by rw [List.filter_eq_self.2 hz]
      obtain ⟨f, hf⟩ : ∃ f : Nat → Value, ∀ p ∈ ids, a.tmps[p.2]? = some (f p.1) ∧ F p.1 (f p.1) w := by
        have hch : ∀ j, ∃ v, ∀ p ∈ ids, p.1 = j → a.tmps[p.2]? = some v ∧ F p.1 v w := fun j => by
          by_cases hj : ∃ p ∈ ids, p.1 = j
          · obtain ⟨p, hp, rfl⟩ := hj
            obtain ⟨v, h1, h2⟩ := hall p hp
            refine ⟨v, fun q hq e => ?_⟩
            obtain ⟨-, -, o, ho, hd, -⟩ := hat p hp
            obtain ⟨-, -, o', ho', hd', -⟩ := hat q hq
            rw [e, ho] at ho'
            obtain rfl := Option.some.inj ho'
            have : p.2 = q.2 := Option.some.inj (hd.symm.trans hd')
            rw [← this, e]
            exact ⟨h1, h2⟩
          · exact ⟨undef, fun q hq e => absurd ⟨q, hq, e⟩ hj⟩
        exact ⟨fun j => Classical.choose (hch j), fun p hp => Classical.choose_spec (hch p.1) p hp rfl⟩
      have ha : a = putL a0 f ids := by
        have ht : a.tmps = (putL a0 f ids).tmps := by
          refine Array.ext (by rw [putL_size]; exact hs.size) fun j h1 h2 => ?_
          have : a.tmps[j]? = (putL a0 f ids).tmps[j]? := by
            by_cases hj : ∃ p ∈ ids, p.2 = j
            · obtain ⟨p, hp, rfl⟩ := hj
              rw [(hf p hp).1, putL_at f ids a0 hn2 p hp (hat p hp).1]
            · have hj' : ∀ p ∈ ids, p.2 ≠ j := fun p hp e => hj ⟨p, hp, e⟩
              rw [hs.same j hj', putL_other f j ids a0 hj']
          simpa [h1, h2] using this
        have hd : a.defers = (putL a0 f ids).defers := by rw [putL_defers]; exact hs.defers
        cases a
        cases hp : putL a0 f ids
        rw [hp] at ht hd
        simp only at ht hd
        rw [ht, hd]
      rw [hLeq, ha, Nat.zero_add]
      exact fin f w hb (fun p hp => (hf p hp).2)
    | succ k ih =>
      intro c a w hu hs hb hh hcl
      have hex : ∃ i ∈ ids.map (·.1), c i = false := by
        by_cases h : ∃ i ∈ ids.map (·.1), c i = false
        · exact h
        · exfalso
          have hz : ∀ i ∈ ids.map (·.1), c i = true := fun i hi => by
            by_cases hc : c i = true
            · exact hc
            · exact absurd ⟨i, hi, by simpa using hc⟩ h
          have : unC c (ids.map (·.1)) = unC (fun _ => true) (ids.map (·.1)) := unC_same _ (fun i hi => hz i hi)
          have h0 : ∀ l : List Nat, unC (fun _ => true) l = 0 := fun l => by
            induction l with
            | nil => rfl
            | cons x l ih => rw [unC, ih]; rfl
          rw [hu, h0] at this
          omega
      obtain ⟨hne, hsub⟩ := effChk_spec (ops := ops) (all := ids.map (·.1)) c (ids.map (·.1)) L0 false hok2 (.inr hex) hcl
      have hsz : (setL L0 ((ids.map (·.1)).filter c)).size = ops.size := by rw [setL_size]; exact hLs
      rw [show k + 1 + m = (k + m) + 1 by omega]
      refine ⟨fun h => absurd h hne, fun i hi => ?_⟩
      obtain ⟨p, hp, rfl⟩ := List.mem_map.1 (hsub i hi)
      obtain ⟨h1, o, ho, hdep⟩ := mem_ready.1 hi
      obtain ⟨hdl, hL0, o', ho', hdo, hg⟩ := hat p hp
      rw [ho] at ho'
      obtain rfl := Option.some.inj ho'
      have hlt := (Array.getElem?_eq_some_iff.1 ho).1
      have hci : c p.1 = false := by
        by_cases hc : c p.1 = true
        · exfalso
          rw [setL_get _ _ _ (by omega)] at h1
          have : ((ids.map (·.1)).filter c).contains p.1 = true := by
            simpa using ⟨⟨p.2, hp⟩, hc⟩
          rw [this] at h1
          simp at h1
        · simpa using hc
      have hw : Region.wanted o (yielded ops a.tmps) = true := by simp [Region.wanted, hg]
      have hrun := step p hp o a w ho hs hb (fun j hj q hq hqj => by
        obtain ⟨e, hem, hbj⟩ := Array.any_eq_true'.1 hj
        simp only [Bool.and_eq_true, beq_iff_eq] at hbj
        obtain ⟨hbi, rfl⟩ := hbj
        have h2 := hdep e hem hbi
        obtain ⟨-, hq0, oq, hoq, -⟩ := hat q hq
        have hqlt := (Array.getElem?_eq_some_iff.1 hoq).1
        have h4 : (setL L0 ((ids.map (·.1)).filter c)).getD q.1 true = true := by
          rw [hqj]
          have : e.on < (setL L0 ((ids.map (·.1)).filter c)).size := by rw [hsz, ← hqj]; exact hqlt
          simpa [this] using h2
        rw [setL_get _ _ _ (by omega), hq0, Bool.false_or] at h4
        have h5 : c q.1 = true := by
          have h6 : q.1 ∈ (ids.map (·.1)).filter c := by simpa using h4
          exact (List.mem_filter.1 h6).2
        have := hh q hq h5
        rw [hqj] at this
        exact this)
      have next : ∀ v w', F p.1 v w' ∧ Below w.heap.size w w' → S w' ∧ wpAnyH P .any ops (NoPanic Q) S (k + m) ((setL L0 ((ids.map (·.1)).filter c)).setIfInBounds p.1 true) (a.put (some p.2) v) w' := by
        rintro v w' ⟨hF, hb'⟩
        have hbw := hb.trans (hb'.mono hb.size)
        have htm : (a.put (some p.2) v).tmps = a.tmps.setIfInBounds p.2 v := rfl
        refine ⟨hS w' hbw, ?_⟩
        have hLq : (setL L0 ((ids.map (·.1)).filter c)).setIfInBounds p.1 true = setL L0 ((ids.map (·.1)).filter fun j => c j || j == p.1) := by
          refine arr_ext (by simp [setL_size]) fun j hj => ?_
          have hj' : j < L0.size := by simpa [setL_size] using hj
          rw [setL_get _ _ _ hj']
          by_cases hji : p.1 = j
          · subst hji
            have h7 : ((setL L0 ((ids.map (·.1)).filter c)).setIfInBounds p.1 true).getD p.1 true = true := by
              have : p.1 < (setL L0 ((ids.map (·.1)).filter c)).size := by rw [setL_size]; exact hj'
              simp [this]
            have h8 : ((ids.map (·.1)).filter fun j => c j || j == p.1).contains p.1 = true := by
              rw [List.contains_iff_mem]
              exact List.mem_filter.2 ⟨List.mem_map_of_mem hp, by simp⟩
            rw [h7, h8]
            simp
          · rw [getD_set_ne true hji, setL_get _ _ _ hj']
            congr 1
            have hbe : (j == p.1) = false := by simpa using fun e => hji e.symm
            rw [Bool.eq_iff_iff, List.contains_iff_mem, List.contains_iff_mem, List.mem_filter, List.mem_filter, hbe, Bool.or_false]
        rw [hLq]
        refine ih _ _ _ ?_ ⟨hs.defers, by rw [htm, Array.size_setIfInBounds]; exact hs.size, fun q hq => ?_⟩ hbw (fun q hq hcq => ?_) ?_
        · have := unC_set hci (ids.map (·.1)) hn1 (List.mem_map_of_mem hp)
          omega
        · rw [htm, Array.getElem?_setIfInBounds_ne (hq p hp)]
          exact hs.same q hq
        · by_cases hqp : q.1 = p.1
          · have h9 : q.2 = p.2 := by
              obtain ⟨-, -, oq, hoq, hdq, -⟩ := hat q hq
              rw [hqp, ho] at hoq
              obtain rfl := Option.some.inj hoq
              exact Option.some.inj (hdq.symm.trans hdo)
            rw [hqp, h9]
            refine ⟨v, ?_, hF⟩
            rw [htm, Array.getElem?_setIfInBounds_self_of_lt (by rw [hs.size]; exact hdl)]
          · have hbe : (q.1 == p.1) = false := by simpa using hqp
            have hcq' : c q.1 = true := by simpa [hbe] using hcq
            obtain ⟨v', h1', h2'⟩ := hh q hq hcq'
            refine ⟨v', ?_, mono _ _ _ _ h2' hb'⟩
            have hne : p.2 ≠ q.2 := fun e => hqp (by
              have hinj : ∀ (l : List (Nat × Nat)), (l.map (·.2)).Nodup → ∀ x ∈ l, ∀ y ∈ l, x.2 = y.2 → x = y := by
                intro l
                induction l with
                | nil => intro _ x hx; simp at hx
                | cons z l ihl =>
                  intro hnd x hx y hy exy
                  have hnd' := List.nodup_cons.1 hnd
                  rcases List.mem_cons.1 hx with rfl | hxl
                  · rcases List.mem_cons.1 hy with rfl | hyl
                    · rfl
                    · exact absurd (List.mem_map.2 ⟨y, hyl, exy.symm⟩) hnd'.1
                  · rcases List.mem_cons.1 hy with rfl | hyl
                    · exact absurd (List.mem_map.2 ⟨x, hxl, exy⟩) hnd'.1
                    · exact ihl hnd'.2 x hxl y hyl exy
              rw [hinj ids hn2 q hq p hp e.symm])
            rw [htm, Array.getElem?_setIfInBounds_ne hne]
            exact h1'
        · rw [← hLq]
          intro i hi hiL
          by_cases hip : p.1 = i
          · subst hip
            exact depOk_set (depOk_of ho hdep)
          · rw [getD_set_ne true hip] at hiL
            exact depOk_set (hcl i hi hiL)
      rcases hrun with ⟨v, w', hr, hR⟩ | ⟨f, args, hr, hc⟩
      · unfold wpOp
        simp only [ho, hw, if_true, Oper.wp, hr, Oper.upon, hdo]
        exact .inl (next v w' hR)
      · unfold wpOp
        simp only [ho, hw, if_true, Oper.wp, hr, Oper.upon, hdo]
        refine .inl (hc.mono ?_)
        rintro e w' ⟨v, rfl, hR⟩
        exact next v w' hR
  have h := main (ids.length) (fun _ => false) a0 W0 (by rw [unC_none]; simp) ⟨rfl, rfl, fun _ _ => rfl⟩ (Below.refl _ _) (fun p hp h => by simp at h) (fun i hi hL => by
    exfalso
    obtain ⟨p, hp, rfl⟩ := List.mem_map.1 hi
    rw [List.filter_eq_nil_iff.2 (by simp)] at hL
    have := (hat p hp).2.1
    have h2 : L0.getD p.1 true = true := hL
    rw [this] at h2
    simp at h2)
  have he : setL L0 ((ids.map (·.1)).filter fun _ => false) = L0 := by
    rw [List.filter_eq_nil_iff.2 (by simp)]
    rfl
  rw [he] at h
  exact h
end Go
namespace Go.Proofs.Ytoagkffokfbpfaa
open Go.RowKit
def putE (l : List EN) (c s : Nat) (r : RV) : List EN × Int :=
  match fnd l c with
  | none => (l, 15)
  | some i => if s ≤ (l[i]?.map EN.st).getD 0 then (l, 16) else if rightR r = true then (l.set i ⟨c, s, r⟩, 0) else (l, 1)
theorem putE_none {l : List EN} {c s : Nat} {r : RV} (h : fnd l c = none) : putE l c s r = (l, 15) := by unfold putE; rw [h]
theorem putE_stale {l : List EN} {c s i : Nat} {r : RV} (h : fnd l c = some i) (hi : i < l.length) (hs : s ≤ l[i].st) : putE l c s r = (l, 16) := by
  unfold putE
  rw [h]
  simp only [List.getElem?_eq_getElem hi, Option.map_some, Option.getD_some]
  rw [if_pos hs]
theorem putE_bad {l : List EN} {c s i : Nat} {r : RV} (h : fnd l c = some i) (hi : i < l.length) (hs : l[i].st < s) (hr : rightR r = false) : putE l c s r = (l, 1) := by
  unfold putE
  rw [h]
  simp only [List.getElem?_eq_getElem hi, Option.map_some, Option.getD_some]
  rw [if_neg (by omega), if_neg (by rw [hr]; simp)]
theorem putE_ok {l : List EN} {c s i : Nat} {r : RV} (h : fnd l c = some i) (hi : i < l.length) (hs : l[i].st < s) (hr : rightR r = true) : putE l c s r = (l.set i ⟨c, s, r⟩, 0) := by
  unfold putE
  rw [h]
  simp only [List.getElem?_eq_getElem hi, Option.map_some, Option.getD_some]
  rw [if_neg (by omega), if_pos hr]
theorem ok_of {w w' : World} {c s : Nat} {e : Int} {cs : List CA} {m : Bool} {bo : Option Addr} {bn bc : Nat} (hc : c < 18446744073709551616) (hs : s < 18446744073709551616) (hr : rightR (resR e cs m) = true) (hl : ∀ c ∈ cs, c.ok w) (S : Sl w' bo bn bc (putR (resR e cs m))) : EN.ok ⟨c, s, resR e cs m⟩ := by
  obtain ⟨h1, h2⟩ := res_back hr hl
  exact ⟨hc, hs, hr, S.byte, by show (putR (resR e cs m)).length ≤ _; omega, h1, fun x hx => by
    obtain ⟨y, hy, rfl⟩ := List.mem_map.1 hx
    exact (hl y hy).wf⟩
theorem grown_of_below {a b c : World} {g : Nat} (h : Below a.heap.size a b) (k : b.grownBy c (some g)) : a.grownBy c (some g) :=
  ⟨k.os.trans h.os, k.tape.trans h.tape, k.output.trans h.output, Nat.le_trans h.size k.size, fun x hx hn => (k.block x (Nat.lt_of_lt_of_le hx h.size) hn).trans (h.block x hx)⟩
set_option maxRecDepth 100000 in
set_option maxHeartbeats 8000000 in
theorem cPut_any (w : World) (p g c s : Nat) (l : List EN) (h : TS w p g l) (hc : c < 18446744073709551616) (hs : s < 18446744073709551616) (e : Int) (ao : Option Addr) (n cap : Nat) (cs : List CA) (m : Bool) (L : CL w ao n cap cs) :
    Calls Try.prog 14 #[.pointer (some ⟨p, 0, none⟩), .int .u64 c, .int .u64 s, resV e ao n cap m] w fun x w' => x = .returned (.int .i64 (putE l c s (resR e cs m)).2) ∧ TS w' p g (putE l c s (resR e cs m)).1 ∧ w.grownBy w' (some g) := by
  have B0 : Below w.heap.size w (w.alloc (.cells #[.int .i64 e, .slice ao n cap, .bool m] 42)) := (Below.refl _ w).alloc (Nat.le_refl _) _
  have K0 : RC (w.alloc (.cells #[.int .i64 e, .slice ao n cap, .bool m] 42)) w.heap.size e ao n cap m := heap_alloc_new w _
  have T1 := h.below B0
  have L1 := L.below B0
  have CF := find_any _ p g c l T1
  unfold resV
  clear L
  go_enter Try.func14, Try.ntmps14
  go_wp2_with fail
  obtain ⟨w1, hw1⟩ : ∃ W, W = w.alloc (.cells #[.int .i64 e, .slice ao n cap, .bool m] 42) := ⟨_, rfl⟩
  obtain ⟨N, hN⟩ : ∃ N, N = w.heap.size := ⟨_, rfl⟩
  rw [← hw1] at B0 K0 T1 L1 CF ⊢
  rw [← hN] at K0 ⊢
  clear hw1 hN
  refine CF.mono ?_
  rintro x w2 ⟨r, rfl, hr, C2⟩
  have T2 := T1.below C2
  have K2 := K0.keep C2
  have L2 := L1.below C2
  have B2 := B0.trans (C2.mono B0.size)
  clear CF T1 L1 K0 C2 B0
  rcases hr with ⟨rfl, hf⟩ | ⟨k, rfl, hf⟩
  · have HV : Hid (putE l c s (resR e cs m) = (l, 15)) := putE_none hf
    clear hf K2 L2
    go_wp2
    go_ret
    rw [HV.out]
    exact ⟨rfl, T2, grown_of_below B2 (World.grownBy.refl _ _)⟩
  obtain ⟨hk, hcl⟩ := fnd_some hf
  have HF : Hid (fnd l c = some k) := hf
  obtain ⟨cp0, t0, R2, hcp0⟩ := T2.tab
  have q1 := R2.cell k hk 1 _ rfl
  have ki : (k : Int) < (l.length : Int) := by omega
  have k0 : decide ((k : Int) < 0) = false := by simp
  have n8 : (l.length : Int) ≤ 8 := by have := h.n8; omega
  have hst : l[k].st < 18446744073709551616 := (h.ok _ (List.getElem_mem hk)).st
  have HC : Hid (l[k].cl = c) := hcl
  clear hf hcl R2
  by_cases hle : s ≤ l[k].st
  · have i1 : (s : Int) ≤ (l[k].st : Int) := by omega
    have HV : Hid (putE l c s (resR e cs m) = (l, 16)) := putE_stale HF.out hk hle
    clear hle K2 L2
    go_wp2
    go_ret
    rw [HV.out]
    exact ⟨rfl, T2, grown_of_below B2 (World.grownBy.refl _ _)⟩
  have i1 : decide ((s : Int) ≤ (l[k].st : Int)) = false := by simp; omega
  have CR := presult_any w2 e ao n cap cs m L2
  have HLK : Hid (∀ z ∈ cs, z.ok w2) := L2.ok
  have r0 := K2.c0
  have r1 := K2.c1
  have r2 := K2.c2
  clear L2
  go_wp2_with fail
  refine CR.mono ?_
  rintro x w4 ⟨⟨bo, bn, bc, rfl, S4⟩, C4⟩
  have T4 := T2.below C4
  have B4 := B2.trans (C4.mono B2.size)
  clear CR T2 B2 C4 r0 r1 r2 q1 t0 hcp0
  cases hr : rightR (resR e cs m) with
  | false =>
    have hkd : kindR (resR e cs m) = 1 := by unfold kindR; rw [hr]; rfl
    have HV : Hid (putE l c s (resR e cs m) = (l, 1)) := putE_bad HF.out hk (by omega) hr
    rw [hkd]
    clear hr S4 hkd
    go_wp2
    go_ret
    rw [HV.out]
    exact ⟨rfl, T4, grown_of_below B4 (World.grownBy.refl _ _)⟩
  | true =>
    have hkd : kindR (resR e cs m) = 0 := by unfold kindR; rw [hr]; rfl
    have HV : Hid (putE l c s (resR e cs m) = (l.set k ⟨c, s, resR e cs m⟩, 0)) := putE_ok HF.out hk (by omega) hr
    rw [if_pos hr] at S4
    have hok : EN.ok ⟨c, s, resR e cs m⟩ := ok_of hc hs hr HLK.out S4
    obtain ⟨cp, t4, _, hcp⟩ := T4.tab
    have HT4 : Hid (∀ V, Below w4.heap.size w4 V → V.cell? ⟨p, 0, none⟩ = some (.slice (some ⟨g, 0, none⟩) l.length cp) ∧ True) := fun V hV => ⟨(hV.cell (World.block_lt_of_cell? _ _ t4)).trans t4, trivial⟩
    clear t4
    have HPT : Hid (∀ V, TS V p g l → TS ((V.setCell ⟨g, k * 3 + 1, none⟩ (.int .u64 (s : Nat))).setCell ⟨g, k * 3 + 2, none⟩ (.string (strOfNums (putR (resR e cs m))))) p g (l.set k ⟨c, s, resR e cs m⟩) ∧ V.grownBy ((V.setCell ⟨g, k * 3 + 1, none⟩ (.int .u64 (s : Nat))).setCell ⟨g, k * 3 + 2, none⟩ (.string (strOfNums (putR (resR e cs m))))) (some g) ∧
        V.cell? ⟨g, k * 3 + 1, none⟩ = some (.int .u64 (l[k].st : Nat)) ∧ V.cell? ⟨g, k * 3 + 2, none⟩ = some (.string l[k].an) ∧ V.frozen? ⟨g, k * 3 + 1, none⟩ = false ∧ V.frozen? ⟨g, k * 3 + 2, none⟩ = false) := by
      intro V hV
      obtain ⟨cp2, _, R4, _⟩ := hV.tab
      refine ⟨hV.put k hk ⟨c, s, resR e cs m⟩ hok HC.out.symm, put_grown _ _ _ _ _ _, R4.cell k hk 1 _ rfl, R4.cell k hk 2 _ rfl, R4.fz _, R4.fz _⟩
    obtain ⟨ys, hys⟩ : ∃ ys, ys = putR (resR e cs m) := ⟨_, rfl⟩
    rw [← hys] at S4 HPT
    rw [hkd]
    clear hkd hr hys hok HLK HC HF
    go_wp2_with fail
    have E0 : Below w4.heap.size w4 w4.drew := (Below.refl _ _).drew
    refine wp_region_noPanic ?_
    refine wp_region_held_drew (S := fun _ => True) (by kernel_rfl) trivial (fun _ => ?_)
    obtain ⟨v0, hv0⟩ : ∃ v, v = w4.drew := ⟨_, rfl⟩
    rw [← hv0] at E0 ⊢
    clear hv0
    refine hr_take_w 0 (some 38) (.pointer (some ⟨p, 0, none⟩)) rfl rfl (by kernel_rfl) (by kernel_rfl) (by kernel_rfl) rfl (fun W hW => by go_simp) trivial ?_
    simp only [FL]
    refine hr_take_w 1 (some 39) (.pointer (some ⟨p, 0, none⟩)) rfl rfl (by kernel_rfl) (by kernel_rfl) (by kernel_rfl) rfl (fun W hW => by go_simp) trivial ?_
    simp only [FL]
    refine hr_take_w 2 (some 40) (.pointer (some ⟨p, 0, none⟩)) rfl rfl (by kernel_rfl) (by kernel_rfl) (by kernel_rfl) rfl (fun W hW => by go_simp) trivial ?_
    simp only [FL]
    refine hr_take_w 4 (some 42) (.int .i64 (k : Nat)) rfl rfl (by kernel_rfl) (by kernel_rfl) (by kernel_rfl) rfl (fun W hW => by go_simp) trivial ?_
    simp only [FL]
    refine hr_take_w 5 (some 43) (.pointer (some ⟨p, 0, none⟩)) rfl rfl (by kernel_rfl) (by kernel_rfl) (by kernel_rfl) rfl (fun W hW => by go_simp) trivial ?_
    simp only [FL]
    refine hr_take_w 6 (some 44) (.pointer (some ⟨p, 0, none⟩)) rfl rfl (by kernel_rfl) (by kernel_rfl) (by kernel_rfl) rfl (fun W hW => by go_simp) trivial ?_
    simp only [FL]
    refine hr_take_w 7 (some 45) (.pointer (some ⟨p, 0, none⟩)) rfl rfl (by kernel_rfl) (by kernel_rfl) (by kernel_rfl) rfl (fun W hW => by go_simp) trivial ?_
    simp only [FL]
    refine hr_take_w 9 (some 47) (.int .i64 (k : Nat)) rfl rfl (by kernel_rfl) (by kernel_rfl) (by kernel_rfl) rfl (fun W hW => by go_simp) trivial ?_
    simp only [FL]
    refine hr_take_w 10 (some 48) (.int .u64 (s : Nat)) rfl rfl (by kernel_rfl) (by kernel_rfl) (by kernel_rfl) rfl (fun W hW => by go_simp) trivial ?_
    simp only [FL]
    refine hr_take_w 11 (some 49) (.slice bo bn bc) rfl rfl (by kernel_rfl) (by kernel_rfl) (by kernel_rfl) rfl (fun W hW => by go_simp) trivial ?_
    simp only [FL]
    refine wpAnyH_effto 6 (fun zi zv zw => (zi = 3 → zv = .slice (some ⟨g, 0, none⟩) l.length cp) ∧ (zi = 8 → zv = .slice (some ⟨g, 0, none⟩) l.length cp) ∧ (zi = 12 → zv = .string (strOfNums ys))) [(3, 41), (8, 46), (12, 50)] 55 (by kernel_rfl) (by decide) (by decide) rfl ?_ (fun _ _ => trivial) ?_ ?_
    · intro zi v w w' h hb
      refine ⟨fun e => ?_, fun e => ?_, fun e => ?_⟩
      · have h := h.1 e
        exact h
      · have h := h.2.1 e
        exact h
      · have h := h.2.2 e
        exact h
    · intro zp zhi o a w ho hs hb hdep
      have EB := E0.trans (hb.mono E0.size)
      simp only [List.mem_cons, List.not_mem_nil, or_false] at zhi
      rcases zhi with rfl | rfl | rfl
      · obtain rfl : _ = o := Option.some.inj (show some _ = some o from ho)
        have t40 : a.tmps[40]? = some (.pointer (some ⟨p, 0, none⟩)) := hs.get 40 (by kernel_rfl) rfl
        have lc := (HT4.out w EB).1
        exact .inl ⟨.slice (some ⟨g, 0, none⟩) l.length cp, w, by go_simp, ⟨fun _ => rfl, fun e => absurd e (by decide), fun e => absurd e (by decide)⟩, Below.refl _ _⟩
      · obtain rfl : _ = o := Option.some.inj (show some _ = some o from ho)
        have t45 : a.tmps[45]? = some (.pointer (some ⟨p, 0, none⟩)) := hs.get 45 (by kernel_rfl) rfl
        have lc := (HT4.out w EB).1
        exact .inl ⟨.slice (some ⟨g, 0, none⟩) l.length cp, w, by go_simp, ⟨fun e => absurd e (by decide), fun _ => rfl, fun e => absurd e (by decide)⟩, Below.refl _ _⟩
      · obtain rfl : _ = o := Option.some.inj (show some _ = some o from ho)
        have t49 : a.tmps[49]? = some (.slice bo bn bc) := hs.get 49 (by kernel_rfl) rfl
        have cv := conv_str (S4.below EB)
        exact .inl ⟨.string (strOfNums ys), w, by simp [execOp, Act.eval, cv, t49], ⟨fun e => absurd e (by decide), fun e => absurd e (by decide), fun _ => rfl⟩, Below.refl _ _⟩
    intro zf v1 hb hh
    have E1 := E0.trans (hb.mono E0.size)
    obtain e3 := (hh (3, 41) (by simp)).1 rfl
    obtain e8 := (hh (8, 46) (by simp)).2.1 rfl
    obtain e12 := (hh (12, 50) (by simp)).2.2 rfl
    clear hh hb
    simp only [putL, List.foldl_cons, List.foldl_nil, e3, e8, e12]
    clear e3 e8 e12
    simp only [FL]
    have T5 := T4.below E1
    obtain ⟨T6, G6, lc1, lc2, lf1, lf2⟩ := HPT.out v1 T5
    refine hr_take_w 13 (some 51) (.pointer (some ⟨g, k * 3, none⟩)) rfl rfl (by kernel_rfl) (by kernel_rfl) (by kernel_rfl) rfl (fun W hW => by go_simp) trivial ?_
    simp only [FL]
    refine hr_take_w 14 (some 52) (.pointer (some ⟨g, k * 3 + 1, none⟩)) rfl rfl (by kernel_rfl) (by kernel_rfl) (by kernel_rfl) rfl (fun W hW => by go_simp) trivial ?_
    simp only [FL]
    refine hr_skip 15 none (w' := v1.setCell ⟨g, k * 3 + 1, none⟩ (.int .u64 (s : Nat))) rfl rfl (by kernel_rfl) rfl (by go_simp) trivial ?_
    simp only [Act.put]
    refine hr_take_w 16 (some 53) (.pointer (some ⟨g, k * 3, none⟩)) rfl rfl (by kernel_rfl) (by kernel_rfl) (by kernel_rfl) rfl (fun W hW => by go_simp) trivial ?_
    simp only [FL]
    refine hr_take_w 17 (some 54) (.pointer (some ⟨g, k * 3 + 2, none⟩)) rfl rfl (by kernel_rfl) (by kernel_rfl) (by kernel_rfl) rfl (fun W hW => by go_simp) trivial ?_
    simp only [FL]
    refine hr_skip 18 none (w' := (v1.setCell ⟨g, k * 3 + 1, none⟩ (.int .u64 (s : Nat))).setCell ⟨g, k * 3 + 2, none⟩ (.string (strOfNums ys))) rfl rfl (by kernel_rfl) rfl (by go_simp) trivial ?_
    simp only [Act.put]
    refine wpAnyH_done (by kernel_rfl) ?_ _
    refine NoPanic.normal ?_
    clear lc1 lf1 lc2 lf2 HPT HT4
    have G7 := grown_of_below (B4.trans (E1.mono B4.size)) G6
    clear G6
    obtain ⟨w7, hw7⟩ : ∃ W, W = (v1.setCell ⟨g, k * 3 + 1, none⟩ (.int .u64 (s : Nat))).setCell ⟨g, k * 3 + 2, none⟩ (.string (strOfNums ys)) := ⟨_, rfl⟩
    rw [← hw7] at T6 G7 ⊢
    clear hw7
    go_wp2
    go_ret
    rw [HV.out]
    exact ⟨rfl, T6, G7⟩
open Go.RowKit
theorem lists_of (n : Nat) (xs ys : List Int) (h1 : xs.length = n) (h2 : ys.length = n) (h : ∀ j, j < n → xs.getD j 0 = ys.getD j 0) : xs = ys := by
  apply List.ext_getElem (by omega)
  intro j hj hj2
  have := h j (by omega)
  simpa [List.getD, hj, hj2] using this
theorem Sl.at {w : World} {ao : Option Addr} {n cap : Nat} {xs : List Int} (h : Sl w ao n cap xs) (hn : 0 < n) :
    ∃ b off, ao = some ⟨b, off, none⟩ ∧ ∀ i, i < n → w.cell? ⟨b, off + i, none⟩ = some (.int .u8 (xs.getD i 0)) := by
  cases ao with
  | none => have := (h.nil rfl).1; omega
  | some a =>
    obtain ⟨b, off, spot⟩ := a
    have hc := h.cell _ rfl 0 hn
    have hs : spot = none := by simpa [Addr.add] using World.cell?_spot hc
    subst hs
    exact ⟨b, off, rfl, fun i hi => by have := h.cell _ rfl i hi; rw [Addr.add_lit] at this; exact this⟩
set_option maxHeartbeats 800000 in
theorem same_any (w : World) (ao bo : Option Addr) (n cap m cap2 : Nat) (xs ys : List Int) (h : Sl w ao n cap xs) (h2 : Sl w bo m cap2 ys) :
    Calls Try.prog 38 #[.slice ao n cap, .slice bo m cap2] w fun e w' =>
      e = .returned (.bool (decide (xs = ys))) ∧ ∃ q, w' = w.drewN q := by
  have hl := h.len
  have hl2 := h2.len
  have hle := h.le
  have hmx := h.mx
  unfold maxLen at hmx
  by_cases hnm : n = m
  · subst hnm
    have hne : ((n : Int) != (n : Int)) = false := by simp
    go_enter Try.func38, Try.ntmps38
    go_wp2
    go_loopw [5] (fun i wr => ∃ k q : Nat, k ≤ n ∧ i = .int .i64 k ∧ wr = w.drewN q ∧ ∀ j, j < k → xs.getD j 0 = ys.getD j 0) (fun i _ => n - (intOf i).toNat)
    case atStart => exact ⟨0, 0, Nat.zero_le _, rfl, rfl, fun j hj => by omega⟩
    case round =>
      obtain ⟨k, q, hk, rfl, rfl, heq⟩ := hrel
      by_cases hlt : k < n
      · obtain ⟨b, off, rfl, hc⟩ := h.at (by omega)
        obtain ⟨b2, off2, rfl, hc2⟩ := h2.at (by omega)
        have c1 := hc k hlt
        have c2 := hc2 k hlt
        have hlt1 : (k : Int) < (n : Int) := by omega
        clear hc hc2
        have k1 : k < xs.length := by omega
        have k2 : k < ys.length := by omega
        by_cases he : xs[k] = ys[k]
        · have hb : (xs[k] != ys[k]) = false := by simp [he]
          have hE : Hid (xs[k] = ys[k]) := he
          clear he
          go_wp2
          go_quiet (fail)
          go_wp2
          go_roundw
          case rel =>
            refine ⟨k + 1, _, by omega, by go_num, rfl, fun j hj => ?_⟩
            by_cases hjk : j < k
            · exact heq j hjk
            · obtain rfl : j = k := by omega
              simpa [List.getD, k1, k2] using hE.out
          case measure => simp [intOf]; omega
        · have hb : (xs[k] != ys[k]) = true := by simp [he]
          have hE : Hid (¬ xs[k] = ys[k]) := he
          clear he
          go_wp2
          go_quiet (fail)
          go_wp2
          go_ret
          have hd : decide (xs = ys) = false := decide_eq_false (fun hx => by subst hx; exact hE.out rfl)
          rw [hd, World.drewN_drewN]
          exact ⟨rfl, _, rfl⟩
      · obtain rfl : k = n := by omega
        go_wp2
        go_ret
        have hd : decide (xs = ys) = true := decide_eq_true (lists_of k xs ys hl hl2 heq)
        rw [hd]
        exact ⟨rfl, _, rfl⟩
  · have hne : ((n : Int) != (m : Int)) = true := by simp; omega
    go_enter Try.func38, Try.ntmps38
    go_wp2
    go_ret
    have hd : decide (xs = ys) = false := decide_eq_false (fun hx => by subst hx; omega)
    rw [hd]
    exact ⟨rfl, 0, rfl⟩
end Go.Proofs.Ytoagkffokfbpfaa

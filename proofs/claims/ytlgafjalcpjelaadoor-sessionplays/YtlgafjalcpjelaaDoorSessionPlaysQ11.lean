/-
  Texts in one: Own2, CellRow, NumL, SameBut, SeMem, Same.
-/
import Derived.Test.YtlgafjalcpjelaaDoorSessionPlaysQ0
import Derived.Test.YtlgafjalcpjelaaDoorSessionPlaysQ3
import Derived.Test.YtlgafjalcpjelaaDoorSessionPlaysQ10
import Derived.Deep.QuietTactic
import Derived.BigQuiet
namespace Go.Proofs.YtlgafjalcpjelaaDoor
open Go.RowKit
theorem run_append_own2 {P : Program} (w : World) (base : Nat) (t ty e : TypeId) (i : TypeInfo) (z : Value) (size bytes : Nat) (ht : P.underlying t = some (.slice e)) (hi : P.info? e = some i) (hz : i.zero = some z)
    (hsize : i.size = size) (hby : i.bytes = bytes) (hzs : z.cells.size = size) (hsz : 0 < size)
    (v : Value) (n : Nat) (xs : List Value) (hown : w.ownsRow base e size v n xs)
    (a : Addr) (m c : Nat) (news : List Value) (hl : news.length = m * size) (hnews : ∀ j u, news[j]? = some u → w.cell? (a.add j) = some u) (h1 : ∀ u ∈ news, u.oneCell' = true)
    (h63 : n + m ≤ maxLen) (hbytes : (n + m) * bytes ≤ 140737488355328) (hbase : base ≤ w.heap.size) :
    ∃ v' w', (Builtin.append_ #[t, t] ty #[v, .slice (some a) m c]).run P w = .ok v' w' ∧ w'.ownsRow base e size v' (n + m) (xs ++ news) ∧ w.grownBy w' v.ownBlock ∧
      ∀ g, v'.ownBlock = some g → v.ownBlock = some g ∨ w.heap.size ≤ g := by
  obtain ⟨v', w', hr, ho, hg, _⟩ := run_append_own (P := P) w base t ty e i z size bytes ht hi hz hsize hby hzs hsz v n xs hown a m c news hl hnews h1 h63 hbytes hbase
  refine ⟨v', w', hr, ho, hg, ?_⟩
  have hsmall : n + m ≤ 9223372036854775807 := by simp only [maxLen] at h63; omega
  subst hsize
  subst hby
  rcases hown.2 with ⟨rfl, rfl⟩ | ⟨g, cap, cur, rfl, hbg, hgc, hnc, hcm, hcs, htake⟩
  · have hown2 : w.ownsRow w.heap.size e i.size (.slice none 0 0) 0 xs := ⟨hown.1, .inl ⟨rfl, rfl⟩⟩
    obtain ⟨v2, w2, hr2, ho2, _, _⟩ := run_append_own (P := P) w w.heap.size t ty e i z i.size i.bytes ht hi hz rfl rfl hzs hsz _ 0 xs hown2 a m c news hl hnews h1 h63 hbytes (Nat.le_refl _)
    rw [hr] at hr2
    simp only [Result.ok.injEq] at hr2
    obtain ⟨rfl, rfl⟩ := hr2
    intro g hgv
    exact .inr (ho2.lt g hgv).1
  · by_cases hroom : n + m ≤ cap
    · have hfit : n * i.size + news.length ≤ cur.size := by rw [hl, hcs, ← Nat.add_mul]; exact Nat.mul_le_mul_right _ hroom
      have hr2 := run_append_room (P := P) w t ty e i ht hi g n cap cur hgc a m c news hl hnews h1 hroom hfit
      rw [hr] at hr2
      simp only [Result.ok.injEq] at hr2
      obtain ⟨rfl, rfl⟩ := hr2
      intro g' hg'
      exact .inl hg'
    · have holds : ∀ j u, xs[j]? = some u → w.cell? ((⟨g, 0, none⟩ : Addr).add j) = some u := hown.cells (g := g) rfl
      have hr2 := run_append_grow (P := P) w t ty e i z ht hi hz ⟨g, 0, none⟩ n cap xs hown.1 holds a m c news hl hnews (by omega) (by omega) (growslice_fits (by omega) hbytes)
      rw [hr] at hr2
      simp only [Result.ok.injEq] at hr2
      obtain ⟨rfl, rfl⟩ := hr2
      intro g' hg'
      simp only [Value.ownBlock, Option.some.injEq] at hg'
      exact .inr (by omega)
theorem own_kept {w w' : World} {base : Nat} {e : TypeId} {size : Nat} {v : Value} {n : Nat} {xs : List Value} (h : w.ownsRow base e size v n xs) (hb : ∀ g, v.ownBlock = some g → w'.heap[g]? = w.heap[g]?) : w'.ownsRow base e size v n xs := by
  refine ⟨h.1, ?_⟩
  rcases h.2 with c | ⟨g, cap, cur, rfl, a1, a2, a3, a4, a5, a6⟩
  · exact .inl c
  · exact .inr ⟨g, cap, cur, rfl, a1, (hb g rfl).trans a2, a3, a4, a5, a6⟩
open Go.RowKit
theorem cellInfo : (Tryd.prog.info? 71).map (fun i => (i.zero, i.size, i.bytes)) = some (some (.agg #[.string ⟨#[]⟩, .string ⟨#[]⟩, .string ⟨#[]⟩, .int .u64 0, .slice none 0 0, .bool false]), 6, 88) := by kernel_rfl
theorem flat_get {α : Type} (f : α → List Value) (s : Nat) (hs : ∀ x, (f x).length = s) : ∀ (l : List α) (i j : Nat) (hi : i < l.length), j < s → (l.map f).flatten[i * s + j]? = (f l[i])[j]?
  | [], i, _, hi, _ => by simp at hi
  | a :: l, 0, j, _, hj => by
    rw [List.map_cons, List.flatten_cons, Nat.zero_mul, Nat.zero_add, List.getElem?_append_left (by rw [hs]; exact hj)]
    rfl
  | a :: l, i + 1, j, hi, hj => by
    have e : (i + 1) * s + j = s + (i * s + j) := by rw [Nat.add_mul]; omega
    rw [List.map_cons, List.flatten_cons, e, List.getElem?_append_right (by rw [hs]; omega), hs, Nat.add_sub_cancel_left]
    exact flat_get f s hs l i j (by simpa using hi) hj
theorem flat_len {α : Type} (f : α → List Value) (s : Nat) (hs : ∀ x, (f x).length = s) : ∀ l : List α, (l.map f).flatten.length = l.length * s
  | [] => by simp
  | a :: l => by
    rw [List.map_cons, List.flatten_cons, List.length_append, hs, flat_len f s hs l, List.length_cons, Nat.add_mul]
    omega
def cellsC (l : List CA) : List Value := (l.map CA.cells).flatten
theorem CL.own {w : World} {base : Nat} {v : Value} {n : Nat} {l : List CA} (h : w.ownsRow base 71 6 v n (cellsC l)) (hok : ∀ o ∈ l, o.ok w) : ∃ ao cap, v = .slice ao n cap ∧ CL w ao n cap l := by
  have hl : l.length = n := by
    have := h.1
    unfold cellsC at this
    rw [flat_len CA.cells 6 (fun _ => rfl)] at this
    omega
  rcases h.2 with ⟨rfl, rfl⟩ | ⟨g, cap, cur, rfl, a1, a2, a3, a4, a5, a6⟩
  · exact ⟨none, 0, rfl, hl, Nat.le_refl _, Nat.zero_le _, fun _ => ⟨rfl, rfl⟩, fun _ h => by simp at h, fun y hy => hok y hy⟩
  · refine ⟨some ⟨g, 0, none⟩, cap, rfl, hl, a3, a4, fun h => by simp at h, fun a ha i hi j u hu => ?_, fun y hy => hok y hy⟩
    obtain rfl := Option.some.inj ha
    have hj : j < 6 := (List.getElem?_eq_some_iff.1 hu).1
    refine h.cells (g := g) rfl (i * 6 + j) u ?_
    unfold cellsC
    rw [flat_get CA.cells 6 (fun _ => rfl) l i j hi hj]
    exact hu
theorem c_one (y : CA) : ∀ u ∈ y.cells, u.oneCell' = true := by
  intro u hu
  unfold CA.cells at hu
  simp only [List.mem_cons, List.not_mem_nil, or_false] at hu
  rcases hu with rfl | rfl | rfl | rfl | rfl | rfl <;> rfl
open Go.RowKit
structure NL (w : World) (ao : Option Addr) (n cap : Nat) (ns : List Nat) : Prop where
  len : ns.length = n
  le : n ≤ cap
  mx : cap ≤ maxLen
  nil : ao = none → n = 0
  cell : ∀ a, ao = some a → ∀ i, i < n → w.cell? (a.add i) = some (.int .u64 (ns.getD i 0))
  rng : ∀ x ∈ ns, x < 18446744073709551616
theorem NL.nothing (w : World) : NL w none 0 0 [] := ⟨rfl, Nat.le_refl _, Nat.zero_le _, fun _ => rfl, fun _ h => by simp at h, fun _ h => by simp at h⟩
theorem NL.row {w : World} {a : Addr} {n cap : Nat} {zs : List Int} (hl : n ≤ cap) (hm : cap ≤ maxLen) (hz : zs.length = cap) (hc : ∀ i, i < zs.length → w.cell? (a.add i) = some (.int .u64 (zs.getD i 0))) (hw : ∀ z ∈ zs, (Lit.int .u64 z).wf = true) :
    NL w (some a) n cap ((zs.take n).map Int.toNat) := by
  have hb : ∀ z ∈ zs, 0 ≤ z ∧ z < 18446744073709551616 := fun z h => by
    have := hw z h
    simp [Lit.wf, IntKind.min, IntKind.max, IntKind.signed, IntKind.bits] at this
    omega
  refine ⟨by simp; omega, hl, hm, fun h => by simp at h, fun b hb' i hi => ?_, fun x hx => ?_⟩
  · obtain rfl := Option.some.inj hb'
    rw [hc i (by omega)]
    have h1 : i < zs.length := by omega
    have := hb zs[i] (List.getElem_mem h1)
    simp [List.getD, hi, h1]
    omega
  · obtain ⟨z, h1, rfl⟩ := List.mem_map.1 hx
    have := hb z (List.mem_of_mem_take h1)
    omega
theorem NL.below {w w' : World} {ao : Option Addr} {n cap : Nat} {ns : List Nat} (h : NL w ao n cap ns) (hb : Below w.heap.size w w') : NL w' ao n cap ns :=
  ⟨h.len, h.le, h.mx, h.nil, fun a ha i hi => by have hc := h.cell a ha i hi; rw [← hc]; exact hb.cell (World.block_lt_of_cell? w _ hc), h.rng⟩
theorem NL.at {w : World} {ao : Option Addr} {n cap : Nat} {ns : List Nat} (h : NL w ao n cap ns) (hn : 0 < n) : ∃ b off, ao = some ⟨b, off, none⟩ ∧ ∀ i, i < n → w.cell? ⟨b, off + i, none⟩ = some (.int .u64 (ns.getD i 0)) := by
  cases ao with
  | none => have := h.nil rfl; omega
  | some a =>
    obtain ⟨b, off, spot⟩ := a
    have hc := h.cell _ rfl 0 hn
    have hs : spot = none := by simpa [Addr.add] using World.cell?_spot hc
    subst hs
    exact ⟨b, off, rfl, fun i hi => by have := h.cell _ rfl i hi; rw [Addr.add_lit] at this; exact this⟩
theorem NL.new (w : World) (ns : List Nat) (t : TypeId) (h : ∀ x ∈ ns, x < 18446744073709551616) (hl : ns.length ≤ maxLen) : NL (w.alloc (.cells (ns.map fun x => Value.int .u64 (x : Nat)).toArray t)) (some ⟨w.heap.size, 0, none⟩) ns.length ns.length ns := by
  refine ⟨rfl, Nat.le_refl _, hl, fun h => by simp at h, fun a ha i hi => ?_, h⟩
  obtain rfl := Option.some.inj ha
  rw [Addr.add_lit, Nat.zero_add, cell_of_row _ _ i _ _ _ (heap_alloc_new w _)]
  simp [List.getD, hi]
def riseF : Nat → List Nat → Bool
  | _, [] => true
  | l, x :: xs => decide (l < x) && riseF x xs
open Go.RowKit
theorem SameBut.trans {N : Nat} {a b c : World} (h : b.heap.size = a.heap.size ∧ ∀ j, j ≠ N → b.heap[j]? = a.heap[j]?) (k : c.heap.size = b.heap.size ∧ ∀ j, j ≠ N → c.heap[j]? = b.heap[j]?) : c.heap.size = a.heap.size ∧ ∀ j, j ≠ N → c.heap[j]? = a.heap[j]? :=
  ⟨k.1.trans h.1, fun j hj => (k.2 j hj).trans (h.2 j hj)⟩
theorem same_set (w : World) (N i : Nat) (v : Value) : (w.setCell ⟨N, i, none⟩ v).heap.size = w.heap.size ∧ ∀ j, j ≠ N → (w.setCell ⟨N, i, none⟩ v).heap[j]? = w.heap[j]? :=
  ⟨World.size_setCell .., fun j hj => Below.heap_setCell w ⟨N, i, none⟩ v j hj⟩
open Go.RowKit
structure EN where
  cl : Nat
  st : Nat
  r : RV
def EN.an (e : EN) : ByteArray := strOfNums (putR e.r)
structure EN.ok (e : EN) : Prop where
  cl : e.cl < 18446744073709551616
  st : e.st < 18446744073709551616
  right : rightR e.r = true
  byt : Byt (putR e.r)
  len : (putR e.r).length ≤ 65536
  rd : rdR (putR e.r) = .inr e.r
  wf : ∀ c ∈ e.r.cells, c.wf
theorem EN.ok.sb {e : EN} (h : e.ok) : sb e.an = putR e.r := sb_str h.byt
def EN.cells (e : EN) : List Value := [.int .u64 e.cl, .int .u64 e.st, .string e.an]
def cellsE (l : List EN) : List Value := (l.map EN.cells).flatten
theorem cellsE_app (l m : List EN) : cellsE (l ++ m) = cellsE l ++ cellsE m := by simp [cellsE]
theorem cellsE_get (l : List EN) (i j : Nat) (hi : i < l.length) (hj : j < 3) : (cellsE l)[i * 3 + j]? = (l[i].cells)[j]? := flat_get EN.cells 3 (fun _ => rfl) l i j hi hj
theorem e_one (e : EN) : ∀ u ∈ e.cells, u.oneCell' = true := by
  intro u hu
  unfold EN.cells at hu
  simp only [List.mem_cons, List.not_mem_nil, or_false] at hu
  rcases hu with rfl | rfl | rfl <;> rfl
theorem entInfo : (Tryd.prog.info? 61).map (fun i => (i.zero, i.size, i.bytes)) = some (some (.agg #[.int .u64 0, .int .u64 0, .string ⟨#[]⟩]), 3, 32) := by kernel_rfl
def zRV : RV := ⟨0, [], false⟩
theorem zRV_put : putR zRV = [0, 0, 0] := by decide
theorem zRV_ok (c : Nat) (h : c < 18446744073709551616) : EN.ok ⟨c, 0, zRV⟩ := by
  have hr : rightR zRV = true := by decide
  refine ⟨h, by show 0 < _; decide, hr, ?_, ?_, ?_, fun c hc => by simp [zRV] at hc⟩
  · show Byt (putR zRV)
    rw [zRV_put]
    intro x hx
    simp at hx
    omega
  · show (putR zRV).length ≤ 65536
    rw [zRV_put]
    decide
  · exact rdAll_put good_r kindR _ (rightR_fits hr (fun c hc => by simp [zRV] at hc)) (by unfold kindR; rw [hr]; rfl)
def ER (w : World) (g cap : Nat) (l : List EN) : Prop := ∃ cur, w.heap[g]? = some (.cells cur 61) ∧ l.length ≤ cap ∧ cap ≤ maxLen ∧ cur.size = cap * 3 ∧ ∀ i (hi : i < l.length) j v, (l[i].cells)[j]? = some v → cur.toList[i * 3 + j]? = some v
structure TS (w : World) (p g : Nat) (l : List EN) : Prop where
  mem : ∃ cap, w.heap[p]? = some (.cells #[.slice (some ⟨g, 0, none⟩) l.length cap] 58) ∧ ER w g cap l
  ok : ∀ e ∈ l, e.ok
  n1 : 1 ≤ l.length
  n8 : l.length ≤ 8
  ne : p ≠ g
theorem ER.keep {w w' : World} {g cap : Nat} {l : List EN} (h : ER w g cap l) (hg : w'.heap[g]? = w.heap[g]?) : ER w' g cap l := by
  obtain ⟨cur, h1, h2⟩ := h
  exact ⟨cur, hg.trans h1, h2⟩
theorem ER.lt {w : World} {g cap : Nat} {l : List EN} (h : ER w g cap l) : g < w.heap.size := by
  obtain ⟨cur, h1, _⟩ := h
  exact (Array.getElem?_eq_some_iff.1 h1).1
theorem ER.cell {w : World} {g cap : Nat} {l : List EN} (h : ER w g cap l) (i : Nat) (hi : i < l.length) (j : Nat) (v : Value) (hv : (l[i].cells)[j]? = some v) : w.cell? ⟨g, i * 3 + j, none⟩ = some v := by
  obtain ⟨cur, h1, _, _, _, h5⟩ := h
  rw [cell_of_row w g (i * 3 + j) cur _ _ h1]
  have := h5 i hi j v hv
  simpa using this
theorem ER.fz {w : World} {g cap : Nat} {l : List EN} (h : ER w g cap l) (i : Nat) : w.frozen? ⟨g, i, none⟩ = false := by
  obtain ⟨cur, h1, _⟩ := h
  exact frozen_of_row w g i _ _ h1
theorem TS.plt {w : World} {p g : Nat} {l : List EN} (h : TS w p g l) : p < w.heap.size := by
  obtain ⟨cap, h1, _⟩ := h.mem
  exact (Array.getElem?_eq_some_iff.1 h1).1
theorem TS.glt {w : World} {p g : Nat} {l : List EN} (h : TS w p g l) : g < w.heap.size := by
  obtain ⟨cap, _, h2⟩ := h.mem
  exact h2.lt
theorem TS.keep {w w' : World} {p g : Nat} {l : List EN} (h : TS w p g l) (hp : w'.heap[p]? = w.heap[p]?) (hg : w'.heap[g]? = w.heap[g]?) : TS w' p g l := by
  obtain ⟨cap, h1, h2⟩ := h.mem
  exact ⟨⟨cap, hp.trans h1, h2.keep hg⟩, h.ok, h.n1, h.n8, h.ne⟩
theorem TS.below {w w' : World} {p g : Nat} {l : List EN} (h : TS w p g l) (hb : Below w.heap.size w w') : TS w' p g l := h.keep (hb.block p h.plt) (hb.block g h.glt)
theorem TS.tab {w : World} {p g : Nat} {l : List EN} (h : TS w p g l) : ∃ cap, w.cell? ⟨p, 0, none⟩ = some (.slice (some ⟨g, 0, none⟩) l.length cap) ∧ ER w g cap l ∧ l.length ≤ cap := by
  obtain ⟨cap, h1, h2⟩ := h.mem
  have h3 : l.length ≤ cap := by obtain ⟨_, _, h3, _⟩ := h2; exact h3
  exact ⟨cap, cell_of_row w p 0 _ _ _ h1, h2, h3⟩
theorem TS.put {w : World} {p g : Nat} {l : List EN} (h : TS w p g l) (i : Nat) (hi : i < l.length) (e : EN) (he : e.ok) (hc : e.cl = l[i].cl) :
    TS ((w.setCell ⟨g, i * 3 + 1, none⟩ (.int .u64 e.st)).setCell ⟨g, i * 3 + 2, none⟩ (.string e.an)) p g (l.set i e) := by
  obtain ⟨cap, h1, cur, h2, h3, h4, h5, h6⟩ := h.mem
  have hh := heap_setCell_same w g (i * 3 + 1) _ _ (.int .u64 e.st) h2
  have hh2 := heap_setCell_same _ g (i * 3 + 2) _ _ (.string e.an) hh
  have hp : ((w.setCell ⟨g, i * 3 + 1, none⟩ (.int .u64 e.st)).setCell ⟨g, i * 3 + 2, none⟩ (.string e.an)).heap[p]? = w.heap[p]? := ((same_set _ g _ _).2 p h.ne).trans ((same_set w g _ _).2 p h.ne)
  refine ⟨⟨cap, by rw [List.length_set]; exact hp.trans h1, _, hh2, by rw [List.length_set]; exact h3, h4, by simp [h5], fun k hk j v hv => ?_⟩, fun x hx => ?_, by rw [List.length_set]; exact h.n1, by rw [List.length_set]; exact h.n8, h.ne⟩
  · have hj : j < 3 := (List.getElem?_eq_some_iff.1 hv).1
    rw [List.length_set] at hk
    have hlt : i * 3 + 2 < cur.size := by omega
    by_cases c : k = i
    · subst c
      rw [List.getElem_set_self] at hv
      have h0 := h6 k hi 0 _ rfl
      match j, hj with
      | 0, _ =>
        have : v = .int .u64 l[k].cl := by rw [← hc]; simpa [EN.cells] using hv.symm
        subst this
        rw [Array.getElem?_toList] at h0 ⊢
        rw [Array.getElem?_setIfInBounds_ne (by omega), Array.getElem?_setIfInBounds_ne (by omega)]
        exact h0
      | 1, _ =>
        have : v = .int .u64 e.st := by simpa [EN.cells] using hv.symm
        subst this
        rw [Array.getElem?_toList, Array.getElem?_setIfInBounds_ne (by omega), Array.getElem?_setIfInBounds_self_of_lt (by omega)]
      | 2, _ =>
        have : v = .string e.an := by simpa [EN.cells] using hv.symm
        subst this
        rw [Array.getElem?_toList, Array.getElem?_setIfInBounds_self_of_lt (by rw [Array.size_setIfInBounds]; omega)]
    · rw [List.getElem_set_ne (fun e => c e.symm)] at hv
      have h0 := h6 k hk j v hv
      rw [Array.getElem?_toList] at h0 ⊢
      rw [Array.getElem?_setIfInBounds_ne (by omega), Array.getElem?_setIfInBounds_ne (by omega)]
      exact h0
  · rcases List.mem_or_eq_of_mem_set hx with hx | rfl
    · exact h.ok x hx
    · exact he
theorem put_grown (w : World) (g i j : Nat) (u v : Value) : w.grownBy ((w.setCell ⟨g, i, none⟩ u).setCell ⟨g, j, none⟩ v) (some g) :=
  ⟨rfl, rfl, rfl, by simp, fun k hk hn => ((same_set _ g j v).2 k (by simpa using hn)).trans ((same_set w g i u).2 k (by simpa using hn))⟩
structure NewI (W : World) (p : Nat) (v : Value) (l : List EN) : Prop where
  tab : W.heap[p]? = some (.cells #[v] 58)
  own : W.ownsRow (p + 1) 61 3 v l.length (cellsE l)
  ok : ∀ e ∈ l, e.ok
theorem NewI.plt {W : World} {p : Nat} {v : Value} {l : List EN} (h : NewI W p v l) : p < W.heap.size := (Array.getElem?_eq_some_iff.1 h.tab).1
theorem NewI.own_lt {W : World} {p : Nat} {v : Value} {l : List EN} (h : NewI W p v l) {x : Nat} (hx : v.ownBlock = some x) : p < x ∧ x < W.heap.size := by
  have := h.own.lt x hx
  omega
theorem NewI.keep {W W' : World} {p : Nat} {v : Value} {l : List EN} (h : NewI W p v l) (hp : W'.heap[p]? = W.heap[p]?) (hg : ∀ x, v.ownBlock = some x → W'.heap[x]? = W.heap[x]?) : NewI W' p v l := ⟨hp.trans h.tab, own_kept h.own hg, h.ok⟩
theorem NewI.below {W W' : World} {p : Nat} {v : Value} {l : List EN} (h : NewI W p v l) (hb : Below W.heap.size W W') : NewI W' p v l := h.keep (hb.block p h.plt) fun x hx => hb.block x (h.own_lt hx).2
theorem NewI.slice {W : World} {p : Nat} {v : Value} {l : List EN} (h : NewI W p v l) : ∃ ao n cap, v = .slice ao n cap := by
  rcases h.own.2 with ⟨rfl, _⟩ | ⟨g, cap, cur, rfl, _⟩
  · exact ⟨none, 0, 0, rfl⟩
  · exact ⟨_, _, cap, rfl⟩
theorem NewI.app {W : World} {p : Nat} {v : Value} {l : List EN} (h : NewI W p v l) (ty : TypeId) {g cp : Nat} {e : EN} (hG : W.heap[g]? = some (.cells #[.int .u64 e.cl, .int .u64 e.st, .string e.an] 61)) (he : e.ok) (hn : l.length ≤ 1000) :
    ∃ v' W1, (Builtin.append_ #[56, 56] ty #[v, .slice (some ⟨g, 0, none⟩) 1 cp]).run Tryd.prog W = .ok v' W1 ∧ W1.heap[p]? = some (.cells #[v] 58) ∧ NewI (W1.setCell ⟨p, 0, none⟩ v') p v' (l ++ [e]) ∧ Below p W (W1.setCell ⟨p, 0, none⟩ v') ∧
      (∀ x, x < W.heap.size → x ≠ p → v.ownBlock ≠ some x → (W1.setCell ⟨p, 0, none⟩ v').heap[x]? = W.heap[x]?) ∧ (∀ x, v'.ownBlock = some x → v.ownBlock = some x ∨ W.heap.size ≤ x) ∧ ∃ ao n cap, v' = .slice ao n cap := by
  obtain ⟨i0, hi, hz0, hz1, hz2⟩ := info_parts entInfo
  have hp := h.plt
  obtain ⟨v', W1, hr, ho, hg, ha⟩ := run_append_own2 (P := Tryd.prog) W (p + 1) 56 ty 61 i0 _ 3 32 Tryd.underlying56 hi hz0 hz1 hz2 rfl (by decide) v l.length (cellsE l) h.own ⟨g, 0, none⟩ 1 cp e.cells rfl
    (fun j u hu => by
      rw [Addr.add_lit, Nat.zero_add, cell_of_row W g j _ _ _ hG]
      simpa [EN.cells] using hu) (e_one e) (by unfold maxLen; omega) (by omega) (by omega)
  have hb1 : Below (p + 1) W W1 := (Below.refl _ W).grown hg (by omega) (fun k hk => (h.own.lt k hk).1)
  have hpb : W1.heap[p]? = W.heap[p]? := hb1.block p (by omega)
  have hset := (same_set W1 p 0 v').2
  have hown : W1.ownsRow (p + 1) 61 3 v' (l ++ [e]).length (cellsE (l ++ [e])) := by
    rw [cellsE_app, List.length_append]
    have e1 : cellsE [e] = e.cells := by simp [cellsE]
    rw [e1]
    exact ho
  refine ⟨v', W1, hr, hpb.trans h.tab, ⟨heap_setCell_same W1 p 0 _ _ v' (hpb.trans h.tab), own_kept hown fun x hx => hset x ?_, fun y hy => ?_⟩, Below.setCell (hb1.mono (Nat.le_succ p)) (by show p ≤ p; exact Nat.le_refl _) _, fun x hx h1 h2 => (hset x h1).trans (hg.block x hx (fun e => h2 e.symm)), ha, ?_⟩
  · have := (hown.lt x hx).1
    omega
  · rcases List.mem_append.1 hy with hy | hy
    · exact h.ok y hy
    · rw [List.mem_singleton.1 hy]; exact he
  · rcases ho.2 with ⟨rfl, _⟩ | ⟨g, cap, cur, rfl, _⟩
    · exact ⟨none, 0, 0, rfl⟩
    · exact ⟨_, _, cap, rfl⟩
theorem NewI.done {W : World} {p : Nat} {v : Value} {l : List EN} (h : NewI W p v l) (h1 : 1 ≤ l.length) (h8 : l.length ≤ 8) : ∃ g, TS W p g l ∧ p < g := by
  rcases h.own.2 with ⟨_, e⟩ | ⟨g, cap, cur, rfl, a1, a2, a3, a4, a5, a6⟩
  · omega
  · refine ⟨g, ⟨⟨cap, h.tab, cur, a2, a3, a4, a5, fun i hi j v hv => ?_⟩, h.ok, h1, h8, by omega⟩, a1⟩
    have hj : j < 3 := (List.getElem?_eq_some_iff.1 hv).1
    have h2 := cellsE_get l i j hi hj
    rw [hv, ← a6, List.getElem?_take_of_lt (by omega)] at h2
    exact h2
open Go.RowKit
theorem lists_of (n : Nat) (xs ys : List Int) (h1 : xs.length = n) (h2 : ys.length = n) (h : ∀ j, j < n → xs.getD j 0 = ys.getD j 0) : xs = ys := by
  apply List.ext_getElem (by omega)
  intro j hj hj2
  have := h j (by omega)
  simpa [List.getD, hj, hj2] using this
theorem Sl.at {w : World} {ao : Option Addr} {n cap : Nat} {xs : List Int} (h : Sl w ao n cap xs) (hn : 0 < n) :
    ∃ b off, ao = some ⟨b, off, none⟩ ∧ ∀ i, i < n → w.cell? ⟨b, off + i, none⟩ = some (.int .u8 (xs.getD i 0)) := by
  cases ao with
  | none => have := (h.nil rfl).1; omega
  | some a =>
    obtain ⟨b, off, spot⟩ := a
    have hc := h.cell _ rfl 0 hn
    have hs : spot = none := by simpa [Addr.add] using World.cell?_spot hc
    subst hs
    exact ⟨b, off, rfl, fun i hi => by have := h.cell _ rfl i hi; rw [Addr.add_lit] at this; exact this⟩
set_option maxHeartbeats 800000 in
theorem same_any (w : World) (ao bo : Option Addr) (n cap m cap2 : Nat) (xs ys : List Int) (h : Sl w ao n cap xs) (h2 : Sl w bo m cap2 ys) :
    Calls Tryd.prog 17 #[.slice ao n cap, .slice bo m cap2] w fun e w' =>
      e = .returned (.bool (decide (xs = ys))) ∧ ∃ q, w' = w.drewN q := by
  have hl := h.len
  have hl2 := h2.len
  have hle := h.le
  have hmx := h.mx
  unfold maxLen at hmx
  by_cases hnm : n = m
  · subst hnm
    have hne : ((n : Int) != (n : Int)) = false := by simp
    go_enter Tryd.func17, Tryd.ntmps17
    go_wp2
    go_loopw [5] (fun i wr => ∃ k q : Nat, k ≤ n ∧ i = .int .i64 k ∧ wr = w.drewN q ∧ ∀ j, j < k → xs.getD j 0 = ys.getD j 0) (fun i _ => n - (intOf i).toNat)
    case atStart => exact ⟨0, 0, Nat.zero_le _, rfl, rfl, fun j hj => by omega⟩
    case round =>
      obtain ⟨k, q, hk, rfl, rfl, heq⟩ := hrel
      by_cases hlt : k < n
      · obtain ⟨b, off, rfl, hc⟩ := h.at (by omega)
        obtain ⟨b2, off2, rfl, hc2⟩ := h2.at (by omega)
        have c1 := hc k hlt
        have c2 := hc2 k hlt
        have hlt1 : (k : Int) < (n : Int) := by omega
        clear hc hc2
        have k1 : k < xs.length := by omega
        have k2 : k < ys.length := by omega
        by_cases he : xs[k] = ys[k]
        · have hb : (xs[k] != ys[k]) = false := by simp [he]
          have hE : Hid (xs[k] = ys[k]) := he
          clear he
          go_wp2
          go_quiet (fail)
          go_wp2
          go_roundw
          case rel =>
            refine ⟨k + 1, _, by omega, by go_num, rfl, fun j hj => ?_⟩
            by_cases hjk : j < k
            · exact heq j hjk
            · obtain rfl : j = k := by omega
              simpa [List.getD, k1, k2] using hE.out
          case measure => simp [intOf]; omega
        · have hb : (xs[k] != ys[k]) = true := by simp [he]
          have hE : Hid (¬ xs[k] = ys[k]) := he
          clear he
          go_wp2
          go_quiet (fail)
          go_wp2
          go_ret
          have hd : decide (xs = ys) = false := decide_eq_false (fun hx => by subst hx; exact hE.out rfl)
          rw [hd, World.drewN_drewN]
          exact ⟨rfl, _, rfl⟩
      · obtain rfl : k = n := by omega
        go_wp2
        go_ret
        have hd : decide (xs = ys) = true := decide_eq_true (lists_of k xs ys hl hl2 heq)
        rw [hd]
        exact ⟨rfl, _, rfl⟩
  · have hne : ((n : Int) != (m : Int)) = true := by simp; omega
    go_enter Tryd.func17, Tryd.ntmps17
    go_wp2
    go_ret
    have hd : decide (xs = ys) = false := decide_eq_false (fun hx => by subst hx; omega)
    rw [hd]
    exact ⟨rfl, 0, rfl⟩
end Go.Proofs.YtlgafjalcpjelaaDoor

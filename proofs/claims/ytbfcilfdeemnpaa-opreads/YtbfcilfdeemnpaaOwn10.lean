/-
  Lists that a call makes by append, of operations and of cells; what blocks hold an operation's bytes.
-/
import Derived.Test.YtbfcilfdeemnpaaFar
import Derived.Test.YtbfcilfdeemnpaaMA
import Derived.Test.YtbfcilfdeemnpaaPRes
namespace Go.Proofs.Ytbfcilfdeemnpaa
open Go.RowKit

theorem opInfo : (Try.prog.info? 28).map (fun i => (i.zero, i.size, i.bytes)) = some (some (.agg #[.int .i64 0, .string ⟨#[]⟩, .string ⟨#[]⟩, .string ⟨#[]⟩, .int .u64 0, .string ⟨#[]⟩, .slice none 0 0, .slice none 0 0, .bool false, .slice none 0 0]), 10, 160) := by kernel_rfl
theorem cellInfo : (Try.prog.info? 53).map (fun i => (i.zero, i.size, i.bytes)) = some (some (.agg #[.string ⟨#[]⟩, .string ⟨#[]⟩, .string ⟨#[]⟩, .int .u64 0, .slice none 0 0, .bool false]), 6, 88) := by kernel_rfl

/-- append to a row of the call's own: where the row lies behind it. -/
theorem run_append_own2 {P : Program} (w : World) (base : Nat) (t ty e : TypeId) (i : TypeInfo) (z : Value) (size bytes : Nat) (ht : P.underlying t = some (.slice e)) (hi : P.info? e = some i) (hz : i.zero = some z)
    (hsize : i.size = size) (hby : i.bytes = bytes) (hzs : z.cells.size = size) (hsz : 0 < size)
    (v : Value) (n : Nat) (xs : List Value) (hown : w.ownsRow base e size v n xs)
    (a : Addr) (m c : Nat) (news : List Value) (hl : news.length = m * size) (hnews : ∀ j u, news[j]? = some u → w.cell? (a.add j) = some u) (h1 : ∀ u ∈ news, u.oneCell' = true)
    (h63 : n + m ≤ maxLen) (hbytes : (n + m) * bytes ≤ 140737488355328) (hbase : base ≤ w.heap.size) :
    ∃ v' w', (Builtin.append_ #[t, t] ty #[v, .slice (some a) m c]).run P w = .ok v' w' ∧ w'.ownsRow base e size v' (n + m) (xs ++ news) ∧ w.grownBy w' v.ownBlock ∧
      ∀ g, v'.ownBlock = some g → v.ownBlock = some g ∨ w.heap.size ≤ g := by
  obtain ⟨v', w', hr, ho, hg, _⟩ := run_append_own (P := P) w base t ty e i z size bytes ht hi hz hsize hby hzs hsz v n xs hown a m c news hl hnews h1 h63 hbytes hbase
  refine ⟨v', w', hr, ho, hg, ?_⟩
  have hsmall : n + m ≤ 9223372036854775807 := by simp only [maxLen] at h63; omega
  subst hsize
  subst hby
  rcases hown.2 with ⟨rfl, rfl⟩ | ⟨g, cap, cur, rfl, hbg, hgc, hnc, hcm, hcs, htake⟩
  · have hown2 : w.ownsRow w.heap.size e i.size (.slice none 0 0) 0 xs := ⟨hown.1, .inl ⟨rfl, rfl⟩⟩
    obtain ⟨v2, w2, hr2, ho2, _, _⟩ := run_append_own (P := P) w w.heap.size t ty e i z i.size i.bytes ht hi hz rfl rfl hzs hsz _ 0 xs hown2 a m c news hl hnews h1 h63 hbytes (Nat.le_refl _)
    rw [hr] at hr2
    simp only [Result.ok.injEq] at hr2
    obtain ⟨rfl, rfl⟩ := hr2
    intro g hgv
    exact .inr (ho2.lt g hgv).1
  · by_cases hroom : n + m ≤ cap
    · have hfit : n * i.size + news.length ≤ cur.size := by rw [hl, hcs, ← Nat.add_mul]; exact Nat.mul_le_mul_right _ hroom
      have hr2 := run_append_room (P := P) w t ty e i ht hi g n cap cur hgc a m c news hl hnews h1 hroom hfit
      rw [hr] at hr2
      simp only [Result.ok.injEq] at hr2
      obtain ⟨rfl, rfl⟩ := hr2
      intro g' hg'
      exact .inl hg'
    · have holds : ∀ j u, xs[j]? = some u → w.cell? ((⟨g, 0, none⟩ : Addr).add j) = some u := hown.cells (g := g) rfl
      have hr2 := run_append_grow (P := P) w t ty e i z ht hi hz ⟨g, 0, none⟩ n cap xs hown.1 holds a m c news hl hnews (by omega) (by omega) (growslice_fits (by omega) hbytes)
      rw [hr] at hr2
      simp only [Result.ok.injEq] at hr2
      obtain ⟨rfl, rfl⟩ := hr2
      intro g' hg'
      simp only [Value.ownBlock, Option.some.injEq] at hg'
      exact .inr (by omega)
theorem own_kept {w w' : World} {base : Nat} {e : TypeId} {size : Nat} {v : Value} {n : Nat} {xs : List Value} (h : w.ownsRow base e size v n xs) (hb : ∀ g, v.ownBlock = some g → w'.heap[g]? = w.heap[g]?) : w'.ownsRow base e size v n xs := by
  refine ⟨h.1, ?_⟩
  rcases h.2 with c | ⟨g, cap, cur, rfl, a1, a2, a3, a4, a5, a6⟩
  · exact .inl c
  · exact .inr ⟨g, cap, cur, rfl, a1, (hb g rfl).trans a2, a3, a4, a5, a6⟩
theorem flat_get {α : Type} (f : α → List Value) (s : Nat) (hs : ∀ x, (f x).length = s) : ∀ (l : List α) (i j : Nat) (hi : i < l.length), j < s → (l.map f).flatten[i * s + j]? = (f l[i])[j]?
  | [], i, _, hi, _ => by simp at hi
  | a :: l, 0, j, _, hj => by
    rw [List.map_cons, List.flatten_cons, Nat.zero_mul, Nat.zero_add, List.getElem?_append_left (by rw [hs]; exact hj)]
    rfl
  | a :: l, i + 1, j, hi, hj => by
    have e : (i + 1) * s + j = s + (i * s + j) := by rw [Nat.add_mul]; omega
    rw [List.map_cons, List.flatten_cons, e, List.getElem?_append_right (by rw [hs]; omega), hs, Nat.add_sub_cancel_left]
    exact flat_get f s hs l i j (by simpa using hi) hj
theorem flat_len {α : Type} (f : α → List Value) (s : Nat) (hs : ∀ x, (f x).length = s) : ∀ l : List α, (l.map f).flatten.length = l.length * s
  | [] => by simp
  | a :: l => by
    rw [List.map_cons, List.flatten_cons, List.length_append, hs, flat_len f s hs l, List.length_cons, Nat.add_mul]
    omega
def cellsO (l : List OA) : List Value := (l.map OA.cells).flatten
theorem OWL.own {w : World} {base : Nat} {v : Value} {n : Nat} {l : List OA} (h : w.ownsRow base 28 10 v n (cellsO l)) (hok : ∀ o ∈ l, o.ok w) : ∃ ao cap, v = .slice ao n cap ∧ OWL w 0 ao n cap l := by
  have hl : l.length = n := by
    have := h.1
    unfold cellsO at this
    rw [flat_len OA.cells 10 (fun _ => rfl)] at this
    omega
  rcases h.2 with ⟨rfl, rfl⟩ | ⟨g, cap, cur, rfl, a1, a2, a3, a4, a5, a6⟩
  · exact ⟨none, 0, rfl, hl, Nat.le_refl _, Nat.zero_le _, fun _ => ⟨rfl, rfl⟩, fun _ h => by simp at h, fun y hy => hok y hy⟩
  · refine ⟨some ⟨g, 0, none⟩, cap, rfl, hl, a3, a4, fun h => by simp at h, fun a ha i hi j u hu => ?_, fun y hy => hok y hy⟩
    obtain rfl := Option.some.inj ha
    have hj : j < 10 := (List.getElem?_eq_some_iff.1 hu).1
    refine h.cells (g := g) rfl (i * 10 + j) u ?_
    unfold cellsO
    rw [flat_get OA.cells 10 (fun _ => rfl) l i j hi hj]
    exact hu
/-- The blocks that hold an operation's bytes. -/
def Bs.blk (b : Bs) (x : Nat) : Prop := ∃ a, b.ao = some a ∧ 0 < b.n ∧ a.block = x
def OA.blks (o : OA) (x : Nat) : Prop := o.va.blk x ∨ o.wa.blk x
theorem Sl.blk_lt {w : World} {b : Bs} (h : Sl w b.ao b.n b.cap b.xs) {x : Nat} (hx : b.blk x) : x < w.heap.size := by
  obtain ⟨a, ha, hn, rfl⟩ := hx
  exact h.lt a ha hn
theorem Sl.kept {w w' : World} {b : Bs} (h : Sl w b.ao b.n b.cap b.xs) (hk : ∀ x, b.blk x → w'.heap[x]? = w.heap[x]?) : Sl w' b.ao b.n b.cap b.xs := by
  refine ⟨h.len, h.le, h.mx, h.nil, fun a ha i hi => ?_, h.byte⟩
  have hb : (a.add i).block = a.block := by unfold Addr.add; split <;> rfl
  rw [← h.cell a ha i hi]
  exact World.cell?_of_block (by rw [hb]; exact hk _ ⟨a, ha, by omega, rfl⟩)
theorem OA.ok.blk_lt {o : OA} {w : World} (h : o.ok w) {x : Nat} (hx : o.blks x) : x < w.heap.size := by
  rcases hx with hx | hx
  · exact h.va.blk_lt hx
  · exact h.wa.blk_lt hx
theorem OA.ok.kept {o : OA} {w w' : World} (h : o.ok w) (hk : ∀ x, o.blks x → w'.heap[x]? = w.heap[x]?) : o.ok w' :=
  ⟨h.kind, h.row, h.fam, h.qual, h.time, h.to, h.va.kept (fun x hx => hk x (.inl hx)), h.wa.kept (fun x hx => hk x (.inr hx)), h.le, h.mx, h.nil⟩
end Go.Proofs.Ytbfcilfdeemnpaa

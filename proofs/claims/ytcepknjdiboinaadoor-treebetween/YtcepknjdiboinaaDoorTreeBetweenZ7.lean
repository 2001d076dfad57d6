/-
  Texts in one: PJudge, SMem.
-/
import Derived.Test.YtcepknjdiboinaaDoorTreeBetweenZ6
namespace Go.Proofs.YtcepknjdiboinaaDoor
open Go.RowKit

/-- An item in memory. -/
structure IP where
  k : Part
  v : Part
def IP.it (q : IP) : It := ⟨q.k.xs, q.v.xs⟩
def IP.ok (w : World) (q : IP) : Prop := Sl w q.k.ao q.k.n q.k.cap q.k.xs ∧ Sl w q.v.ao q.v.n q.v.cap q.v.xs
theorem IP.ok.below {w w' : World} {q : IP} (h : q.ok w) (hb : Below w.heap.size w w') : q.ok w' := ⟨h.1.below hb, h.2.below hb⟩
/-- The slice at ao, of n items, up to cap, holds its. -/
structure IL (w : World) (ao : Option Addr) (n cap : Nat) (its : List IP) : Prop where
  len : its.length = n
  le : n ≤ cap
  mx : cap ≤ maxLen
  nil : ao = none → n = 0 ∧ cap = 0
  cell : ∀ a, ao = some a → ∀ i (h : i < its.length), w.cell? (a.add (i * 2)) = some its[i].k.val ∧ w.cell? (a.add (i * 2 + 1)) = some its[i].v.val
  sl : ∀ q ∈ its, q.ok w
theorem IL.below {w w' : World} {ao : Option Addr} {n cap : Nat} {its : List IP} (h : IL w ao n cap its) (hb : Below w.heap.size w w') : IL w' ao n cap its :=
  ⟨h.len, h.le, h.mx, h.nil, fun a ha i hi => by
    obtain ⟨h1, h2⟩ := h.cell a ha i hi
    exact ⟨(hb.cell (World.block_lt_of_cell? w _ h1)).trans h1, (hb.cell (World.block_lt_of_cell? w _ h2)).trans h2⟩, fun q hq => (h.sl q hq).below hb⟩
theorem IL.at {w : World} {ao : Option Addr} {n cap : Nat} {its : List IP} (h : IL w ao n cap its) (hn : 0 < n) :
    ∃ b off, ao = some ⟨b, off, none⟩ ∧ ∀ i (hi : i < its.length), w.cell? ⟨b, off + i * 2, none⟩ = some its[i].k.val ∧ w.cell? ⟨b, off + i * 2 + 1, none⟩ = some its[i].v.val := by
  have hl := h.len
  cases ao with
  | none => have := (h.nil rfl).1; omega
  | some a =>
    obtain ⟨b, off, spot⟩ := a
    have hc := (h.cell _ rfl 0 (by omega)).1
    have hs : spot = none := by simpa [Addr.add] using World.cell?_spot hc
    subst hs
    exact ⟨b, off, rfl, fun i hi => by have := h.cell _ rfl i hi; rw [Addr.add_lit, Addr.add_lit, ← Nat.add_assoc] at this; exact this⟩
theorem IL.nothing (w : World) : IL w none 0 0 [] := ⟨rfl, Nat.le_refl _, Nat.zero_le _, fun _ => ⟨rfl, rfl⟩, fun _ h => by simp at h, fun _ h => by simp at h⟩
theorem IL.one (w : World) (q : IP) (h : q.ok w) (t : TypeId) : IL (w.alloc (.cells #[q.k.val, q.v.val] t)) (some ⟨w.heap.size, 0, none⟩) 1 1 [q] := by
  refine ⟨rfl, Nat.le_refl _, by simp [maxLen], fun h => by simp at h, fun a ha i hi => ?_, fun r hr => ?_⟩
  · obtain rfl := Option.some.inj ha
    obtain rfl : i = 0 := by simpa using hi
    rw [Addr.add_lit, Addr.add_lit]
    exact ⟨cell_of_row _ _ 0 _ _ _ (heap_alloc_new w _), cell_of_row _ _ 1 _ _ _ (heap_alloc_new w _)⟩
  · rw [List.mem_singleton.1 hr]
    exact h.below ((Below.refl _ w).alloc (Nat.le_refl _) _)

/-- What stands against some items. -/
def badK (n : Nat) : Bool := decide (n < 1 ∨ 256 < n)
def jL : List IP → Int → Int
  | [], acc => acc
  | q :: qs, acc => if badK q.k.n then 5 else jL qs (if 1024 < q.v.n then 4 else acc)

set_option maxHeartbeats 4000000 in
set_option maxRecDepth 100000 in
theorem judge_any (w : World) (ao : Option Addr) (n cap : Nat) (its : List IP) (h : IL w ao n cap its) (hn : n ≤ 1000000) (hb : ∀ q ∈ its, q.k.n ≤ 1000000 ∧ q.v.n ≤ 1000000) :
    Calls Tryd.prog 31 #[.slice ao n cap] w fun e w' => e = .returned (.int .i64 (jL its 0)) ∧ Below w.heap.size w w' := by
  have hl := h.len
  have hni : (n : Int) ≤ 1000000 := by omega
  go_enter Tryd.func31, Tryd.ntmps31
  go_wp2
  go_loopw [3, 8] (fun a i wr => ∃ (k : Nat) (acc : Int), k ≤ n ∧ i = .int .i64 k ∧ a = .int .i64 acc ∧ jL (its.drop k) acc = jL its 0 ∧ Below w.heap.size w wr) (fun _ i _ => n - (intOf i).toNat)
  case atStart => exact ⟨0, 0, Nat.zero_le _, rfl, rfl, rfl, Below.refl _ _⟩
  case round =>
    obtain ⟨k, acc, hk, rfl, rfl, hj, hB⟩ := hrel
    have HJ : Hid (jL (its.drop k) acc = jL its 0) := hj
    clear hj
    by_cases hlt : k < n
    · have hki : (k : Int) < (n : Int) := by omega
      have hkl : k < its.length := by omega
      obtain ⟨b, off, rfl, hc⟩ := (h.below hB).at (by omega)
      obtain ⟨c1, c2⟩ := hc k hkl
      have hq := hb its[k] (List.getElem_mem hkl)
      have HD : Hid (its.drop k = its[k] :: its.drop (k + 1)) := List.drop_eq_getElem_cons hkl
      obtain ⟨q, hqe⟩ : ∃ q, q = its[k] := ⟨_, rfl⟩
      rw [← hqe] at c1 c2 hq HD
      obtain ⟨q1, q2⟩ := hq
      unfold Part.val at c1 c2
      clear hc hqe
      by_cases h1 : q.k.n < 1
      · have h1' : (q.k.n : Int) < 1 := by omega
        have HR : Hid (jL its 0 = 5) := by
          show _ = _
          rw [← HJ.out, HD.out, jL, if_pos (by simp [badK]; omega)]
        go_wp2
        go_ret
        refine ⟨?_, hB.alloc hB.size _⟩
        rw [HR.out]
        rfl
      have h1' : ¬ (q.k.n : Int) < 1 := by omega
      by_cases h2 : 256 < q.k.n
      · have h2' : (256 : Int) < (q.k.n : Int) := by omega
        have HR : Hid (jL its 0 = 5) := by
          show _ = _
          rw [← HJ.out, HD.out, jL, if_pos (by simp [badK]; omega)]
        go_wp2
        go_ret
        refine ⟨?_, hB.alloc hB.size _⟩
        rw [HR.out]
        rfl
      have h2' : ¬ (256 : Int) < (q.k.n : Int) := by omega
      have HB : Hid (badK q.k.n = false) := by show _ = _; simp [badK]; omega
      by_cases h3 : 1024 < q.v.n
      · have h3' : (1024 : Int) < (q.v.n : Int) := by omega
        go_wp2
        go_roundw
        case rel =>
          refine ⟨k + 1, 4, by omega, by go_num, rfl, ?_, hB.alloc hB.size _⟩
          rw [← HJ.out, HD.out, jL, HB.out, if_pos h3]
          rfl
        case measure => simp [intOf]; omega
      · have h3' : ¬ (1024 : Int) < (q.v.n : Int) := by omega
        go_wp2
        go_roundw
        case rel =>
          refine ⟨k + 1, acc, by omega, by go_num, rfl, ?_, hB.alloc hB.size _⟩
          rw [← HJ.out, HD.out, jL, HB.out, if_neg h3]
          rfl
        case measure => simp [intOf]; omega
    · have hge : ¬ (k : Int) < (n : Int) := by omega
      have HR : Hid (jL its 0 = acc) := by
        show _ = _
        rw [← HJ.out, List.drop_eq_nil_of_le (by omega)]
        rfl
      go_wp2
      go_ret
      refine ⟨?_, hB⟩
      rw [HR.out]
      rfl
end Go.Proofs.YtcepknjdiboinaaDoor

namespace Go.Proofs.YtcepknjdiboinaaDoor
open Go.RowKit

/-- Items of which i are gone through, the last segment not closed yet. -/
structure Prt (lv : List Int → Nat) (L : Nat) (l : List It) (i fr : Nat) (segs : List (List It)) (xs : List It) : Prop where
  le : fr ≤ i
  hi : i ≤ l.length
  len : segs.length = xs.length
  eq : l.take fr = wvA segs xs
  top : ∀ x ∈ xs, lv x.k = L
  low : ∀ s ∈ segs, ∀ x ∈ s, lv x.k < L
  cur : ∀ j (h : j < l.length), fr ≤ j → j < i → lv l[j].k < L
section
variable {lv : List Int → Nat} {L : Nat} {l : List It} {i fr : Nat} {segs : List (List It)} {xs : List It}
theorem Prt.start (lv : List Int → Nat) (L : Nat) (l : List It) : Prt lv L l 0 0 [] [] :=
  ⟨Nat.le_refl _, Nat.zero_le _, rfl, rfl, fun x h => by simp at h, fun s h => by simp at h, fun j h _ h' => by omega⟩
theorem wvA_many : ∀ (P : List (List It)) (xs : List It), P.length = xs.length → P.length ≤ (wvA P xs).length
  | [], _, _ => by simp
  | _ :: _, [], h => by simp at h
  | s :: P, x :: xs, h => by
    have := wvA_many P xs (by simpa using h)
    simp only [wvA, List.length_append, List.length_cons]
    omega
theorem Prt.many (h : Prt lv L l i fr segs xs) : segs.length ≤ i := by
  have h1 := wvA_many segs xs h.len
  have h2 := h.le
  rw [← h.eq, List.length_take] at h1
  omega
theorem Prt.skip (h : Prt lv L l i fr segs xs) (hi : i < l.length) (hl : lv l[i].k < L) : Prt lv L l (i + 1) fr segs xs :=
  ⟨by have := h.le; omega, hi, h.len, h.eq, h.top, h.low, fun j hj h1 h2 => by
    by_cases hji : j = i
    · subst hji; exact hl
    · exact h.cur j hj h1 (by omega)⟩
theorem Prt.seg (h : Prt lv L l i fr segs xs) : ∀ x ∈ (l.take i).drop fr, lv x.k < L := fun x hx => by
  obtain ⟨j, hj, rfl⟩ := List.mem_iff_getElem.1 hx
  simp only [List.length_drop, List.length_take] at hj
  rw [List.getElem_drop, List.getElem_take]
  exact h.cur (fr + j) (by omega) (by omega) (by omega)
theorem Prt.take (h : Prt lv L l i fr segs xs) (hi : i < l.length) (hl : lv l[i].k = L) : Prt lv L l (i + 1) (i + 1) (segs ++ [(l.take i).drop fr]) (xs ++ [l[i]]) := by
  refine ⟨Nat.le_refl _, hi, by simp [h.len], ?_, fun x hx => ?_, fun s hs x hx => ?_, fun j hj h1 h2 => by omega⟩
  · rw [wvA_app _ _ _ _ h.len, ← h.eq]
    simp only [wvA]
    rw [List.take_succ_eq_append_getElem hi, ← List.append_assoc]
    congr 1
    have hle := h.le
    have : l.take fr = (l.take i).take fr := by rw [List.take_take, Nat.min_eq_left hle]
    rw [this, List.take_append_drop]
  · rcases List.mem_append.1 hx with hx | hx
    · exact h.top x hx
    · rw [List.mem_singleton.1 hx]; exact hl
  · rcases List.mem_append.1 hs with hs | hs
    · exact h.low s hs x hx
    · rw [List.mem_singleton.1 hs] at hx
      exact h.seg x hx
theorem Prt.pos (h : Prt lv L l l.length fr segs xs) (ha : ∃ x ∈ l, lv x.k = L) : 0 < fr := by
  cases fr with
  | succ n => omega
  | zero =>
    exfalso
    obtain ⟨x, hx, hxl⟩ := ha
    obtain ⟨j, hj, rfl⟩ := List.mem_iff_getElem.1 hx
    have := h.cur j hj (Nat.zero_le _) hj
    omega
theorem Prt.done (h : Prt lv L l l.length fr segs xs) (ha : ∃ x ∈ l, lv x.k = L) : Shp lv l L (segs ++ [l.drop fr]) xs := by
  have hlast : ∀ x ∈ l.drop fr, lv x.k < L := by
    have := h.seg
    rwa [List.take_length] at this
  have heq : l = weave (segs ++ [l.drop fr]) xs := by
    have := weave_app segs [l.drop fr] xs [] h.len
    rw [List.append_nil] at this
    rw [this, ← h.eq]
    simp only [weave]
    rw [List.take_append_drop]
  refine ⟨by simp [h.len], ?_, heq, h.top, fun s hs x hx => ?_⟩
  · obtain ⟨x, hx, hxl⟩ := ha
    cases xs with
    | cons y ys => simp
    | nil =>
      exfalso
      have hs0 : segs = [] := List.eq_nil_of_length_eq_zero h.len
      subst hs0
      have h0 := h.eq
      simp only [wvA] at h0
      rw [← List.take_append_drop fr l, h0, List.nil_append] at hx
      have := hlast x hx
      omega
  · rcases List.mem_append.1 hs with hs | hs
    · exact h.low s hs x hx
    · rw [List.mem_singleton.1 hs] at hx
      exact hlast x hx
end

/-- Bytes hang on the blocks that stood. -/
theorem Sl.on {w w' : World} {ao : Option Addr} {n cap : Nat} {xs : List Int} (h : Sl w ao n cap xs) (hb : ∀ b, b < w.heap.size → w'.heap[b]? = w.heap[b]?) : Sl w' ao n cap xs := by
  refine ⟨h.len, h.le, h.mx, h.nil, fun a ha i hi => ?_, h.byte⟩
  have hc := h.cell a ha i hi
  rw [← hc]
  exact World.cell?_of_block (hb _ (World.block_lt_of_cell? w _ hc))

/-- Kids of a node that is being made. -/
structure KidsF (W : World) (m n g : Nat) (k v c : Value) (us : List Value) (segs : List (List It)) : Prop where
  len : us.length = segs.length
  kid : ∀ (i : Nat) (s : List It), segs[i]? = some s → ∃ u, us[i]? = some u ∧ Far W m n g k v c fun w => T w u s
section
variable {W W' : World} {m n g : Nat} {k v c k' v' c' : Value} {us : List Value} {segs : List (List It)}
theorem KidsF.nil (W : World) (m n g : Nat) (k v c : Value) : KidsF W m n g k v c [] [] := ⟨rfl, fun i s h => by simp at h⟩
theorem KidsF.chg (h : KidsF W m n g k v c us segs) (hc : Chg W W' g k v c k' v' c') : KidsF W' m n g k' v' c' us segs :=
  ⟨h.len, fun i s hi => by obtain ⟨u, hu, hf⟩ := h.kid i s hi; exact ⟨u, hu, hf.chg hc⟩⟩
theorem KidsF.app (h : KidsF W m n g k v c us segs) {u : Value} {s : List It} (hu : Far W m n g k v c fun w => T w u s) : KidsF W m n g k v c (us ++ [u]) (segs ++ [s]) := by
  refine ⟨by simp [h.len], fun i t hi => ?_⟩
  have hl := h.len
  by_cases hlt : i < segs.length
  · rw [List.getElem?_append_left hlt] at hi
    rw [List.getElem?_append_left (by omega)]
    exact h.kid i t hi
  · rw [List.getElem?_append_right (by omega)] at hi
    rw [List.getElem?_append_right (by omega)]
    cases hj : i - segs.length with
    | zero =>
      rw [hj] at hi
      rw [hl, hj]
      simp only [List.getElem?_cons_zero, Option.some.injEq] at hi ⊢
      subst hi
      exact ⟨u, rfl, hu⟩
    | succ j => rw [hj] at hi; simp at hi
theorem KidsF.end (h : KidsF W m n g k v c us segs) {w : World} (hw : ∀ b, (b < m ∨ n ≤ b) → b < W.heap.size → w.heap[b]? = W.heap[b]?) : Kids w us segs :=
  ⟨h.len, fun i s hi => by obtain ⟨u, hu, hf⟩ := h.kid i s hi; exact ⟨u, hu, hf.end hw⟩⟩
end

/-- A leaf in memory. -/
structure LP where
  L : Nat
  k : Part
  v : Part
def LP.it (q : LP) : It := ⟨q.k.xs, q.v.xs⟩
/-- Its bytes, and its level is its key's. -/
def LP.ok (w : World) (q : LP) : Prop := Sl w q.k.ao q.k.n q.k.cap q.k.xs ∧ Sl w q.v.ao q.v.n q.v.cap q.v.xs ∧ q.L = lev q.k.xs
/-- The slice at ao, of n leaves, up to cap, holds ls. -/
structure LL (w : World) (ao : Option Addr) (n cap : Nat) (ls : List LP) : Prop where
  len : ls.length = n
  le : n ≤ cap
  mx : cap ≤ maxLen
  nil : ao = none → n = 0 ∧ cap = 0
  cell : ∀ a, ao = some a → ∀ i (h : i < ls.length), w.cell? (a.add (i * 3)) = some (.int .i64 ls[i].L) ∧ w.cell? (a.add (i * 3 + 1)) = some ls[i].k.val ∧ w.cell? (a.add (i * 3 + 2)) = some ls[i].v.val
theorem LL.below {w w' : World} {ao : Option Addr} {n cap : Nat} {ls : List LP} (h : LL w ao n cap ls) (hb : Below w.heap.size w w') : LL w' ao n cap ls :=
  ⟨h.len, h.le, h.mx, h.nil, fun a ha i hi => by
    obtain ⟨h1, h2, h3⟩ := h.cell a ha i hi
    exact ⟨(hb.cell (World.block_lt_of_cell? w _ h1)).trans h1, (hb.cell (World.block_lt_of_cell? w _ h2)).trans h2, (hb.cell (World.block_lt_of_cell? w _ h3)).trans h3⟩⟩
theorem LL.at {w : World} {ao : Option Addr} {n cap : Nat} {ls : List LP} (h : LL w ao n cap ls) (hn : 0 < n) :
    ∃ b off, ao = some ⟨b, off, none⟩ ∧ ∀ i (hi : i < ls.length), w.cell? ⟨b, off + i * 3, none⟩ = some (.int .i64 ls[i].L) ∧ w.cell? ⟨b, off + i * 3 + 1, none⟩ = some ls[i].k.val ∧ w.cell? ⟨b, off + i * 3 + 2, none⟩ = some ls[i].v.val := by
  have hl := h.len
  cases ao with
  | none => have := (h.nil rfl).1; omega
  | some a =>
    obtain ⟨b, off, spot⟩ := a
    have hc := (h.cell _ rfl 0 (by omega)).1
    have hs : spot = none := by simpa [Addr.add] using World.cell?_spot hc
    subst hs
    exact ⟨b, off, rfl, fun i hi => by have := h.cell _ rfl i hi; rw [Addr.add_lit, Addr.add_lit, Addr.add_lit, ← Nat.add_assoc, ← Nat.add_assoc] at this; exact this⟩
theorem leafInfo : (Tryd.prog.info? 71).map (fun i => (i.zero, i.size, i.bytes)) = some (some (.agg #[.int .i64 0, .slice none 0 0, .slice none 0 0]), 3, 56) := by kernel_rfl
theorem size3 (w : World) : (sizeOf 71).run Tryd.prog w = .ok 3 w := by
  have hI := leafInfo
  cases hi : Tryd.prog.info? 71 with
  | none => rw [hi] at hI; simp at hI
  | some i =>
    rw [hi] at hI
    simp only [Option.map_some, Option.some.injEq, Prod.mk.injEq] at hI
    simp [sizeOf, typeInfo, hi, hI.2.1]
/-- Where l[j:..:c] lies. -/
def bk3 (ao : Option Addr) (c j : Nat) : Option Addr := if c = j then ao else ao.map (·.add (j * 3))
/-- l[j:] -/
theorem run_back3 {W : World} {ao : Option Addr} {n cap j : Nat} (h1 : j ≤ n) :
    (Instr.sliceAt 86 (.slice ao n cap) (some (.int .i64 (j : Nat))) none none).run Tryd.prog W = .ok (.slice (bk3 ao cap j) (n - j) (cap - j)) W := by
  have ht := Tryd.underlying86
  have he : Tryd.prog.elem 86 = 71 := by simp [Program.elem, ht]
  rw [run_sliceAt_slice W 86 _ _ _ _ (by rw [he]; exact ht), run_slice_l W 86 ao n cap (by rw [he]; exact ht) .i64 j (by omega) (by omega), he, size3]
  simp only [Result.andThen_ok, sliced, Int.toNat_natCast, bk3]
/-- l[j:i:i] -/
theorem run_mid3 {W : World} {ao : Option Addr} {n cap j i : Nat} (h1 : j ≤ i) (h2 : i ≤ cap) :
    (Instr.sliceAt 86 (.slice ao n cap) (some (.int .i64 (j : Nat))) (some (.int .i64 (i : Nat))) (some (.int .i64 (i : Nat)))).run Tryd.prog W = .ok (.slice (bk3 ao i j) (i - j) (i - j)) W := by
  have ht := Tryd.underlying86
  have he : Tryd.prog.elem 86 = 71 := by simp [Program.elem, ht]
  rw [run_sliceAt_slice W 86 _ _ _ _ (by rw [he]; exact ht), run_slice_lhm W 86 ao n cap (by rw [he]; exact ht) .i64 .i64 .i64 j i i (by omega) (by omega) (by omega) (by omega), he, size3]
  simp only [Result.andThen_ok, sliced, Int.toNat_natCast, bk3]
theorem LL.part {w : World} {ao : Option Addr} {n cap : Nat} {ls : List LP} (h : LL w ao n cap ls) {j i c : Nat} (hj : j ≤ i) (hi : i ≤ n) (hc : i ≤ c) (hcc : c ≤ cap) : LL w (bk3 ao c j) (i - j) (c - j) ((ls.take i).drop j) := by
  have h1 := h.len
  have h2 := h.mx
  refine ⟨by simp; omega, by omega, by omega, fun hn => ?_, fun b hb p hp => ?_⟩
  · unfold bk3 at hn
    by_cases he : c = j
    · omega
    · rw [if_neg he] at hn
      have := h.nil (by simpa using hn)
      omega
  · simp only [List.length_drop, List.length_take] at hp
    have he : c ≠ j := by omega
    unfold bk3 at hb
    rw [if_neg he] at hb
    cases ao with
    | none => simp at hb
    | some a =>
      have hb' : a.add (j * 3) = b := by simpa using hb
      have := h.cell a rfl (j + p) (by omega)
      rw [← hb', Addr.add_add, Addr.add_add, Addr.add_add, List.getElem_drop, List.getElem_take, ← Nat.add_mul, ← Nat.add_assoc, ← Nat.add_assoc, ← Nat.add_mul]
      exact this
/-- What shape answers: a tree that hangs on the bytes' blocks and on new ones alone. -/
def OnT (m : Nat) (w : World) (l : List It) (e : Ending) (w' : World) : Prop := ∃ v, e = .returned (.pointer v) ∧ On w' m w.heap.size (fun W => T W (.pointer v) l) ∧ Below w.heap.size w w'
theorem OnT.nil (m : Nat) (w : World) : OnT m w [] (.returned (.pointer none)) w := ⟨none, rfl, fun W _ => T.nil W, Below.refl _ _⟩
/-- All is made. -/
theorem NB.onT {W w0 : World} {base g : Nat} {t pe : TypeId} {k v c : Value} {us : List Value} {L : Nat} {ks vs : List Part} {l : List It} {segs : List (List It)} {xs : List It} (h : NB W base g t pe L k v c (ks.map Part.val) (vs.map Part.val) us)
    (hm : w0.heap.size ≤ W.heap.size) (h0 : ∀ b, b < w0.heap.size → W.heap[b]? = w0.heap[b]?) (hks : ∀ q ∈ ks, Sl w0 q.ao q.n q.cap q.xs) (hvs : ∀ q ∈ vs, Sl w0 q.ao q.n q.cap q.xs)
    (hs : Shp lev l L segs xs) (ek : ks.map Part.xs = xs.map It.k) (ev : vs.map Part.xs = xs.map It.v) (kid : KidsF W w0.heap.size base g k v c us segs) : On W w0.heap.size base fun w => T w (.pointer (some ⟨g, 0, none⟩)) l := fun w hw => by
  have hw0 : ∀ b, b < w0.heap.size → w.heap[b]? = w0.heap[b]? := fun b hb => (hw b (.inl hb) (by omega)).trans (h0 b hb)
  exact (h.on (fun b h1 h2 => hw b (.inr h1) h2)).tree (fun q hq => (hks q hq).on hw0) (fun q hq => (hvs q hq).on hw0) hs ek ev (kid.end hw)
end Go.Proofs.YtcepknjdiboinaaDoor

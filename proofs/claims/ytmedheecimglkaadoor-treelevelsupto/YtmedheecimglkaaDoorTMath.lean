/-
  Stage 7, the lists alone: items in order, and how a node parts them. No program is named here.
-/
import Derived.Test.YtmedheecimglkaaDoorCMath
namespace Go.Proofs.YtmedheecimglkaaDoor

theorem cmpL_lt_trans : ∀ (a b c : List Int), cmpL a b < 0 → cmpL b c < 0 → cmpL a c < 0
  | [], [], _, h, _ => by simp [cmpL] at h
  | [], _ :: _, [], _, k => by simp [cmpL] at k
  | [], _ :: _, _ :: _, _, _ => by simp [cmpL]
  | _ :: _, [], _, h, _ => by simp [cmpL] at h
  | _ :: _, _ :: _, [], _, k => by simp [cmpL] at k
  | x :: a, y :: b, z :: c, h, k => by
    have ih := cmpL_lt_trans a b c
    simp only [cmpL] at h k ⊢
    by_cases e1 : x = y
    · subst e1
      rw [if_pos rfl] at h
      by_cases e2 : x = z
      · subst e2
        rw [if_pos rfl] at k ⊢
        exact ih h k
      · rw [if_neg e2] at k ⊢
        exact k
    · rw [if_neg e1] at h
      have l1 : x < y := by
        by_cases l : x < y
        · exact l
        · rw [if_neg l] at h; omega
      by_cases e2 : y = z
      · subst e2
        rw [if_neg e1, if_pos l1]
        omega
      · rw [if_neg e2] at k
        have l2 : y < z := by
          by_cases l : y < z
          · exact l
          · rw [if_neg l] at k; omega
        rw [if_neg (by omega), if_pos (by omega)]
        omega
theorem cmpL_irr (a : List Int) : ¬ cmpL a a < 0 := by rw [cmpL_self]; omega
theorem cmpL_asym {a b : List Int} (h : cmpL a b < 0) : ¬ cmpL b a < 0 := by rw [cmpL_neg]; omega
theorem cmpL_total (a b : List Int) : cmpL a b < 0 ∨ a = b ∨ cmpL b a < 0 := by
  rcases cmpL_three a b with h | h | h
  · exact .inl (by omega)
  · exact .inr (.inl (cmpL_eq a b h))
  · exact .inr (.inr (by rw [cmpL_neg]; omega))
theorem cmpL_lt_ne {a b : List Int} (h : cmpL a b < 0) : a ≠ b := fun e => by rw [e] at h; exact cmpL_irr b h

/-- An item: a key, a value. -/
structure It where
  k : List Int
  v : List Int
/-- Keys rise. -/
def Srt (l : List It) : Prop := l.Pairwise fun a b => cmpL a.k b.k < 0
/-- The items below a key, and above it. -/
def lo (k : List Int) (l : List It) : List It := l.filter fun x => decide (cmpL x.k k < 0)
def hi (k : List Int) (l : List It) : List It := l.filter fun x => decide (cmpL k x.k < 0)
/-- With an item; without a key. -/
def ins (l : List It) (x : It) : List It := lo x.k l ++ x :: hi x.k l
def del (l : List It) (k : List Int) : List It := lo k l ++ hi k l
/-- Is a key there? -/
def has (k : List Int) (l : List It) : Prop := ∃ x ∈ l, x.k = k

theorem lo_append (k : List Int) (a b : List It) : lo k (a ++ b) = lo k a ++ lo k b := by simp [lo]
theorem hi_append (k : List Int) (a b : List It) : hi k (a ++ b) = hi k a ++ hi k b := by simp [hi]
theorem lo_all {k : List Int} {l : List It} (h : ∀ x ∈ l, cmpL x.k k < 0) : lo k l = l := List.filter_eq_self.2 fun x hx => decide_eq_true (h x hx)
theorem hi_all {k : List Int} {l : List It} (h : ∀ x ∈ l, cmpL k x.k < 0) : hi k l = l := List.filter_eq_self.2 fun x hx => decide_eq_true (h x hx)
theorem lo_none {k : List Int} {l : List It} (h : ∀ x ∈ l, ¬ cmpL x.k k < 0) : lo k l = [] := List.filter_eq_nil_iff.2 fun x hx => by simpa using h x hx
theorem hi_none {k : List Int} {l : List It} (h : ∀ x ∈ l, ¬ cmpL k x.k < 0) : hi k l = [] := List.filter_eq_nil_iff.2 fun x hx => by simpa using h x hx
theorem mem_lo {k : List Int} {l : List It} {x : It} : x ∈ lo k l ↔ x ∈ l ∧ cmpL x.k k < 0 := by simp [lo]
theorem mem_hi {k : List Int} {l : List It} {x : It} : x ∈ hi k l ↔ x ∈ l ∧ cmpL k x.k < 0 := by simp [hi]
theorem lo_len (k : List Int) (l : List It) : (lo k l).length ≤ l.length := List.length_filter_le _ _
theorem hi_len (k : List Int) (l : List It) : (hi k l).length ≤ l.length := List.length_filter_le _ _

theorem Srt.app {a b : List It} (h : Srt (a ++ b)) : Srt a ∧ Srt b ∧ ∀ x ∈ a, ∀ y ∈ b, cmpL x.k y.k < 0 := List.pairwise_append.1 h
theorem Srt.mk {a b : List It} (ha : Srt a) (hb : Srt b) (h : ∀ x ∈ a, ∀ y ∈ b, cmpL x.k y.k < 0) : Srt (a ++ b) := List.pairwise_append.2 ⟨ha, hb, h⟩
theorem Srt.cons {x : It} {l : List It} (h : Srt (x :: l)) : (∀ y ∈ l, cmpL x.k y.k < 0) ∧ Srt l := List.pairwise_cons.1 h
theorem Srt.ofLo {l : List It} (h : Srt l) (k : List Int) : Srt (lo k l) := List.Pairwise.filter _ h
theorem Srt.ofHi {l : List It} (h : Srt l) (k : List Int) : Srt (hi k l) := List.Pairwise.filter _ h
theorem Srt.one (x : It) : Srt [x] := List.pairwise_singleton _ _
theorem Srt.ofIns {l : List It} (h : Srt l) (x : It) : Srt (ins l x) := by
  refine Srt.mk (h.ofLo _) (List.pairwise_cons.2 ⟨fun y hy => (mem_hi.1 hy).2, h.ofHi _⟩) fun a ha b hb => ?_
  have h1 := (mem_lo.1 ha).2
  rcases List.mem_cons.1 hb with rfl | hb
  · exact h1
  · exact cmpL_lt_trans _ _ _ h1 (mem_hi.1 hb).2
theorem Srt.ofDel {l : List It} (h : Srt l) (k : List Int) : Srt (del l k) :=
  Srt.mk (h.ofLo _) (h.ofHi _) fun _ ha _ hb => cmpL_lt_trans _ _ _ (mem_lo.1 ha).2 (mem_hi.1 hb).2
/-- Where a key stands. -/
theorem Srt.split {l : List It} (h : Srt l) {x : It} {a b : List It} (e : l = a ++ x :: b) : lo x.k l = a ∧ hi x.k l = b := by
  subst e
  obtain ⟨ha, hb, hab⟩ := h.app
  obtain ⟨hx, hb'⟩ := hb.cons
  have h1 : ∀ y ∈ a, cmpL y.k x.k < 0 := fun y hy => hab y hy x (List.mem_cons_self ..)
  constructor
  · rw [lo_append, lo_all h1, lo_none (fun y hy => ?_), List.append_nil]
    rcases List.mem_cons.1 hy with rfl | hy
    · exact cmpL_irr _
    · exact cmpL_asym (hx y hy)
  · have e2 : hi x.k (x :: b) = b := by
      rw [show x :: b = [x] ++ b from rfl, hi_append, hi_all hx, hi_none (fun y hy => by rw [List.mem_singleton.1 hy]; exact cmpL_irr _), List.nil_append]
    rw [hi_append, hi_none (fun y hy => cmpL_asym (h1 y hy)), e2, List.nil_append]
/-- Where it is not: the list is what stands below and above. -/
theorem Srt.parts {l : List It} (h : Srt l) {k : List Int} (hn : ¬ has k l) : lo k l ++ hi k l = l := by
  induction l with
  | nil => rfl
  | cons x l ih =>
    obtain ⟨hx, hl⟩ := h.cons
    have hn' : ¬ has k l := fun ⟨y, hy, e⟩ => hn ⟨y, List.mem_cons_of_mem _ hy, e⟩
    have ne : x.k ≠ k := fun e => hn ⟨x, List.mem_cons_self .., e⟩
    rcases cmpL_total x.k k with h1 | h1 | h1
    · have e1 : lo k (x :: l) = x :: lo k l := by simp [lo, h1]
      have e2 : hi k (x :: l) = hi k l := by
        have := cmpL_asym h1
        simp [hi, this]
      rw [e1, e2, List.cons_append, ih hl hn']
    · exact absurd h1 ne
    · have h2 : ∀ y ∈ l, cmpL k y.k < 0 := fun y hy => cmpL_lt_trans _ _ _ h1 (hx y hy)
      have h3 : ∀ y ∈ x :: l, cmpL k y.k < 0 := fun y hy => by
        rcases List.mem_cons.1 hy with rfl | hy
        · exact h1
        · exact h2 y hy
      rw [lo_none (fun y hy => cmpL_asym (h3 y hy)), hi_all h3, List.nil_append]
theorem del_none {l : List It} (h : Srt l) {k : List Int} (hn : ¬ has k l) : del l k = l := h.parts hn
theorem has_split {l : List It} {k : List Int} (h : has k l) : ∃ a x b, l = a ++ x :: b ∧ x.k = k := by
  obtain ⟨x, hx, e⟩ := h
  obtain ⟨a, b, h⟩ := List.append_of_mem hx
  exact ⟨a, x, b, h, e⟩
/-- Keys of sorted items: one place at most. -/
theorem Srt.inj {l : List It} (h : Srt l) {x y : It} (hx : x ∈ l) (hy : y ∈ l) (e : x.k = y.k) : x = y := by
  induction l with
  | nil => simp at hx
  | cons z l ih =>
    obtain ⟨hz, hl⟩ := h.cons
    rcases List.mem_cons.1 hx with h1 | h1
    · rcases List.mem_cons.1 hy with h2 | h2
      · rw [h1, h2]
      · rw [h1] at e
        exact absurd e (cmpL_lt_ne (hz y h2))
    · rcases List.mem_cons.1 hy with h2 | h2
      · rw [h2] at e
        exact absurd e.symm (cmpL_lt_ne (hz x h1))
      · exact ih hl h1 h2

/-! ## Segments and the items between them -/
/-- Segments, each but the last with an item behind it. -/
def weave : List (List It) → List It → List It
  | [], _ => []
  | s :: _, [] => s
  | s :: ss, x :: xs => s ++ x :: weave ss xs
/-- The same, each with an item behind it. -/
def wvA : List (List It) → List It → List It
  | s :: ss, x :: xs => s ++ x :: wvA ss xs
  | _, _ => []
theorem weave_app : ∀ (P Q : List (List It)) (xs ys : List It), P.length = xs.length → weave (P ++ Q) (xs ++ ys) = wvA P xs ++ weave Q ys
  | [], Q, [], ys, _ => rfl
  | [], _, _ :: _, _, h => by simp at h
  | _ :: _, _, [], _, h => by simp at h
  | s :: P, Q, x :: xs, ys, h => by
    simp only [List.cons_append, weave, wvA, List.append_assoc]
    rw [weave_app P Q xs ys (by simpa using h)]
theorem wvA_app : ∀ (P Q : List (List It)) (xs ys : List It), P.length = xs.length → wvA (P ++ Q) (xs ++ ys) = wvA P xs ++ wvA Q ys
  | [], Q, [], ys, _ => rfl
  | [], _, _ :: _, _, h => by simp at h
  | _ :: _, _, [], _, h => by simp at h
  | s :: P, Q, x :: xs, ys, h => by
    simp only [List.cons_append, wvA, List.append_assoc]
    rw [wvA_app P Q xs ys (by simpa using h)]
theorem mem_wvA : ∀ (P : List (List It)) (xs : List It) (y : It), y ∈ wvA P xs → y ∈ xs ∨ ∃ s ∈ P, y ∈ s
  | [], _, y, h => by simp [wvA] at h
  | _ :: _, [], y, h => by simp [wvA] at h
  | s :: P, x :: xs, y, h => by
    simp only [wvA, List.mem_append, List.mem_cons] at h
    rcases h with h | h | h
    · exact .inr ⟨s, List.mem_cons_self .., h⟩
    · exact .inl (by rw [h]; exact List.mem_cons_self ..)
    · rcases mem_wvA P xs y h with h | ⟨t, ht, h⟩
      · exact .inl (List.mem_cons_of_mem _ h)
      · exact .inr ⟨t, List.mem_cons_of_mem _ ht, h⟩
theorem mem_weave : ∀ (P : List (List It)) (xs : List It) (y : It), y ∈ weave P xs → y ∈ xs ∨ ∃ s ∈ P, y ∈ s
  | [], _, y, h => by simp [weave] at h
  | s :: P, [], y, h => .inr ⟨s, List.mem_cons_self .., h⟩
  | s :: P, x :: xs, y, h => by
    simp only [weave, List.mem_append, List.mem_cons] at h
    rcases h with h | h | h
    · exact .inr ⟨s, List.mem_cons_self .., h⟩
    · exact .inl (by rw [h]; exact List.mem_cons_self ..)
    · rcases mem_weave P xs y h with h | ⟨t, ht, h⟩
      · exact .inl (List.mem_cons_of_mem _ h)
      · exact .inr ⟨t, List.mem_cons_of_mem _ ht, h⟩
theorem weave_key : ∀ (P : List (List It)) (xs : List It), P.length = xs.length + 1 → ∀ x ∈ xs, x ∈ weave P xs
  | [], xs, h, x, hx => by simp at h
  | s :: P, [], _, x, hx => by simp at hx
  | s :: P, y :: xs, h, x, hx => by
    simp only [weave, List.mem_append, List.mem_cons]
    rcases List.mem_cons.1 hx with rfl | hx
    · exact .inr (.inl rfl)
    · exact .inr (.inr (weave_key P xs (by simpa using h) x hx))
theorem weave_seg : ∀ (P : List (List It)) (xs : List It), P.length = xs.length + 1 → ∀ s ∈ P, ∀ x ∈ s, x ∈ weave P xs
  | [], xs, h, s, hs, x, hx => by simp at h
  | t :: P, [], h, s, hs, x, hx => by
    have : P = [] := List.eq_nil_of_length_eq_zero (by simpa using h)
    subst this
    rw [List.mem_singleton.1 hs] at hx
    exact hx
  | t :: P, y :: xs, h, s, hs, x, hx => by
    simp only [weave, List.mem_append, List.mem_cons]
    rcases List.mem_cons.1 hs with rfl | hs
    · exact .inl hx
    · exact .inr (.inr (weave_seg P xs (by simpa using h) s hs x hx))
theorem weave_len : ∀ (P : List (List It)) (xs : List It), P.length = xs.length + 1 → ∀ s ∈ P, s.length + xs.length ≤ (weave P xs).length
  | [], xs, h, s, hs => by simp at h
  | t :: P, [], h, s, hs => by
    have : P = [] := List.eq_nil_of_length_eq_zero (by simpa using h)
    subst this
    rw [List.mem_singleton.1 hs]
    simp [weave]
  | t :: P, y :: xs, h, s, hs => by
    simp only [weave, List.length_append, List.length_cons]
    have hl : P.length = xs.length + 1 := by simpa using h
    rcases List.mem_cons.1 hs with rfl | hs
    · cases P with
      | nil => simp at hl
      | cons u P =>
        have := weave_len (u :: P) xs hl u (List.mem_cons_self ..)
        omega
    · have := weave_len P xs hl s hs
      omega

/-- The items l as a node has them: its level, the segments of lesser levels, the items of its level. -/
structure Shp (lv : List Int → Nat) (l : List It) (L : Nat) (segs : List (List It)) (xs : List It) : Prop where
  len : segs.length = xs.length + 1
  pos : 0 < xs.length
  eq : l = weave segs xs
  top : ∀ x ∈ xs, lv x.k = L
  low : ∀ s ∈ segs, ∀ x ∈ s, lv x.k < L

section
variable {lv : List Int → Nat} {l : List It} {L : Nat} {segs : List (List It)} {xs : List It}
theorem Shp.shorter (h : Shp lv l L segs xs) : ∀ s ∈ segs, s.length < l.length := fun s hs => by
  have := weave_len segs xs h.len s hs
  have := h.pos
  rw [h.eq]
  omega
theorem Shp.le (h : Shp lv l L segs xs) : ∀ x ∈ l, lv x.k ≤ L := fun x hx => by
  rw [h.eq] at hx
  rcases mem_weave _ _ _ hx with h1 | ⟨s, hs, h1⟩
  · rw [h.top x h1]
    exact Nat.le_refl _
  · exact Nat.le_of_lt (h.low s hs x h1)
theorem Shp.key (h : Shp lv l L segs xs) : ∀ x ∈ xs, x ∈ l := fun x hx => by rw [h.eq]; exact weave_key _ _ h.len x hx
theorem Shp.seg (h : Shp lv l L segs xs) : ∀ s ∈ segs, ∀ x ∈ s, x ∈ l := fun s hs x hx => by rw [h.eq]; exact weave_seg _ _ h.len s hs x hx
/-- Parted at a place. -/
theorem Shp.at (h : Shp lv l L segs xs) (i : Nat) (hi : i ≤ xs.length) : ∃ s, segs[i]? = some s ∧ segs = segs.take i ++ s :: segs.drop (i + 1) ∧
    l = wvA (segs.take i) (xs.take i) ++ (s ++ (weave ([] :: segs.drop (i + 1)) (xs.drop i))) := by
  have hl := h.len
  have hlt : i < segs.length := by omega
  refine ⟨segs[i], List.getElem?_eq_getElem hlt, ?_, ?_⟩
  · rw [← List.drop_eq_getElem_cons hlt, List.take_append_drop]
  · conv => lhs; rw [h.eq, ← List.take_append_drop i segs, ← List.take_append_drop i xs]
    rw [weave_app _ _ _ _ (by simp; omega), List.drop_eq_getElem_cons hlt]
    congr 1
    cases hx : xs.drop i with
    | nil =>
      have : segs.drop (i + 1) = [] := by
        have := congrArg List.length hx
        simp at this
        apply List.drop_eq_nil_of_le
        omega
      rw [this]
      simp [weave]
    | cons y ys => simp [weave]
end

/-- How the items' shape is told by them alone. -/
def maxV (lv : List Int → Nat) : List It → Nat
  | [] => 0
  | x :: l => max (lv x.k) (maxV lv l)
def segsF (lv : List Int → Nat) (L : Nat) : List It → List (List It)
  | [] => [[]]
  | x :: l => if lv x.k = L then [] :: segsF lv L l else match segsF lv L l with
    | [] => [[x]]
    | s :: ss => (x :: s) :: ss
def keysF (lv : List Int → Nat) (L : Nat) (l : List It) : List It := l.filter fun x => decide (lv x.k = L)
theorem maxV_le (lv : List Int → Nat) : ∀ (l : List It) (L : Nat), (∀ x ∈ l, lv x.k ≤ L) → maxV lv l ≤ L
  | [], L, _ => Nat.zero_le _
  | x :: l, L, h => by
    have h1 := h x (List.mem_cons_self ..)
    have h2 := maxV_le lv l L (fun y hy => h y (List.mem_cons_of_mem _ hy))
    simp only [maxV]
    omega
theorem le_maxV (lv : List Int → Nat) : ∀ (l : List It), ∀ x ∈ l, lv x.k ≤ maxV lv l
  | [], x, h => by simp at h
  | y :: l, x, h => by
    simp only [maxV]
    rcases List.mem_cons.1 h with rfl | h
    · omega
    · have := le_maxV lv l x h
      omega
theorem segsF_low (lv : List Int → Nat) (L : Nat) : ∀ (s rest : List It), (∀ x ∈ s, lv x.k < L) → segsF lv L (s ++ rest) = match segsF lv L rest with
    | [] => [s]
    | t :: ss => (s ++ t) :: ss
  | [], rest, _ => by
    cases h : segsF lv L rest with
    | nil =>
      cases rest with
      | nil => simp [segsF] at h
      | cons y l =>
        simp only [segsF] at h
        split at h
        · simp at h
        · split at h <;> simp at h
    | cons t ss => simp [h]
  | x :: s, rest, hx => by
    have ih := segsF_low lv L s rest (fun y hy => hx y (List.mem_cons_of_mem _ hy))
    have h1 := hx x (List.mem_cons_self ..)
    rw [List.cons_append, segsF, if_neg (by omega), ih]
    cases segsF lv L rest <;> rfl
theorem segsF_weave (lv : List Int → Nat) (L : Nat) : ∀ (segs : List (List It)) (xs : List It), segs.length = xs.length + 1 → (∀ x ∈ xs, lv x.k = L) → (∀ s ∈ segs, ∀ x ∈ s, lv x.k < L) →
    segsF lv L (weave segs xs) = segs ∧ keysF lv L (weave segs xs) = xs
  | [], xs, h, _, _ => by simp at h
  | s :: ss, [], h, _, hl => by
    have : ss = [] := List.eq_nil_of_length_eq_zero (by simpa using h)
    subst this
    have h1 := hl s (List.mem_cons_self ..)
    have h2 := segsF_low lv L s [] h1
    constructor
    · simpa [weave, segsF] using h2
    · simp only [weave, keysF]
      exact List.filter_eq_nil_iff.2 fun x hx => by have := h1 x hx; simp; omega
  | s :: ss, x :: xs, h, ht, hl => by
    have ih := segsF_weave lv L ss xs (by simpa using h) (fun y hy => ht y (List.mem_cons_of_mem _ hy)) (fun t ht' => hl t (List.mem_cons_of_mem _ ht'))
    have h1 := hl s (List.mem_cons_self ..)
    have hx := ht x (List.mem_cons_self ..)
    have h2 := segsF_low lv L s (x :: weave ss xs) h1
    constructor
    · rw [weave, h2, segsF, if_pos hx, ih.1]
      simp
    · rw [weave]
      unfold keysF at ih ⊢
      rw [List.filter_append, List.filter_cons, ih.2, if_pos (by simpa using hx), List.filter_eq_nil_iff.2 (fun y hy => by have := h1 y hy; simp; omega), List.nil_append]
theorem Shp.unique {lv : List Int → Nat} {l : List It} {L : Nat} {segs : List (List It)} {xs : List It} (h : Shp lv l L segs xs) : L = maxV lv l ∧ segs = segsF lv L l ∧ xs = keysF lv L l := by
  have h1 := segsF_weave lv L segs xs h.len h.top h.low
  rw [← h.eq] at h1
  refine ⟨?_, h1.1.symm, h1.2.symm⟩
  apply Nat.le_antisymm
  · have hp := h.pos
    have hm := h.key xs[0] (List.getElem_mem hp)
    have := le_maxV lv l _ hm
    rw [h.top _ (List.getElem_mem hp)] at this
    exact this
  · exact maxV_le lv l L h.le
end Go.Proofs.YtmedheecimglkaaDoor

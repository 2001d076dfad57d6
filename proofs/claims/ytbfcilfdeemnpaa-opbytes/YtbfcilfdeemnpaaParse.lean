/-
  Readers as functions on bytes: what was put is read, what is read was put, and what is cut off is too short. No program is named here.
-/
import Derived.Test.YtbfcilfdeemnpaaRDefs
namespace Go.Proofs.Ytbfcilfdeemnpaa

/-- What a reader tells: what was wrong, or a thing and what is left. -/
abbrev Rs (α : Type) := Sum Int (α × List Int)
def then_ {α β : Type} (r : Rs α) (f : α → List Int → Rs β) : Rs β :=
  match r with
  | .inl k => .inl k
  | .inr (v, rest) => f v rest
theorem then_good {α β : Type} {r : Rs α} {f : α → List Int → Rs β} {b : β} {rest : List Int} (h : then_ r f = .inr (b, rest)) : ∃ a r', r = .inr (a, r') ∧ f a r' = .inr (b, rest) := by
  match r, h with
  | .inl k, h => simp [then_] at h
  | .inr (a, r'), h => exact ⟨a, r', rfl, h⟩

/-- A reader P reads just what f puts, of things that are ok. -/
structure Good {α : Type} (P : List Int → Rs α) (f : α → List Int) (ok : α → Prop) : Prop where
  put : ∀ v rest, ok v → P (f v ++ rest) = .inr (v, rest)
  back : ∀ xs v rest, Byt xs → P xs = .inr (v, rest) → xs = f v ++ rest ∧ ok v
  cut : ∀ v c, ok v → c < (f v).length → P ((f v).take c) = .inl 2

theorem byt_right {xs ys : List Int} (h : Byt (xs ++ ys)) : Byt ys := fun x hx => h x (List.mem_append_right _ hx)
theorem byt_left {xs ys : List Int} (h : Byt (xs ++ ys)) : Byt xs := fun x hx => h x (List.mem_append_left _ hx)

/-- One behind the other; the second may lean on what the first read. -/
def andThen {α β : Type} (P : List Int → Rs α) (Q : α → List Int → Rs β) (xs : List Int) : Rs (α × β) := then_ (P xs) fun a r => then_ (Q a r) fun b r' => .inr ((a, b), r')
theorem Good.andThen {α β : Type} {P : List Int → Rs α} {Q : α → List Int → Rs β} {f : α → List Int} {g : α → β → List Int} {okP : α → Prop} {okQ : α → β → Prop} (h : Good P f okP) (k : ∀ a, okP a → Good (Q a) (g a) (okQ a)) :
    Good (andThen P Q) (fun p => f p.1 ++ g p.1 p.2) (fun p => okP p.1 ∧ okQ p.1 p.2) := by
  refine ⟨?_, ?_, ?_⟩
  · rintro ⟨a, b⟩ rest ⟨h1, h2⟩
    unfold Go.Proofs.Ytbfcilfdeemnpaa.andThen
    simp only [List.append_assoc]
    rw [h.put a _ h1]
    simp only [then_]
    rw [(k a h1).put b _ h2]
  · rintro xs ⟨a, b⟩ rest hb hx
    obtain ⟨a', r', e1, hx⟩ := then_good hx
    obtain ⟨b', r'', e2, hx⟩ := then_good hx
    simp only [Sum.inr.injEq, Prod.mk.injEq] at hx
    obtain ⟨⟨rfl, rfl⟩, rfl⟩ := hx
    obtain ⟨x1, o1⟩ := h.back xs _ _ hb e1
    subst x1
    obtain ⟨x2, o2⟩ := (k _ o1).back _ _ _ (byt_right hb) e2
    refine ⟨?_, o1, o2⟩
    rw [x2, List.append_assoc]
  · rintro ⟨a, b⟩ c ⟨h1, h2⟩ hc
    unfold Go.Proofs.Ytbfcilfdeemnpaa.andThen
    simp only [List.length_append] at hc
    by_cases l : c < (f a).length
    · simp only [List.take_append_of_le_length (Nat.le_of_lt l)]
      rw [h.cut a c h1 l]
      rfl
    · have e : (f a ++ g a b).take c = f a ++ (g a b).take (c - (f a).length) := by
        rw [List.take_append, List.take_of_length_le (by omega)]
      simp only [e]
      rw [h.put a _ h1]
      simp only [then_]
      rw [(k a h1).cut b _ h2 (by omega)]

/-- The same thing in another dress. -/
def dress {α β : Type} (t : α → β) : Rs α → Rs β
  | .inl k => .inl k
  | .inr (v, rest) => .inr (t v, rest)
theorem dress_good {α β : Type} {t : α → β} {r : Rs α} {b : β} {rest : List Int} (h : dress t r = .inr (b, rest)) : ∃ a, r = .inr (a, rest) ∧ t a = b := by
  match r, h with
  | .inl k, h => simp [dress] at h
  | .inr (a, r'), h =>
    simp only [dress, Sum.inr.injEq, Prod.mk.injEq] at h
    exact ⟨a, by rw [h.2], h.1⟩
theorem Good.map {α β : Type} {P : List Int → Rs α} {f : α → List Int} {ok : α → Prop} (h : Good P f ok) (t : α → β) (u : β → α) (ok' : β → Prop) (h1 : ∀ b, ok' b → t (u b) = b ∧ ok (u b)) (h2 : ∀ a, ok a → u (t a) = a ∧ ok' (t a)) :
    Good (fun xs => dress t (P xs)) (fun b => f (u b)) ok' := by
  refine ⟨?_, ?_, ?_⟩
  · intro b rest hb
    simp only [h.put _ rest (h1 b hb).2, dress, (h1 b hb).1]
  · intro xs b rest hx hb
    obtain ⟨a, e, rfl⟩ := dress_good hb
    obtain ⟨x1, o1⟩ := h.back xs a rest hx e
    rw [(h2 a o1).1]
    exact ⟨x1, (h2 a o1).2⟩
  · intro b c hb hc
    simp only [h.cut _ c (h1 b hb).2 hc, dress]
theorem Good.only {α : Type} {P : List Int → Rs α} {f g : α → List Int} {ok ok' : α → Prop} (h : Good P f ok) (hk : ∀ a, ok a ↔ ok' a) (hf : ∀ a, ok a → f a = g a) : Good P g ok' := by
  refine ⟨?_, ?_, ?_⟩
  · intro v rest hv
    rw [← hf v ((hk v).2 hv)]
    exact h.put v rest ((hk v).2 hv)
  · intro xs v rest hb hx
    obtain ⟨e, o⟩ := h.back xs v rest hb hx
    rw [← hf v o]
    exact ⟨e, (hk v).1 o⟩
  · intro v c hv hc
    rw [← hf v ((hk v).2 hv)] at hc ⊢
    exact h.cut v c ((hk v).2 hv) hc

/-- n things, one behind the other. -/
def pRep {α : Type} (P : List Int → Rs α) : Nat → List Int → Rs (List α)
  | 0, xs => .inr ([], xs)
  | n + 1, xs => then_ (P xs) fun a r => then_ (pRep P n r) fun l r' => .inr ((a :: l), r')
theorem Good.rep {α : Type} {P : List Int → Rs α} {f : α → List Int} {ok : α → Prop} (h : Good P f ok) : ∀ n, Good (pRep P n) (fun l => (l.map f).flatten) (fun l => l.length = n ∧ ∀ a ∈ l, ok a)
  | 0 => by
    refine ⟨?_, ?_, ?_⟩
    · rintro l rest ⟨h1, _⟩
      obtain rfl := List.eq_nil_of_length_eq_zero h1
      rfl
    · rintro xs l rest _ hx
      simp only [pRep, Sum.inr.injEq, Prod.mk.injEq] at hx
      obtain ⟨rfl, rfl⟩ := hx
      simp
    · rintro l c ⟨h1, _⟩ hc
      obtain rfl := List.eq_nil_of_length_eq_zero h1
      simp at hc
  | n + 1 => by
    have ih := h.rep n
    refine ⟨?_, ?_, ?_⟩
    · rintro l rest ⟨h1, h2⟩
      cases l with
      | nil => simp at h1
      | cons a l =>
        simp only [List.map_cons, List.flatten_cons, List.append_assoc]
        unfold pRep
        rw [h.put a _ (h2 a (List.mem_cons_self ..))]
        simp only [then_]
        have := ih.put l rest ⟨by simpa using h1, fun x hx => h2 x (List.mem_cons_of_mem _ hx)⟩
        rw [this]
    · rintro xs l rest hb hx
      obtain ⟨a, r', e1, hx⟩ := then_good hx
      obtain ⟨l', r'', e2, hx⟩ := then_good hx
      simp only [Sum.inr.injEq, Prod.mk.injEq] at hx
      obtain ⟨rfl, rfl⟩ := hx
      obtain ⟨x1, o1⟩ := h.back xs a r' hb e1
      subst x1
      obtain ⟨x2, o2, o3⟩ := ih.back _ _ _ (byt_right hb) e2
      refine ⟨?_, by simp [o2], ?_⟩
      · rw [x2]; simp
      · intro x hx
        rcases List.mem_cons.1 hx with rfl | hx
        · exact o1
        · exact o3 x hx
    · rintro l c ⟨h1, h2⟩ hc
      cases l with
      | nil => simp at h1
      | cons a l =>
        simp only [List.map_cons, List.flatten_cons, List.length_append] at hc ⊢
        have ok1 := h2 a (List.mem_cons_self ..)
        unfold pRep
        by_cases q : c < (f a).length
        · rw [List.take_append_of_le_length (Nat.le_of_lt q), h.cut a c ok1 q]
          rfl
        · rw [List.take_append, List.take_of_length_le (by omega), h.put a _ ok1]
          simp only [then_]
          have := ih.cut l (c - (f a).length) ⟨by simpa using h1, fun x hx => h2 x (List.mem_cons_of_mem _ hx)⟩ (by omega)
          simp only [this]

def pUint (xs : List Int) : Rs Nat := if (tk 0 0 xs).2.2 = 0 then .inr ((tk 0 0 xs).1, xs.drop (tk 0 0 xs).2.1) else .inl ((tk 0 0 xs).2.2 : Nat)
def pInt (most : Nat) (xs : List Int) : Rs Nat := then_ (pUint xs) fun n r => if most < n then .inl 4 else .inr (n, r)
def pBytes (most : Nat) (xs : List Int) : Rs (List Int) := then_ (pInt most xs) fun n r => if r.length < n then .inl 2 else .inr ((r.take n), (r.drop n))
def pBool : List Int → Rs Bool
  | [] => .inl 2
  | c :: r => if 1 < c then .inl 3 else .inr ((c == 1), r)

theorem tk_shortF' (f : Nat) : ∀ (i acc n c : Nat), n < 128 ^ (f + 1) → i + f ≤ 9 → c < (encF f n).length → tk i acc ((encF f n).take c) = (0, 0, 2) := by
  induction f with
  | zero =>
    intro i acc n c _ _ hc
    have : (encF 0 n).length = 1 := rfl
    obtain rfl : c = 0 := by omega
    rfl
  | succ f ih =>
    intro i acc n c hn hi hc
    rw [encF_succ] at hc ⊢
    by_cases h : n < 128
    · rw [if_pos h] at hc ⊢
      obtain rfl : c = 0 := by simpa using hc
      rfl
    · rw [if_neg h] at hc ⊢
      cases c with
      | zero => rfl
      | succ c =>
        rw [List.take_succ_cons, tk_cons', if_neg (by omega), if_neg (by omega), if_pos (by omega)]
        exact ih (i + 1) _ (n / 128) c (by rw [Nat.div_lt_iff_lt_mul (by decide)]; rw [Nat.pow_succ] at hn; exact hn) (by omega) (by simpa using hc)
theorem tk_short' {n : Nat} (h : n < 18446744073709551616) (c : Nat) (hc : c < (enc n).length) : tk 0 0 ((enc n).take c) = (0, 0, 2) := by
  rw [enc9 h] at hc ⊢
  exact tk_shortF' 9 0 0 n c (by omega) (by omega) hc

theorem good_uint : Good pUint enc (fun n => n < 18446744073709551616) := by
  refine ⟨?_, ?_, ?_⟩
  · intro n rest hn
    unfold pUint
    rw [tk_enc hn]
    simp
  · intro xs n rest hb hx
    unfold pUint at hx
    by_cases h : (tk 0 0 xs).2.2 = 0
    · rw [if_pos h] at hx
      simp only [Sum.inr.injEq, Prod.mk.injEq] at hx
      obtain ⟨e1, e2⟩ := hx
      have := tk_back (m := n) (u := (tk 0 0 xs).2.1) hb (Prod.ext e1 (Prod.ext rfl h))
      refine ⟨?_, this.2⟩
      rw [← e2, ← this.1, List.take_append_drop]
    · rw [if_neg h] at hx
      simp at hx
  · intro n c hn hc
    unfold pUint
    rw [tk_short' hn c hc]
    rfl
theorem good_int (most : Nat) (hm : most < 18446744073709551616) : Good (pInt most) enc (fun n => n ≤ most) := by
  refine ⟨?_, ?_, ?_⟩
  · intro n rest hn
    unfold pInt
    rw [good_uint.put n rest (by omega)]
    simp only [then_]
    rw [if_neg (by omega)]
  · intro xs n rest hb hx
    obtain ⟨n', r', e1, hx⟩ := then_good hx
    by_cases h : most < n'
    · rw [if_pos h] at hx; simp at hx
    · rw [if_neg h] at hx
      simp only [Sum.inr.injEq, Prod.mk.injEq] at hx
      obtain ⟨rfl, rfl⟩ := hx
      exact ⟨(good_uint.back xs _ _ hb e1).1, by omega⟩
  · intro n c hn hc
    unfold pInt
    rw [good_uint.cut n c (by omega) hc]
    rfl
theorem good_bytes (most : Nat) (hm : most < 18446744073709551616) : Good (pBytes most) (fun l => enc l.length ++ l) (fun l => l.length ≤ most ∧ Byt l) := by
  refine ⟨?_, ?_, ?_⟩
  · rintro l rest ⟨hl, _⟩
    unfold pBytes
    rw [List.append_assoc, (good_int most hm).put _ _ hl]
    simp only [then_]
    rw [if_neg (by simp), List.take_left, List.drop_left]
  · intro xs l rest hb hx
    obtain ⟨n, r', e1, hx⟩ := then_good hx
    obtain ⟨x1, o1⟩ := (good_int most hm).back xs _ _ hb e1
    by_cases h : r'.length < n
    · rw [if_pos h] at hx; simp at hx
    · rw [if_neg h] at hx
      simp only [Sum.inr.injEq, Prod.mk.injEq] at hx
      obtain ⟨rfl, rfl⟩ := hx
      have e2 : (r'.take n).length = n := by rw [List.length_take]; omega
      rw [e2, List.append_assoc, List.take_append_drop]
      refine ⟨x1, o1, ?_⟩
      rw [x1] at hb
      exact (byt_right hb).take n
  · rintro l c ⟨hl, _⟩ hc
    unfold pBytes
    rw [List.length_append] at hc
    by_cases q : c < (enc l.length).length
    · rw [List.take_append_of_le_length (Nat.le_of_lt q), (good_int most hm).cut _ c hl q]
      rfl
    · rw [List.take_append, List.take_of_length_le (by omega), (good_int most hm).put _ _ hl]
      simp only [then_]
      rw [if_pos (by rw [List.length_take]; omega)]
theorem good_bool : Good pBool enb (fun _ => True) := by
  refine ⟨?_, ?_, ?_⟩
  · intro b rest _
    cases b <;> simp [pBool, enb]
  · intro xs b rest hb hx
    cases xs with
    | nil => simp [pBool] at hx
    | cons c r =>
      have hc := hb c (List.mem_cons_self ..)
      simp only [pBool] at hx
      by_cases h : 1 < c
      · rw [if_pos h] at hx; simp at hx
      · rw [if_neg h] at hx
        simp only [Sum.inr.injEq, Prod.mk.injEq] at hx
        obtain ⟨rfl, rfl⟩ := hx
        refine ⟨?_, trivial⟩
        obtain rfl | rfl : c = 0 ∨ c = 1 := by omega
        · rfl
        · rfl
  · intro b c _ hc
    cases b <;> simp [enb] at hc <;> subst hc <;> rfl
end Go.Proofs.Ytbfcilfdeemnpaa

/-
  Stage 4, the lists alone: a name's bytes, a time's, their order, and how they are cut.
-/
import Derived.Test.YtghemebgkhopnaaBase
namespace Go.Proofs.Ytghemebgkhopnaa

/-- A name's bytes. -/
def nm : List Int → List Int
  | [] => [0, 1]
  | c :: t => if c = 0 then 0 :: 255 :: nm t else c :: nm t
/-- The order of texts. -/
def cmpL : List Int → List Int → Int
  | [], [] => 0
  | [], _ :: _ => -1
  | _ :: _, [] => 1
  | a :: s, b :: t => if a = b then cmpL s t else if a < b then -1 else 1
theorem cmpL_self : ∀ s, cmpL s s = 0
  | [] => rfl
  | a :: s => by simp [cmpL, cmpL_self s]
theorem cmpL_eq : ∀ s t, cmpL s t = 0 → s = t
  | [], [], _ => rfl
  | [], _ :: _, h => by simp [cmpL] at h
  | _ :: _, [], h => by simp [cmpL] at h
  | a :: s, b :: t, h => by
    unfold cmpL at h
    by_cases e : a = b
    · rw [if_pos e] at h; rw [e, cmpL_eq s t h]
    · rw [if_neg e] at h; split at h <;> simp at h
theorem cmpL_three : ∀ s t, cmpL s t = -1 ∨ cmpL s t = 0 ∨ cmpL s t = 1
  | [], [] => .inr (.inl rfl)
  | [], _ :: _ => .inl rfl
  | _ :: _, [] => .inr (.inr rfl)
  | a :: s, b :: t => by
    unfold cmpL
    split
    · exact cmpL_three s t
    · split <;> simp
theorem cmpL_neg : ∀ s t, cmpL t s = -cmpL s t
  | [], [] => rfl
  | [], _ :: _ => rfl
  | _ :: _, [] => rfl
  | a :: s, b :: t => by
    unfold cmpL
    by_cases e : a = b
    · rw [if_pos e, if_pos e.symm]; exact cmpL_neg s t
    · rw [if_neg e, if_neg (fun h => e h.symm)]
      by_cases l : a < b
      · rw [if_pos l, if_neg (by omega)]; rfl
      · rw [if_neg l, if_pos (by omega)]
theorem cmpL_nil (u : List Int) : 0 ≤ cmpL u [] := by
  cases u <;> simp [cmpL]
/-- Names' bytes, whatever stands behind: as the names; of one name as what stands behind. -/
theorem nm_cmp : ∀ (s t : List Int), Byt s → Byt t → ∀ u v, cmpL (nm s ++ u) (nm t ++ v) = if cmpL s t = 0 then cmpL u v else cmpL s t
  | [], [], _, _, u, v => by simp [nm, cmpL]
  | [], b :: t, _, h, u, v => by
    have hb := h b (List.mem_cons_self ..)
    by_cases e : b = 0
    · simp [nm, cmpL, e]
    · have : (0 : Int) ≠ b := fun h => e h.symm
      have l : (0 : Int) < b := by omega
      simp [nm, cmpL, e, this, l]
  | a :: s, [], h, _, u, v => by
    have hb := h a (List.mem_cons_self ..)
    by_cases e : a = 0
    · simp [nm, cmpL, e]
    · have l : ¬ a < 0 := by omega
      simp [nm, cmpL, e, l]
  | a :: s, b :: t, hs, ht, u, v => by
    have ha := hs a (List.mem_cons_self ..)
    have hb := ht b (List.mem_cons_self ..)
    have ih := nm_cmp s t (fun x hx => hs x (List.mem_cons_of_mem _ hx)) (fun x hx => ht x (List.mem_cons_of_mem _ hx)) u v
    by_cases e : a = b
    · subst e
      by_cases z : a = 0
      · simp [nm, cmpL, z, ih]
      · simp [nm, cmpL, z, ih]
    · by_cases l : a < b
      · by_cases z : a = 0
        · subst z
          have n : b ≠ 0 := fun h => e h.symm
          simp [nm, cmpL, n, e, l]
        · have n : b ≠ 0 := by omega
          simp [nm, cmpL, z, n, e, l]
      · have z : a ≠ 0 := by omega
        by_cases n : b = 0
        · subst n
          simp [nm, cmpL, z, l]
        · simp [nm, cmpL, z, n, e, l]
theorem nm_byte : ∀ (s : List Int), Byt s → Byt (nm s)
  | [], _ => by intro x hx; simp [nm] at hx; omega
  | a :: s, h => by
    have ih := nm_byte s (fun x hx => h x (List.mem_cons_of_mem _ hx))
    have ha := h a (List.mem_cons_self ..)
    intro x hx
    unfold nm at hx
    split at hx
    · rcases List.mem_cons.1 hx with rfl | hx
      · omega
      rcases List.mem_cons.1 hx with rfl | hx
      · omega
      exact ih x hx
    · rcases List.mem_cons.1 hx with rfl | hx
      · exact ha
      exact ih x hx
theorem nm_len : ∀ (s : List Int), 2 ≤ (nm s).length ∧ (nm s).length ≤ 2 * s.length + 2
  | [] => by simp [nm]
  | a :: s => by
    have ih := nm_len s
    unfold nm
    split <;> simp only [List.length_cons] <;> omega
/-- No name's bytes begin another one's. -/
theorem nm_prefix : ∀ (s t : List Int), ∀ u v, nm s ++ u <+: nm t ++ v → s = t ∧ u <+: v
  | [], [], u, v, h => by
    simp only [nm, List.cons_append, List.nil_append, List.cons_prefix_cons, true_and] at h
    exact ⟨rfl, h⟩
  | [], b :: t, u, v, h => by
    by_cases e : b = 0
    · simp [nm, e, List.cons_prefix_cons] at h
    · simp [nm, e, List.cons_prefix_cons] at h
      exact absurd h.1.symm e
  | a :: s, [], u, v, h => by
    by_cases e : a = 0
    · simp [nm, e, List.cons_prefix_cons] at h
    · simp [nm, e, List.cons_prefix_cons] at h
  | a :: s, b :: t, u, v, h => by
    by_cases e : a = 0
    · by_cases n : b = 0
      · simp only [nm, e, n, if_true, List.cons_append, List.cons_prefix_cons, true_and] at h
        have ih := nm_prefix s t u v h
        exact ⟨by rw [e, n, ih.1], ih.2⟩
      · simp [nm, e, n, List.cons_prefix_cons] at h
        exact absurd h.1.symm n
    · by_cases n : b = 0
      · simp [nm, e, n, List.cons_prefix_cons] at h
      · simp only [nm, e, n, if_false, List.cons_append, List.cons_prefix_cons] at h
        have ih := nm_prefix s t u v h.2
        exact ⟨by rw [h.1, ih.1], ih.2⟩

/-- A name off the front. -/
def cutL : List Int → Option (List Int × List Int)
  | [] => none
  | [c] => if c = 0 then none else none
  | c :: d :: r => if c = 0 then (if d = 1 then some ([], r) else if d = 255 then (cutL r).map fun p => (0 :: p.1, p.2) else none) else (cutL (d :: r)).map fun p => (c :: p.1, p.2)
theorem cutL_nm : ∀ (s : List Int) (u : List Int), cutL (nm s ++ u) = some (s, u)
  | [], u => by simp [nm, cutL]
  | a :: s, u => by
    have ih := cutL_nm s u
    by_cases e : a = 0
    · simp [nm, e, cutL, ih]
    · have h := (nm_len s).1
      obtain ⟨d, r, hr⟩ : ∃ d r, nm s ++ u = d :: r := by
        cases hh : nm s ++ u with
        | nil => have := congrArg List.length hh; rw [List.length_append, List.length_nil] at this; omega
        | cons d r => exact ⟨d, r, rfl⟩
      rw [hr] at ih
      simp [nm, e, cutL, hr, ih]
theorem nm_of_cutL : ∀ (n : Nat) (b s r : List Int), b.length ≤ n → cutL b = some (s, r) → b = nm s ++ r
  | 0, b, s, r, hn, h => by
    have : b = [] := List.length_eq_zero_iff.1 (by omega)
    subst this
    simp [cutL] at h
  | n + 1, [], s, r, _, h => by simp [cutL] at h
  | n + 1, [c], s, r, _, h => by simp [cutL] at h
  | n + 1, c :: d :: t, s, r, hn, h => by
    simp only [List.length_cons] at hn
    unfold cutL at h
    by_cases e : c = 0
    · rw [if_pos e] at h
      by_cases e1 : d = 1
      · rw [if_pos e1] at h
        simp only [Option.some.injEq, Prod.mk.injEq] at h
        rw [← h.1, ← h.2, e, e1]; rfl
      · rw [if_neg e1] at h
        by_cases e2 : d = 255
        · rw [if_pos e2] at h
          obtain ⟨p, hp, he⟩ := Option.map_eq_some_iff.1 h
          simp only [Prod.mk.injEq] at he
          have := nm_of_cutL n t p.1 p.2 (by omega) hp
          rw [← he.1, ← he.2, e, e2, this]
          simp [nm]
        · rw [if_neg e2] at h; simp at h
    · rw [if_neg e] at h
      obtain ⟨p, hp, he⟩ := Option.map_eq_some_iff.1 h
      simp only [Prod.mk.injEq] at he
      have := nm_of_cutL n (d :: t) p.1 p.2 (by simp only [List.length_cons]; omega) hp
      rw [← he.1, ← he.2, this]
      simp [nm, e]

/-- A number's n bytes, each turned, the great ones first. -/
def beL : Nat → Nat → List Int
  | 0, _ => []
  | n + 1, T => (255 - ((T / 256 ^ n % 256 : Nat) : Int)) :: beL n T
theorem beL_len : ∀ n T, (beL n T).length = n
  | 0, _ => rfl
  | n + 1, T => by simp [beL, beL_len n]
theorem beL_byte : ∀ n T, Byt (beL n T)
  | 0, _ => fun x hx => by simp [beL] at hx
  | n + 1, T => fun x hx => by
    rcases List.mem_cons.1 hx with rfl | h
    · omega
    · exact beL_byte n T x h
theorem mod_split (a n : Nat) : a % 256 ^ (n + 1) = a / 256 ^ n % 256 * 256 ^ n + a % 256 ^ n := by
  rw [Nat.pow_succ, Nat.mod_mul, Nat.mul_comm (256 ^ n), Nat.add_comm]
theorem beL_cmp : ∀ n a b, cmpL (beL n a) (beL n b) = if a % 256 ^ n = b % 256 ^ n then 0 else if b % 256 ^ n < a % 256 ^ n then -1 else 1
  | 0, a, b => by simp [beL, cmpL, Nat.mod_one]
  | n + 1, a, b => by
    have ih := beL_cmp n a b
    have ha := mod_split a n
    have hb := mod_split b n
    have la : a % 256 ^ n < 256 ^ n := Nat.mod_lt _ (Nat.pow_pos (by omega))
    have lb : b % 256 ^ n < 256 ^ n := Nat.mod_lt _ (Nat.pow_pos (by omega))
    have xa : a / 256 ^ n % 256 < 256 := Nat.mod_lt _ (by omega)
    have xb : b / 256 ^ n % 256 < 256 := Nat.mod_lt _ (by omega)
    unfold beL cmpL
    generalize a / 256 ^ n % 256 = x at *
    generalize b / 256 ^ n % 256 = y at *
    generalize 256 ^ n = P at *
    rw [ih, ha, hb]
    generalize a % P = p at *
    generalize b % P = q at *
    by_cases e : x = y
    · subst e
      simp
    · rw [if_neg (by omega)]
      by_cases l : y < x
      · have : y * P + P ≤ x * P := by rw [← Nat.succ_mul]; exact Nat.mul_le_mul_right _ l
        rw [if_pos (by omega), if_neg (by omega), if_pos (by omega)]
      · have : x * P + P ≤ y * P := by rw [← Nat.succ_mul]; exact Nat.mul_le_mul_right _ (by omega)
        rw [if_neg (by omega), if_neg (by omega), if_neg (by omega)]

/-- A key: its texts as bytes, its time. -/
structure KV where
  row : List Int
  fam : List Int
  qual : List Int
  time : Nat
def KV.byt (k : KV) : Prop := Byt k.row ∧ Byt k.fam ∧ Byt k.qual ∧ k.time < 18446744073709551616
abbrev KV.right (k : KV) : Prop := 1 ≤ k.row.length ∧ k.row.length ≤ 32 ∧ 1 ≤ k.fam.length ∧ k.fam.length ≤ 32 ∧ k.qual.length ≤ 32
def keyL (k : KV) : List Int := nm k.row ++ (nm k.fam ++ (nm k.qual ++ beL 8 k.time))
def cmpT (a b : Nat) : Int := if a = b then 0 else if b < a then -1 else 1
/-- The order of keys. -/
def cmpK (a b : KV) : Int :=
  if cmpL a.row b.row = 0 then (if cmpL a.fam b.fam = 0 then (if cmpL a.qual b.qual = 0 then cmpT a.time b.time else cmpL a.qual b.qual) else cmpL a.fam b.fam) else cmpL a.row b.row
theorem beL8_cmp (a b : Nat) (ha : a < 18446744073709551616) (hb : b < 18446744073709551616) : cmpL (beL 8 a) (beL 8 b) = cmpT a b := by
  have h := beL_cmp 8 a b
  rw [show (256 : Nat) ^ 8 = 18446744073709551616 from rfl, Nat.mod_eq_of_lt ha, Nat.mod_eq_of_lt hb] at h
  exact h
/-- Keys stand as their bytes do. -/
theorem keyL_cmp (a b : KV) (ha : a.byt) (hb : b.byt) : cmpL (keyL a) (keyL b) = cmpK a b := by
  unfold keyL cmpK
  rw [nm_cmp _ _ ha.1 hb.1, nm_cmp _ _ ha.2.1 hb.2.1, nm_cmp _ _ ha.2.2.1 hb.2.2.1, beL8_cmp _ _ ha.2.2.2 hb.2.2.2]
theorem cmpT_zero (a b : Nat) : cmpT a b = 0 ↔ a = b := by
  unfold cmpT
  constructor
  · intro h; split at h
    · assumption
    · split at h <;> simp at h
  · intro h; rw [if_pos h]
theorem cmpT_neg (a b : Nat) : cmpT b a = -cmpT a b := by
  unfold cmpT
  by_cases e : a = b
  · rw [if_pos e, if_pos e.symm]; rfl
  · rw [if_neg e, if_neg (fun h => e h.symm)]
    by_cases l : b < a
    · rw [if_pos l, if_neg (by omega)]; rfl
    · rw [if_neg l, if_pos (by omega)]
theorem cmpK_zero (a b : KV) : cmpK a b = 0 ↔ a = b := by
  constructor
  · intro h
    unfold cmpK at h
    by_cases e1 : cmpL a.row b.row = 0
    · rw [if_pos e1] at h
      by_cases e2 : cmpL a.fam b.fam = 0
      · rw [if_pos e2] at h
        by_cases e3 : cmpL a.qual b.qual = 0
        · rw [if_pos e3] at h
          have h1 := cmpL_eq _ _ e1
          have h2 := cmpL_eq _ _ e2
          have h3 := cmpL_eq _ _ e3
          have h4 := (cmpT_zero _ _).1 h
          cases a; cases b
          simp_all
        · rw [if_neg e3] at h; exact absurd h e3
      · rw [if_neg e2] at h; exact absurd h e2
    · rw [if_neg e1] at h; exact absurd h e1
  · rintro rfl
    simp [cmpK, cmpL_self, cmpT]
theorem cmpK_neg (a b : KV) : cmpK b a = -cmpK a b := by
  unfold cmpK
  rw [cmpL_neg a.row b.row, cmpL_neg a.fam b.fam, cmpL_neg a.qual b.qual, cmpT_neg a.time b.time]
  simp only [Int.neg_eq_zero]
  split
  · split
    · split <;> rfl
    · rfl
  · rfl
/-- No key's bytes begin another one's. -/
theorem keyL_prefix (a b : KV) (h : keyL a <+: keyL b) : (keyL a).length = (keyL b).length := by
  unfold keyL at *
  obtain ⟨e1, h⟩ := nm_prefix _ _ _ _ h
  obtain ⟨e2, h⟩ := nm_prefix _ _ _ _ h
  obtain ⟨e3, h⟩ := nm_prefix _ _ _ _ h
  rw [e1, e2, e3]
  simp only [List.length_append, beL_len]
theorem keyL_len (k : KV) : 14 ≤ (keyL k).length := by
  unfold keyL
  have h1 := (nm_len k.row).1
  have h2 := (nm_len k.fam).1
  have h3 := (nm_len k.qual).1
  simp only [List.length_append, beL_len]
  omega
theorem keyL_byte (k : KV) (h : k.byt) : Byt (keyL k) := by
  intro x hx
  unfold keyL at hx
  simp only [List.mem_append] at hx
  rcases hx with hx | hx | hx | hx
  · exact nm_byte _ h.1 x hx
  · exact nm_byte _ h.2.1 x hx
  · exact nm_byte _ h.2.2.1 x hx
  · exact beL_byte _ _ x hx
def colK (a b : KV) : Bool := decide (a.row = b.row ∧ a.fam = b.fam ∧ a.qual = b.qual)
theorem cmpL_sandwich (s t : List Int) (h1 : cmpL s t ≤ 0) (h2 : cmpL t s ≤ 0) : s = t := by
  rw [cmpL_neg s t] at h2
  exact cmpL_eq _ _ (by omega)
/-- Between two keys of one column stands no key of another. -/
theorem colK_between (a b c : KV) (hb : b.row = a.row ∧ b.fam = a.fam ∧ b.qual = a.qual) (h1 : cmpK a c ≤ 0) (h2 : cmpK c b ≤ 0) : a.row = c.row ∧ a.fam = c.fam ∧ a.qual = c.qual := by
  unfold cmpK at h1 h2
  rw [hb.1, hb.2.1, hb.2.2] at h2
  rw [cmpL_neg a.row c.row, cmpL_neg a.fam c.fam, cmpL_neg a.qual c.qual] at h2
  simp only [Int.neg_eq_zero] at h2
  by_cases e1 : cmpL a.row c.row = 0
  · rw [if_pos e1] at h1 h2
    by_cases e2 : cmpL a.fam c.fam = 0
    · rw [if_pos e2] at h1 h2
      by_cases e3 : cmpL a.qual c.qual = 0
      · exact ⟨cmpL_eq _ _ e1, cmpL_eq _ _ e2, cmpL_eq _ _ e3⟩
      · rw [if_neg e3] at h1 h2; omega
    · rw [if_neg e2] at h1 h2; omega
  · rw [if_neg e1] at h1 h2; omega
theorem cmpK_col (a b : KV) (h : a.row = b.row ∧ a.fam = b.fam ∧ a.qual = b.qual) : cmpK a b = cmpT a.time b.time := by
  unfold cmpK
  rw [h.1, h.2.1, h.2.2, cmpL_self, cmpL_self, cmpL_self]
  rfl
/-- Behind 33 bytes of 255 stands no name of up to 32. -/
theorem nm_top : ∀ (s : List Int) (u : List Int) (k : Nat), Byt s → s.length ≤ k → cmpL (nm s ++ u) (List.replicate (k + 1) 255) = -1
  | [], u, k, _, _ => by simp [nm, List.replicate_succ, cmpL]
  | a :: s, u, k + 1, h, hk => by
    have ha := h a (List.mem_cons_self ..)
    have ih := nm_top s u k (fun x hx => h x (List.mem_cons_of_mem _ hx)) (by simpa using hk)
    rw [List.replicate_succ]
    by_cases e : a = 0
    · simp [nm, e, cmpL]
    · by_cases f : a = 255
      · subst f
        simp [nm, cmpL, ih]
      · have l : a < 255 := by omega
        simp [nm, e, cmpL, f, l]
/-- Where a key stands, beside a name's bytes. -/
theorem keyL_below (k : KV) (t : List Int) (hk : k.byt) (ht : Byt t) : cmpL (keyL k) (nm t) < 0 ↔ cmpL k.row t < 0 := by
  have h := nm_cmp k.row t hk.1 ht (nm k.fam ++ (nm k.qual ++ beL 8 k.time)) []
  rw [List.append_nil] at h
  unfold keyL
  rw [h]
  have hn := cmpL_nil (nm k.fam ++ (nm k.qual ++ beL 8 k.time))
  by_cases e : cmpL k.row t = 0
  · rw [if_pos e, e]; omega
  · rw [if_neg e]

/-- The number of bytes that were turned. -/
def ofBe : List Int → Nat → Nat
  | [], t => t
  | c :: r, t => ofBe r (t * 256 + (255 - c).toNat)
theorem ofBe_beL : ∀ n T t, ofBe (beL n T) t = t * 256 ^ n + T % 256 ^ n
  | 0, T, t => by simp [beL, ofBe, Nat.mod_one]
  | n + 1, T, t => by
    have xa : T / 256 ^ n % 256 < 256 := Nat.mod_lt _ (by omega)
    rw [beL, ofBe, ofBe_beL n T, mod_split T n, Nat.pow_succ]
    generalize T / 256 ^ n % 256 = x at *
    rw [show (255 - (255 - (x : Int))).toNat = x by omega, Nat.add_mul, Nat.mul_assoc, Nat.mul_comm 256, Nat.add_assoc]
theorem ofBe_lt : ∀ (l : List Int), Byt l → ∀ t, ofBe l t < (t + 1) * 256 ^ l.length
  | [], _, t => by simp [ofBe]
  | c :: r, h, t => by
    have hc := h c (List.mem_cons_self ..)
    have ih := ofBe_lt r (fun x hx => h x (List.mem_cons_of_mem _ hx)) (t * 256 + (255 - c).toNat)
    rw [ofBe, List.length_cons, Nat.pow_succ]
    refine Nat.lt_of_lt_of_le ih ?_
    rw [Nat.mul_comm (256 ^ r.length), ← Nat.mul_assoc]
    exact Nat.mul_le_mul_right _ (by omega)
theorem beL_high : ∀ n T t, beL n (t * 256 ^ n + T) = beL n T
  | 0, _, _ => rfl
  | n + 1, T, t => by
    have h : t * 256 ^ (n + 1) + T = (t * 256) * 256 ^ n + T := by rw [Nat.pow_succ, Nat.mul_comm (256 ^ n), Nat.mul_assoc]
    rw [beL, beL, h, beL_high n T (t * 256)]
    congr 3
    rw [Nat.mul_comm (t * 256), Nat.mul_add_div (Nat.pow_pos (by omega))]
    omega
theorem ofBe_ge : ∀ (l : List Int), ∀ t, t * 256 ^ l.length ≤ ofBe l t
  | [], t => by simp [ofBe]
  | c :: r, t => by
    rw [ofBe, List.length_cons, Nat.pow_succ, Nat.mul_comm (256 ^ r.length), ← Nat.mul_assoc]
    exact Nat.le_trans (Nat.mul_le_mul_right _ (by omega)) (ofBe_ge r _)
theorem ofBe_div (l : List Int) (h : Byt l) (t : Nat) : ofBe l t / 256 ^ l.length = t := by
  have h1 := ofBe_ge l t
  have h2 := ofBe_lt l h t
  exact Nat.div_eq_of_lt_le h1 h2
theorem byt_of_nm : ∀ (s : List Int), Byt (nm s) → Byt s
  | [], _ => fun x hx => by simp at hx
  | a :: s, h => by
    unfold nm at h
    intro x hx
    by_cases e : a = 0
    · rw [if_pos e] at h
      have ih := byt_of_nm s (fun y hy => h y (List.mem_cons_of_mem _ (List.mem_cons_of_mem _ hy)))
      rcases List.mem_cons.1 hx with rfl | hx
      · omega
      · exact ih x hx
    · rw [if_neg e] at h
      have ih := byt_of_nm s (fun y hy => h y (List.mem_cons_of_mem _ hy))
      rcases List.mem_cons.1 hx with rfl | hx
      · exact h x (List.mem_cons_self ..)
      · exact ih x hx
theorem beL_ofBe : ∀ (l : List Int), Byt l → ∀ t, beL l.length (ofBe l t) = l
  | [], _, _ => rfl
  | c :: r, h, t => by
    have hc := h c (List.mem_cons_self ..)
    have hr : Byt r := fun x hx => h x (List.mem_cons_of_mem _ hx)
    have ih := beL_ofBe r hr (t * 256 + (255 - c).toNat)
    rw [List.length_cons, beL, ofBe, ih]
    have hd : ofBe r (t * 256 + (255 - c).toNat) / 256 ^ r.length = t * 256 + (255 - c).toNat := ofBe_div r hr _
    rw [hd]
    congr 1
    omega
/-- A key of bytes. -/
def readL (b : List Int) : Option KV :=
  (cutL b).bind fun p => (cutL p.2).bind fun q => (cutL q.2).bind fun r =>
    if r.2.length = 8 ∧ KV.right ⟨p.1, q.1, r.1, ofBe r.2 0⟩ then some ⟨p.1, q.1, r.1, ofBe r.2 0⟩ else none
theorem readL_keyL (k : KV) (hk : k.byt) (hr : k.right) : readL (keyL k) = some k := by
  have h8 : ofBe (beL 8 k.time) 0 = k.time := by
    rw [ofBe_beL, Nat.zero_mul, Nat.zero_add]
    exact Nat.mod_eq_of_lt hk.2.2.2
  unfold readL keyL
  simp only [cutL_nm, Option.bind_some, beL_len, h8]
  exact if_pos ⟨trivial, hr⟩
theorem cutL_byte {b s r : List Int} (hb : Byt b) (h : cutL b = some (s, r)) : b = nm s ++ r ∧ Byt s ∧ Byt r := by
  have e := nm_of_cutL b.length b s r (Nat.le_refl _) h
  have hr : Byt r := fun x hx => hb x (by rw [e]; exact List.mem_append_right _ hx)
  have hn : Byt (nm s) := fun x hx => hb x (by rw [e]; exact List.mem_append_left _ hx)
  exact ⟨e, byt_of_nm s hn, hr⟩
theorem keyL_readL {b : List Int} {k : KV} (hb : Byt b) (h : readL b = some k) : keyL k = b ∧ k.right ∧ k.byt := by
  unfold readL at h
  obtain ⟨⟨r, b1⟩, h1, h⟩ := Option.bind_eq_some_iff.1 h
  obtain ⟨⟨f, b2⟩, h2, h⟩ := Option.bind_eq_some_iff.1 h
  obtain ⟨⟨q, b3⟩, h3, h⟩ := Option.bind_eq_some_iff.1 h
  obtain ⟨e1, r1, k1⟩ := cutL_byte hb h1
  obtain ⟨e2, r2, k2⟩ := cutL_byte k1 h2
  obtain ⟨e3, r3, k3⟩ := cutL_byte k2 h3
  split at h
  · next hc =>
    obtain rfl := Option.some.inj h
    have hl := ofBe_lt b3 k3 0
    have hx := beL_ofBe b3 k3 0
    rw [hc.1] at hl hx
    refine ⟨?_, hc.2, r1, r2, r3, ?_⟩
    · show nm r ++ (nm f ++ (nm q ++ beL 8 (ofBe b3 0))) = b
      rw [hx, e1, e2, e3]
    · show ofBe b3 0 < 18446744073709551616
      simpa using hl
  · simp at h

end Go.Proofs.Ytghemebgkhopnaa

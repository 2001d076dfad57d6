/-
  A block of bytes that is written; a number's bytes.
-/
import Derived.Test.YtmidjiailinjmaaCConv
import Derived.Test.YtmidjiailinjmaaPBits
namespace Go.Proofs.Ytmidjiailinjmaa
open Go.RowKit

theorem add_at' (b i j : Nat) : (⟨b, i, none⟩ : Addr).add j = ⟨b, i + j, none⟩ := by unfold Addr.add; split <;> simp_all
/-- A block of many cells. -/
def Arr (w : World) (b : Nat) (t : TypeId) (cs : List Value) : Prop := w.heap[b]? = some (.cells cs.toArray t)
theorem Arr.lt {w : World} {b : Nat} {t : TypeId} {cs : List Value} (h : Arr w b t cs) : b < w.heap.size := (Array.getElem?_eq_some_iff.1 h).1
theorem Arr.cell {w : World} {b : Nat} {t : TypeId} {cs : List Value} (h : Arr w b t cs) (j : Nat) : w.cell? ⟨b, j, none⟩ = cs[j]? := by
  rw [cell_of_row w b j _ _ _ h]; simp
theorem Arr.free {w : World} {b : Nat} {t : TypeId} {cs : List Value} (h : Arr w b t cs) (j : Nat) : w.frozen? ⟨b, j, none⟩ = false := frozen_of_row w b j _ _ h
theorem Arr.set {w : World} {b : Nat} {t : TypeId} {cs : List Value} (h : Arr w b t cs) (j : Nat) (v : Value) : Arr (w.setCell ⟨b, j, none⟩ v) b t (cs.set j v) := by
  unfold Arr
  rw [heap_setCell_same w b j _ t v h]
  simp
theorem bv_set (xs : List Int) (j : Nat) (x : Int) : (bv xs).set j (.int .u8 x) = bv (xs.set j x) := by
  simp [bv, List.map_set]
/-- A number's k lowest bytes, the great ones first. -/
def be : Nat → Nat → List Int
  | 0, _ => []
  | k + 1, N => ((N / 256 ^ k % 256 : Nat) : Int) :: be k N
theorem be_len : ∀ k N, (be k N).length = k
  | 0, _ => rfl
  | k + 1, N => by rw [be, List.length_cons, be_len k N]
theorem be_byte : ∀ k N, Byt (be k N)
  | 0, _ => fun x hx => by simp [be] at hx
  | k + 1, N => fun x hx => by
    rcases List.mem_cons.1 hx with rfl | hx
    · omega
    · exact be_byte k N x hx
/-- A row's bytes while they are laid, from the end. -/
def rowA (j N : Nat) : List Int := 112 :: (List.replicate (6 - j) 0 ++ be j N)
theorem rowA_len (j N : Nat) (h : j ≤ 6) : (rowA j N).length = 7 := by
  unfold rowA
  simp [be_len]
  omega
theorem rowA_byte (j N : Nat) : Byt (rowA j N) := by
  intro x hx
  unfold rowA at hx
  rcases List.mem_cons.1 hx with rfl | hx
  · omega
  rcases List.mem_append.1 hx with hx | hx
  · have := (List.mem_replicate.1 hx).2
    omega
  · exact be_byte _ _ x hx
theorem rowA_set (j N : Nat) (h : j < 6) : (rowA j N).set (6 - j) ((N / 256 ^ j % 256 : Nat) : Int) = rowA (j + 1) N := by
  unfold rowA
  obtain ⟨r, hr⟩ : ∃ r, 6 - j = r + 1 := ⟨5 - j, by omega⟩
  rw [hr, show 6 - (j + 1) = r by omega, List.set_cons_succ, List.replicate_succ', List.append_assoc]
  rw [List.set_append_right _ _ (by simp)]
  simp [be]
/-- The number of some bytes, the great ones first. -/
def beN : List Int → Nat → Nat
  | [], t => t
  | c :: r, t => beN r (t * 256 + c.toNat)
theorem beN_append : ∀ (l : List Int) (c : Int) (t : Nat), beN (l ++ [c]) t = beN l t * 256 + c.toNat
  | [], c, t => rfl
  | a :: l, c, t => by rw [List.cons_append, beN, beN, beN_append l c]
theorem beN_lt : ∀ (l : List Int), Byt l → ∀ t, beN l t < (t + 1) * 256 ^ l.length
  | [], _, t => by simp [beN]
  | c :: r, h, t => by
    have hc := h c (List.mem_cons_self ..)
    have ih := beN_lt r (fun x hx => h x (List.mem_cons_of_mem _ hx)) (t * 256 + c.toNat)
    rw [beN, List.length_cons, Nat.pow_succ]
    refine Nat.lt_of_lt_of_le ih ?_
    rw [Nat.mul_comm (256 ^ r.length), ← Nat.mul_assoc]
    exact Nat.mul_le_mul_right _ (by omega)
theorem beN_ge : ∀ (l : List Int), ∀ t, t * 256 ^ l.length ≤ beN l t
  | [], t => by simp [beN]
  | c :: r, t => by
    rw [beN, List.length_cons, Nat.pow_succ, Nat.mul_comm (256 ^ r.length), ← Nat.mul_assoc]
    exact Nat.le_trans (Nat.mul_le_mul_right _ (by omega)) (beN_ge r _)
theorem be_beN : ∀ (l : List Int), Byt l → ∀ t, be l.length (beN l t) = l
  | [], _, _ => rfl
  | c :: r, h, t => by
    have hc := h c (List.mem_cons_self ..)
    have hr : Byt r := fun x hx => h x (List.mem_cons_of_mem _ hx)
    have ih := be_beN r hr (t * 256 + c.toNat)
    have h1 := beN_ge r (t * 256 + c.toNat)
    have h2 := beN_lt r hr (t * 256 + c.toNat)
    rw [List.length_cons, be, beN, ih]
    have hd : beN r (t * 256 + c.toNat) / 256 ^ r.length = t * 256 + c.toNat := Nat.div_eq_of_lt_le h1 h2
    rw [hd]
    congr 1
    omega
theorem mod_be (a n : Nat) : a % 256 ^ (n + 1) = a / 256 ^ n % 256 * 256 ^ n + a % 256 ^ n := by
  rw [Nat.pow_succ, Nat.mod_mul, Nat.mul_comm (256 ^ n), Nat.add_comm]
theorem be_inj : ∀ k M N, be k M = be k N → M % 256 ^ k = N % 256 ^ k
  | 0, M, N, _ => by simp [Nat.mod_one]
  | k + 1, M, N, h => by
    rw [be, be] at h
    have h1 := (List.cons.inj h).1
    have h2 := be_inj k M N (List.cons.inj h).2
    rw [mod_be, mod_be, h2]
    congr 2
    omega
end Go.Proofs.Ytmidjiailinjmaa

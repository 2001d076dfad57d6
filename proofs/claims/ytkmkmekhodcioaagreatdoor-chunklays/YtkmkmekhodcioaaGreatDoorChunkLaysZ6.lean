/-
  Texts in one: PItems, RItems7, Laws, RDefs, Parse, ThrG, CkMath, Same.
-/
import Derived.Test.YtkmkmekhodcioaaGreatDoorChunkLaysZ5
import Derived.Test.YtkmkmekhodcioaaGreatDoorChunkLaysZ1
import Derived.Test.YtkmkmekhodcioaaGreatDoorChunkLaysZ0
import Derived.Deep.QuietTactic
import Derived.BigQuiet
namespace Go.Proofs.YtkmkmekhodcioaaGreatDoor
open Go.RowKit

/-- The items from a key on, below another one. -/
def btw (a b : List Int) (l : List It) : List It := (ge a l).filter fun x => decide (cmpL x.k b < 0)
theorem Srt.ofGe {l : List It} (h : Srt l) (k : List Int) : Srt (ge k l) := List.Pairwise.filter _ h
theorem low_all {F : List It} {b : List Int} (h : ∀ x ∈ F, cmpL x.k b < 0) : (F.filter fun x => decide (cmpL x.k b < 0)) = F := List.filter_eq_self.2 fun x hx => decide_eq_true (h x hx)
theorem low_stop {F pre post : List It} {x : It} {b : List Int} (hs : Srt F) (e : pre ++ x :: post = F) (h : ∀ z ∈ pre, cmpL z.k b < 0) (hx : ¬ cmpL x.k b < 0) : (F.filter fun x => decide (cmpL x.k b < 0)) = pre := by
  subst e
  have h2 : ∀ z ∈ x :: post, ¬ cmpL z.k b < 0 := fun z hz => by
    rcases List.mem_cons.1 hz with rfl | hz
    · exact hx
    · intro hlt
      exact hx (cmpL_lt_trans _ _ _ (hs.app.2.1.cons.1 z hz) hlt)
  rw [List.filter_append, low_all h, List.filter_eq_nil_iff.2 fun z hz => by simpa using h2 z hz, List.append_nil]
theorem low_go {F pre post : List It} {x : It} {b : List Int} (e : pre ++ x :: post = F) (h : ∀ z ∈ pre, cmpL z.k b < 0) (hx : cmpL x.k b < 0) : ∃ r, (F.filter fun x => decide (cmpL x.k b < 0)) = pre ++ x :: r := by
  subst e
  refine ⟨post.filter fun x => decide (cmpL x.k b < 0), ?_⟩
  rw [List.filter_append, low_all h, List.filter_cons, if_pos (by simpa using hx)]

theorem belowDrewN {B : Nat} {a w : World} (h : Below B a w) (q : Nat) : Below B a (w.drewN q) := ⟨h.os, h.tape, h.output, h.size, h.block⟩
/-- What Items answers. -/
def ItemsPost (w : World) (l : List It) (a b : List Int) (m : Int) (e : Ending) (w' : World) : Prop := ∃ ao n cap ps t, e = .returned (.tuple #[.slice ao n cap, .bool t]) ∧ IL w' ao n cap ps ∧ ps.map IP.it = (btw a b l).take m.toNat ∧ t = decide (m.toNat < (btw a b l).length) ∧ Below w.heap.size w w'

set_option maxHeartbeats 4000000 in
set_option maxRecDepth 100000 in
theorem titems_any (w : World) (v : Value) (l : List It) (lo hi : List Int) (xo ho : Option Addr) (xn xc hn hc : Nat) (m : Int) (h : TT w v l) (hs : Srt l) (hx : Sl w xo xn xc lo) (hh : Sl w ho hn hc hi) (hl : l.length ≤ 50000) (hsz : ∀ x ∈ l, x.k.length ≤ 1000000 ∧ x.v.length ≤ 1000000) :
    Calls Tryz.prog 68 #[v, .slice xo xn xc, .slice ho hn hc, .int .i64 m] w (ItemsPost w l lo hi m) := by
  obtain ⟨Wa, hWa⟩ : ∃ W, W = w.alloc (.cells #[.slice ho hn hc] 23) := ⟨_, rfl⟩
  obtain ⟨Wb, hWb⟩ : ∃ W, W = Wa.alloc (.cells #[.int .i64 m] 3) := ⟨_, rfl⟩
  obtain ⟨Wc, hWc⟩ : ∃ W, W = Wb.alloc (.cells #[.slice none 0 0] 30) := ⟨_, rfl⟩
  obtain ⟨Wd, hWd⟩ : ∃ W, W = Wc.alloc (.cells #[.bool false] 4) := ⟨_, rfl⟩
  have Ba : Below w.heap.size w Wa := by rw [hWa]; exact (Below.refl _ w).alloc (Nat.le_refl _) _
  have Bb : Below Wa.heap.size Wa Wb := by rw [hWb]; exact (Below.refl _ Wa).alloc (Nat.le_refl _) _
  have Bc : Below Wb.heap.size Wb Wc := by rw [hWc]; exact (Below.refl _ Wb).alloc (Nat.le_refl _) _
  have Bd : Below Wc.heap.size Wc Wd := by rw [hWd]; exact (Below.refl _ Wc).alloc (Nat.le_refl _) _
  have sa : Wa.heap.size = w.heap.size + 1 := by rw [hWa]; exact Array.size_push ..
  have sb : Wb.heap.size = w.heap.size + 2 := by rw [hWb]; exact (Array.size_push ..).trans (by rw [sa])
  have sc : Wc.heap.size = w.heap.size + 3 := by rw [hWc]; exact (Array.size_push ..).trans (by rw [sb])
  have A1 : Arr Wa w.heap.size 23 [.slice ho hn hc] := by rw [hWa]; exact heap_alloc_new w _
  have A2 : Arr Wb (w.heap.size + 1) 3 [.int .i64 m] := by rw [hWb, ← sa]; exact heap_alloc_new Wa _
  have A3 : Arr Wc (w.heap.size + 2) 30 [.slice none 0 0] := by rw [hWc, ← sb]; exact heap_alloc_new Wb _
  have A4 : Arr Wd (w.heap.size + 3) 4 [.bool false] := by rw [hWd, ← sc]; exact heap_alloc_new Wc _
  have A3 := arr_below A3 Bd
  have A2 := arr_below (arr_below A2 Bc) Bd
  have A1 := arr_below (arr_below (arr_below A1 Bb) Bc) Bd
  have B0 : Below w.heap.size w Wd := ((Ba.trans (Bb.mono Ba.size)).trans (Bc.mono (by omega))).trans (Bd.mono (by omega))
  have L0 : LI Wd (w.heap.size + 2) w.heap.size [] (.slice none 0 0) [] := ⟨A3, World.ownsRow_nil Wd _ _ 2, rfl, fun _ h => by simp at h⟩
  have CS := shared_at w Wd v l h B0
  obtain ⟨po, rfl⟩ := h.ptr
  clear Ba Bb Bc Bd sa sb sc A3
  go_enter Tryz.func68, Tryz.ntmps68
  go_wp2_with fail
  rw [← hWa, ← hWb, ← hWc, ← hWd]
  clear hWa hWb hWc hWd
  refine CS.mono ?_
  rintro e w1 ⟨q, rfl, hT, hw1⟩
  obtain rfl := hw1.symm
  clear CS
  have CW := walk_fuel w 104 #[.pointer (some ⟨w.heap.size, 0, none⟩), .pointer (some ⟨w.heap.size + 2, 0, none⟩), .pointer (some ⟨w.heap.size + 1, 0, none⟩), .pointer (some ⟨w.heap.size + 3, 0, none⟩)] (enters_of Tryz.func104 (by kernel_rfl) rfl)
    (ItI w w.heap.size (.slice ho hn hc) m hi) (ItS w w.heap.size m hi (ge lo l)) (fun x => x.k.length ≤ 1000000 ∧ x.v.length ≤ 1000000) (ge lo l)
    (fun _ _ h => h.1) (fun _ h => h.1) (fun pre W W' h hb => h.below hb) lo xo xn xc hx
    (fun pre W k y x hI hok hF _ hk hy sk sy => itm_any w w.heap.size ho hn hc m hi (ge lo l) pre W k y x rfl hh hI hF hk hy sk sy (by rw [← sk.len, hk]; exact hok.1) (by rw [← sy.len, hy]; exact hok.2) (by
      obtain ⟨post, e⟩ := hF
      have := congrArg List.length e
      have h2 := List.length_filter_le (fun x : It => decide (¬ cmpL x.k lo < 0)) l
      have h3 : (ge lo l).length ≤ l.length := h2
      simp only [List.length_append, List.length_cons] at this
      omega))
    l.length l (.pointer q) [] [] Wd (Nat.le_refl _) (by simp) hT hs hsz (by omega) ⟨B0, A1, A2, A4, ⟨_, _, L0⟩, fun _ h => by simp at h, Nat.zero_le _, Nat.zero_le _⟩
  rw [List.nil_append] at CW
  clear hT A1 A2 A4 L0
  go_wp2_with fail
  refine CW.mono ?_
  clear CW
  rintro e w2 (⟨rfl, hb, -, -, a4, ⟨u, ps, L⟩, hlow, hlen, -⟩ | ⟨rfl, hb, t, pre, x, post, e, a4, ⟨u, ps, L⟩, hlow, hlen, hd⟩)
  · obtain ⟨ao, cap, rfl, hI⟩ := L.slice
    have c3 : w2.cell? ⟨w.heap.size + 1 + 1, 0, none⟩ = some (.slice ao ps.length cap) := L.arr.cell 0
    have c4 : w2.cell? ⟨w.heap.size + 1 + 1 + 1, 0, none⟩ = some (.bool false) := a4.cell 0
    have E := low_all hlow
    have HE : Hid (btw lo hi l = ge lo l) := E
    clear E
    go_wp2_with fail
    go_quiet (fail)
    go_wp2
    go_ret2
    refine ⟨ao, ps.length, cap, ps, false, rfl, hI.below (belowDrewN (Below.refl _ w2) _), ?_, ?_, belowDrewN hb _⟩
    · rw [L.its, HE.out, List.take_of_length_le hlen]
    · rw [HE.out]
      exact (decide_eq_false (by omega)).symm
  · obtain ⟨ao, cap, rfl, hI⟩ := L.slice
    have c3 : w2.cell? ⟨w.heap.size + 1 + 1, 0, none⟩ = some (.slice ao ps.length cap) := L.arr.cell 0
    have c4 : w2.cell? ⟨w.heap.size + 1 + 1 + 1, 0, none⟩ = some (.bool t) := a4.cell 0
    have HE : Hid ((btw lo hi l).take m.toNat = pre ∧ t = decide (m.toNat < (btw lo hi l).length)) := by
      rcases hd with ⟨rfl, hx⟩ | ⟨rfl, hx, hm⟩
      · have E : btw lo hi l = pre := low_stop (hs.ofGe lo) e hlow hx
        exact ⟨by rw [E, List.take_of_length_le hlen], by rw [E]; exact (decide_eq_false (by omega)).symm⟩
      · obtain ⟨r, E⟩ := low_go e hlow hx
        have E : btw lo hi l = pre ++ x :: r := E
        have hml : m.toNat = pre.length := by omega
        exact ⟨by rw [E, hml, List.take_left'  rfl], by rw [E, hml]; exact (decide_eq_true (by simp)).symm⟩
    clear hd e hlow
    go_wp2_with fail
    go_quiet (fail)
    go_wp2
    go_ret2
    exact ⟨ao, ps.length, cap, ps, t, rfl, hI.below (belowDrewN (Below.refl _ w2) _), by rw [L.its]; exact HE.out.1.symm, HE.out.2, belowDrewN hb _⟩
end Go.Proofs.YtkmkmekhodcioaaGreatDoor

namespace Go.Proofs.YtkmkmekhodcioaaGreatDoor
open Go.RowKit

/-- A row of items of the call's own, as a slice. -/
theorem own_items {W : World} {base : Nat} {v : Value} {ps : List IP} (h : W.ownsRow base 43 2 v ps.length (flatI ps)) (sl : ∀ q ∈ ps, q.ok W) : ∃ ao cap, v = .slice ao ps.length cap ∧ IL W ao ps.length cap ps := by
  rcases h.2 with ⟨rfl, e⟩ | ⟨g, cap, cur, rfl, hg, hh, hle, hmx, hcs, htk⟩
  · obtain rfl : ps = [] := List.eq_nil_of_length_eq_zero e
    exact ⟨none, 0, rfl, IL.nothing W⟩
  · refine ⟨some ⟨g, 0, none⟩, cap, rfl, rfl, hle, hmx, fun h => by simp at h, fun a ha i hi => ?_, sl⟩
    obtain rfl := Option.some.inj ha
    obtain ⟨e1, e2⟩ := flatI_get ps i hi
    exact ⟨h.cells (g := g) rfl _ _ e1, h.cells (g := g) rfl _ _ e2⟩
theorem flatI_snoc (ps : List IP) (q : IP) : flatI (ps ++ [q]) = flatI ps ++ [q.k.val, q.v.val] := by simp [flatI]
/-- append of one item to a row of the call's own. -/
theorem wpList_appI {w : World} {ops : Array Oper} {rest : List Oper} {o : Oper} {a : Act} {Q : Exit → Act → World → Prop} (hgd : o.guard = none) (s x : Operand)
    (ho : o.op = .call { callee := .builtin .append, args := #[s, x], argTypes := #[30, 30] })
    (base : Nat) (v : Value) (ps : List IP) (hs : a.eval s = v) (hown : w.ownsRow base 43 2 v ps.length (flatI ps))
    (g c : Nat) (q : IP) (hx : a.eval x = .slice (some ⟨g, 0, none⟩) 1 c) (hc : w.heap[g]? = some (.cells #[q.k.val, q.v.val] 43)) (hn : ps.length ≤ 1000000) (hbase : base ≤ w.heap.size)
    (h : ∀ v' w', w'.ownsRow base 43 2 v' (ps ++ [q]).length (flatI (ps ++ [q])) → Below base w w' → wpList Tryz.prog ops Q rest (a.put o.dst v') w') : wpList Tryz.prog ops Q (o :: rest) a w := by
  obtain ⟨i0, hi, hz0, hz1, hz2⟩ := info_parts itemInfo
  refine wpList_append_own w hgd s x 30 ho base 43 i0 _ 2 48 Tryz.underlying30 hi hz0 hz1 hz2 rfl (by decide) v ps.length (flatI ps) hs hown ⟨g, 0, none⟩ 1 c [q.k.val, q.v.val] hx rfl
    (fun j u hu => by
      rw [Addr.add_lit, Nat.zero_add, cell_of_row w g j _ _ _ hc]
      simpa using hu) (fun u hu => by
      simp only [List.mem_cons, List.not_mem_nil, or_false] at hu
      rcases hu with rfl | rfl <;> rfl) (by unfold maxLen; omega) (by omega) hbase ?_
  intro v' w' h1 h2 _
  rw [← flatI_snoc] at h1
  exact h v' w' (by rw [List.length_append]; exact h1) ((Below.refl _ w).grown h2 hbase (fun k hk => (hown.lt k hk).1))

theorem btw_snoc (a b : List Int) (l : List It) (x : It) : btw a b (l ++ [x]) = btw a b l ++ (if ¬ cmpL x.k a < 0 ∧ cmpL x.k b < 0 then [x] else []) := by
  unfold btw ge
  rw [List.filter_append, List.filter_append]
  congr 1
  by_cases h1 : cmpL x.k a < 0
  · rw [if_neg (by simp [h1])]
    simp [h1]
  · by_cases h2 : cmpL x.k b < 0
    · rw [if_pos ⟨h1, h2⟩]
      have e1 : decide (¬ cmpL x.k a < 0) = true := decide_eq_true h1
      have e2 : decide (cmpL x.k b < 0) = true := decide_eq_true h2
      simp only [List.filter_cons, e1, e2, if_true, List.filter_nil]
    · rw [if_neg (by simp [h2])]
      have e1 : decide (¬ cmpL x.k a < 0) = true := decide_eq_true h1
      have e2 : decide (cmpL x.k b < 0) = false := decide_eq_false h2
      simp only [List.filter_cons, e1, e2, if_true, List.filter_nil]
      rfl
theorem btw_app (a b : List Int) (l r : List It) : btw a b (l ++ r) = btw a b l ++ btw a b r := by simp [btw, ge]

end Go.Proofs.YtkmkmekhodcioaaGreatDoor

namespace Go.Proofs.YtkmkmekhodcioaaGreatDoor

theorem tk_cons' (i acc : Nat) (c : Int) (r : List Int) : tk i acc (c :: r) = if i = 9 ∧ 1 < c then (0, 0, 3) else if c = 0 ∧ 0 < i then (0, 0, 3) else if 128 ≤ c then tk (i + 1) (acc + (c % 128).toNat * 128 ^ i) r else (acc + (c % 128).toNat * 128 ^ i, i + 1, 0) := rfl

theorem nine_small {n acc : Nat} (h : acc + n * 128 ^ 9 < 18446744073709551616) : n ≤ 1 := by
  have e : (128 : Nat) ^ 9 = 9223372036854775808 := by decide
  rw [e] at h
  omega

theorem tk_last (i acc n : Nat) (rest : List Int) (hn : n < 128) (hi : i ≤ 9) (hs : acc + n * 128 ^ i < 18446744073709551616) (hp : 0 < i → 0 < n) : tk i acc ((n : Int) :: rest) = (acc + n * 128 ^ i, i + 1, 0) := by
  rw [tk_cons']
  have h9 : ¬ (i = 9 ∧ 1 < (n : Int)) := by
    rintro ⟨rfl, h⟩
    have := nine_small hs
    omega
  rw [if_neg h9, if_neg (by omega), if_neg (by omega)]
  rw [show ((n : Int) % 128).toNat = n from by omega]

theorem tk_encF (f : Nat) : ∀ (i acc n : Nat) (rest : List Int), n < 128 ^ (f + 1) → i + f ≤ 9 → acc + n * 128 ^ i < 18446744073709551616 → (0 < i → 0 < n) →
    tk i acc (encF f n ++ rest) = (acc + n * 128 ^ i, i + (encF f n).length, 0) := by
  induction f with
  | zero =>
    intro i acc n rest hn hi hs hp
    exact tk_last i acc n rest (by simpa using hn) (by omega) hs hp
  | succ f ih =>
    intro i acc n rest hn hi hs hp
    rw [encF_succ]
    by_cases h : n < 128
    · rw [if_pos h]
      exact tk_last i acc n rest h (by omega) hs hp
    · rw [if_neg h, List.cons_append, tk_cons', if_neg (by omega), if_neg (by omega), if_pos (by omega)]
      have e1 : (((n % 128 + 128 : Nat) : Int) % 128).toNat = n % 128 := by omega
      have e2 : acc + n % 128 * 128 ^ i + n / 128 * 128 ^ (i + 1) = acc + n * 128 ^ i := by
        have : n / 128 * 128 ^ (i + 1) = (n / 128 * 128) * 128 ^ i := by rw [Nat.pow_succ, Nat.mul_assoc, Nat.mul_comm 128]
        rw [this, Nat.add_assoc, ← Nat.add_mul]
        congr 2
        omega
      rw [e1, ih (i + 1) _ (n / 128) rest (by rw [Nat.div_lt_iff_lt_mul (by decide)]; rw [Nat.pow_succ] at hn; exact hn) (by omega) (by rw [e2]; exact hs) (by omega), e2]
      simp only [List.length_cons]
      congr 2
      omega

theorem enc9 {n : Nat} (h : n < 18446744073709551616) : enc n = encF 9 n := by
  unfold enc
  rw [encF_stable 9 n (by omega)]

/-- What was put is read. -/
theorem tk_enc {n : Nat} (h : n < 18446744073709551616) (rest : List Int) : tk 0 0 (enc n ++ rest) = (n, (enc n).length, 0) := by
  rw [enc9 h, tk_encF 9 0 0 n rest (by omega) (by omega) (by omega) (by omega)]
  simp

/-- What is read is what would be put. -/
theorem tk_form : ∀ (xs : List Int) (i acc m u : Nat), (∀ x ∈ xs, 0 ≤ x ∧ x ≤ 255) → i ≤ 9 → acc < 128 ^ i → tk i acc xs = (m, u, 0) →
    ∃ n, m = acc + n * 128 ^ i ∧ xs.take (u - i) = enc n ∧ (0 < i → 0 < n) ∧ i < u ∧ m < 18446744073709551616 := by
  intro xs
  induction xs with
  | nil => intro i acc m u _ _ _ h; simp [tk] at h
  | cons c r ih =>
    intro i acc m u hb hi hacc h
    have hc := hb c (by simp)
    rw [tk_cons'] at h
    by_cases h1 : i = 9 ∧ 1 < c
    · rw [if_pos h1] at h; simp at h
    · rw [if_neg h1] at h
      by_cases h2 : c = 0 ∧ 0 < i
      · rw [if_pos h2] at h; simp at h
      · rw [if_neg h2] at h
        have hs := sum_lt acc i c hacc hi (by omega) hc.1
        by_cases h3 : 128 ≤ c
        · rw [if_pos h3] at h
          obtain ⟨n, hm, ht, hp, hu, hlt⟩ := ih (i + 1) _ m u (fun x hx => hb x (by simp [hx])) (by omega) hs.2 h
          have hn := hp (by omega)
          obtain ⟨d, hd⟩ : ∃ d : Nat, c = ((d + 128 : Nat) : Int) := ⟨(c - 128).toNat, by omega⟩
          have hd1 : (c % 128).toNat = d := by omega
          have hd2 : d < 128 := by omega
          have e : acc + d * 128 ^ i + n * 128 ^ (i + 1) = acc + (d + n * 128) * 128 ^ i := by
            rw [Nat.pow_succ, Nat.mul_comm (128 ^ i) 128, ← Nat.mul_assoc, Nat.add_assoc, ← Nat.add_mul]
          rw [hd1, e] at hm
          refine ⟨d + n * 128, hm, ?_, by omega, by omega, hlt⟩
          have hge : (d + n * 128) ≤ (d + n * 128) * 128 ^ i := Nat.le_mul_of_pos_right _ (Nat.pow_pos (by decide))
          rw [enc_big (n := d + n * 128) (by omega) (by omega)]
          rw [show (d + n * 128) / 128 = n from by omega, show (d + n * 128) % 128 = d from by omega]
          rw [show u - i = (u - (i + 1)) + 1 from by omega, List.take_succ_cons, ht, hd]
        · rw [if_neg h3] at h
          simp only [Prod.mk.injEq] at h
          obtain ⟨hm, hu, _⟩ := h
          obtain ⟨d, rfl⟩ : ∃ d : Nat, c = (d : Int) := ⟨c.toNat, by omega⟩
          have e1 : ((d : Int) % 128).toNat = d := by omega
          rw [e1] at hm hs
          refine ⟨d, hm.symm, ?_, by omega, by omega, by omega⟩
          rw [← hu, enc_small (by omega), show i + 1 - i = 1 from by omega]
          simp

theorem tk_back {xs : List Int} {m u : Nat} (hb : ∀ x ∈ xs, 0 ≤ x ∧ x ≤ 255) (h : tk 0 0 xs = (m, u, 0)) : xs.take u = enc m ∧ m < 18446744073709551616 := by
  obtain ⟨n, hm, ht, _, _, hlt⟩ := tk_form xs 0 0 m u hb (by omega) (by decide) h
  simp at hm ht
  subst hm
  exact ⟨ht, hlt⟩

/-- How many groups are left. -/
def ln (y : Nat) : Nat := if y = 0 then 0 else (enc y).length
theorem enc_ln {n : Nat} (h : n < 18446744073709551616) : (enc n).length = 1 + ln (n / 128) := by
  unfold ln
  by_cases h1 : n < 128
  · rw [enc_small h1, if_pos (by omega)]; rfl
  · rw [enc_big (by omega) h, if_neg (by omega), List.length_cons]; omega
theorem ln_step {y : Nat} (h0 : 0 < y) (h : y < 18446744073709551616) : ln y = 1 + ln (y / 128) := by
  rw [← enc_ln h]
  unfold ln
  rw [if_neg (by omega)]

theorem encF_mono (f : Nat) : ∀ a b, a ≤ b → (encF f a).length ≤ (encF f b).length := by
  induction f with
  | zero => intro a b _; simp [encF]
  | succ f ih =>
    intro a b h
    rw [encF_succ, encF_succ]
    by_cases h1 : a < 128
    · rw [if_pos h1]
      by_cases h2 : b < 128
      · rw [if_pos h2]; simp
      · rw [if_neg h2]; simp
    · rw [if_neg h1, if_neg (by omega)]
      have := ih (a / 128) (b / 128) (by omega)
      simpa using this
theorem enc_mono {a b : Nat} (h : a ≤ b) : (enc a).length ≤ (enc b).length := encF_mono 10 a b h

/-- No number's form begins another one's. -/
theorem enc_prefix {a b : Nat} (ha : a < 18446744073709551616) (hb : b < 18446744073709551616) (k : Nat) (h : enc a = (enc b).take k) : a = b := by
  have h1 := tk_enc hb []
  have h2 := tk_enc ha ((enc b).drop k)
  rw [List.append_nil] at h1
  rw [h, List.take_append_drop, h1] at h2
  simp only [Prod.mk.injEq] at h2
  omega
theorem enc_inj {a b : Nat} (ha : a < 18446744073709551616) (hb : b < 18446744073709551616) (h : enc a = enc b) : a = b :=
  enc_prefix ha hb (enc b).length (by rw [List.take_length]; exact h)

end Go.Proofs.YtkmkmekhodcioaaGreatDoor

namespace Go.Proofs.YtkmkmekhodcioaaGreatDoor
open Go.RowKit

/-- What Uint tells, and the reader behind it. -/
def uintS (xs : List Int) (k : Int) : Nat × List Int × Int :=
  if k = 0 then (if (tk 0 0 xs).2.2 = 0 then ((tk 0 0 xs).1, xs.drop (tk 0 0 xs).2.1, 0) else (0, [], ((tk 0 0 xs).2.2 : Nat))) else (0, xs, k)

/-- What Int tells, and the reader behind it. -/
def intS (xs : List Int) (k most : Int) : Nat × List Int × Int :=
  if (uintS xs k).2.2 = 0 then (if most < 0 ∨ most < (uintS xs k).1 then (0, [], 4) else uintS xs k) else (0, (uintS xs k).2)
/-- What Bytes tells, and the reader behind it. -/
def bytesS (xs : List Int) (k most : Int) : List Int × List Int × Int :=
  if (intS xs k most).2.2 = 0 then (if (intS xs k most).2.1.length < (intS xs k most).1 then ([], [], 2) else ((intS xs k most).2.1.take (intS xs k most).1, (intS xs k most).2.1.drop (intS xs k most).1, 0)) else ([], (intS xs k most).2)
/-- What Bool tells, and the reader behind it. -/
def boolS (xs : List Int) (k : Int) : Bool × List Int × Int :=
  if k = 0 then (match xs with
    | [] => (false, [], 2)
    | c :: r => if 1 < c then (false, [], 3) else (c == 1, r, 0)) else (false, xs, k)

theorem uintS_lt {xs : List Int} {k : Int} (hb : Byt xs) : (uintS xs k).1 < 18446744073709551616 := by
  unfold uintS
  split
  · split
    · exact tk_lt xs 0 0 hb (by omega) (by decide)
    · simp
  · simp

/-- What Done tells. -/
def doneS (xs : List Int) (k : Int) : Int := if k = 0 then (if xs = [] then 0 else 3) else k
/-- A truth's form. -/
def enb (b : Bool) : List Int := if b then [1] else [0]
theorem enb_byte (b : Bool) : Byt (enb b) := by
  intro x hx
  cases b <;> simp [enb] at hx <;> omega

theorem uintS_enc {k : Nat} (hk : k < 18446744073709551616) (xs : List Int) : uintS (enc k ++ xs) 0 = (k, xs, 0) := by
  unfold uintS
  rw [if_pos rfl, tk_enc hk xs]
  simp

theorem bytesS_put {xs : List Int} {n : Nat} (hl : xs.length = n) (hn : n < 18446744073709551616) (rest : List Int) (most : Int) :
    bytesS (enc n ++ (xs ++ rest)) 0 most = if most < 0 ∨ most < n then ([], [], 4) else (xs, rest, 0) := by
  unfold bytesS intS
  rw [uintS_enc hn]
  simp only [if_true]
  by_cases h : most < 0 ∨ most < (n : Int)
  · rw [if_pos h]; simp [h]
  · rw [if_neg h]
    simp only [h, if_false]
    rw [if_pos trivial, if_neg (by simp; omega)]
    rw [← hl]
    simp
theorem boolS_put (b : Bool) (rest : List Int) : boolS (enb b ++ rest) 0 = (b, rest, 0) := by
  cases b <;> simp [boolS, enb]
/-- What the reference's Uint tells, and its reader behind it: it keeps its bytes where something is wrong. -/
def uintT (xs : List Int) (k : Int) : Nat × List Int × Int :=
  if k = 0 then (if (tk 0 0 xs).2.2 = 0 then ((tk 0 0 xs).1, xs.drop (tk 0 0 xs).2.1, 0) else (0, xs, ((tk 0 0 xs).2.2 : Nat))) else (0, xs, k)

theorem uintT_ok {xs : List Int} {m u : Nat} (h : tk 0 0 xs = (m, u, 0)) : uintT xs 0 = (m, xs.drop u, 0) := by
  unfold uintT
  rw [if_pos rfl, h]
  rfl
theorem uintT_bad {xs : List Int} {m u q : Nat} (h : tk 0 0 xs = (m, u, q)) (hq : q ≠ 0) : uintT xs 0 = (0, xs, (q : Int)) := by
  unfold uintT
  rw [if_pos rfl, h]
  simp [hq]
def intT (xs : List Int) (k most : Int) : Nat × List Int × Int :=
  if (uintT xs k).2.2 = 0 then (if most < 0 ∨ most < (uintT xs k).1 then (0, (uintT xs k).2.1, 4) else uintT xs k) else (0, (uintT xs k).2)
def bytesT (xs : List Int) (k most : Int) : List Int × List Int × Int :=
  if (intT xs k most).2.2 = 0 then (if (intT xs k most).2.1.length < (intT xs k most).1 then ([], (intT xs k most).2.1, 2) else ((intT xs k most).2.1.take (intT xs k most).1, (intT xs k most).2.1.drop (intT xs k most).1, 0)) else ([], (intT xs k most).2)
def boolT (xs : List Int) (k : Int) : Bool × List Int × Int :=
  if k = 0 then (match xs with
    | [] => (false, [], 2)
    | c :: r => if 1 < c then (false, c :: r, 3) else (c == 1, r, 0)) else (false, xs, k)

theorem uintT_lt {xs : List Int} {k : Int} (hb : Byt xs) : (uintT xs k).1 < 18446744073709551616 := by
  unfold uintT
  split
  · split
    · exact tk_lt xs 0 0 hb (by omega) (by decide)
    · simp
  · simp

theorem uint_same {xs ys : List Int} {k : Int} (h : k = 0 → xs = ys) : (uintT ys k).1 = (uintS xs k).1 ∧ (uintT ys k).2.2 = (uintS xs k).2.2 ∧ ((uintS xs k).2.2 = 0 → (uintS xs k).2.1 = (uintT ys k).2.1) := by
  unfold uintS uintT
  by_cases hk : k = 0
  · obtain rfl := h hk
    rw [if_pos hk, if_pos hk]
    by_cases hq : (tk 0 0 xs).2.2 = 0
    · rw [if_pos hq, if_pos hq]; exact ⟨rfl, rfl, fun _ => rfl⟩
    · rw [if_neg hq, if_neg hq]; exact ⟨rfl, rfl, fun h => by simp at h; omega⟩
  · rw [if_neg hk, if_neg hk]; exact ⟨rfl, rfl, fun h => absurd h hk⟩

theorem int_same {xs ys : List Int} {k : Int} (h : k = 0 → xs = ys) (most : Int) : (intT ys k most).1 = (intS xs k most).1 ∧ (intT ys k most).2.2 = (intS xs k most).2.2 ∧ ((intS xs k most).2.2 = 0 → (intS xs k most).2.1 = (intT ys k most).2.1) := by
  obtain ⟨h1, h2, h3⟩ := uint_same h
  unfold intS intT
  rw [h1, h2]
  by_cases hq : (uintS xs k).2.2 = 0
  · rw [if_pos hq, if_pos hq]
    by_cases hb : most < 0 ∨ most < ((uintS xs k).1 : Int)
    · rw [if_pos hb, if_pos hb]; exact ⟨rfl, rfl, fun h => by simp at h⟩
    · rw [if_neg hb, if_neg hb]; exact ⟨h1, h2, h3⟩
  · rw [if_neg hq, if_neg hq]; exact ⟨rfl, h2, h3⟩

theorem bytes_same {xs ys : List Int} {k : Int} (h : k = 0 → xs = ys) (most : Int) : (bytesT ys k most).1 = (bytesS xs k most).1 ∧ (bytesT ys k most).2.2 = (bytesS xs k most).2.2 ∧ ((bytesS xs k most).2.2 = 0 → (bytesS xs k most).2.1 = (bytesT ys k most).2.1) := by
  obtain ⟨h1, h2, h3⟩ := int_same h most
  unfold bytesS bytesT
  rw [h1, h2]
  by_cases hq : (intS xs k most).2.2 = 0
  · rw [if_pos hq, if_pos hq, ← h3 hq]
    by_cases hb : (intS xs k most).2.1.length < (intS xs k most).1
    · rw [if_pos hb, if_pos hb]; exact ⟨rfl, rfl, fun h => by simp at h⟩
    · rw [if_neg hb, if_neg hb]; exact ⟨rfl, rfl, fun _ => rfl⟩
  · rw [if_neg hq, if_neg hq]; exact ⟨rfl, h2, h3⟩

theorem bool_same {xs ys : List Int} {k : Int} (h : k = 0 → xs = ys) : (boolT ys k).1 = (boolS xs k).1 ∧ (boolT ys k).2.2 = (boolS xs k).2.2 ∧ ((boolS xs k).2.2 = 0 → (boolS xs k).2.1 = (boolT ys k).2.1) := by
  by_cases hk : k = 0
  · obtain rfl := h hk
    subst hk
    cases xs with
    | nil => exact ⟨rfl, rfl, fun h => by simp [boolS] at h⟩
    | cons c r =>
      by_cases hc : 1 < c
      · simp [boolS, boolT, hc]
      · simp [boolS, boolT, hc]
  · simp [boolS, boolT, hk]

theorem left_same {xs ys : List Int} {k : Int} (h : k = 0 → xs = ys) : (if k = 0 then (ys.length : Int) else 0) = (if k = 0 then (xs.length : Int) else 0) := by
  by_cases hk : k = 0
  · rw [h hk]
  · rw [if_neg hk, if_neg hk]
theorem done_same {xs ys : List Int} {k : Int} (h : k = 0 → xs = ys) : doneS ys k = doneS xs k := by
  by_cases hk : k = 0
  · rw [h hk]
  · simp [doneS, hk]

end Go.Proofs.YtkmkmekhodcioaaGreatDoor

namespace Go.Proofs.YtkmkmekhodcioaaGreatDoor

/-- What a reader tells: what was wrong, or a thing and what is left. -/
abbrev Rs (α : Type) := Sum Int (α × List Int)
def then_ {α β : Type} (r : Rs α) (f : α → List Int → Rs β) : Rs β :=
  match r with
  | .inl k => .inl k
  | .inr (v, rest) => f v rest
theorem then_good {α β : Type} {r : Rs α} {f : α → List Int → Rs β} {b : β} {rest : List Int} (h : then_ r f = .inr (b, rest)) : ∃ a r', r = .inr (a, r') ∧ f a r' = .inr (b, rest) := by
  match r, h with
  | .inl k, h => simp [then_] at h
  | .inr (a, r'), h => exact ⟨a, r', rfl, h⟩

/-- A reader P reads just what f puts, of things that are ok. -/
structure Good {α : Type} (P : List Int → Rs α) (f : α → List Int) (ok : α → Prop) : Prop where
  put : ∀ v rest, ok v → P (f v ++ rest) = .inr (v, rest)
  back : ∀ xs v rest, Byt xs → P xs = .inr (v, rest) → xs = f v ++ rest ∧ ok v
  cut : ∀ v c, ok v → c < (f v).length → P ((f v).take c) = .inl 2

theorem byt_right {xs ys : List Int} (h : Byt (xs ++ ys)) : Byt ys := fun x hx => h x (List.mem_append_right _ hx)
theorem byt_left {xs ys : List Int} (h : Byt (xs ++ ys)) : Byt xs := fun x hx => h x (List.mem_append_left _ hx)

/-- One behind the other; the second may lean on what the first read. -/
def andThen {α β : Type} (P : List Int → Rs α) (Q : α → List Int → Rs β) (xs : List Int) : Rs (α × β) := then_ (P xs) fun a r => then_ (Q a r) fun b r' => .inr ((a, b), r')
theorem Good.andThen {α β : Type} {P : List Int → Rs α} {Q : α → List Int → Rs β} {f : α → List Int} {g : α → β → List Int} {okP : α → Prop} {okQ : α → β → Prop} (h : Good P f okP) (k : ∀ a, okP a → Good (Q a) (g a) (okQ a)) :
    Good (andThen P Q) (fun p => f p.1 ++ g p.1 p.2) (fun p => okP p.1 ∧ okQ p.1 p.2) := by
  refine ⟨?_, ?_, ?_⟩
  · rintro ⟨a, b⟩ rest ⟨h1, h2⟩
    unfold Go.Proofs.YtkmkmekhodcioaaGreatDoor.andThen
    simp only [List.append_assoc]
    rw [h.put a _ h1]
    simp only [then_]
    rw [(k a h1).put b _ h2]
  · rintro xs ⟨a, b⟩ rest hb hx
    obtain ⟨a', r', e1, hx⟩ := then_good hx
    obtain ⟨b', r'', e2, hx⟩ := then_good hx
    simp only [Sum.inr.injEq, Prod.mk.injEq] at hx
    obtain ⟨⟨rfl, rfl⟩, rfl⟩ := hx
    obtain ⟨x1, o1⟩ := h.back xs _ _ hb e1
    subst x1
    obtain ⟨x2, o2⟩ := (k _ o1).back _ _ _ (byt_right hb) e2
    refine ⟨?_, o1, o2⟩
    rw [x2, List.append_assoc]
  · rintro ⟨a, b⟩ c ⟨h1, h2⟩ hc
    unfold Go.Proofs.YtkmkmekhodcioaaGreatDoor.andThen
    simp only [List.length_append] at hc
    by_cases l : c < (f a).length
    · simp only [List.take_append_of_le_length (Nat.le_of_lt l)]
      rw [h.cut a c h1 l]
      rfl
    · have e : (f a ++ g a b).take c = f a ++ (g a b).take (c - (f a).length) := by
        rw [List.take_append, List.take_of_length_le (by omega)]
      simp only [e]
      rw [h.put a _ h1]
      simp only [then_]
      rw [(k a h1).cut b _ h2 (by omega)]

/-- The same thing in another dress. -/
def dress {α β : Type} (t : α → β) : Rs α → Rs β
  | .inl k => .inl k
  | .inr (v, rest) => .inr (t v, rest)
theorem dress_good {α β : Type} {t : α → β} {r : Rs α} {b : β} {rest : List Int} (h : dress t r = .inr (b, rest)) : ∃ a, r = .inr (a, rest) ∧ t a = b := by
  match r, h with
  | .inl k, h => simp [dress] at h
  | .inr (a, r'), h =>
    simp only [dress, Sum.inr.injEq, Prod.mk.injEq] at h
    exact ⟨a, by rw [h.2], h.1⟩
theorem Good.map {α β : Type} {P : List Int → Rs α} {f : α → List Int} {ok : α → Prop} (h : Good P f ok) (t : α → β) (u : β → α) (ok' : β → Prop) (h1 : ∀ b, ok' b → t (u b) = b ∧ ok (u b)) (h2 : ∀ a, ok a → u (t a) = a ∧ ok' (t a)) :
    Good (fun xs => dress t (P xs)) (fun b => f (u b)) ok' := by
  refine ⟨?_, ?_, ?_⟩
  · intro b rest hb
    simp only [h.put _ rest (h1 b hb).2, dress, (h1 b hb).1]
  · intro xs b rest hx hb
    obtain ⟨a, e, rfl⟩ := dress_good hb
    obtain ⟨x1, o1⟩ := h.back xs a rest hx e
    rw [(h2 a o1).1]
    exact ⟨x1, (h2 a o1).2⟩
  · intro b c hb hc
    simp only [h.cut _ c (h1 b hb).2 hc, dress]
theorem Good.only {α : Type} {P : List Int → Rs α} {f g : α → List Int} {ok ok' : α → Prop} (h : Good P f ok) (hk : ∀ a, ok a ↔ ok' a) (hf : ∀ a, ok a → f a = g a) : Good P g ok' := by
  refine ⟨?_, ?_, ?_⟩
  · intro v rest hv
    rw [← hf v ((hk v).2 hv)]
    exact h.put v rest ((hk v).2 hv)
  · intro xs v rest hb hx
    obtain ⟨e, o⟩ := h.back xs v rest hb hx
    rw [← hf v o]
    exact ⟨e, (hk v).1 o⟩
  · intro v c hv hc
    rw [← hf v ((hk v).2 hv)] at hc ⊢
    exact h.cut v c ((hk v).2 hv) hc

/-- n things, one behind the other. -/
def pRep {α : Type} (P : List Int → Rs α) : Nat → List Int → Rs (List α)
  | 0, xs => .inr ([], xs)
  | n + 1, xs => then_ (P xs) fun a r => then_ (pRep P n r) fun l r' => .inr ((a :: l), r')
theorem Good.rep {α : Type} {P : List Int → Rs α} {f : α → List Int} {ok : α → Prop} (h : Good P f ok) : ∀ n, Good (pRep P n) (fun l => (l.map f).flatten) (fun l => l.length = n ∧ ∀ a ∈ l, ok a)
  | 0 => by
    refine ⟨?_, ?_, ?_⟩
    · rintro l rest ⟨h1, _⟩
      obtain rfl := List.eq_nil_of_length_eq_zero h1
      rfl
    · rintro xs l rest _ hx
      simp only [pRep, Sum.inr.injEq, Prod.mk.injEq] at hx
      obtain ⟨rfl, rfl⟩ := hx
      simp
    · rintro l c ⟨h1, _⟩ hc
      obtain rfl := List.eq_nil_of_length_eq_zero h1
      simp at hc
  | n + 1 => by
    have ih := h.rep n
    refine ⟨?_, ?_, ?_⟩
    · rintro l rest ⟨h1, h2⟩
      cases l with
      | nil => simp at h1
      | cons a l =>
        simp only [List.map_cons, List.flatten_cons, List.append_assoc]
        unfold pRep
        rw [h.put a _ (h2 a (List.mem_cons_self ..))]
        simp only [then_]
        have := ih.put l rest ⟨by simpa using h1, fun x hx => h2 x (List.mem_cons_of_mem _ hx)⟩
        rw [this]
    · rintro xs l rest hb hx
      obtain ⟨a, r', e1, hx⟩ := then_good hx
      obtain ⟨l', r'', e2, hx⟩ := then_good hx
      simp only [Sum.inr.injEq, Prod.mk.injEq] at hx
      obtain ⟨rfl, rfl⟩ := hx
      obtain ⟨x1, o1⟩ := h.back xs a r' hb e1
      subst x1
      obtain ⟨x2, o2, o3⟩ := ih.back _ _ _ (byt_right hb) e2
      refine ⟨?_, by simp [o2], ?_⟩
      · rw [x2]; simp
      · intro x hx
        rcases List.mem_cons.1 hx with rfl | hx
        · exact o1
        · exact o3 x hx
    · rintro l c ⟨h1, h2⟩ hc
      cases l with
      | nil => simp at h1
      | cons a l =>
        simp only [List.map_cons, List.flatten_cons, List.length_append] at hc ⊢
        have ok1 := h2 a (List.mem_cons_self ..)
        unfold pRep
        by_cases q : c < (f a).length
        · rw [List.take_append_of_le_length (Nat.le_of_lt q), h.cut a c ok1 q]
          rfl
        · rw [List.take_append, List.take_of_length_le (by omega), h.put a _ ok1]
          simp only [then_]
          have := ih.cut l (c - (f a).length) ⟨by simpa using h1, fun x hx => h2 x (List.mem_cons_of_mem _ hx)⟩ (by omega)
          simp only [this]

def pUint (xs : List Int) : Rs Nat := if (tk 0 0 xs).2.2 = 0 then .inr ((tk 0 0 xs).1, xs.drop (tk 0 0 xs).2.1) else .inl ((tk 0 0 xs).2.2 : Nat)
def pInt (most : Nat) (xs : List Int) : Rs Nat := then_ (pUint xs) fun n r => if most < n then .inl 4 else .inr (n, r)
def pBytes (most : Nat) (xs : List Int) : Rs (List Int) := then_ (pInt most xs) fun n r => if r.length < n then .inl 2 else .inr ((r.take n), (r.drop n))
def pBool : List Int → Rs Bool
  | [] => .inl 2
  | c :: r => if 1 < c then .inl 3 else .inr ((c == 1), r)

theorem tk_shortF' (f : Nat) : ∀ (i acc n c : Nat), n < 128 ^ (f + 1) → i + f ≤ 9 → c < (encF f n).length → tk i acc ((encF f n).take c) = (0, 0, 2) := by
  induction f with
  | zero =>
    intro i acc n c _ _ hc
    have : (encF 0 n).length = 1 := rfl
    obtain rfl : c = 0 := by omega
    rfl
  | succ f ih =>
    intro i acc n c hn hi hc
    rw [encF_succ] at hc ⊢
    by_cases h : n < 128
    · rw [if_pos h] at hc ⊢
      obtain rfl : c = 0 := by simpa using hc
      rfl
    · rw [if_neg h] at hc ⊢
      cases c with
      | zero => rfl
      | succ c =>
        rw [List.take_succ_cons, tk_cons', if_neg (by omega), if_neg (by omega), if_pos (by omega)]
        exact ih (i + 1) _ (n / 128) c (by rw [Nat.div_lt_iff_lt_mul (by decide)]; rw [Nat.pow_succ] at hn; exact hn) (by omega) (by simpa using hc)
theorem tk_short' {n : Nat} (h : n < 18446744073709551616) (c : Nat) (hc : c < (enc n).length) : tk 0 0 ((enc n).take c) = (0, 0, 2) := by
  rw [enc9 h] at hc ⊢
  exact tk_shortF' 9 0 0 n c (by omega) (by omega) hc

theorem good_uint : Good pUint enc (fun n => n < 18446744073709551616) := by
  refine ⟨?_, ?_, ?_⟩
  · intro n rest hn
    unfold pUint
    rw [tk_enc hn]
    simp
  · intro xs n rest hb hx
    unfold pUint at hx
    by_cases h : (tk 0 0 xs).2.2 = 0
    · rw [if_pos h] at hx
      simp only [Sum.inr.injEq, Prod.mk.injEq] at hx
      obtain ⟨e1, e2⟩ := hx
      have := tk_back (m := n) (u := (tk 0 0 xs).2.1) hb (Prod.ext e1 (Prod.ext rfl h))
      refine ⟨?_, this.2⟩
      rw [← e2, ← this.1, List.take_append_drop]
    · rw [if_neg h] at hx
      simp at hx
  · intro n c hn hc
    unfold pUint
    rw [tk_short' hn c hc]
    rfl
theorem good_int (most : Nat) (hm : most < 18446744073709551616) : Good (pInt most) enc (fun n => n ≤ most) := by
  refine ⟨?_, ?_, ?_⟩
  · intro n rest hn
    unfold pInt
    rw [good_uint.put n rest (by omega)]
    simp only [then_]
    rw [if_neg (by omega)]
  · intro xs n rest hb hx
    obtain ⟨n', r', e1, hx⟩ := then_good hx
    by_cases h : most < n'
    · rw [if_pos h] at hx; simp at hx
    · rw [if_neg h] at hx
      simp only [Sum.inr.injEq, Prod.mk.injEq] at hx
      obtain ⟨rfl, rfl⟩ := hx
      exact ⟨(good_uint.back xs _ _ hb e1).1, by omega⟩
  · intro n c hn hc
    unfold pInt
    rw [good_uint.cut n c (by omega) hc]
    rfl
theorem good_bytes (most : Nat) (hm : most < 18446744073709551616) : Good (pBytes most) (fun l => enc l.length ++ l) (fun l => l.length ≤ most ∧ Byt l) := by
  refine ⟨?_, ?_, ?_⟩
  · rintro l rest ⟨hl, _⟩
    unfold pBytes
    rw [List.append_assoc, (good_int most hm).put _ _ hl]
    simp only [then_]
    rw [if_neg (by simp), List.take_left, List.drop_left]
  · intro xs l rest hb hx
    obtain ⟨n, r', e1, hx⟩ := then_good hx
    obtain ⟨x1, o1⟩ := (good_int most hm).back xs _ _ hb e1
    by_cases h : r'.length < n
    · rw [if_pos h] at hx; simp at hx
    · rw [if_neg h] at hx
      simp only [Sum.inr.injEq, Prod.mk.injEq] at hx
      obtain ⟨rfl, rfl⟩ := hx
      have e2 : (r'.take n).length = n := by rw [List.length_take]; omega
      rw [e2, List.append_assoc, List.take_append_drop]
      refine ⟨x1, o1, ?_⟩
      rw [x1] at hb
      exact (byt_right hb).take n
  · rintro l c ⟨hl, _⟩ hc
    unfold pBytes
    rw [List.length_append] at hc
    by_cases q : c < (enc l.length).length
    · rw [List.take_append_of_le_length (Nat.le_of_lt q), (good_int most hm).cut _ c hl q]
      rfl
    · rw [List.take_append, List.take_of_length_le (by omega), (good_int most hm).put _ _ hl]
      simp only [then_]
      rw [if_pos (by rw [List.length_take]; omega)]
theorem good_bool : Good pBool enb (fun _ => True) := by
  refine ⟨?_, ?_, ?_⟩
  · intro b rest _
    cases b <;> simp [pBool, enb]
  · intro xs b rest hb hx
    cases xs with
    | nil => simp [pBool] at hx
    | cons c r =>
      have hc := hb c (List.mem_cons_self ..)
      simp only [pBool] at hx
      by_cases h : 1 < c
      · rw [if_pos h] at hx; simp at hx
      · rw [if_neg h] at hx
        simp only [Sum.inr.injEq, Prod.mk.injEq] at hx
        obtain ⟨rfl, rfl⟩ := hx
        refine ⟨?_, trivial⟩
        obtain rfl | rfl : c = 0 ∨ c = 1 := by omega
        · rfl
        · rfl
  · intro b c _ hc
    cases b <;> simp [enb] at hc <;> subst hc <;> rfl
end Go.Proofs.YtkmkmekhodcioaaGreatDoor

namespace Go.Proofs.YtkmkmekhodcioaaGreatDoor

theorem uintS_bad {xs : List Int} {k : Int} (h : pUint xs = .inl k) : uintS xs 0 = (0, [], k) ∧ k ≠ 0 := by
  unfold pUint at h
  unfold uintS
  by_cases c : (tk 0 0 xs).2.2 = 0
  · rw [if_pos c] at h; simp at h
  · rw [if_neg c] at h
    rw [if_pos rfl, if_neg c, Sum.inl.inj h]
    refine ⟨rfl, ?_⟩
    rw [← Sum.inl.inj h]
    omega
theorem uintS_ok {xs r : List Int} {n : Nat} (h : pUint xs = .inr (n, r)) : uintS xs 0 = (n, r, 0) := by
  unfold pUint at h
  unfold uintS
  by_cases c : (tk 0 0 xs).2.2 = 0
  · rw [if_pos c] at h
    have := Sum.inr.inj h
    rw [if_pos rfl, if_pos c, (Prod.mk.inj this).1, (Prod.mk.inj this).2]
  · rw [if_neg c] at h; simp at h
theorem intS_bad {xs : List Int} {k : Int} {most : Nat} (h : pInt most xs = .inl k) : intS xs 0 most = (0, [], k) ∧ k ≠ 0 := by
  unfold pInt then_ at h
  unfold intS
  match e : pUint xs, h with
  | .inl q, h =>
    obtain ⟨e1, e2⟩ := uintS_bad e
    obtain rfl := Sum.inl.inj h
    rw [e1]
    simp [e2]
  | .inr (n, r), h =>
    have e1 := uintS_ok e
    simp only at h
    by_cases c : most < n
    · rw [if_pos c] at h
      obtain rfl := Sum.inl.inj h
      rw [e1]
      simp only [if_true]
      rw [if_pos (by omega)]
      simp
    · rw [if_neg c] at h; simp at h
theorem intS_ok {xs r : List Int} {n most : Nat} (h : pInt most xs = .inr (n, r)) : intS xs 0 most = (n, r, 0) ∧ n ≤ most := by
  unfold pInt then_ at h
  unfold intS
  match e : pUint xs, h with
  | .inl q, h => simp at h
  | .inr (m, s), h =>
    have e1 := uintS_ok e
    simp only at h
    by_cases c : most < m
    · rw [if_pos c] at h; simp at h
    · rw [if_neg c] at h
      have := Prod.mk.inj (Sum.inr.inj h)
      obtain ⟨rfl, rfl⟩ := this
      rw [e1]
      simp only [if_true]
      rw [if_neg (by omega)]
      exact ⟨rfl, by omega⟩
theorem bytesS_bad {xs : List Int} {k : Int} {most : Nat} (h : pBytes most xs = .inl k) : bytesS xs 0 most = ([], [], k) ∧ k ≠ 0 := by
  unfold pBytes then_ at h
  unfold bytesS
  match e : pInt most xs, h with
  | .inl q, h =>
    obtain ⟨e1, e2⟩ := intS_bad e
    obtain rfl := Sum.inl.inj h
    rw [e1]
    simp [e2]
  | .inr (n, r), h =>
    have e1 := (intS_ok e).1
    simp only at h
    by_cases c : r.length < n
    · rw [if_pos c] at h
      obtain rfl := Sum.inl.inj h
      rw [e1]
      simp only [if_true]
      rw [if_pos c]
      simp
    · rw [if_neg c] at h; simp at h
theorem bytesS_ok {xs r l : List Int} {most : Nat} (h : pBytes most xs = .inr (l, r)) : bytesS xs 0 most = (l, r, 0) ∧ l.length ≤ most := by
  unfold pBytes then_ at h
  unfold bytesS
  match e : pInt most xs, h with
  | .inl q, h => simp at h
  | .inr (m, s), h =>
    obtain ⟨e1, e2⟩ := intS_ok e
    simp only at h
    by_cases c : s.length < m
    · rw [if_pos c] at h; simp at h
    · rw [if_neg c] at h
      have := Prod.mk.inj (Sum.inr.inj h)
      obtain ⟨rfl, rfl⟩ := this
      rw [e1]
      simp only [if_true]
      rw [if_neg c]
      refine ⟨rfl, ?_⟩
      rw [List.length_take]
      omega
theorem uintS_stuck {xs : List Int} {k : Int} (h : k ≠ 0) : uintS xs k = (0, xs, k) := by
  unfold uintS; rw [if_neg h]
theorem intS_stuck {xs : List Int} {k : Int} (h : k ≠ 0) (most : Int) : intS xs k most = (0, xs, k) := by
  unfold intS; rw [uintS_stuck h]; simp [h]
theorem bytesS_stuck {xs : List Int} {k : Int} (h : k ≠ 0) (most : Int) : bytesS xs k most = ([], xs, k) := by
  unfold bytesS; rw [intS_stuck h]; simp [h]
/-- What is read of bytes: a kind that is not 0, or a thing. -/
def rdAll {α : Type} (P : List Int → Rs α) (kind : α → Int) (b : List Int) : Sum Int α :=
  match P b with
  | .inl k => .inl k
  | .inr (v, rest) => if rest = [] then (if kind v = 0 then .inr v else .inl (kind v)) else .inl 3
theorem rdAll_put {α : Type} {P : List Int → Rs α} {f : α → List Int} {ok : α → Prop} (h : Good P f ok) (kind : α → Int) (v : α) (hv : ok v) (hk : kind v = 0) : rdAll P kind (f v) = .inr v := by
  unfold rdAll
  have := h.put v [] hv
  rw [List.append_nil] at this
  rw [this]
  simp [hk]
theorem rdAll_back {α : Type} {P : List Int → Rs α} {f : α → List Int} {ok : α → Prop} (h : Good P f ok) (kind : α → Int) {b : List Int} {v : α} (hb : Byt b) (hr : rdAll P kind b = .inr v) : b = f v ∧ ok v ∧ kind v = 0 := by
  unfold rdAll at hr
  match e : P b, hr with
  | .inl k, hr => simp at hr
  | .inr (u, rest), hr =>
    simp only at hr
    by_cases c : rest = []
    · rw [if_pos c] at hr
      by_cases d : kind u = 0
      · rw [if_pos d] at hr
        obtain rfl := Sum.inr.inj hr
        obtain ⟨x, o⟩ := h.back b u rest hb e
        rw [c, List.append_nil] at x
        exact ⟨x, o, d⟩
      · rw [if_neg d] at hr; simp at hr
    · rw [if_neg c] at hr; simp at hr
/-- What a thing that reads tells: the thing, what is left, what was wrong. -/
abbrev Th (α : Type) := List Int → Int → α × List Int × Int
structure Thr {α : Type} (P : List Int → Rs α) (f : Th α) : Prop where
  ok : ∀ xs v r, P xs = .inr (v, r) → f xs 0 = (v, r, 0)
  bad : ∀ xs q, P xs = .inl q → (f xs 0).2.2 = q ∧ q ≠ 0
  stuck : ∀ xs k, k ≠ 0 → (f xs k).2.2 = k
def andT {α β : Type} (f : Th α) (g : Th β) : Th (α × β) := fun xs k => (((f xs k).1, (g (f xs k).2.1 (f xs k).2.2).1), (g (f xs k).2.1 (f xs k).2.2).2)
theorem Thr.andThen {α β : Type} {P : List Int → Rs α} {Q : List Int → Rs β} {f : Th α} {g : Th β} (h : Thr P f) (k : Thr Q g) : Thr (andThen P fun _ => Q) (andT f g) := by
  refine ⟨?_, ?_, ?_⟩
  · rintro xs ⟨a, b⟩ r hx
    obtain ⟨a', r', e1, hx⟩ := then_good hx
    obtain ⟨b', r'', e2, hx⟩ := then_good hx
    simp only [Sum.inr.injEq, Prod.mk.injEq] at hx
    obtain ⟨⟨rfl, rfl⟩, rfl⟩ := hx
    unfold andT
    rw [h.ok _ _ _ e1]
    simp only
    rw [k.ok _ _ _ e2]
  · intro xs q hx
    unfold Go.Proofs.YtkmkmekhodcioaaGreatDoor.andThen then_ at hx
    unfold andT
    match e : P xs, hx with
    | .inl q', hx =>
      obtain rfl := Sum.inl.inj hx
      obtain ⟨e1, e2⟩ := h.bad _ _ e
      refine ⟨?_, e2⟩
      rw [← e1] at e2 ⊢
      exact k.stuck _ _ e2
    | .inr (v, r), hx =>
      rw [h.ok _ _ _ e]
      simp only at hx ⊢
      match e' : Q r, hx with
      | .inl q', hx =>
        obtain rfl := Sum.inl.inj hx
        exact k.bad _ _ e'
      | .inr (v', r'), hx => simp at hx
  · intro xs q hq
    have e1 := h.stuck xs q hq
    have e2 : (f xs q).2.2 ≠ 0 := by rw [e1]; exact hq
    exact (k.stuck _ _ e2).trans e1
def mapT {α β : Type} (t : α → β) (f : Th α) : Th β := fun xs k => (t (f xs k).1, (f xs k).2)
theorem Thr.map {α β : Type} {P : List Int → Rs α} {f : Th α} (h : Thr P f) (t : α → β) : Thr (fun xs => dress t (P xs)) (mapT t f) := by
  refine ⟨?_, ?_, ?_⟩
  · intro xs b r hx
    obtain ⟨a, e, rfl⟩ := dress_good hx
    unfold mapT
    rw [h.ok _ _ _ e]
  · intro xs q hx
    unfold mapT
    match e : P xs, hx with
    | .inl q', hx =>
      obtain rfl := Sum.inl.inj hx
      exact h.bad _ _ e
    | .inr (v, r), hx =>
      simp [dress] at hx
  · intro xs q hq
    exact h.stuck xs q hq
def intT' (most : Nat) : Th Nat := fun xs k => intS xs k most
def byT (most : Nat) : Th (List Int) := fun xs k => bytesS xs k most
theorem thr_uint : Thr pUint uintS := ⟨fun _ _ _ h => uintS_ok h, fun _ _ h => by rw [(uintS_bad h).1]; exact ⟨rfl, (uintS_bad h).2⟩, fun _ _ h => by rw [uintS_stuck h]⟩
theorem thr_int (most : Nat) : Thr (pInt most) (intT' most) := ⟨fun _ _ _ h => (intS_ok h).1, fun _ _ h => by show (intS _ 0 most).2.2 = _ ∧ _; rw [(intS_bad h).1]; exact ⟨rfl, (intS_bad h).2⟩, fun _ _ h => by show (intS _ _ _).2.2 = _; rw [intS_stuck h]⟩
theorem thr_bytes (most : Nat) : Thr (pBytes most) (byT most) := ⟨fun _ _ _ h => (bytesS_ok h).1, fun _ _ h => by show (bytesS _ 0 most).2.2 = _ ∧ _; rw [(bytesS_bad h).1]; exact ⟨rfl, (bytesS_bad h).2⟩, fun _ _ h => by show (bytesS _ _ _).2.2 = _; rw [bytesS_stuck h]⟩
/-- The second leans on what the first read. -/
def andD {α β : Type} (f : Th α) (g : α → Th β) : Th (α × β) := fun xs k => (((f xs k).1, (g (f xs k).1 (f xs k).2.1 (f xs k).2.2).1), (g (f xs k).1 (f xs k).2.1 (f xs k).2.2).2)
theorem Thr.dep {α β : Type} {P : List Int → Rs α} {Q : α → List Int → Rs β} {f : Th α} {g : α → Th β} (h : Thr P f) (k : ∀ a, Thr (Q a) (g a)) : Thr (Go.Proofs.YtkmkmekhodcioaaGreatDoor.andThen P Q) (andD f g) := by
  refine ⟨?_, ?_, ?_⟩
  · rintro xs ⟨a, b⟩ r hx
    obtain ⟨a', r', e1, hx⟩ := then_good hx
    obtain ⟨b', r'', e2, hx⟩ := then_good hx
    simp only [Sum.inr.injEq, Prod.mk.injEq] at hx
    obtain ⟨⟨rfl, rfl⟩, rfl⟩ := hx
    unfold andD
    rw [h.ok _ _ _ e1]
    simp only
    rw [(k _).ok _ _ _ e2]
  · intro xs q hx
    unfold Go.Proofs.YtkmkmekhodcioaaGreatDoor.andThen then_ at hx
    unfold andD
    match e : P xs, hx with
    | .inl q', hx =>
      obtain rfl := Sum.inl.inj hx
      obtain ⟨e1, e2⟩ := h.bad _ _ e
      refine ⟨?_, e2⟩
      rw [← e1] at e2 ⊢
      exact (k _).stuck _ _ e2
    | .inr (v, r), hx =>
      rw [h.ok _ _ _ e]
      simp only at hx ⊢
      match e' : Q v r, hx with
      | .inl q', hx =>
        obtain rfl := Sum.inl.inj hx
        exact (k _).bad _ _ e'
      | .inr (v', r'), hx => simp at hx
  · intro xs q hq
    have e1 := h.stuck xs q hq
    have e2 : (f xs q).2.2 ≠ 0 := by rw [e1]; exact hq
    exact ((k _).stuck _ _ e2).trans e1
/-- n things, whatever is wrong; n things, till something is wrong. -/
def repT {α : Type} (f : Th α) : Nat → Th (List α)
  | 0 => fun xs k => ([], xs, k)
  | n + 1 => fun xs k => ((f xs k).1 :: (repT f n (f xs k).2.1 (f xs k).2.2).1, (repT f n (f xs k).2.1 (f xs k).2.2).2)
def stopT {α : Type} (f : Th α) : Nat → Th (List α)
  | 0 => fun xs k => ([], xs, k)
  | n + 1 => fun xs k => if k = 0 then ((f xs k).1 :: (stopT f n (f xs k).2.1 (f xs k).2.2).1, (stopT f n (f xs k).2.1 (f xs k).2.2).2) else ([], xs, k)
theorem Thr.rep {α : Type} {P : List Int → Rs α} {f : Th α} (h : Thr P f) : ∀ n, Thr (pRep P n) (repT f n)
  | 0 => ⟨fun xs v r e => by simp only [pRep, Sum.inr.injEq, Prod.mk.injEq] at e; rw [← e.1, ← e.2]; rfl, fun xs q e => by simp [pRep] at e, fun _ _ _ => rfl⟩
  | n + 1 => by
    have ih := h.rep n
    refine ⟨?_, ?_, ?_⟩
    · rintro xs l r hx
      obtain ⟨a, r', e1, hx⟩ := then_good hx
      obtain ⟨l', r'', e2, hx⟩ := then_good hx
      simp only [Sum.inr.injEq, Prod.mk.injEq] at hx
      obtain ⟨rfl, rfl⟩ := hx
      unfold repT
      rw [h.ok _ _ _ e1]
      simp only
      rw [ih.ok _ _ _ e2]
    · intro xs q hx
      unfold pRep then_ at hx
      unfold repT
      match e : P xs, hx with
      | .inl q', hx =>
        obtain rfl := Sum.inl.inj hx
        obtain ⟨e1, e2⟩ := h.bad _ _ e
        refine ⟨?_, e2⟩
        rw [← e1] at e2 ⊢
        exact ih.stuck _ _ e2
      | .inr (v, r), hx =>
        rw [h.ok _ _ _ e]
        simp only at hx ⊢
        match e' : pRep P n r, hx with
        | .inl q', hx =>
          obtain rfl := Sum.inl.inj hx
          exact ih.bad _ _ e'
        | .inr (v', r'), hx => simp at hx
    · intro xs q hq
      have e1 := h.stuck xs q hq
      have e2 : (f xs q).2.2 ≠ 0 := by rw [e1]; exact hq
      exact (ih.stuck _ _ e2).trans e1
theorem Thr.stop {α : Type} {P : List Int → Rs α} {f : Th α} (h : Thr P f) : ∀ n, Thr (pRep P n) (stopT f n)
  | 0 => ⟨fun xs v r e => by simp only [pRep, Sum.inr.injEq, Prod.mk.injEq] at e; rw [← e.1, ← e.2]; rfl, fun xs q e => by simp [pRep] at e, fun _ _ _ => rfl⟩
  | n + 1 => by
    have ih := h.stop n
    refine ⟨?_, ?_, ?_⟩
    · rintro xs l r hx
      obtain ⟨a, r', e1, hx⟩ := then_good hx
      obtain ⟨l', r'', e2, hx⟩ := then_good hx
      simp only [Sum.inr.injEq, Prod.mk.injEq] at hx
      obtain ⟨rfl, rfl⟩ := hx
      unfold stopT
      rw [if_pos rfl, h.ok _ _ _ e1]
      simp only
      rw [ih.ok _ _ _ e2]
    · intro xs q hx
      unfold pRep then_ at hx
      unfold stopT
      rw [if_pos rfl]
      match e : P xs, hx with
      | .inl q', hx =>
        obtain rfl := Sum.inl.inj hx
        obtain ⟨e1, e2⟩ := h.bad _ _ e
        refine ⟨?_, e2⟩
        rw [← e1] at e2 ⊢
        exact ih.stuck _ _ e2
      | .inr (v, r), hx =>
        rw [h.ok _ _ _ e]
        simp only at hx ⊢
        match e' : pRep P n r, hx with
        | .inl q', hx =>
          obtain rfl := Sum.inl.inj hx
          exact ih.bad _ _ e'
        | .inr (v', r'), hx => simp at hx
    · intro xs q hq
      unfold stopT
      rw [if_neg hq]
theorem repT_snoc {α : Type} (f : Th α) : ∀ (n : Nat) (xs : List Int) (k : Int), repT f (n + 1) xs k = ((repT f n xs k).1 ++ [(f (repT f n xs k).2.1 (repT f n xs k).2.2).1], (f (repT f n xs k).2.1 (repT f n xs k).2.2).2)
  | 0, xs, k => rfl
  | n + 1, xs, k => by
    have := repT_snoc f n (f xs k).2.1 (f xs k).2.2
    show ((f xs k).1 :: (repT f (n + 1) (f xs k).2.1 (f xs k).2.2).1, (repT f (n + 1) (f xs k).2.1 (f xs k).2.2).2) = _
    rw [this]
    rfl
theorem stopT_snoc {α : Type} (f : Th α) : ∀ (n : Nat) (xs : List Int) (k : Int), (stopT f n xs k).2.2 = 0 → stopT f (n + 1) xs k = ((stopT f n xs k).1 ++ [(f (stopT f n xs k).2.1 (stopT f n xs k).2.2).1], (f (stopT f n xs k).2.1 (stopT f n xs k).2.2).2)
  | 0, xs, k, h => by
    have h : k = 0 := h
    subst h
    rfl
  | n + 1, xs, k, h => by
    by_cases c : k = 0
    · subst c
      have e : stopT f (n + 1) xs 0 = ((f xs 0).1 :: (stopT f n (f xs 0).2.1 (f xs 0).2.2).1, (stopT f n (f xs 0).2.1 (f xs 0).2.2).2) := rfl
      rw [e] at h ⊢
      have ih := stopT_snoc f n (f xs 0).2.1 (f xs 0).2.2 h
      show ((f xs 0).1 :: (stopT f (n + 1) (f xs 0).2.1 (f xs 0).2.2).1, (stopT f (n + 1) (f xs 0).2.1 (f xs 0).2.2).2) = _
      rw [ih]
      rfl
    · unfold stopT at h
      rw [if_neg c] at h
      exact absurd h c
theorem stopT_halt {α : Type} (f : Th α) : ∀ (m n : Nat) (xs : List Int) (k : Int), m ≤ n → (stopT f m xs k).2.2 ≠ 0 → stopT f n xs k = stopT f m xs k
  | 0, n, xs, k, _, h => by
    have h : k ≠ 0 := h
    cases n with
    | zero => rfl
    | succ n =>
      unfold stopT
      rw [if_neg h]
  | m + 1, n + 1, xs, k, hmn, h => by
    by_cases c : k = 0
    · subst c
      have ih := stopT_halt f m n (f xs 0).2.1 (f xs 0).2.2 (by omega) h
      show ((f xs 0).1 :: (stopT f n (f xs 0).2.1 (f xs 0).2.2).1, (stopT f n (f xs 0).2.1 (f xs 0).2.2).2) = ((f xs 0).1 :: (stopT f m (f xs 0).2.1 (f xs 0).2.2).1, (stopT f m (f xs 0).2.1 (f xs 0).2.2).2)
      rw [ih]
    · unfold stopT
      rw [if_neg c, if_neg c]
  | m + 1, 0, _, _, hmn, _ => by omega
/-- What is read of bytes, said by a reader. -/
def rdT {α : Type} (f : Th α) (kind : α → Int) (xs : List Int) : Sum Int α :=
  if doneS (f xs 0).2.1 (f xs 0).2.2 = 0 then (if kind (f xs 0).1 = 0 then .inr (f xs 0).1 else .inl (kind (f xs 0).1)) else .inl (doneS (f xs 0).2.1 (f xs 0).2.2)
theorem rd_thr {α : Type} {P : List Int → Rs α} {f : Th α} (h : Thr P f) (kind : α → Int) (xs : List Int) : rdAll P kind xs = rdT f kind xs := by
  unfold rdAll rdT
  match e : P xs with
  | .inl q =>
    obtain ⟨e1, e2⟩ := h.bad _ _ e
    rw [e1]
    unfold doneS
    rw [if_neg e2, if_neg e2]
  | .inr (v, r) =>
    rw [h.ok _ _ _ e]
    simp only
    unfold doneS
    by_cases c : r = []
    · rw [if_pos c, if_pos rfl, if_pos c, if_pos rfl]
    · rw [if_neg c, if_pos rfl, if_neg c]
      simp
theorem intS_le (xs : List Int) (k : Int) (most : Nat) : (intS xs k most).1 ≤ most := by
  unfold intS
  split
  · split
    · simp
    · rename_i h
      simp only [not_or] at h
      omega
  · simp
theorem bytesS_le (xs : List Int) (k : Int) (most : Nat) : (bytesS xs k most).1.length ≤ most := by
  unfold bytesS
  have := intS_le xs k most
  split
  · split
    · simp
    · simp only [List.length_take]
      omega
  · simp
theorem bytesS_byt {xs : List Int} (h : Byt xs) (k : Int) (most : Nat) : Byt (bytesS xs k most).1 ∧ Byt (bytesS xs k most).2.1 := by
  have hu : Byt (uintS xs k).2.1 := by
    unfold uintS
    split
    · split
      · exact h.drop _
      · intro x hx; simp at hx
    · exact h
  have hi : Byt (intS xs k most).2.1 := by
    unfold intS
    split
    · split
      · intro x hx; simp at hx
      · exact hu
    · exact hu
  unfold bytesS
  split
  · split
    · exact ⟨fun x hx => by simp at hx, fun x hx => by simp at hx⟩
    · exact ⟨hi.take _, hi.drop _⟩
  · exact ⟨fun x hx => by simp at hx, hi⟩
/-- Two readers that tell the same. -/
def Alike {α : Type} (f g : Th α) : Prop := ∀ xs k, (f xs k).2.2 = (g xs k).2.2 ∧ ((g xs k).2.2 = 0 → f xs k = g xs k)
theorem Thr.alike {α : Type} {P : List Int → Rs α} {f g : Th α} (h : Thr P g) (a : Alike f g) : Thr P f := by
  refine ⟨fun xs v r hx => ?_, fun xs q hx => ?_, fun xs k hk => ?_⟩
  · have e := h.ok xs v r hx
    rw [(a xs 0).2 (by rw [e])]
    exact e
  · rw [(a xs 0).1]
    exact h.bad xs q hx
  · rw [(a xs k).1]
    exact h.stuck xs k hk
theorem alike_uint : Alike uintT uintS := by
  intro xs k
  unfold uintT uintS
  by_cases hk : k = 0
  · rw [if_pos hk, if_pos hk]
    by_cases ht : (tk 0 0 xs).2.2 = 0
    · rw [if_pos ht, if_pos ht]
      exact ⟨rfl, fun _ => rfl⟩
    · rw [if_neg ht, if_neg ht]
      exact ⟨rfl, fun h => absurd (by simpa using h) ht⟩
  · rw [if_neg hk, if_neg hk]
    exact ⟨rfl, fun _ => rfl⟩
def intR (most : Nat) : Th Nat := fun xs k => intT xs k most
theorem alike_int (most : Nat) : Alike (intR most) (intT' most) := by
  intro xs k
  have a := alike_uint xs k
  unfold intR intT' intT intS
  by_cases h : (uintS xs k).2.2 = 0
  · rw [a.2 h, if_pos h, if_pos h]
    by_cases c : (most : Int) < 0 ∨ (most : Int) < (uintS xs k).1
    · rw [if_pos c, if_pos c]
      exact ⟨rfl, fun h => absurd h (by decide)⟩
    · rw [if_neg c, if_neg c]
      exact ⟨rfl, fun _ => rfl⟩
  · rw [if_neg h, if_neg (by rw [a.1]; exact h)]
    exact ⟨a.1, fun e => absurd e h⟩
def byR (most : Nat) : Th (List Int) := fun xs k => bytesT xs k most
theorem alike_by (most : Nat) : Alike (byR most) (byT most) := by
  intro xs k
  have a : (intT xs k most).2.2 = (intS xs k most).2.2 ∧ ((intS xs k most).2.2 = 0 → intT xs k most = intS xs k most) := alike_int most xs k
  unfold byR byT bytesT bytesS
  by_cases h : (intS xs k most).2.2 = 0
  · rw [a.2 h, if_pos h, if_pos h]
    by_cases c : (intS xs k most).2.1.length < (intS xs k most).1
    · rw [if_pos c, if_pos c]
      exact ⟨rfl, fun h => absurd h (by decide)⟩
    · rw [if_neg c, if_neg c]
      exact ⟨rfl, fun _ => rfl⟩
  · rw [if_neg h, if_neg (by rw [a.1]; exact h)]
    exact ⟨a.1, fun e => absurd e h⟩
theorem thr_uintR : Thr pUint uintT := thr_uint.alike alike_uint
theorem thr_intR (most : Nat) : Thr (pInt most) (intR most) := (thr_int most).alike (alike_int most)
theorem thr_byR (most : Nat) : Thr (pBytes most) (byR most) := (thr_bytes most).alike (alike_by most)
end Go.Proofs.YtkmkmekhodcioaaGreatDoor

namespace Go.Proofs.YtkmkmekhodcioaaGreatDoor

def bytF (l : List Int) : List Int := enc l.length ++ l
def putI (x : It) : List Int := bytF x.k ++ bytF x.v
structure okI (x : It) : Prop where
  k : x.k.length ≤ 256 ∧ Byt x.k
  v : x.v.length ≤ 1024 ∧ Byt x.v
def mkI (p : List Int × List Int) : It := ⟨p.1, p.2⟩
def pI (xs : List Int) : Rs It := dress mkI (andThen (pBytes 256) (fun _ => pBytes 1024) xs)
theorem good_i : Good pI putI okI := by
  have h := (good_bytes 256 (by decide)).andThen (Q := fun _ => pBytes 1024) (g := fun _ l => enc l.length ++ l) (okQ := fun _ l => l.length ≤ 1024 ∧ Byt l) (fun _ _ => good_bytes 1024 (by decide))
  exact h.map mkI (fun x => (x.k, x.v)) okI (fun b hb => ⟨rfl, hb.k, hb.v⟩) (fun a ha => ⟨rfl, ha.1, ha.2⟩)
/-- A chunk's bytes. -/
def putCk (l : List It) : List Int := enc l.length ++ (l.map putI).flatten
def pCk (xs : List Int) : Rs (List It) := dress Prod.snd (andThen (pInt 64) (fun n => pRep pI n) xs)
structure okCk (l : List It) : Prop where
  len : l.length ≤ 64
  all : ∀ x ∈ l, okI x
theorem good_ck : Good pCk putCk okCk := by
  have h := (good_int 64 (by decide)).andThen (Q := fun n => pRep pI n) (g := fun _ l => (l.map putI).flatten) (okQ := fun n l => l.length = n ∧ ∀ a ∈ l, okI a) (fun n _ => good_i.rep n)
  refine h.map Prod.snd (fun l => (l.length, l)) okCk (fun b hb => ⟨rfl, hb.len, rfl, hb.all⟩) (fun a ha => ⟨?_, ?_⟩)
  · rw [ha.2.1]
  · exact ⟨by rw [ha.2.1]; exact ha.1, ha.2.2⟩
/-- Do keys rise, one by one? -/
def rises : List It → Bool
  | [] => true
  | x :: l => (match l with
    | [] => true
    | y :: _ => decide (cmpL x.k y.k < 0)) && rises l
theorem rises_srt : ∀ l : List It, rises l = true ↔ Srt l
  | [] => ⟨fun _ => List.Pairwise.nil, fun _ => rfl⟩
  | [x] => ⟨fun _ => Srt.one x, fun _ => rfl⟩
  | x :: y :: l => by
    have ih := rises_srt (y :: l)
    have e : rises (x :: y :: l) = (decide (cmpL x.k y.k < 0) && rises (y :: l)) := rfl
    rw [e, Bool.and_eq_true, ih, decide_eq_true_eq]
    constructor
    · rintro ⟨h1, h2⟩
      refine List.pairwise_cons.2 ⟨fun z hz => ?_, h2⟩
      rcases List.mem_cons.1 hz with rfl | hz
      · exact h1
      · exact cmpL_lt_trans _ _ _ h1 (h2.cons.1 z hz)
    · intro h
      exact ⟨h.cons.1 y (List.mem_cons_self ..), h.cons.2⟩
theorem rises_at : ∀ l : List It, rises l = true ↔ ∀ j (h : j + 1 < l.length), cmpL l[j].k l[j + 1].k < 0
  | [] => ⟨fun _ j h => by simp at h, fun _ => rfl⟩
  | [x] => ⟨fun _ j h => by simp at h, fun _ => rfl⟩
  | x :: y :: l => by
    have ih := rises_at (y :: l)
    have e : rises (x :: y :: l) = (decide (cmpL x.k y.k < 0) && rises (y :: l)) := rfl
    rw [e, Bool.and_eq_true, ih, decide_eq_true_eq]
    constructor
    · rintro ⟨h1, h2⟩ j hj
      cases j with
      | zero => exact h1
      | succ j => exact h2 j (by simpa using hj)
    · intro h
      exact ⟨h 0 (by simp), fun j hj => h (j + 1) (by simpa using hj)⟩
def headIs (l : List It) : Bool := match l with
  | [] => false
  | x :: _ => decide (x.k ≠ [])
/-- What stands against a chunk's items. -/
def kindCk (l : List It) : Int := if headIs l && rises l then 0 else 3
theorem kindCk_ok {l : List It} (h : kindCk l = 0) : l ≠ [] ∧ Srt l ∧ ∀ x ∈ l, x.k ≠ [] := by
  unfold kindCk at h
  by_cases c : (headIs l && rises l) = true
  · rw [Bool.and_eq_true] at c
    have hs := (rises_srt l).1 c.2
    cases l with
    | nil => simp [headIs] at c
    | cons x l =>
      refine ⟨by simp, hs, fun y hy => ?_⟩
      have hx : x.k ≠ [] := by simpa [headIs] using c.1
      rcases List.mem_cons.1 hy with rfl | hy
      · exact hx
      · have := hs.cons.1 y hy
        intro e
        rw [e] at this
        cases hk : x.k with
        | nil => exact hx hk
        | cons a b => rw [hk] at this; simp [cmpL] at this
  · rw [if_neg c] at h
    exact absurd h (by decide)
theorem kindCk_of {l : List It} (h1 : l ≠ []) (h2 : Srt l) (h3 : ∀ x ∈ l, x.k ≠ []) : kindCk l = 0 := by
  unfold kindCk
  rw [(rises_srt l).2 h2]
  cases l with
  | nil => exact absurd rfl h1
  | cons x l =>
    have : headIs (x :: l) = true := by simpa [headIs] using h3 x (List.mem_cons_self ..)
    rw [this]
    rfl
/-- What is read of bytes. -/
def rdCk (xs : List Int) : Sum Int (List It) := rdAll pCk kindCk xs
def itT : Th It := mapT mkI (andT (byT 256) (byT 1024))
def itR : Th It := mapT mkI (andT (byR 256) (byR 1024))
theorem thr_i : Thr pI itT := ((thr_bytes 256).andThen (thr_bytes 1024)).map mkI
theorem thr_iR : Thr pI itR := ((thr_byR 256).andThen (thr_byR 1024)).map mkI
def chT : Th (List It) := mapT Prod.snd (andD (intT' 64) fun n => repT itT n)
def chR : Th (List It) := mapT Prod.snd (andD (intR 64) fun n => stopT itR n)
theorem thr_ck : Thr pCk chT := ((thr_int 64).dep fun n => thr_i.rep n).map Prod.snd
theorem thr_ckR : Thr pCk chR := ((thr_intR 64).dep fun n => thr_iR.stop n).map Prod.snd
theorem rdCk_T (xs : List Int) : rdCk xs = rdT chT kindCk xs := rd_thr thr_ck kindCk xs
theorem rdCk_R (xs : List Int) : rdCk xs = rdT chR kindCk xs := rd_thr thr_ckR kindCk xs
theorem rdCk_put {l : List It} (h : okCk l) (hk : kindCk l = 0) : rdCk (putCk l) = .inr l := rdAll_put good_ck kindCk l h hk
theorem rdCk_back {xs : List Int} {l : List It} (hb : Byt xs) (h : rdCk xs = .inr l) : xs = putCk l ∧ okCk l ∧ kindCk l = 0 := rdAll_back good_ck kindCk hb h
theorem bytF_byt {l : List Int} (h : Byt l) (hl : l.length ≤ 1000000) : Byt (bytF l) := fun x hx => by
  rcases List.mem_append.1 hx with hx | hx
  · exact enc_byte (by omega) x hx
  · exact h x hx
theorem putI_byt {x : It} (h : okI x) : Byt (putI x) := fun y hy => by
  rcases List.mem_append.1 hy with hy | hy
  · exact bytF_byt h.k.2 (by have := h.k.1; omega) y hy
  · exact bytF_byt h.v.2 (by have := h.v.1; omega) y hy

/-- Items in parts of so many. -/
def cutF : Nat → Nat → List It → List (List It)
  | 0, _, _ => []
  | f + 1, per, l => if l.isEmpty then [] else l.take per :: cutF f per (l.drop per)
theorem cutF_nil (f per : Nat) : cutF f per [] = [] := by cases f <;> rfl
theorem cutF_more (per : Nat) (hp : 0 < per) : ∀ (f g : Nat) (l : List It), l.length ≤ f → l.length ≤ g → cutF f per l = cutF g per l
  | 0, g, l, hf, _ => by
    obtain rfl := List.eq_nil_of_length_eq_zero (Nat.le_zero.1 hf)
    rw [cutF_nil, cutF_nil]
  | f + 1, 0, l, _, hg => by
    obtain rfl := List.eq_nil_of_length_eq_zero (Nat.le_zero.1 hg)
    rw [cutF_nil, cutF_nil]
  | f + 1, g + 1, l, hf, hg => by
    cases l with
    | nil => rfl
    | cons x l =>
      have h1 : ((x :: l).drop per).length ≤ f := by rw [List.length_drop]; simp only [List.length_cons] at hf ⊢; omega
      have h2 : ((x :: l).drop per).length ≤ g := by rw [List.length_drop]; simp only [List.length_cons] at hg ⊢; omega
      show (x :: l).take per :: cutF f per ((x :: l).drop per) = (x :: l).take per :: cutF g per ((x :: l).drop per)
      rw [cutF_more per hp f g _ h1 h2]
def cuts (per : Nat) (l : List It) : List (List It) := cutF l.length per l
theorem cuts_nil (per : Nat) : cuts per [] = [] := rfl
theorem cuts_cons (per : Nat) (hp : 0 < per) {l : List It} (h : l ≠ []) : cuts per l = l.take per :: cuts per (l.drop per) := by
  cases l with
  | nil => exact absurd rfl h
  | cons x l =>
    show (x :: l).take per :: cutF l.length per ((x :: l).drop per) = _
    rw [cutF_more per hp l.length ((x :: l).drop per).length _ (by rw [List.length_drop]; simp only [List.length_cons]; omega) (Nat.le_refl _)]
    rfl
theorem cuts_flat (per : Nat) (hp : 0 < per) : ∀ (f : Nat) (l : List It), l.length ≤ f → (cutF f per l).flatten = l
  | 0, l, hf => by
    obtain rfl := List.eq_nil_of_length_eq_zero (Nat.le_zero.1 hf)
    rfl
  | f + 1, l, hf => by
    cases l with
    | nil => rfl
    | cons x l =>
      have h1 : ((x :: l).drop per).length ≤ f := by rw [List.length_drop]; simp only [List.length_cons] at hf ⊢; omega
      show ((x :: l).take per :: cutF f per ((x :: l).drop per)).flatten = _
      rw [List.flatten_cons, cuts_flat per hp f _ h1, List.take_append_drop]
/-- Where the parts begin, and how many each has: from i on, of n. -/
def stF (n per : Nat) : Nat → Nat → List (Nat × Nat)
  | 0, _ => []
  | f + 1, i => if i < n then (i, min per (n - i)) :: stF n per f (i + per) else []
theorem stF_more (n per : Nat) (hp : 0 < per) : ∀ (f g i : Nat), n - i ≤ f → n - i ≤ g → stF n per f i = stF n per g i
  | 0, 0, _, _, _ => rfl
  | 0, g + 1, i, hf, _ => by
    unfold stF
    rw [if_neg (by omega)]
  | f + 1, 0, i, _, hg => by
    unfold stF
    rw [if_neg (by omega)]
  | f + 1, g + 1, i, hf, hg => by
    unfold stF
    by_cases h : i < n
    · rw [if_pos h, if_pos h, stF_more n per hp f g (i + per) (by omega) (by omega)]
    · rw [if_neg h, if_neg h]
def sts (n per i : Nat) : List (Nat × Nat) := stF n per n i
theorem sts_end {n per i : Nat} (h : n ≤ i) : sts n per i = [] := by
  unfold sts
  cases n with
  | zero => rfl
  | succ n =>
    unfold stF
    rw [if_neg (by omega)]
theorem sts_cons {n per i : Nat} (hp : 0 < per) (h : i < n) : sts n per i = (i, min per (n - i)) :: sts n per (i + per) := by
  unfold sts
  cases n with
  | zero => omega
  | succ n =>
    rw [stF, if_pos h, stF_more (n + 1) per hp n (n + 1) (i + per) (by omega) (by omega)]
theorem sts_cuts {per : Nat} (hp : 0 < per) (l : List It) : ∀ (f i : Nat), l.length - i ≤ f → (sts l.length per i).map (fun x => (l.drop x.1).take x.2) = cuts per (l.drop i)
  | 0, i, h => by
    rw [sts_end (by omega), List.drop_eq_nil_of_le (by omega), cuts_nil]
    rfl
  | f + 1, i, h => by
    by_cases c : i < l.length
    · have ih := sts_cuts hp l f (i + per) (by omega)
      have hne : l.drop i ≠ [] := fun e => by
        have := congrArg List.length e
        rw [List.length_drop] at this
        simp only [List.length_nil] at this
        omega
      rw [sts_cons hp c, List.map_cons, ih, cuts_cons per hp hne, List.drop_drop]
      congr 1
      by_cases q : per ≤ l.length - i
      · simp only [Nat.min_eq_left q]
      · simp only [Nat.min_eq_right (Nat.le_of_lt (Nat.lt_of_not_le q))]
        rw [List.take_of_length_le (by simp), List.take_of_length_le (by rw [List.length_drop]; omega)]
    · rw [sts_end (by omega), List.drop_eq_nil_of_le (by omega), cuts_nil]
      rfl
theorem sts_len {n per : Nat} (hp : 0 < per) : ∀ (f i : Nat), n - i ≤ f → (sts n per i).length ≤ f
  | 0, i, h => by rw [sts_end (by omega)]; simp
  | f + 1, i, h => by
    by_cases c : i < n
    · have := sts_len (n := n) hp f (i + per) (by omega)
      rw [sts_cons hp c, List.length_cons]
      omega
    · rw [sts_end (by omega)]
      simp
theorem sts_mem {n per : Nat} (hp : 0 < per) : ∀ (f i : Nat), n - i ≤ f → ∀ x ∈ sts n per i, x.1 + x.2 ≤ n ∧ 0 < x.2
  | 0, i, h => by rw [sts_end (by omega)]; simp
  | f + 1, i, h => by
    by_cases c : i < n
    · have ih := sts_mem (n := n) hp f (i + per) (by omega)
      rw [sts_cons hp c]
      intro x hx
      rcases List.mem_cons.1 hx with rfl | hx
      · simp only [Nat.min_def]
        split <;> omega
      · exact ih x hx
    · rw [sts_end (by omega)]
      simp
end Go.Proofs.YtkmkmekhodcioaaGreatDoor

namespace Go.Proofs.YtkmkmekhodcioaaGreatDoor
open Go.RowKit

theorem below_drewN (w : World) (q B : Nat) : Below B w (w.drewN q) := ⟨rfl, rfl, rfl, Nat.le_refl _, fun _ _ => rfl⟩

theorem lists_of (n : Nat) (xs ys : List Int) (h1 : xs.length = n) (h2 : ys.length = n) (h : ∀ j, j < n → xs.getD j 0 = ys.getD j 0) : xs = ys := by
  apply List.ext_getElem (by omega)
  intro j hj hj2
  have := h j (by omega)
  simpa [List.getD, hj, hj2] using this

/-- Where an element is read the slice has an address without a spot. -/
theorem Sl.at {w : World} {ao : Option Addr} {n cap : Nat} {xs : List Int} (h : Sl w ao n cap xs) (hn : 0 < n) :
    ∃ b off, ao = some ⟨b, off, none⟩ ∧ ∀ i, i < n → w.cell? ⟨b, off + i, none⟩ = some (.int .u8 (xs.getD i 0)) := by
  cases ao with
  | none => have := (h.nil rfl).1; omega
  | some a =>
    obtain ⟨b, off, spot⟩ := a
    have hc := h.cell _ rfl 0 hn
    have hs : spot = none := by simpa [Addr.add] using World.cell?_spot hc
    subst hs
    exact ⟨b, off, rfl, fun i hi => by have := h.cell _ rfl i hi; rw [Addr.add_lit] at this; exact this⟩

set_option maxHeartbeats 800000 in
theorem same_any (w : World) (ao bo : Option Addr) (n cap m cap2 : Nat) (xs ys : List Int) (h : Sl w ao n cap xs) (h2 : Sl w bo m cap2 ys) :
    Calls Tryz.prog 12 #[.slice ao n cap, .slice bo m cap2] w fun e w' =>
      e = .returned (.bool (decide (xs = ys))) ∧ ∃ q, w' = w.drewN q := by
  have hl := h.len
  have hl2 := h2.len
  have hle := h.le
  have hmx := h.mx
  unfold maxLen at hmx
  by_cases hnm : n = m
  · subst hnm
    have hne : ((n : Int) != (n : Int)) = false := by simp
    go_enter Tryz.func12, Tryz.ntmps12
    go_wp2
    go_loopw [5] (fun i wr => ∃ k q : Nat, k ≤ n ∧ i = .int .i64 k ∧ wr = w.drewN q ∧ ∀ j, j < k → xs.getD j 0 = ys.getD j 0) (fun i _ => n - (intOf i).toNat)
    case atStart => exact ⟨0, 0, Nat.zero_le _, rfl, rfl, fun j hj => by omega⟩
    case round =>
      obtain ⟨k, q, hk, rfl, rfl, heq⟩ := hrel
      by_cases hlt : k < n
      · obtain ⟨b, off, rfl, hc⟩ := h.at (by omega)
        obtain ⟨b2, off2, rfl, hc2⟩ := h2.at (by omega)
        have c1 := hc k hlt
        have c2 := hc2 k hlt
        have hlt1 : (k : Int) < (n : Int) := by omega
        clear hc hc2
        have k1 : k < xs.length := by omega
        have k2 : k < ys.length := by omega
        by_cases he : xs[k] = ys[k]
        · have hb : (xs[k] != ys[k]) = false := by simp [he]
          have hE : Hid (xs[k] = ys[k]) := he
          clear he
          go_wp2
          go_quiet (fail)
          go_wp2
          go_roundw
          case rel =>
            refine ⟨k + 1, _, by omega, by go_num, rfl, fun j hj => ?_⟩
            by_cases hjk : j < k
            · exact heq j hjk
            · obtain rfl : j = k := by omega
              simpa [List.getD, k1, k2] using hE.out
          case measure => simp [intOf]; omega
        · have hb : (xs[k] != ys[k]) = true := by simp [he]
          have hE : Hid (¬ xs[k] = ys[k]) := he
          clear he
          go_wp2
          go_quiet (fail)
          go_wp2
          go_ret
          have hd : decide (xs = ys) = false := decide_eq_false (fun hx => by subst hx; exact hE.out rfl)
          rw [hd, World.drewN_drewN]
          exact ⟨rfl, _, rfl⟩
      · obtain rfl : k = n := by omega
        go_wp2
        go_ret
        have hd : decide (xs = ys) = true := decide_eq_true (lists_of k xs ys hl hl2 heq)
        rw [hd]
        exact ⟨rfl, _, rfl⟩
  · have hne : ((n : Int) != (m : Int)) = true := by simp; omega
    go_enter Tryz.func12, Tryz.ntmps12
    go_wp2
    go_ret
    have hd : decide (xs = ys) = false := decide_eq_false (fun hx => by subst hx; omega)
    rw [hd]
    exact ⟨rfl, 0, rfl⟩
end Go.Proofs.YtkmkmekhodcioaaGreatDoor

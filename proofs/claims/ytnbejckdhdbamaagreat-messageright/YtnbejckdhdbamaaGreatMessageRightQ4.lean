/-
  Texts in one: PKey, PutL, PVal.
-/
import Derived.Test.YtnbejckdhdbamaaGreatMessageRightQFL
import Derived.Test.YtnbejckdhdbamaaGreatMessageRightQ3
import Derived.Test.YtnbejckdhdbamaaGreatMessageRightQ1
namespace Go.Proofs.YtnbejckdhdbamaaGreat
open Go.RowKit
def putK (k : KA) : List Int := txt k.row ++ (txt k.fam ++ (txt k.qual ++ enc k.time))
structure KA.fits (k : KA) : Prop where
 row : k.row.size ≤ 32
 fam : k.fam.size ≤ 32
 qual : k.qual.size ≤ 32
 time : k.time < 18446744073709551616
set_option maxRecDepth 100000 in
set_option maxHeartbeats 4000000 in
theorem pkey_any (w : World) (ao : Option Addr) (n cap : Nat) (xs : List Int) (h : Sl w ao n cap xs) (hr : n ≤ 900000) (k : KA) (hk : k.fits) :
  Calls Tryz.prog 115 #[.slice ao n cap, k.val] w fun e w' => ∃ bo m c, e = .returned (.slice bo m c) ∧ Sl w' bo m c (xs ++ putK k) ∧ Below w.heap.size w w' := by
 have hxl := h.len
 have B : Below w.heap.size w (w.alloc (.cells #[.string k.row, .string k.fam, .string k.qual, .int .u64 k.time] 55)) := (Below.refl _ w).alloc (Nat.le_refl _) _
 have K := KyC.new w k
 have h1 := h.below B
 unfold KA.val
 go_enter Tryz.func115, Tryz.ntmps115
 go_wp2_with fail
 obtain ⟨w1, hw1⟩ : ∃ W, W = w.alloc (.cells #[.string k.row, .string k.fam, .string k.qual, .int .u64 k.time] 55) := ⟨_, rfl⟩
 obtain ⟨N, hN⟩ : ∃ N, N = w.heap.size := ⟨_, rfl⟩
 rw [← hw1] at B K h1 ⊢
 rw [← hN] at B K ⊢
 have HN : Hid (N = w.heap.size) := hN
 clear h hw1 hN
 have HS : Hid (∀ V, Below w1.heap.size w1 V → V.cell? ⟨N, 0, none⟩ = some (.string k.row) ∧ V.cell? ⟨N, 1, none⟩ = some (.string k.fam) ∧ V.cell? ⟨N, 2, none⟩ = some (.string k.qual) ∧ V.cell? ⟨N, 3, none⟩ = some (.int .u64 k.time)) := fun V hV => have q := K.keep hV; ⟨q.c0, q.c1, q.c2, q.c3⟩
 refine zB (by kernel_rfl) HS.out fun v0 E0 H0 => ?_
 refine zT 0 (some 5) (.slice ao n cap) rfl rfl (by kernel_rfl) rfl (fun W ⟨h0, h1, h2, h3⟩ => by go_simp) H0 ?_
 simp only [FL]
 refine zT 1 (some 6) (.pointer (some ⟨N, 0, none⟩)) rfl rfl (by kernel_rfl) rfl (fun W ⟨h0, h1, h2, h3⟩ => by go_simp) H0 ?_
 simp only [FL]
 refine zT 2 (some 7) (.string k.row) rfl rfl (by kernel_rfl) rfl (fun W ⟨h0, h1, h2, h3⟩ => by go_simp) H0 ?_
 simp only [FL]
 refine zT 3 (some 8) (.pointer (some ⟨N, 1, none⟩)) rfl rfl (by kernel_rfl) rfl (fun W ⟨h0, h1, h2, h3⟩ => by go_simp) H0 ?_
 simp only [FL]
 refine zT 4 (some 9) (.string k.fam) rfl rfl (by kernel_rfl) rfl (fun W ⟨h0, h1, h2, h3⟩ => by go_simp) H0 ?_
 simp only [FL]
 refine zT 5 (some 10) (.pointer (some ⟨N, 2, none⟩)) rfl rfl (by kernel_rfl) rfl (fun W ⟨h0, h1, h2, h3⟩ => by go_simp) H0 ?_
 simp only [FL]
 refine zT 6 (some 11) (.string k.qual) rfl rfl (by kernel_rfl) rfl (fun W ⟨h0, h1, h2, h3⟩ => by go_simp) H0 ?_
 simp only [FL]
 refine zT 9 (some 14) (.pointer (some ⟨N, 3, none⟩)) rfl rfl (by kernel_rfl) rfl (fun W ⟨h0, h1, h2, h3⟩ => by go_simp) H0 ?_
 simp only [FL]
 refine zT 10 (some 15) (.int .u64 k.time) rfl rfl (by kernel_rfl) rfl (fun W ⟨h0, h1, h2, h3⟩ => by go_simp) H0 ?_
 simp only [FL]
 obtain ⟨g, hg⟩ : ∃ g, g = v0.heap.size := ⟨_, rfl⟩
 obtain ⟨u0, hu0⟩ : ∃ V, V = v0.alloc (.cells #[.string k.row, .string k.fam, .string k.qual] 9) := ⟨_, rfl⟩
 have U0 : Below v0.heap.size v0 u0 := by rw [hu0]; exact (Below.refl _ _).alloc (Nat.le_refl _) _
 have hc : ∀ i (hi : i < [k.row, k.fam, k.qual].length), u0.cell? ⟨g, i, none⟩ = some (.string [k.row, k.fam, k.qual][i]) := fun i hi => by
  rw [hu0, hg, cell_of_row _ v0.heap.size i #[.string k.row, .string k.fam, .string k.qual] 9 (0, 0) (heap_alloc_new v0 _)]
  have hi : i < 3 := hi
  obtain rfl | rfl | rfl : i = 0 ∨ i = 1 ∨ i = 2 := by omega
  all_goals rfl
 have E1 := E0.trans (U0.mono E0.size)
 have H1 := HS.out u0 E1
 refine hr_do 7 (some 12) (.slice (some ⟨g, 0, none⟩) 3 3) rfl rfl (by kernel_rfl) rfl (w' := u0) (by rw [hu0, hg]; go_simp) H1 ?_
 simp only [FL]
 clear hu0 hg U0
 have s1 := h1.below E1
 obtain ⟨v1, hv1⟩ : ∃ V, V = u0 := ⟨_, rfl⟩
 rw [← hv1] at hc E1 H1 s1 ⊢
 clear hv1
 have h32 : ∀ s ∈ [k.row, k.fam, k.qual], s.size ≤ 32 := by
  intro s hs
  simp only [List.mem_cons, List.not_mem_nil, or_false] at hs
  rcases hs with rfl | rfl | rfl
  ·exact hk.row
  ·exact hk.fam
  ·exact hk.qual
 have l0 := txt_len hk.row
 have l1 := txt_len hk.fam
 have l2 := txt_len hk.qual
 refine hr_call_w 8 (some 13) 116 #[.slice ao n cap, .slice (some ⟨g, 0, none⟩) 3 3] rfl rfl (by kernel_rfl) rfl (by go_simp) (fun v w' => ∃ bo m c, v = .slice bo m c ∧ Sl w' bo m c (xs ++ ([k.row, k.fam, k.qual].map txt).flatten) ∧ Below v1.heap.size v1 w') ((ptexts_any v1 ao n cap xs s1 hr g [k.row, k.fam, k.qual] hc (Nat.le_refl 3) h32).mono (by
  rintro e w' ⟨bo, m, c, rfl, F, C⟩
  exact ⟨_, rfl, bo, m, c, rfl, F, C⟩)) ?_
 rintro v v2 ⟨bo, m, c, rfl, F1, C1⟩
 have E2 := E1.trans (C1.mono E1.size)
 have H2 := HS.out v2 E2
 refine ⟨H2, ?_⟩
 simp only [FL]
 have lm := F1.len
 simp only [List.map_cons, List.map_nil, List.flatten_cons, List.flatten_nil, List.length_append, List.append_nil] at lm
 refine hr_call_w 11 (some 16) 86 #[.slice bo m c, .int .u64 k.time] rfl rfl (by kernel_rfl) rfl (by go_simp) (fun v w' => ∃ bo2 m2 c2, v = .slice bo2 m2 c2 ∧ Sl w' bo2 m2 c2 (xs ++ ([k.row, k.fam, k.qual].map txt).flatten ++ enc k.time) ∧ Below v2.heap.size v2 w') ((fUint v2 bo m c k.time _ F1 (by omega) hk.time).mono (by
  rintro e w' ⟨bo2, m2, c2, rfl, F, C⟩
  exact ⟨_, rfl, bo2, m2, c2, rfl, F, C⟩)) ?_
 rintro v v3 ⟨bo2, m2, c2, rfl, F2, C2⟩
 have E3 := E2.trans (C2.mono E2.size)
 have H3 := HS.out v3 E3
 refine ⟨H3, ?_⟩
 simp only [FL]
 refine zT 12 (some 4) (.slice bo2 m2 c2) rfl rfl (by kernel_rfl) rfl (fun W ⟨h0, h1, h2, h3⟩ => by go_simp) H3 ?_
 simp only [FL]
 refine wpAnyH_done (by kernel_rfl) ?_ _
 refine NoPanic.normal ?_
 have D := B.trans (E3.mono (by have := B.size; have := HN.out; omega))
 have fin : xs ++ ([k.row, k.fam, k.qual].map txt).flatten ++ enc k.time = xs ++ putK k := by
  unfold putK
  simp
 rw [fin] at F2
 go_wp2
 go_ret
 exact ⟨bo2, m2, c2, rfl, F2, by rw [← HN.out]; exact D⟩
open Go.RowKit
theorem fUintI (w : World) (ao : Option Addr) (n cap : Nat) (m : Int) (xs : List Int) (h : Sl w ao n cap xs) (hr : n ≤ 1000000) (h0 : 0 ≤ m) (hm : m < 18446744073709551616) :
  Calls Tryz.prog 86 #[.slice ao n cap, .int .u64 m] w fun e w' => ∃ bo k c, e = .returned (.slice bo k c) ∧ Sl w' bo k c (xs ++ enc m.toNat) ∧ Below w.heap.size w w' := by
 obtain ⟨k, rfl⟩ : ∃ k : Nat, m = k := ⟨m.toNat, (Int.toNat_of_nonneg h0).symm⟩
 exact fUint w ao n cap k xs h hr (by omega)
theorem byts_len {l : List Int} (h : l.length ≤ 256) : (byts l).length ≤ 266 := by
 have := enc_length (n := l.length) (by omega)
 unfold byts
 rw [List.length_append]
 omega
theorem putK_len {k : KA} (h : k.fits) : (putK k).length ≤ 136 := by
 have := txt_len h.row
 have := txt_len h.fam
 have := txt_len h.qual
 have := enc_length h.time
 unfold putK
 simp only [List.length_append]
 omega
theorem enb_len (b : Bool) : (enb b).length = 1 := by cases b <;> rfl
def PutPost (w : World) (ys : List Int) (e : Ending) (w' : World) : Prop := ∃ bo m c, e = .returned (.slice bo m c) ∧ Sl w' bo m c ys ∧ Below w.heap.size w w'
open Go.RowKit
theorem pwant_any (w : World) (ao : Option Addr) (n cap : Nat) (b : Bool) :
  Calls Tryz.prog 126 #[.slice ao n cap, .bool b] w fun e w' => e = .returned (.bool (decide (n ≤ 256 ∧ (b = true ∨ n = 0)))) ∧ w' = w := by
 by_cases l : n ≤ 256
 ·have hv : decide (n ≤ 256) = true := decide_eq_true l
  cases b with
  | true =>
   rw [decide_eq_true ⟨l, .inl rfl⟩]
   go_enter Tryz.func126, Tryz.ntmps126
   go_wp2_with (go_at_call 123; refine (pvalue_any _ ao n cap).mono ?_; rintro e w' ⟨rfl, rfl⟩; rw [hv])
   go_ret
   exact ⟨rfl, rfl⟩
  | false =>
   by_cases z : n = 0
   ·subst z
    rw [decide_eq_true ⟨by omega, .inr rfl⟩]
    go_enter Tryz.func126, Tryz.ntmps126
    go_wp2_with (go_at_call 123; refine (pvalue_any _ ao 0 cap).mono ?_; rintro e w' ⟨rfl, rfl⟩; rw [hv])
    go_ret
    exact ⟨rfl, rfl⟩
   ·have i : ((n : Int) == 0) = false := by simp; omega
    rw [decide_eq_false (by simp; omega)]
    go_enter Tryz.func126, Tryz.ntmps126
    go_wp2_with (go_at_call 123; refine (pvalue_any _ ao n cap).mono ?_; rintro e w' ⟨rfl, rfl⟩; rw [hv])
    go_ret
    exact ⟨rfl, rfl⟩
 ·have hv : decide (n ≤ 256) = false := decide_eq_false l
  rw [decide_eq_false (fun h => l h.1)]
  go_enter Tryz.func126, Tryz.ntmps126
  go_wp2_with (go_at_call 123; refine (pvalue_any _ ao n cap).mono ?_; rintro e w' ⟨rfl, rfl⟩; rw [hv])
  go_ret
  exact ⟨rfl, rfl⟩
theorem pequal_any (w : World) (ao bo : Option Addr) (n cap m cap2 : Nat) (xs ys : List Int) (h : Sl w ao n cap xs) (h2 : Sl w bo m cap2 ys) :
  Calls Tryz.prog 26 #[.slice ao n cap, .slice bo m cap2] w fun e w' => e = .returned (.bool (decide (xs = ys))) ∧ w' = w := by
 have c1 := conv_str h
 have c2 := conv_str h2
 by_cases e : xs = ys
 ·subst e
  rw [decide_eq_true rfl]
  go_enter Tryz.func26, Tryz.ntmps26
  go_wp2
  go_ret
  exact ⟨rfl, rfl⟩
 ·have i : ((strOfNums xs).toList == (strOfNums ys).toList) = false := toL_ne fun q => e (by rw [← sb_str h.byte, q, sb_str h2.byte])
  rw [decide_eq_false e]
  go_enter Tryz.func26, Tryz.ntmps26
  go_wp2
  go_ret
  exact ⟨rfl, rfl⟩
end Go.Proofs.YtnbejckdhdbamaaGreat

/-
  Texts in one: MgEqQ, MgEqO.
-/
import Derived.Test.YtnbejckdhdbamaaGreatMessageRightQ0
import Derived.Test.YtnbejckdhdbamaaGreatMessageRightQ10
import Derived.Test.YtnbejckdhdbamaaGreatMessageRightQ1
namespace Go.Proofs.YtnbejckdhdbamaaGreat
open Go.RowKit
structure GLQ (w : World) (ao : Option Addr) (n cap : Nat) (l : List QE) : Prop where
 g : GL elQ w ao n cap (l.map QE.m)
theorem GLQ.len {w : World} {ao : Option Addr} {n cap : Nat} {l : List QE} (h : GLQ w ao n cap l) : l.length = n := by have := h.g.len; rwa [List.length_map] at this
theorem GLQ.below {w w' : World} {ao : Option Addr} {n cap : Nat} {l : List QE} (h : GLQ w ao n cap l) (hb : Below w.heap.size w w') : GLQ w' ao n cap l := ⟨h.g.below elQ_fine hb⟩
theorem GLQ.at {w : World} {ao : Option Addr} {n cap : Nat} {l : List QE} (h : GLQ w ao n cap l) (hn : 0 < n) :
  ∃ b off, ao = some ⟨b, off, none⟩ ∧ ∀ i (hi : i < l.length), QX w b (off + i * 12) l[i].m := by
 obtain ⟨b, off, e, k⟩ := h.g.atQ hn
 refine ⟨b, off, e, fun i hi => ?_⟩
 have := k i (by rw [List.length_map]; exact hi)
 rw [List.getElem_map] at this
 exact this
set_option maxRecDepth 100000 in
set_option maxHeartbeats 4000000 in
theorem eqfQ_any (w : World) (ao bo : Option Addr) (n cap m cap2 : Nat) (xs ys : List (QE)) (hx : GLQ w ao n cap xs) (hy : GLQ w bo m cap2 ys) (f : QE → QE → Bool) (hn : n ≤ 1000000)
  (hcb : ∀ V, Below w.heap.size w V → ∀ x ∈ xs, ∀ y ∈ ys, Calls Tryz.prog 28 #[.agg #[.int .u64 x.m.cl, .int .u64 x.m.st, .int .i64 x.m.o.kind, .string x.m.o.row, .string x.m.o.fam, .string x.m.o.qual, .int .u64 x.m.o.time, .string x.m.o.to, .slice x.m.o.va.ao x.m.o.va.n x.m.o.va.cap, .slice x.m.o.wa.ao x.m.o.wa.n x.m.o.wa.cap, .bool x.m.o.has, .slice x.m.o.so x.m.o.sn x.m.o.sc], .agg #[.int .u64 y.m.cl, .int .u64 y.m.st, .int .i64 y.m.o.kind, .string y.m.o.row, .string y.m.o.fam, .string y.m.o.qual, .int .u64 y.m.o.time, .string y.m.o.to, .slice y.m.o.va.ao y.m.o.va.n y.m.o.va.cap, .slice y.m.o.wa.ao y.m.o.wa.n y.m.o.wa.cap, .bool y.m.o.has, .slice y.m.o.so y.m.o.sn y.m.o.sc]] V fun e w' => e = .returned (.bool (f x y)) ∧ Below V.heap.size V w') :
  Calls Tryz.prog 27 #[.slice ao n cap, .slice bo m cap2, .func (.func 28) #[] #[]] w fun e w' => e = .returned (.bool (sameL f xs ys)) ∧ Below w.heap.size w w' := by
 have hxl := hx.len
 have hyl := hy.len
 obtain ⟨R, hR⟩ : ∃ R, R = sameL f xs ys := ⟨_, rfl⟩
 rw [← hR]
 by_cases hnm : n = m
 ·subst hnm
  have E0 : EF w f xs ys R (.int .i64 0) w := ⟨0, Nat.zero_le _, rfl, hR, Below.refl _ _⟩
  clear hR
  go_enter Tryz.func27, Tryz.ntmps27
  go_wp2_with fail
  go_loopw [17] (fun i wr => EF w f xs ys R i wr) (fun i _ => n - (intOf i).toNat)
  case atStart => exact E0
  case round =>
   clear E0
   obtain ⟨k, hk, rfl, hR, E⟩ := hrel
   have HR : Hid (R = sameL f (xs.drop k) (ys.drop k)) := hR
   clear hR
   by_cases hkl : k < n
   ·have hki : (k : Int) < (n : Int) := by omega
    have h1 : k < xs.length := by omega
    have h2 : k < ys.length := by omega
    have hst := sameL_drop f h1 h2
    obtain ⟨ab, aoff, rfl, hA⟩ := (hx.below E).at (by omega)
    have hA := hA k h1
    obtain ⟨x, hxe⟩ : ∃ x, x = xs[k] := ⟨_, rfl⟩
    obtain ⟨y, hye⟩ : ∃ y, y = ys[k] := ⟨_, rfl⟩
    have mx : x ∈ xs := by rw [hxe]; exact List.getElem_mem h1
    have my : y ∈ ys := by rw [hye]; exact List.getElem_mem h2
    rw [← hxe] at hA
    have E1 : Below w.heap.size w (wr.alloc (.cells #[.int .u64 x.m.cl, .int .u64 x.m.st, .int .i64 x.m.o.kind, .string x.m.o.row, .string x.m.o.fam, .string x.m.o.qual, .int .u64 x.m.o.time, .string x.m.o.to, .slice x.m.o.va.ao x.m.o.va.n x.m.o.va.cap, .slice x.m.o.wa.ao x.m.o.wa.n x.m.o.wa.cap, .bool x.m.o.has, .slice x.m.o.so x.m.o.sn x.m.o.sc] 60)) := E.alloc E.size _
    have EC : Below w.heap.size w ((wr.alloc (.cells #[.int .u64 x.m.cl, .int .u64 x.m.st, .int .i64 x.m.o.kind, .string x.m.o.row, .string x.m.o.fam, .string x.m.o.qual, .int .u64 x.m.o.time, .string x.m.o.to, .slice x.m.o.va.ao x.m.o.va.n x.m.o.va.cap, .slice x.m.o.wa.ao x.m.o.wa.n x.m.o.wa.cap, .bool x.m.o.has, .slice x.m.o.so x.m.o.sn x.m.o.sc] 60)).alloc (.cells #[.int .u64 y.m.cl, .int .u64 y.m.st, .int .i64 y.m.o.kind, .string y.m.o.row, .string y.m.o.fam, .string y.m.o.qual, .int .u64 y.m.o.time, .string y.m.o.to, .slice y.m.o.va.ao y.m.o.va.n y.m.o.va.cap, .slice y.m.o.wa.ao y.m.o.wa.n y.m.o.wa.cap, .bool y.m.o.has, .slice y.m.o.so y.m.o.sn y.m.o.sc] 60)) := E1.alloc E1.size _
    obtain ⟨bb, boff, rfl, hB⟩ := (hy.below E1).at (by omega)
    have hB := hB k h2
    rw [← hye] at hB
    have hc := hcb _ EC x mx y my
    rw [← hxe, ← hye] at hst
    have HST : Hid (R = (f x y && sameL f (xs.drop (k + 1)) (ys.drop (k + 1)))) := by show _ = _; rw [HR.out, hst]
    obtain ⟨p0, p1, p2, p3, p4, p5, p6, p7, p8, p9, p10, p11⟩ := hA
    obtain ⟨q0, q1, q2, q3, q4, q5, q6, q7, q8, q9, q10, q11⟩ := hB
    clear mx my E1
    clear hst hxe hye
    cases hf : f x y with
    | true =>
     have HR2 : Hid (R = sameL f (xs.drop (k + 1)) (ys.drop (k + 1))) := by show _ = _; rw [HST.out, hf, Bool.true_and]
     rw [hf] at hc
     clear hf
     go_wp2_with (go_at_call 28; refine hc.mono ?_; rintro e w2 ⟨rfl, E2⟩)
     have RL : ∀ i : Value, i = .int .i64 ((k + 1 : Nat) : Int) → EF w f xs ys R i w2 := fun i hi => ⟨k + 1, by omega, hi, HR2.out, EC.trans (E2.mono EC.size)⟩
     all_goals (try go_big_round)
     all_goals refine ⟨?_, ?_⟩
     all_goals first
      | exact RL _ (by go_num)
      | (simp [intOf]; omega)
    | false =>
     have HR2 : Hid (R = false) := by show _ = _; rw [HST.out, hf, Bool.false_and]
     rw [hf] at hc
     clear hf
     go_wp2_with (go_at_call 28; refine hc.mono ?_; rintro e w2 ⟨rfl, E2⟩)
     go_ret
     exact ⟨by rw [HR2.out] <;> rfl, EC.trans (E2.mono EC.size)⟩
   ·have hki : ¬ (k : Int) < (n : Int) := by omega
    have HR2 : Hid (R = true) := by show _ = _; rw [HR.out, List.drop_of_length_le (by omega), List.drop_of_length_le (by omega)]; rfl
    go_wp2
    go_ret
    exact ⟨by rw [HR2.out] <;> rfl, E⟩
 ·have HR2 : Hid (R = false) := by
   show _ = _
   rw [hR]
   cases hs : sameL f xs ys with
   | false => rfl
   | true => have := sameL_len3 hs; omega
  have i0 : ((n : Int) != m) = true := by simp; omega
  clear hR
  go_enter Tryz.func27, Tryz.ntmps27
  go_wp2
  go_ret
  exact ⟨by rw [HR2.out] <;> rfl, Below.refl _ _⟩
open Go.RowKit
set_option maxRecDepth 100000 in
set_option maxHeartbeats 4000000 in
theorem eqfO_any (d : Nat) (w : World) (ao bo : Option Addr) (n cap m cap2 : Nat) (xs ys : List (OD d)) (hx : OWL w d ao n cap xs) (hy : OWL w d bo m cap2 ys) (f : OD d → OD d → Bool) (hn : n ≤ 1000000)
  (hcb : ∀ V, Below w.heap.size w V → ∀ x ∈ xs, ∀ y ∈ ys, Calls Tryz.prog 68 #[.agg #[.int .i64 (topD d x).kind, .string (topD d x).row, .string (topD d x).fam, .string (topD d x).qual, .int .u64 (topD d x).time, .string (topD d x).to, .slice (topD d x).va.ao (topD d x).va.n (topD d x).va.cap, .slice (topD d x).wa.ao (topD d x).wa.n (topD d x).wa.cap, .bool (topD d x).has, .slice (topD d x).so (topD d x).sn (topD d x).sc], .agg #[.int .i64 (topD d y).kind, .string (topD d y).row, .string (topD d y).fam, .string (topD d y).qual, .int .u64 (topD d y).time, .string (topD d y).to, .slice (topD d y).va.ao (topD d y).va.n (topD d y).va.cap, .slice (topD d y).wa.ao (topD d y).wa.n (topD d y).wa.cap, .bool (topD d y).has, .slice (topD d y).so (topD d y).sn (topD d y).sc]] V fun e w' => e = .returned (.bool (f x y)) ∧ Below V.heap.size V w') :
  Calls Tryz.prog 105 #[.slice ao n cap, .slice bo m cap2, .func (.func 68) #[] #[]] w fun e w' => e = .returned (.bool (sameL f xs ys)) ∧ Below w.heap.size w w' := by
 have hxl := hx.len
 have hyl := hy.len
 obtain ⟨R, hR⟩ : ∃ R, R = sameL f xs ys := ⟨_, rfl⟩
 rw [← hR]
 by_cases hnm : n = m
 ·subst hnm
  have E0 : EF w f xs ys R (.int .i64 0) w := ⟨0, Nat.zero_le _, rfl, hR, Below.refl _ _⟩
  clear hR
  go_enter Tryz.func105, Tryz.ntmps105
  go_wp2_with fail
  go_loopw [17] (fun i wr => EF w f xs ys R i wr) (fun i _ => n - (intOf i).toNat)
  case atStart => exact E0
  case round =>
   clear E0
   obtain ⟨k, hk, rfl, hR, E⟩ := hrel
   have HR : Hid (R = sameL f (xs.drop k) (ys.drop k)) := hR
   clear hR
   by_cases hkl : k < n
   ·have hki : (k : Int) < (n : Int) := by omega
    have h1 : k < xs.length := by omega
    have h2 : k < ys.length := by omega
    have hst := sameL_drop f h1 h2
    obtain ⟨ab, aoff, rfl, hA⟩ := (hx.below E).at (by omega)
    have hA := hA k h1
    obtain ⟨x, hxe⟩ : ∃ x, x = xs[k] := ⟨_, rfl⟩
    obtain ⟨y, hye⟩ : ∃ y, y = ys[k] := ⟨_, rfl⟩
    have mx : x ∈ xs := by rw [hxe]; exact List.getElem_mem h1
    have my : y ∈ ys := by rw [hye]; exact List.getElem_mem h2
    rw [← hxe] at hA
    have E1 : Below w.heap.size w (wr.alloc (.cells #[.int .i64 (topD d x).kind, .string (topD d x).row, .string (topD d x).fam, .string (topD d x).qual, .int .u64 (topD d x).time, .string (topD d x).to, .slice (topD d x).va.ao (topD d x).va.n (topD d x).va.cap, .slice (topD d x).wa.ao (topD d x).wa.n (topD d x).wa.cap, .bool (topD d x).has, .slice (topD d x).so (topD d x).sn (topD d x).sc] 58)) := E.alloc E.size _
    have EC : Below w.heap.size w ((wr.alloc (.cells #[.int .i64 (topD d x).kind, .string (topD d x).row, .string (topD d x).fam, .string (topD d x).qual, .int .u64 (topD d x).time, .string (topD d x).to, .slice (topD d x).va.ao (topD d x).va.n (topD d x).va.cap, .slice (topD d x).wa.ao (topD d x).wa.n (topD d x).wa.cap, .bool (topD d x).has, .slice (topD d x).so (topD d x).sn (topD d x).sc] 58)).alloc (.cells #[.int .i64 (topD d y).kind, .string (topD d y).row, .string (topD d y).fam, .string (topD d y).qual, .int .u64 (topD d y).time, .string (topD d y).to, .slice (topD d y).va.ao (topD d y).va.n (topD d y).va.cap, .slice (topD d y).wa.ao (topD d y).wa.n (topD d y).wa.cap, .bool (topD d y).has, .slice (topD d y).so (topD d y).sn (topD d y).sc] 58)) := E1.alloc E1.size _
    obtain ⟨bb, boff, rfl, hB⟩ := (hy.below E1).at (by omega)
    have hB := hB k h2
    rw [← hye] at hB
    have hc := hcb _ EC x mx y my
    rw [← hxe, ← hye] at hst
    have HST : Hid (R = (f x y && sameL f (xs.drop (k + 1)) (ys.drop (k + 1)))) := by show _ = _; rw [HR.out, hst]
    obtain ⟨p0, p1, p2, p3, p4, p5, p6, p7, p8, p9⟩ := hA
    obtain ⟨q0, q1, q2, q3, q4, q5, q6, q7, q8, q9⟩ := hB
    clear mx my E1
    clear hst hxe hye
    cases hf : f x y with
    | true =>
     have HR2 : Hid (R = sameL f (xs.drop (k + 1)) (ys.drop (k + 1))) := by show _ = _; rw [HST.out, hf, Bool.true_and]
     rw [hf] at hc
     clear hf
     go_wp2_with (go_at_call 68; refine hc.mono ?_; rintro e w2 ⟨rfl, E2⟩)
     have RL : ∀ i : Value, i = .int .i64 ((k + 1 : Nat) : Int) → EF w f xs ys R i w2 := fun i hi => ⟨k + 1, by omega, hi, HR2.out, EC.trans (E2.mono EC.size)⟩
     all_goals (try go_big_round)
     all_goals refine ⟨?_, ?_⟩
     all_goals first
      | exact RL _ (by go_num)
      | (simp [intOf]; omega)
    | false =>
     have HR2 : Hid (R = false) := by show _ = _; rw [HST.out, hf, Bool.false_and]
     rw [hf] at hc
     clear hf
     go_wp2_with (go_at_call 68; refine hc.mono ?_; rintro e w2 ⟨rfl, E2⟩)
     go_ret
     exact ⟨by rw [HR2.out] <;> rfl, EC.trans (E2.mono EC.size)⟩
   ·have hki : ¬ (k : Int) < (n : Int) := by omega
    have HR2 : Hid (R = true) := by show _ = _; rw [HR.out, List.drop_of_length_le (by omega), List.drop_of_length_le (by omega)]; rfl
    go_wp2
    go_ret
    exact ⟨by rw [HR2.out] <;> rfl, E⟩
 ·have HR2 : Hid (R = false) := by
   show _ = _
   rw [hR]
   cases hs : sameL f xs ys with
   | false => rfl
   | true => have := sameL_len3 hs; omega
  have i0 : ((n : Int) != m) = true := by simp; omega
  clear hR
  go_enter Tryz.func105, Tryz.ntmps105
  go_wp2
  go_ret
  exact ⟨by rw [HR2.out] <;> rfl, Below.refl _ _⟩
end Go.Proofs.YtnbejckdhdbamaaGreat

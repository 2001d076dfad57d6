/-
  Texts in one: RRight.
-/
import Derived.Test.YtnbejckdhdbamaaGreatMessageRightQFL
import Derived.Test.YtnbejckdhdbamaaGreatMessageRightQ21
import Derived.Test.YtnbejckdhdbamaaGreatMessageRightQ16
import Derived.Test.YtnbejckdhdbamaaGreatMessageRightQ22
import Derived.Test.YtnbejckdhdbamaaGreatMessageRightQ8
import Derived.Test.YtnbejckdhdbamaaGreatMessageRightQ1
import Derived.Deep.DeepCutAuto
namespace Go.Proofs.YtnbejckdhdbamaaGreat
open Go.RowKit
def is0 (o : OA) : Bool := sameS o.s (onlyS o.s) && decide (o.kind = 6 ∨ o.sn = 0)
def is1 (o : OA) : Bool := is0 o && (decide (o.va.n ≤ 256) && decide (o.wa.n ≤ 256))
def partsOf {d : Nat} (o : OA) (l : List (OD d)) : List (OD d) := if o.kind = 6 then l else []
theorem only_OW {w : World} {d : Nat} {o : OA} {l : List (OD d)} (h : OW w (d + 1) (o, l)) : OW w (d + 1) (onlyA o, partsOf o l) := by
 obtain ⟨e1, e2, e3⟩ := onlyA_sn o
 refine ⟨onlyA_ok h.1, ?_, ?_, ?_⟩
 ·show (partsOf o l).length = (onlyA o).sn
  rw [e2]
  unfold partsOf
  by_cases k : o.kind = 6
  ·rw [if_pos k, if_pos k]
   exact h.2.1
  ·rw [if_neg k, if_neg k]
   rfl
 ·intro a ha i hi
  have ha : (onlyA o).so = some a := ha
  rw [e1] at ha
  unfold partsOf at hi ⊢
  by_cases k : o.kind = 6
  ·rw [if_pos k] at ha
   simp only [k, if_true] at hi ⊢
   exact h.2.2.1 a ha i hi
  ·rw [if_neg k] at ha
   simp at ha
 ·intro y hy
  have hy : y ∈ partsOf o l := hy
  unfold partsOf at hy
  by_cases k : o.kind = 6
  ·rw [if_pos k] at hy
   exact h.2.2.2 y hy
  ·rw [if_neg k] at hy
   simp at hy
theorem only_light {d : Nat} {o : OA} {l : List (OD d)} (h : lightD (d + 1) (o, l) = true) : lightD (d + 1) (onlyA o, partsOf o l) = true := by
 obtain ⟨h1, h2⟩ := Bool.and_eq_true_iff.1 h
 have h1 : o.row.size + o.fam.size + o.qual.size + o.to.size ≤ 500 ∧ o.va.n ≤ 600 ∧ o.wa.n ≤ 600 ∧ o.sn ≤ 12 := of_decide_eq_true h1
 have z : noTxt.size = 0 := rfl
 have z2 : noBs.n = 0 := rfl
 refine Bool.and_eq_true_iff.2 ⟨decide_eq_true ?_, ?_⟩
 ·unfold onlyA
  split
  ·simp only [z, z2]; omega
  ·split
   ·simp only [z, z2]; omega
   ·split
    ·simp only [z, z2]; omega
    ·split
     ·refine ⟨by simp only [z]; omega, h1.2.1, ?_, Nat.zero_le _⟩
      show (if o.has = true then o.wa else noBs).n ≤ 600
      split
      ·exact h1.2.2.1
      ·rw [z2]; omega
     ·split
      ·simp only [z, z2]; omega
      ·split
       ·simp only [z, z2]; omega
       ·simp only [z, z2]; omega
 ·show (partsOf o l).all (lightD d) = true
  unfold partsOf
  by_cases k : o.kind = 6
  ·rw [if_pos k]; exact h2
  ·rw [if_neg k]; rfl
theorem only_same {d : Nat} {o : OA} {l : List (OD d)} (hn : l.length = o.sn) : sameD (d + 1) (o, l) (onlyA o, partsOf o l) = is0 o := by
 show (sameS o.s (onlyA o).s && sameL (sameD d) l (partsOf o l)) = _
 unfold is0
 rw [onlyA_s]
 congr 1
 unfold partsOf
 by_cases k : o.kind = 6
 ·rw [if_pos k, decide_eq_true (.inl k)]
  exact sameL_self _ _ (fun y _ => sameD_self d y)
 ·rw [if_neg k]
  by_cases z : o.sn = 0
  ·rw [decide_eq_true (.inr z), List.eq_nil_of_length_eq_zero (hn.trans z)]
   rfl
  ·rw [decide_eq_false (by omega)]
   exact sameL_len _ _ _ (by show l.length ≠ 0; omega)
def kindB (o : OA) (b : Bool) : Bool := if o.kind = 1 ∨ o.kind = 2 ∨ o.kind = 3 ∨ o.kind = 5 ∨ o.kind = 7 then o.key.isRight
 else if o.kind = 4 then decide (1 ≤ o.row.size ∧ o.row.size ≤ 32)
 else if o.kind = 6 then decide (1 ≤ o.row.size ∧ o.row.size ≤ 32) && (decide (1 ≤ o.sn ∧ o.sn ≤ 8) && b)
 else if o.kind = 8 then decide (o.row.size ≤ 32 ∧ o.to.size ≤ 32)
 else false
theorem right_kindB {d : Nat} {o : OA} {l : List (OD d)} {w : World} (h : o.ok w) (hn : l.length = o.sn) : rightO o.s (l.map (snD d)) = (is1 o && kindB o ((l.map (snD d)).all (partR o.s))) := by
 have l1 := h.va.len
 have l2 := h.wa.len
 unfold rightO leaf is1 is0 kindB
 rw [List.length_map, hn]
 show (decide (sameS o.s (onlyS o.s) = true ∧ (o.kind = 6 ∨ o.sn = 0) ∧ o.va.xs.length ≤ 256 ∧ o.wa.xs.length ≤ 256) && _ && _) = _
 rw [l1, l2]
 obtain ⟨A, hA⟩ : ∃ A, A = sameS o.s (onlyS o.s) := ⟨_, rfl⟩
 obtain ⟨C, hC⟩ : ∃ C, C = (l.map (snD d)).all (partR o.s) := ⟨_, rfl⟩
 rw [← hA, ← hC]
 clear hA hC
 show (decide (A = true ∧ (o.kind = 6 ∨ o.sn = 0) ∧ o.va.n ≤ 256 ∧ o.wa.n ≤ 256) && (if o.kind = 1 ∨ o.kind = 2 ∨ o.kind = 3 ∨ o.kind = 5 ∨ o.kind = 7 then o.key.isRight else if o.kind = 4 then decide (1 ≤ o.row.size ∧ o.row.size ≤ 32) else if o.kind = 6 then decide (1 ≤ o.row.size ∧ o.row.size ≤ 32) && decide (1 ≤ o.sn ∧ o.sn ≤ 8) else if o.kind = 8 then decide (o.row.size ≤ 32 ∧ o.to.size ≤ 32) else false) && (decide (o.kind ≠ 6) || C)) = _
 have e : decide (A = true ∧ (o.kind = 6 ∨ o.sn = 0) ∧ o.va.n ≤ 256 ∧ o.wa.n ≤ 256) = (A && decide (o.kind = 6 ∨ o.sn = 0) && (decide (o.va.n ≤ 256) && decide (o.wa.n ≤ 256))) := by
  rw [Bool.eq_iff_iff]
  simp only [decide_eq_true_eq, Bool.and_eq_true]
  grind
 rw [e]
 rw [Bool.and_assoc]
 congr 1
 by_cases k6 : o.kind = 6
 ·rw [if_neg (by omega), if_neg (by omega), if_pos k6, if_neg (by omega), if_neg (by omega), if_pos k6, show decide (o.kind ≠ 6) = false from by simp [k6], Bool.false_or, Bool.and_assoc]
 ·rw [decide_eq_true k6, Bool.true_or, Bool.and_true]
  by_cases k1 : o.kind = 1 ∨ o.kind = 2 ∨ o.kind = 3 ∨ o.kind = 5 ∨ o.kind = 7
  ·rw [if_pos k1, if_pos k1]
  ·rw [if_neg k1, if_neg k1]
   by_cases k4 : o.kind = 4
   ·rw [if_pos k4, if_pos k4]
   ·rw [if_neg k4, if_neg k4, if_neg k6, if_neg k6]
set_option maxRecDepth 100000 in
set_option maxHeartbeats 16000000 in
theorem rright_step (d : Nat) (w : World) (o : OA) (l : List (OD d)) (h : OW w (d + 1) (o, l)) (hl : lightD (d + 1) (o, l) = true)
  (rec : ∀ (V : World) (y : OD d), y ∈ l → OW V d y → 1 ≤ (topD d y).kind → (topD d y).kind ≤ 4 → Calls Tryz.prog 64 #[(topD d y).val] V fun e w' => e = .returned (.int .i64 (kindO (leaf (topD d y).s (topD d y).sn))) ∧ Below V.heap.size V w') :
  Calls Tryz.prog 64 #[o.val] w fun e w' => e = .returned (.int .i64 (kindO (rightO o.s (l.map (snD d))))) ∧ Below w.heap.size w w' := by
 have hn : l.length = o.sn := h.2.1
 have h12 : o.sn ≤ 12 := (of_decide_eq_true (Bool.and_eq_true_iff.1 hl).1).2.2.2
 have HR : Hid (rightO o.s (l.map (snD d)) = (is1 o && kindB o ((l.map (snD d)).all (partR o.s)))) := right_kindB h.1 hn
 have HS0 : Hid (∀ V, Below w.heap.size w V → Calls Tryz.prog 73 #[o.val, (onlyA o).val] V fun e w' => e = .returned (.bool (is0 o)) ∧ Below V.heap.size V w') := fun V hV => by
  have := rsame6 (d + 1) V (o, l) (onlyA o, partsOf o l) (h.below hV) ((only_OW h).below hV) hl (only_light hl)
  rw [only_same hn] at this
  exact this
 have L : OWL w d o.so o.sn o.sc l := h.subs
 have B : Below w.heap.size w (w.alloc (Obj.cells #[.int .i64 o.kind, .string o.row, .string o.fam, .string o.qual, .int .u64 o.time, .string o.to, .slice o.va.ao o.va.n o.va.cap, .slice o.wa.ao o.wa.n o.wa.cap, .bool o.has, .slice o.so o.sn o.sc] 58)) := (Below.refl _ w).alloc (Nat.le_refl _) _
 have K : OC (w.alloc (Obj.cells #[.int .i64 o.kind, .string o.row, .string o.fam, .string o.qual, .int .u64 o.time, .string o.to, .slice o.va.ao o.va.n o.va.cap, .slice o.wa.ao o.wa.n o.wa.cap, .bool o.has, .slice o.so o.sn o.sc] 58)) w.heap.size o := OC.new w o
 clear hl h
 unfold OA.val
 go_enter Tryz.func64, Tryz.ntmps64
 go_wp2_with fail
 obtain ⟨w1, hw1⟩ : ∃ W, W = w.alloc (Obj.cells #[.int .i64 o.kind, .string o.row, .string o.fam, .string o.qual, .int .u64 o.time, .string o.to, .slice o.va.ao o.va.n o.va.cap, .slice o.wa.ao o.wa.n o.wa.cap, .bool o.has, .slice o.so o.sn o.sc] 58) := ⟨_, rfl⟩
 obtain ⟨N, hN⟩ : ∃ N, N = w.heap.size := ⟨_, rfl⟩
 rw [← hw1] at B K ⊢
 rw [← hN] at B K ⊢
 have HN : Hid (N = w.heap.size) := hN
 clear hw1 hN
 go_cut [3] (fun s wx => s = .bool (is1 o) ∧ Below N w wx ∧ OC wx N o)
 case first =>
  clear L rec HR
  cases hi : is0 o with
  | false =>
   have hv : Hid (is1 o = false) := by show _ = _; unfold is1; rw [hi, Bool.false_and]
   have HS : Hid (∀ V, Below w1.heap.size w1 V → V.cell? ⟨N, 0, none⟩ = some (.int .i64 o.kind) ∧ V.cell? ⟨N, 1, none⟩ = some (.string o.row) ∧ V.cell? ⟨N, 2, none⟩ = some (.string o.fam) ∧ V.cell? ⟨N, 3, none⟩ = some (.string o.qual) ∧ V.cell? ⟨N, 4, none⟩ = some (.int .u64 o.time) ∧ V.cell? ⟨N, 5, none⟩ = some (.string o.to) ∧ V.cell? ⟨N, 6, none⟩ = some (.slice o.va.ao o.va.n o.va.cap) ∧ V.cell? ⟨N, 7, none⟩ = some (.slice o.wa.ao o.wa.n o.wa.cap) ∧ V.cell? ⟨N, 8, none⟩ = some (.bool o.has) ∧ V.cell? ⟨N, 9, none⟩ = some (.slice o.so o.sn o.sc)) := fun V hV => have q := (K.keep hV).cs; ⟨q.c0, q.c1, q.c2, q.c3, q.c4, q.c5, q.c6, q.c7, q.c8, q.c9⟩
   refine zB (by kernel_rfl) HS.out fun v0 E0 H0 => ?_
   refine zT 0 (some 7) (.agg #[.int .i64 o.kind, .string o.row, .string o.fam, .string o.qual, .int .u64 o.time, .string o.to, .slice o.va.ao o.va.n o.va.cap, .slice o.wa.ao o.wa.n o.wa.cap, .bool o.has, .slice o.so o.sn o.sc]) rfl rfl (by kernel_rfl) rfl (fun W ⟨h0, h1, h2, h3, h4, h5, h6, h7, h8, h9⟩ => by go_simp) H0 ?_
   simp only [FL]
   refine zT 1 (some 8) (.agg #[.int .i64 o.kind, .string o.row, .string o.fam, .string o.qual, .int .u64 o.time, .string o.to, .slice o.va.ao o.va.n o.va.cap, .slice o.wa.ao o.wa.n o.wa.cap, .bool o.has, .slice o.so o.sn o.sc]) rfl rfl (by kernel_rfl) rfl (fun W ⟨h0, h1, h2, h3, h4, h5, h6, h7, h8, h9⟩ => by go_simp) H0 ?_
   simp only [FL]
   refine hr_call_w 2 (some 9) 100 #[.agg #[.int .i64 o.kind, .string o.row, .string o.fam, .string o.qual, .int .u64 o.time, .string o.to, .slice o.va.ao o.va.n o.va.cap, .slice o.wa.ao o.wa.n o.wa.cap, .bool o.has, .slice o.so o.sn o.sc]] rfl rfl (by kernel_rfl) rfl (by go_simp) (fun v w' => v = (onlyA o).val ∧ Below v0.heap.size v0 w') ((ronly_any v0 o).mono (by
    rintro e w' ⟨rfl, C⟩
    exact ⟨_, rfl, rfl, C⟩)) ?_
   rintro v v1 ⟨rfl, C0⟩
   have E1 := E0.trans (C0.mono E0.size)
   have H1 := HS.out v1 E1
   refine ⟨H1, ?_⟩
   simp only [FL]
   refine hr_call_w 3 (some 10) 73 #[.agg #[.int .i64 o.kind, .string o.row, .string o.fam, .string o.qual, .int .u64 o.time, .string o.to, .slice o.va.ao o.va.n o.va.cap, .slice o.wa.ao o.wa.n o.wa.cap, .bool o.has, .slice o.so o.sn o.sc], (onlyA o).val] rfl rfl (by kernel_rfl) rfl (by go_simp) (fun v w' => v = .bool false ∧ Below v1.heap.size v1 w') (((hi ▸ HS0.out v1 (by rw [← HN.out]; exact B.trans (E1.mono (by have := B.size; have := HN.out; omega))))).mono (by
    rintro e w' ⟨rfl, C⟩
    exact ⟨_, rfl, rfl, C⟩)) ?_
   rintro v v2 ⟨rfl, C1⟩
   have E2 := E1.trans (C1.mono E1.size)
   have H2 := HS.out v2 E2
   refine ⟨H2, ?_⟩
   simp only [FL]
   refine zT 4 (some 11) (.bool false) rfl rfl (by kernel_rfl) rfl (fun W ⟨h0, h1, h2, h3, h4, h5, h6, h7, h8, h9⟩ => by go_simp) H2 ?_
   simp only [FL]
   refine zN 5 (some 12) rfl rfl (by kernel_rfl) rfl H2 ?_
   simp only [FL]
   refine zN 6 (some 13) rfl rfl (by kernel_rfl) rfl H2 ?_
   simp only [FL]
   refine zN 7 (some 14) rfl rfl (by kernel_rfl) rfl H2 ?_
   simp only [FL]
   refine zN 8 (some 15) rfl rfl (by kernel_rfl) rfl H2 ?_
   simp only [FL]
   refine zT 9 (some 16) (.bool false) rfl rfl (by kernel_rfl) rfl (fun W ⟨h0, h1, h2, h3, h4, h5, h6, h7, h8, h9⟩ => by go_simp) H2 ?_
   simp only [FL]
   refine zT 10 (some 17) (.bool false) rfl rfl (by kernel_rfl) rfl (fun W ⟨h0, h1, h2, h3, h4, h5, h6, h7, h8, h9⟩ => by go_simp) H2 ?_
   simp only [FL]
   refine zN 11 (some 18) rfl rfl (by kernel_rfl) rfl H2 ?_
   simp only [FL]
   refine zN 12 (some 19) rfl rfl (by kernel_rfl) rfl H2 ?_
   simp only [FL]
   refine zN 13 (some 20) rfl rfl (by kernel_rfl) rfl H2 ?_
   simp only [FL]
   refine zN 14 (some 21) rfl rfl (by kernel_rfl) rfl H2 ?_
   simp only [FL]
   refine zT 15 (some 22) (.bool false) rfl rfl (by kernel_rfl) rfl (fun W ⟨h0, h1, h2, h3, h4, h5, h6, h7, h8, h9⟩ => by go_simp) H2 ?_
   simp only [FL]
   refine zT 16 (some 3) (.bool false) rfl rfl (by kernel_rfl) rfl (fun W ⟨h0, h1, h2, h3, h4, h5, h6, h7, h8, h9⟩ => by go_simp) H2 ?_
   simp only [FL]
   refine wpAnyH_done (by kernel_rfl) ?_ _
   refine NoPanic.normal ?_
   go_wp2_with fail
   go_meet
   have E := E2
   exact ⟨by rw [hv.out], B.trans (E.mono (by have := B.size; have := HN.out; omega)), K.keep E⟩
  | true =>
   by_cases c1 : o.va.n ≤ 256
   ·have iv : decide ((o.va.n : Int) ≤ 256) = true := by simp; omega
    by_cases c2 : o.wa.n ≤ 256
    ·have iw : decide ((o.wa.n : Int) ≤ 256) = true := by simp; omega
     have hv : Hid (is1 o = true) := by show _ = _; unfold is1; rw [hi, decide_eq_true c1, decide_eq_true c2]; rfl
     have HS : Hid (∀ V, Below w1.heap.size w1 V → V.cell? ⟨N, 0, none⟩ = some (.int .i64 o.kind) ∧ V.cell? ⟨N, 1, none⟩ = some (.string o.row) ∧ V.cell? ⟨N, 2, none⟩ = some (.string o.fam) ∧ V.cell? ⟨N, 3, none⟩ = some (.string o.qual) ∧ V.cell? ⟨N, 4, none⟩ = some (.int .u64 o.time) ∧ V.cell? ⟨N, 5, none⟩ = some (.string o.to) ∧ V.cell? ⟨N, 6, none⟩ = some (.slice o.va.ao o.va.n o.va.cap) ∧ V.cell? ⟨N, 7, none⟩ = some (.slice o.wa.ao o.wa.n o.wa.cap) ∧ V.cell? ⟨N, 8, none⟩ = some (.bool o.has) ∧ V.cell? ⟨N, 9, none⟩ = some (.slice o.so o.sn o.sc)) := fun V hV => have q := (K.keep hV).cs; ⟨q.c0, q.c1, q.c2, q.c3, q.c4, q.c5, q.c6, q.c7, q.c8, q.c9⟩
     refine zB (by kernel_rfl) HS.out fun v0 E0 H0 => ?_
     refine zT 0 (some 7) (.agg #[.int .i64 o.kind, .string o.row, .string o.fam, .string o.qual, .int .u64 o.time, .string o.to, .slice o.va.ao o.va.n o.va.cap, .slice o.wa.ao o.wa.n o.wa.cap, .bool o.has, .slice o.so o.sn o.sc]) rfl rfl (by kernel_rfl) rfl (fun W ⟨h0, h1, h2, h3, h4, h5, h6, h7, h8, h9⟩ => by go_simp) H0 ?_
     simp only [FL]
     refine zT 1 (some 8) (.agg #[.int .i64 o.kind, .string o.row, .string o.fam, .string o.qual, .int .u64 o.time, .string o.to, .slice o.va.ao o.va.n o.va.cap, .slice o.wa.ao o.wa.n o.wa.cap, .bool o.has, .slice o.so o.sn o.sc]) rfl rfl (by kernel_rfl) rfl (fun W ⟨h0, h1, h2, h3, h4, h5, h6, h7, h8, h9⟩ => by go_simp) H0 ?_
     simp only [FL]
     refine hr_call_w 2 (some 9) 100 #[.agg #[.int .i64 o.kind, .string o.row, .string o.fam, .string o.qual, .int .u64 o.time, .string o.to, .slice o.va.ao o.va.n o.va.cap, .slice o.wa.ao o.wa.n o.wa.cap, .bool o.has, .slice o.so o.sn o.sc]] rfl rfl (by kernel_rfl) rfl (by go_simp) (fun v w' => v = (onlyA o).val ∧ Below v0.heap.size v0 w') ((ronly_any v0 o).mono (by
      rintro e w' ⟨rfl, C⟩
      exact ⟨_, rfl, rfl, C⟩)) ?_
     rintro v v1 ⟨rfl, C0⟩
     have E1 := E0.trans (C0.mono E0.size)
     have H1 := HS.out v1 E1
     refine ⟨H1, ?_⟩
     simp only [FL]
     refine hr_call_w 3 (some 10) 73 #[.agg #[.int .i64 o.kind, .string o.row, .string o.fam, .string o.qual, .int .u64 o.time, .string o.to, .slice o.va.ao o.va.n o.va.cap, .slice o.wa.ao o.wa.n o.wa.cap, .bool o.has, .slice o.so o.sn o.sc], (onlyA o).val] rfl rfl (by kernel_rfl) rfl (by go_simp) (fun v w' => v = .bool true ∧ Below v1.heap.size v1 w') (((hi ▸ HS0.out v1 (by rw [← HN.out]; exact B.trans (E1.mono (by have := B.size; have := HN.out; omega))))).mono (by
      rintro e w' ⟨rfl, C⟩
      exact ⟨_, rfl, rfl, C⟩)) ?_
     rintro v v2 ⟨rfl, C1⟩
     have E2 := E1.trans (C1.mono E1.size)
     have H2 := HS.out v2 E2
     refine ⟨H2, ?_⟩
     simp only [FL]
     refine zT 4 (some 11) (.bool true) rfl rfl (by kernel_rfl) rfl (fun W ⟨h0, h1, h2, h3, h4, h5, h6, h7, h8, h9⟩ => by go_simp) H2 ?_
     simp only [FL]
     refine zT 5 (some 12) (.pointer (some ⟨N, 6, none⟩)) rfl rfl (by kernel_rfl) rfl (fun W ⟨h0, h1, h2, h3, h4, h5, h6, h7, h8, h9⟩ => by go_simp) H2 ?_
     simp only [FL]
     refine zT 6 (some 13) (.slice o.va.ao o.va.n o.va.cap) rfl rfl (by kernel_rfl) rfl (fun W ⟨h0, h1, h2, h3, h4, h5, h6, h7, h8, h9⟩ => by go_simp) H2 ?_
     simp only [FL]
     refine zT 7 (some 14) (.int .i64 o.va.n) rfl rfl (by kernel_rfl) rfl (fun W ⟨h0, h1, h2, h3, h4, h5, h6, h7, h8, h9⟩ => by go_simp) H2 ?_
     simp only [FL]
     refine zT 8 (some 15) (.bool true) rfl rfl (by kernel_rfl) rfl (fun W ⟨h0, h1, h2, h3, h4, h5, h6, h7, h8, h9⟩ => by (first | (go_simp; done) | (go_simp; first | exact iv | omega))) H2 ?_
     simp only [FL]
     refine zT 9 (some 16) (.bool true) rfl rfl (by kernel_rfl) rfl (fun W ⟨h0, h1, h2, h3, h4, h5, h6, h7, h8, h9⟩ => by go_simp) H2 ?_
     simp only [FL]
     refine zT 10 (some 17) (.bool true) rfl rfl (by kernel_rfl) rfl (fun W ⟨h0, h1, h2, h3, h4, h5, h6, h7, h8, h9⟩ => by go_simp) H2 ?_
     simp only [FL]
     refine zT 11 (some 18) (.pointer (some ⟨N, 7, none⟩)) rfl rfl (by kernel_rfl) rfl (fun W ⟨h0, h1, h2, h3, h4, h5, h6, h7, h8, h9⟩ => by go_simp) H2 ?_
     simp only [FL]
     refine zT 12 (some 19) (.slice o.wa.ao o.wa.n o.wa.cap) rfl rfl (by kernel_rfl) rfl (fun W ⟨h0, h1, h2, h3, h4, h5, h6, h7, h8, h9⟩ => by go_simp) H2 ?_
     simp only [FL]
     refine zT 13 (some 20) (.int .i64 o.wa.n) rfl rfl (by kernel_rfl) rfl (fun W ⟨h0, h1, h2, h3, h4, h5, h6, h7, h8, h9⟩ => by go_simp) H2 ?_
     simp only [FL]
     refine zT 14 (some 21) (.bool true) rfl rfl (by kernel_rfl) rfl (fun W ⟨h0, h1, h2, h3, h4, h5, h6, h7, h8, h9⟩ => by (first | (go_simp; done) | (go_simp; first | exact iw | omega))) H2 ?_
     simp only [FL]
     refine zT 15 (some 22) (.bool true) rfl rfl (by kernel_rfl) rfl (fun W ⟨h0, h1, h2, h3, h4, h5, h6, h7, h8, h9⟩ => by go_simp) H2 ?_
     simp only [FL]
     refine zT 16 (some 3) (.bool true) rfl rfl (by kernel_rfl) rfl (fun W ⟨h0, h1, h2, h3, h4, h5, h6, h7, h8, h9⟩ => by go_simp) H2 ?_
     simp only [FL]
     refine wpAnyH_done (by kernel_rfl) ?_ _
     refine NoPanic.normal ?_
     go_wp2_with fail
     go_meet
     have E := E2
     exact ⟨by rw [hv.out], B.trans (E.mono (by have := B.size; have := HN.out; omega)), K.keep E⟩
    ·have iw : decide ((o.wa.n : Int) ≤ 256) = false := by simp; omega
     have hv : Hid (is1 o = false) := by show _ = _; unfold is1; rw [hi, decide_eq_true c1, decide_eq_false c2]; rfl
     have HS : Hid (∀ V, Below w1.heap.size w1 V → V.cell? ⟨N, 0, none⟩ = some (.int .i64 o.kind) ∧ V.cell? ⟨N, 1, none⟩ = some (.string o.row) ∧ V.cell? ⟨N, 2, none⟩ = some (.string o.fam) ∧ V.cell? ⟨N, 3, none⟩ = some (.string o.qual) ∧ V.cell? ⟨N, 4, none⟩ = some (.int .u64 o.time) ∧ V.cell? ⟨N, 5, none⟩ = some (.string o.to) ∧ V.cell? ⟨N, 6, none⟩ = some (.slice o.va.ao o.va.n o.va.cap) ∧ V.cell? ⟨N, 7, none⟩ = some (.slice o.wa.ao o.wa.n o.wa.cap) ∧ V.cell? ⟨N, 8, none⟩ = some (.bool o.has) ∧ V.cell? ⟨N, 9, none⟩ = some (.slice o.so o.sn o.sc)) := fun V hV => have q := (K.keep hV).cs; ⟨q.c0, q.c1, q.c2, q.c3, q.c4, q.c5, q.c6, q.c7, q.c8, q.c9⟩
     refine zB (by kernel_rfl) HS.out fun v0 E0 H0 => ?_
     refine zT 0 (some 7) (.agg #[.int .i64 o.kind, .string o.row, .string o.fam, .string o.qual, .int .u64 o.time, .string o.to, .slice o.va.ao o.va.n o.va.cap, .slice o.wa.ao o.wa.n o.wa.cap, .bool o.has, .slice o.so o.sn o.sc]) rfl rfl (by kernel_rfl) rfl (fun W ⟨h0, h1, h2, h3, h4, h5, h6, h7, h8, h9⟩ => by go_simp) H0 ?_
     simp only [FL]
     refine zT 1 (some 8) (.agg #[.int .i64 o.kind, .string o.row, .string o.fam, .string o.qual, .int .u64 o.time, .string o.to, .slice o.va.ao o.va.n o.va.cap, .slice o.wa.ao o.wa.n o.wa.cap, .bool o.has, .slice o.so o.sn o.sc]) rfl rfl (by kernel_rfl) rfl (fun W ⟨h0, h1, h2, h3, h4, h5, h6, h7, h8, h9⟩ => by go_simp) H0 ?_
     simp only [FL]
     refine hr_call_w 2 (some 9) 100 #[.agg #[.int .i64 o.kind, .string o.row, .string o.fam, .string o.qual, .int .u64 o.time, .string o.to, .slice o.va.ao o.va.n o.va.cap, .slice o.wa.ao o.wa.n o.wa.cap, .bool o.has, .slice o.so o.sn o.sc]] rfl rfl (by kernel_rfl) rfl (by go_simp) (fun v w' => v = (onlyA o).val ∧ Below v0.heap.size v0 w') ((ronly_any v0 o).mono (by
      rintro e w' ⟨rfl, C⟩
      exact ⟨_, rfl, rfl, C⟩)) ?_
     rintro v v1 ⟨rfl, C0⟩
     have E1 := E0.trans (C0.mono E0.size)
     have H1 := HS.out v1 E1
     refine ⟨H1, ?_⟩
     simp only [FL]
     refine hr_call_w 3 (some 10) 73 #[.agg #[.int .i64 o.kind, .string o.row, .string o.fam, .string o.qual, .int .u64 o.time, .string o.to, .slice o.va.ao o.va.n o.va.cap, .slice o.wa.ao o.wa.n o.wa.cap, .bool o.has, .slice o.so o.sn o.sc], (onlyA o).val] rfl rfl (by kernel_rfl) rfl (by go_simp) (fun v w' => v = .bool true ∧ Below v1.heap.size v1 w') (((hi ▸ HS0.out v1 (by rw [← HN.out]; exact B.trans (E1.mono (by have := B.size; have := HN.out; omega))))).mono (by
      rintro e w' ⟨rfl, C⟩
      exact ⟨_, rfl, rfl, C⟩)) ?_
     rintro v v2 ⟨rfl, C1⟩
     have E2 := E1.trans (C1.mono E1.size)
     have H2 := HS.out v2 E2
     refine ⟨H2, ?_⟩
     simp only [FL]
     refine zT 4 (some 11) (.bool true) rfl rfl (by kernel_rfl) rfl (fun W ⟨h0, h1, h2, h3, h4, h5, h6, h7, h8, h9⟩ => by go_simp) H2 ?_
     simp only [FL]
     refine zT 5 (some 12) (.pointer (some ⟨N, 6, none⟩)) rfl rfl (by kernel_rfl) rfl (fun W ⟨h0, h1, h2, h3, h4, h5, h6, h7, h8, h9⟩ => by go_simp) H2 ?_
     simp only [FL]
     refine zT 6 (some 13) (.slice o.va.ao o.va.n o.va.cap) rfl rfl (by kernel_rfl) rfl (fun W ⟨h0, h1, h2, h3, h4, h5, h6, h7, h8, h9⟩ => by go_simp) H2 ?_
     simp only [FL]
     refine zT 7 (some 14) (.int .i64 o.va.n) rfl rfl (by kernel_rfl) rfl (fun W ⟨h0, h1, h2, h3, h4, h5, h6, h7, h8, h9⟩ => by go_simp) H2 ?_
     simp only [FL]
     refine zT 8 (some 15) (.bool true) rfl rfl (by kernel_rfl) rfl (fun W ⟨h0, h1, h2, h3, h4, h5, h6, h7, h8, h9⟩ => by (first | (go_simp; done) | (go_simp; first | exact iv | omega))) H2 ?_
     simp only [FL]
     refine zT 9 (some 16) (.bool true) rfl rfl (by kernel_rfl) rfl (fun W ⟨h0, h1, h2, h3, h4, h5, h6, h7, h8, h9⟩ => by go_simp) H2 ?_
     simp only [FL]
     refine zT 10 (some 17) (.bool true) rfl rfl (by kernel_rfl) rfl (fun W ⟨h0, h1, h2, h3, h4, h5, h6, h7, h8, h9⟩ => by go_simp) H2 ?_
     simp only [FL]
     refine zT 11 (some 18) (.pointer (some ⟨N, 7, none⟩)) rfl rfl (by kernel_rfl) rfl (fun W ⟨h0, h1, h2, h3, h4, h5, h6, h7, h8, h9⟩ => by go_simp) H2 ?_
     simp only [FL]
     refine zT 12 (some 19) (.slice o.wa.ao o.wa.n o.wa.cap) rfl rfl (by kernel_rfl) rfl (fun W ⟨h0, h1, h2, h3, h4, h5, h6, h7, h8, h9⟩ => by go_simp) H2 ?_
     simp only [FL]
     refine zT 13 (some 20) (.int .i64 o.wa.n) rfl rfl (by kernel_rfl) rfl (fun W ⟨h0, h1, h2, h3, h4, h5, h6, h7, h8, h9⟩ => by go_simp) H2 ?_
     simp only [FL]
     refine zT 14 (some 21) (.bool false) rfl rfl (by kernel_rfl) rfl (fun W ⟨h0, h1, h2, h3, h4, h5, h6, h7, h8, h9⟩ => by (first | (go_simp; done) | (go_simp; first | exact iw | omega))) H2 ?_
     simp only [FL]
     refine zT 15 (some 22) (.bool false) rfl rfl (by kernel_rfl) rfl (fun W ⟨h0, h1, h2, h3, h4, h5, h6, h7, h8, h9⟩ => by go_simp) H2 ?_
     simp only [FL]
     refine zT 16 (some 3) (.bool false) rfl rfl (by kernel_rfl) rfl (fun W ⟨h0, h1, h2, h3, h4, h5, h6, h7, h8, h9⟩ => by go_simp) H2 ?_
     simp only [FL]
     refine wpAnyH_done (by kernel_rfl) ?_ _
     refine NoPanic.normal ?_
     go_wp2_with fail
     go_meet
     have E := E2
     exact ⟨by rw [hv.out], B.trans (E.mono (by have := B.size; have := HN.out; omega)), K.keep E⟩
   ·have iv : decide ((o.va.n : Int) ≤ 256) = false := by simp; omega
    have hv : Hid (is1 o = false) := by show _ = _; unfold is1; rw [hi, decide_eq_false c1]; rfl
    have HS : Hid (∀ V, Below w1.heap.size w1 V → V.cell? ⟨N, 0, none⟩ = some (.int .i64 o.kind) ∧ V.cell? ⟨N, 1, none⟩ = some (.string o.row) ∧ V.cell? ⟨N, 2, none⟩ = some (.string o.fam) ∧ V.cell? ⟨N, 3, none⟩ = some (.string o.qual) ∧ V.cell? ⟨N, 4, none⟩ = some (.int .u64 o.time) ∧ V.cell? ⟨N, 5, none⟩ = some (.string o.to) ∧ V.cell? ⟨N, 6, none⟩ = some (.slice o.va.ao o.va.n o.va.cap) ∧ V.cell? ⟨N, 7, none⟩ = some (.slice o.wa.ao o.wa.n o.wa.cap) ∧ V.cell? ⟨N, 8, none⟩ = some (.bool o.has) ∧ V.cell? ⟨N, 9, none⟩ = some (.slice o.so o.sn o.sc)) := fun V hV => have q := (K.keep hV).cs; ⟨q.c0, q.c1, q.c2, q.c3, q.c4, q.c5, q.c6, q.c7, q.c8, q.c9⟩
    refine zB (by kernel_rfl) HS.out fun v0 E0 H0 => ?_
    refine zT 0 (some 7) (.agg #[.int .i64 o.kind, .string o.row, .string o.fam, .string o.qual, .int .u64 o.time, .string o.to, .slice o.va.ao o.va.n o.va.cap, .slice o.wa.ao o.wa.n o.wa.cap, .bool o.has, .slice o.so o.sn o.sc]) rfl rfl (by kernel_rfl) rfl (fun W ⟨h0, h1, h2, h3, h4, h5, h6, h7, h8, h9⟩ => by go_simp) H0 ?_
    simp only [FL]
    refine zT 1 (some 8) (.agg #[.int .i64 o.kind, .string o.row, .string o.fam, .string o.qual, .int .u64 o.time, .string o.to, .slice o.va.ao o.va.n o.va.cap, .slice o.wa.ao o.wa.n o.wa.cap, .bool o.has, .slice o.so o.sn o.sc]) rfl rfl (by kernel_rfl) rfl (fun W ⟨h0, h1, h2, h3, h4, h5, h6, h7, h8, h9⟩ => by go_simp) H0 ?_
    simp only [FL]
    refine hr_call_w 2 (some 9) 100 #[.agg #[.int .i64 o.kind, .string o.row, .string o.fam, .string o.qual, .int .u64 o.time, .string o.to, .slice o.va.ao o.va.n o.va.cap, .slice o.wa.ao o.wa.n o.wa.cap, .bool o.has, .slice o.so o.sn o.sc]] rfl rfl (by kernel_rfl) rfl (by go_simp) (fun v w' => v = (onlyA o).val ∧ Below v0.heap.size v0 w') ((ronly_any v0 o).mono (by
     rintro e w' ⟨rfl, C⟩
     exact ⟨_, rfl, rfl, C⟩)) ?_
    rintro v v1 ⟨rfl, C0⟩
    have E1 := E0.trans (C0.mono E0.size)
    have H1 := HS.out v1 E1
    refine ⟨H1, ?_⟩
    simp only [FL]
    refine hr_call_w 3 (some 10) 73 #[.agg #[.int .i64 o.kind, .string o.row, .string o.fam, .string o.qual, .int .u64 o.time, .string o.to, .slice o.va.ao o.va.n o.va.cap, .slice o.wa.ao o.wa.n o.wa.cap, .bool o.has, .slice o.so o.sn o.sc], (onlyA o).val] rfl rfl (by kernel_rfl) rfl (by go_simp) (fun v w' => v = .bool true ∧ Below v1.heap.size v1 w') (((hi ▸ HS0.out v1 (by rw [← HN.out]; exact B.trans (E1.mono (by have := B.size; have := HN.out; omega))))).mono (by
     rintro e w' ⟨rfl, C⟩
     exact ⟨_, rfl, rfl, C⟩)) ?_
    rintro v v2 ⟨rfl, C1⟩
    have E2 := E1.trans (C1.mono E1.size)
    have H2 := HS.out v2 E2
    refine ⟨H2, ?_⟩
    simp only [FL]
    refine zT 4 (some 11) (.bool true) rfl rfl (by kernel_rfl) rfl (fun W ⟨h0, h1, h2, h3, h4, h5, h6, h7, h8, h9⟩ => by go_simp) H2 ?_
    simp only [FL]
    refine zT 5 (some 12) (.pointer (some ⟨N, 6, none⟩)) rfl rfl (by kernel_rfl) rfl (fun W ⟨h0, h1, h2, h3, h4, h5, h6, h7, h8, h9⟩ => by go_simp) H2 ?_
    simp only [FL]
    refine zT 6 (some 13) (.slice o.va.ao o.va.n o.va.cap) rfl rfl (by kernel_rfl) rfl (fun W ⟨h0, h1, h2, h3, h4, h5, h6, h7, h8, h9⟩ => by go_simp) H2 ?_
    simp only [FL]
    refine zT 7 (some 14) (.int .i64 o.va.n) rfl rfl (by kernel_rfl) rfl (fun W ⟨h0, h1, h2, h3, h4, h5, h6, h7, h8, h9⟩ => by go_simp) H2 ?_
    simp only [FL]
    refine zT 8 (some 15) (.bool false) rfl rfl (by kernel_rfl) rfl (fun W ⟨h0, h1, h2, h3, h4, h5, h6, h7, h8, h9⟩ => by (first | (go_simp; done) | (go_simp; first | exact iv | omega))) H2 ?_
    simp only [FL]
    refine zT 9 (some 16) (.bool false) rfl rfl (by kernel_rfl) rfl (fun W ⟨h0, h1, h2, h3, h4, h5, h6, h7, h8, h9⟩ => by go_simp) H2 ?_
    simp only [FL]
    refine zT 10 (some 17) (.bool false) rfl rfl (by kernel_rfl) rfl (fun W ⟨h0, h1, h2, h3, h4, h5, h6, h7, h8, h9⟩ => by go_simp) H2 ?_
    simp only [FL]
    refine zN 11 (some 18) rfl rfl (by kernel_rfl) rfl H2 ?_
    simp only [FL]
    refine zN 12 (some 19) rfl rfl (by kernel_rfl) rfl H2 ?_
    simp only [FL]
    refine zN 13 (some 20) rfl rfl (by kernel_rfl) rfl H2 ?_
    simp only [FL]
    refine zN 14 (some 21) rfl rfl (by kernel_rfl) rfl H2 ?_
    simp only [FL]
    refine zT 15 (some 22) (.bool false) rfl rfl (by kernel_rfl) rfl (fun W ⟨h0, h1, h2, h3, h4, h5, h6, h7, h8, h9⟩ => by go_simp) H2 ?_
    simp only [FL]
    refine zT 16 (some 3) (.bool false) rfl rfl (by kernel_rfl) rfl (fun W ⟨h0, h1, h2, h3, h4, h5, h6, h7, h8, h9⟩ => by go_simp) H2 ?_
    simp only [FL]
    refine wpAnyH_done (by kernel_rfl) ?_ _
    refine NoPanic.normal ?_
    go_wp2_with fail
    go_meet
    have E := E2
    exact ⟨by rw [hv.out], B.trans (E.mono (by have := B.size; have := HN.out; omega)), K.keep E⟩
 case rest =>
  obtain ⟨rfl, B2, K2⟩ := hcut
  clear B K HS0
  obtain ⟨z, hz⟩ : ∃ z, z = is1 o := ⟨_, rfl⟩
  have HZ : Hid (z = is1 o) := hz
  rw [← hz]
  clear hz
  obtain ⟨q0, q1, q2, q3, q4, q5, q6, q7, q8, q9⟩ := K2.cs
  go_upto_region 2 with fail
  go_cut [4] (fun s wx => s = .bool (decide (1 ≤ o.row.size ∧ o.row.size ≤ 32)) ∧ wx = wc)
  case first =>
   by_cases r1 : 1 ≤ o.row.size
   ·by_cases r2 : o.row.size ≤ 32
    ·have j1 : decide ((1 : Int) ≤ (o.row.size : Int)) = true := by simp; omega
     have j2 : decide ((o.row.size : Int) ≤ 32) = true := by simp; omega
     go_wp2
     go_meet
     exact ⟨by rw [decide_eq_true ⟨r1, r2⟩], rfl⟩
    ·have j1 : decide ((1 : Int) ≤ (o.row.size : Int)) = true := by simp; omega
     have j2 : decide ((o.row.size : Int) ≤ 32) = false := by simp; omega
     go_wp2
     go_meet
     exact ⟨by rw [decide_eq_false (by omega)], rfl⟩
   ·have j1 : decide ((1 : Int) ≤ (o.row.size : Int)) = false := by simp; omega
    go_wp2
    go_meet
    exact ⟨by rw [decide_eq_false (by omega)], rfl⟩
  case rest =>
   obtain ⟨rfl, rfl⟩ := hcut
   obtain ⟨zr, hzr⟩ : ∃ z, z = decide (1 ≤ o.row.size ∧ o.row.size ≤ 32) := ⟨_, rfl⟩
   have HZR : Hid (zr = decide (1 ≤ o.row.size ∧ o.row.size ≤ 32)) := hzr
   rw [← hzr]
   clear hzr
   by_cases k1 : o.kind = 1
   ·have ko : o.kind = 1 ∨ o.kind = 2 ∨ o.kind = 3 ∨ o.kind = 5 ∨ o.kind = 7 := (.inl k1)
    have t1 : (o.kind == 1) = true := by simp [k1]
    have HV : Hid (rightO o.s (l.map (snD d)) = (z && o.key.isRight)) := by
     show _ = _
     rw [HR.out, ← HZ.out]
     unfold kindB
     rw [if_pos ko]
    clear ko k1 L rec HR
    cases z with
    | false =>
     have hv : Hid (rightO o.s (l.map (snD d)) = false) := by show _ = _; rw [HV.out]; rfl
     clear HV
     go_wp2
     go_ret
     exact ⟨by rw [hv.out] <;> rfl, by rw [← HN.out]; exact B2⟩
    | true =>
     cases kr : o.key.isRight with
     | false =>
      have hr : o.key.kind = 5 := by unfold KA.kind; rw [kr]; rfl
      have hv : Hid (rightO o.s (l.map (snD d)) = false) := by show _ = _; rw [HV.out, kr]; rfl
      clear HV
      go_wp2_with (go_at_call 67; refine (rright_any _ o.key).mono ?_; rintro e w3 ⟨rfl, C⟩; have B3 := B2.trans (C.mono (by have := B2.size; have := HN.out; omega)); rw [hr])
      go_ret
      exact ⟨by rw [hv.out] <;> rfl, by rw [← HN.out]; exact B3⟩
     | true =>
      have hr : o.key.kind = 0 := by unfold KA.kind; rw [kr]; rfl
      have hv : Hid (rightO o.s (l.map (snD d)) = true) := by show _ = _; rw [HV.out, kr]; rfl
      clear HV
      go_wp2_with (go_at_call 67; refine (rright_any _ o.key).mono ?_; rintro e w3 ⟨rfl, C⟩; have B3 := B2.trans (C.mono (by have := B2.size; have := HN.out; omega)); rw [hr])
      go_ret
      exact ⟨by rw [hv.out] <;> rfl, by rw [← HN.out]; exact B3⟩
   by_cases k2 : o.kind = 2
   ·have ko : o.kind = 1 ∨ o.kind = 2 ∨ o.kind = 3 ∨ o.kind = 5 ∨ o.kind = 7 := (.inr (.inl k2))
    have t1 : (o.kind == 1) = false := by simp [k2]
    have t2 : (o.kind == 2) = true := by simp [k2]
    have HV : Hid (rightO o.s (l.map (snD d)) = (z && o.key.isRight)) := by
     show _ = _
     rw [HR.out, ← HZ.out]
     unfold kindB
     rw [if_pos ko]
    clear ko k2 L rec HR
    cases z with
    | false =>
     have hv : Hid (rightO o.s (l.map (snD d)) = false) := by show _ = _; rw [HV.out]; rfl
     clear HV
     go_wp2
     go_ret
     exact ⟨by rw [hv.out] <;> rfl, by rw [← HN.out]; exact B2⟩
    | true =>
     cases kr : o.key.isRight with
     | false =>
      have hr : o.key.kind = 5 := by unfold KA.kind; rw [kr]; rfl
      have hv : Hid (rightO o.s (l.map (snD d)) = false) := by show _ = _; rw [HV.out, kr]; rfl
      clear HV
      go_wp2_with (go_at_call 67; refine (rright_any _ o.key).mono ?_; rintro e w3 ⟨rfl, C⟩; have B3 := B2.trans (C.mono (by have := B2.size; have := HN.out; omega)); rw [hr])
      go_ret
      exact ⟨by rw [hv.out] <;> rfl, by rw [← HN.out]; exact B3⟩
     | true =>
      have hr : o.key.kind = 0 := by unfold KA.kind; rw [kr]; rfl
      have hv : Hid (rightO o.s (l.map (snD d)) = true) := by show _ = _; rw [HV.out, kr]; rfl
      clear HV
      go_wp2_with (go_at_call 67; refine (rright_any _ o.key).mono ?_; rintro e w3 ⟨rfl, C⟩; have B3 := B2.trans (C.mono (by have := B2.size; have := HN.out; omega)); rw [hr])
      go_ret
      exact ⟨by rw [hv.out] <;> rfl, by rw [← HN.out]; exact B3⟩
   by_cases k3 : o.kind = 3
   ·have ko : o.kind = 1 ∨ o.kind = 2 ∨ o.kind = 3 ∨ o.kind = 5 ∨ o.kind = 7 := (.inr (.inr (.inl k3)))
    have t1 : (o.kind == 1) = false := by simp [k3]
    have t2 : (o.kind == 2) = false := by simp [k3]
    have t3 : (o.kind == 3) = true := by simp [k3]
    have HV : Hid (rightO o.s (l.map (snD d)) = (z && o.key.isRight)) := by
     show _ = _
     rw [HR.out, ← HZ.out]
     unfold kindB
     rw [if_pos ko]
    clear ko k3 L rec HR
    cases z with
    | false =>
     have hv : Hid (rightO o.s (l.map (snD d)) = false) := by show _ = _; rw [HV.out]; rfl
     clear HV
     go_wp2
     go_ret
     exact ⟨by rw [hv.out] <;> rfl, by rw [← HN.out]; exact B2⟩
    | true =>
     cases kr : o.key.isRight with
     | false =>
      have hr : o.key.kind = 5 := by unfold KA.kind; rw [kr]; rfl
      have hv : Hid (rightO o.s (l.map (snD d)) = false) := by show _ = _; rw [HV.out, kr]; rfl
      clear HV
      go_wp2_with (go_at_call 67; refine (rright_any _ o.key).mono ?_; rintro e w3 ⟨rfl, C⟩; have B3 := B2.trans (C.mono (by have := B2.size; have := HN.out; omega)); rw [hr])
      go_ret
      exact ⟨by rw [hv.out] <;> rfl, by rw [← HN.out]; exact B3⟩
     | true =>
      have hr : o.key.kind = 0 := by unfold KA.kind; rw [kr]; rfl
      have hv : Hid (rightO o.s (l.map (snD d)) = true) := by show _ = _; rw [HV.out, kr]; rfl
      clear HV
      go_wp2_with (go_at_call 67; refine (rright_any _ o.key).mono ?_; rintro e w3 ⟨rfl, C⟩; have B3 := B2.trans (C.mono (by have := B2.size; have := HN.out; omega)); rw [hr])
      go_ret
      exact ⟨by rw [hv.out] <;> rfl, by rw [← HN.out]; exact B3⟩
   by_cases k7 : o.kind = 7
   ·have ko : o.kind = 1 ∨ o.kind = 2 ∨ o.kind = 3 ∨ o.kind = 5 ∨ o.kind = 7 := (.inr (.inr (.inr (.inr k7))))
    have t1 : (o.kind == 1) = false := by simp [k7]
    have t2 : (o.kind == 2) = false := by simp [k7]
    have t3 : (o.kind == 3) = false := by simp [k7]
    have t7 : (o.kind == 7) = true := by simp [k7]
    have HV : Hid (rightO o.s (l.map (snD d)) = (z && o.key.isRight)) := by
     show _ = _
     rw [HR.out, ← HZ.out]
     unfold kindB
     rw [if_pos ko]
    clear ko k7 L rec HR
    cases z with
    | false =>
     have hv : Hid (rightO o.s (l.map (snD d)) = false) := by show _ = _; rw [HV.out]; rfl
     clear HV
     go_wp2
     go_ret
     exact ⟨by rw [hv.out] <;> rfl, by rw [← HN.out]; exact B2⟩
    | true =>
     cases kr : o.key.isRight with
     | false =>
      have hr : o.key.kind = 5 := by unfold KA.kind; rw [kr]; rfl
      have hv : Hid (rightO o.s (l.map (snD d)) = false) := by show _ = _; rw [HV.out, kr]; rfl
      clear HV
      go_wp2_with (go_at_call 67; refine (rright_any _ o.key).mono ?_; rintro e w3 ⟨rfl, C⟩; have B3 := B2.trans (C.mono (by have := B2.size; have := HN.out; omega)); rw [hr])
      go_ret
      exact ⟨by rw [hv.out] <;> rfl, by rw [← HN.out]; exact B3⟩
     | true =>
      have hr : o.key.kind = 0 := by unfold KA.kind; rw [kr]; rfl
      have hv : Hid (rightO o.s (l.map (snD d)) = true) := by show _ = _; rw [HV.out, kr]; rfl
      clear HV
      go_wp2_with (go_at_call 67; refine (rright_any _ o.key).mono ?_; rintro e w3 ⟨rfl, C⟩; have B3 := B2.trans (C.mono (by have := B2.size; have := HN.out; omega)); rw [hr])
      go_ret
      exact ⟨by rw [hv.out] <;> rfl, by rw [← HN.out]; exact B3⟩
   by_cases k5 : o.kind = 5
   ·have ko : o.kind = 1 ∨ o.kind = 2 ∨ o.kind = 3 ∨ o.kind = 5 ∨ o.kind = 7 := (.inr (.inr (.inr (.inl k5))))
    have t1 : (o.kind == 1) = false := by simp [k5]
    have t2 : (o.kind == 2) = false := by simp [k5]
    have t3 : (o.kind == 3) = false := by simp [k5]
    have t7 : (o.kind == 7) = false := by simp [k5]
    have t5 : (o.kind == 5) = true := by simp [k5]
    have HV : Hid (rightO o.s (l.map (snD d)) = (z && o.key.isRight)) := by
     show _ = _
     rw [HR.out, ← HZ.out]
     unfold kindB
     rw [if_pos ko]
    clear ko k5 L rec HR
    cases z with
    | false =>
     have hv : Hid (rightO o.s (l.map (snD d)) = false) := by show _ = _; rw [HV.out]; rfl
     clear HV
     go_wp2
     go_ret
     exact ⟨by rw [hv.out] <;> rfl, by rw [← HN.out]; exact B2⟩
    | true =>
     cases kr : o.key.isRight with
     | false =>
      have hr : o.key.kind = 5 := by unfold KA.kind; rw [kr]; rfl
      have hv : Hid (rightO o.s (l.map (snD d)) = false) := by show _ = _; rw [HV.out, kr]; rfl
      clear HV
      go_wp2_with (go_at_call 67; refine (rright_any _ o.key).mono ?_; rintro e w3 ⟨rfl, C⟩; have B3 := B2.trans (C.mono (by have := B2.size; have := HN.out; omega)); rw [hr])
      go_ret
      exact ⟨by rw [hv.out] <;> rfl, by rw [← HN.out]; exact B3⟩
     | true =>
      have hr : o.key.kind = 0 := by unfold KA.kind; rw [kr]; rfl
      have hv : Hid (rightO o.s (l.map (snD d)) = true) := by show _ = _; rw [HV.out, kr]; rfl
      clear HV
      go_wp2_with (go_at_call 67; refine (rright_any _ o.key).mono ?_; rintro e w3 ⟨rfl, C⟩; have B3 := B2.trans (C.mono (by have := B2.size; have := HN.out; omega)); rw [hr])
      go_ret
      exact ⟨by rw [hv.out] <;> rfl, by rw [← HN.out]; exact B3⟩
   have kn : ¬ (o.kind = 1 ∨ o.kind = 2 ∨ o.kind = 3 ∨ o.kind = 5 ∨ o.kind = 7) := by omega
   by_cases k4 : o.kind = 4
   ·have HV : Hid (rightO o.s (l.map (snD d)) = (z && zr)) := by
     show _ = _
     rw [HR.out, ← HZ.out]
     unfold kindB
     rw [if_neg kn, if_pos k4, ← HZR.out]
    have t1 : (o.kind == 1) = false := by simp [k4]
    have t2 : (o.kind == 2) = false := by simp [k4]
    have t3 : (o.kind == 3) = false := by simp [k4]
    have t7 : (o.kind == 7) = false := by simp [k4]
    have t5 : (o.kind == 5) = false := by simp [k4]
    have t4 : (o.kind == 4) = true := by simp [k4]
    clear kn k1 k2 k3 k7 k5 k4 L rec HR
    cases z <;> cases zr
    all_goals
     go_wp2
     go_ret
     exact ⟨by rw [HV.out] <;> rfl, by rw [← HN.out]; exact B2⟩
   by_cases k6 : o.kind = 6
   ·have HV : Hid (rightO o.s (l.map (snD d)) = (z && (zr && (decide (1 ≤ o.sn ∧ o.sn ≤ 8) && (l.map (snD d)).all (partR o.s))))) := by
     show _ = _
     rw [HR.out, ← HZ.out]
     unfold kindB
     rw [if_neg kn, if_neg k4, if_pos k6, ← HZR.out]
    have t1 : (o.kind == 1) = false := by simp [k6]
    have t2 : (o.kind == 2) = false := by simp [k6]
    have t3 : (o.kind == 3) = false := by simp [k6]
    have t7 : (o.kind == 7) = false := by simp [k6]
    have t5 : (o.kind == 5) = false := by simp [k6]
    have t4 : (o.kind == 4) = false := by simp [k6]
    have t6 : (o.kind == 6) = true := by simp [k6]
    clear kn k1 k2 k3 k7 k5 k4 k6 HR HZ HZR
    go_upto_region 14 with fail
    go_cut [3] (fun s wx => s = .bool (z && (zr && decide (1 ≤ o.sn ∧ o.sn ≤ 8))) ∧ wx = wc)
    case first =>
     cases z with
     | false =>
      go_wp2
      go_meet
      exact ⟨rfl, rfl⟩
     | true =>
      cases zr with
      | false =>
       go_wp2
       go_meet
       exact ⟨rfl, rfl⟩
      | true =>
       by_cases s1 : 1 ≤ o.sn
       ·have j1 : decide ((1 : Int) ≤ (o.sn : Int)) = true := by simp; omega
        by_cases s2 : o.sn ≤ 8
        ·have j2 : decide ((o.sn : Int) ≤ 8) = true := by simp; omega
         have hd : decide (1 ≤ o.sn ∧ o.sn ≤ 8) = true := decide_eq_true ⟨s1, s2⟩
         go_wp2
         go_meet
         exact ⟨by rw [hd] <;> rfl, rfl⟩
        ·have j2 : decide ((o.sn : Int) ≤ 8) = false := by simp; omega
         have hd : decide (1 ≤ o.sn ∧ o.sn ≤ 8) = false := decide_eq_false (by omega)
         go_wp2
         go_meet
         exact ⟨by rw [hd] <;> rfl, rfl⟩
       ·have j1 : decide ((1 : Int) ≤ (o.sn : Int)) = false := by simp; omega
        have hd : decide (1 ≤ o.sn ∧ o.sn ≤ 8) = false := decide_eq_false (by omega)
        go_wp2
        go_meet
        exact ⟨by rw [hd] <;> rfl, rfl⟩
    case rest =>
     obtain ⟨rfl, rfl⟩ := hcut
     obtain ⟨y, hy⟩ : ∃ y, y = (z && (zr && decide (1 ≤ o.sn ∧ o.sn ≤ 8))) := ⟨_, rfl⟩
     have HV : Hid (rightO o.s (l.map (snD d)) = (y && l.all fun x => partR o.s (snD d x))) := by
      show _ = _
      rw [HV.out, hy, List.all_map, Bool.and_assoc, Bool.and_assoc]
      rfl
     rw [← hy]
     clear hy q0 q1 q2 q3 q4 q5 q6 q7 q8 q9
     go_wp2_with fail
     go_loopw [3, 5, 6] (fun s i _ wr => ∃ k : Nat, k ≤ o.sn ∧ i = .int .i64 k ∧ Below N w wr ∧ Below wc.heap.size wc wr ∧ s = .bool (y && (l.take k).all fun x => partR o.s (snD d x))) (fun _ i _ _ => o.sn - (intOf i).toNat)
     case atStart => exact ⟨0, Nat.zero_le _, rfl, B2, Below.refl _ _, by simp⟩
     case round =>
      obtain ⟨k, hk, rfl, B3, C3, rfl⟩ := hrel
      have K3 := K2.keep C3
      have r0 := K3.cs.c1
      have r9 := K3.cs.c9
      clear B2 K2
      cases hs : (y && (l.take k).all fun x => partR o.s (snD d x)) with
      | false =>
       have hv : Hid (rightO o.s (l.map (snD d)) = false) := by
        show _ = _
        rw [HV.out]
        cases y with
        | false => rfl
        | true =>
         have hs2 : ((l.take k).all fun x => partR o.s (snD d x)) = false := hs
         rw [Bool.true_and, ← List.take_append_drop k l, List.all_append, hs2, Bool.false_and]
       by_cases hlt : k < o.sn
       ·have i6 : (k : Int) < (o.sn : Int) := by omega
        go_wp2
        go_ret
        exact ⟨by rw [hv.out] <;> rfl, by rw [← HN.out]; exact B3⟩
       ·have i6 : (o.sn : Int) ≤ (k : Int) := by omega
        go_wp2
        go_ret
        exact ⟨by rw [hv.out] <;> rfl, by rw [← HN.out]; exact B3⟩
      | true =>
       have hy1 : y = true := (Bool.and_eq_true_iff.1 hs).1
       have hs2 : ((l.take k).all fun x => partR o.s (snD d x)) = true := (Bool.and_eq_true_iff.1 hs).2
       have HY : Hid (y = true) := hy1
       have HA : Hid (((l.take k).all fun x => partR o.s (snD d x)) = true) := hs2
       clear hy1 hs2
       by_cases hlt : k < o.sn
       ·obtain ⟨b, off, ea, hc⟩ := L.at (by omega)
        have Bw : Below w.heap.size w wr := by rw [← HN.out]; exact B3
        have hkl : k < l.length := by omega
        have X := (hc k hkl).below Bw
        have i6 : (k : Int) < (o.sn : Int) := by omega
        have wy : OW wr d l[k] := (L.ok _ (List.getElem_mem hkl)).below Bw
        have HT : Hid (((l.take (k + 1)).all fun x => partR o.s (snD d x)) = partR o.s (snD d l[k])) := by
         show _ = _
         exact all_take_succ (fun x => partR o.s (snD d x)) hkl HA.out
        have HC := rec wr l[k] (List.getElem_mem hkl) wy
        obtain ⟨x, hx⟩ : ∃ x : OD d, x = l[k] := ⟨_, rfl⟩
        rw [← hx] at X wy HT HC
        have hmem : x ∈ l := by rw [hx]; exact List.getElem_mem hkl
        clear hx hc HC
        obtain ⟨p, hp⟩ : ∃ p : OA, p = topD d x := ⟨_, rfl⟩
        have HP : Hid (partR o.s (snD d x) = (decide (1 ≤ p.kind ∧ p.kind ≤ 4) && leaf p.s p.sn && decide (p.row = o.row))) := by rw [hp]; exact rfl
        have HCR : Hid (∀ V, Below wr.heap.size wr V → 1 ≤ p.kind → p.kind ≤ 4 → Calls Tryz.prog 64 #[p.val] V fun e w' => e = .returned (.int .i64 (kindO (leaf p.s p.sn))) ∧ Below V.heap.size V w') := fun V hV a1 a2 => by
         rw [hp] at a1 a2 ⊢
         exact rec V x hmem (wy.below hV) a1 a2
        rw [← hp] at X
        clear hp rec wy hmem L
        rw [ea] at r9
        clear ea K3
        have Bp : Below wr.heap.size wr (wr.alloc (Obj.cells #[.int .i64 p.kind, .string p.row, .string p.fam, .string p.qual, .int .u64 p.time, .string p.to, .slice p.va.ao p.va.n p.va.cap, .slice p.wa.ao p.wa.n p.wa.cap, .bool p.has, .slice p.so p.sn p.sc] 58)) := (Below.refl _ _).alloc (Nat.le_refl _) _
        have B4 := B3.trans (Bp.mono (by have := B3.size; have := HN.out; omega))
        have C4 := C3.trans (Bp.mono C3.size)
        have Kp : OC (wr.alloc (Obj.cells #[.int .i64 p.kind, .string p.row, .string p.fam, .string p.qual, .int .u64 p.time, .string p.to, .slice p.va.ao p.va.n p.va.cap, .slice p.wa.ao p.wa.n p.wa.cap, .bool p.has, .slice p.so p.sn p.sc] 58)) wr.heap.size p := OC.new wr p
        have RR : (wr.alloc (Obj.cells #[.int .i64 p.kind, .string p.row, .string p.fam, .string p.qual, .int .u64 p.time, .string p.to, .slice p.va.ao p.va.n p.va.cap, .slice p.wa.ao p.wa.n p.wa.cap, .bool p.has, .slice p.so p.sn p.sc] 58)).cell? ⟨N, 1, none⟩ = some (.string o.row) := (Bp.cell (World.block_lt_of_cell? _ _ r0)).trans r0
        obtain ⟨q0, q1, q2, q3, q4, q5, q6, q7, q8, q9⟩ := X
        by_cases a1 : 1 ≤ p.kind
        ·have j1 : decide ((1 : Int) ≤ p.kind) = true := by simp; omega
         by_cases a2 : p.kind ≤ 4
         ·have j2 : decide (p.kind ≤ 4) = true := by simp; omega
          have CR := HCR.out _ Bp a1 a2
          cases hlf : leaf p.s p.sn with
          | false =>
           rw [hlf] at CR
           have hb : Hid (partR o.s (snD d x) = false) := by show _ = _; rw [HP.out, hlf]; simp
           go_wp2_with (go_at_call 64; refine CR.mono ?_; rintro e w5 ⟨rfl, C⟩; have B5 := B4.trans (C.mono (by have := B4.size; have := HN.out; omega)); have C5 := C4.trans (C.mono C4.size); rw [show kindO false = 6 from rfl])
           go_roundw
           case rel => exact ⟨k + 1, by omega, by go_num, B5, C5, by rw [HT.out, hb.out, Bool.and_false]⟩
           case measure => simp [intOf]; omega
          | true =>
           rw [hlf] at CR
           by_cases a3 : p.row = o.row
           ·have j3 : (p.row.toList == o.row.toList) = true := by rw [a3]; exact beq_self_eq_true _
            have hb : Hid (partR o.s (snD d x) = true) := by show _ = _; rw [HP.out, hlf, decide_eq_true ⟨a1, a2⟩, decide_eq_true a3]; rfl
            clear a3
            go_wp2_with (go_at_call 64; refine CR.mono ?_; rintro e w5 ⟨rfl, C⟩; have B5 := B4.trans (C.mono (by have := B4.size; have := HN.out; omega)); have C5 := C4.trans (C.mono C4.size); have z1 := (Kp.keep C).cs.c1; have z2 := (C.cell (World.block_lt_of_cell? _ _ RR)).trans RR; have zl := (Kp.keep C).lt; rw [show kindO true = 0 from rfl])
            go_roundw
            case rel => exact ⟨k + 1, by omega, by go_num, B5, C5, by rw [HT.out, hb.out, HY.out] <;> rfl⟩
            case measure => simp [intOf]; omega
           ·have j3 : (p.row.toList == o.row.toList) = false := toL_ne a3
            have hb : Hid (partR o.s (snD d x) = false) := by show _ = _; rw [HP.out, decide_eq_false a3]; simp
            clear a3
            go_wp2_with (go_at_call 64; refine CR.mono ?_; rintro e w5 ⟨rfl, C⟩; have B5 := B4.trans (C.mono (by have := B4.size; have := HN.out; omega)); have C5 := C4.trans (C.mono C4.size); have z1 := (Kp.keep C).cs.c1; have z2 := (C.cell (World.block_lt_of_cell? _ _ RR)).trans RR; have zl := (Kp.keep C).lt; rw [show kindO true = 0 from rfl])
            go_roundw
            case rel => exact ⟨k + 1, by omega, by go_num, B5, C5, by rw [HT.out, hb.out, Bool.and_false]⟩
            case measure => simp [intOf]; omega
         ·have j2 : decide (p.kind ≤ 4) = false := by simp; omega
          have hb : Hid (partR o.s (snD d x) = false) := by show _ = _; rw [HP.out, decide_eq_false (by omega)]; rfl
          clear a2
          go_wp2
          go_roundw
          case rel => exact ⟨k + 1, by omega, by go_num, B4, C4, by rw [HT.out, hb.out, Bool.and_false]⟩
          case measure => simp [intOf]; omega
        ·have j1 : decide ((1 : Int) ≤ p.kind) = false := by simp; omega
         have hb : Hid (partR o.s (snD d x) = false) := by show _ = _; rw [HP.out, decide_eq_false (by omega)]; rfl
         clear a1
         go_wp2
         go_roundw
         case rel => exact ⟨k + 1, by omega, by go_num, B4, C4, by rw [HT.out, hb.out, Bool.and_false]⟩
         case measure => simp [intOf]; omega
       ·have i6 : (o.sn : Int) ≤ (k : Int) := by omega
        have hv : Hid (rightO o.s (l.map (snD d)) = true) := by
         show _ = _
         have h := HA.out
         rw [List.take_of_length_le (by omega)] at h
         rw [HV.out, HY.out, h]
         rfl
        go_wp2
        go_ret
        exact ⟨by rw [hv.out] <;> rfl, by rw [← HN.out]; exact B3⟩
   by_cases k8 : o.kind = 8
   ·have HV : Hid (rightO o.s (l.map (snD d)) = (z && decide (o.row.size ≤ 32 ∧ o.to.size ≤ 32))) := by
     show _ = _
     rw [HR.out, ← HZ.out]
     unfold kindB
     rw [if_neg kn, if_neg k4, if_neg k6, if_pos k8]
    have t1 : (o.kind == 1) = false := by simp [k8]
    have t2 : (o.kind == 2) = false := by simp [k8]
    have t3 : (o.kind == 3) = false := by simp [k8]
    have t7 : (o.kind == 7) = false := by simp [k8]
    have t5 : (o.kind == 5) = false := by simp [k8]
    have t4 : (o.kind == 4) = false := by simp [k8]
    have t6 : (o.kind == 6) = false := by simp [k8]
    have t8 : (o.kind == 8) = true := by simp [k8]
    clear kn k1 k2 k3 k7 k5 k4 k6 k8 L rec HR
    cases z with
    | false =>
     go_wp2
     go_ret
     exact ⟨by rw [HV.out] <;> rfl, by rw [← HN.out]; exact B2⟩
    | true =>
     by_cases s1 : o.row.size ≤ 32
     ·have j1 : decide ((o.row.size : Int) ≤ 32) = true := by simp; omega
      by_cases s2 : o.to.size ≤ 32
      ·have j2 : decide ((o.to.size : Int) ≤ 32) = true := by simp; omega
       have hd : Hid (decide (o.row.size ≤ 32 ∧ o.to.size ≤ 32) = true) := decide_eq_true ⟨s1, s2⟩
       clear s1 s2
       go_wp2
       go_ret
       exact ⟨by rw [HV.out, hd.out] <;> rfl, by rw [← HN.out]; exact B2⟩
      ·have j2 : decide ((o.to.size : Int) ≤ 32) = false := by simp; omega
       have hd : Hid (decide (o.row.size ≤ 32 ∧ o.to.size ≤ 32) = false) := decide_eq_false (by omega)
       clear s1 s2
       go_wp2
       go_ret
       exact ⟨by rw [HV.out, hd.out] <;> rfl, by rw [← HN.out]; exact B2⟩
     ·have j1 : decide ((o.row.size : Int) ≤ 32) = false := by simp; omega
      have hd : Hid (decide (o.row.size ≤ 32 ∧ o.to.size ≤ 32) = false) := decide_eq_false (by omega)
      clear s1
      go_wp2
      go_ret
      exact ⟨by rw [HV.out, hd.out] <;> rfl, by rw [← HN.out]; exact B2⟩
   ·have HV : Hid (rightO o.s (l.map (snD d)) = false) := by
     show _ = _
     rw [HR.out]
     unfold kindB
     rw [if_neg kn, if_neg k4, if_neg k6, if_neg k8, Bool.and_false]
    have t1 : (o.kind == 1) = false := by simp [k1]
    have t2 : (o.kind == 2) = false := by simp [k2]
    have t3 : (o.kind == 3) = false := by simp [k3]
    have t7 : (o.kind == 7) = false := by simp [k7]
    have t5 : (o.kind == 5) = false := by simp [k5]
    have t4 : (o.kind == 4) = false := by simp [k4]
    have t6 : (o.kind == 6) = false := by simp [k6]
    have t8 : (o.kind == 8) = false := by simp [k8]
    clear kn k1 k2 k3 k7 k5 k4 k6 k8 L rec HR
    go_wp2
    go_ret
    exact ⟨by rw [HV.out] <;> rfl, by rw [← HN.out]; exact B2⟩
end Go.Proofs.YtnbejckdhdbamaaGreat

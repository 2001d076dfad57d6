/-
  Texts in one: ROnly.
-/
import Derived.Test.YtnbejckdhdbamaaGreatMessageRightQ7
import Derived.RegionTactic
import Derived.ChangeAlike
import Derived.BigRegion
namespace Go.Proofs.YtnbejckdhdbamaaGreat
open Go.RowKit
def onlyA (o : OA) : OA :=
 if o.kind = 1 then ⟨o.kind, o.row, o.fam, o.qual, o.time, noTxt, o.va, noBs, false, none, 0, 0⟩
 else if o.kind = 2 then ⟨o.kind, o.row, o.fam, o.qual, o.time, noTxt, noBs, noBs, false, none, 0, 0⟩
 else if o.kind = 3 ∨ o.kind = 7 then ⟨o.kind, o.row, o.fam, o.qual, 0, noTxt, noBs, noBs, false, none, 0, 0⟩
 else if o.kind = 5 then ⟨o.kind, o.row, o.fam, o.qual, o.time, noTxt, o.va, if o.has then o.wa else noBs, o.has, none, 0, 0⟩
 else if o.kind = 6 then ⟨o.kind, o.row, noTxt, noTxt, 0, noTxt, noBs, noBs, false, o.so, o.sn, o.sc⟩
 else if o.kind = 8 then ⟨o.kind, o.row, noTxt, noTxt, 0, o.to, noBs, noBs, false, none, 0, 0⟩
 else ⟨o.kind, o.row, noTxt, noTxt, 0, noTxt, noBs, noBs, false, none, 0, 0⟩
theorem onlyA_s (o : OA) : (onlyA o).s = onlyS o.s := by
 unfold onlyA onlyS
 by_cases k1 : o.kind = 1
 ·simp [OA.s, k1, noBs]
 by_cases k2 : o.kind = 2
 ·simp [OA.s, k2, noBs]
 by_cases k3 : o.kind = 3
 ·simp [OA.s, k3, noBs]
 by_cases k7 : o.kind = 7
 ·simp [OA.s, k7, noBs]
 by_cases k5 : o.kind = 5
 ·cases h : o.has <;> simp [OA.s, k5, noBs, h]
 by_cases k6 : o.kind = 6
 ·simp [OA.s, k6, noBs]
 by_cases k8 : o.kind = 8
 ·simp [OA.s, k8, noBs]
 simp [OA.s, k1, k2, k3, k7, k5, k6, k8, noBs]
theorem onlyA_sn (o : OA) : (onlyA o).so = (if o.kind = 6 then o.so else none) ∧ (onlyA o).sn = (if o.kind = 6 then o.sn else 0) ∧ (onlyA o).sc = (if o.kind = 6 then o.sc else 0) := by
 unfold onlyA
 by_cases k6 : o.kind = 6
 ·simp [k6]
 ·simp only [k6, if_false]
  split
  ·simp
  ·split
   ·simp
   ·split
    ·simp
    ·split
     ·simp
     ·split
      ·simp
      ·simp
theorem onlyA_ok {o : OA} {w : World} (h : o.ok w) : (onlyA o).ok w := by
 have z : (0 : Nat) < 18446744073709551616 := by decide
 have k := h.kind
 unfold onlyA
 split
 ·exact ⟨h.kind, h.row, h.fam, h.qual, h.time, Nat.zero_le _, h.va, Sl.nothing w, Nat.le_refl _, Nat.zero_le _, fun _ => ⟨rfl, rfl⟩⟩
 ·split
  ·exact ⟨h.kind, h.row, h.fam, h.qual, h.time, Nat.zero_le _, Sl.nothing w, Sl.nothing w, Nat.le_refl _, Nat.zero_le _, fun _ => ⟨rfl, rfl⟩⟩
  ·split
   ·exact ⟨h.kind, h.row, h.fam, h.qual, z, Nat.zero_le _, Sl.nothing w, Sl.nothing w, Nat.le_refl _, Nat.zero_le _, fun _ => ⟨rfl, rfl⟩⟩
   ·split
    ·refine ⟨h.kind, h.row, h.fam, h.qual, h.time, Nat.zero_le _, h.va, ?_, Nat.le_refl _, Nat.zero_le _, fun _ => ⟨rfl, rfl⟩⟩
     by_cases c : o.has = true
     ·simp only [c, if_true]
      exact h.wa
     ·simp only [c]
      exact Sl.nothing w
    ·split
     ·exact ⟨h.kind, h.row, Nat.zero_le _, Nat.zero_le _, z, Nat.zero_le _, Sl.nothing w, Sl.nothing w, h.le, h.mx, h.nil⟩
     ·split
      ·exact ⟨h.kind, h.row, Nat.zero_le _, Nat.zero_le _, z, h.to, Sl.nothing w, Sl.nothing w, Nat.le_refl _, Nat.zero_le _, fun _ => ⟨rfl, rfl⟩⟩
      ·exact ⟨h.kind, h.row, Nat.zero_le _, Nat.zero_le _, z, Nat.zero_le _, Sl.nothing w, Sl.nothing w, Nat.le_refl _, Nat.zero_le _, fun _ => ⟨rfl, rfl⟩⟩
set_option maxRecDepth 100000 in
set_option maxHeartbeats 8000000 in
theorem ronly_2 (w : World) (o : OA) (hk : o.kind = 2) :
  Calls Tryz.prog 100 #[o.val] w fun e w' => e = .returned (OA.val ⟨o.kind, o.row, o.fam, o.qual, o.time, noTxt, noBs, noBs, false, none, 0, 0⟩) ∧ Below w.heap.size w w' := by
 have t1 : (o.kind == 1) = false := by simp [hk]
 have t2 : (o.kind == 2) = true := by simp [hk]
 clear hk
 unfold OA.val
 go_enter Tryz.func100, Tryz.ntmps100
 go_wp2
 refine bodyPost_ret (v := .agg #[.int .i64 o.kind, .string o.row, .string o.fam, .string o.qual, .int .u64 o.time, .string ⟨#[]⟩, .slice none 0 0, .slice none 0 0, .bool false, .slice none 0 0]) (by simp [results, Tryz.results100, go_sem]) rfl ⟨rfl, ?_⟩
 exact ((((Below.refl _ w).alloc (Nat.le_refl _) _).alloc (by simp) _).alloc (by simp; omega) _)
set_option maxRecDepth 100000 in
set_option maxHeartbeats 8000000 in
theorem ronly_3 (w : World) (o : OA) (hk : o.kind = 3) :
  Calls Tryz.prog 100 #[o.val] w fun e w' => e = .returned (OA.val ⟨o.kind, o.row, o.fam, o.qual, 0, noTxt, noBs, noBs, false, none, 0, 0⟩) ∧ Below w.heap.size w w' := by
 have t1 : (o.kind == 1) = false := by simp [hk]
 have t2 : (o.kind == 2) = false := by simp [hk]
 have t3 : (o.kind == 3) = true := by simp [hk]
 clear hk
 unfold OA.val
 go_enter Tryz.func100, Tryz.ntmps100
 go_wp2
 refine bodyPost_ret (v := .agg #[.int .i64 o.kind, .string o.row, .string o.fam, .string o.qual, .int .u64 0, .string ⟨#[]⟩, .slice none 0 0, .slice none 0 0, .bool false, .slice none 0 0]) (by simp [results, Tryz.results100, go_sem]) rfl ⟨rfl, ?_⟩
 exact ((((Below.refl _ w).alloc (Nat.le_refl _) _).alloc (by simp) _).alloc (by simp; omega) _)
set_option maxRecDepth 100000 in
set_option maxHeartbeats 8000000 in
theorem ronly_7 (w : World) (o : OA) (hk : o.kind = 7) :
  Calls Tryz.prog 100 #[o.val] w fun e w' => e = .returned (OA.val ⟨o.kind, o.row, o.fam, o.qual, 0, noTxt, noBs, noBs, false, none, 0, 0⟩) ∧ Below w.heap.size w w' := by
 have t1 : (o.kind == 1) = false := by simp [hk]
 have t2 : (o.kind == 2) = false := by simp [hk]
 have t3 : (o.kind == 3) = false := by simp [hk]
 have t7 : (o.kind == 7) = true := by simp [hk]
 clear hk
 unfold OA.val
 go_enter Tryz.func100, Tryz.ntmps100
 go_wp2
 refine bodyPost_ret (v := .agg #[.int .i64 o.kind, .string o.row, .string o.fam, .string o.qual, .int .u64 0, .string ⟨#[]⟩, .slice none 0 0, .slice none 0 0, .bool false, .slice none 0 0]) (by simp [results, Tryz.results100, go_sem]) rfl ⟨rfl, ?_⟩
 exact ((((Below.refl _ w).alloc (Nat.le_refl _) _).alloc (by simp) _).alloc (by simp; omega) _)
set_option maxRecDepth 100000 in
set_option maxHeartbeats 8000000 in
theorem ronly_6 (w : World) (o : OA) (hk : o.kind = 6) :
  Calls Tryz.prog 100 #[o.val] w fun e w' => e = .returned (OA.val ⟨o.kind, o.row, noTxt, noTxt, 0, noTxt, noBs, noBs, false, o.so, o.sn, o.sc⟩) ∧ Below w.heap.size w w' := by
 have t1 : (o.kind == 1) = false := by simp [hk]
 have t2 : (o.kind == 2) = false := by simp [hk]
 have t3 : (o.kind == 3) = false := by simp [hk]
 have t7 : (o.kind == 7) = false := by simp [hk]
 have t5 : (o.kind == 5) = false := by simp [hk]
 have t6 : (o.kind == 6) = true := by simp [hk]
 clear hk
 unfold OA.val
 go_enter Tryz.func100, Tryz.ntmps100
 go_wp2
 refine bodyPost_ret (v := .agg #[.int .i64 o.kind, .string o.row, .string ⟨#[]⟩, .string ⟨#[]⟩, .int .u64 0, .string ⟨#[]⟩, .slice none 0 0, .slice none 0 0, .bool false, .slice o.so o.sn o.sc]) (by simp [results, Tryz.results100, go_sem]) rfl ⟨rfl, ?_⟩
 exact ((((Below.refl _ w).alloc (Nat.le_refl _) _).alloc (by simp) _).alloc (by simp; omega) _)
set_option maxRecDepth 100000 in
set_option maxHeartbeats 8000000 in
theorem ronly_8 (w : World) (o : OA) (hk : o.kind = 8) :
  Calls Tryz.prog 100 #[o.val] w fun e w' => e = .returned (OA.val ⟨o.kind, o.row, noTxt, noTxt, 0, o.to, noBs, noBs, false, none, 0, 0⟩) ∧ Below w.heap.size w w' := by
 have t1 : (o.kind == 1) = false := by simp [hk]
 have t2 : (o.kind == 2) = false := by simp [hk]
 have t3 : (o.kind == 3) = false := by simp [hk]
 have t7 : (o.kind == 7) = false := by simp [hk]
 have t5 : (o.kind == 5) = false := by simp [hk]
 have t6 : (o.kind == 6) = false := by simp [hk]
 have t8 : (o.kind == 8) = true := by simp [hk]
 clear hk
 unfold OA.val
 go_enter Tryz.func100, Tryz.ntmps100
 go_wp2
 refine bodyPost_ret (v := .agg #[.int .i64 o.kind, .string o.row, .string ⟨#[]⟩, .string ⟨#[]⟩, .int .u64 0, .string o.to, .slice none 0 0, .slice none 0 0, .bool false, .slice none 0 0]) (by simp [results, Tryz.results100, go_sem]) rfl ⟨rfl, ?_⟩
 exact ((((Below.refl _ w).alloc (Nat.le_refl _) _).alloc (by simp) _).alloc (by simp; omega) _)
set_option maxRecDepth 100000 in
set_option maxHeartbeats 8000000 in
theorem ronly_0 (w : World) (o : OA) (h1 : o.kind ≠ 1) (h2 : o.kind ≠ 2) (h3 : o.kind ≠ 3) (h7 : o.kind ≠ 7) (h5 : o.kind ≠ 5) (h6 : o.kind ≠ 6) (h8 : o.kind ≠ 8) :
  Calls Tryz.prog 100 #[o.val] w fun e w' => e = .returned (OA.val ⟨o.kind, o.row, noTxt, noTxt, 0, noTxt, noBs, noBs, false, none, 0, 0⟩) ∧ Below w.heap.size w w' := by
 have t1 : (o.kind == 1) = false := by simp [h1]
 have t2 : (o.kind == 2) = false := by simp [h2]
 have t3 : (o.kind == 3) = false := by simp [h3]
 have t7 : (o.kind == 7) = false := by simp [h7]
 have t5 : (o.kind == 5) = false := by simp [h5]
 have t6 : (o.kind == 6) = false := by simp [h6]
 have t8 : (o.kind == 8) = false := by simp [h8]
 clear h1 h2 h3 h7 h5 h6 h8
 unfold OA.val
 go_enter Tryz.func100, Tryz.ntmps100
 go_wp2
 refine bodyPost_ret (v := .agg #[.int .i64 o.kind, .string o.row, .string ⟨#[]⟩, .string ⟨#[]⟩, .int .u64 0, .string ⟨#[]⟩, .slice none 0 0, .slice none 0 0, .bool false, .slice none 0 0]) (by simp [results, Tryz.results100, go_sem]) rfl ⟨rfl, ?_⟩
 exact ((((Below.refl _ w).alloc (Nat.le_refl _) _).alloc (by simp) _).alloc (by simp; omega) _)
set_option maxRecDepth 100000 in
set_option maxHeartbeats 8000000 in
theorem ronly_1 (w : World) (o : OA) (hk : o.kind = 1) :
  Calls Tryz.prog 100 #[o.val] w fun e w' => e = .returned (OA.val ⟨o.kind, o.row, o.fam, o.qual, o.time, noTxt, o.va, noBs, false, none, 0, 0⟩) ∧ Below w.heap.size w w' := by
 have t1 : (o.kind == 1) = true := by simp [hk]
 clear hk
 unfold OA.val
 go_enter Tryz.func100, Tryz.ntmps100
 go_wp2
 go_region
 go_wp2
 refine bodyPost_ret (v := .agg #[.int .i64 o.kind, .string o.row, .string o.fam, .string o.qual, .int .u64 o.time, .string ⟨#[]⟩, .slice o.va.ao o.va.n o.va.cap, .slice none 0 0, .bool false, .slice none 0 0]) (by simp [results, Tryz.results100, go_sem]) rfl ⟨rfl, ?_⟩
 exact ((((Below.refl _ w).alloc (Nat.le_refl _) _).alloc (by simp) _).alloc (by simp; omega) _).drew
set_option maxRecDepth 100000 in
set_option maxHeartbeats 8000000 in
theorem ronly_5t (w : World) (o : OA) (hk : o.kind = 5) (hh : o.has = true) :
  Calls Tryz.prog 100 #[o.val] w fun e w' => e = .returned (OA.val ⟨o.kind, o.row, o.fam, o.qual, o.time, noTxt, o.va, o.wa, true, none, 0, 0⟩) ∧ Below w.heap.size w w' := by
 have t1 : (o.kind == 1) = false := by simp [hk]
 have t2 : (o.kind == 2) = false := by simp [hk]
 have t3 : (o.kind == 3) = false := by simp [hk]
 have t7 : (o.kind == 7) = false := by simp [hk]
 have t5 : (o.kind == 5) = true := by simp [hk]
 clear hk
 unfold OA.val
 go_enter Tryz.func100, Tryz.ntmps100
 go_wp2
 go_region
 go_wp2
 refine bodyPost_ret (v := .agg #[.int .i64 o.kind, .string o.row, .string o.fam, .string o.qual, .int .u64 o.time, .string ⟨#[]⟩, .slice o.va.ao o.va.n o.va.cap, .slice o.wa.ao o.wa.n o.wa.cap, .bool true, .slice none 0 0]) (by simp [results, Tryz.results100, go_sem]) rfl ⟨rfl, ?_⟩
 exact ((((Below.refl _ w).alloc (Nat.le_refl _) _).alloc (by simp) _).alloc (by simp; omega) _).drew
set_option maxRecDepth 100000 in
set_option maxHeartbeats 8000000 in
theorem ronly_5f (w : World) (o : OA) (hk : o.kind = 5) (hh : o.has = false) :
  Calls Tryz.prog 100 #[o.val] w fun e w' => e = .returned (OA.val ⟨o.kind, o.row, o.fam, o.qual, o.time, noTxt, o.va, noBs, false, none, 0, 0⟩) ∧ Below w.heap.size w w' := by
 have t1 : (o.kind == 1) = false := by simp [hk]
 have t2 : (o.kind == 2) = false := by simp [hk]
 have t3 : (o.kind == 3) = false := by simp [hk]
 have t7 : (o.kind == 7) = false := by simp [hk]
 have t5 : (o.kind == 5) = true := by simp [hk]
 clear hk
 unfold OA.val
 go_enter Tryz.func100, Tryz.ntmps100
 go_wp2
 go_region
 go_wp2
 refine bodyPost_ret (v := .agg #[.int .i64 o.kind, .string o.row, .string o.fam, .string o.qual, .int .u64 o.time, .string ⟨#[]⟩, .slice o.va.ao o.va.n o.va.cap, .slice none 0 0, .bool false, .slice none 0 0]) (by simp [results, Tryz.results100, go_sem]) rfl ⟨rfl, ?_⟩
 exact ((((Below.refl _ w).alloc (Nat.le_refl _) _).alloc (by simp) _).alloc (by simp; omega) _).drew
theorem ronly_any (w : World) (o : OA) :
  Calls Tryz.prog 100 #[o.val] w fun e w' => e = .returned (onlyA o).val ∧ Below w.heap.size w w' := by
 by_cases k1 : o.kind = 1
 ·rw [show onlyA o = ⟨o.kind, o.row, o.fam, o.qual, o.time, noTxt, o.va, noBs, false, none, 0, 0⟩ from by unfold onlyA; rw [if_pos k1]]
  exact ronly_1 w o k1
 by_cases k2 : o.kind = 2
 ·rw [show onlyA o = ⟨o.kind, o.row, o.fam, o.qual, o.time, noTxt, noBs, noBs, false, none, 0, 0⟩ from by unfold onlyA; rw [if_neg k1, if_pos k2]]
  exact ronly_2 w o k2
 by_cases k3 : o.kind = 3
 ·rw [show onlyA o = ⟨o.kind, o.row, o.fam, o.qual, 0, noTxt, noBs, noBs, false, none, 0, 0⟩ from by unfold onlyA; rw [if_neg k1, if_neg k2, if_pos (.inl k3)]]
  exact ronly_3 w o k3
 by_cases k7 : o.kind = 7
 ·rw [show onlyA o = ⟨o.kind, o.row, o.fam, o.qual, 0, noTxt, noBs, noBs, false, none, 0, 0⟩ from by unfold onlyA; rw [if_neg k1, if_neg k2, if_pos (.inr k7)]]
  exact ronly_7 w o k7
 by_cases k5 : o.kind = 5
 ·cases h : o.has with
  | true =>
   rw [show onlyA o = ⟨o.kind, o.row, o.fam, o.qual, o.time, noTxt, o.va, o.wa, true, none, 0, 0⟩ from by unfold onlyA; rw [if_neg k1, if_neg k2, if_neg (by omega), if_pos k5, h]; rfl]
   exact ronly_5t w o k5 h
  | false =>
   rw [show onlyA o = ⟨o.kind, o.row, o.fam, o.qual, o.time, noTxt, o.va, noBs, false, none, 0, 0⟩ from by unfold onlyA; rw [if_neg k1, if_neg k2, if_neg (by omega), if_pos k5, h]; rfl]
   exact ronly_5f w o k5 h
 by_cases k6 : o.kind = 6
 ·rw [show onlyA o = ⟨o.kind, o.row, noTxt, noTxt, 0, noTxt, noBs, noBs, false, o.so, o.sn, o.sc⟩ from by unfold onlyA; rw [if_neg k1, if_neg k2, if_neg (by omega), if_neg k5, if_pos k6]]
  exact ronly_6 w o k6
 by_cases k8 : o.kind = 8
 ·rw [show onlyA o = ⟨o.kind, o.row, noTxt, noTxt, 0, o.to, noBs, noBs, false, none, 0, 0⟩ from by unfold onlyA; rw [if_neg k1, if_neg k2, if_neg (by omega), if_neg k5, if_neg k6, if_pos k8]]
  exact ronly_8 w o k8
 rw [show onlyA o = ⟨o.kind, o.row, noTxt, noTxt, 0, noTxt, noBs, noBs, false, none, 0, 0⟩ from by unfold onlyA; rw [if_neg k1, if_neg k2, if_neg (by omega), if_neg k5, if_neg k6, if_neg k8]]
 exact ronly_0 w o k1 k2 k3 k7 k5 k6 k8
end Go.Proofs.YtnbejckdhdbamaaGreat

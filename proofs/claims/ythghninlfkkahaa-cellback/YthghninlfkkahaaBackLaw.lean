/-
  CellBack.
-/
import Derived.Test.YthghninlfkkahaaCRead
import Derived.Test.YthghninlfkkahaaCAlive
import Derived.Test.YthghninlfkkahaaCKeys
namespace Go.Proofs.Ythghninlfkkahaa
open Go.RowKit

set_option maxHeartbeats 8000000 in
set_option maxRecDepth 100000 in
theorem cellBack_any (w : World) (k : KA) (ao : Option Addr) (n cap : Nat) (xs : List Int) (okk : k.ok) (h : Sl w ao n cap xs) :
    Calls Try.prog 4 #[k.val, .slice ao n cap] w fun e w' => e = .returned (.bool true) ∧ Below w.heap.size w w' := by
  have qk : KC (w.alloc (Obj.cells #[.string k.row, .string k.fam, .string k.qual, .int .u64 k.time] 26)) (w.heap.size) k := by
    have := KC.new w k
    simpa using this
  have B1' : Below w.heap.size w (w.alloc (Obj.cells #[.string k.row, .string k.fam, .string k.qual, .int .u64 k.time] 26)) := ((Below.refl _ w).alloc (by simp <;> omega) (Obj.cells #[.string k.row, .string k.fam, .string k.qual, .int .u64 k.time] 26))
  have z1 : (w.alloc (Obj.cells #[.string k.row, .string k.fam, .string k.qual, .int .u64 k.time] 26)).heap.size = w.heap.size + 1 := by simp
  unfold KA.val
  go_enter Try.func4, Try.ntmps4
  go_wp2_with fail
  obtain ⟨w1, hw1⟩ : ∃ W, W = (w.alloc (Obj.cells #[.string k.row, .string k.fam, .string k.qual, .int .u64 k.time] 26)) := ⟨_, rfl⟩
  rw [← hw1] at B1' z1 qk ⊢
  obtain ⟨N, hN⟩ : ∃ N, N = w.heap.size := ⟨_, rfl⟩
  rw [← hN] at z1 qk ⊢
  have B1 : Below N w w1 := by rw [hN]; exact B1'
  have HN : Hid (N = w.heap.size) := hN
  clear B1' hw1 hN
  refine (light4_any w1 k).mono ?_
  rintro e w2 ⟨rfl, C⟩
  have B2 := B1.trans (C.mono (by omega))
  have k2 := qk.keep C
  have S2 : Sl w2 ao n cap xs := h.below (by rw [← HN.out]; exact B2)
  clear C qk B1
  by_cases hl : k.light = true
  · rw [hl]
    by_cases l1 : 1000 < n
    · have i1 : (1000 : Int) < (n : Int) := by omega
      go_wp2_with fail
      refine (alive_any _).mono ?_
      rintro e wz ⟨rfl, Cz⟩
      have Bz := B2.trans (Cz.mono (by have := B2.size; have := HN.out; omega))
      go_wp2
      go_ret
      exact ⟨rfl, by rw [← HN.out]; exact Bz⟩
    have i1 : (n : Int) ≤ 1000 := by omega
    have ek0 := k2.c0
    have ek1 := k2.c1
    have ek2 := k2.c2
    have ek3 := k2.c3
    go_wp2_with fail
    by_cases rk : k.isRight = true
    · refine (pbytes_any w2 k okk rk).mono ?_
      rintro e w3 ⟨bo, m, c, rfl, X3, C⟩
      have B3 := B2.trans (C.mono (by have := B2.size; have := HN.out; omega))
      have k3 := k2.keep C
      have S3 := S2.below C
      clear ek0 ek1 ek2 ek3
      clear C B2 k2 S2
      have hm : m ≤ 400 := by
        have h1 := X3.len
        have h2 := KA.pre_len rk 3
        have h3 : k.pre 3 ++ beL 8 k.time = keyL k.kv := by simp [KA.pre, keyL, KA.kv, List.append_assoc]
        rw [← h3, List.length_append, beL_len] at h1
        omega
      have HRK : Hid (readL (keyL k.kv) = some k.kv) := readL_keyL _ (KA.kv_byt okk) (by rw [KA.isRight_kv] at rk; exact of_decide_eq_true rk)
      go_wp2_with fail
      refine (pread_any w3 bo m c _ X3 (by omega)).mono ?_
      rintro e w4 ⟨P4, C⟩
      have B4 := B3.trans (C.mono (by have := B3.size; have := HN.out; omega))
      have k4 := k3.keep C
      have S4 := S3.below C
      rw [HRK.out] at P4
      obtain ⟨y, rfl, hy, -⟩ := P4
      obtain rfl : y = k := KA.kv_inj hy
      clear C B3 k3 S3 X3 hm HRK hy
      unfold KA.val
      have B5 := B4.alloc (by have := B4.size; have := HN.out; omega) (Obj.cells #[.string y.row, .string y.fam, .string y.qual, .int .u64 y.time] 26)
      have C5 : Below w4.heap.size w4 (w4.alloc (Obj.cells #[.string y.row, .string y.fam, .string y.qual, .int .u64 y.time] 26)) := (Below.refl _ w4).alloc (Nat.le_refl _) _
      have S5 := S4.below C5
      have lt := k4.lt
      have q0 := k4.c0
      have q1 := k4.c1
      have q2 := k4.c2
      have q3 := k4.c3
      clear C5
      go_wp2_with fail
      refine (pread_any _ ao n cap xs S5 (by omega)).mono ?_
      rintro e u1 ⟨P1, C⟩
      have D1 := B5.trans (C.mono (by have := B5.size; have := HN.out; omega))
      have T1 := S5.below C
      clear C
      cases hr : readL xs with
      | none =>
        rw [hr] at P1
        obtain rfl : e = .returned (.tuple #[.agg #[.string ⟨#[]⟩, .string ⟨#[]⟩, .string ⟨#[]⟩, .int .u64 0], .int .i64 5]) := P1
        clear hr
        have D2 := D1.alloc (by have := D1.size; have := HN.out; omega) (.cells #[.string ⟨#[]⟩, .string ⟨#[]⟩, .string ⟨#[]⟩, .int .u64 0] 26)
        go_wp2_with fail
        refine (alive_any _).mono ?_
        rintro e wz ⟨rfl, Cz⟩
        have Bz := D2.trans (Cz.mono (by have := D2.size; have := HN.out; omega))
        go_wp2
        go_ret
        exact ⟨rfl, by rw [← HN.out]; exact Bz⟩
      | some kv =>
        rw [hr] at P1
        obtain ⟨y, rfl, hy, oky⟩ := P1
        unfold KA.val
        obtain ⟨e1, e2, -⟩ := keyL_readL T1.byte hr
        rw [← hy] at e1 e2
        have ry : y.isRight = true := by rw [KA.isRight_kv]; exact decide_eq_true e2
        have HE : Hid (keyL y.kv = xs) := e1
        clear hr hy e1 e2
        have D2 := D1.alloc (by have := D1.size; have := HN.out; omega) (Obj.cells #[.string y.row, .string y.fam, .string y.qual, .int .u64 y.time] 26)
        have C2 : Below u1.heap.size u1 (u1.alloc (Obj.cells #[.string y.row, .string y.fam, .string y.qual, .int .u64 y.time] 26)) := (Below.refl _ u1).alloc (Nat.le_refl _) _
        have T2 := T1.below C2
        have y2 : KC (u1.alloc (Obj.cells #[.string y.row, .string y.fam, .string y.qual, .int .u64 y.time] 26)) u1.heap.size y := KC.new u1 y
        have q0 := y2.c0
        have q1 := y2.c1
        have q2 := y2.c2
        have q3 := y2.c3
        go_wp2_with fail
        refine (pbytes_any _ y oky ry).mono ?_
        rintro e u3 ⟨zo, zn, zc, rfl, Z3, C⟩
        have D3 := D2.trans (C.mono (by have := D2.size; have := HN.out; omega))
        have T3 := T2.below C
        rw [HE.out] at Z3
        clear C C2 T2 y2 q0 q1 q2 q3 T1 D1 D2 HE
        go_wp2_with fail
        refine (rsame_below u3 _ _ _ _ _ _ _ _ Z3 T3).mono ?_
        rintro e u4 ⟨rfl, C⟩
        have D4 := D3.trans (C.mono (by have := D3.size; have := HN.out; omega))
        rw [decide_eq_true rfl]
        clear C T3 Z3 D3
        go_wp2_with fail
        refine (alive_any _).mono ?_
        rintro e wz ⟨rfl, Cz⟩
        have Bz := D4.trans (Cz.mono (by have := D4.size; have := HN.out; omega))
        go_wp2
        go_ret
        exact ⟨rfl, by rw [← HN.out]; exact Bz⟩
    · have rk' : k.isRight = false := by simpa using rk
      refine (pbytes_bad w2 k rk').mono ?_
      rintro e w3 ⟨rfl, C⟩
      have B3 := B2.trans (C.mono (by have := B2.size; have := HN.out; omega))
      have S3 := S2.below C
      clear ek0 ek1 ek2 ek3
      clear C B2 k2 S2
      go_wp2_with fail
      refine (pread_any w3 ao n cap xs S3 (by omega)).mono ?_
      rintro e u1 ⟨P1, C⟩
      have D1 := B3.trans (C.mono (by have := B3.size; have := HN.out; omega))
      have T1 := S3.below C
      clear C
      cases hr : readL xs with
      | none =>
        rw [hr] at P1
        obtain rfl : e = .returned (.tuple #[.agg #[.string ⟨#[]⟩, .string ⟨#[]⟩, .string ⟨#[]⟩, .int .u64 0], .int .i64 5]) := P1
        clear hr
        have D2 := D1.alloc (by have := D1.size; have := HN.out; omega) (.cells #[.string ⟨#[]⟩, .string ⟨#[]⟩, .string ⟨#[]⟩, .int .u64 0] 26)
        go_wp2_with fail
        refine (alive_any _).mono ?_
        rintro e wz ⟨rfl, Cz⟩
        have Bz := D2.trans (Cz.mono (by have := D2.size; have := HN.out; omega))
        go_wp2
        go_ret
        exact ⟨rfl, by rw [← HN.out]; exact Bz⟩
      | some kv =>
        rw [hr] at P1
        obtain ⟨y, rfl, hy, oky⟩ := P1
        unfold KA.val
        obtain ⟨e1, e2, -⟩ := keyL_readL T1.byte hr
        rw [← hy] at e1 e2
        have ry : y.isRight = true := by rw [KA.isRight_kv]; exact decide_eq_true e2
        have HE : Hid (keyL y.kv = xs) := e1
        clear hr hy e1 e2
        have D2 := D1.alloc (by have := D1.size; have := HN.out; omega) (Obj.cells #[.string y.row, .string y.fam, .string y.qual, .int .u64 y.time] 26)
        have C2 : Below u1.heap.size u1 (u1.alloc (Obj.cells #[.string y.row, .string y.fam, .string y.qual, .int .u64 y.time] 26)) := (Below.refl _ u1).alloc (Nat.le_refl _) _
        have T2 := T1.below C2
        have y2 : KC (u1.alloc (Obj.cells #[.string y.row, .string y.fam, .string y.qual, .int .u64 y.time] 26)) u1.heap.size y := KC.new u1 y
        have q0 := y2.c0
        have q1 := y2.c1
        have q2 := y2.c2
        have q3 := y2.c3
        go_wp2_with fail
        refine (pbytes_any _ y oky ry).mono ?_
        rintro e u3 ⟨zo, zn, zc, rfl, Z3, C⟩
        have D3 := D2.trans (C.mono (by have := D2.size; have := HN.out; omega))
        have T3 := T2.below C
        rw [HE.out] at Z3
        clear C C2 T2 y2 q0 q1 q2 q3 T1 D1 D2 HE
        go_wp2_with fail
        refine (rsame_below u3 _ _ _ _ _ _ _ _ Z3 T3).mono ?_
        rintro e u4 ⟨rfl, C⟩
        have D4 := D3.trans (C.mono (by have := D3.size; have := HN.out; omega))
        rw [decide_eq_true rfl]
        clear C T3 Z3 D3
        go_wp2_with fail
        refine (alive_any _).mono ?_
        rintro e wz ⟨rfl, Cz⟩
        have Bz := D4.trans (Cz.mono (by have := D4.size; have := HN.out; omega))
        go_wp2
        go_ret
        exact ⟨rfl, by rw [← HN.out]; exact Bz⟩
  · have hl' : k.light = false := by simpa using hl
    rw [hl']
    go_wp2_with fail
    refine (alive_any _).mono ?_
    rintro e wz ⟨rfl, Cz⟩
    have Bz := B2.trans (Cz.mono (by have := B2.size; have := HN.out; omega))
    go_wp2
    go_ret
    exact ⟨rfl, by rw [← HN.out]; exact Bz⟩
end Go.Proofs.Ythghninlfkkahaa

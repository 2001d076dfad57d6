/-
  Contracts: the reference's reader: Fail, Left, Done and Uint.
-/
import Derived.Test.YtkmkmekhodcioaaGreatDoorChunkLaysZ8
namespace Go.Proofs.YtkmkmekhodcioaaGreatDoor
open Go.RowKit

theorem rFail_any (w : World) (p L : Nat) (xs : List Int) (k q : Int) (h : R w p L xs k) : Calls Tryz.prog 77 #[.pointer (some ⟨p, 0, none⟩), .int .i64 q] w fun e w' => e = .returned (.tuple #[]) ∧ R w' p L xs (if k = 0 then q else k) ∧ w.grownBy w' (some p) := by
  have hR := h
  obtain ⟨ao, n, cap, hr⟩ := h
  have h1 := hr.c1
  have f1 := hr.f1
  have hfin : R (w.setCell ⟨p, 1, none⟩ (.int .i64 q)) p L xs q := ⟨_, _, _, hr.wrong q⟩
  clear hr
  by_cases hk : k = 0
  · rw [if_pos hk]
    subst hk
    go_enter Tryz.func77, Tryz.ntmps77
    go_wp2
    go_end0
    exact ⟨rfl, hfin, grown_setCell _ _ _ _⟩
  · rw [if_neg hk]
    have hb : (k == 0) = false := by simp [hk]
    clear hk hfin
    go_enter Tryz.func77, Tryz.ntmps77
    go_wp2
    go_end0
    exact ⟨rfl, hR, World.grownBy.refl _ _⟩

theorem rDone_any (w : World) (p L : Nat) (xs : List Int) (k : Int) (h : R w p L xs k) : Calls Tryz.prog 48 #[.pointer (some ⟨p, 0, none⟩)] w fun e w' => e = .returned (.int .i64 (doneS xs k)) ∧ w' = w := by
  obtain ⟨ao, n, cap, hr⟩ := h
  have h0 := hr.c0
  have h1 := hr.c1
  have hl := hr.sl.len
  clear hr
  by_cases hk : k = 0
  · subst hk
    cases xs with
    | nil =>
      have hn : n = 0 := by simpa using hl.symm
      subst hn
      clear hl
      go_enter Tryz.func48, Tryz.ntmps48
      go_wp2
      go_ret
      exact ⟨rfl, rfl⟩
    | cons c r =>
      have hn : 0 < n := by rw [← hl]; simp
      clear hl
      go_enter Tryz.func48, Tryz.ntmps48
      go_wp2
      go_ret
      exact ⟨rfl, rfl⟩
  · have hb : (k == 0) = false := by simp [hk]
    have hd : doneS xs k = k := by simp [doneS, hk]
    rw [hd]
    clear hk hd
    go_enter Tryz.func48, Tryz.ntmps48
    go_wp2
    go_ret
    exact ⟨rfl, rfl⟩

theorem wrap_u64_in (x : Nat) (h : x < 18446744073709551616) : IntKind.u64.wrap (x : Int) = (x : Int) := by
  rw [IntKind.wrap_u64]
  omega
theorem ref_sum (acc U : Nat) (c : Int) (h : acc + (c % 128).toNat * U < 18446744073709551616) :
    IntKind.u64.wrap ((acc : Int) + IntKind.u64.wrap ((U : Int) * (c % 128))) = ((acc + (c % 128).toNat * U : Nat) : Int) := by
  obtain ⟨x, hx⟩ : ∃ x : Nat, c % 128 = x := ⟨(c % 128).toNat, by omega⟩
  rw [hx] at h ⊢
  rw [Int.toNat_natCast] at h ⊢
  have e : (U : Int) * (x : Int) = ((x * U : Nat) : Int) := by rw [Int.natCast_mul, Int.mul_comm]
  rw [e, wrap_u64_in _ (by omega), ← Int.natCast_add, wrap_u64_in _ h]
theorem ref_unit (i : Nat) (h : i ≤ 8) : IntKind.u64.wrap (((128 ^ i : Nat) : Int) * 128) = ((128 ^ (i + 1) : Nat) : Int) := by
  have e : ((128 ^ i : Nat) : Int) * 128 = ((128 ^ (i + 1) : Nat) : Int) := by rw [Nat.pow_succ, Int.natCast_mul]; rfl
  rw [e, wrap_u64_in]
  have := pow_le_63 (i + 1) (by omega)
  omega

set_option maxHeartbeats 1600000 in
theorem rUint_read (w : World) (p L : Nat) (xs : List Int) (k : Int) (h : R w p L xs k) : Calls Tryz.prog 76 #[.pointer (some ⟨p, 0, none⟩)] w fun e w' =>
    e = .returned (.int .u64 ((uintT xs k).1 : Nat)) ∧ R w' p L (uintT xs k).2.1 (uintT xs k).2.2 ∧ w.grownBy w' (some p) := by
  have hR := h
  obtain ⟨ao, n, cap, hr⟩ := h
  have h0 := hr.c0
  have h1 := hr.c1
  have f0 := hr.f0
  have hl := hr.sl.len
  have hle := hr.sl.le
  have hmx := hr.sl.mx
  unfold maxLen at hmx
  by_cases hk : k = 0
  · subst hk
    have HF : Hid (∀ q, Calls Tryz.prog 77 #[.pointer (some ⟨p, 0, none⟩), .int .i64 q] w fun e w' => e = .returned (.tuple #[]) ∧ R w' p L xs q ∧ w.grownBy w' (some p)) := fun q => by
      have := rFail_any w p L xs 0 q hR
      rw [if_pos rfl] at this
      exact this
    generalize hX : uintT xs 0 = X
    obtain ⟨rm, rl, rk⟩ := X
    simp only
    have HX : Hid (uintT xs 0 = (rm, rl, rk)) := hX
    clear hX
    generalize hT : tk 0 0 xs = T at *
    obtain ⟨tm, tu, tq⟩ := T
    have HT : Hid (tk 0 0 xs = (tm, tu, tq)) := hT
    clear hT
    go_enter Tryz.func76, Tryz.ntmps76
    go_wp2
    go_loop [3, 4, 5] (fun a u x => ∃ (i acc : Nat), x = .int .i64 i ∧ a = .int .u64 acc ∧ u = .int .u64 ((128 ^ i : Nat) : Int) ∧ i ≤ n ∧ i ≤ 9 ∧ acc < 128 ^ i ∧ tk i acc (xs.drop i) = tk 0 0 xs) (fun _ _ x => n - (intOf x).toNat)
    case atStart => exact ⟨0, 0, rfl, rfl, rfl, by omega, by omega, by decide, rfl⟩
    case round =>
      obtain ⟨i, acc, rfl, rfl, rfl, hin, hi9, hacc, htk⟩ := hrel
      rw [HT.out] at htk
      have HK : Hid (tk i acc (xs.drop i) = (tm, tu, tq)) := htk
      clear htk
      by_cases hend : i = n
      · have hz := HK.out
        rw [List.drop_eq_nil_of_le (by omega)] at hz
        obtain ⟨rfl, rfl, rfl⟩ : 0 = tm ∧ 0 = tu ∧ 2 = tq := by simpa [tk] using hz
        have hle2 : (n : Int) ≤ (i : Int) := by omega
        clear hz hend
        go_wp2_with (go_at_call 77; refine (HF.out 2).mono ?_; rintro e w2 ⟨rfl, hr2, hg2⟩)
        have hx := (uintT_bad HT.out (by decide)).symm.trans HX.out
        obtain ⟨rfl, rfl, rfl⟩ : 0 = rm ∧ xs = rl ∧ 2 = rk := by simpa using hx
        go_ret
        exact ⟨rfl, hr2, hg2⟩
      · have hlt : i < n := by omega
        have hlt1 : (i : Int) < (n : Int) := by omega
        obtain ⟨b, off, rfl, hc⟩ := hr.sl.at (by omega)
        have c1 := hc i (by omega)
        have k1 : i < xs.length := by omega
        have hby := hr.sl.byte _ (List.getElem_mem k1)
        have hg : xs.getD i 0 = xs[i] := by simp [List.getD, k1]
        rw [hg] at c1
        have HD : Hid (xs.drop i = xs[i] :: xs.drop (i + 1)) := List.drop_eq_getElem_cons k1
        clear hc hg hend
        generalize xs[i] = c at c1 hby HD
        have ht := HK.out
        rw [HD.out, tk_cons] at ht
        by_cases hA : i = 9 ∧ 1 < c
        · rw [if_pos hA] at ht
          obtain ⟨rfl, rfl, rfl⟩ : 0 = tm ∧ 0 = tu ∧ 3 = tq := by simpa using ht
          have hb9 : ((i : Int) == 9) = true := by simp; omega
          have h9l : 9 ≤ i := by omega
          have hc1 : 1 < c := hA.2
          clear hA ht
          go_wp2_with (go_at_call 77; refine (HF.out 3).mono ?_; rintro e w2 ⟨rfl, hr2, hg2⟩)
          have hx := (uintT_bad HT.out (by decide)).symm.trans HX.out
          obtain ⟨rfl, rfl, rfl⟩ : 0 = rm ∧ xs = rl ∧ 3 = rk := by simpa using hx
          go_ret
          exact ⟨rfl, hr2, hg2⟩
        · rw [if_neg hA] at ht
          have hs := sum_lt acc i c hacc hi9 (by omega) hby.1
          have hsum := ref_sum acc (128 ^ i) c hs.1
          by_cases hC : 128 ≤ c
          · have h9 : ((i : Int) == 9) = false := by simp; omega
            have hi8 : i ≤ 8 := by omega
            have hun := ref_unit i hi8
            rw [if_neg (by omega), if_pos hC] at ht
            generalize acc + (c % 128).toNat * 128 ^ i = sm at ht hs hsum
            generalize hU : 128 ^ i = U at *
            generalize hV : 128 ^ (i + 1) = V at *
            have HU : Hid (128 ^ i = U) := hU
            have HV : Hid (128 ^ (i + 1) = V) := hV
            have HT2 : Hid (_ = (tm, tu, tq)) := ht
            clear ht hA hU hV
            go_wp2
            go_round
            case rel => exact ⟨i + 1, sm, by go_num, rfl, by rw [HV.out], by omega, by omega, by rw [HV.out]; exact hs.2, by rw [HT.out]; exact HT2.out⟩
            case measure => simp [intOf]; omega
          · have hc7 : c ≤ 127 := by omega
            by_cases hB : c = 0 ∧ 0 < i
            · rw [if_pos hB] at ht
              obtain ⟨rfl, rfl, rfl⟩ : 0 = tm ∧ 0 = tu ∧ 3 = tq := by simpa using ht
              have hb0 : (c == 0) = true := by simp; omega
              have hc0 : c ≤ 0 := by omega
              have hi0 : 0 < i := hB.2
              clear ht hA hB hC
              generalize acc + (c % 128).toNat * 128 ^ i = sm at hs hsum
              generalize 128 ^ i = U at *
              by_cases h9 : i = 9
              · have hb9 : ((i : Int) == 9) = true := by simp; omega
                have h9l : 9 ≤ i := by omega
                clear h9
                go_wp2_with (go_at_call 77; refine (HF.out 3).mono ?_; rintro e w2 ⟨rfl, hr2, hg2⟩)
                have hx := (uintT_bad HT.out (by decide)).symm.trans HX.out
                obtain ⟨rfl, rfl, rfl⟩ : 0 = rm ∧ xs = rl ∧ 3 = rk := by simpa using hx
                go_ret
                exact ⟨rfl, hr2, hg2⟩
              · have hb9 : ((i : Int) == 9) = false := by simp; omega
                clear h9
                go_wp2_with (go_at_call 77; refine (HF.out 3).mono ?_; rintro e w2 ⟨rfl, hr2, hg2⟩)
                have hx := (uintT_bad HT.out (by decide)).symm.trans HX.out
                obtain ⟨rfl, rfl, rfl⟩ : 0 = rm ∧ xs = rl ∧ 3 = rk := by simpa using hx
                go_ret
                exact ⟨rfl, hr2, hg2⟩
            · rw [if_neg hB, if_neg hC] at ht
              generalize acc + (c % 128).toNat * 128 ^ i = sm at ht hs hsum
              obtain ⟨rfl, rfl, rfl⟩ : sm = tm ∧ i + 1 = tu ∧ 0 = tq := by simpa using ht
              have hx := (uintT_ok HT.out).symm.trans HX.out
              obtain ⟨rfl, rfl, rfl⟩ : sm = rm ∧ xs.drop (i + 1) = rl ∧ 0 = rk := by simpa using hx
              generalize 128 ^ i = U at *
              have hfinA : cap = i + 1 → R (w.setCell ⟨p, 0, none⟩ (.slice (some ⟨b, off, none⟩) (n - (i + 1)) 0)) p L (xs.drop (i + 1)) 0 := fun hcu => by
                subst hcu
                exact ⟨_, _, _, hr.rest (hr.sl.dropAll (by omega)) (fun a ha hp => by omega) (by omega)⟩
              have hfinB := hr.rest (hr.sl.drop (i + 1) (by omega)) (low_drop hr.low (by omega)) (by omega)
              rw [Option.map_some, Addr.add_lit] at hfinB
              clear ht hC hx
              by_cases h9 : i = 9
              · have hb9 : ((i : Int) == 9) = true := by simp; omega
                have h9l : 9 ≤ i := by omega
                have hc1 : c ≤ 1 := by omega
                have hb0 : (c == 0) = false := by simp; omega
                clear hA hB h9
                go_wp2_with fail
                · have hcu : cap = i + 1 := by assumption
                  have hf := hfinA hcu
                  go_ret
                  exact ⟨rfl, hf, grown_setCell _ _ _ _⟩
                · go_ret
                  exact ⟨rfl, ⟨_, _, _, hfinB⟩, grown_setCell _ _ _ _⟩
              · have hb9 : ((i : Int) == 9) = false := by simp; omega
                clear hA
                by_cases h0c : c = 0
                · have hb0 : (c == 0) = true := by simp; omega
                  have hc0 : c ≤ 0 := by omega
                  have hi0 : i ≤ 0 := by omega
                  clear hB h0c h9
                  go_wp2_with fail
                  · have hcu : cap = i + 1 := by assumption
                    have hf := hfinA hcu
                    go_ret
                    exact ⟨rfl, hf, grown_setCell _ _ _ _⟩
                  · go_ret
                    exact ⟨rfl, ⟨_, _, _, hfinB⟩, grown_setCell _ _ _ _⟩
                · have hb0 : (c == 0) = false := by simp; omega
                  clear hB h0c h9
                  go_wp2_with fail
                  · have hcu : cap = i + 1 := by assumption
                    have hf := hfinA hcu
                    go_ret
                    exact ⟨rfl, hf, grown_setCell _ _ _ _⟩
                  · go_ret
                    exact ⟨rfl, ⟨_, _, _, hfinB⟩, grown_setCell _ _ _ _⟩
  · have hb : (k != 0) = true := by simp [hk]
    have hs : uintT xs k = (0, xs, k) := by simp [uintT, hk]
    rw [hs]
    clear hr hk hs
    go_enter Tryz.func76, Tryz.ntmps76
    go_wp2
    go_ret
    exact ⟨rfl, hR, World.grownBy.refl _ _⟩
end Go.Proofs.YtkmkmekhodcioaaGreatDoor

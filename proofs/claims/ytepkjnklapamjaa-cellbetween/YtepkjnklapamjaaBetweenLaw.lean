/-
  CellBetween.
-/
import Derived.Test.YtepkjnklapamjaaCAlive
import Derived.Test.YtepkjnklapamjaaCKeys
import Derived.Test.YtepkjnklapamjaaPCmp
import Derived.Test.YtepkjnklapamjaaPRows
import Derived.Test.YtepkjnklapamjaaCConv
namespace Go.Proofs.Ytepkjnklapamjaa
open Go.RowKit

set_option maxHeartbeats 8000000 in
set_option maxRecDepth 100000 in
theorem cellBetween_any (w : World) (k : KA) (s t : ByteArray) (okk : k.ok) (_hs : s.size ≤ maxLen) (_ht : t.size ≤ maxLen) :
    Calls Try.prog 7 #[k.val, .string s, .string t] w fun e w' => e = .returned (.bool true) ∧ Below w.heap.size w w' := by
  have qk : KC (w.alloc (Obj.cells #[.string k.row, .string k.fam, .string k.qual, .int .u64 k.time] 24)) (w.heap.size) k := by
    have := KC.new w k
    simpa using this
  have B1' : Below w.heap.size w (w.alloc (Obj.cells #[.string k.row, .string k.fam, .string k.qual, .int .u64 k.time] 24)) := ((Below.refl _ w).alloc (by simp) (Obj.cells #[.string k.row, .string k.fam, .string k.qual, .int .u64 k.time] 24))
  have z1 : (w.alloc (Obj.cells #[.string k.row, .string k.fam, .string k.qual, .int .u64 k.time] 24)).heap.size = w.heap.size + 1 := by simp
  unfold KA.val
  go_enter Try.func7, Try.ntmps7
  go_wp2_with fail
  obtain ⟨w1, hw1⟩ : ∃ W, W = (w.alloc (Obj.cells #[.string k.row, .string k.fam, .string k.qual, .int .u64 k.time] 24)) := ⟨_, rfl⟩
  rw [← hw1] at B1' z1 qk ⊢
  obtain ⟨N, hN⟩ : ∃ N, N = w.heap.size := ⟨_, rfl⟩
  rw [← hN] at z1 qk ⊢
  have B1 : Below N w w1 := by rw [hN]; exact B1'
  have HN : Hid (N = w.heap.size) := hN
  clear B1' hw1 hN
  refine (light4_any w1 k).mono ?_
  rintro e w2 ⟨rfl, C⟩
  have B2 := B1.trans (C.mono (by omega))
  have k2 := qk.keep C
  clear C qk B1
  by_cases hl : k.light = true
  · rw [hl]
    by_cases l1 : 100 < s.size
    · have i1 : (100 : Int) < (s.size : Int) := by omega
      go_wp2_with fail
      refine (alive_any _).mono ?_
      rintro e wz ⟨rfl, Cz⟩
      have Bz := B2.trans (Cz.mono (by have := B2.size; have := HN.out; omega))
      go_wp2
      go_ret
      exact ⟨rfl, by rw [← HN.out]; exact Bz⟩
    have i1 : (s.size : Int) ≤ 100 := by omega
    by_cases l2 : 100 < t.size
    · have i2 : (100 : Int) < (t.size : Int) := by omega
      go_wp2_with fail
      refine (alive_any _).mono ?_
      rintro e wz ⟨rfl, Cz⟩
      have Bz := B2.trans (Cz.mono (by have := B2.size; have := HN.out; omega))
      go_wp2
      go_ret
      exact ⟨rfl, by rw [← HN.out]; exact Bz⟩
    have i2 : (t.size : Int) ≤ 100 := by omega
    by_cases rk : k.isRight = true
    · have ek0 := k2.c0
      have ek1 := k2.c1
      have ek2 := k2.c2
      have ek3 := k2.c3
      go_wp2_with fail
      refine (pbytes_any w2 k okk rk).mono ?_
      rintro e w3 ⟨ko, kn, kc, rfl, Sk, C⟩
      clear ek0 ek1 ek2 ek3
      have B3 := B2.trans (C.mono (by have := B2.size; have := HN.out; omega))
      have k3 := k2.keep C
      clear C
      by_cases hb : 32 < s.size ∨ 32 < t.size
      · go_wp2_with fail
        refine (prows_bad w3 s t hb).mono ?_
        rintro e w4 ⟨rfl, hw⟩
        obtain rfl := hw.symm
        go_wp2_with fail
        refine (alive_any _).mono ?_
        rintro e wz ⟨rfl, Cz⟩
        have Bz := B3.trans (Cz.mono (by have := B3.size; have := HN.out; omega))
        go_wp2
        go_ret
        exact ⟨rfl, by rw [← HN.out]; exact Bz⟩
      · have h1 : s.size ≤ 32 := by omega
        have h2 : t.size ≤ 32 := by omega
        go_wp2_with fail
        refine (prows_any w3 s t h1 h2).mono ?_
        rintro e w4 ⟨ao, an, ac, bo, bn, bc, rfl, Sa, Sb, C⟩
        have B4 := B3.trans (C.mono (by have := B3.size; have := HN.out; omega))
        have k4 := k3.keep C
        have Tk := Sk.below C
        clear C Sk B3 k3
        have hb1 : Hid (decide (cmpL (keyL k.kv) (nm (sb s)) < 0) = Op.bytesLess k.row.toList s.toList) := by
          show _ = _
          rw [less_sb]
          exact decide_eq_decide.2 (keyL_below k.kv (sb s) (KA.kv_byt okk) (sb_byte s))
        have hb2 : Hid (t.size = 0 → cmpL (keyL k.kv) (hiL (sb t)) < 0) := fun h0 => by
          unfold hiL
          rw [if_pos (sb_nil h0)]
          have hsz := of_decide_eq_true rk
          have := nm_top k.kv.row (nm k.kv.fam ++ (nm k.kv.qual ++ beL 8 k.kv.time)) 32 (KA.kv_byt okk).1 (by show (sb k.row).length ≤ 32; rw [sb_len]; omega)
          unfold keyL
          rw [this]
          decide
        have hb3 : Hid (¬ t.size = 0 → decide (cmpL (keyL k.kv) (hiL (sb t)) < 0) = Op.bytesLess k.row.toList t.toList) := fun h0 => by
          unfold hiL
          rw [if_neg (fun h => h0 (by rw [← sb_len, h]; rfl)), less_sb]
          exact decide_eq_decide.2 (keyL_below k.kv (sb t) (KA.kv_byt okk) (sb_byte t))
        go_wp2_with fail
        refine (rbelow_any w4 _ _ _ _ _ _ _ _ Tk Sa).mono ?_
        rintro e w5 ⟨rfl, C⟩
        rw [hb1.out]
        have B5 := B4.trans (C.mono (by have := B4.size; have := HN.out; omega))
        have k5 := k4.keep C
        have Uk := Tk.below C
        have Ub := Sb.below C
        clear C Tk Sa Sb B4 k4 hb1
        obtain ⟨p, hp⟩ : ∃ p, Op.bytesLess k.row.toList s.toList = p := ⟨_, rfl⟩
        cases p
        · rw [hp]
          go_wp2_with fail
          refine (rbelow_any w5 _ _ _ _ _ _ _ _ Uk Ub).mono ?_
          rintro e w6 ⟨rfl, C⟩
          have B6 := B5.trans (C.mono (by have := B5.size; have := HN.out; omega))
          have k6 := k5.keep C
          clear C Uk Ub B5 k5
          have ek := k6.c0
          by_cases t0 : t.size = 0
          · rw [decide_eq_true (hb2.out t0)]
            have te : t.toList.isEmpty = true := by rw [toE]; exact decide_eq_true t0
            clear hb2 hb3
            go_wp2_with fail
            refine (alive_any _).mono ?_
            rintro e wz ⟨rfl, Cz⟩
            have Bz := B6.trans (Cz.mono (by have := B6.size; have := HN.out; omega))
            go_wp2
            go_ret
            exact ⟨rfl, by rw [← HN.out]; exact Bz⟩
          · rw [hb3.out t0]
            have te : t.toList.isEmpty = false := by rw [toE]; exact decide_eq_false t0
            clear hb2 hb3
            obtain ⟨r, hr⟩ : ∃ r, Op.bytesLess k.row.toList t.toList = r := ⟨_, rfl⟩
            cases r
            · rw [hr]
              go_wp2_with fail
              refine (alive_any _).mono ?_
              rintro e wz ⟨rfl, Cz⟩
              have Bz := B6.trans (Cz.mono (by have := B6.size; have := HN.out; omega))
              go_wp2
              go_ret
              exact ⟨rfl, by rw [← HN.out]; exact Bz⟩
            · rw [hr]
              go_wp2_with fail
              refine (alive_any _).mono ?_
              rintro e wz ⟨rfl, Cz⟩
              have Bz := B6.trans (Cz.mono (by have := B6.size; have := HN.out; omega))
              go_wp2
              go_ret
              exact ⟨rfl, by rw [← HN.out]; exact Bz⟩
        · rw [hp]
          clear hb2 hb3 Uk Ub
          have ek := k5.c0
          go_wp2_with fail
          refine (alive_any _).mono ?_
          rintro e wz ⟨rfl, Cz⟩
          have Bz := B5.trans (Cz.mono (by have := B5.size; have := HN.out; omega))
          go_wp2
          go_ret
          exact ⟨rfl, by rw [← HN.out]; exact Bz⟩
    · have rk : k.isRight = false := by simpa using rk
      have ek0 := k2.c0
      have ek1 := k2.c1
      have ek2 := k2.c2
      have ek3 := k2.c3
      go_wp2_with fail
      refine (pbytes_bad w2 k rk).mono ?_
      rintro e w3 ⟨rfl, C⟩
      clear ek0 ek1 ek2 ek3
      have B3 := B2.trans (C.mono (by have := B2.size; have := HN.out; omega))
      have k3 := k2.keep C
      clear C
      by_cases hb : 32 < s.size ∨ 32 < t.size
      · go_wp2_with fail
        refine (prows_bad w3 s t hb).mono ?_
        rintro e w4 ⟨rfl, hw⟩
        obtain rfl := hw.symm
        go_wp2_with fail
        refine (alive_any _).mono ?_
        rintro e wz ⟨rfl, Cz⟩
        have Bz := B3.trans (Cz.mono (by have := B3.size; have := HN.out; omega))
        go_wp2
        go_ret
        exact ⟨rfl, by rw [← HN.out]; exact Bz⟩
      · go_wp2_with fail
        refine (prows_any w3 s t (by omega) (by omega)).mono ?_
        rintro e w4 ⟨ao, an, ac, bo, bn, bc, rfl, Sa, Sb, C⟩
        have B4 := B3.trans (C.mono (by have := B3.size; have := HN.out; omega))
        go_wp2_with fail
        refine (alive_any _).mono ?_
        rintro e wz ⟨rfl, Cz⟩
        have Bz := B4.trans (Cz.mono (by have := B4.size; have := HN.out; omega))
        go_wp2
        go_ret
        exact ⟨rfl, by rw [← HN.out]; exact Bz⟩
  · have hl' : k.light = false := by simpa using hl
    rw [hl']
    go_wp2_with fail
    refine (alive_any _).mono ?_
    rintro e wz ⟨rfl, Cz⟩
    have Bz := B2.trans (Cz.mono (by have := B2.size; have := HN.out; omega))
    go_wp2
    go_ret
    exact ⟨rfl, by rw [← HN.out]; exact Bz⟩
end Go.Proofs.Ytepkjnklapamjaa

/-
  CellStands.
-/
import Derived.Test.YtepkjnklapamjaaCAlive
import Derived.Test.YtepkjnklapamjaaCKeys
import Derived.Test.YtepkjnklapamjaaPCmp
import Derived.Test.YtepkjnklapamjaaCConv
import Derived.Test.YtepkjnklapamjaaTake2
namespace Go.Proofs.Ytepkjnklapamjaa
open Go.RowKit

set_option maxHeartbeats 8000000 in
set_option maxRecDepth 100000 in
theorem cellStands_any (w : World) (a b : KA) (oka : a.ok) (okb : b.ok) :
    Calls Try.prog 6 #[a.val, b.val] w fun e w' => e = .returned (.bool true) ∧ Below w.heap.size w w' := by
  have qa : KC (w.alloc (Obj.cells #[.string a.row, .string a.fam, .string a.qual, .int .u64 a.time] 24)) (w.heap.size) a := by
    have := KC.new w a
    simpa using this
  have qb : KC ((w.alloc (Obj.cells #[.string a.row, .string a.fam, .string a.qual, .int .u64 a.time] 24)).alloc (Obj.cells #[.string b.row, .string b.fam, .string b.qual, .int .u64 b.time] 24)) (w.heap.size + 1) b := by
    have := KC.new (w.alloc (Obj.cells #[.string a.row, .string a.fam, .string a.qual, .int .u64 a.time] 24)) b
    simpa using this
  have qa := qa.alloc (Obj.cells #[.string b.row, .string b.fam, .string b.qual, .int .u64 b.time] 24)
  have B1' : Below w.heap.size w ((w.alloc (Obj.cells #[.string a.row, .string a.fam, .string a.qual, .int .u64 a.time] 24)).alloc (Obj.cells #[.string b.row, .string b.fam, .string b.qual, .int .u64 b.time] 24)) := (((Below.refl _ w).alloc (by simp) (Obj.cells #[.string a.row, .string a.fam, .string a.qual, .int .u64 a.time] 24)).alloc (by simp) (Obj.cells #[.string b.row, .string b.fam, .string b.qual, .int .u64 b.time] 24))
  have z1 : ((w.alloc (Obj.cells #[.string a.row, .string a.fam, .string a.qual, .int .u64 a.time] 24)).alloc (Obj.cells #[.string b.row, .string b.fam, .string b.qual, .int .u64 b.time] 24)).heap.size = w.heap.size + 2 := by simp
  unfold KA.val
  go_enter Try.func6, Try.ntmps6
  go_wp2_with fail
  obtain ⟨w1, hw1⟩ : ∃ W, W = ((w.alloc (Obj.cells #[.string a.row, .string a.fam, .string a.qual, .int .u64 a.time] 24)).alloc (Obj.cells #[.string b.row, .string b.fam, .string b.qual, .int .u64 b.time] 24)) := ⟨_, rfl⟩
  rw [← hw1] at B1' z1 qa qb ⊢
  obtain ⟨N, hN⟩ : ∃ N, N = w.heap.size := ⟨_, rfl⟩
  rw [← hN] at z1 qa qb ⊢
  have B1 : Below N w w1 := by rw [hN]; exact B1'
  have HN : Hid (N = w.heap.size) := hN
  clear B1' hw1 hN
  refine (light4_any w1 a).mono ?_
  rintro e w2 ⟨rfl, C⟩
  have B2 := B1.trans (C.mono (by omega))
  have a2 := qa.keep C
  have b2 := qb.keep C
  clear C qa qb B1
  by_cases hla : a.light = true
  · rw [hla]
    have b20 := b2.c0
    have b21 := b2.c1
    have b22 := b2.c2
    have b23 := b2.c3
    go_wp2_with fail
    refine (light4_any w2 b).mono ?_
    rintro e w3 ⟨rfl, C⟩
    have B3 := B2.trans (C.mono (by have := B2.size; have := HN.out; omega))
    have a3 := a2.keep C
    have b3 := b2.keep C
    clear C b20 b21 b22 b23 a2 b2 B2
    by_cases hlb : b.light = true
    · rw [hlb]
      by_cases ra : a.isRight = true
      · by_cases rb : b.isRight = true
        · have ea0 := a3.c0
          have ea1 := a3.c1
          have ea2 := a3.c2
          have ea3 := a3.c3
          go_wp2_with fail
          refine (pbytes_any w3 a oka ra).mono ?_
          rintro e w4 ⟨ao, an, ac, rfl, Sa, C⟩
          clear ea0 ea1 ea2 ea3
          have B4 := B3.trans (C.mono (by have := B3.size; have := HN.out; omega))
          have a4 := a3.keep C
          have b4 := b3.keep C
          clear C
          have eb0 := b4.c0
          have eb1 := b4.c1
          have eb2 := b4.c2
          have eb3 := b4.c3
          go_wp2_with fail
          refine (pbytes_any w4 b okb rb).mono ?_
          rintro e w5 ⟨bo, bn, bc, rfl, Sb, C⟩
          clear eb0 eb1 eb2 eb3
          have B5 := B4.trans (C.mono (by have := B4.size; have := HN.out; omega))
          have a5 := a4.keep C
          have b5 := b4.keep C
          have Ta := Sa.below C
          clear Sa C a4 b4 B4
          have la := Ta.len
          have lb := Sb.len
          have ma := Ta.mx
          have mb := Sb.mx
          have na := Ta.le
          have nb := Sb.le
          have ca := conv_str Ta
          have cb := conv_str Sb
          have HP : Hid (keyL a.kv <+: keyL b.kv → an = bn) := fun h => by have := keyL_prefix _ _ h; omega
          have HC : Hid (cmpL (keyL a.kv) (keyL b.kv) = cmpK a.kv b.kv) := keyL_cmp _ _ (KA.kv_byt oka) (KA.kv_byt okb)
          have sa : (strOfNums (keyL a.kv)).size = an := by rw [strOfNums_size]; exact la
          have sz : (strOfNums (keyL b.kv)).size = bn := by rw [strOfNums_size]; exact lb
          have sea := sb_str Ta.byte
          have seb := sb_str Sb.byte
          have HLA : Hid ((keyL a.kv).length = an) := la
          clear la lb
          go_wp2_with fail
          refine (text_any w5 _ _ (by omega) (by omega)).mono ?_
          rintro e w6 ⟨rfl, C⟩
          rw [sea, seb, HC.out]
          have B6 := B5.trans (C.mono (by have := B5.size; have := HN.out; omega))
          have a6 := a5.keep C
          have b6 := b5.keep C
          have Ua := Ta.below C
          have Ub := Sb.below C
          clear C ca cb sa sz sea seb Ta Sb a5 b5 B5 HC
          by_cases ll : an < bn
          · have il : (an : Int) < (bn : Int) := by omega
            have ib : (an : Int) ≤ (bn : Int) := by omega
            have ic : (an : Int) ≤ (bc : Int) := by omega
            obtain ⟨b1, off1, rfl, -⟩ := Ub.at (by omega)
            have Uc : Sl w6 (some ⟨b1, off1, none⟩) an bc ((keyL b.kv).take an) := Ub.take an (by omega)
            go_wp2_with fail
            refine (rsame_below w6 _ _ _ _ _ _ _ _ Ua Uc).mono ?_
            rintro e w7 ⟨rfl, C⟩
            have hd : decide (keyL a.kv = (keyL b.kv).take an) = false := decide_eq_false fun h => by
              have := HP.out (by rw [h]; exact List.take_prefix _ _)
              omega
            rw [hd]
            have B7 := B6.trans (C.mono (by have := B6.size; have := HN.out; omega))
            have a7 := a6.keep C
            have b7 := b6.keep C
            clear C hd HP HLA Ua Ub Uc a6 b6 B6
            have ea0 := a7.c0
            have eb0 := b7.c0
            have ea1 := a7.c1
            have eb1 := b7.c1
            have ea2 := a7.c2
            have eb2 := b7.c2
            have ea3 := a7.c3
            have eb3 := b7.c3
            go_wp2_with fail
            refine (pcmp_any w7 a b).mono ?_
            rintro e wx ⟨rfl, C⟩
            have Bx := B7.trans (C.mono (by have := B7.size; have := HN.out; omega))
            have ax := a7.keep C
            have bx := b7.keep C
            clear C ea0 ea1 ea2 ea3 eb0 eb1 eb2 eb3
            have ea0 := ax.c0
            have eb0 := bx.c0
            have ea1 := ax.c1
            have eb1 := bx.c1
            have ea2 := ax.c2
            have eb2 := bx.c2
            have ea3 := ax.c3
            have eb3 := bx.c3
            have HZ : Hid (cmpK a.kv b.kv = 0 ↔ a = b) := ⟨fun h => KA.kv_inj ((cmpK_zero _ _).1 h), fun h => (cmpK_zero _ _).2 (by rw [h])⟩
            obtain ⟨c, hc⟩ : ∃ c, c = cmpK a.kv b.kv := ⟨_, rfl⟩
            rw [← hc] at HZ ⊢
            clear hc
            by_cases e1 : a.row = b.row
            · by_cases e2 : a.fam = b.fam
              · by_cases e3 : a.qual = b.qual
                · by_cases e4 : a.time = b.time
                  · have hc0 : c = 0 := HZ.out.2 (by cases a; cases b; simp_all)
                    subst hc0
                    have t1 : (a.row.toList == b.row.toList) = true := by rw [e1]; simp
                    have t2 : (a.fam.toList == b.fam.toList) = true := by rw [e2]; simp
                    have t3 : (a.qual.toList == b.qual.toList) = true := by rw [e3]; simp
                    have t4 : ((a.time : Int) == (b.time : Int)) = true := by rw [e4]; simp
                    clear e1 e2 e3 e4 HZ
                    go_wp2_with fail
                    refine (alive_any _).mono ?_
                    rintro e wz ⟨rfl, Cz⟩
                    have Bz := Bx.trans (Cz.mono (by have := Bx.size; have := HN.out; omega))
                    go_wp2
                    go_ret
                    exact ⟨rfl, by rw [← HN.out]; exact Bz⟩
                  · have hc0 : c ≠ 0 := fun h => by have := HZ.out.1 h; subst this; exact e4 rfl
                    have hc1 : (c == 0) = false := by simp [hc0]
                    have t1 : (a.row.toList == b.row.toList) = true := by rw [e1]; simp
                    have t2 : (a.fam.toList == b.fam.toList) = true := by rw [e2]; simp
                    have t3 : (a.qual.toList == b.qual.toList) = true := by rw [e3]; simp
                    have t4 : ((a.time : Int) == (b.time : Int)) = false := by simp; omega
                    clear e1 e2 e3 e4 HZ hc0
                    go_wp2_with fail
                    refine (alive_any _).mono ?_
                    rintro e wz ⟨rfl, Cz⟩
                    have Bz := Bx.trans (Cz.mono (by have := Bx.size; have := HN.out; omega))
                    go_wp2
                    go_ret
                    exact ⟨rfl, by rw [← HN.out]; exact Bz⟩
                · have hc0 : c ≠ 0 := fun h => by have := HZ.out.1 h; subst this; exact e3 rfl
                  have hc1 : (c == 0) = false := by simp [hc0]
                  have t1 : (a.row.toList == b.row.toList) = true := by rw [e1]; simp
                  have t2 : (a.fam.toList == b.fam.toList) = true := by rw [e2]; simp
                  have t3 := toL_ne e3
                  clear e1 e2 e3 HZ hc0
                  go_wp2_with fail
                  refine (alive_any _).mono ?_
                  rintro e wz ⟨rfl, Cz⟩
                  have Bz := Bx.trans (Cz.mono (by have := Bx.size; have := HN.out; omega))
                  go_wp2
                  go_ret
                  exact ⟨rfl, by rw [← HN.out]; exact Bz⟩
              · have hc0 : c ≠ 0 := fun h => by have := HZ.out.1 h; subst this; exact e2 rfl
                have hc1 : (c == 0) = false := by simp [hc0]
                have t1 : (a.row.toList == b.row.toList) = true := by rw [e1]; simp
                have t2 := toL_ne e2
                clear e1 e2 HZ hc0
                go_wp2_with fail
                refine (alive_any _).mono ?_
                rintro e wz ⟨rfl, Cz⟩
                have Bz := Bx.trans (Cz.mono (by have := Bx.size; have := HN.out; omega))
                go_wp2
                go_ret
                exact ⟨rfl, by rw [← HN.out]; exact Bz⟩
            · have hc0 : c ≠ 0 := fun h => by have := HZ.out.1 h; subst this; exact e1 rfl
              have hc1 : (c == 0) = false := by simp [hc0]
              have t1 := toL_ne e1
              clear e1 HZ hc0
              go_wp2_with fail
              refine (alive_any _).mono ?_
              rintro e wz ⟨rfl, Cz⟩
              have Bz := Bx.trans (Cz.mono (by have := Bx.size; have := HN.out; omega))
              go_wp2
              go_ret
              exact ⟨rfl, by rw [← HN.out]; exact Bz⟩
          · have il : ¬ (an : Int) < (bn : Int) := by omega
            have id : decide ((an : Int) < (bn : Int)) = false := decide_eq_false il
            clear HP HLA Ua Ub
            have ea0 := a6.c0
            have eb0 := b6.c0
            have ea1 := a6.c1
            have eb1 := b6.c1
            have ea2 := a6.c2
            have eb2 := b6.c2
            have ea3 := a6.c3
            have eb3 := b6.c3
            go_wp2_with fail
            refine (pcmp_any w6 a b).mono ?_
            rintro e wx ⟨rfl, C⟩
            have Bx := B6.trans (C.mono (by have := B6.size; have := HN.out; omega))
            have ax := a6.keep C
            have bx := b6.keep C
            clear C ea0 ea1 ea2 ea3 eb0 eb1 eb2 eb3
            have ea0 := ax.c0
            have eb0 := bx.c0
            have ea1 := ax.c1
            have eb1 := bx.c1
            have ea2 := ax.c2
            have eb2 := bx.c2
            have ea3 := ax.c3
            have eb3 := bx.c3
            have HZ : Hid (cmpK a.kv b.kv = 0 ↔ a = b) := ⟨fun h => KA.kv_inj ((cmpK_zero _ _).1 h), fun h => (cmpK_zero _ _).2 (by rw [h])⟩
            obtain ⟨c, hc⟩ : ∃ c, c = cmpK a.kv b.kv := ⟨_, rfl⟩
            rw [← hc] at HZ ⊢
            clear hc
            by_cases e1 : a.row = b.row
            · by_cases e2 : a.fam = b.fam
              · by_cases e3 : a.qual = b.qual
                · by_cases e4 : a.time = b.time
                  · have hc0 : c = 0 := HZ.out.2 (by cases a; cases b; simp_all)
                    subst hc0
                    have t1 : (a.row.toList == b.row.toList) = true := by rw [e1]; simp
                    have t2 : (a.fam.toList == b.fam.toList) = true := by rw [e2]; simp
                    have t3 : (a.qual.toList == b.qual.toList) = true := by rw [e3]; simp
                    have t4 : ((a.time : Int) == (b.time : Int)) = true := by rw [e4]; simp
                    clear e1 e2 e3 e4 HZ
                    go_wp2_with fail
                    refine (alive_any _).mono ?_
                    rintro e wz ⟨rfl, Cz⟩
                    have Bz := Bx.trans (Cz.mono (by have := Bx.size; have := HN.out; omega))
                    go_wp2
                    go_ret
                    exact ⟨rfl, by rw [← HN.out]; exact Bz⟩
                  · have hc0 : c ≠ 0 := fun h => by have := HZ.out.1 h; subst this; exact e4 rfl
                    have hc1 : (c == 0) = false := by simp [hc0]
                    have t1 : (a.row.toList == b.row.toList) = true := by rw [e1]; simp
                    have t2 : (a.fam.toList == b.fam.toList) = true := by rw [e2]; simp
                    have t3 : (a.qual.toList == b.qual.toList) = true := by rw [e3]; simp
                    have t4 : ((a.time : Int) == (b.time : Int)) = false := by simp; omega
                    clear e1 e2 e3 e4 HZ hc0
                    go_wp2_with fail
                    refine (alive_any _).mono ?_
                    rintro e wz ⟨rfl, Cz⟩
                    have Bz := Bx.trans (Cz.mono (by have := Bx.size; have := HN.out; omega))
                    go_wp2
                    go_ret
                    exact ⟨rfl, by rw [← HN.out]; exact Bz⟩
                · have hc0 : c ≠ 0 := fun h => by have := HZ.out.1 h; subst this; exact e3 rfl
                  have hc1 : (c == 0) = false := by simp [hc0]
                  have t1 : (a.row.toList == b.row.toList) = true := by rw [e1]; simp
                  have t2 : (a.fam.toList == b.fam.toList) = true := by rw [e2]; simp
                  have t3 := toL_ne e3
                  clear e1 e2 e3 HZ hc0
                  go_wp2_with fail
                  refine (alive_any _).mono ?_
                  rintro e wz ⟨rfl, Cz⟩
                  have Bz := Bx.trans (Cz.mono (by have := Bx.size; have := HN.out; omega))
                  go_wp2
                  go_ret
                  exact ⟨rfl, by rw [← HN.out]; exact Bz⟩
              · have hc0 : c ≠ 0 := fun h => by have := HZ.out.1 h; subst this; exact e2 rfl
                have hc1 : (c == 0) = false := by simp [hc0]
                have t1 : (a.row.toList == b.row.toList) = true := by rw [e1]; simp
                have t2 := toL_ne e2
                clear e1 e2 HZ hc0
                go_wp2_with fail
                refine (alive_any _).mono ?_
                rintro e wz ⟨rfl, Cz⟩
                have Bz := Bx.trans (Cz.mono (by have := Bx.size; have := HN.out; omega))
                go_wp2
                go_ret
                exact ⟨rfl, by rw [← HN.out]; exact Bz⟩
            · have hc0 : c ≠ 0 := fun h => by have := HZ.out.1 h; subst this; exact e1 rfl
              have hc1 : (c == 0) = false := by simp [hc0]
              have t1 := toL_ne e1
              clear e1 HZ hc0
              go_wp2_with fail
              refine (alive_any _).mono ?_
              rintro e wz ⟨rfl, Cz⟩
              have Bz := Bx.trans (Cz.mono (by have := Bx.size; have := HN.out; omega))
              go_wp2
              go_ret
              exact ⟨rfl, by rw [← HN.out]; exact Bz⟩
        · have rb : b.isRight = false := by simpa using rb
          have ea0 := a3.c0
          have ea1 := a3.c1
          have ea2 := a3.c2
          have ea3 := a3.c3
          go_wp2_with fail
          refine (pbytes_any w3 a oka ra).mono ?_
          rintro e w4 ⟨ao, an, ac, rfl, Sa, C⟩
          clear ea0 ea1 ea2 ea3
          have B4 := B3.trans (C.mono (by have := B3.size; have := HN.out; omega))
          have a4 := a3.keep C
          have b4 := b3.keep C
          clear C
          have eb0 := b4.c0
          have eb1 := b4.c1
          have eb2 := b4.c2
          have eb3 := b4.c3
          go_wp2_with fail
          refine (pbytes_bad w4 b rb).mono ?_
          rintro e w5 ⟨rfl, C⟩
          clear eb0 eb1 eb2 eb3
          have B5 := B4.trans (C.mono (by have := B4.size; have := HN.out; omega))
          have b5 := b4.keep C
          go_wp2_with fail
          refine (alive_any _).mono ?_
          rintro e wz ⟨rfl, Cz⟩
          have Bz := B5.trans (Cz.mono (by have := B5.size; have := HN.out; omega))
          go_wp2
          go_ret
          exact ⟨rfl, by rw [← HN.out]; exact Bz⟩
      · have ra : a.isRight = false := by simpa using ra
        have ea0 := a3.c0
        have ea1 := a3.c1
        have ea2 := a3.c2
        have ea3 := a3.c3
        go_wp2_with fail
        refine (pbytes_bad w3 a ra).mono ?_
        rintro e w4 ⟨rfl, C⟩
        clear ea0 ea1 ea2 ea3
        have B4 := B3.trans (C.mono (by have := B3.size; have := HN.out; omega))
        have a4 := a3.keep C
        have b4 := b3.keep C
        clear C
        by_cases rb : b.isRight = true
        · have eb0 := b4.c0
          have eb1 := b4.c1
          have eb2 := b4.c2
          have eb3 := b4.c3
          go_wp2_with fail
          refine (pbytes_any w4 b okb rb).mono ?_
          rintro e w5 ⟨bo, bn, bc, rfl, Sb, C⟩
          clear eb0 eb1 eb2 eb3
          have B5 := B4.trans (C.mono (by have := B4.size; have := HN.out; omega))
          have b5 := b4.keep C
          go_wp2_with fail
          refine (alive_any _).mono ?_
          rintro e wz ⟨rfl, Cz⟩
          have Bz := B5.trans (Cz.mono (by have := B5.size; have := HN.out; omega))
          go_wp2
          go_ret
          exact ⟨rfl, by rw [← HN.out]; exact Bz⟩
        · have rb : b.isRight = false := by simpa using rb
          have eb0 := b4.c0
          have eb1 := b4.c1
          have eb2 := b4.c2
          have eb3 := b4.c3
          go_wp2_with fail
          refine (pbytes_bad w4 b rb).mono ?_
          rintro e w5 ⟨rfl, C⟩
          clear eb0 eb1 eb2 eb3
          have B5 := B4.trans (C.mono (by have := B4.size; have := HN.out; omega))
          have b5 := b4.keep C
          go_wp2_with fail
          refine (alive_any _).mono ?_
          rintro e wz ⟨rfl, Cz⟩
          have Bz := B5.trans (Cz.mono (by have := B5.size; have := HN.out; omega))
          go_wp2
          go_ret
          exact ⟨rfl, by rw [← HN.out]; exact Bz⟩
    · have hl' : b.light = false := by simpa using hlb
      rw [hl']
      go_wp2_with fail
      refine (alive_any _).mono ?_
      rintro e wz ⟨rfl, Cz⟩
      have Bz := B3.trans (Cz.mono (by have := B3.size; have := HN.out; omega))
      go_wp2
      go_ret
      exact ⟨rfl, by rw [← HN.out]; exact Bz⟩
  · have hl' : a.light = false := by simpa using hla
    rw [hl']
    go_wp2_with fail
    refine (alive_any _).mono ?_
    rintro e wz ⟨rfl, Cz⟩
    have Bz := B2.trans (Cz.mono (by have := B2.size; have := HN.out; omega))
    go_wp2
    go_ret
    exact ⟨rfl, by rw [← HN.out]; exact Bz⟩
end Go.Proofs.Ytepkjnklapamjaa

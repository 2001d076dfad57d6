/-
  The reference's Mac.
-/
import Derived.Test.YtbcjhlfpgoghfaaDoorRSum
import Derived.Maps.AppendAt
namespace Go.Proofs.YtbcjhlfpgoghfaaDoor
open Go.RowKit

/-- Two rows that a call owns are not one. -/
def Sep (v u : Value) : Prop := v.ownBlock = none ∨ v.ownBlock ≠ u.ownBlock
theorem Sep.symm {v u : Value} (h : Sep v u) : Sep u v := by
  unfold Sep at *
  rcases h with h | h
  · cases hu : u.ownBlock with
    | none => exact .inl rfl
    | some g => exact .inr (by rw [h]; simp)
  · exact .inr (Ne.symm h)

/-- append(out, x...), out the call's own, x whatever slice of bytes, another row of the call's beside it. -/
theorem wpList_app_beside {w : World} {ops : Array Oper} {rest : List Oper} {o : Oper} {a : Act} {Q : Exit → Act → World → Prop} (hgd : o.guard = none) (s x : Operand)
    (ho : o.op = .call { callee := .builtin .append, args := #[s, x], argTypes := #[22, 22] })
    (base : Nat) (v : Value) (n : Nat) (xs : List Int) (hs : a.eval s = v) (hown : w.ownsRow base 5 1 v n (bv xs))
    (u : Value) (nu : Nat) (us : List Int) (hu : w.ownsRow base 5 1 u nu (bv us)) (hne : Sep v u)
    (bo : Option Addr) (m c : Nat) (ys : List Int) (hx : a.eval x = .slice bo m c) (hsl : Sl w bo m c ys) (hb : n + m ≤ 140737488355328) (hbase : base ≤ w.heap.size)
    (h : ∀ v' w', w'.ownsRow base 5 1 v' (n + m) (bv (xs ++ ys)) → w'.ownsRow base 5 1 u nu (bv us) → Sep v' u → Below base w w' → wpList Tryd.prog ops Q rest (a.put o.dst v') w') : wpList Tryd.prog ops Q (o :: rest) a w := by
  obtain ⟨i0, hi, hz0, hz1, hz2⟩ := info_parts u8info
  cases bo with
  | some ad =>
    refine wpList_append_own_at w hgd s x 22 ho base 5 i0 (.int .u8 0) 1 1 Tryd.underlying22 hi hz0 hz1 hz2 rfl (by decide) v n (bv xs) hs hown ad m c (bv ys) hx (by rw [bv_length, hsl.len, Nat.mul_one]) (hsl.cells ad rfl) (bv_one ys) (by unfold maxLen; omega) (by omega) hbase ?_
    intro v' w' h1 h2 _ h4
    rw [← bv_append] at h1
    refine h v' w' h1 (hu.kept h2 hne.symm) ?_ ((Below.refl _ w).grown h2 hbase (fun k hk => (hown.lt k hk).1))
    rcases h4 with h4 | h4
    · unfold Sep
      rw [h4]
      exact hne
    · refine .inr ?_
      rw [h4]
      intro e
      have := (hu.lt _ e.symm).2
      omega
  | none =>
    obtain ⟨rfl, rfl⟩ := hsl.nil rfl
    obtain rfl : ys = [] := List.eq_nil_of_length_eq_zero hsl.len
    refine wpList_append_own_none hgd s x 22 ho base 5 i0 1 Tryd.underlying22 hi v n (bv xs) hs hown hx ?_
    exact h v w (by simpa using hown) hu hne (Below.refl _ _)

theorem maskL_take (key : List Int) (m : Int) (k : Nat) (h : k < 64) : (maskL key m).take k ++ [x8 (key.getD k 0) m] = (maskL key m).take (k + 1) := by
  rw [List.take_add_one]
  have : (maskL key m)[k]? = some (x8 (key.getD k 0) m) := by
    simp [maskL, mk, h]
  rw [this]
  rfl
theorem maskL_all (key : List Int) (m : Int) : (maskL key m).take 64 = maskL key m := List.take_of_length_le (by rw [maskL, mk_len]; omega)

set_option maxRecDepth 100000 in
set_option maxHeartbeats 4000000 in
theorem rmac_short (w : World) (ko : Option Addr) (kn kc : Nat) (kk : List Int) (bo : Option Addr) (m c : Nat) (bs : List Int) (hK : Sl w ko kn kc kk) (hB : Sl w bo m c bs) (hn : kn ≤ 64) (hm : m ≤ 90000) :
    Calls Tryd.prog 11 #[.slice ko kn kc, .slice bo m c] w fun e w' => ∃ v, e = .returned v ∧ w'.ownsRow w.heap.size 5 1 v 32 (bv (sumL (maskL kk 92 ++ sumL (maskL kk 54 ++ bs)))) ∧ Below w.heap.size w w' := by
  have hmb := hB.len
  have B1 : Below w.heap.size w w := Below.refl _ _
  have hki0 : (kn : Int) ≤ 64 := by omega
  go_enter Tryd.func11, Tryd.ntmps11
  have hki : (kn : Int) ≤ 64 := by omega
  obtain ⟨b0, hb0⟩ : ∃ b0, b0 = w.heap.size := ⟨_, rfl⟩
  have D1 : Below b0 w w := Below.refl _ _
  go_wp2_with fail
  go_loopw [5, 6, 7] (fun v5 v6 i wr => ∃ k : Nat, k ≤ 64 ∧ i = .int .i64 k ∧ Below b0 w wr ∧ wr.ownsRow b0 5 1 v5 k (bv ((maskL kk 54).take k)) ∧ wr.ownsRow b0 5 1 v6 k (bv ((maskL kk 92).take k)) ∧ Sep v5 v6) (fun _ _ i _ => 64 - (intOf i).toNat)
  case atStart => exact ⟨0, by omega, rfl, D1, World.ownsRow_nil _ _ _ _, World.ownsRow_nil _ _ _ _, .inl rfl⟩
  case round =>
    clear D1
    obtain ⟨k, hk, rfl, D6, own5, own6, sep⟩ := hrel
    have s6 := D6.size
    by_cases hlt : k < 64
    · have hki2 : (k : Int) < 64 := by omega
      by_cases hkn : k < kn
      · have hkni : (k : Int) < (kn : Int) := by omega
        obtain ⟨x, hx⟩ : ∃ x, x = kk.getD k 0 := ⟨_, rfl⟩
        have E54 : Hid (x8 (kk.getD k 0) 54 = x8 x 54) := by rw [hx]; rfl
        have E92 : Hid (x8 (kk.getD k 0) 92 = x8 x 92) := by rw [hx]; rfl
        cases hko : ko with
        | none =>
          have := (hK.nil hko).1
          omega
        | some ka =>
          subst hko
          have c6 := (hK.below (by rw [hb0] at D6; exact D6)).cell ka rfl k hkn
          rw [← hx] at c6
          clear hx
          obtain ⟨kb, kof, ksp⟩ := ka
          skip
          go_wp2_with (first
            | (at_builtin; refine wpList_app_beside rfl (.tmp 26) (.tmp 29) rfl b0 _ k _ rfl (own5.alloc _) _ k _ (own6.alloc _) sep _ 1 1 [x8 x 54] rfl (Sl.new wr [x8 x 54] (by intro y hy; rw [List.mem_singleton.1 hy]; exact x8_byte _ _) (by simp [maxLen])) (by omega) (by simp; omega) ?_; intro v7 w7 own7 own6' sep7 C7; have D7 : Below b0 w w7 := (D6.alloc (by omega) _).trans C7; have s7 := D7.size; clear C7 own5 own6 sep)
            | (at_builtin; refine wpList_app_beside rfl (.tmp 31) (.tmp 34) rfl b0 _ k _ rfl (own6'.alloc _) _ (k + 1) _ (own7.alloc _) sep7.symm _ 1 1 [x8 x 92] rfl (Sl.new w7 [x8 x 92] (by intro y hy; rw [List.mem_singleton.1 hy]; exact x8_byte _ _) (by simp [maxLen])) (by omega) (by simp; omega) ?_; intro v8 w8 own8 own7' sep8 C8; have D8 : Below b0 w w8 := (D7.alloc (by omega) _).trans C8; clear C8))
          go_roundw
          case rel =>
            refine ⟨k + 1, by omega, by go_num, D8, ?_, ?_, sep8.symm⟩
            · rw [← maskL_take kk 54 k hlt, E54.out]
              exact own7'
            · rw [← maskL_take kk 92 k hlt, E92.out]
              exact own8
          case measure => simp [intOf]; omega
      · have hkni : (kn : Int) ≤ (k : Int) := by omega
        have E54 : Hid (x8 (kk.getD k 0) 54 = 54) := by
          have : kk.getD k 0 = 0 := by rw [List.getD, List.getElem?_eq_none (by rw [hK.len]; omega)]; rfl
          rw [this]
          exact (by decide : x8 0 54 = 54)
        have E92 : Hid (x8 (kk.getD k 0) 92 = 92) := by
          have : kk.getD k 0 = 0 := by rw [List.getD, List.getElem?_eq_none (by rw [hK.len]; omega)]; rfl
          rw [this]
          exact (by decide : x8 0 92 = 92)
        next =>
          go_wp2_with (first
            | (at_builtin; refine wpList_app_beside rfl (.tmp 26) (.tmp 29) rfl b0 _ k _ rfl (own5.alloc _) _ k _ (own6.alloc _) sep _ 1 1 [54] rfl (Sl.new wr [54] (by intro y hy; rw [List.mem_singleton.1 hy]; omega) (by simp [maxLen])) (by omega) (by simp; omega) ?_; intro v7 w7 own7 own6' sep7 C7; have D7 : Below b0 w w7 := (D6.alloc (by omega) _).trans C7; have s7 := D7.size; clear C7 own5 own6 sep)
            | (at_builtin; refine wpList_app_beside rfl (.tmp 31) (.tmp 34) rfl b0 _ k _ rfl (own6'.alloc _) _ (k + 1) _ (own7.alloc _) sep7.symm _ 1 1 [92] rfl (Sl.new w7 [92] (by intro y hy; rw [List.mem_singleton.1 hy]; omega) (by simp [maxLen])) (by omega) (by simp; omega) ?_; intro v8 w8 own8 own7' sep8 C8; have D8 : Below b0 w w8 := (D7.alloc (by omega) _).trans C8; clear C8))
          go_roundw
          case rel =>
            refine ⟨k + 1, by omega, by go_num, D8, ?_, ?_, sep8.symm⟩
            · rw [← maskL_take kk 54 k hlt, E54.out]
              exact own7'
            · rw [← maskL_take kk 92 k hlt, E92.out]
              exact own8
          case measure => simp [intOf]; omega
    · obtain rfl : k = 64 := by omega
      rw [maskL_all] at own5 own6
      have hm5 := maskL_byte kk 54
      have hm9 := maskL_byte kk 92
      obtain ⟨m5, em5⟩ : ∃ m5, m5 = maskL kk 54 := ⟨_, rfl⟩
      obtain ⟨m9, em9⟩ : ∃ m9, m9 = maskL kk 92 := ⟨_, rfl⟩
      have HM5 : Hid (m5 = maskL kk 54) := em5
      have HM9 : Hid (m9 = maskL kk 92) := em9
      rw [← em5] at own5 hm5
      rw [← em9] at own6 hm9
      clear em5 em9
      go_wp2_with (first
        | (at_builtin; refine wpList_app_beside rfl (.tmp 37) (.tmp 38) rfl b0 _ 64 _ rfl own5 _ 64 _ own6 sep _ m c bs rfl ((hB.below B1).below (by rw [hb0] at D6; exact D6)) (by omega) (by omega) ?_; intro v7 w7 own7 own6' sep7 C7; have D7 : Below b0 w w7 := D6.trans C7; have s7 := D7.size; obtain ⟨io, icap, rfl, S7, -⟩ := Sl.own own7 (hm5.append hB.byte); clear C7 own5 own6 sep own7)
        | (go_at_call 8; refine (rsum_any w7 io (64 + m) icap _ S7 (by omega)).mono ?_; rintro e w8 ⟨v8, rfl, own8, C8⟩; obtain ⟨jo, jcap, rfl, S8, -⟩ := Sl.own own8 (sumL_byte _); have D8 : Below b0 w w8 := D7.trans (C8.mono (by omega)); have s8 := D8.size; have own6'' := own6'.kept (bel_grown C8 none) (by cases hv : Value.ownBlock _ <;> simp); clear C8 own6' S7 own8)
        | (at_builtin; refine wpList_app rfl (.tmp 36) (.tmp 40) rfl b0 _ 64 _ rfl own6'' _ 32 jcap _ rfl S8 (by omega) (by omega) ?_; intro v9 w9 own9 C9; obtain ⟨po, pcap, rfl, S9, -⟩ := Sl.own own9 (hm9.append (sumL_byte _)); have D9 : Below b0 w w9 := D8.trans C9; have s9 := D9.size; clear C9 own6'' own9 S8))
      refine (rsum_any w9 po (64 + 32) pcap _ S9 (by omega)).mono ?_
      rintro e w10 ⟨v10, rfl, own10, C10⟩
      have D10 : Below b0 w w10 := D9.trans (C10.mono (by omega))
      have t1 := B1.size
      go_wp2
      go_ret
      refine ⟨_, rfl, ?_, B1.trans (D10.mono (by omega))⟩
      rw [← HM5.out, ← HM9.out]
      exact own_base own10 (by omega)

set_option maxRecDepth 100000 in
set_option maxHeartbeats 4000000 in
theorem rmac_long (w : World) (ao : Option Addr) (n cap : Nat) (key : List Int) (bo : Option Addr) (m c : Nat) (bs : List Int) (hS : Sl w ao n cap key) (hB : Sl w bo m c bs) (hn : 64 < n) (hn2 : n ≤ 90000) (hm : m ≤ 90000) :
    Calls Tryd.prog 11 #[.slice ao n cap, .slice bo m c] w fun e w' => ∃ v, e = .returned v ∧ w'.ownsRow w.heap.size 5 1 v 32 (bv (sumL (maskL (sumL key) 92 ++ sumL (maskL (sumL key) 54 ++ bs)))) ∧ Below w.heap.size w w' := by
  have hmb := hB.len
  have hni : (64 : Int) < (n : Int) := by omega
  go_enter Tryd.func11, Tryd.ntmps11
  go_wp2_with (go_at_call 8; refine (rsum_any w ao n cap key hS (by omega)).mono ?_; rintro e w1 ⟨v1, rfl, own1, B1⟩)
  obtain ⟨ko, kc, rfl, hK, -⟩ := Sl.own own1 (sumL_byte _)
  clear own1
  obtain ⟨kk, ekk⟩ : ∃ kk, kk = sumL key := ⟨_, rfl⟩
  have HKK : Hid (kk = sumL key) := ekk
  rw [← ekk] at hK
  clear ekk
  have hki : (32 : Int) ≤ 64 := by omega
  obtain ⟨b0, hb0⟩ : ∃ b0, b0 = w1.heap.size := ⟨_, rfl⟩
  have D1 : Below b0 w1 w1 := Below.refl _ _
  go_wp2_with fail
  go_loopw [5, 6, 7] (fun v5 v6 i wr => ∃ k : Nat, k ≤ 64 ∧ i = .int .i64 k ∧ Below b0 w1 wr ∧ wr.ownsRow b0 5 1 v5 k (bv ((maskL kk 54).take k)) ∧ wr.ownsRow b0 5 1 v6 k (bv ((maskL kk 92).take k)) ∧ Sep v5 v6) (fun _ _ i _ => 64 - (intOf i).toNat)
  case atStart => exact ⟨0, by omega, rfl, D1, World.ownsRow_nil _ _ _ _, World.ownsRow_nil _ _ _ _, .inl rfl⟩
  case round =>
    clear D1
    obtain ⟨k, hk, rfl, D6, own5, own6, sep⟩ := hrel
    have s6 := D6.size
    by_cases hlt : k < 64
    · have hki2 : (k : Int) < 64 := by omega
      by_cases hkn : k < 32
      · have hkni : (k : Int) < (32 : Int) := by omega
        obtain ⟨x, hx⟩ : ∃ x, x = kk.getD k 0 := ⟨_, rfl⟩
        have E54 : Hid (x8 (kk.getD k 0) 54 = x8 x 54) := by rw [hx]; rfl
        have E92 : Hid (x8 (kk.getD k 0) 92 = x8 x 92) := by rw [hx]; rfl
        cases hko : ko with
        | none =>
          have := (hK.nil hko).1
          omega
        | some ka =>
          subst hko
          have c6 := (hK.below (by rw [hb0] at D6; exact D6)).cell ka rfl k hkn
          rw [← hx] at c6
          clear hx
          obtain ⟨kb, kof, ksp⟩ := ka
          skip
          go_wp2_with (first
            | (at_builtin; refine wpList_app_beside rfl (.tmp 26) (.tmp 29) rfl b0 _ k _ rfl (own5.alloc _) _ k _ (own6.alloc _) sep _ 1 1 [x8 x 54] rfl (Sl.new wr [x8 x 54] (by intro y hy; rw [List.mem_singleton.1 hy]; exact x8_byte _ _) (by simp [maxLen])) (by omega) (by simp; omega) ?_; intro v7 w7 own7 own6' sep7 C7; have D7 : Below b0 w1 w7 := (D6.alloc (by omega) _).trans C7; have s7 := D7.size; clear C7 own5 own6 sep)
            | (at_builtin; refine wpList_app_beside rfl (.tmp 31) (.tmp 34) rfl b0 _ k _ rfl (own6'.alloc _) _ (k + 1) _ (own7.alloc _) sep7.symm _ 1 1 [x8 x 92] rfl (Sl.new w7 [x8 x 92] (by intro y hy; rw [List.mem_singleton.1 hy]; exact x8_byte _ _) (by simp [maxLen])) (by omega) (by simp; omega) ?_; intro v8 w8 own8 own7' sep8 C8; have D8 : Below b0 w1 w8 := (D7.alloc (by omega) _).trans C8; clear C8))
          go_roundw
          case rel =>
            refine ⟨k + 1, by omega, by go_num, D8, ?_, ?_, sep8.symm⟩
            · rw [← maskL_take kk 54 k hlt, E54.out]
              exact own7'
            · rw [← maskL_take kk 92 k hlt, E92.out]
              exact own8
          case measure => simp [intOf]; omega
      · have hkni : (32 : Int) ≤ (k : Int) := by omega
        have E54 : Hid (x8 (kk.getD k 0) 54 = 54) := by
          have : kk.getD k 0 = 0 := by rw [List.getD, List.getElem?_eq_none (by rw [hK.len]; omega)]; rfl
          rw [this]
          exact (by decide : x8 0 54 = 54)
        have E92 : Hid (x8 (kk.getD k 0) 92 = 92) := by
          have : kk.getD k 0 = 0 := by rw [List.getD, List.getElem?_eq_none (by rw [hK.len]; omega)]; rfl
          rw [this]
          exact (by decide : x8 0 92 = 92)
        next =>
          go_wp2_with (first
            | (at_builtin; refine wpList_app_beside rfl (.tmp 26) (.tmp 29) rfl b0 _ k _ rfl (own5.alloc _) _ k _ (own6.alloc _) sep _ 1 1 [54] rfl (Sl.new wr [54] (by intro y hy; rw [List.mem_singleton.1 hy]; omega) (by simp [maxLen])) (by omega) (by simp; omega) ?_; intro v7 w7 own7 own6' sep7 C7; have D7 : Below b0 w1 w7 := (D6.alloc (by omega) _).trans C7; have s7 := D7.size; clear C7 own5 own6 sep)
            | (at_builtin; refine wpList_app_beside rfl (.tmp 31) (.tmp 34) rfl b0 _ k _ rfl (own6'.alloc _) _ (k + 1) _ (own7.alloc _) sep7.symm _ 1 1 [92] rfl (Sl.new w7 [92] (by intro y hy; rw [List.mem_singleton.1 hy]; omega) (by simp [maxLen])) (by omega) (by simp; omega) ?_; intro v8 w8 own8 own7' sep8 C8; have D8 : Below b0 w1 w8 := (D7.alloc (by omega) _).trans C8; clear C8))
          go_roundw
          case rel =>
            refine ⟨k + 1, by omega, by go_num, D8, ?_, ?_, sep8.symm⟩
            · rw [← maskL_take kk 54 k hlt, E54.out]
              exact own7'
            · rw [← maskL_take kk 92 k hlt, E92.out]
              exact own8
          case measure => simp [intOf]; omega
    · obtain rfl : k = 64 := by omega
      rw [maskL_all] at own5 own6
      have hm5 := maskL_byte kk 54
      have hm9 := maskL_byte kk 92
      obtain ⟨m5, em5⟩ : ∃ m5, m5 = maskL kk 54 := ⟨_, rfl⟩
      obtain ⟨m9, em9⟩ : ∃ m9, m9 = maskL kk 92 := ⟨_, rfl⟩
      have HM5 : Hid (m5 = maskL kk 54) := em5
      have HM9 : Hid (m9 = maskL kk 92) := em9
      rw [← em5] at own5 hm5
      rw [← em9] at own6 hm9
      clear em5 em9
      go_wp2_with (first
        | (at_builtin; refine wpList_app_beside rfl (.tmp 37) (.tmp 38) rfl b0 _ 64 _ rfl own5 _ 64 _ own6 sep _ m c bs rfl ((hB.below B1).below (by rw [hb0] at D6; exact D6)) (by omega) (by omega) ?_; intro v7 w7 own7 own6' sep7 C7; have D7 : Below b0 w1 w7 := D6.trans C7; have s7 := D7.size; obtain ⟨io, icap, rfl, S7, -⟩ := Sl.own own7 (hm5.append hB.byte); clear C7 own5 own6 sep own7)
        | (go_at_call 8; refine (rsum_any w7 io (64 + m) icap _ S7 (by omega)).mono ?_; rintro e w8 ⟨v8, rfl, own8, C8⟩; obtain ⟨jo, jcap, rfl, S8, -⟩ := Sl.own own8 (sumL_byte _); have D8 : Below b0 w1 w8 := D7.trans (C8.mono (by omega)); have s8 := D8.size; have own6'' := own6'.kept (bel_grown C8 none) (by cases hv : Value.ownBlock _ <;> simp); clear C8 own6' S7 own8)
        | (at_builtin; refine wpList_app rfl (.tmp 36) (.tmp 40) rfl b0 _ 64 _ rfl own6'' _ 32 jcap _ rfl S8 (by omega) (by omega) ?_; intro v9 w9 own9 C9; obtain ⟨po, pcap, rfl, S9, -⟩ := Sl.own own9 (hm9.append (sumL_byte _)); have D9 : Below b0 w1 w9 := D8.trans C9; have s9 := D9.size; clear C9 own6'' own9 S8))
      refine (rsum_any w9 po (64 + 32) pcap _ S9 (by omega)).mono ?_
      rintro e w10 ⟨v10, rfl, own10, C10⟩
      have D10 : Below b0 w1 w10 := D9.trans (C10.mono (by omega))
      have t1 := B1.size
      go_wp2
      go_ret
      refine ⟨_, rfl, ?_, B1.trans (D10.mono (by omega))⟩
      rw [← HKK.out, ← HM5.out, ← HM9.out]
      exact own_base own10 (by omega)

theorem rmac_any (w : World) (ao : Option Addr) (n cap : Nat) (key : List Int) (bo : Option Addr) (m c : Nat) (bs : List Int) (hS : Sl w ao n cap key) (hB : Sl w bo m c bs) (hn : n ≤ 90000) (hm : m ≤ 90000) :
    Calls Tryd.prog 11 #[.slice ao n cap, .slice bo m c] w fun e w' => ∃ v, e = .returned v ∧ w'.ownsRow w.heap.size 5 1 v 32 (bv (macL key bs)) ∧ Below w.heap.size w w' := by
  have hl := hS.len
  unfold macL keyL
  by_cases h : 64 < n
  · rw [if_pos (by omega)]
    exact rmac_long w ao n cap key bo m c bs hS hB h hn hm
  · rw [if_neg (by omega)]
    exact rmac_short w ao n cap key bo m c bs hS hB (by omega) hm

end Go.Proofs.YtbcjhlfpgoghfaaDoor
